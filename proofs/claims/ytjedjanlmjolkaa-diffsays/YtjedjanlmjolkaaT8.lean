/- The contract of diff.Between, and of its closure. -/
import Derived.Test.YtjedjanlmjolkaaE1
import Derived.Test.YtjedjanlmjolkaaT7
namespace Go.Proofs.Ytjedjanlmjolkaa
open Go.RowKit
set_option maxHeartbeats 1000000 in
theorem there_any (g h : Nat) (s t : List Int) (w : World) (hs : s.length = 21) (ht : t.length = 21) (h1 : TabAt w g 46 s) (h2 : TabAt w h 46 t) :
    Calls Try.prog 24 #[.pointer (some ⟨g, 0, none⟩), .pointer (some ⟨h, 0, none⟩)] w fun e w' => e = .returned (.bool (decide (s = t))) ∧ w' = w := by
  have H1 : Hid (TabAt w g 46 s) := h1
  have H2 : Hid (TabAt w h 46 t) := h2
  have HS : Hid (s.length = 21) := hs
  have HT : Hid (t.length = 21) := ht
  have hq := eqlV s t hs ht
  clear h1 h2 hs ht
  go_enter Try.func24, Try.ntmps24
  go_wp2_with (first | (guard_target = wpList _ _ _ (Oper.mk _ (Op.load 46 (.tmp 0)) _ _ _ _ :: _) _ _; refine ldV (t := s) rfl (.tmp 0) rfl g (by rfl) H1.out HS.out ?_) | (guard_target = wpList _ _ _ (Oper.mk _ (Op.load 46 (.tmp 1)) _ _ _ _ :: _) _ _; refine ldV (t := t) rfl (.tmp 1) rfl h (by rfl) H2.out HT.out ?_))
  go_ret
  exact ⟨rfl, rfl⟩
theorem OpsAt.open {w : World} {v : Value} {l : List (Int × Int × Int)} (h : OpsAt w v l) : ∃ A b o c, v = .slice A l.length c ∧ (0 < l.length → A = some ⟨b, o, none⟩ ∧ b < w.heap.size ∧ l.length ≤ c) ∧ ∀ j, j < l.length → w.cell? ⟨b, o + j * 3, none⟩ = some (.int .i64 (l.getD j (0, 0, 0)).1) ∧ w.cell? ⟨b, o + j * 3 + 1, none⟩ = some (.int .i64 (l.getD j (0, 0, 0)).2.1) ∧ w.cell? ⟨b, o + j * 3 + 2, none⟩ = some (.int .i64 (l.getD j (0, 0, 0)).2.2) := by
  obtain ⟨hl, c, ⟨rfl, a, rfl⟩ | ⟨b, o, rfl, hc, hd⟩⟩ := h
  · exact ⟨a, 0, 0, c, rfl, fun h => absurd h (by simp), fun j hj => absurd hj (by simp)⟩
  · exact ⟨_, b, o, c, rfl, fun _ => ⟨rfl, hd.1, hc⟩, hd.2⟩
theorem steps_len (A B : List Int) : (Dk.steps A B).length ≤ 42 := by
  rw [Dk.steps, List.length_append]
  have h1 := Dk.fm_len (Dk.dropAt A B) 21
  have h2 := Dk.fm_len (Dk.restAt A B) 21
  unfold Dk.drops Dk.rests
  omega
theorem after_len (t : List Int) : ∀ os : List (Int × Int × Int), (Dk.after t os).length = t.length := by
  intro os
  induction os generalizing t with
  | nil => rfl
  | cons o r ih => rw [Dk.after, List.foldl_cons]; exact (ih (Dk.putO t o)).trans (Dk.putO_len t o)
theorem orrB (a b l : List (Int × Int)) : orr [Dk.diffErr a b, Lk.chk a, Lk.chk l] = Dk.betweenErr a b l := by
  have e : orr [Dk.diffErr a b, Lk.chk a, Lk.chk l] = if Dk.diffErr a b = 0 then orr [Lk.chk a, Lk.chk l] else Dk.diffErr a b := rfl
  rw [e, Dk.betweenErr, orr2]
  by_cases h : Dk.diffErr a b = 0
  · rw [if_pos h, if_pos h]
    have ha : Lk.chk a = 0 := by
      unfold Dk.diffErr at h
      by_cases ha : Lk.chk a = 0
      · exact ha
      · rw [if_neg ha] at h; exact h
    rw [if_pos ha]
  · rw [if_neg h, if_neg h]
set_option maxHeartbeats 2000000 in
theorem between_bad (v u y : Value) (a b l : List (Int × Int)) (w : World) (hP : PinsAt w v a) (hQ : PinsAt w u b) (hR : PinsAt w y l) (he : Dk.betweenErr a b l ≠ 0) :
    Calls Try.prog 10 #[v, u, y] w fun e w' => e = .returned (.tuple #[.int .i64 0, .int .i64 (Dk.betweenErr a b l)]) ∧ Below w.heap.size w w' := by
  have HE : Hid (orr [Dk.diffErr a b, Lk.chk a, Lk.chk l] = Dk.betweenErr a b l) := orrB a b l
  have HP : Hid (PinsAt w v a) := hP
  have HR : Hid (PinsAt w y l) := hR
  have HC := diff_any v u a b w hP hQ
  have he' : (Dk.betweenErr a b l != 0) = true := by simpa using he
  clear he hR hP hQ
  go_enter Try.func10, Try.ntmps10
  go_wp2_with fail
  refine HC.mono ?_
  rintro e w1 ⟨⟨x, rfl, -⟩, hb1⟩
  have HB1 : Hid (Below w.heap.size w w1) := hb1
  clear hb1 HC
  go_wp2_with fail
  refine (of_any _ _ _ (HP.out.below HB1.out)).mono ?_
  rintro e w2 ⟨rfl, hb2⟩
  have HB2 : Hid (Below w.heap.size w w2) := HB1.out.trans (hb2.mono HB1.out.size)
  have HB3 : Hid (Below w.heap.size w (w2.alloc (.cells (tcells (ofTab a)) 46))) := HB2.out.alloc HB2.out.size _
  clear hb2 HB1 HB2
  go_wp2_with (guard_target = wpList _ _ _ (Oper.mk _ (Op.store 46 (.tmp 10) _) _ _ _ _ :: _) _ _; refine stNV rfl (.tmp 10) (.tmp 27) rfl (by rfl) (ofTab a) (by rfl) (ofTab_len a) ?_)
  refine (of_any _ _ _ (HR.out.below HB3.out)).mono ?_
  rintro e w4 ⟨rfl, hb4⟩
  have HB4 : Hid (Below w.heap.size w w4) := HB3.out.trans (hb4.mono HB3.out.size)
  have HB5 : Hid (Below w.heap.size w (w4.alloc (.cells (tcells (ofTab l)) 46))) := HB4.out.alloc HB4.out.size _
  clear hb4 HB3 HB4
  go_wp2_with (guard_target = wpList _ _ _ (Oper.mk _ (Op.store 46 (.tmp 12) _) _ _ _ _ :: _) _ _; refine stNV rfl (.tmp 12) (.tmp 32) rfl (by rfl) (ofTab l) (by rfl) (ofTab_len l) ?_)
  have HSZ : Hid (w4.heap.size + 1 = (w4.alloc (.cells (tcells (ofTab l)) 46)).heap.size) := (World.size_alloc _ _).symm
  generalize w4.alloc (.cells (tcells (ofTab l)) 46) = w5 at HB5 HSZ
  refine (or_any _ _ [Dk.diffErr a b, Lk.chk a, Lk.chk l] _ (by simp) (cells3_at _ _ _ _ _ _ HSZ.out)).mono ?_
  rintro e w6 ⟨rfl, hb6⟩
  rw [HE.out]
  have HB6 : Hid (Below w.heap.size w w6) := (HB5.out.alloc HB5.out.size _).trans (hb6.mono (by simp only [World.size_alloc]; have := HB5.out.size; omega))
  clear hb6
  go_wp2
  go_ret2
  exact ⟨rfl, HB6.out⟩
set_option maxHeartbeats 4000000 in
theorem between_good (v u y : Value) (a b l : List (Int × Int)) (w : World) (hP : PinsAt w v a) (hQ : PinsAt w u b) (hR : PinsAt w y l) (ha : Lk.chk a = 0) (hl : Lk.chk l = 0) (hd : Dk.diffErr a b = 0) :
    Calls Try.prog 10 #[v, u, y] w fun e w' => e = .returned (.tuple #[.int .i64 (Dk.wayFrom (Dk.tb a) (Dk.tb l) (Dk.steps (Dk.tb a) (Dk.tb b)) 0), .int .i64 0]) ∧ Below w.heap.size w w' := by
  have HC : Hid (Calls Try.prog 8 #[v, u] w fun e w' => (∃ x, e = .returned (.tuple #[x, .int .i64 0]) ∧ OpsAt w' x (Dk.steps (Dk.tb a) (Dk.tb b))) ∧ Below w.heap.size w w') := by
    have := diff_any v u a b w hP hQ
    rw [Dk.diffed, if_pos hd, hd] at this
    exact this
  have HP : Hid (PinsAt w v a) := hP
  have HR : Hid (PinsAt w y l) := hR
  have HA : Hid (Lk.chk a = 0) := ha
  have HL : Hid (Lk.chk l = 0) := hl
  have HE : Hid (orr [(0 : Int), 0, 0] = 0) := rfl
  clear hR hP hQ ha hl hd
  have hsl := steps_len (Dk.tb a) (Dk.tb b)
  have HM : Hid (∀ o ∈ Dk.steps (Dk.tb a) (Dk.tb b), ∃ n : Nat, n < 21 ∧ o.2.1 = n) := fun o ho => by
    obtain ⟨n, hn, e, _⟩ := Dk.mem_steps ho
    exact ⟨n, hn, by rw [e]⟩
  generalize Dk.steps (Dk.tb a) (Dk.tb b) = S at HC hsl HM
  go_enter Try.func10, Try.ntmps10
  go_wp2_with fail
  refine HC.out.mono ?_
  rintro e w1 ⟨⟨x, rfl, hx⟩, hb1⟩
  obtain ⟨A, bs, os, cs, rfl, hS1, hS2⟩ := hx.open
  have HS1 : Hid (0 < S.length → A = some ⟨bs, os, none⟩ ∧ bs < w1.heap.size ∧ S.length ≤ cs) := hS1
  have HS2 : Hid (∀ j, j < S.length → w1.cell? ⟨bs, os + j * 3, none⟩ = some (.int .i64 (S.getD j (0, 0, 0)).1) ∧ w1.cell? ⟨bs, os + j * 3 + 1, none⟩ = some (.int .i64 (S.getD j (0, 0, 0)).2.1) ∧ w1.cell? ⟨bs, os + j * 3 + 2, none⟩ = some (.int .i64 (S.getD j (0, 0, 0)).2.2)) := hS2
  clear hS1 hS2 hx HC
  have HB1 : Hid (Below w.heap.size w w1) := hb1
  have hs1 := hb1.size
  clear hb1
  go_wp2_with fail
  refine (of_good _ _ _ (HP.out.below HB1.out) HA.out).mono ?_
  rintro e w2 ⟨rfl, hb2⟩
  have HB3 : Hid (Below w1.heap.size w1 (w2.alloc (.cells (tcells (Dk.tb a)) 46))) := hb2.alloc hb2.size _
  have h12 : w1.heap.size ≤ w2.heap.size := hb2.size
  clear hb2
  go_wp2_with (guard_target = wpList _ _ _ (Oper.mk _ (Op.store 46 (.tmp 10) _) _ _ _ _ :: _) _ _; refine stNV rfl (.tmp 10) (.tmp 27) rfl (by rfl) (Dk.tb a) (by rfl) (Dk.tb_len a) ?_)
  refine (of_good _ _ _ (HR.out.below (HB1.out.trans (HB3.out.mono hs1))) HL.out).mono ?_
  rintro e w4 ⟨rfl, hb4⟩
  have H14 : Hid (TabAt w4 w2.heap.size 46 (Dk.tb a)) := TabAt.below (heap_alloc_last w2 _) hb4 (by simp)
  have HB4 : Hid (Below w1.heap.size w1 w4) := HB3.out.trans (hb4.mono HB3.out.size)
  have h24 : w2.heap.size < w4.heap.size := H14.out.lt
  clear hb4 HB3
  go_wp2_with (guard_target = wpList _ _ _ (Oper.mk _ (Op.store 46 (.tmp 12) _) _ _ _ _ :: _) _ _; refine stNV rfl (.tmp 12) (.tmp 32) rfl (by rfl) (Dk.tb l) (by rfl) (Dk.tb_len l) ?_)
  have HSZ : Hid (w4.heap.size + 1 = (w4.alloc (.cells (tcells (Dk.tb l)) 46)).heap.size) := (World.size_alloc _ _).symm
  have H15 : Hid (TabAt (w4.alloc (.cells (tcells (Dk.tb l)) 46)) w2.heap.size 46 (Dk.tb a)) := H14.out.alloc _
  have H25 : Hid (TabAt (w4.alloc (.cells (tcells (Dk.tb l)) 46)) w4.heap.size 46 (Dk.tb l)) := heap_alloc_last w4 _
  have HB5 : Hid (Below w1.heap.size w1 (w4.alloc (.cells (tcells (Dk.tb l)) 46))) := HB4.out.alloc HB4.out.size _
  clear H14 HB4
  generalize w4.alloc (.cells (tcells (Dk.tb l)) 46) = w5 at HB5 HSZ H15 H25
  refine (or_any _ _ [(0 : Int), 0, 0] _ (by simp) (cells3_at _ _ _ _ _ _ HSZ.out)).mono ?_
  rintro e w6 ⟨rfl, hb6⟩
  rw [HE.out]
  have hl5 := H25.out.lt
  have H16 : Hid (TabAt w6 w2.heap.size 46 (Dk.tb a)) := (H15.out.alloc _).below hb6 (by simp only [World.size_alloc]; omega)
  have H26 : Hid (TabAt w6 w4.heap.size 46 (Dk.tb l)) := (H25.out.alloc _).below hb6 (by simp only [World.size_alloc]; omega)
  have HB6 : Hid (Below w1.heap.size w1 w6) := (HB5.out.alloc HB5.out.size _).trans (hb6.mono (by simp only [World.size_alloc]; have := HB5.out.size; omega))
  clear hb6 hl5 H15 H25 HB5 HSZ
  generalize w2.heap.size = B1 at H16 h12 h24
  generalize w4.heap.size = B2 at H26 h24
  go_wp2_with fail
  go_loopg [45] S.length (fun g s45 wr => ∃ k : Nat, k ≤ S.length ∧ S.length - k ≤ g ∧ s45 = .int .i64 k ∧ Hid (TabAt wr B1 46 (Dk.after (Dk.tb a) (S.take k))) ∧ Hid (TabAt wr B2 46 (Dk.tb l)) ∧ Hid (Dk.wayFrom (Dk.after (Dk.tb a) (S.take k)) (Dk.tb l) (S.drop k) k = Dk.wayFrom (Dk.tb a) (Dk.tb l) S 0) ∧ Hid (Below w1.heap.size w1 wr))
  case atStart => exact ⟨0, Nat.zero_le _, by omega, rfl, H16, H26, rfl, HB6⟩
  case round =>
    obtain ⟨k, hk, hg, rfl, H1, H2, HY, HW⟩ := hrel
    have hs7 : B1 < wr.heap.size := H1.out.lt
    have hs8 : B2 < wr.heap.size := H2.out.lt
    have hsw : w1.heap.size ≤ wr.heap.size := HW.out.size
    have HTL : Hid ((Dk.after (Dk.tb a) (S.take k)).length = 21) := (after_len _ _).trans (Dk.tb_len a)
    by_cases hlt : k < S.length
    · obtain ⟨rfl, hbs, -⟩ := HS1.out (by omega)
      obtain ⟨g1, g2, g3⟩ := HS2.out k hlt
      rw [← HW.out.cell (p := ⟨bs, _, none⟩) hbs] at g1 g2 g3
      clear HS1
      have HD : Hid (S.drop k = S.getD k (0, 0, 0) :: S.drop (k + 1)) := dropO_getD S k hlt
      have HG : Hid (S[k]? = some (S.getD k (0, 0, 0))) := by rw [List.getD_eq_getElem?_getD, List.getElem?_eq_getElem hlt]; rfl
      obtain ⟨n, hn, hno⟩ := HM.out (S.getD k (0, 0, 0)) (by rw [List.getD_eq_getElem?_getD, List.getElem?_eq_getElem hlt]; exact List.getElem_mem hlt)
      generalize S.getD k (0, 0, 0) = p at g1 g2 g3 HD HG hno
      obtain ⟨q, m, z⟩ := p
      simp only at g1 g2 g3 hno
      subst hno
      have HWA := Dk.after_take (Dk.tb a) S k _ HG.out
      have HWA' : Hid (Dk.after (Dk.tb a) (S.take (k + 1)) = (Dk.after (Dk.tb a) (S.take k)).set n z) := HWA
      clear HWA HG
      generalize Dk.after (Dk.tb a) (S.take k) = T at H1 HY HTL HWA'
      have hth := there_any B1 B2 T (Dk.tb l) (wr.alloc (.cells #[.int .i64 q, .int .i64 n, .int .i64 z] 29)) HTL.out (Dk.tb_len l) (H1.out.alloc _) (H2.out.alloc _)
      by_cases hT : T = Dk.tb l
      · have HYE : Hid (Dk.wayFrom (Dk.tb a) (Dk.tb l) S 0 = k) := by rw [← HY.out, HD.out, Dk.wayFrom, if_pos hT]; rfl
        rw [decide_eq_true hT] at hth
        clear hT
        go_wp2_with fail
        refine hth.mono ?_
        rintro e w6 ⟨rfl, rfl⟩
        go_wp2
        go_ret2
        exact ⟨by rw [HYE.out]; rfl, HB1.out.trans ((HW.out.alloc (by omega) _).mono hs1)⟩
      · have HYE : Hid (Dk.wayFrom (T.set n z) (Dk.tb l) (S.drop (k + 1)) ((k + 1 : Nat) : Int) = Dk.wayFrom (Dk.tb a) (Dk.tb l) S 0) := by
          have := HY.out
          rw [HD.out, Dk.wayFrom, if_neg hT] at this
          exact this
        rw [decide_eq_false hT] at hth
        have hla := lay_any B1 T q n z (wr.alloc (.cells #[.int .i64 q, .int .i64 n, .int .i64 z] 29)) (H1.out.alloc _) HTL.out hn
        clear hT HY
        go_wp2_with fail
        refine hth.mono ?_
        rintro e w6 ⟨rfl, rfl⟩
        go_wp2_with fail
        refine hla.mono ?_
        rintro e w7 ⟨rfl, hw7⟩
        have HT7 : Hid (TabAt w7 B1 46 (Dk.after (Dk.tb a) (S.take (k + 1)))) := by rw [hw7, HWA'.out]; exact (((H1.out.alloc _).set n z).alloc _).drew
        have HT8 : Hid (TabAt w7 B2 46 (Dk.tb l)) := by rw [hw7]; exact (((H2.out.alloc _).other (by simp only [ne_eq]; omega) _).alloc _).drew
        have HW7 : Hid (Below w1.heap.size w1 w7) := by rw [hw7]; exact ((((HW.out.alloc hsw _)).setCell h12 _).alloc (by simp only [World.size_setCell, World.size_alloc]; omega) _).drew
        clear hw7 hla
        go_wp2
        go_roundg (S.length - (k + 1))
        case measure => omega
        case rel => exact ⟨k + 1, by omega, by omega, by go_num, HT7, HT8, by rw [HWA'.out]; exact HYE, HW7⟩
    · have hk' : k = S.length := by omega
      subst hk'
      clear hlt hk
      have hth := there_any B1 B2 (Dk.after (Dk.tb a) (S.take S.length)) (Dk.tb l) wr HTL.out (Dk.tb_len l) H1.out H2.out
      rw [List.drop_length] at HY
      generalize Dk.after (Dk.tb a) (S.take S.length) = T at H1 HY HTL hth
      by_cases hT : T = Dk.tb l
      · have HYE : Hid (Dk.wayFrom (Dk.tb a) (Dk.tb l) S 0 = S.length) := by rw [← HY.out, Dk.wayFrom, if_pos hT]; rfl
        rw [decide_eq_true hT] at hth
        clear hT HY
        go_wp2_with fail
        refine hth.mono ?_
        rintro e w6 ⟨rfl, rfl⟩
        go_wp2
        go_ret2
        exact ⟨by rw [HYE.out]; rfl, HB1.out.trans (HW.out.mono hs1)⟩
      · have HYE : Hid (Dk.wayFrom (Dk.tb a) (Dk.tb l) S 0 = -1) := by rw [← HY.out, Dk.wayFrom, if_neg hT]; rfl
        rw [decide_eq_false hT] at hth
        clear hT HY
        go_wp2_with fail
        refine hth.mono ?_
        rintro e w6 ⟨rfl, rfl⟩
        go_wp2
        go_ret2
        exact ⟨by rw [HYE.out]; rfl, HB1.out.trans (HW.out.mono hs1)⟩
theorem diffErr_ok {a b : List (Int × Int)} (h : Dk.diffErr a b = 0) : Lk.chk a = 0 ∧ Lk.chk b = 0 := by
  unfold Dk.diffErr at h
  by_cases ha : Lk.chk a = 0
  · rw [if_pos ha] at h; exact ⟨ha, h⟩
  · rw [if_neg ha] at h; exact absurd h ha
theorem betweenErr_ok {a b l : List (Int × Int)} (h : Dk.betweenErr a b l = 0) : Dk.diffErr a b = 0 ∧ Lk.chk l = 0 := by
  unfold Dk.betweenErr at h
  by_cases ha : Dk.diffErr a b = 0
  · rw [if_pos ha] at h; exact ⟨ha, h⟩
  · rw [if_neg ha] at h; exact absurd h ha
theorem between_any (v u y : Value) (a b l : List (Int × Int)) (w : World) (hP : PinsAt w v a) (hQ : PinsAt w u b) (hR : PinsAt w y l) :
    Calls Try.prog 10 #[v, u, y] w fun e w' => e = .returned (.tuple #[.int .i64 (Dk.between a b l), .int .i64 (Dk.betweenErr a b l)]) ∧ Below w.heap.size w w' := by
  by_cases h : Dk.betweenErr a b l = 0
  · obtain ⟨h1, h2⟩ := betweenErr_ok h
    rw [Dk.between, if_pos h, h]
    exact between_good v u y a b l w hP hQ hR (diffErr_ok h1).1 h2 h1
  · rw [Dk.between, if_neg h]
    exact between_bad v u y a b l w hP hQ hR h
end Go.Proofs.Ytjedjanlmjolkaa
