/- The contract of the document's OnTheWay. -/
import Derived.Test.YtjedjanlmjolkaaT11
namespace Go.Proofs.Ytjedjanlmjolkaa
open Go.RowKit
theorem drop_all {S : List (Int × Int × Int)} {k : Nat} (h : k = S.length) : S.drop k = [] := List.drop_of_length_le (by omega)
theorem wanted_pos {c : Prop} [Decidable c] {p q : Prop} (hc : c) (h : p) : if c then p else q := by rw [if_pos hc]; exact h
set_option maxHeartbeats 8000000 in
theorem way_good (v u y : Value) (a b l : List (Int × Int)) (w : World) (hP : PinsAt w v a) (hQ : PinsAt w u b) (hR : PinsAt w y l) (hd : Dk.diffErr a b = 0) (ha : Lk.chk a = 0) (hl : Lk.chk l = 0) :
    Calls Try.prog 13 #[v, u, y] w fun e w' => e = .returned (.tuple #[.int .i64 (Dk.wayFrom (Dk.tb a) (Dk.tb l) (Dk.steps (Dk.tb a) (Dk.tb b)) 0), .int .i64 0]) ∧ Below w.heap.size w w' := by
  have HC : Hid (Calls Try.prog 11 #[v, u] w fun e w' => (∃ x, e = .returned (.tuple #[x, .int .i64 0]) ∧ OpsAt w' x (Dk.steps (Dk.tb a) (Dk.tb b))) ∧ Below w.heap.size w w') := by
    have := stepsR_any v u a b w hP hQ
    rw [Dk.diffed, if_pos hd, hd] at this
    exact this
  have HP : Hid (PinsAt w v a) := hP
  have HR : Hid (PinsAt w y l) := hR
  have HA : Hid (Lk.chk a = 0) := ha
  have HL : Hid (Lk.chk l = 0) := hl
  clear hR hP hQ ha hl hd
  have hsl := steps_len (Dk.tb a) (Dk.tb b)
  have HM : Hid (∀ o ∈ Dk.steps (Dk.tb a) (Dk.tb b), ∃ n : Nat, n < 21 ∧ o.2.1 = n) := fun o ho => by
    obtain ⟨n, hn, e, _⟩ := Dk.mem_steps ho
    exact ⟨n, hn, by rw [e]⟩
  generalize Dk.steps (Dk.tb a) (Dk.tb b) = S at HC hsl HM
  go_enter Try.func13, Try.ntmps13
  go_wp2_with fail
  refine HC.out.mono ?_
  rintro e w1 ⟨⟨x, rfl, hx⟩, hb1⟩
  obtain ⟨A, bs, os, cs, rfl, hS1, hS2⟩ := hx.open
  have HS1 : Hid (0 < S.length → A = some ⟨bs, os, none⟩ ∧ bs < w1.heap.size ∧ S.length ≤ cs) := hS1
  have HS2 : Hid (∀ j, j < S.length → w1.cell? ⟨bs, os + j * 3, none⟩ = some (.int .i64 (S.getD j (0, 0, 0)).1) ∧ w1.cell? ⟨bs, os + j * 3 + 1, none⟩ = some (.int .i64 (S.getD j (0, 0, 0)).2.1) ∧ w1.cell? ⟨bs, os + j * 3 + 2, none⟩ = some (.int .i64 (S.getD j (0, 0, 0)).2.2)) := hS2
  have HB1 : Hid (Below w.heap.size w w1) := hb1
  have HR1 : Hid (PinsAt w1 y l) := HR.out.below hb1
  have HP1 : Hid (PinsAt w1 v a) := HP.out.below hb1
  clear hS1 hS2 hx HC hb1
  go_wp2_with fail
  refine (checkR_any _ _ _ HR1.out).mono ?_
  rintro e w2 ⟨rfl, hb2⟩
  rw [HL.out]
  have HB2 : Hid (Below w1.heap.size w1 w2) := hb2
  clear hb2
  go_wp2_with fail
  go_loopg [10] (S.length + 1) (fun g s10 wr => ∃ k : Nat, k ≤ S.length + 1 ∧ S.length + 1 - k ≤ g ∧ s10 = .int .i64 k ∧ Hid (k ≤ S.length → Dk.wayFrom (Dk.after (Dk.tb a) (S.take k)) (Dk.tb l) (S.drop k) k = Dk.wayFrom (Dk.tb a) (Dk.tb l) S 0) ∧ Hid (k = S.length + 1 → Dk.wayFrom (Dk.tb a) (Dk.tb l) S 0 = -1) ∧ Hid (Below w1.heap.size w1 wr))
  case atStart => exact ⟨0, Nat.zero_le _, by omega, rfl, fun _ => rfl, fun h => absurd h (by omega), HB2⟩
  case round =>
    obtain ⟨k, hk, hgo, rfl, HY, HZ, HW⟩ := hrel
    by_cases hlt : k ≤ S.length
    · have hkc : k ≤ cs := by
        rcases Nat.eq_zero_or_pos S.length with h0 | h0
        · omega
        · exact Nat.le_trans hlt (HS1.out h0).2.2
      have hsl2 := slO A S.length cs k hkc
      have HCA : Hid (0 < S.length → cutA A cs = some ⟨bs, os, none⟩) := fun h => by rw [(HS1.out h).1]; exact cutA_some _ _ _
      generalize cutA A cs = A' at hsl2 HCA
      go_wp2_with fail
      refine (tableR_any _ _ _ (HP1.out.below HW.out) HA.out).mono ?_
      rintro e w3 ⟨rfl, hb3⟩
      have HB3 : Hid (Below w1.heap.size w1 w3) := HW.out.trans (hb3.mono HW.out.size)
      clear hb3
      go_wp2_with (guard_target = wpList _ _ _ (Oper.mk _ (Op.store 45 (.tmp 11) _) _ _ _ _ :: _) _ _; refine stNR rfl (.tmp 11) (.tmp 34) rfl (by rfl) (Dk.tb a) (by rfl) (Dk.tb_len a) ?_)
      go_loopg [39] k (fun g s39 wr => ∃ j : Nat, j ≤ k ∧ k - j ≤ g ∧ s39 = .int .i64 j ∧ Hid (TabAt wr w3.heap.size 45 (Dk.after (Dk.tb a) (S.take j))) ∧ Hid (Below w1.heap.size w1 wr))
      case atStart => exact ⟨0, Nat.zero_le _, by omega, rfl, heap_alloc_last w3 _, HB3.out.alloc HB3.out.size _⟩
      case round =>
        clear HW
        obtain ⟨j, hj, hg, rfl, HT, HW⟩ := hrel
        by_cases hjt : j < k
        · have hA' := HCA.out (by omega)
          obtain ⟨-, hbs, -⟩ := HS1.out (by omega)
          subst hA'
          clear HCA
          obtain ⟨g1, g2, g3⟩ := HS2.out j (by omega)
          rw [← HW.out.cell (p := ⟨bs, _, none⟩) hbs] at g1 g2 g3
          have hjS : j < S.length := by omega
          have HG : Hid (S[j]? = some (S.getD j (0, 0, 0))) := by rw [List.getD_eq_getElem?_getD, List.getElem?_eq_getElem hjS]; rfl
          obtain ⟨n, hn, hno⟩ := HM.out (S.getD j (0, 0, 0)) (by rw [List.getD_eq_getElem?_getD, List.getElem?_eq_getElem hjS]; exact List.getElem_mem hjS)
          generalize S.getD j (0, 0, 0) = p at g1 g2 g3 HG hno
          obtain ⟨q, m, z⟩ := p
          simp only at g1 g2 g3 hno
          subst hno
          have HWA := Dk.after_take (Dk.tb a) S j _ HG.out
          have HWA' : Hid (Dk.after (Dk.tb a) (S.take (j + 1)) = (Dk.after (Dk.tb a) (S.take j)).set n z) := HWA
          clear HWA HG
          have c0 := HT.out.cell n (by rw [after_len, Dk.tb_len]; exact hn)
          have hf := frozen_of_row wr w3.heap.size n _ _ HT.out
          have hs3 := HT.out.lt
          go_wp2
          go_roundg (k - (j + 1))
          case measure => omega
          case rel =>
            refine ⟨j + 1, by omega, by omega, by go_num, ?_, (HW.out.setCell (by simpa using HB3.out.size) _).alloc (by simp only [World.size_setCell]; exact HW.out.size) _⟩
            rw [HWA'.out]
            exact (HT.out.set n z).alloc _
        · have hj' : j = k := by omega
          subst hj'
          clear hjt hj hsl2
          have HTL : Hid ((Dk.after (Dk.tb a) (S.take j)).length = 21) := (after_len _ _).trans (Dk.tb_len a)
          have HYE := HY.out hlt
          obtain ⟨T, hTJ⟩ : ∃ T, Dk.after (Dk.tb a) (S.take j) = T := ⟨_, rfl⟩
          have HTJ : Hid (Dk.after (Dk.tb a) (S.take j) = T) := hTJ
          rw [hTJ] at HT HTL HYE
          clear hTJ
          go_wp2_with fail
          refine wp_region_any (by kernel_rfl) ?_
          change wpAny _ _ _ _ _ _ _ (World.drew _)
          have HTd : Hid (TabAt wr.drew w3.heap.size 45 T) := HT.out
          have HWd : Hid (Below w1.heap.size w1 wr.drew) := HW.out.drew
          generalize wr.drew = wd at HTd HWd
          clear HT HW
          by_cases hT : T = Dk.tb l
          · have HYE' : Hid (Dk.wayFrom (Dk.tb a) (Dk.tb l) S 0 = j) := by
              rw [← HYE]
              cases S.drop j with
              | nil => rw [Dk.wayFrom, if_pos hT]; rfl
              | cons o r => rw [Dk.wayFrom, if_pos hT]; rfl
            have hq := eqlR T (Dk.tb l) HTL.out (Dk.tb_len l)
            rw [decide_eq_true hT] at hq
            clear hT HYE HY HZ
            refine wpAny_take (i := 1) (v := y) rfl (by kernel_rfl) (by kernel_rfl) (by kernel_rfl) (fun _ _ _ h => h) (Or.inl ⟨by rfl, ?_⟩) ?_
            · intro w
              go_simp
            refine wpAny_ready (rs := [0, 2]) (by kernel_rfl) (by simp) ?_
            refine AllReady.cons rfl (fun K hK => ?_) (AllReady.cons rfl (fun K hK => ?_) AllReady.nil)
            · refine wanted_pos (by rfl) ?_
              refine wp_load_row 45 _ rfl w3.heap.size rfl 45 _ (0, 0) _ HTd.out Try.underlying45 rfl (by rw [tcells_size, HTL.out]; exact info21R) (hK _ _ ?_)
              clear hK K
              refine wpAny_ready (rs := [2]) (by kernel_rfl) (by simp) ?_
              refine AllReady.cons rfl (fun K hK => ?_) AllReady.nil
              refine wanted_pos (by rfl) ?_
              go_simp
              refine (tableR_any _ _ _ (HR1.out.below HWd.out) HL.out).mono ?_
              rintro e w6 ⟨rfl, hb6⟩
              refine hK _ _ ?_
              clear hK K
              refine wpAny_ready (rs := [3]) (by kernel_rfl) (by simp) ?_
              refine AllReady.cons rfl (fun K hK => ?_) AllReady.nil
              refine wanted_pos (by rfl) ?_
              go_simp
              refine hK _ _ ?_
              clear hK K
              refine wpAny_done (by kernel_rfl) ?_ _
              have HB6 : Hid (Below w1.heap.size w1 w6) := HWd.out.trans (hb6.mono HWd.out.size)
              go_wp2
              go_ret2
              exact ⟨by rw [HYE'.out]; rfl, HB1.out.trans (HB6.out.mono HB1.out.size)⟩
            · refine wanted_pos (by rfl) ?_
              go_simp
              refine (tableR_any _ _ _ (HR1.out.below HWd.out) HL.out).mono ?_
              rintro e w6 ⟨rfl, hb6⟩
              refine hK _ _ ?_
              clear hK K
              refine wpAny_ready (rs := [0]) (by kernel_rfl) (by simp) ?_
              refine AllReady.cons rfl (fun K hK => ?_) AllReady.nil
              refine wanted_pos (by rfl) ?_
              refine wp_load_row 45 _ rfl w3.heap.size rfl 45 _ (0, 0) _ (HTd.out.below hb6 HTd.out.lt) Try.underlying45 rfl (by rw [tcells_size, HTL.out]; exact info21R) (hK _ _ ?_)
              clear hK K
              refine wpAny_ready (rs := [3]) (by kernel_rfl) (by simp) ?_
              refine AllReady.cons rfl (fun K hK => ?_) AllReady.nil
              refine wanted_pos (by rfl) ?_
              go_simp
              refine hK _ _ ?_
              clear hK K
              refine wpAny_done (by kernel_rfl) ?_ _
              have HB6 : Hid (Below w1.heap.size w1 w6) := HWd.out.trans (hb6.mono HWd.out.size)
              go_wp2
              go_ret2
              exact ⟨by rw [HYE'.out]; rfl, HB1.out.trans (HB6.out.mono HB1.out.size)⟩
          · have HY1 : Hid (j + 1 ≤ S.length → Dk.wayFrom (Dk.after (Dk.tb a) (S.take (j + 1))) (Dk.tb l) (S.drop (j + 1)) ((j + 1 : Nat) : Int) = Dk.wayFrom (Dk.tb a) (Dk.tb l) S 0) := fun h => by
              have hG : S[j]? = some (S.getD j (0, 0, 0)) := by rw [List.getD_eq_getElem?_getD, List.getElem?_eq_getElem (by omega)]; rfl
              rw [← HYE, dropO_getD S j (by omega), Dk.wayFrom, if_neg hT, Dk.after_take _ S j _ hG, HTJ.out]
              rfl
            have HZ1 : Hid (j + 1 = S.length + 1 → Dk.wayFrom (Dk.tb a) (Dk.tb l) S 0 = -1) := fun h => by
              rw [← HYE, drop_all (by omega), Dk.wayFrom, if_neg hT]
            have hq := eqlR T (Dk.tb l) HTL.out (Dk.tb_len l)
            rw [decide_eq_false hT] at hq
            clear hT HYE HY HZ
            refine wpAny_take (i := 1) (v := y) rfl (by kernel_rfl) (by kernel_rfl) (by kernel_rfl) (fun _ _ _ h => h) (Or.inl ⟨by rfl, ?_⟩) ?_
            · intro w
              go_simp
            refine wpAny_ready (rs := [0, 2]) (by kernel_rfl) (by simp) ?_
            refine AllReady.cons rfl (fun K hK => ?_) (AllReady.cons rfl (fun K hK => ?_) AllReady.nil)
            · refine wanted_pos (by rfl) ?_
              refine wp_load_row 45 _ rfl w3.heap.size rfl 45 _ (0, 0) _ HTd.out Try.underlying45 rfl (by rw [tcells_size, HTL.out]; exact info21R) (hK _ _ ?_)
              clear hK K
              refine wpAny_ready (rs := [2]) (by kernel_rfl) (by simp) ?_
              refine AllReady.cons rfl (fun K hK => ?_) AllReady.nil
              refine wanted_pos (by rfl) ?_
              go_simp
              refine (tableR_any _ _ _ (HR1.out.below HWd.out) HL.out).mono ?_
              rintro e w6 ⟨rfl, hb6⟩
              refine hK _ _ ?_
              clear hK K
              refine wpAny_ready (rs := [3]) (by kernel_rfl) (by simp) ?_
              refine AllReady.cons rfl (fun K hK => ?_) AllReady.nil
              refine wanted_pos (by rfl) ?_
              go_simp
              refine hK _ _ ?_
              clear hK K
              refine wpAny_done (by kernel_rfl) ?_ _
              have HB6 : Hid (Below w1.heap.size w1 w6) := HWd.out.trans (hb6.mono HWd.out.size)
              go_wp2
              go_roundg (S.length + 1 - (j + 1))
              case measure => omega
              case rel => exact ⟨j + 1, by omega, by omega, by go_num, HY1, HZ1, HB6⟩
            · refine wanted_pos (by rfl) ?_
              go_simp
              refine (tableR_any _ _ _ (HR1.out.below HWd.out) HL.out).mono ?_
              rintro e w6 ⟨rfl, hb6⟩
              refine hK _ _ ?_
              clear hK K
              refine wpAny_ready (rs := [0]) (by kernel_rfl) (by simp) ?_
              refine AllReady.cons rfl (fun K hK => ?_) AllReady.nil
              refine wanted_pos (by rfl) ?_
              refine wp_load_row 45 _ rfl w3.heap.size rfl 45 _ (0, 0) _ (HTd.out.below hb6 HTd.out.lt) Try.underlying45 rfl (by rw [tcells_size, HTL.out]; exact info21R) (hK _ _ ?_)
              clear hK K
              refine wpAny_ready (rs := [3]) (by kernel_rfl) (by simp) ?_
              refine AllReady.cons rfl (fun K hK => ?_) AllReady.nil
              refine wanted_pos (by rfl) ?_
              go_simp
              refine hK _ _ ?_
              clear hK K
              refine wpAny_done (by kernel_rfl) ?_ _
              have HB6 : Hid (Below w1.heap.size w1 w6) := HWd.out.trans (hb6.mono HWd.out.size)
              go_wp2
              go_roundg (S.length + 1 - (j + 1))
              case measure => omega
              case rel => exact ⟨j + 1, by omega, by omega, by go_num, HY1, HZ1, HB6⟩
    · have hk' : k = S.length + 1 := by omega
      have HZE : Hid (Dk.wayFrom (Dk.tb a) (Dk.tb l) S 0 = -1) := HZ.out hk'
      subst hk'
      clear hlt hk HY HZ
      go_wp2
      go_ret2
      exact ⟨by rw [HZE.out]; rfl, HB1.out.trans (HW.out.mono HB1.out.size)⟩
theorem way_any (v u y : Value) (a b l : List (Int × Int)) (w : World) (hP : PinsAt w v a) (hQ : PinsAt w u b) (hR : PinsAt w y l) :
    Calls Try.prog 13 #[v, u, y] w fun e w' => e = .returned (.tuple #[.int .i64 (Dk.between a b l), .int .i64 (Dk.betweenErr a b l)]) ∧ Below w.heap.size w w' := by
  by_cases hd : Dk.diffErr a b = 0
  · by_cases hl : Lk.chk l = 0
    · have h : Dk.betweenErr a b l = 0 := by rw [Dk.betweenErr, if_pos hd, hl]
      rw [Dk.between, if_pos h, h]
      exact way_good v u y a b l w hP hQ hR hd (diffErr_ok hd).1 hl
    · have h : Dk.betweenErr a b l ≠ 0 := by rw [Dk.betweenErr, if_pos hd]; exact hl
      rw [Dk.between, if_neg h]
      exact way_bad2 v u y a b l w hP hQ hR hd hl
  · have h : Dk.betweenErr a b l ≠ 0 := by rw [Dk.betweenErr, if_neg hd]; exact hd
    rw [Dk.between, if_neg h]
    exact way_bad1 v u y a b l w hP hQ hd
end Go.Proofs.Ytjedjanlmjolkaa
