/- The contracts of way.alike, of the document's function of two pieces of mail; slices.EqualFunc at mail; way.Same, SameMail. -/
import Derived.Test.YtbdefihgplcdoaeYV1
namespace Go.Proofs.Ytbdefihgplcdoae
open Go.RowKit
set_option maxHeartbeats 8000000 in
set_option maxRecDepth 100000 in
theorem mlAlike_any (m m2 : Wy.Mail) (v v2 : Value) (w : World) (hP : PinsAt w v m.lock) (hP2 : PinsAt w v2 m2.lock) :
    Calls Try.prog 49 #[mailV m v, mailV m2 v2] w fun e w' => e = .returned (.bool (Wy.same1 m m2)) ∧ Below w.heap.size w w' := by
  obtain ⟨a, c, rfl⟩ := pins_slice hP
  obtain ⟨a2, c2, rfl⟩ := pins_slice hP2
  obtain ⟨ag, tr, rp, gd, id, l⟩ := m
  obtain ⟨ag2, tr2, rp2, gd2, id2, l2⟩ := m2
  unfold mailV
  simp only at hP hP2 ⊢
  have HA : Hid (∀ w', Below w.heap.size w w' → Calls Try.prog 57 #[.agg #[.int .i64 id, .slice a l.length c], .agg #[.int .i64 id2, .slice a2 l2.length c2]] w' fun e w'' => e = .returned (.bool (Lk.alike id l id2 l2)) ∧ Below w'.heap.size w' w'') := fun w' hb => alike_any id id2 _ _ l l2 w' (hP.below hb) (hP2.below hb)
  have HQ : Hid (Wy.same1 ⟨ag, tr, rp, gd, id, l⟩ ⟨ag2, tr2, rp2, gd2, id2, l2⟩ = (ag == ag2 && tr == tr2 && rp == rp2 && gd == gd2 && Lk.alike id l id2 l2)) := rfl
  clear hP hP2
  generalize Wy.same1 ⟨ag, tr, rp, gd, id, l⟩ ⟨ag2, tr2, rp2, gd2, id2, l2⟩ = Q at HQ ⊢
  generalize Lk.alike id l id2 l2 = AL at HA HQ
  generalize l.length = n at HA ⊢
  generalize l2.length = n2 at HA ⊢
  obtain ⟨hB0, hK0, hK1⟩ := box2 w #[.int .i64 ag, .int .i64 tr, .bool rp, .bool gd, .int .i64 id, .slice a n c] #[.int .i64 ag2, .int .i64 tr2, .bool rp2, .bool gd2, .int .i64 id2, .slice a2 n2 c2] 52 52
  have k0 := hK0.cell 0
  have k1 := hK0.cell 1
  have k2 := hK0.cell 2
  have k3 := hK0.cell 3
  have k4 := hK0.cell 4
  have k5 := hK0.cell 5
  simp only [List.getElem?_toArray, List.getElem?_cons_zero, List.getElem?_cons_succ] at k0 k1 k2 k3 k4 k5
  have d0 := hK1.cell 0
  have d1 := hK1.cell 1
  have d2 := hK1.cell 2
  have d3 := hK1.cell 3
  have d4 := hK1.cell 4
  have d5 := hK1.cell 5
  simp only [List.getElem?_toArray, List.getElem?_cons_zero, List.getElem?_cons_succ] at d0 d1 d2 d3 d4 d5
  have HB0 : Hid (Below w.heap.size w _) := hB0
  clear hB0 hK0 hK1
  generalize hb0 : (ag == ag2) = b0 at HQ
  generalize hb1 : (tr == tr2) = b1 at HQ
  generalize hb2 : (rp == rp2) = b2 at HQ
  generalize hb3 : (gd == gd2) = b3 at HQ
  cases b0
  · have HN : Hid (Q = false) := by show _ = _; rw [HQ.out]; simp
    clear HQ HA
    go_enter Try.func49, Try.ntmps49
    go_wp2
    go_ret
    exact ⟨by rw [HN.out]; rfl, HB0.out⟩
  cases b1
  · have HN : Hid (Q = false) := by show _ = _; rw [HQ.out]; simp
    clear HQ HA
    go_enter Try.func49, Try.ntmps49
    go_wp2
    go_ret
    exact ⟨by rw [HN.out]; rfl, HB0.out⟩
  cases b2
  · have HN : Hid (Q = false) := by show _ = _; rw [HQ.out]; simp
    clear HQ HA
    go_enter Try.func49, Try.ntmps49
    go_wp2
    go_ret
    exact ⟨by rw [HN.out]; rfl, HB0.out⟩
  cases b3
  · have HN : Hid (Q = false) := by show _ = _; rw [HQ.out]; simp
    clear HQ HA
    go_enter Try.func49, Try.ntmps49
    go_wp2
    go_ret
    exact ⟨by rw [HN.out]; rfl, HB0.out⟩
  have HN : Hid (Q = AL) := by show _ = _; rw [HQ.out]; simp
  clear HQ
  go_enter Try.func49, Try.ntmps49
  go_wp2_with (first | (go_at_call 57; refine (HA.out _ HB0.out).mono ?_; rintro e w1 ⟨rfl, hx1⟩; have HB1 : Hid (Below w.heap.size w w1) := HB0.out.trans (hx1.mono HB0.out.size); clear hx1 HA) | go_in)
  go_ret
  exact ⟨by rw [HN.out]; rfl, HB1.out⟩
set_option maxHeartbeats 8000000 in
set_option maxRecDepth 100000 in
theorem mlAlikeR_any (m m2 : Wy.Mail) (v v2 : Value) (w : World) (hP : PinsAt w v m.lock) (hP2 : PinsAt w v2 m2.lock) :
    Calls Try.prog 50 #[mailV m v, mailV m2 v2] w fun e w' => e = .returned (.bool (Wy.same1 m m2)) ∧ Below w.heap.size w w' := by
  obtain ⟨a, c, rfl⟩ := pins_slice hP
  obtain ⟨a2, c2, rfl⟩ := pins_slice hP2
  obtain ⟨ag, tr, rp, gd, id, l⟩ := m
  obtain ⟨ag2, tr2, rp2, gd2, id2, l2⟩ := m2
  unfold mailV
  simp only at hP hP2 ⊢
  have HA : Hid (∀ w', Below w.heap.size w w' → Calls Try.prog 51 #[.agg #[.int .i64 id, .slice a l.length c], .agg #[.int .i64 id2, .slice a2 l2.length c2]] w' fun e w'' => e = .returned (.bool (Lk.alike id l id2 l2)) ∧ Below w'.heap.size w' w'') := fun w' hb => alikeR_any id id2 _ _ l l2 w' (hP.below hb) (hP2.below hb)
  have HQ : Hid (Wy.same1 ⟨ag, tr, rp, gd, id, l⟩ ⟨ag2, tr2, rp2, gd2, id2, l2⟩ = (ag == ag2 && tr == tr2 && rp == rp2 && gd == gd2 && Lk.alike id l id2 l2)) := rfl
  clear hP hP2
  generalize Wy.same1 ⟨ag, tr, rp, gd, id, l⟩ ⟨ag2, tr2, rp2, gd2, id2, l2⟩ = Q at HQ ⊢
  generalize Lk.alike id l id2 l2 = AL at HA HQ
  generalize l.length = n at HA ⊢
  generalize l2.length = n2 at HA ⊢
  obtain ⟨hB0, hK0, hK1⟩ := box2 w #[.int .i64 ag, .int .i64 tr, .bool rp, .bool gd, .int .i64 id, .slice a n c] #[.int .i64 ag2, .int .i64 tr2, .bool rp2, .bool gd2, .int .i64 id2, .slice a2 n2 c2] 52 52
  have k0 := hK0.cell 0
  have k1 := hK0.cell 1
  have k2 := hK0.cell 2
  have k3 := hK0.cell 3
  have k4 := hK0.cell 4
  have k5 := hK0.cell 5
  simp only [List.getElem?_toArray, List.getElem?_cons_zero, List.getElem?_cons_succ] at k0 k1 k2 k3 k4 k5
  have d0 := hK1.cell 0
  have d1 := hK1.cell 1
  have d2 := hK1.cell 2
  have d3 := hK1.cell 3
  have d4 := hK1.cell 4
  have d5 := hK1.cell 5
  simp only [List.getElem?_toArray, List.getElem?_cons_zero, List.getElem?_cons_succ] at d0 d1 d2 d3 d4 d5
  have HB0 : Hid (Below w.heap.size w _) := hB0
  clear hB0 hK0 hK1
  generalize hb0 : (ag == ag2) = b0 at HQ
  generalize hb1 : (tr == tr2) = b1 at HQ
  generalize hb2 : (rp == rp2) = b2 at HQ
  generalize hb3 : (gd == gd2) = b3 at HQ
  cases b0
  · have HN : Hid (Q = false) := by show _ = _; rw [HQ.out]; simp
    clear HQ HA
    go_enter Try.func50, Try.ntmps50
    go_wp2
    go_ret
    exact ⟨by rw [HN.out]; rfl, HB0.out⟩
  cases b1
  · have HN : Hid (Q = false) := by show _ = _; rw [HQ.out]; simp
    clear HQ HA
    go_enter Try.func50, Try.ntmps50
    go_wp2
    go_ret
    exact ⟨by rw [HN.out]; rfl, HB0.out⟩
  cases b2
  · have HN : Hid (Q = false) := by show _ = _; rw [HQ.out]; simp
    clear HQ HA
    go_enter Try.func50, Try.ntmps50
    go_wp2
    go_ret
    exact ⟨by rw [HN.out]; rfl, HB0.out⟩
  cases b3
  · have HN : Hid (Q = false) := by show _ = _; rw [HQ.out]; simp
    clear HQ HA
    go_enter Try.func50, Try.ntmps50
    go_wp2
    go_ret
    exact ⟨by rw [HN.out]; rfl, HB0.out⟩
  have HN : Hid (Q = AL) := by show _ = _; rw [HQ.out]; simp
  clear HQ
  go_enter Try.func50, Try.ntmps50
  go_wp2_with (first | (go_at_call 51; refine (HA.out _ HB0.out).mono ?_; rintro e w1 ⟨rfl, hx1⟩; have HB1 : Hid (Below w.heap.size w w1) := HB0.out.trans (hx1.mono HB0.out.size); clear hx1 HA) | go_in)
  go_ret
  exact ⟨by rw [HN.out]; rfl, HB1.out⟩
theorem drop_mapM {ps : List (Wy.Mail × Value)} {k : Nat} {r : Wy.Mail} {v : Value} (h : ps[k]? = some (r, v)) : (ps.map Prod.fst).drop k = r :: (ps.map Prod.fst).drop (k + 1) := by
  have hlt : k < ps.length := (List.getElem?_eq_some_iff.1 h).1
  rw [List.drop_eq_getElem_cons (by rw [List.length_map]; exact hlt)]
  congr 1
  rw [List.getElem_map]
  have := (List.getElem?_eq_some_iff.1 h).2
  rw [this]
set_option maxHeartbeats 400000 in
theorem equalFM_len (a1 a2 : Option Addr) (n c m d : Nat) (f : Value) (w : World) (h : n ≠ m) :
    Calls Try.prog 48 #[.slice a1 n c, .slice a2 m d, f] w fun e w' => e = .returned (.bool false) ∧ Below w.heap.size w w' := by
  have h' : ((n : Int) != (m : Int)) = true := by rw [bne_iff_ne]; omega
  go_enter Try.func48, Try.ntmps48
  go_wp2
  go_ret
  exact ⟨rfl, Below.refl _ _⟩
set_option maxHeartbeats 4000000 in
set_option maxRecDepth 100000 in
theorem equalFM_full (f : Nat) (eg : ∀ args w, (callFunc f args).run Try.prog w = .ok (.enter f args) w) (S : Wy.Mail → Wy.Mail → Bool)
    (hf : ∀ r q v u w, PinsAt w v r.lock → PinsAt w u q.lock → Calls Try.prog f #[mailV r v, mailV q u] w fun e w' => e = .returned (.bool (S r q)) ∧ Below w.heap.size w w')
    (a1 a2 : Option Addr) (c d : Nat) (ps qs : List (Wy.Mail × Value)) (w : World) (hA : MailsAt w (.slice a1 ps.length c) ps) (hB : MailsAt w (.slice a2 ps.length d) qs) :
    Calls Try.prog 48 #[.slice a1 ps.length c, .slice a2 ps.length d, .func (.func f) #[] #[]] w fun e w' => e = .returned (.bool (Wy.all2m S (ps.map Prod.fst) (qs.map Prod.fst))) ∧ Below w.heap.size w w' := by
  have HA : Hid (MailsAt w (.slice a1 ps.length c) ps) := hA
  have HB : Hid (MailsAt w (.slice a2 ps.length d) qs) := hB
  have hN : ps.length = qs.length := by
    obtain ⟨_, p', c', e, _⟩ := hB
    simp only [Value.slice.injEq] at e
    exact e.2.1
  have hpl := hA.1
  have HN : Hid (ps.length = qs.length) := hN
  have HF : Hid (∀ r q v u w, PinsAt w v r.lock → PinsAt w u q.lock → Calls Try.prog f #[mailV r v, mailV q u] w fun e w' => e = .returned (.bool (S r q)) ∧ Below w.heap.size w w') := hf
  have HQ : Hid (Wy.all2m S (ps.map Prod.fst) (qs.map Prod.fst) = Wy.all2m S ((ps.map Prod.fst).drop 0) ((qs.map Prod.fst).drop 0)) := rfl
  clear hA hB hN hf
  generalize Wy.all2m S (ps.map Prod.fst) (qs.map Prod.fst) = R at HQ ⊢
  go_enter Try.func48, Try.ntmps48
  go_wp2
  go_loopg [17] ps.length (fun g s17 wr => ∃ k : Nat, k ≤ ps.length ∧ ps.length - k ≤ g ∧ s17 = .int .i64 k ∧ Hid (R = Wy.all2m S ((ps.map Prod.fst).drop k) ((qs.map Prod.fst).drop k)) ∧ Hid (Below w.heap.size w wr))
  case atStart => exact ⟨0, Nat.zero_le _, by omega, rfl, HQ, Below.refl _ _⟩
  case round =>
    obtain ⟨k, hk, hg, rfl, HQk, HBr⟩ := hrel
    by_cases hlt : k < ps.length
    rotate_left
    · have hk' : k = ps.length := by omega
      have HR : Hid (R = true) := by
        show R = true
        rw [HQk.out, List.drop_of_length_le (by rw [List.length_map]; omega), List.drop_of_length_le (by rw [List.length_map, ← HN.out]; omega)]
        rfl
      subst hk'
      clear HQk hlt hk
      go_wp2
      go_ret
      exact ⟨by rw [HR.out]; rfl, HBr.out⟩
    obtain ⟨⟨r, v⟩, hr⟩ : ∃ x, ps[k]? = some x := ⟨_, List.getElem?_eq_getElem hlt⟩
    obtain ⟨⟨q, u⟩, hq⟩ : ∃ x, qs[k]? = some x := ⟨_, List.getElem?_eq_getElem (by rw [← HN.out]; exact hlt)⟩
    obtain ⟨b1, o1, rfl, hb1, x0, x1, x2, x3, x4, x5⟩ := mails_at (HA.out.below HBr.out) hr
    obtain ⟨b2, o2, rfl, hb2, y0, y1, y2, y3, y4, y5⟩ := mails_at (HB.out.below HBr.out) hq
    have hp := mails_pins (HA.out.below HBr.out) (r, v) (List.mem_of_getElem? hr)
    have hu := mails_pins (HB.out.below HBr.out) (q, u) (List.mem_of_getElem? hq)
    simp only at hp hu
    have HR : Hid (R = (S r q && Wy.all2m S ((ps.map Prod.fst).drop (k + 1)) ((qs.map Prod.fst).drop (k + 1)))) := by
      show R = _
      rw [HQk.out, drop_mapM hr, drop_mapM hq]
      rfl
    obtain ⟨va, vc, rfl⟩ := pins_slice hp
    obtain ⟨ua, uc, rfl⟩ := pins_slice hu
    have HP : Hid (PinsAt wr (.slice va r.lock.length vc) r.lock) := hp
    have HU : Hid (PinsAt wr (.slice ua q.lock.length uc) q.lock) := hu
    obtain ⟨r1, r2, r3, r4, r6, r7⟩ := r
    obtain ⟨q1, q2, q3, q4, q6, q7⟩ := q
    have HFk := HF.out ⟨r1, r2, r3, r4, r6, r7⟩ ⟨q1, q2, q3, q4, q6, q7⟩ (.slice va r7.length vc) (.slice ua q7.length uc)
    generalize S ⟨r1, r2, r3, r4, r6, r7⟩ ⟨q1, q2, q3, q4, q6, q7⟩ = sb at HR HFk
    unfold mailV at HFk
    simp only at HFk HP HU x0 x1 x2 x3 x4 x5 y0 y1 y2 y3 y4 y5
    have HFk' : Hid (∀ w, PinsAt w (.slice va r7.length vc) r7 → PinsAt w (.slice ua q7.length uc) q7 → Calls Try.prog f #[.agg #[.int .i64 r1, .int .i64 r2, .bool r3, .bool r4, .int .i64 r6, .slice va r7.length vc], .agg #[.int .i64 q1, .int .i64 q2, .bool q3, .bool q4, .int .i64 q6, .slice ua q7.length uc]] w fun e w' => e = .returned (.bool sb) ∧ Below w.heap.size w w') := HFk
    have HBB : Hid (∀ o o', Below wr.heap.size wr ((wr.alloc o).alloc o')) := fun o o' => ((Below.refl _ wr).alloc (Nat.le_refl _) o).alloc (by simp) o'
    clear hp hu HFk HF HQk hr hq HA HB HN
    go_wp2_with fail
    refine (HFk'.out _ (HP.out.below (HBB.out _ _)) (HU.out.below (HBB.out _ _))).mono ?_
    rintro e w1 ⟨rfl, hw1⟩
    have HB1 : Hid (Below w.heap.size w w1) := HBr.out.trans (((HBB.out _ _).trans (hw1.mono (HBB.out _ _).size)).mono HBr.out.size)
    clear hw1 HBB HFk' HP HU x0 x1 x2 x3 x4 x5 y0 y1 y2 y3 y4 y5
    cases sb
    · have HR' : Hid (R = false) := by show R = false; rw [HR.out, Bool.false_and]
      go_wp2
      go_ret
      exact ⟨by rw [HR'.out]; rfl, HB1.out⟩
    · have HR' : Hid (R = Wy.all2m S ((ps.map Prod.fst).drop (k + 1)) ((qs.map Prod.fst).drop (k + 1))) := by show R = _; rw [HR.out, Bool.true_and]
      go_wp2
      go_roundg (ps.length - (k + 1))
      case measure => omega
      case rel => exact ⟨k + 1, by omega, by omega, by go_num, HR', HB1⟩
theorem equalFM_any (f : Nat) (eg : ∀ args w, (callFunc f args).run Try.prog w = .ok (.enter f args) w) (S : Wy.Mail → Wy.Mail → Bool)
    (hf : ∀ r q v u w, PinsAt w v r.lock → PinsAt w u q.lock → Calls Try.prog f #[mailV r v, mailV q u] w fun e w' => e = .returned (.bool (S r q)) ∧ Below w.heap.size w w')
    (va vb : Value) (ps qs : List (Wy.Mail × Value)) (w : World) (hA : MailsAt w va ps) (hB : MailsAt w vb qs) :
    Calls Try.prog 48 #[va, vb, .func (.func f) #[] #[]] w fun e w' => e = .returned (.bool (Wy.all2m S (ps.map Prod.fst) (qs.map Prod.fst))) ∧ Below w.heap.size w w' := by
  obtain ⟨a1, c, rfl⟩ := mails_slice hA
  obtain ⟨a2, d, rfl⟩ := mails_slice hB
  by_cases h : ps.length = qs.length
  · rw [← h] at hB ⊢
    exact equalFM_full f eg S hf a1 a2 c d ps qs w hA hB
  · rw [Wy.all2m_len S _ _ (by rw [List.length_map, List.length_map]; exact h)]
    exact equalFM_len a1 a2 _ c _ d _ w h
set_option maxHeartbeats 1000000 in
theorem mlSame_any (va vb : Value) (ps qs : List (Wy.Mail × Value)) (w : World) (hA : MailsAt w va ps) (hB : MailsAt w vb qs) :
    Calls Try.prog 19 #[va, vb] w fun e w' => e = .returned (.bool (Wy.sameMail (ps.map Prod.fst) (qs.map Prod.fst))) ∧ Below w.heap.size w w' := by
  have HC := equalFM_any 49 (fun _ _ => by simp [go_sem]) Wy.same1 (fun r q v u w h1 h2 => mlAlike_any r q v u w h1 h2) va vb ps qs w hA hB
  obtain ⟨a1, c1, rfl⟩ := mails_slice hA
  obtain ⟨a2, c2, rfl⟩ := mails_slice hB
  clear hA hB
  go_enter Try.func19, Try.ntmps19
  go_wp2_with fail
  refine HC.mono ?_
  rintro e w1 ⟨rfl, hb1⟩
  have HB1 : Hid (Below w.heap.size w w1) := hb1
  clear hb1 HC
  go_wp2
  go_ret
  exact ⟨rfl, HB1.out⟩
set_option maxHeartbeats 1000000 in
theorem mlSameR_any (va vb : Value) (ps qs : List (Wy.Mail × Value)) (w : World) (hA : MailsAt w va ps) (hB : MailsAt w vb qs) :
    Calls Try.prog 20 #[va, vb] w fun e w' => e = .returned (.bool (Wy.sameMail (ps.map Prod.fst) (qs.map Prod.fst))) ∧ Below w.heap.size w w' := by
  have HC := equalFM_any 50 (fun _ _ => by simp [go_sem]) Wy.same1 (fun r q v u w h1 h2 => mlAlikeR_any r q v u w h1 h2) va vb ps qs w hA hB
  obtain ⟨a1, c1, rfl⟩ := mails_slice hA
  obtain ⟨a2, c2, rfl⟩ := mails_slice hB
  clear hA hB
  go_enter Try.func20, Try.ntmps20
  go_wp2_with fail
  refine HC.mono ?_
  rintro e w1 ⟨rfl, hb1⟩
  have HB1 : Hid (Below w.heap.size w w1) := hb1
  clear hb1 HC
  go_wp2
  go_ret
  exact ⟨rfl, HB1.out⟩
end Go.Proofs.Ytbdefihgplcdoae
