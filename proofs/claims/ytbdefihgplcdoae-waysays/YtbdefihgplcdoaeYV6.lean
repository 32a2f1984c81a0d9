/- Parts of a slice of mail; the contract of way.Take. -/
import Derived.Test.YtbdefihgplcdoaeYV5
namespace Go.Proofs.Ytbdefihgplcdoae
open Go.RowKit
/-- where a part that begins at l lies -/
def subM (a : Option Addr) (c l : Nat) : Option Addr := if c = l then a else a.map (·.add (l * 6))
theorem slMh (a : Option Addr) (n c k : Nat) (hk : k ≤ c) (w : World) : (Instr.slice 50 (.slice a n c) none (some (.int .i64 k)) none).run Try.prog w = .ok (.slice (subM a c 0) k c) w := by
  have h1 : (0 : Int) ≤ k ∧ (k : Int) ≤ c := by omega
  simp only [Instr.slice, Sem.run_bind, run_underlying Try.underlying50, Result.andThen_ok, Instr.sliceBounds, Instr.sliceBound, Sem.run_pure, asIntOf, if_pos h1, Try.sizeOf52]
  simp [subM]
theorem slMl (a : Option Addr) (n c k : Nat) (hk : k ≤ n) (w : World) : (Instr.slice 50 (.slice a n c) (some (.int .i64 (k : Int))) none none).run Try.prog w = .ok (.slice (subM a c k) (n - k) (c - k)) w := by
  have h1 : (0 : Int) ≤ k ∧ (k : Int) ≤ n := by omega
  simp only [Instr.slice, Sem.run_bind, run_underlying Try.underlying50, Result.andThen_ok, Instr.sliceBounds, Instr.sliceBound, Sem.run_pure, asIntOf, if_pos h1, Try.sizeOf52]
  simp [subM]
theorem slMb (a : Option Addr) (n c k h : Nat) (hk : k ≤ h) (hh : h ≤ c) (w : World) : (Instr.slice 50 (.slice a n c) (some (.int .i64 (k : Int))) (some (.int .i64 (h : Int))) none).run Try.prog w = .ok (.slice (subM a c k) (h - k) (c - k)) w := by
  have h1 : (0 : Int) ≤ h ∧ (h : Int) ≤ c := by omega
  have h2 : (0 : Int) ≤ k ∧ (k : Int) ≤ h := by omega
  simp only [Instr.slice, Sem.run_bind, run_underlying Try.underlying50, Result.andThen_ok, Instr.sliceBounds, Instr.sliceBound, Sem.run_pure, asIntOf, if_pos h1, Try.sizeOf52]
  simp [subM, h2]
theorem wrapM (k : Nat) (hk : k ≤ 1000) : IntKind.i64.wrap ((k : Int) + 1) = ((k + 1 : Nat) : Int) := by
  rw [show ((k + 1 : Nat) : Int) = (k : Int) + 1 from by omega]
  simp [IntKind.wrap, IntKind.bits, IntKind.signed]
  omega
/-- a part of a row -/
theorem mails_part {w : World} {a : Option Addr} {n c : Nat} {ps : List (Wy.Mail × Value)} (h : MailsAt w (.slice a n c) ps) (l m : Nat) (hm : l + m ≤ ps.length) : MailsAt w (.slice (subM a c l) m (c - l)) ((ps.drop l).take m) := by
  obtain ⟨hl, p', c', e, hc, h1, h2, h3, h4⟩ := h
  simp only [Value.slice.injEq] at e
  obtain ⟨rfl, rfl, rfl⟩ := e
  have hlen : ((ps.drop l).take m).length = m := by rw [List.length_take, List.length_drop]; omega
  have hmem : ∀ q ∈ (ps.drop l).take m, PinsAt w q.2 q.1.lock := fun q hq => h4 q (List.mem_of_mem_drop (List.mem_of_mem_take hq))
  by_cases hcl : c = l
  · have hm0 : m = 0 := by omega
    have : (ps.drop l).take m = [] := by rw [hm0, List.take_zero]
    refine ⟨by omega, subM a c l, c - l, by rw [hlen], by omega, fun _ => ⟨by omega, by omega⟩, fun ad _ h0 => by omega, fun ad _ j u hu => ?_, hmem⟩
    rw [this] at hu; cases hu
  · cases a with
    | none => exact absurd (h1 rfl).1 (by omega)
    | some ad =>
      have hs : subM (some ad) c l = some (ad.add (l * 6)) := by unfold subM; rw [if_neg hcl]; rfl
      refine ⟨by omega, some (ad.add (l * 6)), c - l, by rw [hlen, hs], by omega, (fun e => by cases e), fun ad' e h0 => ?_, fun ad' e j u hu => ?_, hmem⟩
      · cases e
        obtain ⟨g1, g2⟩ := h2 ad rfl (by omega)
        obtain ⟨b, o, s⟩ := ad
        simp only at g1 g2
        subst g1
        rw [WideShapes.add_plain]
        exact ⟨rfl, g2⟩
      · cases e
        have hpos : 0 < ps.length := by have := flatM_pos hu; omega
        obtain ⟨g1, g2⟩ := h2 ad rfl hpos
        obtain ⟨b, o, s⟩ := ad
        simp only at g1 g2
        subst g1
        rw [WideShapes.add_plain, WideShapes.add_plain, Nat.add_assoc, ← WideShapes.add_plain b o]
        refine h3 _ rfl _ _ ?_
        have e1 : flatM ps = flatM (ps.take l) ++ (flatM ((ps.drop l).take m) ++ flatM ((ps.drop l).drop m)) := by rw [← flatM_append, ← flatM_append, List.take_append_drop, List.take_append_drop]
        have e2 : (flatM (ps.take l)).length = l * 6 := by rw [flatM_len, List.length_take]; congr 1; omega
        have hj := (List.getElem?_eq_some_iff.1 hu).1
        rw [e1, List.getElem?_append_right (by omega), e2, Nat.add_sub_cancel_left, List.getElem?_append_left hj]
        exact hu
theorem New.set {B : Nat} {Q : World → Prop} {w : World} (h : New B Q w) {a : Addr} (ha : a.block < B) (z : Value) : New B Q (w.setCell a z) := Keep.set h ha z
theorem New.below {B : Nat} {Q : World → Prop} {w w' : World} (h : New B Q w) (hb : Below w.heap.size w w') : New B Q w' := Keep.below h hb
set_option maxHeartbeats 16000000 in
set_option maxRecDepth 100000 in
theorem mlTake_any (va : Value) (ps : List (Wy.Mail × Value)) (k : Int) (tw : Bool) (w : World) (hA : MailsAt w va ps) :
    Calls Try.prog 15 #[va, .int .i64 k, .bool tw] w fun e w' => (∃ y rs v, e = .returned (.tuple #[y, mailV (Wy.takeM (ps.map Prod.fst) k tw).2.1 v, .int .i64 (Wy.takeM (ps.map Prod.fst) k tw).2.2]) ∧ MailsAt w' y rs ∧ rs.map Prod.fst = (Wy.takeM (ps.map Prod.fst) k tw).1 ∧ PinsAt w' v (Wy.takeM (ps.map Prod.fst) k tw).2.1.lock) ∧ Below w.heap.size w w' := by
  obtain ⟨la, lc, rfl⟩ := mails_slice hA
  have HA : Hid (MailsAt w (.slice la ps.length lc) ps) := hA
  have hpl : ps.length ≤ 140737488355328 := hA.1
  have hroom : ps.length ≤ lc := by
    obtain ⟨_, p', c', e, hc, _⟩ := hA
    simp only [Value.slice.injEq] at e
    rw [e.2.2]; exact hc
  have H1 : Hid (∀ w', Below w.heap.size w w' → Calls Try.prog 18 #[.slice la ps.length lc] w' fun e w'' => e = .returned (.int .i64 (Wy.chkMail (ps.map Prod.fst))) ∧ Below w'.heap.size w' w'') := fun w' hb => mlCheck_any _ ps w' (hA.below hb)
  clear hA
  have HZB := box1 w #[.int .i64 0, .int .i64 0, .bool false, .bool false, .int .i64 0, .slice none 0 0] 52
  go_enter Try.func15, Try.ntmps15
  go_wp2_with fail
  generalize (w.alloc (.cells #[.int .i64 0, .int .i64 0, .bool false, .bool false, .int .i64 0, .slice none 0 0] 52)) = V at HZB ⊢
  obtain ⟨hB0, hZ0⟩ := HZB
  refine (H1.out _ hB0).mono ?_
  rintro e w1 ⟨rfl, hb1⟩
  have HB1 : Hid (Below w.heap.size w w1) := hB0.trans (hb1.mono hB0.size)
  have HZ1 : Hid (Blk w1 w.heap.size #[.int .i64 0, .int .i64 0, .bool false, .bool false, .int .i64 0, .slice none 0 0] 52) := hZ0.below hb1
  clear hb1 hB0 hZ0 H1
  by_cases e0 : Wy.chkMail (ps.map Prod.fst) = 0
  rotate_left
  · have HT : Hid (Wy.takeM (ps.map Prod.fst) k tw = ([], Wy.Mail.none, Wy.chkMail (ps.map Prod.fst))) := by show _ = _; rw [Wy.takeM, if_neg e0]
    obtain ⟨E, hE⟩ : ∃ E, E = Wy.chkMail (ps.map Prod.fst) := ⟨_, rfl⟩
    rw [← hE] at e0 HT ⊢
    have e0' : (E != 0) = true := by simpa using e0
    clear hE
    have hz1 := HZ1.out
    have z0 := hz1.cell 0
    have z1 := hz1.cell 1
    have z2 := hz1.cell 2
    have z3 := hz1.cell 3
    have z4 := hz1.cell 4
    have z5 := hz1.cell 5
    simp only [List.getElem?_toArray, List.getElem?_cons_zero, List.getElem?_cons_succ] at z0 z1 z2 z3 z4 z5
    have zf0 := hz1.free 0
    have zf1 := hz1.free 1
    have zf2 := hz1.free 2
    have zf3 := hz1.free 3
    have zf4 := hz1.free 4
    have zf5 := hz1.free 5
    clear hz1 e0 HA
    go_wp2
    refine bodyPost_ret (v := .tuple #[.slice none 0 0, .agg #[.int .i64 0, .int .i64 0, .bool false, .bool false, .int .i64 0, .slice none 0 0], .int .i64 E]) (by simp [results, Try.results15, go_sem, z0, z1, z2, z3, z4, z5]) rfl ⟨⟨.slice none 0 0, [], .slice none 0 0, ?_, mails_none _, ?_, ?_⟩, ?_⟩
    · rw [HT.out]; rfl
    · rw [HT.out]; rfl
    · rw [HT.out]; exact pins_none _
    · exact (((((HB1.out.setCell (Nat.le_refl _) _).setCell (Nat.le_refl _) _).setCell (Nat.le_refl _) _).setCell (Nat.le_refl _) _).setCell (Nat.le_refl _) _).setCell (Nat.le_refl _) _
  rw [e0]
  have h40 : ps.length ≤ 40 := by have := (Wy.chkMail_len e0).1; rwa [List.length_map] at this
  have H12 : Hid (∀ q ∈ ps, q.1.lock.length ≤ 12) := fun q hq => Wy.chkMail_lock e0 q.1 (List.mem_map_of_mem hq)
  by_cases hin : 0 ≤ k ∧ k < ps.length
  rotate_left
  · have HT : Hid (Wy.takeM (ps.map Prod.fst) k tw = ([], Wy.Mail.none, 5)) := by show _ = _; rw [Wy.takeM, if_pos e0, if_neg (by rw [List.length_map]; exact hin)]
    have hz1 := HZ1.out
    have z0 := hz1.cell 0
    have z1 := hz1.cell 1
    have z2 := hz1.cell 2
    have z3 := hz1.cell 3
    have z4 := hz1.cell 4
    have z5 := hz1.cell 5
    simp only [List.getElem?_toArray, List.getElem?_cons_zero, List.getElem?_cons_succ] at z0 z1 z2 z3 z4 z5
    have zf0 := hz1.free 0
    have zf1 := hz1.free 1
    have zf2 := hz1.free 2
    have zf3 := hz1.free 3
    have zf4 := hz1.free 4
    have zf5 := hz1.free 5
    clear hz1 e0 HA H12
    have hcs : k < 0 ∨ (0 ≤ k ∧ decide (k ≤ (ps.length : Int) - 1) = false) := by
      by_cases h : 0 ≤ k
      · exact .inr ⟨h, decide_eq_false (by omega)⟩
      · exact .inl (by omega)
    rcases hcs with hc | ⟨hc, hc2⟩
    all_goals
      clear hin
      go_wp2_with go_in
      refine bodyPost_ret (v := .tuple #[.slice none 0 0, .agg #[.int .i64 0, .int .i64 0, .bool false, .bool false, .int .i64 0, .slice none 0 0], .int .i64 5]) (by simp [results, Try.results15, go_sem, z0, z1, z2, z3, z4, z5]) rfl ⟨⟨.slice none 0 0, [], .slice none 0 0, ?_, mails_none _, ?_, ?_⟩, ?_⟩
      · rw [HT.out]; rfl
      · rw [HT.out]; rfl
      · rw [HT.out]; exact pins_none _
      · exact (((((HB1.out.setCell (Nat.le_refl _) _).setCell (Nat.le_refl _) _).setCell (Nat.le_refl _) _).setCell (Nat.le_refl _) _).setCell (Nat.le_refl _) _).setCell (Nat.le_refl _) _
  obtain ⟨hk0, hk1⟩ := hin
  obtain ⟨j, rfl⟩ : ∃ j : Nat, k = j := ⟨k.toNat, by omega⟩
  have hjn : j < ps.length := by omega
  obtain ⟨⟨r, v⟩, hr⟩ : ∃ x, ps[j]? = some x := ⟨_, List.getElem?_eq_getElem hjn⟩
  have HT : Hid (Wy.takeM (ps.map Prod.fst) (j : Int) tw = (if tw = true then ps.map Prod.fst else (ps.map Prod.fst).eraseIdx j, r, 0)) := by
    show _ = _
    rw [Wy.takeM, if_pos e0, if_pos (by rw [List.length_map]; exact ⟨hk0, hk1⟩)]
    simp only [Int.toNat_natCast]
    congr 2
    rw [List.getD_eq_getElem?_getD, List.getElem?_map, hr]; rfl
  have hP1 := mails_part HA.out 0 j (by omega)
  have hP2 := mails_part HA.out (j + 1) (ps.length - (j + 1)) (by omega)
  rw [List.drop_zero, Nat.sub_zero] at hP1
  rw [List.take_of_length_le (by rw [List.length_drop]; omega)] at hP2
  have hs1 := fun w => slMh la ps.length lc j (by omega) w
  have hs2 := fun w => slMl la ps.length lc (j + 1) (by omega) w
  have hs3 : ∀ w, (Instr.slice 50 (.slice la ps.length lc) (some (.int .i64 ((j : Int) + 1))) none none).run Try.prog w = .ok (.slice (subM la lc (j + 1)) (ps.length - (j + 1)) (lc - (j + 1))) w := fun w => by have := hs2 w; rwa [Int.natCast_add] at this
  have hwr0 : IntKind.i64.wrap ((j : Int) + 1) = ((j + 1 : Nat) : Int) := wrapM j (by omega)
  have hs4 : ∀ w, (Instr.slice 50 (.slice la ps.length lc) (some (.int .i64 (IntKind.i64.wrap ((j : Int) + 1)))) none none).run Try.prog w = .ok (.slice (subM la lc (j + 1)) (ps.length - (j + 1)) (lc - (j + 1))) w := fun w => by rw [hwr0]; exact hs2 w
  generalize subM la lc 0 = A1 at hP1 hs1
  generalize subM la lc (j + 1) = A2 at hP2 hs2 hs3 hs4
  have HP1 : Hid (MailsAt w (.slice A1 j lc) (ps.take j)) := hP1
  have HP2 : Hid (MailsAt w (.slice A2 (ps.length - (j + 1)) (lc - (j + 1))) (ps.drop (j + 1))) := hP2
  obtain ⟨b1, o1, rfl, hb1, x0, x1, x2, x3, x4, x5⟩ := mails_at (HA.out.below HB1.out) hr
  have hp := mails_pins (HA.out.below HB1.out) (r, v) (List.mem_of_getElem? hr)
  have hrl : r.lock.length ≤ 12 := H12.out (r, v) (List.mem_of_getElem? hr)
  have hER : Hid ((ps.take j ++ ps.drop (j + 1)).map Prod.fst = (ps.map Prod.fst).eraseIdx j) := by show _ = _; rw [List.eraseIdx_eq_take_drop_succ, List.map_append, List.map_take, List.map_drop]
  have hkd : decide ((j : Int) ≤ (ps.length : Int) - 1) = true := decide_eq_true (by omega)
  have hmem := List.mem_of_getElem? hr
  clear e0 hP1 hP2 hwr0 hs2
  go_wp2_with go_in
  clear hkd
  go_region
  have hk2 := box1 w1 #[.slice A1 j lc, .slice A2 (ps.length - (j + 1)) (lc - (j + 1))] 85
  have HZW : Hid (Blk (w1.alloc (.cells #[.slice A1 j lc, .slice A2 (ps.length - (j + 1)) (lc - (j + 1))] 85)).drew w.heap.size #[.int .i64 0, .int .i64 0, .bool false, .bool false, .int .i64 0, .slice none 0 0] 52) := (HZ1.out.below hk2.1).below (Below.refl _ _).drew
  have HPW : Hid (Blk (w1.alloc (.cells #[.slice A1 j lc, .slice A2 (ps.length - (j + 1)) (lc - (j + 1))] 85)).drew w1.heap.size #[.slice A1 j lc, .slice A2 (ps.length - (j + 1)) (lc - (j + 1))] 85) := hk2.2.below (Below.refl _ _).drew
  have HBW : Hid (Below w.heap.size w (w1.alloc (.cells #[.slice A1 j lc, .slice A2 (ps.length - (j + 1)) (lc - (j + 1))] 85)).drew) := (HB1.out.trans (hk2.1.mono HB1.out.size)).drew
  have hZP : w.heap.size < w1.heap.size := HZ1.out.lt
  have hZw : w.heap.size ≤ w.heap.size := Nat.le_refl _
  obtain ⟨r1, r2, r3, r4, r5, r6⟩ := r
  obtain ⟨va, vc, rfl⟩ := pins_slice (show PinsAt w1 v r6 from hp)
  have hpw : PinsAt w (.slice va r6.length vc) r6 := mails_pins HA.out (⟨r1, r2, r3, r4, r5, r6⟩, .slice va r6.length vc) hmem
  have HM : Hid (∀ w', Below w.heap.size w w' → Calls Try.prog 45 #[mailV ⟨r1, r2, r3, r4, r5, r6⟩ (.slice va r6.length vc)] w' fun e w'' => (∃ y, e = .returned (mailV ⟨r1, r2, r3, r4, r5, r6⟩ y) ∧ PinsNew w'' w'.heap.size y r6) ∧ Below w'.heap.size w' w'') := fun w' hb => wMail_any ⟨r1, r2, r3, r4, r5, r6⟩ _ w' (hpw.below hb) hrl
  unfold mailV at HM
  simp only at HM
  clear x0 x1 x2 x3 x4 x5 hb1
  obtain ⟨bb, oo, ebo, hb1, x0, x1, x2, x3, x4, x5⟩ := mails_at HA.out hr
  cases ebo
  simp only at x0 x1 x2 x3 x4 x5
  generalize hn : r6.length = n at HM x5
  clear hk2 hp hpw HZ1 HB1 hr hmem
  generalize (w1.alloc (.cells #[.slice A1 j lc, .slice A2 (ps.length - (j + 1)) (lc - (j + 1))] 85)).drew = W at HZW HPW HBW ⊢
  generalize w1.heap.size = PB at hZP HPW ⊢
  have hne1 : b1 ≠ w.heap.size := by omega
  cases tw
  · skip
    have HJ : Hid (∀ w', Below w.heap.size w w' → Calls Try.prog 43 #[.agg #[.slice A1 j lc, .slice A2 (ps.length - (j + 1)) (lc - (j + 1))]] w' fun e w'' => (∃ v rs, e = .returned v ∧ New w'.heap.size (fun w => MailsAt w v rs) w'' ∧ rs.map Prod.fst = (ps.map Prod.fst).eraseIdx j) ∧ Below w'.heap.size w' w'') := fun w' hb => by have := joined_any _ _ (ps.take j) (ps.drop (j + 1)) w' (HP1.out.below hb) (HP2.out.below hb) (by rw [List.length_take, List.length_drop]; omega) (fun q hq => (List.mem_append.1 hq).elim (fun h => H12.out q (List.mem_of_mem_take h)) (fun h => H12.out q (List.mem_of_mem_drop h))); rwa [← List.map_append, hER.out] at this
    have hHBd : Below w.heap.size w W.drew := HBW.out.drew
    have HBd : Hid (Below w.heap.size w W.drew) := hHBd
    have hZd := HZW.out.below (Below.refl _ W).drew
    have HZd : Hid (Blk W.drew w.heap.size #[.int .i64 0, .int .i64 0, .bool false, .bool false, .int .i64 0, .slice none 0 0] 52) := hZd
    have hPd := HPW.out.below (Below.refl _ W).drew
    have HPd : Hid (Blk W.drew PB #[.slice A1 j lc, .slice A2 (ps.length - (j + 1)) (lc - (j + 1))] 85) := hPd
    have hs1d : w.heap.size + 1 ≤ W.drew.heap.size := hZd.lt
    have pd0 := hPd.cell 0
    have pd1 := hPd.cell 1
    simp only [List.getElem?_toArray, List.getElem?_cons_zero, List.getElem?_cons_succ] at pd0 pd1
    have xd0 := (hHBd.cell (p := ⟨b1, o1 + j * 6, none⟩) hb1).trans x0
    have xd1 := (hHBd.cell (p := ⟨b1, o1 + j * 6 + 1, none⟩) hb1).trans x1
    have xd2 := (hHBd.cell (p := ⟨b1, o1 + j * 6 + 2, none⟩) hb1).trans x2
    have xd3 := (hHBd.cell (p := ⟨b1, o1 + j * 6 + 3, none⟩) hb1).trans x3
    have xd4 := (hHBd.cell (p := ⟨b1, o1 + j * 6 + 4, none⟩) hb1).trans x4
    have xd5 := (hHBd.cell (p := ⟨b1, o1 + j * 6 + 5, none⟩) hb1).trans x5
    clear hHBd hPd hZd HZW HPW HBW
    try go_wp2_with fail
    go_region_with (first | (go_at_call 43; refine (HJ.out _ (by first | exact HBd.out | exact HBm.out | exact ((((((HBm.out.setCell hZw _).setCell hZw _).setCell hZw _).setCell hZw _).setCell hZw _).setCell hZw _))).mono ?_; rintro e wj ⟨⟨vj, rs, rfl, hMj, hrs⟩, hbj⟩; obtain ⟨ja, jc, rfl⟩ := mails_slice hMj.here; have HRS : Hid (rs.map Prod.fst = _) := hrs; have HCj : Hid (Below _ _ wj) := hbj; have HBj : Hid (Below w.heap.size w wj) := (by first | exact HBd.out.trans (hbj.mono HBd.out.size) | exact HBm.out.trans (hbj.mono HBm.out.size) | exact ((((((HBm.out.setCell hZw _).setCell hZw _).setCell hZw _).setCell hZw _).setCell hZw _).setCell hZw _).trans (hbj.mono ((((((HBm.out.setCell hZw _).setCell hZw _).setCell hZw _).setCell hZw _).setCell hZw _).setCell hZw _).size)); have HMj : Hid (New (w.heap.size + 1) (fun w => MailsAt w (.slice ja rs.length jc) rs) wj) := New.mono hMj (by first | exact hs1d | exact hs1m | (simp only [World.size_setCell]; exact hs1m)); (first | (have hzj := HZd.out.below hbj; have HZj : Hid (Blk wj w.heap.size #[.int .i64 0, .int .i64 0, .bool false, .bool false, .int .i64 0, .slice none 0 0] 52) := hzj; have hs1j : w.heap.size + 1 ≤ wj.heap.size := hzj.lt; have zj0 := hzj.cell 0; have zj1 := hzj.cell 1; have zj2 := hzj.cell 2; have zj3 := hzj.cell 3; have zj4 := hzj.cell 4; have zj5 := hzj.cell 5; simp only [List.getElem?_toArray, List.getElem?_cons_zero, List.getElem?_cons_succ] at zj0 zj1 zj2 zj3 zj4 zj5; have zjf0 := hzj.free 0; have zjf1 := hzj.free 1; have zjf2 := hzj.free 2; have zjf3 := hzj.free 3; have zjf4 := hzj.free 4; have zjf5 := hzj.free 5; clear hzj) | (have hzj := HZm.out.below hbj; have hs1j : w.heap.size + 1 ≤ wj.heap.size := hzj.lt; have zj0 := hzj.cell 0; have zj1 := hzj.cell 1; have zj2 := hzj.cell 2; have zj3 := hzj.cell 3; have zj4 := hzj.cell 4; have zj5 := hzj.cell 5; simp only [List.getElem?_toArray, List.getElem?_cons_zero, List.getElem?_cons_succ] at zj0 zj1 zj2 zj3 zj4 zj5; have zjf0 := hzj.free 0; have zjf1 := hzj.free 1; have zjf2 := hzj.free 2; have zjf3 := hzj.free 3; have zjf4 := hzj.free 4; have zjf5 := hzj.free 5; clear hzj) | skip); have xj0 := (HBj.out.cell (p := ⟨b1, o1 + j * 6, none⟩) hb1).trans x0; have xj1 := (HBj.out.cell (p := ⟨b1, o1 + j * 6 + 1, none⟩) hb1).trans x1; have xj2 := (HBj.out.cell (p := ⟨b1, o1 + j * 6 + 2, none⟩) hb1).trans x2; have xj3 := (HBj.out.cell (p := ⟨b1, o1 + j * 6 + 3, none⟩) hb1).trans x3; have xj4 := (HBj.out.cell (p := ⟨b1, o1 + j * 6 + 4, none⟩) hb1).trans x4; have xj5 := (HBj.out.cell (p := ⟨b1, o1 + j * 6 + 5, none⟩) hb1).trans x5; clear hMj hrs hbj) | (go_at_call 45; refine (HM.out _ (by first | exact HBd.out | exact HBj.out)).mono ?_; rintro e wm ⟨⟨y, rfl, hy⟩, hbm⟩; obtain ⟨ya, yc, rfl⟩ := pins_slice hy.pins; rw [hn] at hy ⊢; have HCm : Hid (Below _ _ wm) := hbm; have HBm : Hid (Below w.heap.size w wm) := (by first | exact HBd.out.trans (hbm.mono HBd.out.size) | exact HBj.out.trans (hbm.mono HBj.out.size)); have HYm : Hid (PinsNew wm (w.heap.size + 1) (.slice ya n yc) r6) := hy.mono (by first | exact hs1d | exact hs1j); (first | (have hzm := HZd.out.below hbm; have HZm : Hid (Blk wm w.heap.size #[.int .i64 0, .int .i64 0, .bool false, .bool false, .int .i64 0, .slice none 0 0] 52) := hzm; have hs1m : w.heap.size + 1 ≤ wm.heap.size := hzm.lt; have zm0 := hzm.cell 0; have zm1 := hzm.cell 1; have zm2 := hzm.cell 2; have zm3 := hzm.cell 3; have zm4 := hzm.cell 4; have zm5 := hzm.cell 5; simp only [List.getElem?_toArray, List.getElem?_cons_zero, List.getElem?_cons_succ] at zm0 zm1 zm2 zm3 zm4 zm5; have zmf0 := hzm.free 0; have zmf1 := hzm.free 1; have zmf2 := hzm.free 2; have zmf3 := hzm.free 3; have zmf4 := hzm.free 4; have zmf5 := hzm.free 5; have hpm := HPd.out.below hbm; have pm0 := hpm.cell 0; have pm1 := hpm.cell 1; simp only [List.getElem?_toArray, List.getElem?_cons_zero, List.getElem?_cons_succ] at pm0 pm1; clear hzm hpm) | (have hzm := HZj.out.below hbm; have hs1m : w.heap.size + 1 ≤ wm.heap.size := hzm.lt; have zm0 := hzm.cell 0; have zm1 := hzm.cell 1; have zm2 := hzm.cell 2; have zm3 := hzm.cell 3; have zm4 := hzm.cell 4; have zm5 := hzm.cell 5; simp only [List.getElem?_toArray, List.getElem?_cons_zero, List.getElem?_cons_succ] at zm0 zm1 zm2 zm3 zm4 zm5; have zmf0 := hzm.free 0; have zmf1 := hzm.free 1; have zmf2 := hzm.free 2; have zmf3 := hzm.free 3; have zmf4 := hzm.free 4; have zmf5 := hzm.free 5; clear hzm)); clear hy hbm))
    all_goals
      go_wp2
      refine bodyPost_ret (v := .tuple #[.slice ja rs.length jc, .agg #[.int .i64 r1, .int .i64 r2, .bool r3, .bool r4, .int .i64 r5, .slice ya n yc], .int .i64 0]) (by simp [results, Try.results15, go_sem, zm0, zm1, zm2, zm3, zm4, zm5]) rfl ⟨⟨.slice ja rs.length jc, rs, .slice ya n yc, ?_, ?_, ?_, ?_⟩, ?_⟩
      · rw [HT.out]; rfl
      · exact (New.set (New.set (New.set (New.set (New.set (New.set (HMj.out.below HCm.out) (a := ⟨w.heap.size, 0, none⟩) (Nat.lt_succ_self _) _) (a := ⟨w.heap.size, 1, none⟩) (Nat.lt_succ_self _) _) (a := ⟨w.heap.size, 2, none⟩) (Nat.lt_succ_self _) _) (a := ⟨w.heap.size, 3, none⟩) (Nat.lt_succ_self _) _) (a := ⟨w.heap.size, 4, none⟩) (Nat.lt_succ_self _) _) (a := ⟨w.heap.size, 5, none⟩) (Nat.lt_succ_self _) _).here
      · rw [HT.out]; exact HRS.out
      · rw [HT.out]; exact ((((((HYm.out.set (Nat.lt_succ_self _)).set (Nat.lt_succ_self _)).set (Nat.lt_succ_self _)).set (Nat.lt_succ_self _)).set (Nat.lt_succ_self _)).set (Nat.lt_succ_self _)).pins
      · exact ((((((HBm.out.setCell hZw _).setCell hZw _).setCell hZw _).setCell hZw _).setCell hZw _).setCell hZw _)
  · have pw0 := HPW.out.cell 0
    have pw1 := HPW.out.cell 1
    simp only [List.getElem?_toArray, List.getElem?_cons_zero, List.getElem?_cons_succ] at pw0 pw1
    have pwf0 := HPW.out.free 0
    have pwf1 := HPW.out.free 1
    have HZX : Hid (Blk ((W.setCell ⟨PB, 0, none⟩ (.slice (some ⟨b1, o1, none⟩) ps.length lc)).setCell ⟨PB, 1, none⟩ (.slice none 0 0)) w.heap.size #[.int .i64 0, .int .i64 0, .bool false, .bool false, .int .i64 0, .slice none 0 0] 52) := (HZW.out.off (by omega)).off (by omega)
    have HPX : Hid (Blk ((W.setCell ⟨PB, 0, none⟩ (.slice (some ⟨b1, o1, none⟩) ps.length lc)).setCell ⟨PB, 1, none⟩ (.slice none 0 0)) PB #[.slice (some ⟨b1, o1, none⟩) ps.length lc, .slice none 0 0] 85) := (HPW.out.put 0 _).put 1 _
    have hZPle : w.heap.size ≤ PB := Nat.le_of_lt hZP
    have HBX : Hid (Below w.heap.size w ((W.setCell ⟨PB, 0, none⟩ (.slice (some ⟨b1, o1, none⟩) ps.length lc)).setCell ⟨PB, 1, none⟩ (.slice none 0 0))) := (HBW.out.setCell hZPle _).setCell hZPle _
    clear HZW HPW HBW
    go_wp2_with fail
    clear pw0 pw1 pwf0 pwf1
    generalize ((W.setCell ⟨PB, 0, none⟩ (.slice (some ⟨b1, o1, none⟩) ps.length lc)).setCell ⟨PB, 1, none⟩ (.slice none 0 0)) = W at HZX HPX HBX ⊢
    have HZW := HZX
    have HPW := HPX
    have HBW := HBX
    clear HZX HPX HBX
    have HJ : Hid (∀ w', Below w.heap.size w w' → Calls Try.prog 43 #[.agg #[.slice (some ⟨b1, o1, none⟩) ps.length lc, .slice none 0 0]] w' fun e w'' => (∃ v rs, e = .returned v ∧ New w'.heap.size (fun w => MailsAt w v rs) w'' ∧ rs.map Prod.fst = ps.map Prod.fst) ∧ Below w'.heap.size w' w'') := fun w' hb => by have := joined_any _ _ ps [] w' (HA.out.below hb) (mails_none _) (by simp; omega) (fun q hq => H12.out q (by simpa using hq)); rwa [List.map_nil, List.append_nil] at this
    have hHBd : Below w.heap.size w W.drew := HBW.out.drew
    have HBd : Hid (Below w.heap.size w W.drew) := hHBd
    have hZd := HZW.out.below (Below.refl _ W).drew
    have HZd : Hid (Blk W.drew w.heap.size #[.int .i64 0, .int .i64 0, .bool false, .bool false, .int .i64 0, .slice none 0 0] 52) := hZd
    have hPd := HPW.out.below (Below.refl _ W).drew
    have HPd : Hid (Blk W.drew PB #[.slice (some ⟨b1, o1, none⟩) ps.length lc, .slice none 0 0] 85) := hPd
    have hs1d : w.heap.size + 1 ≤ W.drew.heap.size := hZd.lt
    have pd0 := hPd.cell 0
    have pd1 := hPd.cell 1
    simp only [List.getElem?_toArray, List.getElem?_cons_zero, List.getElem?_cons_succ] at pd0 pd1
    have xd0 := (hHBd.cell (p := ⟨b1, o1 + j * 6, none⟩) hb1).trans x0
    have xd1 := (hHBd.cell (p := ⟨b1, o1 + j * 6 + 1, none⟩) hb1).trans x1
    have xd2 := (hHBd.cell (p := ⟨b1, o1 + j * 6 + 2, none⟩) hb1).trans x2
    have xd3 := (hHBd.cell (p := ⟨b1, o1 + j * 6 + 3, none⟩) hb1).trans x3
    have xd4 := (hHBd.cell (p := ⟨b1, o1 + j * 6 + 4, none⟩) hb1).trans x4
    have xd5 := (hHBd.cell (p := ⟨b1, o1 + j * 6 + 5, none⟩) hb1).trans x5
    clear hHBd hPd hZd HZW HPW HBW
    try go_wp2_with fail
    go_region_with (first | (go_at_call 43; refine (HJ.out _ (by first | exact HBd.out | exact HBm.out | exact ((((((HBm.out.setCell hZw _).setCell hZw _).setCell hZw _).setCell hZw _).setCell hZw _).setCell hZw _))).mono ?_; rintro e wj ⟨⟨vj, rs, rfl, hMj, hrs⟩, hbj⟩; obtain ⟨ja, jc, rfl⟩ := mails_slice hMj.here; have HRS : Hid (rs.map Prod.fst = _) := hrs; have HCj : Hid (Below _ _ wj) := hbj; have HBj : Hid (Below w.heap.size w wj) := (by first | exact HBd.out.trans (hbj.mono HBd.out.size) | exact HBm.out.trans (hbj.mono HBm.out.size) | exact ((((((HBm.out.setCell hZw _).setCell hZw _).setCell hZw _).setCell hZw _).setCell hZw _).setCell hZw _).trans (hbj.mono ((((((HBm.out.setCell hZw _).setCell hZw _).setCell hZw _).setCell hZw _).setCell hZw _).setCell hZw _).size)); have HMj : Hid (New (w.heap.size + 1) (fun w => MailsAt w (.slice ja rs.length jc) rs) wj) := New.mono hMj (by first | exact hs1d | exact hs1m | (simp only [World.size_setCell]; exact hs1m)); (first | (have hzj := HZd.out.below hbj; have HZj : Hid (Blk wj w.heap.size #[.int .i64 0, .int .i64 0, .bool false, .bool false, .int .i64 0, .slice none 0 0] 52) := hzj; have hs1j : w.heap.size + 1 ≤ wj.heap.size := hzj.lt; have zj0 := hzj.cell 0; have zj1 := hzj.cell 1; have zj2 := hzj.cell 2; have zj3 := hzj.cell 3; have zj4 := hzj.cell 4; have zj5 := hzj.cell 5; simp only [List.getElem?_toArray, List.getElem?_cons_zero, List.getElem?_cons_succ] at zj0 zj1 zj2 zj3 zj4 zj5; have zjf0 := hzj.free 0; have zjf1 := hzj.free 1; have zjf2 := hzj.free 2; have zjf3 := hzj.free 3; have zjf4 := hzj.free 4; have zjf5 := hzj.free 5; clear hzj) | (have hzj := HZm.out.below hbj; have hs1j : w.heap.size + 1 ≤ wj.heap.size := hzj.lt; have zj0 := hzj.cell 0; have zj1 := hzj.cell 1; have zj2 := hzj.cell 2; have zj3 := hzj.cell 3; have zj4 := hzj.cell 4; have zj5 := hzj.cell 5; simp only [List.getElem?_toArray, List.getElem?_cons_zero, List.getElem?_cons_succ] at zj0 zj1 zj2 zj3 zj4 zj5; have zjf0 := hzj.free 0; have zjf1 := hzj.free 1; have zjf2 := hzj.free 2; have zjf3 := hzj.free 3; have zjf4 := hzj.free 4; have zjf5 := hzj.free 5; clear hzj) | skip); have xj0 := (HBj.out.cell (p := ⟨b1, o1 + j * 6, none⟩) hb1).trans x0; have xj1 := (HBj.out.cell (p := ⟨b1, o1 + j * 6 + 1, none⟩) hb1).trans x1; have xj2 := (HBj.out.cell (p := ⟨b1, o1 + j * 6 + 2, none⟩) hb1).trans x2; have xj3 := (HBj.out.cell (p := ⟨b1, o1 + j * 6 + 3, none⟩) hb1).trans x3; have xj4 := (HBj.out.cell (p := ⟨b1, o1 + j * 6 + 4, none⟩) hb1).trans x4; have xj5 := (HBj.out.cell (p := ⟨b1, o1 + j * 6 + 5, none⟩) hb1).trans x5; clear hMj hrs hbj) | (go_at_call 45; refine (HM.out _ (by first | exact HBd.out | exact HBj.out)).mono ?_; rintro e wm ⟨⟨y, rfl, hy⟩, hbm⟩; obtain ⟨ya, yc, rfl⟩ := pins_slice hy.pins; rw [hn] at hy ⊢; have HCm : Hid (Below _ _ wm) := hbm; have HBm : Hid (Below w.heap.size w wm) := (by first | exact HBd.out.trans (hbm.mono HBd.out.size) | exact HBj.out.trans (hbm.mono HBj.out.size)); have HYm : Hid (PinsNew wm (w.heap.size + 1) (.slice ya n yc) r6) := hy.mono (by first | exact hs1d | exact hs1j); (first | (have hzm := HZd.out.below hbm; have HZm : Hid (Blk wm w.heap.size #[.int .i64 0, .int .i64 0, .bool false, .bool false, .int .i64 0, .slice none 0 0] 52) := hzm; have hs1m : w.heap.size + 1 ≤ wm.heap.size := hzm.lt; have zm0 := hzm.cell 0; have zm1 := hzm.cell 1; have zm2 := hzm.cell 2; have zm3 := hzm.cell 3; have zm4 := hzm.cell 4; have zm5 := hzm.cell 5; simp only [List.getElem?_toArray, List.getElem?_cons_zero, List.getElem?_cons_succ] at zm0 zm1 zm2 zm3 zm4 zm5; have zmf0 := hzm.free 0; have zmf1 := hzm.free 1; have zmf2 := hzm.free 2; have zmf3 := hzm.free 3; have zmf4 := hzm.free 4; have zmf5 := hzm.free 5; have hpm := HPd.out.below hbm; have pm0 := hpm.cell 0; have pm1 := hpm.cell 1; simp only [List.getElem?_toArray, List.getElem?_cons_zero, List.getElem?_cons_succ] at pm0 pm1; clear hzm hpm) | (have hzm := HZj.out.below hbm; have hs1m : w.heap.size + 1 ≤ wm.heap.size := hzm.lt; have zm0 := hzm.cell 0; have zm1 := hzm.cell 1; have zm2 := hzm.cell 2; have zm3 := hzm.cell 3; have zm4 := hzm.cell 4; have zm5 := hzm.cell 5; simp only [List.getElem?_toArray, List.getElem?_cons_zero, List.getElem?_cons_succ] at zm0 zm1 zm2 zm3 zm4 zm5; have zmf0 := hzm.free 0; have zmf1 := hzm.free 1; have zmf2 := hzm.free 2; have zmf3 := hzm.free 3; have zmf4 := hzm.free 4; have zmf5 := hzm.free 5; clear hzm)); clear hy hbm))
    all_goals
      go_wp2
      refine bodyPost_ret (v := .tuple #[.slice ja rs.length jc, .agg #[.int .i64 r1, .int .i64 r2, .bool r3, .bool r4, .int .i64 r5, .slice ya n yc], .int .i64 0]) (by simp [results, Try.results15, go_sem, zm0, zm1, zm2, zm3, zm4, zm5]) rfl ⟨⟨.slice ja rs.length jc, rs, .slice ya n yc, ?_, ?_, ?_, ?_⟩, ?_⟩
      · rw [HT.out]; rfl
      · exact (New.set (New.set (New.set (New.set (New.set (New.set (HMj.out.below HCm.out) (a := ⟨w.heap.size, 0, none⟩) (Nat.lt_succ_self _) _) (a := ⟨w.heap.size, 1, none⟩) (Nat.lt_succ_self _) _) (a := ⟨w.heap.size, 2, none⟩) (Nat.lt_succ_self _) _) (a := ⟨w.heap.size, 3, none⟩) (Nat.lt_succ_self _) _) (a := ⟨w.heap.size, 4, none⟩) (Nat.lt_succ_self _) _) (a := ⟨w.heap.size, 5, none⟩) (Nat.lt_succ_self _) _).here
      · rw [HT.out]; exact HRS.out
      · rw [HT.out]; exact ((((((HYm.out.set (Nat.lt_succ_self _)).set (Nat.lt_succ_self _)).set (Nat.lt_succ_self _)).set (Nat.lt_succ_self _)).set (Nat.lt_succ_self _)).set (Nat.lt_succ_self _)).pins
      · exact ((((((HBm.out.setCell hZw _).setCell hZw _).setCell hZw _).setCell hZw _).setCell hZw _).setCell hZw _)
end Go.Proofs.Ytbdefihgplcdoae
