/- The contract of the document's CheckRec. -/
import Derived.Test.YtmlhipdfjnamiaaGreatN5
import Derived.Deep.CutRange
namespace Go.Proofs.YtmlhipdfjnamiaaGreat
open Go.RowKit Go.Maps
theorem UseMap.made (w : World) : UseMap (w.alloc (.map #[] 0)) w.heap.size 0 := World.ownsMap_made _ _ _ _
set_option maxHeartbeats 8000000 in
set_option maxRecDepth 100000 in
theorem recR_any (r : Lk.Note) (v : Value) (w : World) (hP : PinsAt w v r.lock) (hw : (Lit.int .i64 r.kind).wf = true) :
    Calls Tryz.prog 18 #[recV r v] w fun e w' => e = .returned (.int .i64 (Lk.chkNote r)) ∧ Below w.heap.size w w' := by
  obtain ⟨a, c, rfl⟩ := pins_slice hP
  have HP : Hid (PinsAt w (.slice a r.lock.length c) r.lock) := hP
  have HL : Hid (∀ w b, UseMap w b 9 → (Instr.lookup 89 (.map (some b)) (.int .i64 r.kind) true).run Tryz.prog w = .ok (.tuple #[.string ⟨(useS r.kind).toArray⟩, .bool (Lk.within r.kind 1 9)]) w) := fun w b h => look_use h r.kind hw
  have HR : Hid (∀ w, PinsAt w (.slice a r.lock.length c) r.lock → Calls Tryz.prog 55 #[.agg #[.int .i64 r.id, .slice a r.lock.length c]] w fun e w' => e = .returned (.int .i64 (Lk.chkRel r.id r.lock)) ∧ Below w.heap.size w w') := fun w h => releaseR_any r.id _ r.lock w h
  have hln := hP.1
  obtain ⟨hA, hT, hN, hG, hR⟩ := hasL_all r.kind
  have HSx : Hid (∀ w g c, w.cell? ⟨g, 0, none⟩ = some (.string ⟨(useS r.kind).toArray⟩) → Calls Tryz.prog 53 #[.string ⟨#[c]⟩, .pointer (some ⟨g, 0, none⟩)] w fun e w' => e = .returned (.bool (hasL r.kind c)) ∧ w' = w) := fun w g c hg => has_any _ c g w hg
  have HSA : Hid (hasL r.kind 65 = Lk.uA r.kind) := hA
  have HST : Hid (hasL r.kind 84 = Lk.uT r.kind) := hT
  have HSN : Hid (hasL r.kind 78 = Lk.uN r.kind) := hN
  have HSG : Hid (hasL r.kind 71 = Lk.uG r.kind) := hG
  have HSR : Hid (hasL r.kind 82 = Lk.uR r.kind) := hR
  have C0 : Hid (Lk.within r.kind 1 9 = false → Lk.chkNote r = 4) := chk_kind
  have C1 : Hid (Lk.unused r = true → Lk.chkNote r = 4) := chk_unused
  have C2 : Hid (Lk.within r.kind 1 9 = true → Lk.unused r = false → Lk.outside r = true → Lk.chkNote r = 3) := chk_out
  have C3 : Hid (Lk.within r.kind 1 9 = true → Lk.unused r = false → Lk.outside r = false → Lk.uR r.kind = true → Lk.chkNote r = Lk.chkRel r.id r.lock) := chk_rel
  have C4 : Hid (Lk.within r.kind 1 9 = true → Lk.unused r = false → Lk.outside r = false → Lk.uR r.kind = false → Lk.chkNote r = 0) := chk_zero
  have CU : Hid (Lk.unused r = ((r.agent != 0 && !Lk.uA r.kind) || (r.tr != 0 && !Lk.uT r.kind) || (r.n != 0 && !Lk.uN r.kind) || (r.good && !Lk.uG r.kind) || ((r.id != 0 || decide (0 < r.lock.length)) && !Lk.uR r.kind))) := rfl
  have CO : Hid (Lk.outside r = (!Lk.within r.agent 0 5 || (Lk.uT r.kind && !Lk.within r.tr 1 200) || (Lk.uN r.kind && !Lk.within r.n 1 6))) := rfl
  clear hP hw hA hT hN hG hR
  unfold recV
  generalize Lk.unused r = U at C1 C2 C3 C4 CU
  generalize Lk.outside r = O at C2 C3 C4 CO
  generalize Lk.chkNote r = CN at C0 C1 C2 C3 C4 ⊢
  generalize Lk.chkRel r.id r.lock = CR at C3 HR
  generalize Lk.within r.kind 1 9 = K at HL C0 C2 C3 C4
  generalize Lk.uA r.kind = bA at HSA CU
  generalize Lk.uT r.kind = bT at HST CU CO
  generalize Lk.uN r.kind = bN at HSN CU CO
  generalize Lk.uG r.kind = bG at HSG CU
  generalize Lk.uR r.kind = bR at HSR C3 C4 CU
  generalize hasL r.kind = hl at HSx HSA HST HSN HSG HSR
  generalize (⟨(useS r.kind).toArray⟩ : ByteArray) = S at HL HSx
  have HRec : Hid (RecAt (w.alloc (.cells #[.int .i64 r.kind, .int .i64 r.agent, .int .i64 r.tr, .int .i64 r.n, .bool r.good, .int .i64 r.id, .slice a r.lock.length c] 34)) w.heap.size r.kind r.agent r.tr r.n r.good r.id (.slice a r.lock.length c)) := recAt_alloc w r.kind r.agent r.tr r.n r.good r.id (.slice a r.lock.length c)
  have M0 : Hid (UseMap ((w.alloc (.cells #[.int .i64 r.kind, .int .i64 r.agent, .int .i64 r.tr, .int .i64 r.n, .bool r.good, .int .i64 r.id, .slice a r.lock.length c] 34)).alloc (.map #[] 0)) (w.heap.size + 1) 0) := by
    have := UseMap.made (w.alloc (.cells #[.int .i64 r.kind, .int .i64 r.agent, .int .i64 r.tr, .int .i64 r.n, .bool r.good, .int .i64 r.id, .slice a r.lock.length c] 34))
    rwa [World.size_alloc] at this
  have B0 : Hid (Below (w.heap.size + 1) (w.alloc (.cells #[.int .i64 r.kind, .int .i64 r.agent, .int .i64 r.tr, .int .i64 r.n, .bool r.good, .int .i64 r.id, .slice a r.lock.length c] 34)) ((w.alloc (.cells #[.int .i64 r.kind, .int .i64 r.agent, .int .i64 r.tr, .int .i64 r.n, .bool r.good, .int .i64 r.id, .slice a r.lock.length c] 34)).alloc (.map #[] 0))) := (Below.refl _ _).alloc (by simp) _
  have HB : Hid (Below w.heap.size w (w.alloc (.cells #[.int .i64 r.kind, .int .i64 r.agent, .int .i64 r.tr, .int .i64 r.n, .bool r.good, .int .i64 r.id, .slice a r.lock.length c] 34))) := (Below.refl _ w).alloc (Nat.le_refl _) _
  obtain ⟨rk, ra, rt, rn, rg, ri, rl⟩ := r
  simp only at *
  go_enter Tryz.func18, Tryz.ntmps18
  have hmm := @run_makeMap Tryz.prog
  go_upto_region 3 with (first
    | (guard_target = wpList _ _ _ (Oper.mk _ (Op.insert _ _ (.const (.int .i64 1)) _) _ _ _ _ :: _) _ _; refine wpList_insert_own _ rfl _ _ _ 89 rfl 3 9 keyedK Tryz.underlying89 _ (w.heap.size + 1) 0 (useD 0) rfl M0.out (by unfold maxLen; omega) _ _ (.int .i64 1) rfl rfl (keyK 1 (by decide)) (.lit (.string [84, 82])) [] (strS ⟨#[84, 82]⟩ (by decide)) ?_; intro x1 o1 g1; have M1 : Hid (UseMap x1 (w.heap.size + 1) 1) := o1; have B1 : Hid (Below (w.heap.size + 1) (w.alloc (.cells #[.int .i64 rk, .int .i64 ra, .int .i64 rt, .int .i64 rn, .bool rg, .int .i64 ri, .slice a rl.length c] 34)) x1) := B0.out.grown g1 (Nat.le_trans (by simp) B0.out.size) (fun j hj => by cases hj; exact Nat.le_refl _); clear o1 g1)
    | (guard_target = wpList _ _ _ (Oper.mk _ (Op.insert _ _ (.const (.int .i64 2)) _) _ _ _ _ :: _) _ _; refine wpList_insert_own _ rfl _ _ _ 89 rfl 3 9 keyedK Tryz.underlying89 _ (w.heap.size + 1) 1 (useD 1) rfl M1.out (by unfold maxLen; omega) _ _ (.int .i64 2) rfl rfl (keyK 2 (by decide)) (.lit (.string [84])) [] (strS ⟨#[84]⟩ (by decide)) ?_; intro x2 o2 g2; have M2 : Hid (UseMap x2 (w.heap.size + 1) 2) := o2; have B2 : Hid (Below (w.heap.size + 1) (w.alloc (.cells #[.int .i64 rk, .int .i64 ra, .int .i64 rt, .int .i64 rn, .bool rg, .int .i64 ri, .slice a rl.length c] 34)) x2) := B1.out.grown g2 (Nat.le_trans (by simp) B1.out.size) (fun j hj => by cases hj; exact Nat.le_refl _); clear o2 g2)
    | (guard_target = wpList _ _ _ (Oper.mk _ (Op.insert _ _ (.const (.int .i64 3)) _) _ _ _ _ :: _) _ _; refine wpList_insert_own _ rfl _ _ _ 89 rfl 3 9 keyedK Tryz.underlying89 _ (w.heap.size + 1) 2 (useD 2) rfl M2.out (by unfold maxLen; omega) _ _ (.int .i64 3) rfl rfl (keyK 3 (by decide)) (.lit (.string [84, 71])) [] (strS ⟨#[84, 71]⟩ (by decide)) ?_; intro x3 o3 g3; have M3 : Hid (UseMap x3 (w.heap.size + 1) 3) := o3; have B3 : Hid (Below (w.heap.size + 1) (w.alloc (.cells #[.int .i64 rk, .int .i64 ra, .int .i64 rt, .int .i64 rn, .bool rg, .int .i64 ri, .slice a rl.length c] 34)) x3) := B2.out.grown g3 (Nat.le_trans (by simp) B2.out.size) (fun j hj => by cases hj; exact Nat.le_refl _); clear o3 g3)
    | (guard_target = wpList _ _ _ (Oper.mk _ (Op.insert _ _ (.const (.int .i64 4)) _) _ _ _ _ :: _) _ _; refine wpList_insert_own _ rfl _ _ _ 89 rfl 3 9 keyedK Tryz.underlying89 _ (w.heap.size + 1) 3 (useD 3) rfl M3.out (by unfold maxLen; omega) _ _ (.int .i64 4) rfl rfl (keyK 4 (by decide)) (.lit (.string [82])) [] (strS ⟨#[82]⟩ (by decide)) ?_; intro x4 o4 g4; have M4 : Hid (UseMap x4 (w.heap.size + 1) 4) := o4; have B4 : Hid (Below (w.heap.size + 1) (w.alloc (.cells #[.int .i64 rk, .int .i64 ra, .int .i64 rt, .int .i64 rn, .bool rg, .int .i64 ri, .slice a rl.length c] 34)) x4) := B3.out.grown g4 (Nat.le_trans (by simp) B3.out.size) (fun j hj => by cases hj; exact Nat.le_refl _); clear o4 g4)
    | (guard_target = wpList _ _ _ (Oper.mk _ (Op.insert _ _ (.const (.int .i64 5)) _) _ _ _ _ :: _) _ _; refine wpList_insert_own _ rfl _ _ _ 89 rfl 3 9 keyedK Tryz.underlying89 _ (w.heap.size + 1) 4 (useD 4) rfl M4.out (by unfold maxLen; omega) _ _ (.int .i64 5) rfl rfl (keyK 5 (by decide)) (.lit (.string [78])) [] (strS ⟨#[78]⟩ (by decide)) ?_; intro x5 o5 g5; have M5 : Hid (UseMap x5 (w.heap.size + 1) 5) := o5; have B5 : Hid (Below (w.heap.size + 1) (w.alloc (.cells #[.int .i64 rk, .int .i64 ra, .int .i64 rt, .int .i64 rn, .bool rg, .int .i64 ri, .slice a rl.length c] 34)) x5) := B4.out.grown g5 (Nat.le_trans (by simp) B4.out.size) (fun j hj => by cases hj; exact Nat.le_refl _); clear o5 g5)
    | (guard_target = wpList _ _ _ (Oper.mk _ (Op.insert _ _ (.const (.int .i64 6)) _) _ _ _ _ :: _) _ _; refine wpList_insert_own _ rfl _ _ _ 89 rfl 3 9 keyedK Tryz.underlying89 _ (w.heap.size + 1) 5 (useD 5) rfl M5.out (by unfold maxLen; omega) _ _ (.int .i64 6) rfl rfl (keyK 6 (by decide)) (.lit (.string [65, 84])) [] (strS ⟨#[65, 84]⟩ (by decide)) ?_; intro x6 o6 g6; have M6 : Hid (UseMap x6 (w.heap.size + 1) 6) := o6; have B6 : Hid (Below (w.heap.size + 1) (w.alloc (.cells #[.int .i64 rk, .int .i64 ra, .int .i64 rt, .int .i64 rn, .bool rg, .int .i64 ri, .slice a rl.length c] 34)) x6) := B5.out.grown g6 (Nat.le_trans (by simp) B5.out.size) (fun j hj => by cases hj; exact Nat.le_refl _); clear o6 g6)
    | (guard_target = wpList _ _ _ (Oper.mk _ (Op.insert _ _ (.const (.int .i64 7)) _) _ _ _ _ :: _) _ _; refine wpList_insert_own _ rfl _ _ _ 89 rfl 3 9 keyedK Tryz.underlying89 _ (w.heap.size + 1) 6 (useD 6) rfl M6.out (by unfold maxLen; omega) _ _ (.int .i64 7) rfl rfl (keyK 7 (by decide)) (.lit (.string [65, 84, 71])) [] (strS ⟨#[65, 84, 71]⟩ (by decide)) ?_; intro x7 o7 g7; have M7 : Hid (UseMap x7 (w.heap.size + 1) 7) := o7; have B7 : Hid (Below (w.heap.size + 1) (w.alloc (.cells #[.int .i64 rk, .int .i64 ra, .int .i64 rt, .int .i64 rn, .bool rg, .int .i64 ri, .slice a rl.length c] 34)) x7) := B6.out.grown g7 (Nat.le_trans (by simp) B6.out.size) (fun j hj => by cases hj; exact Nat.le_refl _); clear o7 g7)
    | (guard_target = wpList _ _ _ (Oper.mk _ (Op.insert _ _ (.const (.int .i64 8)) _) _ _ _ _ :: _) _ _; refine wpList_insert_own _ rfl _ _ _ 89 rfl 3 9 keyedK Tryz.underlying89 _ (w.heap.size + 1) 7 (useD 7) rfl M7.out (by unfold maxLen; omega) _ _ (.int .i64 8) rfl rfl (keyK 8 (by decide)) (.lit (.string [])) [] (strS ⟨#[]⟩ (by decide)) ?_; intro x8 o8 g8; have M8 : Hid (UseMap x8 (w.heap.size + 1) 8) := o8; have B8 : Hid (Below (w.heap.size + 1) (w.alloc (.cells #[.int .i64 rk, .int .i64 ra, .int .i64 rt, .int .i64 rn, .bool rg, .int .i64 ri, .slice a rl.length c] 34)) x8) := B7.out.grown g8 (Nat.le_trans (by simp) B7.out.size) (fun j hj => by cases hj; exact Nat.le_refl _); clear o8 g8)
    | (guard_target = wpList _ _ _ (Oper.mk _ (Op.insert _ _ (.const (.int .i64 9)) _) _ _ _ _ :: _) _ _; refine wpList_insert_own _ rfl _ _ _ 89 rfl 3 9 keyedK Tryz.underlying89 _ (w.heap.size + 1) 8 (useD 8) rfl M8.out (by unfold maxLen; omega) _ _ (.int .i64 9) rfl rfl (keyK 9 (by decide)) (.lit (.string [])) [] (strS ⟨#[]⟩ (by decide)) ?_; intro x9 o9 g9; have M9 : Hid (UseMap x9 (w.heap.size + 1) 9) := o9; have B9 : Hid (Below (w.heap.size + 1) (w.alloc (.cells #[.int .i64 rk, .int .i64 ra, .int .i64 rt, .int .i64 rn, .bool rg, .int .i64 ri, .slice a rl.length c] 34)) x9) := B8.out.grown g9 (Nat.le_trans (by simp) B8.out.size) (fun j hj => by cases hj; exact Nat.le_refl _); clear o9 g9; have R9 := HRec.out.below (B9.out.mono (by simp)); obtain ⟨c0, c1, c2, c3, c4, c5, c6, c7⟩ := R9; have hlk := HL.out _ _ M9.out))
  have D0 : Hid (Below w.heap.size w x9) := HB.out.trans (B9.out.mono (by simp))
  clear hmm hlk M0 M1 M2 M3 M4 M5 M6 M7 M8 M9 B0 B1 B2 B3 B4 B5 B6 B7 B8 B9 HL HRec HB
  have DW : Hid (Below w.heap.size w (x9.alloc (.cells #[.string S] 9))) := D0.out.alloc D0.out.size _
  have cS : (x9.alloc (.cells #[.string S] 9)).cell? ⟨x9.heap.size, 0, none⟩ = some (.string S) := by simp [go_sem]
  have RW : RecAt (x9.alloc (.cells #[.string S] 9)) w.heap.size rk ra rt rn rg ri (.slice a rl.length c) := RecAt.below ⟨c0, c1, c2, c3, c4, c5, c6, c7⟩ ((Below.refl _ _).alloc (Nat.le_refl _) _)
  clear c0 c1 c2 c3 c4 c5 c6 c7
  obtain ⟨c0, c1, c2, c3, c4, c5, c6, c7⟩ := RW
  generalize x9.alloc (.cells #[.string S] 9) = W at DW cS c0 c1 c2 c3 c4 c5 c6 c7 ⊢
  clear D0 x1 x2 x3 x4 x5 x6 x7 x8
  generalize x9.heap.size = gS at cS ⊢
  have HPW : Hid (PinsAt W (.slice a rl.length c) rl) := HP.out.below DW.out
  clear HP
  cases K
  · have he : CN = 4 := C0.out rfl
    subst he
    go_wp2
    go_ret
    exact ⟨rfl, DW.out⟩
  go_upto_region 4 with fail
  go_cut [15] from 18 to 25 (fun sx wx => sx = .bool (ra != 0 && !bA) ∧ wx = W)
  case first =>
    by_cases hx : ra = 0
    · have hx' : (ra != 0) = false := by simp [hx]
      clear hx
      go_wp2_with fail
      go_meet
      exact ⟨by rw [hx']; rfl, rfl⟩
    · have hx' : (ra != 0) = true := by simpa using hx
      clear hx
      go_wp2_with (go_at_call 53; refine (HSx.out _ _ _ cS).mono ?_; rintro e w' ⟨rfl, hw'⟩; rw [hw']; clear hw')
      go_meet
      exact ⟨by rw [HSA.out, hx']; rfl, rfl⟩
  case rest =>
  obtain ⟨rfl, hwc⟩ := hcut
  replace hwc := hwc.symm
  subst hwc
  generalize (ra != 0 && !bA) = pA at CU
  cases pA
  rotate_left
  · have he : CN = 4 := C1.out (by have := CU.out; simpa using this)
    subst he
    go_wp2
    go_ret
    exact ⟨rfl, DW.out⟩
  go_upto_region 5 with fail
  go_cut [15] from 26 to 33 (fun sx wx => sx = .bool (rt != 0 && !bT) ∧ wx = W)
  case first =>
    by_cases hx : rt = 0
    · have hx' : (rt != 0) = false := by simp [hx]
      clear hx
      go_wp2_with fail
      go_meet
      exact ⟨by rw [hx']; rfl, rfl⟩
    · have hx' : (rt != 0) = true := by simpa using hx
      clear hx
      go_wp2_with (go_at_call 53; refine (HSx.out _ _ _ cS).mono ?_; rintro e w' ⟨rfl, hw'⟩; rw [hw']; clear hw')
      go_meet
      exact ⟨by rw [HST.out, hx']; rfl, rfl⟩
  case rest =>
  obtain ⟨rfl, hwc⟩ := hcut
  replace hwc := hwc.symm
  subst hwc
  generalize (rt != 0 && !bT) = pT at CU
  cases pT
  rotate_left
  · have he : CN = 4 := C1.out (by have := CU.out; simpa using this)
    subst he
    go_wp2
    go_ret
    exact ⟨rfl, DW.out⟩
  go_upto_region 6 with fail
  go_cut [15] from 34 to 41 (fun sx wx => sx = .bool (rn != 0 && !bN) ∧ wx = W)
  case first =>
    by_cases hx : rn = 0
    · have hx' : (rn != 0) = false := by simp [hx]
      clear hx
      go_wp2_with fail
      go_meet
      exact ⟨by rw [hx']; rfl, rfl⟩
    · have hx' : (rn != 0) = true := by simpa using hx
      clear hx
      go_wp2_with (go_at_call 53; refine (HSx.out _ _ _ cS).mono ?_; rintro e w' ⟨rfl, hw'⟩; rw [hw']; clear hw')
      go_meet
      exact ⟨by rw [HSN.out, hx']; rfl, rfl⟩
  case rest =>
  obtain ⟨rfl, hwc⟩ := hcut
  replace hwc := hwc.symm
  subst hwc
  generalize (rn != 0 && !bN) = pN at CU
  cases pN
  rotate_left
  · have he : CN = 4 := C1.out (by have := CU.out; simpa using this)
    subst he
    go_wp2
    go_ret
    exact ⟨rfl, DW.out⟩
  go_upto_region 7 with fail
  go_cut [15] from 42 to 48 (fun sx wx => sx = .bool (rg && !bG) ∧ wx = W)
  case first =>
    cases rg
    · go_wp2_with fail
      go_meet
      exact ⟨rfl, rfl⟩
    · go_wp2_with (go_at_call 53; refine (HSx.out _ _ _ cS).mono ?_; rintro e w' ⟨rfl, hw'⟩; rw [hw']; clear hw')
      go_meet
      exact ⟨by rw [HSG.out]; rfl, rfl⟩
  case rest =>
  obtain ⟨rfl, hwc⟩ := hcut
  replace hwc := hwc.symm
  subst hwc
  generalize (rg && !bG) = pG at CU
  cases pG
  rotate_left
  · have he : CN = 4 := C1.out (by have := CU.out; simpa using this)
    subst he
    go_wp2
    go_ret
    exact ⟨rfl, DW.out⟩
  go_upto_region 8 with fail
  go_cut [15] from 49 to 64 (fun sx wx => sx = .bool ((ri != 0 || decide (0 < rl.length)) && !bR) ∧ wx = W)
  case first =>
    by_cases hx : ri = 0
    · have hx' : (ri != 0) = false := by simp [hx]
      clear hx
      by_cases hz : rl.length = 0
      · have hz' : decide (0 < rl.length) = false := decide_eq_false (by omega)
        have hz2 : decide ((0 : Int) < (rl.length : Int)) = false := decide_eq_false (by omega)
        clear hz
        go_wp2_with fail
        go_meet
        exact ⟨by rw [hx', hz']; rfl, rfl⟩
      · have hz' : decide (0 < rl.length) = true := decide_eq_true (by omega)
        have hz2 : decide ((0 : Int) < (rl.length : Int)) = true := decide_eq_true (by omega)
        clear hz
        go_wp2_with (go_at_call 53; refine (HSx.out _ _ _ cS).mono ?_; rintro e w' ⟨rfl, hw'⟩; rw [hw']; clear hw')
        go_meet
        exact ⟨by rw [HSR.out, hx', hz']; rfl, rfl⟩
    · have hx' : (ri != 0) = true := by simpa using hx
      clear hx
      go_wp2_with (go_at_call 53; refine (HSx.out _ _ _ cS).mono ?_; rintro e w' ⟨rfl, hw'⟩; rw [hw']; clear hw')
      go_meet
      exact ⟨by rw [HSR.out, hx']; rfl, rfl⟩
  case rest =>
  obtain ⟨rfl, hwc⟩ := hcut
  replace hwc := hwc.symm
  subst hwc
  generalize ((ri != 0 || decide (0 < rl.length)) && !bR) = pR at CU
  cases pR
  rotate_left
  · have he : CN = 4 := C1.out (by have := CU.out; simpa using this)
    subst he
    go_wp2
    go_ret
    exact ⟨rfl, DW.out⟩
  have hU : U = false := CU.out
  clear CU C0 C1
  by_cases ha : 0 ≤ ra ∧ ra ≤ 5
  rotate_left
  · have hO : O = true := by
      have := CO.out
      rw [show Lk.within ra 0 5 = false from by simp only [Lk.within, Bool.and_eq_false_iff, decide_eq_false_iff_not]; omega] at this
      exact this
    have he : CN = 3 := C2.out (by simp) hU hO
    subst he
    by_cases ha1 : 0 ≤ ra
    · have ha2 : decide (ra ≤ 5) = false := decide_eq_false (by omega)
      clear ha
      go_wp2
      go_ret
      exact ⟨rfl, DW.out⟩
    · have ha2 : ra < 0 := by omega
      clear ha ha1
      go_wp2
      go_ret
      exact ⟨rfl, DW.out⟩
  obtain ⟨ha1, ha2⟩ := ha
  rw [show Lk.within ra 0 5 = true from within_yes ha1 ha2] at CO
  go_upto_region 11 with (go_at_call 51; go_in)
  clear ha1 ha2
  go_cut [65] from 70 to 77 (fun sx wx => sx = .bool (bT && !Lk.within rt 1 200) ∧ wx = W)
  case first =>
    cases bT
    · go_wp2_with (go_at_call 53; refine (HSx.out _ _ _ cS).mono ?_; rintro e w' ⟨rfl, hw'⟩; rw [HST.out, hw']; clear hw')
      go_meet
      exact ⟨rfl, rfl⟩
    · by_cases h1 : 1 ≤ rt
      · by_cases h2 : rt ≤ 200
        · have HW := within_yes h1 h2
          go_wp2_with (first | (go_at_call 53; refine (HSx.out _ _ _ cS).mono ?_; rintro e w' ⟨rfl, hw'⟩; rw [HST.out, hw']; clear hw') | (go_at_call 51; go_in))
          go_meet
          exact ⟨by rw [HW]; rfl, rfl⟩
        · have HW := within_hi (a := 1) h2
          have h2' : decide (rt ≤ 200) = false := decide_eq_false h2
          clear h2
          go_wp2_with (first | (go_at_call 53; refine (HSx.out _ _ _ cS).mono ?_; rintro e w' ⟨rfl, hw'⟩; rw [HST.out, hw']; clear hw') | (go_at_call 51; go_in))
          go_meet
          exact ⟨by rw [HW]; rfl, rfl⟩
      · have HW := within_lo (b := 200) h1
        have h1' : rt < 1 := by omega
        clear h1
        go_wp2_with (first | (go_at_call 53; refine (HSx.out _ _ _ cS).mono ?_; rintro e w' ⟨rfl, hw'⟩; rw [HST.out, hw']; clear hw') | (go_at_call 51; go_in))
        go_meet
        exact ⟨by rw [HW]; rfl, rfl⟩
  case rest =>
  obtain ⟨rfl, hwc⟩ := hcut
  replace hwc := hwc.symm
  subst hwc
  generalize (bT && !Lk.within rt 1 200) = qT at CO
  cases qT
  rotate_left
  · have hO : O = true := by have := CO.out; simpa using this
    have he : CN = 3 := C2.out (by simp) hU hO
    subst he
    go_wp2
    go_ret
    exact ⟨rfl, DW.out⟩
  go_upto_region 12 with fail
  go_cut [65] from 78 to 85 (fun sx wx => sx = .bool (bN && !Lk.within rn 1 6) ∧ wx = W)
  case first =>
    cases bN
    · go_wp2_with (go_at_call 53; refine (HSx.out _ _ _ cS).mono ?_; rintro e w' ⟨rfl, hw'⟩; rw [HSN.out, hw']; clear hw')
      go_meet
      exact ⟨rfl, rfl⟩
    · by_cases h1 : 1 ≤ rn
      · by_cases h2 : rn ≤ 6
        · have HW := within_yes h1 h2
          go_wp2_with (first | (go_at_call 53; refine (HSx.out _ _ _ cS).mono ?_; rintro e w' ⟨rfl, hw'⟩; rw [HSN.out, hw']; clear hw') | (go_at_call 51; go_in))
          go_meet
          exact ⟨by rw [HW]; rfl, rfl⟩
        · have HW := within_hi (a := 1) h2
          have h2' : decide (rn ≤ 6) = false := decide_eq_false h2
          clear h2
          go_wp2_with (first | (go_at_call 53; refine (HSx.out _ _ _ cS).mono ?_; rintro e w' ⟨rfl, hw'⟩; rw [HSN.out, hw']; clear hw') | (go_at_call 51; go_in))
          go_meet
          exact ⟨by rw [HW]; rfl, rfl⟩
      · have HW := within_lo (b := 6) h1
        have h1' : rn < 1 := by omega
        clear h1
        go_wp2_with (first | (go_at_call 53; refine (HSx.out _ _ _ cS).mono ?_; rintro e w' ⟨rfl, hw'⟩; rw [HSN.out, hw']; clear hw') | (go_at_call 51; go_in))
        go_meet
        exact ⟨by rw [HW]; rfl, rfl⟩
  case rest =>
  obtain ⟨rfl, hwc⟩ := hcut
  replace hwc := hwc.symm
  subst hwc
  generalize (bN && !Lk.within rn 1 6) = qN at CO
  cases qN
  rotate_left
  · have hO : O = true := by have := CO.out; simpa using this
    have he : CN = 3 := C2.out (by simp) hU hO
    subst he
    go_wp2
    go_ret
    exact ⟨rfl, DW.out⟩
  have hO : O = false := by have := CO.out; simpa using this
  cases bR
  · have he : CN = 0 := C4.out (by simp) hU hO (by simp)
    subst he
    go_wp2_with (go_at_call 53; refine (HSx.out _ _ _ cS).mono ?_; rintro e w' ⟨rfl, hw'⟩; rw [HSR.out, hw']; clear hw')
    go_ret
    exact ⟨rfl, DW.out⟩
  · have he : CN = CR := C3.out (by simp) hU hO (by simp)
    subst he
    go_wp2_with (first | (go_at_call 53; refine (HSx.out _ _ _ cS).mono ?_; rintro e w' ⟨rfl, hw'⟩; rw [HSR.out, hw']; clear hw') | (go_at_call 55; refine (HR.out _ HPW.out).mono ?_; rintro e w5 ⟨rfl, hb6⟩))
    go_ret
    exact ⟨rfl, DW.out.trans (hb6.mono DW.out.size)⟩
end Go.Proofs.YtmlhipdfjnamiaaGreat
