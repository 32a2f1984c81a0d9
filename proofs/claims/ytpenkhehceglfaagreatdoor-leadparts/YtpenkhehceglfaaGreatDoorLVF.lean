/- The contract of lead.do. -/
import Derived.Test.YtpenkhehceglfaaGreatDoorLVE
namespace Go.Proofs.YtpenkhehceglfaaGreatDoor
open Go.RowKit
theorem conf_rules {cf : Ld.Config} (h0 : Ld.chkConfig cf = 0) : Rk.rchk cf.rules = 0 := by
  unfold Ld.chkConfig at h0
  by_cases e1 : Lk.chkRel cf.fid cf.flock = 0
  rotate_left
  · rw [if_neg e1] at h0; exact absurd h0 e1
  rw [if_pos e1] at h0
  by_cases e2 : cf.fid = 1 ∧ Lk.within cf.budget 0 3 = true
  rotate_left
  · rw [if_neg e2] at h0; exact absurd h0 (by decide)
  rw [if_pos e2] at h0
  by_cases e3 : Ld.ruled cf.flock cf.rules = 0
  · unfold Ld.ruled at e3
    by_cases e4 : Rk.brokenErr cf.flock cf.rules = 0
    · exact (Rk.brokenErr_ok e4).2
    · rw [if_neg e4] at e3; exact absurd e3 e4
  · rw [if_neg e3] at h0; exact absurd h0 e3
theorem note_lock4 {r : Lk.Note} (h : Lk.chkNote r = 0) (hk : r.kind = 4) : Lk.chk r.lock = 0 := by
  unfold Lk.chkNote at h
  by_cases c1 : (!Lk.within r.kind 1 9 || Lk.unused r) = true
  · rw [if_pos c1] at h; exact absurd h (by decide)
  rw [if_neg c1] at h
  by_cases c2 : Lk.outside r = true
  · rw [if_pos c2] at h; exact absurd h (by decide)
  rw [if_neg c2, if_pos (by rw [hk]; rfl)] at h
  unfold Lk.chkRel at h
  by_cases c3 : Lk.within r.id 1 6 = true
  · rw [if_pos c3] at h; exact h
  · rw [if_neg c3] at h; exact absurd h (by decide)
theorem note_agent {r : Lk.Note} (h : Lk.chkNote r = 0) : 0 ≤ r.agent := by
  have ho := Ld.note_outside h
  simp only [Lk.outside] at ho
  simp [Lk.within] at ho
  omega
theorem ruled_8 {cf : Ld.Config} {lk : List (Int × Int)} (hc : Ld.chkConfig cf = 0) (hl : Lk.chk lk = 0) : Ld.ruled lk cf.rules = 0 ∨ Ld.ruled lk cf.rules = 8 := by
  have hr := conf_rules hc
  have e : Rk.brokenErr lk cf.rules = 0 := by unfold Rk.brokenErr; rw [if_pos hl]; exact hr
  unfold Ld.ruled
  rw [if_pos e]
  split
  · exact .inr rfl
  · exact .inl rfl
theorem next_pub {cf : Ld.Config} {l : Ld.Leader} {r : Lk.Note} (hc : Ld.chkLeader cf l = 0) (hr : Lk.chkNote r = 0) (hk : r.kind = 4) : Ld.nextIn cf l r = pubL cf l r.id r.lock := by
  unfold Ld.nextIn pubL
  rw [if_pos hk]
  rcases ruled_8 (Ld.lead_few hc).2.2.2 (note_lock4 hr hk) with e | e <;> simp [e]
theorem next_start {cf : Ld.Config} {l : Ld.Leader} {r : Lk.Note} (hk : r.kind = 5) : Ld.nextIn cf l r = startL l r.n := by
  unfold Ld.nextIn startL
  rw [if_neg (by omega), if_pos hk]
theorem next_tell {cf : Ld.Config} {l : Ld.Leader} {r : Lk.Note} (hk : r.kind = 6 ∨ r.kind = 7) : Ld.nextIn cf l r = tellL cf l r.kind r.agent r.tr r.good := by
  unfold Ld.nextIn tellL sendL gotL
  rcases hk with hk | hk
  · rw [if_neg (by omega), if_neg (by omega), if_pos hk, if_pos hk]
  · rw [if_neg (by omega), if_neg (by omega), if_neg (by omega), if_pos hk]
    simp only [show ¬ r.kind = 6 from by omega, if_false]
theorem next_back {cf : Ld.Config} {l : Ld.Leader} {r : Lk.Note} (hk : r.kind = 8) : Ld.nextIn cf l r = backL l := by
  unfold Ld.nextIn backL
  rw [if_neg (by omega), if_neg (by omega), if_neg (by omega), if_neg (by omega), if_pos hk]
theorem next_end {cf : Ld.Config} {l : Ld.Leader} {r : Lk.Note} (hk : r.kind = 9) : Ld.nextIn cf l r = endL cf l := by
  unfold Ld.nextIn endL
  rw [if_neg (by omega), if_neg (by omega), if_neg (by omega), if_neg (by omega), if_neg (by omega), if_pos hk]
  rfl
theorem next_else {cf : Ld.Config} {l : Ld.Leader} {r : Lk.Note} (hk : r.kind < 4 ∨ 9 < r.kind) : Ld.nextIn cf l r = (Ld.Leader.none, 4) := by
  unfold Ld.nextIn
  rw [if_neg (by omega), if_neg (by omega), if_neg (by omega), if_neg (by omega), if_neg (by omega), if_neg (by omega)]
set_option maxHeartbeats 16000000 in
set_option maxRecDepth 100000 in
theorem do_any (cf : Ld.Config) (A B D : Value) (w0 : World) (b : Nat) (l : Ld.Leader) (rk ra rt rn ri : Int) (rg : Bool) (lk : List (Int × Int)) (az : Option Addr) (cz : Nat) (w : World) (hC : CfAt w0 cf A B D) (hb0 : Below w0.heap.size w0 w) (h : LdW w w0.heap.size b l) (hP : PinsAt w0 (.slice az lk.length cz) lk) (hc : Ld.chkLeader cf l = 0) (hr : Lk.chkNote ⟨rk, ra, rt, rn, rg, ri, lk⟩ = 0) :
    Calls Tryz.prog 39 #[cfV cf A B D, .pointer (some ⟨b, 0, none⟩), .agg #[.int .i64 rk, .int .i64 ra, .int .i64 rt, .int .i64 rn, .bool rg, .int .i64 ri, .slice az lk.length cz]] w fun e w' => leD w' w0.heap.size b (Ld.nextIn cf l ⟨rk, ra, rt, rn, rg, ri, lk⟩) e ∧ Below w0.heap.size w w' := by
  have hra := note_agent hr
  simp only at hra
  have E4 := fun hk => next_pub (r := ⟨rk, ra, rt, rn, rg, ri, lk⟩) hc hr hk
  have E5 := fun hk => next_start (cf := cf) (l := l) (r := ⟨rk, ra, rt, rn, rg, ri, lk⟩) hk
  have E67 := fun hk => next_tell (cf := cf) (l := l) (r := ⟨rk, ra, rt, rn, rg, ri, lk⟩) hk
  have E8 := fun hk => next_back (cf := cf) (l := l) (r := ⟨rk, ra, rt, rn, rg, ri, lk⟩) hk
  have E9 := fun hk => next_end (cf := cf) (l := l) (r := ⟨rk, ra, rt, rn, rg, ri, lk⟩) hk
  have E0 := fun hk => next_else (cf := cf) (l := l) (r := ⟨rk, ra, rt, rn, rg, ri, lk⟩) hk
  have hlk : rk = 4 → lk.length ≤ 12 := fun hk => chk_len (note_lock4 hr hk)
  simp only at E4 E5 E67 E8 E9 E0
  have H4 : Hid (rk = 4 → ∀ w', Below w.heap.size w w' → Calls Tryz.prog 72 #[cfV cf A B D, .pointer (some ⟨b, 0, none⟩), .agg #[.int .i64 ri, .slice az lk.length cz]] w' fun e w'' => leD w'' w0.heap.size b (pubL cf l ri lk) e ∧ Below w0.heap.size w' w'') := fun hk w' hb => publish_any cf A B D w0 b l ri lk az cz w' hC (hb0.trans (hb.mono hb0.size)) (h.below hb) hP (hlk hk)
  have H5 : Hid (∀ w', Below w.heap.size w w' → Calls Tryz.prog 73 #[.pointer (some ⟨b, 0, none⟩), .int .i64 rn] w' fun e w'' => leD w'' w0.heap.size b (startL l rn) e ∧ Below w0.heap.size w' w'') := fun w' hb => start_any w0.heap.size b l rn w' (h.below hb)
  have H67 : Hid (∀ w', Below w.heap.size w w' → Calls Tryz.prog 74 #[cfV cf A B D, .pointer (some ⟨b, 0, none⟩), .agg #[.int .i64 rk, .int .i64 ra, .int .i64 rt, .int .i64 rn, .bool rg, .int .i64 ri, .slice az lk.length cz]] w' fun e w'' => leD w'' w0.heap.size b (tellL cf l rk ra rt rg) e ∧ Below w0.heap.size w' w'') := fun w' hb => tell_any cf A B D w0 b l rk ra rt rn ri rg az _ cz w' hC (hb0.trans (hb.mono hb0.size)) (h.below hb) hra hc
  have H8 : Hid (∀ w', Below w.heap.size w w' → Calls Tryz.prog 75 #[.pointer (some ⟨b, 0, none⟩)] w' fun e w'' => leD w'' w0.heap.size b (backL l) e ∧ Below w0.heap.size w' w'') := fun w' hb => goBack_any w0.heap.size b l w' (h.below hb)
  have H9 : Hid (∀ w', Below w.heap.size w w' → Calls Tryz.prog 76 #[cfV cf A B D, .pointer (some ⟨b, 0, none⟩)] w' fun e w'' => leD w'' w0.heap.size b (endL cf l) e ∧ Below w0.heap.size w' w'') := fun w' hb => end_any cf A B D w0 b l w' hC (hb0.trans (hb.mono hb0.size)) (h.below hb) hc
  have hsz0 : w0.heap.size ≤ w.heap.size := hb0.size
  obtain ⟨f, L, R, W, d⟩ := cf
  obtain ⟨a1, c1, rfl⟩ := pins_slice hC.1
  obtain ⟨a2, c2, rfl⟩ := rules_slice hC.2.1
  obtain ⟨a3, c3, rfl⟩ := waves_slice hC.2.2
  obtain ⟨hB0, hK0, hK1⟩ := box2 w #[.int .i64 f, .slice a1 L.length c1, .slice a2 R.length c2, .slice a3 W.length c3, .int .i64 d] #[.int .i64 rk, .int .i64 ra, .int .i64 rt, .int .i64 rn, .bool rg, .int .i64 ri, .slice az lk.length cz] 45 34
  have HB0 : Hid (Below w.heap.size w _) := hB0
  have kc0 := hK0.cell 0
  have kc1 := hK0.cell 1
  have kc2 := hK0.cell 2
  have kc3 := hK0.cell 3
  have kc4 := hK0.cell 4
  simp only [List.getElem?_toArray, List.getElem?_cons_zero, List.getElem?_cons_succ] at kc0 kc1 kc2 kc3 kc4
  have kr0 := hK1.cell 0
  have kr1 := hK1.cell 1
  have kr2 := hK1.cell 2
  have kr3 := hK1.cell 3
  have kr4 := hK1.cell 4
  have kr5 := hK1.cell 5
  have kr6 := hK1.cell 6
  simp only [List.getElem?_toArray, List.getElem?_cons_zero, List.getElem?_cons_succ] at kr0 kr1 kr2 kr3 kr4 kr5 kr6
  clear h hC hP hc hr hb0 hB0 hK0 hK1 hlk hra
  unfold cfV cfC at H4 H67 H9 ⊢
  simp only at H4 H67 H9 E4 ⊢
  generalize pubL ⟨f, L, R, W, d⟩ l ri lk = Q4 at E4 H4
  generalize startL l rn = Q5 at E5 H5
  generalize tellL ⟨f, L, R, W, d⟩ l rk ra rt rg = Q6 at E67 H67
  generalize backL l = Q8 at E8 H8
  generalize endL ⟨f, L, R, W, d⟩ l = Q9 at E9 H9
  generalize Ld.nextIn ⟨f, L, R, W, d⟩ l ⟨rk, ra, rt, rn, rg, ri, lk⟩ = Q at E4 E5 E67 E8 E9 E0 ⊢
  generalize lk.length = nz at *
  generalize L.length = n1 at *
  generalize R.length = n2 at *
  generalize W.length = n3 at *
  by_cases k4 : rk = 4
  · subst k4
    have HQ : Hid (Q = Q4) := E4 rfl
    have HC := H4.out rfl
    clear E4 E5 E67 E8 E9 E0 H4 H5 H67 H8 H9
    go_enter Tryz.func39, Tryz.ntmps39
    go_wp2_with fail
    refine (HC _ HB0.out).mono ?_
    rintro e w2 ⟨⟨rfl, hq2⟩, hb2⟩
    have HB2 : Hid (Below w0.heap.size w w2) := (HB0.out.mono hsz0).trans hb2
    have HQ2 : Hid (Q4.2 = 0 → LdW w2 w0.heap.size b Q4.1) := hq2
    clear hb2 hq2 HC
    go_wp2
    go_ret
    exact ⟨by rw [HQ.out]; exact ⟨rfl, HQ2.out⟩, HB2.out⟩
  have k4' : (rk == 4) = false := by simpa using k4
  by_cases k5 : rk = 5
  · subst k5
    have HQ : Hid (Q = Q5) := E5 rfl
    have HC := H5.out
    clear E4 E5 E67 E8 E9 E0 H4 H5 H67 H8 H9
    go_enter Tryz.func39, Tryz.ntmps39
    go_wp2_with fail
    refine (HC _ HB0.out).mono ?_
    rintro e w2 ⟨⟨rfl, hq2⟩, hb2⟩
    have HB2 : Hid (Below w0.heap.size w w2) := (HB0.out.mono hsz0).trans hb2
    have HQ2 : Hid (Q5.2 = 0 → LdW w2 w0.heap.size b Q5.1) := hq2
    clear hb2 hq2 HC
    go_wp2
    go_ret
    exact ⟨by rw [HQ.out]; exact ⟨rfl, HQ2.out⟩, HB2.out⟩
  have k5' : (rk == 5) = false := by simpa using k5
  by_cases k6 : rk = 6
  · subst k6
    have HQ : Hid (Q = Q6) := E67 (.inl rfl)
    have HC := H67.out
    clear E4 E5 E67 E8 E9 E0 H4 H5 H67 H8 H9
    go_enter Tryz.func39, Tryz.ntmps39
    go_wp2_with fail
    refine (HC _ HB0.out).mono ?_
    rintro e w2 ⟨⟨rfl, hq2⟩, hb2⟩
    have HB2 : Hid (Below w0.heap.size w w2) := (HB0.out.mono hsz0).trans hb2
    have HQ2 : Hid (Q6.2 = 0 → LdW w2 w0.heap.size b Q6.1) := hq2
    clear hb2 hq2 HC
    go_wp2
    go_ret
    exact ⟨by rw [HQ.out]; exact ⟨rfl, HQ2.out⟩, HB2.out⟩
  have k6' : (rk == 6) = false := by simpa using k6
  by_cases k7 : rk = 7
  · subst k7
    have HQ : Hid (Q = Q6) := E67 (.inr rfl)
    have HC := H67.out
    clear E4 E5 E67 E8 E9 E0 H4 H5 H67 H8 H9
    go_enter Tryz.func39, Tryz.ntmps39
    go_wp2_with fail
    refine (HC _ HB0.out).mono ?_
    rintro e w2 ⟨⟨rfl, hq2⟩, hb2⟩
    have HB2 : Hid (Below w0.heap.size w w2) := (HB0.out.mono hsz0).trans hb2
    have HQ2 : Hid (Q6.2 = 0 → LdW w2 w0.heap.size b Q6.1) := hq2
    clear hb2 hq2 HC
    go_wp2
    go_ret
    exact ⟨by rw [HQ.out]; exact ⟨rfl, HQ2.out⟩, HB2.out⟩
  have k7' : (rk == 7) = false := by simpa using k7
  by_cases k8 : rk = 8
  · subst k8
    have HQ : Hid (Q = Q8) := E8 rfl
    have HC := H8.out
    clear E4 E5 E67 E8 E9 E0 H4 H5 H67 H8 H9
    go_enter Tryz.func39, Tryz.ntmps39
    go_wp2_with fail
    refine (HC _ HB0.out).mono ?_
    rintro e w2 ⟨⟨rfl, hq2⟩, hb2⟩
    have HB2 : Hid (Below w0.heap.size w w2) := (HB0.out.mono hsz0).trans hb2
    have HQ2 : Hid (Q8.2 = 0 → LdW w2 w0.heap.size b Q8.1) := hq2
    clear hb2 hq2 HC
    go_wp2
    go_ret
    exact ⟨by rw [HQ.out]; exact ⟨rfl, HQ2.out⟩, HB2.out⟩
  have k8' : (rk == 8) = false := by simpa using k8
  by_cases k9 : rk = 9
  · subst k9
    have HQ : Hid (Q = Q9) := E9 rfl
    have HC := H9.out
    clear E4 E5 E67 E8 E9 E0 H4 H5 H67 H8 H9
    go_enter Tryz.func39, Tryz.ntmps39
    go_wp2_with fail
    refine (HC _ HB0.out).mono ?_
    rintro e w2 ⟨⟨rfl, hq2⟩, hb2⟩
    have HB2 : Hid (Below w0.heap.size w w2) := (HB0.out.mono hsz0).trans hb2
    have HQ2 : Hid (Q9.2 = 0 → LdW w2 w0.heap.size b Q9.1) := hq2
    clear hb2 hq2 HC
    go_wp2
    go_ret
    exact ⟨by rw [HQ.out]; exact ⟨rfl, HQ2.out⟩, HB2.out⟩
  have k9' : (rk == 9) = false := by simpa using k9
  have HQ : Hid (Q = (Ld.Leader.none, 4)) := E0 (by omega)
  clear E4 E5 E67 E8 E9 E0 H4 H5 H67 H8 H9
  go_enter Tryz.func39, Tryz.ntmps39
  go_wp2
  go_ret
  exact ⟨leD_bad HQ.out (by decide), HB0.out.mono hsz0⟩
end Go.Proofs.YtpenkhehceglfaaGreatDoor
