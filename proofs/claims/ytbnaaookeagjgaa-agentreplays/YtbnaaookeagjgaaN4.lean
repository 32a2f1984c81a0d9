/- The contract of note.Check. -/
import Derived.Test.YtbnaaookeagjgaaN3
namespace Go.Proofs.Ytbnaaookeagjgaa
open Go.RowKit
/-- a record in a block of its own -/
def RecAt (w : World) (b : Nat) (k a t n : Int) (g : Bool) (i : Int) (v : Value) : Prop :=
  b < w.heap.size ∧ w.cell? ⟨b, 0, none⟩ = some (.int .i64 k) ∧ w.cell? ⟨b, 1, none⟩ = some (.int .i64 a) ∧ w.cell? ⟨b, 2, none⟩ = some (.int .i64 t) ∧ w.cell? ⟨b, 3, none⟩ = some (.int .i64 n) ∧ w.cell? ⟨b, 4, none⟩ = some (.bool g) ∧ w.cell? ⟨b, 5, none⟩ = some (.int .i64 i) ∧ w.cell? ⟨b, 6, none⟩ = some v
theorem RecAt.below {w w' : World} {b : Nat} {k a t n : Int} {g : Bool} {i : Int} {v : Value} (h : RecAt w b k a t n g i v) (hb : Below w.heap.size w w') : RecAt w' b k a t n g i v := by
  obtain ⟨h0, h1, h2, h3, h4, h5, h6, h7⟩ := h
  have e : ∀ o, w'.cell? ⟨b, o, none⟩ = w.cell? ⟨b, o, none⟩ := fun o => hb.cell (p := ⟨b, o, none⟩) h0
  exact ⟨Nat.lt_of_lt_of_le h0 hb.size, (e 0).trans h1, (e 1).trans h2, (e 2).trans h3, (e 3).trans h4, (e 4).trans h5, (e 5).trans h6, (e 6).trans h7⟩
theorem recAt_alloc (w : World) (k a t n : Int) (g : Bool) (i : Int) (v : Value) : RecAt (w.alloc (.cells #[.int .i64 k, .int .i64 a, .int .i64 t, .int .i64 n, .bool g, .int .i64 i, v] 28)) w.heap.size k a t n g i v := by
  refine ⟨by simp, ?_, ?_, ?_, ?_, ?_, ?_, ?_⟩ <;> simp [go_sem]
/-- what is used, in a block of its own -/
def UseAt (w : World) (b : Nat) (a t n g r : Bool) : Prop :=
  b < w.heap.size ∧ w.cell? ⟨b, 0, none⟩ = some (.bool true) ∧ w.cell? ⟨b, 1, none⟩ = some (.bool a) ∧ w.cell? ⟨b, 2, none⟩ = some (.bool t) ∧ w.cell? ⟨b, 3, none⟩ = some (.bool n) ∧ w.cell? ⟨b, 4, none⟩ = some (.bool g) ∧ w.cell? ⟨b, 5, none⟩ = some (.bool r)
theorem UseAt.below {w w' : World} {b : Nat} {a t n g r : Bool} (h : UseAt w b a t n g r) (hb : Below w.heap.size w w') : UseAt w' b a t n g r := by
  obtain ⟨h0, h1, h2, h3, h4, h5, h6⟩ := h
  have e : ∀ o, w'.cell? ⟨b, o, none⟩ = w.cell? ⟨b, o, none⟩ := fun o => hb.cell (p := ⟨b, o, none⟩) h0
  exact ⟨Nat.lt_of_lt_of_le h0 hb.size, (e 0).trans h1, (e 1).trans h2, (e 2).trans h3, (e 3).trans h4, (e 4).trans h5, (e 5).trans h6⟩
theorem useAt_alloc (w : World) (a t n g r : Bool) : UseAt (w.alloc (.cells #[.bool true, .bool a, .bool t, .bool n, .bool g, .bool r] 69)) w.heap.size a t n g r := by
  refine ⟨by simp, ?_, ?_, ?_, ?_, ?_, ?_⟩ <;> simp [go_sem]
theorem chk_kind {r : Lk.Note} (h : Lk.within r.kind 1 9 = false) : Lk.chkNote r = 4 := by unfold Lk.chkNote; rw [if_pos (by rw [h]; rfl)]
theorem chk_unused {r : Lk.Note} (h : Lk.unused r = true) : Lk.chkNote r = 4 := by unfold Lk.chkNote; rw [if_pos (by rw [h]; simp)]
theorem chk_out {r : Lk.Note} (h1 : Lk.within r.kind 1 9 = true) (h2 : Lk.unused r = false) (h3 : Lk.outside r = true) : Lk.chkNote r = 3 := by
  unfold Lk.chkNote; rw [if_neg (by rw [h1, h2]; decide), if_pos h3]
theorem chk_rel {r : Lk.Note} (h1 : Lk.within r.kind 1 9 = true) (h2 : Lk.unused r = false) (h3 : Lk.outside r = false) (h4 : Lk.uR r.kind = true) : Lk.chkNote r = Lk.chkRel r.id r.lock := by
  unfold Lk.chkNote; rw [if_neg (by rw [h1, h2]; decide), if_neg (by rw [h3]; decide), if_pos h4]
theorem chk_zero {r : Lk.Note} (h1 : Lk.within r.kind 1 9 = true) (h2 : Lk.unused r = false) (h3 : Lk.outside r = false) (h4 : Lk.uR r.kind = false) : Lk.chkNote r = 0 := by
  unfold Lk.chkNote; rw [if_neg (by rw [h1, h2]; decide), if_neg (by rw [h3]; decide), if_neg (by rw [h4]; decide)]
set_option maxHeartbeats 2000000 in
theorem noteCheck_kind (r : Lk.Note) (a : Option Addr) (n c : Nat) (w : World) (h : Lk.within r.kind 1 9 = false) :
    Calls Try.prog 25 #[recV r (.slice a n c)] w fun e w' => e = .returned (.int .i64 4) ∧ Below w.heap.size w w' := by
  obtain ⟨rk, ra, rt, rn, rg, ri, rl⟩ := r
  unfold recV
  simp only at h ⊢
  have HB : Hid (∀ o, Below w.heap.size w (w.alloc o)) := fun o => ((Below.refl _ w).alloc (Nat.le_refl _) o)
  by_cases h1 : 1 ≤ rk
  · have h2 : decide (rk ≤ 9) = false := by simpa [Lk.within, h1] using h
    clear h
    go_enter Try.func25, Try.ntmps25
    go_wp2
    go_ret
    exact ⟨rfl, HB.out _⟩
  · have h1' : rk < 1 := by omega
    clear h h1
    go_enter Try.func25, Try.ntmps25
    go_wp2
    go_ret
    exact ⟨rfl, HB.out _⟩
set_option maxHeartbeats 2000000 in
theorem noteCheck_in (r : Lk.Note) (v : Value) (w : World) (hP : PinsAt w v r.lock) (h : Lk.within r.kind 1 9 = true) :
    Calls Try.prog 25 #[recV r v] w fun e w' => e = .returned (.int .i64 (Lk.chkNote r)) ∧ Below w.heap.size w w' := by
  obtain ⟨a, c, rfl⟩ := pins_slice hP
  have hk : 1 ≤ r.kind ∧ r.kind ≤ 9 := by simpa [Lk.within] using h
  obtain ⟨hk1, hk2⟩ := hk
  have HK : Hid (Lk.within r.kind 1 9 = true) := h
  have HP : Hid (PinsAt w (.slice a r.lock.length c) r.lock) := hP
  have HU : Hid (∀ w, Calls Try.prog 45 #[recV r (.slice a r.lock.length c), .agg #[.bool true, .bool (Lk.uA r.kind), .bool (Lk.uT r.kind), .bool (Lk.uN r.kind), .bool (Lk.uG r.kind), .bool (Lk.uR r.kind)]] w fun e w' => e = .returned (.bool (Lk.unused r)) ∧ Below w.heap.size w w') := fun w => by
    rw [← hasU_unused r]
    exact hasUnused_any r a r.lock.length c (useL r.kind) rfl hP.1 w
  have HO : Hid (∀ w, Calls Try.prog 43 #[.int .i64 r.kind] w fun e w' => e = .returned (.agg #[.bool true, .bool (Lk.uA r.kind), .bool (Lk.uT r.kind), .bool (Lk.uN r.kind), .bool (Lk.uG r.kind), .bool (Lk.uR r.kind)]) ∧ Below w.heap.size w w') := fun w => useOf_any r.kind w
  have HR : Hid (∀ w, PinsAt w (.slice a r.lock.length c) r.lock → Calls Try.prog 20 #[.agg #[.int .i64 r.id, .slice a r.lock.length c]] w fun e w' => e = .returned (.int .i64 (Lk.chkRel r.id r.lock)) ∧ Below w.heap.size w w') := fun w h => release_any r.id _ r.lock w h
  have C1 : Hid (Lk.unused r = true → Lk.chkNote r = 4) := chk_unused
  have C2 : Hid (Lk.unused r = false → Lk.outside r = true → Lk.chkNote r = 3) := chk_out h
  have C3 : Hid (Lk.unused r = false → Lk.outside r = false → Lk.uR r.kind = true → Lk.chkNote r = Lk.chkRel r.id r.lock) := chk_rel h
  have C4 : Hid (Lk.unused r = false → Lk.outside r = false → Lk.uR r.kind = false → Lk.chkNote r = 0) := chk_zero h
  have CO : Hid (Lk.outside r = (!Lk.within r.agent 0 5 || (Lk.uT r.kind && !Lk.within r.tr 1 200) || (Lk.uN r.kind && !Lk.within r.n 1 6))) := rfl
  clear h hP HK
  unfold recV at HU ⊢
  generalize Lk.unused r = U at HU C1 C2 C3 C4
  generalize Lk.outside r = O at C2 C3 C4 CO
  generalize Lk.chkNote r = CN at C1 C2 C3 C4 ⊢
  generalize Lk.chkRel r.id r.lock = CR at C3 HR
  generalize Lk.uA r.kind = bA at HU HO
  generalize Lk.uT r.kind = bT at HU HO CO
  generalize Lk.uN r.kind = bN at HU HO CO
  generalize Lk.uG r.kind = bG at HU HO
  generalize Lk.uR r.kind = bR at HU HO C3 C4
  obtain ⟨rk, ra, rt, rn, rg, ri, rl⟩ := r
  simp only at HU HO HR CO hk1 hk2 HP ⊢
  go_enter Try.func25, Try.ntmps25
  go_wp2_with (go_at_call 42; go_in)
  refine (HO.out _).mono ?_
  rintro e w1 ⟨rfl, hb1⟩
  have HA0 := (recAt_alloc w rk ra rt rn rg ri (.slice a rl.length c)).below hb1
  have HA1 : Hid (RecAt w1 w.heap.size rk ra rt rn rg ri (.slice a rl.length c)) := HA0
  have HB1 : Hid (Below w.heap.size w w1) := ((Below.refl _ w).alloc (Nat.le_refl _) _).trans (hb1.mono (by simp))
  obtain ⟨c0, c1, c2, c3, c4, c5, c6, c7⟩ := HA0
  clear hb1
  go_wp2_with fail
  have hb2 : Below w1.heap.size w1 (w1.alloc (.cells #[.bool true, .bool bA, .bool bT, .bool bN, .bool bG, .bool bR] 69)) := (Below.refl _ w1).alloc (Nat.le_refl _) _
  have HA2 := HA1.out.below hb2
  have HU2 := useAt_alloc w1 bA bT bN bG bR
  refine (HU.out _).mono ?_
  rintro e w2 ⟨rfl, hb3⟩
  have HA3 := HA2.below hb3
  have HU3 := HU2.below hb3
  have HB3 : Hid (Below w.heap.size w w2) := HB1.out.trans ((hb2.trans (hb3.mono (by simp))).mono HB1.out.size)
  clear c0 c1 c2 c3 c4 c5 c6 c7 hb2 HA2 HU2 hb3 HU HO HA1 HB1
  obtain ⟨c0, c1, c2, c3, c4, c5, c6, c7⟩ := HA3
  obtain ⟨d0, d1, d2, d3, d4, d5, d6⟩ := HU3
  have hpre : PinsAt w2 (.slice a rl.length c) rl := HP.out.below HB3.out
  have HP2 : Hid (PinsAt w2 (.slice a rl.length c) rl) := hpre
  clear hpre HP
  cases U
  · by_cases ha : 0 ≤ ra ∧ ra ≤ 5
    · obtain ⟨ha1, ha2⟩ := ha
      have hw0 : Lk.within ra 0 5 = true := within_yes ha1 ha2
      rw [hw0] at CO
      clear hw0
      go_wp2_with (go_at_call 42; go_in)
      have hbd := bad_any 2 (by decide) rt 200 bT w1.heap.size w2 d3
      generalize Lk.within rt 1 200 = wT at CO hbd
      generalize hq : (bT && !wT) = q at hbd
      have HQ : Hid ((bT && !wT) = q) := hq
      clear hq
      refine hbd.mono ?_
      rintro e w3 ⟨rfl, hb4⟩
      have HA4 := (show RecAt w2 w.heap.size rk ra rt rn rg ri (.slice a rl.length c) from ⟨c0, c1, c2, c3, c4, c5, c6, c7⟩).below hb4
      have HU4 := (show UseAt w2 w1.heap.size bA bT bN bG bR from ⟨d0, d1, d2, d3, d4, d5, d6⟩).below hb4
      have HB4 : Hid (Below w.heap.size w w3) := HB3.out.trans (hb4.mono HB3.out.size)
      have HP4 : Hid (PinsAt w3 (.slice a rl.length c) rl) := HP2.out.below hb4
      clear c0 c1 c2 c3 c4 c5 c6 c7 d0 d1 d2 d3 d4 d5 d6 hb4 HB3 HP2 hbd
      obtain ⟨c0, c1, c2, c3, c4, c5, c6, c7⟩ := HA4
      obtain ⟨d0, d1, d2, d3, d4, d5, d6⟩ := HU4
      cases q
      · rw [HQ.out] at CO
        go_wp2_with fail
        have hbd := bad_any 3 (by decide) rn 6 bN w1.heap.size w3 d4
        generalize Lk.within rn 1 6 = wN at CO hbd
        generalize hq : (bN && !wN) = q at hbd
        rw [hq] at CO
        clear hq
        refine hbd.mono ?_
        rintro e w4 ⟨rfl, hb5⟩
        have HA5 := (show RecAt w3 w.heap.size rk ra rt rn rg ri (.slice a rl.length c) from ⟨c0, c1, c2, c3, c4, c5, c6, c7⟩).below hb5
        have HU5 := (show UseAt w3 w1.heap.size bA bT bN bG bR from ⟨d0, d1, d2, d3, d4, d5, d6⟩).below hb5
        have HB5 : Hid (Below w.heap.size w w4) := HB4.out.trans (hb5.mono HB4.out.size)
        have HP5 : Hid (PinsAt w4 (.slice a rl.length c) rl) := HP4.out.below hb5
        clear c0 c1 c2 c3 c4 c5 c6 c7 d0 d1 d2 d3 d4 d5 d6 hb5 HB4 HP4 hbd
        obtain ⟨c0, c1, c2, c3, c4, c5, c6, c7⟩ := HA5
        obtain ⟨d0, d1, d2, d3, d4, d5, d6⟩ := HU5
        cases q
        · have hO : O = false := CO.out
          cases bR
          · have he : CN = 0 := C4.out (by simp) hO (by simp)
            subst he
            go_wp2
            go_ret
            exact ⟨rfl, HB5.out⟩
          · have he : CN = CR := C3.out (by simp) hO (by simp)
            subst he
            go_wp2_with fail
            refine (HR.out _ HP5.out).mono ?_
            rintro e w5 ⟨rfl, hb6⟩
            go_wp2
            go_ret
            exact ⟨rfl, HB5.out.trans (hb6.mono HB5.out.size)⟩
        · have hO : O = true := CO.out
          have he : CN = 3 := C2.out (by simp) hO
          subst he
          go_wp2
          go_ret
          exact ⟨rfl, HB5.out⟩
      · rw [HQ.out] at CO
        have hO : O = true := CO.out
        have he : CN = 3 := C2.out (by simp) hO
        subst he
        go_wp2
        go_ret
        exact ⟨rfl, HB4.out⟩
    · have hO : O = true := by
        have := CO.out
        rw [show Lk.within ra 0 5 = false from by simp only [Lk.within, Bool.and_eq_false_iff, decide_eq_false_iff_not]; omega] at this
        exact this
      have he : CN = 3 := C2.out (by simp) hO
      subst he
      by_cases ha1 : 0 ≤ ra
      · have ha2 : decide (ra ≤ 5) = false := decide_eq_false (by omega)
        clear ha
        go_wp2
        go_ret
        exact ⟨rfl, HB3.out⟩
      · have ha2 : ra < 0 := by omega
        clear ha ha1
        go_wp2
        go_ret
        exact ⟨rfl, HB3.out⟩
  · have he : CN = 4 := C1.out rfl
    subst he
    go_wp2
    go_ret
    exact ⟨rfl, HB3.out⟩
theorem noteCheck_any (r : Lk.Note) (v : Value) (w : World) (hP : PinsAt w v r.lock) :
    Calls Try.prog 25 #[recV r v] w fun e w' => e = .returned (.int .i64 (Lk.chkNote r)) ∧ Below w.heap.size w w' := by
  cases h : Lk.within r.kind 1 9
  · obtain ⟨a, c, rfl⟩ := pins_slice hP
    rw [chk_kind h]
    exact noteCheck_kind r a _ c w h
  · exact noteCheck_in r v w hP h
end Go.Proofs.Ytbnaaookeagjgaa
