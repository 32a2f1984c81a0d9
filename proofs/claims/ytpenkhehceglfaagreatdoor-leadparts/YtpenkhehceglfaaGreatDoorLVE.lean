/- The contract of lead.publish. -/
import Derived.Test.YtpenkhehceglfaaGreatDoorLVD
import Derived.Deep.RegionLawGrows
namespace Go.Proofs.YtpenkhehceglfaaGreatDoor
open Go.RowKit
theorem cap_cell {w : World} {g n i : Nat} {e : TypeId} (h : Cap w g e n) (hi : i < n) : ∃ u, w.cell? ⟨g, i, none⟩ = some u := by
  obtain ⟨cur, h1, h2⟩ := h
  exact ⟨cur[i], by simp [World.cell?, h1, Array.getElem?_eq_getElem (show i < cur.size by omega)]⟩
theorem Row.push {w : World} {g n i : Nat} {e : TypeId} {xs : List Value} (h : Row w g xs) (hc : Cap w g e n) (hi : i = xs.length) (hn : i < n) (u : Value) : Row (w.setCell ⟨g, i, none⟩ u) g (xs ++ [u]) := by
  obtain ⟨v0, hv⟩ := cap_cell hc hn
  refine ⟨by rw [World.size_setCell]; exact h.1, fun j => by rw [frozen_set]; exact h.2.1 j, fun j v hj => ?_⟩
  by_cases e' : j < xs.length
  · rw [List.getElem?_append_left e'] at hj
    rw [World.cell?_setCell_other _ _ _ _ (fun h => by injection h with _ h2; omega)]
    exact h.2.2 j v hj
  · rw [List.getElem?_append_right (by omega)] at hj
    have hj0 : j - xs.length = 0 := by
      have := (List.getElem?_eq_some_iff.1 hj).1
      simp at this; omega
    rw [hj0] at hj
    have e2 : j = i := by omega
    subst e2
    rw [World.cell?_setCell_same _ _ _ hv]; exact hj
theorem LdW.at0 {w : World} {base b : Nat} {l : Ld.Leader} {g4 n k4 : Nat} (h : LdW w base b l) (hB : w.cell? ⟨b, 0, none⟩ = some (.slice (some ⟨g4, 0, none⟩) n k4)) : n = l.rels.length ∧ ∃ g5 k5 qs, Blk w b #[.slice (some ⟨g4, 0, none⟩) l.rels.length k4, .int .i64 l.now, .int .i64 l.goal, .bool l.back, .slice (some ⟨g5, 0, none⟩) l.ags.length k5, .int .i64 l.next] 49 ∧ base ≤ b ∧ base ≤ g4 ∧ base ≤ g5 ∧ g4 ≠ g5 ∧ b ≠ g4 ∧ b ≠ g5 ∧ 1 ≤ l.rels.length ∧ l.rels.length ≤ 6 ∧ 1 ≤ l.ags.length ∧ l.ags.length ≤ 6 ∧ l.rels.length ≤ k4 ∧ l.ags.length ≤ k5 ∧ Row w g4 (flatL qs) ∧ Cap w g4 24 (k4 * 2) ∧ k4 ≤ maxLen ∧ qs.map Prod.fst = l.rels ∧ (∀ q ∈ qs, Keep (fun x => x < base ∨ x = b ∨ x = g4 ∨ x = g5) (fun w => PinsAt w q.2 q.1.2) w) ∧ Row w g5 (flatK l.ags) := by
  obtain ⟨g4', k4', g5, k5, qs, h1, hr⟩ := h
  rw [h1.cell 0] at hB
  simp only [List.getElem?_toArray, List.getElem?_cons_zero, Option.some.injEq, Value.slice.injEq, Addr.mk.injEq] at hB
  obtain ⟨⟨rfl, -, -⟩, rfl, rfl⟩ := hB
  exact ⟨rfl, g5, k5, qs, h1, hr⟩
/-- a release comes, and there is room -/
theorem LdW.pubRoom {w : World} {base b : Nat} {l : Ld.Leader} {g4 n k4 : Nat} {i : Int} {y : Value} {lk : List (Int × Int)} (h : LdW w base b l) (hB : w.cell? ⟨b, 0, none⟩ = some (.slice (some ⟨g4, 0, none⟩) n k4)) (hr : n + 1 ≤ k4) (h6 : n + 1 ≤ 6) {g5 n5 k5 : Nat} (hB4 : w.cell? ⟨b, 4, none⟩ = some (.slice (some ⟨g5, 0, none⟩) n5 k5))
    (hy : Keep (fun x => x < base ∨ x = b ∨ x = g4 ∨ x = g5) (fun w => PinsAt w y lk) w) :
    LdW (((w.setCell ⟨g4, n * 2, none⟩ (.int .i64 i)).setCell ⟨g4, n * 2 + 1, none⟩ y).setCell ⟨b, 0, none⟩ (.slice (some ⟨g4, 0, none⟩) (n + 1) k4)) base b { l with rels := l.rels ++ [(i, lk)] } := by
  obtain ⟨rfl, g5', k5', qs, h1, h2, h3, h4, h5, h6', h7, h8, h9, h10, h11, h12, h13, h14, hcp, hkm, h15, h16, h17⟩ := h.at0 hB
  rw [h1.cell 4] at hB4
  simp only [List.getElem?_toArray, List.getElem?_cons_zero, List.getElem?_cons_succ, Option.some.injEq, Value.slice.injEq, Addr.mk.injEq] at hB4
  obtain ⟨⟨rfl, -, -⟩, -, rfl⟩ := hB4
  have hq := qs_len h15
  have hfl : (flatL qs).length = l.rels.length * 2 := by rw [flatL_len, hq]
  have r1 := h14.push hcp (i := l.rels.length * 2) hfl.symm (by omega) (.int .i64 i)
  have r2 := r1.push (hcp.set _) (i := l.rels.length * 2 + 1) (by simp; omega) (by omega) y
  have ef : flatL qs ++ [.int .i64 i] ++ [y] = flatL (qs ++ [((i, lk), y)]) := by rw [flatL_append]; simp [flatL, relCells]
  rw [ef] at r2
  refine ⟨g4, k4, g5', k5', qs ++ [((i, lk), y)], ?_, h2, h3, h4, h5, h6', h7, by simp, by simp; omega, h10, h11, by simp; omega, h13, r2.off h6' _, ((hcp.set _).set _).set _, hkm, by simp [h15], ?_, ((h17.off h5 _).off h5 _).off h7 _⟩
  · have := ((h1.off (fun e => h6' e.symm) (o := l.rels.length * 2) (u := .int .i64 i)).off (fun e => h6' e.symm) (o := l.rels.length * 2 + 1) (u := y)).put 0 (.slice (some ⟨g4, 0, none⟩) (l.rels.length + 1) k4)
    simp only [List.length_append, List.length_cons, List.length_nil]
    exact this
  · intro q hqm
    have key : Keep (fun x => x < base ∨ x = b ∨ x = g4 ∨ x = g5') (fun w => PinsAt w q.2 q.1.2) w := by
      rcases List.mem_append.1 hqm with hm | hm
      · exact h16 q hm
      · simp only [List.mem_cons, List.not_mem_nil, or_false] at hm
        subst hm
        exact hy
    exact ((key.set (a := ⟨g4, l.rels.length * 2, none⟩) (.inr (.inr (.inl rfl))) _).set (a := ⟨g4, l.rels.length * 2 + 1, none⟩) (.inr (.inr (.inl rfl))) _).set (a := ⟨b, 0, none⟩) (.inr (.inl rfl)) _
/-- a release comes, and there is no room: the row is laid anew -/
theorem LdW.pubGrow {w : World} {base b : Nat} {l : Ld.Leader} {g4 n k4 : Nat} {i : Int} {y : Value} {lk : List (Int × Int)} (h : LdW w base b l) (hB : w.cell? ⟨b, 0, none⟩ = some (.slice (some ⟨g4, 0, none⟩) n k4)) (h6 : n + 1 ≤ 6) (hbl : b < w.heap.size) {g5 n5 k5 : Nat} (hB4 : w.cell? ⟨b, 4, none⟩ = some (.slice (some ⟨g5, 0, none⟩) n5 k5))
    (hy : Keep (fun x => x < base ∨ x = b ∨ x = g4 ∨ x = g5) (fun w => PinsAt w y lk) w) :
    ∃ qs, Row w g4 (flatL qs) ∧ qs.length = n ∧ (∀ q ∈ qs, ∃ a n c, q.2 = .slice a n c) ∧ ∀ (w3 : World) (v' : Value), w3.ownsRow w.heap.size 24 2 v' (n + 1) (flatL qs ++ [.int .i64 i, y]) → Below w.heap.size w w3 → ∃ g4' k4', v' = .slice (some ⟨g4', 0, none⟩) (n + 1) k4' ∧ w3.cell? ⟨b, 0, none⟩ = some (.slice (some ⟨g4, 0, none⟩) n k4) ∧ w3.frozen? ⟨b, 0, none⟩ = false ∧ LdW (w3.setCell ⟨b, 0, none⟩ (.slice (some ⟨g4', 0, none⟩) (n + 1) k4')) base b { l with rels := l.rels ++ [(i, lk)] } := by
  obtain ⟨rfl, g5', k5', qs, h1, h2, h3, h4, h5, h6', h7, h8, h9, h10, h11, h12, h13, h14, hcp, hkm, h15, h16, h17⟩ := h.at0 hB
  rw [h1.cell 4] at hB4
  simp only [List.getElem?_toArray, List.getElem?_cons_zero, List.getElem?_cons_succ, Option.some.injEq, Value.slice.injEq, Addr.mk.injEq] at hB4
  obtain ⟨⟨rfl, -, -⟩, -, rfl⟩ := hB4
  have hq := qs_len h15
  refine ⟨qs, h14, hq, fun q hqm => ?_, fun w3 v' hown hb3 => ?_⟩
  · obtain ⟨a, c, e⟩ := pins_slice (h16 q hqm).here
    exact ⟨a, _, c, e⟩
  obtain ⟨g4', k4', rfl, hg1, hg2, hR⟩ := row_owns hown (by omega)
  obtain ⟨hcp', hkm'⟩ := row_cap hown
  have ef : flatL qs ++ [.int .i64 i, y] = flatL (qs ++ [((i, lk), y)]) := by rw [flatL_append]; simp [flatL, relCells]
  rw [ef] at hR
  have h1' := h1.below hb3
  refine ⟨g4', k4', rfl, (h1'.cell 0), h1'.free 0, ?_⟩
  have hg5 : g5' < w.heap.size := h17.1
  have hn1 : b ≠ g4' := by omega
  have hn2 : g4' ≠ g5' := by omega
  refine ⟨g4', k4', g5', k5', qs ++ [((i, lk), y)], ?_, h2, by omega, h4, hn2, hn1, h7, by simp, by simp; omega, h10, h11, by simp; omega, h13, hR.off hn1 _, hcp'.set _, hkm', by simp [h15], ?_, (h17.below hb3).off h7 _⟩
  · have := h1'.put 0 (.slice (some ⟨g4', 0, none⟩) (l.rels.length + 1) k4')
    simp only [List.length_append, List.length_cons, List.length_nil]
    exact this
  · intro q hqm
    have key : Keep (fun x => x < base ∨ x = b ∨ x = g4 ∨ x = g5') (fun w => PinsAt w q.2 q.1.2) w := by
      rcases List.mem_append.1 hqm with hm | hm
      · exact h16 q hm
      · simp only [List.mem_cons, List.not_mem_nil, or_false] at hm
        subst hm
        exact hy
    refine Keep.set (Keep.grow key hb3 (fun x hx => ?_)) (a := ⟨b, 0, none⟩) (.inr (.inl rfl)) _
    rcases hx with hx | hx | hx | hx
    · exact .inl (.inl hx)
    · exact .inl (.inr (.inl hx))
    · exact .inr (by omega)
    · exact .inl (.inr (.inr (.inr hx)))
def pubL (cf : Ld.Config) (l : Ld.Leader) (ri : Int) (lk : List (Int × Int)) : Ld.Leader × Int :=
  if l.rels.length = 6 then (Ld.Leader.none, 2) else if ri = l.rels.length + 1 then (if Ld.ruled lk cf.rules = 0 then ({ l with rels := l.rels ++ [(ri, lk)] }, 0) else (Ld.Leader.none, Ld.ruled lk cf.rules)) else (Ld.Leader.none, 7)
theorem news2 (w : World) (x y : Value) (t : TypeId) : ∀ j u, ([x, y] : List Value)[j]? = some u → (w.alloc (.cells #[x, y] t)).cell? ((⟨w.heap.size, 0, none⟩ : Addr).add j) = some u := by
  intro j u hu
  rw [WideShapes.add_plain, Nat.zero_add, (blk_alloc w #[x, y] t).cell j]
  simpa using hu
set_option maxHeartbeats 16000000 in
set_option maxRecDepth 100000 in
theorem publish_any (cf : Ld.Config) (A B D : Value) (w0 : World) (b : Nat) (l : Ld.Leader) (ri : Int) (lk : List (Int × Int)) (az : Option Addr) (cz : Nat) (w : World) (hC : CfAt w0 cf A B D) (hb0 : Below w0.heap.size w0 w) (h : LdW w w0.heap.size b l) (hP : PinsAt w0 (.slice az lk.length cz) lk) (hlk : lk.length ≤ 12) :
    Calls Tryz.prog 72 #[cfV cf A B D, .pointer (some ⟨b, 0, none⟩), .agg #[.int .i64 ri, .slice az lk.length cz]] w fun e w' => leD w' w0.heap.size b (pubL cf l ri lk) e ∧ Below w0.heap.size w w' := by
  obtain ⟨i0, hi, hz0, hz1, hz2⟩ := info_parts infoRl
  have HE : Hid (pubL cf l ri lk = if l.rels.length = 6 then (Ld.Leader.none, 2) else if ri = l.rels.length + 1 then (if Ld.ruled lk cf.rules = 0 then ({ l with rels := l.rels ++ [(ri, lk)] }, 0) else (Ld.Leader.none, Ld.ruled lk cf.rules)) else (Ld.Leader.none, 7)) := rfl
  obtain ⟨f, L, R, W, d⟩ := cf
  obtain ⟨a1, c1, rfl⟩ := pins_slice hC.1
  obtain ⟨a2, c2, rfl⟩ := rules_slice hC.2.1
  obtain ⟨a3, c3, rfl⟩ := waves_slice hC.2.2
  obtain ⟨hB0, hK0, hK1⟩ := box2 w #[.int .i64 f, .slice a1 L.length c1, .slice a2 R.length c2, .slice a3 W.length c3, .int .i64 d] #[.int .i64 ri, .slice az lk.length cz] 45 24
  have hV := h.below hB0
  obtain ⟨g4, k4, g5, k5, hblk, -⟩ := hV.ld
  have hsz0 : w0.heap.size ≤ w.heap.size := hb0.size
  have HKP : Hid (∀ w', Below w.heap.size w w' → Calls Tryz.prog 87 #[.slice az lk.length cz, .slice a2 R.length c2] w' fun e w'' => e = .returned (.int .i64 (Ld.ruled lk R)) ∧ Below w'.heap.size w' w'') := fun w' hb => kept_any _ _ lk R w' (hP.below (hb0.trans (hb.mono hb0.size))) (hC.2.1.below (hb0.trans (hb.mono hb0.size)))
  have HRL : Hid (∀ w', Below w.heap.size w w' → Calls Tryz.prog 24 #[.agg #[.int .i64 ri, .slice az lk.length cz]] w' fun e w'' => (∃ y, e = .returned (.agg #[.int .i64 ri, y]) ∧ PinsNew w'' w'.heap.size y lk) ∧ Below w'.heap.size w' w'') := fun w' hb => wRel_any ri _ lk w' (hP.below (hb0.trans (hb.mono hb0.size))) hlk
  have HW : Hid (LdW _ w0.heap.size b l) := hV
  have hr16 : 1 ≤ l.rels.length ∧ l.rels.length ≤ 6 := by obtain ⟨_, _, _, _, _, _, _, _, _, _, _, _, h8, h9, _⟩ := hV; exact ⟨h8, h9⟩
  have HB0 : Hid (Below w.heap.size w _) := hB0
  have HK0 : Hid (Blk _ w.heap.size _ _) := hK0
  have HK1 : Hid (Blk _ (w.heap.size + 1) _ _) := hK1
  clear h hV hC hB0 hb0 hP hlk
  unfold cfV cfC
  simp only
  simp only at HE
  generalize pubL ⟨f, L, R, W, d⟩ l ri lk = Q at HE ⊢
  generalize hEE : Ld.ruled lk R = EE at HE HKP
  have b0 := hblk.cell 0
  have b1 := hblk.cell 1
  have b2 := hblk.cell 2
  have b3 := hblk.cell 3
  have b4 := hblk.cell 4
  have b5 := hblk.cell 5
  simp only [List.getElem?_toArray, List.getElem?_cons_zero, List.getElem?_cons_succ] at b0 b1 b2 b3 b4 b5
  have kc0 := hK0.cell 0
  have kc1 := hK0.cell 1
  have kc2 := hK0.cell 2
  have kc3 := hK0.cell 3
  have kc4 := hK0.cell 4
  simp only [List.getElem?_toArray, List.getElem?_cons_zero, List.getElem?_cons_succ] at kc0 kc1 kc2 kc3 kc4
  have kr0 := hK1.cell 0
  have kr1 := hK1.cell 1
  simp only [List.getElem?_toArray, List.getElem?_cons_zero, List.getElem?_cons_succ] at kr0 kr1
  clear hblk hK0 hK1 hEE
  generalize L.length = n1 at *
  generalize hn2 : R.length = n2 at *
  generalize W.length = n3 at *
  have hbV := World.block_lt_of_cell? _ _ b0
  by_cases e1 : l.rels.length = 6
  · have HQ : Hid (Q = (Ld.Leader.none, 2)) := by rw [HE.out, if_pos e1]; rfl
    have e1' : ((l.rels.length : Int) == 6) = true := by rw [e1]; rfl
    clear HE HKP HRL HW HK0 HK1
    go_enter Tryz.func72, Tryz.ntmps72
    go_wp2
    go_ret
    exact ⟨leD_bad HQ.out (by decide), HB0.out.mono hsz0⟩
  have e1' : ((l.rels.length : Int) == 6) = false := by simp only [beq_eq_false_iff_ne]; omega
  by_cases e2 : ri = l.rels.length + 1
  rotate_left
  · have HQ : Hid (Q = (Ld.Leader.none, 7)) := by rw [HE.out, if_neg e1, if_neg e2]; rfl
    have e2' : (ri != (l.rels.length : Int) + 1) = true := by rw [bne_iff_ne]; exact e2
    clear HE HKP HRL HW HK0 HK1
    go_enter Tryz.func72, Tryz.ntmps72
    go_wp2
    go_ret
    exact ⟨leD_bad HQ.out (by decide), HB0.out.mono hsz0⟩
  have e2' : (ri != (l.rels.length : Int) + 1) = false := by simp [e2]
  have HQ1 : Hid (Q = if EE = 0 then ({ l with rels := l.rels ++ [(ri, lk)] }, 0) else (Ld.Leader.none, EE)) := by rw [HE.out, if_neg e1, if_pos e2]; rfl
  clear HE e2
  go_enter Tryz.func72, Tryz.ntmps72
  go_wp2_with fail
  refine (HKP.out _ HB0.out).mono ?_
  rintro e w1 ⟨rfl, hb1⟩
  have HB1 : Hid (Below w.heap.size w w1) := HB0.out.trans (hb1.mono HB0.out.size)
  have HW1 : Hid (LdW w1 w0.heap.size b l) := HW.out.below hb1
  have x0 := (hb1.cell (p := ⟨b, 0, none⟩) hbV).trans b0
  have x4 := (hb1.cell (p := ⟨b, 4, none⟩) hbV).trans b4
  have hk1 := HK1.out.below hb1
  have xr0 := hk1.cell 0
  have xr1 := hk1.cell 1
  simp only [List.getElem?_toArray, List.getElem?_cons_zero, List.getElem?_cons_succ] at xr0 xr1
  have hltx : w.heap.size + 1 < w1.heap.size := hk1.lt
  have hbw1 := World.block_lt_of_cell? _ _ x0
  clear hb1 HKP hk1 HW HK0 HK1 HB0 b0 b1 b2 b3 b4 b5 kc0 kc1 kc2 kc3 kc4 kr0 kr1 hbV
  by_cases e3 : EE = 0
  rotate_left
  · have HQ : Hid (Q = (Ld.Leader.none, EE)) := by rw [HQ1.out, if_neg e3]; rfl
    have e3' : (EE != 0) = true := by rw [bne_iff_ne]; exact e3
    clear HQ1 HRL HW1
    go_wp2
    go_ret
    exact ⟨leD_bad HQ.out e3, HB1.out.mono hsz0⟩
  have HQ : Hid (Q = ({ l with rels := l.rels ++ [(ri, lk)] }, 0)) := by rw [HQ1.out, if_pos e3]; rfl
  subst e3
  clear HQ1
  obtain ⟨-, g5', k5', qs0, hblk1, hbb, hbg4, hbg5, -, hne4, hne5, -, -, -, -, hk41, -, hrow, hcap, hkm, hqf, -, hrow5⟩ := HW1.out.at0 x0
  have hg5w : g5 < w1.heap.size := by
    have e := hblk1.cell 4
    rw [x4] at e
    simp only [List.getElem?_toArray, List.getElem?_cons_zero, List.getElem?_cons_succ, Option.some.injEq, Value.slice.injEq, Addr.mk.injEq] at e
    obtain ⟨⟨rfl, -, -⟩, -, -⟩ := e
    exact hrow5.1
  have hg4w : g4 < w1.heap.size := hrow.1
  have xf0 := hblk1.free 0
  have HHB : Hid (Blk w1 b _ _) := hblk1
  have HROW : Hid (Row w1 g4 (flatL qs0)) := hrow
  have HCAP : Hid (Cap w1 g4 24 (k4 * 2)) := hcap
  have HS1 : Hid (Below w.heap.size w w1.drew) := HB1.out.drew
  have HDR : Hid (Below w1.heap.size w1 w1.drew) := (Below.refl _ w1).drew
  have hnl : l.rels.length + 1 ≤ 6 := by omega
  clear hblk1 hrow hcap hbg5 hne5 hqf
  generalize hn4 : l.rels.length = n4 at *
  have hz1' : (Value.agg #[.int .i64 0, .slice none 0 0]).cells.size = 2 := rfl
  have h4' : ¬ b = g4 := hne4
  have h4'' : ¬ g4 = b := fun e => hne4 e.symm
  clear hrow5
  by_cases hrm : n4 + 1 ≤ k4
  · go_wp2_with fail
    go_region_law (first
      | (refine step_append_room (P := Tryz.prog) rfl (.tmp 35) (.tmp 38) 46 rfl 24 i0 2 Tryz.underlying46 hi hz1 g4 0 n4 k4 (by rfl) ⟨w2.heap.size, 0, none⟩ 1 1 [.int .i64 ri, .slice ya lk.length yc] (by rfl) (by rfl) (news2 _ _ _ _) HONE.out hrm HSP.out ?_; simp only [World.setCells, Nat.zero_add])
      | (go_simp; go_at_call 24; refine (HRL.out _ HS1.out).mono ?_; rintro e w2 ⟨⟨y, rfl, hy⟩, hb2⟩; obtain ⟨ya, yc, rfl⟩ := pins_slice hy.pins; have hbx := HDR.out.trans (hb2.mono HDR.out.size); have HB2 : Hid (Below w1.heap.size w1 w2) := hbx; have y0 := (hbx.cell (p := ⟨b, 0, none⟩) hbw1).trans x0; have y4 := (hbx.cell (p := ⟨b, 4, none⟩) hbw1).trans x4; have yf0 := (HHB.out.below hbx).free 0; have hbw2 := World.block_lt_of_cell? _ _ y0; have hg4w2 : g4 < w2.heap.size := Nat.lt_of_lt_of_le hg4w hbx.size; have hnb : ¬ b = w2.heap.size := Nat.ne_of_lt hbw2; have hng : ¬ g4 = w2.heap.size := Nat.ne_of_lt hg4w2; have HONE : Hid (∀ u ∈ ([.int .i64 ri, .slice ya lk.length yc] : List Value), u.oneCell' = true) := (by intro u hu; simp only [List.mem_cons, List.not_mem_nil, or_false] at hu; rcases hu with rfl | rfl <;> rfl); have HSP : Hid (∀ j, j < ([.int .i64 ri, .slice ya lk.length yc] : List Value).length → ((w2.alloc (.cells #[.int .i64 ri, .slice ya lk.length yc] 24)).cell? ⟨g4, 0 + n4 * 2 + j, none⟩).isSome = true ∧ (w2.alloc (.cells #[.int .i64 ri, .slice ya lk.length yc] 24)).frozen? ⟨g4, 0 + n4 * 2 + j, none⟩ = false) := (fun j hj => by
          have hc := (HCAP.out.below hbx).below (box1 w2 #[.int .i64 ri, .slice ya lk.length yc] 24).1
          obtain ⟨u, hu⟩ := cap_cell hc (i := 0 + n4 * 2 + j) (by simp at hj; omega)
          exact ⟨by rw [hu]; rfl, ((HROW.out.below hbx).below (box1 w2 #[.int .i64 ri, .slice ya lk.length yc] 24).1).2.1 _⟩); have HKY : Hid (Keep (fun x => x < w0.heap.size ∨ x = b ∨ x = g4 ∨ x = g5) (fun w => PinsAt w (.slice ya lk.length yc) lk) w2) := Keep.sub (pinsNew_keep hy) (fun x hx => (by rcases hx with hx | hx | hx | hx; exact Nat.lt_of_lt_of_le hx (Nat.le_trans hbb (Nat.le_of_lt hbw1)); exact hx ▸ hbw1; exact hx ▸ hg4w; exact hx ▸ hg5w)); have HF : Hid (LdW (((w2.setCell ⟨g4, n4 * 2, none⟩ (.int .i64 ri)).setCell ⟨g4, n4 * 2 + 1, none⟩ (.slice ya lk.length yc)).setCell ⟨b, 0, none⟩ (.slice (some ⟨g4, 0, none⟩) (n4 + 1) k4)) w0.heap.size b { l with rels := l.rels ++ [(ri, lk)] }) := (HW1.out.below hbx).pubRoom y0 hrm hnl y4 HKY.out; clear hy hb2 hbx))
    all_goals
      go_wp2
      go_ret
      refine ⟨by rw [HQ.out]; exact ⟨rfl, fun _ => HF.out.below ((Below.refl _ _).alloc (Nat.le_refl _) _)⟩, ?_⟩
      have hbz := ((((HB1.out.trans (HB2.out.mono HB1.out.size)).mono hsz0).setCell (p := ⟨g4, n4 * 2, none⟩) hbg4 (.int .i64 ri)).setCell (p := ⟨g4, n4 * 2 + 1, none⟩) hbg4 (.slice ya lk.length yc)).setCell (p := ⟨b, 0, none⟩) hbb (.slice (some ⟨g4, 0, none⟩) (n4 + 1) k4)
      exact hbz.alloc (Nat.le_trans hsz0 hbz.size) _
  · have hk4n : k4 = n4 := by omega
    subst hk4n
    go_wp2_with fail
    go_region_law (first
      | (refine step_append_grows (P := Tryz.prog) rfl (.tmp 35) (.tmp 38) 46 rfl 24 i0 _ 2 32 Tryz.underlying46 hi hz0 hz1 hz2 hz1' (by decide) (some ⟨g4, 0, none⟩) k4 k4 (flatL qs) (by rfl) (fun e => by cases e) HQL.out HQC.out ⟨w2.heap.size, 0, none⟩ 1 1 [.int .i64 ri, .slice ya lk.length yc] (by rfl) (by rfl) (news2 _ _ _ _) HONE.out (Nat.lt_succ_self _) (by unfold maxLen; omega) (by omega) ?_; intro v' w3 hown hgrow; have hb3 := (Below.refl _ (w2.alloc (.cells #[.int .i64 ri, .slice ya lk.length yc] 24))).grown hgrow (Nat.le_refl _) (fun q hq => by cases hq); obtain ⟨g4', k4', rfl, z0, zf0, hL⟩ := HQG.out w3 v' hown hb3; have HL : Hid (LdW _ w0.heap.size b { l with rels := l.rels ++ [(ri, lk)] }) := hL; have HB3 : Hid (Below w0.heap.size w w3) := ((HB1.out.trans (HB2.out.mono HB1.out.size)).mono hsz0).trans ((((Below.refl _ w2).alloc (Nat.le_refl _) _).trans (hb3.mono (box1 w2 #[.int .i64 ri, .slice ya lk.length yc] 24).1.size)).mono (Nat.le_trans hsz0 (Nat.le_trans HB1.out.size HB2.out.size))); clear hown hgrow hb3 hL)
      | (go_simp; go_at_call 24; refine (HRL.out _ HS1.out).mono ?_; rintro e w2 ⟨⟨y, rfl, hy⟩, hb2⟩; obtain ⟨ya, yc, rfl⟩ := pins_slice hy.pins; have hbx := HDR.out.trans (hb2.mono HDR.out.size); have HB2 : Hid (Below w1.heap.size w1 w2) := hbx; have hba := (box1 w2 #[.int .i64 ri, .slice ya lk.length yc] 24).1; have hbxa := hbx.trans (hba.mono hbx.size); have u0 := (hbx.cell (p := ⟨b, 0, none⟩) hbw1).trans x0; have hbw2 := World.block_lt_of_cell? _ _ u0; have hnb : ¬ b = w2.heap.size := Nat.ne_of_lt hbw2; have y0 := (hbxa.cell (p := ⟨b, 0, none⟩) hbw1).trans x0; have y4 := (hbxa.cell (p := ⟨b, 4, none⟩) hbw1).trans x4; have HONE : Hid (∀ u ∈ ([.int .i64 ri, .slice ya lk.length yc] : List Value), u.oneCell' = true) := (by intro u hu; simp only [List.mem_cons, List.not_mem_nil, or_false] at hu; rcases hu with rfl | rfl <;> rfl); have HKY : Hid (Keep (fun x => x < w0.heap.size ∨ x = b ∨ x = g4 ∨ x = g5) (fun w => PinsAt w (.slice ya lk.length yc) lk) (w2.alloc (.cells #[.int .i64 ri, .slice ya lk.length yc] 24))) := (Keep.sub (pinsNew_keep hy) (fun x hx => (by rcases hx with hx | hx | hx | hx; exact Nat.lt_of_lt_of_le hx (Nat.le_trans hbb (Nat.le_of_lt hbw1)); exact hx ▸ hbw1; exact hx ▸ hg4w; exact hx ▸ hg5w))).below hba; obtain ⟨qs, hqr, hql, hqo, hqg⟩ := (HW1.out.below hbxa).pubGrow (i := ri) y0 hnl (World.block_lt_of_cell? _ _ y0) y4 HKY.out; have HQL : Hid ((flatL qs).length = k4 * 2) := (by rw [flatL_len, hql]; rfl); have HQC : Hid (∀ bb : Addr, some (⟨g4, 0, none⟩ : Addr) = some bb → ∀ j u, (flatL qs)[j]? = some u → (w2.alloc (.cells #[.int .i64 ri, .slice ya lk.length yc] 24)).cell? (bb.add j) = some u) := (fun bb e j u hu => by cases e; rw [WideShapes.add_plain, Nat.zero_add]; exact hqr.2.2 j u hu); have HQG : Hid (∀ (w3 : World) (v' : Value), w3.ownsRow (w2.alloc (.cells #[.int .i64 ri, .slice ya lk.length yc] 24)).heap.size 24 2 v' (k4 + 1) (flatL qs ++ [.int .i64 ri, .slice ya lk.length yc]) → Below (w2.alloc (.cells #[.int .i64 ri, .slice ya lk.length yc] 24)).heap.size (w2.alloc (.cells #[.int .i64 ri, .slice ya lk.length yc] 24)) w3 → _) := hqg; clear hy hb2 hbx hba hbxa hqr hql hqo hqg y4))
    all_goals
      go_wp2
      go_ret
      refine ⟨by rw [HQ.out]; exact ⟨rfl, fun _ => HL.out⟩, ?_⟩
      exact HB3.out.setCell hbb _
end Go.Proofs.YtpenkhehceglfaaGreatDoor
