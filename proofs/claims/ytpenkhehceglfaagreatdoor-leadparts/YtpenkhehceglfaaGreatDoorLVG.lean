/- The contract of lead.Next. -/
import Derived.Test.YtpenkhehceglfaaGreatDoorLVF
import Derived.Test.YtpenkhehceglfaaGreatDoorWL
import Derived.Test.YtpenkhehceglfaaGreatDoorMO
namespace Go.Proofs.YtpenkhehceglfaaGreatDoor
open Go.RowKit
theorem next_none {cf : Ld.Config} {l : Ld.Leader} {r : Lk.Note} (h : ¬ (Ld.nextIn cf l r).2 = 0) : Ld.nextIn cf l r = (Ld.Leader.none, (Ld.nextIn cf l r).2) := by
  unfold Ld.nextIn at h ⊢
  repeat' split
  all_goals first | rfl | (exfalso; simp_all)
theorem next_in {cf : Ld.Config} {l : Ld.Leader} {r : Lk.Note} (h1 : Ld.chkLeader cf l = 0) (h2 : Lk.chkNote r = 0) : Ld.nextL cf l r = Ld.nextIn cf l r := by unfold Ld.nextL; rw [if_pos h1, if_pos h2]
theorem next_bad {cf : Ld.Config} {l : Ld.Leader} {r : Lk.Note} (h : ¬ orr [Ld.chkLeader cf l, Lk.chkNote r] = 0) : Ld.nextL cf l r = (Ld.Leader.none, orr [Ld.chkLeader cf l, Lk.chkNote r]) := by
  rw [orr2] at h ⊢
  unfold Ld.nextL
  by_cases h1 : Ld.chkLeader cf l = 0
  · rw [if_pos h1] at h ⊢
    rw [if_pos h1, if_neg h]
  · rw [if_neg h1, if_neg h1]
/-- what copyOf answered, laid in a block of its own -/
theorem ldW_of {w : World} {base : Nat} {l : Ld.Leader} {g4 k4 g5 k5 : Nat} {qs : List ((Int × List (Int × Int)) × Value)} (h : leC6 w base l g4 k4 g5 k5 qs) (hb : base ≤ w.heap.size) (h1 : 1 ≤ l.rels.length ∧ l.rels.length ≤ 6) (h2 : 1 ≤ l.ags.length ∧ l.ags.length ≤ 6) :
    LdW (w.alloc (.cells #[.slice (some ⟨g4, 0, none⟩) l.rels.length k4, .int .i64 l.now, .int .i64 l.goal, .bool l.back, .slice (some ⟨g5, 0, none⟩) l.ags.length k5, .int .i64 l.next] 49)) base w.heap.size l := by
  obtain ⟨e1, e2, e3, e4, e5, e6, e7, e8, e9, e10, e11⟩ := h
  have hx := (Below.refl _ w).alloc (Nat.le_refl _) (.cells #[.slice (some ⟨g4, 0, none⟩) l.rels.length k4, .int .i64 l.now, .int .i64 l.goal, .bool l.back, .slice (some ⟨g5, 0, none⟩) l.ags.length k5, .int .i64 l.next] 49)
  have f4 := e6.1
  have f5 := e11.1
  refine ⟨g4, k4, g5, k5, qs, blk_alloc w _ _, hb, e1, e2, e3, by omega, by omega, h1.1, h1.2, h2.1, h2.2, e4, e5, e6.below hx, e7.below hx, e8, e9, fun q hq => Keep.grow (e10 q hq) hx (fun x hx => ?_), e11.below hx⟩
  rcases hx with hx | hx | hx | hx
  · exact .inl (.inl hx)
  · exact .inr (by omega)
  · exact .inl (.inr (.inl hx))
  · exact .inl (.inr (.inr hx))
set_option maxHeartbeats 16000000 in
set_option maxRecDepth 100000 in
theorem ldNext_any (cf : Ld.Config) (A B D : Value) (ld : Ld.Leader) (Y Z : Value) (rk ra rt rn ri : Int) (rg : Bool) (lk : List (Int × Int)) (z : Value) (w : World) (hC : CfAt w cf A B D) (hL : LdAt w ld Y Z) (hP : PinsAt w z lk) :
    Calls Tryz.prog 15 #[cfV cf A B D, leV ld Y Z, .agg #[.int .i64 rk, .int .i64 ra, .int .i64 rt, .int .i64 rn, .bool rg, .int .i64 ri, z]] w fun e w' => leN w' w.heap.size (Ld.nextL cf ld ⟨rk, ra, rt, rn, rg, ri, lk⟩) e ∧ Below w.heap.size w w' := by
  obtain ⟨az, cz, rfl⟩ := pins_slice hP
  have HCK : Hid (∀ w', Below w.heap.size w w' → Calls Tryz.prog 37 #[cfV cf A B D, leV ld Y Z] w' fun e w'' => e = .returned (.int .i64 (Ld.chkLeader cf ld)) ∧ Below w'.heap.size w' w'') := fun w' hb => ldCheck_any cf A B D ld Y Z w' (hC.below hb) (hL.below hb)
  have HNC : Hid (∀ w', Below w.heap.size w w' → Calls Tryz.prog 21 #[.agg #[.int .i64 rk, .int .i64 ra, .int .i64 rt, .int .i64 rn, .bool rg, .int .i64 ri, .slice az lk.length cz]] w' fun e w'' => e = .returned (.int .i64 (Lk.chkNote ⟨rk, ra, rt, rn, rg, ri, lk⟩)) ∧ Below w'.heap.size w' w'') := fun w' hb => noteCheck_any ⟨rk, ra, rt, rn, rg, ri, lk⟩ _ w' (hP.below hb)
  have HCP : Hid (Ld.chkLeader cf ld = 0 → ∀ w', Below w.heap.size w w' → Calls Tryz.prog 38 #[leV ld Y Z] w' fun e w'' => (∃ g4 k4 g5 k5 qs, e = .returned (.agg #[.slice (some ⟨g4, 0, none⟩) ld.rels.length k4, .int .i64 ld.now, .int .i64 ld.goal, .bool ld.back, .slice (some ⟨g5, 0, none⟩) ld.ags.length k5, .int .i64 ld.next]) ∧ leC6 w'' w'.heap.size ld g4 k4 g5 k5 qs) ∧ Below w'.heap.size w' w'') := fun hc w' hb => by
    obtain ⟨ps, hps, hpe⟩ := (hL.below hb).1
    obtain ⟨g1, g2, g3, _⟩ := (Ld.lead_iff cf ld).1 hc
    have hf := Ld.lead_few hc
    have ha := Ld.agents_ok hf.2.2.2
    have hq : ps.length = ld.rels.length := by rw [← hpe, List.length_map]
    have := copyL_any ld.now ld.goal ld.next ld.back ps ld.ags Y Z w' hps (hL.below hb).2 (by omega) (by omega) (by omega) (by omega) (fun q hqm => rels_few g3 q.1 (by rw [← hpe]; exact List.mem_map.2 ⟨q, hqm, rfl⟩))
    rw [hpe, hq] at this
    exact this
  have HDO : Hid (Ld.chkLeader cf ld = 0 → Lk.chkNote ⟨rk, ra, rt, rn, rg, ri, lk⟩ = 0 → ∀ (w0 : World) (b : Nat) (w' : World), Below w.heap.size w w0 → Below w0.heap.size w0 w' → LdW w' w0.heap.size b ld → Calls Tryz.prog 39 #[cfV cf A B D, .pointer (some ⟨b, 0, none⟩), .agg #[.int .i64 rk, .int .i64 ra, .int .i64 rt, .int .i64 rn, .bool rg, .int .i64 ri, .slice az lk.length cz]] w' fun e w'' => leD w'' w0.heap.size b (Ld.nextIn cf ld ⟨rk, ra, rt, rn, rg, ri, lk⟩) e ∧ Below w0.heap.size w' w'') := fun hc hr w0 b w' hb hb' h => do_any cf A B D w0 b ld rk ra rt rn ri rg lk az cz w' (hC.below hb) hb' h (hP.below hb) hc hr
  have F1 : Hid (¬ orr [Ld.chkLeader cf ld, Lk.chkNote ⟨rk, ra, rt, rn, rg, ri, lk⟩] = 0 → Ld.nextL cf ld ⟨rk, ra, rt, rn, rg, ri, lk⟩ = (Ld.Leader.none, orr [Ld.chkLeader cf ld, Lk.chkNote ⟨rk, ra, rt, rn, rg, ri, lk⟩])) := fun h => next_bad h
  have F2 : Hid (Ld.chkLeader cf ld = 0 → Lk.chkNote ⟨rk, ra, rt, rn, rg, ri, lk⟩ = 0 → Ld.nextL cf ld ⟨rk, ra, rt, rn, rg, ri, lk⟩ = Ld.nextIn cf ld ⟨rk, ra, rt, rn, rg, ri, lk⟩) := fun h1 h2 => next_in h1 h2
  have F3 : Hid (¬ (Ld.nextIn cf ld ⟨rk, ra, rt, rn, rg, ri, lk⟩).2 = 0 → Ld.nextIn cf ld ⟨rk, ra, rt, rn, rg, ri, lk⟩ = (Ld.Leader.none, (Ld.nextIn cf ld ⟨rk, ra, rt, rn, rg, ri, lk⟩).2)) := fun h => next_none h
  have F4 : Hid (Ld.chkLeader cf ld = 0 → (1 ≤ ld.rels.length ∧ ld.rels.length ≤ 6) ∧ (1 ≤ ld.ags.length ∧ ld.ags.length ≤ 6)) := fun hc => by
    obtain ⟨g1, g2, _⟩ := (Ld.lead_iff cf ld).1 hc
    have hf := Ld.lead_few hc
    have ha := Ld.agents_ok hf.2.2.2
    exact ⟨g2, by omega, by omega⟩
  obtain ⟨f, L, R, W, d⟩ := cf
  obtain ⟨a1, c1, rfl⟩ := pins_slice hC.1
  obtain ⟨a2, c2, rfl⟩ := rules_slice hC.2.1
  obtain ⟨a3, c3, rfl⟩ := waves_slice hC.2.2
  obtain ⟨rs, nw, g, bk, ks, nx⟩ := ld
  obtain ⟨a4, c4, rfl⟩ := relA_slice hL.1
  obtain ⟨a5, c5, rfl⟩ := knows_slice hL.2
  clear hC hL hP
  unfold cfV cfC leV leC at HCK
  unfold leV leC at HCP
  unfold cfV cfC at HDO
  simp only at HCK HCP HDO F4
  unfold cfV cfC leV leC
  simp only
  generalize Ld.nextL ⟨f, L, R, W, d⟩ ⟨rs, nw, g, bk, ks, nx⟩ ⟨rk, ra, rt, rn, rg, ri, lk⟩ = Q at F1 F2 ⊢
  generalize Ld.nextIn ⟨f, L, R, W, d⟩ ⟨rs, nw, g, bk, ks, nx⟩ ⟨rk, ra, rt, rn, rg, ri, lk⟩ = QI at F2 F3 HDO
  generalize Ld.chkLeader ⟨f, L, R, W, d⟩ ⟨rs, nw, g, bk, ks, nx⟩ = X1 at F1 F2 F4 HCK HCP HDO
  generalize Lk.chkNote ⟨rk, ra, rt, rn, rg, ri, lk⟩ = X2 at F1 F2 HNC HDO
  generalize lk.length = nz at *
  generalize hn4 : rs.length = n4 at *
  generalize hn5 : ks.length = n5 at *
  generalize L.length = n1 at *
  generalize R.length = n2 at *
  generalize W.length = n3 at *
  obtain ⟨hB0, hK0, hK1, hK2, hZ0⟩ := box4 w #[.int .i64 f, .slice a1 n1 c1, .slice a2 n2 c2, .slice a3 n3 c3, .int .i64 d] #[.slice a4 n4 c4, .int .i64 nw, .int .i64 g, .bool bk, .slice a5 n5 c5, .int .i64 nx] #[.int .i64 rk, .int .i64 ra, .int .i64 rt, .int .i64 rn, .bool rg, .int .i64 ri, .slice az nz cz] #[.slice none 0 0, .int .i64 0, .int .i64 0, .bool false, .slice none 0 0, .int .i64 0] 45 49 34 49
  go_enter Tryz.func15, Tryz.ntmps15
  go_wp2_with fail
  generalize ((((w.alloc (.cells #[.int .i64 f, .slice a1 n1 c1, .slice a2 n2 c2, .slice a3 n3 c3, .int .i64 d] 45)).alloc (.cells #[.slice a4 n4 c4, .int .i64 nw, .int .i64 g, .bool bk, .slice a5 n5 c5, .int .i64 nx] 49)).alloc (.cells #[.int .i64 rk, .int .i64 ra, .int .i64 rt, .int .i64 rn, .bool rg, .int .i64 ri, .slice az nz cz] 34)).alloc (.cells #[.slice none 0 0, .int .i64 0, .int .i64 0, .bool false, .slice none 0 0, .int .i64 0] 49)) = V at hB0 hK0 hK1 hK2 hZ0 ⊢
  generalize hgb : w.heap.size = gb at hK0 hK1 hK2 hZ0 ⊢
  have HB0 : Hid (Below w.heap.size w V) := hB0
  have S0 : Hid (V.drew.cell? ⟨gb, 0, none⟩ = some (.int .i64 f) ∧ V.drew.cell? ⟨gb, 1, none⟩ = some (.slice a1 n1 c1) ∧ V.drew.cell? ⟨gb, 2, none⟩ = some (.slice a2 n2 c2) ∧ V.drew.cell? ⟨gb, 3, none⟩ = some (.slice a3 n3 c3) ∧ V.drew.cell? ⟨gb, 4, none⟩ = some (.int .i64 d) ∧ V.drew.cell? ⟨gb + 1, 0, none⟩ = some (.slice a4 n4 c4) ∧ V.drew.cell? ⟨gb + 1, 1, none⟩ = some (.int .i64 nw) ∧ V.drew.cell? ⟨gb + 1, 2, none⟩ = some (.int .i64 g) ∧ V.drew.cell? ⟨gb + 1, 3, none⟩ = some (.bool bk) ∧ V.drew.cell? ⟨gb + 1, 4, none⟩ = some (.slice a5 n5 c5) ∧ V.drew.cell? ⟨gb + 1, 5, none⟩ = some (.int .i64 nx) ∧ V.drew.cell? ⟨gb + 1 + 1, 0, none⟩ = some (.int .i64 rk) ∧ V.drew.cell? ⟨gb + 1 + 1, 1, none⟩ = some (.int .i64 ra) ∧ V.drew.cell? ⟨gb + 1 + 1, 2, none⟩ = some (.int .i64 rt) ∧ V.drew.cell? ⟨gb + 1 + 1, 3, none⟩ = some (.int .i64 rn) ∧ V.drew.cell? ⟨gb + 1 + 1, 4, none⟩ = some (.bool rg) ∧ V.drew.cell? ⟨gb + 1 + 1, 5, none⟩ = some (.int .i64 ri) ∧ V.drew.cell? ⟨gb + 1 + 1, 6, none⟩ = some (.slice az nz cz) ∧ Hid (Below V.heap.size V V.drew)) := ⟨hK0.cell 0, hK0.cell 1, hK0.cell 2, hK0.cell 3, hK0.cell 4, hK1.cell 0, hK1.cell 1, hK1.cell 2, hK1.cell 3, hK1.cell 4, hK1.cell 5, hK2.cell 0, hK2.cell 1, hK2.cell 2, hK2.cell 3, hK2.cell 4, hK2.cell 5, hK2.cell 6, (Below.refl _ V).drew⟩
  have KP : Hid (∀ x y : World, Below x.heap.size x y → (x.cell? ⟨gb, 0, none⟩ = some (.int .i64 f) ∧ x.cell? ⟨gb, 1, none⟩ = some (.slice a1 n1 c1) ∧ x.cell? ⟨gb, 2, none⟩ = some (.slice a2 n2 c2) ∧ x.cell? ⟨gb, 3, none⟩ = some (.slice a3 n3 c3) ∧ x.cell? ⟨gb, 4, none⟩ = some (.int .i64 d) ∧ x.cell? ⟨gb + 1, 0, none⟩ = some (.slice a4 n4 c4) ∧ x.cell? ⟨gb + 1, 1, none⟩ = some (.int .i64 nw) ∧ x.cell? ⟨gb + 1, 2, none⟩ = some (.int .i64 g) ∧ x.cell? ⟨gb + 1, 3, none⟩ = some (.bool bk) ∧ x.cell? ⟨gb + 1, 4, none⟩ = some (.slice a5 n5 c5) ∧ x.cell? ⟨gb + 1, 5, none⟩ = some (.int .i64 nx) ∧ x.cell? ⟨gb + 1 + 1, 0, none⟩ = some (.int .i64 rk) ∧ x.cell? ⟨gb + 1 + 1, 1, none⟩ = some (.int .i64 ra) ∧ x.cell? ⟨gb + 1 + 1, 2, none⟩ = some (.int .i64 rt) ∧ x.cell? ⟨gb + 1 + 1, 3, none⟩ = some (.int .i64 rn) ∧ x.cell? ⟨gb + 1 + 1, 4, none⟩ = some (.bool rg) ∧ x.cell? ⟨gb + 1 + 1, 5, none⟩ = some (.int .i64 ri) ∧ x.cell? ⟨gb + 1 + 1, 6, none⟩ = some (.slice az nz cz) ∧ Hid (Below V.heap.size V x)) → (y.cell? ⟨gb, 0, none⟩ = some (.int .i64 f) ∧ y.cell? ⟨gb, 1, none⟩ = some (.slice a1 n1 c1) ∧ y.cell? ⟨gb, 2, none⟩ = some (.slice a2 n2 c2) ∧ y.cell? ⟨gb, 3, none⟩ = some (.slice a3 n3 c3) ∧ y.cell? ⟨gb, 4, none⟩ = some (.int .i64 d) ∧ y.cell? ⟨gb + 1, 0, none⟩ = some (.slice a4 n4 c4) ∧ y.cell? ⟨gb + 1, 1, none⟩ = some (.int .i64 nw) ∧ y.cell? ⟨gb + 1, 2, none⟩ = some (.int .i64 g) ∧ y.cell? ⟨gb + 1, 3, none⟩ = some (.bool bk) ∧ y.cell? ⟨gb + 1, 4, none⟩ = some (.slice a5 n5 c5) ∧ y.cell? ⟨gb + 1, 5, none⟩ = some (.int .i64 nx) ∧ y.cell? ⟨gb + 1 + 1, 0, none⟩ = some (.int .i64 rk) ∧ y.cell? ⟨gb + 1 + 1, 1, none⟩ = some (.int .i64 ra) ∧ y.cell? ⟨gb + 1 + 1, 2, none⟩ = some (.int .i64 rt) ∧ y.cell? ⟨gb + 1 + 1, 3, none⟩ = some (.int .i64 rn) ∧ y.cell? ⟨gb + 1 + 1, 4, none⟩ = some (.bool rg) ∧ y.cell? ⟨gb + 1 + 1, 5, none⟩ = some (.int .i64 ri) ∧ y.cell? ⟨gb + 1 + 1, 6, none⟩ = some (.slice az nz cz) ∧ Hid (Below V.heap.size V y))) := fun x y hb h => by
    obtain ⟨h1, h2, h3, h4, h5, h6, h7, h8, h9, h10, h11, h12, h13, h14, h15, h16, h17, h18, hB⟩ := h
    have e : ∀ b o v, x.cell? ⟨b, o, none⟩ = some v → y.cell? ⟨b, o, none⟩ = some v := fun b o v hc => (hb.cell (p := ⟨b, o, none⟩) (World.block_lt_of_cell? x _ hc)).trans hc
    exact ⟨e _ _ _ h1, e _ _ _ h2, e _ _ _ h3, e _ _ _ h4, e _ _ _ h5, e _ _ _ h6, e _ _ _ h7, e _ _ _ h8, e _ _ _ h9, e _ _ _ h10, e _ _ _ h11, e _ _ _ h12, e _ _ _ h13, e _ _ _ h14, e _ _ _ h15, e _ _ _ h16, e _ _ _ h17, e _ _ _ h18, hB.out.trans (hb.mono hB.out.size)⟩
  have KA : Hid (∀ (x : World) O, Below x.heap.size x (x.alloc O)) := fun x O => (Below.refl _ x).alloc (Nat.le_refl _) O
  have SV : Hid (∀ x : World, (x.cell? ⟨gb, 0, none⟩ = some (.int .i64 f) ∧ x.cell? ⟨gb, 1, none⟩ = some (.slice a1 n1 c1) ∧ x.cell? ⟨gb, 2, none⟩ = some (.slice a2 n2 c2) ∧ x.cell? ⟨gb, 3, none⟩ = some (.slice a3 n3 c3) ∧ x.cell? ⟨gb, 4, none⟩ = some (.int .i64 d) ∧ x.cell? ⟨gb + 1, 0, none⟩ = some (.slice a4 n4 c4) ∧ x.cell? ⟨gb + 1, 1, none⟩ = some (.int .i64 nw) ∧ x.cell? ⟨gb + 1, 2, none⟩ = some (.int .i64 g) ∧ x.cell? ⟨gb + 1, 3, none⟩ = some (.bool bk) ∧ x.cell? ⟨gb + 1, 4, none⟩ = some (.slice a5 n5 c5) ∧ x.cell? ⟨gb + 1, 5, none⟩ = some (.int .i64 nx) ∧ x.cell? ⟨gb + 1 + 1, 0, none⟩ = some (.int .i64 rk) ∧ x.cell? ⟨gb + 1 + 1, 1, none⟩ = some (.int .i64 ra) ∧ x.cell? ⟨gb + 1 + 1, 2, none⟩ = some (.int .i64 rt) ∧ x.cell? ⟨gb + 1 + 1, 3, none⟩ = some (.int .i64 rn) ∧ x.cell? ⟨gb + 1 + 1, 4, none⟩ = some (.bool rg) ∧ x.cell? ⟨gb + 1 + 1, 5, none⟩ = some (.int .i64 ri) ∧ x.cell? ⟨gb + 1 + 1, 6, none⟩ = some (.slice az nz cz) ∧ Hid (Below V.heap.size V x)) → Below V.heap.size V x) := fun x h => h.2.2.2.2.2.2.2.2.2.2.2.2.2.2.2.2.2.2.out
  have SP : Hid (∀ x : World, (x.cell? ⟨gb, 0, none⟩ = some (.int .i64 f) ∧ x.cell? ⟨gb, 1, none⟩ = some (.slice a1 n1 c1) ∧ x.cell? ⟨gb, 2, none⟩ = some (.slice a2 n2 c2) ∧ x.cell? ⟨gb, 3, none⟩ = some (.slice a3 n3 c3) ∧ x.cell? ⟨gb, 4, none⟩ = some (.int .i64 d) ∧ x.cell? ⟨gb + 1, 0, none⟩ = some (.slice a4 n4 c4) ∧ x.cell? ⟨gb + 1, 1, none⟩ = some (.int .i64 nw) ∧ x.cell? ⟨gb + 1, 2, none⟩ = some (.int .i64 g) ∧ x.cell? ⟨gb + 1, 3, none⟩ = some (.bool bk) ∧ x.cell? ⟨gb + 1, 4, none⟩ = some (.slice a5 n5 c5) ∧ x.cell? ⟨gb + 1, 5, none⟩ = some (.int .i64 nx) ∧ x.cell? ⟨gb + 1 + 1, 0, none⟩ = some (.int .i64 rk) ∧ x.cell? ⟨gb + 1 + 1, 1, none⟩ = some (.int .i64 ra) ∧ x.cell? ⟨gb + 1 + 1, 2, none⟩ = some (.int .i64 rt) ∧ x.cell? ⟨gb + 1 + 1, 3, none⟩ = some (.int .i64 rn) ∧ x.cell? ⟨gb + 1 + 1, 4, none⟩ = some (.bool rg) ∧ x.cell? ⟨gb + 1 + 1, 5, none⟩ = some (.int .i64 ri) ∧ x.cell? ⟨gb + 1 + 1, 6, none⟩ = some (.slice az nz cz) ∧ Hid (Below V.heap.size V x)) → Below w.heap.size w x) := fun x h => HB0.out.trans (h.2.2.2.2.2.2.2.2.2.2.2.2.2.2.2.2.2.2.out.mono HB0.out.size)
  have HZ0 : Hid (Blk V (gb + 1 + 1 + 1) #[.slice none 0 0, .int .i64 0, .int .i64 0, .bool false, .slice none 0 0, .int .i64 0] 49) := hZ0
  have HG : Hid (gb + 1 + 1 + 1 < V.heap.size) := hZ0.lt
  clear hK0 hK1 hK2 hZ0 hB0
  go_region_held3 (fun w' => w'.cell? ⟨gb, 0, none⟩ = some (.int .i64 f) ∧ w'.cell? ⟨gb, 1, none⟩ = some (.slice a1 n1 c1) ∧ w'.cell? ⟨gb, 2, none⟩ = some (.slice a2 n2 c2) ∧ w'.cell? ⟨gb, 3, none⟩ = some (.slice a3 n3 c3) ∧ w'.cell? ⟨gb, 4, none⟩ = some (.int .i64 d) ∧ w'.cell? ⟨gb + 1, 0, none⟩ = some (.slice a4 n4 c4) ∧ w'.cell? ⟨gb + 1, 1, none⟩ = some (.int .i64 nw) ∧ w'.cell? ⟨gb + 1, 2, none⟩ = some (.int .i64 g) ∧ w'.cell? ⟨gb + 1, 3, none⟩ = some (.bool bk) ∧ w'.cell? ⟨gb + 1, 4, none⟩ = some (.slice a5 n5 c5) ∧ w'.cell? ⟨gb + 1, 5, none⟩ = some (.int .i64 nx) ∧ w'.cell? ⟨gb + 1 + 1, 0, none⟩ = some (.int .i64 rk) ∧ w'.cell? ⟨gb + 1 + 1, 1, none⟩ = some (.int .i64 ra) ∧ w'.cell? ⟨gb + 1 + 1, 2, none⟩ = some (.int .i64 rt) ∧ w'.cell? ⟨gb + 1 + 1, 3, none⟩ = some (.int .i64 rn) ∧ w'.cell? ⟨gb + 1 + 1, 4, none⟩ = some (.bool rg) ∧ w'.cell? ⟨gb + 1 + 1, 5, none⟩ = some (.int .i64 ri) ∧ w'.cell? ⟨gb + 1 + 1, 6, none⟩ = some (.slice az nz cz) ∧ Hid (Below V.heap.size V w')) (first | exact KP.out _ _ (by assumption) (by assumption) | exact S0.out | exact KP.out _ _ (KA.out _ _) (by assumption))
    (first
      | (go_at_call 37; refine (HCK.out _ (SP.out _ (by assumption))).mono ?_; rintro e y ⟨rfl, hby⟩)
      | (go_at_call 21; refine (HNC.out _ (SP.out _ (by assumption))).mono ?_; rintro e y ⟨rfl, hby⟩)
      | (go_at_call 20; refine (orE2 _ _ _).mono ?_; rintro e y ⟨rfl, hby⟩))
  rename_i hSy
  have HSy : Hid (y.cell? ⟨gb, 0, none⟩ = some (.int .i64 f) ∧ y.cell? ⟨gb, 1, none⟩ = some (.slice a1 n1 c1) ∧ y.cell? ⟨gb, 2, none⟩ = some (.slice a2 n2 c2) ∧ y.cell? ⟨gb, 3, none⟩ = some (.slice a3 n3 c3) ∧ y.cell? ⟨gb, 4, none⟩ = some (.int .i64 d) ∧ y.cell? ⟨gb + 1, 0, none⟩ = some (.slice a4 n4 c4) ∧ y.cell? ⟨gb + 1, 1, none⟩ = some (.int .i64 nw) ∧ y.cell? ⟨gb + 1, 2, none⟩ = some (.int .i64 g) ∧ y.cell? ⟨gb + 1, 3, none⟩ = some (.bool bk) ∧ y.cell? ⟨gb + 1, 4, none⟩ = some (.slice a5 n5 c5) ∧ y.cell? ⟨gb + 1, 5, none⟩ = some (.int .i64 nx) ∧ y.cell? ⟨gb + 1 + 1, 0, none⟩ = some (.int .i64 rk) ∧ y.cell? ⟨gb + 1 + 1, 1, none⟩ = some (.int .i64 ra) ∧ y.cell? ⟨gb + 1 + 1, 2, none⟩ = some (.int .i64 rt) ∧ y.cell? ⟨gb + 1 + 1, 3, none⟩ = some (.int .i64 rn) ∧ y.cell? ⟨gb + 1 + 1, 4, none⟩ = some (.bool rg) ∧ y.cell? ⟨gb + 1 + 1, 5, none⟩ = some (.int .i64 ri) ∧ y.cell? ⟨gb + 1 + 1, 6, none⟩ = some (.slice az nz cz) ∧ Hid (Below V.heap.size V y)) := hSy
  have HBy : Hid (Below w.heap.size w y) := SP.out _ hSy
  have hZy := HZ0.out.below (SV.out _ hSy)
  have HZy : Hid (Blk y (gb + 1 + 1 + 1) #[.slice none 0 0, .int .i64 0, .int .i64 0, .bool false, .slice none 0 0, .int .i64 0] 49) := hZy
  have hgy : gb + 1 + 1 + 1 < y.heap.size := hZy.lt
  have hgy1 : gb < y.heap.size := by omega
  have hgy2 : gb + 1 + 1 < y.heap.size := by omega
  clear hSy S0 HCK HNC KA HZ0 hZy
  generalize hX : orr [X1, X2] = X at F1 ⊢
  by_cases x0 : X = 0
  rotate_left
  · have HQ : Hid (Q = (Ld.Leader.none, X)) := F1.out x0
    have x0' : (X != 0) = true := by rw [bne_iff_ne]; exact x0
    clear F1 F2 F3 F4 x0 hX HCP HDO KP SV SP HSy HG
    have d0 := HZy.out.cell 0
    have d1 := HZy.out.cell 1
    have d2 := HZy.out.cell 2
    have d3 := HZy.out.cell 3
    have d4 := HZy.out.cell 4
    have d5 := HZy.out.cell 5
    simp only [List.getElem?_toArray, List.getElem?_cons_zero, List.getElem?_cons_succ] at d0 d1 d2 d3 d4 d5
    have df0 := HZy.out.free 0
    have df1 := HZy.out.free 1
    have df2 := HZy.out.free 2
    have df3 := HZy.out.free 3
    have df4 := HZy.out.free 4
    have df5 := HZy.out.free 5
    clear HZy
    go_wp2
    refine bodyPost_ret (v := .tuple #[.agg #[.slice none 0 0, .int .i64 0, .int .i64 0, .bool false, .slice none 0 0, .int .i64 0], .int .i64 X]) (by simp [results, Tryz.results15, go_sem, d0, d1, d2, d3, d4, d5]) rfl ⟨?_, ?_⟩
    · rw [HQ.out]; exact leN_none _ _ rfl
    · rw [← hgb]; exact below_six HBy.out (by omega) _ _ _ _ _ _
  have hx1 : X1 = 0 := by
    rw [x0, orr2] at hX
    by_cases h : X1 = 0
    · exact h
    · rw [if_neg h] at hX; exact hX
  have hx2 : X2 = 0 := by rw [x0, orr2, if_pos hx1] at hX; exact hX
  subst x0
  have HQ : Hid (Q = QI) := F2.out hx1 hx2
  have HLN : Hid ((1 ≤ n4 ∧ n4 ≤ 6) ∧ (1 ≤ n5 ∧ n5 ≤ 6)) := F4.out hx1
  have HCP' : Hid (∀ w', Below w.heap.size w w' → _) := HCP.out hx1
  have HDO' : Hid (∀ (w0 : World) (b : Nat) (w' : World), Below w.heap.size w w0 → Below w0.heap.size w0 w' → LdW w' w0.heap.size b ⟨rs, nw, g, bk, ks, nx⟩ → _) := HDO.out hx1 hx2
  clear F1 F2 F4 hX hx1 hx2 HCP HDO KP SV SP HG
  obtain ⟨yc0, yc1, yc2, yc3, yc4, yl0, yl1, yl2, yl3, yl4, yl5, yn0, yn1, yn2, yn3, yn4, yn5, yn6, -⟩ := HSy.out
  clear HSy
  go_wp2_with fail
  refine (HCP'.out _ HBy.out).mono ?_
  rintro e w2 ⟨⟨g4, k4, g5, k5, qs, rfl, h6⟩, hb2⟩
  have hLW := ldW_of h6 hb2.size (by simp only [hn4]; exact HLN.out.1) (by simp only [hn5]; exact HLN.out.2)
  simp only [hn4, hn5] at hLW
  have hb2a := hb2.trans (((Below.refl _ w2).alloc (Nat.le_refl _) (.cells #[.slice (some ⟨g4, 0, none⟩) n4 k4, .int .i64 nw, .int .i64 g, .bool bk, .slice (some ⟨g5, 0, none⟩) n5 k5, .int .i64 nx] 49)).mono hb2.size)
  have HDC := HDO'.out y w2.heap.size _ HBy.out hb2a hLW
  have HB2A : Hid (Below y.heap.size y (w2.alloc (.cells #[.slice (some ⟨g4, 0, none⟩) n4 k4, .int .i64 nw, .int .i64 g, .bool bk, .slice (some ⟨g5, 0, none⟩) n5 k5, .int .i64 nx] 49))) := hb2a
  have zc0 := (hb2.cell (p := ⟨gb, 0, none⟩) hgy1).trans yc0
  have zc1 := (hb2.cell (p := ⟨gb, 1, none⟩) hgy1).trans yc1
  have zc2 := (hb2.cell (p := ⟨gb, 2, none⟩) hgy1).trans yc2
  have zc3 := (hb2.cell (p := ⟨gb, 3, none⟩) hgy1).trans yc3
  have zc4 := (hb2.cell (p := ⟨gb, 4, none⟩) hgy1).trans yc4
  have zn0 := (hb2.cell (p := ⟨gb + 1 + 1, 0, none⟩) hgy2).trans yn0
  have zn1 := (hb2.cell (p := ⟨gb + 1 + 1, 1, none⟩) hgy2).trans yn1
  have zn2 := (hb2.cell (p := ⟨gb + 1 + 1, 2, none⟩) hgy2).trans yn2
  have zn3 := (hb2.cell (p := ⟨gb + 1 + 1, 3, none⟩) hgy2).trans yn3
  have zn4 := (hb2.cell (p := ⟨gb + 1 + 1, 4, none⟩) hgy2).trans yn4
  have zn5 := (hb2.cell (p := ⟨gb + 1 + 1, 5, none⟩) hgy2).trans yn5
  have zn6 := (hb2.cell (p := ⟨gb + 1 + 1, 6, none⟩) hgy2).trans yn6
  have hlt2 : gb + 1 + 1 < w2.heap.size := by have := hb2.size; omega
  have hlt2c : gb + 1 + 1 + 1 < w2.heap.size := by have := hb2.size; omega
  have hlt2a : gb + 1 < w2.heap.size := by omega
  have hlt2b : gb < w2.heap.size := by omega
  clear hb2 hb2a h6 hLW HCP' HDO' yc0 yc1 yc2 yc3 yc4 yl0 yl1 yl2 yl3 yl4 yl5 yn0 yn1 yn2 yn3 yn4 yn5 yn6
  go_wp2_with fail
  refine HDC.mono ?_
  rintro e w3 ⟨⟨rfl, hq3⟩, hb3⟩
  have HB3 : Hid (Below y.heap.size y w3) := HB2A.out.trans hb3
  have HZ3 : Hid (Blk w3 (gb + 1 + 1 + 1) #[.slice none 0 0, .int .i64 0, .int .i64 0, .bool false, .slice none 0 0, .int .i64 0] 49) := HZy.out.below HB3.out
  have HB3w : Hid (Below w.heap.size w w3) := HBy.out.trans (HB3.out.mono HBy.out.size)
  have HQ3 : Hid (QI.2 = 0 → LdW w3 y.heap.size w2.heap.size QI.1) := hq3
  clear hb3 hq3 HDC HB2A HZy zc0 zc1 zc2 zc3 zc4 zn0 zn1 zn2 zn3 zn4 zn5 zn6
  by_cases x1 : QI.2 = 0
  rotate_left
  · have HQI : Hid (Q = (Ld.Leader.none, QI.2)) := by rw [HQ.out]; exact F3.out x1
    have x1' : (QI.2 != 0) = true := by rw [bne_iff_ne]; exact x1
    generalize QI.2 = E2 at *
    clear F3 x1 HQ HQ3 HB3
    have d0 := HZ3.out.cell 0
    have d1 := HZ3.out.cell 1
    have d2 := HZ3.out.cell 2
    have d3 := HZ3.out.cell 3
    have d4 := HZ3.out.cell 4
    have d5 := HZ3.out.cell 5
    simp only [List.getElem?_toArray, List.getElem?_cons_zero, List.getElem?_cons_succ] at d0 d1 d2 d3 d4 d5
    have df0 := HZ3.out.free 0
    have df1 := HZ3.out.free 1
    have df2 := HZ3.out.free 2
    have df3 := HZ3.out.free 3
    have df4 := HZ3.out.free 4
    have df5 := HZ3.out.free 5
    clear HZ3
    go_wp2
    refine bodyPost_ret (v := .tuple #[.agg #[.slice none 0 0, .int .i64 0, .int .i64 0, .bool false, .slice none 0 0, .int .i64 0], .int .i64 E2]) (by simp [results, Tryz.results15, go_sem, d0, d1, d2, d3, d4, d5]) rfl ⟨?_, ?_⟩
    · rw [HQI.out]; exact leN_none _ _ rfl
    · rw [← hgb]; exact below_six HB3w.out (by omega) _ _ _ _ _ _
  obtain ⟨g4', k4', g5', k5', hblk, hnew⟩ := (HQ3.out x1).new
  have HNEW : Hid (New y.heap.size (fun w => LdAt w QI.1 (.slice (some ⟨g4', 0, none⟩) QI.1.rels.length k4') (.slice (some ⟨g5', 0, none⟩) QI.1.ags.length k5')) w3) := hnew
  rw [x1]
  clear F3 HQ3 hnew HB3
  have b0 := hblk.cell 0
  have b1 := hblk.cell 1
  have b2 := hblk.cell 2
  have b3 := hblk.cell 3
  have b4 := hblk.cell 4
  have b5 := hblk.cell 5
  simp only [List.getElem?_toArray, List.getElem?_cons_zero, List.getElem?_cons_succ] at b0 b1 b2 b3 b4 b5
  have d0 := HZ3.out.cell 0
  have d1 := HZ3.out.cell 1
  have d2 := HZ3.out.cell 2
  have d3 := HZ3.out.cell 3
  have d4 := HZ3.out.cell 4
  have d5 := HZ3.out.cell 5
  simp only [List.getElem?_toArray, List.getElem?_cons_zero, List.getElem?_cons_succ] at d0 d1 d2 d3 d4 d5
  have df0 := HZ3.out.free 0
  have df1 := HZ3.out.free 1
  have df2 := HZ3.out.free 2
  have df3 := HZ3.out.free 3
  have df4 := HZ3.out.free 4
  have df5 := HZ3.out.free 5
  have hbz : ¬ w2.heap.size = gb + 1 + 1 + 1 := by omega
  clear hblk HZ3
  obtain ⟨⟨rs', nw', gg', bk', ks', nx'⟩, E2⟩ := QI
  simp only at x1 HNEW b0 b1 b2 b3 b4 b5
  subst x1
  go_wp2
  refine bodyPost_ret (v := .tuple #[.agg #[.slice (some ⟨g4', 0, none⟩) rs'.length k4', .int .i64 nw', .int .i64 gg', .bool bk', .slice (some ⟨g5', 0, none⟩) ks'.length k5', .int .i64 nx'], .int .i64 0]) (by simp [results, Tryz.results15, go_sem, d0, d1, d2, d3, d4, d5]) rfl ⟨?_, ?_⟩
  · rw [HQ.out]
    refine ⟨_, _, rfl, New.mono (base := y.heap.size) ?_ HBy.out.size⟩
    exact Keep.six HNEW.out hgy _ _ _ _ _ _
  · rw [← hgb]; exact below_six HB3w.out (by omega) _ _ _ _ _ _
end Go.Proofs.YtpenkhehceglfaaGreatDoor
