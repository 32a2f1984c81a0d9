import Derived.Test.YtmlhipdfjnamiaaGreatLVG
import Derived.Test.YtmlhipdfjnamiaaGreatME
import Derived.Test.YtmlhipdfjnamiaaGreatN6
/- A leader at work whose locks may be others': what LdW has, with a set S in the place of what lies below the call; a slice copied by append in a region that draws; LeaderNext's closure. (Written by tools/gen_leadg8.py.) -/
namespace Go.Proofs.YtmlhipdfjnamiaaGreat
open Go.RowKit
/-- a leader at work: its block and its rows are the call's own; its locks stay whatever is written into blocks of S -/
def LdY (S : Nat → Prop) (w : World) (base b : Nat) (l : Ld.Leader) : Prop := ∃ g4 k4 g5 k5 qs, Blk w b #[.slice (some ⟨g4, 0, none⟩) l.rels.length k4, .int .i64 l.now, .int .i64 l.goal, .bool l.back, .slice (some ⟨g5, 0, none⟩) l.ags.length k5, .int .i64 l.next] 32 ∧ base ≤ b ∧ base ≤ g4 ∧ base ≤ g5 ∧ g4 ≠ g5 ∧ b ≠ g4 ∧ b ≠ g5 ∧ 1 ≤ l.rels.length ∧ l.rels.length ≤ 6 ∧ 1 ≤ l.ags.length ∧ l.ags.length ≤ 6 ∧ l.rels.length ≤ k4 ∧ l.ags.length ≤ k5 ∧ Row w g4 (flatL qs) ∧ Cap w g4 24 (k4 * 2) ∧ k4 ≤ maxLen ∧ qs.map Prod.fst = l.rels ∧ (∀ q ∈ qs, Keep (fun x => S x ∨ x = b ∨ x = g4 ∨ x = g5) (fun w => PinsAt w q.2 q.1.2) w) ∧ Row w g5 (flatK l.ags)
theorem LdY.below {S : Nat → Prop} {w w' : World} {base b : Nat} {l : Ld.Leader} (h : LdY S w base b l) (hb : Below w.heap.size w w') : LdY S w' base b l := by
  obtain ⟨g4, k4, g5, k5, qs, h1, h2, h3, h4, h5, h6, h7, h8, h9, h10, h11, h12, h13, h14, hcp, hkm, h15, h16, h17⟩ := h
  exact ⟨g4, k4, g5, k5, qs, h1.below hb, h2, h3, h4, h5, h6, h7, h8, h9, h10, h11, h12, h13, h14.below hb, hcp.below hb, hkm, h15, fun q hq => (h16 q hq).below hb, h17.below hb⟩
theorem LdY.ld {S : Nat → Prop} {w : World} {base b : Nat} {l : Ld.Leader} (h : LdY S w base b l) : ∃ g4 k4 g5 k5, Blk w b #[.slice (some ⟨g4, 0, none⟩) l.rels.length k4, .int .i64 l.now, .int .i64 l.goal, .bool l.back, .slice (some ⟨g5, 0, none⟩) l.ags.length k5, .int .i64 l.next] 32 ∧ LdAt w l (.slice (some ⟨g4, 0, none⟩) l.rels.length k4) (.slice (some ⟨g5, 0, none⟩) l.ags.length k5) := by
  obtain ⟨g4, k4, g5, k5, qs, h1, h2, h3, h4, h5, h6, h7, h8, h9, h10, h11, h12, h13, h14, hcp, hkm, h15, h16, h17⟩ := h
  have hq := qs_len h15
  exact ⟨g4, k4, g5, k5, h1, ⟨qs, rels_row h14 (by omega) (by omega) (by omega) (fun q hq => (h16 q hq).here), h15⟩, knows_row h17 rfl h13 (by omega)⟩
theorem LdY.field {S : Nat → Prop} {w : World} {base b : Nat} {l l' : Ld.Leader} {i : Nat} {u : Value} (h : LdY S w base b l) (hr : l'.rels = l.rels) (ha : l'.ags = l.ags)
    (hu : ∀ A B : Value, (#[A, .int .i64 l.now, .int .i64 l.goal, .bool l.back, B, .int .i64 l.next] : Array Value).setIfInBounds i u = #[A, .int .i64 l'.now, .int .i64 l'.goal, .bool l'.back, B, .int .i64 l'.next]) : LdY S (w.setCell ⟨b, i, none⟩ u) base b l' := by
  obtain ⟨g4, k4, g5, k5, qs, h1, h2, h3, h4, h5, h6, h7, h8, h9, h10, h11, h12, h13, h14, hcp, hkm, h15, h16, h17⟩ := h
  have e := h1.put i u
  rw [hu] at e
  refine ⟨g4, k4, g5, k5, qs, by rw [hr, ha]; exact e, h2, h3, h4, h5, h6, h7, by rw [hr]; exact h8, by rw [hr]; exact h9, by rw [ha]; exact h10, by rw [ha]; exact h11, by rw [hr]; exact h12, by rw [ha]; exact h13, h14.off h6 _, hcp.set _, hkm, by rw [hr]; exact h15, fun q hq => (h16 q hq).set (a := ⟨b, i, none⟩) (.inr (.inl rfl)) _, by rw [ha]; exact h17.off h7 _⟩
theorem LdY.agent {S : Nat → Prop} {w : World} {base b : Nat} {l : Ld.Leader} {k : Nat} (h : LdY S w base b l) (hk : k < l.ags.length) : ∃ g4 k4 g5 k5, Blk w b #[.slice (some ⟨g4, 0, none⟩) l.rels.length k4, .int .i64 l.now, .int .i64 l.goal, .bool l.back, .slice (some ⟨g5, 0, none⟩) l.ags.length k5, .int .i64 l.next] 32 ∧ base ≤ b ∧ base ≤ g5 ∧ b ≠ g5 ∧
    w.cell? ⟨g5, k * 3, none⟩ = some (.int .i64 (l.ags.getD k ⟨0, 0, false⟩).st) ∧ w.cell? ⟨g5, k * 3 + 1, none⟩ = some (.int .i64 (l.ags.getD k ⟨0, 0, false⟩).tr) ∧ w.cell? ⟨g5, k * 3 + 2, none⟩ = some (.bool (l.ags.getD k ⟨0, 0, false⟩).back) ∧ (∀ j, w.frozen? ⟨g5, j, none⟩ = false) ∧
    (∀ a : Ld.Known, LdY S (((w.setCell ⟨g5, k * 3, none⟩ (.int .i64 a.st)).setCell ⟨g5, k * 3 + 1, none⟩ (.int .i64 a.tr)).setCell ⟨g5, k * 3 + 2, none⟩ (.bool a.back)) base b { l with ags := l.ags.set k a }) ∧
    (∀ s : Int, LdY S (w.setCell ⟨g5, k * 3, none⟩ (.int .i64 s)) base b { l with ags := l.ags.set k { l.ags.getD k ⟨0, 0, false⟩ with st := s } }) := by
  obtain ⟨g4, k4, g5, k5, qs, h1, h2, h3, h4, h5, h6, h7, h8, h9, h10, h11, h12, h13, h14, hcp, hkm, h15, h16, h17⟩ := h
  have key : ∀ i x, i < 3 → (knCells (l.ags.getD k ⟨0, 0, false⟩))[i]? = some x → w.cell? ⟨g5, k * 3 + i, none⟩ = some x := fun i x hi hx => h17.2.2 _ _ ((flatK_at l.ags k hk i hi).trans hx)
  have hlen : (flatK l.ags).length = l.ags.length * 3 := flatK_len _
  refine ⟨g4, k4, g5, k5, h1, h2, h4, h7, key 0 _ (by omega) rfl, key 1 _ (by omega) rfl, key 2 _ (by omega) rfl, h17.2.1, fun a => ?_, fun s => ?_⟩
  · have hr := ((h17.put (i := k * 3) (by omega) (.int .i64 a.st)).put (i := k * 3 + 1) (by rw [List.length_set]; omega) (.int .i64 a.tr)).put (i := k * 3 + 2) (by rw [List.length_set, List.length_set]; omega) (.bool a.back)
    rw [flatK_set a l.ags k hk] at hr
    refine ⟨g4, k4, g5, k5, qs, ?_, h2, h3, h4, h5, h6, h7, h8, h9, by simpa using h10, by simpa using h11, h12, by simpa using h13, ((h14.off (fun e => h5 e.symm) _).off (fun e => h5 e.symm) _).off (fun e => h5 e.symm) _, ((hcp.set _).set _).set _, hkm, h15, fun q hq => (((h16 q hq).set (a := ⟨g5, k * 3, none⟩) (.inr (.inr (.inr rfl))) _).set (a := ⟨g5, k * 3 + 1, none⟩) (.inr (.inr (.inr rfl))) _).set (a := ⟨g5, k * 3 + 2, none⟩) (.inr (.inr (.inr rfl))) _, hr⟩
    simp only [List.length_set]
    exact ((h1.off (fun e => h7 e.symm)).off (fun e => h7 e.symm)).off (fun e => h7 e.symm)
  · have hr := h17.put (i := k * 3) (by omega) (.int .i64 s)
    have e : (flatK l.ags).set (k * 3) (.int .i64 s) = flatK (l.ags.set k { l.ags.getD k ⟨0, 0, false⟩ with st := s }) := by
      rw [← flatK_set _ l.ags k hk]
      have f1 : (flatK l.ags)[k * 3 + 1]? = some (.int .i64 (l.ags.getD k ⟨0, 0, false⟩).tr) := flatK_at l.ags k hk 1 (by omega)
      have f2 : (flatK l.ags)[k * 3 + 2]? = some (.bool (l.ags.getD k ⟨0, 0, false⟩).back) := flatK_at l.ags k hk 2 (by omega)
      apply List.ext_getElem?
      intro i
      simp only [List.getElem?_set, List.length_set]
      by_cases e2 : k * 3 + 2 = i
      · subst e2
        rw [if_neg (by omega), if_pos rfl, if_pos (by omega), f2]
      · by_cases e1 : k * 3 + 1 = i
        · subst e1
          rw [if_neg (by omega), if_neg e2, if_pos rfl, if_pos (by omega), f1]
        · rw [if_neg e2, if_neg e1]
    rw [e] at hr
    refine ⟨g4, k4, g5, k5, qs, ?_, h2, h3, h4, h5, h6, h7, h8, h9, by simpa using h10, by simpa using h11, h12, by simpa using h13, h14.off (fun e => h5 e.symm) _, hcp.set _, hkm, h15, fun q hq => (h16 q hq).set (a := ⟨g5, k * 3, none⟩) (.inr (.inr (.inr rfl))) _, hr⟩
    simp only [List.length_set]
    exact h1.off (fun e => h7 e.symm)
theorem LdY.agentAt {S : Nat → Prop} {w : World} {base b : Nat} {l : Ld.Leader} {k g5 n k5 : Nat} (h : LdY S w base b l) (hk : k < l.ags.length) (hB : w.cell? ⟨b, 4, none⟩ = some (.slice (some ⟨g5, 0, none⟩) n k5)) : base ≤ b ∧ base ≤ g5 ∧ b ≠ g5 ∧
    w.cell? ⟨g5, k * 3, none⟩ = some (.int .i64 (l.ags.getD k ⟨0, 0, false⟩).st) ∧ w.cell? ⟨g5, k * 3 + 1, none⟩ = some (.int .i64 (l.ags.getD k ⟨0, 0, false⟩).tr) ∧ w.cell? ⟨g5, k * 3 + 2, none⟩ = some (.bool (l.ags.getD k ⟨0, 0, false⟩).back) ∧ (∀ j, w.frozen? ⟨g5, j, none⟩ = false) ∧
    (∀ a : Ld.Known, LdY S (((w.setCell ⟨g5, k * 3, none⟩ (.int .i64 a.st)).setCell ⟨g5, k * 3 + 1, none⟩ (.int .i64 a.tr)).setCell ⟨g5, k * 3 + 2, none⟩ (.bool a.back)) base b { l with ags := l.ags.set k a }) ∧
    (∀ s : Int, LdY S (w.setCell ⟨g5, k * 3, none⟩ (.int .i64 s)) base b { l with ags := l.ags.set k { l.ags.getD k ⟨0, 0, false⟩ with st := s } }) := by
  obtain ⟨g4, k4, g5', k5', h1, h2, h3, h4, h5, h6, h7, h8, h9, h10⟩ := h.agent hk
  rw [h1.cell 4] at hB
  simp only [List.getElem?_toArray, List.getElem?_cons_zero, List.getElem?_cons_succ, Option.some.injEq, Value.slice.injEq, Addr.mk.injEq] at hB
  obtain ⟨⟨rfl, -, -⟩, -, -⟩ := hB
  exact ⟨h2, h3, h4, h5, h6, h7, h8, h9, h10⟩
theorem LdY.at0 {S : Nat → Prop} {w : World} {base b : Nat} {l : Ld.Leader} {g4 n k4 : Nat} (h : LdY S w base b l) (hB : w.cell? ⟨b, 0, none⟩ = some (.slice (some ⟨g4, 0, none⟩) n k4)) : n = l.rels.length ∧ ∃ g5 k5 qs, Blk w b #[.slice (some ⟨g4, 0, none⟩) l.rels.length k4, .int .i64 l.now, .int .i64 l.goal, .bool l.back, .slice (some ⟨g5, 0, none⟩) l.ags.length k5, .int .i64 l.next] 32 ∧ base ≤ b ∧ base ≤ g4 ∧ base ≤ g5 ∧ g4 ≠ g5 ∧ b ≠ g4 ∧ b ≠ g5 ∧ 1 ≤ l.rels.length ∧ l.rels.length ≤ 6 ∧ 1 ≤ l.ags.length ∧ l.ags.length ≤ 6 ∧ l.rels.length ≤ k4 ∧ l.ags.length ≤ k5 ∧ Row w g4 (flatL qs) ∧ Cap w g4 24 (k4 * 2) ∧ k4 ≤ maxLen ∧ qs.map Prod.fst = l.rels ∧ (∀ q ∈ qs, Keep (fun x => S x ∨ x = b ∨ x = g4 ∨ x = g5) (fun w => PinsAt w q.2 q.1.2) w) ∧ Row w g5 (flatK l.ags) := by
  obtain ⟨g4', k4', g5, k5, qs, h1, hr⟩ := h
  rw [h1.cell 0] at hB
  simp only [List.getElem?_toArray, List.getElem?_cons_zero, Option.some.injEq, Value.slice.injEq, Addr.mk.injEq] at hB
  obtain ⟨⟨rfl, -, -⟩, rfl, rfl⟩ := hB
  exact ⟨rfl, g5, k5, qs, h1, hr⟩
theorem LdY.pubRoom {S : Nat → Prop} {w : World} {base b : Nat} {l : Ld.Leader} {g4 n k4 : Nat} {i : Int} {y : Value} {lk : List (Int × Int)} (h : LdY S w base b l) (hB : w.cell? ⟨b, 0, none⟩ = some (.slice (some ⟨g4, 0, none⟩) n k4)) (hr : n + 1 ≤ k4) (h6 : n + 1 ≤ 6) {g5 n5 k5 : Nat} (hB4 : w.cell? ⟨b, 4, none⟩ = some (.slice (some ⟨g5, 0, none⟩) n5 k5))
    (hy : Keep (fun x => S x ∨ x = b ∨ x = g4 ∨ x = g5) (fun w => PinsAt w y lk) w) :
    LdY S (((w.setCell ⟨g4, n * 2, none⟩ (.int .i64 i)).setCell ⟨g4, n * 2 + 1, none⟩ y).setCell ⟨b, 0, none⟩ (.slice (some ⟨g4, 0, none⟩) (n + 1) k4)) base b { l with rels := l.rels ++ [(i, lk)] } := by
  obtain ⟨rfl, g5', k5', qs, h1, h2, h3, h4, h5, h6', h7, h8, h9, h10, h11, h12, h13, h14, hcp, hkm, h15, h16, h17⟩ := h.at0 hB
  rw [h1.cell 4] at hB4
  simp only [List.getElem?_toArray, List.getElem?_cons_zero, List.getElem?_cons_succ, Option.some.injEq, Value.slice.injEq, Addr.mk.injEq] at hB4
  obtain ⟨⟨rfl, -, -⟩, -, rfl⟩ := hB4
  have hq := qs_len h15
  have hfl : (flatL qs).length = l.rels.length * 2 := by rw [flatL_len, hq]
  have r1 := h14.push hcp (i := l.rels.length * 2) hfl.symm (by omega) (.int .i64 i)
  have r2 := r1.push (hcp.set _) (i := l.rels.length * 2 + 1) (by simp; omega) (by omega) y
  have ef : flatL qs ++ [.int .i64 i] ++ [y] = flatL (qs ++ [((i, lk), y)]) := by rw [flatL_append]; simp [flatL, relCells]
  rw [ef] at r2
  refine ⟨g4, k4, g5', k5', qs ++ [((i, lk), y)], ?_, h2, h3, h4, h5, h6', h7, by simp, by simp; omega, h10, h11, by simp; omega, h13, r2.off h6' _, ((hcp.set _).set _).set _, hkm, by simp [h15], ?_, ((h17.off h5 _).off h5 _).off h7 _⟩
  · have := ((h1.off (fun e => h6' e.symm) (o := l.rels.length * 2) (u := .int .i64 i)).off (fun e => h6' e.symm) (o := l.rels.length * 2 + 1) (u := y)).put 0 (.slice (some ⟨g4, 0, none⟩) (l.rels.length + 1) k4)
    simp only [List.length_append, List.length_cons, List.length_nil]
    exact this
  · intro q hqm
    have key : Keep (fun x => S x ∨ x = b ∨ x = g4 ∨ x = g5') (fun w => PinsAt w q.2 q.1.2) w := by
      rcases List.mem_append.1 hqm with hm | hm
      · exact h16 q hm
      · simp only [List.mem_cons, List.not_mem_nil, or_false] at hm
        subst hm
        exact hy
    exact ((key.set (a := ⟨g4, l.rels.length * 2, none⟩) (.inr (.inr (.inl rfl))) _).set (a := ⟨g4, l.rels.length * 2 + 1, none⟩) (.inr (.inr (.inl rfl))) _).set (a := ⟨b, 0, none⟩) (.inr (.inl rfl)) _
theorem LdY.pubGrow {S : Nat → Prop} {w : World} {base b : Nat} {l : Ld.Leader} {g4 n k4 : Nat} {i : Int} {y : Value} {lk : List (Int × Int)} (h : LdY S w base b l) (hB : w.cell? ⟨b, 0, none⟩ = some (.slice (some ⟨g4, 0, none⟩) n k4)) (h6 : n + 1 ≤ 6) (hbl : b < w.heap.size) {g5 n5 k5 : Nat} (hB4 : w.cell? ⟨b, 4, none⟩ = some (.slice (some ⟨g5, 0, none⟩) n5 k5))
    (hy : Keep (fun x => S x ∨ x = b ∨ x = g4 ∨ x = g5) (fun w => PinsAt w y lk) w) :
    ∃ qs, Row w g4 (flatL qs) ∧ qs.length = n ∧ (∀ q ∈ qs, ∃ a n c, q.2 = .slice a n c) ∧ ∀ (w3 : World) (v' : Value), w3.ownsRow w.heap.size 24 2 v' (n + 1) (flatL qs ++ [.int .i64 i, y]) → Below w.heap.size w w3 → ∃ g4' k4', v' = .slice (some ⟨g4', 0, none⟩) (n + 1) k4' ∧ w3.cell? ⟨b, 0, none⟩ = some (.slice (some ⟨g4, 0, none⟩) n k4) ∧ w3.frozen? ⟨b, 0, none⟩ = false ∧ LdY S (w3.setCell ⟨b, 0, none⟩ (.slice (some ⟨g4', 0, none⟩) (n + 1) k4')) base b { l with rels := l.rels ++ [(i, lk)] } := by
  obtain ⟨rfl, g5', k5', qs, h1, h2, h3, h4, h5, h6', h7, h8, h9, h10, h11, h12, h13, h14, hcp, hkm, h15, h16, h17⟩ := h.at0 hB
  rw [h1.cell 4] at hB4
  simp only [List.getElem?_toArray, List.getElem?_cons_zero, List.getElem?_cons_succ, Option.some.injEq, Value.slice.injEq, Addr.mk.injEq] at hB4
  obtain ⟨⟨rfl, -, -⟩, -, rfl⟩ := hB4
  have hq := qs_len h15
  refine ⟨qs, h14, hq, fun q hqm => ?_, fun w3 v' hown hb3 => ?_⟩
  · obtain ⟨a, c, e⟩ := pins_slice (h16 q hqm).here
    exact ⟨a, _, c, e⟩
  obtain ⟨g4', k4', rfl, hg1, hg2, hR⟩ := row_owns hown (by omega)
  obtain ⟨hcp', hkm'⟩ := row_cap hown
  have ef : flatL qs ++ [.int .i64 i, y] = flatL (qs ++ [((i, lk), y)]) := by rw [flatL_append]; simp [flatL, relCells]
  rw [ef] at hR
  have h1' := h1.below hb3
  refine ⟨g4', k4', rfl, (h1'.cell 0), h1'.free 0, ?_⟩
  have hg5 : g5' < w.heap.size := h17.1
  have hn1 : b ≠ g4' := by omega
  have hn2 : g4' ≠ g5' := by omega
  refine ⟨g4', k4', g5', k5', qs ++ [((i, lk), y)], ?_, h2, by omega, h4, hn2, hn1, h7, by simp, by simp; omega, h10, h11, by simp; omega, h13, hR.off hn1 _, hcp'.set _, hkm', by simp [h15], ?_, (h17.below hb3).off h7 _⟩
  · have := h1'.put 0 (.slice (some ⟨g4', 0, none⟩) (l.rels.length + 1) k4')
    simp only [List.length_append, List.length_cons, List.length_nil]
    exact this
  · intro q hqm
    have key : Keep (fun x => S x ∨ x = b ∨ x = g4 ∨ x = g5') (fun w => PinsAt w q.2 q.1.2) w := by
      rcases List.mem_append.1 hqm with hm | hm
      · exact h16 q hm
      · simp only [List.mem_cons, List.not_mem_nil, or_false] at hm
        subst hm
        exact hy
    refine Keep.set (Keep.grow key hb3 (fun x hx => ?_)) (a := ⟨b, 0, none⟩) (.inr (.inl rfl)) _
    rcases hx with hx | hx | hx | hx
    · exact .inl (.inl hx)
    · exact .inl (.inr (.inl hx))
    · exact .inr (by omega)
    · exact .inl (.inr (.inr (.inr hx)))
/-- what it is stays, also what is written into a block r that holds nothing yet -/
theorem LdY.out {S : Nat → Prop} {w : World} {base b r : Nat} {l : Ld.Leader} (h : LdY S w base b l) (hr : Blk w r #[.slice none 0 0, .int .i64 0, .int .i64 0, .bool false, .slice none 0 0, .int .i64 0] 32) (hS : ∀ x, S x → x < base ∨ x = r) : ∃ g4 k4 g5 k5, Blk w b #[.slice (some ⟨g4, 0, none⟩) l.rels.length k4, .int .i64 l.now, .int .i64 l.goal, .bool l.back, .slice (some ⟨g5, 0, none⟩) l.ags.length k5, .int .i64 l.next] 32 ∧ base ≤ g4 ∧ Keep S (fun w => LdAt w l (.slice (some ⟨g4, 0, none⟩) l.rels.length k4) (.slice (some ⟨g5, 0, none⟩) l.ags.length k5)) w := by
  obtain ⟨g4, k4, g5, k5, qs, h1, h2, h3, h4, h5, h6, h7, h8, h9, h10, h11, h12, h13, h14, hcp, hkm, h15, h16, h17⟩ := h
  have hq := qs_len h15
  have hr0 := hr.cell 0
  simp only [List.getElem?_toArray, List.getElem?_cons_zero] at hr0
  have n4 : ¬ S g4 := fun hs => by
    rcases hS g4 hs with h | h
    · omega
    · subst h
      cases qs with
      | nil => simp only [List.length_nil] at hq; omega
      | cons q t =>
        have := h14.2.2 0 (.int .i64 q.1.1) rfl
        rw [hr0] at this; cases this
  have n5 : ¬ S g5 := fun hs => by
    rcases hS g5 hs with h | h
    · omega
    · subst h
      have := h17.2.2 (0 * 3 + 0) _ ((flatK_at l.ags 0 (by omega) 0 (by omega)).trans rfl)
      rw [show 0 * 3 + 0 = 0 from rfl, hr0] at this; cases this
  refine ⟨g4, k4, g5, k5, h1, h3, fun w' h' => ?_⟩
  have hk : ∀ q ∈ qs, Keep S (fun w => PinsAt w q.2 q.1.2) w := fun q hq => Keep.sub (h16 q hq) (fun x hx => .inl hx)
  have r1 := rels_keep (S := S) (rels_row h14 (n := l.rels.length) (c := k4) (by omega) (by omega) (by omega) (fun q hq => (h16 q hq).here)) (fun ad n c e _ => by cases e; exact n4) hk
  have r2 := knows_keep (S := S) (knows_row h17 (n := l.ags.length) (c := k5) rfl h13 (by omega)) (fun ad n c e _ => by cases e; exact n5)
  exact ⟨⟨qs, r1 w' h', h15⟩, r2 w' h'⟩
/-- a leader that came in: it stays whatever is written into blocks of S; its row is in none of them -/
def LdS (S : Nat → Prop) (w : World) (l : Ld.Leader) (Y Z : Value) : Prop := Keep S (fun w => LdAt w l Y Z) w ∧ ∀ ad n c, Y = .slice (some ad) n c → ¬ S ad.block
theorem LdS.below {S : Nat → Prop} {w w' : World} {l : Ld.Leader} {Y Z : Value} (h : LdS S w l Y Z) (hb : Below w.heap.size w w') : LdS S w' l Y Z := ⟨h.1.below hb, h.2⟩
theorem LdS.ld {S : Nat → Prop} {w : World} {l : Ld.Leader} {Y Z : Value} (h : LdS S w l Y Z) : LdAt w l Y Z := h.1.here
theorem lds_none (S : Nat → Prop) (w : World) : LdS S w Ld.Leader.none (.slice none 0 0) (.slice none 0 0) := ⟨fun w' _ => ld_none w', fun _ _ _ e => by cases e⟩
/-- each of its locks stays -/
theorem LdS.pins {S : Nat → Prop} {w : World} {l : Ld.Leader} {Y Z : Value} (h : LdS S w l Y Z) : ∃ ps, RelsAt w Y ps ∧ ps.map Prod.fst = l.rels ∧ ∀ q ∈ ps, Keep S (fun w => PinsAt w q.2 q.1.2) w := by
  obtain ⟨ps, hps, hpe⟩ := h.ld.1
  refine ⟨ps, hps, hpe, fun q hq w' h' => ?_⟩
  obtain ⟨ps', hps', hpe'⟩ := (h.1 w' h').1
  obtain ⟨k, hk, hke⟩ := List.mem_iff_getElem.1 hq
  have hlen : ps'.length = ps.length := by
    have e1 := congrArg List.length hpe
    have e2 := congrArg List.length hpe'
    rw [List.length_map] at e1 e2
    omega
  obtain ⟨a, c, rfl⟩ := rels_slice hps
  obtain ⟨b, o, e1, e2, e3, e4⟩ := rels_at hps (k := k) (r := ps[k].1) (v := ps[k].2) (by rw [List.getElem?_eq_getElem hk])
  obtain ⟨b', o', e1', e2', e3', e4'⟩ := rels_at hps' (k := k) (r := ps'[k].1) (v := ps'[k].2) (by rw [List.getElem?_eq_getElem (by omega)])
  rw [e1] at e1'
  injection e1' with e1'
  injection e1' with ea eb
  subst ea eb
  have hS : ¬ S b := h.2 ⟨b, o, none⟩ _ _ (by rw [e1])
  have hc := keep_cell h' (a := ⟨b, o + k * 2 + 1, none⟩) e2 hS
  rw [e4, e4'] at hc
  injection hc with hc
  have hf : ps'[k].1 = ps[k].1 := by
    have e := hpe'.trans hpe.symm
    have := congrArg (fun l => l[k]?) e
    simpa [List.getElem?_map, List.getElem?_eq_getElem hk, List.getElem?_eq_getElem (show k < ps'.length by omega)] using this
  have := rels_pins hps' ps'[k] (List.getElem_mem _)
  rw [hc, hf, hke] at this
  exact this
/-- what LeaderNext answers -/
def leS (S : Nat → Prop) (w : World) (q : Ld.Leader × Int) (e : Ending) : Prop := ∃ Y Z, e = .returned (.tuple #[leV q.1 Y Z, .int .i64 q.2]) ∧ LdS S w q.1 Y Z
theorem leS_none (S : Nat → Prop) (w : World) {q : Ld.Leader × Int} {x : Int} (h : q = (Ld.Leader.none, x)) : leS S w q (.returned (.tuple #[.agg #[.slice none 0 0, .int .i64 0, .int .i64 0, .bool false, .slice none 0 0, .int .i64 0], .int .i64 x])) := by
  subst h; exact ⟨_, _, rfl, lds_none S w⟩
/-- append([]T{}, x...) in a region that draws its order -/
theorem step_copy {P : Program} {ops : Array Oper} {o : Oper} {a : Act} {w : World} {K : Act → World → Prop} {Q : Exit → Act → World → Prop} {E : Prop}
    (hg : o.guard = none) (s x : Operand) (t : TypeId) (hop : o.op = Op.call { callee := Callee.builtin Builtin.append, args := #[s, x], argTypes := #[t, t] })
    (e : TypeId) (i : TypeInfo) (z : Value) (size bytes : Nat) (h1 : P.underlying t = some (.slice e)) (h2 : P.info? e = some i) (h3 : i.zero = some z) (h4 : i.size = size) (h5 : i.bytes = bytes) (h6 : z.cells.size = size) (h7 : 0 < size)
    (ad0 : Addr) (hs : a.eval s = .slice (some ad0) 0 0)
    (ad : Addr) (m c : Nat) (news : List Value) (hx : a.eval x = .slice (some ad) m c) (hn : news.length = m * size) (hc : ∀ j u, news[j]? = some u → w.cell? (ad.add j) = some u) (h1c : ∀ u ∈ news, u.oneCell' = true)
    (hm : 0 < m) (b1 : m ≤ maxLen) (b2 : m * bytes ≤ 140737488355328)
    (hK : ∀ g k w', w.heap.size ≤ g → m ≤ k → k ≤ maxLen → Row w' g news → Cap w' g e (k * size) → Below w.heap.size w w' → K (a.put o.dst (.slice (some ⟨g, 0, none⟩) m k)) w') :
    if Region.wanted o (yielded ops a.tmps) = true then Oper.wp P o a w K Q else E := by
  refine step_append_grows hg s x t hop e i z size bytes h1 h2 h3 h4 h5 h6 h7 (some ad0) 0 0 [] hs (fun h => by cases h) (by simp) (fun _ _ j u h => by simp at h) ad m c news hx hn hc h1c (by omega) (by omega) (by rw [Nat.zero_add]; exact b2) ?_
  intro v' w' hown hgrow
  rw [Nat.zero_add, List.nil_append] at hown
  obtain ⟨g, k, rfl, hg1, hg2, hR⟩ := row_owns hown hm
  obtain ⟨hcp, hkm⟩ := row_cap hown
  exact hK g k w' hg1 hg2 hkm hR hcp ((Below.refl _ w).grown hgrow (Nat.le_refl _) (fun q hq => by cases hq))
theorem knows_news {w : World} {b o n c : Nat} {ks : List Ld.Known} (h : KnowsAt w (.slice (some ⟨b, o, none⟩) n c) ks) : ∀ j u, (flatK ks)[j]? = some u → w.cell? ((⟨b, o, none⟩ : Addr).add j) = some u := fun j u hj => by
  have hadd : (⟨b, o, none⟩ : Addr).add j = ⟨b, o + j, none⟩ := by unfold Addr.add; split <;> simp_all
  have hjl : j < ks.length * 3 := by have := (List.getElem?_eq_some_iff.1 hj).1; rwa [flatK_len] at this
  obtain ⟨b', o', e, _, _, _, _⟩ := knows_at h (k := j / 3) (by omega)
  obtain ⟨b2, o2, e2, _, c0, c1, c2⟩ := knows_at h (k := j / 3) (by omega)
  injection e2 with e2
  injection e2 with ea eb
  subst ea eb
  rw [hadd]
  have hq : j = j / 3 * 3 + 0 ∨ j = j / 3 * 3 + 1 ∨ j = j / 3 * 3 + 2 := by omega
  rcases hq with hq | hq | hq
  · rw [hq, flatK_at ks (j / 3) (by omega) 0 (by omega)] at hj
    rw [hq, Nat.add_zero, c0]; exact hj
  · rw [hq, flatK_at ks (j / 3) (by omega) 1 (by omega)] at hj
    rw [hq, ← Nat.add_assoc, c1]; exact hj
  · rw [hq, flatK_at ks (j / 3) (by omega) 2 (by omega)] at hj
    rw [hq, ← Nat.add_assoc, c2]; exact hj
theorem rels_news {w : World} {ad : Addr} {n c : Nat} {ps : List ((Int × List (Int × Int)) × Value)} (h : RelsAt w (.slice (some ad) n c) ps) : ∀ j u, (flatL ps)[j]? = some u → w.cell? (ad.add j) = some u := by
  obtain ⟨_, p, c', e, _, _, _, h3, _⟩ := h
  injection e with e1
  exact h3 ad e1.symm
theorem below_al {w w' : World} {O : Obj} (h : Below (w.alloc O).heap.size (w.alloc O) w') : Below w.heap.size w w' := ((Below.refl _ w).alloc (Nat.le_refl _) O).trans (h.mono (by rw [World.size_alloc]; omega))
theorem below_ald {w w' : World} {O : Obj} (h : Below ((w.alloc O).drew).heap.size ((w.alloc O).drew) w') : Below w.heap.size w w' := (((Below.refl _ w).alloc (Nat.le_refl _) O).drew).trans (h.mono (by show _ ≤ (w.alloc O).heap.size; rw [World.size_alloc]; omega))
/-- the two rows laid, and their slices stored: a leader at work -/
theorem ldY_of {S : Nat → Prop} {w X : World} {gb b g4 k4 g5 k5 : Nat} {l : Ld.Leader} {A B : Value} {ps : List ((Int × List (Int × Int)) × Value)} (hB : Blk X b #[A, .int .i64 l.now, .int .i64 l.goal, .bool l.back, B, .int .i64 l.next] 32)
    (hp : ps.map Prod.fst = l.rels) (hgb : gb ≤ b) (h4 : b < g4) (h5 : b < g5) (h45 : g4 ≠ g5) (h1 : 1 ≤ l.rels.length ∧ l.rels.length ≤ 6) (h2 : 1 ≤ l.ags.length ∧ l.ags.length ≤ 6) (hk4 : l.rels.length ≤ k4) (hk5 : l.ags.length ≤ k5) (hkm : k4 ≤ maxLen)
    (hR4 : Row X g4 (flatL ps)) (hC4 : Cap X g4 24 (k4 * 2)) (hR5 : Row X g5 (flatK l.ags)) (hw : Below w.heap.size w X) (hP : ∀ q ∈ ps, Keep S (fun w => PinsAt w q.2 q.1.2) w) (hbw : w.heap.size ≤ b) :
    LdY S ((X.setCell ⟨b, 0, none⟩ (.slice (some ⟨g4, 0, none⟩) l.rels.length k4)).setCell ⟨b, 4, none⟩ (.slice (some ⟨g5, 0, none⟩) l.ags.length k5)) gb b l := by
  have n4 : b ≠ g4 := by omega
  have n5 : b ≠ g5 := by omega
  refine ⟨g4, k4, g5, k5, ps, (hB.put 0 _).put 4 _, hgb, by omega, by omega, h45, n4, n5, h1.1, h1.2, h2.1, h2.2, hk4, hk5, (hR4.off n4 _).off n4 _, (hC4.set _).set _, hkm, hp, fun q hq => ?_, (hR5.off n5 _).off n5 _⟩
  refine ((Keep.grow (hP q hq) hw (fun x hx => ?_)).set (a := ⟨b, 0, none⟩) (.inr (.inl rfl)) _).set (a := ⟨b, 4, none⟩) (.inr (.inl rfl)) _
  rcases hx with hx | hx | hx | hx
  · exact .inl hx
  · exact .inr (by omega)
  · exact .inr (by omega)
  · exact .inr (by omega)
set_option maxHeartbeats 1000000 in
theorem lebad_any (x : Int) (w : World) :
    Calls Tryz.prog 16 #[.int .i64 x] w fun e w' => e = .returned (.tuple #[.agg #[.slice none 0 0, .int .i64 0, .int .i64 0, .bool false, .slice none 0 0, .int .i64 0], .int .i64 x]) ∧ Below w.heap.size w w' := by
  have HB : Hid (Below w.heap.size w (w.alloc (.cells #[.slice none 0 0, .int .i64 0, .int .i64 0, .bool false, .slice none 0 0, .int .i64 0] 32))) := (Below.refl _ w).alloc (Nat.le_refl _) _
  have HK : Hid (Blk (w.alloc (.cells #[.slice none 0 0, .int .i64 0, .int .i64 0, .bool false, .slice none 0 0, .int .i64 0] 32)) w.heap.size #[.slice none 0 0, .int .i64 0, .int .i64 0, .bool false, .slice none 0 0, .int .i64 0] 32) := blk_alloc w _ _
  go_enter Tryz.func16, Tryz.ntmps16
  go_upto_region 1 with fail
  generalize w.alloc (.cells #[.slice none 0 0, .int .i64 0, .int .i64 0, .bool false, .slice none 0 0, .int .i64 0] 32) = w1 at HB HK ⊢
  have d0 := HK.out.cell 0
  have d1 := HK.out.cell 1
  have d2 := HK.out.cell 2
  have d3 := HK.out.cell 3
  have d4 := HK.out.cell 4
  have d5 := HK.out.cell 5
  simp only [List.getElem?_toArray, List.getElem?_cons_zero, List.getElem?_cons_succ] at d0 d1 d2 d3 d4 d5
  have df0 := HK.out.free 0
  have df1 := HK.out.free 1
  have df2 := HK.out.free 2
  have df3 := HK.out.free 3
  have df4 := HK.out.free 4
  have df5 := HK.out.free 5
  clear HK
  go_wp2
  refine bodyPost_ret (v := .tuple #[.agg #[.slice none 0 0, .int .i64 0, .int .i64 0, .bool false, .slice none 0 0, .int .i64 0], .int .i64 x]) (by simp [results, Tryz.results16, go_sem, d0, d1, d2, d3, d4, d5]) rfl ⟨rfl, ?_⟩
  exact below_six HB.out (Nat.le_refl _) _ _ _ _ _ _
end Go.Proofs.YtmlhipdfjnamiaaGreat
/- What LeaderNext's walk needs: what a record makes of a leader, by its kind; a map from a bool to a number; what stays whatever is written into a newer block. (Written by tools/gen_leadg9.py.) -/
namespace Go.Proofs.YtmlhipdfjnamiaaGreat
open Go.RowKit Go.Maps
theorem nx4 {cf : Ld.Config} {l : Ld.Leader} {r : Lk.Note} (hc : Ld.chkLeader cf l = 0) (hr : Lk.chkNote r = 0) (hk : r.kind = 4) : Ld.nextIn cf l r = if l.rels.length = 6 then (Ld.Leader.none, 2) else if r.id = l.rels.length + 1 then (if 0 ≤ Rk.broken r.lock cf.rules then (Ld.Leader.none, 8) else ({ l with rels := l.rels ++ [(r.id, r.lock)] }, 0)) else (Ld.Leader.none, 7) := by
  have hl := note_lock hr hk
  have hq := conf_rules (Ld.lead_few hc).2.2.2
  have e : Rk.brokenErr r.lock cf.rules = 0 := by unfold Rk.brokenErr; rw [if_pos hl]; exact hq
  unfold Ld.nextIn Ld.ruled
  rw [if_pos hk, if_pos e]
  by_cases h : 0 ≤ Rk.broken r.lock cf.rules <;> simp [h]
theorem nx5 {cf : Ld.Config} {l : Ld.Leader} {r : Lk.Note} (hk : r.kind = 5) : Ld.nextIn cf l r = if l.goal = 0 then (if r.n ≤ l.rels.length then (if r.n = l.now then (Ld.Leader.none, 6) else ({ l with goal := r.n }, 0)) else (Ld.Leader.none, 5)) else (Ld.Leader.none, 7) := by
  unfold Ld.nextIn; rw [if_neg (by omega), if_pos hk]
theorem nx6 {cf : Ld.Config} {l : Ld.Leader} {r : Lk.Note} (hk : r.kind = 6) : Ld.nextIn cf l r = if r.agent < l.ags.length then (if l.goal ≠ 0 ∧ r.tr = l.next ∧ Ld.isTurn cf l r.agent.toNat = true then ({ l with ags := l.ags.set r.agent.toNat ⟨1, l.next, l.back⟩, next := l.next + 1 }, 0) else (Ld.Leader.none, 7)) else (Ld.Leader.none, 5) := by
  unfold Ld.nextIn; rw [if_neg (by omega), if_neg (by omega), if_pos hk]
theorem nx7 {cf : Ld.Config} {l : Ld.Leader} {r : Lk.Note} (hk : r.kind = 7) : Ld.nextIn cf l r = if r.agent < l.ags.length then (if (l.ags.getD r.agent.toNat ⟨0, 0, false⟩).st = 1 ∧ (l.ags.getD r.agent.toNat ⟨0, 0, false⟩).tr = r.tr then ({ l with ags := l.ags.set r.agent.toNat { l.ags.getD r.agent.toNat ⟨0, 0, false⟩ with st := if r.good = true then 2 else 3 } }, 0) else (Ld.Leader.none, 7)) else (Ld.Leader.none, 5) := by
  unfold Ld.nextIn; rw [if_neg (by omega), if_neg (by omega), if_neg (by omega), if_pos hk]
theorem nx8 {cf : Ld.Config} {l : Ld.Leader} {r : Lk.Note} (hk : r.kind = 8) : Ld.nextIn cf l r = if l.goal = 0 ∨ l.back = true then (Ld.Leader.none, 7) else ({ l with back := true }, 0) := by
  unfold Ld.nextIn; rw [if_neg (by omega), if_neg (by omega), if_neg (by omega), if_neg (by omega), if_pos hk]
theorem nx9 {cf : Ld.Config} {l : Ld.Leader} {r : Lk.Note} (hk : r.kind = 9) : Ld.nextIn cf l r = if l.goal = 0 ∨ Ld.isOver cf l = false then (Ld.Leader.none, 7) else (⟨l.rels, if l.back = true then l.now else l.goal, 0, false, l.ags.map endZ, l.next⟩, 0) := by
  unfold Ld.nextIn; rw [if_neg (by omega), if_neg (by omega), if_neg (by omega), if_neg (by omega), if_neg (by omega), if_pos hk]; rfl
theorem nx0 {cf : Ld.Config} {l : Ld.Leader} {r : Lk.Note} (h4 : ¬ r.kind = 4) (h5 : ¬ r.kind = 5) (h6 : ¬ r.kind = 6) (h7 : ¬ r.kind = 7) (h8 : ¬ r.kind = 8) (h9 : ¬ r.kind = 9) : Ld.nextIn cf l r = (Ld.Leader.none, 4) := by
  unfold Ld.nextIn; rw [if_neg h4, if_neg h5, if_neg h6, if_neg h7, if_neg h8, if_neg h9]
theorem nxb1 {cf : Ld.Config} {l : Ld.Leader} {r : Lk.Note} (h : ¬ Ld.chkLeader cf l = 0) : Ld.nextL cf l r = (Ld.Leader.none, Ld.chkLeader cf l) := by unfold Ld.nextL; rw [if_neg h]
theorem nxb2 {cf : Ld.Config} {l : Ld.Leader} {r : Lk.Note} (h : Ld.chkLeader cf l = 0) (h' : ¬ Lk.chkNote r = 0) : Ld.nextL cf l r = (Ld.Leader.none, Lk.chkNote r) := by unfold Ld.nextL; rw [if_pos h, if_neg h']
theorem rels_addr {w : World} {p : Option Addr} {n c : Nat} {ps : List ((Int × List (Int × Int)) × Value)} (h : RelsAt w (.slice p n c) ps) (h1 : 1 ≤ ps.length) : ∃ b o, p = some ⟨b, o, none⟩ := by
  obtain ⟨b, o, e, _⟩ := rels_at h (k := 0) (r := ps[0].1) (v := ps[0].2) (by rw [List.getElem?_eq_getElem (by omega)])
  exact ⟨b, o, e⟩
theorem knows_addr {w : World} {p : Option Addr} {n c : Nat} {ks : List Ld.Known} (h : KnowsAt w (.slice p n c) ks) (h1 : 1 ≤ ks.length) : ∃ b o, p = some ⟨b, o, none⟩ := by
  obtain ⟨b, o, e, _⟩ := knows_at h (k := 0) (by omega)
  exact ⟨b, o, e⟩
/-! ### a map from a bool to a number -/
theorem keyedB : Keyed Tryz.prog 4 := bool_keyed Tryz.underlying4
theorem zeroN (w : World) : (zeroValue 3).run Tryz.prog w = .ok (.int .i64 0) w := by kernel_rfl
def gotD : Nat → DataW Unit
  | 0 => .map []
  | 1 => (DataW.map []).put (.bool true) (.lit (.int .i64 2))
  | _ => ((DataW.map []).put (.bool true) (.lit (.int .i64 2))).put (.bool false) (.lit (.int .i64 3))
def GotMap (w : World) (b n : Nat) : Prop := w.ownsMap Tryz.prog 4 (plainElem Tryz.prog 3) b n (gotD n)
theorem GotMap.made (w : World) : GotMap (w.alloc (.map #[] 0)) w.heap.size 0 := World.ownsMap_made _ _ _ _
theorem keyB (x : Bool) : keyOf Tryz.prog 4 (.bool x) = some (.bool x) := keyOf_bool_mk Tryz.underlying4 x
theorem numE (k : Int) (h : (Lit.int .i64 k).wf = true) : plainElem (H := Unit) Tryz.prog 3 (.int .i64 k) = some (.lit (.int .i64 k), []) := plainElem_int Tryz.underlying3 h
theorem look_got {w : World} {b : Nat} (h : GotMap w b 2) (x : Bool) : (Instr.lookup 56 (.map (some b)) (.bool x) false).run Tryz.prog w = .ok (.int .i64 (if x = true then 2 else 3)) w := by
  obtain ⟨c, hrun, hat, _⟩ := World.ownsMap.lookup_int (h : w.ownsMap Tryz.prog 4 (plainElem Tryz.prog 3) b 2 (gotD 2)) keyedB Tryz.underlying56 Tryz.underlying3 (zeroN w) (keyB x)
  rw [hrun]
  have hm0 : IsMap (DataW.map (H := Unit) []) := ⟨_, rfl⟩
  have hm1 : IsMap ((DataW.map (H := Unit) []).put (.bool true) (.lit (.int .i64 2))) := put_isMap hm0 _ _
  have hb : ∀ y : Bool, WideAt.IsKeyLit (Lit.bool y) := fun y => by simp [WideAt.IsKeyLit]
  cases x
  · have : (gotD 2).atKey (.bool false) (.lit (.int .i64 0)) = .lit (.int .i64 3) := atKey_put_same hm1 (hb false) _ _
    rw [this] at hat
    simp only [DataW.lit.injEq, Lit.int.injEq, true_and] at hat
    rw [← hat]; rfl
  · have : (gotD 2).atKey (.bool true) (.lit (.int .i64 0)) = .lit (.int .i64 2) := (atKey_put_other (by intro e; cases e) _ _).trans (atKey_put_same hm0 (hb true) _ _)
    rw [this] at hat
    simp only [DataW.lit.injEq, Lit.int.injEq, true_and] at hat
    rw [← hat]; rfl
/-! ### what is written into a newer block -/
theorem as_trans {S : Nat → Prop} {a b c : World} (h : Aside S a b) (k : Aside S b c) : Aside S a c := by
  obtain ⟨h1, h2, h3, h4, h5⟩ := h
  obtain ⟨k1, k2, k3, k4, k5⟩ := k
  exact ⟨k1.trans h1, k2.trans h2, k3.trans h3, Nat.le_trans h4 k4, fun x hx hs => (k5 x (Nat.lt_of_lt_of_le hx h4) hs).trans (h5 x hx hs)⟩
theorem as_below {S : Nat → Prop} {w w' : World} (h : Below w.heap.size w w') : Aside S w w' := ⟨h.os, h.tape, h.output, h.size, fun b hl _ => h.block b hl⟩
theorem as_set {S : Nat → Prop} {w : World} {b i : Nat} (hb : S b) (z : Value) : Aside S w (w.setCell ⟨b, i, none⟩ z) := by
  refine ⟨rfl, rfl, rfl, by rw [World.size_setCell]; exact Nat.le_refl _, fun k _ hs => ?_⟩
  exact Below.heap_setCell w _ z k (fun e => hs (e ▸ hb))
theorem as_self (w : World) (b i : Nat) (z : Value) : Aside (fun y => y = b) w (w.setCell ⟨b, i, none⟩ z) := as_set (S := fun y => y = b) rfl z
theorem as_sub {S T : Nat → Prop} {w w' : World} (h : Aside S w w') (hs : ∀ x, S x → T x) : Aside T w w' := ⟨h.1, h.2.1, h.2.2.1, h.2.2.2.1, fun b hl hn => h.2.2.2.2 b hl (fun hx => hn (hs b hx))⟩
theorem as_keep {S : Nat → Prop} {Q : World → Prop} {w w' : World} (h : Keep S Q w) (ha : Aside S w w') : Keep S Q w' := fun w'' h'' => h w'' (as_trans ha h'')
theorem blk_as {S : Nat → Prop} {w w' : World} {g : Nat} {cs : Array Value} {t : TypeId} (h : Blk w g cs t) (ha : Aside S w w') (hs : ¬ S g) : Blk w' g cs t := by
  have hl := h.lt
  have := ha.2.2.2.2 g hl hs
  unfold Blk at h ⊢
  rw [this]; exact h
theorem row_as {S : Nat → Prop} {w w' : World} {g : Nat} {xs : List Value} (h : Row w g xs) (ha : Aside S w w') (hs : ¬ S g) : Row w' g xs := by
  have hb := ha.2.2.2.2 g h.1 hs
  refine ⟨Nat.lt_of_lt_of_le h.1 ha.2.2.2.1, fun j => ?_, fun j u hu => ?_⟩
  · have := h.2.1 j
    unfold World.frozen? at this ⊢
    simp only [hb]; exact this
  · rw [World.cell?_of_block (w := w) (a := ⟨g, j, none⟩) hb]; exact h.2.2 j u hu
theorem cap_as {S : Nat → Prop} {w w' : World} {g n : Nat} {e : TypeId} (h : Cap w g e n) (ha : Aside S w w') (hs : ¬ S g) : Cap w' g e n := by
  obtain ⟨cur, h1, h2⟩ := h
  exact ⟨cur, (ha.2.2.2.2 g (Array.getElem?_eq_some_iff.1 h1).1 hs).trans h1, h2⟩
theorem cap_lt {w : World} {g n : Nat} {e : TypeId} (h : Cap w g e n) : g < w.heap.size := by
  obtain ⟨cur, h1, _⟩ := h
  exact (Array.getElem?_eq_some_iff.1 h1).1
theorem below_as {x B : Nat} {w w' : World} (ha : Aside (fun y => y = x) w w') (hB : B ≤ w.heap.size) (hx : B ≤ x) : Below B w w' :=
  ⟨ha.1, ha.2.1, ha.2.2.1, ha.2.2.2.1, fun k hk => ha.2.2.2.2 k (Nat.lt_of_lt_of_le hk hB) (fun h => by omega)⟩
/-- a leader at work stays whatever is written into a newer block -/
theorem LdY.stay {S : Nat → Prop} {w w' : World} {base b x : Nat} {l : Ld.Leader} (h : LdY S w base b l) (hx : w.heap.size ≤ x) (hS : S x) (ha : Aside (fun y => y = x) w w') : LdY S w' base b l := by
  obtain ⟨g4, k4, g5, k5, qs, h1, h2, h3, h4, h5, h6, h7, h8, h9, h10, h11, h12, h13, h14, hcp, hkm, h15, h16, h17⟩ := h
  have l1 := h1.lt
  have l4 := h14.1
  have l5 := h17.1
  exact ⟨g4, k4, g5, k5, qs, blk_as h1 ha (fun e => by have : b = x := e; omega), h2, h3, h4, h5, h6, h7, h8, h9, h10, h11, h12, h13, row_as h14 ha (fun e => by have : g4 = x := e; omega), cap_as hcp ha (fun e => by have : g4 = x := e; omega), hkm, h15, fun q hq => as_keep (h16 q hq) (as_sub ha (fun y hy => .inl (hy ▸ hS))), row_as h17 ha (fun e => by have : g5 = x := e; omega)⟩
theorem LdY.sub {S T : Nat → Prop} {w : World} {base b : Nat} {l : Ld.Leader} (h : LdY S w base b l) (hs : ∀ x, T x → S x) : LdY T w base b l := by
  obtain ⟨g4, k4, g5, k5, qs, h1, h2, h3, h4, h5, h6, h7, h8, h9, h10, h11, h12, h13, h14, hcp, hkm, h15, h16, h17⟩ := h
  exact ⟨g4, k4, g5, k5, qs, h1, h2, h3, h4, h5, h6, h7, h8, h9, h10, h11, h12, h13, h14, hcp, hkm, h15, fun q hq => Keep.sub (h16 q hq) (fun x hx => by
    rcases hx with hx | hx | hx | hx
    · exact .inl (hs x hx)
    · exact .inr (.inl hx)
    · exact .inr (.inr (.inl hx))
    · exact .inr (.inr (.inr hx))), h17⟩
/-- the end: what is at work is told, and its six cells are stored into the answer's block -/
theorem LdY.told {S : Nat → Prop} {w : World} {base b r : Nat} {l : Ld.Leader} (h : LdY (fun x => S x ∨ base ≤ x) w base b l) (hr : Blk w r #[.slice none 0 0, .int .i64 0, .int .i64 0, .bool false, .slice none 0 0, .int .i64 0] 32) (hbr : base ≤ r) (hS : ∀ x, S x → x < base) : ∃ g4 k4 g5 k5, Blk w b #[.slice (some ⟨g4, 0, none⟩) l.rels.length k4, .int .i64 l.now, .int .i64 l.goal, .bool l.back, .slice (some ⟨g5, 0, none⟩) l.ags.length k5, .int .i64 l.next] 32 ∧ ∀ v0 v1 v2 v3 v4 v5, leS S ((((((w.setCell ⟨r, 0, none⟩ v0).setCell ⟨r, 1, none⟩ v1).setCell ⟨r, 2, none⟩ v2).setCell ⟨r, 3, none⟩ v3).setCell ⟨r, 4, none⟩ v4).setCell ⟨r, 5, none⟩ v5) (l, 0) (.returned (.tuple #[.agg #[.slice (some ⟨g4, 0, none⟩) l.rels.length k4, .int .i64 l.now, .int .i64 l.goal, .bool l.back, .slice (some ⟨g5, 0, none⟩) l.ags.length k5, .int .i64 l.next], .int .i64 0])) := by
  obtain ⟨g4, k4, g5, k5, hblk, hg, hk⟩ := (h.sub (T := fun x => S x ∨ x = r) (fun x hx => by rcases hx with hx | hx; exact .inl hx; exact .inr (by omega))).out hr (fun x hx => by rcases hx with hx | hx; exact .inl (hS x hx); exact .inr hx)
  refine ⟨g4, k4, g5, k5, hblk, fun v0 v1 v2 v3 v4 v5 => ⟨_, _, rfl, ?_, fun ad n c e hs => ?_⟩⟩
  · exact Keep.sub (Keep.six hk (.inr rfl) v0 v1 v2 v3 v4 v5) (fun x hx => .inl hx)
  · injection e with e1 _ _
    injection e1 with e1
    subst e1
    have := hS _ hs
    simp only at this
    omega
/-- the two rows laid, the releases' first -/
theorem ldY_rk {S : Nat → Prop} {w V X Y Zw : World} {g4 k4 g5 k5 n4 n5 : Nat} {rs : List (Int × List (Int × Int))} {nw g nx : Int} {bk : Bool} {ks : List Ld.Known} {A B : Value} {ps : List ((Int × List (Int × Int)) × Value)} (hK : Blk V (w.heap.size + 1) #[A, .int .i64 nw, .int .i64 g, .bool bk, B, .int .i64 nx] 32) (hV : Below w.heap.size w V) (hX : Below V.heap.size V X) (hG4 : V.heap.size ≤ g4) (hR4 : Row X g4 (flatL ps)) (hC4 : Cap X g4 24 (k4 * 2)) (h5 : Below Y.heap.size Y Zw) (hG5 : Y.heap.size ≤ g5) (hR5 : Row Zw g5 (flatK ks)) (hk4 : n4 ≤ k4) (hk5 : n5 ≤ k5) (hkm : k4 ≤ maxLen)
    (hp : ps.map Prod.fst = rs) (hn4 : rs.length = n4) (hn5 : ks.length = n5) (h1 : 1 ≤ n4 ∧ n4 ≤ 6) (h2 : 1 ≤ n5 ∧ n5 ≤ 6) (hP : ∀ q ∈ ps, Keep S (fun w => PinsAt w q.2 q.1.2) w) (hY : Below X.heap.size X Y) :
    LdY (fun x => S x ∨ w.heap.size ≤ x) ((Zw.setCell ⟨w.heap.size + 1, 0, none⟩ (.slice (some ⟨g4, 0, none⟩) n4 k4)).setCell ⟨w.heap.size + 1, 4, none⟩ (.slice (some ⟨g5, 0, none⟩) n5 k5)) w.heap.size (w.heap.size + 1) ⟨rs, nw, g, bk, ks, nx⟩ := by
  have hXZ : Below X.heap.size X Zw := hY.trans (h5.mono hY.size)
  have hVZ : Below V.heap.size V Zw := hX.trans (hXZ.mono hX.size)
  have hl := hK.lt
  have hl4 := hR4.1
  have hs := hY.size
  subst hn4 hn5
  refine ldY_of (l := ⟨rs, nw, g, bk, ks, nx⟩) (hK.below hVZ) hp (Nat.le_succ _) (by omega) (by omega) (by omega) h1 h2 hk4 hk5 hkm (hR4.below hXZ) (hC4.below hXZ) hR5 (hV.trans (hVZ.mono hV.size)) (fun q hq => ?_) (Nat.le_succ _)
  exact Keep.grow (hP q hq) (Below.refl _ w) (fun x hx => hx)
/-- .. and what is known first -/
theorem ldY_kr {S : Nat → Prop} {w V X Y Zw : World} {g4 k4 g5 k5 n4 n5 : Nat} {rs : List (Int × List (Int × Int))} {nw g nx : Int} {bk : Bool} {ks : List Ld.Known} {A B : Value} {ps : List ((Int × List (Int × Int)) × Value)} (hK : Blk V (w.heap.size + 1) #[A, .int .i64 nw, .int .i64 g, .bool bk, B, .int .i64 nx] 32) (hV : Below w.heap.size w V) (hX : Below V.heap.size V X) (hG5 : V.heap.size ≤ g5) (hR5 : Row X g5 (flatK ks)) (h5 : Below Y.heap.size Y Zw) (hG4 : Y.heap.size ≤ g4) (hR4 : Row Zw g4 (flatL ps)) (hC4 : Cap Zw g4 24 (k4 * 2)) (hk4 : n4 ≤ k4) (hk5 : n5 ≤ k5) (hkm : k4 ≤ maxLen)
    (hp : ps.map Prod.fst = rs) (hn4 : rs.length = n4) (hn5 : ks.length = n5) (h1 : 1 ≤ n4 ∧ n4 ≤ 6) (h2 : 1 ≤ n5 ∧ n5 ≤ 6) (hP : ∀ q ∈ ps, Keep S (fun w => PinsAt w q.2 q.1.2) w) (hY : Below X.heap.size X Y) :
    LdY (fun x => S x ∨ w.heap.size ≤ x) ((Zw.setCell ⟨w.heap.size + 1, 0, none⟩ (.slice (some ⟨g4, 0, none⟩) n4 k4)).setCell ⟨w.heap.size + 1, 4, none⟩ (.slice (some ⟨g5, 0, none⟩) n5 k5)) w.heap.size (w.heap.size + 1) ⟨rs, nw, g, bk, ks, nx⟩ := by
  have hXZ : Below X.heap.size X Zw := hY.trans (h5.mono hY.size)
  have hVZ : Below V.heap.size V Zw := hX.trans (hXZ.mono hX.size)
  have hl := hK.lt
  have hl4 := hR5.1
  have hs := hY.size
  subst hn4 hn5
  refine ldY_of (l := ⟨rs, nw, g, bk, ks, nx⟩) (hK.below hVZ) hp (Nat.le_succ _) (by omega) (by omega) (by omega) h1 h2 hk4 hk5 hkm hR4 hC4 (hR5.below hXZ) (hV.trans (hVZ.mono hV.size)) (fun q hq => ?_) (Nat.le_succ _)
  exact Keep.grow (hP q hq) (Below.refl _ w) (fun x hx => hx)
/-- another block stays, too -/
theorem blk_two {V X Y Zw : World} {c b : Nat} {cs : Array Value} {t : TypeId} (hK : Blk V c cs t) (hX : Below V.heap.size V X) (hY : Below X.heap.size X Y) (h5 : Below Y.heap.size Y Zw) (hne : b ≠ c) (v0 v4 : Value) : Blk ((Zw.setCell ⟨b, 0, none⟩ v0).setCell ⟨b, 4, none⟩ v4) c cs t :=
  ((hK.below (hX.trans ((hY.trans (h5.mono hY.size)).mono hX.size))).off hne).off hne
theorem below_two {w V X Y Zw : World} {b : Nat} (hV : Below w.heap.size w V) (hX : Below V.heap.size V X) (hY : Below X.heap.size X Y) (h5 : Below Y.heap.size Y Zw) (hb : w.heap.size ≤ b) (v0 v4 : Value) : Below w.heap.size w ((Zw.setCell ⟨b, 0, none⟩ v0).setCell ⟨b, 4, none⟩ v4) :=
  ((hV.trans ((hX.trans ((hY.trans (h5.mono hY.size)).mono hX.size)).mono hV.size)).setCell (p := ⟨b, 0, none⟩) hb v0).setCell (p := ⟨b, 4, none⟩) hb v4
theorem step_copyV {P : Program} {ops : Array Oper} {o : Oper} {a : Act} {w : World} {K : Act → World → Prop} {Q : Exit → Act → World → Prop} {E : Prop} (V : World) (hV : Below V.heap.size V w)
    (hg : o.guard = none) (s x : Operand) (t : TypeId) (hop : o.op = Op.call { callee := Callee.builtin Builtin.append, args := #[s, x], argTypes := #[t, t] })
    (e : TypeId) (i : TypeInfo) (z : Value) (size bytes : Nat) (h1 : P.underlying t = some (.slice e)) (h2 : P.info? e = some i) (h3 : i.zero = some z) (h4 : i.size = size) (h5 : i.bytes = bytes) (h6 : z.cells.size = size) (h7 : 0 < size)
    (ad0 : Addr) (hs : a.eval s = .slice (some ad0) 0 0)
    (ad : Addr) (m c : Nat) (news : List Value) (hx : a.eval x = .slice (some ad) m c) (hn : news.length = m * size) (hc : ∀ x, Below V.heap.size V x → ∀ j u, news[j]? = some u → x.cell? (ad.add j) = some u) (h1c : ∀ u ∈ news, u.oneCell' = true)
    (hm : 0 < m) (b1 : m ≤ maxLen) (b2 : m * bytes ≤ 140737488355328)
    (hK : ∀ g k w', w.heap.size ≤ g → V.heap.size ≤ g → m ≤ k → k ≤ maxLen → Row w' g news → Cap w' g e (k * size) → Below w.heap.size w w' → Below V.heap.size V w' → K (a.put o.dst (.slice (some ⟨g, 0, none⟩) m k)) w') :
    if Region.wanted o (yielded ops a.tmps) = true then Oper.wp P o a w K Q else E :=
  step_copy hg s x t hop e i z size bytes h1 h2 h3 h4 h5 h6 h7 ad0 hs ad m c news hx hn (hc w hV) h1c hm b1 b2 (fun g k w' g1 g2 g3 g4 g5 hb => hK g k w' g1 (Nat.le_trans hV.size g1) g2 g3 g4 g5 hb (hV.trans (hb.mono hV.size)))
theorem setCell_same (w : World) (b i : Nat) (v : Value) (h : w.cell? ⟨b, i, none⟩ = some v) : w.setCell ⟨b, i, none⟩ v = w := by
  have hh : (w.setCell ⟨b, i, none⟩ v).heap = w.heap := by
    apply Array.ext_getElem?
    intro j
    by_cases e : b = j
    · subst e
      cases hx : w.heap[b]? with
      | none => simp [World.setCell, Array.getElem?_modify, hx]
      | some o =>
        cases o with
        | cells c el fr =>
          simp only [World.cell?, hx] at h
          simp only [World.setCell, Array.getElem?_modify, hx, if_true, Option.map_some, Option.isSome_none, Bool.false_eq_true, if_false]
          have hc : c[i]? = some v := by simpa using h
          congr 2
          apply Array.ext_getElem?
          intro k
          rw [Array.getElem?_setIfInBounds]
          by_cases ek : i = k
          · subst ek
            rw [if_pos rfl, hc]
            rw [if_pos (Array.getElem?_eq_some_iff.1 hc).1]
          · rw [if_neg ek]
        | _ => simp [World.setCell, Array.getElem?_modify, hx]
    · exact Below.heap_setCell w _ v j (fun h => e h.symm)
  cases w
  simp only [World.setCell] at hh ⊢
  rw [hh]
theorem hid {p : Prop} (h : p) : Hid p := h
theorem al_below (w : World) (O : Obj) : Below w.heap.size w (w.alloc O) := (Below.refl _ w).alloc (Nat.le_refl _) O
theorem ald_below (w : World) (O : Obj) : Below w.heap.size w (w.alloc O).drew := ((Below.refl _ w).alloc (Nat.le_refl _) O).drew
end Go.Proofs.YtmlhipdfjnamiaaGreat
