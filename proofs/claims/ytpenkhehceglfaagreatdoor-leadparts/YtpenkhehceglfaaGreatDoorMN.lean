import Derived.Test.YtpenkhehceglfaaGreatDoorMM
import Derived.Test.YtpenkhehceglfaaGreatDoorMA
import Derived.BigRegion
/- What a copy of a leader is: rows of its own. -/
namespace Go.Proofs.YtpenkhehceglfaaGreatDoor
open Go.RowKit
/-- what a copy is: rows of its own, and pins of its own in no block of theirs -/
def leC6 (w : World) (base : Nat) (l : Ld.Leader) (g4 k4 g5 k5 : Nat) (qs : List ((Int × List (Int × Int)) × Value)) : Prop :=
  base ≤ g4 ∧ base ≤ g5 ∧ g4 ≠ g5 ∧ l.rels.length ≤ k4 ∧ l.ags.length ≤ k5 ∧ Row w g4 (flatL qs) ∧ Cap w g4 24 (k4 * 2) ∧ k4 ≤ maxLen ∧ qs.map Prod.fst = l.rels ∧ (∀ q ∈ qs, Keep (fun x => x < base ∨ x = g4 ∨ x = g5) (fun w => PinsAt w q.2 q.1.2) w) ∧ Row w g5 (flatK l.ags)
theorem leC6.set {w : World} {base g4 k4 g5 k5 : Nat} {l : Ld.Leader} {qs : List ((Int × List (Int × Int)) × Value)} (h : leC6 w base l g4 k4 g5 k5 qs) {b i : Nat} (hb : b < base) (z : Value) : leC6 (w.setCell ⟨b, i, none⟩ z) base l g4 k4 g5 k5 qs := by
  obtain ⟨h1, h2, h3, h4, h5, h6, h7, h8, h9, h10, h11⟩ := h
  exact ⟨h1, h2, h3, h4, h5, h6.off (by omega) _, h7.set _, h8, h9, (fun q hq => (h10 q hq).set (a := ⟨b, i, none⟩) (.inl hb) _), h11.off (by omega) _⟩
theorem leC6.below {w w' : World} {base g4 k4 g5 k5 : Nat} {l : Ld.Leader} {qs : List ((Int × List (Int × Int)) × Value)} (h : leC6 w base l g4 k4 g5 k5 qs) (hb : Below w.heap.size w w') : leC6 w' base l g4 k4 g5 k5 qs := by
  obtain ⟨h1, h2, h3, h4, h5, h6, h7, h8, h9, h10, h11⟩ := h
  exact ⟨h1, h2, h3, h4, h5, h6.below hb, h7.below hb, h8, h9, (fun q hq => (h10 q hq).below hb), h11.below hb⟩
theorem leC6.mono {w : World} {base base' g4 k4 g5 k5 : Nat} {l : Ld.Leader} {qs : List ((Int × List (Int × Int)) × Value)} (h : leC6 w base l g4 k4 g5 k5 qs) (hb : base' ≤ base) : leC6 w base' l g4 k4 g5 k5 qs := by
  obtain ⟨h1, h2, h3, h4, h5, h6, h7, h8, h9, h10, h11⟩ := h
  exact ⟨by omega, by omega, h3, h4, h5, h6, h7, h8, h9, (fun q hq => Keep.sub (h10 q hq) (fun x hx => (hx.imp (fun h => Nat.lt_of_lt_of_le h hb) id))), h11⟩
theorem qs_step {qs ps : List ((Int × List (Int × Int)) × Value)} {k : Nat} (hq : qs.length = k) (hk : k < ps.length) (p : (Int × List (Int × Int)) × Value) : (qs ++ ps.drop k).set k p = (qs ++ [p]) ++ ps.drop (k + 1) := by
  rw [List.set_append_right _ _ (by omega), hq, Nat.sub_self, List.drop_eq_getElem_cons hk, List.set_cons_zero, List.append_assoc]
  rfl
theorem qs_at {qs ps : List ((Int × List (Int × Int)) × Value)} {k : Nat} (hq : qs.length = k) (hk : k < ps.length) : (qs ++ ps.drop k)[k]? = some ps[k] := by
  rw [List.getElem?_append_right (by omega), hq, Nat.sub_self, List.drop_eq_getElem_cons hk]; rfl
end Go.Proofs.YtpenkhehceglfaaGreatDoor
/- What a record does to the leader at work, in place: the contracts of lead.start, goBack, got, send, tellOrHear. -/
namespace Go.Proofs.YtpenkhehceglfaaGreatDoor
open Go.RowKit
/-- a leader at work: its block, its rows, its pins: all of the call's own -/
def LdW (w : World) (base b : Nat) (l : Ld.Leader) : Prop := ∃ g4 k4 g5 k5 qs, Blk w b #[.slice (some ⟨g4, 0, none⟩) l.rels.length k4, .int .i64 l.now, .int .i64 l.goal, .bool l.back, .slice (some ⟨g5, 0, none⟩) l.ags.length k5, .int .i64 l.next] 49 ∧ base ≤ b ∧ base ≤ g4 ∧ base ≤ g5 ∧ g4 ≠ g5 ∧ b ≠ g4 ∧ b ≠ g5 ∧ 1 ≤ l.rels.length ∧ l.rels.length ≤ 6 ∧ 1 ≤ l.ags.length ∧ l.ags.length ≤ 6 ∧ l.rels.length ≤ k4 ∧ l.ags.length ≤ k5 ∧ Row w g4 (flatL qs) ∧ Cap w g4 24 (k4 * 2) ∧ k4 ≤ maxLen ∧ qs.map Prod.fst = l.rels ∧ (∀ q ∈ qs, Keep (fun x => x < base ∨ x = b ∨ x = g4 ∨ x = g5) (fun w => PinsAt w q.2 q.1.2) w) ∧ Row w g5 (flatK l.ags)
theorem LdW.below {w w' : World} {base b : Nat} {l : Ld.Leader} (h : LdW w base b l) (hb : Below w.heap.size w w') : LdW w' base b l := by
  obtain ⟨g4, k4, g5, k5, qs, h1, h2, h3, h4, h5, h6, h7, h8, h9, h10, h11, h12, h13, h14, hcp, hkm, h15, h16, h17⟩ := h
  exact ⟨g4, k4, g5, k5, qs, h1.below hb, h2, h3, h4, h5, h6, h7, h8, h9, h10, h11, h12, h13, h14.below hb, hcp.below hb, hkm, h15, fun q hq => (h16 q hq).below hb, h17.below hb⟩
theorem qs_len {qs : List ((Int × List (Int × Int)) × Value)} {rs : List (Int × List (Int × Int))} (h : qs.map Prod.fst = rs) : qs.length = rs.length := by rw [← h, List.length_map]
/-- what is at work is a leader -/
theorem LdW.ld {w : World} {base b : Nat} {l : Ld.Leader} (h : LdW w base b l) : ∃ g4 k4 g5 k5, Blk w b #[.slice (some ⟨g4, 0, none⟩) l.rels.length k4, .int .i64 l.now, .int .i64 l.goal, .bool l.back, .slice (some ⟨g5, 0, none⟩) l.ags.length k5, .int .i64 l.next] 49 ∧ LdAt w l (.slice (some ⟨g4, 0, none⟩) l.rels.length k4) (.slice (some ⟨g5, 0, none⟩) l.ags.length k5) := by
  obtain ⟨g4, k4, g5, k5, qs, h1, h2, h3, h4, h5, h6, h7, h8, h9, h10, h11, h12, h13, h14, hcp, hkm, h15, h16, h17⟩ := h
  have hq := qs_len h15
  exact ⟨g4, k4, g5, k5, h1, ⟨qs, rels_row h14 (by omega) (by omega) (by omega) (fun q hq => (h16 q hq).here), h15⟩, knows_row h17 rfl h13 (by omega)⟩
/-- and, told, it stays one whatever is written below base -/
theorem LdW.new {w : World} {base b : Nat} {l : Ld.Leader} (h : LdW w base b l) : ∃ g4 k4 g5 k5, Blk w b #[.slice (some ⟨g4, 0, none⟩) l.rels.length k4, .int .i64 l.now, .int .i64 l.goal, .bool l.back, .slice (some ⟨g5, 0, none⟩) l.ags.length k5, .int .i64 l.next] 49 ∧ New base (fun w => LdAt w l (.slice (some ⟨g4, 0, none⟩) l.rels.length k4) (.slice (some ⟨g5, 0, none⟩) l.ags.length k5)) w := by
  obtain ⟨g4, k4, g5, k5, qs, h1, h2, h3, h4, h5, h6, h7, h8, h9, h10, h11, h12, h13, h14, hcp, hkm, h15, h16, h17⟩ := h
  have hq := qs_len h15
  refine ⟨g4, k4, g5, k5, h1, fun w' h' => ?_⟩
  have hk : ∀ q ∈ qs, Keep (fun x => x < base) (fun w => PinsAt w q.2 q.1.2) w := fun q hq => Keep.sub (h16 q hq) (fun x hx => .inl hx)
  have r1 := rels_keep (S := fun x => x < base) (rels_row h14 (n := l.rels.length) (c := k4) (by omega) (by omega) (by omega) (fun q hq => (h16 q hq).here)) (fun ad n c e _ => by cases e; exact Nat.not_lt.2 h3) hk
  have r2 := knows_keep (S := fun x => x < base) (knows_row h17 (n := l.ags.length) (c := k5) rfl h13 (by omega)) (fun ad n c e _ => by cases e; exact Nat.not_lt.2 h4)
  exact ⟨⟨qs, r1 w' h', h15⟩, r2 w' h'⟩
/-- a number of it is turned -/
theorem LdW.field {w : World} {base b : Nat} {l l' : Ld.Leader} {i : Nat} {u : Value} (h : LdW w base b l) (hr : l'.rels = l.rels) (ha : l'.ags = l.ags)
    (hu : ∀ A B : Value, (#[A, .int .i64 l.now, .int .i64 l.goal, .bool l.back, B, .int .i64 l.next] : Array Value).setIfInBounds i u = #[A, .int .i64 l'.now, .int .i64 l'.goal, .bool l'.back, B, .int .i64 l'.next]) : LdW (w.setCell ⟨b, i, none⟩ u) base b l' := by
  obtain ⟨g4, k4, g5, k5, qs, h1, h2, h3, h4, h5, h6, h7, h8, h9, h10, h11, h12, h13, h14, hcp, hkm, h15, h16, h17⟩ := h
  have e := h1.put i u
  rw [hu] at e
  refine ⟨g4, k4, g5, k5, qs, by rw [hr, ha]; exact e, h2, h3, h4, h5, h6, h7, by rw [hr]; exact h8, by rw [hr]; exact h9, by rw [ha]; exact h10, by rw [ha]; exact h11, by rw [hr]; exact h12, by rw [ha]; exact h13, h14.off h6 _, hcp.set _, hkm, by rw [hr]; exact h15, fun q hq => (h16 q hq).set (a := ⟨b, i, none⟩) (.inr (.inl rfl)) _, by rw [ha]; exact h17.off h7 _⟩
/-- what do and its like answer -/
def leD (w : World) (base b : Nat) (q : Ld.Leader × Int) (e : Ending) : Prop := e = .returned (.int .i64 q.2) ∧ (q.2 = 0 → LdW w base b q.1)
theorem leD_bad {w : World} {base b : Nat} {q : Ld.Leader × Int} {x : Int} (h : q = (Ld.Leader.none, x)) (hx : x ≠ 0) : leD w base b q (.returned (.int .i64 x)) := by
  subst h; exact ⟨rfl, fun e => absurd e hx⟩
def startL (l : Ld.Leader) (n : Int) : Ld.Leader × Int :=
  if l.goal = 0 then (if n ≤ l.rels.length then (if n = l.now then (Ld.Leader.none, 6) else ({ l with goal := n }, 0)) else (Ld.Leader.none, 5)) else (Ld.Leader.none, 7)
set_option maxHeartbeats 2000000 in
theorem start_any (base b : Nat) (l : Ld.Leader) (n : Int) (w : World) (h : LdW w base b l) :
    Calls Tryz.prog 73 #[.pointer (some ⟨b, 0, none⟩), .int .i64 n] w fun e w' => leD w' base b (startL l n) e ∧ Below base w w' := by
  have HN := fun w' => (show LdW w base b l → w' = w.setCell ⟨b, 2, none⟩ (.int .i64 n) → LdW w' base b { l with goal := n } from fun h e => by subst e; exact h.field rfl rfl (fun _ _ => rfl))
  have HNN : Hid (LdW (w.setCell ⟨b, 2, none⟩ (.int .i64 n)) base b { l with goal := n }) := HN _ h rfl
  have HB : Hid (Below base w (w.setCell ⟨b, 2, none⟩ (.int .i64 n))) := (Below.refl _ w).setCell (by obtain ⟨_, _, _, _, _, _, h2, _⟩ := h; exact h2) _
  have HE : Hid (startL l n = if l.goal = 0 then (if n ≤ l.rels.length then (if n = l.now then (Ld.Leader.none, 6) else ({ l with goal := n }, 0)) else (Ld.Leader.none, 5)) else (Ld.Leader.none, 7)) := rfl
  obtain ⟨g4, k4, g5, k5, h1, -⟩ := h.ld
  clear h HN
  have b0 := h1.cell 0
  have b1 := h1.cell 1
  have b2 := h1.cell 2
  have b3 := h1.cell 3
  have b4 := h1.cell 4
  have b5 := h1.cell 5
  simp only [List.getElem?_toArray, List.getElem?_cons_zero, List.getElem?_cons_succ] at b0 b1 b2 b3 b4 b5
  have bf2 := h1.free 2
  clear h1
  obtain ⟨rs, nw, g, bk, ks, nx⟩ := l
  simp only at b0 b1 b2 b3 b4 b5 HE HNN
  generalize startL ⟨rs, nw, g, bk, ks, nx⟩ n = Q at HE ⊢
  by_cases c1 : g = 0
  rotate_left
  · have HQ : Hid (Q = (Ld.Leader.none, 7)) := by rw [HE.out, if_neg c1]; rfl
    have c1' : (g != 0) = true := by rw [bne_iff_ne]; exact c1
    clear HE c1
    go_enter Tryz.func73, Tryz.ntmps73
    go_wp2
    go_ret
    exact ⟨leD_bad HQ.out (by decide), Below.refl _ _⟩
  subst c1
  by_cases c2 : n ≤ rs.length
  rotate_left
  · have HQ : Hid (Q = (Ld.Leader.none, 5)) := by rw [HE.out, if_pos rfl, if_neg c2]; rfl
    have c2' : (rs.length : Int) < n := by omega
    clear HE c2
    go_enter Tryz.func73, Tryz.ntmps73
    go_wp2
    go_ret
    exact ⟨leD_bad HQ.out (by decide), Below.refl _ _⟩
  have c2' : decide ((rs.length : Int) < n) = false := decide_eq_false (by omega)
  by_cases c3 : n = nw
  · have HQ : Hid (Q = (Ld.Leader.none, 6)) := by rw [HE.out, if_pos rfl, if_pos c2, if_pos c3]; rfl
    subst c3
    clear HE
    go_enter Tryz.func73, Tryz.ntmps73
    go_wp2
    go_ret
    exact ⟨leD_bad HQ.out (by decide), Below.refl _ _⟩
  have HQ : Hid (Q = (⟨rs, nw, n, bk, ks, nx⟩, 0)) := by rw [HE.out, if_pos rfl, if_pos c2, if_neg c3]; rfl
  have c3' : (n == nw) = false := by simpa using c3
  clear HE c3
  go_enter Tryz.func73, Tryz.ntmps73
  go_wp2
  go_ret
  exact ⟨by rw [HQ.out]; exact ⟨rfl, fun _ => HNN.out⟩, HB.out⟩
def backL (l : Ld.Leader) : Ld.Leader × Int := if l.goal = 0 ∨ l.back = true then (Ld.Leader.none, 7) else ({ l with back := true }, 0)
set_option maxHeartbeats 2000000 in
theorem goBack_any (base b : Nat) (l : Ld.Leader) (w : World) (h : LdW w base b l) :
    Calls Tryz.prog 75 #[.pointer (some ⟨b, 0, none⟩)] w fun e w' => leD w' base b (backL l) e ∧ Below base w w' := by
  have HNN : Hid (LdW (w.setCell ⟨b, 3, none⟩ (.bool true)) base b { l with back := true }) := h.field rfl rfl (fun _ _ => rfl)
  have HB : Hid (Below base w (w.setCell ⟨b, 3, none⟩ (.bool true))) := (Below.refl _ w).setCell (by obtain ⟨_, _, _, _, _, _, h2, _⟩ := h; exact h2) _
  have HE : Hid (backL l = if l.goal = 0 ∨ l.back = true then (Ld.Leader.none, 7) else ({ l with back := true }, 0)) := rfl
  obtain ⟨g4, k4, g5, k5, h1, -⟩ := h.ld
  clear h
  have b0 := h1.cell 0
  have b1 := h1.cell 1
  have b2 := h1.cell 2
  have b3 := h1.cell 3
  have b4 := h1.cell 4
  have b5 := h1.cell 5
  simp only [List.getElem?_toArray, List.getElem?_cons_zero, List.getElem?_cons_succ] at b0 b1 b2 b3 b4 b5
  have bf3 := h1.free 3
  clear h1
  obtain ⟨rs, nw, g, bk, ks, nx⟩ := l
  simp only at b0 b1 b2 b3 b4 b5 HE HNN
  generalize backL ⟨rs, nw, g, bk, ks, nx⟩ = Q at HE ⊢
  by_cases c1 : g = 0
  · have HQ : Hid (Q = (Ld.Leader.none, 7)) := by rw [HE.out, if_pos (.inl c1)]; rfl
    subst c1
    clear HE
    go_enter Tryz.func75, Tryz.ntmps75
    go_wp2
    go_ret
    exact ⟨leD_bad HQ.out (by decide), Below.refl _ _⟩
  have c1' : (g == 0) = false := by simpa using c1
  cases bk
  · have HQ : Hid (Q = (⟨rs, nw, g, true, ks, nx⟩, 0)) := by rw [HE.out, if_neg (by simp [c1])]; rfl
    clear HE c1
    go_enter Tryz.func75, Tryz.ntmps75
    go_wp2
    go_ret
    exact ⟨by rw [HQ.out]; exact ⟨rfl, fun _ => HNN.out⟩, HB.out⟩
  · have HQ : Hid (Q = (Ld.Leader.none, 7)) := by rw [HE.out, if_pos (.inr rfl)]; rfl
    clear HE c1
    go_enter Tryz.func75, Tryz.ntmps75
    go_wp2
    go_ret
    exact ⟨leD_bad HQ.out (by decide), Below.refl _ _⟩
/-- what is known of one agent is turned -/
theorem LdW.agent {w : World} {base b : Nat} {l : Ld.Leader} {k : Nat} (h : LdW w base b l) (hk : k < l.ags.length) : ∃ g4 k4 g5 k5, Blk w b #[.slice (some ⟨g4, 0, none⟩) l.rels.length k4, .int .i64 l.now, .int .i64 l.goal, .bool l.back, .slice (some ⟨g5, 0, none⟩) l.ags.length k5, .int .i64 l.next] 49 ∧ base ≤ b ∧ base ≤ g5 ∧ b ≠ g5 ∧
    w.cell? ⟨g5, k * 3, none⟩ = some (.int .i64 (l.ags.getD k ⟨0, 0, false⟩).st) ∧ w.cell? ⟨g5, k * 3 + 1, none⟩ = some (.int .i64 (l.ags.getD k ⟨0, 0, false⟩).tr) ∧ w.cell? ⟨g5, k * 3 + 2, none⟩ = some (.bool (l.ags.getD k ⟨0, 0, false⟩).back) ∧ (∀ j, w.frozen? ⟨g5, j, none⟩ = false) ∧
    (∀ a : Ld.Known, LdW (((w.setCell ⟨g5, k * 3, none⟩ (.int .i64 a.st)).setCell ⟨g5, k * 3 + 1, none⟩ (.int .i64 a.tr)).setCell ⟨g5, k * 3 + 2, none⟩ (.bool a.back)) base b { l with ags := l.ags.set k a }) ∧
    (∀ s : Int, LdW (w.setCell ⟨g5, k * 3, none⟩ (.int .i64 s)) base b { l with ags := l.ags.set k { l.ags.getD k ⟨0, 0, false⟩ with st := s } }) := by
  obtain ⟨g4, k4, g5, k5, qs, h1, h2, h3, h4, h5, h6, h7, h8, h9, h10, h11, h12, h13, h14, hcp, hkm, h15, h16, h17⟩ := h
  have key : ∀ i x, i < 3 → (knCells (l.ags.getD k ⟨0, 0, false⟩))[i]? = some x → w.cell? ⟨g5, k * 3 + i, none⟩ = some x := fun i x hi hx => h17.2.2 _ _ ((flatK_at l.ags k hk i hi).trans hx)
  have hlen : (flatK l.ags).length = l.ags.length * 3 := flatK_len _
  refine ⟨g4, k4, g5, k5, h1, h2, h4, h7, key 0 _ (by omega) rfl, key 1 _ (by omega) rfl, key 2 _ (by omega) rfl, h17.2.1, fun a => ?_, fun s => ?_⟩
  · have hr := ((h17.put (i := k * 3) (by omega) (.int .i64 a.st)).put (i := k * 3 + 1) (by rw [List.length_set]; omega) (.int .i64 a.tr)).put (i := k * 3 + 2) (by rw [List.length_set, List.length_set]; omega) (.bool a.back)
    rw [flatK_set a l.ags k hk] at hr
    refine ⟨g4, k4, g5, k5, qs, ?_, h2, h3, h4, h5, h6, h7, h8, h9, by simpa using h10, by simpa using h11, h12, by simpa using h13, ((h14.off (fun e => h5 e.symm) _).off (fun e => h5 e.symm) _).off (fun e => h5 e.symm) _, ((hcp.set _).set _).set _, hkm, h15, fun q hq => (((h16 q hq).set (a := ⟨g5, k * 3, none⟩) (.inr (.inr (.inr rfl))) _).set (a := ⟨g5, k * 3 + 1, none⟩) (.inr (.inr (.inr rfl))) _).set (a := ⟨g5, k * 3 + 2, none⟩) (.inr (.inr (.inr rfl))) _, hr⟩
    simp only [List.length_set]
    exact ((h1.off (fun e => h7 e.symm)).off (fun e => h7 e.symm)).off (fun e => h7 e.symm)
  · have hr := h17.put (i := k * 3) (by omega) (.int .i64 s)
    have e : (flatK l.ags).set (k * 3) (.int .i64 s) = flatK (l.ags.set k { l.ags.getD k ⟨0, 0, false⟩ with st := s }) := by
      rw [← flatK_set _ l.ags k hk]
      have f1 : (flatK l.ags)[k * 3 + 1]? = some (.int .i64 (l.ags.getD k ⟨0, 0, false⟩).tr) := flatK_at l.ags k hk 1 (by omega)
      have f2 : (flatK l.ags)[k * 3 + 2]? = some (.bool (l.ags.getD k ⟨0, 0, false⟩).back) := flatK_at l.ags k hk 2 (by omega)
      apply List.ext_getElem?
      intro i
      simp only [List.getElem?_set, List.length_set]
      by_cases e2 : k * 3 + 2 = i
      · subst e2
        rw [if_neg (by omega), if_pos rfl, if_pos (by omega), f2]
      · by_cases e1 : k * 3 + 1 = i
        · subst e1
          rw [if_neg (by omega), if_neg e2, if_pos rfl, if_pos (by omega), f1]
        · rw [if_neg e2, if_neg e1]
    rw [e] at hr
    refine ⟨g4, k4, g5, k5, qs, ?_, h2, h3, h4, h5, h6, h7, h8, h9, by simpa using h10, by simpa using h11, h12, by simpa using h13, h14.off (fun e => h5 e.symm) _, hcp.set _, hkm, h15, fun q hq => (h16 q hq).set (a := ⟨g5, k * 3, none⟩) (.inr (.inr (.inr rfl))) _, hr⟩
    simp only [List.length_set]
    exact h1.off (fun e => h7 e.symm)
theorem LdW.agentAt {w : World} {base b : Nat} {l : Ld.Leader} {k g5 n k5 : Nat} (h : LdW w base b l) (hk : k < l.ags.length) (hB : w.cell? ⟨b, 4, none⟩ = some (.slice (some ⟨g5, 0, none⟩) n k5)) : base ≤ b ∧ base ≤ g5 ∧ b ≠ g5 ∧
    w.cell? ⟨g5, k * 3, none⟩ = some (.int .i64 (l.ags.getD k ⟨0, 0, false⟩).st) ∧ w.cell? ⟨g5, k * 3 + 1, none⟩ = some (.int .i64 (l.ags.getD k ⟨0, 0, false⟩).tr) ∧ w.cell? ⟨g5, k * 3 + 2, none⟩ = some (.bool (l.ags.getD k ⟨0, 0, false⟩).back) ∧ (∀ j, w.frozen? ⟨g5, j, none⟩ = false) ∧
    (∀ a : Ld.Known, LdW (((w.setCell ⟨g5, k * 3, none⟩ (.int .i64 a.st)).setCell ⟨g5, k * 3 + 1, none⟩ (.int .i64 a.tr)).setCell ⟨g5, k * 3 + 2, none⟩ (.bool a.back)) base b { l with ags := l.ags.set k a }) ∧
    (∀ s : Int, LdW (w.setCell ⟨g5, k * 3, none⟩ (.int .i64 s)) base b { l with ags := l.ags.set k { l.ags.getD k ⟨0, 0, false⟩ with st := s } }) := by
  obtain ⟨g4, k4, g5', k5', h1, h2, h3, h4, h5, h6, h7, h8, h9, h10⟩ := h.agent hk
  rw [h1.cell 4] at hB
  simp only [List.getElem?_toArray, List.getElem?_cons_zero, List.getElem?_cons_succ, Option.some.injEq, Value.slice.injEq, Addr.mk.injEq] at hB
  obtain ⟨⟨rfl, -, -⟩, -, -⟩ := hB
  exact ⟨h2, h3, h4, h5, h6, h7, h8, h9, h10⟩
end Go.Proofs.YtpenkhehceglfaaGreatDoor
/- The contracts of lead.got, lead.send, lead.tellOrHear. -/
namespace Go.Proofs.YtpenkhehceglfaaGreatDoor
open Go.RowKit
def gotL (l : Ld.Leader) (k : Nat) (t : Int) (good : Bool) : Ld.Leader × Int :=
  if (l.ags.getD k ⟨0, 0, false⟩).st = 1 ∧ (l.ags.getD k ⟨0, 0, false⟩).tr = t then ({ l with ags := l.ags.set k { l.ags.getD k ⟨0, 0, false⟩ with st := if good = true then 2 else 3 } }, 0) else (Ld.Leader.none, 7)
theorem set_set_st {l : Ld.Leader} {k : Nat} (hk : k < l.ags.length) (x y : Int) : ({ l with ags := (l.ags.set k { l.ags.getD k ⟨0, 0, false⟩ with st := x }).set k { (l.ags.set k { l.ags.getD k ⟨0, 0, false⟩ with st := x }).getD k ⟨0, 0, false⟩ with st := y } } : Ld.Leader) = { l with ags := l.ags.set k { l.ags.getD k ⟨0, 0, false⟩ with st := y } } := by
  rw [List.set_set, Ld.getD_set, if_pos ⟨rfl, hk⟩]
set_option maxHeartbeats 4000000 in
theorem got_any (base b : Nat) (l : Ld.Leader) (k g5 n k5 : Nat) (rk ra rt rn ri : Int) (rg : Bool) (az : Option Addr) (nz cz : Nat) (w : World) (h : LdW w base b l) (hk : k < l.ags.length) (hB : w.cell? ⟨b, 4, none⟩ = some (.slice (some ⟨g5, 0, none⟩) n k5)) (hbs : base ≤ w.heap.size) :
    Calls Tryz.prog 99 #[.pointer (some ⟨g5, k * 3, none⟩), .agg #[.int .i64 rk, .int .i64 ra, .int .i64 rt, .int .i64 rn, .bool rg, .int .i64 ri, .slice az nz cz]] w fun e w' => leD w' base b (gotL l k rt rg) e ∧ Below base w w' := by
  obtain ⟨hX, hY⟩ := box1 w #[.int .i64 rk, .int .i64 ra, .int .i64 rt, .int .i64 rn, .bool rg, .int .i64 ri, .slice az nz cz] 34
  have hblt : b < w.heap.size := World.block_lt_of_cell? w _ hB
  have h' := h.below hX
  have hB' := (hX.cell (p := ⟨b, 4, none⟩) hblt).trans hB
  obtain ⟨h2, h3, h4, h5, h6, h7, h8, h9, h10⟩ := h'.agentAt hk hB'
  have HBX : Hid (Below base w (w.alloc (.cells #[.int .i64 rk, .int .i64 ra, .int .i64 rt, .int .i64 rn, .bool rg, .int .i64 ri, .slice az nz cz] 34))) := hX.mono hbs
  have HE : Hid (gotL l k rt rg = if (l.ags.getD k ⟨0, 0, false⟩).st = 1 ∧ (l.ags.getD k ⟨0, 0, false⟩).tr = rt then ({ l with ags := l.ags.set k { l.ags.getD k ⟨0, 0, false⟩ with st := if rg = true then 2 else 3 } }, 0) else (Ld.Leader.none, 7)) := rfl
  have HS3 : Hid (∀ q, LdW (((w.alloc (.cells #[.int .i64 rk, .int .i64 ra, .int .i64 rt, .int .i64 rn, .bool rg, .int .i64 ri, .slice az nz cz] 34)).drewN q).setCell ⟨g5, k * 3, none⟩ (.int .i64 3)) base b { l with ags := l.ags.set k { l.ags.getD k ⟨0, 0, false⟩ with st := 3 } }) := fun q => by
    have hq := h'.below (below_drewN (Below.refl _ _) q)
    have hBq := ((below_drewN (Below.refl _ (w.alloc (.cells #[.int .i64 rk, .int .i64 ra, .int .i64 rt, .int .i64 rn, .bool rg, .int .i64 ri, .slice az nz cz] 34))) q).cell (p := ⟨b, 4, none⟩) (Nat.lt_of_lt_of_le hblt hX.size)).trans hB'
    exact (hq.agentAt hk hBq).2.2.2.2.2.2.2.2 3
  have HS2 : Hid (∀ q, LdW ((((w.alloc (.cells #[.int .i64 rk, .int .i64 ra, .int .i64 rt, .int .i64 rn, .bool rg, .int .i64 ri, .slice az nz cz] 34)).drewN q).setCell ⟨g5, k * 3, none⟩ (.int .i64 3)).setCell ⟨g5, k * 3, none⟩ (.int .i64 2)) base b { l with ags := l.ags.set k { l.ags.getD k ⟨0, 0, false⟩ with st := 2 } }) := fun q => by
    have h0 := HS3.out q
    have hk' : k < (l.ags.set k { l.ags.getD k ⟨0, 0, false⟩ with st := 3 }).length := by simpa using hk
    have hBq : (((w.alloc (.cells #[.int .i64 rk, .int .i64 ra, .int .i64 rt, .int .i64 rn, .bool rg, .int .i64 ri, .slice az nz cz] 34)).drewN q).setCell ⟨g5, k * 3, none⟩ (.int .i64 3)).cell? ⟨b, 4, none⟩ = some (.slice (some ⟨g5, 0, none⟩) n k5) := by
      rw [World.cell?_setCell_other _ _ _ _ (fun e => by injection e with e1; exact h4 e1.symm)]
      exact ((below_drewN (Below.refl _ (w.alloc (.cells #[.int .i64 rk, .int .i64 ra, .int .i64 rt, .int .i64 rn, .bool rg, .int .i64 ri, .slice az nz cz] 34))) q).cell (p := ⟨b, 4, none⟩) (Nat.lt_of_lt_of_le hblt hX.size)).trans hB'
    have := (h0.agentAt (k := k) hk' hBq).2.2.2.2.2.2.2.2 2
    rw [← set_set_st hk 3 2]
    exact this
  clear h h' hB hB' h9 h10
  generalize gotL l k rt rg = Q at HE ⊢
  have r0 := hY.cell 0
  have r1 := hY.cell 1
  have r2 := hY.cell 2
  have r3 := hY.cell 3
  have r4 := hY.cell 4
  have r5 := hY.cell 5
  have r6 := hY.cell 6
  simp only [List.getElem?_toArray, List.getElem?_cons_zero, List.getElem?_cons_succ] at r0 r1 r2 r3 r4 r5 r6
  have hf0 := h8 (k * 3)
  clear hY h8 hX
  generalize l.ags.getD k ⟨0, 0, false⟩ = p at h5 h6 h7 HE HS3 HS2
  obtain ⟨s, t, bb⟩ := p
  simp only at h5 h6 h7 HE HS3 HS2
  by_cases c1 : s = 1
  rotate_left
  · have HQ : Hid (Q = (Ld.Leader.none, 7)) := by rw [HE.out, if_neg (fun e => c1 e.1)]; rfl
    have c1' : (s != 1) = true := by rw [bne_iff_ne]; exact c1
    clear HE c1 HS3 HS2
    go_enter Tryz.func99, Tryz.ntmps99
    go_wp2_with fail
    go_quiet (fail)
    go_wp2
    go_ret
    exact ⟨leD_bad HQ.out (by decide), below_drewN HBX.out _⟩
  subst c1
  by_cases c2 : t = rt
  rotate_left
  · have HQ : Hid (Q = (Ld.Leader.none, 7)) := by rw [HE.out, if_neg (fun e => c2 e.2)]; rfl
    have c2' : (t != rt) = true := by rw [bne_iff_ne]; exact c2
    clear HE c2 HS3 HS2
    go_enter Tryz.func99, Tryz.ntmps99
    go_wp2_with fail
    go_quiet (fail)
    go_wp2
    go_ret
    exact ⟨leD_bad HQ.out (by decide), below_drewN HBX.out _⟩
  subst c2
  cases rg
  · have HQ : Hid (Q = ({ l with ags := l.ags.set k ⟨3, t, bb⟩ }, 0)) := by rw [HE.out, if_pos ⟨rfl, rfl⟩]; rfl
    clear HE HS2
    go_enter Tryz.func99, Tryz.ntmps99
    go_wp2_with fail
    go_quiet (fail)
    go_wp2
    go_ret
    refine ⟨by rw [HQ.out]; exact ⟨rfl, fun _ => HS3.out _⟩, ?_⟩
    exact (below_drewN HBX.out _).setCell h3 _
  · have HQ : Hid (Q = ({ l with ags := l.ags.set k ⟨2, t, bb⟩ }, 0)) := by rw [HE.out, if_pos ⟨rfl, rfl⟩]; rfl
    clear HE HS3
    go_enter Tryz.func99, Tryz.ntmps99
    go_wp2_with fail
    go_quiet (fail)
    go_wp2
    go_ret
    refine ⟨by rw [HQ.out]; exact ⟨rfl, fun _ => HS2.out _⟩, ?_⟩
    exact ((below_drewN HBX.out _).setCell h3 _).setCell h3 _
end Go.Proofs.YtpenkhehceglfaaGreatDoor
