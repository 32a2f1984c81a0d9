import Derived.Test.YtpenkhehceglfaaGreatDoorW1
import Derived.Test.YtpenkhehceglfaaGreatDoorMA
import Derived.Test.YtpenkhehceglfaaGreatDoorMG
import Derived.BigQuiet
import Derived.Deep.QuietTactic
import Derived.Test.YtpenkhehceglfaaGreatDoorT4
/- Slices of rules, and the contract of the document's CheckRules. -/
namespace Go.Proofs.YtpenkhehceglfaaGreatDoor
open Go.RowKit
/-- a slice of rules, the empty and the nil one too -/
def RulesAt (w : World) (v : Value) (l : List Rk.Rl) : Prop :=
  l.length ≤ 70368744177664 ∧ ∃ A b o c, v = .slice A l.length c ∧ l.length ≤ c ∧ (0 < l.length → A = some ⟨b, o, none⟩ ∧ b < w.heap.size) ∧
    ∀ j, j < l.length → w.cell? ⟨b, o + j * 4, none⟩ = some (.int .i64 (l.getD j (0, 0, 0, 0)).1) ∧ w.cell? ⟨b, o + j * 4 + 1, none⟩ = some (.int .i64 (l.getD j (0, 0, 0, 0)).2.1) ∧ w.cell? ⟨b, o + j * 4 + 2, none⟩ = some (.int .i64 (l.getD j (0, 0, 0, 0)).2.2.1) ∧ w.cell? ⟨b, o + j * 4 + 3, none⟩ = some (.int .i64 (l.getD j (0, 0, 0, 0)).2.2.2)
theorem RulesAt.below {w w' : World} {v : Value} {l : List Rk.Rl} (h : RulesAt w v l) (hb : Below w.heap.size w w') : RulesAt w' v l := by
  obtain ⟨hl, A, b, o, c, h1, h2, h3, h4⟩ := h
  refine ⟨hl, A, b, o, c, h1, h2, fun h => ⟨(h3 h).1, Nat.lt_of_lt_of_le (h3 h).2 hb.size⟩, fun j hj => ?_⟩
  have hlt := (h3 (by omega)).2
  obtain ⟨e1, e2, e3, e4⟩ := h4 j hj
  exact ⟨(hb.cell (p := ⟨b, o + j * 4, none⟩) hlt).trans e1, (hb.cell (p := ⟨b, o + j * 4 + 1, none⟩) hlt).trans e2, (hb.cell (p := ⟨b, o + j * 4 + 2, none⟩) hlt).trans e3, (hb.cell (p := ⟨b, o + j * 4 + 3, none⟩) hlt).trans e4⟩
theorem dropR_getD (l : List Rk.Rl) (k : Nat) (h : k < l.length) : l.drop k = l.getD k (0, 0, 0, 0) :: l.drop (k + 1) := by
  rw [List.drop_eq_getElem_cons h, List.getD_eq_getElem?_getD, List.getElem?_eq_getElem h]; rfl
theorem rchk_of (l : List Rk.Rl) (hl : l.length ≤ 10) : Rk.rchk l = Rk.rchkFrom l := by
  unfold Rk.rchk; rw [if_neg (by omega)]
/-- a rule's cells, one by one: where its numbers lie -/
theorem rule_ways (n v m s : Int) : ((n < 1 ∨ (1 ≤ n ∧ 20 < n)) ∨ (1 ≤ n ∧ n ≤ 20 ∧ (m < 1 ∨ (1 ≤ m ∧ 20 < m)))) ∨ (1 ≤ n ∧ n ≤ 20 ∧ 1 ≤ m ∧ m ≤ 20 ∧ ((v < 1 ∨ (1 ≤ v ∧ 99 < v)) ∨ (1 ≤ v ∧ v ≤ 99 ∧ (s < 1 ∨ (1 ≤ s ∧ 99 < s))))) ∨ (1 ≤ n ∧ n ≤ 20 ∧ 1 ≤ m ∧ m ≤ 20 ∧ 1 ≤ v ∧ v ≤ 99 ∧ 1 ≤ s ∧ s ≤ 99) := by omega
end Go.Proofs.YtpenkhehceglfaaGreatDoor
/- The contracts of rule.checkOne and rule.Check. -/
namespace Go.Proofs.YtpenkhehceglfaaGreatDoor
open Go.RowKit
namespace Rk
/-- what is wrong with one rule -/
def one (r : Rl) : Int := if inR r then (if r.2.2.1 = r.1 then 4 else 0) else 3
theorem rchkFrom_one (r : Rl) (q : List Rl) : rchkFrom (r :: q) = if one r = 0 then rchkFrom q else one r := by
  rw [rchkFrom, one]
  by_cases h : inR r
  · rw [if_pos h, if_pos h]
    by_cases h2 : r.2.2.1 = r.1
    · rw [if_pos h2, if_pos h2]; rfl
    · rw [if_neg h2, if_neg h2, if_pos rfl]
  · rw [if_neg h, if_neg h]; rfl
theorem one_bad {n v m s : Int} (h : ¬ (((1 ≤ n ∧ n ≤ 20) ∧ (1 ≤ m ∧ m ≤ 20)) ∧ (1 ≤ v ∧ v ≤ 99) ∧ (1 ≤ s ∧ s ≤ 99))) : one (n, v, m, s) = 3 := by
  rw [one, if_neg]
  intro h2
  unfold inR at h2
  simp only [] at h2
  exact h (by omega)
theorem one_form {n v m s : Int} (h : ((1 ≤ n ∧ n ≤ 20) ∧ (1 ≤ m ∧ m ≤ 20)) ∧ (1 ≤ v ∧ v ≤ 99) ∧ (1 ≤ s ∧ s ≤ 99)) : one (n, v, m, s) = if m = n then 4 else 0 := by
  rw [one, if_pos]
  unfold inR
  simp only []
  omega
end Rk
/-- an array of two, by value, is asked -/
theorem ix20 (x y : Int) (w : World) : (Instr.index 247 (.agg #[.int .i64 x, .int .i64 y]) (.int .i64 0)).run Tryz.prog w = .ok (.int .i64 x) w := by
  have h1 : (0 : Int) ≤ 0 ∧ (0 : Int) < ((2 : Nat) : Int) := by omega
  simp only [Instr.index, asIntOf, Sem.run_bind, Sem.run_pure, Result.andThen_ok, run_underlying Tryz.underlying247, if_pos h1, Tryz.sizeOf3, part, Tryz.isAgg3]
  simp
theorem ix21 (x y : Int) (w : World) : (Instr.index 247 (.agg #[.int .i64 x, .int .i64 y]) (.int .i64 1)).run Tryz.prog w = .ok (.int .i64 y) w := by
  have h1 : (0 : Int) ≤ 1 ∧ (1 : Int) < ((2 : Nat) : Int) := by omega
  simp only [Instr.index, asIntOf, Sem.run_bind, Sem.run_pure, Result.andThen_ok, run_underlying Tryz.underlying247, if_pos h1, Tryz.sizeOf3, part, Tryz.isAgg3]
  simp
set_option maxHeartbeats 4000000 in
theorem rone_any (n v m s : Int) (w : World) :
    Calls Tryz.prog 162 #[.agg #[.int .i64 n, .int .i64 v, .int .i64 m, .int .i64 s]] w fun e w' => e = .returned (.int .i64 (Rk.one (n, v, m, s))) ∧ Below w.heap.size w w' := by
  have HB0 : Hid (Below w.heap.size w (w.alloc (.cells #[.int .i64 n, .int .i64 v, .int .i64 m, .int .i64 s] 130))) := (Below.refl _ w).alloc (Nat.le_refl _) _
  go_enter Tryz.func162, Tryz.ntmps162
  go_wp2
  go_loopg [12] 2 (fun g s12 wr => ∃ k : Nat, k ≤ 2 ∧ 2 - k ≤ g ∧ s12 = .int .i64 k ∧ Hid ((0 < k → 1 ≤ n ∧ n ≤ 20) ∧ (1 < k → 1 ≤ m ∧ m ≤ 20)) ∧ wr = w.alloc (.cells #[.int .i64 n, .int .i64 v, .int .i64 m, .int .i64 s] 130))
  case atStart => exact ⟨0, by omega, by omega, rfl, ⟨fun h => absurd h (by decide), fun h => absurd h (by decide)⟩, rfl⟩
  case round =>
    obtain ⟨k, hk, hg, rfl, HK, rfl⟩ := hrel
    obtain rfl | rfl | rfl : k = 0 ∨ k = 1 ∨ k = 2 := by omega
    · have hix := ix20 n m
      by_cases h : 1 ≤ n ∧ n ≤ 20
      · obtain ⟨h1, h2⟩ := h
        have HK' : Hid ((0 < 1 → 1 ≤ n ∧ n ≤ 20) ∧ (1 < 1 → 1 ≤ m ∧ m ≤ 20)) := ⟨fun _ => ⟨h1, h2⟩, fun h => absurd h (by decide)⟩
        clear HK
        go_wp2
        go_roundg 1
        case measure => omega
        case rel => exact ⟨1, by omega, by omega, by go_num, HK', rfl⟩
      · have HE : Hid (Rk.one (n, v, m, s) = 3) := Rk.one_bad fun h' => h h'.1.1
        have hc : n < 1 ∨ (1 ≤ n ∧ 20 < n) := by omega
        clear h HK
        rcases hc with hc | ⟨hc, hc2⟩
        all_goals
          try (have hd : decide (n ≤ 20) = false := decide_eq_false (by omega))
          go_wp2
          go_ret
          exact ⟨by rw [HE.out]; rfl, HB0.out⟩
    · have hix := ix21 n m
      by_cases h : 1 ≤ m ∧ m ≤ 20
      · obtain ⟨h1, h2⟩ := h
        have HK' : Hid ((0 < 2 → 1 ≤ n ∧ n ≤ 20) ∧ (1 < 2 → 1 ≤ m ∧ m ≤ 20)) := ⟨fun _ => HK.out.1 (by decide), fun _ => ⟨h1, h2⟩⟩
        clear HK
        go_wp2
        go_roundg 0
        case measure => omega
        case rel => exact ⟨2, by omega, by omega, by go_num, HK', rfl⟩
      · have HE : Hid (Rk.one (n, v, m, s) = 3) := Rk.one_bad fun h' => h h'.1.2
        have hc : m < 1 ∨ (1 ≤ m ∧ 20 < m) := by omega
        clear h HK
        rcases hc with hc | ⟨hc, hc2⟩
        all_goals
          try (have hd : decide (m ≤ 20) = false := decide_eq_false (by omega))
          go_wp2
          go_ret
          exact ⟨by rw [HE.out]; rfl, HB0.out⟩
    · have HN : Hid ((1 ≤ n ∧ n ≤ 20) ∧ (1 ≤ m ∧ m ≤ 20)) := ⟨HK.out.1 (by decide), HK.out.2 (by decide)⟩
      clear HK hk
      go_wp2
      go_loopg [24] 2 (fun g s24 wr => ∃ k : Nat, k ≤ 2 ∧ 2 - k ≤ g ∧ s24 = .int .i64 k ∧ Hid ((0 < k → 1 ≤ v ∧ v ≤ 99) ∧ (1 < k → 1 ≤ s ∧ s ≤ 99)) ∧ wr = w.alloc (.cells #[.int .i64 n, .int .i64 v, .int .i64 m, .int .i64 s] 130))
      case atStart => exact ⟨0, by omega, by omega, rfl, ⟨fun h => absurd h (by decide), fun h => absurd h (by decide)⟩, rfl⟩
      case round =>
        clear hg
        obtain ⟨k, hk, hg, rfl, HK, rfl⟩ := hrel
        obtain rfl | rfl | rfl : k = 0 ∨ k = 1 ∨ k = 2 := by omega
        · have hix := ix20 v s
          by_cases h : 1 ≤ v ∧ v ≤ 99
          · obtain ⟨h1, h2⟩ := h
            have HK' : Hid ((0 < 1 → 1 ≤ v ∧ v ≤ 99) ∧ (1 < 1 → 1 ≤ s ∧ s ≤ 99)) := ⟨fun _ => ⟨h1, h2⟩, fun h => absurd h (by decide)⟩
            clear HK
            go_wp2
            go_roundg 1
            case measure => omega
            case rel => exact ⟨1, by omega, by omega, by go_num, HK', rfl⟩
          · have HE : Hid (Rk.one (n, v, m, s) = 3) := Rk.one_bad fun h' => h h'.2.1
            have hc : v < 1 ∨ (1 ≤ v ∧ 99 < v) := by omega
            clear h HK
            rcases hc with hc | ⟨hc, hc2⟩
            all_goals
              try (have hd : decide (v ≤ 99) = false := decide_eq_false (by omega))
              go_wp2
              go_ret
              exact ⟨by rw [HE.out]; rfl, HB0.out⟩
        · have hix := ix21 v s
          by_cases h : 1 ≤ s ∧ s ≤ 99
          · obtain ⟨h1, h2⟩ := h
            have HK' : Hid ((0 < 2 → 1 ≤ v ∧ v ≤ 99) ∧ (1 < 2 → 1 ≤ s ∧ s ≤ 99)) := ⟨fun _ => HK.out.1 (by decide), fun _ => ⟨h1, h2⟩⟩
            clear HK
            go_wp2
            go_roundg 0
            case measure => omega
            case rel => exact ⟨2, by omega, by omega, by go_num, HK', rfl⟩
          · have HE : Hid (Rk.one (n, v, m, s) = 3) := Rk.one_bad fun h' => h h'.2.2
            have hc : s < 1 ∨ (1 ≤ s ∧ 99 < s) := by omega
            clear h HK
            rcases hc with hc | ⟨hc, hc2⟩
            all_goals
              try (have hd : decide (s ≤ 99) = false := decide_eq_false (by omega))
              go_wp2
              go_ret
              exact ⟨by rw [HE.out]; rfl, HB0.out⟩
        · have HE : Hid (Rk.one (n, v, m, s) = if m = n then 4 else 0) := Rk.one_form ⟨HN.out, HK.out.1 (by decide), HK.out.2 (by decide)⟩
          clear HK hk
          by_cases h : n = m
          · have h' : (n == m) = true := by simpa using h
            have HE4 : Hid (Rk.one (n, v, m, s) = 4) := by rw [HE.out, if_pos h.symm]; rfl
            clear h HE
            go_wp2
            go_ret
            exact ⟨by rw [HE4.out]; rfl, HB0.out⟩
          · have h' : (n == m) = false := by simpa using h
            have HE4 : Hid (Rk.one (n, v, m, s) = 0) := by rw [HE.out, if_neg (fun e => h e.symm)]; rfl
            clear h HE
            go_wp2
            go_ret
            exact ⟨by rw [HE4.out]; rfl, HB0.out⟩
set_option maxHeartbeats 400000 in
theorem rcheck_many (A : Option Addr) (n c : Nat) (w : World) (hl : 10 < n) :
    Calls Tryz.prog 150 #[.slice A n c] w fun e w' => e = .returned (.int .i64 2) ∧ Below w.heap.size w w' := by
  go_enter Tryz.func150, Tryz.ntmps150
  go_wp2
  go_ret
  exact ⟨rfl, Below.refl _ _⟩
set_option maxHeartbeats 2000000 in
theorem rcheck_few (v : Value) (l : List Rk.Rl) (w : World) (hR : RulesAt w v l) (hl : l.length ≤ 10) :
    Calls Tryz.prog 150 #[v] w fun e w' => e = .returned (.int .i64 (Rk.rchk l)) ∧ Below w.heap.size w w' := by
  obtain ⟨-, A, b, o, c, rfl, -, hA, hC⟩ := hR
  have HA : Hid (0 < l.length → A = some ⟨b, o, none⟩ ∧ b < w.heap.size) := hA
  have HC : Hid (∀ j, j < l.length → w.cell? ⟨b, o + j * 4, none⟩ = some (.int .i64 (l.getD j (0, 0, 0, 0)).1) ∧ w.cell? ⟨b, o + j * 4 + 1, none⟩ = some (.int .i64 (l.getD j (0, 0, 0, 0)).2.1) ∧ w.cell? ⟨b, o + j * 4 + 2, none⟩ = some (.int .i64 (l.getD j (0, 0, 0, 0)).2.2.1) ∧ w.cell? ⟨b, o + j * 4 + 3, none⟩ = some (.int .i64 (l.getD j (0, 0, 0, 0)).2.2.2)) := hC
  have HQ : Hid (Rk.rchk l = Rk.rchkFrom l) := rchk_of l hl
  clear hA hC
  go_enter Tryz.func150, Tryz.ntmps150
  go_wp2
  go_loopg [11] l.length (fun g s11 wr => ∃ k : Nat, k ≤ l.length ∧ l.length - k ≤ g ∧ s11 = .int .i64 k ∧ Hid (Rk.rchkFrom (l.drop k) = Rk.rchkFrom l) ∧ Below w.heap.size w wr)
  case atStart => exact ⟨0, Nat.zero_le _, by omega, rfl, rfl, Below.refl _ _⟩
  case round =>
    obtain ⟨k, hk, hg, rfl, H, hb⟩ := hrel
    by_cases hlt : k < l.length
    · obtain ⟨rfl, hbw⟩ := HA.out (by omega)
      obtain ⟨g1, g2, g3, g4⟩ := HC.out k hlt
      rw [← hb.cell (p := ⟨b, _, none⟩) hbw] at g1 g2 g3 g4
      clear HA HC
      have HD := dropR_getD l k hlt
      generalize l.getD k (0, 0, 0, 0) = p at g1 g2 g3 g4 HD
      obtain ⟨n, v, m, s⟩ := p
      simp only at g1 g2 g3 g4
      have HD' : Hid (Rk.rchkFrom l = if Rk.one (n, v, m, s) = 0 then Rk.rchkFrom (l.drop (k + 1)) else Rk.one (n, v, m, s)) := by
        rw [← H.out, HD, Rk.rchkFrom_one]; rfl
      have hb0 : Below w.heap.size w (wr.alloc (.cells #[.int .i64 n, .int .i64 v, .int .i64 m, .int .i64 s] 130)) := hb.alloc hb.size _
      clear HD H
      go_wp2_with fail
      refine (rone_any n v m s _).mono ?_
      rintro e w1 ⟨rfl, hb1⟩
      have HB1 : Hid (Below w.heap.size w w1) := hb0.trans (hb1.mono hb0.size)
      clear hb1 hb0 hb g1 g2 g3 g4
      by_cases h0 : Rk.one (n, v, m, s) = 0
      · have HB : Hid (Rk.rchkFrom (l.drop (k + 1)) = Rk.rchkFrom l) := by rw [HD'.out, if_pos h0]; rfl
        rw [h0]
        clear h0 HD'
        go_wp2
        go_roundg (l.length - (k + 1))
        case measure => omega
        case rel => exact ⟨k + 1, by omega, by omega, by go_num, HB, HB1.out⟩
      · have HB : Hid (Rk.rchk l = Rk.one (n, v, m, s)) := by rw [HQ.out, HD'.out, if_neg h0]; rfl
        have h0' : (Rk.one (n, v, m, s) != 0) = true := by simpa using h0
        clear h0 HD'
        go_wp2
        go_ret
        exact ⟨by rw [HB.out]; rfl, HB1.out⟩
    · have hk' : k = l.length := by omega
      have HB : Hid (Rk.rchk l = 0) := by rw [HQ.out, ← H.out, hk', List.drop_length]; rfl
      subst hk'
      clear hk hlt
      go_wp2
      go_ret
      exact ⟨by rw [HB.out]; rfl, hb⟩
theorem rcheck_any (v : Value) (l : List Rk.Rl) (w : World) (hR : RulesAt w v l) :
    Calls Tryz.prog 150 #[v] w fun e w' => e = .returned (.int .i64 (Rk.rchk l)) ∧ Below w.heap.size w w' := by
  by_cases h : l.length ≤ 10
  · exact rcheck_few v l w hR h
  · obtain ⟨-, A, b, o, c, rfl, -, -, -⟩ := hR
    rw [show Rk.rchk l = 2 from by unfold Rk.rchk; rw [if_pos (by omega)]]
    exact rcheck_many A _ c w (by omega)
end Go.Proofs.YtpenkhehceglfaaGreatDoor
/- The contracts of the document's FirstBroken, its closure and slices.IndexFunc at rules. -/
namespace Go.Proofs.YtpenkhehceglfaaGreatDoor
open Go.RowKit
theorem firstFrom_hit {t : List Int} {l : List Rk.Rl} {k : Nat} {p : Rk.Rl} (HD : l.drop k = p :: l.drop (k + 1)) (H : Rk.firstFrom t (l.drop k) k = Rk.first t l) (h : Rk.brk t p = true) : Rk.first t l = k := by
  rw [← H, HD, Rk.firstFrom, if_pos h]
theorem firstFrom_next {t : List Int} {l : List Rk.Rl} {k : Nat} {p : Rk.Rl} (HD : l.drop k = p :: l.drop (k + 1)) (H : Rk.firstFrom t (l.drop k) k = Rk.first t l) (h : Rk.brk t p = false) : Rk.firstFrom t (l.drop (k + 1)) ((k + 1 : Nat) : Int) = Rk.first t l := by
  rw [← H, HD, Rk.firstFrom, if_neg (by rw [h]; decide)]; rfl
end Go.Proofs.YtpenkhehceglfaaGreatDoor
/- The contracts of rule.firstBroken, rule.tableFor and rule.Broken. -/
namespace Go.Proofs.YtpenkhehceglfaaGreatDoor
open Go.RowKit
set_option maxHeartbeats 4000000 in
theorem ffirst_any (t : List Int) (u : Value) (l : List Rk.Rl) (w : World) (ht : t.length = 21) (hR : RulesAt w u l) (hok : Rk.ruleOk l) :
    Calls Tryz.prog 132 #[.agg (tcells t), u] w fun e w' => e = .returned (.int .i64 (Rk.first t l)) ∧ Below w.heap.size w w' := by
  obtain ⟨hll, A, b, o, c, rfl, -, hA, hC⟩ := hR
  have HA : Hid (0 < l.length → A = some ⟨b, o, none⟩ ∧ b < w.heap.size) := hA
  have HC : Hid (∀ j, j < l.length → w.cell? ⟨b, o + j * 4, none⟩ = some (.int .i64 (l.getD j (0, 0, 0, 0)).1) ∧ w.cell? ⟨b, o + j * 4 + 1, none⟩ = some (.int .i64 (l.getD j (0, 0, 0, 0)).2.1) ∧ w.cell? ⟨b, o + j * 4 + 2, none⟩ = some (.int .i64 (l.getD j (0, 0, 0, 0)).2.2.1) ∧ w.cell? ⟨b, o + j * 4 + 3, none⟩ = some (.int .i64 (l.getD j (0, 0, 0, 0)).2.2.2)) := hC
  have HL : Hid (t.length = 21) := ht
  have HK : Hid (Rk.ruleOk l) := hok
  clear hA hC ht hok
  go_enter Tryz.func132, Tryz.ntmps132
  go_wp2
  go_loopg [9] l.length (fun g s9 wr => ∃ k : Nat, k ≤ l.length ∧ l.length - k ≤ g ∧ s9 = .int .i64 k ∧ Hid (Rk.firstFrom t (l.drop k) k = Rk.first t l) ∧ Hid (TabAt wr w.heap.size 110 t) ∧ Below w.heap.size w wr)
  case atStart => exact ⟨0, Nat.zero_le _, by omega, rfl, rfl, heap_alloc_last w _, (Below.refl _ w).alloc (Nat.le_refl _) _⟩
  case round =>
    obtain ⟨k, hk, hg, rfl, H, HT, hb⟩ := hrel
    by_cases hlt : k < l.length
    · obtain ⟨rfl, hbw⟩ := HA.out (by omega)
      obtain ⟨g1, g2, g3, g4⟩ := HC.out k hlt
      rw [← hb.cell (p := ⟨b, _, none⟩) hbw] at g1 g2 g3 g4
      clear HA HC
      have HD := dropR_getD l k hlt
      have hin := HK.out (l.getD k (0, 0, 0, 0)) (by rw [List.getD_eq_getElem?_getD, List.getElem?_eq_getElem hlt]; exact List.getElem_mem hlt)
      generalize l.getD k (0, 0, 0, 0) = p at g1 g2 g3 g4 HD hin
      obtain ⟨n0, v, m0, s⟩ := p
      obtain ⟨hi1, hi2, -, -⟩ := hin
      simp only at g1 g2 g3 g4 hi1 hi2
      obtain ⟨n, rfl⟩ : ∃ n : Nat, n0 = n := ⟨n0.toNat, by omega⟩
      obtain ⟨m, rfl⟩ : ∃ m : Nat, m0 = m := ⟨m0.toNat, by omega⟩
      have hn : n < 21 := by omega
      have hm : m < 21 := by omega
      have c1 := HT.out.cell n (by rw [HL.out]; exact hn)
      have c2 := HT.out.cell m (by rw [HL.out]; exact hm)
      have hsz := HT.out.lt
      have HBK : Rk.brk t ((n : Int), v, (m : Int), s) = (decide (v ≤ t.getD n 0) && decide (t.getD m 0 < s)) := by simp [Rk.brk]
      have HT' : Hid (∀ O, TabAt (wr.alloc O) w.heap.size 110 t) := fun O => HT.out.alloc O
      have HF1 : Hid (Rk.brk t ((n : Int), v, (m : Int), s) = true → Rk.first t l = k) := fun h => firstFrom_hit HD H.out h
      have HF2 : Hid (Rk.brk t ((n : Int), v, (m : Int), s) = false → Rk.firstFrom t (l.drop (k + 1)) ((k + 1 : Nat) : Int) = Rk.first t l) := fun h => firstFrom_next HD H.out h
      generalize t.getD n 0 = x at c1 HBK
      generalize t.getD m 0 = y at c2 HBK
      have hn' : (n : Int) < 21 := by omega
      have hm' : (m : Int) < 21 := by omega
      clear HD H hi1 hi2 HT
      by_cases h1 : v ≤ x
      · by_cases h2 : y < s
        · have HE : Hid (Rk.first t l = k) := HF1.out (by rw [HBK, decide_eq_true h1, decide_eq_true h2]; rfl)
          clear HBK HF1 HF2
          go_wp2_with fail
          go_quiet (fail)
          go_wp2
          go_ret
          exact ⟨by rw [HE.out]; rfl, below_drewN (hb.alloc hb.size _) _⟩
        · have HE : Hid (Rk.firstFrom t (l.drop (k + 1)) ((k + 1 : Nat) : Int) = Rk.first t l) := HF2.out (by rw [HBK, decide_eq_true h1, decide_eq_false h2]; rfl)
          have h2' : decide (y < s) = false := decide_eq_false h2
          clear HBK HF1 HF2 h2
          go_wp2_with fail
          go_quiet (fail)
          go_wp2
          go_roundg (l.length - (k + 1))
          case measure => omega
          case rel => exact ⟨k + 1, by omega, by omega, by go_num, HE, HT'.out _, below_drewN (hb.alloc hb.size _) _⟩
      · have HE : Hid (Rk.firstFrom t (l.drop (k + 1)) ((k + 1 : Nat) : Int) = Rk.first t l) := HF2.out (by rw [HBK, decide_eq_false h1]; rfl)
        have h1' : decide (v ≤ x) = false := decide_eq_false h1
        clear HBK HF1 HF2 h1
        go_wp2_with fail
        go_quiet (fail)
        go_wp2
        go_roundg (l.length - (k + 1))
        case measure => omega
        case rel => exact ⟨k + 1, by omega, by omega, by go_num, HE, HT'.out _, below_drewN (hb.alloc hb.size _) _⟩
    · have hk' : k = l.length := by omega
      have HB : Hid (Rk.first t l = -1) := by rw [← H.out, hk', List.drop_length]; rfl
      subst hk'
      clear hk hlt
      go_wp2
      go_ret
      exact ⟨by rw [HB.out]; rfl, hb⟩
/-- the table that rule.tableFor answers -/
def forTab (a : List (Int × Int)) (r : List Rk.Rl) : List Int := if Rk.brokenErr a r = 0 then Dk.tb a else zero21
theorem forTab_len (a : List (Int × Int)) (r : List Rk.Rl) : (forTab a r).length = 21 := by
  unfold forTab; split
  · exact Dk.tb_len a
  · rfl
set_option maxHeartbeats 4000000 in
theorem for_any (v u : Value) (a : List (Int × Int)) (r : List Rk.Rl) (w : World) (hP : PinsAt w v a) (hR : RulesAt w u r) :
    Calls Tryz.prog 131 #[v, u] w fun e w' => e = .returned (.tuple #[.agg (tcells (forTab a r)), .int .i64 (Rk.brokenErr a r)]) ∧ Below w.heap.size w w' := by
  have HP : Hid (PinsAt w v a) := hP
  have HR : Hid (RulesAt w u r) := hR
  have HE : Hid (orr [Lk.chk a, Rk.rchk r] = Rk.brokenErr a r) := by
    rw [orr2, Rk.brokenErr]; rfl
  have HB0 : Hid (∀ O, Below w.heap.size w (w.alloc O)) := fun O => (Below.refl _ w).alloc (Nat.le_refl _) O
  clear hP hR
  go_enter Tryz.func131, Tryz.ntmps131
  go_wp2_with fail
  refine (of_any _ _ _ (HP.out.below (HB0.out _))).mono ?_
  rintro e w1 ⟨rfl, hb1⟩
  have H0 : Hid (TabAt w1 w.heap.size 110 (List.replicate 21 0)) := TabAt.below (t := List.replicate 21 0) (heap_alloc_last w _) hb1 (by simp)
  have HB1 : Hid (Below w.heap.size w w1) := (HB0.out _).trans (hb1.mono (by simp))
  have hs1 : w.heap.size < w1.heap.size := H0.out.lt
  clear hb1 HB0
  go_wp2_with (guard_target = wpList _ _ _ (Oper.mk _ (Op.store 110 (.tmp 6) _) _ _ _ _ :: _) _ _; refine stNV rfl (.tmp 6) (.tmp 12) rfl (by rfl) (ofTab a) (by rfl) (ofTab_len a) ?_)
  have HB2 : Hid (Below w.heap.size w (w1.alloc (.cells (tcells (ofTab a)) 110))) := HB1.out.alloc HB1.out.size _
  refine (rcheck_any _ _ _ (HR.out.below HB2.out)).mono ?_
  rintro e w2 ⟨rfl, hb2⟩
  have H6 : Hid (TabAt w2 w1.heap.size 110 (ofTab a)) := TabAt.below (heap_alloc_last w1 _) hb2 (by simp)
  have H4 : Hid (TabAt w2 w.heap.size 110 (List.replicate 21 0)) := (H0.out.alloc _).below hb2 (by simp; omega)
  have HB3 : Hid (Below w.heap.size w w2) := HB2.out.trans (hb2.mono HB2.out.size)
  clear hb2 HB2 HB1 H0
  go_wp2_with fail
  refine (or_any _ _ [Lk.chk a, Rk.rchk r] _ (by simp) (cells2 _ _ _ _)).mono ?_
  rintro e w3 ⟨rfl, hb3⟩
  rw [HE.out]
  have hs2 := H6.out.lt
  have H63 : Hid (TabAt w3 w1.heap.size 110 (ofTab a)) := (H6.out.alloc _).below hb3 (by simp; omega)
  have H43 : Hid (TabAt w3 w.heap.size 110 (List.replicate 21 0)) := (H4.out.alloc _).below hb3 (by simp; omega)
  have HB4 : Hid (Below w.heap.size w w3) := (HB3.out.alloc HB3.out.size _).trans (hb3.mono (by simp; omega))
  clear hb3 HB3 H6 H4
  by_cases h0 : Rk.brokenErr a r = 0
  · have HO : Hid (ofTab a = Dk.tb a) := by
      rw [ofTab, if_pos (Rk.brokenErr_ok h0).1]; rfl
    have HF : Hid (forTab a r = Dk.tb a) := by rw [forTab, if_pos h0]; rfl
    rw [HO.out] at H63
    have H00 : Hid (Rk.brokenErr a r = 0) := h0
    rw [h0]
    clear h0 HE
    go_wp2_with (first | (guard_target = wpList _ _ _ (Oper.mk _ (Op.load 110 (.tmp 6)) _ _ _ _ :: _) _ _; refine ldV (t := Dk.tb a) rfl (.tmp 6) rfl w1.heap.size (by rfl) H63.out (Dk.tb_len a) ?_) | (guard_target = wpList _ _ _ (Oper.mk _ (Op.store 110 (.tmp 4) _) _ _ _ _ :: _) _ _; refine stV rfl (.tmp 4) (.tmp 23) rfl w.heap.size (by rfl) (Dk.tb a) (by rfl) H43.out rfl (Dk.tb_len a) ?_))
    refine bodyPost_ret (v := .tuple #[.agg (tcells (Dk.tb a)), .int .i64 0]) (results_rowV rfl _ _ w.heap.size 110 _ (0, 0) _ rfl (H43.out.row (Dk.tb a)) Tryz.underlying110 rfl (by rw [tcells_size, Dk.tb_len]; exact info21V) _ rfl) rfl ⟨by rw [HF.out, H00.out], below_setRow HB4.out (Nat.le_refl _) _⟩
  · have HF : Hid (forTab a r = zero21) := by rw [forTab, if_neg h0]; rfl
    have h0' : (Rk.brokenErr a r != 0) = true := by simpa using h0
    clear h0 HE
    go_wp2_with (guard_target = wpList _ _ _ (Oper.mk _ (Op.store 110 (.tmp 4) _) _ _ _ _ :: _) _ _; refine stV rfl (.tmp 4) (.tmp 21) rfl w.heap.size (by rfl) zero21 (by rfl) H43.out rfl rfl ?_)
    refine bodyPost_ret (v := .tuple #[.agg (tcells zero21), .int .i64 (Rk.brokenErr a r)]) (results_rowV rfl _ _ w.heap.size 110 _ (0, 0) _ rfl (H43.out.row zero21) Tryz.underlying110 rfl (by rw [tcells_size]; kernel_rfl) _ rfl) rfl ⟨by rw [HF.out], below_setRow HB4.out (Nat.le_refl _) _⟩
set_option maxHeartbeats 4000000 in
theorem broken_any (v u : Value) (a : List (Int × Int)) (r : List Rk.Rl) (w : World) (hP : PinsAt w v a) (hR : RulesAt w u r) :
    Calls Tryz.prog 110 #[v, u] w fun e w' => e = .returned (.tuple #[.int .i64 (Rk.broken a r), .int .i64 (Rk.brokenErr a r)]) ∧ Below w.heap.size w w' := by
  have HC := for_any v u a r w hP hR
  have HR : Hid (RulesAt w u r) := hR
  clear hP hR
  go_enter Tryz.func110, Tryz.ntmps110
  go_wp2_with fail
  refine HC.mono ?_
  rintro e w1 ⟨rfl, hb1⟩
  clear HC
  have HB1 : Hid (Below w.heap.size w w1) := hb1
  clear hb1
  by_cases h0 : Rk.brokenErr a r = 0
  · have HF : Hid (forTab a r = Dk.tb a) := by rw [forTab, if_pos h0]; rfl
    have HV : Hid (Rk.broken a r = Rk.first (Dk.tb a) r) := by rw [Rk.broken, if_pos h0]; rfl
    have HK : Hid (Rk.ruleOk r) := (Rk.rchk_ok (Rk.brokenErr_ok h0).2).2
    have H00 : Hid (Rk.brokenErr a r = 0) := h0
    rw [HF.out, h0]
    have HB2 : Hid (Below w.heap.size w (w1.alloc (.cells (tcells (Dk.tb a)) 110))) := HB1.out.alloc HB1.out.size _
    have HT : Hid (TabAt (w1.alloc (.cells (tcells (Dk.tb a)) 110)) w1.heap.size 110 (Dk.tb a)) := heap_alloc_last w1 _
    clear h0
    go_wp2_with (first | (guard_target = wpList _ _ _ (Oper.mk _ (Op.store 110 (.tmp 6) _) _ _ _ _ :: _) _ _; refine stNV rfl (.tmp 6) (.tmp 12) rfl (by rfl) (Dk.tb a) (by rfl) (Dk.tb_len a) ?_) | (guard_target = wpList _ _ _ (Oper.mk _ (Op.load 110 (.tmp 6)) _ _ _ _ :: _) _ _; refine ldV (t := Dk.tb a) rfl (.tmp 6) rfl w1.heap.size (by rfl) HT.out (Dk.tb_len a) ?_))
    refine (ffirst_any _ _ _ _ (Dk.tb_len a) (HR.out.below HB2.out) HK.out).mono ?_
    rintro e w2 ⟨rfl, hb2⟩
    have HB3 : Hid (Below w.heap.size w w2) := HB2.out.trans (hb2.mono HB2.out.size)
    clear hb2
    go_wp2
    go_ret2
    exact ⟨by rw [HV.out, H00.out]; rfl, HB3.out⟩
  · have HV : Hid (Rk.broken a r = 0) := by rw [Rk.broken, if_neg h0]; rfl
    have h0' : (Rk.brokenErr a r != 0) = true := by simpa using h0
    clear h0
    go_wp2_with (guard_target = wpList _ _ _ (Oper.mk _ (Op.store 110 (.tmp 6) _) _ _ _ _ :: _) _ _; refine stNV rfl (.tmp 6) (.tmp 12) rfl (by rfl) (forTab a r) (by rfl) (forTab_len a r) ?_)
    go_ret2
    exact ⟨by rw [HV.out]; rfl, HB1.out.alloc HB1.out.size _⟩
end Go.Proofs.YtpenkhehceglfaaGreatDoor
