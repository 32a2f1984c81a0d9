/- The contracts of rule.checkOne and rule.Check. -/
import Derived.Test.YtcnnejndmafniaaR1
namespace Go.Proofs.Ytcnnejndmafniaa
open Go.RowKit
namespace Rk
/-- what is wrong with one rule -/
def one (r : Rl) : Int := if inR r then (if r.2.2.1 = r.1 then 4 else 0) else 3
theorem rchkFrom_one (r : Rl) (q : List Rl) : rchkFrom (r :: q) = if one r = 0 then rchkFrom q else one r := by
  rw [rchkFrom, one]
  by_cases h : inR r
  · rw [if_pos h, if_pos h]
    by_cases h2 : r.2.2.1 = r.1
    · rw [if_pos h2, if_pos h2]; rfl
    · rw [if_neg h2, if_neg h2, if_pos rfl]
  · rw [if_neg h, if_neg h]; rfl
theorem one_bad {n v m s : Int} (h : ¬ (((1 ≤ n ∧ n ≤ 20) ∧ (1 ≤ m ∧ m ≤ 20)) ∧ (1 ≤ v ∧ v ≤ 99) ∧ (1 ≤ s ∧ s ≤ 99))) : one (n, v, m, s) = 3 := by
  rw [one, if_neg]
  intro h2
  unfold inR at h2
  simp only [] at h2
  exact h (by omega)
theorem one_form {n v m s : Int} (h : ((1 ≤ n ∧ n ≤ 20) ∧ (1 ≤ m ∧ m ≤ 20)) ∧ (1 ≤ v ∧ v ≤ 99) ∧ (1 ≤ s ∧ s ≤ 99)) : one (n, v, m, s) = if m = n then 4 else 0 := by
  rw [one, if_pos]
  unfold inR
  simp only []
  omega
end Rk
/-- an array of two, by value, is asked -/
theorem ix20 (x y : Int) (w : World) : (Instr.index 135 (.agg #[.int .i64 x, .int .i64 y]) (.int .i64 0)).run Try.prog w = .ok (.int .i64 x) w := by
  have h1 : (0 : Int) ≤ 0 ∧ (0 : Int) < ((2 : Nat) : Int) := by omega
  simp only [Instr.index, asIntOf, Sem.run_bind, Sem.run_pure, Result.andThen_ok, run_underlying Try.underlying135, if_pos h1, Try.sizeOf3, part, Try.isAgg3]
  simp
theorem ix21 (x y : Int) (w : World) : (Instr.index 135 (.agg #[.int .i64 x, .int .i64 y]) (.int .i64 1)).run Try.prog w = .ok (.int .i64 y) w := by
  have h1 : (0 : Int) ≤ 1 ∧ (1 : Int) < ((2 : Nat) : Int) := by omega
  simp only [Instr.index, asIntOf, Sem.run_bind, Sem.run_pure, Result.andThen_ok, run_underlying Try.underlying135, if_pos h1, Try.sizeOf3, part, Try.isAgg3]
  simp
set_option maxHeartbeats 4000000 in
theorem rone_any (n v m s : Int) (w : World) :
    Calls Try.prog 101 #[.agg #[.int .i64 n, .int .i64 v, .int .i64 m, .int .i64 s]] w fun e w' => e = .returned (.int .i64 (Rk.one (n, v, m, s))) ∧ Below w.heap.size w w' := by
  have HB0 : Hid (Below w.heap.size w (w.alloc (.cells #[.int .i64 n, .int .i64 v, .int .i64 m, .int .i64 s] 98))) := (Below.refl _ w).alloc (Nat.le_refl _) _
  go_enter Try.func101, Try.ntmps101
  go_wp2
  go_loopg [12] 2 (fun g s12 wr => ∃ k : Nat, k ≤ 2 ∧ 2 - k ≤ g ∧ s12 = .int .i64 k ∧ Hid ((0 < k → 1 ≤ n ∧ n ≤ 20) ∧ (1 < k → 1 ≤ m ∧ m ≤ 20)) ∧ wr = w.alloc (.cells #[.int .i64 n, .int .i64 v, .int .i64 m, .int .i64 s] 98))
  case atStart => exact ⟨0, by omega, by omega, rfl, ⟨fun h => absurd h (by decide), fun h => absurd h (by decide)⟩, rfl⟩
  case round =>
    obtain ⟨k, hk, hg, rfl, HK, rfl⟩ := hrel
    obtain rfl | rfl | rfl : k = 0 ∨ k = 1 ∨ k = 2 := by omega
    · have hix := ix20 n m
      by_cases h : 1 ≤ n ∧ n ≤ 20
      · obtain ⟨h1, h2⟩ := h
        have HK' : Hid ((0 < 1 → 1 ≤ n ∧ n ≤ 20) ∧ (1 < 1 → 1 ≤ m ∧ m ≤ 20)) := ⟨fun _ => ⟨h1, h2⟩, fun h => absurd h (by decide)⟩
        clear HK
        go_wp2
        go_roundg 1
        case measure => omega
        case rel => exact ⟨1, by omega, by omega, by go_num, HK', rfl⟩
      · have HE : Hid (Rk.one (n, v, m, s) = 3) := Rk.one_bad fun h' => h h'.1.1
        have hc : n < 1 ∨ (1 ≤ n ∧ 20 < n) := by omega
        clear h HK
        rcases hc with hc | ⟨hc, hc2⟩
        all_goals
          try (have hd : decide (n ≤ 20) = false := decide_eq_false (by omega))
          go_wp2
          go_ret
          exact ⟨by rw [HE.out]; rfl, HB0.out⟩
    · have hix := ix21 n m
      by_cases h : 1 ≤ m ∧ m ≤ 20
      · obtain ⟨h1, h2⟩ := h
        have HK' : Hid ((0 < 2 → 1 ≤ n ∧ n ≤ 20) ∧ (1 < 2 → 1 ≤ m ∧ m ≤ 20)) := ⟨fun _ => HK.out.1 (by decide), fun _ => ⟨h1, h2⟩⟩
        clear HK
        go_wp2
        go_roundg 0
        case measure => omega
        case rel => exact ⟨2, by omega, by omega, by go_num, HK', rfl⟩
      · have HE : Hid (Rk.one (n, v, m, s) = 3) := Rk.one_bad fun h' => h h'.1.2
        have hc : m < 1 ∨ (1 ≤ m ∧ 20 < m) := by omega
        clear h HK
        rcases hc with hc | ⟨hc, hc2⟩
        all_goals
          try (have hd : decide (m ≤ 20) = false := decide_eq_false (by omega))
          go_wp2
          go_ret
          exact ⟨by rw [HE.out]; rfl, HB0.out⟩
    · have HN : Hid ((1 ≤ n ∧ n ≤ 20) ∧ (1 ≤ m ∧ m ≤ 20)) := ⟨HK.out.1 (by decide), HK.out.2 (by decide)⟩
      clear HK hk
      go_wp2
      go_loopg [24] 2 (fun g s24 wr => ∃ k : Nat, k ≤ 2 ∧ 2 - k ≤ g ∧ s24 = .int .i64 k ∧ Hid ((0 < k → 1 ≤ v ∧ v ≤ 99) ∧ (1 < k → 1 ≤ s ∧ s ≤ 99)) ∧ wr = w.alloc (.cells #[.int .i64 n, .int .i64 v, .int .i64 m, .int .i64 s] 98))
      case atStart => exact ⟨0, by omega, by omega, rfl, ⟨fun h => absurd h (by decide), fun h => absurd h (by decide)⟩, rfl⟩
      case round =>
        clear hg
        obtain ⟨k, hk, hg, rfl, HK, rfl⟩ := hrel
        obtain rfl | rfl | rfl : k = 0 ∨ k = 1 ∨ k = 2 := by omega
        · have hix := ix20 v s
          by_cases h : 1 ≤ v ∧ v ≤ 99
          · obtain ⟨h1, h2⟩ := h
            have HK' : Hid ((0 < 1 → 1 ≤ v ∧ v ≤ 99) ∧ (1 < 1 → 1 ≤ s ∧ s ≤ 99)) := ⟨fun _ => ⟨h1, h2⟩, fun h => absurd h (by decide)⟩
            clear HK
            go_wp2
            go_roundg 1
            case measure => omega
            case rel => exact ⟨1, by omega, by omega, by go_num, HK', rfl⟩
          · have HE : Hid (Rk.one (n, v, m, s) = 3) := Rk.one_bad fun h' => h h'.2.1
            have hc : v < 1 ∨ (1 ≤ v ∧ 99 < v) := by omega
            clear h HK
            rcases hc with hc | ⟨hc, hc2⟩
            all_goals
              try (have hd : decide (v ≤ 99) = false := decide_eq_false (by omega))
              go_wp2
              go_ret
              exact ⟨by rw [HE.out]; rfl, HB0.out⟩
        · have hix := ix21 v s
          by_cases h : 1 ≤ s ∧ s ≤ 99
          · obtain ⟨h1, h2⟩ := h
            have HK' : Hid ((0 < 2 → 1 ≤ v ∧ v ≤ 99) ∧ (1 < 2 → 1 ≤ s ∧ s ≤ 99)) := ⟨fun _ => HK.out.1 (by decide), fun _ => ⟨h1, h2⟩⟩
            clear HK
            go_wp2
            go_roundg 0
            case measure => omega
            case rel => exact ⟨2, by omega, by omega, by go_num, HK', rfl⟩
          · have HE : Hid (Rk.one (n, v, m, s) = 3) := Rk.one_bad fun h' => h h'.2.2
            have hc : s < 1 ∨ (1 ≤ s ∧ 99 < s) := by omega
            clear h HK
            rcases hc with hc | ⟨hc, hc2⟩
            all_goals
              try (have hd : decide (s ≤ 99) = false := decide_eq_false (by omega))
              go_wp2
              go_ret
              exact ⟨by rw [HE.out]; rfl, HB0.out⟩
        · have HE : Hid (Rk.one (n, v, m, s) = if m = n then 4 else 0) := Rk.one_form ⟨HN.out, HK.out.1 (by decide), HK.out.2 (by decide)⟩
          clear HK hk
          by_cases h : n = m
          · have h' : (n == m) = true := by simpa using h
            have HE4 : Hid (Rk.one (n, v, m, s) = 4) := by rw [HE.out, if_pos h.symm]; rfl
            clear h HE
            go_wp2
            go_ret
            exact ⟨by rw [HE4.out]; rfl, HB0.out⟩
          · have h' : (n == m) = false := by simpa using h
            have HE4 : Hid (Rk.one (n, v, m, s) = 0) := by rw [HE.out, if_neg (fun e => h e.symm)]; rfl
            clear h HE
            go_wp2
            go_ret
            exact ⟨by rw [HE4.out]; rfl, HB0.out⟩
set_option maxHeartbeats 400000 in
theorem rcheck_many (A : Option Addr) (n c : Nat) (w : World) (hl : 10 < n) :
    Calls Try.prog 99 #[.slice A n c] w fun e w' => e = .returned (.int .i64 2) ∧ Below w.heap.size w w' := by
  go_enter Try.func99, Try.ntmps99
  go_wp2
  go_ret
  exact ⟨rfl, Below.refl _ _⟩
set_option maxHeartbeats 2000000 in
theorem rcheck_few (v : Value) (l : List Rk.Rl) (w : World) (hR : RulesAt w v l) (hl : l.length ≤ 10) :
    Calls Try.prog 99 #[v] w fun e w' => e = .returned (.int .i64 (Rk.rchk l)) ∧ Below w.heap.size w w' := by
  obtain ⟨-, A, b, o, c, rfl, -, hA, hC⟩ := hR
  have HA : Hid (0 < l.length → A = some ⟨b, o, none⟩ ∧ b < w.heap.size) := hA
  have HC : Hid (∀ j, j < l.length → w.cell? ⟨b, o + j * 4, none⟩ = some (.int .i64 (l.getD j (0, 0, 0, 0)).1) ∧ w.cell? ⟨b, o + j * 4 + 1, none⟩ = some (.int .i64 (l.getD j (0, 0, 0, 0)).2.1) ∧ w.cell? ⟨b, o + j * 4 + 2, none⟩ = some (.int .i64 (l.getD j (0, 0, 0, 0)).2.2.1) ∧ w.cell? ⟨b, o + j * 4 + 3, none⟩ = some (.int .i64 (l.getD j (0, 0, 0, 0)).2.2.2)) := hC
  have HQ : Hid (Rk.rchk l = Rk.rchkFrom l) := rchk_of l hl
  clear hA hC
  go_enter Try.func99, Try.ntmps99
  go_wp2
  go_loopg [11] l.length (fun g s11 wr => ∃ k : Nat, k ≤ l.length ∧ l.length - k ≤ g ∧ s11 = .int .i64 k ∧ Hid (Rk.rchkFrom (l.drop k) = Rk.rchkFrom l) ∧ Below w.heap.size w wr)
  case atStart => exact ⟨0, Nat.zero_le _, by omega, rfl, rfl, Below.refl _ _⟩
  case round =>
    obtain ⟨k, hk, hg, rfl, H, hb⟩ := hrel
    by_cases hlt : k < l.length
    · obtain ⟨rfl, hbw⟩ := HA.out (by omega)
      obtain ⟨g1, g2, g3, g4⟩ := HC.out k hlt
      rw [← hb.cell (p := ⟨b, _, none⟩) hbw] at g1 g2 g3 g4
      clear HA HC
      have HD := dropR_getD l k hlt
      generalize l.getD k (0, 0, 0, 0) = p at g1 g2 g3 g4 HD
      obtain ⟨n, v, m, s⟩ := p
      simp only at g1 g2 g3 g4
      have HD' : Hid (Rk.rchkFrom l = if Rk.one (n, v, m, s) = 0 then Rk.rchkFrom (l.drop (k + 1)) else Rk.one (n, v, m, s)) := by
        rw [← H.out, HD, Rk.rchkFrom_one]; rfl
      have hb0 : Below w.heap.size w (wr.alloc (.cells #[.int .i64 n, .int .i64 v, .int .i64 m, .int .i64 s] 98)) := hb.alloc hb.size _
      clear HD H
      go_wp2_with fail
      refine (rone_any n v m s _).mono ?_
      rintro e w1 ⟨rfl, hb1⟩
      have HB1 : Hid (Below w.heap.size w w1) := hb0.trans (hb1.mono hb0.size)
      clear hb1 hb0 hb g1 g2 g3 g4
      by_cases h0 : Rk.one (n, v, m, s) = 0
      · have HB : Hid (Rk.rchkFrom (l.drop (k + 1)) = Rk.rchkFrom l) := by rw [HD'.out, if_pos h0]; rfl
        rw [h0]
        clear h0 HD'
        go_wp2
        go_roundg (l.length - (k + 1))
        case measure => omega
        case rel => exact ⟨k + 1, by omega, by omega, by go_num, HB, HB1.out⟩
      · have HB : Hid (Rk.rchk l = Rk.one (n, v, m, s)) := by rw [HQ.out, HD'.out, if_neg h0]; rfl
        have h0' : (Rk.one (n, v, m, s) != 0) = true := by simpa using h0
        clear h0 HD'
        go_wp2
        go_ret
        exact ⟨by rw [HB.out]; rfl, HB1.out⟩
    · have hk' : k = l.length := by omega
      have HB : Hid (Rk.rchk l = 0) := by rw [HQ.out, ← H.out, hk', List.drop_length]; rfl
      subst hk'
      clear hk hlt
      go_wp2
      go_ret
      exact ⟨by rw [HB.out]; rfl, hb⟩
theorem rcheck_any (v : Value) (l : List Rk.Rl) (w : World) (hR : RulesAt w v l) :
    Calls Try.prog 99 #[v] w fun e w' => e = .returned (.int .i64 (Rk.rchk l)) ∧ Below w.heap.size w w' := by
  by_cases h : l.length ≤ 10
  · exact rcheck_few v l w hR h
  · obtain ⟨-, A, b, o, c, rfl, -, -, -⟩ := hR
    rw [show Rk.rchk l = 2 from by unfold Rk.rchk; rw [if_pos (by omega)]]
    exact rcheck_many A _ c w (by omega)
end Go.Proofs.Ytcnnejndmafniaa
