/- Slices of rules, and the contract of the document's CheckRules. -/
import Derived.Test.YtcnnejndmafniaaW1
import Derived.Test.YtcnnejndmafniaaMA
namespace Go.Proofs.Ytcnnejndmafniaa
open Go.RowKit
/-- a slice of rules, the empty and the nil one too -/
def RulesAt (w : World) (v : Value) (l : List Rk.Rl) : Prop :=
  l.length ≤ 70368744177664 ∧ ∃ A b o c, v = .slice A l.length c ∧ l.length ≤ c ∧ (0 < l.length → A = some ⟨b, o, none⟩ ∧ b < w.heap.size) ∧
    ∀ j, j < l.length → w.cell? ⟨b, o + j * 4, none⟩ = some (.int .i64 (l.getD j (0, 0, 0, 0)).1) ∧ w.cell? ⟨b, o + j * 4 + 1, none⟩ = some (.int .i64 (l.getD j (0, 0, 0, 0)).2.1) ∧ w.cell? ⟨b, o + j * 4 + 2, none⟩ = some (.int .i64 (l.getD j (0, 0, 0, 0)).2.2.1) ∧ w.cell? ⟨b, o + j * 4 + 3, none⟩ = some (.int .i64 (l.getD j (0, 0, 0, 0)).2.2.2)
theorem RulesAt.below {w w' : World} {v : Value} {l : List Rk.Rl} (h : RulesAt w v l) (hb : Below w.heap.size w w') : RulesAt w' v l := by
  obtain ⟨hl, A, b, o, c, h1, h2, h3, h4⟩ := h
  refine ⟨hl, A, b, o, c, h1, h2, fun h => ⟨(h3 h).1, Nat.lt_of_lt_of_le (h3 h).2 hb.size⟩, fun j hj => ?_⟩
  have hlt := (h3 (by omega)).2
  obtain ⟨e1, e2, e3, e4⟩ := h4 j hj
  exact ⟨(hb.cell (p := ⟨b, o + j * 4, none⟩) hlt).trans e1, (hb.cell (p := ⟨b, o + j * 4 + 1, none⟩) hlt).trans e2, (hb.cell (p := ⟨b, o + j * 4 + 2, none⟩) hlt).trans e3, (hb.cell (p := ⟨b, o + j * 4 + 3, none⟩) hlt).trans e4⟩
theorem dropR_getD (l : List Rk.Rl) (k : Nat) (h : k < l.length) : l.drop k = l.getD k (0, 0, 0, 0) :: l.drop (k + 1) := by
  rw [List.drop_eq_getElem_cons h, List.getD_eq_getElem?_getD, List.getElem?_eq_getElem h]; rfl
theorem rchk_of (l : List Rk.Rl) (hl : l.length ≤ 10) : Rk.rchk l = Rk.rchkFrom l := by
  unfold Rk.rchk; rw [if_neg (by omega)]
/-- a rule's cells, one by one: where its numbers lie -/
theorem rule_ways (n v m s : Int) : ((n < 1 ∨ (1 ≤ n ∧ 20 < n)) ∨ (1 ≤ n ∧ n ≤ 20 ∧ (m < 1 ∨ (1 ≤ m ∧ 20 < m)))) ∨ (1 ≤ n ∧ n ≤ 20 ∧ 1 ≤ m ∧ m ≤ 20 ∧ ((v < 1 ∨ (1 ≤ v ∧ 99 < v)) ∨ (1 ≤ v ∧ v ≤ 99 ∧ (s < 1 ∨ (1 ≤ s ∧ 99 < s))))) ∨ (1 ≤ n ∧ n ≤ 20 ∧ 1 ≤ m ∧ m ≤ 20 ∧ 1 ≤ v ∧ v ≤ 99 ∧ 1 ≤ s ∧ s ≤ 99) := by omega
set_option maxHeartbeats 400000 in
theorem rcheckR_many (A : Option Addr) (n c : Nat) (w : World) (hl : 10 < n) :
    Calls Try.prog 68 #[.slice A n c] w fun e w' => e = .returned (.int .i64 2) ∧ Below w.heap.size w w' := by
  go_enter Try.func68, Try.ntmps68
  go_wp2
  go_ret
  exact ⟨rfl, Below.refl _ _⟩
set_option maxHeartbeats 2000000 in
theorem rcheckR_few (v : Value) (l : List Rk.Rl) (w : World) (hR : RulesAt w v l) (hl : l.length ≤ 10) :
    Calls Try.prog 68 #[v] w fun e w' => e = .returned (.int .i64 (Rk.rchk l)) ∧ Below w.heap.size w w' := by
  obtain ⟨-, A, b, o, c, rfl, -, hA, hC⟩ := hR
  have HA : Hid (0 < l.length → A = some ⟨b, o, none⟩ ∧ b < w.heap.size) := hA
  have HC : Hid (∀ j, j < l.length → w.cell? ⟨b, o + j * 4, none⟩ = some (.int .i64 (l.getD j (0, 0, 0, 0)).1) ∧ w.cell? ⟨b, o + j * 4 + 1, none⟩ = some (.int .i64 (l.getD j (0, 0, 0, 0)).2.1) ∧ w.cell? ⟨b, o + j * 4 + 2, none⟩ = some (.int .i64 (l.getD j (0, 0, 0, 0)).2.2.1) ∧ w.cell? ⟨b, o + j * 4 + 3, none⟩ = some (.int .i64 (l.getD j (0, 0, 0, 0)).2.2.2)) := hC
  have HQ : Hid (Rk.rchk l = Rk.rchkFrom l) := rchk_of l hl
  clear hA hC
  go_enter Try.func68, Try.ntmps68
  go_wp2
  go_loopg [10] l.length (fun g s10 wr => ∃ k : Nat, k ≤ l.length ∧ l.length - k ≤ g ∧ s10 = .int .i64 k ∧ Hid (Rk.rchkFrom (l.drop k) = Rk.rchkFrom l) ∧ Below w.heap.size w wr)
  case atStart => exact ⟨0, Nat.zero_le _, by omega, rfl, rfl, Below.refl _ _⟩
  case round =>
    obtain ⟨k, hk, hg, rfl, H, hb⟩ := hrel
    by_cases hlt : k < l.length
    · obtain ⟨rfl, hbw⟩ := HA.out (by omega)
      obtain ⟨g1, g2, g3, g4⟩ := HC.out k hlt
      rw [← hb.cell (p := ⟨b, _, none⟩) hbw] at g1 g2 g3 g4
      clear HA HC
      have HD := dropR_getD l k hlt
      generalize l.getD k (0, 0, 0, 0) = p at g1 g2 g3 g4 HD
      obtain ⟨n, v, m, s⟩ := p
      simp only at g1 g2 g3 g4
      have HD' : Hid (Rk.rchkFrom l = if Rk.inR (n, v, m, s) then (if m = n then 4 else Rk.rchkFrom (l.drop (k + 1))) else 3) := by
        rw [← H.out, HD, Rk.rchkFrom]; rfl
      clear HD H
      rcases rule_ways n v m s with hr | hr | hr
      · have HB : Hid (Rk.rchk l = 3) := by rw [HQ.out, HD'.out, if_neg]; rfl; unfold Rk.inR; simp only []; omega
        rcases hr with (h1 | ⟨h1, h2⟩) | ⟨h1, h2, h3 | ⟨h3, h4⟩⟩
        all_goals
          try (have hd : decide (n ≤ 20) = false := decide_eq_false (by omega))
          try (have hd2 : decide (m ≤ 20) = false := decide_eq_false (by omega))
          go_wp2
          go_ret
          exact ⟨by rw [HB.out]; rfl, hb.alloc hb.size _⟩
      · have HB : Hid (Rk.rchk l = 3) := by rw [HQ.out, HD'.out, if_neg]; rfl; unfold Rk.inR; simp only []; omega
        rcases hr with ⟨h1, h2, h3, h4, (h5 | ⟨h5, h6⟩) | ⟨h5, h6, h7 | ⟨h7, h8⟩⟩⟩
        all_goals
          try (have hd : decide (v ≤ 99) = false := decide_eq_false (by omega))
          try (have hd2 : decide (s ≤ 99) = false := decide_eq_false (by omega))
          go_wp2
          go_ret
          exact ⟨by rw [HB.out]; rfl, hb.alloc hb.size _⟩
      · have hin : Rk.inR (n, v, m, s) := by unfold Rk.inR; simp only []; omega
        obtain ⟨h1, h2, h3, h4, h5, h6, h7, h8⟩ := hr
        by_cases hmn : m = n
        · have HB : Hid (Rk.rchk l = 4) := by rw [HQ.out, HD'.out, if_pos hin, if_pos hmn]; rfl
          have hmn' : (m == n) = true := by simpa using hmn
          clear hmn hin HD'
          go_wp2
          go_ret
          exact ⟨by rw [HB.out]; rfl, hb.alloc hb.size _⟩
        · have HB : Hid (Rk.rchkFrom (l.drop (k + 1)) = Rk.rchkFrom l) := by rw [HD'.out, if_pos hin, if_neg hmn]; rfl
          have hmn' : (m == n) = false := by simpa using hmn
          clear hmn hin HD'
          go_wp2
          go_roundg (l.length - (k + 1))
          case measure => omega
          case rel => exact ⟨k + 1, by omega, by omega, by go_num, HB, hb.alloc hb.size _⟩
    · have hk' : k = l.length := by omega
      have HB : Hid (Rk.rchk l = 0) := by rw [HQ.out, ← H.out, hk', List.drop_length]; rfl
      subst hk'
      clear hk hlt
      go_wp2
      go_ret
      exact ⟨by rw [HB.out]; rfl, hb⟩
theorem rcheckR_any (v : Value) (l : List Rk.Rl) (w : World) (hR : RulesAt w v l) :
    Calls Try.prog 68 #[v] w fun e w' => e = .returned (.int .i64 (Rk.rchk l)) ∧ Below w.heap.size w w' := by
  by_cases h : l.length ≤ 10
  · exact rcheckR_few v l w hR h
  · obtain ⟨-, A, b, o, c, rfl, -, -, -⟩ := hR
    rw [show Rk.rchk l = 2 from by unfold Rk.rchk; rw [if_pos (by omega)]]
    exact rcheckR_many A _ c w (by omega)
end Go.Proofs.Ytcnnejndmafniaa
