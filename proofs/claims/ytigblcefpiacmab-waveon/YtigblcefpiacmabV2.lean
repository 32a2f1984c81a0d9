/- The contract of the document's WaveNow. -/
import Derived.Test.YtigblcefpiacmabV1
namespace Go.Proofs.Ytigblcefpiacmab
open Go.RowKit
theorem least_step {l : List (List Int)} {t : List Bool} {k : Nat} {m : Int} (hk : k < t.length) (H : Wv.leastFrom l (t.drop k) k m = Wv.least l t) : Wv.leastFrom l (t.drop (k + 1)) (k + 1) (if t.getD k true = true then m else min m (Wv.of l k)) = Wv.least l t := by
  rw [← H, dropL t true k hk, Wv.leastFrom]
set_option maxHeartbeats 4000000 in
theorem waveNowR_any (v u : Value) (l : List (List Int)) (t : List Bool) (w : World) (hL : WavesAt w v l) (hT : BoolsAt w u t) :
    Calls Try.prog 26 #[v, u] w fun e w' => e = .returned (.int .i64 (Wv.least l t)) ∧ w' = w := by
  have HL : Hid (WavesAt w v l) := hL
  obtain ⟨hll, A0, b0, o0, c0, rfl, -, -, -⟩ := hL
  obtain ⟨htl, A, b, o, c, rfl, -, hA, hC⟩ := hT
  have HA : Hid (0 < t.length → A = some ⟨b, o, none⟩ ∧ b < w.heap.size) := hA
  have HC : Hid (∀ j, j < t.length → w.cell? ⟨b, o + j, none⟩ = some (.bool (t.getD j true))) := hC
  clear hA hC
  go_enter Try.func26, Try.ntmps26
  go_wp2_with fail
  go_loopg [5, 12] t.length (fun g s5 s12 wr => ∃ k : Nat, ∃ m : Int, k ≤ t.length ∧ t.length - k ≤ g ∧ s5 = .int .i64 m ∧ s12 = .int .i64 k ∧ Hid (Wv.leastFrom l (t.drop k) k m = Wv.least l t) ∧ wr = w)
  case atStart => exact ⟨0, (l.length : Int), Nat.zero_le _, by omega, rfl, rfl, rfl, rfl⟩
  case round =>
    obtain ⟨k, m, hk, hg, rfl, rfl, H, rfl⟩ := hrel
    by_cases hlt : k < t.length
    · obtain ⟨rfl, hbw⟩ := HA.out (by omega)
      have g1 := HC.out k hlt
      have H1 := least_step hlt H.out
      clear HA HC H
      cases hb : t.getD k true with
      | true =>
        rw [hb] at g1 H1
        have HN : Hid (Wv.leastFrom l (t.drop (k + 1)) (k + 1) m = Wv.least l t) := H1
        clear hb H1
        go_wp2
        go_roundg (t.length - (k + 1))
        case measure => omega
        case rel => exact ⟨k + 1, m, by omega, by omega, rfl, by go_num, HN, rfl⟩
      | false =>
        rw [hb] at g1 H1
        have HN : Hid (Wv.leastFrom l (t.drop (k + 1)) (k + 1) (min m (Wv.of l k)) = Wv.least l t) := H1
        clear hb H1
        have hof := waveOfR_any _ l k _ HL.out
        generalize Wv.of l k = y at HN hof
        by_cases hy : y < m
        · have HN1 : Hid (Wv.leastFrom l (t.drop (k + 1)) (k + 1) y = Wv.least l t) := by
            have := HN.out
            rw [Int.min_eq_right (by omega)] at this
            exact this
          go_wp2_with fail
          refine hof.mono ?_
          rintro e w1 ⟨rfl, rfl⟩
          go_wp2
          go_roundg (t.length - (k + 1))
          case measure => omega
          case rel => exact ⟨k + 1, y, by omega, by omega, rfl, by go_num, HN1, rfl⟩
        · have HN1 : Hid (Wv.leastFrom l (t.drop (k + 1)) (k + 1) m = Wv.least l t) := by
            have := HN.out
            rw [Int.min_eq_left (by omega)] at this
            exact this
          have hy' : m ≤ y := by omega
          clear hy
          go_wp2_with fail
          refine hof.mono ?_
          rintro e w1 ⟨rfl, rfl⟩
          go_wp2
          go_roundg (t.length - (k + 1))
          case measure => omega
          case rel => exact ⟨k + 1, m, by omega, by omega, rfl, by go_num, HN1, rfl⟩
    · have hk' : k = t.length := by omega
      have HB : Hid (Wv.least l t = m) := by rw [← H.out, hk', List.drop_length]; rfl
      subst hk'
      clear hk hlt
      go_wp2
      go_ret
      exact ⟨by rw [HB.out]; rfl, rfl⟩
end Go.Proofs.Ytigblcefpiacmab
