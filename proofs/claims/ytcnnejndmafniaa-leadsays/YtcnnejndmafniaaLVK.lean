/- The contract of slices.Equal at what is known of agents. -/
import Derived.Test.YtcnnejndmafniaaLVJ
import Derived.Laws.StructEq
import Derived.BigQuiet
import Derived.Deep.QuietTactic
namespace Go.Proofs.Ytcnnejndmafniaa
open Go.RowKit
set_option maxHeartbeats 400000 in
theorem equalK_len (a1 a2 : Option Addr) (n c m d : Nat) (w : World) (h : n ≠ m) :
    Calls Try.prog 50 #[.slice a1 n c, .slice a2 m d] w fun e w' => e = .returned (.bool false) ∧ Below w.heap.size w w' := by
  have h' : ((n : Int) != (m : Int)) = true := by rw [bne_iff_ne]; omega
  go_enter Try.func50, Try.ntmps50
  go_wp2
  go_ret
  exact ⟨rfl, Below.refl _ _⟩
theorem neq_known (x y u v : Int) (z t : Bool) (w : World) : (binOp .neq 56 (.agg #[.int .i64 x, .int .i64 y, .bool z]) (.agg #[.int .i64 u, .int .i64 v, .bool t])).run Try.prog w = .ok (.bool (!(x == u && y == v && z == t))) w := by
  have u3 := Try.underlying3
  have u4 := Try.underlying4
  have hS : Try.prog.underlying 56 = some (.struct (Try.prog.fieldsOf 56)) := by kernel_rfl
  have hp : Try.prog.stoodInHeld 56 = false := by kernel_rfl
  rw [run_neq_struct, show (10000 : Nat) = 9999 + 1 from rfl, run_equalIn_agg w 9999 56 _ _ hS hp]
  simp only [Program.fieldsOf, Try.underlying56]
  go_simp
  by_cases h1 : x = u <;> by_cases h2 : y = v <;> cases z <;> cases t <;> simp [h1, h2]
theorem known_ext {l m : List Ld.Known} (hn : l.length = m.length) (h : ∀ j, j < l.length → l.getD j ⟨0, 0, false⟩ = m.getD j ⟨0, 0, false⟩) : decide (l = m) = true := by
  refine decide_eq_true (List.ext_getElem hn fun j h1 h2 => ?_)
  have := h j h1
  rwa [List.getD_eq_getElem?_getD, List.getD_eq_getElem?_getD, List.getElem?_eq_getElem h1, List.getElem?_eq_getElem h2] at this
theorem known_not {l m : List Ld.Known} {k : Nat} (h : l.getD k ⟨0, 0, false⟩ ≠ m.getD k ⟨0, 0, false⟩) : decide (l = m) = false := decide_eq_false (fun e => h (by rw [e]))
set_option maxHeartbeats 4000000 in
theorem equalK_full (a1 a2 : Option Addr) (c d : Nat) (l m : List Ld.Known) (w : World) (hn : l.length = m.length) (hP : KnowsAt w (.slice a1 l.length c) l) (hQ : KnowsAt w (.slice a2 l.length d) m) :
    Calls Try.prog 50 #[.slice a1 l.length c, .slice a2 l.length d] w fun e w' => e = .returned (.bool (decide (l = m))) ∧ Below w.heap.size w w' := by
  have HN : Hid (l.length = m.length) := hn
  have hl := hP.1
  have HP : Hid (KnowsAt w (.slice a1 l.length c) l) := hP
  have HQ : Hid (KnowsAt w (.slice a2 l.length d) m) := hQ
  clear hn hP hQ
  go_enter Try.func50, Try.ntmps50
  go_wp2
  go_loopg [13] l.length (fun g s13 wr => ∃ k q : Nat, k ≤ l.length ∧ l.length - k ≤ g ∧ s13 = .int .i64 k ∧ wr = w.drewN q ∧ Hid (∀ j, j < k → l.getD j ⟨0, 0, false⟩ = m.getD j ⟨0, 0, false⟩))
  case atStart => exact ⟨0, 0, Nat.zero_le _, by omega, rfl, rfl, fun j hj => absurd hj (Nat.not_lt_zero _)⟩
  case round =>
    obtain ⟨k, q, hk, hg, rfl, rfl, A⟩ := hrel
    by_cases hlt : k < l.length
    · obtain ⟨b1, o1, rfl, hb1, g1, g2, g3⟩ := knows_at HP.out hlt
      obtain ⟨b2, o2, rfl, hb2, g4, g5, g6⟩ := knows_at HQ.out (show k < m.length from HN.out ▸ hlt)
      have HM : Hid (l.getD k ⟨0, 0, false⟩ = m.getD k ⟨0, 0, false⟩ → ∀ j, j < k + 1 → l.getD j ⟨0, 0, false⟩ = m.getD j ⟨0, 0, false⟩) := fun e j hj => by
        by_cases h : j = k
        · subst h; exact e
        · exact A.out j (by omega)
      have HF : Hid (l.getD k ⟨0, 0, false⟩ ≠ m.getD k ⟨0, 0, false⟩ → decide (l = m) = false) := fun e => known_not e
      generalize l.getD k ⟨0, 0, false⟩ = p at g1 g2 g3 HM HF
      generalize m.getD k ⟨0, 0, false⟩ = p' at g4 g5 g6 HM HF
      obtain ⟨x, y, z⟩ := p
      obtain ⟨u, v, t⟩ := p'
      simp only at g1 g2 g3 g4 g5 g6
      clear A HP HQ
      have hne := fun w => neq_known x y u v z t w
      by_cases he : x = u ∧ y = v ∧ z = t
      · have hb : (!(x == u && y == v && z == t)) = false := by simp [he]
        have HE : Hid (∀ j, j < k + 1 → l.getD j ⟨0, 0, false⟩ = m.getD j ⟨0, 0, false⟩) := HM.out (by rw [he.1, he.2.1, he.2.2])
        rw [hb] at hne
        clear HM HF he hb
        go_wp2_with fail
        go_quiet (fail)
        go_wp2
        go_roundg (l.length - (k + 1))
        case measure => omega
        case rel => exact ⟨k + 1, q + nq, by omega, by omega, by go_num, by simp, HE⟩
      · have hb : (!(x == u && y == v && z == t)) = true := by
          cases h : (x == u && y == v && z == t)
          · rfl
          · exact absurd (by simpa [and_assoc] using h) he
        have HE : Hid (decide (l = m) = false) := HF.out (fun e => he (by simpa using e))
        rw [hb] at hne
        clear HM HF he hb
        go_wp2_with fail
        go_quiet (fail)
        go_wp2
        go_ret
        exact ⟨by rw [HE.out]; rfl, below_drewN (below_drewN (Below.refl _ _) _) _⟩
    · have hk' : k = l.length := by omega
      have HE : Hid (decide (l = m) = true) := known_ext HN.out (by subst hk'; exact A.out)
      subst hk'
      clear hk hlt HP HQ A
      go_wp2
      go_ret
      exact ⟨by rw [HE.out]; rfl, below_drewN (Below.refl _ _) _⟩
theorem equalK_any (v u : Value) (l m : List Ld.Known) (w : World) (hP : KnowsAt w v l) (hQ : KnowsAt w u m) :
    Calls Try.prog 50 #[v, u] w fun e w' => e = .returned (.bool (decide (l = m))) ∧ Below w.heap.size w w' := by
  obtain ⟨a1, c, rfl⟩ := knows_slice hP
  obtain ⟨a2, d, rfl⟩ := knows_slice hQ
  by_cases h : l.length = m.length
  · rw [← h] at hQ ⊢
    exact equalK_full a1 a2 c d l m w h hP hQ
  · rw [decide_eq_false (fun e => h (by rw [e]))]
    exact equalK_len a1 a2 _ c _ d w h
end Go.Proofs.Ytcnnejndmafniaa
