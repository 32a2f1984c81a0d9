/- The contract of slices.Equal at slices of pins. -/
import Derived.Test.YtpenkhehceglfaaGreatDoorW1
import Derived.Laws.StructEq
import Derived.BigQuiet
import Derived.Deep.QuietTactic
namespace Go.Proofs.YtpenkhehceglfaaGreatDoor
open Go.RowKit
set_option maxHeartbeats 400000 in
theorem equal_len (a1 a2 : Option Addr) (n c m d : Nat) (w : World) (h : n ≠ m) :
    Calls Tryz.prog 19 #[.slice a1 n c, .slice a2 m d] w fun e w' => e = .returned (.bool false) ∧ Below w.heap.size w w' := by
  have h' : ((n : Int) != (m : Int)) = true := by rw [bne_iff_ne]; omega
  go_enter Tryz.func19, Tryz.ntmps19
  go_wp2
  go_ret
  exact ⟨rfl, Below.refl _ _⟩
set_option maxHeartbeats 400000 in
theorem equal_none (a1 a2 : Option Addr) (c d : Nat) (w : World) :
    Calls Tryz.prog 19 #[.slice a1 0 c, .slice a2 0 d] w fun e w' => e = .returned (.bool true) ∧ Below w.heap.size w w' := by
  go_enter Tryz.func19, Tryz.ntmps19
  go_wp2
  go_loopg [13] 0 (fun g s13 wr => s13 = .int .i64 0 ∧ wr = w)
  case atStart => exact ⟨rfl, rfl⟩
  case round =>
    obtain ⟨rfl, rfl⟩ := hrel
    go_wp2
    go_ret
    exact ⟨rfl, Below.refl _ _⟩
theorem neq_pin (x y u v : Int) (w : World) : (binOp .neq 57 (.agg #[.int .i64 x, .int .i64 y]) (.agg #[.int .i64 u, .int .i64 v])).run Tryz.prog w = .ok (.bool (!(x == u && y == v))) w := by
  have u3 := Tryz.underlying3
  have hS : Tryz.prog.underlying 57 = some (.struct (Tryz.prog.fieldsOf 57)) := by kernel_rfl
  have hp : Tryz.prog.stoodInHeld 57 = false := by kernel_rfl
  rw [run_neq_struct, show (10000 : Nat) = 9999 + 1 from rfl, run_equalIn_agg w 9999 57 _ _ hS hp]
  simp only [Program.fieldsOf, Tryz.underlying57]
  go_simp
  by_cases h1 : x = u <;> by_cases h2 : y = v <;> simp [h1, h2]
set_option maxHeartbeats 1000000 in
theorem equal_full (b1 o1 c b2 o2 d : Nat) (l m : List (Int × Int)) (w : World) (hl : l.length ≤ 70368744177664) (hn : l.length = m.length)
    (hP : PinCells w b1 o1 l) (hQ : PinCells w b2 o2 m) :
    Calls Tryz.prog 19 #[.slice (some ⟨b1, o1, none⟩) l.length c, .slice (some ⟨b2, o2, none⟩) l.length d] w fun e w' => e = .returned (.bool (Lk.same l m)) ∧ Below w.heap.size w w' := by
  have HN : Hid (l.length = m.length) := hn
  clear hn
  go_enter Tryz.func19, Tryz.ntmps19
  go_wp2
  go_loopg [13] l.length (fun g s13 wr => ∃ k q : Nat, k ≤ l.length ∧ l.length - k ≤ g ∧ s13 = .int .i64 k ∧ wr = w.drewN q ∧ Hid (∀ j, j < k → l.getD j (0, 0) = m.getD j (0, 0)))
  case atStart => exact ⟨0, 0, Nat.zero_le _, by omega, rfl, rfl, fun j hj => absurd hj (Nat.not_lt_zero _)⟩
  case round =>
    obtain ⟨k, q, hk, hg, rfl, rfl, A⟩ := hrel
    by_cases hlt : k < l.length
    · obtain ⟨g1, g2⟩ := hP.2 k hlt
      obtain ⟨g3, g4⟩ := hQ.2 k (by rw [← HN.out]; exact hlt)
      have HM : Hid (l.getD k (0, 0) = m.getD k (0, 0) → ∀ j, j < k + 1 → l.getD j (0, 0) = m.getD j (0, 0)) := fun e j hj => by
        by_cases h : j = k
        · subst h; exact e
        · exact A.out j (by omega)
      have HF : Hid (l.getD k (0, 0) ≠ m.getD k (0, 0) → Lk.same l m = false) := fun e => Lk.same_not e
      generalize l.getD k (0, 0) = p at g1 g2 HM HF
      generalize m.getD k (0, 0) = p' at g3 g4 HM HF
      obtain ⟨x, y⟩ := p
      obtain ⟨u, v⟩ := p'
      simp only at g1 g2 g3 g4
      clear hP hQ A
      have hne := fun w => neq_pin x y u v w
      by_cases he : x = u ∧ y = v
      · have hb : (!(x == u && y == v)) = false := by simp [he]
        have HE : Hid (∀ j, j < k + 1 → l.getD j (0, 0) = m.getD j (0, 0)) := HM.out (by rw [he.1, he.2])
        rw [hb] at hne
        clear HM HF he hb
        go_wp2_with fail
        go_quiet (fail)
        go_wp2
        go_roundg (l.length - (k + 1))
        case measure => omega
        case rel => exact ⟨k + 1, q + nq, by omega, by omega, by go_num, by simp, HE⟩
      · have hb : (!(x == u && y == v)) = true := by simp; omega
        have HE : Hid (Lk.same l m = false) := HF.out (fun e => he (by simpa using e))
        rw [hb] at hne
        clear HM HF he hb
        go_wp2_with fail
        go_quiet (fail)
        go_wp2
        go_ret
        exact ⟨by rw [HE.out]; rfl, below_drewN (below_drewN (Below.refl _ _) _) _⟩
    · have hk' : k = l.length := by omega
      have HE : Hid (Lk.same l m = true) := Lk.same_of HN.out (by subst hk'; exact A.out)
      subst hk'
      clear hk hlt hP hQ A
      go_wp2
      go_ret
      exact ⟨by rw [HE.out]; rfl, below_drewN (Below.refl _ _) _⟩
theorem equal_any (v u : Value) (l m : List (Int × Int)) (w : World) (hP : PinsAt w v l) (hQ : PinsAt w u m) :
    Calls Tryz.prog 19 #[v, u] w fun e w' => e = .returned (.bool (Lk.same l m)) ∧ Below w.heap.size w w' := by
  obtain ⟨hl, c, ⟨rfl, a, rfl⟩ | ⟨b, o, rfl, hc⟩⟩ := hP
  · obtain ⟨hm, d, ⟨rfl, a', rfl⟩ | ⟨b', o', rfl, hc'⟩⟩ := hQ
    · exact equal_none a a' c d w
    · by_cases h : m = []
      · subst h; exact equal_none a _ c d w
      · have hz : m.length ≠ 0 := by simpa using h
        rw [Lk.same_len (by simpa using hz.symm)]
        exact equal_len a _ 0 c _ d w hz.symm
  · obtain ⟨hm, d, ⟨rfl, a', rfl⟩ | ⟨b', o', rfl, hc'⟩⟩ := hQ
    · by_cases h : l = []
      · subst h; exact equal_none _ a' c d w
      · have hz : l.length ≠ 0 := by simpa using h
        rw [Lk.same_len (by simpa using hz)]
        exact equal_len _ a' _ c 0 d w hz
    · by_cases h : l.length = m.length
      · rw [← h]; exact equal_full b o c b' o' d l m w hl h hc hc'
      · rw [Lk.same_len h]
        exact equal_len _ _ _ c _ d w h
end Go.Proofs.YtpenkhehceglfaaGreatDoor
