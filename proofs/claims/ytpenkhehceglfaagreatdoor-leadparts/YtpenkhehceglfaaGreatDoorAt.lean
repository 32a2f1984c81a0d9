/- The contract of the law's 'at': a place among so many. -/
import Derived.Test.YtpenkhehceglfaaGreatDoorProg
import Derived.WalkKit
import Derived.WalkLawsBesides
import Derived.WalkSpells
import Derived.Outline
namespace Go.Proofs.YtpenkhehceglfaaGreatDoor
open Go.RowKit
theorem tmod_range (k : Int) {n : Int} (h : 0 < n) : -n < k.tmod n ∧ k.tmod n < n := ⟨Int.lt_tmod_of_pos k h, Int.tmod_lt_of_pos k h⟩
set_option maxHeartbeats 1000000 in
theorem at_any (k : Int) (n : Nat) (hn : 1 ≤ n) (hn2 : n ≤ 1000) (w : World) :
    Calls Tryz.prog 7 #[.int .i64 k, .int .i64 n] w fun e w' => (∃ j : Nat, e = .returned (.int .i64 j) ∧ j < n) ∧ w' = w := by
  obtain ⟨h1, h2⟩ := tmod_range k (n := (n : Int)) (by omega)
  have hnz : ¬ ((n : Int) = 0) := by omega
  have hnz' : ((n : Int) == 0) = false := by simpa using hnz
  by_cases hs : k.tmod n < 0
  · have HJ : Hid (k.tmod n + n = ((k.tmod n + n).toNat : Int)) := by show _ = _; omega
    go_enter Tryz.func7, Tryz.ntmps7
    go_wp2
    go_ret
    exact ⟨⟨(k.tmod n + n).toNat, by rw [← HJ.out]; rfl, by omega⟩, rfl⟩
  · have hs' : 0 ≤ k.tmod n := by omega
    have HJ : Hid (k.tmod n = ((k.tmod n).toNat : Int)) := by show _ = _; omega
    clear hs
    go_enter Tryz.func7, Tryz.ntmps7
    go_wp2
    go_ret
    exact ⟨⟨(k.tmod n).toNat, by rw [← HJ.out]; rfl, by omega⟩, rfl⟩
end Go.Proofs.YtpenkhehceglfaaGreatDoor
