/- The law's closed fact led(): small() and second(); what they come to, plain. -/
import Derived.Test.YtpenkhehceglfaaGreatDoorLVH
namespace Go.Proofs.YtpenkhehceglfaaGreatDoor
open Go.RowKit
def smallC : Ld.Config := ⟨1, [(1, 1)], [(1, 2, 2, 1)], [[1], [0, 2]], 0⟩
def ledL : Ld.Leader := ⟨[(1, [(1, 1)]), (2, [(1, 2), (2, 1)])], 1, 2, false, [⟨0, 0, false⟩, ⟨3, 1, false⟩, ⟨0, 0, false⟩], 2⟩
def ledB : Ld.Leader := ⟨[(1, [(1, 1)]), (2, [(1, 2), (2, 1)])], 1, 2, true, [⟨0, 0, false⟩, ⟨3, 1, false⟩, ⟨0, 0, false⟩], 2⟩
def ledR : List Lk.Note := [⟨4, 0, 0, 0, false, 2, [(1, 2), (2, 1)]⟩, ⟨5, 0, 0, 2, false, 0, []⟩, ⟨6, 1, 1, 0, false, 0, []⟩, ⟨7, 1, 1, 0, false, 0, []⟩]
theorem led_rep : Ld.replayL smallC ledR = (ledL, 0) := by kernel_rfl
theorem led_turn : Ld.turnL smallC ledL 0 = (false, (2, [(1, 2), (2, 1)]), 0) := by kernel_rfl
theorem led_send : Ld.nextL smallC ledL ⟨6, 0, 2, 0, false, 0, []⟩ = (Ld.Leader.none, 7) := by kernel_rfl
theorem led_back : Ld.nextL smallC ledL ⟨8, 0, 0, 0, false, 0, []⟩ = (ledB, 0) := by kernel_rfl
theorem led_turn2 : Ld.turnL smallC ledB 1 = (true, (1, [(1, 1)]), 0) := by kernel_rfl
theorem led_over : Ld.overL smallC ledB = (false, 0) := by kernel_rfl
theorem led_pub : Ld.nextL smallC ledL ⟨4, 0, 0, 0, false, 3, [(1, 2)]⟩ = (Ld.Leader.none, 8) := by kernel_rfl
theorem led_agents : Ld.agents smallC = 3 := by kernel_rfl
theorem pins_blk {w : World} {g c : Nat} {t : TypeId} {l : List (Int × Int)} (h : Blk w g (flat l).toArray t) (hl : l.length ≤ 1000) : PinsAt w (.slice (some ⟨g, 0, none⟩) l.length c) l := by
  refine ⟨by omega, c, .inr ⟨g, 0, rfl, h.lt, fun j hj => ?_⟩⟩
  obtain ⟨e1, e2⟩ := flat_get l j hj
  rw [Nat.zero_add, h.cell, h.cell]
  exact ⟨by simpa using e1, by simpa using e2⟩
theorem rules_blk {w : World} {g : Nat} {t : TypeId} {n v m s : Int} (h : Blk w g #[.int .i64 n, .int .i64 v, .int .i64 m, .int .i64 s] t) : RulesAt w (.slice (some ⟨g, 0, none⟩) 1 1) [(n, v, m, s)] := by
  refine ⟨by simp, some ⟨g, 0, none⟩, g, 0, 1, rfl, by simp, fun _ => ⟨rfl, h.lt⟩, fun j hj => ?_⟩
  have e : j = 0 := by simp at hj; omega
  subst e
  exact ⟨h.cell 0, h.cell 1, h.cell 2, h.cell 3⟩
theorem ints_blk {w : World} {g : Nat} {t : TypeId} {l : List Int} (h : Blk w g (l.map (Value.int .i64)).toArray t) (hl : l.length ≤ 1000) : IntsAt w (.slice (some ⟨g, 0, none⟩) l.length l.length) l := by
  refine ⟨by omega, some ⟨g, 0, none⟩, g, 0, l.length, rfl, Nat.le_refl _, fun _ => ⟨rfl, h.lt⟩, fun j hj => ?_⟩
  rw [Nat.zero_add, h.cell]
  simp [List.getD_eq_getElem?_getD, hj]
theorem waves_blk {w : World} {g : Nat} {t : TypeId} {u v : Value} {l m : List Int} (h : Blk w g #[u, v] t) (hu : IntsAt w u l) (hv : IntsAt w v m) : WavesAt w (.slice (some ⟨g, 0, none⟩) 2 2) [l, m] := by
  refine ⟨by simp, some ⟨g, 0, none⟩, g, 0, 2, rfl, by simp, fun _ => ⟨rfl, h.lt⟩, fun j hj => ?_⟩
  match j, hj with
  | 0, _ => exact ⟨u, h.cell 0, hu⟩
  | 1, _ => exact ⟨v, h.cell 1, hv⟩
  | n + 2, hj => simp at hj; omega
theorem Blk.at' {w : World} {b b' : Nat} {cs : Array Value} {t : TypeId} (h : Blk w b cs t) (e : b = b') : Blk w b' cs t := e ▸ h
set_option maxHeartbeats 4000000 in
theorem small_any (w : World) : Calls Tryz.prog 32 #[] w fun e w' => (∃ A B D, e = .returned (cfV smallC A B D) ∧ CfAt w' smallC A B D) ∧ Below w.heap.size w w' := by
  go_enter Tryz.func32, Tryz.ntmps32
  go_wp2
  refine bodyPost_ret (v := .agg #[.int .i64 1, .slice (some ⟨w.heap.size + 1, 0, none⟩) 1 1, .slice (some ⟨w.heap.size + 1 + 1, 0, none⟩) 1 1, .slice (some ⟨w.heap.size + 1 + 1 + 1 + 1 + 1, 0, none⟩) 2 2, .int .i64 0]) (by simp [results, Tryz.results32, go_sem]) rfl ⟨⟨_, _, _, rfl, ?_, ?_, ?_⟩, ?_⟩
  · exact pins_blk (l := [(1, 1)]) (((((blk_alloc _ _ 57).al _).al _).al _).al _ |>.at' (by simp)) (by simp)
  · exact rules_blk ((((blk_alloc _ _ 130).al _).al _).al _ |>.at' (by simp))
  · exact waves_blk (t := 131) ((blk_alloc _ _ _).at' (by simp)) (ints_blk (l := [1]) (((blk_alloc _ _ 3).al _).al _ |>.at' (by simp)) (by simp)) (ints_blk (l := [0, 2]) ((blk_alloc _ _ 3).al _ |>.at' (by simp)) (by simp))
  · exact ((((((Below.refl _ w).alloc (Nat.le_refl _) _).alloc (by simp) _).alloc (by simp; omega) _).alloc (by simp; omega) _).alloc (by simp; omega) _).alloc (by simp; omega) _
set_option maxHeartbeats 4000000 in
theorem second_any (w : World) : Calls Tryz.prog 33 #[] w fun e w' => (∃ y, e = .returned (.agg #[.int .i64 2, .slice (some y) 2 2]) ∧ PinsAt w' (.slice (some y) 2 2) [(1, 2), (2, 1)]) ∧ Below w.heap.size w w' := by
  go_enter Tryz.func33, Tryz.ntmps33
  go_wp2
  refine bodyPost_ret (v := .agg #[.int .i64 2, .slice (some ⟨w.heap.size + 1, 0, none⟩) 2 2]) (by simp [results, Tryz.results33, go_sem]) rfl ⟨⟨_, rfl, ?_⟩, ?_⟩
  · exact pins_blk (l := [(1, 2), (2, 1)]) ((blk_alloc _ _ 57).at' (by simp)) (by simp)
  · exact ((Below.refl _ w).alloc (Nat.le_refl _) _).alloc (by simp) _
end Go.Proofs.YtpenkhehceglfaaGreatDoor
