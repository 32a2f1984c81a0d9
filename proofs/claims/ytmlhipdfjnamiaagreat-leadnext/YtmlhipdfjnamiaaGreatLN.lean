/- What New, Next and Replay answer; six cells set. -/
import Derived.Test.YtmlhipdfjnamiaaGreatLV7
import Derived.Test.YtmlhipdfjnamiaaGreatLV5
namespace Go.Proofs.YtmlhipdfjnamiaaGreat
open Go.RowKit
/-- what New, Next and Replay answer: all of it is their own -/
def leN (w : World) (base : Nat) (q : Ld.Leader × Int) (e : Ending) : Prop := ∃ Y Z, e = .returned (.tuple #[leV q.1 Y Z, .int .i64 q.2]) ∧ New base (fun w => LdAt w q.1 Y Z) w
theorem leN_none (w : World) (base : Nat) {q : Ld.Leader × Int} {x : Int} (h : q = (Ld.Leader.none, x)) : leN w base q (.returned (.tuple #[.agg #[.slice none 0 0, .int .i64 0, .int .i64 0, .bool false, .slice none 0 0, .int .i64 0], .int .i64 x])) := by
  subst h; exact ⟨_, _, rfl, fun w' _ => ld_none w'⟩
theorem made_k0 : madeCells #[.int .i64 0, .int .i64 0, .bool false] (0 * 3) = (flatK (List.replicate 0 ⟨0, 0, false⟩)).toArray := by kernel_rfl
theorem made_k1 : madeCells #[.int .i64 0, .int .i64 0, .bool false] (1 * 3) = (flatK (List.replicate 1 ⟨0, 0, false⟩)).toArray := by kernel_rfl
theorem made_k2 : madeCells #[.int .i64 0, .int .i64 0, .bool false] (2 * 3) = (flatK (List.replicate 2 ⟨0, 0, false⟩)).toArray := by kernel_rfl
theorem made_k3 : madeCells #[.int .i64 0, .int .i64 0, .bool false] (3 * 3) = (flatK (List.replicate 3 ⟨0, 0, false⟩)).toArray := by kernel_rfl
theorem made_k4 : madeCells #[.int .i64 0, .int .i64 0, .bool false] (4 * 3) = (flatK (List.replicate 4 ⟨0, 0, false⟩)).toArray := by kernel_rfl
theorem made_k5 : madeCells #[.int .i64 0, .int .i64 0, .bool false] (5 * 3) = (flatK (List.replicate 5 ⟨0, 0, false⟩)).toArray := by kernel_rfl
theorem made_k6 : madeCells #[.int .i64 0, .int .i64 0, .bool false] (6 * 3) = (flatK (List.replicate 6 ⟨0, 0, false⟩)).toArray := by kernel_rfl
theorem Blk.al {w : World} {b : Nat} {cs : Array Value} {t : TypeId} (h : Blk w b cs t) (O : Obj) : Blk (w.alloc O) b cs t := h.below ((Below.refl _ _).alloc (Nat.le_refl _) _)
theorem Keep.al {S : Nat → Prop} {Q : World → Prop} {w : World} (h : Keep S Q w) (O : Obj) : Keep S Q (w.alloc O) := h.below ((Below.refl _ _).alloc (Nat.le_refl _) _)
theorem Blk.six {w : World} {b g : Nat} {cs : Array Value} {t : TypeId} (h : Blk w g cs t) (hne : b ≠ g) (v0 v1 v2 v3 v4 v5 : Value) : Blk ((((((w.setCell ⟨b, 0, none⟩ v0).setCell ⟨b, 1, none⟩ v1).setCell ⟨b, 2, none⟩ v2).setCell ⟨b, 3, none⟩ v3).setCell ⟨b, 4, none⟩ v4).setCell ⟨b, 5, none⟩ v5) g cs t := (((((h.off hne).off hne).off hne).off hne).off hne).off hne
theorem Blk.six6 {w : World} {b : Nat} {t : TypeId} (h : Blk w b #[.slice none 0 0, .int .i64 0, .int .i64 0, .bool false, .slice none 0 0, .int .i64 0] t) (v0 v1 v2 v3 v4 v5 : Value) : Blk ((((((w.setCell ⟨b, 0, none⟩ v0).setCell ⟨b, 1, none⟩ v1).setCell ⟨b, 2, none⟩ v2).setCell ⟨b, 3, none⟩ v3).setCell ⟨b, 4, none⟩ v4).setCell ⟨b, 5, none⟩ v5) b #[v0, v1, v2, v3, v4, v5] t := (((((h.put 0 v0).put 1 v1).put 2 v2).put 3 v3).put 4 v4).put 5 v5
theorem Keep.six {S : Nat → Prop} {Q : World → Prop} {w : World} {b : Nat} (h : Keep S Q w) (hb : S b) (v0 v1 v2 v3 v4 v5 : Value) : Keep S Q ((((((w.setCell ⟨b, 0, none⟩ v0).setCell ⟨b, 1, none⟩ v1).setCell ⟨b, 2, none⟩ v2).setCell ⟨b, 3, none⟩ v3).setCell ⟨b, 4, none⟩ v4).setCell ⟨b, 5, none⟩ v5) := (((((Keep.set h (a := ⟨b, 0, none⟩) hb v0).set (a := ⟨b, 1, none⟩) hb v1).set (a := ⟨b, 2, none⟩) hb v2).set (a := ⟨b, 3, none⟩) hb v3).set (a := ⟨b, 4, none⟩) hb v4).set (a := ⟨b, 5, none⟩) hb v5
theorem below_six {B b : Nat} {a w : World} (h : Below B a w) (hb : B ≤ b) (v0 v1 v2 v3 v4 v5 : Value) : Below B a ((((((w.setCell ⟨b, 0, none⟩ v0).setCell ⟨b, 1, none⟩ v1).setCell ⟨b, 2, none⟩ v2).setCell ⟨b, 3, none⟩ v3).setCell ⟨b, 4, none⟩ v4).setCell ⟨b, 5, none⟩ v5) := (((((h.setCell (p := ⟨b, 0, none⟩) hb v0).setCell (p := ⟨b, 1, none⟩) hb v1).setCell (p := ⟨b, 2, none⟩) hb v2).setCell (p := ⟨b, 3, none⟩) hb v3).setCell (p := ⟨b, 4, none⟩) hb v4).setCell (p := ⟨b, 5, none⟩) hb v5
theorem size_six (w : World) (b : Nat) (v0 v1 v2 v3 v4 v5 : Value) : ((((((w.setCell ⟨b, 0, none⟩ v0).setCell ⟨b, 1, none⟩ v1).setCell ⟨b, 2, none⟩ v2).setCell ⟨b, 3, none⟩ v3).setCell ⟨b, 4, none⟩ v4).setCell ⟨b, 5, none⟩ v5).heap.size = w.heap.size := by simp only [World.size_setCell]
theorem blk_six_alloc (w : World) (b : Nat) (v0 v1 v2 v3 v4 v5 : Value) (cs : Array Value) (t : TypeId) : Blk (((((((w.setCell ⟨b, 0, none⟩ v0).setCell ⟨b, 1, none⟩ v1).setCell ⟨b, 2, none⟩ v2).setCell ⟨b, 3, none⟩ v3).setCell ⟨b, 4, none⟩ v4).setCell ⟨b, 5, none⟩ v5).alloc (.cells cs t)) w.heap.size cs t := by
  have := blk_alloc ((((((w.setCell ⟨b, 0, none⟩ v0).setCell ⟨b, 1, none⟩ v1).setCell ⟨b, 2, none⟩ v2).setCell ⟨b, 3, none⟩ v3).setCell ⟨b, 4, none⟩ v4).setCell ⟨b, 5, none⟩ v5) cs t
  rwa [size_six] at this
theorem blk_six_alloc2 (w : World) (b : Nat) (v0 v1 v2 v3 v4 v5 : Value) (O : Obj) (cs : Array Value) (t : TypeId) : Blk ((((((((w.setCell ⟨b, 0, none⟩ v0).setCell ⟨b, 1, none⟩ v1).setCell ⟨b, 2, none⟩ v2).setCell ⟨b, 3, none⟩ v3).setCell ⟨b, 4, none⟩ v4).setCell ⟨b, 5, none⟩ v5).alloc O).alloc (.cells cs t)) (w.heap.size + 1) cs t := by
  have := blk_alloc (((((((w.setCell ⟨b, 0, none⟩ v0).setCell ⟨b, 1, none⟩ v1).setCell ⟨b, 2, none⟩ v2).setCell ⟨b, 3, none⟩ v3).setCell ⟨b, 4, none⟩ v4).setCell ⟨b, 5, none⟩ v5).alloc O) cs t
  rwa [World.size_alloc, size_six] at this
theorem made_knows (m : Nat) (h : m ≤ 6) : madeCells #[.int .i64 0, .int .i64 0, .bool false] (m * 3) = (flatK (List.replicate m ⟨0, 0, false⟩)).toArray := by
  match m, h with
  | 0, _ => exact made_k0
  | 1, _ => exact made_k1
  | 2, _ => exact made_k2
  | 3, _ => exact made_k3
  | 4, _ => exact made_k4
  | 5, _ => exact made_k5
  | 6, _ => exact made_k6
  | n + 7, h => omega
end Go.Proofs.YtmlhipdfjnamiaaGreat
