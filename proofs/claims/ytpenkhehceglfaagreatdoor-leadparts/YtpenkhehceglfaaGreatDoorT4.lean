/- The contract of cmp.Or at error numbers: the first one that isn't 0. -/
import Derived.Test.YtpenkhehceglfaaGreatDoorW1
namespace Go.Proofs.YtpenkhehceglfaaGreatDoor
open Go.RowKit
def orr : List Int → Int
  | [] => 0
  | e :: r => if e = 0 then orr r else e
theorem drop_at (l : List Int) (k : Nat) (h : k < l.length) : l.drop k = l.getD k 0 :: l.drop (k + 1) := by
  rw [List.drop_eq_getElem_cons h, List.getD_eq_getElem?_getD, List.getElem?_eq_getElem h]; rfl
set_option maxHeartbeats 1000000 in
theorem or_any (b c : Nat) (l : List Int) (w : World) (hl : l.length ≤ 1000) (hP : ∀ j, j < l.length → w.cell? ⟨b, j, none⟩ = some (.int .i64 (l.getD j 0))) :
    Calls Tryz.prog 20 #[.slice (some ⟨b, 0, none⟩) l.length c] w fun e w' => e = .returned (.int .i64 (orr l)) ∧ Below w.heap.size w w' := by
  go_enter Tryz.func20, Tryz.ntmps20
  go_wp2
  go_loopg [8] l.length (fun g s8 wr => ∃ k : Nat, k ≤ l.length ∧ l.length - k ≤ g ∧ s8 = .int .i64 k ∧ orr (l.drop k) = orr l ∧ wr = w)
  case atStart => exact ⟨0, Nat.zero_le _, by omega, rfl, rfl, rfl⟩
  case round =>
    obtain ⟨k, hk, hg, rfl, hch, rfl⟩ := hrel
    have H : Hid (orr (l.drop k) = orr l) := hch
    clear hch
    by_cases hlt : k < l.length
    · have g1 := hP k hlt
      have HD : Hid (l.drop k = l.getD k 0 :: l.drop (k + 1)) := drop_at l k hlt
      generalize l.getD k 0 = x at g1 HD
      clear hP
      by_cases hx : x = 0
      · subst hx
        have HN : Hid (orr (l.drop (k + 1)) = orr l) := by
          have := H.out
          rw [HD.out, orr, if_pos rfl] at this
          exact this
        go_wp2
        go_roundg (l.length - (k + 1))
        case measure => omega
        case rel => exact ⟨k + 1, by omega, by omega, by go_num, HN.out, rfl⟩
      · have HN : Hid (orr l = x) := by rw [← H.out, HD.out, orr, if_neg hx]; rfl
        have hx' : (x != 0) = true := by simpa using hx
        clear hx
        go_wp2
        go_ret
        exact ⟨by rw [HN.out]; rfl, Below.refl _ _⟩
    · have hk' : k = l.length := by omega
      subst hk'
      have HN : Hid (orr l = 0) := by rw [← H.out, List.drop_length]; rfl
      clear hk hlt hP
      go_wp2
      go_ret
      exact ⟨by rw [HN.out]; rfl, Below.refl _ _⟩
theorem orr2 (x y : Int) : orr [x, y] = if x = 0 then y else x := by
  simp only [orr]
  by_cases h : y = 0
  · rw [if_pos h, h]
  · rw [if_neg h]
theorem cells2 (w : World) (x y : Int) (t : TypeId) : ∀ j, j < [x, y].length → (w.alloc (.cells #[.int .i64 x, .int .i64 y] t)).cell? ⟨w.heap.size, j, none⟩ = some (.int .i64 ([x, y].getD j 0)) := by
  intro j hj
  rcases j with _ | _ | j
  · simp [go_sem]
  · simp [go_sem]
  · simp at hj; omega
theorem cells2_at (w : World) (x y : Int) (t : TypeId) (b : Nat) (hb : b = w.heap.size) : ∀ j, j < [x, y].length → (w.alloc (.cells #[.int .i64 x, .int .i64 y] t)).cell? ⟨b, j, none⟩ = some (.int .i64 ([x, y].getD j 0)) := by
  subst hb; exact cells2 w x y t
theorem cells3 (w : World) (x y z : Int) (t : TypeId) : ∀ j, j < [x, y, z].length → (w.alloc (.cells #[.int .i64 x, .int .i64 y, .int .i64 z] t)).cell? ⟨w.heap.size, j, none⟩ = some (.int .i64 ([x, y, z].getD j 0)) := by
  intro j hj
  rcases j with _ | _ | _ | j
  · simp [go_sem]
  · simp [go_sem]
  · simp [go_sem]
  · simp at hj; omega
theorem cells3_at (w : World) (x y z : Int) (t : TypeId) (b : Nat) (hb : b = w.heap.size) : ∀ j, j < [x, y, z].length → (w.alloc (.cells #[.int .i64 x, .int .i64 y, .int .i64 z] t)).cell? ⟨b, j, none⟩ = some (.int .i64 ([x, y, z].getD j 0)) := by
  subst hb; exact cells3 w x y z t
end Go.Proofs.YtpenkhehceglfaaGreatDoor
