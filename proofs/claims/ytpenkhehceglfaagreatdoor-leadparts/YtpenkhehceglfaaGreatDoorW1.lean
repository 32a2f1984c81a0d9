/- Contracts of lock.Check, the document's CheckLock, lock.Find, the document's At: each comes to the plain function of YtpenkhehceglfaaGreatDoorSpec, at every slice of pins. -/
import Derived.Test.YtpenkhehceglfaaGreatDoorProg
import Derived.Test.YtpenkhehceglfaaGreatDoorMA
import Derived.WalkKit
import Derived.Deep.LoopGhost
import Derived.WalkLawsBesides
import Derived.WalkSpells
import Derived.Outline
namespace Go.Proofs.YtpenkhehceglfaaGreatDoor
open Go.RowKit
/-- the cells of a slice of pins, not empty -/
def PinCells (w : World) (b o : Nat) (l : List (Int × Int)) : Prop :=
  b < w.heap.size ∧ ∀ j, j < l.length → w.cell? ⟨b, o + j * 2, none⟩ = some (.int .i64 (l.getD j (0, 0)).1) ∧ w.cell? ⟨b, o + j * 2 + 1, none⟩ = some (.int .i64 (l.getD j (0, 0)).2)
theorem PinCells.below {w w' : World} {b o : Nat} {l : List (Int × Int)} (h : PinCells w b o l) (hb : Below w.heap.size w w') : PinCells w' b o l :=
  ⟨Nat.lt_of_lt_of_le h.1 hb.size, fun j hj => ⟨(hb.cell (p := ⟨b, o + j * 2, none⟩) h.1).trans (h.2 j hj).1, (hb.cell (p := ⟨b, o + j * 2 + 1, none⟩) h.1).trans (h.2 j hj).2⟩⟩
/-- a slice of pins, the empty and the nil one too -/
def PinsAt (w : World) (v : Value) (l : List (Int × Int)) : Prop :=
  l.length ≤ 70368744177664 ∧ ∃ c, (l = [] ∧ ∃ a, v = .slice a 0 c) ∨ (∃ b o, v = .slice (some ⟨b, o, none⟩) l.length c ∧ PinCells w b o l)
theorem PinsAt.below {w w' : World} {v : Value} {l : List (Int × Int)} (h : PinsAt w v l) (hb : Below w.heap.size w w') : PinsAt w' v l := by
  obtain ⟨hl, c, h | ⟨b, o, h1, h2⟩⟩ := h
  · exact ⟨hl, c, .inl h⟩
  · exact ⟨hl, c, .inr ⟨b, o, h1, h2.below hb⟩⟩
theorem drop_getD (l : List (Int × Int)) (k : Nat) (p : Int × Int) (h : k < l.length) (hp : l.getD k (0, 0) = p) : l.drop k = p :: l.drop (k + 1) := by
  rw [List.drop_eq_getElem_cons h, ← hp, List.getD_eq_getElem?_getD, List.getElem?_eq_getElem h]
  rfl
theorem chk_of (l : List (Int × Int)) (hl : l.length ≤ 12) : Lk.chk l = Lk.chkFrom 0 l := by
  unfold Lk.chk; rw [if_neg (by omega)]
theorem chk_bad {l : List (Int × Int)} {k : Nat} {x y last : Int} (hl : l.length ≤ 12) (HD : Hid (l.drop k = (x, y) :: l.drop (k + 1))) (H : Hid (Lk.chkFrom last (l.drop k) = Lk.chkFrom 0 l))
    (hbad : ¬ ((1 ≤ x ∧ x ≤ 20) ∧ (1 ≤ y ∧ y ≤ 99))) : Lk.chk l = 3 := by
  rw [chk_of l hl, ← H.out, HD.out, Lk.chkFrom, if_neg]
  intro h; apply hbad; simpa [Lk.okPin, and_assoc] using h
theorem chk_six {l : List (Int × Int)} {k : Nat} {x y last : Int} (hl : l.length ≤ 12) (HD : Hid (l.drop k = (x, y) :: l.drop (k + 1))) (H : Hid (Lk.chkFrom last (l.drop k) = Lk.chkFrom 0 l))
    (hok : (1 ≤ x ∧ x ≤ 20) ∧ (1 ≤ y ∧ y ≤ 99)) (h6 : x ≤ last) : Lk.chk l = 6 := by
  rw [chk_of l hl, ← H.out, HD.out, Lk.chkFrom, if_pos (by simpa [Lk.okPin, and_assoc] using hok), if_pos h6]
theorem chk_next {l : List (Int × Int)} {k : Nat} {x y last : Int} (HD : Hid (l.drop k = (x, y) :: l.drop (k + 1))) (H : Hid (Lk.chkFrom last (l.drop k) = Lk.chkFrom 0 l))
    (hok : (1 ≤ x ∧ x ≤ 20) ∧ (1 ≤ y ∧ y ≤ 99)) (h6 : last < x) : Lk.chkFrom x (l.drop (k + 1)) = Lk.chkFrom 0 l := by
  rw [← H.out, HD.out, Lk.chkFrom, if_pos (by simpa [Lk.okPin, and_assoc] using hok), if_neg (by omega)]
theorem chk_end {l : List (Int × Int)} {k : Nat} {last : Int} (hl : l.length ≤ 12) (hk : ¬ k < l.length) (H : Hid (Lk.chkFrom last (l.drop k) = Lk.chkFrom 0 l)) : Lk.chk l = 0 := by
  rw [chk_of l hl, ← H.out, List.drop_of_length_le (by omega)]; rfl

set_option maxHeartbeats 400000 in
theorem check_many (a : Option Addr) (n c : Nat) (w : World) (hl : 12 < n) :
    Calls Tryz.prog 77 #[.slice a n c] w fun e w' => e = .returned (.int .i64 2) ∧ Below w.heap.size w w' := by
  go_enter Tryz.func77, Tryz.ntmps77
  go_wp2
  go_ret
  exact ⟨rfl, Below.refl _ _⟩
set_option maxHeartbeats 400000 in
theorem check_none (a : Option Addr) (c : Nat) (w : World) :
    Calls Tryz.prog 77 #[.slice a 0 c] w fun e w' => e = .returned (.int .i64 0) ∧ Below w.heap.size w w' := by
  go_enter Tryz.func77, Tryz.ntmps77
  go_wp2
  go_loopg [2, 3, 11] 0 (fun g s2 s3 s11 wr => s11 = .int .i64 0 ∧ wr = w)
  case atStart => exact ⟨rfl, rfl⟩
  case round =>
    obtain ⟨rfl, rfl⟩ := hrel
    go_wp2
    go_ret
    exact ⟨rfl, Below.refl _ _⟩
set_option maxHeartbeats 1000000 in
theorem check_full (b o c : Nat) (l : List (Int × Int)) (w : World) (hl : l.length ≤ 12)
    (hP : PinCells w b o l) :
    Calls Tryz.prog 77 #[.slice (some ⟨b, o, none⟩) l.length c] w fun e w' => e = .returned (.int .i64 (Lk.chk l)) ∧ Below w.heap.size w w' := by
  go_enter Tryz.func77, Tryz.ntmps77
  go_wp2
  go_loopg [2, 3, 11] l.length (fun g s2 s3 s11 wr => ∃ k : Nat, ∃ last : Int, k ≤ l.length ∧ l.length - k ≤ g ∧ s2 = .int .i64 0 ∧ s3 = .int .i64 last ∧ s11 = .int .i64 k ∧ Lk.chkFrom last (l.drop k) = Lk.chkFrom 0 l ∧ Below w.heap.size w wr)
  case atStart => exact ⟨0, 0, Nat.zero_le _, by omega, rfl, rfl, rfl, rfl, Below.refl _ _⟩
  case round =>
    obtain ⟨k, last, hk, hg, rfl, rfl, rfl, hch, hb⟩ := hrel
    have H : Hid (Lk.chkFrom last (l.drop k) = Lk.chkFrom 0 l) := hch
    clear hch
    by_cases hlt : k < l.length
    · obtain ⟨g1, g2⟩ := (hP.below hb).2 k hlt
      have HD : Hid (l.drop k = l.getD k (0, 0) :: l.drop (k + 1)) := drop_getD l k _ hlt rfl
      generalize l.getD k (0,0) = p at g1 g2 HD
      obtain ⟨x, y⟩ := p
      simp only at g1 g2
      clear hP
      by_cases hok : (1 ≤ x ∧ x ≤ 20) ∧ (1 ≤ y ∧ y ≤ 99)
      · obtain ⟨⟨hx1, hx2⟩, hy1, hy2⟩ := hok
        by_cases h6 : x ≤ last
        · go_wp2
          go_ret
          exact ⟨by rw [chk_six hl HD H ⟨⟨hx1, hx2⟩, hy1, hy2⟩ h6]; rfl, hb.alloc hb.size _⟩
        · have h6' : last < x := by omega
          clear h6
          go_wp2
          go_roundg (l.length - (k + 1))
          case measure => omega
          case rel => exact ⟨k + 1, x, by omega, by omega, rfl, rfl, by go_num, chk_next HD H ⟨⟨hx1, hx2⟩, hy1, hy2⟩ h6', hb.alloc hb.size _⟩
      · have hcs : x < 1 ∨ (1 ≤ x ∧ 20 < x) ∨ (1 ≤ x ∧ x ≤ 20 ∧ y < 1) ∨ (1 ≤ x ∧ x ≤ 20 ∧ 1 ≤ y ∧ 99 < y) := by omega
        have HB : Hid (¬ ((1 ≤ x ∧ x ≤ 20) ∧ (1 ≤ y ∧ y ≤ 99))) := hok
        clear hok
        rcases hcs with hcs | ⟨hcs, hcs2⟩ | ⟨hcs, hcs2, hcs3⟩ | ⟨hcs, hcs2, hcs3, hcs4⟩
        all_goals
          try (have hd99 : decide (y ≤ 99) = false := decide_eq_false (by omega))
          go_wp2
          go_ret
          exact ⟨by rw [chk_bad hl HD H HB.out]; rfl, hb.alloc hb.size _⟩
    · have hk' : k = l.length := by omega
      have HE : Hid (Lk.chk l = 0) := chk_end hl hlt H
      subst hk'
      clear hk hlt
      go_wp2
      go_ret
      exact ⟨by rw [HE.out]; rfl, hb⟩
theorem check_any (v : Value) (l : List (Int × Int)) (w : World) (hP : PinsAt w v l) :
    Calls Tryz.prog 77 #[v] w fun e w' => e = .returned (.int .i64 (Lk.chk l)) ∧ Below w.heap.size w w' := by
  obtain ⟨hl, c, ⟨rfl, a, rfl⟩ | ⟨b, o, rfl, hc⟩⟩ := hP
  · exact check_none a c w
  · by_cases h : l.length ≤ 12
    · exact check_full b o c l w h hc
    · rw [show Lk.chk l = 2 from by unfold Lk.chk; rw [if_pos (by omega)]]
      exact check_many _ _ c w (by omega)

end Go.Proofs.YtpenkhehceglfaaGreatDoor
