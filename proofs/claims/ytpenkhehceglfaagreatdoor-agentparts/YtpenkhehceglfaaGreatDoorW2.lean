/- The contract of lock.Find (through slices.IndexFunc and its closure). -/
import Derived.Test.YtpenkhehceglfaaGreatDoorW1
namespace Go.Proofs.YtpenkhehceglfaaGreatDoor
open Go.RowKit
theorem find_hit {l : List (Int × Int)} {k : Nat} {x y name : Int} (HD : Hid (l.drop k = (x, y) :: l.drop (k + 1))) (H : Hid (Lk.find name (l.drop k) = Lk.find name l)) (h : x = name) : Lk.find name l = y := by
  rw [← H.out, HD.out, Lk.find, if_pos h]
theorem find_next {l : List (Int × Int)} {k : Nat} {x y name : Int} (HD : Hid (l.drop k = (x, y) :: l.drop (k + 1))) (H : Hid (Lk.find name (l.drop k) = Lk.find name l)) (h : ¬ x = name) : Lk.find name (l.drop (k + 1)) = Lk.find name l := by
  rw [← H.out, HD.out, Lk.find, if_neg h]
theorem find_end {l : List (Int × Int)} {k : Nat} {name : Int} (hk : ¬ k < l.length) (H : Hid (Lk.find name (l.drop k) = Lk.find name l)) : Lk.find name l = 0 := by
  rw [← H.out, List.drop_of_length_le (by omega)]; rfl
/-- the closure of lock.Find -/
theorem close_any (x y name : Int) (g : Nat) (w : World) (hs : g < w.heap.size) (hg : w.cell? ⟨g, 0, none⟩ = some (.int .i64 name)) :
    Calls Tryz.prog 101 #[.agg #[.int .i64 x, .int .i64 y], .pointer (some ⟨g, 0, none⟩)] w fun e w' => e = .returned (.bool (x == name)) ∧ Below w.heap.size w w' := by
  have hg' : ∀ o, (w.alloc o).cell? ⟨g, 0, none⟩ = some (.int .i64 name) := fun o => (((Below.refl _ w).alloc (Nat.le_refl _) o).cell (p := ⟨g, 0, none⟩) hs).trans hg
  go_enter Tryz.func101, Tryz.ntmps101
  go_wp2
  go_ret
  exact ⟨rfl, (Below.refl _ w).alloc (Nat.le_refl _) _⟩
def idx (name : Int) : List (Int × Int) → Int → Int
  | [], _ => -1
  | p :: r, k => if p.1 = name then k else idx name r (k + 1)
theorem idx_hit {l : List (Int × Int)} {k : Nat} {x y name : Int} (HD : Hid (l.drop k = (x, y) :: l.drop (k + 1))) (H : Hid (idx name (l.drop k) k = idx name l 0)) (h : x = name) : idx name l 0 = k := by
  rw [← H.out, HD.out, idx, if_pos h]
theorem idx_next {l : List (Int × Int)} {k : Nat} {x y name : Int} (HD : Hid (l.drop k = (x, y) :: l.drop (k + 1))) (H : Hid (idx name (l.drop k) k = idx name l 0)) (h : ¬ x = name) : idx name (l.drop (k + 1)) ((k + 1 : Nat) : Int) = idx name l 0 := by
  rw [← H.out, HD.out, idx, if_neg h]; simp
theorem idx_end {l : List (Int × Int)} {k : Nat} {name : Int} (hk : ¬ k < l.length) (H : Hid (idx name (l.drop k) k = idx name l 0)) : idx name l 0 = -1 := by
  rw [← H.out, List.drop_of_length_le (by omega)]; rfl
theorem idx_find (name : Int) (l : List (Int × Int)) (s : Nat) : (idx name l s = -1 ∧ Lk.find name l = 0) ∨ ∃ j : Nat, j < l.length ∧ idx name l s = ((s + j : Nat) : Int) ∧ Lk.find name l = (l.getD j (0, 0)).2 := by
  induction l generalizing s with
  | nil => exact .inl ⟨rfl, rfl⟩
  | cons p r ih =>
    by_cases h : p.1 = name
    · exact .inr ⟨0, by simp, by rw [idx, if_pos h]; simp, by rw [Lk.find, if_pos h]; rfl⟩
    · rw [idx, if_neg h, Lk.find, if_neg h]
      rcases ih (s + 1) with ⟨h1, h2⟩ | ⟨j, h1, h2, h3⟩
      · exact .inl ⟨by simpa using h1, h2⟩
      · exact .inr ⟨j + 1, by simp; omega, by rw [show ((s : Int) + 1) = ((s + 1 : Nat) : Int) from by simp, h2]; congr 1; omega, by rw [h3]; simp⟩
set_option maxHeartbeats 400000 in
theorem indexFunc_none (a : Option Addr) (c : Nat) (fv : Value) (w : World) :
    Calls Tryz.prog 100 #[.slice a 0 c, fv] w fun e w' => e = .returned (.int .i64 (-1)) ∧ Below w.heap.size w w' := by
  go_enter Tryz.func100, Tryz.ntmps100
  go_wp2
  go_loopg [8] 0 (fun g s9 wr => s9 = .int .i64 0 ∧ wr = w)
  case atStart => exact ⟨rfl, rfl⟩
  case round =>
    obtain ⟨rfl, rfl⟩ := hrel
    go_wp2
    go_ret
    exact ⟨rfl, Below.refl _ _⟩
set_option maxHeartbeats 1000000 in
theorem indexFunc_full (b o c gb : Nat) (l : List (Int × Int)) (name : Int) (w : World) (hl : l.length ≤ 70368744177664)
    (hP : PinCells w b o l) (hs : gb < w.heap.size) (hgb : w.cell? ⟨gb, 0, none⟩ = some (.int .i64 name)) :
    Calls Tryz.prog 100 #[.slice (some ⟨b, o, none⟩) l.length c, .func (.func 101) #[] #[.pointer (some ⟨gb, 0, none⟩)]] w fun e w' => e = .returned (.int .i64 (idx name l 0)) ∧ Below w.heap.size w w' := by
  go_enter Tryz.func100, Tryz.ntmps100
  go_wp2
  go_loopg [8] l.length (fun g s11 wr => ∃ k : Nat, k ≤ l.length ∧ l.length - k ≤ g ∧ s11 = .int .i64 k ∧ idx name (l.drop k) k = idx name l 0 ∧ Below w.heap.size w wr)
  case atStart => exact ⟨0, Nat.zero_le _, by omega, rfl, rfl, Below.refl _ _⟩
  case round =>
    obtain ⟨k, hk, hg, rfl, hch, hb⟩ := hrel
    have H : Hid (idx name (l.drop k) k = idx name l 0) := hch
    clear hch
    by_cases hlt : k < l.length
    · obtain ⟨g1, g2⟩ := (hP.below hb).2 k hlt
      have HD : Hid (l.drop k = l.getD k (0, 0) :: l.drop (k + 1)) := drop_getD l k _ hlt rfl
      generalize l.getD k (0,0) = p at g1 g2 HD
      obtain ⟨x, y⟩ := p
      simp only at g1 g2
      clear hP
      have hcall := close_any x y name gb wr (Nat.lt_of_lt_of_le hs hb.size) ((hb.cell (p := ⟨gb, 0, none⟩) hs).trans hgb)
      have HC : Hid (Calls Tryz.prog 101 #[.agg #[.int .i64 x, .int .i64 y], .pointer (some ⟨gb, 0, none⟩)] wr fun e w' => e = .returned (.bool (x == name)) ∧ Below wr.heap.size wr w') := hcall
      clear hcall hgb
      by_cases hx : x = name
      · have HF : Hid (idx name l 0 = k) := idx_hit HD H hx
        have hx' : (x == name) = true := by simp [hx]
        clear hx
        go_wp2_with (go_at_call 101; refine HC.out.mono ?_; rintro e w' ⟨rfl, hb'⟩)
        go_ret
        exact ⟨by rw [HF.out]; rfl, hb.trans (hb'.mono hb.size)⟩
      · have HF : Hid (idx name (l.drop (k + 1)) ((k + 1 : Nat) : Int) = idx name l 0) := idx_next HD H hx
        have hx' : (x == name) = false := by simp [hx]
        clear hx
        go_wp2_with (go_at_call 101; refine HC.out.mono ?_; rintro e w' ⟨rfl, hb'⟩)
        go_roundg (l.length - (k + 1))
        case measure => omega
        case rel => exact ⟨k + 1, by omega, by omega, by go_num, HF.out, hb.trans (hb'.mono hb.size)⟩
    · have HE : Hid (idx name l 0 = -1) := idx_end hlt H
      have hk' : k = l.length := by omega
      subst hk'
      clear hk hlt
      go_wp2
      go_ret
      exact ⟨by rw [HE.out]; rfl, hb⟩
set_option maxHeartbeats 1000000 in
theorem find_none (a : Option Addr) (c : Nat) (name : Int) (w : World) :
    Calls Tryz.prog 80 #[.slice a 0 c, .int .i64 name] w fun e w' => e = .returned (.int .i64 0) ∧ Below w.heap.size w w' := by
  go_enter Tryz.func80, Tryz.ntmps80
  go_wp2_with fail
  refine (indexFunc_none _ _ _ _).mono ?_
  rintro e w' ⟨rfl, hb'⟩
  go_wp2
  go_ret
  exact ⟨rfl, ((Below.refl _ w).alloc (Nat.le_refl _) _).trans (hb'.mono (by simp))⟩
set_option maxHeartbeats 1000000 in
theorem find_full (b o c : Nat) (l : List (Int × Int)) (name : Int) (w : World) (hl : l.length ≤ 70368744177664)
    (hP : PinCells w b o l) :
    Calls Tryz.prog 80 #[.slice (some ⟨b, o, none⟩) l.length c, .int .i64 name] w fun e w' => e = .returned (.int .i64 (Lk.find name l)) ∧ Below w.heap.size w w' := by
  have hP1 := hP.below ((Below.refl _ w).alloc (Nat.le_refl _) (.cells #[.int .i64 name] 3))
  have hif := indexFunc_full b o c w.heap.size l name (w.alloc (.cells #[.int .i64 name] 3)) hl hP1 (by simp) (by simp [go_sem])
  have HI : Hid (Calls Tryz.prog 100 #[.slice (some ⟨b, o, none⟩) l.length c, .func (.func 101) #[] #[.pointer (some ⟨w.heap.size, 0, none⟩)]] (w.alloc (.cells #[.int .i64 name] 3)) fun e w' => e = .returned (.int .i64 (idx name l 0)) ∧ Below (w.alloc (.cells #[.int .i64 name] 3)).heap.size (w.alloc (.cells #[.int .i64 name] 3)) w') := hif
  clear hif
  rcases idx_find name l 0 with ⟨h1, h2⟩ | ⟨j, h1, h2, h3⟩
  · have HF : Hid (Lk.find name l = 0) := h2
    have HX : Hid (idx name l 0 = -1) := h1
    clear h1 h2 hP hP1
    go_enter Tryz.func80, Tryz.ntmps80
    go_wp2_with fail
    refine HI.out.mono ?_
    rintro e w' ⟨rfl, hb'⟩
    rw [HX.out]
    go_wp2
    go_ret
    exact ⟨by rw [HF.out]; rfl, ((Below.refl _ w).alloc (Nat.le_refl _) _).trans (hb'.mono (by simp))⟩
  · have HF : Hid (Lk.find name l = (l.getD j (0, 0)).2) := h3
    have HX : Hid (idx name l 0 = ((0 + j : Nat) : Int)) := h2
    clear h2 h3
    go_enter Tryz.func80, Tryz.ntmps80
    go_wp2_with fail
    refine HI.out.mono ?_
    rintro e w' ⟨rfl, hb'⟩
    rw [HX.out, Nat.zero_add]
    obtain ⟨g1, g2⟩ := (hP1.below hb').2 j h1
    clear hP hP1
    generalize (l.getD j (0, 0)).2 = y at g2 HF
    go_wp2
    go_ret
    exact ⟨by rw [HF.out]; rfl, ((Below.refl _ w).alloc (Nat.le_refl _) _).trans (hb'.mono (by simp))⟩
theorem find_any (v : Value) (l : List (Int × Int)) (name : Int) (w : World) (hP : PinsAt w v l) :
    Calls Tryz.prog 80 #[v, .int .i64 name] w fun e w' => e = .returned (.int .i64 (Lk.find name l)) ∧ Below w.heap.size w w' := by
  obtain ⟨hl, c, ⟨rfl, a, rfl⟩ | ⟨b, o, rfl, hc⟩⟩ := hP
  · exact find_none a c name w
  · exact find_full b o c l name w hl hc
end Go.Proofs.YtpenkhehceglfaaGreatDoor
