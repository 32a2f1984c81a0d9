/- The contracts of lead.isThrough, tooManyIll, waveNow, isTurn, isOver and hasAgent. -/
import Derived.Test.YtmlhipdfjnamiaaGreatLV3
namespace Go.Proofs.YtmlhipdfjnamiaaGreat
open Go.RowKit
set_option maxHeartbeats 2000000 in
theorem through_any (s t : Int) (bb : Bool) (w : World) :
    Calls Tryz.prog 85 #[.agg #[.int .i64 s, .int .i64 t, .bool bb]] w fun e w' => e = .returned (.bool (s == 2 || s == 3)) ∧ Below w.heap.size w w' := by
  have HB : Hid (∀ O, Below w.heap.size w (w.alloc O)) := fun O => (Below.refl _ w).alloc (Nat.le_refl _) O
  by_cases h2 : s = 2
  · subst h2
    go_enter Tryz.func85, Tryz.ntmps85
    go_wp2
    go_ret
    exact ⟨rfl, HB.out _⟩
  have h2' : (s == 2) = false := by simpa using h2
  clear h2
  go_enter Tryz.func85, Tryz.ntmps85
  go_wp2
  go_ret
  exact ⟨by rw [h2']; rfl, HB.out _⟩
set_option maxHeartbeats 2000000 in
theorem over1_any (s t : Int) (bb : Bool) (w : World) :
    Calls Tryz.prog 84 #[.agg #[.int .i64 s, .int .i64 t, .bool bb]] w fun e w' => e = .returned (.bool (!(s == 2 || s == 3))) ∧ Below w.heap.size w w' := by
  have HB : Hid (Below w.heap.size w (w.alloc (.cells #[.int .i64 s, .int .i64 t, .bool bb] 54))) := (Below.refl _ w).alloc (Nat.le_refl _) _
  have HC : Hid (∀ w', Calls Tryz.prog 85 #[.agg #[.int .i64 s, .int .i64 t, .bool bb]] w' fun e w'' => e = .returned (.bool (s == 2 || s == 3)) ∧ Below w'.heap.size w' w'') := fun w' => through_any s t bb w'
  generalize (s == 2 || s == 3) = z at HC ⊢
  go_enter Tryz.func84, Tryz.ntmps84
  go_wp2_with fail
  refine (HC.out _).mono ?_
  rintro e w1 ⟨rfl, hb1⟩
  have HB1 : Hid (Below w.heap.size w w1) := HB.out.trans (hb1.mono HB.out.size)
  clear hb1
  go_wp2
  go_ret
  exact ⟨rfl, HB1.out⟩
set_option maxHeartbeats 2000000 in
theorem over2_any (s t : Int) (bb : Bool) (w : World) :
    Calls Tryz.prog 86 #[.agg #[.int .i64 s, .int .i64 t, .bool bb]] w fun e w' => e = .returned (.bool (s == 1 || (s != 0 && !bb))) ∧ Below w.heap.size w w' := by
  have HB : Hid (∀ O, Below w.heap.size w (w.alloc O)) := fun O => (Below.refl _ w).alloc (Nat.le_refl _) O
  by_cases h1 : s = 1
  · subst h1
    go_enter Tryz.func86, Tryz.ntmps86
    go_wp2
    go_ret
    exact ⟨rfl, HB.out _⟩
  have h1' : (s == 1) = false := by simpa using h1
  by_cases h0 : s = 0
  · subst h0
    go_enter Tryz.func86, Tryz.ntmps86
    go_wp2
    go_ret
    exact ⟨rfl, HB.out _⟩
  have h0' : (s != 0) = true := by simpa using h0
  clear h0 h1
  go_enter Tryz.func86, Tryz.ntmps86
  go_wp2
  go_ret
  exact ⟨by rw [h1', h0']; rfl, HB.out _⟩
theorem count_step {l : List Ld.Known} {k : Nat} (h : k < l.length) (s : Int) (n : Nat) : n + ((l.drop k).filter fun a => a.st == s).length = (n + if ((l.getD k ⟨0, 0, false⟩).st == s) = true then 1 else 0) + ((l.drop (k + 1)).filter fun a => a.st == s).length := by
  rw [dropKn l k h, List.filter_cons]
  split <;> simp <;> omega
set_option maxHeartbeats 4000000 in
theorem ill_any (f d nw g nx : Int) (bk : Bool) (a1 a2 a3 a4 : Option Addr) (n1 c1 n2 c2 n3 c3 n4 c4 : Nat) (ks : List Ld.Known) (Z : Value) (w : World) (hL : KnowsAt w Z ks) :
    Calls Tryz.prog 83 #[.agg #[.int .i64 f, .slice a1 n1 c1, .slice a2 n2 c2, .slice a3 n3 c3, .int .i64 d], .agg #[.slice a4 n4 c4, .int .i64 nw, .int .i64 g, .bool bk, Z, .int .i64 nx]] w fun e w' => e = .returned (.bool (decide (d < ((ks.filter fun a => a.st == 3).length : Int)))) ∧ Below w.heap.size w w' := by
  obtain ⟨a5, c5, rfl⟩ := knows_slice hL
  have HL : Hid (KnowsAt w (.slice a5 ks.length c5) ks) := hL
  have hlen := hL.1
  clear hL
  obtain ⟨hB0, hK0, hK1⟩ := box2 w #[.int .i64 f, .slice a1 n1 c1, .slice a2 n2 c2, .slice a3 n3 c3, .int .i64 d] #[.slice a4 n4 c4, .int .i64 nw, .int .i64 g, .bool bk, .slice a5 ks.length c5, .int .i64 nx] 28 32
  have k4 := hK1.cell 4
  simp only [List.getElem?_toArray, List.getElem?_cons_zero, List.getElem?_cons_succ] at k4
  have HB0 : Hid (Below w.heap.size w _) := hB0
  have HK0 : Hid (Blk _ w.heap.size _ _) := hK0
  clear hB0 hK0 hK1
  go_enter Tryz.func83, Tryz.ntmps83
  go_wp2
  go_loopg [5, 11] ks.length (fun g' s5 s11 wr => ∃ k n : Nat, k ≤ ks.length ∧ ks.length - k ≤ g' ∧ n ≤ k ∧ s5 = .int .i64 n ∧ s11 = .int .i64 k ∧ Hid (n + ((ks.drop k).filter fun a => a.st == 3).length = (ks.filter fun a => a.st == 3).length) ∧ Hid (Blk wr w.heap.size #[.int .i64 f, .slice a1 n1 c1, .slice a2 n2 c2, .slice a3 n3 c3, .int .i64 d] 28) ∧ Hid (Below w.heap.size w wr))
  case atStart => exact ⟨0, 0, Nat.zero_le _, by omega, by omega, rfl, rfl, (by show _ = _; simp), HK0, HB0⟩
  case round =>
    obtain ⟨k, n, hk, hg, hn, rfl, rfl, H, HK, HB⟩ := hrel
    clear k4 HB0 HK0
    by_cases hlt : k < ks.length
    · obtain ⟨b, o, rfl, hbw, g1, g2, g3⟩ := knows_at (HL.out.below HB.out) hlt
      have hc := count_step hlt 3 n
      rw [H.out] at hc
      have HH : Hid ((n + if ((ks.getD k ⟨0, 0, false⟩).st == 3) = true then 1 else 0) + ((ks.drop (k + 1)).filter fun a => a.st == 3).length = (ks.filter fun a => a.st == 3).length) := hc.symm
      clear hc H
      generalize ks.getD k ⟨0, 0, false⟩ = p at g1 g2 g3 HH
      obtain ⟨s, t, bb⟩ := p
      simp only at g1 g2 g3
      have HB1 : Hid (∀ O, Below w.heap.size w (wr.alloc O)) := fun O => HB.out.alloc HB.out.size O
      have HK1 : Hid (∀ O, Blk (wr.alloc O) w.heap.size #[.int .i64 f, .slice a1 n1 c1, .slice a2 n2 c2, .slice a3 n3 c3, .int .i64 d] 28) := fun O => HK.out.below ((Below.refl _ wr).alloc (Nat.le_refl _) O)
      clear HB HK
      by_cases h3 : s = 3
      · subst h3
        have HN : Hid ((n + 1) + ((ks.drop (k + 1)).filter fun a => a.st == 3).length = (ks.filter fun a => a.st == 3).length) := HH.out
        clear HH
        go_wp2
        go_roundg (ks.length - (k + 1))
        case measure => omega
        case rel => exact ⟨k + 1, n + 1, by omega, by omega, by omega, by go_num, by go_num, HN, HK1.out _, HB1.out _⟩
      · have h3' : (s == 3) = false := by simpa using h3
        have HN : Hid (n + ((ks.drop (k + 1)).filter fun a => a.st == 3).length = (ks.filter fun a => a.st == 3).length) := by
          have := HH.out
          rw [if_neg (by simpa using h3)] at this
          exact this
        clear HH h3
        go_wp2
        go_roundg (ks.length - (k + 1))
        case measure => omega
        case rel => exact ⟨k + 1, n, by omega, by omega, by omega, rfl, by go_num, HN, HK1.out _, HB1.out _⟩
    · have hk' : k = ks.length := by omega
      have HN : Hid ((ks.filter fun a => a.st == 3).length = n) := by
        have := H.out
        rw [hk', List.drop_length] at this
        exact this.symm
      subst hk'
      have kd := HK.out.cell 4
      simp only [List.getElem?_toArray, List.getElem?_cons_zero, List.getElem?_cons_succ] at kd
      clear hk hlt H HK
      go_wp2
      go_ret
      exact ⟨by rw [HN.out]; rfl, HB.out⟩
end Go.Proofs.YtmlhipdfjnamiaaGreat
