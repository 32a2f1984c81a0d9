/- The contract of wave.Check. -/
import Derived.Test.YtigblcefpiacmabC2
namespace Go.Proofs.Ytigblcefpiacmab
open Go.RowKit Go.Maps
/-- the world in which Check has laid its two variables and its map -/
def checkW0 (w : World) (n : Int) : World := ((w.alloc (.cells #[.int .i64 n] 3)).alloc (.map #[] 0)).alloc (.cells #[.map (some (w.heap.size + 1))] 73)
theorem check_see (w : World) (n : Int) (h1 : 1 ≤ n) (h6 : n ≤ 6) : See (checkW0 w n) n w.heap.size (w.heap.size + 1 + 1) (w.heap.size + 1) [] := by
  refine ⟨by simp [checkW0, go_sem], by simp [checkW0, go_sem], ?_, ⟨List.nodup_nil, (fun x hx => by cases hx)⟩, h1, h6⟩
  have h := World.ownsMap_made (H := Unit) (w.alloc (.cells #[.int .i64 n] 3)) Try.prog 3 unitElem
  have h2 := h.alloc (.cells #[.map (some (w.heap.size + 1))] 73)
  simp only [World.size_alloc] at h2
  exact h2
theorem check_below (w : World) (n : Int) : Below w.heap.size w (checkW0 w n) := (((Below.refl _ w).alloc (Nat.le_refl _) _).alloc (by simp) _).alloc (by simp; omega) _
set_option maxHeartbeats 8000000 in
theorem checkP_good (v : Value) (l : List (List Int)) (n : Int) (w : World) (hL : WavesAt w v l) (hn1 : 1 ≤ n) (hn2 : n ≤ 6) :
    Calls Try.prog 23 #[v, .int .i64 n] w fun e w' => e = .returned (.int .i64 (Wv.go n [] l)) ∧ Below w.heap.size w w' := by
  obtain ⟨hll, A, b, o, c, rfl, -, hA, hC⟩ := hL
  have HA : Hid (0 < l.length → A = some ⟨b, o, none⟩ ∧ b < w.heap.size) := hA
  have HC : Hid (∀ j, j < l.length → ∃ u, w.cell? ⟨b, o + j, none⟩ = some u ∧ IntsAt w u (l.getD j [])) := hC
  have HS0 : Hid (See (checkW0 w n) n w.heap.size (w.heap.size + 1 + 1) (w.heap.size + 1) []) := check_see w n hn1 hn2
  have HB0 : Hid (Below w.heap.size w (checkW0 w n)) := check_below w n
  have HD : Hid (((w.alloc (.cells #[.int .i64 n] 3)).alloc (.map #[] 0)).alloc (.cells #[.map (some (w.heap.size + 1))] 73) = checkW0 w n) := rfl
  have hmm := @run_makeMap Try.prog
  clear hA hC
  go_enter Try.func23, Try.ntmps23
  go_wp2
  rw [HD.out]
  have HS6 : Hid (n ≤ 6) := hn2
  go_loopg [17] l.length (fun g s17 wr => ∃ k : Nat, ∃ sn : List Int, k ≤ l.length ∧ l.length - k ≤ g ∧ s17 = .int .i64 k ∧ Hid (Wv.go n sn (l.drop k) = Wv.go n [] l) ∧ Hid (See wr n w.heap.size (w.heap.size + 1 + 1) (w.heap.size + 1) sn) ∧ Hid (Below w.heap.size w wr))
  case atStart => exact ⟨0, [], Nat.zero_le _, by omega, rfl, rfl, HS0, HB0⟩
  case round =>
    obtain ⟨k, sn, hk, hg, rfl, H, HS, HW⟩ := hrel
    by_cases hlt : k < l.length
    · obtain ⟨rfl, hbw⟩ := HA.out (by omega)
      obtain ⟨u, hu, hI⟩ := HC.out k hlt
      rw [← HW.out.cell (p := ⟨b, _, none⟩) hbw] at hu
      have hd := dropL l [] k hlt
      have hcl := checkOne_any u (l.getD k []) n w.heap.size (w.heap.size + 1 + 1) (w.heap.size + 1) sn wr (hI.below HW.out) HS.out
      have HG : Hid (Wv.go n [] l = if l.getD k [] = [] then 4 else (if (Wv.inW n sn (l.getD k [])).1 = 0 then Wv.go n (Wv.inW n sn (l.getD k [])).2 (l.drop (k + 1)) else (Wv.inW n sn (l.getD k [])).1)) := by
        rw [← H.out, hd, Wv.go]; rfl
      have HBG : Hid (∀ w1 : World, wr.grownBy w1 (some (w.heap.size + 1)) → Below w.heap.size w w1) := fun w1 hg1 => HW.out.grown hg1 HW.out.size (fun q hq => by cases hq; omega)
      generalize l.getD k [] = m at hcl HG
      generalize Wv.inW n sn m = q at hcl HG
      obtain ⟨r, s2⟩ := q
      simp only [] at hcl
      clear HA HC hI hd H
      by_cases hm : m = []
      · rw [if_pos hm] at hcl
        have HE : Hid (Wv.go n [] l = 4) := by rw [HG.out, if_pos hm]; rfl
        clear hm HG
        go_wp2_with fail
        refine hcl.mono ?_
        rintro e w1 ⟨rfl, -, hg1⟩
        have HB1 : Hid (Below w.heap.size w w1) := HBG.out w1 hg1
        clear hg1
        go_wp2
        go_ret
        exact ⟨by rw [HE.out]; rfl, HB1.out⟩
      · rw [if_neg hm] at hcl
        by_cases hr : r = 0
        · subst hr
          have HE : Hid (Wv.go n s2 (l.drop (k + 1)) = Wv.go n [] l) := by rw [HG.out, if_neg hm, if_pos rfl]; rfl
          clear hm HG
          go_wp2_with fail
          refine hcl.mono ?_
          rintro e w1 ⟨rfl, hs1, hg1⟩
          have HB1 : Hid (Below w.heap.size w w1) := HBG.out w1 hg1
          have HS1 : Hid (See w1 n w.heap.size (w.heap.size + 1 + 1) (w.heap.size + 1) s2) := hs1
          clear hg1 hs1
          go_wp2
          go_roundg (l.length - (k + 1))
          case measure => omega
          case rel => exact ⟨k + 1, s2, by omega, by omega, by go_num, HE, HS1, HB1⟩
        · have HE : Hid (Wv.go n [] l = r) := by rw [HG.out, if_neg hm, if_neg hr]; rfl
          have hr' : (r != 0) = true := by simpa using hr
          clear hm HG hr
          go_wp2_with fail
          refine hcl.mono ?_
          rintro e w1 ⟨rfl, -, hg1⟩
          have HB1 : Hid (Below w.heap.size w w1) := HBG.out w1 hg1
          clear hg1
          go_wp2
          go_ret
          exact ⟨by rw [HE.out]; rfl, HB1.out⟩
    · have hk' : k = l.length := by omega
      have HE : Hid (Wv.go n [] l = if (sn.length : Int) = n then 0 else 4) := by rw [← H.out, hk', List.drop_length]; rfl
      subst hk'
      have HO : Hid (wr.ownsMap Try.prog 3 unitElem (w.heap.size + 1) sn.length (setI sn)) := HS.out.own
      have hsz : size (setI sn) = sn.length := size_setI HS.out.stood.1
      have c1 := HS.out.num
      have c2 := HS.out.map
      have hle : (sn.length : Int) ≤ n := by
        have := Wv.nodup_le (m := n.toNat) HS.out.stood.1 (fun x hx => by have := HS.out.stood.2 x hx; omega)
        omega
      clear hk hlt H HA HC
      by_cases hq : (sn.length : Int) = n
      · have HE2 : Hid (Wv.go n [] l = 0) := by rw [HE.out, if_pos hq]; rfl
        have hq' : decide ((sn.length : Int) < n) = false := decide_eq_false (by omega)
        clear hq HE hle
        go_wp2_with (at_len; refine wpList_len_own _ rfl _ 73 rfl 3 74 Try.underlying73 _ (w.heap.size + 1) sn.length (setI sn) rfl HO.out ?_)
        go_ret
        exact ⟨by rw [HE2.out]; rfl, HW.out⟩
      · have HE2 : Hid (Wv.go n [] l = 4) := by rw [HE.out, if_neg hq]; rfl
        have hq' : decide ((sn.length : Int) < n) = true := decide_eq_true (by omega)
        clear hq HE hle
        go_wp2_with (at_len; refine wpList_len_own _ rfl _ 73 rfl 3 74 Try.underlying73 _ (w.heap.size + 1) sn.length (setI sn) rfl HO.out ?_)
        go_ret
        exact ⟨by rw [HE2.out]; rfl, HW.out⟩
theorem checkP_any (v : Value) (l : List (List Int)) (n : Int) (w : World) (hL : WavesAt w v l) :
    Calls Try.prog 23 #[v, .int .i64 n] w fun e w' => e = .returned (.int .i64 (Wv.chk l n)) ∧ Below w.heap.size w w' := by
  by_cases hn : 1 ≤ n ∧ n ≤ 6
  · rw [Wv.chk, if_pos hn]
    exact checkP_good v l n w hL hn.1 hn.2
  · rw [Wv.chk, if_neg hn]
    exact checkP_range v n w (by omega)
end Go.Proofs.Ytigblcefpiacmab
