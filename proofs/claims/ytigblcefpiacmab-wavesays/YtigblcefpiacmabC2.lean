/- The contracts of wave.checkOne and wave.Check. -/
import Derived.Test.YtigblcefpiacmabC1
namespace Go.Proofs.Ytigblcefpiacmab
open Go.RowKit Go.Maps
set_option maxHeartbeats 4000000 in
theorem checkOne_any (v : Value) (m : List Int) (n : Int) (gn gm bm : Nat) (seen : List Int) (w : World) (hL : IntsAt w v m) (h : See w n gn gm bm seen) :
    Calls Try.prog 48 #[v, .func (.func 47) #[] #[.pointer (some ⟨gn, 0, none⟩), .pointer (some ⟨gm, 0, none⟩)]] w fun e w' => e = .returned (.int .i64 (if m = [] then 4 else (Wv.inW n seen m).1)) ∧ See w' n gn gm bm (Wv.inW n seen m).2 ∧ w.grownBy w' (some bm) := by
  obtain ⟨hll, A, b, o, c, rfl, -, hA, hC⟩ := hL
  by_cases hm : m = []
  · subst hm
    rw [if_pos rfl]
    have HS : Hid (See w n gn gm bm (Wv.inW n seen []).2) := h
    clear hA hC h
    go_enter Try.func48, Try.ntmps48
    go_wp2
    go_ret
    exact ⟨rfl, HS.out, World.grownBy.refl _ _⟩
  · rw [if_neg hm]
    have hlen : 0 < m.length := List.length_pos_iff.2 hm
    have hz : ((m.length : Int) == 0) = false := by simp only [beq_eq_false_iff_ne]; omega
    obtain ⟨rfl, hb⟩ := hA hlen
    have HC : Hid (∀ wr : World, w.grownBy wr (some bm) → ∀ j, j < m.length → wr.cell? ⟨b, o + j, none⟩ = some (.int .i64 (m.getD j 0))) := fun wr hg j hj => hg.cell (hC j hj) (not_own h.own (hC j hj))
    have HS0 : Hid (See w n gn gm bm seen) := h
    clear hA hC h hm
    go_enter Try.func48, Try.ntmps48
    go_wp2
    go_loopg [13] m.length (fun g s13 wr => ∃ k : Nat, ∃ sn : List Int, k ≤ m.length ∧ m.length - k ≤ g ∧ s13 = .int .i64 k ∧ Hid (Wv.inW n sn (m.drop k) = Wv.inW n seen m) ∧ Hid (See wr n gn gm bm sn) ∧ Hid (w.grownBy wr (some bm)))
    case atStart => exact ⟨0, seen, Nat.zero_le _, by omega, rfl, rfl, HS0, World.grownBy.refl _ _⟩
    case round =>
      obtain ⟨k, sn, hk, hg, rfl, H, HS, HG⟩ := hrel
      by_cases hlt : k < m.length
      · have g1 := HC.out wr HG.out k hlt
        have hd := dropL m 0 k hlt
        generalize m.getD k 0 = x at g1 hd
        have hcl := see_any x n gn gm bm sn wr HS.out
        have HI : Hid (Wv.inW n seen m = if (Wv.inW n sn [x]).1 = 0 then Wv.inW n (Wv.inW n sn [x]).2 (m.drop (k + 1)) else Wv.inW n sn [x]) := by
          rw [← inW_one, ← hd, H.out]; rfl
        generalize Wv.inW n sn [x] = q at hcl HI
        obtain ⟨r, s2⟩ := q
        simp only [] at hcl
        by_cases hr : r = 0
        · subst hr
          have HI2 : Hid (Wv.inW n s2 (m.drop (k + 1)) = Wv.inW n seen m) := by rw [HI.out, if_pos rfl]; rfl
          clear HI H hd HC
          go_wp2_with fail
          refine hcl.mono ?_
          rintro e w1 ⟨rfl, hs1, hg1⟩
          have HS1 : Hid (See w1 n gn gm bm s2) := hs1
          have HG1 : Hid (w.grownBy w1 (some bm)) := HG.out.trans hg1
          clear hs1 hg1
          go_wp2
          go_roundg (m.length - (k + 1))
          case measure => omega
          case rel => exact ⟨k + 1, s2, by omega, by omega, by go_num, HI2, HS1, HG1⟩
        · have HI2 : Hid (Wv.inW n seen m = (r, s2)) := by rw [HI.out, if_neg hr]; rfl
          have hr' : (r != 0) = true := by simpa using hr
          clear HI H hd hr HC
          go_wp2_with fail
          refine hcl.mono ?_
          rintro e w1 ⟨rfl, hs1, hg1⟩
          have HS1 : Hid (See w1 n gn gm bm s2) := hs1
          have HG1 : Hid (w.grownBy w1 (some bm)) := HG.out.trans hg1
          clear hs1 hg1
          go_wp2
          go_ret
          exact ⟨by rw [HI2.out]; rfl, by rw [HI2.out]; exact HS1.out, HG1.out⟩
      · have hk' : k = m.length := by omega
        have HI2 : Hid (Wv.inW n seen m = (0, sn)) := by rw [← H.out, hk', List.drop_length]; rfl
        subst hk'
        clear hk hlt H HC
        go_wp2
        go_ret
        exact ⟨by rw [HI2.out]; rfl, by rw [HI2.out]; exact HS.out, HG.out⟩
theorem checkP_range (v : Value) (n : Int) (w : World) (hn : n < 1 ∨ (1 ≤ n ∧ 6 < n)) :
    Calls Try.prog 23 #[v, .int .i64 n] w fun e w' => e = .returned (.int .i64 3) ∧ Below w.heap.size w w' := by
  rcases hn with hn | ⟨hn1, hn2⟩
  all_goals
    try (have hd : decide (n ≤ 6) = false := decide_eq_false (by omega))
    go_enter Try.func23, Try.ntmps23
    go_wp2
    go_ret
    exact ⟨rfl, (Below.refl _ _).alloc (Nat.le_refl _) _⟩
end Go.Proofs.Ytigblcefpiacmab
