import Derived.Test.YtpenkhehceglfaaGreatDoorMV
import Derived.Maps.OwnSet
import Derived.Maps.AppendAt
import Derived.Laws.EntriesVeiled
/- The contracts of wave.Check: its closure over a map of the call's own, checkOne, Check. -/
namespace Go.Proofs.YtpenkhehceglfaaGreatDoor
open Go.RowKit Go.Maps
/-- the set of these numbers -/
def setI (l : List Int) : DataW Unit := setOf (.agg []) (l.map (Lit.int .i64))
theorem keyLitI (a : Int) : WideAt.IsKeyLit (Lit.int .i64 a) := by simp [WideAt.IsKeyLit]
theorem keysI (l : List Int) : ∀ x ∈ l.map (Lit.int .i64), WideAt.IsKeyLit x := fun x hx => by
  obtain ⟨a, -, rfl⟩ := List.mem_map.1 hx
  exact keyLitI a
theorem has_setI (l : List Int) (a : Int) : has (setI l) (.int .i64 a) = decide (a ∈ l) := by
  rw [setI, has_setOf _ _ _ (keysI l), List.any_map]
  by_cases h : a ∈ l
  · rw [decide_eq_true h]
    exact List.any_eq_true.2 ⟨a, h, WideAt.sameKey_self (keyLitI a)⟩
  · rw [decide_eq_false h, List.any_eq_false]
    intro x hx e
    have e' := WideAt.sameKey_eq (a := Lit.int .i64 x) (b := Lit.int .i64 a) e
    injection e' with _ e'
    exact h (e' ▸ hx)
theorem setI_snoc (l : List Int) (a : Int) : setI (l ++ [a]) = (setI l).put (.int .i64 a) (.agg []) := by
  rw [setI, List.map_append, List.map_cons, List.map_nil, setOf_snoc]; rfl
theorem size_setI_from (r : List Int) : ∀ l : List Int, size (setI l) = l.length → (l ++ r).Nodup → size (setI (l ++ r)) = (l ++ r).length := by
  induction r with
  | nil => intro l h _; rw [List.append_nil]; exact h
  | cons a r ih =>
    intro l h hd
    have e : l ++ a :: r = (l ++ [a]) ++ r := by simp
    rw [e] at hd ⊢
    refine ih _ ?_ hd
    have hna : a ∉ l := fun hm => by
      rw [List.append_assoc, List.nodup_append] at hd
      exact hd.2.2 a hm a (by simp) rfl
    rw [setI_snoc, size_put (show Tidy (setI l) from tidy_setOf _ _ (keysI l)), has_setI, decide_eq_false hna, List.length_append, h]
    rfl
theorem size_setI {l : List Int} (h : l.Nodup) : size (setI l) = l.length := size_setI_from l [] rfl h
theorem keyedW : Keyed Tryz.prog 3 := int_keyed Tryz.underlying3
theorem zeroU (w : World) : (zeroValue 182).run Tryz.prog w = .ok (.agg #[]) w := by kernel_rfl
theorem not_own {w : World} {bm n : Nat} {R : Value → Option (DataW Unit × List MemPlace)} {D : DataW Unit} (h : w.ownsMap Tryz.prog 3 R bm n D) {b o : Nat} {v : Value} (hc : w.cell? ⟨b, o, none⟩ = some v) : some b ≠ some bm := by
  obtain ⟨es, clock, h1, _⟩ := h
  intro e
  have e' : b = bm := Option.some.inj e
  subst e'
  rw [World.cell?, h1] at hc
  cases hc
theorem lt_cell {w : World} {b o : Nat} {v : Value} (h : w.cell? ⟨b, o, none⟩ = some v) : b < w.heap.size := by
  rcases Nat.lt_or_ge b w.heap.size with h1 | h1
  · exact h1
  · rw [World.cell?, Array.getElem?_eq_none h1] at h
    cases h
/-- where the closure's two variables lie, and what they hold: how many agents there are, and who stood by then -/
structure See (w : World) (n : Int) (gn gm bm : Nat) (seen : List Int) : Prop where
  num : w.cell? ⟨gn, 0, none⟩ = some (.int .i64 n)
  map : w.cell? ⟨gm, 0, none⟩ = some (.map (some bm))
  own : w.ownsMap Tryz.prog 3 unitElem bm seen.length (setI seen)
  stood : Stood n seen
  one : 1 ≤ n
  six : n ≤ 6
theorem See.turn {w w' : World} {n : Int} {gn gm bm : Nat} {seen sn : List Int} (h : See w n gn gm bm seen) (hg : w.grownBy w' (some bm)) (ho : w'.ownsMap Tryz.prog 3 unitElem bm sn.length (setI sn)) (hs : Stood n sn) : See w' n gn gm bm sn :=
  ⟨hg.cell h.num (not_own h.own h.num), hg.cell h.map (not_own h.own h.map), ho, hs, h.one, h.six⟩
theorem inW_one (n : Int) (seen : List Int) (a : Int) (r : List Int) : Wv.inW n seen (a :: r) = if (Wv.inW n seen [a]).1 = 0 then Wv.inW n (Wv.inW n seen [a]).2 r else Wv.inW n seen [a] := by
  rw [Wv.inW, Wv.inW]
  by_cases h : 0 ≤ a ∧ a ≤ n - 1
  · rw [if_pos h, if_pos h]
    by_cases h2 : a ∈ seen
    · rw [if_pos h2, if_pos h2]; rfl
    · rw [if_neg h2, if_neg h2]; rfl
  · rw [if_neg h, if_neg h]; rfl
set_option maxHeartbeats 4000000 in
theorem see_any (a n : Int) (gn gm bm : Nat) (seen : List Int) (w : World) (h : See w n gn gm bm seen) :
    Calls Tryz.prog 111 #[.int .i64 a, .pointer (some ⟨gn, 0, none⟩), .pointer (some ⟨gm, 0, none⟩)] w fun e w' => e = .returned (.int .i64 (Wv.inW n seen [a]).1) ∧ See w' n gn gm bm (Wv.inW n seen [a]).2 ∧ w.grownBy w' (some bm) := by
  have c1 := h.num
  have c2 := h.map
  have hgm := lt_cell h.map
  have hn6 := h.six
  have hn1 := h.one
  by_cases hr : 0 ≤ a ∧ a ≤ n - 1
  · obtain ⟨hr1, hr2⟩ := hr
    have hwf : (Lit.int .i64 a).wf = true := WalkArith.wf_i64 (by omega)
    have HKEY : Hid (keyOf Tryz.prog 3 (.int .i64 a) = some (.int .i64 a)) := keyOf_int_mk Tryz.underlying3 hwf
    have HO : Hid (w.ownsMap Tryz.prog 3 unitElem bm seen.length (setI seen)) := h.own
    have HS : Hid (See w n gn gm bm seen) := h
    have hlen := h.stood.len h.six
    clear hwf
    by_cases hx : a ∈ seen
    · have HI : Hid (Wv.inW n seen [a] = (6, seen)) := by rw [Wv.inW, if_pos ⟨hr1, hr2⟩, if_pos hx]; rfl
      have HH : has (setI seen) (.int .i64 a) = true := by rw [has_setI]; exact decide_eq_true hx
      rw [HI.out]
      clear h hx HI
      go_enter Tryz.func111, Tryz.ntmps111
      go_wp2_with (first | (at_lookup; refine wpList_lookup_own_unit _ rfl _ _ 181 rfl 3 182 keyedW Tryz.underlying181 (zeroU _) bm seen.length (setI seen) rfl HO.out _ _ rfl HKEY.out ?_) | go_in)
      go_ret
      exact ⟨rfl, HS.out.turn (World.grownBy_alloc _ _ _) (HO.out.alloc _) HS.out.stood, World.grownBy_alloc _ _ _⟩
    · have HI : Hid (Wv.inW n seen [a] = (0, seen ++ [a])) := by rw [Wv.inW, if_pos ⟨hr1, hr2⟩, if_neg hx]; rfl
      have HH : has (setI seen) (.int .i64 a) = false := by rw [has_setI]; exact decide_eq_false hx
      have HT : Hid (Stood n (seen ++ [a])) := h.stood.next ⟨hr1, hr2⟩ hx
      rw [HI.out]
      clear h hx HI
      go_enter Tryz.func111, Tryz.ntmps111
      go_wp2_with (first
        | (at_lookup; refine wpList_lookup_own_unit _ rfl _ _ 181 rfl 3 182 keyedW Tryz.underlying181 (zeroU _) bm seen.length (setI seen) rfl HO.out _ _ rfl HKEY.out ?_)
        | (at_mapUpdate; refine wpList_mapUpdate_own _ rfl _ _ _ 181 rfl 3 182 keyedW Tryz.underlying181 unitElem bm seen.length (setI seen) rfl (HO.out.alloc _) (by unfold maxLen; omega) _ _ (.int .i64 a) rfl rfl HKEY.out (.agg []) [] unitElem_mk ?_; intro w1 hown1 hgrow1)
        | go_in)
      have HG : Hid (w.grownBy w1 (some bm)) := (World.grownBy_alloc _ _ _).trans hgrow1
      have HO1 : Hid (w1.ownsMap Tryz.prog 3 unitElem bm (seen ++ [a]).length (setI (seen ++ [a]))) := by
        rw [setI_snoc, List.length_append]; exact hown1
      clear hown1 hgrow1
      go_wp2
      go_ret
      exact ⟨rfl, HS.out.turn HG.out HO1.out HT.out, HG.out⟩
  · have HI : Hid (Wv.inW n seen [a] = (5, seen)) := by rw [Wv.inW, if_neg hr]; rfl
    have hc : a < 0 ∨ (0 ≤ a ∧ n - 1 < a) := by omega
    have HS : Hid (See w n gn gm bm seen) := h
    rw [HI.out]
    clear h hr HI
    rcases hc with hc | ⟨hc1, hc2⟩
    · go_enter Tryz.func111, Tryz.ntmps111
      go_wp2
      go_ret
      exact ⟨rfl, HS.out, World.grownBy.refl _ _⟩
    · have hd : decide (a ≤ n - 1) = false := decide_eq_false (by omega)
      go_enter Tryz.func111, Tryz.ntmps111
      go_wp2
      go_ret
      exact ⟨rfl, HS.out, World.grownBy.refl _ _⟩
end Go.Proofs.YtpenkhehceglfaaGreatDoor
/- The contracts of wave.checkOne and wave.Check. -/
namespace Go.Proofs.YtpenkhehceglfaaGreatDoor
open Go.RowKit Go.Maps
set_option maxHeartbeats 4000000 in
theorem checkOne_any (v : Value) (m : List Int) (n : Int) (gn gm bm : Nat) (seen : List Int) (w : World) (hL : IntsAt w v m) (h : See w n gn gm bm seen) :
    Calls Tryz.prog 112 #[v, .func (.func 111) #[] #[.pointer (some ⟨gn, 0, none⟩), .pointer (some ⟨gm, 0, none⟩)]] w fun e w' => e = .returned (.int .i64 (if m = [] then 4 else (Wv.inW n seen m).1)) ∧ See w' n gn gm bm (Wv.inW n seen m).2 ∧ w.grownBy w' (some bm) := by
  obtain ⟨hll, A, b, o, c, rfl, -, hA, hC⟩ := hL
  by_cases hm : m = []
  · subst hm
    rw [if_pos rfl]
    have HS : Hid (See w n gn gm bm (Wv.inW n seen []).2) := h
    clear hA hC h
    go_enter Tryz.func112, Tryz.ntmps112
    go_wp2
    go_ret
    exact ⟨rfl, HS.out, World.grownBy.refl _ _⟩
  · rw [if_neg hm]
    have hlen : 0 < m.length := List.length_pos_iff.2 hm
    have hz : ((m.length : Int) == 0) = false := by simp only [beq_eq_false_iff_ne]; omega
    obtain ⟨rfl, hb⟩ := hA hlen
    have HC : Hid (∀ wr : World, w.grownBy wr (some bm) → ∀ j, j < m.length → wr.cell? ⟨b, o + j, none⟩ = some (.int .i64 (m.getD j 0))) := fun wr hg j hj => hg.cell (hC j hj) (not_own h.own (hC j hj))
    have HS0 : Hid (See w n gn gm bm seen) := h
    clear hA hC h hm
    go_enter Tryz.func112, Tryz.ntmps112
    go_wp2
    go_loopg [13] m.length (fun g s13 wr => ∃ k : Nat, ∃ sn : List Int, k ≤ m.length ∧ m.length - k ≤ g ∧ s13 = .int .i64 k ∧ Hid (Wv.inW n sn (m.drop k) = Wv.inW n seen m) ∧ Hid (See wr n gn gm bm sn) ∧ Hid (w.grownBy wr (some bm)))
    case atStart => exact ⟨0, seen, Nat.zero_le _, by omega, rfl, rfl, HS0, World.grownBy.refl _ _⟩
    case round =>
      obtain ⟨k, sn, hk, hg, rfl, H, HS, HG⟩ := hrel
      by_cases hlt : k < m.length
      · have g1 := HC.out wr HG.out k hlt
        have hd := dropL m 0 k hlt
        generalize m.getD k 0 = x at g1 hd
        have hcl := see_any x n gn gm bm sn wr HS.out
        have HI : Hid (Wv.inW n seen m = if (Wv.inW n sn [x]).1 = 0 then Wv.inW n (Wv.inW n sn [x]).2 (m.drop (k + 1)) else Wv.inW n sn [x]) := by
          rw [← inW_one, ← hd, H.out]; rfl
        generalize Wv.inW n sn [x] = q at hcl HI
        obtain ⟨r, s2⟩ := q
        simp only [] at hcl
        by_cases hr : r = 0
        · subst hr
          have HI2 : Hid (Wv.inW n s2 (m.drop (k + 1)) = Wv.inW n seen m) := by rw [HI.out, if_pos rfl]; rfl
          clear HI H hd HC
          go_wp2_with fail
          refine hcl.mono ?_
          rintro e w1 ⟨rfl, hs1, hg1⟩
          have HS1 : Hid (See w1 n gn gm bm s2) := hs1
          have HG1 : Hid (w.grownBy w1 (some bm)) := HG.out.trans hg1
          clear hs1 hg1
          go_wp2
          go_roundg (m.length - (k + 1))
          case measure => omega
          case rel => exact ⟨k + 1, s2, by omega, by omega, by go_num, HI2, HS1, HG1⟩
        · have HI2 : Hid (Wv.inW n seen m = (r, s2)) := by rw [HI.out, if_neg hr]; rfl
          have hr' : (r != 0) = true := by simpa using hr
          clear HI H hd hr HC
          go_wp2_with fail
          refine hcl.mono ?_
          rintro e w1 ⟨rfl, hs1, hg1⟩
          have HS1 : Hid (See w1 n gn gm bm s2) := hs1
          have HG1 : Hid (w.grownBy w1 (some bm)) := HG.out.trans hg1
          clear hs1 hg1
          go_wp2
          go_ret
          exact ⟨by rw [HI2.out]; rfl, by rw [HI2.out]; exact HS1.out, HG1.out⟩
      · have hk' : k = m.length := by omega
        have HI2 : Hid (Wv.inW n seen m = (0, sn)) := by rw [← H.out, hk', List.drop_length]; rfl
        subst hk'
        clear hk hlt H HC
        go_wp2
        go_ret
        exact ⟨by rw [HI2.out]; rfl, by rw [HI2.out]; exact HS.out, HG.out⟩
theorem checkP_range (v : Value) (n : Int) (w : World) (hn : n < 1 ∨ (1 ≤ n ∧ 6 < n)) :
    Calls Tryz.prog 88 #[v, .int .i64 n] w fun e w' => e = .returned (.int .i64 3) ∧ Below w.heap.size w w' := by
  rcases hn with hn | ⟨hn1, hn2⟩
  all_goals
    try (have hd : decide (n ≤ 6) = false := decide_eq_false (by omega))
    go_enter Tryz.func88, Tryz.ntmps88
    go_wp2
    go_ret
    exact ⟨rfl, (Below.refl _ _).alloc (Nat.le_refl _) _⟩
end Go.Proofs.YtpenkhehceglfaaGreatDoor
/- The contract of wave.Check. -/
namespace Go.Proofs.YtpenkhehceglfaaGreatDoor
open Go.RowKit Go.Maps
/-- the world in which Check has laid its two variables and its map -/
def checkW0 (w : World) (n : Int) : World := ((w.alloc (.cells #[.int .i64 n] 3)).alloc (.map #[] 0)).alloc (.cells #[.map (some (w.heap.size + 1))] 181)
theorem check_see (w : World) (n : Int) (h1 : 1 ≤ n) (h6 : n ≤ 6) : See (checkW0 w n) n w.heap.size (w.heap.size + 1 + 1) (w.heap.size + 1) [] := by
  refine ⟨by simp [checkW0, go_sem], by simp [checkW0, go_sem], ?_, ⟨List.nodup_nil, (fun x hx => by cases hx)⟩, h1, h6⟩
  have h := World.ownsMap_made (H := Unit) (w.alloc (.cells #[.int .i64 n] 3)) Tryz.prog 3 unitElem
  have h2 := h.alloc (.cells #[.map (some (w.heap.size + 1))] 181)
  simp only [World.size_alloc] at h2
  exact h2
theorem check_below (w : World) (n : Int) : Below w.heap.size w (checkW0 w n) := (((Below.refl _ w).alloc (Nat.le_refl _) _).alloc (by simp) _).alloc (by simp; omega) _
set_option maxHeartbeats 8000000 in
theorem checkP_good (v : Value) (l : List (List Int)) (n : Int) (w : World) (hL : WavesAt w v l) (hn1 : 1 ≤ n) (hn2 : n ≤ 6) :
    Calls Tryz.prog 88 #[v, .int .i64 n] w fun e w' => e = .returned (.int .i64 (Wv.go n [] l)) ∧ Below w.heap.size w w' := by
  obtain ⟨hll, A, b, o, c, rfl, -, hA, hC⟩ := hL
  have HA : Hid (0 < l.length → A = some ⟨b, o, none⟩ ∧ b < w.heap.size) := hA
  have HC : Hid (∀ j, j < l.length → ∃ u, w.cell? ⟨b, o + j, none⟩ = some u ∧ IntsAt w u (l.getD j [])) := hC
  have HS0 : Hid (See (checkW0 w n) n w.heap.size (w.heap.size + 1 + 1) (w.heap.size + 1) []) := check_see w n hn1 hn2
  have HB0 : Hid (Below w.heap.size w (checkW0 w n)) := check_below w n
  have HD : Hid (((w.alloc (.cells #[.int .i64 n] 3)).alloc (.map #[] 0)).alloc (.cells #[.map (some (w.heap.size + 1))] 181) = checkW0 w n) := rfl
  have hmm := @run_makeMap Tryz.prog
  clear hA hC
  go_enter Tryz.func88, Tryz.ntmps88
  go_wp2
  rw [HD.out]
  have HS6 : Hid (n ≤ 6) := hn2
  go_loopg [17] l.length (fun g s17 wr => ∃ k : Nat, ∃ sn : List Int, k ≤ l.length ∧ l.length - k ≤ g ∧ s17 = .int .i64 k ∧ Hid (Wv.go n sn (l.drop k) = Wv.go n [] l) ∧ Hid (See wr n w.heap.size (w.heap.size + 1 + 1) (w.heap.size + 1) sn) ∧ Hid (Below w.heap.size w wr))
  case atStart => exact ⟨0, [], Nat.zero_le _, by omega, rfl, rfl, HS0, HB0⟩
  case round =>
    obtain ⟨k, sn, hk, hg, rfl, H, HS, HW⟩ := hrel
    by_cases hlt : k < l.length
    · obtain ⟨rfl, hbw⟩ := HA.out (by omega)
      obtain ⟨u, hu, hI⟩ := HC.out k hlt
      rw [← HW.out.cell (p := ⟨b, _, none⟩) hbw] at hu
      have hd := dropL l [] k hlt
      have hcl := checkOne_any u (l.getD k []) n w.heap.size (w.heap.size + 1 + 1) (w.heap.size + 1) sn wr (hI.below HW.out) HS.out
      have HG : Hid (Wv.go n [] l = if l.getD k [] = [] then 4 else (if (Wv.inW n sn (l.getD k [])).1 = 0 then Wv.go n (Wv.inW n sn (l.getD k [])).2 (l.drop (k + 1)) else (Wv.inW n sn (l.getD k [])).1)) := by
        rw [← H.out, hd, Wv.go]; rfl
      have HBG : Hid (∀ w1 : World, wr.grownBy w1 (some (w.heap.size + 1)) → Below w.heap.size w w1) := fun w1 hg1 => HW.out.grown hg1 HW.out.size (fun q hq => by cases hq; omega)
      generalize l.getD k [] = m at hcl HG
      generalize Wv.inW n sn m = q at hcl HG
      obtain ⟨r, s2⟩ := q
      simp only [] at hcl
      clear HA HC hI hd H
      by_cases hm : m = []
      · rw [if_pos hm] at hcl
        have HE : Hid (Wv.go n [] l = 4) := by rw [HG.out, if_pos hm]; rfl
        clear hm HG
        go_wp2_with fail
        refine hcl.mono ?_
        rintro e w1 ⟨rfl, -, hg1⟩
        have HB1 : Hid (Below w.heap.size w w1) := HBG.out w1 hg1
        clear hg1
        go_wp2
        go_ret
        exact ⟨by rw [HE.out]; rfl, HB1.out⟩
      · rw [if_neg hm] at hcl
        by_cases hr : r = 0
        · subst hr
          have HE : Hid (Wv.go n s2 (l.drop (k + 1)) = Wv.go n [] l) := by rw [HG.out, if_neg hm, if_pos rfl]; rfl
          clear hm HG
          go_wp2_with fail
          refine hcl.mono ?_
          rintro e w1 ⟨rfl, hs1, hg1⟩
          have HB1 : Hid (Below w.heap.size w w1) := HBG.out w1 hg1
          have HS1 : Hid (See w1 n w.heap.size (w.heap.size + 1 + 1) (w.heap.size + 1) s2) := hs1
          clear hg1 hs1
          go_wp2
          go_roundg (l.length - (k + 1))
          case measure => omega
          case rel => exact ⟨k + 1, s2, by omega, by omega, by go_num, HE, HS1, HB1⟩
        · have HE : Hid (Wv.go n [] l = r) := by rw [HG.out, if_neg hm, if_neg hr]; rfl
          have hr' : (r != 0) = true := by simpa using hr
          clear hm HG hr
          go_wp2_with fail
          refine hcl.mono ?_
          rintro e w1 ⟨rfl, -, hg1⟩
          have HB1 : Hid (Below w.heap.size w w1) := HBG.out w1 hg1
          clear hg1
          go_wp2
          go_ret
          exact ⟨by rw [HE.out]; rfl, HB1.out⟩
    · have hk' : k = l.length := by omega
      have HE : Hid (Wv.go n [] l = if (sn.length : Int) = n then 0 else 4) := by rw [← H.out, hk', List.drop_length]; rfl
      subst hk'
      have HO : Hid (wr.ownsMap Tryz.prog 3 unitElem (w.heap.size + 1) sn.length (setI sn)) := HS.out.own
      have hsz : size (setI sn) = sn.length := size_setI HS.out.stood.1
      have c1 := HS.out.num
      have c2 := HS.out.map
      have hle : (sn.length : Int) ≤ n := by
        have := Wv.nodup_le (m := n.toNat) HS.out.stood.1 (fun x hx => by have := HS.out.stood.2 x hx; omega)
        omega
      clear hk hlt H HA HC
      by_cases hq : (sn.length : Int) = n
      · have HE2 : Hid (Wv.go n [] l = 0) := by rw [HE.out, if_pos hq]; rfl
        have hq' : decide ((sn.length : Int) < n) = false := decide_eq_false (by omega)
        clear hq HE hle
        go_wp2_with (at_len; refine wpList_len_own _ rfl _ 181 rfl 3 182 Tryz.underlying181 _ (w.heap.size + 1) sn.length (setI sn) rfl HO.out ?_)
        go_ret
        exact ⟨by rw [HE2.out]; rfl, HW.out⟩
      · have HE2 : Hid (Wv.go n [] l = 4) := by rw [HE.out, if_neg hq]; rfl
        have hq' : decide ((sn.length : Int) < n) = true := decide_eq_true (by omega)
        clear hq HE hle
        go_wp2_with (at_len; refine wpList_len_own _ rfl _ 181 rfl 3 182 Tryz.underlying181 _ (w.heap.size + 1) sn.length (setI sn) rfl HO.out ?_)
        go_ret
        exact ⟨by rw [HE2.out]; rfl, HW.out⟩
theorem checkP_any (v : Value) (l : List (List Int)) (n : Int) (w : World) (hL : WavesAt w v l) :
    Calls Tryz.prog 88 #[v, .int .i64 n] w fun e w' => e = .returned (.int .i64 (Wv.chk l n)) ∧ Below w.heap.size w w' := by
  by_cases hn : 1 ≤ n ∧ n ≤ 6
  · rw [Wv.chk, if_pos hn]
    exact checkP_good v l n w hL hn.1 hn.2
  · rw [Wv.chk, if_neg hn]
    exact checkP_range v n w (by omega)
end Go.Proofs.YtpenkhehceglfaaGreatDoor
/- The contracts of slices.IndexFunc at waves, wave.Of and wave.Now: the contracts of package wave. -/
namespace Go.Proofs.YtpenkhehceglfaaGreatDoor
open Go.RowKit
namespace Wv
/-- where the first wave is of which it is true -/
def idxL (p : List Int → Bool) : List (List Int) → Int → Int
  | [], _ => -1
  | x :: r, k => if p x = true then k else idxL p r (k + 1)
theorem idxL_of (a : Int) : ∀ (l : List (List Int)) (k : Int), idxL (fun m => decide (a ∈ m)) l k = ofFrom a l k
  | [], _ => rfl
  | x :: r, k => by
    rw [idxL, ofFrom, idxL_of a r]
    by_cases h : a ∈ x
    · rw [if_pos (decide_eq_true h), if_pos h]
    · rw [if_neg (by simpa using h), if_neg h]
theorem idxL_now (t : List Bool) : ∀ (l : List (List Int)) (k : Int), 0 ≤ k → (0 ≤ idxL (isOpen t) l k ∧ nowFrom t l k = idxL (isOpen t) l k) ∨ (idxL (isOpen t) l k = -1 ∧ nowFrom t l k = k + l.length)
  | [], k, _ => .inr ⟨rfl, by simp [nowFrom]⟩
  | x :: r, k, hk => by
    rw [idxL, nowFrom]
    by_cases h : isOpen t x = true
    · rw [if_pos h, if_pos h]; exact .inl ⟨hk, rfl⟩
    · rw [if_neg h, if_neg h]
      rcases idxL_now t r (k + 1) (by omega) with ⟨h1, h2⟩ | ⟨h1, h2⟩
      · exact .inl ⟨h1, h2⟩
      · exact .inr ⟨h1, by rw [h2, List.length_cons]; omega⟩
end Wv
set_option maxHeartbeats 4000000 in
theorem indexL_any (v : Value) (l : List (List Int)) (f : Nat) (c : Value) (p : List Int → Bool) (w : World) (hL : WavesAt w v l) (eg : ∀ args w, (callFunc f args).run Tryz.prog w = .ok (.enter f args) w)
    (hF : ∀ u m, m ∈ l → IntsAt w u m → Calls Tryz.prog f #[u, c] w fun e w' => e = .returned (.bool (p m)) ∧ w' = w) :
    Calls Tryz.prog 113 #[v, .func (.func f) #[] #[c]] w fun e w' => e = .returned (.int .i64 (Wv.idxL p l 0)) ∧ w' = w := by
  obtain ⟨hll, A, b, o, cp, rfl, -, hA, hC⟩ := hL
  have HA : Hid (0 < l.length → A = some ⟨b, o, none⟩ ∧ b < w.heap.size) := hA
  have HC : Hid (∀ j, j < l.length → ∃ u, w.cell? ⟨b, o + j, none⟩ = some u ∧ IntsAt w u (l.getD j [])) := hC
  have HF : Hid (∀ u m, m ∈ l → IntsAt w u m → Calls Tryz.prog f #[u, c] w fun e w' => e = .returned (.bool (p m)) ∧ w' = w) := hF
  clear hA hC hF
  go_enter Tryz.func113, Tryz.ntmps113
  go_wp2
  go_loopg [8] l.length (fun g s8 wr => ∃ k : Nat, k ≤ l.length ∧ l.length - k ≤ g ∧ s8 = .int .i64 k ∧ Hid (Wv.idxL p (l.drop k) k = Wv.idxL p l 0) ∧ wr = w)
  case atStart => exact ⟨0, Nat.zero_le _, by omega, rfl, rfl, rfl⟩
  case round =>
    obtain ⟨k, hk, hgk, rfl, H, rfl⟩ := hrel
    by_cases hlt : k < l.length
    · obtain ⟨rfl, hbw⟩ := HA.out (by omega)
      obtain ⟨u, hu, hI⟩ := HC.out k hlt
      have hd := dropL l [] k hlt
      have hmem : l.getD k [] ∈ l := by rw [List.getD_eq_getElem?_getD, List.getElem?_eq_getElem hlt]; exact List.getElem_mem hlt
      have hcl := HF.out u _ hmem hI
      generalize l.getD k [] = m at hd hcl
      clear HA HC hI hmem HF
      cases hp : p m with
      | true =>
        have HR : Hid (Wv.idxL p l 0 = k) := by rw [← H.out, hd, Wv.idxL, if_pos hp]; rfl
        rw [hp] at hcl
        clear hp hd H
        go_wp2_with fail
        refine hcl.mono ?_
        rintro e w1 ⟨rfl, rfl⟩
        go_wp2
        go_ret
        exact ⟨by rw [HR.out]; rfl, rfl⟩
      | false =>
        have HR : Hid (Wv.idxL p (l.drop (k + 1)) ((k + 1 : Nat) : Int) = Wv.idxL p l 0) := by
          have := H.out
          rw [hd, Wv.idxL, if_neg (by rw [hp]; decide)] at this
          exact this
        rw [hp] at hcl
        clear hp hd H
        go_wp2_with fail
        refine hcl.mono ?_
        rintro e w1 ⟨rfl, rfl⟩
        go_wp2
        go_roundg (l.length - (k + 1))
        case measure => omega
        case rel => exact ⟨k + 1, by omega, by omega, by go_num, HR, rfl⟩
    · have hk' : k = l.length := by omega
      have HB : Hid (Wv.idxL p l 0 = -1) := by rw [← H.out, hk', List.drop_length]; rfl
      subst hk'
      clear hk hlt
      go_wp2
      go_ret
      exact ⟨by rw [HB.out]; rfl, rfl⟩
set_option maxHeartbeats 1000000 in
theorem ofC_any (u : Value) (m : List Int) (a : Int) (g : Nat) (w : World) (hI : IntsAt w u m) (hg : w.cell? ⟨g, 0, none⟩ = some (.int .i64 a)) :
    Calls Tryz.prog 114 #[u, .pointer (some ⟨g, 0, none⟩)] w fun e w' => e = .returned (.bool (decide (a ∈ m))) ∧ w' = w := by
  have hc := containsI_any u m a w hI
  clear hI
  generalize decide (a ∈ m) = x at hc
  go_enter Tryz.func114, Tryz.ntmps114
  go_wp2_with fail
  refine hc.mono ?_
  rintro e w1 ⟨rfl, rfl⟩
  go_wp2
  go_ret
  exact ⟨rfl, rfl⟩
set_option maxHeartbeats 1000000 in
theorem ofP_any (v : Value) (l : List (List Int)) (a : Int) (w : World) (hL : WavesAt w v l) :
    Calls Tryz.prog 89 #[v, .int .i64 a] w fun e w' => e = .returned (.int .i64 (Wv.of l a)) ∧ Below w.heap.size w w' := by
  have HB : Hid (Below w.heap.size w (w.alloc (.cells #[.int .i64 a] 3))) := (Below.refl _ w).alloc (Nat.le_refl _) _
  have HC : Hid (Calls Tryz.prog 113 #[v, .func (.func 114) #[] #[.pointer (some ⟨w.heap.size, 0, none⟩)]] (w.alloc (.cells #[.int .i64 a] 3)) fun e w' => e = .returned (.int .i64 (Wv.idxL (fun m => decide (a ∈ m)) l 0)) ∧ w' = w.alloc (.cells #[.int .i64 a] 3)) :=
    indexL_any v l _ _ _ _ (hL.below HB.out) (fun _ _ => by simp [go_sem]) (fun u m _ hI => ofC_any u m a w.heap.size _ hI (by simp [go_sem]))
  have HE : Hid (Wv.idxL (fun m => decide (a ∈ m)) l 0 = Wv.of l a) := Wv.idxL_of a l 0
  clear hL
  go_enter Tryz.func89, Tryz.ntmps89
  go_wp2_with fail
  refine HC.out.mono ?_
  rintro e w1 ⟨rfl, rfl⟩
  go_wp2
  go_ret
  exact ⟨by rw [HE.out]; rfl, HB.out⟩
set_option maxHeartbeats 1000000 in
theorem nowC1_any (a : Int) (g : Nat) (u : Value) (t : List Bool) (w : World) (hg : w.cell? ⟨g, 0, none⟩ = some u) (hT : BoolsAt w u t) (h0 : 0 ≤ a) (h1 : a < t.length) :
    Calls Tryz.prog 134 #[.int .i64 a, .pointer (some ⟨g, 0, none⟩)] w fun e w' => e = .returned (.bool (!t.getD a.toNat true)) ∧ w' = w := by
  obtain ⟨htl, A, b, o, c, rfl, -, hA, hC⟩ := hT
  obtain ⟨rfl, hb⟩ := hA (by omega)
  obtain ⟨n, rfl⟩ : ∃ n : Nat, a = n := ⟨a.toNat, by omega⟩
  have hn : n < t.length := by omega
  have c1 := hC n hn
  rw [Int.toNat_natCast]
  generalize t.getD n true = x at c1
  clear hA hC h0
  go_enter Tryz.func134, Tryz.ntmps134
  go_wp2
  go_ret
  exact ⟨rfl, rfl⟩
set_option maxHeartbeats 4000000 in
theorem indexFG_any (v : Value) (m : List Int) (f : Nat) (c : Value) (p : Int → Bool) (w : World) (hL : IntsAt w v m) (eg : ∀ args w, (callFunc f args).run Tryz.prog w = .ok (.enter f args) w)
    (hF : ∀ a ∈ m, Calls Tryz.prog f #[.int .i64 a, c] w fun e w' => e = .returned (.bool (p a)) ∧ w' = w) :
    Calls Tryz.prog 151 #[v, .func (.func f) #[] #[c]] w fun e w' => e = .returned (.int .i64 (Wv.idxF p m 0)) ∧ w' = w := by
  obtain ⟨hll, A, b, o, cp, rfl, -, hA, hC⟩ := hL
  have HA : Hid (0 < m.length → A = some ⟨b, o, none⟩ ∧ b < w.heap.size) := hA
  have HC : Hid (∀ j, j < m.length → w.cell? ⟨b, o + j, none⟩ = some (.int .i64 (m.getD j 0))) := hC
  have HF : Hid (∀ a ∈ m, Calls Tryz.prog f #[.int .i64 a, c] w fun e w' => e = .returned (.bool (p a)) ∧ w' = w) := hF
  clear hA hC hF
  go_enter Tryz.func151, Tryz.ntmps151
  go_wp2
  go_loopg [8] m.length (fun g s8 wr => ∃ k : Nat, k ≤ m.length ∧ m.length - k ≤ g ∧ s8 = .int .i64 k ∧ Hid (Wv.idxF p (m.drop k) k = Wv.idxF p m 0) ∧ wr = w)
  case atStart => exact ⟨0, Nat.zero_le _, by omega, rfl, rfl, rfl⟩
  case round =>
    obtain ⟨k, hk, hgk, rfl, H, rfl⟩ := hrel
    by_cases hlt : k < m.length
    · obtain ⟨rfl, hbw⟩ := HA.out (by omega)
      have g1 := HC.out k hlt
      have hd := dropL m 0 k hlt
      have hcl := HF.out _ (mem_getDI hlt)
      generalize m.getD k 0 = x at g1 hd hcl
      clear HA HC HF
      cases hp : p x with
      | true =>
        have HR : Hid (Wv.idxF p m 0 = k) := by rw [← H.out, hd, Wv.idxF, if_pos hp]; rfl
        rw [hp] at hcl
        clear hp hd H
        go_wp2_with fail
        refine hcl.mono ?_
        rintro e w1 ⟨rfl, rfl⟩
        go_wp2
        go_ret
        exact ⟨by rw [HR.out]; rfl, rfl⟩
      | false =>
        have HR : Hid (Wv.idxF p (m.drop (k + 1)) ((k + 1 : Nat) : Int) = Wv.idxF p m 0) := by
          have := H.out
          rw [hd, Wv.idxF, if_neg (by rw [hp]; decide)] at this
          exact this
        rw [hp] at hcl
        clear hp hd H
        go_wp2_with fail
        refine hcl.mono ?_
        rintro e w1 ⟨rfl, rfl⟩
        go_wp2
        go_roundg (m.length - (k + 1))
        case measure => omega
        case rel => exact ⟨k + 1, by omega, by omega, by go_num, HR, rfl⟩
    · have hk' : k = m.length := by omega
      have HB : Hid (Wv.idxF p m 0 = -1) := by rw [← H.out, hk', List.drop_length]; rfl
      subst hk'
      clear hk hlt
      go_wp2
      go_ret
      exact ⟨by rw [HB.out]; rfl, rfl⟩
set_option maxHeartbeats 1000000 in
theorem containsFG_any (v : Value) (m : List Int) (f : Nat) (c : Value) (p : Int → Bool) (w : World) (hL : IntsAt w v m) (eg : ∀ args w, (callFunc f args).run Tryz.prog w = .ok (.enter f args) w)
    (hF : ∀ a ∈ m, Calls Tryz.prog f #[.int .i64 a, c] w fun e w' => e = .returned (.bool (p a)) ∧ w' = w) :
    Calls Tryz.prog 136 #[v, .func (.func f) #[] #[c]] w fun e w' => e = .returned (.bool (m.any p)) ∧ w' = w := by
  have HC := indexFG_any v m f c p w hL eg hF
  have HM : Hid (decide (0 ≤ Wv.idxF p m 0) = m.any p) := Wv.idxF_any (by decide)
  clear hL hF eg
  go_enter Tryz.func136, Tryz.ntmps136
  go_wp2_with fail
  refine HC.mono ?_
  rintro e w1 ⟨rfl, rfl⟩
  go_wp2
  go_ret
  exact ⟨by rw [← HM.out]; rfl, rfl⟩
set_option maxHeartbeats 1000000 in
theorem nowC2_any (u : Value) (m : List Int) (g g2 : Nat) (x : Value) (t : List Bool) (w : World) (hI : IntsAt w u m) (hg2 : w.cell? ⟨g2, 0, none⟩ = some (.func (.func 134) #[] #[.pointer (some ⟨g, 0, none⟩)])) (hg : w.cell? ⟨g, 0, none⟩ = some x) (hT : BoolsAt w x t) (hin : ∀ a ∈ m, 0 ≤ a ∧ a < t.length) :
    Calls Tryz.prog 135 #[u, .pointer (some ⟨g2, 0, none⟩)] w fun e w' => e = .returned (.bool (Wv.isOpen t m)) ∧ w' = w := by
  have hc : Calls Tryz.prog 136 #[u, .func (.func 134) #[] #[.pointer (some ⟨g, 0, none⟩)]] w fun e w' => e = .returned (.bool (Wv.isOpen t m)) ∧ w' = w :=
    containsFG_any u m _ _ (fun a => !t.getD a.toNat true) w hI (fun _ _ => by simp [go_sem]) (fun a ha => nowC1_any a g x t w hg hT (hin a ha).1 (hin a ha).2)
  clear hI hT hin hg
  generalize Wv.isOpen t m = y at hc
  go_enter Tryz.func135, Tryz.ntmps135
  go_wp2_with fail
  refine hc.mono ?_
  rintro e w1 ⟨rfl, rfl⟩
  go_wp2
  go_ret
  exact ⟨rfl, rfl⟩
set_option maxHeartbeats 4000000 in
theorem nowP_any (v u : Value) (l : List (List Int)) (t : List Bool) (w : World) (hL : WavesAt w v l) (hT : BoolsAt w u t) :
    Calls Tryz.prog 116 #[v, u] w fun e w' => e = .returned (.tuple #[.int .i64 (nowOf l t), .int .i64 (nowErr l t)]) ∧ Below w.heap.size w w' := by
  have HL : Hid (WavesAt w v l) := hL
  have HT : Hid (BoolsAt w u t) := hT
  have HB0 : Hid (Below w.heap.size w (w.alloc (.cells #[u] 189))) := (Below.refl _ w).alloc (Nat.le_refl _) _
  have HCK : Hid (Calls Tryz.prog 88 #[v, .int .i64 t.length] (w.alloc (.cells #[u] 189)) fun e w' => e = .returned (.int .i64 (nowErr l t)) ∧ Below (w.alloc (.cells #[u] 189)).heap.size (w.alloc (.cells #[u] 189)) w') := checkP_any v l t.length _ (HL.out.below HB0.out)
  have HG0 : Hid ((w.alloc (.cells #[u] 189)).cell? ⟨w.heap.size, 0, none⟩ = some u) := by show _ = _; simp [go_sem]
  obtain ⟨htl, B, b2, o2, c2, rfl, -, -, -⟩ := hT
  obtain ⟨hll, A, b, o, c, rfl, -, -, -⟩ := hL
  go_enter Tryz.func116, Tryz.ntmps116
  go_wp2_with fail
  refine HCK.out.mono ?_
  rintro e w1 ⟨rfl, hb1⟩
  have HB1 : Hid (Below w.heap.size w w1) := HB0.out.trans (hb1.mono HB0.out.size)
  have hs1 : w.heap.size < w1.heap.size := by have := hb1.size; simp at this; omega
  have HG1 : Hid (w1.cell? ⟨w.heap.size, 0, none⟩ = some (.slice B t.length c2)) := (hb1.cell (p := ⟨w.heap.size, 0, none⟩) (by simp)).trans HG0.out
  clear hb1 HB0 HCK HG0
  by_cases hz : nowErr l t = 0
  · have hin : ∀ m ∈ l, ∀ a ∈ m, 0 ≤ a ∧ a < t.length := fun m hm a ha => by
      have := ((Wv.all_stand (show Wv.chk l t.length = 0 from hz)).2.1 m hm).2 a ha
      omega
    have HIN : Hid (∀ m ∈ l, ∀ a ∈ m, 0 ≤ a ∧ a < t.length) := hin
    have HNW : Hid (nowOf l t = Wv.now l t) := by rw [nowOf, if_pos hz]; rfl
    have hcase := Wv.idxL_now t l 0 (by omega)
    have HB2 : Hid (Below w.heap.size w (w1.alloc (.cells #[.func (.func 134) #[] #[.pointer (some ⟨w.heap.size, 0, none⟩)]] 210))) := HB1.out.alloc HB1.out.size _
    have HX : Hid (Calls Tryz.prog 113 #[.slice A l.length c, .func (.func 135) #[] #[.pointer (some ⟨w1.heap.size, 0, none⟩)]] (w1.alloc (.cells #[.func (.func 134) #[] #[.pointer (some ⟨w.heap.size, 0, none⟩)]] 210)) fun e w' => e = .returned (.int .i64 (Wv.idxL (Wv.isOpen t) l 0)) ∧ w' = w1.alloc (.cells #[.func (.func 134) #[] #[.pointer (some ⟨w.heap.size, 0, none⟩)]] 210)) :=
      indexL_any _ l _ _ _ _ (HL.out.below HB2.out) (fun _ _ => by simp [go_sem]) (fun x m hm hI => nowC2_any x m w.heap.size w1.heap.size _ t _ hI (by simp [go_sem]) ((((Below.refl _ w1).alloc (Nat.le_refl _) _).cell (p := ⟨w.heap.size, 0, none⟩) hs1).trans HG1.out) (HT.out.below HB2.out) (hin m hm))
    have HZ : Hid (nowErr l t = 0) := hz
    rw [hz]
    clear hz hin HIN HG1 HT HL
    rcases hcase with ⟨h1, h2⟩ | ⟨h1, h2⟩
    · have HR : Hid (nowOf l t = Wv.idxL (Wv.isOpen t) l 0) := by rw [HNW.out]; exact h2
      generalize Wv.idxL (Wv.isOpen t) l 0 = y at h1 HX HR
      clear h2 HNW
      go_wp2_with fail
      refine HX.out.mono ?_
      rintro e w3 ⟨rfl, rfl⟩
      go_wp2
      go_ret2
      exact ⟨by rw [HR.out, HZ.out]; rfl, HB2.out⟩
    · have HR : Hid (nowOf l t = l.length) := by rw [HNW.out]; exact h2.trans (by simp)
      rw [h1] at HX
      clear h1 h2 HNW
      go_wp2_with fail
      refine HX.out.mono ?_
      rintro e w3 ⟨rfl, rfl⟩
      go_wp2
      go_ret2
      exact ⟨by rw [HR.out, HZ.out]; rfl, HB2.out⟩
  · have hz' : (nowErr l t != 0) = true := by simpa using hz
    have HN : Hid (nowOf l t = 0) := by rw [nowOf, if_neg hz]; rfl
    clear hz
    go_wp2
    go_ret2
    exact ⟨by rw [HN.out]; rfl, HB1.out⟩
theorem waveC : WaveC := ⟨checkP_any, ofP_any, nowP_any⟩
end Go.Proofs.YtpenkhehceglfaaGreatDoor
