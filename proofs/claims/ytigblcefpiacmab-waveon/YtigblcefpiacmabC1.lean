/- The contracts of wave.Check: its closure over a map of the call's own, checkOne, Check. -/
import Derived.Test.YtigblcefpiacmabV4
import Derived.Maps.OwnSet
import Derived.Maps.AppendAt
namespace Go.Proofs.Ytigblcefpiacmab
open Go.RowKit Go.Maps
/-- the set of these numbers -/
def setI (l : List Int) : DataW Unit := setOf (.agg []) (l.map (Lit.int .i64))
theorem keyLitI (a : Int) : WideAt.IsKeyLit (Lit.int .i64 a) := by simp [WideAt.IsKeyLit]
theorem keysI (l : List Int) : ∀ x ∈ l.map (Lit.int .i64), WideAt.IsKeyLit x := fun x hx => by
  obtain ⟨a, -, rfl⟩ := List.mem_map.1 hx
  exact keyLitI a
theorem has_setI (l : List Int) (a : Int) : has (setI l) (.int .i64 a) = decide (a ∈ l) := by
  rw [setI, has_setOf _ _ _ (keysI l), List.any_map]
  by_cases h : a ∈ l
  · rw [decide_eq_true h]
    exact List.any_eq_true.2 ⟨a, h, WideAt.sameKey_self (keyLitI a)⟩
  · rw [decide_eq_false h, List.any_eq_false]
    intro x hx e
    have e' := WideAt.sameKey_eq (a := Lit.int .i64 x) (b := Lit.int .i64 a) e
    injection e' with _ e'
    exact h (e' ▸ hx)
theorem setI_snoc (l : List Int) (a : Int) : setI (l ++ [a]) = (setI l).put (.int .i64 a) (.agg []) := by
  rw [setI, List.map_append, List.map_cons, List.map_nil, setOf_snoc]; rfl
theorem size_setI_from (r : List Int) : ∀ l : List Int, size (setI l) = l.length → (l ++ r).Nodup → size (setI (l ++ r)) = (l ++ r).length := by
  induction r with
  | nil => intro l h _; rw [List.append_nil]; exact h
  | cons a r ih =>
    intro l h hd
    have e : l ++ a :: r = (l ++ [a]) ++ r := by simp
    rw [e] at hd ⊢
    refine ih _ ?_ hd
    have hna : a ∉ l := fun hm => by
      rw [List.append_assoc, List.nodup_append] at hd
      exact hd.2.2 a hm a (by simp) rfl
    rw [setI_snoc, size_put (show Tidy (setI l) from tidy_setOf _ _ (keysI l)), has_setI, decide_eq_false hna, List.length_append, h]
    rfl
theorem size_setI {l : List Int} (h : l.Nodup) : size (setI l) = l.length := size_setI_from l [] rfl h
theorem keyedW : Keyed Try.prog 3 := int_keyed Try.underlying3
theorem zeroU (w : World) : (zeroValue 74).run Try.prog w = .ok (.agg #[]) w := by kernel_rfl
theorem not_own {w : World} {bm n : Nat} {R : Value → Option (DataW Unit × List MemPlace)} {D : DataW Unit} (h : w.ownsMap Try.prog 3 R bm n D) {b o : Nat} {v : Value} (hc : w.cell? ⟨b, o, none⟩ = some v) : some b ≠ some bm := by
  obtain ⟨es, clock, h1, _⟩ := h
  intro e
  have e' : b = bm := Option.some.inj e
  subst e'
  rw [World.cell?, h1] at hc
  cases hc
theorem lt_cell {w : World} {b o : Nat} {v : Value} (h : w.cell? ⟨b, o, none⟩ = some v) : b < w.heap.size := by
  rcases Nat.lt_or_ge b w.heap.size with h1 | h1
  · exact h1
  · rw [World.cell?, Array.getElem?_eq_none h1] at h
    cases h
/-- where the closure's two variables lie, and what they hold: how many agents there are, and who stood by then -/
structure See (w : World) (n : Int) (gn gm bm : Nat) (seen : List Int) : Prop where
  num : w.cell? ⟨gn, 0, none⟩ = some (.int .i64 n)
  map : w.cell? ⟨gm, 0, none⟩ = some (.map (some bm))
  own : w.ownsMap Try.prog 3 unitElem bm seen.length (setI seen)
  stood : Stood n seen
  one : 1 ≤ n
  six : n ≤ 6
theorem See.turn {w w' : World} {n : Int} {gn gm bm : Nat} {seen sn : List Int} (h : See w n gn gm bm seen) (hg : w.grownBy w' (some bm)) (ho : w'.ownsMap Try.prog 3 unitElem bm sn.length (setI sn)) (hs : Stood n sn) : See w' n gn gm bm sn :=
  ⟨hg.cell h.num (not_own h.own h.num), hg.cell h.map (not_own h.own h.map), ho, hs, h.one, h.six⟩
theorem inW_one (n : Int) (seen : List Int) (a : Int) (r : List Int) : Wv.inW n seen (a :: r) = if (Wv.inW n seen [a]).1 = 0 then Wv.inW n (Wv.inW n seen [a]).2 r else Wv.inW n seen [a] := by
  rw [Wv.inW, Wv.inW]
  by_cases h : 0 ≤ a ∧ a ≤ n - 1
  · rw [if_pos h, if_pos h]
    by_cases h2 : a ∈ seen
    · rw [if_pos h2, if_pos h2]; rfl
    · rw [if_neg h2, if_neg h2]; rfl
  · rw [if_neg h, if_neg h]; rfl
set_option maxHeartbeats 4000000 in
theorem see_any (a n : Int) (gn gm bm : Nat) (seen : List Int) (w : World) (h : See w n gn gm bm seen) :
    Calls Try.prog 47 #[.int .i64 a, .pointer (some ⟨gn, 0, none⟩), .pointer (some ⟨gm, 0, none⟩)] w fun e w' => e = .returned (.int .i64 (Wv.inW n seen [a]).1) ∧ See w' n gn gm bm (Wv.inW n seen [a]).2 ∧ w.grownBy w' (some bm) := by
  have c1 := h.num
  have c2 := h.map
  have hgm := lt_cell h.map
  have hn6 := h.six
  have hn1 := h.one
  by_cases hr : 0 ≤ a ∧ a ≤ n - 1
  · obtain ⟨hr1, hr2⟩ := hr
    have hwf : (Lit.int .i64 a).wf = true := WalkArith.wf_i64 (by omega)
    have HKEY : Hid (keyOf Try.prog 3 (.int .i64 a) = some (.int .i64 a)) := keyOf_int_mk Try.underlying3 hwf
    have HO : Hid (w.ownsMap Try.prog 3 unitElem bm seen.length (setI seen)) := h.own
    have HS : Hid (See w n gn gm bm seen) := h
    have hlen := h.stood.len h.six
    clear hwf
    by_cases hx : a ∈ seen
    · have HI : Hid (Wv.inW n seen [a] = (6, seen)) := by rw [Wv.inW, if_pos ⟨hr1, hr2⟩, if_pos hx]; rfl
      have HH : has (setI seen) (.int .i64 a) = true := by rw [has_setI]; exact decide_eq_true hx
      rw [HI.out]
      clear h hx HI
      go_enter Try.func47, Try.ntmps47
      go_wp2_with (first | (at_lookup; refine wpList_lookup_own_unit _ rfl _ _ 73 rfl 3 74 keyedW Try.underlying73 (zeroU _) bm seen.length (setI seen) rfl HO.out _ _ rfl HKEY.out ?_) | go_in)
      go_ret
      exact ⟨rfl, HS.out.turn (World.grownBy_alloc _ _ _) (HO.out.alloc _) HS.out.stood, World.grownBy_alloc _ _ _⟩
    · have HI : Hid (Wv.inW n seen [a] = (0, seen ++ [a])) := by rw [Wv.inW, if_pos ⟨hr1, hr2⟩, if_neg hx]; rfl
      have HH : has (setI seen) (.int .i64 a) = false := by rw [has_setI]; exact decide_eq_false hx
      have HT : Hid (Stood n (seen ++ [a])) := h.stood.next ⟨hr1, hr2⟩ hx
      rw [HI.out]
      clear h hx HI
      go_enter Try.func47, Try.ntmps47
      go_wp2_with (first
        | (at_lookup; refine wpList_lookup_own_unit _ rfl _ _ 73 rfl 3 74 keyedW Try.underlying73 (zeroU _) bm seen.length (setI seen) rfl HO.out _ _ rfl HKEY.out ?_)
        | (at_mapUpdate; refine wpList_mapUpdate_own _ rfl _ _ _ 73 rfl 3 74 keyedW Try.underlying73 unitElem bm seen.length (setI seen) rfl (HO.out.alloc _) (by unfold maxLen; omega) _ _ (.int .i64 a) rfl rfl HKEY.out (.agg []) [] unitElem_mk ?_; intro w1 hown1 hgrow1)
        | go_in)
      have HG : Hid (w.grownBy w1 (some bm)) := (World.grownBy_alloc _ _ _).trans hgrow1
      have HO1 : Hid (w1.ownsMap Try.prog 3 unitElem bm (seen ++ [a]).length (setI (seen ++ [a]))) := by
        rw [setI_snoc, List.length_append]; exact hown1
      clear hown1 hgrow1
      go_wp2
      go_ret
      exact ⟨rfl, HS.out.turn HG.out HO1.out HT.out, HG.out⟩
  · have HI : Hid (Wv.inW n seen [a] = (5, seen)) := by rw [Wv.inW, if_neg hr]; rfl
    have hc : a < 0 ∨ (0 ≤ a ∧ n - 1 < a) := by omega
    have HS : Hid (See w n gn gm bm seen) := h
    rw [HI.out]
    clear h hr HI
    rcases hc with hc | ⟨hc1, hc2⟩
    · go_enter Try.func47, Try.ntmps47
      go_wp2
      go_ret
      exact ⟨rfl, HS.out, World.grownBy.refl _ _⟩
    · have hd : decide (a ≤ n - 1) = false := decide_eq_false (by omega)
      go_enter Try.func47, Try.ntmps47
      go_wp2
      go_ret
      exact ⟨rfl, HS.out, World.grownBy.refl _ _⟩
end Go.Proofs.Ytigblcefpiacmab
