/- A region that draws its order, in two parts: ahead of the operations that W names (the stores at its end), what S says of the world stands; each load that S tells may be taken first; behind an operation that W names nothing more is asked of S. -/
import Derived.Deep.RegionHeld3
namespace Go.Proofs.YtmlhipdfjnamiaaGreat.Two
open Go
/-- whoever has come up, all that it waits for has -/
def Closed (md : Region.Mode) (ops : Array Oper) (l : Array Bool) : Prop := ∀ j o, ops[j]? = some o → l.getD j false = true → ∀ e ∈ o.after, Region.binds md e = true → l.getD e.on false = true
def closedB (md : Region.Mode) (ops : Array Oper) (l : Array Bool) : Bool := (List.range ops.size).all fun j => !l.getD j false || (ops.getD j default).after.all fun e => !Region.binds md e || l.getD e.on false
theorem closed_of {md : Region.Mode} {ops : Array Oper} {l : Array Bool} (h : closedB md ops l = true) : Closed md ops l := fun j o ho hj e he hb => by
  have hlt := (Array.getElem?_eq_some_iff.1 ho).1
  have h1 := List.all_eq_true.1 h j (List.mem_range.2 hlt)
  have ho' : ops.getD j default = o := by rw [Array.getD_eq_getD_getElem?, ho]; rfl
  rw [hj, ho'] at h1
  simp only [Bool.not_true, Bool.false_or] at h1
  have h2 := Array.all_eq_true_iff_forall_mem.1 h1 e he
  rw [hb] at h2
  simpa using h2
/-- number j waits for number i, at once or by one between -/
def waits (md : Region.Mode) (ops : Array Oper) (j i : Nat) : Bool := (ops.getD j default).after.any fun e => Region.binds md e && (e.on == i || (ops.getD e.on default).after.any fun e' => Region.binds md e' && e'.on == i)
theorem Closed.set {md : Region.Mode} {ops : Array Oper} {l : Array Bool} {j : Nat} (h : Closed md ops l) (hj : j ∈ Region.ready md ops l) : Closed md ops (l.setIfInBounds j true) := fun k o ho hk e he hb => by
  by_cases hkj : j = k
  · subst hkj
    obtain ⟨_, o', ho', hall⟩ := mem_ready.1 hj
    rw [ho] at ho'
    cases ho'
    exact getD_set_true (hall e he hb)
  · have hk' : l.getD k false = true := by
      rw [Array.getD_eq_getD_getElem?, Array.getElem?_setIfInBounds_ne hkj] at hk
      rw [Array.getD_eq_getD_getElem?]
      exact hk
    exact getD_set_true (h k o ho hk' e he hb)
theorem late {md : Region.Mode} {ops : Array Oper} {l : Array Bool} {i j : Nat} (hc : Closed md ops l) (hi : l.getD i true = false) (hj : j ∈ Region.ready md ops l) (hw : waits md ops j i = true) : False := by
  obtain ⟨_, o, ho, hall⟩ := mem_ready.1 hj
  have hil : l.getD i false = false := by
    rw [Array.getD_eq_getD_getElem?] at hi ⊢
    cases hx : l[i]? with
    | none => rfl
    | some b => rw [hx] at hi; exact hi
  have ho' : ops.getD j default = o := by rw [Array.getD_eq_getD_getElem?, ho]; rfl
  unfold waits at hw
  rw [ho', Array.any_eq_true] at hw
  obtain ⟨x, hx, h1⟩ := hw
  have hm : o.after[x] ∈ o.after := Array.getElem_mem hx
  generalize o.after[x] = e at h1 hm
  simp only [Bool.and_eq_true, Bool.or_eq_true, beq_iff_eq] at h1
  obtain ⟨hb, h2⟩ := h1
  have hl := hall e hm hb
  rcases h2 with h2 | h2
  · rw [h2, hil] at hl; cases hl
  · rw [Array.any_eq_true] at h2
    obtain ⟨y, hy, h3⟩ := h2
    cases hk : ops[e.on]? with
    | none =>
      have hd : ops.getD e.on default = default := by rw [Array.getD_eq_getD_getElem?, hk]; rfl
      simp only [hd] at hy
      exact (Nat.not_lt_zero y (show y < 0 from hy)).elim
    | some o2 =>
      have hd : ops.getD e.on default = o2 := by rw [Array.getD_eq_getD_getElem?, hk]; rfl
      simp only [hd] at hy h3
      have hm2 : o2.after[y] ∈ o2.after := Array.getElem_mem hy
      generalize o2.after[y] = e2 at h3 hm2
      simp only [Bool.and_eq_true, beq_iff_eq] at h3
      have := hc e.on o2 hk hl e2 hm2 h3.1
      rw [h3.2, hil] at this
      cases this
section
variable {P : Program} {ops : Array Oper} {Q : Exit → Act → World → Prop} {md : Region.Mode} {S : World → Prop} {W : Nat → Bool}
/-- whatever order is picked from here on -/
def Goes (P : Program) (md : Region.Mode) (ops : Array Oper) (Q : Exit → Act → World → Prop) (S : World → Prop) (W : Nat → Bool) : Nat → Array Bool → Act → World → Prop
  | 0, l, a, w => Region.ready md ops l = [] ∧ Q .normal a w
  | n + 1, l, a, w => (Region.ready md ops l = [] → Q .normal a w) ∧ ∀ i ∈ Region.ready md ops l, wpOp P ops Q i (fun a' w' => (W i = false → S w') ∧ Goes P md ops Q S W n (l.setIfInBounds i true) a' w') a w
theorem any_of : ∀ (n : Nat) (l : Array Bool) (a : Act) (w : World), Goes P md ops Q S W n l a w → wpAny P md ops Q n l a w
  | 0, _, _, _, h => h
  | n + 1, _, _, _, h => ⟨h.1, fun i hi => wpOp_mono (fun a' w' h' => any_of n _ a' w' h'.2) (h.2 i hi)⟩
theorem first {i : Nat} {oi : Oper} {v : Value} (hi : ops[i]? = some oi) (hsel : ∀ (j : Nat) (o : Oper) cs b, ops[j]? = some o → o.op ≠ .select cs b) (hQ : ∀ c a w, Q (.panic c) (a.put oi.dst v) w → Q (.panic c) a w)
    (hW : ∀ j, W j = true → waits md ops j i = true) (hWi : W i = false) : ∀ (n : Nat) (l : Array Bool) (a : Act) (w : World),
    (∀ j oj, ops[j]? = some oj → j ≠ i → l.getD j true = false → (∀ e ∈ oj.after, Region.binds md e = true → e.on ≠ i) → oi.apart ops oj = true) → Closed md ops l →
    i ∈ Region.ready md ops l → YieldsIf P ops S oi v a → S w → Goes P md ops Q S W n (l.setIfInBounds i true) (a.put oi.dst v) w → Goes P md ops Q S W (n + 1) l a w := by
  intro n
  induction n with
  | zero =>
    intro l a w _ _ hr hy hS H
    constructor
    · intro h0; rw [h0] at hr; cases hr
    intro j hj
    by_cases hji : j = i
    · subst hji
      exact hy.wpOp hi hS ⟨fun _ => hS, H⟩
    · exact absurd (ready_mono hj hji) (by rw [H.1]; exact List.not_mem_nil)
  | succ n ih =>
    intro l a w hfree hc hr hy hS H
    constructor
    · intro h0; rw [h0] at hr; cases hr
    intro j hj
    by_cases hji : j = i
    · subst hji
      exact hy.wpOp hi hS ⟨fun _ => hS, H⟩
    obtain ⟨hun, oj, hoj, hall⟩ := mem_ready.1 hj
    have hiun := (mem_ready.1 hr).1
    have hno : ∀ e ∈ oj.after, Region.binds md e = true → e.on ≠ i := by
      intro e he hb e1
      have h1 := hall e he hb
      rw [e1] at h1
      have hil : l.getD i false = false := by
        rw [Array.getD_eq_getD_getElem?] at hiun ⊢
        cases hx : l[i]? with
        | none => rfl
        | some b => rw [hx] at hiun; exact hiun
      rw [hil] at h1
      cases h1
    have hWj : W j = false := by
      cases hwj : W j with
      | false => rfl
      | true => exact (late hc hiun hj (hW j hwj)).elim
    have h2 := wpOp_putIf hoj (hfree j oj hoj hji hun hno) (fun cs b => hsel i oi cs b hi) (fun cs b => hsel j oj cs b hoj) hQ hy (H.2 j (ready_mono hj hji))
    refine wpOp_mono ?_ h2
    intro a' w' h3
    refine ⟨h3.2.1, ih (l.setIfInBounds j true) a' w' ?_ (hc.set hj) (ready_mono hr (fun e => hji e.symm)) h3.1 (h3.2.1 hWj) ?_⟩
    · intro k ok hk hki hku hkn
      refine hfree k ok hk hki ?_ hkn
      by_cases hjk : j = k
      · rw [← hjk]; exact hun
      · rwa [getD_set_ne true hjk] at hku
    · rw [Array.setIfInBounds_comm _ _ hji]
      exact h3.2.2
/-- all that W names wait for number i -/
def lateB (_W : Nat → Bool) (md : Region.Mode) (ops : Array Oper) (ws : List Nat) (i : Nat) : Bool := ws.all fun j => waits md ops j i
theorem take {i : Nat} {oi : Oper} {v : Value} {n : Nat} {l : Array Bool} {a : Act} {w : World} {ws : List Nat} (hws : W = fun j => ws.contains j) (hi : ops[i]? = some oi) (hs : Region.noSelect ops = true) (hf : Region.free md ops l i = true) (hr : (Region.ready md ops l).contains i = true) (hcl : closedB md ops l = true) (hl : lateB W md ops ws i = true) (hni : ws.contains i = false)
    (hQ : ∀ c a w, Q (.panic c) (a.put oi.dst v) w → Q (.panic c) a w) (hy : YieldsIf P ops S oi v a) (hS : S w) (h : Goes P md ops Q S W n (l.setIfInBounds i true) (a.put oi.dst v) w) : Goes P md ops Q S W (n + 1) l a w := by
  refine first hi (Region.noSelect_spec hs) hQ (fun j hj => ?_) (by rw [hws]; exact hni) n l a w (Region.free_spec hi hf) (closed_of hcl) (by simpa using hr) hy hS h
  rw [hws] at hj
  exact List.all_eq_true.1 hl j (by simpa using hj)
/-- a step: what follows is behind K -/
def Step (P : Program) (md : Region.Mode) (ops : Array Oper) (Q : Exit → Act → World → Prop) (S : World → Prop) (W : Nat → Bool) (n : Nat) (l : Array Bool) (a : Act) (w : World) (i : Nat) : Prop := wpOp P ops Q i (fun a' w' => (W i = false → S w') ∧ Goes P md ops Q S W n (l.setIfInBounds i true) a' w') a w
theorem step {n : Nat} {l : Array Bool} {a : Act} {w : World} {i : Nat} {o : Oper} (ho : ops[i]? = some o)
    (h : ∀ K : Act → World → Prop, Shut (∀ a w, (W i = false → S w) → ((W i = false → S w) → Goes P md ops Q S W n (l.setIfInBounds i true) a w) → K a w) → if Region.wanted o (yielded ops a.tmps) = true then Oper.wp P o a w K Q else K (a.put o.dst undef) w) : Step P md ops Q S W n l a w i :=
  wpOp_step ho (fun K' hK => h K' (fun a w hS hG => hK a w ⟨hS, hG hS⟩))
theorem stepS {n : Nat} {l : Array Bool} {a : Act} {w : World} {i : Nat} {o : Oper} (ho : ops[i]? = some o)
    (h : ∀ K : Act → World → Prop, Shut (∀ a w, S w → (S w → Goes P md ops Q S W n (l.setIfInBounds i true) a w) → K a w) → if Region.wanted o (yielded ops a.tmps) = true then Oper.wp P o a w K Q else K (a.put o.dst undef) w) : Step P md ops Q S W n l a w i :=
  step ho (fun K hK => h K (fun a w hs hg => hK a w (fun _ => hs) (fun _ => hg hs)))
theorem stepW {n : Nat} {l : Array Bool} {a : Act} {w : World} {i : Nat} {o : Oper} (hi : W i = true) (ho : ops[i]? = some o)
    (h : ∀ K : Act → World → Prop, Shut (∀ a w, Goes P md ops Q S W n (l.setIfInBounds i true) a w → K a w) → if Region.wanted o (yielded ops a.tmps) = true then Oper.wp P o a w K Q else K (a.put o.dst undef) w) : Step P md ops Q S W n l a w i :=
  step ho (fun K hK => h K (fun a w hg => hK a w (fun hf => by rw [hi] at hf; cases hf) (fun _ => hg)))
theorem one {n i : Nat} {l : Array Bool} {a : Act} {w : World} (hr : Region.ready md ops l = [i]) (h : Step P md ops Q S W n l a w i) : Goes P md ops Q S W (n + 1) l a w :=
  ⟨fun h0 => by rw [hr] at h0; (cases h0), fun j hj => by rw [hr] at hj; simp only [List.mem_cons, List.not_mem_nil, or_false] at hj; subst hj; exact h⟩
theorem two {n i j : Nat} {l : Array Bool} {a : Act} {w : World} (hr : Region.ready md ops l = [i, j]) (h : Step P md ops Q S W n l a w i) (h' : Step P md ops Q S W n l a w j) : Goes P md ops Q S W (n + 1) l a w :=
  ⟨fun h0 => by rw [hr] at h0; (cases h0), fun k hk => by rw [hr] at hk; simp only [List.mem_cons, List.not_mem_nil, or_false] at hk; rcases hk with rfl | rfl; exact h; exact h'⟩
theorem done {l : Array Bool} {a : Act} {w : World} (hr : Region.ready md ops l = []) (h : Q .normal a w) : ∀ n, Goes P md ops Q S W n l a w
  | 0 => ⟨hr, h⟩
  | _ + 1 => ⟨fun _ => h, by rw [hr]; intro i hi; cases hi⟩
theorem start {id : Nat} {a : Act} {w : World} (hm : P.follows .mixedOrders = true) (hS : S w.drew) (h : S w.drew → Goes P .any ops Q S W ops.size (Array.replicate ops.size false) a w.drew) : (Code.region id ops true).wp P Q a w := wp_region_any hm (any_of _ _ _ _ (h hS))
end
end Go.Proofs.YtmlhipdfjnamiaaGreat.Two
