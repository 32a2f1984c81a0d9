/- Of waves: who stands where, and the first one that isn't through. Plain functions on lists; nothing of the program is named here. -/
namespace Go.Proofs.Ytigblcefpiacmab
namespace Wv
/-- one wave's agents, one by one: the error, and who stood by then -/
def inW (n : Int) : List Int → List Int → Int × List Int
  | seen, [] => (0, seen)
  | seen, a :: r => if 0 ≤ a ∧ a ≤ n - 1 then (if a ∈ seen then (6, seen) else inW n (seen ++ [a]) r) else (5, seen)
/-- wave by wave -/
def go (n : Int) : List Int → List (List Int) → Int
  | seen, [] => if (seen.length : Int) = n then 0 else 4
  | seen, w :: r => if w = [] then 4 else (if (inW n seen w).1 = 0 then go n (inW n seen w).2 r else (inW n seen w).1)
def chk (l : List (List Int)) (n : Int) : Int := if 1 ≤ n ∧ n ≤ 6 then go n [] l else 3
/-- the first wave from k on that has this one -/
def ofFrom (a : Int) : List (List Int) → Int → Int
  | [], _ => -1
  | w :: r, k => if a ∈ w then k else ofFrom a r (k + 1)
def of (l : List (List Int)) (a : Int) : Int := ofFrom a l 0
/-- somebody in it isn't through -/
def isOpen (t : List Bool) (w : List Int) : Bool := w.any fun a => !t.getD a.toNat true
def nowFrom (t : List Bool) : List (List Int) → Int → Int
  | [], k => k
  | w :: r, k => if isOpen t w = true then k else nowFrom t r (k + 1)
def now (l : List (List Int)) (t : List Bool) : Int := nowFrom t l 0
/-- the least wave of those that aren't through, from agent k on -/
def leastFrom (l : List (List Int)) : List Bool → Nat → Int → Int
  | [], _, m => m
  | is :: r, k, m => leastFrom l r (k + 1) (if is = true then m else min m (of l k))
def least (l : List (List Int)) (t : List Bool) : Int := leastFrom l t 0 l.length
theorem inW_ok {n : Int} {w : List Int} : ∀ {seen : List Int}, (inW n seen w).1 = 0 → (inW n seen w).2 = seen ++ w ∧ (∀ a ∈ w, 0 ≤ a ∧ a ≤ n - 1 ∧ a ∉ seen) ∧ w.Nodup := by
  induction w with
  | nil => intro seen _; exact ⟨by simp [inW], (fun a h => by cases h), List.nodup_nil⟩
  | cons a r ih =>
    intro seen h
    rw [inW] at h ⊢
    by_cases h1 : 0 ≤ a ∧ a ≤ n - 1
    · rw [if_pos h1] at h ⊢
      by_cases h2 : a ∈ seen
      · rw [if_pos h2] at h; cases h
      · rw [if_neg h2] at h ⊢
        obtain ⟨e1, e2, e3⟩ := ih h
        refine ⟨by rw [e1]; simp, fun x hx => ?_, ?_⟩
        · rcases List.mem_cons.1 hx with rfl | hx
          · exact ⟨h1.1, h1.2, h2⟩
          · have := e2 x hx
            exact ⟨this.1, this.2.1, fun hs => this.2.2 (by simp [hs])⟩
        · rw [List.nodup_cons]
          exact ⟨fun ha => (e2 a ha).2.2 (by simp), e3⟩
    · rw [if_neg h1] at h; cases h
theorem go_ok {n : Int} {l : List (List Int)} : ∀ {seen : List Int}, seen.Nodup → (∀ a ∈ seen, 0 ≤ a ∧ a ≤ n - 1) → go n seen l = 0 → (seen ++ l.flatten).Nodup ∧ (∀ a ∈ seen ++ l.flatten, 0 ≤ a ∧ a ≤ n - 1) ∧ ((seen ++ l.flatten).length : Int) = n ∧ ∀ w ∈ l, w ≠ [] := by
  induction l with
  | nil =>
    intro seen h1 h2 h
    rw [go] at h
    by_cases hn : (seen.length : Int) = n
    · simpa using ⟨h1, h2, hn⟩
    · rw [if_neg hn] at h; cases h
  | cons w r ih =>
    intro seen h1 h2 h
    rw [go] at h
    by_cases hw : w = []
    · rw [if_pos hw] at h; cases h
    · rw [if_neg hw] at h
      by_cases he : (inW n seen w).1 = 0
      · rw [if_pos he] at h
        obtain ⟨e1, e2, e3⟩ := inW_ok he
        rw [e1] at h
        have hnd : (seen ++ w).Nodup := by
          rw [List.nodup_append]
          exact ⟨h1, e3, fun a ha b hb e => (e2 b hb).2.2 (by rw [← e]; exact ha)⟩
        have hin : ∀ a ∈ seen ++ w, 0 ≤ a ∧ a ≤ n - 1 := fun a ha => by
          rcases List.mem_append.1 ha with ha | ha
          · exact h2 a ha
          · exact ⟨(e2 a ha).1, (e2 a ha).2.1⟩
        obtain ⟨i1, i2, i3, i4⟩ := ih hnd hin h
        rw [List.append_assoc] at i1 i2 i3
        refine ⟨by simpa using i1, fun a ha => i2 a (by simpa using ha), by simpa using i3, fun x hx => ?_⟩
        rcases List.mem_cons.1 hx with rfl | hx
        · exact hw
        · exact i4 x hx
      · rw [if_neg he] at h; exact absurd h he
theorem nodup_le {m : Nat} : ∀ {L : List Int}, L.Nodup → (∀ x ∈ L, 0 ≤ x ∧ x < m) → L.length ≤ m := by
  induction m with
  | zero =>
    intro L _ h
    cases L with
    | nil => simp
    | cons a r => have := h a (by simp); omega
  | succ m ih =>
    intro L hd h
    by_cases hm : (m : Int) ∈ L
    · have h1 := List.length_erase_of_mem hm
      have h2 := ih (hd.erase (m : Int)) (fun x hx => by
        have h3 := (hd.mem_erase_iff).1 hx
        have := h x h3.2
        have := h3.1
        omega)
      omega
    · have := ih hd (fun x hx => by
        have := h x hx
        have hne : x ≠ (m : Int) := fun e => hm (by rw [← e]; exact hx)
        omega)
      omega
/-- where waves are right all stand in one -/
theorem all_stand {l : List (List Int)} {n : Int} (h : chk l n = 0) : (1 ≤ n ∧ n ≤ 6) ∧ (∀ w ∈ l, w ≠ [] ∧ ∀ a ∈ w, 0 ≤ a ∧ a ≤ n - 1) ∧ (∀ a : Int, 0 ≤ a → a ≤ n - 1 → ∃ w ∈ l, a ∈ w) ∧ (l.flatten.length : Int) = n := by
  unfold chk at h
  by_cases hn : 1 ≤ n ∧ n ≤ 6
  · rw [if_pos hn] at h
    obtain ⟨h1, h2, h3, h4⟩ := go_ok List.nodup_nil (fun a ha => by cases ha) h
    simp only [List.nil_append] at h1 h2 h3
    refine ⟨hn, fun w hw => ⟨h4 w hw, fun a ha => h2 a (List.mem_flatten.2 ⟨w, hw, ha⟩)⟩, fun a ha hb => ?_, h3⟩
    rcases Classical.em (a ∈ l.flatten) with hm | hm
    · exact List.mem_flatten.1 hm
    · exfalso
      have := nodup_le (m := n.toNat) (L := a :: l.flatten) (List.nodup_cons.2 ⟨hm, h1⟩) (fun x hx => by
        rcases List.mem_cons.1 hx with rfl | hx
        · omega
        · have := h2 x hx; omega)
      simp only [List.length_cons] at this
      omega
  · rw [if_neg hn] at h; cases h
theorem ofFrom_spec {a : Int} {l : List (List Int)} : ∀ {k : Nat}, (∃ w ∈ l, a ∈ w) → ∃ j : Nat, j < l.length ∧ ofFrom a l k = ((k + j : Nat) : Int) ∧ a ∈ l.getD j [] ∧ ∀ i, i < j → a ∉ l.getD i [] := by
  induction l with
  | nil => intro k h; obtain ⟨w, hw, _⟩ := h; cases hw
  | cons w r ih =>
    intro k h
    rw [ofFrom]
    by_cases hw : a ∈ w
    · exact ⟨0, by simp, by rw [if_pos hw]; simp, by simpa using hw, fun i hi => by omega⟩
    · rw [if_neg hw]
      obtain ⟨j, h1, h2, h3, h4⟩ := ih (k := k + 1) (by
        obtain ⟨x, hx, ha⟩ := h
        rcases List.mem_cons.1 hx with rfl | hx
        · exact absurd ha hw
        · exact ⟨x, hx, ha⟩)
      refine ⟨j + 1, by simp; omega, ?_, by simpa using h3, fun i hi => ?_⟩
      · rw [show ((k : Int) + 1) = ((k + 1 : Nat) : Int) from by simp, h2]; congr 1; omega
      · cases i with
        | zero => simpa using hw
        | succ i => simpa using h4 i (by omega)
theorem of_spec {a : Int} {l : List (List Int)} (h : ∃ w ∈ l, a ∈ w) : ∃ j : Nat, j < l.length ∧ of l a = j ∧ a ∈ l.getD j [] ∧ ∀ i, i < j → a ∉ l.getD i [] := by
  obtain ⟨j, h1, h2, h3, h4⟩ := ofFrom_spec (k := 0) h
  exact ⟨j, h1, by rw [of]; simpa using h2, h3, h4⟩
theorem nowFrom_spec {t : List Bool} {l : List (List Int)} : ∀ {k : Nat}, ∃ j : Nat, j ≤ l.length ∧ nowFrom t l k = ((k + j : Nat) : Int) ∧ (∀ i, i < j → isOpen t (l.getD i []) = false) ∧ (j < l.length → isOpen t (l.getD j []) = true) := by
  induction l with
  | nil => intro k; exact ⟨0, by simp, by simp [nowFrom], fun i hi => by omega, fun h => by simp at h⟩
  | cons w r ih =>
    intro k
    rw [nowFrom]
    by_cases hw : isOpen t w = true
    · exact ⟨0, by simp, by rw [if_pos hw]; simp, fun i hi => by omega, fun _ => by simpa using hw⟩
    · rw [if_neg hw]
      obtain ⟨j, h1, h2, h3, h4⟩ := ih (k := k + 1)
      refine ⟨j + 1, by simp; omega, ?_, fun i hi => ?_, fun h => ?_⟩
      · rw [show ((k : Int) + 1) = ((k + 1 : Nat) : Int) from by simp, h2]; congr 1; omega
      · cases i with
        | zero => simpa using hw
        | succ i => simpa using h3 i (by omega)
      · simpa using h4 (by simpa using h)
theorem now_spec (l : List (List Int)) (t : List Bool) : ∃ j : Nat, j ≤ l.length ∧ now l t = j ∧ (∀ i, i < j → isOpen t (l.getD i []) = false) ∧ (j < l.length → isOpen t (l.getD j []) = true) := by
  obtain ⟨j, h1, h2, h3, h4⟩ := nowFrom_spec (t := t) (l := l) (k := 0)
  exact ⟨j, h1, by rw [now]; simpa using h2, h3, h4⟩
theorem open_true {t : List Bool} {w : List Int} (h : isOpen t w = true) : ∃ a ∈ w, t.getD a.toNat true = false := by
  obtain ⟨a, ha, hb⟩ := List.any_eq_true.1 h
  exact ⟨a, ha, by simpa using hb⟩
theorem open_false {t : List Bool} {w : List Int} (h : isOpen t w = false) : ∀ a ∈ w, t.getD a.toNat true = true := fun a ha => by
  have := List.any_eq_false.1 h a ha
  simpa using this
theorem leastFrom_spec {l : List (List Int)} {t : List Bool} : ∀ {k : Nat} {m : Int}, leastFrom l t k m ≤ m ∧ (∀ j, j < t.length → t.getD j true = false → leastFrom l t k m ≤ of l ((k + j : Nat) : Int)) ∧ (leastFrom l t k m = m ∨ ∃ j, j < t.length ∧ t.getD j true = false ∧ leastFrom l t k m = of l ((k + j : Nat) : Int)) := by
  induction t with
  | nil => intro k m; exact ⟨Int.le_refl _, fun j hj => by simp at hj, .inl rfl⟩
  | cons is r ih =>
    intro k m
    rw [leastFrom]
    obtain ⟨h1, h2, h3⟩ := ih (k := k + 1) (m := if is = true then m else min m (of l k))
    have e : ∀ j : Nat, ((k + 1 + j : Nat) : Int) = ((k + (j + 1) : Nat) : Int) := fun j => by congr 1; omega
    cases is with
    | true =>
      simp only [if_true] at h1 h2 h3 ⊢
      refine ⟨h1, fun j hj hb => ?_, ?_⟩
      · cases j with
        | zero => simp at hb
        | succ j => rw [← e]; exact h2 j (by simpa using hj) (by simpa using hb)
      · rcases h3 with h3 | ⟨j, g1, g2, g3⟩
        · exact .inl h3
        · exact .inr ⟨j + 1, by simpa using g1, by simpa using g2, by rw [← e]; exact g3⟩
    | false =>
      simp only [Bool.false_eq_true, if_false] at h1 h2 h3 ⊢
      refine ⟨Int.le_trans h1 (Int.min_le_left _ _), fun j hj hb => ?_, ?_⟩
      · cases j with
        | zero => exact Int.le_trans h1 (Int.min_le_right _ _)
        | succ j => rw [← e]; exact h2 j (by simpa using hj) (by simpa using hb)
      · rcases h3 with h3 | ⟨j, g1, g2, g3⟩
        · rcases Int.le_total m (of l k) with h | h
          · exact .inl (h3.trans (Int.min_eq_left h))
          · exact .inr ⟨0, by simp, rfl, by simpa using h3.trans (Int.min_eq_right h)⟩
        · exact .inr ⟨j + 1, by simpa using g1, by simpa using g2, by rw [← e]; exact g3⟩
/-- the two ways to tell the first wave that isn't through agree -/
theorem now_least {l : List (List Int)} {t : List Bool} (h : chk l t.length = 0) : least l t = now l t := by
  obtain ⟨hn, hw, hall, _⟩ := all_stand h
  obtain ⟨j, h1, h2, h3, h4⟩ := now_spec l t
  obtain ⟨g1, g2, g3⟩ := leastFrom_spec (l := l) (t := t) (k := 0) (m := (l.length : Int))
  rw [h2, least]
  have lower : ∀ a : Nat, a < t.length → t.getD a true = false → (j : Int) ≤ of l a := fun a ha hb => by
    obtain ⟨i, i1, i2, i3, _⟩ := of_spec (hall a (by omega) (by omega))
    rw [i2]
    rcases Nat.lt_or_ge i j with hij | hij
    · have := open_false (h3 i hij) a i3
      rw [Int.toNat_natCast, hb] at this
      cases this
    · omega
  have hup : (j : Int) ≤ leastFrom l t 0 l.length := by
    rcases g3 with g3 | ⟨a, a1, a2, a3⟩
    · rw [g3]; omega
    · rw [a3]; simpa using lower a a1 a2
  have hdn : leastFrom l t 0 l.length ≤ j := by
    rcases Nat.lt_or_ge j l.length with hj | hj
    · obtain ⟨a, ha, hb⟩ := open_true (h4 hj)
      have hmem : l.getD j [] ∈ l := by rw [List.getD_eq_getElem?_getD, List.getElem?_eq_getElem hj]; exact List.getElem_mem hj
      obtain ⟨r1, r2⟩ := (hw _ hmem).2 a ha
      have hlt : a.toNat < t.length := by omega
      have := g2 a.toNat hlt hb
      rw [Nat.zero_add, Int.toNat_of_nonneg r1] at this
      obtain ⟨i, i1, i2, i3, i4⟩ := of_spec (hall a r1 r2)
      have hij : i ≤ j := by
        rcases Nat.lt_or_ge j i with hji | hji
        · exact absurd ha (i4 j hji)
        · exact hji
      rw [i2] at this
      omega
    · have : j = l.length := by omega
      rw [this]; exact g1
  omega
end Wv
end Go.Proofs.Ytigblcefpiacmab
