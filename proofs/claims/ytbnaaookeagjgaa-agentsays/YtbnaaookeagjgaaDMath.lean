/- Of steps from one table to another one: done one after the other they leave the rest, and each lock in between is one. Nothing of the program is named here. -/
import Derived.Test.YtbnaaookeagjgaaDSpec
namespace Go.Proofs.Ytbnaaookeagjgaa
namespace Dk
open Lk
/-- a step's place in a table -/
def putO (t : List Int) (o : Int × Int × Int) : List Int := t.set o.2.1.toNat o.2.2
theorem putO_len (t : List Int) (o : Int × Int × Int) : (putO t o).length = t.length := by simp [putO]
theorem putO_get (t : List Int) (o : Int × Int × Int) (n : Nat) (h : n < t.length) : (putO t o).getD n 0 = if o.2.1.toNat = n then o.2.2 else t.getD n 0 := by
  unfold putO
  by_cases e : o.2.1.toNat = n
  · rw [if_pos e, List.getD_eq_getElem?_getD, e, List.getElem?_set_self h]; rfl
  · rw [if_neg e, List.getD_eq_getElem?_getD, List.getElem?_set_ne e, ← List.getD_eq_getElem?_getD]
theorem fm_strike {β : Type} {f g : Nat → Option β} {m : Nat} {o : β} (hm : f m = some o) (hi : ∀ n, f n = some o → n = m) (hg : g m = none) (hn : ∀ n, n ≠ m → g n = f n) :
    ∀ (l : List Nat) (r : List β), l.Nodup → l.filterMap f = o :: r → l.filterMap g = r := by
  intro l
  induction l with
  | nil => intro r _ h; cases h
  | cons x q ih =>
    intro r hd h
    rw [List.nodup_cons] at hd
    rw [List.filterMap_cons] at h ⊢
    cases hx : f x with
    | none =>
      rw [hx] at h
      have : x ≠ m := fun e => by rw [e, hm] at hx; cases hx
      rw [hn x this, hx]
      exact ih r hd.2 h
    | some y =>
      rw [hx] at h
      simp only [List.cons.injEq] at h
      have e : x = m := hi x (by rw [hx, h.1])
      rw [e, hg, ← h.2]
      refine fm_congr fun z hz => hn z fun e' => hd.1 ?_
      rw [e, ← e']; exact hz
theorem fm_nil {α β : Type} {f : α → Option β} {l : List α} (h : l.filterMap f = []) : ∀ x ∈ l, f x = none := by
  induction l with
  | nil => intro x hx; cases hx
  | cons a r ih =>
    intro x hx
    rw [List.filterMap_cons] at h
    cases ha : f a with
    | some y => rw [ha] at h; cases h
    | none =>
      rw [ha] at h
      rcases List.mem_cons.1 hx with rfl | hx
      · exact ha
      · exact ih h x hx
theorem dropAt_some {A B : List Int} {n : Nat} {o : Int × Int × Int} (h : dropAt A B n = some o) : o = (2, (n : Int), 0) ∧ B.getD n 0 = 0 ∧ A.getD n 0 ≠ 0 := by
  unfold dropAt at h
  split at h
  · cases h
  · split at h
    · cases h; exact ⟨rfl, by assumption, by omega⟩
    · cases h
theorem restAt_some {A B : List Int} {n : Nat} {o : Int × Int × Int} (h : restAt A B n = some o) : o = ((if A.getD n 0 = 0 then 1 else 3), (n : Int), B.getD n 0) ∧ B.getD n 0 ≠ 0 ∧ A.getD n 0 ≠ B.getD n 0 := by
  unfold restAt at h
  split at h
  · cases h
  · split at h
    · cases h
    · split at h
      · cases h; rename_i e; exact ⟨by rw [if_pos e], by assumption, by assumption⟩
      · cases h; rename_i e; exact ⟨by rw [if_neg e], by assumption, by assumption⟩
theorem mem_drops {A B : List Int} {k : Nat} {o : Int × Int × Int} (h : o ∈ drops A B k) : ∃ n : Nat, n < k ∧ dropAt A B n = some o := by
  obtain ⟨n, hn, e⟩ := List.mem_filterMap.1 h
  exact ⟨n, by simpa using hn, e⟩
theorem mem_rests {A B : List Int} {k : Nat} {o : Int × Int × Int} (h : o ∈ rests A B k) : ∃ n : Nat, n < k ∧ restAt A B n = some o := by
  obtain ⟨n, hn, e⟩ := List.mem_filterMap.1 h
  exact ⟨n, by simpa using hn, e⟩
/-- what each step says -/
theorem mem_steps {A B : List Int} {o : Int × Int × Int} (h : o ∈ steps A B) : ∃ n : Nat, n < 21 ∧ o = ((if B.getD n 0 = 0 then 2 else if A.getD n 0 = 0 then 1 else 3), (n : Int), B.getD n 0) ∧ A.getD n 0 ≠ B.getD n 0 := by
  rcases List.mem_append.1 h with h | h
  · obtain ⟨n, hn, e⟩ := mem_drops h
    obtain ⟨h1, h2, h3⟩ := dropAt_some e
    exact ⟨n, hn, by rw [if_pos h2, h1, h2], by omega⟩
  · obtain ⟨n, hn, e⟩ := mem_rests h
    obtain ⟨h1, h2, h3⟩ := restAt_some e
    exact ⟨n, hn, by rw [if_neg h2, h1], h3⟩
theorem steps_nil {A B : List Int} (hA : A.length = 21) (hB : B.length = 21) (h : steps A B = []) : A = B := by
  rw [steps, List.append_eq_nil_iff] at h
  refine list_ext21 hA hB fun n hn => ?_
  have h1 := fm_nil h.1 n (by simpa using hn)
  have h2 := fm_nil h.2 n (by simpa using hn)
  unfold dropAt at h1
  unfold restAt at h2
  split at h1
  · assumption
  · rename_i e
    rw [if_neg e] at h2
    split at h1
    · cases h1
    · rename_i e2
      rw [if_neg e2] at h2
      split at h2 <;> cases h2
theorem steps_self (A : List Int) : steps A A = [] := by
  cases h : steps A A with
  | nil => rfl
  | cons o r =>
    obtain ⟨n, _, _, h⟩ := mem_steps (A := A) (B := A) (o := o) (by rw [h]; simp)
    exact absurd rfl h
/-- one step done leaves the others -/
theorem steps_cons {A B : List Int} (hA : A.length = 21) {o : Int × Int × Int} {r : List (Int × Int × Int)} (h : steps A B = o :: r) : steps (putO A o) B = r := by
  have hn : ∀ n m : Nat, n ≠ m → o.2.1 = (m : Int) → (putO A o).getD n 0 = A.getD n 0 := fun n m e e1 => by
    unfold putO
    rw [List.getD_eq_getElem?_getD, List.getElem?_set_ne (by omega), ← List.getD_eq_getElem?_getD]
  have hm : ∀ m : Nat, m < 21 → o.2.1 = (m : Int) → (putO A o).getD m 0 = o.2.2 := fun m hm e1 => by
    rw [putO_get A o m (by omega), if_pos (by omega)]
  rw [steps] at h
  cases hd : drops A B 21 with
  | nil =>
    rw [hd, List.nil_append] at h
    obtain ⟨m, hm1, hm2⟩ := mem_rests (A := A) (B := B) (k := 21) (o := o) (by rw [h]; simp)
    obtain ⟨e1, e2, e3⟩ := restAt_some hm2
    have eo : o.2.1 = (m : Int) := by rw [e1]
    have ev : o.2.2 = B.getD m 0 := by rw [e1]
    have d' : drops (putO A o) B 21 = [] := by
      rw [← hd]
      refine fm_congr fun n _ => ?_
      unfold dropAt
      by_cases e : n = m
      · subst e; rw [if_neg e2, ite_self, ite_self]
      · rw [hn n m e eo]
    rw [steps, d', List.nil_append]
    refine fm_strike hm2 ?_ ?_ ?_ _ _ List.nodup_range h
    · intro n hn'
      obtain ⟨e1', _, _⟩ := restAt_some hn'
      have : (n : Int) = m := by rw [← eo, e1']
      omega
    · unfold restAt; rw [hm m hm1 eo, ev, if_pos rfl]
    · intro n e; unfold restAt; rw [hn n m e eo]
  | cons o' d =>
    rw [hd, List.cons_append] at h
    simp only [List.cons.injEq] at h
    obtain ⟨rfl, h⟩ := h
    obtain ⟨m, hm1, hm2⟩ := mem_drops (A := A) (B := B) (k := 21) (o := o') (by rw [hd]; simp)
    obtain ⟨e1, e2, e3⟩ := dropAt_some hm2
    have eo : o'.2.1 = (m : Int) := by rw [e1]
    have ev : o'.2.2 = B.getD m 0 := by rw [e1, e2]
    have d' : drops (putO A o') B 21 = d := by
      refine fm_strike hm2 ?_ ?_ ?_ _ _ List.nodup_range hd
      · intro n hn'
        obtain ⟨e1', _, _⟩ := dropAt_some hn'
        have : (n : Int) = m := by rw [← eo, e1']
        omega
      · unfold dropAt; rw [hm m hm1 eo, ev, if_pos rfl]
      · intro n e; unfold dropAt; rw [hn n m e eo]
    have r' : rests (putO A o') B 21 = rests A B 21 := by
      refine fm_congr fun n _ => ?_
      unfold restAt
      by_cases e : n = m
      · subst e; rw [if_pos e2, ite_self, if_pos e2, ite_self]
      · rw [hn n m e eo]
    rw [steps, d', r', h]
theorem fm_len_le {f g : Nat → Option (Int × Int)} {l : List Nat} (h : ∀ n ∈ l, (f n).isSome = true → (g n).isSome = true) : (l.filterMap f).length ≤ (l.filterMap g).length := by
  induction l with
  | nil => simp
  | cons x q ih =>
    have ihq := ih fun n hn => h n (by simp [hn])
    have hx := h x (by simp)
    rw [List.filterMap_cons, List.filterMap_cons]
    cases hf : f x with
    | none =>
      cases g x with
      | none => exact ihq
      | some b => exact Nat.le_succ_of_le ihq
    | some a =>
      rw [hf] at hx
      obtain ⟨b, hb⟩ := Option.isSome_iff_exists.1 (hx rfl)
      rw [hb]
      exact Nat.succ_le_succ ihq
theorem fm_len_lt {f g : Nat → Option (Int × Int)} {l : List Nat} (h : ∀ n ∈ l, (f n).isSome = true → (g n).isSome = true) {m : Nat} (hm : m ∈ l) (hf : f m = none) (hg : (g m).isSome = true) : (l.filterMap f).length < (l.filterMap g).length := by
  induction l with
  | nil => cases hm
  | cons x q ih =>
    have hx := h x (by simp)
    have hq : ∀ n ∈ q, (f n).isSome = true → (g n).isSome = true := fun n hn => h n (by simp [hn])
    rw [List.filterMap_cons, List.filterMap_cons]
    by_cases e : x = m
    · obtain ⟨b, hb⟩ := Option.isSome_iff_exists.1 hg
      rw [e, hf, hb]
      exact Nat.lt_succ_of_le (fm_len_le hq)
    · have ihq := ih hq (by rcases List.mem_cons.1 hm with h | h; exact absurd h.symm e; exact h)
      cases hf : f x with
      | none =>
        cases g x with
        | none => exact ihq
        | some b => exact Nat.lt_succ_of_lt ihq
      | some a =>
        rw [hf] at hx
        obtain ⟨b, hb⟩ := Option.isSome_iff_exists.1 (hx rfl)
        rw [hb]
        exact Nat.succ_lt_succ ihq
theorem pinAt_some (t : List Int) (n : Nat) : (pinAt t n).isSome = true ↔ t.getD n 0 ≠ 0 := by
  unfold pinAt
  split
  · rename_i h; exact ⟨(fun e => by cases e), fun e => absurd h e⟩
  · rename_i h; exact ⟨fun _ => h, fun _ => rfl⟩
theorem pins_le {s t : List Int} (h : ∀ n, n < 21 → s.getD n 0 ≠ 0 → t.getD n 0 ≠ 0) : (pinsOf s).length ≤ (pinsOf t).length :=
  fm_len_le fun n hn hs => (pinAt_some t n).2 (h n (by simpa using hn) ((pinAt_some s n).1 hs))
theorem pins_lt {s t : List Int} (h : ∀ n, n < 21 → s.getD n 0 ≠ 0 → t.getD n 0 ≠ 0) {m : Nat} (hm : m < 21) (h1 : s.getD m 0 = 0) (h2 : t.getD m 0 ≠ 0) : (pinsOf s).length < (pinsOf t).length :=
  fm_len_lt (fun n hn hs => (pinAt_some t n).2 (h n (by simpa using hn) ((pinAt_some s n).1 hs))) (m := m) (by simpa using hm) (by rw [pinAt, if_pos h1]) ((pinAt_some t m).2 h2)
/-- a table of a lock -/
def good (t : List Int) : Prop := okTab t ∧ (pinsOf t).length ≤ 12
theorem good_chk {t : List Int} (h : good t) : chk (pinsOf t) = 0 := srt_chk h.2 (srt_pinsOf h.1)
theorem good_tb {l : List (Int × Int)} (h : chk l = 0) : good (tb l) := by
  obtain ⟨h1, h2⟩ := chk_srt h
  exact ⟨okTab_tb h2, by rw [pinsOf_tb h2]; exact h1⟩
theorem pins_tb {l : List (Int × Int)} (h : chk l = 0) : pinsOf (tb l) = l := pinsOf_tb (chk_srt h).2
/-- the next step, and what it does -/
theorem step_first {A B : List Int} (hA : good A) (hB : good B) {o : Int × Int × Int} {r : List (Int × Int × Int)} (h : steps A B = o :: r) :
    ∃ n : Nat, 1 ≤ n ∧ n ≤ 20 ∧ o = ((if B.getD n 0 = 0 then 2 else if A.getD n 0 = 0 then 1 else 3), (n : Int), B.getD n 0) ∧ A.getD n 0 ≠ B.getD n 0 ∧ good (putO A o) ∧ (A.getD n 0 = 0 → (pinsOf A).length < 12) := by
  obtain ⟨n, hn, ho, hne⟩ := mem_steps (A := A) (B := B) (o := o) (by rw [h]; simp)
  have h1 : 1 ≤ n := by
    rcases Nat.eq_zero_or_pos n with e | e
    · subst e; exact absurd (hA.1.2.1.trans hB.1.2.1.symm) hne
    · exact e
  have hl : A.length = 21 := hA.1.1
  have eo : o.2.1.toNat = n := by rw [ho]; simp
  have ev : o.2.2 = B.getD n 0 := by rw [ho]
  have hok : okTab (putO A o) := by
    refine ⟨by rw [putO_len]; exact hl, ?_, fun k hk => ?_⟩
    · rw [putO_get A o 0 (by omega), if_neg (by omega)]; exact hA.1.2.1
    · rw [putO_get A o k (by omega)]
      split
      · rename_i e; rw [ev]; exact hB.1.2.2 n hn
      · exact hA.1.2.2 k hk
  by_cases e2 : B.getD n 0 = 0
  · refine ⟨n, h1, by omega, ho, hne, ⟨hok, ?_⟩, fun h => by omega⟩
    refine Nat.le_trans (pins_le (t := A) fun k hk hs => ?_) hA.2
    rw [putO_get A o k (by omega)] at hs
    split at hs
    · rw [ev] at hs; exact absurd e2 hs
    · exact hs
  · have hd : drops A B 21 = [] := by
      rw [steps] at h
      cases hd : drops A B 21 with
      | nil => rfl
      | cons o' d =>
        exfalso
        rw [hd, List.cons_append] at h
        simp only [List.cons.injEq] at h
        obtain ⟨m, hm1, hm2⟩ := mem_drops (A := A) (B := B) (k := 21) (o := o') (by rw [hd]; simp)
        obtain ⟨e1, e2', e3⟩ := dropAt_some hm2
        have : (m : Int) = n := by
          have h1 : o'.2.1 = (m : Int) := by rw [e1]
          have h2 : o.2.1 = (n : Int) := by rw [ho]
          rw [← h1, ← h2, h.1]
        have : m = n := by omega
        subst this
        exact e2 e2'
    have hz : ∀ k, k < 21 → A.getD k 0 ≠ 0 → B.getD k 0 ≠ 0 := fun k hk ha hb => by
      have := fm_nil hd k (by simpa using hk)
      unfold dropAt at this
      rw [if_neg (by omega), if_pos hb] at this
      cases this
    refine ⟨n, h1, by omega, ho, hne, ⟨hok, ?_⟩, fun ha => Nat.lt_of_lt_of_le (pins_lt hz hn ha e2) hB.2⟩
    refine Nat.le_trans (pins_le (t := B) fun k hk hs => ?_) hB.2
    rw [putO_get A o k (by omega)] at hs
    split at hs
    · rename_i e; rw [← e, eo]; exact e2
    · exact hz k hk hs
/-- what is wrong with a step -/
def opErr (o : Int × Int × Int) : Int :=
  if 1 ≤ o.1 ∧ o.1 ≤ 3 then (if (1 ≤ o.2.1 ∧ o.2.1 ≤ 20) ∧ (if o.1 = 2 then o.2.2 = 0 else 1 ≤ o.2.2 ∧ o.2.2 ≤ 99) then 0 else 3) else 4
/-- why a step can't be done to l -/
def fitErr (l : List (Int × Int)) (o : Int × Int × Int) : Int :=
  if find o.2.1 l = 0 then (if o.1 = 1 then (if 12 ≤ l.length then 2 else 0) else 5) else (if o.1 = 1 then 6 else 0)
def applyErr (l : List (Int × Int)) (o : Int × Int × Int) : Int := if chk l = 0 then (if opErr o = 0 then fitErr l o else opErr o) else chk l
def applied (l : List (Int × Int)) (o : Int × Int × Int) : List (Int × Int) := if applyErr l o = 0 then pinsOf (putO (tb l) o) else []
def diffErr (a b : List (Int × Int)) : Int := if chk a = 0 then chk b else chk a
def diffed (a b : List (Int × Int)) : List (Int × Int × Int) := if diffErr a b = 0 then steps (tb a) (tb b) else []
/-- after how many steps a table is another one -/
def wayFrom (t L : List Int) : List (Int × Int × Int) → Int → Int
  | [], k => if t = L then k else -1
  | o :: r, k => if t = L then k else wayFrom (putO t o) L r (k + 1)
def betweenErr (a b l : List (Int × Int)) : Int := if diffErr a b = 0 then chk l else diffErr a b
def between (a b l : List (Int × Int)) : Int := if betweenErr a b l = 0 then wayFrom (tb a) (tb l) (steps (tb a) (tb b)) 0 else 0
theorem apply_step {A B : List Int} (hA : good A) (hB : good B) {o : Int × Int × Int} {r : List (Int × Int × Int)} (h : steps A B = o :: r) :
    applyErr (pinsOf A) o = 0 ∧ applied (pinsOf A) o = pinsOf (putO A o) ∧ good (putO A o) := by
  obtain ⟨n, h1, h2, ho, hne, hg, hl⟩ := step_first hA hB h
  have hc := good_chk hA
  have hf : find o.2.1 (pinsOf A) = A.getD n 0 := by
    rw [ho]
    show find (n : Int) (pinsOf A) = _
    rw [← tb_get (pinsOf A) n (by omega), tb_pinsOf hA.1.1]
  have he : opErr o = 0 := by
    have hb := hB.1.2.2 n (by omega)
    unfold opErr
    rw [ho]
    by_cases e : B.getD n 0 = 0
    · simp only [if_pos e]; rw [if_pos (by omega), if_pos ⟨by omega, by rw [if_pos trivial]; exact e⟩]
    · simp only [if_neg e]
      by_cases e' : A.getD n 0 = 0
      · simp only [if_pos e']; rw [if_pos (by omega), if_pos ⟨by omega, by rw [if_neg (by omega)]; omega⟩]
      · simp only [if_neg e']; rw [if_pos (by omega), if_pos ⟨by omega, by rw [if_neg (by omega)]; omega⟩]
  have hx : fitErr (pinsOf A) o = 0 := by
    unfold fitErr
    rw [hf]
    by_cases e : A.getD n 0 = 0
    · have : o.1 = 1 := by rw [ho]; simp only []; rw [if_neg (by omega), if_pos e]
      rw [if_pos e, if_pos this, if_neg (by have := hl e; omega)]
    · have : o.1 ≠ 1 := by
        rw [ho]; simp only []; rw [if_neg e]; split <;> decide
      rw [if_neg e, if_neg this]
  have ha : applyErr (pinsOf A) o = 0 := by rw [applyErr, if_pos hc, if_pos he, hx]
  exact ⟨ha, by rw [applied, if_pos ha, tb_pinsOf hA.1.1], hg⟩
/-- steps that are done -/
def after (t : List Int) (os : List (Int × Int × Int)) : List Int := os.foldl putO t
theorem after_take (t : List Int) (os : List (Int × Int × Int)) (i : Nat) (o : Int × Int × Int) (h : os[i]? = some o) : after t (os.take (i + 1)) = putO (after t (os.take i)) o := by
  rw [List.take_add_one, h, after, List.foldl_append]; rfl
theorem drop_cons {α : Type} {os : List α} {i : Nat} {o : α} (h : os[i]? = some o) : os.drop i = o :: os.drop (i + 1) := by
  obtain ⟨hi, e⟩ := List.getElem?_eq_some_iff.1 h
  rw [List.drop_eq_getElem_cons hi, e]
/-- all on the way: the table behind i steps is a lock's, and the steps from there are the rest -/
theorem on_way {A B : List Int} (hA : good A) (hB : good B) : ∀ i, i ≤ (steps A B).length → good (after A ((steps A B).take i)) ∧ steps (after A ((steps A B).take i)) B = (steps A B).drop i := by
  intro i
  induction i with
  | zero => intro _; exact ⟨hA, rfl⟩
  | succ i ih =>
    intro hi
    obtain ⟨h1, h2⟩ := ih (by omega)
    have hs : (steps A B)[i]? = some (steps A B)[i] := List.getElem?_eq_getElem (by omega)
    rw [after_take A _ i _ hs]
    rw [drop_cons hs] at h2
    exact ⟨(apply_step h1 hB h2).2.2, steps_cons h1.1.1 h2⟩
theorem way_at {A B : List Int} (hA : good A) (hB : good B) (i : Nat) (hi : i ≤ (steps A B).length) : ∀ j k : Nat, j + k = i → wayFrom (after A ((steps A B).take j)) (after A ((steps A B).take i)) ((steps A B).drop j) j = i := by
  intro j k
  induction k generalizing j with
  | zero =>
    intro h
    have : j = i := by omega
    subst this
    cases (steps A B).drop j with
    | nil => rw [wayFrom, if_pos rfl]
    | cons o r => rw [wayFrom, if_pos rfl]
  | succ k ih =>
    intro h
    have hs : (steps A B)[j]? = some (steps A B)[j] := List.getElem?_eq_getElem (by omega)
    rw [drop_cons hs, wayFrom, if_neg, ← after_take A _ j _ hs]
    · exact ih (j + 1) (by omega)
    · intro e
      have h1 := (on_way hA hB j (by omega)).2
      rw [e, (on_way hA hB i hi).2] at h1
      have := congrArg List.length h1
      simp only [List.length_drop] at this
      omega
/-- where it isn't on the way, it is neither end -/
theorem way_not {A B L : List Int} (hA : good A) (hB : good B) (h : wayFrom A L (steps A B) 0 = -1) : L ≠ A ∧ L ≠ B := by
  constructor
  · intro e
    have := way_at hA hB 0 (Nat.zero_le _) 0 0 rfl
    simp only [List.take_zero, List.drop_zero] at this
    rw [e] at h
    have e2 : wayFrom A A (steps A B) 0 = 0 := this
    omega
  · intro e
    have := way_at hA hB (steps A B).length (Nat.le_refl _) 0 (steps A B).length (by omega)
    have hw := on_way hA hB (steps A B).length (Nat.le_refl _)
    rw [List.drop_length] at hw
    have e3 : after A ((steps A B).take (steps A B).length) = B := steps_nil hw.1.1.1 hB.1.1 hw.2
    rw [e3] at this
    simp only [List.take_zero, List.drop_zero] at this
    rw [e] at h
    have e2 : wayFrom A B (steps A B) 0 = ((steps A B).length : Int) := this
    omega
/-- a step that was done leaves at most one step back -/
theorem undone {A : List Int} (hA : good A) {o : Int × Int × Int} (hg : good (putO A o)) :
    (steps (putO A o) A = [] ∧ putO A o = A) ∨ ∃ q, steps (putO A o) A = [q] ∧ putO (putO A o) q = A := by
  cases h : steps (putO A o) A with
  | nil => exact .inl ⟨rfl, steps_nil hg.1.1 hA.1.1 h⟩
  | cons q r =>
    obtain ⟨n, _, _, hq, hne, hg2, _⟩ := step_first hg hA h
    have e1 : q.2.1.toNat = n := by rw [hq]; simp
    have e2 : q.2.2 = A.getD n 0 := by rw [hq]
    have hl : A.length = 21 := hA.1.1
    have hl2 : (putO A o).length = 21 := hg.1.1
    have en : o.2.1.toNat = n := by
      rcases Decidable.em (o.2.1.toNat = n) with e | e
      · exact e
      · exfalso
        apply hne
        unfold putO
        rw [List.getD_eq_getElem?_getD, List.getElem?_set_ne e, ← List.getD_eq_getElem?_getD]
    have hb : putO (putO A o) q = A := by
      refine list_ext21 hg2.1.1 hl fun k hk => ?_
      rw [putO_get _ q k (by omega)]
      split
      · rename_i e; rw [e2, ← e1, e]
      · rw [putO_get A o k (by omega), if_neg (by omega)]
    have := steps_cons hg.1.1 h
    rw [hb, steps_self] at this
    exact .inr ⟨q, by rw [this], hb⟩
end Dk
end Go.Proofs.Ytbnaaookeagjgaa
