/- Of rules and what mends a table by them: the least table that keeps all rules. Plain functions on lists; nothing of the program is named here. -/
import Derived.Test.YtjedjanlmjolkabDMath
namespace Go.Proofs.Ytjedjanlmjolkab
namespace Rk
open Lk Dk
/-- a rule: Name, Version, With, Least -/
abbrev Rl := Int × Int × Int × Int
def inR (r : Rl) : Prop := (1 ≤ r.1 ∧ r.1 ≤ 20) ∧ (1 ≤ r.2.2.1 ∧ r.2.2.1 ≤ 20) ∧ (1 ≤ r.2.1 ∧ r.2.1 ≤ 99) ∧ (1 ≤ r.2.2.2 ∧ r.2.2.2 ≤ 99)
instance (r : Rl) : Decidable (inR r) := by unfold inR; exact inferInstance
/-- what is wrong with rules, one by one -/
def rchkFrom : List Rl → Int
  | [] => 0
  | r :: q => if inR r then (if r.2.2.1 = r.1 then 4 else rchkFrom q) else 3
def rchk (l : List Rl) : Int := if 10 < l.length then 2 else rchkFrom l
theorem rchkFrom_ok {l : List Rl} : rchkFrom l = 0 ↔ ∀ r ∈ l, inR r ∧ r.2.2.1 ≠ r.1 := by
  induction l with
  | nil => simp [rchkFrom]
  | cons r q ih =>
    rw [rchkFrom]
    by_cases h : inR r
    · rw [if_pos h]
      by_cases h2 : r.2.2.1 = r.1
      · rw [if_pos h2]
        exact ⟨(fun e => by cases e), fun e => absurd h2 (e r (by simp)).2⟩
      · rw [if_neg h2, ih]
        exact ⟨fun e x hx => by rcases List.mem_cons.1 hx with rfl | hx; exact ⟨h, h2⟩; exact e x hx, fun e x hx => e x (by simp [hx])⟩
    · rw [if_neg h]
      exact ⟨(fun e => by cases e), fun e => absurd (e r (by simp)).1 h⟩
/-- rules that are right -/
def ruleOk (l : List Rl) : Prop := ∀ r ∈ l, inR r
theorem rchk_ok {l : List Rl} (h : rchk l = 0) : l.length ≤ 10 ∧ ruleOk l := by
  unfold rchk at h
  split at h
  · cases h
  · exact ⟨by omega, fun r hr => (rchkFrom_ok.1 h r hr).1⟩
/-- a rule that isn't kept -/
def brk (t : List Int) (r : Rl) : Bool := decide (r.2.1 ≤ t.getD r.1.toNat 0) && decide (t.getD r.2.2.1.toNat 0 < r.2.2.2)
theorem brk_true {t : List Int} {r : Rl} (h : brk t r = true) : r.2.1 ≤ t.getD r.1.toNat 0 ∧ t.getD r.2.2.1.toNat 0 < r.2.2.2 := by
  simpa [brk] using h
theorem brk_false {t : List Int} {r : Rl} (h : brk t r = false) (h1 : r.2.1 ≤ t.getD r.1.toNat 0) : r.2.2.2 ≤ t.getD r.2.2.1.toNat 0 := by
  rcases Int.lt_or_le (t.getD r.2.2.1.toNat 0) r.2.2.2 with h2 | h2
  · have : brk t r = true := by simp only [brk, decide_eq_true h1, decide_eq_true h2]; rfl
    rw [this] at h; cases h
  · exact h2
/-- the number of the first one from k on -/
def firstFrom (t : List Int) : List Rl → Int → Int
  | [], _ => -1
  | r :: q, k => if brk t r = true then k else firstFrom t q (k + 1)
def first (t : List Int) (l : List Rl) : Int := firstFrom t l 0
def kept (t : List Int) (l : List Rl) : Prop := ∀ r ∈ l, brk t r = false
theorem firstFrom_none {t : List Int} {l : List Rl} : ∀ {k : Int}, 0 ≤ k → (firstFrom t l k = -1 ↔ kept t l) := by
  induction l with
  | nil => intro k _; exact ⟨(fun _ _ h => by cases h), fun _ => rfl⟩
  | cons r q ih =>
    intro k hk
    rw [firstFrom]
    by_cases h : brk t r = true
    · rw [if_pos h]
      exact ⟨fun e => by omega, fun e => by rw [e r (by simp)] at h; cases h⟩
    · rw [if_neg h, ih (by omega)]
      have h' : brk t r = false := by simpa using h
      exact ⟨fun e x hx => by rcases List.mem_cons.1 hx with rfl | hx; exact h'; exact e x hx, fun e x hx => e x (by simp [hx])⟩
theorem first_none {t : List Int} {l : List Rl} : first t l = -1 ↔ kept t l := firstFrom_none (by decide)
theorem firstFrom_some {t : List Int} {l : List Rl} : ∀ {k : Nat}, firstFrom t l k ≠ -1 → ∃ j r, l[j]? = some r ∧ brk t r = true ∧ firstFrom t l k = ((k + j : Nat) : Int) := by
  induction l with
  | nil => intro k h; exact absurd rfl h
  | cons r q ih =>
    intro k h
    rw [firstFrom] at h ⊢
    by_cases hb : brk t r = true
    · exact ⟨0, r, rfl, hb, by rw [if_pos hb]; simp⟩
    · rw [if_neg hb] at h ⊢
      obtain ⟨j, x, h1, h2, h3⟩ := ih (k := k + 1) (by simpa using h)
      refine ⟨j + 1, x, by simpa using h1, h2, ?_⟩
      have : firstFrom t q ((k : Int) + 1) = firstFrom t q ((k + 1 : Nat) : Int) := by simp
      rw [this, h3]
      congr 1
      omega
theorem first_some {t : List Int} {l : List Rl} (h : first t l ≠ -1) : ∃ (j : Nat) (r : Rl), l[j]? = some r ∧ brk t r = true ∧ first t l = (j : Int) := by
  obtain ⟨j, r, h1, h2, h3⟩ := firstFrom_some (k := 0) h
  exact ⟨j, r, h1, h2, by rw [first]; simpa using h3⟩
/-- a table is nowhere above another one -/
def le (s t : List Int) : Prop := ∀ n, n < 21 → s.getD n 0 ≤ t.getD n 0
theorem le_refl (s : List Int) : le s s := fun _ _ => Int.le_refl _
theorem le_trans {s t u : List Int} (h : le s t) (k : le t u) : le s u := fun n hn => Int.le_trans (h n hn) (k n hn)
theorem le_antisymm {s t : List Int} (hs : s.length = 21) (ht : t.length = 21) (h : le s t) (k : le t s) : s = t := list_ext21 hs ht fun n hn => Int.le_antisymm (h n hn) (k n hn)
/-- a broken rule is mended -/
def fix (t : List Int) (r : Rl) : List Int := t.set r.2.2.1.toNat r.2.2.2
theorem fix_get (t : List Int) (r : Rl) (n : Nat) (h : n < t.length) : (fix t r).getD n 0 = if r.2.2.1.toNat = n then r.2.2.2 else t.getD n 0 := by
  unfold fix
  by_cases e : r.2.2.1.toNat = n
  · rw [if_pos e, List.getD_eq_getElem?_getD, e, List.getElem?_set_self h]; rfl
  · rw [if_neg e, List.getD_eq_getElem?_getD, List.getElem?_set_ne e, ← List.getD_eq_getElem?_getD]
theorem fix_ok {t : List Int} {r : Rl} (ht : okTab t) (hr : inR r) : okTab (fix t r) := by
  have hl := ht.1
  obtain ⟨h1, h2, h3, h4⟩ := hr
  refine ⟨by rw [fix, List.length_set]; exact hl, ?_, fun n hn => ?_⟩
  · rw [fix_get t r 0 (by omega), if_neg (by omega)]; exact ht.2.1
  · rw [fix_get t r n (by omega)]
    split
    · omega
    · exact ht.2.2 n hn
theorem le_fix {t : List Int} {r : Rl} (ht : t.length = 21) (hb : brk t r = true) : le t (fix t r) := fun n hn => by
  rw [fix_get t r n (by omega)]
  split
  · rename_i e
    have := (brk_true hb).2
    rw [e] at this
    omega
  · exact Int.le_refl _
/-- whatever keeps the rule, and is no less, is no less than what is mended -/
theorem fix_le {t u : List Int} {r : Rl} (ht : t.length = 21) (hr : inR r) (hb : brk t r = true) (h : le t u) (hk : brk u r = false) : le (fix t r) u := fun n hn => by
  rw [fix_get t r n (by omega)]
  split
  · rename_i e
    obtain ⟨h1, h2, h3, h4⟩ := hr
    have h5 := brk_false hk (Int.le_trans (brk_true hb).1 (h r.1.toNat (by omega)))
    rwa [e] at h5
  · exact h n hn
def room (t : List Int) : Nat := ((List.range 21).map fun n => (99 - t.getD n 0).toNat).sum
theorem sum_le {f g : Nat → Nat} {l : List Nat} (h : ∀ n ∈ l, f n ≤ g n) : (l.map f).sum ≤ (l.map g).sum := by
  induction l with
  | nil => simp
  | cons x q ih =>
    have := ih fun n hn => h n (by simp [hn])
    have := h x (by simp)
    simp only [List.map_cons, List.sum_cons]
    omega
theorem sum_lt {f g : Nat → Nat} {l : List Nat} (h : ∀ n ∈ l, f n ≤ g n) {m : Nat} (hm : m ∈ l) (hl : f m < g m) : (l.map f).sum < (l.map g).sum := by
  induction l with
  | nil => cases hm
  | cons x q ih =>
    have hq : ∀ n ∈ q, f n ≤ g n := fun n hn => h n (by simp [hn])
    simp only [List.map_cons, List.sum_cons]
    rcases List.mem_cons.1 hm with rfl | hm
    · have := sum_le hq
      omega
    · have := ih hq hm
      have := h x (by simp)
      omega
theorem fix_room {t : List Int} {r : Rl} (ht : t.length = 21) (hr : inR r) (hb : brk t r = true) : room (fix t r) < room t := by
  obtain ⟨h1, h2, h3, h4⟩ := hr
  have hlt := (brk_true hb).2
  refine sum_lt (m := r.2.2.1.toNat) (fun n hn => ?_) (by simp; omega) ?_
  · rw [fix_get t r n (by simp at hn; omega)]
    split
    · rename_i e; rw [e] at hlt; omega
    · exact Nat.le_refl _
  · rw [fix_get t r _ (by omega), if_pos rfl]
    omega
theorem room_le {t : List Int} (ht : okTab t) : room t ≤ 2079 := by
  have := sum_le (f := fun n => (99 - t.getD n 0).toNat) (g := fun _ => 99) (l := List.range 21) (fun n hn => by
    have := (ht.2.2 n (by simpa using hn)).1
    omega)
  have e : ((List.range 21).map fun _ => 99).sum = 2079 := by decide
  rw [e] at this
  exact this
/-- all that is broken is mended, one after the other -/
def cloF (l : List Rl) : Nat → List Int → List Int
  | 0, t => t
  | f + 1, t => match l.find? (brk t) with
    | none => t
    | some r => cloF l f (fix t r)
def clo (l : List Rl) (t : List Int) : List Int := cloF l 2080 t
theorem cloF_spec {l : List Rl} (hl : ruleOk l) : ∀ (f : Nat) (t : List Int), okTab t → room t < f → okTab (cloF l f t) ∧ le t (cloF l f t) ∧ kept (cloF l f t) l ∧ ∀ u, le t u → kept u l → le (cloF l f t) u := by
  intro f
  induction f with
  | zero => intro t _ h; omega
  | succ f ih =>
    intro t ht h
    rw [cloF]
    cases hf : l.find? (brk t) with
    | none =>
      refine ⟨ht, le_refl t, fun r hr => ?_, fun u hu _ => hu⟩
      have := List.find?_eq_none.1 hf r hr
      simpa using this
    | some r =>
      have hb : brk t r = true := List.find?_some hf
      have hr := hl r (List.mem_of_find?_eq_some hf)
      have hlt := fix_room ht.1 hr hb
      obtain ⟨h1, h2, h3, h4⟩ := ih (fix t r) (fix_ok ht hr) (by omega)
      exact ⟨h1, le_trans (le_fix ht.1 hb) h2, h3, fun u hu hk => h4 u (fix_le ht.1 hr hb hu (hk r (List.mem_of_find?_eq_some hf))) hk⟩
theorem clo_spec {l : List Rl} (hl : ruleOk l) {t : List Int} (ht : okTab t) : okTab (clo l t) ∧ le t (clo l t) ∧ kept (clo l t) l ∧ ∀ u, le t u → kept u l → le (clo l t) u :=
  cloF_spec hl 2080 t ht (by have := room_le ht; omega)
/-- what lies between a table and what is mended, and keeps all rules, is that -/
theorem clo_unique {l : List Rl} (hl : ruleOk l) {t x : List Int} (ht : okTab t) (hx : x.length = 21) (h1 : le t x) (h2 : le x (clo l t)) (h3 : kept x l) : x = clo l t := by
  obtain ⟨c1, _, _, c4⟩ := clo_spec hl ht
  exact le_antisymm hx c1.1 h2 (c4 x h1 h3)
/-- a step of mending stays below what is mended -/
theorem clo_step {l : List Rl} (hl : ruleOk l) {t x : List Int} {r : Rl} (ht : okTab t) (hx : x.length = 21) (hr : r ∈ l) (hb : brk x r = true) (h2 : le x (clo l t)) : le (fix x r) (clo l t) := by
  obtain ⟨_, _, c3, _⟩ := clo_spec hl ht
  exact fix_le hx (hl r hr) hb h2 (c3 r hr)
theorem clo_kept {l : List Rl} (hl : ruleOk l) {t : List Int} (ht : okTab t) (h : kept t l) : clo l t = t := by
  obtain ⟨c1, c2, _, c4⟩ := clo_spec hl ht
  exact le_antisymm c1.1 ht.1 (c4 t (le_refl t) h) c2
theorem clo_clo {l : List Rl} (hl : ruleOk l) {t : List Int} (ht : okTab t) : clo l (clo l t) = clo l t :=
  clo_kept hl (clo_spec hl ht).1 (clo_spec hl ht).2.2.1
/-- fewer rules, no more comes -/
theorem clo_fewer {l m : List Rl} (hl : ruleOk l) (hm : ∀ r ∈ m, r ∈ l) {t : List Int} (ht : okTab t) : le (clo m t) (clo l t) := by
  obtain ⟨_, c2, c3, _⟩ := clo_spec hl ht
  exact (clo_spec (fun r hr => hl r (hm r hr)) ht).2.2.2 _ c2 (fun r hr => c3 r (hm r hr))
/-- the order of rules doesn't matter -/
theorem clo_same {l m : List Rl} (hl : ruleOk l) (h1 : ∀ r ∈ m, r ∈ l) (h2 : ∀ r ∈ l, r ∈ m) {t : List Int} (ht : okTab t) : clo m t = clo l t := by
  have hm : ruleOk m := fun r hr => hl r (h1 r hr)
  exact le_antisymm (clo_spec hm ht).1.1 (clo_spec hl ht).1.1 (clo_fewer hl h1 ht) (clo_fewer hm h2 ht)
theorem pins_mono {s t : List Int} (hs : okTab s) (h : le s t) : (pinsOf s).length ≤ (pinsOf t).length :=
  pins_le fun n hn h0 => by
    have := h n hn
    have := (hs.2.2 n hn).1
    omega
/-- rules, held against a lock -/
def brokenErr (l : List (Int × Int)) (r : List Rl) : Int := if chk l = 0 then rchk r else chk l
def broken (l : List (Int × Int)) (r : List Rl) : Int := if brokenErr l r = 0 then first (tb l) r else 0
def mendErr (l : List (Int × Int)) (r : List Rl) : Int := if brokenErr l r = 0 then (if 12 < (pinsOf (clo r (tb l))).length then 2 else 0) else brokenErr l r
def mended (l : List (Int × Int)) (r : List Rl) : List (Int × Int) := if mendErr l r = 0 then pinsOf (clo r (tb l)) else []
theorem brokenErr_ok {l : List (Int × Int)} {r : List Rl} (h : brokenErr l r = 0) : chk l = 0 ∧ rchk r = 0 := by
  unfold brokenErr at h
  by_cases hc : chk l = 0
  · rw [if_pos hc] at h; exact ⟨hc, h⟩
  · rw [if_neg hc] at h; exact absurd h hc
theorem mendErr_ok {l : List (Int × Int)} {r : List Rl} (h : mendErr l r = 0) : brokenErr l r = 0 ∧ good (clo r (tb l)) := by
  unfold mendErr at h
  by_cases hb : brokenErr l r = 0
  · rw [if_pos hb] at h
    obtain ⟨h1, h2⟩ := brokenErr_ok hb
    refine ⟨hb, (clo_spec (rchk_ok h2).2 (good_tb h1).1).1, ?_⟩
    by_cases h3 : 12 < (pinsOf (clo r (tb l))).length
    · rw [if_pos h3] at h; cases h
    · omega
  · rw [if_neg hb] at h; exact absurd h hb
/-- what is mended is a lock, keeps all rules, and is mended by nothing -/
theorem mended_good {l : List (Int × Int)} {r : List Rl} (h : mendErr l r = 0) :
    mended l r = pinsOf (clo r (tb l)) ∧ chk (mended l r) = 0 ∧ tb (mended l r) = clo r (tb l) ∧ brokenErr (mended l r) r = 0 ∧ broken (mended l r) r = -1 ∧ mendErr (mended l r) r = 0 ∧ mended (mended l r) r = mended l r := by
  obtain ⟨hb, hg⟩ := mendErr_ok h
  obtain ⟨h1, h2⟩ := brokenErr_ok hb
  have hr := (rchk_ok h2).2
  have ht := (good_tb h1).1
  have e1 : mended l r = pinsOf (clo r (tb l)) := by rw [mended, if_pos h]
  have e2 : chk (mended l r) = 0 := by rw [e1]; exact good_chk hg
  have e3 : tb (mended l r) = clo r (tb l) := by rw [e1, tb_pinsOf hg.1.1]
  have e4 : brokenErr (mended l r) r = 0 := by rw [brokenErr, if_pos e2, h2]
  have e5 : broken (mended l r) r = -1 := by rw [broken, if_pos e4, e3]; exact first_none.2 (clo_spec hr ht).2.2.1
  have e6 : mendErr (mended l r) r = 0 := by rw [mendErr, if_pos e4, e3, clo_clo hr ht, if_neg (by have := hg.2; omega)]
  exact ⟨e1, e2, e3, e4, e5, e6, by rw [mended, if_pos e6, e3, clo_clo hr ht, ← e1]⟩
/-- all that was there is there, none at a lesser version -/
theorem mended_ge {l : List (Int × Int)} {r : List Rl} (h : mendErr l r = 0) (n : Nat) (hn : n < 21) : find (n : Int) l ≤ find (n : Int) (mended l r) := by
  obtain ⟨hb, _⟩ := mendErr_ok h
  obtain ⟨h1, h2⟩ := brokenErr_ok hb
  have := (clo_spec (rchk_ok h2).2 (good_tb h1).1).2.1 n hn
  rw [← (mended_good h).2.2.1, tb_get l n hn, tb_get _ n hn] at this
  exact this
/-- of such locks it is the least -/
theorem mended_least {l o : List (Int × Int)} {r : List Rl} (h : mendErr l r = 0) (hob : brokenErr o r = 0) (hok : broken o r = -1) (hge : ∀ n : Nat, n < 21 → find (n : Int) l ≤ find (n : Int) o) (n : Nat) (hn : n < 21) : find (n : Int) (mended l r) ≤ find (n : Int) o := by
  obtain ⟨hb, _⟩ := mendErr_ok h
  obtain ⟨h1, h2⟩ := brokenErr_ok hb
  rw [broken, if_pos hob] at hok
  have := (clo_spec (rchk_ok h2).2 (good_tb h1).1).2.2.2 (tb o) (fun k hk => by rw [tb_get l k hk, tb_get o k hk]; exact hge k hk) (first_none.1 hok) n hn
  rw [← (mended_good h).2.2.1, tb_get _ n hn, tb_get o n hn] at this
  exact this
/-- where nothing is broken nothing is mended, and the other way round -/
theorem mended_none {l : List (Int × Int)} {r : List Rl} (h : mendErr l r = 0) : broken l r = -1 ↔ l = mended l r := by
  obtain ⟨hb, _⟩ := mendErr_ok h
  obtain ⟨h1, h2⟩ := brokenErr_ok hb
  rw [broken, if_pos hb, first_none]
  have hr := (rchk_ok h2).2
  have ht := (good_tb h1).1
  constructor
  · intro hk
    rw [(mended_good h).1, clo_kept hr ht hk, pins_tb h1]
  · intro e
    have := (clo_spec hr ht).2.2.1
    rwa [← (mended_good h).2.2.1, ← e] at this
theorem find_zero {l : List (Int × Int)} (h : chk l = 0) (x : Int) (hx : ¬ (1 ≤ x ∧ x ≤ 20)) : find x l = 0 := by
  have hs := (chk_srt h).2
  rcases Int.lt_or_le x 1 with h1 | h1
  · exact find_low hs h1
  · have h2 : 20 < x := by omega
    clear h hx
    have : ∀ (l : List (Int × Int)) (k : Int), srt k l → find x l = 0 := by
      intro l
      induction l with
      | nil => intro k _; rfl
      | cons p q ih =>
        intro k hk
        have := hk.1.2.1
        rw [find, if_neg (by omega)]
        exact ih _ hk.2
    exact this l 1 hs
/-- rules in another order, and fewer of them -/
theorem mended_order {l : List (Int × Int)} {r m : List Rl} (h : mendErr l r = 0) (hm : rchk m = 0) (h1 : ∀ x ∈ m, x ∈ r) (h2 : ∀ x ∈ r, x ∈ m) : mendErr l m = 0 ∧ mended l m = mended l r := by
  obtain ⟨hb, hg⟩ := mendErr_ok h
  obtain ⟨c1, c2⟩ := brokenErr_ok hb
  have e := clo_same (rchk_ok c2).2 h1 h2 (good_tb c1).1
  have hbm : brokenErr l m = 0 := by rw [brokenErr, if_pos c1, hm]
  have hem : mendErr l m = 0 := by rw [mendErr, if_pos hbm, e, if_neg (by have := hg.2; omega)]
  exact ⟨hem, by rw [mended, if_pos hem, e, (mended_good h).1]⟩
theorem mended_fewer {l : List (Int × Int)} {r m : List Rl} (h : mendErr l r = 0) (hm : rchk m = 0) (h1 : ∀ x ∈ m, x ∈ r) : mendErr l m = 0 ∧ ∀ n : Nat, n < 21 → find (n : Int) (mended l m) ≤ find (n : Int) (mended l r) := by
  obtain ⟨hb, hg⟩ := mendErr_ok h
  obtain ⟨c1, c2⟩ := brokenErr_ok hb
  have ht := (good_tb c1).1
  have e := clo_fewer (rchk_ok c2).2 h1 ht
  have hbm : brokenErr l m = 0 := by rw [brokenErr, if_pos c1, hm]
  have hcm := (clo_spec (rchk_ok hm).2 ht).1
  have hem : mendErr l m = 0 := by rw [mendErr, if_pos hbm, if_neg (by have := hg.2; have := pins_mono hcm e; omega)]
  refine ⟨hem, fun n hn => ?_⟩
  rw [← tb_get _ n hn, ← tb_get _ n hn, (mended_good h).2.2.1, (mended_good hem).2.2.1]
  exact e n hn
end Rk
end Go.Proofs.Ytjedjanlmjolkab
