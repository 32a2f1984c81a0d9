/- Plain functions on records: how they are checked, written and read; what is written is read, what is read is written as it was. Nothing of the program is named here. -/
import Derived.Test.YtbnaaookeagjgaaMath
namespace Go.Proofs.Ytbnaaookeagjgaa
namespace Lk
/-- a record -/
structure Note where
  kind : Int
  agent : Int
  tr : Int
  n : Int
  good : Bool
  id : Int
  lock : List (Int × Int)
def Note.none : Note := ⟨0, 0, 0, 0, false, 0, []⟩
def uA (k : Int) : Bool := k == 6 || k == 7
def uT (k : Int) : Bool := k == 1 || k == 2 || k == 3 || k == 6 || k == 7
def uN (k : Int) : Bool := k == 5
def uG (k : Int) : Bool := k == 3 || k == 7
def uR (k : Int) : Bool := k == 1 || k == 4
def within (n a b : Int) : Bool := decide (a ≤ n) && decide (n ≤ b)
def chkRel (id : Int) (l : List (Int × Int)) : Int := if within id 1 6 = true then chk l else 3
/-- something it has no use for isn't zero -/
def unused (r : Note) : Bool := (r.agent != 0 && !uA r.kind) || (r.tr != 0 && !uT r.kind) || (r.n != 0 && !uN r.kind) || (r.good && !uG r.kind) || ((r.id != 0 || decide (0 < r.lock.length)) && !uR r.kind)
def outside (r : Note) : Bool := !within r.agent 0 5 || (uT r.kind && !within r.tr 1 200) || (uN r.kind && !within r.n 1 6)
def chkNote (r : Note) : Int :=
  if (!within r.kind 1 9 || unused r) = true then 4
  else if outside r = true then 3
  else if uR r.kind = true then chkRel r.id r.lock
  else 0
def goodNum (b : Bool) : Int := if b = true then 1 else 0
def Note.nums (r : Note) : List Int := [r.kind, r.agent, r.tr, r.n, goodNum r.good, r.id]
def noteText (r : Note) : List UInt8 := (r.nums.map fun n => Lib.itoa n ++ [32]).flatten ++ 61 :: text r.lock
def alike (i : Int) (l : List (Int × Int)) (j : Int) (m : List (Int × Int)) : Bool := i == j && same l m
def sameNote (a b : Note) : Bool := a.kind == b.kind && a.agent == b.agent && a.tr == b.tr && a.n == b.n && a.good == b.good && alike a.id a.lock b.id b.lock
def notePrinted (r : Note) : List UInt8 := if chkNote r = 0 then noteText r else []
theorem sameNote_iff (a b : Note) : sameNote a b = true ↔ a = b := by
  obtain ⟨a1, a2, a3, a4, a5, a6, a7⟩ := a
  obtain ⟨b1, b2, b3, b4, b5, b6, b7⟩ := b
  simp [sameNote, alike, same, and_assoc]
theorem sameNote_self (a : Note) : sameNote a a = true := (sameNote_iff a a).2 rfl

/-! ### reading -/
/-- the first k numbers, each with a blank behind it, and what is behind them -/
def rdTo : Nat → List UInt8 → Option (List Int × List UInt8)
  | 0, s => some ([], s)
  | k + 1, s => match rdTo k s with
    | none => none
    | some q => if (Lib.cut q.2 [32]).2.2 = true then
        (match numOf (Lib.cut q.2 [32]).1 with
          | some n => some (q.1 ++ [n], (Lib.cut q.2 [32]).2.1)
          | none => none)
      else none
theorem rdTo_none {k : Nat} {s : List UInt8} (h : rdTo k s = none) : ∀ j, rdTo (k + j) s = none
  | 0 => h
  | j + 1 => by show rdTo (k + j + 1) s = none; rw [rdTo, rdTo_none h j]
theorem rdTo_next {k : Nat} {s r : List UInt8} {ns : List Int} {n : Int} (h : rdTo k s = some (ns, r)) (hc : (Lib.cut r [32]).2.2 = true) (hn : numOf (Lib.cut r [32]).1 = some n) : rdTo (k + 1) s = some (ns ++ [n], (Lib.cut r [32]).2.1) := by
  rw [rdTo, h]; simp only; rw [if_pos hc, hn]
theorem rdTo_cut {k : Nat} {s r : List UInt8} {ns : List Int} (h : rdTo k s = some (ns, r)) (hc : (Lib.cut r [32]).2.2 = false) : rdTo (k + 1) s = none := by
  rw [rdTo, h]; simp only; rw [if_neg (by rw [hc]; decide)]
theorem rdTo_num {k : Nat} {s r : List UInt8} {ns : List Int} (h : rdTo k s = some (ns, r)) (hn : numOf (Lib.cut r [32]).1 = none) : rdTo (k + 1) s = none := by
  rw [rdTo, h]; simp only
  split
  · rw [hn]
  · rfl
theorem rdTo_len {k : Nat} : ∀ {s r : List UInt8} {ns : List Int}, rdTo k s = some (ns, r) → ns.length = k := by
  induction k with
  | zero => intro s r ns h; simp only [rdTo, Option.some.injEq, Prod.mk.injEq] at h; rw [← h.1]; rfl
  | succ k ih =>
    intro s r ns h
    rw [rdTo] at h
    cases e : rdTo k s with
    | none => rw [e] at h; cases h
    | some q =>
      obtain ⟨ms, t⟩ := q
      rw [e] at h
      simp only at h
      split at h
      · split at h
        · simp only [Option.some.injEq, Prod.mk.injEq] at h
          rw [← h.1, List.length_append, ih e]; rfl
        · cases h
      · cases h
def noteOf (ns : List Int) (l : List (Int × Int)) : Note := ⟨ns.getD 0 0, ns.getD 1 0, ns.getD 2 0, ns.getD 3 0, ns.getD 4 0 == 1, ns.getD 5 0, l⟩
/-- what the numbers and the lock's text are read as -/
def fin (ns : List Int) (t : List UInt8) : Note × Int :=
  if (readAs ⟨t.toArray⟩).2 = 0 then
    (if chkNote (noteOf ns (readAs ⟨t.toArray⟩).1) = 0 then (noteOf ns (readAs ⟨t.toArray⟩).1, 0) else (Note.none, chkNote (noteOf ns (readAs ⟨t.toArray⟩).1)))
  else (Note.none, (readAs ⟨t.toArray⟩).2)
def readNote (s : List UInt8) : Note × Int := match rdTo 6 s with
  | none => (Note.none, 1)
  | some q => match q.2 with
    | [] => (Note.none, 1)
    | c :: t => if c = 61 ∧ within (q.1.getD 4 0) 0 1 = true then fin q.1 t else (Note.none, 1)

/-! ### words -/
def blank : ByteArray := ⟨#[32]⟩
def wb (s : ByteArray) : List ByteArray := Lib.splitB blank 0 (Lib.countB s blank) s
theorem wb_len (s : ByteArray) : (wb s).length = Lib.countB s blank + 1 := Lib.splitB_all blank (by decide) 0 _ s rfl
theorem countb_le (s : ByteArray) : Lib.countB s blank ≤ s.size := Lib.countB_le blank (by decide) s.size s (Nat.le_refl _)
theorem splitb_le (k : Nat) : ∀ (s x : ByteArray), x ∈ Lib.splitB blank 0 k s → x.size ≤ s.size := by
  induction k with
  | zero => intro s x h; simp [Lib.splitB] at h; rw [h]; exact Nat.le_refl _
  | succ k ih =>
    intro s x h
    unfold Lib.splitB at h
    split at h
    · simp at h; rw [h]; exact Nat.le_refl _
    · rcases List.mem_cons.1 h with h | h
      · rw [h, ByteArray.size_extract]; omega
      · have := ih _ _ h; rw [ByteArray.size_extract] at this; omega
theorem wb_le (s x : ByteArray) (h : x ∈ wb s) : x.size ≤ s.size := splitb_le _ s x h
def splitC : List UInt8 → List (List UInt8)
  | [] => [[]]
  | c :: r => if c = 32 then [] :: splitC r else match splitC r with
    | [] => [[c]]
    | a :: t => (c :: a) :: t
theorem splitC_ne (l : List UInt8) : splitC l ≠ [] := by
  cases l with
  | nil => simp [splitC]
  | cons c r =>
    unfold splitC
    split
    · simp
    · split <;> simp
theorem splitC_not (a : List UInt8) (h : 32 ∉ a) : splitC a = [a] := by
  induction a with
  | nil => rfl
  | cons x t ih =>
    unfold splitC
    rw [if_neg (fun e => h (by simp [e])), ih (fun e => h (by simp [e]))]
theorem splitC_app (a r : List UInt8) (h : 32 ∉ a) : splitC (a ++ 32 :: r) = a :: splitC r := by
  induction a with
  | nil => simp [splitC]
  | cons x t ih =>
    rw [List.cons_append, splitC, if_neg (fun e => h (by simp [e])), ih (fun e => h (by simp [e]))]
theorem blank_cases (l : List UInt8) : 32 ∉ l ∨ ∃ a r, l = a ++ 32 :: r ∧ 32 ∉ a := by
  induction l with
  | nil => exact .inl (by simp)
  | cons c t ih =>
    by_cases hc : c = 32
    · exact .inr ⟨[], t, by simp [hc], by simp⟩
    · rcases ih with ih | ⟨a, r, e, h⟩
      · exact .inl (by simp [ih, Ne.symm hc])
      · exact .inr ⟨c :: a, r, by simp [e], by simp [h, Ne.symm hc]⟩
theorem splitB_C (k : Nat) : ∀ s : ByteArray, Lib.countB s blank = k → (Lib.splitB blank 0 k s).map (·.data.toList) = splitC s.data.toList := by
  induction k with
  | zero =>
    intro s hk
    have hc : Lib.count s.data.toList [32] = 0 := hk
    rw [Lib.count_one] at hc
    have hn : (32 : UInt8) ∉ s.data.toList := List.count_eq_zero.1 hc
    rw [splitC_not _ hn]
    rfl
  | succ k ih =>
    intro s hk
    rcases blank_cases s.data.toList with hn | ⟨a, r, e, hn⟩
    · have hc : Lib.count s.data.toList [32] = k + 1 := hk
      rw [Lib.count_one, List.count_eq_zero.2 hn] at hc
      omega
    · have hix : Lib.indexB s blank = (a.length : Nat) := by
        show Lib.index s.data.toList [32] = _
        rw [Lib.index_one, e]
        exact index_app 32 a r hn
      have h1 : 1 ≤ blank.size := by decide
      have hcnt := Lib.countB_hit s blank a.length h1 hix
      rw [Lib.splitB_hit blank 0 k s a.length hix, List.map_cons]
      have hcs : blank.size = 1 := by decide
      rw [hcs] at hcnt ⊢
      rw [ih _ (by omega), e, splitC_app a r hn]
      have e1 : (s.extract 0 (a.length + 0)).data.toList = a := by rw [Lib.extract_data, e]; simp
      have e2 : (s.extract (a.length + 1) s.size).data.toList = r := by rw [Lib.extract_to_end, e, List.drop_append]; simp
      rw [e1, e2]
theorem wb_C (s : ByteArray) : (wb s).map (·.data.toList) = splitC s.data.toList := splitB_C _ s rfl
theorem wb_at {s : ByteArray} {j : Nat} {x : ByteArray} (h : (wb s)[j]? = some x) : (splitC s.data.toList)[j]? = some x.data.toList := by
  rw [← wb_C, List.getElem?_map, h]; rfl
theorem wb_lenC (s : ByteArray) : (splitC s.data.toList).length = (wb s).length := by rw [← wb_C, List.length_map]
theorem cut_not (s : List UInt8) (h : 32 ∉ s) : Lib.cut s [32] = (s, [], false) := by
  have e : Lib.index s [32] = -1 := (Lib.index_one s 32).trans (index_not 32 s h)
  unfold Lib.cut; rw [e, if_neg (by omega)]
theorem cut_app (a r : List UInt8) (h : 32 ∉ a) : Lib.cut (a ++ 32 :: r) [32] = (a, r, true) := by
  have e : Lib.index (a ++ 32 :: r) [32] = (a.length : Int) := (Lib.index_one _ 32).trans (index_app 32 a r h)
  unfold Lib.cut; rw [e, if_pos (by omega)]; simp
/-- what the numbers are, read from the words -/
def numsOf : List (List UInt8) → Option (List Int)
  | [] => some []
  | s :: r => match numOf s, numsOf r with
    | some p, some l => some (p :: l)
    | _, _ => none
theorem numsOf_snoc (a : List (List UInt8)) (s : List UInt8) (l : List Int) (p : Int) (h : numsOf a = some l) (hp : numOf s = some p) : numsOf (a ++ [s]) = some (l ++ [p]) := by
  induction a generalizing l with
  | nil => simp only [numsOf, Option.some.injEq] at h; subst h; simp [numsOf, hp]
  | cons x r ih =>
    simp only [numsOf] at h
    simp only [List.cons_append, numsOf]
    cases e : numOf x with
    | none => rw [e] at h; simp at h
    | some q =>
      cases e' : numsOf r with
      | none => rw [e, e'] at h; simp at h
      | some m =>
        rw [e, e'] at h
        simp only [Option.some.injEq] at h
        subst h
        rw [ih m e']
        rfl
theorem numsOf_bad (a : List (List UInt8)) (s : List UInt8) (hs : s ∈ a) (h : numOf s = none) : numsOf a = none := by
  induction a with
  | nil => cases hs
  | cons x r ih =>
    simp only [numsOf]
    rcases List.mem_cons.1 hs with rfl | hs
    · rw [h]
    · rw [ih hs]; cases numOf x <;> rfl
theorem rdTo_some {k : Nat} : ∀ {s r : List UInt8} {ns : List Int}, rdTo k s = some (ns, r) → ∃ ws : List (List UInt8), ws.length = k ∧ splitC s = ws ++ splitC r ∧ numsOf ws = some ns ∧ s = (ws.map fun w => w ++ [32]).flatten ++ r := by
  induction k with
  | zero => intro s r ns h; simp only [rdTo, Option.some.injEq, Prod.mk.injEq] at h; exact ⟨[], rfl, by rw [h.2]; rfl, by rw [← h.1]; rfl, by rw [h.2]; rfl⟩
  | succ k ih =>
    intro s r ns h
    rw [rdTo] at h
    cases e : rdTo k s with
    | none => rw [e] at h; cases h
    | some q =>
      obtain ⟨ms, t⟩ := q
      rw [e] at h
      simp only at h
      obtain ⟨ws, w1, w2, w3, w4⟩ := ih e
      rcases blank_cases t with hn | ⟨a, b, rfl, hn⟩
      · rw [cut_not t hn] at h; simp at h
      · rw [cut_app a b hn] at h
        simp only [if_true] at h
        cases en : numOf a with
        | none => rw [en] at h; cases h
        | some n =>
          rw [en] at h
          simp only [Option.some.injEq, Prod.mk.injEq] at h
          obtain ⟨rfl, rfl⟩ := h
          exact ⟨ws ++ [a], by simp [w1], by rw [w2, splitC_app a _ hn]; simp, numsOf_snoc _ _ _ _ w3 en, by rw [w4]; simp⟩
theorem rdTo_nope {k : Nat} : ∀ {s : List UInt8}, rdTo k s = none → (splitC s).length ≤ k ∨ numsOf ((splitC s).take k) = none := by
  induction k with
  | zero => intro s h; cases h
  | succ k ih =>
    intro s h
    rw [rdTo] at h
    cases e : rdTo k s with
    | none =>
      rcases ih e with h1 | h1
      · exact .inl (by omega)
      · by_cases hl : (splitC s).length ≤ k
        · exact .inl (by omega)
        · right
          rw [List.take_add_one]
          cases h2 : numsOf ((splitC s).take k ++ (splitC s)[k]?.toList) with
          | none => rfl
          | some z =>
            exfalso
            have key : ∀ (a b : List (List UInt8)) z, numsOf (a ++ b) = some z → numsOf a ≠ none := by
              intro a
              induction a with
              | nil => intro b z _ h; cases h
              | cons x r ihr =>
                intro b z h hh
                simp only [List.cons_append, numsOf] at h hh
                cases e1 : numOf x with
                | none => rw [e1] at h; simp at h
                | some q =>
                  cases e2 : numsOf (r ++ b) with
                  | none => rw [e1, e2] at h; simp at h
                  | some m =>
                    cases e3 : numsOf r with
                    | none => exact ihr b m e2 e3
                    | some _ => rw [e1, e3] at hh; simp at hh
            exact key _ _ z h2 h1
    | some q =>
      obtain ⟨ms, t⟩ := q
      rw [e] at h
      simp only at h
      obtain ⟨ws, w1, w2, w3, w4⟩ := rdTo_some e
      rcases blank_cases t with hn | ⟨a, b, rfl, hn⟩
      · left; rw [w2, splitC_not t hn]; simp [w1]
      · rw [cut_app a b hn] at h
        simp only [if_true] at h
        right
        rw [w2, splitC_app a b hn, List.take_append]
        refine numsOf_bad _ a (by simp [w1]) ?_
        cases en : numOf a with
        | none => rfl
        | some n => rw [en] at h; cases h

/-! ### the document's way of reading: word by word -/
theorem numsOf_len (a : List (List UInt8)) (l : List Int) (h : numsOf a = some l) : l.length = a.length := by
  induction a generalizing l with
  | nil => simp only [numsOf, Option.some.injEq] at h; subst h; rfl
  | cons x r ih =>
    simp only [numsOf] at h
    cases e : numOf x with
    | none => rw [e] at h; simp at h
    | some q =>
      cases e' : numsOf r with
      | none => rw [e, e'] at h; simp at h
      | some m =>
        rw [e, e'] at h
        simp only [Option.some.injEq] at h
        subst h
        simp [ih m e']
theorem dec_digits (u : Nat) : ∀ b ∈ Lib.decDigits u, 48 ≤ b.toNat ∧ b.toNat ≤ 57 := by
  induction u using Nat.strongRecOn with
  | _ u ih =>
    intro b hb
    by_cases h : u < 10
    · rw [Lib.decDigits, dif_pos h] at hb
      simp only [List.mem_singleton] at hb
      subst hb
      simp; omega
    · rw [Lib.decDigits, dif_neg h] at hb
      rcases List.mem_append.1 hb with hb | hb
      · exact ih (u / 10) (by omega) b hb
      · simp only [List.mem_singleton] at hb
        subst hb
        simp; omega
theorem itoa_bytes (n : Int) : ∀ b ∈ Lib.itoa n, b = 45 ∨ (48 ≤ b.toNat ∧ b.toNat ≤ 57) := by
  intro b hb
  unfold Lib.itoa at hb
  split at hb
  · rcases List.mem_cons.1 hb with h | h
    · exact .inl h
    · exact .inr (dec_digits _ b h)
  · exact .inr (dec_digits _ b hb)
theorem itoa_not {c : UInt8} (h1 : c ≠ 45) (h2 : ¬ (48 ≤ c.toNat ∧ c.toNat ≤ 57)) (n : Int) : c ∉ Lib.itoa n := fun h => by
  rcases itoa_bytes n c h with e | e
  · exact h1 e
  · exact h2 e
theorem numOf_itoa {s : List UInt8} {v : Int} (h : numOf s = some v) : Lib.itoa v = s := by
  unfold numOf at h
  split at h
  · rename_i u _
    by_cases e : Lib.itoa u = s
    · rw [if_pos e] at h; cases h; exact e
    · rw [if_neg e] at h; cases h
  · cases h
theorem num_no32 {s : List UInt8} {v : Int} (h : numOf s = some v) : 32 ∉ s := by
  rw [← numOf_itoa h]; exact itoa_not (by decide) (by decide) v
theorem pinOf_no32 {s : List UInt8} {p : Int × Int} (h : pinOf s = some p) : 32 ∉ s := by
  have hge := Lib.indexByte_ge s 64
  by_cases hix : Lib.indexByte s 64 = -1
  · rw [pinOf_none s hix] at h; cases h
  · obtain ⟨k, hk⟩ : ∃ k : Nat, Lib.indexByte s 64 = k := ⟨(Lib.indexByte s 64).toNat, by omega⟩
    rw [pinOf_at s k hk] at h
    cases e1 : numOf (s.take k) with
    | none => rw [e1] at h; cases h
    | some a =>
      cases e2 : numOf (s.drop (k + 1)) with
      | none => rw [e1, e2] at h; cases h
      | some b =>
        have hk64 := (Lib.indexByte_some hk).1
        obtain ⟨hlt, hv⟩ := List.getElem?_eq_some_iff.1 hk64
        intro hm
        rw [← List.take_append_drop k s, List.drop_eq_getElem_cons hlt, hv] at hm
        rcases List.mem_append.1 hm with hm | hm
        · exact num_no32 e1 hm
        · rcases List.mem_cons.1 hm with hm | hm
          · exact absurd hm (by decide)
          · exact num_no32 e2 hm
theorem pinsOf_no32 (a : List (List UInt8)) (l : List (Int × Int)) (h : pinsOf a = some l) : ∀ x ∈ a, 32 ∉ x := by
  induction a generalizing l with
  | nil => intro x hx; cases hx
  | cons x r ih =>
    simp only [pinsOf] at h
    cases e : pinOf x with
    | none => rw [e] at h; simp at h
    | some q =>
      cases e' : pinsOf r with
      | none => rw [e, e'] at h; simp at h
      | some m =>
        intro y hy
        rcases List.mem_cons.1 hy with rfl | hy
        · exact pinOf_no32 e
        · exact ih m e' y hy
theorem inter_mem (c : UInt8) (hc : c ≠ 44) (a : List (List UInt8)) (h : ∀ x ∈ a, c ∉ x) : c ∉ ([44] : List UInt8).intercalate a := by
  induction a with
  | nil => simp [List.intercalate]
  | cons x r ih =>
    cases r with
    | nil => simp only [List.intercalate, List.intersperse, List.flatten_cons, List.flatten_nil, List.append_nil]; exact h x (by simp)
    | cons y r =>
      rw [inter_cons _ _ (by simp)]
      intro hm
      rcases List.mem_append.1 hm with hm | hm
      · exact h x (by simp) hm
      · rcases List.mem_cons.1 hm with hm | hm
        · exact hc hm
        · exact ih (fun z hz => h z (by simp [hz])) hm
theorem pins_no32 {t : ByteArray} {l : List (Int × Int)} (h : pins t = some l) : 32 ∉ t.data.toList := by
  unfold pins at h
  by_cases h0 : t.size = 0
  · have : t.data.toList = [] := List.length_eq_zero_iff.1 h0
    rw [this]; simp
  · rw [if_neg h0, ws_L] at h
    have := inter_mem 32 (by decide) _ (pinsOf_no32 _ _ h)
    rwa [join_split] at this
theorem readAs_blank {t : List UInt8} (h : 32 ∈ t) : readAs ⟨t.toArray⟩ = ([], 1) := by
  unfold readAs
  cases e : pins ⟨t.toArray⟩ with
  | none => rfl
  | some l => exact absurd (by simpa using h) (pins_no32 e)
theorem fin_blank {t : List UInt8} (ns : List Int) (h : 32 ∈ t) : fin ns t = (Note.none, 1) := by
  unfold fin; rw [readAs_blank h]; rfl
theorem read_len {s : List UInt8} (h : (splitC s).length ≠ 7) : readNote s = (Note.none, 1) := by
  unfold readNote
  cases e : rdTo 6 s with
  | none => rfl
  | some q =>
    obtain ⟨ns, r⟩ := q
    obtain ⟨ws, w1, w2, w3, w4⟩ := rdTo_some e
    simp only
    cases r with
    | nil => rfl
    | cons c t =>
      simp only
      split
      · rename_i hc
        refine fin_blank _ ?_
        by_cases hm : 32 ∈ c :: t
        · rcases List.mem_cons.1 hm with hm | hm
          · rw [hc.1] at hm; exact absurd hm (by decide)
          · exact hm
        · rw [w2, splitC_not _ hm, List.length_append, w1] at h
          exact absurd rfl h
      · rfl
theorem read_num {s : List UInt8} (h : numsOf ((splitC s).take 6) = none) : readNote s = (Note.none, 1) := by
  unfold readNote
  cases e : rdTo 6 s with
  | none => rfl
  | some q =>
    obtain ⟨ns, r⟩ := q
    obtain ⟨ws, w1, w2, w3, w4⟩ := rdTo_some e
    rw [w2, List.take_left' w1, w3] at h
    cases h
theorem read_words {s x : List UInt8} {ns : List Int} (hl : (splitC s).length = 7) (hx : (splitC s)[6]? = some x) (hn : numsOf ((splitC s).take 6) = some ns) : rdTo 6 s = some (ns, x) := by
  cases e : rdTo 6 s with
  | none =>
    rcases rdTo_nope e with h | h
    · omega
    · rw [h] at hn; cases hn
  | some q =>
    obtain ⟨ms, r⟩ := q
    obtain ⟨ws, w1, w2, w3, w4⟩ := rdTo_some e
    rw [w2, List.take_left' w1, w3] at hn
    cases hn
    rw [w2, List.length_append, w1] at hl
    rcases blank_cases r with hm | ⟨a, b, rfl, hm⟩
    · rw [w2, splitC_not r hm, List.getElem?_append_right (by omega), w1] at hx
      simp at hx; rw [hx]
    · rw [splitC_app a b hm] at hl
      have := splitC_ne b
      have h2 : (splitC b).length ≠ 0 := fun e => this (List.length_eq_zero_iff.1 e)
      simp at hl; omega
theorem read_head {s x : List UInt8} (hl : (splitC s).length = 7) (hx : (splitC s)[6]? = some x) (hp : Lib.hasPrefix x [61] = false) : readNote s = (Note.none, 1) := by
  cases e : numsOf ((splitC s).take 6) with
  | none => exact read_num e
  | some ns =>
    unfold readNote
    rw [read_words hl hx e]
    simp only
    cases x with
    | nil => rfl
    | cons c t =>
      simp only
      rw [if_neg]
      intro h
      rw [h.1] at hp
      simp [Lib.hasPrefix] at hp
theorem read_good {s x : List UInt8} {ns : List Int} (hl : (splitC s).length = 7) (hx : (splitC s)[6]? = some x) (hn : numsOf ((splitC s).take 6) = some ns) (hg : within (ns.getD 4 0) 0 1 = false) : readNote s = (Note.none, 1) := by
  unfold readNote
  rw [read_words hl hx hn]
  simp only
  cases x with
  | nil => rfl
  | cons c t =>
    simp only
    rw [if_neg]
    intro h
    rw [h.2] at hg; cases hg
theorem read_fin {s x : List UInt8} {ns : List Int} (hl : (splitC s).length = 7) (hx : (splitC s)[6]? = some x) (hp : Lib.hasPrefix x [61] = true) (hn : numsOf ((splitC s).take 6) = some ns) (hg : within (ns.getD 4 0) 0 1 = true) : readNote s = fin ns (x.drop 1) := by
  unfold readNote
  rw [read_words hl hx hn]
  simp only
  cases x with
  | nil => simp [Lib.hasPrefix] at hp
  | cons c t =>
    simp only
    have hc : c = 61 := by
      have := hp
      simp [Lib.hasPrefix] at this
      exact this.symm
    rw [if_pos ⟨hc, hg⟩]; rfl
end Lk
end Go.Proofs.Ytbnaaookeagjgaa
