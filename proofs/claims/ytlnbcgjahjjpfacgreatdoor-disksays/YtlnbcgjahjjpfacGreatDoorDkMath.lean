/- Plain functions on disks: lines of records, what a disk says, puts, syncs, recovers; what is kept. Nothing of the program is named here. -/
import Derived.Test.YtlnbcgjahjjpfacGreatDoorNMath2
namespace Go.Proofs.YtlnbcgjahjjpfacGreatDoor
namespace Lk
/-- pieces between line feeds; the last one is what is behind the last one -/
def splitN : List UInt8 → List (List UInt8)
  | [] => [[]]
  | c :: r => if c = 10 then [] :: splitN r else match splitN r with
    | [] => [[c]]
    | a :: t => (c :: a) :: t
theorem splitN_ne (l : List UInt8) : splitN l ≠ [] := by
  cases l with
  | nil => simp [splitN]
  | cons c r =>
    unfold splitN
    split
    · simp
    · split <;> simp
theorem splitN_not (a : List UInt8) (h : 10 ∉ a) : splitN a = [a] := by
  induction a with
  | nil => rfl
  | cons x t ih =>
    unfold splitN
    rw [if_neg (fun e => h (by simp [e])), ih (fun e => h (by simp [e]))]
theorem splitN_app (a r : List UInt8) (h : 10 ∉ a) : splitN (a ++ 10 :: r) = a :: splitN r := by
  induction a with
  | nil => simp [splitN]
  | cons x t ih =>
    rw [List.cons_append, splitN, if_neg (fun e => h (by simp [e])), ih (fun e => h (by simp [e]))]
theorem lf_cases (l : List UInt8) : 10 ∉ l ∨ ∃ a r, l = a ++ 10 :: r ∧ 10 ∉ a := by
  induction l with
  | nil => exact .inl (by simp)
  | cons c t ih =>
    by_cases hc : c = 10
    · exact .inr ⟨[], t, by simp [hc], by simp⟩
    · rcases ih with ih | ⟨a, r, e, h⟩
      · exact .inl (by simp [ih, Ne.symm hc])
      · exact .inr ⟨c :: a, r, by simp [e], by simp [h, Ne.symm hc]⟩
/-- records as far as they are whole; how many bytes these have; what is wrong with the next one -/
def walkL (most : Nat) (acc : List Note) (n : Nat) : List (List UInt8) → List Note × Nat × Int
  | [] => (acc, n, 0)
  | [t] => if t = [] then (acc, n, 0) else (acc, n, 9)
  | t :: u :: r => if (readNote t).2 = 0 then (if most ≤ acc.length then (acc, n, 2) else walkL most (acc ++ [(readNote t).1]) (n + t.length + 1) (u :: r)) else (acc, n, (readNote t).2)
def linesOf (s : List UInt8) (most : Nat) : List Note × Nat × Int := walkL most [] 0 (splitN s)
structure Disk where
  safe : List UInt8
  wait : List UInt8
def Disk.none : Disk := ⟨[], []⟩
def tooMany (d : Disk) : Bool := decide (60000 < d.safe.length) || decide (60000 - d.safe.length < d.wait.length)
def chkDisk (d : Disk) : Int := if tooMany d = true then 2 else (linesOf d.safe 200).2.2
def recov (d : Disk) : Disk × List Note :=
  (⟨d.safe ++ d.wait.take (linesOf d.wait (200 - (linesOf d.safe 200).1.length)).2.1, []⟩, (linesOf d.safe 200).1 ++ (linesOf d.wait (200 - (linesOf d.safe 200).1.length)).1)
def putOn (d : Disk) (r : Note) : Disk × Int :=
  if chkNote r = 0 then (if 60000 < d.safe.length + d.wait.length + (noteText r).length + 1 then (Disk.none, 2) else (⟨d.safe, d.wait ++ (noteText r ++ [10])⟩, 0))
  else (Disk.none, chkNote r)
def synced (d : Disk) : Disk × Int := if chkDisk ⟨d.safe ++ d.wait, []⟩ = 0 then (⟨d.safe ++ d.wait, []⟩, 0) else (Disk.none, chkDisk ⟨d.safe ++ d.wait, []⟩)
def sameDisk (a b : Disk) : Bool := decide (a.safe = b.safe) && decide (a.wait = b.wait)

/-! ### step by step: for the walks -/
theorem walk_step {most n : Nat} {acc : List Note} {t : List UInt8} {r : List (List UInt8)} (hr : r ≠ []) (h : (readNote t).2 = 0) (hm : acc.length < most) : walkL most acc n (t :: r) = walkL most (acc ++ [(readNote t).1]) (n + t.length + 1) r := by
  cases r with
  | nil => exact absurd rfl hr
  | cons u r => rw [walkL, if_pos h, if_neg (by omega)]
theorem walk_many {most n : Nat} {acc : List Note} {t : List UInt8} {r : List (List UInt8)} (hr : r ≠ []) (h : (readNote t).2 = 0) (hm : most ≤ acc.length) : walkL most acc n (t :: r) = (acc, n, 2) := by
  cases r with
  | nil => exact absurd rfl hr
  | cons u r => rw [walkL, if_pos h, if_pos hm]
theorem walk_bad {most n : Nat} {acc : List Note} {t : List UInt8} {r : List (List UInt8)} (hr : r ≠ []) (h : ¬ (readNote t).2 = 0) : walkL most acc n (t :: r) = (acc, n, (readNote t).2) := by
  cases r with
  | nil => exact absurd rfl hr
  | cons u r => rw [walkL, if_neg h]
theorem walk_end (most n : Nat) (acc : List Note) : walkL most acc n [[]] = (acc, n, 0) := by rw [walkL, if_pos rfl]
theorem walk_torn {most n : Nat} {acc : List Note} {t : List UInt8} (h : t ≠ []) : walkL most acc n [t] = (acc, n, 9) := by rw [walkL, if_neg h]
/-- from a place on: for a loop that eats its text -/
def linesFrom (most : Nat) (acc : List Note) (n : Nat) (s : List UInt8) : List Note × Nat × Int := walkL most acc n (splitN s)
theorem from_nil (most n : Nat) (acc : List Note) : linesFrom most acc n [] = (acc, n, 0) := walk_end most n acc
theorem from_torn {most n : Nat} {acc : List Note} {s : List UInt8} (h : s ≠ []) (hn : 10 ∉ s) : linesFrom most acc n s = (acc, n, 9) := by
  unfold linesFrom; rw [splitN_not s hn, walk_torn h]
theorem from_step {most n : Nat} {acc : List Note} {t s : List UInt8} (hn : 10 ∉ t) (h : (readNote t).2 = 0) (hm : acc.length < most) : linesFrom most acc n (t ++ 10 :: s) = linesFrom most (acc ++ [(readNote t).1]) (n + t.length + 1) s := by
  unfold linesFrom; rw [splitN_app t s hn, walk_step (splitN_ne s) h hm]
theorem from_many {most n : Nat} {acc : List Note} {t s : List UInt8} (hn : 10 ∉ t) (h : (readNote t).2 = 0) (hm : most ≤ acc.length) : linesFrom most acc n (t ++ 10 :: s) = (acc, n, 2) := by
  unfold linesFrom; rw [splitN_app t s hn, walk_many (splitN_ne s) h hm]
theorem from_bad {most n : Nat} {acc : List Note} {t s : List UInt8} (hn : 10 ∉ t) (h : ¬ (readNote t).2 = 0) : linesFrom most acc n (t ++ 10 :: s) = (acc, n, (readNote t).2) := by
  unfold linesFrom; rw [splitN_app t s hn, walk_bad (splitN_ne s) h]

/-! ### what the program does: Check first -/
theorem tooMany_iff (d : Disk) : tooMany d = decide (60000 < d.safe.length + d.wait.length) := by
  unfold tooMany
  by_cases h : 60000 < d.safe.length + d.wait.length
  · rw [decide_eq_true h, Bool.or_eq_true, decide_eq_true_eq, decide_eq_true_eq]; omega
  · rw [decide_eq_false h, Bool.or_eq_false_iff, decide_eq_false_iff_not, decide_eq_false_iff_not]; omega
def putP (d : Disk) (r : Note) : Disk × Int := if chkDisk d = 0 then putOn d r else (Disk.none, chkDisk d)
def syncP (d : Disk) : Disk × Int := if chkDisk d = 0 then synced d else (Disk.none, chkDisk d)
def crashP (d : Disk) (n : Int) : Disk × Int := if chkDisk d = 0 then (if 0 ≤ n ∧ n ≤ d.wait.length then (⟨d.safe, d.wait.take n.toNat⟩, 0) else (Disk.none, 3)) else (Disk.none, chkDisk d)
def recovP (d : Disk) : Disk × List Note × Int := if chkDisk d = 0 then ((recov d).1, (recov d).2, 0) else (Disk.none, [], chkDisk d)
/-- safeRecs: all records, or what is wrong -/
def safeP (d : Disk) : List Note × Int := if chkDisk d = 0 then ((linesOf d.safe 200).1, 0) else ([], chkDisk d)
theorem from_full {most n : Nat} {acc : List Note} (s : List UInt8) (h : most ≤ acc.length) : ∃ e, linesFrom most acc n s = (acc, n, e) := by
  rcases lf_cases s with hn | ⟨t, r, e, hn⟩
  · by_cases h0 : s = []
    · subst h0; exact ⟨_, from_nil _ _ _⟩
    · exact ⟨_, from_torn h0 hn⟩
  · subst e
    by_cases hr : (readNote t).2 = 0
    · exact ⟨_, from_many hn hr h⟩
    · exact ⟨_, from_bad hn hr⟩
theorem from_none {most n : Nat} {acc : List Note} {s : List UInt8} (hn : 10 ∉ s) : ∃ e, linesFrom most acc n s = (acc, n, e) := by
  by_cases h0 : s = []
  · subst h0; exact ⟨_, from_nil _ _ _⟩
  · exact ⟨_, from_torn h0 hn⟩
theorem from_grows (k : Nat) : ∀ (s : List UInt8), s.length ≤ k → ∀ (most n : Nat) (acc : List Note), n ≤ (linesFrom most acc n s).2.1 ∧ (linesFrom most acc n s).2.1 ≤ n + s.length ∧ acc.length ≤ (linesFrom most acc n s).1.length ∧ (acc.length ≤ most → (linesFrom most acc n s).1.length ≤ most) := by
  induction k with
  | zero =>
    intro s hs most n acc
    have : s = [] := List.length_eq_zero_iff.1 (by omega)
    subst this
    rw [from_nil]; simp
  | succ k ih =>
    intro s hs most n acc
    rcases lf_cases s with hn | ⟨t, r, e, hn⟩
    · obtain ⟨e, he⟩ := from_none (most := most) (n := n) (acc := acc) hn
      rw [he]; simp
    · subst e
      by_cases hr : (readNote t).2 = 0
      · by_cases hm : acc.length < most
        · rw [from_step hn hr hm]
          have := ih r (by simp at hs; omega) most (n + t.length + 1) (acc ++ [(readNote t).1])
          simp only [List.length_append, List.length_cons, List.length_nil] at this ⊢
          exact ⟨by omega, by omega, by omega, fun _ => this.2.2.2 (by omega)⟩
        · rw [from_many hn hr (by omega)]; simp
      · rw [from_bad hn hr]; simp
theorem lines_len (s : List UInt8) (most : Nat) : (linesOf s most).2.1 ≤ s.length ∧ (linesOf s most).1.length ≤ most := by
  have := from_grows s.length s (Nat.le_refl _) most 0 []
  exact ⟨by have h := this.2.1; rw [Nat.zero_add] at h; exact h, this.2.2.2 (Nat.zero_le _)⟩

/-! ### what is kept -/
def texts (l : List Note) : List UInt8 := (l.map fun r => noteText r ++ [10]).flatten
def allOk (l : List Note) : Prop := ∀ r ∈ l, chkNote r = 0
theorem texts_nil : texts [] = [] := rfl
theorem texts_cons (r : Note) (l : List Note) : texts (r :: l) = noteText r ++ 10 :: texts l := by simp [texts]
theorem texts_app (a b : List Note) : texts (a ++ b) = texts a ++ texts b := by simp [texts]
theorem itoa_no10 (n : Int) : 10 ∉ Lib.itoa n := itoa_not (by decide) (by decide) n
theorem dec_no10 (u : Nat) : 10 ∉ Lib.decDigits u := fun h => by
  have := dec_digits u 10 h
  simp at this
theorem pinText_no10 (p : Int × Int) : 10 ∉ pinText p := by
  unfold pinText
  intro h
  rcases List.mem_append.1 h with h | h
  · exact dec_no10 _ h
  · rcases List.mem_cons.1 h with h | h
    · exact absurd h (by decide)
    · exact dec_no10 _ h
theorem text_no10 (l : List (Int × Int)) : 10 ∉ text l := by
  unfold text Lib.join
  refine inter_mem 10 (by decide) _ (fun x hx => ?_)
  obtain ⟨p, _, rfl⟩ := List.mem_map.1 hx
  exact pinText_no10 p
theorem note_no10 (r : Note) : 10 ∉ noteText r := by
  unfold noteText
  intro h
  rcases List.mem_append.1 h with h | h
  · obtain ⟨x, hx, h10⟩ := List.mem_flatten.1 h
    obtain ⟨n, _, rfl⟩ := List.mem_map.1 hx
    rcases List.mem_append.1 h10 with h10 | h10
    · exact itoa_no10 n h10
    · simp at h10
  · rcases List.mem_cons.1 h with h | h
    · exact absurd h (by decide)
    · exact text_no10 _ h
/-- what was written is read, record by record -/
theorem from_texts (b : List Note) : ∀ (most : Nat) (acc : List Note) (n : Nat), allOk b → acc.length + b.length ≤ most → ∀ s, linesFrom most acc n (texts b ++ s) = linesFrom most (acc ++ b) (n + (texts b).length) s := by
  induction b with
  | nil => intro most acc n _ _ s; simp [texts]
  | cons r b ih =>
    intro most acc n hok hm s
    have hr : chkNote r = 0 := hok r (by simp)
    have hrd := note_back hr
    rw [texts_cons, List.append_assoc, List.cons_append, from_step (note_no10 r) (by rw [hrd]) (by simp at hm; omega), hrd, ih most (acc ++ [r]) _ (fun q hq => hok q (by simp [hq])) (by simp at hm ⊢; omega) s]
    simp only [List.append_assoc, List.cons_append, List.nil_append, List.length_append, List.length_cons]
    congr 1
    omega
/-- of a beginning of what was written whole records are read, and no more -/
theorem from_cut (b : List Note) : ∀ (most : Nat) (acc : List Note) (n k : Nat), allOk b → acc.length + b.length ≤ most → ∃ j e, j ≤ b.length ∧ (texts (b.take j)).length ≤ k ∧ linesFrom most acc n ((texts b).take k) = (acc ++ b.take j, n + (texts (b.take j)).length, e) := by
  induction b with
  | nil => intro most acc n k _ _; exact ⟨0, 0, by simp, by simp [texts], by simp [texts, from_nil]⟩
  | cons r b ih =>
    intro most acc n k hok hm
    have hr : chkNote r = 0 := hok r (by simp)
    have hrd := note_back hr
    by_cases hk : (noteText r).length + 1 ≤ k
    · obtain ⟨j, e, h1, h2, h3⟩ := ih most (acc ++ [r]) (n + (noteText r).length + 1) (k - ((noteText r).length + 1)) (fun q hq => hok q (by simp [hq])) (by simp at hm ⊢; omega)
      refine ⟨j + 1, e, by simp; omega, ?_, ?_⟩
      · rw [List.take_succ_cons, texts_cons]; simp; omega
      · have ht : (texts (r :: b)).take k = noteText r ++ 10 :: (texts b).take (k - ((noteText r).length + 1)) := by
          rw [texts_cons, List.take_append]
          rw [List.take_of_length_le (by omega), show k - (noteText r).length = (k - ((noteText r).length + 1)) + 1 from by omega, List.take_succ_cons]
        rw [ht, from_step (note_no10 r) (by rw [hrd]) (by simp at hm; omega), hrd, h3, List.take_succ_cons, texts_cons]
        simp only [List.append_assoc, List.cons_append, List.nil_append, List.length_append, List.length_cons]
        congr 2
        omega
    · have ht : (texts (r :: b)).take k = (noteText r).take k := by
        rw [texts_cons, List.take_append, show k - (noteText r).length = 0 from by omega, List.take_zero, List.append_nil]
      have hn : 10 ∉ (noteText r).take k := fun h => note_no10 r (List.mem_of_mem_take h)
      rw [ht]
      by_cases h0 : (noteText r).take k = []
      · exact ⟨0, 0, by simp, by simp [texts], by rw [h0, from_nil]; simp [texts]⟩
      · exact ⟨0, 9, by simp, by simp [texts], by rw [from_torn h0 hn]; simp [texts]⟩
theorem lines_texts {a : List Note} {most : Nat} (h : allOk a) (hm : a.length ≤ most) : linesOf (texts a) most = (a, (texts a).length, 0) := by
  have := from_texts a most [] 0 h (by simpa using hm) []
  rw [List.append_nil, from_nil] at this
  show linesFrom most [] 0 (texts a) = _
  rw [this]; simp
theorem lines_cut {b : List Note} {most : Nat} (k : Nat) (h : allOk b) (hm : b.length ≤ most) : ∃ j e, j ≤ b.length ∧ (texts (b.take j)).length ≤ k ∧ linesOf ((texts b).take k) most = (b.take j, (texts (b.take j)).length, e) := by
  obtain ⟨j, e, h1, h2, h3⟩ := from_cut b most [] 0 k h (by simpa using hm)
  exact ⟨j, e, h1, h2, by show linesFrom most [] 0 _ = _; rw [h3]; simp⟩
theorem take_texts (b : List Note) (j k : Nat) (h : (texts (b.take j)).length ≤ k) : ((texts b).take k).take (texts (b.take j)).length = texts (b.take j) := by
  have e : texts b = texts (b.take j) ++ texts (b.drop j) := by rw [← texts_app, List.take_append_drop]
  rw [List.take_take, Nat.min_eq_left h, e, List.take_left]
theorem allOk_take {b : List Note} (h : allOk b) (j : Nat) : allOk (b.take j) := fun r hr => h r (List.mem_of_mem_take hr)
theorem allOk_app {a b : List Note} (h : allOk a) (h' : allOk b) : allOk (a ++ b) := fun r hr => by
  rcases List.mem_append.1 hr with hr | hr
  · exact h r hr
  · exact h' r hr
/-- recovering: all that was synced is there, and of the rest a beginning; recovered again it is the same -/
theorem recov_keeps {a b : List Note} (ha : allOk a) (hb : allOk b) (hm : a.length + b.length ≤ 200) (k : Nat) :
    ∃ j, j ≤ b.length ∧ recov ⟨texts a, (texts b).take k⟩ = (⟨texts (a ++ b.take j), []⟩, a ++ b.take j) ∧ recov ⟨texts (a ++ b.take j), []⟩ = (⟨texts (a ++ b.take j), []⟩, a ++ b.take j) := by
  obtain ⟨j, e, h1, h2, h3⟩ := lines_cut (b := b) (most := 200 - a.length) k hb (by omega)
  refine ⟨j, h1, ?_, ?_⟩
  · unfold recov
    simp only [lines_texts ha (show a.length ≤ 200 by omega), h3, take_texts b j k h2, texts_app]
  · have hl := lines_texts (a := a ++ b.take j) (most := 200) (allOk_app ha (allOk_take hb j)) (by simp; omega)
    have hz : ∀ m, linesOf [] m = ([], 0, 0) := fun m => from_nil m 0 []
    unfold recov
    simp only [hl, hz, List.take_zero, List.append_nil]
theorem chk_texts {a : List Note} {w : List UInt8} (ha : allOk a) (hm : a.length ≤ 200) (hs : (texts a).length + w.length ≤ 60000) : chkDisk ⟨texts a, w⟩ = 0 := by
  unfold chkDisk
  have : tooMany ⟨texts a, w⟩ = false := by
    simp only [tooMany, Bool.or_eq_false_iff, decide_eq_false_iff_not]; omega
  rw [this]
  simp only [Bool.false_eq_true, if_false, lines_texts ha hm]
theorem put_texts {a b : List Note} {r : Note} (h : (putOn ⟨texts a, texts b⟩ r).2 = 0) : chkNote r = 0 ∧ putOn ⟨texts a, texts b⟩ r = (⟨texts a, texts (b ++ [r])⟩, 0) ∧ (texts a).length + (texts (b ++ [r])).length ≤ 60000 := by
  unfold putOn at h ⊢
  by_cases hc : chkNote r = 0
  · rw [if_pos hc] at h ⊢
    by_cases hl : 60000 < (texts a).length + (texts b).length + (noteText r).length + 1
    · rw [if_pos hl] at h; cases h
    · rw [if_neg hl]
      refine ⟨hc, ?_, ?_⟩
      · simp [texts]
      · have : (texts (b ++ [r])).length = (texts b).length + ((noteText r).length + 1) := by
          rw [texts_app, List.length_append, texts_cons, texts_nil, List.length_append, List.length_cons, List.length_nil]
        omega
  · rw [if_neg hc] at h; exact absurd h hc
theorem sync_texts {b : List Note} (hb : allOk b) (hm : b.length ≤ 200) (hs : (texts b).length ≤ 60000) : synced ⟨texts [], texts b⟩ = (⟨texts b, []⟩, 0) := by
  unfold synced
  have : chkDisk ⟨texts b, []⟩ = 0 := chk_texts hb hm (by simpa using hs)
  simp only [texts_nil, List.nil_append, this, if_true]
end Lk
end Go.Proofs.YtlnbcgjahjjpfacGreatDoor
