/- Plain facts: what is written is read, what is read is written as it was. -/
import Derived.Test.YtbnaaookeagjgaaWords
import Derived.Lib.ItoaMem
import Derived.Lib.IndexLaws
namespace Go.Proofs.Ytbnaaookeagjgaa
namespace Lk
/-- the digits of a number below 100 -/
def dd (n : Nat) : List UInt8 := if n < 10 then [UInt8.ofNat (48 + n)] else [UInt8.ofNat (48 + n / 10), UInt8.ofNat (48 + n % 10)]
theorem dd_eq {n : Nat} (h : n < 100) : Lib.decDigits n = dd n := by
  unfold dd
  by_cases h1 : n < 10
  · rw [if_pos h1, Lib.decDigits_one h1]
  · rw [if_neg h1, Lib.decDigits_two h1 h]
theorem dd_all : ∀ n : Fin 100, Lib.atoiAll (dd n.1) = .ok (n.1 : Int) ∧ (64 ∈ dd n.1 → False) ∧ (44 ∈ dd n.1 → False) := by decide +kernel
theorem num_dec (n : Nat) (h : n < 100) : numOf (Lib.decDigits n) = some (n : Int) :=
  numOf_ok (by rw [dd_eq h]; exact (dd_all ⟨n, h⟩).1) (Lib.itoa_nonneg n)
theorem no64 (n : Nat) (h : n < 100) : 64 ∉ Lib.decDigits n := by rw [dd_eq h]; exact (dd_all ⟨n, h⟩).2.1
theorem no44 (n : Nat) (h : n < 100) : 44 ∉ Lib.decDigits n := by rw [dd_eq h]; exact (dd_all ⟨n, h⟩).2.2
theorem index_app (c : UInt8) (a r : List UInt8) (h : c ∉ a) : Lib.indexByte (a ++ c :: r) c = a.length := by
  induction a with
  | nil => simp [Lib.indexByte]
  | cons x t ih =>
    have hx : ¬ x = c := fun e => h (by simp [e])
    have ht : c ∉ t := fun e => h (by simp [e])
    simp only [List.cons_append, Lib.indexByte, ih ht]
    rw [if_neg (by simpa using hx), if_neg (by simp)]
    simp
theorem index_not (c : UInt8) (a : List UInt8) (h : c ∉ a) : Lib.indexByte a c = -1 := by
  induction a with
  | nil => rfl
  | cons x t ih =>
    have hx : ¬ x = c := fun e => h (by simp [e])
    simp only [Lib.indexByte, ih (fun e => h (by simp [e]))]
    rw [if_neg (by simpa using hx), if_pos (by decide)]
def okP (p : Int × Int) : Prop := (1 ≤ p.1 ∧ p.1 ≤ 20) ∧ (1 ≤ p.2 ∧ p.2 ≤ 99)
theorem pin_back (p : Int × Int) (h : okP p) : pinOf (pinText p) = some p := by
  obtain ⟨x, y⟩ := p
  obtain ⟨⟨h1, h2⟩, h3, h4⟩ := h
  simp only at h1 h2 h3 h4
  obtain ⟨n, rfl⟩ := Int.eq_ofNat_of_zero_le (show 0 ≤ x by omega)
  obtain ⟨m, rfl⟩ := Int.eq_ofNat_of_zero_le (show 0 ≤ y by omega)
  have e : pinText ((n : Int), (m : Int)) = Lib.decDigits n ++ 64 :: Lib.decDigits m := by simp [pinText]
  rw [e, pinOf_at _ _ (index_app 64 _ _ (no64 n (by omega)))]
  simp only [List.take_left, List.drop_length_add_append]
  rw [show List.drop 1 (64 :: Lib.decDigits m) = Lib.decDigits m from rfl]
  rw [num_dec n (by omega), num_dec m (by omega)]
theorem pin_no44 (p : Int × Int) (h : okP p) : 44 ∉ pinText p := by
  obtain ⟨⟨h1, h2⟩, h3, h4⟩ := h
  unfold pinText
  intro e
  rcases List.mem_append.1 e with e | e
  · exact no44 _ (by omega) e
  · rcases List.mem_cons.1 e with e | e
    · exact absurd e (by decide)
    · exact no44 _ (by omega) e
/-- the words between commas -/
def splitL : List UInt8 → List (List UInt8)
  | [] => [[]]
  | c :: r => if c = 44 then [] :: splitL r else match splitL r with
    | [] => [[c]]
    | a :: t => (c :: a) :: t
theorem splitL_ne (l : List UInt8) : splitL l ≠ [] := by
  cases l with
  | nil => simp [splitL]
  | cons c r =>
    unfold splitL
    split
    · simp
    · split <;> simp
theorem splitL_not (a : List UInt8) (h : 44 ∉ a) : splitL a = [a] := by
  induction a with
  | nil => rfl
  | cons x t ih =>
    unfold splitL
    rw [if_neg (fun e => h (by simp [e])), ih (fun e => h (by simp [e]))]
theorem splitL_app (a r : List UInt8) (h : 44 ∉ a) : splitL (a ++ 44 :: r) = a :: splitL r := by
  induction a with
  | nil => simp [splitL]
  | cons x t ih =>
    rw [List.cons_append, splitL, if_neg (fun e => h (by simp [e])), ih (fun e => h (by simp [e]))]
theorem split_cases (l : List UInt8) : 44 ∉ l ∨ ∃ a r, l = a ++ 44 :: r ∧ 44 ∉ a := by
  induction l with
  | nil => exact .inl (by simp)
  | cons c t ih =>
    by_cases hc : c = 44
    · exact .inr ⟨[], t, by simp [hc], by simp⟩
    · rcases ih with ih | ⟨a, r, e, h⟩
      · exact .inl (by simp [ih, Ne.symm hc])
      · exact .inr ⟨c :: a, r, by simp [e], by simp [h, Ne.symm hc]⟩
theorem splitB_L (k : Nat) : ∀ s : ByteArray, Lib.countB s comma = k → (Lib.splitB comma 0 k s).map (·.data.toList) = splitL s.data.toList := by
  induction k with
  | zero =>
    intro s hk
    have hc : Lib.count s.data.toList [44] = 0 := hk
    rw [Lib.count_one] at hc
    have hn : (44 : UInt8) ∉ s.data.toList := List.count_eq_zero.1 hc
    rw [splitL_not _ hn]
    rfl
  | succ k ih =>
    intro s hk
    rcases split_cases s.data.toList with hn | ⟨a, r, e, hn⟩
    · have hc : Lib.count s.data.toList [44] = k + 1 := hk
      rw [Lib.count_one, List.count_eq_zero.2 hn] at hc
      omega
    · have hix : Lib.indexB s comma = (a.length : Nat) := by
        show Lib.index s.data.toList [44] = _
        rw [Lib.index_one, e]
        exact index_app 44 a r hn
      have h1 : 1 ≤ comma.size := by decide
      have hcnt := Lib.countB_hit s comma a.length h1 hix
      rw [Lib.splitB_hit comma 0 k s a.length hix, List.map_cons]
      have hcs : comma.size = 1 := by decide
      rw [hcs] at hcnt ⊢
      rw [ih _ (by omega), e, splitL_app a r hn]
      have e1 : (s.extract 0 (a.length + 0)).data.toList = a := by rw [Lib.extract_data, e]; simp
      have e2 : (s.extract (a.length + 1) s.size).data.toList = r := by rw [Lib.extract_to_end, e, List.drop_append]; simp
      rw [e1, e2]
theorem ws_L (s : ByteArray) : (ws s).map (·.data.toList) = splitL s.data.toList := splitB_L _ s rfl
theorem inter_cons (x : List UInt8) (r : List (List UInt8)) (h : r ≠ []) : ([44] : List UInt8).intercalate (x :: r) = x ++ 44 :: ([44] : List UInt8).intercalate r := by
  cases r with
  | nil => exact absurd rfl h
  | cons y r => simp [List.intercalate, List.intersperse]
theorem join_split (l : List UInt8) : ([44] : List UInt8).intercalate (splitL l) = l := by
  induction l with
  | nil => simp [splitL, List.intercalate]
  | cons c r ih =>
    unfold splitL
    by_cases hc : c = 44
    · rw [if_pos hc, inter_cons _ _ (splitL_ne r), ih, hc]; rfl
    · rw [if_neg hc]
      cases e : splitL r with
      | nil => exact absurd e (splitL_ne r)
      | cons a t =>
        rw [e] at ih
        cases t with
        | nil => simp [List.intercalate] at ih ⊢; exact ih
        | cons b t =>
          rw [inter_cons _ _ (by simp)] at ih ⊢
          simp [← ih]
theorem split_join (a : List (List UInt8)) (h0 : a ≠ []) (h : ∀ x ∈ a, 44 ∉ x) : splitL (([44] : List UInt8).intercalate a) = a := by
  induction a with
  | nil => exact absurd rfl h0
  | cons x r ih =>
    cases r with
    | nil => simp only [List.intercalate, List.intersperse, List.flatten_cons, List.flatten_nil, List.append_nil]; exact splitL_not x (h x (by simp))
    | cons y r =>
      rw [inter_cons _ _ (by simp), splitL_app _ _ (h x (by simp)), ih (by simp) (fun z hz => h z (by simp [hz]))]
theorem pinsOf_text (l : List (Int × Int)) (h : ∀ p ∈ l, okP p) : pinsOf (l.map pinText) = some l := by
  induction l with
  | nil => rfl
  | cons p r ih =>
    simp only [List.map_cons, pinsOf, pin_back p (h p (by simp)), ih (fun q hq => h q (by simp [hq]))]
theorem pinText_ne (p : Int × Int) : pinText p ≠ [] := by unfold pinText; simp
theorem text_ne (p : Int × Int) (r : List (Int × Int)) : text (p :: r) ≠ [] := by
  unfold text Lib.join
  rw [List.map_cons]
  intro e
  cases r with
  | nil => simp [List.intercalate] at e; exact pinText_ne p e
  | cons q r =>
    rw [inter_cons _ _ (by simp)] at e
    simp at e
theorem pins_text (l : List (Int × Int)) (h : ∀ p ∈ l, okP p) : pins ⟨(text l).toArray⟩ = some l := by
  cases l with
  | nil => rfl
  | cons p r =>
    unfold pins
    have hs : ¬ (⟨(text (p :: r)).toArray⟩ : ByteArray).size = 0 := by
      show ¬ (text (p :: r)).toArray.size = 0
      rw [List.size_toArray]
      intro e
      exact text_ne p r (List.length_eq_zero_iff.1 e)
    rw [if_neg hs, ws_L]
    show pinsOf (splitL (text (p :: r))) = _
    unfold text Lib.join
    rw [split_join _ (by simp) (fun x hx => by obtain ⟨q, hq, rfl⟩ := List.mem_map.1 hx; exact pin_no44 q (h q hq))]
    exact pinsOf_text _ h
theorem numOf_back {s : List UInt8} {v : Int} (h : numOf s = some v) (h0 : 0 ≤ v) : s = Lib.decDigits v.toNat := by
  unfold numOf at h
  split at h
  · rename_i u _
    by_cases e : Lib.itoa u = s
    · rw [if_pos e] at h
      cases h
      rw [← e]
      unfold Lib.itoa
      rw [if_neg (by omega)]
    · rw [if_neg e] at h; cases h
  · cases h
theorem pinOf_back {s : List UInt8} {p : Int × Int} (h : pinOf s = some p) (hp : okP p) : s = pinText p := by
  have hge := Lib.indexByte_ge s 64
  by_cases hix : Lib.indexByte s 64 = -1
  · rw [pinOf_none s hix] at h; cases h
  · obtain ⟨k, hk⟩ : ∃ k : Nat, Lib.indexByte s 64 = k := ⟨(Lib.indexByte s 64).toNat, by omega⟩
    rw [pinOf_at s k hk] at h
    cases e1 : numOf (s.take k) with
    | none => rw [e1] at h; cases h
    | some a =>
      cases e2 : numOf (s.drop (k + 1)) with
      | none => rw [e1, e2] at h; cases h
      | some b =>
        rw [e1, e2] at h
        cases h
        obtain ⟨⟨h1, _⟩, h3, _⟩ := hp
        simp only at h1 h3
        have ea := numOf_back e1 (by omega)
        have eb := numOf_back e2 (by omega)
        have hk64 := (Lib.indexByte_some hk).1
        obtain ⟨hlt, hv⟩ := List.getElem?_eq_some_iff.1 hk64
        unfold pinText
        rw [← ea, ← eb]
        conv => lhs; rw [← List.take_append_drop k s, List.drop_eq_getElem_cons hlt, hv]
theorem pinsOf_back (a : List (List UInt8)) (l : List (Int × Int)) (h : pinsOf a = some l) (hp : ∀ p ∈ l, okP p) : a = l.map pinText := by
  induction a generalizing l with
  | nil => simp only [pinsOf, Option.some.injEq] at h; subst h; rfl
  | cons x r ih =>
    simp only [pinsOf] at h
    cases e : pinOf x with
    | none => rw [e] at h; simp at h
    | some q =>
      cases e' : pinsOf r with
      | none => rw [e, e'] at h; simp at h
      | some m =>
        rw [e, e'] at h
        simp only [Option.some.injEq] at h
        subst h
        rw [List.map_cons, ← ih m e' (fun p hp' => hp p (by simp [hp'])), ← pinOf_back e (hp q (by simp))]
theorem text_back (s : ByteArray) (l : List (Int × Int)) (h : pins s = some l) (hp : ∀ p ∈ l, okP p) : text l = s.data.toList := by
  unfold pins at h
  by_cases h0 : s.size = 0
  · rw [if_pos h0] at h
    cases h
    have : s.data.toList = [] := List.length_eq_zero_iff.1 h0
    rw [this]; simp [text, Lib.join]
  · rw [if_neg h0, ws_L] at h
    have := pinsOf_back _ _ h hp
    unfold text Lib.join
    rw [← this, join_split]
end Lk
end Go.Proofs.Ytbnaaookeagjgaa
