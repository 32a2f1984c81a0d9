/- Plain facts on records: what is written is read as it was, what is read is written as it was; unlike records have unlike texts. -/
import Derived.Test.YtlnbcgjahjjpfacGreatDoorNMath
namespace Go.Proofs.YtlnbcgjahjjpfacGreatDoor
namespace Lk
theorem split_words (ws : List (List UInt8)) (r : List UInt8) (h : ∀ w ∈ ws, 32 ∉ w) : splitC ((ws.map fun w => w ++ [32]).flatten ++ r) = ws ++ splitC r := by
  induction ws with
  | nil => rfl
  | cons w t ih =>
    have e : ((w :: t).map fun w => w ++ [32]).flatten ++ r = w ++ 32 :: ((t.map fun w => w ++ [32]).flatten ++ r) := by simp
    rw [e, splitC_app w _ (h w (by simp)), ih (fun x hx => h x (by simp [hx]))]
    rfl
theorem rdTo_words (ws : List (List UInt8)) (r : List UInt8) (ns : List Int) (h : ∀ w ∈ ws, 32 ∉ w) (hn : numsOf ws = some ns) : rdTo ws.length ((ws.map fun w => w ++ [32]).flatten ++ r) = some (ns, r) := by
  have hs := split_words ws r h
  cases e : rdTo ws.length ((ws.map fun w => w ++ [32]).flatten ++ r) with
  | none =>
    rcases rdTo_nope e with h1 | h1
    · have : (splitC r).length ≠ 0 := fun e => splitC_ne r (List.length_eq_zero_iff.1 e)
      rw [hs, List.length_append] at h1; omega
    · rw [hs, List.take_left, hn] at h1; cases h1
  | some q =>
    obtain ⟨ms, t⟩ := q
    obtain ⟨ws', w1, w2, w3, w4⟩ := rdTo_some e
    rw [hs] at w2
    have e1 : ws = ws' := by
      have := congrArg (List.take ws.length) w2
      rwa [List.take_left, List.take_left' w1] at this
    subst e1
    rw [hn] at w3
    cases w3
    rw [List.append_cancel_left w4]
/-- the digits of a number below 1000 -/
def ddd (n : Nat) : List UInt8 := if n < 100 then dd n else dd (n / 10) ++ [UInt8.ofNat (48 + n % 10)]
theorem ddd_eq {n : Nat} (h : n < 1000) : Lib.decDigits n = ddd n := by
  unfold ddd
  by_cases h1 : n < 100
  · rw [if_pos h1, dd_eq h1]
  · rw [if_neg h1, Lib.decDigits, dif_neg (by omega), dd_eq (by omega)]
theorem ddd_all : ∀ n : Fin 256, Lib.atoiAll (ddd n.1) = .ok (n.1 : Int) := by decide +kernel
theorem num_itoa (v : Int) (h0 : 0 ≤ v) (h1 : v ≤ 200) : numOf (Lib.itoa v) = some v := by
  obtain ⟨n, rfl⟩ := Int.eq_ofNat_of_zero_le h0
  rw [Lib.itoa_nonneg]
  exact numOf_ok (by rw [ddd_eq (by omega)]; exact ddd_all ⟨n, by omega⟩) (Lib.itoa_nonneg n)
theorem numsOf_itoa (ns : List Int) (h : ∀ v ∈ ns, 0 ≤ v ∧ v ≤ 200) : numsOf (ns.map Lib.itoa) = some ns := by
  induction ns with
  | nil => rfl
  | cons v t ih =>
    obtain ⟨h1, h2⟩ := h v (by simp)
    rw [List.map_cons, numsOf, num_itoa v h1 h2, ih (fun x hx => h x (by simp [hx]))]
/-- what a record that is one has -/
theorem note_ok {r : Note} (h : chkNote r = 0) : (∀ v ∈ r.nums, 0 ≤ v ∧ v ≤ 200) ∧ chk r.lock = 0 := by
  obtain ⟨k, a, t, n, g, i, l⟩ := r
  unfold chkNote at h
  split at h
  · cases h
  rename_i h1
  split at h
  · cases h
  rename_i h2
  simp only [Bool.or_eq_true, not_or, Bool.not_eq_true] at h1 h2
  obtain ⟨hk, hu⟩ := h1
  simp only [Bool.not_eq_false'] at hk
  simp only [within, Bool.and_eq_true, decide_eq_true_eq] at hk
  simp only [unused, outside, Bool.or_eq_false_iff, Bool.and_eq_false_iff, Bool.not_eq_false', bne_eq_false_iff_eq, within, Bool.and_eq_true, decide_eq_true_eq, decide_eq_false_iff_not] at hu h2
  obtain ⟨⟨⟨⟨hA, hT⟩, hN⟩, hG⟩, hR⟩ := hu
  obtain ⟨⟨hA2, hT2⟩, hN2⟩ := h2
  have hgn : goodNum g = 0 ∨ goodNum g = 1 := by cases g <;> simp [goodNum]
  have hid : (0 ≤ i ∧ i ≤ 6) ∧ chk l = 0 := by
    by_cases hr : uR k = true
    · simp only at h
      rw [if_pos hr] at h
      unfold chkRel at h
      split at h
      · rename_i hw
        simp only [within, Bool.and_eq_true, decide_eq_true_eq] at hw
        exact ⟨by omega, h⟩
      · cases h
    · rcases hR with hR | hR
      · have : l = [] := List.length_eq_zero_iff.1 (by omega)
        rw [this]
        exact ⟨by omega, by decide⟩
      · exact absurd hR hr
  refine ⟨?_, hid.2⟩
  intro v hv
  simp only [Note.nums, List.mem_cons, List.not_mem_nil, or_false] at hv
  rcases hv with rfl | rfl | rfl | rfl | rfl | rfl
  · omega
  · omega
  · rcases hT with hT | hT
    · omega
    · rcases hT2 with hT2 | hT2
      · rw [hT] at hT2; cases hT2
      · omega
  · rcases hN with hN | hN
    · omega
    · rcases hN2 with hN2 | hN2
      · rw [hN] at hN2; cases hN2
      · omega
  · omega
  · omega
theorem noteOf_nums (r : Note) : noteOf r.nums r.lock = r := by
  obtain ⟨k, a, t, n, g, i, l⟩ := r
  cases g <;> rfl
theorem chk_okP {l : List (Int × Int)} (h : chk l = 0) : ∀ p ∈ l, okP p := by
  unfold chk at h
  split at h
  · cases h
  · have key : ∀ (l : List (Int × Int)) (last : Int), chkFrom last l = 0 → ∀ p ∈ l, okP p := by
      intro l
      induction l with
      | nil => intro _ _ p hp; cases hp
      | cons q r ih =>
        intro last h p hp
        unfold chkFrom at h
        split at h
        · rename_i hq
          split at h
          · cases h
          · rcases List.mem_cons.1 hp with rfl | hp
            · simpa [okPin, okP, and_assoc] using hq
            · exact ih _ h p hp
        · cases h
    exact key l 0 h
theorem readAs_text {l : List (Int × Int)} (h : chk l = 0) : readAs ⟨(text l).toArray⟩ = (l, 0) := by
  unfold readAs
  rw [pins_text l (chk_okP h)]
  simp only
  rw [if_pos h]
theorem note_text (r : Note) : noteText r = ((r.nums.map Lib.itoa).map fun w => w ++ [32]).flatten ++ 61 :: text r.lock := by
  unfold noteText; rw [List.map_map]; rfl
theorem note_back {r : Note} (h : chkNote r = 0) : readNote (noteText r) = (r, 0) := by
  obtain ⟨hn, hl⟩ := note_ok h
  have hw : ∀ w ∈ r.nums.map Lib.itoa, 32 ∉ w := by
    intro w hw
    obtain ⟨v, _, rfl⟩ := List.mem_map.1 hw
    exact itoa_not (by decide) (by decide) v
  have hr := rdTo_words (r.nums.map Lib.itoa) (61 :: text r.lock) r.nums hw (numsOf_itoa _ hn)
  rw [← note_text] at hr
  have h6 : (r.nums.map Lib.itoa).length = 6 := rfl
  rw [h6] at hr
  unfold readNote
  rw [hr]
  simp only
  have hg : within (r.nums.getD 4 0) 0 1 = true := by
    show within (goodNum r.good) 0 1 = true
    cases r.good <;> rfl
  rw [if_pos ⟨trivial, hg⟩]
  unfold fin
  rw [readAs_text hl]
  simp only [if_true]
  rw [noteOf_nums, if_pos h]
theorem note_unlike {r q : Note} (h : chkNote r = 0) (h' : chkNote q = 0) : noteText r = noteText q ↔ r = q := by
  constructor
  · intro e
    have h1 := note_back h
    rw [e, note_back h'] at h1
    exact (Prod.mk.inj h1).1.symm
  · rintro rfl; rfl
theorem nums_of (ns : List Int) (l : List (Int × Int)) (h6 : ns.length = 6) (hg : within (ns.getD 4 0) 0 1 = true) : (noteOf ns l).nums = ns := by
  match ns, h6 with
  | [a, b, c, d, e, f], _ =>
    have he : 0 ≤ e ∧ e ≤ 1 := by simpa [within] using hg
    have : e = 0 ∨ e = 1 := by omega
    rcases this with rfl | rfl <;> rfl
theorem numsOf_words (ws : List (List UInt8)) (ns : List Int) (h : numsOf ws = some ns) : ws = ns.map Lib.itoa := by
  induction ws generalizing ns with
  | nil => simp only [numsOf, Option.some.injEq] at h; subst h; rfl
  | cons x r ih =>
    simp only [numsOf] at h
    cases e : numOf x with
    | none => rw [e] at h; simp at h
    | some q =>
      cases e' : numsOf r with
      | none => rw [e, e'] at h; simp at h
      | some m =>
        rw [e, e'] at h
        simp only [Option.some.injEq] at h
        subst h
        rw [List.map_cons, ← ih m e', numOf_itoa e]
theorem readAs_back {t : List UInt8} (h : (readAs ⟨t.toArray⟩).2 = 0) : text (readAs ⟨t.toArray⟩).1 = t := by
  unfold readAs at h ⊢
  cases e : pins ⟨t.toArray⟩ with
  | none => rw [e] at h; cases h
  | some l =>
    rw [e] at h
    simp only at h ⊢
    by_cases hc : chk l = 0
    · rw [if_pos hc]
      have := text_back _ l e (chk_okP hc)
      simpa using this
    · rw [if_neg hc] at h
      exact absurd h hc
theorem fin_back {ns : List Int} {t : List UInt8} (h : (fin ns t).2 = 0) : ∃ l, fin ns t = (noteOf ns l, 0) ∧ chkNote (noteOf ns l) = 0 ∧ text l = t := by
  unfold fin at h ⊢
  by_cases h1 : (readAs ⟨t.toArray⟩).2 = 0
  · rw [if_pos h1] at h ⊢
    by_cases h2 : chkNote (noteOf ns (readAs ⟨t.toArray⟩).1) = 0
    · rw [if_pos h2]
      exact ⟨_, rfl, h2, readAs_back h1⟩
    · rw [if_neg h2] at h; exact absurd h h2
  · rw [if_neg h1] at h; exact absurd h h1
/-- what is read is a record, and is written as it was -/
theorem read_back {s : List UInt8} (h : (readNote s).2 = 0) : chkNote (readNote s).1 = 0 ∧ noteText (readNote s).1 = s := by
  unfold readNote at h ⊢
  cases e : rdTo 6 s with
  | none => rw [e] at h; cases h
  | some q =>
    obtain ⟨ns, r⟩ := q
    rw [e] at h
    simp only at h ⊢
    cases r with
    | nil => cases h
    | cons c t =>
      simp only at h ⊢
      split at h
      · rename_i hc
        rw [if_pos hc]
        obtain ⟨l, e1, e2, e3⟩ := fin_back h
        rw [e1]
        refine ⟨e2, ?_⟩
        obtain ⟨ws, w1, w2, w3, w4⟩ := rdTo_some e
        rw [note_text, nums_of ns l (rdTo_len e) hc.2, ← numsOf_words ws ns w3]
        show _ ++ 61 :: text l = s
        rw [e3, w4, hc.1]
      · cases h
theorem read_none {s : List UInt8} (h : ¬ (readNote s).2 = 0) : (readNote s).1 = Note.none := by
  unfold readNote at h ⊢
  cases e : rdTo 6 s with
  | none => rfl
  | some q =>
    obtain ⟨ns, r⟩ := q
    rw [e] at h
    simp only at h ⊢
    cases r with
    | nil => rfl
    | cons c t =>
      simp only at h ⊢
      split
      · rename_i hc
        rw [if_pos hc] at h
        unfold fin at h ⊢
        by_cases h1 : (readAs ⟨t.toArray⟩).2 = 0
        · rw [if_pos h1] at h ⊢
          by_cases h2 : chkNote (noteOf ns (readAs ⟨t.toArray⟩).1) = 0
          · rw [if_pos h2] at h; exact absurd rfl h
          · rw [if_neg h2]
        · rw [if_neg h1]
      · rfl
end Lk
end Go.Proofs.YtlnbcgjahjjpfacGreatDoor
