/- The contract of note.Print. -/
import Derived.Test.YtpenkhehceglfaaGreatDoorN9
import Derived.Test.YtpenkhehceglfaaGreatDoorT4
namespace Go.Proofs.YtpenkhehceglfaaGreatDoor
open Go.RowKit
theorem or2_any (x y : Int) (W : World) (b : Nat) (hx : W.cell? ⟨b, 0, none⟩ = some (.int .i64 x)) (hy : W.cell? ⟨b, 1, none⟩ = some (.int .i64 y)) :
    Calls Tryz.prog 20 #[.slice (some ⟨b, 0, none⟩) 2 2] W fun e w' => e = .returned (.int .i64 (if x = 0 then y else x)) ∧ Below W.heap.size W w' := by
  rw [← orr2]
  exact or_any b 2 [x, y] W (by simp) (fun j hj => by
    rcases j with _ | _ | j
    · exact hx
    · exact hy
    · simp at hj; omega)
theorem note_lock {r : Lk.Note} (h : Lk.chkNote r = 0) : Lk.chk r.lock = 0 := (Lk.note_ok h).2
theorem or_note (r : Lk.Note) : (if Lk.chkNote r = 0 then Lk.chk r.lock else Lk.chkNote r) = Lk.chkNote r := by
  by_cases h : Lk.chkNote r = 0
  · rw [if_pos h, h, note_lock h]
  · rw [if_neg h]
/-- seven texts in a block of their own -/
def WordsAt (w : World) (b : Nat) (f : Nat → List UInt8) : Prop := b < w.heap.size ∧ ∀ j, j < 7 → w.cell? ⟨b, j, none⟩ = some (.string ⟨(f j).toArray⟩) ∧ w.frozen? ⟨b, j, none⟩ = false
theorem WordsAt.below {w w' : World} {b : Nat} {f : Nat → List UInt8} (h : WordsAt w b f) (hb : Below w.heap.size w w') : WordsAt w' b f :=
  ⟨Nat.lt_of_lt_of_le h.1 hb.size, fun j hj => ⟨(hb.cell (p := ⟨b, j, none⟩) h.1).trans (h.2 j hj).1, (hb.frozen (p := ⟨b, j, none⟩) h.1).trans (h.2 j hj).2⟩⟩
theorem WordsAt.set {w : World} {b : Nat} {f : Nat → List UInt8} (h : WordsAt w b f) (k : Nat) (hk : k < 7) (s : List UInt8) : WordsAt (w.setCell ⟨b, k, none⟩ (.string ⟨s.toArray⟩)) b (fun j => if j = k then s else f j) := by
  refine ⟨by simpa [World.setCell] using h.1, fun j hj => ⟨?_, by rw [World.frozen?_setCell]; exact (h.2 j hj).2⟩⟩
  by_cases e : j = k
  · subst e
    rw [World.cell?_setCell_same _ _ _ (h.2 j hj).1]; simp
  · rw [World.cell?_setCell_other _ _ _ _ (by intro x; injection x with _ x; exact e x.symm), (h.2 j hj).1]; simp [e]
theorem wordsAt_alloc (w : World) : WordsAt (w.alloc (.cells #[.string ⟨#[]⟩, .string ⟨#[]⟩, .string ⟨#[]⟩, .string ⟨#[]⟩, .string ⟨#[]⟩, .string ⟨#[]⟩, .string ⟨#[]⟩] 145)) w.heap.size (fun _ => []) := by
  refine ⟨by simp, fun j hj => ?_⟩
  rcases j with _ | _ | _ | _ | _ | _ | _ | j
  iterate 7 exact ⟨by simp [go_sem], by simp [go_sem]⟩
  omega
/-- the words written so far -/
def wordsN (ns : List Int) (k : Nat) (j : Nat) : List UInt8 := if j < k then Lib.itoa (ns.getD j 0) else []
theorem wordsN_next (ns : List Int) (k : Nat) : (fun j => if j = k then Lib.itoa (ns.getD k 0) else wordsN ns k j) = wordsN ns (k + 1) := by
  funext j
  unfold wordsN
  by_cases h : j = k
  · subst h; rw [if_pos rfl, if_pos (by omega)]
  · rw [if_neg h]
    by_cases h2 : j < k
    · rw [if_pos h2, if_pos (by omega)]
    · rw [if_neg h2, if_neg (by omega)]
def lastW (ns : List Int) (t : List UInt8) : List (List UInt8) := ns.map Lib.itoa ++ [61 :: t]
theorem join_words (ns : List Int) (t : List UInt8) : Lib.join (lastW ns t) [32] = (ns.map fun n => Lib.itoa n ++ [32]).flatten ++ 61 :: t := by
  unfold lastW Lib.join
  induction ns with
  | nil => simp [List.intercalate]
  | cons n r ih =>
    have hne : r.map Lib.itoa ++ [61 :: t] ≠ [] := by simp
    cases hq : r.map Lib.itoa ++ [61 :: t] with
    | nil => exact absurd hq hne
    | cons x y =>
      rw [List.map_cons, List.cons_append, hq]
      rw [hq] at ih
      simp only [List.intercalate, List.intersperse, List.flatten_cons] at ih ⊢
      rw [ih]
      simp
theorem str_eq (t : List UInt8) : (⟨#[61]⟩ : ByteArray) ++ ⟨t.toArray⟩ = ⟨(61 :: t).toArray⟩ := by
  apply WideShapes.bytes_inj; simp
theorem lastW_len (ns : List Int) (t : List UInt8) (h : ns.length = 6) : (lastW ns t).length = 7 := by simp [lastW, h]
theorem lastW_at (ns : List Int) (t : List UInt8) (h : ns.length = 6) (j : Nat) (hj : j < 7) : (lastW ns t)[j]? = some (if j = 6 then 61 :: t else wordsN ns 6 j) := by
  unfold lastW wordsN
  by_cases e : j = 6
  · subst e
    rw [if_pos rfl, List.getElem?_append_right (by simp [h])]
    simp [h]
  · have h6 : j < 6 := by omega
    rw [if_neg e, if_pos h6, List.getElem?_append_left (by simp; omega), List.getElem?_map, List.getElem?_eq_getElem (by omega), List.getD_eq_getElem?_getD, List.getElem?_eq_getElem (by omega)]
    rfl
theorem join_any7 (W : World) (b : Nat) (ns : List Int) (t : List UInt8) (h : ns.length = 6) (hW : WordsAt W b (fun j => if j = 6 then 61 :: t else wordsN ns 6 j)) (hlen : (Lib.join (lastW ns t) [32]).length ≤ 1000) :
    Calls Tryz.prog 83 #[.slice (some ⟨b, 0, none⟩) 7 7, .string ⟨#[32]⟩] W fun e w' => e = .returned (.string ⟨(Lib.join (lastW ns t) [32]).toArray⟩) ∧ Below W.heap.size W w' := by
  have e : (((lastW ns t).map fun l => (⟨l.toArray⟩ : ByteArray)).map (·.data.toList)) = lastW ns t := by
    rw [List.map_map]
    have : ((fun x : ByteArray => x.data.toList) ∘ fun l : List UInt8 => (⟨l.toArray⟩ : ByteArray)) = id := by funext l; simp
    rw [this, List.map_id]
  have hl : ((lastW ns t).map fun l => (⟨l.toArray⟩ : ByteArray)).length = 7 := by rw [List.length_map]; exact lastW_len ns t h
  have hj := Tryz.strings_Join b 0 7 ((lastW ns t).map fun l => (⟨l.toArray⟩ : ByteArray)) ⟨#[32]⟩ W (fun j x hx => by
      have hj : j < 7 := by have := (List.getElem?_eq_some_iff.1 hx).1; omega
      rw [Nat.zero_add, (hW.2 j hj).1]
      rw [List.getElem?_map, lastW_at ns t h j hj] at hx
      simp only [Option.map_some, Option.some.injEq] at hx
      rw [← hx]) hW.1 (by omega) (by omega) (by rw [e]; exact Nat.le_trans hlen (by omega))
  rw [hl, e] at hj
  exact hj
theorem note_len (ns : List Int) (t : List UInt8) (h : ns.length = 6) (hn : ∀ k, k < 6 → 0 ≤ ns.getD k 0 ∧ ns.getD k 0 ≤ 200) (ht : t.length ≤ 72) : (Lib.join (lastW ns t) [32]).length ≤ 1000 := by
  rw [join_words]
  have key : ∀ l : List Int, (∀ n ∈ l, 0 ≤ n ∧ n ≤ 200) → ((l.map fun n => Lib.itoa n ++ [32]).flatten).length ≤ 22 * l.length := by
    intro l
    induction l with
    | nil => intro _; simp
    | cons n r ih =>
      intro hh
      have h1 := hh n (by simp)
      have h2 := ih (fun m hm => hh m (by simp [hm]))
      have h3 := Lib.itoa_length_le n (by omega) (by omega)
      rw [List.map_cons, List.flatten_cons, List.length_append, List.length_append]
      simp only [List.length_cons, List.length_nil] at h2 ⊢
      omega
  have := key ns (fun n hm => by
    obtain ⟨j, hj, rfl⟩ := List.mem_iff_getElem.1 hm
    have := hn j (by omega)
    rwa [List.getD_eq_getElem?_getD, List.getElem?_eq_getElem hj] at this)
  rw [List.length_append, List.length_cons]
  omega
set_option maxHeartbeats 2000000 in
theorem notePrint_bad (r : Lk.Note) (v : Value) (w : World) (hP : PinsAt w v r.lock) (hc : ¬ Lk.chkNote r = 0) :
    Calls Tryz.prog 55 #[recV r v] w fun e w' => e = .returned (.tuple #[.string ⟨#[]⟩, .int .i64 (Lk.chkNote r)]) ∧ Below w.heap.size w w' := by
  obtain ⟨a, c, rfl⟩ := pins_slice hP
  have HL : Hid (∀ w, PinsAt w (.slice a r.lock.length c) r.lock → Calls Tryz.prog 81 #[.slice a r.lock.length c] w fun e w' => e = .returned (.tuple #[.string ⟨(printed r.lock).toArray⟩, .int .i64 (Lk.chk r.lock)]) ∧ Below w.heap.size w w') := fun w h => print_any _ _ w h
  have HC : Hid (∀ w, PinsAt w (.slice a r.lock.length c) r.lock → Calls Tryz.prog 21 #[recV r (.slice a r.lock.length c)] w fun e w' => e = .returned (.int .i64 (Lk.chkNote r)) ∧ Below w.heap.size w w') := fun w h => noteCheck_any r _ w h
  have HO : Hid ((if Lk.chkNote r = 0 then Lk.chk r.lock else Lk.chkNote r) = Lk.chkNote r) := or_note r
  have HP : Hid (PinsAt w (.slice a r.lock.length c) r.lock) := hP
  have hcb : (Lk.chkNote r != 0) = true := by rw [bne_iff_ne]; exact hc
  clear hP hc
  generalize Lk.chkNote r = CN at hcb HC HO ⊢
  generalize Lk.chk r.lock = CL at HL HO
  generalize (⟨(printed r.lock).toArray⟩ : ByteArray) = TL at HL
  unfold recV at HC ⊢
  obtain ⟨rk, ra, rt, rn, rg, ri, rl⟩ := r
  simp only at HC HP HL ⊢
  have HB0 : Hid (Below w.heap.size w (w.alloc (.cells #[.int .i64 rk, .int .i64 ra, .int .i64 rt, .int .i64 rn, .bool rg, .int .i64 ri, .slice a rl.length c] 34))) := (Below.refl _ w).alloc (Nat.le_refl _) _
  have HRec : Hid (RecAt (w.alloc (.cells #[.int .i64 rk, .int .i64 ra, .int .i64 rt, .int .i64 rn, .bool rg, .int .i64 ri, .slice a rl.length c] 34)) w.heap.size rk ra rt rn rg ri (.slice a rl.length c)) := recAt_alloc w rk ra rt rn rg ri (.slice a rl.length c)
  go_enter Tryz.func55, Tryz.ntmps55
  go_wp2_with fail
  refine (HL.out _ (HP.out.below HB0.out)).mono ?_
  rintro e w1 ⟨rfl, hb1⟩
  have HB1 : Hid (Below w.heap.size w w1) := HB0.out.trans (hb1.mono HB0.out.size)
  obtain ⟨c0, c1, c2, c3, c4, c5, c6, c7⟩ := HRec.out.below hb1
  clear hb1 HRec HB0
  go_wp2_with fail
  refine (HC.out _ (HP.out.below HB1.out)).mono ?_
  rintro e w2 ⟨rfl, hb2⟩
  have HB2 : Hid (Below w.heap.size w w2) := HB1.out.trans (hb2.mono HB1.out.size)
  clear hb2 HB1 c0 c1 c2 c3 c4 c5 c6 c7
  go_wp2_with fail
  refine (or2_any CN CL _ _ (by simp [go_sem]) (by simp [go_sem])).mono ?_
  rintro e w3 ⟨rfl, hb3⟩
  rw [HO.out]
  go_wp2
  go_ret2
  exact ⟨rfl, HB2.out.trans ((((Below.refl _ w2).alloc (Nat.le_refl _) _).trans (hb3.mono (by simp))).mono HB2.out.size)⟩
set_option maxHeartbeats 4000000 in
set_option maxRecDepth 100000 in
theorem notePrint_full (r : Lk.Note) (v : Value) (w : World) (hP : PinsAt w v r.lock) (hc : Lk.chkNote r = 0) (hE : Env w) :
    Calls Tryz.prog 55 #[recV r v] w fun e w' => e = .returned (.tuple #[.string ⟨(Lk.noteText r).toArray⟩, .int .i64 0]) ∧ Below w.heap.size w w' := by
  obtain ⟨a, c, rfl⟩ := pins_slice hP
  obtain ⟨hnum, hlk⟩ := Lk.note_ok hc
  have HL : Hid (∀ w, PinsAt w (.slice a r.lock.length c) r.lock → Calls Tryz.prog 81 #[.slice a r.lock.length c] w fun e w' => e = .returned (.tuple #[.string ⟨(Lk.text r.lock).toArray⟩, .int .i64 0]) ∧ Below w.heap.size w w') := fun w h => print_full _ _ w h hlk
  have HC : Hid (∀ w, PinsAt w (.slice a r.lock.length c) r.lock → Calls Tryz.prog 21 #[recV r (.slice a r.lock.length c)] w fun e w' => e = .returned (.int .i64 0) ∧ Below w.heap.size w w') := fun w h => by rw [← hc]; exact noteCheck_any r _ w h
  have HNm : Hid (∀ w, Calls Tryz.prog 30 #[recV r (.slice a r.lock.length c)] w fun e w' => e = .returned (numV r.nums) ∧ Below w.heap.size w w') := fun w => numbers_any r a _ c w
  have HIX : Hid (∀ k : Nat, k < 6 → ∀ w, (Instr.index 81 (numV r.nums) (.int .i64 k)).run Tryz.prog w = .ok (.int .i64 (r.nums.getD k 0)) w) := fun k hk w => ixN r.nums k hk rfl w
  have htl : (Lk.text r.lock).length ≤ 72 := by
    obtain ⟨h1, h2⟩ := chk_ok hlk
    have := text_len r.lock h2
    omega
  have HN : Hid (∀ k, k < 6 → 0 ≤ r.nums.getD k 0 ∧ r.nums.getD k 0 ≤ 200) := fun k hk => by
    have hl : k < r.nums.length := hk
    refine hnum _ ?_
    rw [List.getD_eq_getElem?_getD, List.getElem?_eq_getElem hl]
    exact List.getElem_mem hl
  have HTX : Hid (Lk.noteText r = Lib.join (lastW r.nums (Lk.text r.lock)) [32]) := (join_words r.nums (Lk.text r.lock)).symm
  have HP : Hid (PinsAt w (.slice a r.lock.length c) r.lock) := hP
  have HE : Hid (Env w) := hE
  have HNL : Hid (r.nums.length = 6) := rfl
  clear hP hc hnum hlk hE
  generalize Lk.noteText r = TX at HTX ⊢
  generalize Lk.text r.lock = TL at HTX HL htl
  generalize r.nums = ns at HN HTX HNm HIX HNL
  generalize numV ns = NV at HNm HIX
  unfold recV at HC HNm ⊢
  obtain ⟨rk, ra, rt, rn, rg, ri, rl⟩ := r
  simp only at HC HP HL HNm ⊢
  have HB0 : Hid (Below w.heap.size w (w.alloc (.cells #[.int .i64 rk, .int .i64 ra, .int .i64 rt, .int .i64 rn, .bool rg, .int .i64 ri, .slice a rl.length c] 34))) := (Below.refl _ w).alloc (Nat.le_refl _) _
  have HRec : Hid (RecAt (w.alloc (.cells #[.int .i64 rk, .int .i64 ra, .int .i64 rt, .int .i64 rn, .bool rg, .int .i64 ri, .slice a rl.length c] 34)) w.heap.size rk ra rt rn rg ri (.slice a rl.length c)) := recAt_alloc w rk ra rt rn rg ri (.slice a rl.length c)
  go_enter Tryz.func55, Tryz.ntmps55
  go_wp2_with fail
  refine (HL.out _ (HP.out.below HB0.out)).mono ?_
  rintro e w1 ⟨rfl, hb1⟩
  have HB1 : Hid (Below w.heap.size w w1) := HB0.out.trans (hb1.mono HB0.out.size)
  have HR1 : Hid (RecAt w1 w.heap.size rk ra rt rn rg ri (.slice a rl.length c)) := HRec.out.below hb1
  obtain ⟨c0, c1, c2, c3, c4, c5, c6, c7⟩ := HR1.out
  clear hb1 HRec HB0
  go_wp2_with fail
  refine (HC.out _ (HP.out.below HB1.out)).mono ?_
  rintro e w2 ⟨rfl, hb2⟩
  have HB2 : Hid (Below w.heap.size w w2) := HB1.out.trans (hb2.mono HB1.out.size)
  have HR2 : Hid (RecAt w2 w.heap.size rk ra rt rn rg ri (.slice a rl.length c)) := HR1.out.below hb2
  clear hb2 HB1 c0 c1 c2 c3 c4 c5 c6 c7 HR1
  go_wp2_with fail
  refine (or2_any 0 0 _ _ (by simp [go_sem]) (by simp [go_sem])).mono ?_
  rintro e w3 ⟨rfl, hb3⟩
  have hb3' := ((Below.refl _ w2).alloc (Nat.le_refl _) _).trans (hb3.mono (by simp))
  have HB3 : Hid (Below w.heap.size w w3) := HB2.out.trans (hb3'.mono HB2.out.size)
  have HR3 : Hid (RecAt w3 w.heap.size rk ra rt rn rg ri (.slice a rl.length c)) := HR2.out.below hb3'
  clear hb3 hb3' HB2 HR2
  obtain ⟨c0, c1, c2, c3, c4, c5, c6, c7⟩ := HR3.out
  go_wp2_with fail
  have HBA : Hid (Below w3.heap.size w3 (w3.alloc (.cells #[.string ⟨#[]⟩, .string ⟨#[]⟩, .string ⟨#[]⟩, .string ⟨#[]⟩, .string ⟨#[]⟩, .string ⟨#[]⟩, .string ⟨#[]⟩] 145))) := (Below.refl _ _).alloc (Nat.le_refl _) _
  have HWA : Hid (WordsAt (w3.alloc (.cells #[.string ⟨#[]⟩, .string ⟨#[]⟩, .string ⟨#[]⟩, .string ⟨#[]⟩, .string ⟨#[]⟩, .string ⟨#[]⟩, .string ⟨#[]⟩] 145)) w3.heap.size (fun _ => [])) := wordsAt_alloc w3
  generalize w3.alloc (.cells #[.string ⟨#[]⟩, .string ⟨#[]⟩, .string ⟨#[]⟩, .string ⟨#[]⟩, .string ⟨#[]⟩, .string ⟨#[]⟩, .string ⟨#[]⟩] 145) = W at HBA HWA ⊢
  refine (HNm.out _).mono ?_
  rintro e w4 ⟨rfl, hb4⟩
  have HB4 : Hid (Below w3.heap.size w3 w4) := HBA.out.trans (hb4.mono HBA.out.size)
  have HW4 : Hid (WordsAt w4 w3.heap.size (wordsN ns 0)) := HWA.out.below hb4
  clear hb4 HBA HWA c0 c1 c2 c3 c4 c5 c6 c7 HR3 HC HNm HL
  go_wp2_with fail
  go_loopg [27] 6 (fun g s27 wr => ∃ k : Nat, k ≤ 6 ∧ 6 - k ≤ g ∧ s27 = .int .i64 k ∧ Hid (WordsAt wr w3.heap.size (wordsN ns k)) ∧ Hid (Below w3.heap.size w3 wr))
  case atStart => exact ⟨0, Nat.zero_le _, by omega, rfl, HW4, HB4⟩
  case round =>
    obtain ⟨k, hk, hg, rfl, HWr, HBr⟩ := hrel
    by_cases hlt : k < 6
    · have hlt' : (k : Int) < 6 := by omega
      have hix := HIX.out k hlt
      obtain ⟨h1, h2⟩ := HN.out k hlt
      have HNX : Hid ((fun j => if j = k then Lib.itoa (ns.getD k 0) else wordsN ns k j) = wordsN ns (k + 1)) := wordsN_next ns k
      generalize ns.getD k 0 = n at hix HNX h1 h2
      have HI : Hid (∀ w, Env w → Calls Tryz.prog 82 #[.int .i64 n] w fun e w' => e = .returned (.string ⟨(Lib.itoa n).toArray⟩) ∧ Below w.heap.size w w') := fun w hE => itoa_any n (by omega) (by omega) w hE
      have HEr : Hid (Env wr) := (HE.out.below HB3.out).below HBr.out
      clear h1 h2
      go_wp2_with fail
      refine (HI.out _ HEr.out).mono ?_
      rintro e w5 ⟨rfl, hb5⟩
      have HW5 : Hid (WordsAt w5 w3.heap.size (wordsN ns k)) := HWr.out.below hb5
      have HB5 : Hid (Below w3.heap.size w3 w5) := HBr.out.trans (hb5.mono HBr.out.size)
      obtain ⟨k1, k2⟩ := HW5.out.2 k (by omega)
      have hlt7 : (k : Int) < 7 := by omega
      clear hb5 hix
      go_wp2
      go_roundg (6 - (k + 1))
      case measure => omega
      case rel => exact ⟨k + 1, by omega, by omega, by go_num, by rw [← HNX.out]; exact HW5.out.set k (by omega) _, HB5.out.setCell (Nat.le_refl _) _⟩
    · have hk' : k = 6 := by omega
      subst hk'
      clear hk hlt
      obtain ⟨k1, k2⟩ := HWr.out.2 6 (by omega)
      have HLN : Hid ((Lib.join (lastW ns TL) [32]).length ≤ 1000) := note_len ns TL HNL.out HN.out htl
      have HWS : Hid (WordsAt (wr.setCell ⟨w3.heap.size, 6, none⟩ (.string (⟨#[61]⟩ ++ ⟨TL.toArray⟩))) w3.heap.size (fun j => if j = 6 then 61 :: TL else wordsN ns 6 j)) := by
        rw [str_eq]; exact HWr.out.set 6 (by omega) _
      have HBS : Hid (Below w3.heap.size w3 (wr.setCell ⟨w3.heap.size, 6, none⟩ (.string (⟨#[61]⟩ ++ ⟨TL.toArray⟩)))) := HBr.out.setCell (Nat.le_refl _) _
      go_wp2_with fail
      refine (join_any7 _ _ ns TL HNL.out HWS.out HLN.out).mono ?_
      rintro e w6 ⟨rfl, hb6⟩
      rw [← HTX.out]
      go_wp2
      go_ret2
      exact ⟨rfl, HB3.out.trans ((HBS.out.trans (hb6.mono HBS.out.size)).mono HB3.out.size)⟩
theorem notePrint_any (r : Lk.Note) (v : Value) (w : World) (hP : PinsAt w v r.lock) (hE : Env w) :
    Calls Tryz.prog 55 #[recV r v] w fun e w' => e = .returned (.tuple #[.string ⟨(Lk.notePrinted r).toArray⟩, .int .i64 (Lk.chkNote r)]) ∧ Below w.heap.size w w' := by
  by_cases hc : Lk.chkNote r = 0
  · rw [show Lk.notePrinted r = Lk.noteText r from if_pos hc, hc]
    exact notePrint_full r v w hP hc hE
  · rw [show Lk.notePrinted r = [] from if_neg hc]
    exact notePrint_bad r v w hP hc
end Go.Proofs.YtpenkhehceglfaaGreatDoor
