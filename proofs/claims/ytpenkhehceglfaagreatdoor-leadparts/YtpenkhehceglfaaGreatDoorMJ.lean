import Derived.Test.YtpenkhehceglfaaGreatDoorMB
import Derived.Test.YtpenkhehceglfaaGreatDoorMA
import Derived.Test.YtpenkhehceglfaaGreatDoorMC
import Derived.Lib.ItoaLen
import Derived.Test.YtpenkhehceglfaaGreatDoorT4
import Derived.Deep.CutRange
import Derived.Deep.RegionHeld3
/- The contract of the document's RecText. -/
namespace Go.Proofs.YtpenkhehceglfaaGreatDoor
open Go.RowKit Go.Maps
theorem keyedB : Keyed Tryz.prog 4 := bool_keyed Tryz.underlying4
def goodD : DataW Unit := DataW.put (.map []) (.bool true) (.lit (.int .i64 1))
def numText (ns : List Int) (k : Nat) : List UInt8 := ((ns.take k).map fun n => Lib.itoa n ++ [32]).flatten
theorem numText_zero (ns : List Int) : numText ns 0 = [] := by simp [numText]
theorem numText_next (ns : List Int) (k : Nat) (h : k < ns.length) : numText ns (k + 1) = numText ns k ++ (Lib.itoa (ns.getD k 0) ++ [32]) := by
  unfold numText
  rw [List.take_add_one, List.getElem?_eq_getElem h, List.getD_eq_getElem?_getD, List.getElem?_eq_getElem h, List.map_append, List.flatten_append]
  simp
theorem numText_all (ns : List Int) : numText ns ns.length = (ns.map fun n => Lib.itoa n ++ [32]).flatten := by simp [numText]
theorem str_num (t : List UInt8) (n : Int) : (⟨t.toArray⟩ : ByteArray) ++ (⟨(Lib.itoa n).toArray⟩ ++ ⟨#[32]⟩) = ⟨(t ++ (Lib.itoa n ++ [32])).toArray⟩ := by
  apply WideShapes.bytes_inj; simp
theorem str_end (t u : List UInt8) : (⟨t.toArray⟩ : ByteArray) ++ ⟨#[61]⟩ ++ ⟨u.toArray⟩ = ⟨(t ++ 61 :: u).toArray⟩ := by
  apply WideShapes.bytes_inj; simp
end Go.Proofs.YtpenkhehceglfaaGreatDoor
/- The contract of note.Print. -/
namespace Go.Proofs.YtpenkhehceglfaaGreatDoor
open Go.RowKit
theorem or2_any (x y : Int) (W : World) (b : Nat) (hx : W.cell? ⟨b, 0, none⟩ = some (.int .i64 x)) (hy : W.cell? ⟨b, 1, none⟩ = some (.int .i64 y)) :
    Calls Tryz.prog 20 #[.slice (some ⟨b, 0, none⟩) 2 2] W fun e w' => e = .returned (.int .i64 (if x = 0 then y else x)) ∧ Below W.heap.size W w' := by
  rw [← orr2]
  exact or_any b 2 [x, y] W (by simp) (fun j hj => by
    rcases j with _ | _ | j
    · exact hx
    · exact hy
    · simp at hj; omega)
theorem note_lock {r : Lk.Note} (h : Lk.chkNote r = 0) : Lk.chk r.lock = 0 := (Lk.note_ok h).2
theorem or_note (r : Lk.Note) : (if Lk.chkNote r = 0 then Lk.chk r.lock else Lk.chkNote r) = Lk.chkNote r := by
  by_cases h : Lk.chkNote r = 0
  · rw [if_pos h, h, note_lock h]
  · rw [if_neg h]
/-- seven texts in a block of their own -/
def WordsAt (w : World) (b : Nat) (f : Nat → List UInt8) : Prop := b < w.heap.size ∧ ∀ j, j < 7 → w.cell? ⟨b, j, none⟩ = some (.string ⟨(f j).toArray⟩) ∧ w.frozen? ⟨b, j, none⟩ = false
theorem WordsAt.below {w w' : World} {b : Nat} {f : Nat → List UInt8} (h : WordsAt w b f) (hb : Below w.heap.size w w') : WordsAt w' b f :=
  ⟨Nat.lt_of_lt_of_le h.1 hb.size, fun j hj => ⟨(hb.cell (p := ⟨b, j, none⟩) h.1).trans (h.2 j hj).1, (hb.frozen (p := ⟨b, j, none⟩) h.1).trans (h.2 j hj).2⟩⟩
theorem WordsAt.set {w : World} {b : Nat} {f : Nat → List UInt8} (h : WordsAt w b f) (k : Nat) (hk : k < 7) (s : List UInt8) : WordsAt (w.setCell ⟨b, k, none⟩ (.string ⟨s.toArray⟩)) b (fun j => if j = k then s else f j) := by
  refine ⟨by simpa [World.setCell] using h.1, fun j hj => ⟨?_, by rw [World.frozen?_setCell]; exact (h.2 j hj).2⟩⟩
  by_cases e : j = k
  · subst e
    rw [World.cell?_setCell_same _ _ _ (h.2 j hj).1]; simp
  · rw [World.cell?_setCell_other _ _ _ _ (by intro x; injection x with _ x; exact e x.symm), (h.2 j hj).1]; simp [e]
theorem wordsAt_alloc (w : World) : WordsAt (w.alloc (.cells #[.string ⟨#[]⟩, .string ⟨#[]⟩, .string ⟨#[]⟩, .string ⟨#[]⟩, .string ⟨#[]⟩, .string ⟨#[]⟩, .string ⟨#[]⟩] 145)) w.heap.size (fun _ => []) := by
  refine ⟨by simp, fun j hj => ?_⟩
  rcases j with _ | _ | _ | _ | _ | _ | _ | j
  iterate 7 exact ⟨by simp [go_sem], by simp [go_sem]⟩
  omega
/-- the words written so far -/
def wordsN (ns : List Int) (k : Nat) (j : Nat) : List UInt8 := if j < k then Lib.itoa (ns.getD j 0) else []
theorem wordsN_next (ns : List Int) (k : Nat) : (fun j => if j = k then Lib.itoa (ns.getD k 0) else wordsN ns k j) = wordsN ns (k + 1) := by
  funext j
  unfold wordsN
  by_cases h : j = k
  · subst h; rw [if_pos rfl, if_pos (by omega)]
  · rw [if_neg h]
    by_cases h2 : j < k
    · rw [if_pos h2, if_pos (by omega)]
    · rw [if_neg h2, if_neg (by omega)]
def lastW (ns : List Int) (t : List UInt8) : List (List UInt8) := ns.map Lib.itoa ++ [61 :: t]
theorem join_words (ns : List Int) (t : List UInt8) : Lib.join (lastW ns t) [32] = (ns.map fun n => Lib.itoa n ++ [32]).flatten ++ 61 :: t := by
  unfold lastW Lib.join
  induction ns with
  | nil => simp [List.intercalate]
  | cons n r ih =>
    have hne : r.map Lib.itoa ++ [61 :: t] ≠ [] := by simp
    cases hq : r.map Lib.itoa ++ [61 :: t] with
    | nil => exact absurd hq hne
    | cons x y =>
      rw [List.map_cons, List.cons_append, hq]
      rw [hq] at ih
      simp only [List.intercalate, List.intersperse, List.flatten_cons] at ih ⊢
      rw [ih]
      simp
theorem str_eq (t : List UInt8) : (⟨#[61]⟩ : ByteArray) ++ ⟨t.toArray⟩ = ⟨(61 :: t).toArray⟩ := by
  apply WideShapes.bytes_inj; simp
theorem lastW_len (ns : List Int) (t : List UInt8) (h : ns.length = 6) : (lastW ns t).length = 7 := by simp [lastW, h]
theorem lastW_at (ns : List Int) (t : List UInt8) (h : ns.length = 6) (j : Nat) (hj : j < 7) : (lastW ns t)[j]? = some (if j = 6 then 61 :: t else wordsN ns 6 j) := by
  unfold lastW wordsN
  by_cases e : j = 6
  · subst e
    rw [if_pos rfl, List.getElem?_append_right (by simp [h])]
    simp [h]
  · have h6 : j < 6 := by omega
    rw [if_neg e, if_pos h6, List.getElem?_append_left (by simp; omega), List.getElem?_map, List.getElem?_eq_getElem (by omega), List.getD_eq_getElem?_getD, List.getElem?_eq_getElem (by omega)]
    rfl
theorem join_any7 (W : World) (b : Nat) (ns : List Int) (t : List UInt8) (h : ns.length = 6) (hW : WordsAt W b (fun j => if j = 6 then 61 :: t else wordsN ns 6 j)) (hlen : (Lib.join (lastW ns t) [32]).length ≤ 1000) :
    Calls Tryz.prog 83 #[.slice (some ⟨b, 0, none⟩) 7 7, .string ⟨#[32]⟩] W fun e w' => e = .returned (.string ⟨(Lib.join (lastW ns t) [32]).toArray⟩) ∧ Below W.heap.size W w' := by
  have e : (((lastW ns t).map fun l => (⟨l.toArray⟩ : ByteArray)).map (·.data.toList)) = lastW ns t := by
    rw [List.map_map]
    have : ((fun x : ByteArray => x.data.toList) ∘ fun l : List UInt8 => (⟨l.toArray⟩ : ByteArray)) = id := by funext l; simp
    rw [this, List.map_id]
  have hl : ((lastW ns t).map fun l => (⟨l.toArray⟩ : ByteArray)).length = 7 := by rw [List.length_map]; exact lastW_len ns t h
  have hj := Tryz.strings_Join b 0 7 ((lastW ns t).map fun l => (⟨l.toArray⟩ : ByteArray)) ⟨#[32]⟩ W (fun j x hx => by
      have hj : j < 7 := by have := (List.getElem?_eq_some_iff.1 hx).1; omega
      rw [Nat.zero_add, (hW.2 j hj).1]
      rw [List.getElem?_map, lastW_at ns t h j hj] at hx
      simp only [Option.map_some, Option.some.injEq] at hx
      rw [← hx]) hW.1 (by omega) (by omega) (by rw [e]; exact Nat.le_trans hlen (by omega))
  rw [hl, e] at hj
  exact hj
theorem note_len (ns : List Int) (t : List UInt8) (h : ns.length = 6) (hn : ∀ k, k < 6 → 0 ≤ ns.getD k 0 ∧ ns.getD k 0 ≤ 200) (ht : t.length ≤ 72) : (Lib.join (lastW ns t) [32]).length ≤ 1000 := by
  rw [join_words]
  have key : ∀ l : List Int, (∀ n ∈ l, 0 ≤ n ∧ n ≤ 200) → ((l.map fun n => Lib.itoa n ++ [32]).flatten).length ≤ 22 * l.length := by
    intro l
    induction l with
    | nil => intro _; simp
    | cons n r ih =>
      intro hh
      have h1 := hh n (by simp)
      have h2 := ih (fun m hm => hh m (by simp [hm]))
      have h3 := Lib.itoa_length_le n (by omega) (by omega)
      rw [List.map_cons, List.flatten_cons, List.length_append, List.length_append]
      simp only [List.length_cons, List.length_nil] at h2 ⊢
      omega
  have := key ns (fun n hm => by
    obtain ⟨j, hj, rfl⟩ := List.mem_iff_getElem.1 hm
    have := hn j (by omega)
    rwa [List.getD_eq_getElem?_getD, List.getElem?_eq_getElem hj] at this)
  rw [List.length_append, List.length_cons]
  omega
set_option maxHeartbeats 2000000 in
theorem notePrint_bad (r : Lk.Note) (v : Value) (w : World) (hP : PinsAt w v r.lock) (hc : ¬ Lk.chkNote r = 0) :
    Calls Tryz.prog 55 #[recV r v] w fun e w' => e = .returned (.tuple #[.string ⟨#[]⟩, .int .i64 (Lk.chkNote r)]) ∧ Below w.heap.size w w' := by
  obtain ⟨a, c, rfl⟩ := pins_slice hP
  have HL : Hid (∀ w, PinsAt w (.slice a r.lock.length c) r.lock → Calls Tryz.prog 81 #[.slice a r.lock.length c] w fun e w' => e = .returned (.tuple #[.string ⟨(printed r.lock).toArray⟩, .int .i64 (Lk.chk r.lock)]) ∧ Below w.heap.size w w') := fun w h => print_any _ _ w h
  have HC : Hid (∀ w, PinsAt w (.slice a r.lock.length c) r.lock → Calls Tryz.prog 21 #[recV r (.slice a r.lock.length c)] w fun e w' => e = .returned (.int .i64 (Lk.chkNote r)) ∧ Below w.heap.size w w') := fun w h => noteCheck_any r _ w h
  have HO : Hid ((if Lk.chkNote r = 0 then Lk.chk r.lock else Lk.chkNote r) = Lk.chkNote r) := or_note r
  have HP : Hid (PinsAt w (.slice a r.lock.length c) r.lock) := hP
  have hcb : (Lk.chkNote r != 0) = true := by rw [bne_iff_ne]; exact hc
  clear hP hc
  generalize Lk.chkNote r = CN at hcb HC HO ⊢
  generalize Lk.chk r.lock = CL at HL HO
  generalize (⟨(printed r.lock).toArray⟩ : ByteArray) = TL at HL
  unfold recV at HC ⊢
  obtain ⟨rk, ra, rt, rn, rg, ri, rl⟩ := r
  simp only at HC HP HL ⊢
  have HB0 : Hid (Below w.heap.size w (w.alloc (.cells #[.int .i64 rk, .int .i64 ra, .int .i64 rt, .int .i64 rn, .bool rg, .int .i64 ri, .slice a rl.length c] 34))) := (Below.refl _ w).alloc (Nat.le_refl _) _
  have HRec : Hid (RecAt (w.alloc (.cells #[.int .i64 rk, .int .i64 ra, .int .i64 rt, .int .i64 rn, .bool rg, .int .i64 ri, .slice a rl.length c] 34)) w.heap.size rk ra rt rn rg ri (.slice a rl.length c)) := recAt_alloc w rk ra rt rn rg ri (.slice a rl.length c)
  go_enter Tryz.func55, Tryz.ntmps55
  go_wp2_with fail
  refine (HL.out _ (HP.out.below HB0.out)).mono ?_
  rintro e w1 ⟨rfl, hb1⟩
  have HB1 : Hid (Below w.heap.size w w1) := HB0.out.trans (hb1.mono HB0.out.size)
  obtain ⟨c0, c1, c2, c3, c4, c5, c6, c7⟩ := HRec.out.below hb1
  clear hb1 HRec HB0
  go_wp2_with fail
  refine (HC.out _ (HP.out.below HB1.out)).mono ?_
  rintro e w2 ⟨rfl, hb2⟩
  have HB2 : Hid (Below w.heap.size w w2) := HB1.out.trans (hb2.mono HB1.out.size)
  clear hb2 HB1 c0 c1 c2 c3 c4 c5 c6 c7
  go_wp2_with fail
  refine (or2_any CN CL _ _ (by simp [go_sem]) (by simp [go_sem])).mono ?_
  rintro e w3 ⟨rfl, hb3⟩
  rw [HO.out]
  go_wp2
  go_ret2
  exact ⟨rfl, HB2.out.trans ((((Below.refl _ w2).alloc (Nat.le_refl _) _).trans (hb3.mono (by simp))).mono HB2.out.size)⟩
set_option maxHeartbeats 4000000 in
set_option maxRecDepth 100000 in
theorem notePrint_full (r : Lk.Note) (v : Value) (w : World) (hP : PinsAt w v r.lock) (hc : Lk.chkNote r = 0) (hE : Env w) :
    Calls Tryz.prog 55 #[recV r v] w fun e w' => e = .returned (.tuple #[.string ⟨(Lk.noteText r).toArray⟩, .int .i64 0]) ∧ Below w.heap.size w w' := by
  obtain ⟨a, c, rfl⟩ := pins_slice hP
  obtain ⟨hnum, hlk⟩ := Lk.note_ok hc
  have HL : Hid (∀ w, PinsAt w (.slice a r.lock.length c) r.lock → Calls Tryz.prog 81 #[.slice a r.lock.length c] w fun e w' => e = .returned (.tuple #[.string ⟨(Lk.text r.lock).toArray⟩, .int .i64 0]) ∧ Below w.heap.size w w') := fun w h => print_full _ _ w h hlk
  have HC : Hid (∀ w, PinsAt w (.slice a r.lock.length c) r.lock → Calls Tryz.prog 21 #[recV r (.slice a r.lock.length c)] w fun e w' => e = .returned (.int .i64 0) ∧ Below w.heap.size w w') := fun w h => by rw [← hc]; exact noteCheck_any r _ w h
  have HNm : Hid (∀ w, Calls Tryz.prog 30 #[recV r (.slice a r.lock.length c)] w fun e w' => e = .returned (numV r.nums) ∧ Below w.heap.size w w') := fun w => numbers_any r a _ c w
  have HIX : Hid (∀ k : Nat, k < 6 → ∀ w, (Instr.index 81 (numV r.nums) (.int .i64 k)).run Tryz.prog w = .ok (.int .i64 (r.nums.getD k 0)) w) := fun k hk w => ixN r.nums k hk rfl w
  have htl : (Lk.text r.lock).length ≤ 72 := by
    obtain ⟨h1, h2⟩ := chk_ok hlk
    have := text_len r.lock h2
    omega
  have HN : Hid (∀ k, k < 6 → 0 ≤ r.nums.getD k 0 ∧ r.nums.getD k 0 ≤ 200) := fun k hk => by
    have hl : k < r.nums.length := hk
    refine hnum _ ?_
    rw [List.getD_eq_getElem?_getD, List.getElem?_eq_getElem hl]
    exact List.getElem_mem hl
  have HTX : Hid (Lk.noteText r = Lib.join (lastW r.nums (Lk.text r.lock)) [32]) := (join_words r.nums (Lk.text r.lock)).symm
  have HP : Hid (PinsAt w (.slice a r.lock.length c) r.lock) := hP
  have HE : Hid (Env w) := hE
  have HNL : Hid (r.nums.length = 6) := rfl
  clear hP hc hnum hlk hE
  generalize Lk.noteText r = TX at HTX ⊢
  generalize Lk.text r.lock = TL at HTX HL htl
  generalize r.nums = ns at HN HTX HNm HIX HNL
  generalize numV ns = NV at HNm HIX
  unfold recV at HC HNm ⊢
  obtain ⟨rk, ra, rt, rn, rg, ri, rl⟩ := r
  simp only at HC HP HL HNm ⊢
  have HB0 : Hid (Below w.heap.size w (w.alloc (.cells #[.int .i64 rk, .int .i64 ra, .int .i64 rt, .int .i64 rn, .bool rg, .int .i64 ri, .slice a rl.length c] 34))) := (Below.refl _ w).alloc (Nat.le_refl _) _
  have HRec : Hid (RecAt (w.alloc (.cells #[.int .i64 rk, .int .i64 ra, .int .i64 rt, .int .i64 rn, .bool rg, .int .i64 ri, .slice a rl.length c] 34)) w.heap.size rk ra rt rn rg ri (.slice a rl.length c)) := recAt_alloc w rk ra rt rn rg ri (.slice a rl.length c)
  go_enter Tryz.func55, Tryz.ntmps55
  go_wp2_with fail
  refine (HL.out _ (HP.out.below HB0.out)).mono ?_
  rintro e w1 ⟨rfl, hb1⟩
  have HB1 : Hid (Below w.heap.size w w1) := HB0.out.trans (hb1.mono HB0.out.size)
  have HR1 : Hid (RecAt w1 w.heap.size rk ra rt rn rg ri (.slice a rl.length c)) := HRec.out.below hb1
  obtain ⟨c0, c1, c2, c3, c4, c5, c6, c7⟩ := HR1.out
  clear hb1 HRec HB0
  go_wp2_with fail
  refine (HC.out _ (HP.out.below HB1.out)).mono ?_
  rintro e w2 ⟨rfl, hb2⟩
  have HB2 : Hid (Below w.heap.size w w2) := HB1.out.trans (hb2.mono HB1.out.size)
  have HR2 : Hid (RecAt w2 w.heap.size rk ra rt rn rg ri (.slice a rl.length c)) := HR1.out.below hb2
  clear hb2 HB1 c0 c1 c2 c3 c4 c5 c6 c7 HR1
  go_wp2_with fail
  refine (or2_any 0 0 _ _ (by simp [go_sem]) (by simp [go_sem])).mono ?_
  rintro e w3 ⟨rfl, hb3⟩
  have hb3' := ((Below.refl _ w2).alloc (Nat.le_refl _) _).trans (hb3.mono (by simp))
  have HB3 : Hid (Below w.heap.size w w3) := HB2.out.trans (hb3'.mono HB2.out.size)
  have HR3 : Hid (RecAt w3 w.heap.size rk ra rt rn rg ri (.slice a rl.length c)) := HR2.out.below hb3'
  clear hb3 hb3' HB2 HR2
  obtain ⟨c0, c1, c2, c3, c4, c5, c6, c7⟩ := HR3.out
  go_wp2_with fail
  have HBA : Hid (Below w3.heap.size w3 (w3.alloc (.cells #[.string ⟨#[]⟩, .string ⟨#[]⟩, .string ⟨#[]⟩, .string ⟨#[]⟩, .string ⟨#[]⟩, .string ⟨#[]⟩, .string ⟨#[]⟩] 145))) := (Below.refl _ _).alloc (Nat.le_refl _) _
  have HWA : Hid (WordsAt (w3.alloc (.cells #[.string ⟨#[]⟩, .string ⟨#[]⟩, .string ⟨#[]⟩, .string ⟨#[]⟩, .string ⟨#[]⟩, .string ⟨#[]⟩, .string ⟨#[]⟩] 145)) w3.heap.size (fun _ => [])) := wordsAt_alloc w3
  generalize w3.alloc (.cells #[.string ⟨#[]⟩, .string ⟨#[]⟩, .string ⟨#[]⟩, .string ⟨#[]⟩, .string ⟨#[]⟩, .string ⟨#[]⟩, .string ⟨#[]⟩] 145) = W at HBA HWA ⊢
  refine (HNm.out _).mono ?_
  rintro e w4 ⟨rfl, hb4⟩
  have HB4 : Hid (Below w3.heap.size w3 w4) := HBA.out.trans (hb4.mono HBA.out.size)
  have HW4 : Hid (WordsAt w4 w3.heap.size (wordsN ns 0)) := HWA.out.below hb4
  clear hb4 HBA HWA c0 c1 c2 c3 c4 c5 c6 c7 HR3 HC HNm HL
  go_wp2_with fail
  go_loopg [27] 6 (fun g s27 wr => ∃ k : Nat, k ≤ 6 ∧ 6 - k ≤ g ∧ s27 = .int .i64 k ∧ Hid (WordsAt wr w3.heap.size (wordsN ns k)) ∧ Hid (Below w3.heap.size w3 wr))
  case atStart => exact ⟨0, Nat.zero_le _, by omega, rfl, HW4, HB4⟩
  case round =>
    obtain ⟨k, hk, hg, rfl, HWr, HBr⟩ := hrel
    by_cases hlt : k < 6
    · have hlt' : (k : Int) < 6 := by omega
      have hix := HIX.out k hlt
      obtain ⟨h1, h2⟩ := HN.out k hlt
      have HNX : Hid ((fun j => if j = k then Lib.itoa (ns.getD k 0) else wordsN ns k j) = wordsN ns (k + 1)) := wordsN_next ns k
      generalize ns.getD k 0 = n at hix HNX h1 h2
      have HI : Hid (∀ w, Env w → Calls Tryz.prog 82 #[.int .i64 n] w fun e w' => e = .returned (.string ⟨(Lib.itoa n).toArray⟩) ∧ Below w.heap.size w w') := fun w hE => itoa_any n (by omega) (by omega) w hE
      have HEr : Hid (Env wr) := (HE.out.below HB3.out).below HBr.out
      clear h1 h2
      go_wp2_with fail
      refine (HI.out _ HEr.out).mono ?_
      rintro e w5 ⟨rfl, hb5⟩
      have HW5 : Hid (WordsAt w5 w3.heap.size (wordsN ns k)) := HWr.out.below hb5
      have HB5 : Hid (Below w3.heap.size w3 w5) := HBr.out.trans (hb5.mono HBr.out.size)
      obtain ⟨k1, k2⟩ := HW5.out.2 k (by omega)
      have hlt7 : (k : Int) < 7 := by omega
      clear hb5 hix
      go_wp2
      go_roundg (6 - (k + 1))
      case measure => omega
      case rel => exact ⟨k + 1, by omega, by omega, by go_num, by rw [← HNX.out]; exact HW5.out.set k (by omega) _, HB5.out.setCell (Nat.le_refl _) _⟩
    · have hk' : k = 6 := by omega
      subst hk'
      clear hk hlt
      obtain ⟨k1, k2⟩ := HWr.out.2 6 (by omega)
      have HLN : Hid ((Lib.join (lastW ns TL) [32]).length ≤ 1000) := note_len ns TL HNL.out HN.out htl
      have HWS : Hid (WordsAt (wr.setCell ⟨w3.heap.size, 6, none⟩ (.string (⟨#[61]⟩ ++ ⟨TL.toArray⟩))) w3.heap.size (fun j => if j = 6 then 61 :: TL else wordsN ns 6 j)) := by
        rw [str_eq]; exact HWr.out.set 6 (by omega) _
      have HBS : Hid (Below w3.heap.size w3 (wr.setCell ⟨w3.heap.size, 6, none⟩ (.string (⟨#[61]⟩ ++ ⟨TL.toArray⟩)))) := HBr.out.setCell (Nat.le_refl _) _
      go_wp2_with fail
      refine (join_any7 _ _ ns TL HNL.out HWS.out HLN.out).mono ?_
      rintro e w6 ⟨rfl, hb6⟩
      rw [← HTX.out]
      go_wp2
      go_ret2
      exact ⟨rfl, HB3.out.trans ((HBS.out.trans (hb6.mono HBS.out.size)).mono HB3.out.size)⟩
theorem notePrint_any (r : Lk.Note) (v : Value) (w : World) (hP : PinsAt w v r.lock) (hE : Env w) :
    Calls Tryz.prog 55 #[recV r v] w fun e w' => e = .returned (.tuple #[.string ⟨(Lk.notePrinted r).toArray⟩, .int .i64 (Lk.chkNote r)]) ∧ Below w.heap.size w w' := by
  by_cases hc : Lk.chkNote r = 0
  · rw [show Lk.notePrinted r = Lk.noteText r from if_pos hc, hc]
    exact notePrint_full r v w hP hc hE
  · rw [show Lk.notePrinted r = [] from if_neg hc]
    exact notePrint_bad r v w hP hc
end Go.Proofs.YtpenkhehceglfaaGreatDoor
/- Contracts of the closure of note.readNumbers and of note.readNumbers. -/
namespace Go.Proofs.YtpenkhehceglfaaGreatDoor
open Go.RowKit
theorem grown_below {w w' : World} (h : Below w.heap.size w w') (row : Option Nat) : w.grownBy w' row := ⟨h.os, h.tape, h.output, h.size, fun i hi _ => h.block i hi⟩
theorem grown_trans {a b c : World} {row : Option Nat} (h : a.grownBy b row) (k : b.grownBy c row) : a.grownBy c row :=
  ⟨k.os.trans h.os, k.tape.trans h.tape, k.output.trans h.output, Nat.le_trans h.size k.size, fun i hi hne => (k.block i (Nat.lt_of_lt_of_le hi h.size) hne).trans (h.block i hi hne)⟩
theorem grown_set (W : World) (b : Nat) (v : Value) : W.grownBy (W.setCell ⟨b, 0, none⟩ v) (some b) :=
  ⟨rfl, rfl, rfl, by simp [World.setCell], fun i _ hne => Below.heap_setCell W ⟨b, 0, none⟩ v i (fun e => hne (by rw [e]))⟩
theorem below_grown {w w' : World} {g n : Nat} (h : w.grownBy w' (some g)) (hn : n ≤ g) (hw : n ≤ w.heap.size) : Below n w w' :=
  ⟨h.os, h.tape, h.output, h.size, fun i hi => h.block i (by omega) (fun e => by injection e with e; omega)⟩
theorem var_kept8 {n : String} {w w' : World} {cs : Array Value} (hg : ((Tryz.prog.globalNamed n).map fun g => decide (g < 8)) = some true) (hb : Below 8 w w') (hv : w.var? Tryz.prog n = some cs) : w'.var? Tryz.prog n = some cs := by
  obtain ⟨g, e1, e2⟩ := Option.map_eq_some_iff.1 hg
  exact var?_below hb e1 (of_decide_eq_true e2) hv
theorem Env.below8 {w w' : World} (h : Env w) (hb : Below 8 w w') : Env w' := by
  refine ⟨?_, var_kept8 g_tab hb h.tab, ?_, ?_, Nat.le_trans h.big hb.size⟩
  · obtain ⟨m, hm⟩ := h.mx
    exact ⟨m, (hb.cell (p := ⟨0, 0, none⟩) (by show 0 < 8; omega)).trans hm⟩
  · obtain ⟨tp, p, hv⟩ := h.syn
    exact ⟨tp, p, var_kept8 g_syn hb hv⟩
  · obtain ⟨tp, p, hv⟩ := h.ran
    exact ⟨tp, p, var_kept8 g_ran hb hv⟩
theorem cut32_any (s : ByteArray) (hs : s.size ≤ 60000) (w : World) (hE : Env w) :
    Calls Tryz.prog 127 #[.string s, .string ⟨#[32]⟩] w fun e w' => (∃ a b : ByteArray, e = .returned (.tuple #[.string a, .string b, .bool (Lib.cut s.data.toList [32]).2.2]) ∧ a.data.toList = (Lib.cut s.data.toList [32]).1 ∧ b.data.toList = (Lib.cut s.data.toList [32]).2.1 ∧ a.size ≤ 60000 ∧ b.size ≤ 60000) ∧ Below w.heap.size w w' := by
  obtain ⟨m, hm⟩ := hE.mx
  refine (Tryz.strings_Cut s ⟨#[32]⟩ m w (by omega) hm).mono ?_
  rintro e w' ⟨rfl, n, rfl⟩
  refine ⟨⟨_, _, rfl, rfl, rfl, ?_, ?_⟩, below_drewN (Below.refl _ _) n⟩
  · show (Lib.cut s.data.toList [32]).1.toArray.size ≤ 60000
    have hl : s.data.toList.length ≤ 60000 := hs
    unfold Lib.cut; split <;> simp <;> omega
  · show (Lib.cut s.data.toList [32]).2.1.toArray.size ≤ 60000
    have hl : s.data.toList.length ≤ 60000 := hs
    unfold Lib.cut; split <;> simp <;> omega
set_option maxHeartbeats 2000000 in
theorem next_any (s : ByteArray) (hs : s.size ≤ 60000) (g : Nat) (w : World) (hE : Env w) (h8 : 8 ≤ g) (hg : w.cell? ⟨g, 0, none⟩ = some (.string s)) (hf : w.frozen? ⟨g, 0, none⟩ = false) :
    Calls Tryz.prog 126 #[.pointer (some ⟨g, 0, none⟩)] w fun e w' => (∃ n : Int, ∃ b : ByteArray, e = .returned (.tuple #[.int .i64 n, .bool ((Lib.cut s.data.toList [32]).2.2 && (Lk.numOf (Lib.cut s.data.toList [32]).1).isSome)]) ∧ (∀ v, Lk.numOf (Lib.cut s.data.toList [32]).1 = some v → n = v) ∧ b.data.toList = (Lib.cut s.data.toList [32]).2.1 ∧ b.size ≤ 60000 ∧ w'.cell? ⟨g, 0, none⟩ = some (.string b) ∧ w'.frozen? ⟨g, 0, none⟩ = false) ∧ w.grownBy w' (some g) := by
  have hgs : g < w.heap.size := by
    rcases Nat.lt_or_ge g w.heap.size with h | h
    · exact h
    · rw [World.cell?, Array.getElem?_eq_none h] at hg; cases hg
  have HE : Hid (Env w) := hE
  have HC : Hid (∀ w, Env w → Calls Tryz.prog 127 #[.string s, .string ⟨#[32]⟩] w fun e w' => (∃ a b : ByteArray, e = .returned (.tuple #[.string a, .string b, .bool (Lib.cut s.data.toList [32]).2.2]) ∧ a.data.toList = (Lib.cut s.data.toList [32]).1 ∧ b.data.toList = (Lib.cut s.data.toList [32]).2.1 ∧ a.size ≤ 60000 ∧ b.size ≤ 60000) ∧ Below w.heap.size w w') := fun w hE => cut32_any s hs w hE
  clear hE
  generalize Lib.cut s.data.toList [32] = q at HC ⊢
  obtain ⟨q1, q2, q3⟩ := q
  simp only at HC ⊢
  go_enter Tryz.func126, Tryz.ntmps126
  go_wp2_with fail
  refine (HC.out _ HE.out).mono ?_
  rintro e w1 ⟨⟨x, b, rfl, hx, hb, hsx, hsb⟩, hb1⟩
  have g1 : w1.cell? ⟨g, 0, none⟩ = some (.string s) := (hb1.cell (p := ⟨g, 0, none⟩) hgs).trans hg
  have f1 : w1.frozen? ⟨g, 0, none⟩ = false := (hb1.frozen (p := ⟨g, 0, none⟩) hgs).trans hf
  have HE1 : Hid (Env w1) := HE.out.below hb1
  have HX : Hid (x.data.toList = q1) := hx
  have HBb : Hid (b.data.toList = q2) := hb
  have HB1 : Hid (Below w.heap.size w w1) := hb1
  have hgs1 : g < w1.heap.size := Nat.lt_of_lt_of_le hgs hb1.size
  clear hb1 hx hb hg hf HE HC
  have HGS : Hid (w1.grownBy (w1.setCell ⟨g, 0, none⟩ (.string b)) (some g)) := grown_set w1 g _
  have HES : Hid (Env (w1.setCell ⟨g, 0, none⟩ (.string b))) := HE1.out.below8 ((Below.refl _ _).setCell h8 _)
  have hss : g < (w1.setCell ⟨g, 0, none⟩ (.string b)).heap.size := by simpa [World.setCell] using hgs1
  have HGC : Hid ((w1.setCell ⟨g, 0, none⟩ (.string b)).cell? ⟨g, 0, none⟩ = some (.string b) ∧ (w1.setCell ⟨g, 0, none⟩ (.string b)).frozen? ⟨g, 0, none⟩ = false) := ⟨World.cell?_setCell_same _ _ _ g1, by rw [World.frozen?_setCell]; exact f1⟩
  have HSS : Hid (g < (w1.setCell ⟨g, 0, none⟩ (.string b)).heap.size) := hss
  clear hss
  go_wp2_with fail
  refine (readNumber_any x hsx _ HES.out).mono ?_
  rintro e w2 ⟨⟨n, rfl, hn⟩, hb2⟩
  rw [HX.out] at hn ⊢
  have HN : Hid (∀ v, Lk.numOf q1 = some v → n = v) := hn
  have HC2 : Hid (w2.cell? ⟨g, 0, none⟩ = some (.string b) ∧ w2.frozen? ⟨g, 0, none⟩ = false) := ⟨(hb2.cell (p := ⟨g, 0, none⟩) HSS.out).trans HGC.out.1, (hb2.frozen (p := ⟨g, 0, none⟩) HSS.out).trans HGC.out.2⟩
  have HG2 : Hid (w.grownBy w2 (some g)) := grown_trans (grown_trans (grown_below HB1.out _) HGS.out) (grown_below hb2 _)
  clear hn hb2 HGC HSS HES HGS g1 f1
  generalize ho : (Lk.numOf q1).isSome = o
  have HO : Hid ((Lk.numOf q1).isSome = o) := ho
  clear ho
  cases q3
  all_goals
    go_wp2
    go_ret2
    exact ⟨⟨n, b, by rw [HO.out]; rfl, HN.out, HBb.out, hsb, HC2.out.1, HC2.out.2⟩, HG2.out⟩
/-- six numbers in a block of their own -/
def NumsAt (w : World) (b : Nat) (ns : List Int) : Prop := b < w.heap.size ∧ ∀ j, j < 6 → w.cell? ⟨b, j, none⟩ = some (.int .i64 (ns.getD j 0)) ∧ w.frozen? ⟨b, j, none⟩ = false
theorem NumsAt.grown {w w' : World} {b g : Nat} {ns : List Int} (h : NumsAt w b ns) (hb : w.grownBy w' (some g)) (hne : b ≠ g) : NumsAt w' b ns := by
  have e := hb.block b h.1 (fun e => hne (by injection e))
  exact ⟨Nat.lt_of_lt_of_le h.1 hb.size, fun j hj => ⟨(World.cell?_of_block (w := w) (a := ⟨b, j, none⟩) e).trans (h.2 j hj).1, (World.frozen?_of_block (w := w) (a := ⟨b, j, none⟩) e).trans (h.2 j hj).2⟩⟩
theorem NumsAt.below {w w' : World} {b : Nat} {ns : List Int} (h : NumsAt w b ns) (hb : Below w.heap.size w w') : NumsAt w' b ns :=
  ⟨Nat.lt_of_lt_of_le h.1 hb.size, fun j hj => ⟨(hb.cell (p := ⟨b, j, none⟩) h.1).trans (h.2 j hj).1, (hb.frozen (p := ⟨b, j, none⟩) h.1).trans (h.2 j hj).2⟩⟩
theorem NumsAt.far {w : World} {b : Nat} {ns : List Int} (h : NumsAt w b ns) {c : Nat} (hne : b ≠ c) (o : Nat) (u : Value) : NumsAt (w.setCell ⟨c, o, none⟩ u) b ns := by
  have e : (w.setCell ⟨c, o, none⟩ u).heap[b]? = w.heap[b]? := Below.heap_setCell w ⟨c, o, none⟩ u b hne
  exact ⟨by simpa [World.setCell] using h.1, fun j hj => ⟨(World.cell?_of_block (w := w) (a := ⟨b, j, none⟩) e).trans (h.2 j hj).1, (World.frozen?_of_block (w := w) (a := ⟨b, j, none⟩) e).trans (h.2 j hj).2⟩⟩
theorem NumsAt.set {w : World} {b : Nat} {ns : List Int} (h : NumsAt w b ns) (n : Int) : NumsAt (w.setCell ⟨b, ns.length, none⟩ (.int .i64 n)) b (ns ++ [n]) := by
  refine ⟨by simpa [World.setCell] using h.1, fun j hj => ⟨?_, by rw [World.frozen?_setCell]; exact (h.2 j hj).2⟩⟩
  by_cases e : j = ns.length
  · subst e
    rw [World.cell?_setCell_same _ _ _ (h.2 _ hj).1]
    simp
  · rw [World.cell?_setCell_other _ _ _ _ (by intro x; injection x with _ x; exact e x.symm), (h.2 j hj).1]
    by_cases h2 : j < ns.length
    · rw [List.getD_eq_getElem?_getD, List.getD_eq_getElem?_getD, List.getElem?_append_left h2]
    · rw [List.getD_eq_getElem?_getD, List.getD_eq_getElem?_getD, List.getElem?_eq_none (by omega), List.getElem?_eq_none (by simp; omega)]
theorem numsAt_alloc (w : World) : NumsAt (w.alloc (.cells #[.int .i64 0, .int .i64 0, .int .i64 0, .int .i64 0, .int .i64 0, .int .i64 0] 81)) w.heap.size [] := by
  refine ⟨by simp, fun j hj => ?_⟩
  rcases j with _ | _ | _ | _ | _ | _ | j
  iterate 6 exact ⟨by simp [go_sem], by simp [go_sem]⟩
  omega
/-- what readNumbers answers -/
def readOk (s : List UInt8) (ns : List Int) (p : ByteArray) (ok : Bool) : Prop := ns.length = 6 ∧ p.size ≤ 60000 ∧ (ok = true → Lk.readNote s = Lk.fin ns p.data.toList) ∧ (ok = false → Lk.readNote s = (Lk.Note.none, 1))
def readRes (s : List UInt8) (e : Ending) : Prop := ∃ ns p ok, e = .returned (.tuple #[numV ns, .string p, .bool ok]) ∧ readOk s ns p ok
theorem readRes_mk {s : List UInt8} {ns : List Int} {p : ByteArray} {ok : Bool} (h : readOk s ns p ok) : readRes s (.returned (.tuple #[numV ns, .string p, .bool ok])) := ⟨ns, p, ok, rfl, h⟩
theorem read_no6 {s : List UInt8} {k : Nat} (hk : k ≤ 6) (h : Lk.rdTo k s = none) : Lk.readNote s = (Lk.Note.none, 1) := by
  have := Lk.rdTo_none h (6 - k)
  rw [show k + (6 - k) = 6 by omega] at this
  unfold Lk.readNote
  rw [this]
theorem read_pre {s r : List UInt8} {ns : List Int} (h : Lk.rdTo 6 s = some (ns, r)) (hp : Lib.hasPrefix r [61] = false) : Lk.readNote s = (Lk.Note.none, 1) := by
  unfold Lk.readNote
  rw [h]
  simp only
  cases r with
  | nil => rfl
  | cons c t =>
    simp only
    rw [if_neg]
    intro e
    rw [e.1] at hp
    simp [Lib.hasPrefix] at hp
theorem read_bad4 {s r : List UInt8} {ns : List Int} (h : Lk.rdTo 6 s = some (ns, r)) (hg : Lk.within (ns.getD 4 0) 0 1 = false) : Lk.readNote s = (Lk.Note.none, 1) := by
  unfold Lk.readNote
  rw [h]
  simp only
  cases r with
  | nil => rfl
  | cons c t =>
    simp only
    rw [if_neg]
    intro e
    rw [e.2] at hg; cases hg
theorem read_all {s r : List UInt8} {ns : List Int} (h : Lk.rdTo 6 s = some (ns, r)) (hp : Lib.hasPrefix r [61] = true) (hg : Lk.within (ns.getD 4 0) 0 1 = true) : Lk.readNote s = Lk.fin ns (Lib.trimPrefix r [61]) := by
  unfold Lk.readNote
  rw [h]
  simp only
  cases r with
  | nil => simp [Lib.hasPrefix] at hp
  | cons c t =>
    have hc : c = 61 := by
      have := hp
      simp [Lib.hasPrefix] at this
      exact this.symm
    simp only
    rw [if_pos ⟨hc, hg⟩, Lib.trimPrefix, if_pos hp]
    rfl
theorem trim_size (r : ByteArray) (h : r.size ≤ 60000) : (⟨(Lib.trimPrefix r.data.toList [61]).toArray⟩ : ByteArray).size ≤ 60000 := by
  show (Lib.trimPrefix r.data.toList [61]).toArray.size ≤ 60000
  have hl : r.data.toList.length ≤ 60000 := h
  unfold Lib.trimPrefix
  split <;> simp <;> omega
theorem step_yes {s : List UInt8} {r : ByteArray} {k : Nat} {ns : List Int} {n : Int} (h : Lk.rdTo k s = some (ns, r.data.toList)) (hn : ∀ v, Lk.numOf (Lib.cut r.data.toList [32]).1 = some v → n = v)
    (ho : ((Lib.cut r.data.toList [32]).2.2 && (Lk.numOf (Lib.cut r.data.toList [32]).1).isSome) = true) : Lk.rdTo (k + 1) s = some (ns ++ [n], (Lib.cut r.data.toList [32]).2.1) := by
  rw [Bool.and_eq_true] at ho
  cases e : Lk.numOf (Lib.cut r.data.toList [32]).1 with
  | none => rw [e] at ho; cases ho.2
  | some v => rw [hn v e]; exact Lk.rdTo_next h ho.1 e
theorem step_no {s : List UInt8} {r : ByteArray} {k : Nat} {ns : List Int} (h : Lk.rdTo k s = some (ns, r.data.toList))
    (ho : ((Lib.cut r.data.toList [32]).2.2 && (Lk.numOf (Lib.cut r.data.toList [32]).1).isSome) = false) : Lk.rdTo (k + 1) s = none := by
  cases e : (Lib.cut r.data.toList [32]).2.2 with
  | false => exact Lk.rdTo_cut h e
  | true =>
    rw [e, Bool.true_and] at ho
    cases e' : Lk.numOf (Lib.cut r.data.toList [32]).1 with
    | none => exact Lk.rdTo_num h e'
    | some v => rw [e'] at ho; cases ho
set_option maxHeartbeats 4000000 in
set_option maxRecDepth 100000 in
theorem readNumbers_any (s : ByteArray) (hs : s.size ≤ 60000) (w : World) (hE : Env w) :
    Calls Tryz.prog 107 #[.string s] w fun e w' => readRes s.data.toList e ∧ Below w.heap.size w w' := by
  have HE : Hid (Env w) := hE
  have HS : Hid (s.size ≤ 60000) := hs
  have h8 := hE.big
  clear hE hs
  have HA : Hid (NumsAt (((w.alloc (.cells #[.int .i64 0, .int .i64 0, .int .i64 0, .int .i64 0, .int .i64 0, .int .i64 0] 81)).alloc (.cells #[.string s] 9)).alloc (.cells #[.int .i64 0, .int .i64 0, .int .i64 0, .int .i64 0, .int .i64 0, .int .i64 0] 81)) w.heap.size []) :=
    (numsAt_alloc w).below (((Below.refl _ _).alloc (Nat.le_refl _) _).alloc (by simp) _)
  have HC : Hid (NumsAt (((w.alloc (.cells #[.int .i64 0, .int .i64 0, .int .i64 0, .int .i64 0, .int .i64 0, .int .i64 0] 81)).alloc (.cells #[.string s] 9)).alloc (.cells #[.int .i64 0, .int .i64 0, .int .i64 0, .int .i64 0, .int .i64 0, .int .i64 0] 81)) (w.heap.size + 1 + 1) []) := by
    have := numsAt_alloc ((w.alloc (.cells #[.int .i64 0, .int .i64 0, .int .i64 0, .int .i64 0, .int .i64 0, .int .i64 0] 81)).alloc (.cells #[.string s] 9))
    rwa [World.size_alloc, World.size_alloc] at this
  have HB : Hid (Below w.heap.size w (((w.alloc (.cells #[.int .i64 0, .int .i64 0, .int .i64 0, .int .i64 0, .int .i64 0, .int .i64 0] 81)).alloc (.cells #[.string s] 9)).alloc (.cells #[.int .i64 0, .int .i64 0, .int .i64 0, .int .i64 0, .int .i64 0, .int .i64 0] 81))) := (((Below.refl _ w).alloc (Nat.le_refl _) _).alloc (by simp) _).alloc (by simp; omega) _
  have HR : Hid ((((w.alloc (.cells #[.int .i64 0, .int .i64 0, .int .i64 0, .int .i64 0, .int .i64 0, .int .i64 0] 81)).alloc (.cells #[.string s] 9)).alloc (.cells #[.int .i64 0, .int .i64 0, .int .i64 0, .int .i64 0, .int .i64 0, .int .i64 0] 81)).cell? ⟨w.heap.size + 1, 0, none⟩ = some (.string s) ∧ (((w.alloc (.cells #[.int .i64 0, .int .i64 0, .int .i64 0, .int .i64 0, .int .i64 0, .int .i64 0] 81)).alloc (.cells #[.string s] 9)).alloc (.cells #[.int .i64 0, .int .i64 0, .int .i64 0, .int .i64 0, .int .i64 0, .int .i64 0] 81)).frozen? ⟨w.heap.size + 1, 0, none⟩ = false) := ⟨by simp [go_sem], by simp [go_sem]⟩
  go_enter Tryz.func107, Tryz.ntmps107
  go_wp2_with fail
  generalize ((w.alloc (.cells #[.int .i64 0, .int .i64 0, .int .i64 0, .int .i64 0, .int .i64 0, .int .i64 0] 81)).alloc (.cells #[.string s] 9)).alloc (.cells #[.int .i64 0, .int .i64 0, .int .i64 0, .int .i64 0, .int .i64 0, .int .i64 0] 81) = W at HA HC HB HR ⊢
  go_loopg [15] 6 (fun g s15 wr => ∃ k : Nat, ∃ ns : List Int, ∃ r : ByteArray, k ≤ 6 ∧ 6 - k ≤ g ∧ s15 = .int .i64 k ∧ Hid (Lk.rdTo k s.data.toList = some (ns, r.data.toList)) ∧ Hid (r.size ≤ 60000) ∧ Hid (wr.cell? ⟨w.heap.size + 1, 0, none⟩ = some (.string r) ∧ wr.frozen? ⟨w.heap.size + 1, 0, none⟩ = false) ∧ Hid (NumsAt wr w.heap.size []) ∧ Hid (NumsAt wr (w.heap.size + 1 + 1) ns) ∧ Hid (Below w.heap.size w wr))
  case atStart => exact ⟨0, [], s, Nat.zero_le _, by omega, rfl, rfl, HS, HR, HA, HC, HB⟩
  case round =>
    obtain ⟨k, ns, r, hk, hg, rfl, HRd, HRs, HRc, HAr, HCr, HBr⟩ := hrel
    have HEr : Hid (Env wr) := HE.out.below HBr.out
    have HLn : Hid (ns.length = k) := Lk.rdTo_len HRd.out
    by_cases hlt : k < 6
    · have hlt' : (k : Int) < 6 := by omega
      go_wp2_with fail
      refine (next_any r HRs.out (w.heap.size + 1) _ HEr.out (by omega) HRc.out.1 HRc.out.2).mono ?_
      rintro e w2 ⟨⟨n, b, rfl, hn, hb, hsb, hc, hf⟩, hgr⟩
      have HY : Hid (((Lib.cut r.data.toList [32]).2.2 && (Lk.numOf (Lib.cut r.data.toList [32]).1).isSome) = true → Lk.rdTo (k + 1) s.data.toList = some (ns ++ [n], b.data.toList)) := fun ho => by rw [hb]; exact step_yes HRd.out hn ho
      have HX : Hid (((Lib.cut r.data.toList [32]).2.2 && (Lk.numOf (Lib.cut r.data.toList [32]).1).isSome) = false → Lk.rdTo (k + 1) s.data.toList = none) := fun ho => step_no HRd.out ho
      generalize ((Lib.cut r.data.toList [32]).2.2 && (Lk.numOf (Lib.cut r.data.toList [32]).1).isSome) = ok at HY HX
      have HA2 : Hid (NumsAt w2 w.heap.size []) := HAr.out.grown hgr (by omega)
      have HC2 : Hid (NumsAt w2 (w.heap.size + 1 + 1) ns) := HCr.out.grown hgr (by omega)
      have HB2 : Hid (Below w.heap.size w w2) := HBr.out.trans (below_grown hgr (by omega) HBr.out.size)
      have HSb : Hid (b.size ≤ 60000) := hsb
      have HRc2 : Hid (w2.cell? ⟨w.heap.size + 1, 0, none⟩ = some (.string b) ∧ w2.frozen? ⟨w.heap.size + 1, 0, none⟩ = false) := ⟨hc, hf⟩
      clear hn hb hsb hc hf hgr HAr HCr HRc HRd HRs HEr
      cases ok
      · have HNo : Hid (Lk.readNote s.data.toList = (Lk.Note.none, 1)) := read_no6 (by omega) (HX.out rfl)
        clear HX HY
        obtain ⟨z0, y0⟩ := HA2.out.2 0 (by omega)
        obtain ⟨z1, y1⟩ := HA2.out.2 1 (by omega)
        obtain ⟨z2, y2⟩ := HA2.out.2 2 (by omega)
        obtain ⟨z3, y3⟩ := HA2.out.2 3 (by omega)
        obtain ⟨z4, y4⟩ := HA2.out.2 4 (by omega)
        obtain ⟨z5, y5⟩ := HA2.out.2 5 (by omega)
        simp only [List.getD_nil] at z0 z1 z2 z3 z4 z5
        go_wp2
        refine bodyPost_ret (v := .tuple #[numV (List.replicate 6 0), .string ⟨#[]⟩, .bool false]) (by simp [results, Tryz.results107, go_sem, numV, z0, z1, z2, z3, z4, z5]) rfl ⟨readRes_mk ⟨by simp, by decide, fun h => (by cases h), fun _ => HNo.out⟩, ?_⟩
        exact ((((((HB2.out.setCell (Nat.le_refl _) _).setCell (Nat.le_refl _) _).setCell (Nat.le_refl _) _).setCell (Nat.le_refl _) _).setCell (Nat.le_refl _) _).setCell (Nat.le_refl _) _)
      · have HRd2 : Hid (Lk.rdTo (k + 1) s.data.toList = some (ns ++ [n], b.data.toList)) := HY.out rfl
        clear HX HY
        obtain ⟨k1, k2⟩ := HC2.out.2 k (by omega)
        have HSet : Hid (NumsAt (w2.setCell ⟨w.heap.size + 1 + 1, k, none⟩ (.int .i64 n)) (w.heap.size + 1 + 1) (ns ++ [n])) := by
          have := HC2.out.set n
          rwa [HLn.out] at this
        go_wp2
        go_roundg (6 - (k + 1))
        case measure => omega
        case rel => exact ⟨k + 1, ns ++ [n], b, by omega, by omega, by go_num, HRd2, HSb, ⟨by rw [World.cell?_setCell_other _ _ _ _ (by intro x; injection x with x; omega)]; exact HRc2.out.1, by rw [World.frozen?_setCell]; exact HRc2.out.2⟩, HA2.out.far (by omega) _ _, HSet, HB2.out.setCell (by show w.heap.size ≤ w.heap.size + 1 + 1; omega) _⟩
    · have hk' : k = 6 := by omega
      subst hk'
      clear hk hlt
      obtain ⟨r1, r2⟩ := HRc.out
      have hl6 : ns.length = 6 := HLn.out
      have HP : Hid (∀ w, Calls Tryz.prog 129 #[.string r, .string ⟨#[61]⟩] w fun e w' => e = .returned (.tuple #[.string ⟨(Lib.trimPrefix r.data.toList [61]).toArray⟩, .bool (Lib.hasPrefix r.data.toList [61])]) ∧ w' = w) := fun w => Tryz.strings_CutPrefix r ⟨#[61]⟩ w
      have HTS : Hid ((⟨(Lib.trimPrefix r.data.toList [61]).toArray⟩ : ByteArray).size ≤ 60000) := trim_size r HRs.out
      have HF1 : Hid (Lib.hasPrefix r.data.toList [61] = false → Lk.readNote s.data.toList = (Lk.Note.none, 1)) := fun h => read_pre HRd.out h
      have HF2 : Hid (Lk.within (ns.getD 4 0) 0 1 = false → Lk.readNote s.data.toList = (Lk.Note.none, 1)) := fun h => read_bad4 HRd.out h
      have HF3 : Hid (Lib.hasPrefix r.data.toList [61] = true → Lk.within (ns.getD 4 0) 0 1 = true → Lk.readNote s.data.toList = Lk.fin ns (⟨(Lib.trimPrefix r.data.toList [61]).toArray⟩ : ByteArray).data.toList) := fun h h' => by
        rw [read_all HRd.out h h']
      generalize (⟨(Lib.trimPrefix r.data.toList [61]).toArray⟩ : ByteArray) = p at HP HTS HF3
      generalize Lib.hasPrefix r.data.toList [61] = hp at HP HF1 HF3
      clear HRd HRs HRc HLn
      obtain ⟨z0, y0⟩ := HAr.out.2 0 (by omega)
      obtain ⟨z1, y1⟩ := HAr.out.2 1 (by omega)
      obtain ⟨z2, y2⟩ := HAr.out.2 2 (by omega)
      obtain ⟨z3, y3⟩ := HAr.out.2 3 (by omega)
      obtain ⟨z4, y4⟩ := HAr.out.2 4 (by omega)
      obtain ⟨z5, y5⟩ := HAr.out.2 5 (by omega)
      obtain ⟨x0, -⟩ := HCr.out.2 0 (by omega)
      obtain ⟨x1, -⟩ := HCr.out.2 1 (by omega)
      obtain ⟨x2, -⟩ := HCr.out.2 2 (by omega)
      obtain ⟨x3, -⟩ := HCr.out.2 3 (by omega)
      obtain ⟨x4, -⟩ := HCr.out.2 4 (by omega)
      obtain ⟨x5, -⟩ := HCr.out.2 5 (by omega)
      match ns, hl6 with
      | [n0, n1, n2, n3, n4, n5], _ =>
      simp only [List.getD_nil, List.getD_cons_zero, List.getD_cons_succ] at z0 z1 z2 z3 z4 z5 x0 x1 x2 x3 x4 x5 HF2 HF3
      clear hl6 HAr HCr HA HC HB HR
      cases hp
      · have HNo : Hid (Lk.readNote s.data.toList = (Lk.Note.none, 1)) := HF1.out rfl
        clear HF1 HF2 HF3
        go_wp2_with (go_at_call 129; refine (HP.out _).mono ?_; rintro e w' ⟨rfl, hw'⟩; rw [hw']; clear hw')
        refine bodyPost_ret (v := .tuple #[numV (List.replicate 6 0), .string ⟨#[]⟩, .bool false]) (by simp [results, Tryz.results107, go_sem, numV, z0, z1, z2, z3, z4, z5]) rfl ⟨readRes_mk ⟨by simp, by decide, fun h => (by cases h), fun _ => HNo.out⟩, ?_⟩
        exact ((((((HBr.out.setCell (Nat.le_refl _) _).setCell (Nat.le_refl _) _).setCell (Nat.le_refl _) _).setCell (Nat.le_refl _) _).setCell (Nat.le_refl _) _).setCell (Nat.le_refl _) _)
      · by_cases h0 : 0 ≤ n4
        · by_cases h1 : n4 ≤ 1
          · have HYes : Hid (Lk.readNote s.data.toList = Lk.fin [n0, n1, n2, n3, n4, n5] p.data.toList) := HF3.out rfl (within_yes h0 h1)
            clear HF1 HF2 HF3
            go_wp2_with (first | (go_at_call 129; refine (HP.out _).mono ?_; rintro e w' ⟨rfl, hw'⟩; rw [hw']; clear hw') | (go_at_call 46; go_in))
            refine bodyPost_ret (v := .tuple #[numV [n0, n1, n2, n3, n4, n5], .string p, .bool true]) (by simp [results, Tryz.results107, go_sem, numV, z0, z1, z2, z3, z4, z5]) rfl ⟨readRes_mk ⟨rfl, HTS.out, fun _ => HYes.out, fun h => by cases h⟩, ?_⟩
            exact ((((((HBr.out.setCell (Nat.le_refl _) _).setCell (Nat.le_refl _) _).setCell (Nat.le_refl _) _).setCell (Nat.le_refl _) _).setCell (Nat.le_refl _) _).setCell (Nat.le_refl _) _)
          · have HNo : Hid (Lk.readNote s.data.toList = (Lk.Note.none, 1)) := HF2.out (within_hi h1)
            have h1' : decide (n4 ≤ 1) = false := decide_eq_false h1
            clear HF1 HF2 HF3 h1
            go_wp2_with (first | (go_at_call 129; refine (HP.out _).mono ?_; rintro e w' ⟨rfl, hw'⟩; rw [hw']; clear hw') | (go_at_call 46; go_in))
            refine bodyPost_ret (v := .tuple #[numV (List.replicate 6 0), .string ⟨#[]⟩, .bool false]) (by simp [results, Tryz.results107, go_sem, numV, z0, z1, z2, z3, z4, z5]) rfl ⟨readRes_mk ⟨by simp, by decide, fun h => (by cases h), fun _ => HNo.out⟩, ?_⟩
            exact ((((((HBr.out.setCell (Nat.le_refl _) _).setCell (Nat.le_refl _) _).setCell (Nat.le_refl _) _).setCell (Nat.le_refl _) _).setCell (Nat.le_refl _) _).setCell (Nat.le_refl _) _)
        · have HNo : Hid (Lk.readNote s.data.toList = (Lk.Note.none, 1)) := HF2.out (within_lo h0)
          have h0' : n4 < 0 := by omega
          clear HF1 HF2 HF3 h0
          go_wp2_with (first | (go_at_call 129; refine (HP.out _).mono ?_; rintro e w' ⟨rfl, hw'⟩; rw [hw']; clear hw') | (go_at_call 46; go_in))
          refine bodyPost_ret (v := .tuple #[numV (List.replicate 6 0), .string ⟨#[]⟩, .bool false]) (by simp [results, Tryz.results107, go_sem, numV, z0, z1, z2, z3, z4, z5]) rfl ⟨readRes_mk ⟨by simp, by decide, fun h => (by cases h), fun _ => HNo.out⟩, ?_⟩
          exact ((((((HBr.out.setCell (Nat.le_refl _) _).setCell (Nat.le_refl _) _).setCell (Nat.le_refl _) _).setCell (Nat.le_refl _) _).setCell (Nat.le_refl _) _).setCell (Nat.le_refl _) _)
end Go.Proofs.YtpenkhehceglfaaGreatDoor
/- Contracts of note.recOf and note.Parse. -/
namespace Go.Proofs.YtpenkhehceglfaaGreatDoor
open Go.RowKit
set_option maxHeartbeats 1000000 in
theorem recOf_any (n0 n1 n2 n3 n4 n5 : Int) (a : Option Addr) (n c : Nat) (w : World) :
    Calls Tryz.prog 109 #[.agg #[.int .i64 n0, .int .i64 n1, .int .i64 n2, .int .i64 n3, .int .i64 n4, .int .i64 n5], .slice a n c] w fun e w' => e = .returned (.agg #[.int .i64 n0, .int .i64 n1, .int .i64 n2, .int .i64 n3, .bool (n4 == 1), .int .i64 n5, .slice a n c]) ∧ Below w.heap.size w w' := by
  have HB : Hid (∀ o o', Below w.heap.size w ((w.alloc o).alloc o')) := fun o o' => ((Below.refl _ w).alloc (Nat.le_refl _) o).alloc (by simp) o'
  go_enter Tryz.func109, Tryz.ntmps109
  go_wp2
  refine bodyPost_ret (v := .agg #[.int .i64 n0, .int .i64 n1, .int .i64 n2, .int .i64 n3, .bool (n4 == 1), .int .i64 n5, .slice a n c]) (by simp [results, Tryz.results109, go_sem]) rfl ⟨rfl, HB.out _ _⟩
theorem recV_none : recV Lk.Note.none (.slice none 0 0) = .agg #[.int .i64 0, .int .i64 0, .int .i64 0, .int .i64 0, .bool false, .int .i64 0, .slice none 0 0] := rfl
/-- what Parse answers -/
def parsed (w : World) (q : Lk.Note × Int) (e : Ending) : Prop := ∃ v, e = .returned (.tuple #[recV q.1 v, .int .i64 q.2]) ∧ PinsAt w v q.1.lock
def parsedN (N : Nat) (w : World) (q : Lk.Note × Int) (e : Ending) : Prop := ∃ v, e = .returned (.tuple #[recV q.1 v, .int .i64 q.2]) ∧ NewPins N w v q.1.lock
theorem parsedN.old {N : Nat} {w : World} {q : Lk.Note × Int} {e : Ending} (h : parsedN N w q e) : parsed w q e := by
  obtain ⟨v, he, h1, _⟩ := h
  exact ⟨v, he, h1⟩
theorem parsedN_none (N : Nat) (w : World) (x : Int) : parsedN N w (Lk.Note.none, x) (.returned (.tuple #[recV Lk.Note.none (.slice none 0 0), .int .i64 x])) := ⟨_, rfl, new_none N w⟩
theorem parsed_none (w : World) (x : Int) : parsed w (Lk.Note.none, x) (.returned (.tuple #[recV Lk.Note.none (.slice none 0 0), .int .i64 x])) := ⟨_, rfl, pins_none w⟩
set_option maxHeartbeats 1000000 in
theorem noteParse_long (s : ByteArray) (hs : 60000 < s.size) (w : World) :
    Calls Tryz.prog 85 #[.string s] w fun e w' => e = .returned (.tuple #[recV Lk.Note.none (.slice none 0 0), .int .i64 2]) ∧ Below w.heap.size w w' := by
  have hs' : (60000 : Int) < (s.size : Int) := by omega
  have HB : Hid (∀ o, Below w.heap.size w (w.alloc o)) := fun o => (Below.refl _ w).alloc (Nat.le_refl _) o
  go_enter Tryz.func85, Tryz.ntmps85
  go_wp2
  refine bodyPost_ret (v := .tuple #[recV Lk.Note.none (.slice none 0 0), .int .i64 2]) (by simp [results, Tryz.results85, go_sem, recV, Lk.Note.none]) rfl ⟨rfl, HB.out _⟩
/-- a record of nothing in a block of its own -/
def NoneAt (w : World) (b : Nat) : Prop := RecAt w b 0 0 0 0 false 0 (.slice none 0 0) ∧ w.frozen? ⟨b, 0, none⟩ = false ∧ w.frozen? ⟨b, 1, none⟩ = false ∧ w.frozen? ⟨b, 2, none⟩ = false ∧ w.frozen? ⟨b, 3, none⟩ = false ∧ w.frozen? ⟨b, 4, none⟩ = false ∧ w.frozen? ⟨b, 5, none⟩ = false ∧ w.frozen? ⟨b, 6, none⟩ = false ∧ w.heap[b]? = some (.cells #[.int .i64 0, .int .i64 0, .int .i64 0, .int .i64 0, .bool false, .int .i64 0, .slice none 0 0] 34)
theorem NoneAt.below {w w' : World} {b : Nat} (h : NoneAt w b) (hb : Below w.heap.size w w') : NoneAt w' b := by
  obtain ⟨h0, h1, h2, h3, h4, h5, h6, h7, h8⟩ := h
  have e : ∀ o, w'.frozen? ⟨b, o, none⟩ = w.frozen? ⟨b, o, none⟩ := fun o => hb.frozen (p := ⟨b, o, none⟩) h0.1
  exact ⟨h0.below hb, (e 0).trans h1, (e 1).trans h2, (e 2).trans h3, (e 3).trans h4, (e 4).trans h5, (e 5).trans h6, (e 6).trans h7, (hb.block b h0.1).trans h8⟩
theorem noneAt_alloc (w : World) : NoneAt (w.alloc (.cells #[.int .i64 0, .int .i64 0, .int .i64 0, .int .i64 0, .bool false, .int .i64 0, .slice none 0 0] 34)) w.heap.size :=
  ⟨recAt_alloc w 0 0 0 0 false 0 _, by simp [go_sem], by simp [go_sem], by simp [go_sem], by simp [go_sem], by simp [go_sem], by simp [go_sem], by simp [go_sem], by show (w.heap.push _)[w.heap.size]? = some _; simp⟩
theorem pins_set {w : World} {v : Value} {l : List (Int × Int)} {b o : Nat} {u : Value} (h : PinsAt w v l) (hne : ∀ o' c', v = .slice (some ⟨b, o', none⟩) l.length c' → l = []) : PinsAt (w.setCell ⟨b, o, none⟩ u) v l := by
  obtain ⟨hl, c, h | ⟨b', o', h1, h2⟩⟩ := h
  · exact ⟨hl, c, .inl h⟩
  · by_cases e : b' = b
    · subst e
      have := hne o' c h1
      subst this
      exact ⟨hl, c, .inl ⟨rfl, _, h1⟩⟩
    · refine ⟨hl, c, .inr ⟨b', o', h1, by simpa [World.setCell] using h2.1, fun j hj => ?_⟩⟩
      have hk : ∀ x, (w.setCell ⟨b, o, none⟩ u).cell? ⟨b', x, none⟩ = w.cell? ⟨b', x, none⟩ := fun x => World.cell?_setCell_other _ _ _ _ (by intro y; injection y with y; exact e y.symm)
      exact ⟨(hk _).trans (h2.2 j hj).1, (hk _).trans (h2.2 j hj).2⟩
/-- a lock's pins don't lie where a record of nothing lies -/
theorem pins_apart {w : World} {v : Value} {l : List (Int × Int)} {b : Nat} (hN : w.heap[b]? = some (.cells #[.int .i64 0, .int .i64 0, .int .i64 0, .int .i64 0, .bool false, .int .i64 0, .slice none 0 0] 34)) (h : PinsAt w v l) (hc : Lk.chk l = 0) : ∀ o' c', v = .slice (some ⟨b, o', none⟩) l.length c' → l = [] := by
  intro o' c' hv
  obtain ⟨hl, c, ⟨h, _⟩ | ⟨b', o2, h1, h2⟩⟩ := h
  · exact h
  · rw [hv] at h1
    simp only [Value.slice.injEq, Option.some.injEq, Addr.mk.injEq, and_true, true_and] at h1
    obtain ⟨⟨rfl, rfl⟩, _⟩ := h1
    cases l with
    | nil => rfl
    | cons p r =>
      exfalso
      have hp := (chk_ok hc).2 p (by simp)
      have h0 := (h2.2 0 (by simp)).1
      simp only [List.getD_cons_zero, Nat.zero_mul, Nat.add_zero, World.cell?, hN] at h0
      rcases o' with _ | _ | _ | _ | _ | _ | _ | o'
      all_goals (simp at h0; try omega)
theorem fin_err {ns : List Int} {t : ByteArray} (h : ¬ (Lk.readAs t).2 = 0) : Lk.fin ns t.data.toList = (Lk.Note.none, (Lk.readAs t).2) := by
  unfold Lk.fin
  rw [show (⟨t.data.toList.toArray⟩ : ByteArray) = t from by simp, if_neg h]
theorem fin_chk {ns : List Int} {t : ByteArray} (h : (Lk.readAs t).2 = 0) (h' : ¬ Lk.chkNote (Lk.noteOf ns (Lk.readAs t).1) = 0) : Lk.fin ns t.data.toList = (Lk.Note.none, Lk.chkNote (Lk.noteOf ns (Lk.readAs t).1)) := by
  unfold Lk.fin
  rw [show (⟨t.data.toList.toArray⟩ : ByteArray) = t from by simp, if_pos h, if_neg h']
theorem fin_ok {ns : List Int} {t : ByteArray} (h : (Lk.readAs t).2 = 0) (h' : Lk.chkNote (Lk.noteOf ns (Lk.readAs t).1) = 0) : Lk.fin ns t.data.toList = (Lk.noteOf ns (Lk.readAs t).1, 0) := by
  unfold Lk.fin
  rw [show (⟨t.data.toList.toArray⟩ : ByteArray) = t from by simp, if_pos h, if_pos h']
theorem numsAt_six (w : World) (n0 n1 n2 n3 n4 n5 : Int) : NumsAt (w.alloc (.cells #[.int .i64 n0, .int .i64 n1, .int .i64 n2, .int .i64 n3, .int .i64 n4, .int .i64 n5] 81)) w.heap.size [n0, n1, n2, n3, n4, n5] := by
  refine ⟨by simp, fun j hj => ?_⟩
  rcases j with _ | _ | _ | _ | _ | _ | j
  iterate 6 exact ⟨by simp [go_sem], by simp [go_sem]⟩
  omega
theorem recV_of (n0 n1 n2 n3 n4 n5 : Int) (l : List (Int × Int)) (v : Value) : recV (Lk.noteOf [n0, n1, n2, n3, n4, n5] l) v = .agg #[.int .i64 n0, .int .i64 n1, .int .i64 n2, .int .i64 n3, .bool (n4 == 1), .int .i64 n5, v] := rfl
set_option maxHeartbeats 4000000 in
set_option maxRecDepth 100000 in
theorem noteParse_new (s : ByteArray) (hs : s.size ≤ 60000) (w : World) (hE : Env w) :
    Calls Tryz.prog 85 #[.string s] w fun e w' => parsedN w.heap.size w' (Lk.readNote s.data.toList) e ∧ Below w.heap.size w w' := by
  have HE : Hid (Env w) := hE
  have HRn : Hid (∀ w, Env w → Calls Tryz.prog 107 #[.string s] w fun e w' => readRes s.data.toList e ∧ Below w.heap.size w w') := fun w hE => readNumbers_any s hs w hE
  have hs' : (s.size : Int) ≤ 60000 := by omega
  clear hE hs
  have HN0 : Hid (NoneAt (w.alloc (.cells #[.int .i64 0, .int .i64 0, .int .i64 0, .int .i64 0, .bool false, .int .i64 0, .slice none 0 0] 34)) w.heap.size) := noneAt_alloc w
  have HB0 : Hid (Below w.heap.size w (w.alloc (.cells #[.int .i64 0, .int .i64 0, .int .i64 0, .int .i64 0, .bool false, .int .i64 0, .slice none 0 0] 34))) := (Below.refl _ w).alloc (Nat.le_refl _) _
  go_enter Tryz.func85, Tryz.ntmps85
  go_wp2_with fail
  refine (HRn.out _ (HE.out.below HB0.out)).mono ?_
  rintro e w1 ⟨⟨ns, p, ok, rfl, hl, hps, hyes, hno⟩, hb1⟩
  have HB1 : Hid (Below w.heap.size w w1) := HB0.out.trans (hb1.mono HB0.out.size)
  have HN1 : Hid (NoneAt w1 w.heap.size) := HN0.out.below hb1
  have HPS : Hid (p.size ≤ 60000) := hps
  have HYes : Hid (ok = true → Lk.readNote s.data.toList = Lk.fin ns p.data.toList) := hyes
  have HNo : Hid (ok = false → Lk.readNote s.data.toList = (Lk.Note.none, 1)) := hno
  clear hb1 HN0 HB0 hps hyes hno HRn
  match ns, hl with
  | [n0, n1, n2, n3, n4, n5], _ =>
  clear hl
  rw [show numV [n0, n1, n2, n3, n4, n5] = .agg #[.int .i64 n0, .int .i64 n1, .int .i64 n2, .int .i64 n3, .int .i64 n4, .int .i64 n5] from rfl]
  cases ok
  · have HQ : Hid (Lk.readNote s.data.toList = (Lk.Note.none, 1)) := HNo.out rfl
    clear HYes HNo
    go_upto_region 5 with fail
    have hbA : Below w1.heap.size w1 (w1.alloc (.cells #[.int .i64 n0, .int .i64 n1, .int .i64 n2, .int .i64 n3, .int .i64 n4, .int .i64 n5] 81)) := (Below.refl _ _).alloc (Nat.le_refl _) _
    have HBA : Hid (Below w.heap.size w (w1.alloc (.cells #[.int .i64 n0, .int .i64 n1, .int .i64 n2, .int .i64 n3, .int .i64 n4, .int .i64 n5] 81))) := HB1.out.trans (hbA.mono HB1.out.size)
    have HNA : Hid (NoneAt (w1.alloc (.cells #[.int .i64 n0, .int .i64 n1, .int .i64 n2, .int .i64 n3, .int .i64 n4, .int .i64 n5] 81)) w.heap.size) := HN1.out.below hbA
    clear hbA HB1 HN1
    generalize w1.alloc (.cells #[.int .i64 n0, .int .i64 n1, .int .i64 n2, .int .i64 n3, .int .i64 n4, .int .i64 n5] 81) = W at HBA HNA ⊢
    obtain ⟨⟨d0, d1, d2, d3, d4, d5, d6, d7⟩, f0, f1, f2, f3, f4, f5, f6, -⟩ := HNA.out
    go_wp2
    refine bodyPost_ret (v := .tuple #[recV Lk.Note.none (.slice none 0 0), .int .i64 1]) (by simp [results, Tryz.results85, go_sem, recV, Lk.Note.none, d1, d2, d3, d4, d5, d6, d7]) rfl ⟨by rw [HQ.out]; exact parsedN_none _ _ _, ?_⟩
    exact (((((((HBA.out.setCell (Nat.le_refl _) _).setCell (Nat.le_refl _) _).setCell (Nat.le_refl _) _).setCell (Nat.le_refl _) _).setCell (Nat.le_refl _) _).setCell (Nat.le_refl _) _).setCell (Nat.le_refl _) _)
  · have HQ : Hid (Lk.readNote s.data.toList = Lk.fin [n0, n1, n2, n3, n4, n5] p.data.toList) := HYes.out rfl
    clear HYes HNo
    go_wp2_with fail
    have hbA : Below w1.heap.size w1 (w1.alloc (.cells #[.int .i64 n0, .int .i64 n1, .int .i64 n2, .int .i64 n3, .int .i64 n4, .int .i64 n5] 81)) := (Below.refl _ _).alloc (Nat.le_refl _) _
    have HBA : Hid (Below w.heap.size w (w1.alloc (.cells #[.int .i64 n0, .int .i64 n1, .int .i64 n2, .int .i64 n3, .int .i64 n4, .int .i64 n5] 81))) := HB1.out.trans (hbA.mono HB1.out.size)
    have HNA : Hid (NoneAt (w1.alloc (.cells #[.int .i64 n0, .int .i64 n1, .int .i64 n2, .int .i64 n3, .int .i64 n4, .int .i64 n5] 81)) w.heap.size) := HN1.out.below hbA
    have HXA : Hid (NumsAt (w1.alloc (.cells #[.int .i64 n0, .int .i64 n1, .int .i64 n2, .int .i64 n3, .int .i64 n4, .int .i64 n5] 81)) w1.heap.size [n0, n1, n2, n3, n4, n5]) := numsAt_six w1 n0 n1 n2 n3 n4 n5
    clear hbA
    generalize w1.alloc (.cells #[.int .i64 n0, .int .i64 n1, .int .i64 n2, .int .i64 n3, .int .i64 n4, .int .i64 n5] 81) = W at HBA HNA HXA ⊢
    refine (parse_new p HPS.out _ (HE.out.below HBA.out)).mono ?_
    rintro e w2 ⟨⟨v, rfl, hv, hfr⟩, hb2⟩
    have HB2 : Hid (Below w.heap.size w w2) := HBA.out.trans (hb2.mono HBA.out.size)
    have HN2 : Hid (NoneAt w2 w.heap.size) := HNA.out.below hb2
    have HX2 := HXA.out.below hb2
    obtain ⟨a, c, rfl⟩ := pins_slice hv
    have HFr : Hid (∀ n, FreshS w.heap.size (.slice a n c)) := fun n b o n' c' e => by
      simp only [Value.slice.injEq] at e
      exact Nat.le_trans HBA.out.size (hfr b o _ c (by rw [e.1]))
    clear hfr
    have HV2 : Hid (PinsAt w2 (.slice a (Lk.readAs p).1.length c) (Lk.readAs p).1) := hv
    clear hb2 HBA HNA HXA HB1 HN1 hv
    have F1 : Hid (¬ (Lk.readAs p).2 = 0 → Lk.readNote s.data.toList = (Lk.Note.none, (Lk.readAs p).2)) := fun h => by rw [HQ.out]; exact fin_err h
    have F2 : Hid ((Lk.readAs p).2 = 0 → ¬ Lk.chkNote (Lk.noteOf [n0, n1, n2, n3, n4, n5] (Lk.readAs p).1) = 0 → Lk.readNote s.data.toList = (Lk.Note.none, Lk.chkNote (Lk.noteOf [n0, n1, n2, n3, n4, n5] (Lk.readAs p).1))) := fun h h' => by rw [HQ.out]; exact fin_chk h h'
    have F3 : Hid ((Lk.readAs p).2 = 0 → Lk.chkNote (Lk.noteOf [n0, n1, n2, n3, n4, n5] (Lk.readAs p).1) = 0 → Lk.readNote s.data.toList = (Lk.noteOf [n0, n1, n2, n3, n4, n5] (Lk.readAs p).1, 0)) := fun h h' => by rw [HQ.out]; exact fin_ok h h'
    generalize (Lk.readAs p).1 = l at HV2 F2 F3 ⊢
    generalize (Lk.readAs p).2 = er at F1 F2 F3 ⊢
    clear HQ HPS
    obtain ⟨x0, -⟩ := HX2.2 0 (by omega)
    obtain ⟨x1, -⟩ := HX2.2 1 (by omega)
    obtain ⟨x2, -⟩ := HX2.2 2 (by omega)
    obtain ⟨x3, -⟩ := HX2.2 3 (by omega)
    obtain ⟨x4, -⟩ := HX2.2 4 (by omega)
    obtain ⟨x5, -⟩ := HX2.2 5 (by omega)
    clear HX2
    simp only [List.getD_cons_zero, List.getD_cons_succ] at x0 x1 x2 x3 x4 x5
    go_wp2_with fail
    refine (recOf_any n0 n1 n2 n3 n4 n5 a l.length c _).mono ?_
    rintro e w3 ⟨rfl, hb3⟩
    have HB3 : Hid (Below w.heap.size w w3) := HB2.out.trans (hb3.mono HB2.out.size)
    have HN3 : Hid (NoneAt w3 w.heap.size) := HN2.out.below hb3
    have HV3 : Hid (PinsAt w3 (.slice a l.length c) l) := HV2.out.below hb3
    clear hb3 HB2 HN2 HV2 x0 x1 x2 x3 x4 x5
    go_wp2_with fail
    have hbB : Below w3.heap.size w3 (w3.alloc (.cells #[.int .i64 n0, .int .i64 n1, .int .i64 n2, .int .i64 n3, .bool (n4 == 1), .int .i64 n5, .slice a l.length c] 34)) := (Below.refl _ _).alloc (Nat.le_refl _) _
    have HB4 : Hid (Below w.heap.size w (w3.alloc (.cells #[.int .i64 n0, .int .i64 n1, .int .i64 n2, .int .i64 n3, .bool (n4 == 1), .int .i64 n5, .slice a l.length c] 34))) := HB3.out.trans (hbB.mono HB3.out.size)
    have HN4 : Hid (NoneAt (w3.alloc (.cells #[.int .i64 n0, .int .i64 n1, .int .i64 n2, .int .i64 n3, .bool (n4 == 1), .int .i64 n5, .slice a l.length c] 34)) w.heap.size) := HN3.out.below hbB
    have HV4 : Hid (PinsAt (w3.alloc (.cells #[.int .i64 n0, .int .i64 n1, .int .i64 n2, .int .i64 n3, .bool (n4 == 1), .int .i64 n5, .slice a l.length c] 34)) (.slice a l.length c) l) := HV3.out.below hbB
    have HR4 : Hid (RecAt (w3.alloc (.cells #[.int .i64 n0, .int .i64 n1, .int .i64 n2, .int .i64 n3, .bool (n4 == 1), .int .i64 n5, .slice a l.length c] 34)) w3.heap.size n0 n1 n2 n3 (n4 == 1) n5 (.slice a l.length c)) := recAt_alloc w3 n0 n1 n2 n3 (n4 == 1) n5 _
    generalize w3.alloc (.cells #[.int .i64 n0, .int .i64 n1, .int .i64 n2, .int .i64 n3, .bool (n4 == 1), .int .i64 n5, .slice a l.length c] 34) = W4 at HB4 HN4 HV4 HR4 ⊢
    have HG : Hid (w.heap.size < w3.heap.size) := HN3.out.1.1
    generalize w3.heap.size = g3 at HR4 HG ⊢
    clear hbB HB3 HN3 HV3
    refine (noteCheck_any (Lk.noteOf [n0, n1, n2, n3, n4, n5] l) _ _ HV4.out).mono ?_
    rintro e w5 ⟨rfl, hb5⟩
    have HB5 : Hid (Below w.heap.size w w5) := HB4.out.trans (hb5.mono HB4.out.size)
    have HN5 : Hid (NoneAt w5 w.heap.size) := HN4.out.below hb5
    have HV5 : Hid (PinsAt w5 (.slice a l.length c) l) := HV4.out.below hb5
    have HR5 : Hid (RecAt w5 g3 n0 n1 n2 n3 (n4 == 1) n5 (.slice a l.length c)) := HR4.out.below hb5
    clear hb5 HB4 HN4 HV4 HR4
    have HLK : Hid (Lk.chkNote (Lk.noteOf [n0, n1, n2, n3, n4, n5] l) = 0 → Lk.chk l = 0) := fun h => note_lock h
    generalize Lk.chkNote (Lk.noteOf [n0, n1, n2, n3, n4, n5] l) = CN at F2 F3 HLK ⊢
    go_wp2_with fail
    refine (or2_any er CN _ _ (by simp [go_sem]) (by simp [go_sem])).mono ?_
    rintro e w6 ⟨rfl, hb6⟩
    have hb6' := ((Below.refl _ w5).alloc (Nat.le_refl _) _).trans (hb6.mono (by simp))
    have HB6 : Hid (Below w.heap.size w w6) := HB5.out.trans (hb6'.mono HB5.out.size)
    have HN6 : Hid (NoneAt w6 w.heap.size) := HN5.out.below hb6'
    have HV6 : Hid (PinsAt w6 (.slice a l.length c) l) := HV5.out.below hb6'
    have HR6 : Hid (RecAt w6 g3 n0 n1 n2 n3 (n4 == 1) n5 (.slice a l.length c)) := HR5.out.below hb6'
    clear hb6 hb6' HB5 HN5 HV5 HR5
    by_cases he : er = 0
    · subst he
      rw [if_pos rfl]
      by_cases hc : CN = 0
      · have HLC : Hid (Lk.chk l = 0) := HLK.out hc
        subst hc
        have HQ : Hid (Lk.readNote s.data.toList = (Lk.noteOf [n0, n1, n2, n3, n4, n5] l, 0)) := F3.out rfl rfl
        clear F1 F2 F3
        have HNE : Hid (∀ o' c', Value.slice a l.length c = .slice (some ⟨w.heap.size, o', none⟩) l.length c' → l = []) := pins_apart HN6.out.2.2.2.2.2.2.2.2 HV6.out HLC.out
        obtain ⟨⟨d0, d1, d2, d3, d4, d5, d6, d7⟩, f0, f1, f2, f3, f4, f5, f6, -⟩ := HN6.out
        obtain ⟨c0, c1, c2, c3, c4, c5, c6, c7⟩ := HR6.out
        have hbS : ∀ u0 u1 u2 u3 u4 u5 u6 : Value, Below w.heap.size w (((((((w6.setCell ⟨w.heap.size, 0, none⟩ u0).setCell ⟨w.heap.size, 1, none⟩ u1).setCell ⟨w.heap.size, 2, none⟩ u2).setCell ⟨w.heap.size, 3, none⟩ u3).setCell ⟨w.heap.size, 4, none⟩ u4).setCell ⟨w.heap.size, 5, none⟩ u5).setCell ⟨w.heap.size, 6, none⟩ u6) := fun u0 u1 u2 u3 u4 u5 u6 => by
          exact (((((((HB6.out.setCell (Nat.le_refl _) _).setCell (Nat.le_refl _) _).setCell (Nat.le_refl _) _).setCell (Nat.le_refl _) _).setCell (Nat.le_refl _) _).setCell (Nat.le_refl _) _).setCell (Nat.le_refl _) _)
        have HBS : Hid (∀ u0 u1 u2 u3 u4 u5 u6 : Value, Below w.heap.size w (((((((w6.setCell ⟨w.heap.size, 0, none⟩ u0).setCell ⟨w.heap.size, 1, none⟩ u1).setCell ⟨w.heap.size, 2, none⟩ u2).setCell ⟨w.heap.size, 3, none⟩ u3).setCell ⟨w.heap.size, 4, none⟩ u4).setCell ⟨w.heap.size, 5, none⟩ u5).setCell ⟨w.heap.size, 6, none⟩ u6)) := hbS
        clear hbS
        go_wp2
        refine bodyPost_ret (v := .tuple #[.agg #[.int .i64 n0, .int .i64 n1, .int .i64 n2, .int .i64 n3, .bool (n4 == 1), .int .i64 n5, .slice a l.length c], .int .i64 0]) (by simp [results, Tryz.results85, go_sem, d1, d2, d3, d4, d5, d6, d7]) rfl ⟨?_, HBS.out _ _ _ _ _ _ _⟩
        rw [HQ.out]
        refine ⟨.slice a l.length c, rfl, ?_, HFr.out _⟩
        have hne := HNE.out
        exact pins_set (pins_set (pins_set (pins_set (pins_set (pins_set (pins_set HV6.out hne) hne) hne) hne) hne) hne) hne
      · have hcb : (CN != 0) = true := by rw [bne_iff_ne]; exact hc
        have HQ : Hid (Lk.readNote s.data.toList = (Lk.Note.none, CN)) := F2.out rfl hc
        clear F1 F2 F3 hc
        obtain ⟨⟨d0, d1, d2, d3, d4, d5, d6, d7⟩, f0, f1, f2, f3, f4, f5, f6, -⟩ := HN6.out
        go_wp2
        refine bodyPost_ret (v := .tuple #[recV Lk.Note.none (.slice none 0 0), .int .i64 CN]) (by simp [results, Tryz.results85, go_sem, recV, Lk.Note.none, d1, d2, d3, d4, d5, d6, d7]) rfl ⟨by rw [HQ.out]; exact parsedN_none _ _ _, ?_⟩
        exact (((((((HB6.out.setCell (Nat.le_refl _) _).setCell (Nat.le_refl _) _).setCell (Nat.le_refl _) _).setCell (Nat.le_refl _) _).setCell (Nat.le_refl _) _).setCell (Nat.le_refl _) _).setCell (Nat.le_refl _) _)
    · rw [if_neg he]
      have heb : (er != 0) = true := by rw [bne_iff_ne]; exact he
      have HQ : Hid (Lk.readNote s.data.toList = (Lk.Note.none, er)) := F1.out he
      clear F1 F2 F3 he
      obtain ⟨⟨d0, d1, d2, d3, d4, d5, d6, d7⟩, f0, f1, f2, f3, f4, f5, f6, -⟩ := HN6.out
      go_wp2
      refine bodyPost_ret (v := .tuple #[recV Lk.Note.none (.slice none 0 0), .int .i64 er]) (by simp [results, Tryz.results85, go_sem, recV, Lk.Note.none, d1, d2, d3, d4, d5, d6, d7]) rfl ⟨by rw [HQ.out]; exact parsedN_none _ _ _, ?_⟩
      exact (((((((HB6.out.setCell (Nat.le_refl _) _).setCell (Nat.le_refl _) _).setCell (Nat.le_refl _) _).setCell (Nat.le_refl _) _).setCell (Nat.le_refl _) _).setCell (Nat.le_refl _) _).setCell (Nat.le_refl _) _)
theorem noteParse_any (s : ByteArray) (hs : s.size ≤ 60000) (w : World) (hE : Env w) :
    Calls Tryz.prog 85 #[.string s] w fun e w' => parsed w' (Lk.readNote s.data.toList) e ∧ Below w.heap.size w w' := by
  refine (noteParse_new s hs w hE).mono ?_
  rintro e w' ⟨h, hb⟩
  exact ⟨h.old, hb⟩
end Go.Proofs.YtpenkhehceglfaaGreatDoor
/- The contract of the document's RecRead. -/
namespace Go.Proofs.YtpenkhehceglfaaGreatDoor
open Go.RowKit
theorem Tryz.info3 : (Tryz.prog.info? 3).map (fun i => (i.zero, i.size, i.bytes)) = some (some (.int .i64 0), 1, 8) := by kernel_rfl
theorem split32_any (s : ByteArray) (hs : s.size ≤ 60000) (w : World) (hE : Env w) :
    Calls Tryz.prog 148 #[.string s, .string ⟨#[32]⟩] w fun e w' => e = .returned (.slice (some ⟨w.heap.size, 0, none⟩) (Lk.wb s).length (Lk.wb s).length) ∧ (∀ j x, (Lk.wb s)[j]? = some x → w'.cell? ⟨w.heap.size, j, none⟩ = some (.string x)) ∧ w'.heap.size = w.heap.size + 1 ∧ Below w.heap.size w w' := by
  obtain ⟨m, hm⟩ := hE.mx
  refine (Tryz.strings_Split s Lk.blank m w (by omega) hm (by decide)).mono ?_
  rintro e w' ⟨rfl, rfl⟩
  refine ⟨by rw [Lk.wb_len], ?_, by simp, (Below.refl _ w).alloc (Nat.le_refl _) _⟩
  intro j x hx
  rw [World.cell?_alloc_new]
  show ((Lk.wb s).map Value.string).toArray[j]? = _
  simp [hx]
theorem numOf_wf {s : List UInt8} {v : Int} (h : Lk.numOf s = some v) : (Lit.int .i64 v).wf = true := by
  unfold Lk.numOf at h
  split at h
  · rename_i u e
    split at h
    · cases h
      have := Lib.atoiAll_bounds e
      exact WalkArith.wf_i64 (by omega)
    · cases h
  · cases h
/-- the first k words are numbers -/
def numTo (s : ByteArray) (k : Nat) (ns : List Int) : Prop := Lk.numsOf (((Lk.wb s).take k).map (·.data.toList)) = some ns
theorem numTo_next {s : ByteArray} {k : Nat} {ns : List Int} {x : ByteArray} {p : Int} (h : numTo s k ns) (hx : (Lk.wb s)[k]? = some x) (hp : Lk.numOf x.data.toList = some p) : numTo s (k + 1) (ns ++ [p]) := by
  unfold numTo
  rw [List.take_add_one, hx, List.map_append]
  exact Lk.numsOf_snoc _ _ _ _ h hp
theorem numTo_len {s : ByteArray} {k : Nat} {ns : List Int} (h : numTo s k ns) (hk : k ≤ (Lk.wb s).length) : ns.length = k := by
  rw [Lk.numsOf_len _ _ h]; simp; omega
theorem take_map (s : ByteArray) (k : Nat) : ((Lk.wb s).take k).map (·.data.toList) = (Lk.splitC s.data.toList).take k := by
  rw [List.map_take, Lk.wb_C]
theorem read_badnum {s : ByteArray} {k : Nat} (hk : k < 6) {x : ByteArray} (hx : (Lk.wb s)[k]? = some x) (hp : Lk.numOf x.data.toList = none) : Lk.readNote s.data.toList = (Lk.Note.none, 1) := by
  refine Lk.read_num (Lk.numsOf_bad _ x.data.toList ?_ hp)
  have := Lk.wb_at hx
  exact List.mem_of_getElem? (i := k) (by rw [List.getElem?_take_of_lt hk]; exact this)
theorem numTo_wf {s : ByteArray} {ns : List Int} (h : numTo s 6 ns) : ∀ v ∈ ns, (Lit.int .i64 v).wf = true := by
  have key : ∀ (a : List (List UInt8)) (l : List Int), Lk.numsOf a = some l → ∀ v ∈ l, (Lit.int .i64 v).wf = true := by
    intro a
    induction a with
    | nil => intro l h v hv; simp only [Lk.numsOf, Option.some.injEq] at h; subst h; cases hv
    | cons x r ih =>
      intro l h v hv
      simp only [Lk.numsOf] at h
      cases e : Lk.numOf x with
      | none => rw [e] at h; simp at h
      | some q =>
        cases e' : Lk.numsOf r with
        | none => rw [e, e'] at h; simp at h
        | some m =>
          rw [e, e'] at h
          simp only [Option.some.injEq] at h
          subst h
          rcases List.mem_cons.1 hv with rfl | hv
          · exact numOf_wf e
          · exact ih m e' v hv
  exact key _ _ h
theorem recR_len {s : ByteArray} (h : (Lk.wb s).length ≠ 7) : Lk.readNote s.data.toList = (Lk.Note.none, 1) := Lk.read_len (by rw [Lk.wb_lenC]; exact h)
theorem recR_head {s x : ByteArray} (h : (Lk.wb s).length = 7) (hx : (Lk.wb s)[6]? = some x) (hp : Lib.hasPrefix x.data.toList [61] = false) : Lk.readNote s.data.toList = (Lk.Note.none, 1) := Lk.read_head (by rw [Lk.wb_lenC]; exact h) (Lk.wb_at hx) hp
theorem recR_good {s x : ByteArray} {ns : List Int} (h : (Lk.wb s).length = 7) (hx : (Lk.wb s)[6]? = some x) (hn : numTo s 6 ns) (hg : Lk.within (ns.getD 4 0) 0 1 = false) : Lk.readNote s.data.toList = (Lk.Note.none, 1) := Lk.read_good (by rw [Lk.wb_lenC]; exact h) (Lk.wb_at hx) (by rw [← take_map]; exact hn) hg
theorem recR_fin {s x : ByteArray} {ns : List Int} (h : (Lk.wb s).length = 7) (hx : (Lk.wb s)[6]? = some x) (hp : Lib.hasPrefix x.data.toList [61] = true) (hn : numTo s 6 ns) (hg : Lk.within (ns.getD 4 0) 0 1 = true) : Lk.readNote s.data.toList = Lk.fin ns (x.extract 1 x.size).data.toList := by
  rw [Lk.read_fin (by rw [Lk.wb_lenC]; exact h) (Lk.wb_at hx) hp (by rw [← take_map]; exact hn) hg, ext_drop]
theorem prefix_size {x : ByteArray} (hp : Lib.hasPrefix x.data.toList [61] = true) : 1 ≤ x.size := by
  show 1 ≤ x.data.toList.length
  cases h : x.data.toList with
  | nil => rw [h] at hp; simp [Lib.hasPrefix] at hp
  | cons _ _ => simp
theorem owns_six {w : World} {base : Nat} {v : Value} {ns : List Int} (h : w.ownsRow base 3 1 v ns.length (ns.map (Value.int .i64))) (hl : ns.length = 6) :
    ∃ gb cap, v = .slice (some ⟨gb, 0, none⟩) 6 cap ∧ gb < w.heap.size ∧ ∀ j, j < 6 → w.cell? ⟨gb, j, none⟩ = some (.int .i64 (ns.getD j 0)) := by
  have h0 := h
  rcases h.2 with ⟨h1, h2⟩ | ⟨g, cap, cur, h1, h2, h3, h4⟩
  · omega
  · subst h1
    refine ⟨g, cap, by rw [hl], ?_, fun j hj => ?_⟩
    · rcases Nat.lt_or_ge g w.heap.size with h | h
      · exact h
      · rw [Array.getElem?_eq_none h] at h3; cases h3
    · refine (h0.cellAt j (show j < ns.length * 1 by omega)).trans ?_
      rw [List.getElem?_map, List.getElem?_eq_getElem (by omega), List.getD_eq_getElem?_getD, List.getElem?_eq_getElem (by omega)]
      rfl
end Go.Proofs.YtpenkhehceglfaaGreatDoor
