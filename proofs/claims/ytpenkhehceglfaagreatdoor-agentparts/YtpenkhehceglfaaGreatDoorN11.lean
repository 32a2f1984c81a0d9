/- Contracts of the closure of note.readNumbers and of note.readNumbers. -/
import Derived.Test.YtpenkhehceglfaaGreatDoorN10
namespace Go.Proofs.YtpenkhehceglfaaGreatDoor
open Go.RowKit
theorem grown_below {w w' : World} (h : Below w.heap.size w w') (row : Option Nat) : w.grownBy w' row := ⟨h.os, h.tape, h.output, h.size, fun i hi _ => h.block i hi⟩
theorem grown_trans {a b c : World} {row : Option Nat} (h : a.grownBy b row) (k : b.grownBy c row) : a.grownBy c row :=
  ⟨k.os.trans h.os, k.tape.trans h.tape, k.output.trans h.output, Nat.le_trans h.size k.size, fun i hi hne => (k.block i (Nat.lt_of_lt_of_le hi h.size) hne).trans (h.block i hi hne)⟩
theorem grown_set (W : World) (b : Nat) (v : Value) : W.grownBy (W.setCell ⟨b, 0, none⟩ v) (some b) :=
  ⟨rfl, rfl, rfl, by simp [World.setCell], fun i _ hne => Below.heap_setCell W ⟨b, 0, none⟩ v i (fun e => hne (by rw [e]))⟩
theorem below_grown {w w' : World} {g n : Nat} (h : w.grownBy w' (some g)) (hn : n ≤ g) (hw : n ≤ w.heap.size) : Below n w w' :=
  ⟨h.os, h.tape, h.output, h.size, fun i hi => h.block i (by omega) (fun e => by injection e with e; omega)⟩
theorem var_kept8 {n : String} {w w' : World} {cs : Array Value} (hg : ((Tryz.prog.globalNamed n).map fun g => decide (g < 8)) = some true) (hb : Below 8 w w') (hv : w.var? Tryz.prog n = some cs) : w'.var? Tryz.prog n = some cs := by
  obtain ⟨g, e1, e2⟩ := Option.map_eq_some_iff.1 hg
  exact var?_below hb e1 (of_decide_eq_true e2) hv
theorem Env.below8 {w w' : World} (h : Env w) (hb : Below 8 w w') : Env w' := by
  refine ⟨?_, var_kept8 g_tab hb h.tab, ?_, ?_, Nat.le_trans h.big hb.size⟩
  · obtain ⟨m, hm⟩ := h.mx
    exact ⟨m, (hb.cell (p := ⟨0, 0, none⟩) (by show 0 < 8; omega)).trans hm⟩
  · obtain ⟨tp, p, hv⟩ := h.syn
    exact ⟨tp, p, var_kept8 g_syn hb hv⟩
  · obtain ⟨tp, p, hv⟩ := h.ran
    exact ⟨tp, p, var_kept8 g_ran hb hv⟩
theorem cut32_any (s : ByteArray) (hs : s.size ≤ 60000) (w : World) (hE : Env w) :
    Calls Tryz.prog 127 #[.string s, .string ⟨#[32]⟩] w fun e w' => (∃ a b : ByteArray, e = .returned (.tuple #[.string a, .string b, .bool (Lib.cut s.data.toList [32]).2.2]) ∧ a.data.toList = (Lib.cut s.data.toList [32]).1 ∧ b.data.toList = (Lib.cut s.data.toList [32]).2.1 ∧ a.size ≤ 60000 ∧ b.size ≤ 60000) ∧ Below w.heap.size w w' := by
  obtain ⟨m, hm⟩ := hE.mx
  refine (Tryz.strings_Cut s ⟨#[32]⟩ m w (by omega) hm).mono ?_
  rintro e w' ⟨rfl, n, rfl⟩
  refine ⟨⟨_, _, rfl, rfl, rfl, ?_, ?_⟩, below_drewN (Below.refl _ _) n⟩
  · show (Lib.cut s.data.toList [32]).1.toArray.size ≤ 60000
    have hl : s.data.toList.length ≤ 60000 := hs
    unfold Lib.cut; split <;> simp <;> omega
  · show (Lib.cut s.data.toList [32]).2.1.toArray.size ≤ 60000
    have hl : s.data.toList.length ≤ 60000 := hs
    unfold Lib.cut; split <;> simp <;> omega
set_option maxHeartbeats 2000000 in
theorem next_any (s : ByteArray) (hs : s.size ≤ 60000) (g : Nat) (w : World) (hE : Env w) (h8 : 8 ≤ g) (hg : w.cell? ⟨g, 0, none⟩ = some (.string s)) (hf : w.frozen? ⟨g, 0, none⟩ = false) :
    Calls Tryz.prog 126 #[.pointer (some ⟨g, 0, none⟩)] w fun e w' => (∃ n : Int, ∃ b : ByteArray, e = .returned (.tuple #[.int .i64 n, .bool ((Lib.cut s.data.toList [32]).2.2 && (Lk.numOf (Lib.cut s.data.toList [32]).1).isSome)]) ∧ (∀ v, Lk.numOf (Lib.cut s.data.toList [32]).1 = some v → n = v) ∧ b.data.toList = (Lib.cut s.data.toList [32]).2.1 ∧ b.size ≤ 60000 ∧ w'.cell? ⟨g, 0, none⟩ = some (.string b) ∧ w'.frozen? ⟨g, 0, none⟩ = false) ∧ w.grownBy w' (some g) := by
  have hgs : g < w.heap.size := by
    rcases Nat.lt_or_ge g w.heap.size with h | h
    · exact h
    · rw [World.cell?, Array.getElem?_eq_none h] at hg; cases hg
  have HE : Hid (Env w) := hE
  have HC : Hid (∀ w, Env w → Calls Tryz.prog 127 #[.string s, .string ⟨#[32]⟩] w fun e w' => (∃ a b : ByteArray, e = .returned (.tuple #[.string a, .string b, .bool (Lib.cut s.data.toList [32]).2.2]) ∧ a.data.toList = (Lib.cut s.data.toList [32]).1 ∧ b.data.toList = (Lib.cut s.data.toList [32]).2.1 ∧ a.size ≤ 60000 ∧ b.size ≤ 60000) ∧ Below w.heap.size w w') := fun w hE => cut32_any s hs w hE
  clear hE
  generalize Lib.cut s.data.toList [32] = q at HC ⊢
  obtain ⟨q1, q2, q3⟩ := q
  simp only at HC ⊢
  go_enter Tryz.func126, Tryz.ntmps126
  go_wp2_with fail
  refine (HC.out _ HE.out).mono ?_
  rintro e w1 ⟨⟨x, b, rfl, hx, hb, hsx, hsb⟩, hb1⟩
  have g1 : w1.cell? ⟨g, 0, none⟩ = some (.string s) := (hb1.cell (p := ⟨g, 0, none⟩) hgs).trans hg
  have f1 : w1.frozen? ⟨g, 0, none⟩ = false := (hb1.frozen (p := ⟨g, 0, none⟩) hgs).trans hf
  have HE1 : Hid (Env w1) := HE.out.below hb1
  have HX : Hid (x.data.toList = q1) := hx
  have HBb : Hid (b.data.toList = q2) := hb
  have HB1 : Hid (Below w.heap.size w w1) := hb1
  have hgs1 : g < w1.heap.size := Nat.lt_of_lt_of_le hgs hb1.size
  clear hb1 hx hb hg hf HE HC
  have HGS : Hid (w1.grownBy (w1.setCell ⟨g, 0, none⟩ (.string b)) (some g)) := grown_set w1 g _
  have HES : Hid (Env (w1.setCell ⟨g, 0, none⟩ (.string b))) := HE1.out.below8 ((Below.refl _ _).setCell h8 _)
  have hss : g < (w1.setCell ⟨g, 0, none⟩ (.string b)).heap.size := by simpa [World.setCell] using hgs1
  have HGC : Hid ((w1.setCell ⟨g, 0, none⟩ (.string b)).cell? ⟨g, 0, none⟩ = some (.string b) ∧ (w1.setCell ⟨g, 0, none⟩ (.string b)).frozen? ⟨g, 0, none⟩ = false) := ⟨World.cell?_setCell_same _ _ _ g1, by rw [World.frozen?_setCell]; exact f1⟩
  have HSS : Hid (g < (w1.setCell ⟨g, 0, none⟩ (.string b)).heap.size) := hss
  clear hss
  go_wp2_with fail
  refine (readNumber_any x hsx _ HES.out).mono ?_
  rintro e w2 ⟨⟨n, rfl, hn⟩, hb2⟩
  rw [HX.out] at hn ⊢
  have HN : Hid (∀ v, Lk.numOf q1 = some v → n = v) := hn
  have HC2 : Hid (w2.cell? ⟨g, 0, none⟩ = some (.string b) ∧ w2.frozen? ⟨g, 0, none⟩ = false) := ⟨(hb2.cell (p := ⟨g, 0, none⟩) HSS.out).trans HGC.out.1, (hb2.frozen (p := ⟨g, 0, none⟩) HSS.out).trans HGC.out.2⟩
  have HG2 : Hid (w.grownBy w2 (some g)) := grown_trans (grown_trans (grown_below HB1.out _) HGS.out) (grown_below hb2 _)
  clear hn hb2 HGC HSS HES HGS g1 f1
  generalize ho : (Lk.numOf q1).isSome = o
  have HO : Hid ((Lk.numOf q1).isSome = o) := ho
  clear ho
  cases q3
  all_goals
    go_wp2
    go_ret2
    exact ⟨⟨n, b, by rw [HO.out]; rfl, HN.out, HBb.out, hsb, HC2.out.1, HC2.out.2⟩, HG2.out⟩
/-- six numbers in a block of their own -/
def NumsAt (w : World) (b : Nat) (ns : List Int) : Prop := b < w.heap.size ∧ ∀ j, j < 6 → w.cell? ⟨b, j, none⟩ = some (.int .i64 (ns.getD j 0)) ∧ w.frozen? ⟨b, j, none⟩ = false
theorem NumsAt.grown {w w' : World} {b g : Nat} {ns : List Int} (h : NumsAt w b ns) (hb : w.grownBy w' (some g)) (hne : b ≠ g) : NumsAt w' b ns := by
  have e := hb.block b h.1 (fun e => hne (by injection e))
  exact ⟨Nat.lt_of_lt_of_le h.1 hb.size, fun j hj => ⟨(World.cell?_of_block (w := w) (a := ⟨b, j, none⟩) e).trans (h.2 j hj).1, (World.frozen?_of_block (w := w) (a := ⟨b, j, none⟩) e).trans (h.2 j hj).2⟩⟩
theorem NumsAt.below {w w' : World} {b : Nat} {ns : List Int} (h : NumsAt w b ns) (hb : Below w.heap.size w w') : NumsAt w' b ns :=
  ⟨Nat.lt_of_lt_of_le h.1 hb.size, fun j hj => ⟨(hb.cell (p := ⟨b, j, none⟩) h.1).trans (h.2 j hj).1, (hb.frozen (p := ⟨b, j, none⟩) h.1).trans (h.2 j hj).2⟩⟩
theorem NumsAt.far {w : World} {b : Nat} {ns : List Int} (h : NumsAt w b ns) {c : Nat} (hne : b ≠ c) (o : Nat) (u : Value) : NumsAt (w.setCell ⟨c, o, none⟩ u) b ns := by
  have e : (w.setCell ⟨c, o, none⟩ u).heap[b]? = w.heap[b]? := Below.heap_setCell w ⟨c, o, none⟩ u b hne
  exact ⟨by simpa [World.setCell] using h.1, fun j hj => ⟨(World.cell?_of_block (w := w) (a := ⟨b, j, none⟩) e).trans (h.2 j hj).1, (World.frozen?_of_block (w := w) (a := ⟨b, j, none⟩) e).trans (h.2 j hj).2⟩⟩
theorem NumsAt.set {w : World} {b : Nat} {ns : List Int} (h : NumsAt w b ns) (n : Int) : NumsAt (w.setCell ⟨b, ns.length, none⟩ (.int .i64 n)) b (ns ++ [n]) := by
  refine ⟨by simpa [World.setCell] using h.1, fun j hj => ⟨?_, by rw [World.frozen?_setCell]; exact (h.2 j hj).2⟩⟩
  by_cases e : j = ns.length
  · subst e
    rw [World.cell?_setCell_same _ _ _ (h.2 _ hj).1]
    simp
  · rw [World.cell?_setCell_other _ _ _ _ (by intro x; injection x with _ x; exact e x.symm), (h.2 j hj).1]
    by_cases h2 : j < ns.length
    · rw [List.getD_eq_getElem?_getD, List.getD_eq_getElem?_getD, List.getElem?_append_left h2]
    · rw [List.getD_eq_getElem?_getD, List.getD_eq_getElem?_getD, List.getElem?_eq_none (by omega), List.getElem?_eq_none (by simp; omega)]
theorem numsAt_alloc (w : World) : NumsAt (w.alloc (.cells #[.int .i64 0, .int .i64 0, .int .i64 0, .int .i64 0, .int .i64 0, .int .i64 0] 81)) w.heap.size [] := by
  refine ⟨by simp, fun j hj => ?_⟩
  rcases j with _ | _ | _ | _ | _ | _ | j
  iterate 6 exact ⟨by simp [go_sem], by simp [go_sem]⟩
  omega
/-- what readNumbers answers -/
def readOk (s : List UInt8) (ns : List Int) (p : ByteArray) (ok : Bool) : Prop := ns.length = 6 ∧ p.size ≤ 60000 ∧ (ok = true → Lk.readNote s = Lk.fin ns p.data.toList) ∧ (ok = false → Lk.readNote s = (Lk.Note.none, 1))
def readRes (s : List UInt8) (e : Ending) : Prop := ∃ ns p ok, e = .returned (.tuple #[numV ns, .string p, .bool ok]) ∧ readOk s ns p ok
theorem readRes_mk {s : List UInt8} {ns : List Int} {p : ByteArray} {ok : Bool} (h : readOk s ns p ok) : readRes s (.returned (.tuple #[numV ns, .string p, .bool ok])) := ⟨ns, p, ok, rfl, h⟩
theorem read_no6 {s : List UInt8} {k : Nat} (hk : k ≤ 6) (h : Lk.rdTo k s = none) : Lk.readNote s = (Lk.Note.none, 1) := by
  have := Lk.rdTo_none h (6 - k)
  rw [show k + (6 - k) = 6 by omega] at this
  unfold Lk.readNote
  rw [this]
theorem read_pre {s r : List UInt8} {ns : List Int} (h : Lk.rdTo 6 s = some (ns, r)) (hp : Lib.hasPrefix r [61] = false) : Lk.readNote s = (Lk.Note.none, 1) := by
  unfold Lk.readNote
  rw [h]
  simp only
  cases r with
  | nil => rfl
  | cons c t =>
    simp only
    rw [if_neg]
    intro e
    rw [e.1] at hp
    simp [Lib.hasPrefix] at hp
theorem read_bad4 {s r : List UInt8} {ns : List Int} (h : Lk.rdTo 6 s = some (ns, r)) (hg : Lk.within (ns.getD 4 0) 0 1 = false) : Lk.readNote s = (Lk.Note.none, 1) := by
  unfold Lk.readNote
  rw [h]
  simp only
  cases r with
  | nil => rfl
  | cons c t =>
    simp only
    rw [if_neg]
    intro e
    rw [e.2] at hg; cases hg
theorem read_all {s r : List UInt8} {ns : List Int} (h : Lk.rdTo 6 s = some (ns, r)) (hp : Lib.hasPrefix r [61] = true) (hg : Lk.within (ns.getD 4 0) 0 1 = true) : Lk.readNote s = Lk.fin ns (Lib.trimPrefix r [61]) := by
  unfold Lk.readNote
  rw [h]
  simp only
  cases r with
  | nil => simp [Lib.hasPrefix] at hp
  | cons c t =>
    have hc : c = 61 := by
      have := hp
      simp [Lib.hasPrefix] at this
      exact this.symm
    simp only
    rw [if_pos ⟨hc, hg⟩, Lib.trimPrefix, if_pos hp]
    rfl
theorem trim_size (r : ByteArray) (h : r.size ≤ 60000) : (⟨(Lib.trimPrefix r.data.toList [61]).toArray⟩ : ByteArray).size ≤ 60000 := by
  show (Lib.trimPrefix r.data.toList [61]).toArray.size ≤ 60000
  have hl : r.data.toList.length ≤ 60000 := h
  unfold Lib.trimPrefix
  split <;> simp <;> omega
theorem step_yes {s : List UInt8} {r : ByteArray} {k : Nat} {ns : List Int} {n : Int} (h : Lk.rdTo k s = some (ns, r.data.toList)) (hn : ∀ v, Lk.numOf (Lib.cut r.data.toList [32]).1 = some v → n = v)
    (ho : ((Lib.cut r.data.toList [32]).2.2 && (Lk.numOf (Lib.cut r.data.toList [32]).1).isSome) = true) : Lk.rdTo (k + 1) s = some (ns ++ [n], (Lib.cut r.data.toList [32]).2.1) := by
  rw [Bool.and_eq_true] at ho
  cases e : Lk.numOf (Lib.cut r.data.toList [32]).1 with
  | none => rw [e] at ho; cases ho.2
  | some v => rw [hn v e]; exact Lk.rdTo_next h ho.1 e
theorem step_no {s : List UInt8} {r : ByteArray} {k : Nat} {ns : List Int} (h : Lk.rdTo k s = some (ns, r.data.toList))
    (ho : ((Lib.cut r.data.toList [32]).2.2 && (Lk.numOf (Lib.cut r.data.toList [32]).1).isSome) = false) : Lk.rdTo (k + 1) s = none := by
  cases e : (Lib.cut r.data.toList [32]).2.2 with
  | false => exact Lk.rdTo_cut h e
  | true =>
    rw [e, Bool.true_and] at ho
    cases e' : Lk.numOf (Lib.cut r.data.toList [32]).1 with
    | none => exact Lk.rdTo_num h e'
    | some v => rw [e'] at ho; cases ho
set_option maxHeartbeats 4000000 in
set_option maxRecDepth 100000 in
theorem readNumbers_any (s : ByteArray) (hs : s.size ≤ 60000) (w : World) (hE : Env w) :
    Calls Tryz.prog 107 #[.string s] w fun e w' => readRes s.data.toList e ∧ Below w.heap.size w w' := by
  have HE : Hid (Env w) := hE
  have HS : Hid (s.size ≤ 60000) := hs
  have h8 := hE.big
  clear hE hs
  have HA : Hid (NumsAt (((w.alloc (.cells #[.int .i64 0, .int .i64 0, .int .i64 0, .int .i64 0, .int .i64 0, .int .i64 0] 81)).alloc (.cells #[.string s] 9)).alloc (.cells #[.int .i64 0, .int .i64 0, .int .i64 0, .int .i64 0, .int .i64 0, .int .i64 0] 81)) w.heap.size []) :=
    (numsAt_alloc w).below (((Below.refl _ _).alloc (Nat.le_refl _) _).alloc (by simp) _)
  have HC : Hid (NumsAt (((w.alloc (.cells #[.int .i64 0, .int .i64 0, .int .i64 0, .int .i64 0, .int .i64 0, .int .i64 0] 81)).alloc (.cells #[.string s] 9)).alloc (.cells #[.int .i64 0, .int .i64 0, .int .i64 0, .int .i64 0, .int .i64 0, .int .i64 0] 81)) (w.heap.size + 1 + 1) []) := by
    have := numsAt_alloc ((w.alloc (.cells #[.int .i64 0, .int .i64 0, .int .i64 0, .int .i64 0, .int .i64 0, .int .i64 0] 81)).alloc (.cells #[.string s] 9))
    rwa [World.size_alloc, World.size_alloc] at this
  have HB : Hid (Below w.heap.size w (((w.alloc (.cells #[.int .i64 0, .int .i64 0, .int .i64 0, .int .i64 0, .int .i64 0, .int .i64 0] 81)).alloc (.cells #[.string s] 9)).alloc (.cells #[.int .i64 0, .int .i64 0, .int .i64 0, .int .i64 0, .int .i64 0, .int .i64 0] 81))) := (((Below.refl _ w).alloc (Nat.le_refl _) _).alloc (by simp) _).alloc (by simp; omega) _
  have HR : Hid ((((w.alloc (.cells #[.int .i64 0, .int .i64 0, .int .i64 0, .int .i64 0, .int .i64 0, .int .i64 0] 81)).alloc (.cells #[.string s] 9)).alloc (.cells #[.int .i64 0, .int .i64 0, .int .i64 0, .int .i64 0, .int .i64 0, .int .i64 0] 81)).cell? ⟨w.heap.size + 1, 0, none⟩ = some (.string s) ∧ (((w.alloc (.cells #[.int .i64 0, .int .i64 0, .int .i64 0, .int .i64 0, .int .i64 0, .int .i64 0] 81)).alloc (.cells #[.string s] 9)).alloc (.cells #[.int .i64 0, .int .i64 0, .int .i64 0, .int .i64 0, .int .i64 0, .int .i64 0] 81)).frozen? ⟨w.heap.size + 1, 0, none⟩ = false) := ⟨by simp [go_sem], by simp [go_sem]⟩
  go_enter Tryz.func107, Tryz.ntmps107
  go_wp2_with fail
  generalize ((w.alloc (.cells #[.int .i64 0, .int .i64 0, .int .i64 0, .int .i64 0, .int .i64 0, .int .i64 0] 81)).alloc (.cells #[.string s] 9)).alloc (.cells #[.int .i64 0, .int .i64 0, .int .i64 0, .int .i64 0, .int .i64 0, .int .i64 0] 81) = W at HA HC HB HR ⊢
  go_loopg [15] 6 (fun g s15 wr => ∃ k : Nat, ∃ ns : List Int, ∃ r : ByteArray, k ≤ 6 ∧ 6 - k ≤ g ∧ s15 = .int .i64 k ∧ Hid (Lk.rdTo k s.data.toList = some (ns, r.data.toList)) ∧ Hid (r.size ≤ 60000) ∧ Hid (wr.cell? ⟨w.heap.size + 1, 0, none⟩ = some (.string r) ∧ wr.frozen? ⟨w.heap.size + 1, 0, none⟩ = false) ∧ Hid (NumsAt wr w.heap.size []) ∧ Hid (NumsAt wr (w.heap.size + 1 + 1) ns) ∧ Hid (Below w.heap.size w wr))
  case atStart => exact ⟨0, [], s, Nat.zero_le _, by omega, rfl, rfl, HS, HR, HA, HC, HB⟩
  case round =>
    obtain ⟨k, ns, r, hk, hg, rfl, HRd, HRs, HRc, HAr, HCr, HBr⟩ := hrel
    have HEr : Hid (Env wr) := HE.out.below HBr.out
    have HLn : Hid (ns.length = k) := Lk.rdTo_len HRd.out
    by_cases hlt : k < 6
    · have hlt' : (k : Int) < 6 := by omega
      go_wp2_with fail
      refine (next_any r HRs.out (w.heap.size + 1) _ HEr.out (by omega) HRc.out.1 HRc.out.2).mono ?_
      rintro e w2 ⟨⟨n, b, rfl, hn, hb, hsb, hc, hf⟩, hgr⟩
      have HY : Hid (((Lib.cut r.data.toList [32]).2.2 && (Lk.numOf (Lib.cut r.data.toList [32]).1).isSome) = true → Lk.rdTo (k + 1) s.data.toList = some (ns ++ [n], b.data.toList)) := fun ho => by rw [hb]; exact step_yes HRd.out hn ho
      have HX : Hid (((Lib.cut r.data.toList [32]).2.2 && (Lk.numOf (Lib.cut r.data.toList [32]).1).isSome) = false → Lk.rdTo (k + 1) s.data.toList = none) := fun ho => step_no HRd.out ho
      generalize ((Lib.cut r.data.toList [32]).2.2 && (Lk.numOf (Lib.cut r.data.toList [32]).1).isSome) = ok at HY HX
      have HA2 : Hid (NumsAt w2 w.heap.size []) := HAr.out.grown hgr (by omega)
      have HC2 : Hid (NumsAt w2 (w.heap.size + 1 + 1) ns) := HCr.out.grown hgr (by omega)
      have HB2 : Hid (Below w.heap.size w w2) := HBr.out.trans (below_grown hgr (by omega) HBr.out.size)
      have HSb : Hid (b.size ≤ 60000) := hsb
      have HRc2 : Hid (w2.cell? ⟨w.heap.size + 1, 0, none⟩ = some (.string b) ∧ w2.frozen? ⟨w.heap.size + 1, 0, none⟩ = false) := ⟨hc, hf⟩
      clear hn hb hsb hc hf hgr HAr HCr HRc HRd HRs HEr
      cases ok
      · have HNo : Hid (Lk.readNote s.data.toList = (Lk.Note.none, 1)) := read_no6 (by omega) (HX.out rfl)
        clear HX HY
        obtain ⟨z0, y0⟩ := HA2.out.2 0 (by omega)
        obtain ⟨z1, y1⟩ := HA2.out.2 1 (by omega)
        obtain ⟨z2, y2⟩ := HA2.out.2 2 (by omega)
        obtain ⟨z3, y3⟩ := HA2.out.2 3 (by omega)
        obtain ⟨z4, y4⟩ := HA2.out.2 4 (by omega)
        obtain ⟨z5, y5⟩ := HA2.out.2 5 (by omega)
        simp only [List.getD_nil] at z0 z1 z2 z3 z4 z5
        go_wp2
        refine bodyPost_ret (v := .tuple #[numV (List.replicate 6 0), .string ⟨#[]⟩, .bool false]) (by simp [results, Tryz.results107, go_sem, numV, z0, z1, z2, z3, z4, z5]) rfl ⟨readRes_mk ⟨by simp, by decide, fun h => (by cases h), fun _ => HNo.out⟩, ?_⟩
        exact ((((((HB2.out.setCell (Nat.le_refl _) _).setCell (Nat.le_refl _) _).setCell (Nat.le_refl _) _).setCell (Nat.le_refl _) _).setCell (Nat.le_refl _) _).setCell (Nat.le_refl _) _)
      · have HRd2 : Hid (Lk.rdTo (k + 1) s.data.toList = some (ns ++ [n], b.data.toList)) := HY.out rfl
        clear HX HY
        obtain ⟨k1, k2⟩ := HC2.out.2 k (by omega)
        have HSet : Hid (NumsAt (w2.setCell ⟨w.heap.size + 1 + 1, k, none⟩ (.int .i64 n)) (w.heap.size + 1 + 1) (ns ++ [n])) := by
          have := HC2.out.set n
          rwa [HLn.out] at this
        go_wp2
        go_roundg (6 - (k + 1))
        case measure => omega
        case rel => exact ⟨k + 1, ns ++ [n], b, by omega, by omega, by go_num, HRd2, HSb, ⟨by rw [World.cell?_setCell_other _ _ _ _ (by intro x; injection x with x; omega)]; exact HRc2.out.1, by rw [World.frozen?_setCell]; exact HRc2.out.2⟩, HA2.out.far (by omega) _ _, HSet, HB2.out.setCell (by show w.heap.size ≤ w.heap.size + 1 + 1; omega) _⟩
    · have hk' : k = 6 := by omega
      subst hk'
      clear hk hlt
      obtain ⟨r1, r2⟩ := HRc.out
      have hl6 : ns.length = 6 := HLn.out
      have HP : Hid (∀ w, Calls Tryz.prog 129 #[.string r, .string ⟨#[61]⟩] w fun e w' => e = .returned (.tuple #[.string ⟨(Lib.trimPrefix r.data.toList [61]).toArray⟩, .bool (Lib.hasPrefix r.data.toList [61])]) ∧ w' = w) := fun w => Tryz.strings_CutPrefix r ⟨#[61]⟩ w
      have HTS : Hid ((⟨(Lib.trimPrefix r.data.toList [61]).toArray⟩ : ByteArray).size ≤ 60000) := trim_size r HRs.out
      have HF1 : Hid (Lib.hasPrefix r.data.toList [61] = false → Lk.readNote s.data.toList = (Lk.Note.none, 1)) := fun h => read_pre HRd.out h
      have HF2 : Hid (Lk.within (ns.getD 4 0) 0 1 = false → Lk.readNote s.data.toList = (Lk.Note.none, 1)) := fun h => read_bad4 HRd.out h
      have HF3 : Hid (Lib.hasPrefix r.data.toList [61] = true → Lk.within (ns.getD 4 0) 0 1 = true → Lk.readNote s.data.toList = Lk.fin ns (⟨(Lib.trimPrefix r.data.toList [61]).toArray⟩ : ByteArray).data.toList) := fun h h' => by
        rw [read_all HRd.out h h']
      generalize (⟨(Lib.trimPrefix r.data.toList [61]).toArray⟩ : ByteArray) = p at HP HTS HF3
      generalize Lib.hasPrefix r.data.toList [61] = hp at HP HF1 HF3
      clear HRd HRs HRc HLn
      obtain ⟨z0, y0⟩ := HAr.out.2 0 (by omega)
      obtain ⟨z1, y1⟩ := HAr.out.2 1 (by omega)
      obtain ⟨z2, y2⟩ := HAr.out.2 2 (by omega)
      obtain ⟨z3, y3⟩ := HAr.out.2 3 (by omega)
      obtain ⟨z4, y4⟩ := HAr.out.2 4 (by omega)
      obtain ⟨z5, y5⟩ := HAr.out.2 5 (by omega)
      obtain ⟨x0, -⟩ := HCr.out.2 0 (by omega)
      obtain ⟨x1, -⟩ := HCr.out.2 1 (by omega)
      obtain ⟨x2, -⟩ := HCr.out.2 2 (by omega)
      obtain ⟨x3, -⟩ := HCr.out.2 3 (by omega)
      obtain ⟨x4, -⟩ := HCr.out.2 4 (by omega)
      obtain ⟨x5, -⟩ := HCr.out.2 5 (by omega)
      match ns, hl6 with
      | [n0, n1, n2, n3, n4, n5], _ =>
      simp only [List.getD_nil, List.getD_cons_zero, List.getD_cons_succ] at z0 z1 z2 z3 z4 z5 x0 x1 x2 x3 x4 x5 HF2 HF3
      clear hl6 HAr HCr HA HC HB HR
      cases hp
      · have HNo : Hid (Lk.readNote s.data.toList = (Lk.Note.none, 1)) := HF1.out rfl
        clear HF1 HF2 HF3
        go_wp2_with (go_at_call 129; refine (HP.out _).mono ?_; rintro e w' ⟨rfl, hw'⟩; rw [hw']; clear hw')
        refine bodyPost_ret (v := .tuple #[numV (List.replicate 6 0), .string ⟨#[]⟩, .bool false]) (by simp [results, Tryz.results107, go_sem, numV, z0, z1, z2, z3, z4, z5]) rfl ⟨readRes_mk ⟨by simp, by decide, fun h => (by cases h), fun _ => HNo.out⟩, ?_⟩
        exact ((((((HBr.out.setCell (Nat.le_refl _) _).setCell (Nat.le_refl _) _).setCell (Nat.le_refl _) _).setCell (Nat.le_refl _) _).setCell (Nat.le_refl _) _).setCell (Nat.le_refl _) _)
      · by_cases h0 : 0 ≤ n4
        · by_cases h1 : n4 ≤ 1
          · have HYes : Hid (Lk.readNote s.data.toList = Lk.fin [n0, n1, n2, n3, n4, n5] p.data.toList) := HF3.out rfl (within_yes h0 h1)
            clear HF1 HF2 HF3
            go_wp2_with (first | (go_at_call 129; refine (HP.out _).mono ?_; rintro e w' ⟨rfl, hw'⟩; rw [hw']; clear hw') | (go_at_call 46; go_in))
            refine bodyPost_ret (v := .tuple #[numV [n0, n1, n2, n3, n4, n5], .string p, .bool true]) (by simp [results, Tryz.results107, go_sem, numV, z0, z1, z2, z3, z4, z5]) rfl ⟨readRes_mk ⟨rfl, HTS.out, fun _ => HYes.out, fun h => by cases h⟩, ?_⟩
            exact ((((((HBr.out.setCell (Nat.le_refl _) _).setCell (Nat.le_refl _) _).setCell (Nat.le_refl _) _).setCell (Nat.le_refl _) _).setCell (Nat.le_refl _) _).setCell (Nat.le_refl _) _)
          · have HNo : Hid (Lk.readNote s.data.toList = (Lk.Note.none, 1)) := HF2.out (within_hi h1)
            have h1' : decide (n4 ≤ 1) = false := decide_eq_false h1
            clear HF1 HF2 HF3 h1
            go_wp2_with (first | (go_at_call 129; refine (HP.out _).mono ?_; rintro e w' ⟨rfl, hw'⟩; rw [hw']; clear hw') | (go_at_call 46; go_in))
            refine bodyPost_ret (v := .tuple #[numV (List.replicate 6 0), .string ⟨#[]⟩, .bool false]) (by simp [results, Tryz.results107, go_sem, numV, z0, z1, z2, z3, z4, z5]) rfl ⟨readRes_mk ⟨by simp, by decide, fun h => (by cases h), fun _ => HNo.out⟩, ?_⟩
            exact ((((((HBr.out.setCell (Nat.le_refl _) _).setCell (Nat.le_refl _) _).setCell (Nat.le_refl _) _).setCell (Nat.le_refl _) _).setCell (Nat.le_refl _) _).setCell (Nat.le_refl _) _)
        · have HNo : Hid (Lk.readNote s.data.toList = (Lk.Note.none, 1)) := HF2.out (within_lo h0)
          have h0' : n4 < 0 := by omega
          clear HF1 HF2 HF3 h0
          go_wp2_with (first | (go_at_call 129; refine (HP.out _).mono ?_; rintro e w' ⟨rfl, hw'⟩; rw [hw']; clear hw') | (go_at_call 46; go_in))
          refine bodyPost_ret (v := .tuple #[numV (List.replicate 6 0), .string ⟨#[]⟩, .bool false]) (by simp [results, Tryz.results107, go_sem, numV, z0, z1, z2, z3, z4, z5]) rfl ⟨readRes_mk ⟨by simp, by decide, fun h => (by cases h), fun _ => HNo.out⟩, ?_⟩
          exact ((((((HBr.out.setCell (Nat.le_refl _) _).setCell (Nat.le_refl _) _).setCell (Nat.le_refl _) _).setCell (Nat.le_refl _) _).setCell (Nat.le_refl _) _).setCell (Nat.le_refl _) _)
end Go.Proofs.YtpenkhehceglfaaGreatDoor
