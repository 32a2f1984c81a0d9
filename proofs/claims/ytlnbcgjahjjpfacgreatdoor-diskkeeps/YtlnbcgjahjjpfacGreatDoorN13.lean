/- The contract of the document's RecRead. -/
import Derived.Test.YtlnbcgjahjjpfacGreatDoorN12
import Derived.Deep.RegionHeld3
namespace Go.Proofs.YtlnbcgjahjjpfacGreatDoor
open Go.RowKit
theorem Tryz.info3 : (Tryz.prog.info? 3).map (fun i => (i.zero, i.size, i.bytes)) = some (some (.int .i64 0), 1, 8) := by kernel_rfl
theorem split32_any (s : ByteArray) (hs : s.size ≤ 60000) (w : World) (hE : Env w) :
    Calls Tryz.prog 69 #[.string s, .string ⟨#[32]⟩] w fun e w' => e = .returned (.slice (some ⟨w.heap.size, 0, none⟩) (Lk.wb s).length (Lk.wb s).length) ∧ (∀ j x, (Lk.wb s)[j]? = some x → w'.cell? ⟨w.heap.size, j, none⟩ = some (.string x)) ∧ w'.heap.size = w.heap.size + 1 ∧ Below w.heap.size w w' := by
  obtain ⟨m, hm⟩ := hE.mx
  refine (Tryz.strings_Split s Lk.blank m w (by omega) hm (by decide)).mono ?_
  rintro e w' ⟨rfl, rfl⟩
  refine ⟨by rw [Lk.wb_len], ?_, by simp, (Below.refl _ w).alloc (Nat.le_refl _) _⟩
  intro j x hx
  rw [World.cell?_alloc_new]
  show ((Lk.wb s).map Value.string).toArray[j]? = _
  simp [hx]
set_option maxHeartbeats 1000000 in
theorem badRec_any (x : Int) (w : World) :
    Calls Tryz.prog 68 #[.int .i64 x] w fun e w' => e = .returned (.tuple #[.agg #[.int .i64 0, .int .i64 0, .int .i64 0, .int .i64 0, .bool false, .int .i64 0, .slice none 0 0], .int .i64 x]) ∧ Below w.heap.size w w' := by
  have HB : Hid (∀ o, Below w.heap.size w (w.alloc o)) := fun o => (Below.refl _ w).alloc (Nat.le_refl _) o
  go_enter Tryz.func68, Tryz.ntmps68
  go_wp2
  refine bodyPost_ret (v := .tuple #[.agg #[.int .i64 0, .int .i64 0, .int .i64 0, .int .i64 0, .bool false, .int .i64 0, .slice none 0 0], .int .i64 x]) (by simp [results, Tryz.results68, go_sem]) rfl ⟨rfl, HB.out _⟩
theorem numOf_wf {s : List UInt8} {v : Int} (h : Lk.numOf s = some v) : (Lit.int .i64 v).wf = true := by
  unfold Lk.numOf at h
  split at h
  · rename_i u e
    split at h
    · cases h
      have := Lib.atoiAll_bounds e
      exact WalkArith.wf_i64 (by omega)
    · cases h
  · cases h
/-- the first k words are numbers -/
def numTo (s : ByteArray) (k : Nat) (ns : List Int) : Prop := Lk.numsOf (((Lk.wb s).take k).map (·.data.toList)) = some ns
theorem numTo_next {s : ByteArray} {k : Nat} {ns : List Int} {x : ByteArray} {p : Int} (h : numTo s k ns) (hx : (Lk.wb s)[k]? = some x) (hp : Lk.numOf x.data.toList = some p) : numTo s (k + 1) (ns ++ [p]) := by
  unfold numTo
  rw [List.take_add_one, hx, List.map_append]
  exact Lk.numsOf_snoc _ _ _ _ h hp
theorem numTo_len {s : ByteArray} {k : Nat} {ns : List Int} (h : numTo s k ns) (hk : k ≤ (Lk.wb s).length) : ns.length = k := by
  rw [Lk.numsOf_len _ _ h]; simp; omega
theorem take_map (s : ByteArray) (k : Nat) : ((Lk.wb s).take k).map (·.data.toList) = (Lk.splitC s.data.toList).take k := by
  rw [List.map_take, Lk.wb_C]
theorem read_badnum {s : ByteArray} {k : Nat} (hk : k < 6) {x : ByteArray} (hx : (Lk.wb s)[k]? = some x) (hp : Lk.numOf x.data.toList = none) : Lk.readNote s.data.toList = (Lk.Note.none, 1) := by
  refine Lk.read_num (Lk.numsOf_bad _ x.data.toList ?_ hp)
  have := Lk.wb_at hx
  exact List.mem_of_getElem? (i := k) (by rw [List.getElem?_take_of_lt hk]; exact this)
theorem numTo_wf {s : ByteArray} {ns : List Int} (h : numTo s 6 ns) : ∀ v ∈ ns, (Lit.int .i64 v).wf = true := by
  have key : ∀ (a : List (List UInt8)) (l : List Int), Lk.numsOf a = some l → ∀ v ∈ l, (Lit.int .i64 v).wf = true := by
    intro a
    induction a with
    | nil => intro l h v hv; simp only [Lk.numsOf, Option.some.injEq] at h; subst h; cases hv
    | cons x r ih =>
      intro l h v hv
      simp only [Lk.numsOf] at h
      cases e : Lk.numOf x with
      | none => rw [e] at h; simp at h
      | some q =>
        cases e' : Lk.numsOf r with
        | none => rw [e, e'] at h; simp at h
        | some m =>
          rw [e, e'] at h
          simp only [Option.some.injEq] at h
          subst h
          rcases List.mem_cons.1 hv with rfl | hv
          · exact numOf_wf e
          · exact ih m e' v hv
  exact key _ _ h
theorem recR_len {s : ByteArray} (h : (Lk.wb s).length ≠ 7) : Lk.readNote s.data.toList = (Lk.Note.none, 1) := Lk.read_len (by rw [Lk.wb_lenC]; exact h)
theorem recR_head {s x : ByteArray} (h : (Lk.wb s).length = 7) (hx : (Lk.wb s)[6]? = some x) (hp : Lib.hasPrefix x.data.toList [61] = false) : Lk.readNote s.data.toList = (Lk.Note.none, 1) := Lk.read_head (by rw [Lk.wb_lenC]; exact h) (Lk.wb_at hx) hp
theorem recR_good {s x : ByteArray} {ns : List Int} (h : (Lk.wb s).length = 7) (hx : (Lk.wb s)[6]? = some x) (hn : numTo s 6 ns) (hg : Lk.within (ns.getD 4 0) 0 1 = false) : Lk.readNote s.data.toList = (Lk.Note.none, 1) := Lk.read_good (by rw [Lk.wb_lenC]; exact h) (Lk.wb_at hx) (by rw [← take_map]; exact hn) hg
theorem recR_fin {s x : ByteArray} {ns : List Int} (h : (Lk.wb s).length = 7) (hx : (Lk.wb s)[6]? = some x) (hp : Lib.hasPrefix x.data.toList [61] = true) (hn : numTo s 6 ns) (hg : Lk.within (ns.getD 4 0) 0 1 = true) : Lk.readNote s.data.toList = Lk.fin ns (x.extract 1 x.size).data.toList := by
  rw [Lk.read_fin (by rw [Lk.wb_lenC]; exact h) (Lk.wb_at hx) hp (by rw [← take_map]; exact hn) hg, ext_drop]
theorem prefix_size {x : ByteArray} (hp : Lib.hasPrefix x.data.toList [61] = true) : 1 ≤ x.size := by
  show 1 ≤ x.data.toList.length
  cases h : x.data.toList with
  | nil => rw [h] at hp; simp [Lib.hasPrefix] at hp
  | cons _ _ => simp
theorem owns_six {w : World} {base : Nat} {v : Value} {ns : List Int} (h : w.ownsRow base 3 1 v ns.length (ns.map (Value.int .i64))) (hl : ns.length = 6) :
    ∃ gb cap, v = .slice (some ⟨gb, 0, none⟩) 6 cap ∧ gb < w.heap.size ∧ ∀ j, j < 6 → w.cell? ⟨gb, j, none⟩ = some (.int .i64 (ns.getD j 0)) := by
  have h0 := h
  rcases h.2 with ⟨h1, h2⟩ | ⟨g, cap, cur, h1, h2, h3, h4⟩
  · omega
  · subst h1
    refine ⟨g, cap, by rw [hl], ?_, fun j hj => ?_⟩
    · rcases Nat.lt_or_ge g w.heap.size with h | h
      · exact h
      · rw [Array.getElem?_eq_none h] at h3; cases h3
    · refine (h0.cellAt j (show j < ns.length * 1 by omega)).trans ?_
      rw [List.getElem?_map, List.getElem?_eq_getElem (by omega), List.getD_eq_getElem?_getD, List.getElem?_eq_getElem (by omega)]
      rfl
set_option maxHeartbeats 8000000 in
set_option maxRecDepth 100000 in
theorem recRead_new (s : ByteArray) (hs : s.size ≤ 60000) (w : World) (hE : Env w) :
    Calls Tryz.prog 48 #[.string s] w fun e w' => parsedN w.heap.size w' (Lk.readNote s.data.toList) e ∧ Below w.heap.size w w' := by
  have HE : Hid (Env w) := hE
  have HSP : Hid (∀ w, Env w → Calls Tryz.prog 69 #[.string s, .string ⟨#[32]⟩] w fun e w' => e = .returned (.slice (some ⟨w.heap.size, 0, none⟩) (Lk.wb s).length (Lk.wb s).length) ∧ (∀ j x, (Lk.wb s)[j]? = some x → w'.cell? ⟨w.heap.size, j, none⟩ = some (.string x)) ∧ w'.heap.size = w.heap.size + 1 ∧ Below w.heap.size w w') := fun w hE => split32_any s hs w hE
  have HWL : Hid (∀ x ∈ Lk.wb s, x.size ≤ 60000) := fun x hx => Nat.le_trans (Lk.wb_le s x hx) hs
  have hwl : (Lk.wb s).length ≤ 60001 := by rw [Lk.wb_len]; have := Lk.countb_le s; omega
  clear hE hs
  obtain ⟨i0, hi, hz0, hz1, hz2⟩ := info_parts Tryz.info3
  have HN0 : Hid (NoneAt (w.alloc (.cells #[.int .i64 0, .int .i64 0, .int .i64 0, .int .i64 0, .bool false, .int .i64 0, .slice none 0 0] 29)) w.heap.size) := noneAt_alloc w
  have HB0 : Hid (Below w.heap.size w (w.alloc (.cells #[.int .i64 0, .int .i64 0, .int .i64 0, .int .i64 0, .bool false, .int .i64 0, .slice none 0 0] 29))) := (Below.refl _ w).alloc (Nat.le_refl _) _
  go_enter Tryz.func48, Tryz.ntmps48
  go_wp2_with fail
  generalize w.alloc (.cells #[.int .i64 0, .int .i64 0, .int .i64 0, .int .i64 0, .bool false, .int .i64 0, .slice none 0 0] 29) = W0 at HN0 HB0 ⊢
  refine (HSP.out _ (HE.out.below HB0.out)).mono ?_
  rintro e w1 ⟨rfl, hcell, hsz, hb1⟩
  have HC : Hid (∀ j x, (Lk.wb s)[j]? = some x → w1.cell? ⟨W0.heap.size, j, none⟩ = some (.string x)) := hcell
  have HSZ : Hid (W0.heap.size < w1.heap.size) := by show W0.heap.size < w1.heap.size; omega
  have HB1 : Hid (Below w.heap.size w w1) := HB0.out.trans (hb1.mono HB0.out.size)
  have HN1 : Hid (NoneAt w1 w.heap.size) := HN0.out.below hb1
  clear hcell hsz hb1 HN0 HB0 HSP
  by_cases h7 : (Lk.wb s).length = 7
  rotate_left
  · have HQ : Hid (Lk.readNote s.data.toList = (Lk.Note.none, 1)) := recR_len h7
    have h7' : (((Lk.wb s).length : Int) != 7) = true := by rw [bne_iff_ne]; omega
    clear h7
    go_wp2_with fail
    refine (badRec_any 1 _).mono ?_
    rintro e w2 ⟨rfl, hb2⟩
    have HB2 : Hid (Below w.heap.size w w2) := HB1.out.trans (hb2.mono HB1.out.size)
    have HN2 : Hid (NoneAt w2 w.heap.size) := HN1.out.below hb2
    clear hb2
    obtain ⟨⟨d0, d1, d2, d3, d4, d5, d6, d7⟩, f0, f1, f2, f3, f4, f5, f6, -⟩ := HN2.out
    go_wp2
    refine bodyPost_ret (v := .tuple #[recV Lk.Note.none (.slice none 0 0), .int .i64 1]) (by simp [results, Tryz.results48, go_sem, recV, Lk.Note.none, d1, d2, d3, d4, d5, d6, d7]) rfl ⟨by rw [HQ.out]; exact parsedN_none _ _ _, ?_⟩
    exact (((((((HB2.out.setCell (Nat.le_refl _) _).setCell (Nat.le_refl _) _).setCell (Nat.le_refl _) _).setCell (Nat.le_refl _) _).setCell (Nat.le_refl _) _).setCell (Nat.le_refl _) _).setCell (Nat.le_refl _) _)
  have H7 : Hid ((Lk.wb s).length = 7) := h7
  rw [h7]
  clear h7 hwl
  obtain ⟨x6, hx6⟩ : ∃ x, (Lk.wb s)[6]? = some x := ⟨_, List.getElem?_eq_getElem (by rw [H7.out]; omega)⟩
  have HX6 : Hid ((Lk.wb s)[6]? = some x6) := hx6
  have c6 : w1.cell? ⟨W0.heap.size, 6, none⟩ = some (.string x6) := HC.out 6 x6 hx6
  have HS6 : Hid (x6.size ≤ 60000) := HWL.out x6 (List.mem_of_getElem? hx6)
  clear hx6
  have HPre : Hid (∀ w, Calls Tryz.prog 70 #[.string x6, .string ⟨#[61]⟩] w fun e w' => e = .returned (.bool (Lib.hasPrefix x6.data.toList [61])) ∧ w' = w) := fun w => Tryz.strings_HasPrefix x6 ⟨#[61]⟩ w
  have HF1 : Hid (Lib.hasPrefix x6.data.toList [61] = false → Lk.readNote s.data.toList = (Lk.Note.none, 1)) := fun h => recR_head H7.out HX6.out h
  have HF2 : Hid (Lib.hasPrefix x6.data.toList [61] = true → 1 ≤ x6.size ∧ ∀ ns, numTo s 6 ns → Lk.within (ns.getD 4 0) 0 1 = true → Lk.readNote s.data.toList = Lk.fin ns (x6.extract 1 x6.size).data.toList) := fun h => ⟨prefix_size h, fun ns hn hg => recR_fin H7.out HX6.out h hn hg⟩
  generalize Lib.hasPrefix x6.data.toList [61] = hp at HPre HF1 HF2
  cases hp
  · have HQ : Hid (Lk.readNote s.data.toList = (Lk.Note.none, 1)) := HF1.out rfl
    clear HF1 HF2
    go_wp2_with (go_at_call 70; refine (HPre.out _).mono ?_; rintro e w' ⟨rfl, hw'⟩; rw [hw']; clear hw')
    refine (badRec_any 1 _).mono ?_
    rintro e w2 ⟨rfl, hb2⟩
    have HB2 : Hid (Below w.heap.size w w2) := HB1.out.trans (hb2.mono HB1.out.size)
    have HN2 : Hid (NoneAt w2 w.heap.size) := HN1.out.below hb2
    clear hb2
    obtain ⟨⟨d0, d1, d2, d3, d4, d5, d6, d7⟩, f0, f1, f2, f3, f4, f5, f6, -⟩ := HN2.out
    go_wp2
    refine bodyPost_ret (v := .tuple #[recV Lk.Note.none (.slice none 0 0), .int .i64 1]) (by simp [results, Tryz.results48, go_sem, recV, Lk.Note.none, d1, d2, d3, d4, d5, d6, d7]) rfl ⟨by rw [HQ.out]; exact parsedN_none _ _ _, ?_⟩
    exact (((((((HB2.out.setCell (Nat.le_refl _) _).setCell (Nat.le_refl _) _).setCell (Nat.le_refl _) _).setCell (Nat.le_refl _) _).setCell (Nat.le_refl _) _).setCell (Nat.le_refl _) _).setCell (Nat.le_refl _) _)
  obtain ⟨h61, hfin⟩ := HF2.out rfl
  have HFin : Hid (∀ ns, numTo s 6 ns → Lk.within (ns.getD 4 0) 0 1 = true → Lk.readNote s.data.toList = Lk.fin ns (x6.extract 1 x6.size).data.toList) := hfin
  have HE1 : Hid (Env w1) := HE.out.below HB1.out
  clear hfin HF1 HF2
  go_wp2_with (go_at_call 70; refine (HPre.out _).mono ?_; rintro e w' ⟨rfl, hw'⟩; rw [hw']; clear hw')
  clear c6 HPre
  go_loopg [6, 34] 6 (fun g s6 s34 wr => ∃ k : Nat, ∃ ns : List Int, k ≤ 6 ∧ 6 - k ≤ g ∧ s34 = .int .i64 k ∧ Hid (wr.ownsRow w1.heap.size 3 1 s6 ns.length (ns.map (Value.int .i64))) ∧ Hid (numTo s k ns) ∧ Hid (Below w1.heap.size w1 wr))
  case atStart => exact ⟨0, [], Nat.zero_le _, by omega, rfl, World.ownsRow_nil _ _ _ _, rfl, Below.refl _ _⟩
  case round =>
    obtain ⟨k, ns, hk, hg, rfl, HO, HT, HBr⟩ := hrel
    have HLn : Hid (ns.length = k) := numTo_len HT.out (by rw [H7.out]; omega)
    have HNr : Hid (NoneAt wr w.heap.size) := HN1.out.below HBr.out
    have HBw : Hid (Below w.heap.size w wr) := HB1.out.trans (HBr.out.mono HB1.out.size)
    have HEr : Hid (Env wr) := HE1.out.below HBr.out
    by_cases hlt : k < 6
    · have hlt' : (k : Int) < 6 := by omega
      obtain ⟨x, hx⟩ : ∃ x, (Lk.wb s)[k]? = some x := ⟨_, List.getElem?_eq_getElem (by rw [H7.out]; omega)⟩
      have HX : Hid ((Lk.wb s)[k]? = some x) := hx
      have HXs : Hid (x.size ≤ 60000) := HWL.out x (List.mem_of_getElem? hx)
      have c1 : wr.cell? ⟨W0.heap.size, k, none⟩ = some (.string x) := (HBr.out.cell (p := ⟨W0.heap.size, k, none⟩) HSZ.out).trans (HC.out k x hx)
      clear hx
      go_wp2_with fail
      refine (whole_any x HXs.out _ HEr.out).mono ?_
      rintro e w2 ⟨⟨n, rfl, hn⟩, hb2⟩
      have HNn : Hid (∀ v, Lk.numOf x.data.toList = some v → n = v) := hn
      have HB2 : Hid (Below wr.heap.size wr w2) := hb2
      have HBw2 : Hid (Below w.heap.size w w2) := HBw.out.trans (hb2.mono HBw.out.size)
      have HN2 : Hid (NoneAt w2 w.heap.size) := HNr.out.below hb2
      clear hn hb2 c1 HNr HBw HEr
      cases hps : Lk.numOf x.data.toList with
      | none =>
        have HQ : Hid (Lk.readNote s.data.toList = (Lk.Note.none, 1)) := read_badnum hlt HX.out hps
        clear hps HO HT
        go_wp2_with fail
        refine (badRec_any 1 _).mono ?_
        rintro e w9 ⟨rfl, hb9⟩
        have HB9 : Hid (Below w.heap.size w w9) := HBw2.out.trans (hb9.mono HBw2.out.size)
        have HN9 : Hid (NoneAt w9 w.heap.size) := HN2.out.below hb9
        clear hb9
        obtain ⟨⟨d0, d1, d2, d3, d4, d5, d6, d7⟩, f0, f1, f2, f3, f4, f5, f6, -⟩ := HN9.out
        go_wp2
        refine bodyPost_ret (v := .tuple #[recV Lk.Note.none (.slice none 0 0), .int .i64 1]) (by simp [results, Tryz.results48, go_sem, recV, Lk.Note.none, d1, d2, d3, d4, d5, d6, d7]) rfl ⟨by rw [HQ.out]; exact parsedN_none _ _ _, ?_⟩
        exact (((((((HB9.out.setCell (Nat.le_refl _) _).setCell (Nat.le_refl _) _).setCell (Nat.le_refl _) _).setCell (Nat.le_refl _) _).setCell (Nat.le_refl _) _).setCell (Nat.le_refl _) _).setCell (Nat.le_refl _) _)
      | some p =>
        have HPS : Hid (Lk.numOf x.data.toList = some n) := by rw [hps, HNn.out p hps]; rfl
        clear hps HNn
        have hll : ns.length ≤ 6 := by rw [HLn.out]; omega
        have HO2 := owns_below HO.out HB2.out
        have hw1 : w1.heap.size ≤ w2.heap.size := Nat.le_trans HBr.out.size HB2.out.size
        go_wp2_with (at_builtin; refine wpList_append_own _ rfl _ _ 85 rfl w1.heap.size 3 i0 (.int .i64 0) 1 8 Tryz.underlying85 hi hz0 hz1 hz2 rfl (by decide) _ ns.length (ns.map (Value.int .i64)) rfl (HO2.alloc _) ⟨w2.heap.size, 0, none⟩ 1 1 [.int .i64 n] rfl rfl ?c1 ?c2 ?c3 ?c4 ?c5 ?_)
        case c1 =>
          intro j u hj
          rcases j with _ | j
          · simp at hj; subst hj; simp [go_sem, Addr.add]
          · simp at hj
        case c2 =>
          intro u hu
          simp only [List.mem_cons, List.not_mem_nil, or_false] at hu
          subst hu; rfl
        case c3 => unfold maxLen; omega
        case c4 => omega
        case c5 => simp; omega
        intro v' w3 hown hgrow _
        have HO3 : Hid (w3.ownsRow w1.heap.size 3 1 v' (ns ++ [n]).length ((ns ++ [n]).map (Value.int .i64))) := by
          rw [List.map_append, List.length_append]; exact hown
        have hb3 : Below w1.heap.size w1 w3 := ((HBr.out.trans (HB2.out.mono HBr.out.size)).alloc hw1 _).grown hgrow (by simp; omega) (fun q hq => (HO.out.lt q hq).1)
        have HT3 : Hid (numTo s (k + 1) (ns ++ [n])) := numTo_next HT.out HX.out HPS.out
        clear hown hgrow HO2 HO HT HPS
        go_wp2
        go_roundg (6 - (k + 1))
        case measure => omega
        case rel => exact ⟨k + 1, ns ++ [n], by omega, by omega, by go_num, HO3, HT3, hb3⟩
    · have hk' : k = 6 := by omega
      subst hk'
      clear hk hlt
      have hl6 : ns.length = 6 := HLn.out
      obtain ⟨gb, cap, hs6, hgb, hcells⟩ := owns_six HO.out hl6
      subst hs6
      have HGB : Hid (gb < wr.heap.size) := hgb
      have HCL : Hid (∀ j, j < 6 → wr.cell? ⟨gb, j, none⟩ = some (.int .i64 (ns.getD j 0))) := hcells
      have HGd : Hid (Lk.within (ns.getD 4 0) 0 1 = false → Lk.readNote s.data.toList = (Lk.Note.none, 1)) := fun h => recR_good H7.out HX6.out HT.out h
      have HFn : Hid (Lk.within (ns.getD 4 0) 0 1 = true → Lk.readNote s.data.toList = Lk.fin ns (x6.extract 1 x6.size).data.toList) := HFin.out ns HT.out
      have HWf : Hid (∀ v ∈ ns, (Lit.int .i64 v).wf = true) := numTo_wf HT.out
      have c6 : wr.cell? ⟨W0.heap.size, 6, none⟩ = some (.string x6) := (HBr.out.cell (p := ⟨W0.heap.size, 6, none⟩) HSZ.out).trans (HC.out 6 x6 HX6.out)
      clear hgb hcells HO HT HFin HLn HWL H7 HX6 HC
      match ns, hl6 with
      | [n0, n1, n2, n3, n4, n5], _ =>
      clear hl6
      have HWk : Hid ((Lit.int .i64 n0).wf = true) := HWf.out n0 (by simp)
      have x4 := HCL.out 4 (by omega)
      simp only [List.getD_cons_zero, List.getD_cons_succ] at x4 HGd HFn
      by_cases hn4 : 0 ≤ n4 ∧ n4 ≤ 1
      rotate_left
      · have HQ : Hid (Lk.readNote s.data.toList = (Lk.Note.none, 1)) := HGd.out (by simp only [Lk.within, Bool.and_eq_false_iff, decide_eq_false_iff_not]; omega)
        clear HGd HFn HCL HWf HWk
        by_cases h0 : 0 ≤ n4
        · have h1' : decide (n4 ≤ 1) = false := decide_eq_false (by omega)
          clear hn4
          go_wp2_with (go_at_call 72; go_in)
          refine (badRec_any 1 _).mono ?_
          rintro e w9 ⟨rfl, hb9⟩
          have HB9 : Hid (Below w.heap.size w w9) := HBw.out.trans (hb9.mono HBw.out.size)
          have HN9 : Hid (NoneAt w9 w.heap.size) := HNr.out.below hb9
          clear hb9
          obtain ⟨⟨d0, d1, d2, d3, d4, d5, d6, d7⟩, f0, f1, f2, f3, f4, f5, f6, -⟩ := HN9.out
          go_wp2
          refine bodyPost_ret (v := .tuple #[recV Lk.Note.none (.slice none 0 0), .int .i64 1]) (by simp [results, Tryz.results48, go_sem, recV, Lk.Note.none, d1, d2, d3, d4, d5, d6, d7]) rfl ⟨by rw [HQ.out]; exact parsedN_none _ _ _, ?_⟩
          exact (((((((HB9.out.setCell (Nat.le_refl _) _).setCell (Nat.le_refl _) _).setCell (Nat.le_refl _) _).setCell (Nat.le_refl _) _).setCell (Nat.le_refl _) _).setCell (Nat.le_refl _) _).setCell (Nat.le_refl _) _)
        · have h0' : n4 < 0 := by omega
          clear hn4 h0
          go_wp2_with (go_at_call 72; go_in)
          refine (badRec_any 1 _).mono ?_
          rintro e w9 ⟨rfl, hb9⟩
          have HB9 : Hid (Below w.heap.size w w9) := HBw.out.trans (hb9.mono HBw.out.size)
          have HN9 : Hid (NoneAt w9 w.heap.size) := HNr.out.below hb9
          clear hb9
          obtain ⟨⟨d0, d1, d2, d3, d4, d5, d6, d7⟩, f0, f1, f2, f3, f4, f5, f6, -⟩ := HN9.out
          go_wp2
          refine bodyPost_ret (v := .tuple #[recV Lk.Note.none (.slice none 0 0), .int .i64 1]) (by simp [results, Tryz.results48, go_sem, recV, Lk.Note.none, d1, d2, d3, d4, d5, d6, d7]) rfl ⟨by rw [HQ.out]; exact parsedN_none _ _ _, ?_⟩
          exact (((((((HB9.out.setCell (Nat.le_refl _) _).setCell (Nat.le_refl _) _).setCell (Nat.le_refl _) _).setCell (Nat.le_refl _) _).setCell (Nat.le_refl _) _).setCell (Nat.le_refl _) _).setCell (Nat.le_refl _) _)
      obtain ⟨h0, h1⟩ := hn4
      have HQ0 : Hid (Lk.readNote s.data.toList = Lk.fin [n0, n1, n2, n3, n4, n5] (x6.extract 1 x6.size).data.toList) := HFn.out (within_yes h0 h1)
      have HTs : Hid ((x6.extract 1 x6.size).size ≤ 60000) := by rw [ByteArray.size_extract]; exact Nat.le_trans (Nat.sub_le _ _) (Nat.le_trans (Nat.min_le_right _ _) HS6.out)
      have h61' : (1 : Int) ≤ (x6.size : Int) := by omega
      clear HGd HFn HWf
      go_wp2_with (go_at_call 72; go_in)
      clear x4 c6 h0 h1
      generalize x6.extract 1 x6.size = tx at HQ0 HTs ⊢
      refine (lockRead_new tx HTs.out _ HEr.out).mono ?_
      rintro e w3 ⟨⟨v, rfl, hv, hfr⟩, hb3⟩
      have HB3 : Hid (Below w.heap.size w w3) := HBw.out.trans (hb3.mono HBw.out.size)
      have HN3 : Hid (NoneAt w3 w.heap.size) := HNr.out.below hb3
      have HCL3 : Hid (∀ j, j < 6 → w3.cell? ⟨gb, j, none⟩ = some (.int .i64 ([n0, n1, n2, n3, n4, n5].getD j 0))) := fun j hj => (hb3.cell (p := ⟨gb, j, none⟩) HGB.out).trans (HCL.out j hj)
      obtain ⟨a, c, rfl⟩ := pins_slice hv
      have HFr : Hid (∀ n, FreshS w.heap.size (.slice a n c)) := fun n b o n' c' e => by
        simp only [Value.slice.injEq] at e
        exact Nat.le_trans HBw.out.size (hfr b o _ c (by rw [e.1]))
      clear hfr
      have HV3 : Hid (PinsAt w3 (.slice a (Lk.readAs tx).1.length c) (Lk.readAs tx).1) := hv
      have HG3 : Hid (gb < w3.heap.size) := Nat.lt_of_lt_of_le HGB.out hb3.size
      clear hv hb3 HBw HNr HBr HEr HCL HE HE1
      have F1 : Hid (¬ (Lk.readAs tx).2 = 0 → Lk.readNote s.data.toList = (Lk.Note.none, (Lk.readAs tx).2)) := fun h => by rw [HQ0.out]; exact fin_err h
      have F2 : Hid ((Lk.readAs tx).2 = 0 → ¬ Lk.chkNote (Lk.noteOf [n0, n1, n2, n3, n4, n5] (Lk.readAs tx).1) = 0 → Lk.readNote s.data.toList = (Lk.Note.none, Lk.chkNote (Lk.noteOf [n0, n1, n2, n3, n4, n5] (Lk.readAs tx).1))) := fun h h' => by rw [HQ0.out]; exact fin_chk h h'
      have F3 : Hid ((Lk.readAs tx).2 = 0 → Lk.chkNote (Lk.noteOf [n0, n1, n2, n3, n4, n5] (Lk.readAs tx).1) = 0 → Lk.readNote s.data.toList = (Lk.noteOf [n0, n1, n2, n3, n4, n5] (Lk.readAs tx).1, 0)) := fun h h' => by rw [HQ0.out]; exact fin_ok h h'
      generalize (Lk.readAs tx).1 = l at HV3 F2 F3 ⊢
      generalize (Lk.readAs tx).2 = er at F1 F2 F3 ⊢
      clear HQ0 HTs
      by_cases he : er = 0
      rotate_left
      · have heb : (er != 0) = true := by rw [bne_iff_ne]; exact he
        have HQ : Hid (Lk.readNote s.data.toList = (Lk.Note.none, er)) := F1.out he
        clear F1 F2 F3 he
        go_wp2_with fail
        refine (badRec_any er _).mono ?_
        rintro e w9 ⟨rfl, hb9⟩
        have HB9 : Hid (Below w.heap.size w w9) := HB3.out.trans (hb9.mono HB3.out.size)
        have HN9 : Hid (NoneAt w9 w.heap.size) := HN3.out.below hb9
        clear hb9
        obtain ⟨⟨d0, d1, d2, d3, d4, d5, d6, d7⟩, f0, f1, f2, f3, f4, f5, f6, -⟩ := HN9.out
        go_wp2
        refine bodyPost_ret (v := .tuple #[recV Lk.Note.none (.slice none 0 0), .int .i64 er]) (by simp [results, Tryz.results48, go_sem, recV, Lk.Note.none, d1, d2, d3, d4, d5, d6, d7]) rfl ⟨by rw [HQ.out]; exact parsedN_none _ _ _, ?_⟩
        exact (((((((HB9.out.setCell (Nat.le_refl _) _).setCell (Nat.le_refl _) _).setCell (Nat.le_refl _) _).setCell (Nat.le_refl _) _).setCell (Nat.le_refl _) _).setCell (Nat.le_refl _) _).setCell (Nat.le_refl _) _)
      subst he
      have F2' : Hid (¬ Lk.chkNote (Lk.noteOf [n0, n1, n2, n3, n4, n5] l) = 0 → Lk.readNote s.data.toList = (Lk.Note.none, Lk.chkNote (Lk.noteOf [n0, n1, n2, n3, n4, n5] l))) := F2.out rfl
      have F3' : Hid (Lk.chkNote (Lk.noteOf [n0, n1, n2, n3, n4, n5] l) = 0 → Lk.readNote s.data.toList = (Lk.noteOf [n0, n1, n2, n3, n4, n5] l, 0)) := F3.out rfl
      clear F1 F2 F3
      go_wp2_with fail
      have x0 := HCL3.out 0 (by omega)
      have x1 := HCL3.out 1 (by omega)
      have x2 := HCL3.out 2 (by omega)
      have x3 := HCL3.out 3 (by omega)
      have x4 := HCL3.out 4 (by omega)
      have x5 := HCL3.out 5 (by omega)
      simp only [List.getD_cons_zero, List.getD_cons_succ] at x0 x1 x2 x3 x4 x5
      clear HCL3
      have hgb3 : gb < w3.heap.size := HG3.out
      go_region_held3 (fun w' => w'.cell? ⟨gb, 0, none⟩ = some (.int .i64 n0) ∧ w'.cell? ⟨gb, 1, none⟩ = some (.int .i64 n1) ∧ w'.cell? ⟨gb, 2, none⟩ = some (.int .i64 n2) ∧ w'.cell? ⟨gb, 3, none⟩ = some (.int .i64 n3) ∧ w'.cell? ⟨gb, 4, none⟩ = some (.int .i64 n4) ∧ w'.cell? ⟨gb, 5, none⟩ = some (.int .i64 n5)) (go_keep) (fail)
      clear x0 x1 x2 x3 x4 x5 hgb3
      have hbB : Below w3.heap.size w3 (w3.alloc (.cells #[.int .i64 n0, .int .i64 n1, .int .i64 n2, .int .i64 n3, .bool (n4 == 1), .int .i64 n5, .slice a l.length c] 29)).drew := ((Below.refl _ _).alloc (Nat.le_refl _) _).drew
      have HB4 : Hid (Below w.heap.size w (w3.alloc (.cells #[.int .i64 n0, .int .i64 n1, .int .i64 n2, .int .i64 n3, .bool (n4 == 1), .int .i64 n5, .slice a l.length c] 29)).drew) := HB3.out.trans (hbB.mono HB3.out.size)
      have HN4 : Hid (NoneAt (w3.alloc (.cells #[.int .i64 n0, .int .i64 n1, .int .i64 n2, .int .i64 n3, .bool (n4 == 1), .int .i64 n5, .slice a l.length c] 29)).drew w.heap.size) := HN3.out.below hbB
      have HV4 : Hid (PinsAt (w3.alloc (.cells #[.int .i64 n0, .int .i64 n1, .int .i64 n2, .int .i64 n3, .bool (n4 == 1), .int .i64 n5, .slice a l.length c] 29)).drew (.slice a l.length c) l) := HV3.out.below hbB
      have HR4 : Hid (RecAt (w3.alloc (.cells #[.int .i64 n0, .int .i64 n1, .int .i64 n2, .int .i64 n3, .bool (n4 == 1), .int .i64 n5, .slice a l.length c] 29)).drew w3.heap.size n0 n1 n2 n3 (n4 == 1) n5 (.slice a l.length c)) := (recAt_alloc w3 n0 n1 n2 n3 (n4 == 1) n5 _).below (Below.refl _ _).drew
      have HG : Hid (w.heap.size < w3.heap.size) := HN3.out.1.1
      clear hbB HB3 HN3 HV3
      generalize (w3.alloc (.cells #[.int .i64 n0, .int .i64 n1, .int .i64 n2, .int .i64 n3, .bool (n4 == 1), .int .i64 n5, .slice a l.length c] 29)).drew = W4 at HB4 HN4 HV4 HR4 ⊢
      generalize w3.heap.size = g3 at HR4 HG ⊢
      obtain ⟨c0, c1, c2, c3, c4, c5, c6, c7⟩ := HR4.out
      go_wp2_with fail
      clear c0 c1 c2 c3 c4 c5 c6 c7
      refine (recR_any (Lk.noteOf [n0, n1, n2, n3, n4, n5] l) _ _ HV4.out HWk.out).mono ?_
      rintro e w5 ⟨rfl, hb5⟩
      have HB5 : Hid (Below w.heap.size w w5) := HB4.out.trans (hb5.mono HB4.out.size)
      have HN5 : Hid (NoneAt w5 w.heap.size) := HN4.out.below hb5
      have HV5 : Hid (PinsAt w5 (.slice a l.length c) l) := HV4.out.below hb5
      have HR5 : Hid (RecAt w5 g3 n0 n1 n2 n3 (n4 == 1) n5 (.slice a l.length c)) := HR4.out.below hb5
      clear hb5 HB4 HN4 HV4 HR4
      have HLK : Hid (Lk.chkNote (Lk.noteOf [n0, n1, n2, n3, n4, n5] l) = 0 → Lk.chk l = 0) := fun h => note_lock h
      generalize Lk.chkNote (Lk.noteOf [n0, n1, n2, n3, n4, n5] l) = CN at F2' F3' HLK ⊢
      by_cases hc : CN = 0
      · have HLC : Hid (Lk.chk l = 0) := HLK.out hc
        have HQ : Hid (Lk.readNote s.data.toList = (Lk.noteOf [n0, n1, n2, n3, n4, n5] l, 0)) := F3'.out hc
        subst hc
        clear F2' F3' HLK
        have HNE : Hid (∀ o' c', Value.slice a l.length c = .slice (some ⟨w.heap.size, o', none⟩) l.length c' → l = []) := pins_apart HN5.out.2.2.2.2.2.2.2.2 HV5.out HLC.out
        obtain ⟨⟨d0, d1, d2, d3, d4, d5, d6, d7⟩, f0, f1, f2, f3, f4, f5, f6, -⟩ := HN5.out
        obtain ⟨c0, c1, c2, c3, c4, c5, c6, c7⟩ := HR5.out
        have HBS : Hid (∀ y0 y1 y2 y3 y4 y5 y6 : Value, Below w.heap.size w (((((((w5.setCell ⟨w.heap.size, 0, none⟩ y0).setCell ⟨w.heap.size, 1, none⟩ y1).setCell ⟨w.heap.size, 2, none⟩ y2).setCell ⟨w.heap.size, 3, none⟩ y3).setCell ⟨w.heap.size, 4, none⟩ y4).setCell ⟨w.heap.size, 5, none⟩ y5).setCell ⟨w.heap.size, 6, none⟩ y6)) := fun y0 y1 y2 y3 y4 y5 y6 => by
          exact (((((((HB5.out.setCell (Nat.le_refl _) _).setCell (Nat.le_refl _) _).setCell (Nat.le_refl _) _).setCell (Nat.le_refl _) _).setCell (Nat.le_refl _) _).setCell (Nat.le_refl _) _).setCell (Nat.le_refl _) _)
        go_wp2
        refine bodyPost_ret (v := .tuple #[.agg #[.int .i64 n0, .int .i64 n1, .int .i64 n2, .int .i64 n3, .bool (n4 == 1), .int .i64 n5, .slice a l.length c], .int .i64 0]) (by simp [results, Tryz.results48, go_sem, d1, d2, d3, d4, d5, d6, d7]) rfl ⟨?_, HBS.out _ _ _ _ _ _ _⟩
        rw [HQ.out]
        refine ⟨.slice a l.length c, rfl, ?_, HFr.out _⟩
        have hne := HNE.out
        exact pins_set (pins_set (pins_set (pins_set (pins_set (pins_set (pins_set HV5.out hne) hne) hne) hne) hne) hne) hne
      · have hcb : (CN != 0) = true := by rw [bne_iff_ne]; exact hc
        have HQ : Hid (Lk.readNote s.data.toList = (Lk.Note.none, CN)) := F2'.out hc
        clear F2' F3' hc HLK
        go_wp2_with fail
        refine (badRec_any CN _).mono ?_
        rintro e w9 ⟨rfl, hb9⟩
        have HB9 : Hid (Below w.heap.size w w9) := HB5.out.trans (hb9.mono HB5.out.size)
        have HN9 : Hid (NoneAt w9 w.heap.size) := HN5.out.below hb9
        clear hb9
        obtain ⟨⟨d0, d1, d2, d3, d4, d5, d6, d7⟩, f0, f1, f2, f3, f4, f5, f6, -⟩ := HN9.out
        go_wp2
        refine bodyPost_ret (v := .tuple #[recV Lk.Note.none (.slice none 0 0), .int .i64 CN]) (by simp [results, Tryz.results48, go_sem, recV, Lk.Note.none, d1, d2, d3, d4, d5, d6, d7]) rfl ⟨by rw [HQ.out]; exact parsedN_none _ _ _, ?_⟩
        exact (((((((HB9.out.setCell (Nat.le_refl _) _).setCell (Nat.le_refl _) _).setCell (Nat.le_refl _) _).setCell (Nat.le_refl _) _).setCell (Nat.le_refl _) _).setCell (Nat.le_refl _) _).setCell (Nat.le_refl _) _)
theorem recRead_any (s : ByteArray) (hs : s.size ≤ 60000) (w : World) (hE : Env w) :
    Calls Tryz.prog 48 #[.string s] w fun e w' => parsed w' (Lk.readNote s.data.toList) e ∧ Below w.heap.size w w' := by
  refine (recRead_new s hs w hE).mono ?_
  rintro e w' ⟨h, hb⟩
  exact ⟨h.old, hb⟩
end Go.Proofs.YtlnbcgjahjjpfacGreatDoor
