/- The contracts of whole.each at releases, and of whole.Leader. -/
import Derived.Test.YtpenkhehceglfaaGreatDoorMN
namespace Go.Proofs.YtpenkhehceglfaaGreatDoor
open Go.RowKit
/-- what each answers of releases: a row of its own, and pins of its own in no block of that -/
def eaC (w : World) (base : Nat) (ps : List ((Int × List (Int × Int)) × Value)) (g4 k4 : Nat) (qs : List ((Int × List (Int × Int)) × Value)) : Prop :=
  base ≤ g4 ∧ ps.length ≤ k4 ∧ Row w g4 (flatL qs) ∧ Cap w g4 24 (k4 * 2) ∧ k4 ≤ maxLen ∧ qs.map Prod.fst = ps.map Prod.fst ∧ ∀ q ∈ qs, Keep (fun x => x < base ∨ x = g4) (fun w => PinsAt w q.2 q.1.2) w
/-- releases first, then what is known -/
theorem leC6_rk {w2 w3 : World} {base base2 g4 k4 g5 k5 : Nat} {ps qs : List ((Int × List (Int × Int)) × Value)} {ks : List Ld.Known} {nw g nx : Int} {bk : Bool} (hE : eaC w2 base2 ps g4 k4 qs) (hb : Below w2.heap.size w2 w3) (h5 : w2.heap.size ≤ g5) (hk : ks.length ≤ k5) (hR : Row w3 g5 (flatK ks)) (h2 : base ≤ base2) : leC6 w3 base ⟨ps.map Prod.fst, nw, g, bk, ks, nx⟩ g4 k4 g5 k5 qs := by
  obtain ⟨f1, f2, f3, f4, f5, f6, f7⟩ := hE
  have := f3.1
  refine ⟨by omega, by omega, by omega, by simpa using f2, hk, f3.below hb, f4.below hb, f5, f6, (fun q hq => Keep.grow (f7 q hq) hb (fun x hx => ?_)), hR⟩
  rcases hx with h | h | h
  · exact .inl (.inl (by omega))
  · exact .inl (.inr h)
  · exact .inr (by omega)
/-- what is known first, then releases -/
theorem leC6_kr {w2 w3 : World} {base g4 k4 g5 k5 : Nat} {ps qs : List ((Int × List (Int × Int)) × Value)} {ks : List Ld.Known} {nw g nx : Int} {bk : Bool} (hE : eaC w2 w3.heap.size ps g4 k4 qs) (hb : Below w3.heap.size w3 w2) (h5 : base ≤ g5) (hk : ks.length ≤ k5) (hR : Row w3 g5 (flatK ks)) : leC6 w2 base ⟨ps.map Prod.fst, nw, g, bk, ks, nx⟩ g4 k4 g5 k5 qs := by
  obtain ⟨f1, f2, f3, f4, f5, f6, f7⟩ := hE
  have := hR.1
  refine ⟨by omega, by omega, by omega, by simpa using f2, hk, f3, f4, f5, f6, (fun q hq => Keep.sub (f7 q hq) (fun x hx => ?_)), hR.below hb⟩
  rcases hx with h | h | h
  · exact .inl (by omega)
  · exact .inr h
  · exact .inl (by omega)
theorem rels_few {R : List Rk.Rl} : ∀ {rs : List (Int × List (Int × Int))} {k : Int}, Ld.chkRels R k rs = 0 → ∀ p ∈ rs, p.2.length ≤ 12
  | [], _, _, p, hp => by cases hp
  | q :: t, k, h, p, hp => by
    rw [Ld.chkRels] at h
    by_cases h1 : Ld.ruled q.2 R = 0
    rotate_left
    · rw [if_neg h1] at h; exact absurd h h1
    rw [if_pos h1] at h
    by_cases h2 : q.1 = k
    rotate_left
    · rw [if_neg h2] at h; exact absurd h (by decide)
    rw [if_pos h2] at h
    rcases List.mem_cons.1 hp with rfl | hp
    · unfold Ld.ruled at h1
      by_cases h3 : Rk.brokenErr p.2 R = 0
      · exact chk_len (Rk.brokenErr_ok h3).1
      · rw [if_neg h3] at h1; exact absurd h1 h3
    · exact rels_few h p hp
theorem eg_wRel : ∀ args w, (callFunc 24 args).run Tryz.prog w = .ok (.enter 24 args) w := fun _ _ => by simp [go_sem]
set_option maxHeartbeats 8000000 in
set_option maxRecDepth 100000 in
theorem eachR_any (ps : List ((Int × List (Int × Int)) × Value)) (Y : Value) (w : World) (hY : RelsAt w Y ps) (h41 : 1 ≤ ps.length) (h42 : ps.length ≤ 6) (hpl : ∀ q ∈ ps, q.1.2.length ≤ 12) :
    Calls Tryz.prog 70 #[Y, .func (.func 24) #[] #[]] w fun e w' => (∃ g4 k4 qs, e = .returned (.slice (some ⟨g4, 0, none⟩) ps.length k4) ∧ eaC w' w.heap.size ps g4 k4 qs) ∧ Below w.heap.size w w' := by
  obtain ⟨a4, c4, rfl⟩ := rels_slice hY
  have HPN : Hid (∀ q ∈ ps, PinsAt w q.2 q.1.2) := rels_pins hY
  have HPL : Hid (∀ q ∈ ps, q.1.2.length ≤ 12) := hpl
  have eg := eg_wRel
  have H1 := cloneRl_any _ ps w hY h41 (by omega)
  clear hY hpl
  go_enter Tryz.func70, Tryz.ntmps70
  go_wp2_with fail
  refine H1.mono ?_
  rintro e w1 ⟨⟨g4, k4, rfl, hg4, hk4, hR4, hcp, hkm⟩, hb1⟩
  have HR4 : Hid (Row w1 g4 (flatL ps)) := hR4
  have HCP : Hid (Cap w1 g4 24 (k4 * 2)) := hcp
  have HB : Hid (Below w.heap.size w w1) := hb1
  have hs4 : g4 < w1.heap.size := hR4.1
  generalize hNs : w1.heap.size = NS at hs4
  have HNs : Hid (w1.heap.size = NS) := hNs
  have HWN : Hid (w.heap.size ≤ NS) := by show _ ≤ _; rw [← hNs]; exact hb1.size
  clear H1 hb1 hR4 hcp hNs
  go_wp2_with fail
  go_loopg [11] ps.length (fun g' s11 wr => ∃ (k : Nat) (qs : List ((Int × List (Int × Int)) × Value)), k ≤ ps.length ∧ ps.length - k ≤ g' ∧ s11 = .int .i64 k ∧ qs.length = k ∧ Hid (NS ≤ wr.heap.size) ∧ Hid (qs.map Prod.fst = (ps.take k).map Prod.fst) ∧ Hid (∀ q ∈ qs, Keep (fun x => x < NS) (fun w => PinsAt w q.2 q.1.2) wr) ∧ Hid (Row wr g4 (flatL (qs ++ ps.drop k))) ∧ Hid (Below w.heap.size w wr) ∧ Hid (Cap wr g4 24 (k4 * 2)))
  case atStart => exact ⟨0, [], Nat.zero_le _, by omega, rfl, rfl, (by show NS ≤ _; rw [HNs.out]; exact Nat.le_refl _), rfl, (fun q hq => by cases hq), HR4, HB, HCP⟩
  case round =>
    obtain ⟨k, qs, hk, hg, rfl, hq, HNS, HQ, HKP, HRk, HBk, HCPk⟩ := hrel
    clear HR4 HB HCP HNs
    by_cases hlt : k < ps.length
    · have hat := qs_at hq hlt
      have g1 := HRk.out.2.2 (k * 2 + 0) _ ((flatL_at _ k _ hat 0 (by omega)).trans rfl)
      have g2 := HRk.out.2.2 (k * 2 + 1) _ ((flatL_at _ k _ hat 1 (by omega)).trans rfl)
      have hmem : ps[k] ∈ ps := List.getElem_mem hlt
      have hP := (HPN.out _ hmem).below HBk.out
      have hl12 := HPL.out _ hmem
      have HT : Hid ((ps.take (k + 1)).map Prod.fst = (ps.take k).map Prod.fst ++ [ps[k].1]) := by
        show _ = _
        rw [List.take_succ_eq_append_getElem hlt, List.map_append]; rfl
      have HST : Hid (∀ p, (qs ++ ps.drop k).set k p = (qs ++ [p]) ++ ps.drop (k + 1)) := fun p => qs_step hq hlt p
      have hlL : (qs ++ ps.drop k).length = ps.length := by simp; omega
      have HLL : Hid ((flatL (qs ++ ps.drop k)).length = ps.length * 2) := by
        show _ = _
        rw [flatL_len, hlL]
      have HFS : Hid (∀ p, ((flatL (qs ++ ps.drop k)).set (k * 2) (.int .i64 p.1.1)).set (k * 2 + 1) p.2 = flatL ((qs ++ [p]) ++ ps.drop (k + 1))) := fun p => by
        show _ = _
        rw [flatL_set p _ k (by omega), HST.out p]
      clear hat hmem hlL
      generalize ps[k] = p at g1 g2 hP hl12 HT
      obtain ⟨⟨i, l⟩, v⟩ := p
      simp only [Nat.add_zero] at g1 g2 hP hl12 HT
      obtain ⟨a, c, rfl⟩ := pins_slice hP
      have H3 : Hid (∀ w', Below wr.heap.size wr w' → Calls Tryz.prog 24 #[.agg #[.int .i64 i, .slice a l.length c]] w' fun e w'' => (∃ y, e = .returned (.agg #[.int .i64 i, y]) ∧ PinsNew w'' w'.heap.size y l) ∧ Below w'.heap.size w' w'') := fun w' hb => wRel_any i _ l w' (hP.below hb) hl12
      clear hP hl12
      have hklt : (k : Int) < ps.length := by omega
      have hg4w : g4 < wr.heap.size := HRk.out.1
      have HX0 : Hid (Below wr.heap.size wr (wr.alloc (.cells #[.int .i64 i, .slice a l.length c] 24))) := (box1 wr _ _).1
      go_wp2_with fail
      refine (H3.out _ HX0.out).mono ?_
      rintro e w2 ⟨⟨y, rfl, hy⟩, hb2⟩
      obtain ⟨ya, yc, rfl⟩ := pins_slice hy.pins
      have hbx := HX0.out.trans (hb2.mono HX0.out.size)
      have HBX : Hid (Below wr.heap.size wr w2) := hbx
      have HYk : Hid (Keep (fun x => x < NS) (fun w => PinsAt w (.slice ya l.length yc) l) w2) := Keep.sub (pinsNew_keep hy) (fun b hb => Nat.lt_of_lt_of_le hb (Nat.le_trans HNS.out HX0.out.size))
      have hR2 := HRk.out.below hbx
      have q1 := (hbx.cell (p := ⟨g4, k * 2, none⟩) hg4w).trans g1
      have q2 := (hbx.cell (p := ⟨g4, k * 2 + 1, none⟩) hg4w).trans g2
      have qf1 := hR2.2.1 (k * 2)
      have qf2 := hR2.2.1 (k * 2 + 1)
      clear hy hb2 hbx hR2 H3 HX0
      go_wp2
      go_roundg (ps.length - (k + 1))
      case measure => omega
      case rel =>
        refine ⟨k + 1, qs ++ [((i, l), .slice ya l.length yc)], by omega, by omega, by go_num, by simp [hq], ?_, ?_, ?_, ?_, ?_, ?_⟩
        · show NS ≤ _
          rw [World.size_setCell, World.size_setCell]; exact Nat.le_trans HNS.out HBX.out.size
        · show _ = _
          rw [HT.out, List.map_append, HQ.out]; rfl
        · intro q hqm
          rcases List.mem_append.1 hqm with h | h
          · exact (((HKP.out q h).below HBX.out).set (a := ⟨g4, k * 2, none⟩) hs4 _).set (a := ⟨g4, k * 2 + 1, none⟩) hs4 _
          · simp only [List.mem_cons, List.not_mem_nil, or_false] at h
            subst h
            exact (HYk.out.set (a := ⟨g4, k * 2, none⟩) hs4 _).set (a := ⟨g4, k * 2 + 1, none⟩) hs4 _
        · have := ((HRk.out.below HBX.out).put (i := k * 2) (by rw [HLL.out]; omega) (.int .i64 i)).put (i := k * 2 + 1) (by rw [List.length_set, HLL.out]; omega) (.slice ya l.length yc)
          rw [← HFS.out ((i, l), .slice ya l.length yc)]
          exact this
        · exact ((HBk.out.trans (HBX.out.mono HBk.out.size)).setCell hg4 _).setCell hg4 _
        · exact ((HCPk.out.below HBX.out).set _).set _
    · have hk' : k = ps.length := by omega
      subst hk'
      have HQ' : Hid (qs.map Prod.fst = ps.map Prod.fst) := by
        have := HQ.out
        rw [List.take_of_length_le (Nat.le_refl _)] at this
        exact this
      have HR4' : Hid (Row wr g4 (flatL qs)) := by
        have := HRk.out
        rw [List.drop_length, List.append_nil] at this
        exact this
      clear hk hlt HQ HRk
      go_wp2
      go_ret
      refine ⟨⟨g4, k4, qs, rfl, hg4, hk4, HR4'.out, HCPk.out, hkm, HQ'.out, fun q hqm => Keep.sub (HKP.out q hqm) (fun b hb => ?_)⟩, HBk.out⟩
      rcases hb with h | h
      · exact Nat.lt_of_lt_of_le h HWN.out
      · rw [h]; exact hs4
set_option maxHeartbeats 16000000 in
set_option maxRecDepth 100000 in
theorem copyL_any (nw g nx : Int) (bk : Bool) (ps : List ((Int × List (Int × Int)) × Value)) (ks : List Ld.Known) (Y Z : Value) (w : World) (hY : RelsAt w Y ps) (hZ : KnowsAt w Z ks) (h41 : 1 ≤ ps.length) (h42 : ps.length ≤ 6) (h51 : 1 ≤ ks.length) (h52 : ks.length ≤ 6) (hpl : ∀ q ∈ ps, q.1.2.length ≤ 12) :
    Calls Tryz.prog 38 #[.agg #[Y, .int .i64 nw, .int .i64 g, .bool bk, Z, .int .i64 nx]] w fun e w' => (∃ g4 k4 g5 k5 qs, e = .returned (.agg #[.slice (some ⟨g4, 0, none⟩) ps.length k4, .int .i64 nw, .int .i64 g, .bool bk, .slice (some ⟨g5, 0, none⟩) ks.length k5, .int .i64 nx]) ∧ leC6 w' w.heap.size ⟨ps.map Prod.fst, nw, g, bk, ks, nx⟩ g4 k4 g5 k5 qs) ∧ Below w.heap.size w w' := by
  obtain ⟨a4, c4, rfl⟩ := rels_slice hY
  obtain ⟨a5, c5, rfl⟩ := knows_slice hZ
  obtain ⟨hB0, hK0, hZ0⟩ := box2 w #[.slice a4 ps.length c4, .int .i64 nw, .int .i64 g, .bool bk, .slice a5 ks.length c5, .int .i64 nx] #[.slice none 0 0, .int .i64 0, .int .i64 0, .bool false, .slice none 0 0, .int .i64 0] 49 49
  have hY' := hY.below hB0
  have hZ' := hZ.below hB0
  go_enter Tryz.func38, Tryz.ntmps38
  go_wp2_with fail
  generalize ((w.alloc (.cells #[.slice a4 ps.length c4, .int .i64 nw, .int .i64 g, .bool bk, .slice a5 ks.length c5, .int .i64 nx] 49)).alloc (.cells #[.slice none 0 0, .int .i64 0, .int .i64 0, .bool false, .slice none 0 0, .int .i64 0] 49)) = V at hB0 hK0 hZ0 hY' hZ' ⊢
  have H1 : Hid (∀ w', Below V.heap.size V w' → Calls Tryz.prog 70 #[.slice a4 ps.length c4, .func (.func 24) #[] #[]] w' fun e w'' => (∃ g4 k4 qs, e = .returned (.slice (some ⟨g4, 0, none⟩) ps.length k4) ∧ eaC w'' w'.heap.size ps g4 k4 qs) ∧ Below w'.heap.size w' w'') := fun w' hb => eachR_any ps _ w' (hY'.below hb) h41 h42 hpl
  have H2 : Hid (∀ w', Below V.heap.size V w' → Calls Tryz.prog 71 #[.slice a5 ks.length c5] w' fun e w'' => (∃ g c, e = .returned (.slice (some ⟨g, 0, none⟩) ks.length c) ∧ w'.heap.size ≤ g ∧ ks.length ≤ c ∧ Row w'' g (flatK ks)) ∧ Below w'.heap.size w' w'') := fun w' hb => cloneK_any _ ks w' (hZ'.below hb) h51 (by omega)
  have HB0 : Hid (Below w.heap.size w V) := hB0
  have HK0 : Hid (Blk V w.heap.size #[.slice a4 ps.length c4, .int .i64 nw, .int .i64 g, .bool bk, .slice a5 ks.length c5, .int .i64 nx] 49) := hK0
  have HZ0 : Hid (Blk V (w.heap.size + 1) #[.slice none 0 0, .int .i64 0, .int .i64 0, .bool false, .slice none 0 0, .int .i64 0] 49) := hZ0
  clear hB0 hK0 hZ0 hY hZ hpl hY' hZ'
  have hsV : w.heap.size + 1 < V.heap.size := HZ0.out.lt
  go_cut [] from 3 (fun wx => ∃ (g4 k4 g5 k5 : Nat) (qs : List ((Int × List (Int × Int)) × Value)), Hid (leC6 wx V.heap.size ⟨ps.map Prod.fst, nw, g, bk, ks, nx⟩ g4 k4 g5 k5 qs) ∧ Hid (Blk wx w.heap.size #[.slice (some ⟨g4, 0, none⟩) ps.length k4, .int .i64 nw, .int .i64 g, .bool bk, .slice (some ⟨g5, 0, none⟩) ks.length k5, .int .i64 nx] 49) ∧ Hid (Blk wx (w.heap.size + 1) #[.slice none 0 0, .int .i64 0, .int .i64 0, .bool false, .slice none 0 0, .int .i64 0] 49) ∧ Hid (Below w.heap.size w wx))
  case first =>
    have HB1d : Hid (Below V.heap.size V V.drew) := (Below.refl _ V).drew
    have hk1 := (show Blk V.drew w.heap.size _ _ from HK0.out)
    have kc0 := hk1.cell 0
    have kc1 := hk1.cell 1
    have kc2 := hk1.cell 2
    have kc3 := hk1.cell 3
    have kc4 := hk1.cell 4
    have kc5 := hk1.cell 5
    simp only [List.getElem?_toArray, List.getElem?_cons_zero, List.getElem?_cons_succ] at kc0 kc1 kc2 kc3 kc4 kc5
    have hlt1 : w.heap.size < V.heap.size := HK0.out.lt
    clear hk1
    go_wp2_with fail
    go_region_with (first | (go_at_call 70; refine (H1.out _ (by first | exact HB1d.out | exact HB2.out | exact HB3.out)).mono ?_; rintro e w2 ⟨⟨g4, k4, qs, rfl, hE⟩, hb⟩; have HC2 : Hid (Below _ _ w2) := hb; have HB2 : Hid (Below V.heap.size V w2) := (by first | exact HB1d.out.trans (hb.mono HB1d.out.size) | exact HB2.out.trans (hb.mono HB2.out.size) | exact HB3.out.trans (hb.mono HB3.out.size)); have HE : Hid (eaC w2 _ ps g4 k4 qs) := hE; have hG4 : V.heap.size ≤ g4 := Nat.le_trans (by first | exact HB1d.out.size | exact HB3.out.size) hE.1; clear hE; have hk2 := HK0.out.below HB2.out; have kd0 := hk2.cell 0; have kd1 := hk2.cell 1; have kd2 := hk2.cell 2; have kd3 := hk2.cell 3; have kd4 := hk2.cell 4; have kd5 := hk2.cell 5; simp only [List.getElem?_toArray, List.getElem?_cons_zero, List.getElem?_cons_succ] at kd0 kd1 kd2 kd3 kd4 kd5; have kdf0 := hk2.free 0; have kdf1 := hk2.free 1; have kdf2 := hk2.free 2; have kdf3 := hk2.free 3; have kdf4 := hk2.free 4; have kdf5 := hk2.free 5; have hlt2 : w.heap.size < w2.heap.size := hk2.lt; clear hk2; clear hb) | (go_at_call 71; refine (H2.out _ (by first | exact HB1d.out | exact HB2.out | exact HB3.out)).mono ?_; rintro e w3 ⟨⟨g5, k5, rfl, hg5, hk5, hR5⟩, hb⟩; have HC3 : Hid (Below _ _ w3) := hb; have HB3 : Hid (Below V.heap.size V w3) := (by first | exact HB1d.out.trans (hb.mono HB1d.out.size) | exact HB2.out.trans (hb.mono HB2.out.size) | exact HB3.out.trans (hb.mono HB3.out.size)); have HR5 : Hid (Row w3 g5 (flatK ks)) := hR5; have HG5 : Hid (_ ≤ g5) := hg5; have hG5 : V.heap.size ≤ g5 := Nat.le_trans (by first | exact HB1d.out.size | exact HB2.out.size) hg5; clear hR5 hg5; have hk3 := HK0.out.below HB3.out; have ke0 := hk3.cell 0; have ke1 := hk3.cell 1; have ke2 := hk3.cell 2; have ke3 := hk3.cell 3; have ke4 := hk3.cell 4; have ke5 := hk3.cell 5; simp only [List.getElem?_toArray, List.getElem?_cons_zero, List.getElem?_cons_succ] at ke0 ke1 ke2 ke3 ke4 ke5; have kef0 := hk3.free 0; have kef1 := hk3.free 1; have kef2 := hk3.free 2; have kef3 := hk3.free 3; have kef4 := hk3.free 4; have kef5 := hk3.free 5; have hlt3 : w.heap.size < w3.heap.size := hk3.lt; clear hk3; clear hb))
    all_goals
      go_wp2_with fail
      go_meet
      case rel =>
        refine ⟨g4, k4, g5, k5, qs, ?_, ?_, ?_, ?_⟩
        · first
            | exact ((leC6_rk HE.out HC3.out HG5.out hk5 HR5.out (by first | exact Nat.le_refl _ | exact HB1d.out.size)).set hlt1 _).set hlt1 _
            | exact ((leC6_kr HE.out HC2.out hG5 hk5 HR5.out).set hlt1 _).set hlt1 _
        · first | exact ((HK0.out.below HB3.out).put 0 _).put 4 _ | exact ((HK0.out.below HB2.out).put 0 _).put 4 _
        · first | exact ((HZ0.out.below HB3.out).off (by omega)).off (by omega) | exact ((HZ0.out.below HB2.out).off (by omega)).off (by omega)
        · first | exact ((HB0.out.trans (HB3.out.mono HB0.out.size)).setCell (Nat.le_refl _) _).setCell (Nat.le_refl _) _ | exact ((HB0.out.trans (HB2.out.mono HB0.out.size)).setCell (Nat.le_refl _) _).setCell (Nat.le_refl _) _
  case rest =>
    obtain ⟨g4, k4, g5, k5, qs, HE, HK, HZ, HB⟩ := hcut
    have HBs : Hid (w.heap.size ≤ V.heap.size) := HB0.out.size
    clear H1 H2 HB0 HK0 HZ0
    have kl0 := HK.out.cell 0
    have kl1 := HK.out.cell 1
    have kl2 := HK.out.cell 2
    have kl3 := HK.out.cell 3
    have kl4 := HK.out.cell 4
    have kl5 := HK.out.cell 5
    simp only [List.getElem?_toArray, List.getElem?_cons_zero, List.getElem?_cons_succ] at kl0 kl1 kl2 kl3 kl4 kl5
    have kz0 := HZ.out.cell 0
    have kz1 := HZ.out.cell 1
    have kz2 := HZ.out.cell 2
    have kz3 := HZ.out.cell 3
    have kz4 := HZ.out.cell 4
    have kz5 := HZ.out.cell 5
    simp only [List.getElem?_toArray, List.getElem?_cons_zero, List.getElem?_cons_succ] at kz0 kz1 kz2 kz3 kz4 kz5
    have kzf0 := HZ.out.free 0
    have kzf1 := HZ.out.free 1
    have kzf2 := HZ.out.free 2
    have kzf3 := HZ.out.free 3
    have kzf4 := HZ.out.free 4
    have kzf5 := HZ.out.free 5
    have hlz : w.heap.size + 1 < wc.heap.size := HZ.out.lt
    go_wp2
    refine bodyPost_ret (v := .agg #[.slice (some ⟨g4, 0, none⟩) ps.length k4, .int .i64 nw, .int .i64 g, .bool bk, .slice (some ⟨g5, 0, none⟩) ks.length k5, .int .i64 nx]) (by simp [results, Tryz.results38, go_sem, kz0, kz1, kz2, kz3, kz4, kz5]) rfl ⟨⟨g4, k4, g5, k5, qs, rfl, ?_⟩, ?_⟩
    · exact ((((((HE.out.set hsV _).set hsV _).set hsV _).set hsV _).set hsV _).set hsV _).mono HBs.out
    · exact (((((HB.out.setCell (Nat.le_succ _) _).setCell (Nat.le_succ _) _).setCell (Nat.le_succ _) _).setCell (Nat.le_succ _) _).setCell (Nat.le_succ _) _).setCell (Nat.le_succ _) _
end Go.Proofs.YtpenkhehceglfaaGreatDoor
