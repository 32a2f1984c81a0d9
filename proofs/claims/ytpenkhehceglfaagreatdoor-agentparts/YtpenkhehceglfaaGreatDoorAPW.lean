/- The walk of AgentParts: records replayed in two parts are as replayed in one; and from a disk as from a list. -/
import Derived.Test.YtpenkhehceglfaaGreatDoorAGo
import Derived.Test.YtpenkhehceglfaaGreatDoorASm
import Derived.Test.YtpenkhehceglfaaGreatDoorAPD
import Derived.Test.YtpenkhehceglfaaGreatDoorN8
import Derived.Test.YtpenkhehceglfaaGreatDoorAt
namespace Go.Proofs.YtpenkhehceglfaaGreatDoor
open Go.RowKit
theorem recs_takeP {w : World} {p : Option Addr} {n c : Nat} {ps : List (Lk.Note × Value)} (h : RecsAt w (.slice p n c) ps) (k : Nat) (hk : k ≤ ps.length) : RecsAt w (.slice p k c) (ps.take k) := by
  obtain ⟨hl, p', c', e, hc, h1, h2, h3, h4⟩ := h
  simp only [Value.slice.injEq] at e
  obtain ⟨rfl, rfl, rfl⟩ := e
  have hlen : (ps.take k).length = k := by rw [List.length_take]; omega
  refine ⟨by omega, p, c, by rw [hlen], by omega, fun e => ⟨(h1 e).1, by have := (h1 e).2; omega⟩, fun ad ha h0 => h2 ad ha (by omega), fun ad ha j u hu => h3 ad ha j u ?_, fun q hq => h4 q (List.mem_of_mem_take hq)⟩
  have e : flatR ps = flatR (ps.take k) ++ flatR (ps.drop k) := by rw [← flatR_append, List.take_append_drop]
  have hj := (List.getElem?_eq_some_iff.1 hu).1
  rw [e, List.getElem?_append_left hj]
  exact hu
theorem recsameP (w : World) (va vb : Value) (ps qs : List (Lk.Note × Value)) (h1 : RecsAt w va ps) (h2 : RecsAt w vb qs) (he : ps.map Prod.fst = qs.map Prod.fst) :
    Calls Tryz.prog 11 #[va, vb, .func (.func 12) #[] #[]] w fun e w' => e = .returned (.bool true) ∧ Below w.heap.size w w' := by
  have := equalF_any 12 (fun _ _ => by simp [go_sem]) Lk.sameNote (fun r q v u w h h' => same_any r q v u w h h') va vb ps qs w h1 h2
  rwa [he, all2_self Lk.sameNote Lk.sameNote_self] at this
theorem rep_allok : ∀ (rs : List Lk.Note) (a : Ag.Agent), (Ag.replayFrom a rs).2 = 0 → Lk.allOk rs := by
  intro rs
  induction rs with
  | nil => intro a _ r hr; cases hr
  | cons r t ih =>
    intro a h
    rw [Ag.replayFrom] at h
    by_cases hn : (Ag.nextA a r).2 = 0
    · rw [if_pos hn] at h
      intro x hx
      rcases List.mem_cons.1 hx with rfl | hx
      · exact (Ag.next_chk hn).2.1
      · exact ih _ h x hx
    · rw [if_neg hn] at h; exact absurd h hn
theorem rep_chk : ∀ (rs : List Lk.Note) (a : Ag.Agent), Ag.chkAgent a = 0 → (Ag.replayFrom a rs).2 = 0 → Ag.chkAgent (Ag.replayFrom a rs).1 = 0 := by
  intro rs
  induction rs with
  | nil => intro a h _; exact h
  | cons r t ih =>
    intro a ha h
    rw [Ag.replayFrom] at h ⊢
    by_cases hn : (Ag.nextA a r).2 = 0
    · rw [if_pos hn] at h ⊢
      exact ih _ (Ag.next_chk hn).2.2 h
    · rw [if_neg hn] at h; exact absurd h hn
theorem rep_good {i : Int} {l : List (Int × Int)} {rs : List Lk.Note} {A : Ag.Agent} (h : Ag.replayA i l rs = (A, 0)) : rs.length ≤ 200 ∧ Lk.allOk rs ∧ ∀ k, ∃ B, Ag.replayA i l (rs.take k) = (B, 0) ∧ Ag.replayFrom B (rs.drop k) = (A, 0) ∧ Ag.chkAgent B = 0 := by
  unfold Ag.replayA at h
  by_cases hc : Lk.chkRel i l = 0
  · rw [if_pos hc] at h
    by_cases hm : 200 < rs.length
    · rw [if_pos hm] at h
      exact absurd (congrArg Prod.snd h) (by simp)
    · rw [if_neg hm] at h
      have h2 : (Ag.replayFrom (Ag.fresh i l) rs).2 = 0 := by rw [h]
      refine ⟨by omega, rep_allok rs _ h2, fun k => ?_⟩
      have h3 := h2
      rw [← List.take_append_drop k rs] at h3
      obtain ⟨g1, g2⟩ := Ag.replay_app _ _ _ h3
      refine ⟨(Ag.replayFrom (Ag.fresh i l) (rs.take k)).1, ?_, ?_, rep_chk _ _ (Ag.fresh_chk hc) g1⟩
      · unfold Ag.replayA
        rw [if_pos hc, if_neg (by rw [List.length_take]; omega)]
        exact Prod.ext rfl g1
      · rw [g2, List.take_append_drop]; exact h
  · rw [if_neg hc] at h
    exact absurd (congrArg Prod.snd h) hc
theorem set7_farP (x : World) (b : Nat) (v0 v1 v2 v3 v4 v5 v6 : Value) (g o : Nat) (h : g ≠ b) : (((((((x.setCell ⟨b, 0, none⟩ v0).setCell ⟨b, 1, none⟩ v1).setCell ⟨b, 2, none⟩ v2).setCell ⟨b, 3, none⟩ v3).setCell ⟨b, 4, none⟩ v4).setCell ⟨b, 5, none⟩ v5).setCell ⟨b, 6, none⟩ v6).cell? ⟨g, o, none⟩ = x.cell? ⟨g, o, none⟩ := by
  have hn : ∀ j, (⟨b, j, none⟩ : Addr) ≠ ⟨g, o, none⟩ := fun j e => h (by injection e with e1; exact e1.symm)
  rw [World.cell?_setCell_other _ _ _ _ (hn _), World.cell?_setCell_other _ _ _ _ (hn _), World.cell?_setCell_other _ _ _ _ (hn _), World.cell?_setCell_other _ _ _ _ (hn _), World.cell?_setCell_other _ _ _ _ (hn _), World.cell?_setCell_other _ _ _ _ (hn _), World.cell?_setCell_other _ _ _ _ (hn _)]
set_option maxHeartbeats 32000000 in
set_option maxRecDepth 100000 in
theorem agParts_any (i kz : Int) (v vs : Value) (l : List (Int × Int)) (ps : List (Lk.Note × Value)) (w : World) (hE : Env w) (hP : PinsAt w v l) (hR : RecsAt w vs ps) :
    Calls Tryz.prog 3 #[relV i v, vs, .int .i64 kz] w fun e w' => e = .returned (.bool true) ∧ Below w.heap.size w w' := by
  obtain ⟨a, c, rfl⟩ := pins_slice hP
  obtain ⟨pa, pc, rfl⟩ := recs_slice hR
  have hpc : ps.length ≤ pc := by
    obtain ⟨_, p', c', e, hc, _⟩ := hR
    simp only [Value.slice.injEq] at e
    omega
  have HR1 : Hid (∀ w', Below w.heap.size w w' → Calls Tryz.prog 5 #[.agg #[.int .i64 i, .slice a l.length c], .slice pa ps.length pc] w' fun e w'' => agR w'' (Ag.replayA i l (ps.map Prod.fst)) e ∧ Below w'.heap.size w' w'') := fun w' hb => agReplay_any i _ _ l ps w' (hP.below hb) (hR.below hb)
  have HR2 : Hid (∀ k : Nat, k ≤ ps.length → ∀ w', Below w.heap.size w w' → Calls Tryz.prog 5 #[.agg #[.int .i64 i, .slice a l.length c], .slice pa k pc] w' fun e w'' => agR w'' (Ag.replayA i l ((ps.map Prod.fst).take k)) e ∧ Below w'.heap.size w' w'') := fun k hk w' hb => by
    have := agReplay_any i _ _ l (ps.take k) w' (hP.below hb) (recs_takeP (hR.below hb) k hk)
    rw [List.map_take] at this
    exact this
  have HRs : Hid (∀ w', Below w.heap.size w w' → RecsAt w' (.slice pa ps.length pc) ps) := fun w' hb => hR.below hb
  have HOD : Hid (Lk.allOk (ps.map Prod.fst) → ps.length ≤ 200 → ∀ w', Below w.heap.size w w' → Calls Tryz.prog 9 #[.slice pa ps.length pc] w' fun e w'' => (∃ y ok, e = .returned (.tuple #[y, .bool ok]) ∧ (ok = true → ∃ qs, RecsAt w'' y qs ∧ qs.map Prod.fst = ps.map Prod.fst)) ∧ Below w'.heap.size w' w'') := fun h1 h2 w' hb => onDisk_any _ ps w' (hE.below hb) (hR.below hb) h1 h2
  have F1 : Hid (∀ A, Ag.replayA i l (ps.map Prod.fst) = (A, 0) → ps.length ≤ 200 ∧ Lk.allOk (ps.map Prod.fst) ∧ ∀ k, ∃ B, Ag.replayA i l ((ps.map Prod.fst).take k) = (B, 0) ∧ Ag.replayFrom B ((ps.drop k).map Prod.fst) = (A, 0) ∧ Ag.chkAgent B = 0) := fun A h => by
    obtain ⟨h1, h2, h3⟩ := rep_good h
    refine ⟨by simpa using h1, h2, fun k => ?_⟩
    obtain ⟨B, g1, g2, g3⟩ := h3 k
    exact ⟨B, g1, by rw [List.map_drop]; exact g2, g3⟩
  clear hE hP hR
  unfold relV
  generalize hQ : Ag.replayA i l (ps.map Prod.fst) = Q at HR1 F1
  clear hQ
  obtain ⟨⟨ql, qa, qt, qg, qi, qm, qd⟩, QE⟩ := Q
  generalize l.length = n at HR1 HR2 ⊢
  generalize hm : ps.length = m at HR1 HR2 HRs HOD F1 hpc ⊢
  have HM : Hid (ps.length = m) := hm
  clear hm
  have HB0 : Hid (Below w.heap.size w (w.alloc (.cells #[.int .i64 i, .slice a n c] 24))) := (Below.refl _ w).alloc (Nat.le_refl _) _
  have HK : Hid (Blk (w.alloc (.cells #[.int .i64 i, .slice a n c] 24)) w.heap.size #[.int .i64 i, .slice a n c] 24) := blk_alloc w _ _
  go_enter Tryz.func3, Tryz.ntmps3
  go_upto_region 1 with fail
  generalize (w.alloc (.cells #[.int .i64 i, .slice a n c] 24)) = w0 at HB0 HK ⊢
  have k0 := HK.out.cell 0
  have k1 := HK.out.cell 1
  simp only [List.getElem?_toArray, List.getElem?_cons_zero, List.getElem?_cons_succ] at k0 k1
  go_wp2_with fail
  refine (HR1.out _ HB0.out).mono ?_
  rintro e w1 ⟨⟨z1, z2, rfl, hz1, hz2⟩, hb1⟩
  simp only at hz1 hz2
  obtain ⟨sa, sc, rfl⟩ := pins_slice hz1
  obtain ⟨ta, tc, rfl⟩ := pins_slice hz2
  simp only [agV, agC]
  generalize ql.length = sn at hz1 ⊢
  generalize qm.length = tn at hz2 ⊢
  clear k0 k1 HR1
  have hbA : Below w1.heap.size w1 (w1.alloc (.cells #[.slice sa sn sc, .int .i64 qa, .int .i64 qt, .bool qg, .int .i64 qi, .slice ta tn tc, .bool qd] 27)) := (Below.refl _ _).alloc (Nat.le_refl _) _
  have hbX : Below w0.heap.size w0 (w1.alloc (.cells #[.slice sa sn sc, .int .i64 qa, .int .i64 qt, .bool qg, .int .i64 qi, .slice ta tn tc, .bool qd] 27)) := hb1.trans (hbA.mono hb1.size)
  have HB1 : Hid (Below w.heap.size w (w1.alloc (.cells #[.slice sa sn sc, .int .i64 qa, .int .i64 qt, .bool qg, .int .i64 qi, .slice ta tn tc, .bool qd] 27))) := HB0.out.trans (hbX.mono HB0.out.size)
  have HK1 : Hid (Blk (w1.alloc (.cells #[.slice sa sn sc, .int .i64 qa, .int .i64 qt, .bool qg, .int .i64 qi, .slice ta tn tc, .bool qd] 27)) w.heap.size #[.int .i64 i, .slice a n c] 24) := HK.out.below hbX
  have HQ1 : Hid (Blk (w1.alloc (.cells #[.slice sa sn sc, .int .i64 qa, .int .i64 qt, .bool qg, .int .i64 qi, .slice ta tn tc, .bool qd] 27)) w1.heap.size #[.slice sa sn sc, .int .i64 qa, .int .i64 qt, .bool qg, .int .i64 qi, .slice ta tn tc, .bool qd] 27) := blk_alloc w1 _ _
  have P1 : Hid (PinsAt (w1.alloc (.cells #[.slice sa sn sc, .int .i64 qa, .int .i64 qt, .bool qg, .int .i64 qi, .slice ta tn tc, .bool qd] 27)) (.slice sa sn sc) ql) := hz1.below hbA
  have P2 : Hid (PinsAt (w1.alloc (.cells #[.slice sa sn sc, .int .i64 qa, .int .i64 qt, .bool qg, .int .i64 qi, .slice ta tn tc, .bool qd] 27)) (.slice ta tn tc) qm) := hz2.below hbA
  clear hbA hbX hb1 hz1 hz2 HB0 HK
  go_upto_region 2 with fail
  generalize (w1.alloc (.cells #[.slice sa sn sc, .int .i64 qa, .int .i64 qt, .bool qg, .int .i64 qi, .slice ta tn tc, .bool qd] 27)) = W1 at HB1 HK1 HQ1 P1 P2 ⊢
  generalize w1.heap.size = g7 at HQ1 ⊢
  go_wp2_with fail
  refine (gone_any _).mono ?_
  rintro e w2 ⟨rfl, hb2⟩
  have HB2 : Hid (Below w.heap.size w w2) := HB1.out.trans (hb2.mono HB1.out.size)
  replace HK1 : Hid (Blk w2 _ _ _) := HK1.out.below hb2
  replace HQ1 : Hid (Blk w2 _ _ _) := HQ1.out.below hb2
  replace P1 : Hid (PinsAt w2 (.slice sa sn sc) ql) := P1.out.below hb2
  replace P2 : Hid (PinsAt w2 (.slice ta tn tc) qm) := P2.out.below hb2
  clear hb2 HB1
  by_cases hE : QE = 0
  rotate_left
  · have hEb : (QE != 0) = true := by rw [bne_iff_ne]; exact hE
    clear hE HR2 HRs HOD F1 HK1 HQ1 P1 P2
    go_wp2_with fail
    refine (gone_any _).mono ?_
    rintro e w9 ⟨rfl, hb9⟩
    have HB9 : Hid (Below w.heap.size w w9) := HB2.out.trans (hb9.mono HB2.out.size)
    clear hb9 HB2
    go_wp2
    go_ret
    exact ⟨rfl, HB9.out⟩
  subst hE
  obtain ⟨hm200, hAO, hPt⟩ := F1.out _ rfl
  have HPt : Hid (∀ k, ∃ B, Ag.replayA i l ((ps.map Prod.fst).take k) = (B, 0) ∧ Ag.replayFrom B ((ps.drop k).map Prod.fst) = (⟨ql, qa, qt, qg, qi, qm, qd⟩, 0) ∧ Ag.chkAgent B = 0) := hPt
  have HO' := HOD.out hAO hm200
  have HOd : Hid (∀ w', Below w.heap.size w w' → Calls Tryz.prog 9 #[.slice pa m pc] w' fun e w'' => (∃ y ok, e = .returned (.tuple #[y, .bool ok]) ∧ (ok = true → ∃ qs, RecsAt w'' y qs ∧ qs.map Prod.fst = ps.map Prod.fst)) ∧ Below w'.heap.size w' w'') := HO'
  have hmi : (m : Int) ≤ 200 := by omega
  clear HO' HOD F1 hAO hPt
  have HAt : Hid (∀ w', Calls Tryz.prog 7 #[.int .i64 kz, .int .i64 ((m : Int) + 1)] w' fun e w'' => (∃ j : Nat, e = .returned (.int .i64 j) ∧ j < m + 1) ∧ w'' = w') := fun w' => at_any kz (m + 1) (by omega) (by omega) w'
  go_wp2_with fail
  refine (HAt.out _).mono ?_
  rintro e w3 ⟨⟨kk, rfl, hkk⟩, hw3⟩
  subst hw3
  clear HAt
  have hk1 : kk ≤ m := by omega
  have hk2 : (kk : Int) ≤ (m : Int) := by omega
  have hk3 : (kk : Int) ≤ (pc : Int) := by omega
  obtain ⟨⟨bl, bp, bt, bg, bi, bm, bd⟩, hB1, hB2, hB3⟩ := HPt.out kk
  have HCB : Hid (Lk.chk bl = 0 ∧ Lk.chk bm = 0) := agent_chks hB3
  have HR3 : Hid (∀ w', Below w.heap.size w w' → Calls Tryz.prog 5 #[.agg #[.int .i64 i, .slice a n c], .slice pa kk pc] w' fun e w'' => agR w'' (⟨bl, bp, bt, bg, bi, bm, bd⟩, 0) e ∧ Below w'.heap.size w' w'') := fun w' hb => by
    have := HR2.out kk hk1 w' hb
    rw [hB1] at this
    exact this
  have HF0 : Hid (Ag.replayFrom ⟨bl, bp, bt, bg, bi, bm, bd⟩ ((ps.drop kk).map Prod.fst) = (⟨ql, qa, qt, qg, qi, qm, qd⟩, 0)) := hB2
  clear hB1 hB2 hB3 HPt HR2 hkk
  go_upto_region 5 with fail
  go_cut [8, 9] from 32 to 39 (fun s8 s9 wx => ∃ (g9 : Nat) (xa : Option Addr) (xn xc : Nat) (ya : Option Addr) (yn yc : Nat), s8 = .int .i64 0 ∧ s9 = .pointer (some ⟨g9, 0, none⟩) ∧ Hid (w3.heap.size ≤ g9 ∧ Blk wx g9 #[.slice xa xn xc, .int .i64 bp, .int .i64 bt, .bool bg, .int .i64 bi, .slice ya yn yc, .bool bd] 27 ∧ PinsAt wx (.slice xa xn xc) bl ∧ PinsAt wx (.slice ya yn yc) bm ∧ Below w3.heap.size w3 wx))
  case first =>
    have hKd := HK1.out
    have S0 : Hid (w3.drew.cell? ⟨w.heap.size, 0, none⟩ = some (.int .i64 i) ∧ w3.drew.cell? ⟨w.heap.size, 1, none⟩ = some (.slice a n c) ∧ Hid (Below w3.heap.size w3 w3.drew)) := ⟨hKd.cell 0, hKd.cell 1, (Below.refl _ w3).drew⟩
    have S7 : Hid (w3.cell? ⟨w.heap.size, 0, none⟩ = some (.int .i64 i) ∧ w3.cell? ⟨w.heap.size, 1, none⟩ = some (.slice a n c) ∧ Hid (Below w3.heap.size w3 w3)) := ⟨hKd.cell 0, hKd.cell 1, Below.refl _ w3⟩
    have KP : Hid (∀ x y : World, Below x.heap.size x y → (x.cell? ⟨w.heap.size, 0, none⟩ = some (.int .i64 i) ∧ x.cell? ⟨w.heap.size, 1, none⟩ = some (.slice a n c) ∧ Hid (Below w3.heap.size w3 x)) → (y.cell? ⟨w.heap.size, 0, none⟩ = some (.int .i64 i) ∧ y.cell? ⟨w.heap.size, 1, none⟩ = some (.slice a n c) ∧ Hid (Below w3.heap.size w3 y))) := fun x y hb h => by
      obtain ⟨h0, h1, hB⟩ := h
      have e : ∀ b o v, x.cell? ⟨b, o, none⟩ = some v → y.cell? ⟨b, o, none⟩ = some v := fun b o v hc => (hb.cell (p := ⟨b, o, none⟩) (World.block_lt_of_cell? x _ hc)).trans hc
      exact ⟨e _ _ _ h0, e _ _ _ h1, hB.out.trans (hb.mono hB.out.size)⟩
    have KA : Hid (∀ (x : World) O, Below x.heap.size x (x.alloc O)) := fun x O => (Below.refl _ x).alloc (Nat.le_refl _) O
    have KD : Hid (∀ O, Below w3.heap.size w3 (w3.alloc O).drew) := fun O => ((Below.refl _ w3).alloc (Nat.le_refl _) O).drew
    have KB : Hid (∀ (x : World) O v0 v1 v2 v3 v4 v5 v6, Below x.heap.size x ((((((((x.alloc O).setCell ⟨x.heap.size, 0, none⟩ v0).setCell ⟨x.heap.size, 1, none⟩ v1).setCell ⟨x.heap.size, 2, none⟩ v2).setCell ⟨x.heap.size, 3, none⟩ v3).setCell ⟨x.heap.size, 4, none⟩ v4).setCell ⟨x.heap.size, 5, none⟩ v5).setCell ⟨x.heap.size, 6, none⟩ v6)) := fun x O v0 v1 v2 v3 v4 v5 v6 => ((((((((Below.refl _ x).alloc (Nat.le_refl _) O).setCell (Nat.le_refl _) _).setCell (Nat.le_refl _) _).setCell (Nat.le_refl _) _).setCell (Nat.le_refl _) _).setCell (Nat.le_refl _) _).setCell (Nat.le_refl _) _).setCell (Nat.le_refl _) _
    have KT : Hid (∀ (x : World) b v0 v1 v2 v3 v4 v5 v6, (x.cell? ⟨w.heap.size, 0, none⟩ = some (.int .i64 i) ∧ x.cell? ⟨w.heap.size, 1, none⟩ = some (.slice a n c) ∧ Hid (Below w3.heap.size w3 x)) → w.heap.size ≠ b → w3.heap.size ≤ b → ((((((((x.setCell ⟨b, 0, none⟩ v0).setCell ⟨b, 1, none⟩ v1).setCell ⟨b, 2, none⟩ v2).setCell ⟨b, 3, none⟩ v3).setCell ⟨b, 4, none⟩ v4).setCell ⟨b, 5, none⟩ v5).setCell ⟨b, 6, none⟩ v6).cell? ⟨w.heap.size, 0, none⟩ = some (.int .i64 i) ∧ (((((((x.setCell ⟨b, 0, none⟩ v0).setCell ⟨b, 1, none⟩ v1).setCell ⟨b, 2, none⟩ v2).setCell ⟨b, 3, none⟩ v3).setCell ⟨b, 4, none⟩ v4).setCell ⟨b, 5, none⟩ v5).setCell ⟨b, 6, none⟩ v6).cell? ⟨w.heap.size, 1, none⟩ = some (.slice a n c) ∧ Hid (Below w3.heap.size w3 (((((((x.setCell ⟨b, 0, none⟩ v0).setCell ⟨b, 1, none⟩ v1).setCell ⟨b, 2, none⟩ v2).setCell ⟨b, 3, none⟩ v3).setCell ⟨b, 4, none⟩ v4).setCell ⟨b, 5, none⟩ v5).setCell ⟨b, 6, none⟩ v6)))) := fun x b v0 v1 v2 v3 v4 v5 v6 h hg hl => by
      obtain ⟨h0, h1, hB⟩ := h
      exact ⟨(set7_farP x b _ _ _ _ _ _ _ _ _ hg).trans h0, (set7_farP x b _ _ _ _ _ _ _ _ _ hg).trans h1, ((((((hB.out.setCell hl _).setCell hl _).setCell hl _).setCell hl _).setCell hl _).setCell hl _).setCell hl _⟩
    have SP : Hid (∀ x : World, (x.cell? ⟨w.heap.size, 0, none⟩ = some (.int .i64 i) ∧ x.cell? ⟨w.heap.size, 1, none⟩ = some (.slice a n c) ∧ Hid (Below w3.heap.size w3 x)) → Below w.heap.size w x) := fun x h => HB2.out.trans (h.2.2.out.mono HB2.out.size)
    have SQ : Hid (∀ x : World, (x.cell? ⟨w.heap.size, 0, none⟩ = some (.int .i64 i) ∧ x.cell? ⟨w.heap.size, 1, none⟩ = some (.slice a n c) ∧ Hid (Below w3.heap.size w3 x)) → Below w3.heap.size w3 x) := fun x h => h.2.2.out
    have hl1 : w.heap.size < w3.heap.size := hKd.lt
    have hl3 : w.heap.size ≠ w3.heap.size := by omega
    have hl5 : w3.heap.size ≤ w3.heap.size := Nat.le_refl _
    have HZA : Hid (Blk (w3.alloc (.cells #[.slice none 0 0, .int .i64 0, .int .i64 0, .bool false, .int .i64 0, .slice none 0 0, .bool false] 27)).drew w3.heap.size #[.slice none 0 0, .int .i64 0, .int .i64 0, .bool false, .int .i64 0, .slice none 0 0, .bool false] 27) := blk_alloc w3 _ _
    clear hKd
    go_wp2_with fail
    go_region_held3 (fun w' => w'.cell? ⟨w.heap.size, 0, none⟩ = some (.int .i64 i) ∧ w'.cell? ⟨w.heap.size, 1, none⟩ = some (.slice a n c) ∧ Hid (Below w3.heap.size w3 w')) (first | with_reducible exact KT.out _ _ _ _ _ _ _ _ _ HSy.out hl3 hl5 | with_reducible exact KP.out _ _ (by assumption) (by assumption) | with_reducible exact S0.out | with_reducible exact KP.out _ _ (KA.out _ _) (by assumption) | with_reducible exact KP.out _ _ (KD.out _) S7.out | with_reducible exact KP.out _ _ (KA.out _ _) HSy.out)
      (first | (go_at_call 5; refine (HR3.out _ (SP.out _ (by assumption))).mono ?_; rintro e y ⟨⟨z1, z2, rfl, hz1, hz2⟩, hby⟩; simp only at hz1 hz2; obtain ⟨xa, xc, rfl⟩ := pins_slice hz1; obtain ⟨ya, yc, rfl⟩ := pins_slice hz2; simp only [agV, agC]; have HSy : Hid (y.cell? ⟨w.heap.size, 0, none⟩ = some (.int .i64 i) ∧ y.cell? ⟨w.heap.size, 1, none⟩ = some (.slice a n c) ∧ Hid (Below w3.heap.size w3 y)) := KP.out _ _ hby (by assumption); have HP8 : Hid (PinsAt y (.slice xa bl.length xc) bl ∧ PinsAt y (.slice ya bm.length yc) bm) := ⟨hz1, hz2⟩; try (have hz8 : Blk y w3.heap.size #[.slice none 0 0, .int .i64 0, .int .i64 0, .bool false, .int .i64 0, .slice none 0 0, .bool false] 27 := (by with_reducible exact Blk.below HZA.out hby); have HZ8 : Hid (Blk y w3.heap.size #[.slice none 0 0, .int .i64 0, .int .i64 0, .bool false, .int .i64 0, .slice none 0 0, .bool false] 27) := hz8; have d0 := hz8.cell 0; have df0 := hz8.free 0; have d1 := hz8.cell 1; have df1 := hz8.free 1; have d2 := hz8.cell 2; have df2 := hz8.free 2; have d3 := hz8.cell 3; have df3 := hz8.free 3; have d4 := hz8.cell 4; have df4 := hz8.free 4; have d5 := hz8.cell 5; have df5 := hz8.free 5; have d6 := hz8.cell 6; have df6 := hz8.free 6; simp only [List.getElem?_toArray, List.getElem?_cons_zero, List.getElem?_cons_succ] at d0 d1 d2 d3 d4 d5 d6; clear hz8); clear hz1 hz2))
    all_goals
      go_wp2_with fail
      go_meet
      have HBx : Hid (Below w3.heap.size w3 y) := HSy.out.2.2
      first
        | (have hZ := HZ8.out; clear hZ; exact ⟨w3.heap.size, xa, _, xc, ya, _, yc, rfl, rfl, ⟨Nat.le_refl _, ((((((HZ8.out.put 0 _).put 1 _).put 2 _).put 3 _).put 4 _).put 5 _).put 6 _, ((((((((PinsAt.offZ HP8.out.1 HCB.out.1 (blkZ HZ8.out)).set).set).set).set).set).set).set).pins, ((((((((PinsAt.offZ HP8.out.2 HCB.out.2 (blkZ HZ8.out)).set).set).set).set).set).set).set).pins, ((((((HBx.out.setCell (Nat.le_refl _) _).setCell (Nat.le_refl _) _).setCell (Nat.le_refl _) _).setCell (Nat.le_refl _) _).setCell (Nat.le_refl _) _).setCell (Nat.le_refl _) _).setCell (Nat.le_refl _) _⟩⟩)
        | exact ⟨y.heap.size, xa, _, xc, ya, _, yc, rfl, rfl, ⟨HBx.out.size, blk_alloc y _ _, HP8.out.1.below ((Below.refl _ _).alloc (Nat.le_refl _) _), HP8.out.2.below ((Below.refl _ _).alloc (Nat.le_refl _) _), HBx.out.alloc HBx.out.size _⟩⟩
  case rest =>
    obtain ⟨g9, xa, xn, xc, ya, yn, yc, rfl, rfl, HX⟩ := hcut
    have HBc : Hid (Below w.heap.size w wc) := HB2.out.trans (HX.out.2.2.2.2.mono HB2.out.size)
    have HQc : Hid (Blk wc g7 #[.slice sa sn sc, .int .i64 qa, .int .i64 qt, .bool qg, .int .i64 qi, .slice ta tn tc, .bool qd] 27) := HQ1.out.below HX.out.2.2.2.2
    have PQ1 : Hid (PinsOff wc g9 (.slice sa sn sc) ql) := P1.out.older HX.out.2.2.2.2 HX.out.1
    have PQ2 : Hid (PinsOff wc g9 (.slice ta tn tc) qm) := P2.out.older HX.out.2.2.2.2 HX.out.1
    have HG9 : Hid (g7 < g9 ∧ w.heap.size ≤ g9) := ⟨Nat.lt_of_lt_of_le HQ1.out.lt HX.out.1, Nat.le_trans HB2.out.size HX.out.1⟩
    have HKc : Hid (Blk wc g9 #[.slice xa xn xc, .int .i64 bp, .int .i64 bt, .bool bg, .int .i64 bi, .slice ya yn yc, .bool bd] 27) := HX.out.2.1
    have PB1 : Hid (PinsAt wc (.slice xa xn xc) bl) := HX.out.2.2.1
    have PB2 : Hid (PinsAt wc (.slice ya yn yc) bm) := HX.out.2.2.2.1
    clear HX HB2 HK1 HQ1 P1 P2 HR3 HCB
    go_upto_region 8 with fail
    go_cut [44, 45, 46] from 42 to 46 (fun s44 s45 s46 wx => ∃ (ra : Option Addr) (rc : Nat), s44 = .slice ra (m - kk) rc ∧ s45 = .int .i64 ((m - kk : Nat) : Int) ∧ s46 = .int .i64 0 ∧ wx = wc ∧ (kk < m → ∀ rb ro, pa = some ⟨rb, ro, none⟩ → ra = some ⟨rb, ro + kk * 7, none⟩))
    case first =>
      have hRS := HRs.out wc HBc.out
      by_cases hkm : kk < m
      · obtain ⟨rb, ro, hpa⟩ : ∃ rb ro, pa = some ⟨rb, ro, none⟩ := by
          obtain ⟨_, p', c', e, _, h1, h2, _, _⟩ := hRS
          simp only [Value.slice.injEq] at e
          obtain ⟨rfl, _, rfl⟩ := e
          have hl0 : 0 < ps.length := by have := HM.out; omega
          cases pa with
          | none => have := (h1 rfl).2; omega
          | some ad =>
            have := (h2 ad rfl hl0).1
            obtain ⟨b1, o1, s1⟩ := ad
            simp only at this
            subst this
            exact ⟨b1, o1, rfl⟩
        subst hpa
        have hkm1 : (kk : Int) < (m : Int) := by omega
        have hkm2 : ¬ (pc = kk) := by omega
        have hkm3 : ¬ (kk = pc) := by omega
        have hkm4 : kk < pc := by omega
        clear hRS
        go_wp2_with fail
        go_meet
        exact ⟨_, _, rfl, by go_num, rfl, rfl, fun _ rb' ro' e => by cases e; rfl⟩
      · have hkm' : kk = m := by omega
        subst hkm'
        clear hRS
        by_cases hpk : pc = kk
        · subst hpk
          go_wp2_with fail
          go_meet
          exact ⟨_, _, by rw [Nat.sub_self], by rw [Nat.sub_self]; go_num, rfl, rfl, fun h => absurd h (by omega)⟩
        · have hpk2 : ¬ kk = pc := fun h => hpk h.symm
          have hpk3 : kk < pc := by omega
          go_wp2_with fail
          go_meet
          exact ⟨_, _, by rw [Nat.sub_self], by rw [Nat.sub_self]; go_num, rfl, rfl, fun h => absurd h (by omega)⟩
    case rest =>
      obtain ⟨ra, rc, rfl, rfl, rfl, hwx, hra⟩ := hcut
      subst hwx
      have HRa : Hid (kk < m → ∀ rb ro, pa = some ⟨rb, ro, none⟩ → ra = some ⟨rb, ro + kk * 7, none⟩) := hra
      clear hra
      generalize hmk : m - kk = mk
      have HMk : Hid (m - kk = mk) := hmk
      have hmk2 : (mk : Int) ≤ 200 := by omega
      clear hmk
      go_wp2
      go_loopg [46] mk (fun gh s46 wr => ∃ (j : Nat) (bl bm : List (Int × Int)) (bp bt bi : Int) (bg bd : Bool) (xa : Option Addr) (xn xc : Nat) (ya : Option Addr) (yn yc : Nat), j ≤ mk ∧ mk - j ≤ gh ∧ s46 = .int .i64 j ∧ Hid (Ag.replayFrom ⟨bl, bp, bt, bg, bi, bm, bd⟩ ((ps.drop (kk + j)).map Prod.fst) = (⟨ql, qa, qt, qg, qi, qm, qd⟩, 0) ∧ Blk wr g9 #[.slice xa xn xc, .int .i64 bp, .int .i64 bt, .bool bg, .int .i64 bi, .slice ya yn yc, .bool bd] 27 ∧ Blk wr g7 #[.slice sa sn sc, .int .i64 qa, .int .i64 qt, .bool qg, .int .i64 qi, .slice ta tn tc, .bool qd] 27 ∧ PinsAt wr (.slice xa xn xc) bl ∧ PinsAt wr (.slice ya yn yc) bm ∧ PinsOff wr g9 (.slice sa sn sc) ql ∧ PinsOff wr g9 (.slice ta tn tc) qm ∧ Below w.heap.size w wr))
      case atStart => exact ⟨0, bl, bm, bp, bt, bi, bg, bd, xa, xn, xc, ya, yn, yc, Nat.zero_le _, by omega, rfl, ⟨HF0.out, HKc.out, HQc.out, PB1.out, PB2.out, PQ1.out, PQ2.out, HBc.out⟩⟩
      case round =>
        clear HKc HQc PB1 PB2 PQ1 PQ2 HBc HF0
        obtain ⟨j, bl, bm, bp, bt, bi, bg, bd, xa, xn, xc, ya, yn, yc, hj, hgh, rfl, HI⟩ := hrel
        have HI8 : Hid (Below w.heap.size w wr) := HI.out.2.2.2.2.2.2.2
        by_cases hlt : j < mk
        · have hlt1 : (j : Int) < (mk : Int) := by omega
          have hlt2 : decide ((j : Int) < (mk : Int)) = true := decide_eq_true hlt1
          have hkj : kk + j < m := by have := HMk.out; omega
          obtain ⟨⟨r, z⟩, hr⟩ : ∃ x, ps[kk + j]? = some x := ⟨_, List.getElem?_eq_getElem (show kk + j < ps.length by have := HM.out; omega)⟩
          have hRS := HRs.out wr HI8.out
          obtain ⟨rb, ro, hpa, hrb, c0, c1, c2, c3, c4, c5, c6⟩ := recs_at hRS hr
          have hra := HRa.out (by omega) rb ro hpa
          subst hra
          have hzp : PinsAt wr z r.lock := recs_pins hRS (r, z) (List.mem_of_getElem? hr)
          obtain ⟨b, f, rfl⟩ := pins_slice hzp
          have HST := (rep_step (A := ⟨bl, bp, bt, bg, bi, bm, bd⟩) hr).symm.trans HI.out.1
          have hn0 : (Ag.nextA ⟨bl, bp, bt, bg, bi, bm, bd⟩ r).2 = 0 := by
            by_cases h : (Ag.nextA ⟨bl, bp, bt, bg, bi, bm, bd⟩ r).2 = 0
            · exact h
            · rw [if_neg h] at HST
              exact absurd (congrArg Prod.snd HST) h
          rw [if_pos hn0] at HST
          have HNX : Hid (∀ w', Below wr.heap.size wr w' → Calls Tryz.prog 8 #[agV ⟨bl, bp, bt, bg, bi, bm, bd⟩ (.slice xa xn xc) (.slice ya yn yc), recV r (.slice b r.lock.length f)] w' fun e w'' => agN w'' w'.heap.size ((Ag.nextA ⟨bl, bp, bt, bg, bi, bm, bd⟩ r).1, 0) e ∧ Below w'.heap.size w' w'') := fun w' hb => by
            have := agNext_any bl bm r.lock bp bt bi r.kind r.agent r.tr r.n r.id bg bd r.good _ _ _ w' (HI.out.2.2.2.1.below hb) (HI.out.2.2.2.2.1.below hb) (hzp.below hb)
            rw [show Ag.nextA ⟨bl, bp, bt, bg, bi, bm, bd⟩ r = ((Ag.nextA ⟨bl, bp, bt, bg, bi, bm, bd⟩ r).1, 0) from Prod.ext rfl hn0] at this
            exact this
          clear hRS hzp hr hn0 hpa
          obtain ⟨r1, r2, r3, r4, r5, r6, r7⟩ := r
          have eo : ro + (kk + j) * 7 = ro + kk * 7 + j * 7 := by omega
          rw [eo] at c0 c1 c2 c3 c4 c5 c6
          simp only at c0 c1 c2 c3 c4 c5 c6
          unfold agV agC recV at HNX
          simp only at HNX
          generalize r7.length = q at HNX c6
          generalize (Ag.nextA ⟨bl, bp, bt, bg, bi, bm, bd⟩ ⟨r1, r2, r3, r4, r5, r6, r7⟩).1 = NX at HST HNX
          have HS1 : Hid (Ag.replayFrom NX ((ps.drop (kk + (j + 1))).map Prod.fst) = (⟨ql, qa, qt, qg, qi, qm, qd⟩, 0)) := HST
          clear HST eo
          have hbR : Below wr.heap.size wr (wr.alloc (.cells #[.int .i64 r1, .int .i64 r2, .int .i64 r3, .int .i64 r4, .bool r5, .int .i64 r6, .slice b q f] 34)) := (Below.refl _ _).alloc (Nat.le_refl _) _
          have HBR : Hid (Below wr.heap.size wr (wr.alloc (.cells #[.int .i64 r1, .int .i64 r2, .int .i64 r3, .int .i64 r4, .bool r5, .int .i64 r6, .slice b q f] 34))) := hbR
          have HKR : Hid (Blk (wr.alloc (.cells #[.int .i64 r1, .int .i64 r2, .int .i64 r3, .int .i64 r4, .bool r5, .int .i64 r6, .slice b q f] 34)) g9 #[.slice xa xn xc, .int .i64 bp, .int .i64 bt, .bool bg, .int .i64 bi, .slice ya yn yc, .bool bd] 27) := HI.out.2.1.below hbR
          have HRR : Hid (Blk (wr.alloc (.cells #[.int .i64 r1, .int .i64 r2, .int .i64 r3, .int .i64 r4, .bool r5, .int .i64 r6, .slice b q f] 34)) wr.heap.size #[.int .i64 r1, .int .i64 r2, .int .i64 r3, .int .i64 r4, .bool r5, .int .i64 r6, .slice b q f] 34) := blk_alloc wr _ _
          have hsr : rb < wr.heap.size := hrb
          clear hbR hrb
          go_upto_region 11 with fail
          clear c0 c1 c2 c3 c4 c5 c6
          generalize (wr.alloc (.cells #[.int .i64 r1, .int .i64 r2, .int .i64 r3, .int .i64 r4, .bool r5, .int .i64 r6, .slice b q f] 34)) = w5 at HBR HKR HRR ⊢
          have k0 := HKR.out.cell 0
          have k1 := HKR.out.cell 1
          have k2 := HKR.out.cell 2
          have k3 := HKR.out.cell 3
          have k4 := HKR.out.cell 4
          have k5 := HKR.out.cell 5
          have k6 := HKR.out.cell 6
          simp only [List.getElem?_toArray, List.getElem?_cons_zero, List.getElem?_cons_succ] at k0 k1 k2 k3 k4 k5 k6
          have x0 := HRR.out.cell 0
          have x1 := HRR.out.cell 1
          have x2 := HRR.out.cell 2
          have x3 := HRR.out.cell 3
          have x4 := HRR.out.cell 4
          have x5 := HRR.out.cell 5
          have x6 := HRR.out.cell 6
          simp only [List.getElem?_toArray, List.getElem?_cons_zero, List.getElem?_cons_succ] at x0 x1 x2 x3 x4 x5 x6
          go_wp2_with fail
          refine (HNX.out _ HBR.out).mono ?_
          rintro e w6 ⟨⟨y1, y2, rfl, hy1, hy2⟩, hb6⟩
          obtain ⟨cl, cp, ct, cg, ci, cm, cd⟩ := NX
          simp only at hy1 hy2
          obtain ⟨ua, uc, rfl⟩ := pins_slice hy1.pins
          obtain ⟨va, vc, rfl⟩ := pins_slice hy2.pins
          simp only [agV, agC]
          generalize cl.length = un at hy1 ⊢
          generalize cm.length = vn at hy2 ⊢
          have hbW : Below wr.heap.size wr w6 := HBR.out.trans (hb6.mono HBR.out.size)
          have hk6 := HKR.out.below hb6
          have HK6 : Hid (Blk w6 g9 #[.slice xa xn xc, .int .i64 bp, .int .i64 bt, .bool bg, .int .i64 bi, .slice ya yn yc, .bool bd] 27) := hk6
          have HQ6 : Hid (Blk w6 g7 #[.slice sa sn sc, .int .i64 qa, .int .i64 qt, .bool qg, .int .i64 qi, .slice ta tn tc, .bool qd] 27) := HI.out.2.2.1.below hbW
          have HO1 : Hid (PinsOff w6 g9 (.slice sa sn sc) ql) := HI.out.2.2.2.2.2.1.below hbW
          have HO2 : Hid (PinsOff w6 g9 (.slice ta tn tc) qm) := HI.out.2.2.2.2.2.2.1.below hbW
          have HB6 : Hid (Below w.heap.size w w6) := HI8.out.trans (hbW.mono HI8.out.size)
          have HL5 : Hid (g9 < w5.heap.size) := HKR.out.lt
          have HY1 : Hid (PinsNew w6 w5.heap.size (.slice ua un uc) cl) := hy1
          have HY2 : Hid (PinsNew w6 w5.heap.size (.slice va vn vc) cm) := hy2
          clear hbW hb6 hy1 hy2 HNX k0 k1 k2 k3 k4 k5 k6 x0 x1 x2 x3 x4 x5 x6 HKR HRR HBR
          have k0 := hk6.cell 0
          have k1 := hk6.cell 1
          have k2 := hk6.cell 2
          have k3 := hk6.cell 3
          have k4 := hk6.cell 4
          have k5 := hk6.cell 5
          have k6 := hk6.cell 6
          simp only [List.getElem?_toArray, List.getElem?_cons_zero, List.getElem?_cons_succ] at k0 k1 k2 k3 k4 k5 k6
          have kf0 := hk6.free 0
          have kf1 := hk6.free 1
          have kf2 := hk6.free 2
          have kf3 := hk6.free 3
          have kf4 := hk6.free 4
          have kf5 := hk6.free 5
          have kf6 := hk6.free 6
          clear hk6
          have hz7 : g9 ≠ g7 := by have := HG9.out; omega
          have hw9 : w.heap.size ≤ g9 := HG9.out.2
          have HX : Hid (Blk (((((((w6.setCell ⟨g9, 0, none⟩ (.slice ua un uc)).setCell ⟨g9, 1, none⟩ (.int .i64 cp)).setCell ⟨g9, 2, none⟩ (.int .i64 ct)).setCell ⟨g9, 3, none⟩ (.bool cg)).setCell ⟨g9, 4, none⟩ (.int .i64 ci)).setCell ⟨g9, 5, none⟩ (.slice va vn vc)).setCell ⟨g9, 6, none⟩ (.bool cd)) g9 #[.slice ua un uc, .int .i64 cp, .int .i64 ct, .bool cg, .int .i64 ci, .slice va vn vc, .bool cd] 27 ∧ Blk (((((((w6.setCell ⟨g9, 0, none⟩ (.slice ua un uc)).setCell ⟨g9, 1, none⟩ (.int .i64 cp)).setCell ⟨g9, 2, none⟩ (.int .i64 ct)).setCell ⟨g9, 3, none⟩ (.bool cg)).setCell ⟨g9, 4, none⟩ (.int .i64 ci)).setCell ⟨g9, 5, none⟩ (.slice va vn vc)).setCell ⟨g9, 6, none⟩ (.bool cd)) g7 #[.slice sa sn sc, .int .i64 qa, .int .i64 qt, .bool qg, .int .i64 qi, .slice ta tn tc, .bool qd] 27 ∧ PinsAt (((((((w6.setCell ⟨g9, 0, none⟩ (.slice ua un uc)).setCell ⟨g9, 1, none⟩ (.int .i64 cp)).setCell ⟨g9, 2, none⟩ (.int .i64 ct)).setCell ⟨g9, 3, none⟩ (.bool cg)).setCell ⟨g9, 4, none⟩ (.int .i64 ci)).setCell ⟨g9, 5, none⟩ (.slice va vn vc)).setCell ⟨g9, 6, none⟩ (.bool cd)) (.slice ua un uc) cl ∧ PinsAt (((((((w6.setCell ⟨g9, 0, none⟩ (.slice ua un uc)).setCell ⟨g9, 1, none⟩ (.int .i64 cp)).setCell ⟨g9, 2, none⟩ (.int .i64 ct)).setCell ⟨g9, 3, none⟩ (.bool cg)).setCell ⟨g9, 4, none⟩ (.int .i64 ci)).setCell ⟨g9, 5, none⟩ (.slice va vn vc)).setCell ⟨g9, 6, none⟩ (.bool cd)) (.slice va vn vc) cm ∧ PinsOff (((((((w6.setCell ⟨g9, 0, none⟩ (.slice ua un uc)).setCell ⟨g9, 1, none⟩ (.int .i64 cp)).setCell ⟨g9, 2, none⟩ (.int .i64 ct)).setCell ⟨g9, 3, none⟩ (.bool cg)).setCell ⟨g9, 4, none⟩ (.int .i64 ci)).setCell ⟨g9, 5, none⟩ (.slice va vn vc)).setCell ⟨g9, 6, none⟩ (.bool cd)) g9 (.slice sa sn sc) ql ∧ PinsOff (((((((w6.setCell ⟨g9, 0, none⟩ (.slice ua un uc)).setCell ⟨g9, 1, none⟩ (.int .i64 cp)).setCell ⟨g9, 2, none⟩ (.int .i64 ct)).setCell ⟨g9, 3, none⟩ (.bool cg)).setCell ⟨g9, 4, none⟩ (.int .i64 ci)).setCell ⟨g9, 5, none⟩ (.slice va vn vc)).setCell ⟨g9, 6, none⟩ (.bool cd)) g9 (.slice ta tn tc) qm ∧ Below w.heap.size w (((((((w6.setCell ⟨g9, 0, none⟩ (.slice ua un uc)).setCell ⟨g9, 1, none⟩ (.int .i64 cp)).setCell ⟨g9, 2, none⟩ (.int .i64 ct)).setCell ⟨g9, 3, none⟩ (.bool cg)).setCell ⟨g9, 4, none⟩ (.int .i64 ci)).setCell ⟨g9, 5, none⟩ (.slice va vn vc)).setCell ⟨g9, 6, none⟩ (.bool cd))) := ⟨((((((HK6.out.put 0 (.slice ua un uc)).put 1 (.int .i64 cp)).put 2 (.int .i64 ct)).put 3 (.bool cg)).put 4 (.int .i64 ci)).put 5 (.slice va vn vc)).put 6 (.bool cd), ((((((HQ6.out.off hz7).off hz7).off hz7).off hz7).off hz7).off hz7).off hz7, (((((((HY1.out.set HL5.out).set HL5.out).set HL5.out).set HL5.out).set HL5.out).set HL5.out).set HL5.out).pins, (((((((HY2.out.set HL5.out).set HL5.out).set HL5.out).set HL5.out).set HL5.out).set HL5.out).set HL5.out).pins, ((((((HO1.out.set).set).set).set).set).set).set, ((((((HO2.out.set).set).set).set).set).set).set, ((((((HB6.out.setCell hw9 _).setCell hw9 _).setCell hw9 _).setCell hw9 _).setCell hw9 _).setCell hw9 _).setCell hw9 _⟩
          clear hz7 hw9 HK6 HQ6 HO1 HO2 HB6 HY1 HY2 HL5 HI HI8
          go_wp2
          go_roundg (mk - (j + 1))
          case measure => omega
          case rel => exact ⟨j + 1, cl, cm, cp, ct, ci, cg, cd, ua, un, uc, va, vn, vc, by omega, by omega, by go_num, ⟨HS1.out, HX.out⟩⟩
        · have hj' : j = mk := by omega
          have hlt1 : ¬ (j : Int) < (mk : Int) := by omega
          have hlt2 : decide ((j : Int) < (mk : Int)) = false := decide_eq_false hlt1
          have hlt3 : (mk : Int) ≤ (j : Int) := by omega
          have hend := (rep_end (A := ⟨bl, bp, bt, bg, bi, bm, bd⟩) (ps := ps) (k := kk + j) (by have := HM.out; have := HMk.out; omega)).symm.trans HI.out.1
          have hbq : (⟨bl, bp, bt, bg, bi, bm, bd⟩ : Ag.Agent) = ⟨ql, qa, qt, qg, qi, qm, qd⟩ := congrArg Prod.fst hend
          injection hbq with q1 q2 q3 q4 q5 q6 q7
          subst q1 q2 q3 q4 q5 q6 q7
          have HIc : Hid (Blk wr g9 #[.slice xa xn xc, .int .i64 bp, .int .i64 bt, .bool bg, .int .i64 bi, .slice ya yn yc, .bool bd] 27 ∧ Blk wr g7 #[.slice sa sn sc, .int .i64 bp, .int .i64 bt, .bool bg, .int .i64 bi, .slice ta tn tc, .bool bd] 27 ∧ PinsAt wr (.slice xa xn xc) bl ∧ PinsAt wr (.slice ya yn yc) bm ∧ PinsAt wr (.slice sa sn sc) bl ∧ PinsAt wr (.slice ta tn tc) bm) := ⟨HI.out.2.1, HI.out.2.2.1, HI.out.2.2.2.1, HI.out.2.2.2.2.1, HI.out.2.2.2.2.2.1.pins, HI.out.2.2.2.2.2.2.1.pins⟩
          clear hend HI hlt hlt1 hj'
          go_wp2_with fail
          refine (HOd.out _ HI8.out).mono ?_
          rintro e w7 ⟨⟨y, ok, rfl, hok⟩, hb7⟩
          have HB7 : Hid (Below w.heap.size w w7) := HI8.out.trans (hb7.mono HI8.out.size)
          have hk7 := HIc.out.1.below hb7
          have hq7 := HIc.out.2.1.below hb7
          have HOk : Hid (ok = true → ∃ qs, RecsAt w7 y qs ∧ qs.map Prod.fst = ps.map Prod.fst) := hok
          have HSm : Hid (Calls Tryz.prog 10 #[.agg #[.slice xa xn xc, .int .i64 bp, .int .i64 bt, .bool bg, .int .i64 bi, .slice ya yn yc, .bool bd], .agg #[.slice sa sn sc, .int .i64 bp, .int .i64 bt, .bool bg, .int .i64 bi, .slice ta tn tc, .bool bd]] w7 fun e w'' => e = .returned (.bool true) ∧ Below w7.heap.size w7 w'') := by
            have := agSame_any bl bm bl bm bp bt bi bp bt bi bg bd bg bd _ _ _ _ w7 (HIc.out.2.2.1.below hb7) (HIc.out.2.2.2.1.below hb7) (HIc.out.2.2.2.2.1.below hb7) (HIc.out.2.2.2.2.2.below hb7)
            rw [Ag.sameAgent_self] at this
            exact this
          clear hok hb7 HIc HI8 HOd
          have k0 := hk7.cell 0
          have k1 := hk7.cell 1
          have k2 := hk7.cell 2
          have k3 := hk7.cell 3
          have k4 := hk7.cell 4
          have k5 := hk7.cell 5
          have k6 := hk7.cell 6
          simp only [List.getElem?_toArray, List.getElem?_cons_zero, List.getElem?_cons_succ] at k0 k1 k2 k3 k4 k5 k6
          have x0 := hq7.cell 0
          have x1 := hq7.cell 1
          have x2 := hq7.cell 2
          have x3 := hq7.cell 3
          have x4 := hq7.cell 4
          have x5 := hq7.cell 5
          have x6 := hq7.cell 6
          simp only [List.getElem?_toArray, List.getElem?_cons_zero, List.getElem?_cons_succ] at x0 x1 x2 x3 x4 x5 x6
          clear hk7 hq7
          go_wp2_with fail
          refine HSm.out.mono ?_
          rintro e w8 ⟨rfl, hb8⟩
          have HB8 : Hid (Below w.heap.size w w8) := HB7.out.trans (hb8.mono HB7.out.size)
          have HOk8 : Hid (ok = true → Calls Tryz.prog 11 #[y, .slice pa m pc, .func (.func 12) #[] #[]] w8 fun e w'' => e = .returned (.bool true) ∧ Below w8.heap.size w8 w'') := fun h => by
            obtain ⟨qs, g1, g2⟩ := HOk.out h
            exact recsameP w8 _ _ qs ps (g1.below hb8) (HRs.out w8 HB8.out) g2
          clear hb8 HB7 HOk HSm k0 k1 k2 k3 k4 k5 k6 x0 x1 x2 x3 x4 x5 x6
          cases ok
          · clear HOk8
            go_wp2
            go_ret
            exact ⟨rfl, HB8.out⟩
          · have HEq := HOk8.out rfl
            have HEq' : Hid (Calls Tryz.prog 11 #[y, .slice pa m pc, .func (.func 12) #[] #[]] w8 fun e w'' => e = .returned (.bool true) ∧ Below w8.heap.size w8 w'') := HEq
            clear HEq HOk8
            go_wp2_with fail
            refine HEq'.out.mono ?_
            rintro e w9 ⟨rfl, hb9⟩
            have HB9 : Hid (Below w.heap.size w w9) := HB8.out.trans (hb9.mono HB8.out.size)
            clear hb9 HB8 HEq'
            go_wp2
            go_ret
            exact ⟨rfl, HB9.out⟩
end Go.Proofs.YtpenkhehceglfaaGreatDoor
