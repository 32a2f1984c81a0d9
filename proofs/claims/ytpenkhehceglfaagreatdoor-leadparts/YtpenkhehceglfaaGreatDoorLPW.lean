/- The walk of LeadParts: records replayed in two parts are as replayed in one; and from a disk as from a list. (Written by tools/gen_leadparts.py.) -/
import Derived.Test.YtpenkhehceglfaaGreatDoorLVH
import Derived.Test.YtpenkhehceglfaaGreatDoorMQ
import Derived.Test.YtpenkhehceglfaaGreatDoorLL1
import Derived.Test.YtpenkhehceglfaaGreatDoorLPD
import Derived.Test.YtpenkhehceglfaaGreatDoorMI
import Derived.Test.YtpenkhehceglfaaGreatDoorAt
namespace Go.Proofs.YtpenkhehceglfaaGreatDoor
open Go.RowKit
theorem recs_takeL {w : World} {p : Option Addr} {n c : Nat} {ps : List (Lk.Note × Value)} (h : RecsAt w (.slice p n c) ps) (k : Nat) (hk : k ≤ ps.length) : RecsAt w (.slice p k c) (ps.take k) := by
  obtain ⟨hl, p', c', e, hc, h1, h2, h3, h4⟩ := h
  simp only [Value.slice.injEq] at e
  obtain ⟨rfl, rfl, rfl⟩ := e
  have hlen : (ps.take k).length = k := by rw [List.length_take]; omega
  refine ⟨by omega, p, c, by rw [hlen], by omega, fun e => ⟨(h1 e).1, by have := (h1 e).2; omega⟩, fun ad ha h0 => h2 ad ha (by omega), fun ad ha j u hu => h3 ad ha j u ?_, fun q hq => h4 q (List.mem_of_mem_take hq)⟩
  have e : flatR ps = flatR (ps.take k) ++ flatR (ps.drop k) := by rw [← flatR_append, List.take_append_drop]
  have hj := (List.getElem?_eq_some_iff.1 hu).1
  rw [e, List.getElem?_append_left hj]
  exact hu
theorem recsameL (w : World) (va vb : Value) (ps qs : List (Lk.Note × Value)) (h1 : RecsAt w va ps) (h2 : RecsAt w vb qs) (he : ps.map Prod.fst = qs.map Prod.fst) :
    Calls Tryz.prog 11 #[va, vb, .func (.func 12) #[] #[]] w fun e w' => e = .returned (.bool true) ∧ Below w.heap.size w w' := by
  have := equalF_any 12 (fun _ _ => by simp [go_sem]) Lk.sameNote (fun r q v u w h h' => same_any r q v u w h h') va vb ps qs w h1 h2
  rwa [he, all2_self Lk.sameNote Lk.sameNote_self] at this
theorem lnext_note {c : Ld.Config} {a : Ld.Leader} {r : Lk.Note} (h : (Ld.nextL c a r).2 = 0) : Lk.chkNote r = 0 := by
  unfold Ld.nextL at h
  by_cases h1 : Ld.chkLeader c a = 0
  · rw [if_pos h1] at h
    by_cases h2 : Lk.chkNote r = 0
    · exact h2
    · rw [if_neg h2] at h; exact h
  · rw [if_neg h1] at h; exact absurd h h1
theorem lrep_allok (c : Ld.Config) : ∀ (rs : List Lk.Note) (a : Ld.Leader), (Ld.replayFrom c a rs).2 = 0 → Lk.allOk rs := by
  intro rs
  induction rs with
  | nil => intro a _ r hr; cases hr
  | cons r t ih =>
    intro a h
    rw [Ld.replayFrom] at h
    by_cases hn : (Ld.nextL c a r).2 = 0
    · rw [if_pos hn] at h
      intro x hx
      rcases List.mem_cons.1 hx with rfl | hx
      · exact lnext_note hn
      · exact ih _ h x hx
    · rw [if_neg hn] at h; exact absurd h hn
theorem lrep_good {c : Ld.Config} {rs : List Lk.Note} {A : Ld.Leader} (h : Ld.replayL c rs = (A, 0)) : rs.length ≤ 200 ∧ Lk.allOk rs ∧ ∀ k, ∃ B, Ld.replayL c (rs.take k) = (B, 0) ∧ Ld.replayFrom c B (rs.drop k) = (A, 0) := by
  unfold Ld.replayL at h
  by_cases hc : Ld.chkConfig c = 0
  · rw [if_pos hc] at h
    by_cases hm : 200 < rs.length
    · rw [if_pos hm] at h
      exact absurd (congrArg Prod.snd h) (by simp)
    · rw [if_neg hm] at h
      have h2 : (Ld.replayFrom c (Ld.freshL c) rs).2 = 0 := by rw [h]
      refine ⟨by omega, lrep_allok c rs _ h2, fun k => ?_⟩
      have h3 := h2
      rw [← List.take_append_drop k rs] at h3
      obtain ⟨g1, g2⟩ := Ld.replay_app c _ _ _ h3
      refine ⟨(Ld.replayFrom c (Ld.freshL c) (rs.take k)).1, ?_, ?_⟩
      · unfold Ld.replayL
        rw [if_pos hc, if_neg (by rw [List.length_take]; omega)]
        exact Prod.ext rfl g1
      · rw [g2, List.take_append_drop]; exact h
  · rw [if_neg hc] at h
    exact absurd (congrArg Prod.snd h) hc
theorem six_far (x : World) (b : Nat) (v0 v1 v2 v3 v4 v5 : Value) (g o : Nat) (h : g ≠ b) : ((((((x.setCell ⟨b, 0, none⟩ v0).setCell ⟨b, 1, none⟩ v1).setCell ⟨b, 2, none⟩ v2).setCell ⟨b, 3, none⟩ v3).setCell ⟨b, 4, none⟩ v4).setCell ⟨b, 5, none⟩ v5).cell? ⟨g, o, none⟩ = x.cell? ⟨g, o, none⟩ := by
  have hn : ∀ j, (⟨b, j, none⟩ : Addr) ≠ ⟨g, o, none⟩ := fun j e => h (by injection e with e1; exact e1.symm)
  rw [World.cell?_setCell_other _ _ _ _ (hn _), World.cell?_setCell_other _ _ _ _ (hn _), World.cell?_setCell_other _ _ _ _ (hn _), World.cell?_setCell_other _ _ _ _ (hn _), World.cell?_setCell_other _ _ _ _ (hn _), World.cell?_setCell_other _ _ _ _ (hn _)]
theorem lt_ald (w : World) (O : Obj) : w.heap.size < ((w.alloc O).drew).heap.size := by show _ < (w.alloc O).heap.size; rw [World.size_alloc]; omega
theorem leafA {w3 y : World} {base : Nat} {P : World → Prop} (cs : Array Value) (t : TypeId) (hB : Below w3.heap.size w3 y) (hN : New base P y) : Hid (w3.heap.size ≤ y.heap.size ∧ Blk (y.alloc (.cells cs t)) y.heap.size cs t ∧ Keep (fun x => x = y.heap.size) P (y.alloc (.cells cs t)) ∧ Below w3.heap.size w3 (y.alloc (.cells cs t))) :=
  ⟨hB.size, blk_alloc y _ _, Keep.grow hN ((Below.refl _ _).alloc (Nat.le_refl _) _) (fun _ hx => .inr (Nat.le_of_eq hx.symm)), hB.alloc hB.size _⟩
theorem leafB {w3 y : World} {base : Nat} {P : World → Prop} {t : TypeId} (hB : Below w3.heap.size w3 y) (hN : New base P y) (hl : w3.heap.size < base) (hZ : Blk y w3.heap.size #[.slice none 0 0, .int .i64 0, .int .i64 0, .bool false, .slice none 0 0, .int .i64 0] t) (v0 v1 v2 v3 v4 v5 : Value) : Hid (w3.heap.size ≤ w3.heap.size ∧ Blk ((((((y.setCell ⟨w3.heap.size, 0, none⟩ v0).setCell ⟨w3.heap.size, 1, none⟩ v1).setCell ⟨w3.heap.size, 2, none⟩ v2).setCell ⟨w3.heap.size, 3, none⟩ v3).setCell ⟨w3.heap.size, 4, none⟩ v4).setCell ⟨w3.heap.size, 5, none⟩ v5) w3.heap.size #[v0, v1, v2, v3, v4, v5] t ∧ Keep (fun x => x = w3.heap.size) P ((((((y.setCell ⟨w3.heap.size, 0, none⟩ v0).setCell ⟨w3.heap.size, 1, none⟩ v1).setCell ⟨w3.heap.size, 2, none⟩ v2).setCell ⟨w3.heap.size, 3, none⟩ v3).setCell ⟨w3.heap.size, 4, none⟩ v4).setCell ⟨w3.heap.size, 5, none⟩ v5) ∧ Below w3.heap.size w3 ((((((y.setCell ⟨w3.heap.size, 0, none⟩ v0).setCell ⟨w3.heap.size, 1, none⟩ v1).setCell ⟨w3.heap.size, 2, none⟩ v2).setCell ⟨w3.heap.size, 3, none⟩ v3).setCell ⟨w3.heap.size, 4, none⟩ v4).setCell ⟨w3.heap.size, 5, none⟩ v5)) :=
  ⟨Nat.le_refl _, hZ.six6 v0 v1 v2 v3 v4 v5, Keep.six (Keep.sub hN (fun x (hx : x = w3.heap.size) => by rw [hx]; exact hl)) rfl _ _ _ _ _ _, below_six hB (Nat.le_refl _) _ _ _ _ _ _⟩
set_option maxHeartbeats 32000000 in
set_option maxRecDepth 100000 in
theorem ldParts_any (cf : Ld.Config) (A B D vs : Value) (kz : Int) (ps : List (Lk.Note × Value)) (w : World) (hE : Env w) (hC : CfAt w cf A B D) (hR : RecsAt w vs ps) :
    Calls Tryz.prog 4 #[cfV cf A B D, vs, .int .i64 kz] w fun e w' => e = .returned (.bool true) ∧ Below w.heap.size w w' := by
  obtain ⟨pa, pc, rfl⟩ := recs_slice hR
  have hpc : ps.length ≤ pc := by
    obtain ⟨_, p', c', e, hc, _⟩ := hR
    simp only [Value.slice.injEq] at e
    omega
  have HR1 : Hid (∀ w', Below w.heap.size w w' → Calls Tryz.prog 13 #[cfV cf A B D, .slice pa ps.length pc] w' fun e w'' => leN w'' w'.heap.size (Ld.replayL cf (ps.map Prod.fst)) e ∧ Below w'.heap.size w' w'') := fun w' hb => ldReplay_any cf A B D ps _ w' (hC.below hb) (hR.below hb)
  have HR2 : Hid (∀ k : Nat, k ≤ ps.length → ∀ w', Below w.heap.size w w' → Calls Tryz.prog 13 #[cfV cf A B D, .slice pa k pc] w' fun e w'' => leN w'' w'.heap.size (Ld.replayL cf ((ps.map Prod.fst).take k)) e ∧ Below w'.heap.size w' w'') := fun k hk w' hb => by
    have := ldReplay_any cf A B D (ps.take k) _ w' (hC.below hb) (recs_takeL (hR.below hb) k hk)
    rw [List.map_take] at this
    exact this
  have HNX : Hid (∀ (ld : Ld.Leader) (Y Z : Value) (r : Lk.Note) (z : Value) (w' : World), Below w.heap.size w w' → LdAt w' ld Y Z → PinsAt w' z r.lock → Calls Tryz.prog 15 #[cfV cf A B D, leV ld Y Z, .agg #[.int .i64 r.kind, .int .i64 r.agent, .int .i64 r.tr, .int .i64 r.n, .bool r.good, .int .i64 r.id, z]] w' fun e w'' => leN w'' w'.heap.size (Ld.nextL cf ld r) e ∧ Below w'.heap.size w' w'') := fun ld Y Z r z w' hb h1 h2 => ldNext_any cf A B D ld Y Z r.kind r.agent r.tr r.n r.id r.good r.lock z w' (hC.below hb) h1 h2
  have HRs : Hid (∀ w', Below w.heap.size w w' → RecsAt w' (.slice pa ps.length pc) ps) := fun w' hb => hR.below hb
  have HOD : Hid (Lk.allOk (ps.map Prod.fst) → ps.length ≤ 200 → ∀ w', Below w.heap.size w w' → Calls Tryz.prog 9 #[.slice pa ps.length pc] w' fun e w'' => (∃ y ok, e = .returned (.tuple #[y, .bool ok]) ∧ (ok = true → ∃ qs, RecsAt w'' y qs ∧ qs.map Prod.fst = ps.map Prod.fst)) ∧ Below w'.heap.size w' w'') := fun h1 h2 w' hb => onDisk_any _ ps w' (hE.below hb) (hR.below hb) h1 h2
  have F1 : Hid (∀ A, Ld.replayL cf (ps.map Prod.fst) = (A, 0) → ps.length ≤ 200 ∧ Lk.allOk (ps.map Prod.fst) ∧ ∀ k, ∃ B, Ld.replayL cf ((ps.map Prod.fst).take k) = (B, 0) ∧ Ld.replayFrom cf B ((ps.drop k).map Prod.fst) = (A, 0)) := fun A h => by
    obtain ⟨h1, h2, h3⟩ := lrep_good h
    refine ⟨by simpa using h1, h2, fun k => ?_⟩
    obtain ⟨B, g1, g2⟩ := h3 k
    exact ⟨B, g1, by rw [List.map_drop]; exact g2⟩
  have HST : Hid (∀ (A : Ld.Leader) (k : Nat) (r : Lk.Note) (z : Value), ps[k]? = some (r, z) → Ld.replayFrom cf A ((ps.drop k).map Prod.fst) = if (Ld.nextL cf A r).2 = 0 then Ld.replayFrom cf (Ld.nextL cf A r).1 ((ps.drop (k + 1)).map Prod.fst) else (Ld.Leader.none, (Ld.nextL cf A r).2)) := fun A k r z h => lrep_step h
  have HEN : Hid (∀ (A : Ld.Leader) (k : Nat), ps.length ≤ k → Ld.replayFrom cf A ((ps.drop k).map Prod.fst) = (A, 0)) := fun A k h => lrep_end h
  obtain ⟨f, L, R, Wv, d⟩ := cf
  obtain ⟨a1, c1, rfl⟩ := pins_slice hC.1
  obtain ⟨a2, c2, rfl⟩ := rules_slice hC.2.1
  obtain ⟨a3, c3, rfl⟩ := waves_slice hC.2.2
  clear hE hC hR
  unfold cfV cfC at HR1 HR2 HNX
  unfold cfV cfC
  simp only at HR1 HR2 HNX ⊢
  generalize hQ : Ld.replayL ⟨f, L, R, Wv, d⟩ (ps.map Prod.fst) = Q at HR1 F1
  clear hQ
  generalize hcc : (⟨f, L, R, Wv, d⟩ : Ld.Config) = cc at HR2 HNX F1 HST HEN
  clear hcc
  generalize L.length = n1 at *
  generalize R.length = n2 at *
  generalize Wv.length = n3 at *
  obtain ⟨⟨ql, qn, qg, qb, qk, qx⟩, QE⟩ := Q
  generalize hm : ps.length = m at HR1 HR2 HRs HOD F1 HEN hpc ⊢
  have HM : Hid (ps.length = m) := hm
  clear hm
  have HB0 : Hid (Below w.heap.size w (w.alloc (.cells #[.int .i64 f, .slice a1 n1 c1, .slice a2 n2 c2, .slice a3 n3 c3, .int .i64 d] 45))) := (Below.refl _ w).alloc (Nat.le_refl _) _
  have HK : Hid (Blk (w.alloc (.cells #[.int .i64 f, .slice a1 n1 c1, .slice a2 n2 c2, .slice a3 n3 c3, .int .i64 d] 45)) w.heap.size #[.int .i64 f, .slice a1 n1 c1, .slice a2 n2 c2, .slice a3 n3 c3, .int .i64 d] 45) := blk_alloc w _ _
  go_enter Tryz.func4, Tryz.ntmps4
  go_upto_region 1 with fail
  generalize (w.alloc (.cells #[.int .i64 f, .slice a1 n1 c1, .slice a2 n2 c2, .slice a3 n3 c3, .int .i64 d] 45)) = w0 at HB0 HK ⊢
  have k0 := HK.out.cell 0
  have k1 := HK.out.cell 1
  have k2 := HK.out.cell 2
  have k3 := HK.out.cell 3
  have k4 := HK.out.cell 4
  simp only [List.getElem?_toArray, List.getElem?_cons_zero, List.getElem?_cons_succ] at k0 k1 k2 k3 k4
  go_wp2_with fail
  refine (HR1.out _ HB0.out).mono ?_
  rintro e w1 ⟨⟨z1, z2, rfl, hzn⟩, hb1⟩
  have hz := hzn.here
  obtain ⟨sa, sc, rfl⟩ := relA_slice hz.1
  obtain ⟨ta, tc, rfl⟩ := knows_slice hz.2
  simp only [leV, leC]
  simp only at hz
  generalize ql.length = sn at hz ⊢
  generalize qk.length = tn at hz ⊢
  clear k0 k1 k2 k3 k4 HR1 hzn
  have hbA : Below w1.heap.size w1 (w1.alloc (.cells #[.slice sa sn sc, .int .i64 qn, .int .i64 qg, .bool qb, .slice ta tn tc, .int .i64 qx] 49)) := (Below.refl _ _).alloc (Nat.le_refl _) _
  have hbX : Below w0.heap.size w0 (w1.alloc (.cells #[.slice sa sn sc, .int .i64 qn, .int .i64 qg, .bool qb, .slice ta tn tc, .int .i64 qx] 49)) := hb1.trans (hbA.mono hb1.size)
  have HB1 : Hid (Below w.heap.size w (w1.alloc (.cells #[.slice sa sn sc, .int .i64 qn, .int .i64 qg, .bool qb, .slice ta tn tc, .int .i64 qx] 49))) := HB0.out.trans (hbX.mono HB0.out.size)
  have HK1 : Hid (Blk (w1.alloc (.cells #[.slice sa sn sc, .int .i64 qn, .int .i64 qg, .bool qb, .slice ta tn tc, .int .i64 qx] 49)) w.heap.size #[.int .i64 f, .slice a1 n1 c1, .slice a2 n2 c2, .slice a3 n3 c3, .int .i64 d] 45) := HK.out.below hbX
  have HQ1 : Hid (Blk (w1.alloc (.cells #[.slice sa sn sc, .int .i64 qn, .int .i64 qg, .bool qb, .slice ta tn tc, .int .i64 qx] 49)) w1.heap.size #[.slice sa sn sc, .int .i64 qn, .int .i64 qg, .bool qb, .slice ta tn tc, .int .i64 qx] 49) := blk_alloc w1 _ _
  have P1 : Hid (LdAt (w1.alloc (.cells #[.slice sa sn sc, .int .i64 qn, .int .i64 qg, .bool qb, .slice ta tn tc, .int .i64 qx] 49)) ⟨ql, qn, qg, qb, qk, qx⟩ (.slice sa sn sc) (.slice ta tn tc)) := hz.below hbA
  clear hbA hbX hb1 hz HB0 HK
  go_upto_region 2 with fail
  generalize (w1.alloc (.cells #[.slice sa sn sc, .int .i64 qn, .int .i64 qg, .bool qb, .slice ta tn tc, .int .i64 qx] 49)) = W1 at HB1 HK1 HQ1 P1 ⊢
  generalize w1.heap.size = g7 at HQ1 ⊢
  go_wp2_with fail
  refine (led_any _).mono ?_
  rintro e w2 ⟨rfl, hb2⟩
  have HB2 : Hid (Below w.heap.size w w2) := HB1.out.trans (hb2.mono HB1.out.size)
  replace HK1 : Hid (Blk w2 _ _ _) := HK1.out.below hb2
  replace HQ1 : Hid (Blk w2 _ _ _) := HQ1.out.below hb2
  replace P1 : Hid (LdAt w2 ⟨ql, qn, qg, qb, qk, qx⟩ (.slice sa sn sc) (.slice ta tn tc)) := P1.out.below hb2
  clear hb2 HB1
  by_cases hE : QE = 0
  rotate_left
  · have hEb : (QE != 0) = true := by rw [bne_iff_ne]; exact hE
    clear hE HR2 HNX HRs HOD F1 HST HEN HK1 HQ1 P1
    go_wp2_with fail
    refine (led_any _).mono ?_
    rintro e w9 ⟨rfl, hb9⟩
    have HB9 : Hid (Below w.heap.size w w9) := HB2.out.trans (hb9.mono HB2.out.size)
    clear hb9 HB2
    go_wp2
    go_ret
    exact ⟨rfl, HB9.out⟩
  subst hE
  obtain ⟨hm200, hAO, hPt⟩ := F1.out _ rfl
  have HPt : Hid (∀ k, ∃ B, Ld.replayL cc ((ps.map Prod.fst).take k) = (B, 0) ∧ Ld.replayFrom cc B ((ps.drop k).map Prod.fst) = (⟨ql, qn, qg, qb, qk, qx⟩, 0)) := hPt
  have HO' := HOD.out hAO hm200
  have HOd : Hid (∀ w', Below w.heap.size w w' → Calls Tryz.prog 9 #[.slice pa m pc] w' fun e w'' => (∃ y ok, e = .returned (.tuple #[y, .bool ok]) ∧ (ok = true → ∃ qs, RecsAt w'' y qs ∧ qs.map Prod.fst = ps.map Prod.fst)) ∧ Below w'.heap.size w' w'') := HO'
  have hmi : (m : Int) ≤ 200 := by omega
  clear HO' HOD F1 hAO hPt
  have HAt : Hid (∀ w', Calls Tryz.prog 7 #[.int .i64 kz, .int .i64 ((m : Int) + 1)] w' fun e w'' => (∃ j : Nat, e = .returned (.int .i64 j) ∧ j < m + 1) ∧ w'' = w') := fun w' => at_any kz (m + 1) (by omega) (by omega) w'
  go_wp2_with fail
  refine (HAt.out _).mono ?_
  rintro e w3 ⟨⟨kk, rfl, hkk⟩, hw3⟩
  subst hw3
  clear HAt
  have hk1 : kk ≤ m := by omega
  have hk2 : (kk : Int) ≤ (m : Int) := by omega
  have hk3 : (kk : Int) ≤ (pc : Int) := by omega
  obtain ⟨⟨bl, bn, bg, bb, bm, bx⟩, hB1, hB2⟩ := HPt.out kk
  have HR3 : Hid (∀ w', Below w.heap.size w w' → Calls Tryz.prog 13 #[.agg #[.int .i64 f, .slice a1 n1 c1, .slice a2 n2 c2, .slice a3 n3 c3, .int .i64 d], .slice pa kk pc] w' fun e w'' => leN w'' w'.heap.size (⟨bl, bn, bg, bb, bm, bx⟩, 0) e ∧ Below w'.heap.size w' w'') := fun w' hb => by
    have := HR2.out kk hk1 w' hb
    rw [hB1] at this
    exact this
  have HF0 : Hid (Ld.replayFrom cc ⟨bl, bn, bg, bb, bm, bx⟩ ((ps.drop kk).map Prod.fst) = (⟨ql, qn, qg, qb, qk, qx⟩, 0)) := hB2
  clear hB1 hB2 HPt HR2 hkk
  go_upto_region 5 with fail
  go_cut [8, 9] from 32 to 39 (fun s8 s9 wx => ∃ (g9 : Nat) (Y Z : Value), s8 = .int .i64 0 ∧ s9 = .pointer (some ⟨g9, 0, none⟩) ∧ Hid (w3.heap.size ≤ g9 ∧ Blk wx g9 #[Y, .int .i64 bn, .int .i64 bg, .bool bb, Z, .int .i64 bx] 49 ∧ Keep (fun x => x = g9) (fun w => LdAt w ⟨bl, bn, bg, bb, bm, bx⟩ Y Z) wx ∧ Below w3.heap.size w3 wx))
  case first =>
    have hKd := HK1.out
    have S0 : Hid (w3.drew.cell? ⟨w.heap.size, 0, none⟩ = some (.int .i64 f) ∧ w3.drew.cell? ⟨w.heap.size, 1, none⟩ = some (.slice a1 n1 c1) ∧ w3.drew.cell? ⟨w.heap.size, 2, none⟩ = some (.slice a2 n2 c2) ∧ w3.drew.cell? ⟨w.heap.size, 3, none⟩ = some (.slice a3 n3 c3) ∧ w3.drew.cell? ⟨w.heap.size, 4, none⟩ = some (.int .i64 d) ∧ Hid (Below w3.heap.size w3 w3.drew)) := ⟨hKd.cell 0, hKd.cell 1, hKd.cell 2, hKd.cell 3, hKd.cell 4, (Below.refl _ w3).drew⟩
    have S7 : Hid (w3.cell? ⟨w.heap.size, 0, none⟩ = some (.int .i64 f) ∧ w3.cell? ⟨w.heap.size, 1, none⟩ = some (.slice a1 n1 c1) ∧ w3.cell? ⟨w.heap.size, 2, none⟩ = some (.slice a2 n2 c2) ∧ w3.cell? ⟨w.heap.size, 3, none⟩ = some (.slice a3 n3 c3) ∧ w3.cell? ⟨w.heap.size, 4, none⟩ = some (.int .i64 d) ∧ Hid (Below w3.heap.size w3 w3)) := ⟨hKd.cell 0, hKd.cell 1, hKd.cell 2, hKd.cell 3, hKd.cell 4, Below.refl _ w3⟩
    have KP : Hid (∀ x y : World, Below x.heap.size x y → (x.cell? ⟨w.heap.size, 0, none⟩ = some (.int .i64 f) ∧ x.cell? ⟨w.heap.size, 1, none⟩ = some (.slice a1 n1 c1) ∧ x.cell? ⟨w.heap.size, 2, none⟩ = some (.slice a2 n2 c2) ∧ x.cell? ⟨w.heap.size, 3, none⟩ = some (.slice a3 n3 c3) ∧ x.cell? ⟨w.heap.size, 4, none⟩ = some (.int .i64 d) ∧ Hid (Below w3.heap.size w3 x)) → (y.cell? ⟨w.heap.size, 0, none⟩ = some (.int .i64 f) ∧ y.cell? ⟨w.heap.size, 1, none⟩ = some (.slice a1 n1 c1) ∧ y.cell? ⟨w.heap.size, 2, none⟩ = some (.slice a2 n2 c2) ∧ y.cell? ⟨w.heap.size, 3, none⟩ = some (.slice a3 n3 c3) ∧ y.cell? ⟨w.heap.size, 4, none⟩ = some (.int .i64 d) ∧ Hid (Below w3.heap.size w3 y))) := fun x y hb h => by
      obtain ⟨h0, h1, h2, h3, h4, hB⟩ := h
      have e : ∀ b o v, x.cell? ⟨b, o, none⟩ = some v → y.cell? ⟨b, o, none⟩ = some v := fun b o v hc => (hb.cell (p := ⟨b, o, none⟩) (World.block_lt_of_cell? x _ hc)).trans hc
      exact ⟨e _ _ _ h0, e _ _ _ h1, e _ _ _ h2, e _ _ _ h3, e _ _ _ h4, hB.out.trans (hb.mono hB.out.size)⟩
    have KA : Hid (∀ (x : World) O, Below x.heap.size x (x.alloc O)) := fun x O => (Below.refl _ x).alloc (Nat.le_refl _) O
    have KD : Hid (∀ O, Below w3.heap.size w3 (w3.alloc O).drew) := fun O => ((Below.refl _ w3).alloc (Nat.le_refl _) O).drew
    have KT : Hid (∀ (x : World) b v0 v1 v2 v3 v4 v5, (x.cell? ⟨w.heap.size, 0, none⟩ = some (.int .i64 f) ∧ x.cell? ⟨w.heap.size, 1, none⟩ = some (.slice a1 n1 c1) ∧ x.cell? ⟨w.heap.size, 2, none⟩ = some (.slice a2 n2 c2) ∧ x.cell? ⟨w.heap.size, 3, none⟩ = some (.slice a3 n3 c3) ∧ x.cell? ⟨w.heap.size, 4, none⟩ = some (.int .i64 d) ∧ Hid (Below w3.heap.size w3 x)) → w.heap.size ≠ b → w3.heap.size ≤ b → (((((((x.setCell ⟨b, 0, none⟩ v0).setCell ⟨b, 1, none⟩ v1).setCell ⟨b, 2, none⟩ v2).setCell ⟨b, 3, none⟩ v3).setCell ⟨b, 4, none⟩ v4).setCell ⟨b, 5, none⟩ v5).cell? ⟨w.heap.size, 0, none⟩ = some (.int .i64 f) ∧ ((((((x.setCell ⟨b, 0, none⟩ v0).setCell ⟨b, 1, none⟩ v1).setCell ⟨b, 2, none⟩ v2).setCell ⟨b, 3, none⟩ v3).setCell ⟨b, 4, none⟩ v4).setCell ⟨b, 5, none⟩ v5).cell? ⟨w.heap.size, 1, none⟩ = some (.slice a1 n1 c1) ∧ ((((((x.setCell ⟨b, 0, none⟩ v0).setCell ⟨b, 1, none⟩ v1).setCell ⟨b, 2, none⟩ v2).setCell ⟨b, 3, none⟩ v3).setCell ⟨b, 4, none⟩ v4).setCell ⟨b, 5, none⟩ v5).cell? ⟨w.heap.size, 2, none⟩ = some (.slice a2 n2 c2) ∧ ((((((x.setCell ⟨b, 0, none⟩ v0).setCell ⟨b, 1, none⟩ v1).setCell ⟨b, 2, none⟩ v2).setCell ⟨b, 3, none⟩ v3).setCell ⟨b, 4, none⟩ v4).setCell ⟨b, 5, none⟩ v5).cell? ⟨w.heap.size, 3, none⟩ = some (.slice a3 n3 c3) ∧ ((((((x.setCell ⟨b, 0, none⟩ v0).setCell ⟨b, 1, none⟩ v1).setCell ⟨b, 2, none⟩ v2).setCell ⟨b, 3, none⟩ v3).setCell ⟨b, 4, none⟩ v4).setCell ⟨b, 5, none⟩ v5).cell? ⟨w.heap.size, 4, none⟩ = some (.int .i64 d) ∧ Hid (Below w3.heap.size w3 ((((((x.setCell ⟨b, 0, none⟩ v0).setCell ⟨b, 1, none⟩ v1).setCell ⟨b, 2, none⟩ v2).setCell ⟨b, 3, none⟩ v3).setCell ⟨b, 4, none⟩ v4).setCell ⟨b, 5, none⟩ v5)))) := fun x b v0 v1 v2 v3 v4 v5 h hg hl => by
      obtain ⟨h0, h1, h2, h3, h4, hB⟩ := h
      exact ⟨(six_far x b _ _ _ _ _ _ _ _ hg).trans h0, (six_far x b _ _ _ _ _ _ _ _ hg).trans h1, (six_far x b _ _ _ _ _ _ _ _ hg).trans h2, (six_far x b _ _ _ _ _ _ _ _ hg).trans h3, (six_far x b _ _ _ _ _ _ _ _ hg).trans h4, below_six hB.out hl _ _ _ _ _ _⟩
    have SP : Hid (∀ x : World, (x.cell? ⟨w.heap.size, 0, none⟩ = some (.int .i64 f) ∧ x.cell? ⟨w.heap.size, 1, none⟩ = some (.slice a1 n1 c1) ∧ x.cell? ⟨w.heap.size, 2, none⟩ = some (.slice a2 n2 c2) ∧ x.cell? ⟨w.heap.size, 3, none⟩ = some (.slice a3 n3 c3) ∧ x.cell? ⟨w.heap.size, 4, none⟩ = some (.int .i64 d) ∧ Hid (Below w3.heap.size w3 x)) → Below w.heap.size w x) := fun x h => HB2.out.trans (h.2.2.2.2.2.out.mono HB2.out.size)
    have hl1 : w.heap.size < w3.heap.size := hKd.lt
    have hl3 : w.heap.size ≠ w3.heap.size := by omega
    have hl5 : w3.heap.size ≤ w3.heap.size := Nat.le_refl _
    have HZA : Hid (Blk (w3.alloc (.cells #[.slice none 0 0, .int .i64 0, .int .i64 0, .bool false, .slice none 0 0, .int .i64 0] 49)).drew w3.heap.size #[.slice none 0 0, .int .i64 0, .int .i64 0, .bool false, .slice none 0 0, .int .i64 0] 49) := blk_alloc w3 _ _
    clear hKd
    go_wp2_with fail
    go_region_held3 (fun w' => w'.cell? ⟨w.heap.size, 0, none⟩ = some (.int .i64 f) ∧ w'.cell? ⟨w.heap.size, 1, none⟩ = some (.slice a1 n1 c1) ∧ w'.cell? ⟨w.heap.size, 2, none⟩ = some (.slice a2 n2 c2) ∧ w'.cell? ⟨w.heap.size, 3, none⟩ = some (.slice a3 n3 c3) ∧ w'.cell? ⟨w.heap.size, 4, none⟩ = some (.int .i64 d) ∧ Hid (Below w3.heap.size w3 w')) (first | with_reducible exact KT.out _ _ _ _ _ _ _ _ HSy.out hl3 hl5 | with_reducible exact KP.out _ _ (by assumption) (by assumption) | with_reducible exact S0.out | with_reducible exact KP.out _ _ (KA.out _ _) (by assumption) | with_reducible exact KP.out _ _ (KD.out _) S7.out | with_reducible exact KP.out _ _ (KA.out _ _) HSy.out)
      (first | (go_at_call 13; refine (HR3.out _ (SP.out _ (by assumption))).mono ?_; rintro e y ⟨⟨z1, z2, rfl, hzn⟩, hby⟩; have hz := hzn.here; obtain ⟨xa, xc, rfl⟩ := relA_slice hz.1; obtain ⟨ya, yc, rfl⟩ := knows_slice hz.2; simp only [leV, leC]; have HSy : Hid (y.cell? ⟨w.heap.size, 0, none⟩ = some (.int .i64 f) ∧ y.cell? ⟨w.heap.size, 1, none⟩ = some (.slice a1 n1 c1) ∧ y.cell? ⟨w.heap.size, 2, none⟩ = some (.slice a2 n2 c2) ∧ y.cell? ⟨w.heap.size, 3, none⟩ = some (.slice a3 n3 c3) ∧ y.cell? ⟨w.heap.size, 4, none⟩ = some (.int .i64 d) ∧ Hid (Below w3.heap.size w3 y)) := KP.out _ _ hby (by assumption); have HN8 : Hid (New _ _ y) := hzn; try (have hz8 : Blk y w3.heap.size #[.slice none 0 0, .int .i64 0, .int .i64 0, .bool false, .slice none 0 0, .int .i64 0] 49 := (by with_reducible exact Blk.below HZA.out hby); have HZ8 : Hid (Blk y w3.heap.size #[.slice none 0 0, .int .i64 0, .int .i64 0, .bool false, .slice none 0 0, .int .i64 0] 49) := hz8; have d0 := hz8.cell 0; have df0 := hz8.free 0; have d1 := hz8.cell 1; have df1 := hz8.free 1; have d2 := hz8.cell 2; have df2 := hz8.free 2; have d3 := hz8.cell 3; have df3 := hz8.free 3; have d4 := hz8.cell 4; have df4 := hz8.free 4; have d5 := hz8.cell 5; have df5 := hz8.free 5; simp only [List.getElem?_toArray, List.getElem?_cons_zero, List.getElem?_cons_succ] at d0 d1 d2 d3 d4 d5; clear hz8); clear hz hzn))
    all_goals
      go_wp2_with fail
      go_meet
      have HBx : Hid (Below w3.heap.size w3 y) := HSy.out.2.2.2.2.2
      first
        | (have hZ := HZ8.out; refine ⟨w3.heap.size, _, _, rfl, rfl, leafB HBx.out HN8.out ?_ hZ _ _ _ _ _ _⟩; first | exact lt_ald _ _ | exact Nat.lt_succ_self _)
        | exact ⟨y.heap.size, _, _, rfl, rfl, leafA _ _ HBx.out HN8.out⟩
  case rest =>
    obtain ⟨g9, Y, Z, rfl, rfl, HX⟩ := hcut
    have HBc : Hid (Below w.heap.size w wc) := HB2.out.trans (HX.out.2.2.2.mono HB2.out.size)
    have HKf : Hid (Blk wc w.heap.size #[.int .i64 f, .slice a1 n1 c1, .slice a2 n2 c2, .slice a3 n3 c3, .int .i64 d] 45) := HK1.out.below HX.out.2.2.2
    have HQc : Hid (Blk wc g7 #[.slice sa sn sc, .int .i64 qn, .int .i64 qg, .bool qb, .slice ta tn tc, .int .i64 qx] 49) := HQ1.out.below HX.out.2.2.2
    have PQ : Hid (Keep (fun x => x = g9) (fun w => LdAt w ⟨ql, qn, qg, qb, qk, qx⟩ (.slice sa sn sc) (.slice ta tn tc)) wc) := Keep.older P1.out (ld_stab _ _ _) (fun x hx => hx ▸ HX.out.1) HX.out.2.2.2
    have HG9 : Hid (g7 < g9 ∧ w.heap.size < g9) := ⟨Nat.lt_of_lt_of_le HQ1.out.lt HX.out.1, Nat.lt_of_lt_of_le HK1.out.lt HX.out.1⟩
    have HKc : Hid (Blk wc g9 #[Y, .int .i64 bn, .int .i64 bg, .bool bb, Z, .int .i64 bx] 49) := HX.out.2.1
    have PB : Hid (Keep (fun x => x = g9) (fun w => LdAt w ⟨bl, bn, bg, bb, bm, bx⟩ Y Z) wc) := HX.out.2.2.1
    clear HX HB2 HK1 HQ1 P1 HR3
    go_upto_region 8 with fail
    go_cut [44, 45, 46] from 42 to 46 (fun s44 s45 s46 wx => ∃ (ra : Option Addr) (rc : Nat), s44 = .slice ra (m - kk) rc ∧ s45 = .int .i64 ((m - kk : Nat) : Int) ∧ s46 = .int .i64 0 ∧ wx = wc ∧ (kk < m → ∀ rb ro, pa = some ⟨rb, ro, none⟩ → ra = some ⟨rb, ro + kk * 7, none⟩))
    case first =>
      have hRS := HRs.out wc HBc.out
      by_cases hkm : kk < m
      · obtain ⟨rb, ro, hpa⟩ : ∃ rb ro, pa = some ⟨rb, ro, none⟩ := by
          obtain ⟨_, p', c', e, _, h1, h2, _, _⟩ := hRS
          simp only [Value.slice.injEq] at e
          obtain ⟨rfl, _, rfl⟩ := e
          have hl0 : 0 < ps.length := by have := HM.out; omega
          cases pa with
          | none => have := (h1 rfl).2; omega
          | some ad =>
            have := (h2 ad rfl hl0).1
            obtain ⟨b1, o1, s1⟩ := ad
            simp only at this
            subst this
            exact ⟨b1, o1, rfl⟩
        subst hpa
        have hkm1 : (kk : Int) < (m : Int) := by omega
        have hkm2 : ¬ (pc = kk) := by omega
        have hkm3 : ¬ (kk = pc) := by omega
        have hkm4 : kk < pc := by omega
        clear hRS
        go_wp2_with fail
        go_meet
        exact ⟨_, _, rfl, by go_num, rfl, rfl, fun _ rb' ro' e => by cases e; rfl⟩
      · have hkm' : kk = m := by omega
        subst hkm'
        clear hRS
        by_cases hpk : pc = kk
        · subst hpk
          go_wp2_with fail
          go_meet
          exact ⟨_, _, by rw [Nat.sub_self], by rw [Nat.sub_self]; go_num, rfl, rfl, fun h => absurd h (by omega)⟩
        · have hpk2 : ¬ kk = pc := fun h => hpk h.symm
          have hpk3 : kk < pc := by omega
          go_wp2_with fail
          go_meet
          exact ⟨_, _, by rw [Nat.sub_self], by rw [Nat.sub_self]; go_num, rfl, rfl, fun h => absurd h (by omega)⟩
    case rest =>
      obtain ⟨ra, rc, rfl, rfl, rfl, hwx, hra⟩ := hcut
      subst hwx
      have HRa : Hid (kk < m → ∀ rb ro, pa = some ⟨rb, ro, none⟩ → ra = some ⟨rb, ro + kk * 7, none⟩) := hra
      clear hra
      generalize hmk : m - kk = mk
      have HMk : Hid (m - kk = mk) := hmk
      have hmk2 : (mk : Int) ≤ 200 := by omega
      clear hmk
      go_wp2
      go_loopg [46] mk (fun gh s46 wr => ∃ (j : Nat) (ld : Ld.Leader) (Y Z : Value), j ≤ mk ∧ mk - j ≤ gh ∧ s46 = .int .i64 j ∧ Hid (Ld.replayFrom cc ld ((ps.drop (kk + j)).map Prod.fst) = (⟨ql, qn, qg, qb, qk, qx⟩, 0)) ∧ Hid (Blk wr g9 #[Y, .int .i64 ld.now, .int .i64 ld.goal, .bool ld.back, Z, .int .i64 ld.next] 49) ∧ Hid (Blk wr g7 #[.slice sa sn sc, .int .i64 qn, .int .i64 qg, .bool qb, .slice ta tn tc, .int .i64 qx] 49) ∧ Hid (Blk wr w.heap.size #[.int .i64 f, .slice a1 n1 c1, .slice a2 n2 c2, .slice a3 n3 c3, .int .i64 d] 45) ∧ Hid (Keep (fun x => x = g9) (fun w => LdAt w ld Y Z) wr) ∧ Hid (Keep (fun x => x = g9) (fun w => LdAt w ⟨ql, qn, qg, qb, qk, qx⟩ (.slice sa sn sc) (.slice ta tn tc)) wr) ∧ Hid (Below w.heap.size w wr))
      case atStart => exact ⟨0, ⟨bl, bn, bg, bb, bm, bx⟩, Y, Z, Nat.zero_le _, by omega, rfl, HF0, HKc, HQc, HKf, PB, PQ, HBc⟩
      case round =>
        clear HKc HQc HKf PB PQ HBc HF0
        obtain ⟨j, ld, Y, Z, hj, hgh, rfl, HFj, HKj, HQj, HCj, PBj, PQj, HBj⟩ := hrel
        obtain ⟨bl, bn, bg, bb, bm, bx⟩ := ld
        have hld := PBj.out.here
        obtain ⟨xa, xc, rfl⟩ := relA_slice hld.1
        obtain ⟨ya, yc, rfl⟩ := knows_slice hld.2
        simp only at HKj hld
        generalize hxn : bl.length = xn at HKj PBj hld
        generalize hyn : bm.length = yn at HKj PBj hld
        have HXN : Hid (bl.length = xn ∧ bm.length = yn) := ⟨hxn, hyn⟩
        clear hxn hyn
        by_cases hlt : j < mk
        · have hlt1 : (j : Int) < (mk : Int) := by omega
          have hlt2 : decide ((j : Int) < (mk : Int)) = true := decide_eq_true hlt1
          have hkj : kk + j < m := by have := HMk.out; omega
          obtain ⟨⟨r, z⟩, hr⟩ : ∃ x, ps[kk + j]? = some x := ⟨_, List.getElem?_eq_getElem (show kk + j < ps.length by have := HM.out; omega)⟩
          have hRS := HRs.out wr HBj.out
          obtain ⟨rb, ro, hpa, hrb, ce0, ce1, ce2, ce3, ce4, ce5, ce6⟩ := recs_at hRS hr
          have hra := HRa.out (by omega) rb ro hpa
          subst hra
          have hzp : PinsAt wr z r.lock := recs_pins hRS (r, z) (List.mem_of_getElem? hr)
          obtain ⟨b, fq, rfl⟩ := pins_slice hzp
          have HS1 := (HST.out ⟨bl, bn, bg, bb, bm, bx⟩ _ _ _ hr).symm.trans HFj.out
          have hn0 : (Ld.nextL cc ⟨bl, bn, bg, bb, bm, bx⟩ r).2 = 0 := by
            by_cases h : (Ld.nextL cc ⟨bl, bn, bg, bb, bm, bx⟩ r).2 = 0
            · exact h
            · rw [if_neg h] at HS1
              exact absurd (congrArg Prod.snd HS1) h
          rw [if_pos hn0] at HS1
          have HN1 : Hid (∀ w', Below wr.heap.size wr w' → Calls Tryz.prog 15 #[.agg #[.int .i64 f, .slice a1 n1 c1, .slice a2 n2 c2, .slice a3 n3 c3, .int .i64 d], leV ⟨bl, bn, bg, bb, bm, bx⟩ (.slice xa xn xc) (.slice ya yn yc), .agg #[.int .i64 r.kind, .int .i64 r.agent, .int .i64 r.tr, .int .i64 r.n, .bool r.good, .int .i64 r.id, .slice b r.lock.length fq]] w' fun e w'' => leN w'' w'.heap.size ((Ld.nextL cc ⟨bl, bn, bg, bb, bm, bx⟩ r).1, 0) e ∧ Below w'.heap.size w' w'') := fun w' hb => by
            have := HNX.out ⟨bl, bn, bg, bb, bm, bx⟩ _ _ r _ w' (HBj.out.trans (hb.mono HBj.out.size)) (hld.below hb) (hzp.below hb)
            rw [show Ld.nextL cc ⟨bl, bn, bg, bb, bm, bx⟩ r = ((Ld.nextL cc ⟨bl, bn, bg, bb, bm, bx⟩ r).1, 0) from Prod.ext rfl hn0] at this
            exact this
          clear hRS hzp hr hn0 hpa hld
          obtain ⟨r1, r2, r3, r4, r5, r6, r7⟩ := r
          have eo : ro + (kk + j) * 7 = ro + kk * 7 + j * 7 := by omega
          rw [eo] at ce0 ce1 ce2 ce3 ce4 ce5 ce6
          simp only at ce0 ce1 ce2 ce3 ce4 ce5 ce6
          unfold leV leC at HN1
          simp only at HN1
          generalize r7.length = q at HN1 ce6
          generalize (Ld.nextL cc ⟨bl, bn, bg, bb, bm, bx⟩ ⟨r1, r2, r3, r4, r5, r6, r7⟩).1 = NX at HS1 HN1
          have HS2 : Hid (Ld.replayFrom cc NX ((ps.drop (kk + (j + 1))).map Prod.fst) = (⟨ql, qn, qg, qb, qk, qx⟩, 0)) := HS1
          clear HS1 eo
          have hbR : Below wr.heap.size wr (wr.alloc (.cells #[.int .i64 r1, .int .i64 r2, .int .i64 r3, .int .i64 r4, .bool r5, .int .i64 r6, .slice b q fq] 34)) := (Below.refl _ _).alloc (Nat.le_refl _) _
          have HBR : Hid (Below wr.heap.size wr (wr.alloc (.cells #[.int .i64 r1, .int .i64 r2, .int .i64 r3, .int .i64 r4, .bool r5, .int .i64 r6, .slice b q fq] 34))) := hbR
          have HKR : Hid (Blk (wr.alloc (.cells #[.int .i64 r1, .int .i64 r2, .int .i64 r3, .int .i64 r4, .bool r5, .int .i64 r6, .slice b q fq] 34)) g9 #[.slice xa xn xc, .int .i64 bn, .int .i64 bg, .bool bb, .slice ya yn yc, .int .i64 bx] 49) := HKj.out.below hbR
          have HCR : Hid (Blk (wr.alloc (.cells #[.int .i64 r1, .int .i64 r2, .int .i64 r3, .int .i64 r4, .bool r5, .int .i64 r6, .slice b q fq] 34)) w.heap.size #[.int .i64 f, .slice a1 n1 c1, .slice a2 n2 c2, .slice a3 n3 c3, .int .i64 d] 45) := HCj.out.below hbR
          have HRR : Hid (Blk (wr.alloc (.cells #[.int .i64 r1, .int .i64 r2, .int .i64 r3, .int .i64 r4, .bool r5, .int .i64 r6, .slice b q fq] 34)) wr.heap.size #[.int .i64 r1, .int .i64 r2, .int .i64 r3, .int .i64 r4, .bool r5, .int .i64 r6, .slice b q fq] 34) := blk_alloc wr _ _
          clear hbR
          go_upto_region 11 with fail
          clear ce0 ce1 ce2 ce3 ce4 ce5 ce6 hrb
          generalize (wr.alloc (.cells #[.int .i64 r1, .int .i64 r2, .int .i64 r3, .int .i64 r4, .bool r5, .int .i64 r6, .slice b q fq] 34)) = w5 at HBR HKR HCR HRR ⊢
          have k0 := HKR.out.cell 0
          have k1 := HKR.out.cell 1
          have k2 := HKR.out.cell 2
          have k3 := HKR.out.cell 3
          have k4 := HKR.out.cell 4
          have k5 := HKR.out.cell 5
          simp only [List.getElem?_toArray, List.getElem?_cons_zero, List.getElem?_cons_succ] at k0 k1 k2 k3 k4 k5
          have u0 := HCR.out.cell 0
          have u1 := HCR.out.cell 1
          have u2 := HCR.out.cell 2
          have u3 := HCR.out.cell 3
          have u4 := HCR.out.cell 4
          simp only [List.getElem?_toArray, List.getElem?_cons_zero, List.getElem?_cons_succ] at u0 u1 u2 u3 u4
          have x0 := HRR.out.cell 0
          have x1 := HRR.out.cell 1
          have x2 := HRR.out.cell 2
          have x3 := HRR.out.cell 3
          have x4 := HRR.out.cell 4
          have x5 := HRR.out.cell 5
          have x6 := HRR.out.cell 6
          simp only [List.getElem?_toArray, List.getElem?_cons_zero, List.getElem?_cons_succ] at x0 x1 x2 x3 x4 x5 x6
          go_wp2_with fail
          refine (HN1.out _ HBR.out).mono ?_
          rintro e w6 ⟨⟨y1, y2, rfl, hzn⟩, hb6⟩
          obtain ⟨cl, cn, cg, cb, cm, cx⟩ := NX
          have hz := hzn.here
          obtain ⟨ua, uc, rfl⟩ := relA_slice hz.1
          obtain ⟨va, vc, rfl⟩ := knows_slice hz.2
          simp only [leV, leC]
          simp only at hz hzn
          have hbW : Below wr.heap.size wr w6 := HBR.out.trans (hb6.mono HBR.out.size)
          have hk6 := HKR.out.below hb6
          have HK6 : Hid (Blk w6 g9 #[.slice xa xn xc, .int .i64 bn, .int .i64 bg, .bool bb, .slice ya yn yc, .int .i64 bx] 49) := hk6
          have HQ6 : Hid (Blk w6 g7 #[.slice sa sn sc, .int .i64 qn, .int .i64 qg, .bool qb, .slice ta tn tc, .int .i64 qx] 49) := HQj.out.below hbW
          have HC6 : Hid (Blk w6 w.heap.size #[.int .i64 f, .slice a1 n1 c1, .slice a2 n2 c2, .slice a3 n3 c3, .int .i64 d] 45) := HCj.out.below hbW
          have HO6 : Hid (Keep (fun x => x = g9) (fun w => LdAt w ⟨ql, qn, qg, qb, qk, qx⟩ (.slice sa sn sc) (.slice ta tn tc)) w6) := PQj.out.below hbW
          have HB6 : Hid (Below w.heap.size w w6) := HBj.out.trans (hbW.mono HBj.out.size)
          have HN6 : Hid (Keep (fun x => x = g9) (fun w => LdAt w ⟨cl, cn, cg, cb, cm, cx⟩ (.slice ua cl.length uc) (.slice va cm.length vc)) w6) := Keep.sub hzn (fun x hx => by rw [hx]; exact HKR.out.lt)
          generalize cl.length = un at HN6 ⊢
          generalize cm.length = vn at HN6 ⊢
          clear hbW hb6 hz hzn HN1 k0 k1 k2 k3 k4 k5 u0 u1 u2 u3 u4 x0 x1 x2 x3 x4 x5 x6 HKR HCR HRR HBR
          have k0 := hk6.cell 0
          have k1 := hk6.cell 1
          have k2 := hk6.cell 2
          have k3 := hk6.cell 3
          have k4 := hk6.cell 4
          have k5 := hk6.cell 5
          simp only [List.getElem?_toArray, List.getElem?_cons_zero, List.getElem?_cons_succ] at k0 k1 k2 k3 k4 k5
          have kf0 := hk6.free 0
          have kf1 := hk6.free 1
          have kf2 := hk6.free 2
          have kf3 := hk6.free 3
          have kf4 := hk6.free 4
          have kf5 := hk6.free 5
          clear hk6
          have hz7 : g9 ≠ g7 := by have := HG9.out; omega
          have hz8 : g9 ≠ w.heap.size := by have := HG9.out; omega
          have hw9 : w.heap.size ≤ g9 := Nat.le_of_lt HG9.out.2
          clear HKj HQj HCj PBj PQj HFj HXN
          go_wp2
          go_roundg (mk - (j + 1))
          case measure => omega
          case rel =>
            refine ⟨j + 1, ⟨cl, cn, cg, cb, cm, cx⟩, .slice ua un uc, .slice va vn vc, by omega, by omega, by go_num, HS2, ?_, ?_, ?_, ?_, ?_, ?_⟩
            · exact (((((HK6.out.put 0 _).put 1 _).put 2 _).put 3 _).put 4 _).put 5 _
            · exact HQ6.out.six hz7 _ _ _ _ _ _
            · exact HC6.out.six hz8 _ _ _ _ _ _
            · exact HN6.out.six rfl _ _ _ _ _ _
            · exact HO6.out.six rfl _ _ _ _ _ _
            · exact below_six HB6.out hw9 _ _ _ _ _ _
        · have hj' : j = mk := by omega
          have hlt1 : ¬ (j : Int) < (mk : Int) := by omega
          have hlt2 : decide ((j : Int) < (mk : Int)) = false := decide_eq_false hlt1
          have hlt3 : (mk : Int) ≤ (j : Int) := by omega
          have hend := (HEN.out ⟨bl, bn, bg, bb, bm, bx⟩ (kk + j) (by have := HMk.out; omega)).symm.trans HFj.out
          have hbq : (⟨bl, bn, bg, bb, bm, bx⟩ : Ld.Leader) = ⟨ql, qn, qg, qb, qk, qx⟩ := congrArg Prod.fst hend
          injection hbq with q1 q2 q3 q4 q5 q6
          subst q1 q2 q3 q4 q5 q6
          have HLB : Hid (LdAt wr ⟨bl, bn, bg, bb, bm, bx⟩ (.slice xa xn xc) (.slice ya yn yc)) := hld
          have HLQ : Hid (LdAt wr ⟨bl, bn, bg, bb, bm, bx⟩ (.slice sa sn sc) (.slice ta tn tc)) := PQj.out.here
          clear hend hlt hlt1 hj' hld PBj PQj HFj HCj HXN
          go_wp2_with fail
          refine (HOd.out _ HBj.out).mono ?_
          rintro e w7 ⟨⟨y, ok, rfl, hok⟩, hb7⟩
          have HB7 : Hid (Below w.heap.size w w7) := HBj.out.trans (hb7.mono HBj.out.size)
          have hk7 := HKj.out.below hb7
          have hq7 := HQj.out.below hb7
          have HOk : Hid (ok = true → ∃ qs, RecsAt w7 y qs ∧ qs.map Prod.fst = ps.map Prod.fst) := hok
          have HSm : Hid (Calls Tryz.prog 16 #[.agg #[.slice xa xn xc, .int .i64 bn, .int .i64 bg, .bool bb, .slice ya yn yc, .int .i64 bx], .agg #[.slice sa sn sc, .int .i64 bn, .int .i64 bg, .bool bb, .slice ta tn tc, .int .i64 bx]] w7 fun e w'' => e = .returned (.bool true) ∧ Below w7.heap.size w7 w'') := by
            have := ldSame_any ⟨bl, bn, bg, bb, bm, bx⟩ ⟨bl, bn, bg, bb, bm, bx⟩ _ _ _ _ w7 (HLB.out.below hb7) (HLQ.out.below hb7)
            rw [Ld.sameLeader_self] at this
            exact this
          clear hok hb7 HLB HLQ HKj HQj HBj HOd
          have k0 := hk7.cell 0
          have k1 := hk7.cell 1
          have k2 := hk7.cell 2
          have k3 := hk7.cell 3
          have k4 := hk7.cell 4
          have k5 := hk7.cell 5
          simp only [List.getElem?_toArray, List.getElem?_cons_zero, List.getElem?_cons_succ] at k0 k1 k2 k3 k4 k5
          have x0 := hq7.cell 0
          have x1 := hq7.cell 1
          have x2 := hq7.cell 2
          have x3 := hq7.cell 3
          have x4 := hq7.cell 4
          have x5 := hq7.cell 5
          simp only [List.getElem?_toArray, List.getElem?_cons_zero, List.getElem?_cons_succ] at x0 x1 x2 x3 x4 x5
          clear hk7 hq7
          go_wp2_with fail
          refine HSm.out.mono ?_
          rintro e w8 ⟨rfl, hb8⟩
          have HB8 : Hid (Below w.heap.size w w8) := HB7.out.trans (hb8.mono HB7.out.size)
          have HOk8 : Hid (ok = true → Calls Tryz.prog 11 #[y, .slice pa m pc, .func (.func 12) #[] #[]] w8 fun e w'' => e = .returned (.bool true) ∧ Below w8.heap.size w8 w'') := fun h => by
            obtain ⟨qs, g1, g2⟩ := HOk.out h
            exact recsameL w8 _ _ qs ps (g1.below hb8) (HRs.out w8 HB8.out) g2
          clear hb8 HB7 HOk HSm k0 k1 k2 k3 k4 k5 x0 x1 x2 x3 x4 x5
          cases ok
          · clear HOk8
            go_wp2
            go_ret
            exact ⟨rfl, HB8.out⟩
          · have HEq := HOk8.out rfl
            have HEq' : Hid (Calls Tryz.prog 11 #[y, .slice pa m pc, .func (.func 12) #[] #[]] w8 fun e w'' => e = .returned (.bool true) ∧ Below w8.heap.size w8 w'') := HEq
            clear HEq HOk8
            go_wp2_with fail
            refine HEq'.out.mono ?_
            rintro e w9 ⟨rfl, hb9⟩
            have HB9 : Hid (Below w.heap.size w w9) := HB8.out.trans (hb9.mono HB8.out.size)
            clear hb9 HB8 HEq'
            go_wp2
            go_ret
            exact ⟨rfl, HB9.out⟩
end Go.Proofs.YtpenkhehceglfaaGreatDoor
