/- Contracts of note.recOf and note.Parse. -/
import Derived.Test.YtpenkhehceglfaaGreatDoorN11
import Derived.Deep.CutRange
namespace Go.Proofs.YtpenkhehceglfaaGreatDoor
open Go.RowKit
set_option maxHeartbeats 1000000 in
theorem recOf_any (n0 n1 n2 n3 n4 n5 : Int) (a : Option Addr) (n c : Nat) (w : World) :
    Calls Tryz.prog 109 #[.agg #[.int .i64 n0, .int .i64 n1, .int .i64 n2, .int .i64 n3, .int .i64 n4, .int .i64 n5], .slice a n c] w fun e w' => e = .returned (.agg #[.int .i64 n0, .int .i64 n1, .int .i64 n2, .int .i64 n3, .bool (n4 == 1), .int .i64 n5, .slice a n c]) ∧ Below w.heap.size w w' := by
  have HB : Hid (∀ o o', Below w.heap.size w ((w.alloc o).alloc o')) := fun o o' => ((Below.refl _ w).alloc (Nat.le_refl _) o).alloc (by simp) o'
  go_enter Tryz.func109, Tryz.ntmps109
  go_wp2
  refine bodyPost_ret (v := .agg #[.int .i64 n0, .int .i64 n1, .int .i64 n2, .int .i64 n3, .bool (n4 == 1), .int .i64 n5, .slice a n c]) (by simp [results, Tryz.results109, go_sem]) rfl ⟨rfl, HB.out _ _⟩
theorem recV_none : recV Lk.Note.none (.slice none 0 0) = .agg #[.int .i64 0, .int .i64 0, .int .i64 0, .int .i64 0, .bool false, .int .i64 0, .slice none 0 0] := rfl
/-- what Parse answers -/
def parsed (w : World) (q : Lk.Note × Int) (e : Ending) : Prop := ∃ v, e = .returned (.tuple #[recV q.1 v, .int .i64 q.2]) ∧ PinsAt w v q.1.lock
def parsedN (N : Nat) (w : World) (q : Lk.Note × Int) (e : Ending) : Prop := ∃ v, e = .returned (.tuple #[recV q.1 v, .int .i64 q.2]) ∧ NewPins N w v q.1.lock
theorem parsedN.old {N : Nat} {w : World} {q : Lk.Note × Int} {e : Ending} (h : parsedN N w q e) : parsed w q e := by
  obtain ⟨v, he, h1, _⟩ := h
  exact ⟨v, he, h1⟩
theorem parsedN_none (N : Nat) (w : World) (x : Int) : parsedN N w (Lk.Note.none, x) (.returned (.tuple #[recV Lk.Note.none (.slice none 0 0), .int .i64 x])) := ⟨_, rfl, new_none N w⟩
theorem parsed_none (w : World) (x : Int) : parsed w (Lk.Note.none, x) (.returned (.tuple #[recV Lk.Note.none (.slice none 0 0), .int .i64 x])) := ⟨_, rfl, pins_none w⟩
set_option maxHeartbeats 1000000 in
theorem noteParse_long (s : ByteArray) (hs : 60000 < s.size) (w : World) :
    Calls Tryz.prog 85 #[.string s] w fun e w' => e = .returned (.tuple #[recV Lk.Note.none (.slice none 0 0), .int .i64 2]) ∧ Below w.heap.size w w' := by
  have hs' : (60000 : Int) < (s.size : Int) := by omega
  have HB : Hid (∀ o, Below w.heap.size w (w.alloc o)) := fun o => (Below.refl _ w).alloc (Nat.le_refl _) o
  go_enter Tryz.func85, Tryz.ntmps85
  go_wp2
  refine bodyPost_ret (v := .tuple #[recV Lk.Note.none (.slice none 0 0), .int .i64 2]) (by simp [results, Tryz.results85, go_sem, recV, Lk.Note.none]) rfl ⟨rfl, HB.out _⟩
/-- a record of nothing in a block of its own -/
def NoneAt (w : World) (b : Nat) : Prop := RecAt w b 0 0 0 0 false 0 (.slice none 0 0) ∧ w.frozen? ⟨b, 0, none⟩ = false ∧ w.frozen? ⟨b, 1, none⟩ = false ∧ w.frozen? ⟨b, 2, none⟩ = false ∧ w.frozen? ⟨b, 3, none⟩ = false ∧ w.frozen? ⟨b, 4, none⟩ = false ∧ w.frozen? ⟨b, 5, none⟩ = false ∧ w.frozen? ⟨b, 6, none⟩ = false ∧ w.heap[b]? = some (.cells #[.int .i64 0, .int .i64 0, .int .i64 0, .int .i64 0, .bool false, .int .i64 0, .slice none 0 0] 34)
theorem NoneAt.below {w w' : World} {b : Nat} (h : NoneAt w b) (hb : Below w.heap.size w w') : NoneAt w' b := by
  obtain ⟨h0, h1, h2, h3, h4, h5, h6, h7, h8⟩ := h
  have e : ∀ o, w'.frozen? ⟨b, o, none⟩ = w.frozen? ⟨b, o, none⟩ := fun o => hb.frozen (p := ⟨b, o, none⟩) h0.1
  exact ⟨h0.below hb, (e 0).trans h1, (e 1).trans h2, (e 2).trans h3, (e 3).trans h4, (e 4).trans h5, (e 5).trans h6, (e 6).trans h7, (hb.block b h0.1).trans h8⟩
theorem noneAt_alloc (w : World) : NoneAt (w.alloc (.cells #[.int .i64 0, .int .i64 0, .int .i64 0, .int .i64 0, .bool false, .int .i64 0, .slice none 0 0] 34)) w.heap.size :=
  ⟨recAt_alloc w 0 0 0 0 false 0 _, by simp [go_sem], by simp [go_sem], by simp [go_sem], by simp [go_sem], by simp [go_sem], by simp [go_sem], by simp [go_sem], by show (w.heap.push _)[w.heap.size]? = some _; simp⟩
theorem pins_set {w : World} {v : Value} {l : List (Int × Int)} {b o : Nat} {u : Value} (h : PinsAt w v l) (hne : ∀ o' c', v = .slice (some ⟨b, o', none⟩) l.length c' → l = []) : PinsAt (w.setCell ⟨b, o, none⟩ u) v l := by
  obtain ⟨hl, c, h | ⟨b', o', h1, h2⟩⟩ := h
  · exact ⟨hl, c, .inl h⟩
  · by_cases e : b' = b
    · subst e
      have := hne o' c h1
      subst this
      exact ⟨hl, c, .inl ⟨rfl, _, h1⟩⟩
    · refine ⟨hl, c, .inr ⟨b', o', h1, by simpa [World.setCell] using h2.1, fun j hj => ?_⟩⟩
      have hk : ∀ x, (w.setCell ⟨b, o, none⟩ u).cell? ⟨b', x, none⟩ = w.cell? ⟨b', x, none⟩ := fun x => World.cell?_setCell_other _ _ _ _ (by intro y; injection y with y; exact e y.symm)
      exact ⟨(hk _).trans (h2.2 j hj).1, (hk _).trans (h2.2 j hj).2⟩
/-- a lock's pins don't lie where a record of nothing lies -/
theorem pins_apart {w : World} {v : Value} {l : List (Int × Int)} {b : Nat} (hN : w.heap[b]? = some (.cells #[.int .i64 0, .int .i64 0, .int .i64 0, .int .i64 0, .bool false, .int .i64 0, .slice none 0 0] 34)) (h : PinsAt w v l) (hc : Lk.chk l = 0) : ∀ o' c', v = .slice (some ⟨b, o', none⟩) l.length c' → l = [] := by
  intro o' c' hv
  obtain ⟨hl, c, ⟨h, _⟩ | ⟨b', o2, h1, h2⟩⟩ := h
  · exact h
  · rw [hv] at h1
    simp only [Value.slice.injEq, Option.some.injEq, Addr.mk.injEq, and_true, true_and] at h1
    obtain ⟨⟨rfl, rfl⟩, _⟩ := h1
    cases l with
    | nil => rfl
    | cons p r =>
      exfalso
      have hp := (chk_ok hc).2 p (by simp)
      have h0 := (h2.2 0 (by simp)).1
      simp only [List.getD_cons_zero, Nat.zero_mul, Nat.add_zero, World.cell?, hN] at h0
      rcases o' with _ | _ | _ | _ | _ | _ | _ | o'
      all_goals (simp at h0; try omega)
theorem fin_err {ns : List Int} {t : ByteArray} (h : ¬ (Lk.readAs t).2 = 0) : Lk.fin ns t.data.toList = (Lk.Note.none, (Lk.readAs t).2) := by
  unfold Lk.fin
  rw [show (⟨t.data.toList.toArray⟩ : ByteArray) = t from by simp, if_neg h]
theorem fin_chk {ns : List Int} {t : ByteArray} (h : (Lk.readAs t).2 = 0) (h' : ¬ Lk.chkNote (Lk.noteOf ns (Lk.readAs t).1) = 0) : Lk.fin ns t.data.toList = (Lk.Note.none, Lk.chkNote (Lk.noteOf ns (Lk.readAs t).1)) := by
  unfold Lk.fin
  rw [show (⟨t.data.toList.toArray⟩ : ByteArray) = t from by simp, if_pos h, if_neg h']
theorem fin_ok {ns : List Int} {t : ByteArray} (h : (Lk.readAs t).2 = 0) (h' : Lk.chkNote (Lk.noteOf ns (Lk.readAs t).1) = 0) : Lk.fin ns t.data.toList = (Lk.noteOf ns (Lk.readAs t).1, 0) := by
  unfold Lk.fin
  rw [show (⟨t.data.toList.toArray⟩ : ByteArray) = t from by simp, if_pos h, if_pos h']
theorem numsAt_six (w : World) (n0 n1 n2 n3 n4 n5 : Int) : NumsAt (w.alloc (.cells #[.int .i64 n0, .int .i64 n1, .int .i64 n2, .int .i64 n3, .int .i64 n4, .int .i64 n5] 81)) w.heap.size [n0, n1, n2, n3, n4, n5] := by
  refine ⟨by simp, fun j hj => ?_⟩
  rcases j with _ | _ | _ | _ | _ | _ | j
  iterate 6 exact ⟨by simp [go_sem], by simp [go_sem]⟩
  omega
theorem recV_of (n0 n1 n2 n3 n4 n5 : Int) (l : List (Int × Int)) (v : Value) : recV (Lk.noteOf [n0, n1, n2, n3, n4, n5] l) v = .agg #[.int .i64 n0, .int .i64 n1, .int .i64 n2, .int .i64 n3, .bool (n4 == 1), .int .i64 n5, v] := rfl
set_option maxHeartbeats 4000000 in
set_option maxRecDepth 100000 in
theorem noteParse_new (s : ByteArray) (hs : s.size ≤ 60000) (w : World) (hE : Env w) :
    Calls Tryz.prog 85 #[.string s] w fun e w' => parsedN w.heap.size w' (Lk.readNote s.data.toList) e ∧ Below w.heap.size w w' := by
  have HE : Hid (Env w) := hE
  have HRn : Hid (∀ w, Env w → Calls Tryz.prog 107 #[.string s] w fun e w' => readRes s.data.toList e ∧ Below w.heap.size w w') := fun w hE => readNumbers_any s hs w hE
  have hs' : (s.size : Int) ≤ 60000 := by omega
  clear hE hs
  have HN0 : Hid (NoneAt (w.alloc (.cells #[.int .i64 0, .int .i64 0, .int .i64 0, .int .i64 0, .bool false, .int .i64 0, .slice none 0 0] 34)) w.heap.size) := noneAt_alloc w
  have HB0 : Hid (Below w.heap.size w (w.alloc (.cells #[.int .i64 0, .int .i64 0, .int .i64 0, .int .i64 0, .bool false, .int .i64 0, .slice none 0 0] 34))) := (Below.refl _ w).alloc (Nat.le_refl _) _
  go_enter Tryz.func85, Tryz.ntmps85
  go_wp2_with fail
  refine (HRn.out _ (HE.out.below HB0.out)).mono ?_
  rintro e w1 ⟨⟨ns, p, ok, rfl, hl, hps, hyes, hno⟩, hb1⟩
  have HB1 : Hid (Below w.heap.size w w1) := HB0.out.trans (hb1.mono HB0.out.size)
  have HN1 : Hid (NoneAt w1 w.heap.size) := HN0.out.below hb1
  have HPS : Hid (p.size ≤ 60000) := hps
  have HYes : Hid (ok = true → Lk.readNote s.data.toList = Lk.fin ns p.data.toList) := hyes
  have HNo : Hid (ok = false → Lk.readNote s.data.toList = (Lk.Note.none, 1)) := hno
  clear hb1 HN0 HB0 hps hyes hno HRn
  match ns, hl with
  | [n0, n1, n2, n3, n4, n5], _ =>
  clear hl
  rw [show numV [n0, n1, n2, n3, n4, n5] = .agg #[.int .i64 n0, .int .i64 n1, .int .i64 n2, .int .i64 n3, .int .i64 n4, .int .i64 n5] from rfl]
  cases ok
  · have HQ : Hid (Lk.readNote s.data.toList = (Lk.Note.none, 1)) := HNo.out rfl
    clear HYes HNo
    go_upto_region 5 with fail
    have hbA : Below w1.heap.size w1 (w1.alloc (.cells #[.int .i64 n0, .int .i64 n1, .int .i64 n2, .int .i64 n3, .int .i64 n4, .int .i64 n5] 81)) := (Below.refl _ _).alloc (Nat.le_refl _) _
    have HBA : Hid (Below w.heap.size w (w1.alloc (.cells #[.int .i64 n0, .int .i64 n1, .int .i64 n2, .int .i64 n3, .int .i64 n4, .int .i64 n5] 81))) := HB1.out.trans (hbA.mono HB1.out.size)
    have HNA : Hid (NoneAt (w1.alloc (.cells #[.int .i64 n0, .int .i64 n1, .int .i64 n2, .int .i64 n3, .int .i64 n4, .int .i64 n5] 81)) w.heap.size) := HN1.out.below hbA
    clear hbA HB1 HN1
    generalize w1.alloc (.cells #[.int .i64 n0, .int .i64 n1, .int .i64 n2, .int .i64 n3, .int .i64 n4, .int .i64 n5] 81) = W at HBA HNA ⊢
    obtain ⟨⟨d0, d1, d2, d3, d4, d5, d6, d7⟩, f0, f1, f2, f3, f4, f5, f6, -⟩ := HNA.out
    go_wp2
    refine bodyPost_ret (v := .tuple #[recV Lk.Note.none (.slice none 0 0), .int .i64 1]) (by simp [results, Tryz.results85, go_sem, recV, Lk.Note.none, d1, d2, d3, d4, d5, d6, d7]) rfl ⟨by rw [HQ.out]; exact parsedN_none _ _ _, ?_⟩
    exact (((((((HBA.out.setCell (Nat.le_refl _) _).setCell (Nat.le_refl _) _).setCell (Nat.le_refl _) _).setCell (Nat.le_refl _) _).setCell (Nat.le_refl _) _).setCell (Nat.le_refl _) _).setCell (Nat.le_refl _) _)
  · have HQ : Hid (Lk.readNote s.data.toList = Lk.fin [n0, n1, n2, n3, n4, n5] p.data.toList) := HYes.out rfl
    clear HYes HNo
    go_wp2_with fail
    have hbA : Below w1.heap.size w1 (w1.alloc (.cells #[.int .i64 n0, .int .i64 n1, .int .i64 n2, .int .i64 n3, .int .i64 n4, .int .i64 n5] 81)) := (Below.refl _ _).alloc (Nat.le_refl _) _
    have HBA : Hid (Below w.heap.size w (w1.alloc (.cells #[.int .i64 n0, .int .i64 n1, .int .i64 n2, .int .i64 n3, .int .i64 n4, .int .i64 n5] 81))) := HB1.out.trans (hbA.mono HB1.out.size)
    have HNA : Hid (NoneAt (w1.alloc (.cells #[.int .i64 n0, .int .i64 n1, .int .i64 n2, .int .i64 n3, .int .i64 n4, .int .i64 n5] 81)) w.heap.size) := HN1.out.below hbA
    have HXA : Hid (NumsAt (w1.alloc (.cells #[.int .i64 n0, .int .i64 n1, .int .i64 n2, .int .i64 n3, .int .i64 n4, .int .i64 n5] 81)) w1.heap.size [n0, n1, n2, n3, n4, n5]) := numsAt_six w1 n0 n1 n2 n3 n4 n5
    clear hbA
    generalize w1.alloc (.cells #[.int .i64 n0, .int .i64 n1, .int .i64 n2, .int .i64 n3, .int .i64 n4, .int .i64 n5] 81) = W at HBA HNA HXA ⊢
    refine (parse_new p HPS.out _ (HE.out.below HBA.out)).mono ?_
    rintro e w2 ⟨⟨v, rfl, hv, hfr⟩, hb2⟩
    have HB2 : Hid (Below w.heap.size w w2) := HBA.out.trans (hb2.mono HBA.out.size)
    have HN2 : Hid (NoneAt w2 w.heap.size) := HNA.out.below hb2
    have HX2 := HXA.out.below hb2
    obtain ⟨a, c, rfl⟩ := pins_slice hv
    have HFr : Hid (∀ n, FreshS w.heap.size (.slice a n c)) := fun n b o n' c' e => by
      simp only [Value.slice.injEq] at e
      exact Nat.le_trans HBA.out.size (hfr b o _ c (by rw [e.1]))
    clear hfr
    have HV2 : Hid (PinsAt w2 (.slice a (Lk.readAs p).1.length c) (Lk.readAs p).1) := hv
    clear hb2 HBA HNA HXA HB1 HN1 hv
    have F1 : Hid (¬ (Lk.readAs p).2 = 0 → Lk.readNote s.data.toList = (Lk.Note.none, (Lk.readAs p).2)) := fun h => by rw [HQ.out]; exact fin_err h
    have F2 : Hid ((Lk.readAs p).2 = 0 → ¬ Lk.chkNote (Lk.noteOf [n0, n1, n2, n3, n4, n5] (Lk.readAs p).1) = 0 → Lk.readNote s.data.toList = (Lk.Note.none, Lk.chkNote (Lk.noteOf [n0, n1, n2, n3, n4, n5] (Lk.readAs p).1))) := fun h h' => by rw [HQ.out]; exact fin_chk h h'
    have F3 : Hid ((Lk.readAs p).2 = 0 → Lk.chkNote (Lk.noteOf [n0, n1, n2, n3, n4, n5] (Lk.readAs p).1) = 0 → Lk.readNote s.data.toList = (Lk.noteOf [n0, n1, n2, n3, n4, n5] (Lk.readAs p).1, 0)) := fun h h' => by rw [HQ.out]; exact fin_ok h h'
    generalize (Lk.readAs p).1 = l at HV2 F2 F3 ⊢
    generalize (Lk.readAs p).2 = er at F1 F2 F3 ⊢
    clear HQ HPS
    obtain ⟨x0, -⟩ := HX2.2 0 (by omega)
    obtain ⟨x1, -⟩ := HX2.2 1 (by omega)
    obtain ⟨x2, -⟩ := HX2.2 2 (by omega)
    obtain ⟨x3, -⟩ := HX2.2 3 (by omega)
    obtain ⟨x4, -⟩ := HX2.2 4 (by omega)
    obtain ⟨x5, -⟩ := HX2.2 5 (by omega)
    clear HX2
    simp only [List.getD_cons_zero, List.getD_cons_succ] at x0 x1 x2 x3 x4 x5
    go_wp2_with fail
    refine (recOf_any n0 n1 n2 n3 n4 n5 a l.length c _).mono ?_
    rintro e w3 ⟨rfl, hb3⟩
    have HB3 : Hid (Below w.heap.size w w3) := HB2.out.trans (hb3.mono HB2.out.size)
    have HN3 : Hid (NoneAt w3 w.heap.size) := HN2.out.below hb3
    have HV3 : Hid (PinsAt w3 (.slice a l.length c) l) := HV2.out.below hb3
    clear hb3 HB2 HN2 HV2 x0 x1 x2 x3 x4 x5
    go_wp2_with fail
    have hbB : Below w3.heap.size w3 (w3.alloc (.cells #[.int .i64 n0, .int .i64 n1, .int .i64 n2, .int .i64 n3, .bool (n4 == 1), .int .i64 n5, .slice a l.length c] 34)) := (Below.refl _ _).alloc (Nat.le_refl _) _
    have HB4 : Hid (Below w.heap.size w (w3.alloc (.cells #[.int .i64 n0, .int .i64 n1, .int .i64 n2, .int .i64 n3, .bool (n4 == 1), .int .i64 n5, .slice a l.length c] 34))) := HB3.out.trans (hbB.mono HB3.out.size)
    have HN4 : Hid (NoneAt (w3.alloc (.cells #[.int .i64 n0, .int .i64 n1, .int .i64 n2, .int .i64 n3, .bool (n4 == 1), .int .i64 n5, .slice a l.length c] 34)) w.heap.size) := HN3.out.below hbB
    have HV4 : Hid (PinsAt (w3.alloc (.cells #[.int .i64 n0, .int .i64 n1, .int .i64 n2, .int .i64 n3, .bool (n4 == 1), .int .i64 n5, .slice a l.length c] 34)) (.slice a l.length c) l) := HV3.out.below hbB
    have HR4 : Hid (RecAt (w3.alloc (.cells #[.int .i64 n0, .int .i64 n1, .int .i64 n2, .int .i64 n3, .bool (n4 == 1), .int .i64 n5, .slice a l.length c] 34)) w3.heap.size n0 n1 n2 n3 (n4 == 1) n5 (.slice a l.length c)) := recAt_alloc w3 n0 n1 n2 n3 (n4 == 1) n5 _
    generalize w3.alloc (.cells #[.int .i64 n0, .int .i64 n1, .int .i64 n2, .int .i64 n3, .bool (n4 == 1), .int .i64 n5, .slice a l.length c] 34) = W4 at HB4 HN4 HV4 HR4 ⊢
    have HG : Hid (w.heap.size < w3.heap.size) := HN3.out.1.1
    generalize w3.heap.size = g3 at HR4 HG ⊢
    clear hbB HB3 HN3 HV3
    refine (noteCheck_any (Lk.noteOf [n0, n1, n2, n3, n4, n5] l) _ _ HV4.out).mono ?_
    rintro e w5 ⟨rfl, hb5⟩
    have HB5 : Hid (Below w.heap.size w w5) := HB4.out.trans (hb5.mono HB4.out.size)
    have HN5 : Hid (NoneAt w5 w.heap.size) := HN4.out.below hb5
    have HV5 : Hid (PinsAt w5 (.slice a l.length c) l) := HV4.out.below hb5
    have HR5 : Hid (RecAt w5 g3 n0 n1 n2 n3 (n4 == 1) n5 (.slice a l.length c)) := HR4.out.below hb5
    clear hb5 HB4 HN4 HV4 HR4
    have HLK : Hid (Lk.chkNote (Lk.noteOf [n0, n1, n2, n3, n4, n5] l) = 0 → Lk.chk l = 0) := fun h => note_lock h
    generalize Lk.chkNote (Lk.noteOf [n0, n1, n2, n3, n4, n5] l) = CN at F2 F3 HLK ⊢
    go_wp2_with fail
    refine (or2_any er CN _ _ (by simp [go_sem]) (by simp [go_sem])).mono ?_
    rintro e w6 ⟨rfl, hb6⟩
    have hb6' := ((Below.refl _ w5).alloc (Nat.le_refl _) _).trans (hb6.mono (by simp))
    have HB6 : Hid (Below w.heap.size w w6) := HB5.out.trans (hb6'.mono HB5.out.size)
    have HN6 : Hid (NoneAt w6 w.heap.size) := HN5.out.below hb6'
    have HV6 : Hid (PinsAt w6 (.slice a l.length c) l) := HV5.out.below hb6'
    have HR6 : Hid (RecAt w6 g3 n0 n1 n2 n3 (n4 == 1) n5 (.slice a l.length c)) := HR5.out.below hb6'
    clear hb6 hb6' HB5 HN5 HV5 HR5
    by_cases he : er = 0
    · subst he
      rw [if_pos rfl]
      by_cases hc : CN = 0
      · have HLC : Hid (Lk.chk l = 0) := HLK.out hc
        subst hc
        have HQ : Hid (Lk.readNote s.data.toList = (Lk.noteOf [n0, n1, n2, n3, n4, n5] l, 0)) := F3.out rfl rfl
        clear F1 F2 F3
        have HNE : Hid (∀ o' c', Value.slice a l.length c = .slice (some ⟨w.heap.size, o', none⟩) l.length c' → l = []) := pins_apart HN6.out.2.2.2.2.2.2.2.2 HV6.out HLC.out
        obtain ⟨⟨d0, d1, d2, d3, d4, d5, d6, d7⟩, f0, f1, f2, f3, f4, f5, f6, -⟩ := HN6.out
        obtain ⟨c0, c1, c2, c3, c4, c5, c6, c7⟩ := HR6.out
        have hbS : ∀ u0 u1 u2 u3 u4 u5 u6 : Value, Below w.heap.size w (((((((w6.setCell ⟨w.heap.size, 0, none⟩ u0).setCell ⟨w.heap.size, 1, none⟩ u1).setCell ⟨w.heap.size, 2, none⟩ u2).setCell ⟨w.heap.size, 3, none⟩ u3).setCell ⟨w.heap.size, 4, none⟩ u4).setCell ⟨w.heap.size, 5, none⟩ u5).setCell ⟨w.heap.size, 6, none⟩ u6) := fun u0 u1 u2 u3 u4 u5 u6 => by
          exact (((((((HB6.out.setCell (Nat.le_refl _) _).setCell (Nat.le_refl _) _).setCell (Nat.le_refl _) _).setCell (Nat.le_refl _) _).setCell (Nat.le_refl _) _).setCell (Nat.le_refl _) _).setCell (Nat.le_refl _) _)
        have HBS : Hid (∀ u0 u1 u2 u3 u4 u5 u6 : Value, Below w.heap.size w (((((((w6.setCell ⟨w.heap.size, 0, none⟩ u0).setCell ⟨w.heap.size, 1, none⟩ u1).setCell ⟨w.heap.size, 2, none⟩ u2).setCell ⟨w.heap.size, 3, none⟩ u3).setCell ⟨w.heap.size, 4, none⟩ u4).setCell ⟨w.heap.size, 5, none⟩ u5).setCell ⟨w.heap.size, 6, none⟩ u6)) := hbS
        clear hbS
        go_wp2
        refine bodyPost_ret (v := .tuple #[.agg #[.int .i64 n0, .int .i64 n1, .int .i64 n2, .int .i64 n3, .bool (n4 == 1), .int .i64 n5, .slice a l.length c], .int .i64 0]) (by simp [results, Tryz.results85, go_sem, d1, d2, d3, d4, d5, d6, d7]) rfl ⟨?_, HBS.out _ _ _ _ _ _ _⟩
        rw [HQ.out]
        refine ⟨.slice a l.length c, rfl, ?_, HFr.out _⟩
        have hne := HNE.out
        exact pins_set (pins_set (pins_set (pins_set (pins_set (pins_set (pins_set HV6.out hne) hne) hne) hne) hne) hne) hne
      · have hcb : (CN != 0) = true := by rw [bne_iff_ne]; exact hc
        have HQ : Hid (Lk.readNote s.data.toList = (Lk.Note.none, CN)) := F2.out rfl hc
        clear F1 F2 F3 hc
        obtain ⟨⟨d0, d1, d2, d3, d4, d5, d6, d7⟩, f0, f1, f2, f3, f4, f5, f6, -⟩ := HN6.out
        go_wp2
        refine bodyPost_ret (v := .tuple #[recV Lk.Note.none (.slice none 0 0), .int .i64 CN]) (by simp [results, Tryz.results85, go_sem, recV, Lk.Note.none, d1, d2, d3, d4, d5, d6, d7]) rfl ⟨by rw [HQ.out]; exact parsedN_none _ _ _, ?_⟩
        exact (((((((HB6.out.setCell (Nat.le_refl _) _).setCell (Nat.le_refl _) _).setCell (Nat.le_refl _) _).setCell (Nat.le_refl _) _).setCell (Nat.le_refl _) _).setCell (Nat.le_refl _) _).setCell (Nat.le_refl _) _)
    · rw [if_neg he]
      have heb : (er != 0) = true := by rw [bne_iff_ne]; exact he
      have HQ : Hid (Lk.readNote s.data.toList = (Lk.Note.none, er)) := F1.out he
      clear F1 F2 F3 he
      obtain ⟨⟨d0, d1, d2, d3, d4, d5, d6, d7⟩, f0, f1, f2, f3, f4, f5, f6, -⟩ := HN6.out
      go_wp2
      refine bodyPost_ret (v := .tuple #[recV Lk.Note.none (.slice none 0 0), .int .i64 er]) (by simp [results, Tryz.results85, go_sem, recV, Lk.Note.none, d1, d2, d3, d4, d5, d6, d7]) rfl ⟨by rw [HQ.out]; exact parsedN_none _ _ _, ?_⟩
      exact (((((((HB6.out.setCell (Nat.le_refl _) _).setCell (Nat.le_refl _) _).setCell (Nat.le_refl _) _).setCell (Nat.le_refl _) _).setCell (Nat.le_refl _) _).setCell (Nat.le_refl _) _).setCell (Nat.le_refl _) _)
theorem noteParse_any (s : ByteArray) (hs : s.size ≤ 60000) (w : World) (hE : Env w) :
    Calls Tryz.prog 85 #[.string s] w fun e w' => parsed w' (Lk.readNote s.data.toList) e ∧ Below w.heap.size w w' := by
  refine (noteParse_new s hs w hE).mono ?_
  rintro e w' ⟨h, hb⟩
  exact ⟨h.old, hb⟩
end Go.Proofs.YtpenkhehceglfaaGreatDoor
