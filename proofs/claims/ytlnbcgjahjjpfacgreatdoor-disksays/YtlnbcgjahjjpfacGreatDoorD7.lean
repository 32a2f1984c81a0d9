/- The contract of disk.firstRec. -/
import Derived.Test.YtlnbcgjahjjpfacGreatDoorD5
import Derived.Lib.SmallJoins
namespace Go.Proofs.YtlnbcgjahjjpfacGreatDoor
open Go.RowKit
/-- a block of the call's own, whole -/
def Blk (w : World) (b : Nat) (cs : Array Value) (t : TypeId) : Prop := w.heap[b]? = some (.cells cs t (0, 0))
theorem Blk.lt {w : World} {b : Nat} {cs : Array Value} {t : TypeId} (h : Blk w b cs t) : b < w.heap.size := (Array.getElem?_eq_some_iff.1 h).1
theorem Blk.below {w w' : World} {b : Nat} {cs : Array Value} {t : TypeId} (h : Blk w b cs t) (hb : Below w.heap.size w w') : Blk w' b cs t := (hb.block b h.lt).trans h
theorem Blk.cell {w : World} {b : Nat} {cs : Array Value} {t : TypeId} (h : Blk w b cs t) (i : Nat) : w.cell? ⟨b, i, none⟩ = cs[i]? := by
  unfold Blk at h; simp [World.cell?, h]
theorem Blk.free {w : World} {b : Nat} {cs : Array Value} {t : TypeId} (h : Blk w b cs t) (i : Nat) : w.frozen? ⟨b, i, none⟩ = false := by
  unfold Blk at h; simp [World.frozen?, h]
theorem blk_alloc (w : World) (cs : Array Value) (t : TypeId) : Blk (w.alloc (.cells cs t)) w.heap.size cs t := heap_alloc_new w _
theorem bytes_const (w : World) (g : Nat) (hg : g = w.heap.size) (fr : Nat × Nat) : BytesAt (w.alloc (.cells #[.int .u8 10] 5 fr)) (.slice (some ⟨g, 0, none⟩) 1 1) [10] := by
  refine ⟨by decide, 1, by decide, .inr ⟨g, 0, rfl, by simp [hg], fun j hj => ?_⟩⟩
  have : j = 0 := by simp at hj; omega
  subst this
  rw [Go.Joins.cell_alloc_mark_at _ _ _ _ _ _ hg]
  rfl
set_option maxHeartbeats 2000000 in
set_option maxRecDepth 100000 in
theorem first_torn (v : Value) (l : List UInt8) (w : World) (hE : Env w) (hP : BytesAt w v l) (hl : l.length ≤ 60000) (hn : 10 ∉ l) :
    Calls Tryz.prog 30 #[v] w fun e w' => e = .returned (.tuple #[recV Lk.Note.none (.slice none 0 0), .slice none 0 0, .int .i64 9]) ∧ Below w.heap.size w w' := by
  obtain ⟨p, c, rfl⟩ := bytes_slice hP
  have HBz : Hid (∀ fr, Below w.heap.size w ((w.alloc (.cells #[.int .i64 0, .int .i64 0, .int .i64 0, .int .i64 0, .bool false, .int .i64 0, .slice none 0 0] 29)).alloc (.cells #[.int .u8 10] 5 fr))) := fun fr => ((Below.refl _ w).alloc (Nat.le_refl _) _).alloc (by simp) _
  have HCt : Hid (∀ w' sv, Below w.heap.size w w' → BytesAt w' sv [10] → Calls Tryz.prog 44 #[.slice p l.length c, sv] w' fun e w'' => e = .returned (.tuple #[.slice p l.length c, .slice none 0 0, .bool false]) ∧ Below w'.heap.size w' w'') := fun w' sv hb hs => cut_torn _ sv l w' (hE.below hb) (hP.below hb) hs hl hn
  have HBk : Hid (∀ fr, Blk ((w.alloc (.cells #[.int .i64 0, .int .i64 0, .int .i64 0, .int .i64 0, .bool false, .int .i64 0, .slice none 0 0] 29)).alloc (.cells #[.int .u8 10] 5 fr)) w.heap.size #[.int .i64 0, .int .i64 0, .int .i64 0, .int .i64 0, .bool false, .int .i64 0, .slice none 0 0] 29) := fun fr => (blk_alloc w _ _).below ((Below.refl _ _).alloc (Nat.le_refl _) _)
  have kc := fun (C : Array Value) (n c : Nat) => Go.Joins.run_convert_bytes_const_at (P := Tryz.prog) (w.alloc (.cells #[.int .i64 0, .int .i64 0, .int .i64 0, .int .i64 0, .bool false, .int .i64 0, .slice none 0 0] 29)) 22 5 C n c (w.heap.size + 1) (by simp) Tryz.underlying22 Tryz.underlying5
  clear hE hP hl hn
  go_enter Tryz.func30, Tryz.ntmps30
  go_wp2_with fail
  clear kc
  refine (HCt.out _ _ (HBz.out _) (bytes_const _ _ (by simp) _)).mono ?_
  rintro e w1 ⟨rfl, hb1⟩
  have HB1 : Hid (Below w.heap.size w w1) := (HBz.out _).trans (hb1.mono (HBz.out (1, 2)).size)
  have hk := (HBk.out _).below hb1
  clear hb1 HBz HCt HBk
  have d1 := hk.cell 0
  have d2 := hk.cell 1
  have d3 := hk.cell 2
  have d4 := hk.cell 3
  have d5 := hk.cell 4
  have d6 := hk.cell 5
  have d7 := hk.cell 6
  have f1 := hk.free 0
  have f2 := hk.free 1
  have f3 := hk.free 2
  have f4 := hk.free 3
  have f5 := hk.free 4
  have f6 := hk.free 5
  have f7 := hk.free 6
  simp only [List.getElem?_toArray, List.getElem?_cons_zero, List.getElem?_cons_succ] at d1 d2 d3 d4 d5 d6 d7
  clear hk
  go_wp2
  refine bodyPost_ret (v := .tuple #[recV Lk.Note.none (.slice none 0 0), .slice none 0 0, .int .i64 9]) (by simp [results, Tryz.results30, go_sem, recV, Lk.Note.none, d1, d2, d3, d4, d5, d6, d7]) rfl ⟨rfl, ?_⟩
  exact (((((((HB1.out.setCell (Nat.le_refl _) _).setCell (Nat.le_refl _) _).setCell (Nat.le_refl _) _).setCell (Nat.le_refl _) _).setCell (Nat.le_refl _) _).setCell (Nat.le_refl _) _).setCell (Nat.le_refl _) _)
/-- what firstRec answers of a line -/
def firstR (N : Nat) (w : World) (q : Lk.Note × Int) (v : Value) (l s : List UInt8) (e : Ending) : Prop := ∃ z u, e = .returned (.tuple #[recV q.1 z, u, .int .i64 q.2]) ∧ NewPins N w z q.1.lock ∧ ∀ W, BytesAt W v l → BytesAt W u s
set_option maxHeartbeats 4000000 in
set_option maxRecDepth 100000 in
theorem first_line (v : Value) (t s : List UInt8) (w : World) (hE : Env w) (hP : BytesAt w v (t ++ 10 :: s)) (hl : (t ++ 10 :: s).length ≤ 60000) (hn : 10 ∉ t) :
    Calls Tryz.prog 30 #[v] w fun e w' => firstR w.heap.size w' (Lk.readNote t) v (t ++ 10 :: s) s e ∧ Below w.heap.size w w' := by
  obtain ⟨p, c, rfl⟩ := bytes_slice hP
  have HE : Hid (Env w) := hE
  have HBz : Hid (∀ fr, Below w.heap.size w ((w.alloc (.cells #[.int .i64 0, .int .i64 0, .int .i64 0, .int .i64 0, .bool false, .int .i64 0, .slice none 0 0] 29)).alloc (.cells #[.int .u8 10] 5 fr))) := fun fr => ((Below.refl _ w).alloc (Nat.le_refl _) _).alloc (by simp) _
  have HCt : Hid (∀ w' sv, Below w.heap.size w w' → BytesAt w' sv [10] → Calls Tryz.prog 44 #[.slice p (t ++ 10 :: s).length c, sv] w' fun e w'' => (∃ u x, e = .returned (.tuple #[u, x, .bool true]) ∧ ∀ W, BytesAt W (.slice p (t ++ 10 :: s).length c) (t ++ 10 :: s) → BytesAt W u t ∧ BytesAt W x s) ∧ Below w'.heap.size w' w'') := fun w' sv hb hs => cut_line _ sv t s w' (hE.below hb) (hP.below hb) hs hl hn
  have HBk : Hid (∀ fr, Blk ((w.alloc (.cells #[.int .i64 0, .int .i64 0, .int .i64 0, .int .i64 0, .bool false, .int .i64 0, .slice none 0 0] 29)).alloc (.cells #[.int .u8 10] 5 fr)) w.heap.size #[.int .i64 0, .int .i64 0, .int .i64 0, .int .i64 0, .bool false, .int .i64 0, .slice none 0 0] 29) := fun fr => (blk_alloc w _ _).below ((Below.refl _ _).alloc (Nat.le_refl _) _)
  have HPa : Hid (∀ w, Env w → Calls Tryz.prog 45 #[.string ⟨t.toArray⟩] w fun e w' => parsedN w.heap.size w' (Lk.readNote t) e ∧ Below w.heap.size w w') := fun w hE => by
    have := noteParse_new ⟨t.toArray⟩ (by show t.toArray.size ≤ 60000; rw [List.size_toArray]; simp at hl; omega) w hE
    simpa using this
  have kc := fun (C : Array Value) (n c : Nat) => Go.Joins.run_convert_bytes_const_at (P := Tryz.prog) (w.alloc (.cells #[.int .i64 0, .int .i64 0, .int .i64 0, .int .i64 0, .bool false, .int .i64 0, .slice none 0 0] 29)) 22 5 C n c (w.heap.size + 1) (by simp) Tryz.underlying22 Tryz.underlying5
  have HP : Hid (BytesAt w (.slice p (t ++ 10 :: s).length c) (t ++ 10 :: s)) := hP
  clear hE hP hl hn
  generalize Lk.readNote t = X at HPa ⊢
  obtain ⟨⟨x1, x2, x3, x4, x5, x6, x7⟩, XE⟩ := X
  generalize (t ++ 10 :: s).length = n at HCt HP ⊢
  go_enter Tryz.func30, Tryz.ntmps30
  go_wp2_with fail
  clear kc
  refine (HCt.out _ _ (HBz.out _) (bytes_const _ _ (by simp) _)).mono ?_
  rintro e w1 ⟨⟨u, x, rfl, hux⟩, hb1⟩
  have HB1 : Hid (Below w.heap.size w w1) := (HBz.out _).trans (hb1.mono (HBz.out (1, 2)).size)
  have HK1 : Hid (Blk w1 w.heap.size #[.int .i64 0, .int .i64 0, .int .i64 0, .int .i64 0, .bool false, .int .i64 0, .slice none 0 0] 29) := (HBk.out _).below hb1
  have hu : BytesAt w1 u t := (hux w1 (HP.out.below HB1.out)).1
  have hx : BytesAt w x s := (hux w HP.out).2
  have HX : Hid (∀ W, BytesAt W (.slice p n c) (t ++ 10 :: s) → BytesAt W x s) := fun W hW => (hux W hW).2
  clear hux
  obtain ⟨ua, uc, rfl⟩ := bytes_slice hu
  obtain ⟨xa, xc, rfl⟩ := bytes_slice hx
  have hcv := str_of hu
  generalize (⟨t.toArray⟩ : ByteArray) = S at HPa hcv
  clear hb1 HBz HCt HBk hu hx HP
  go_wp2_with fail
  clear hcv
  refine (HPa.out _ (HE.out.below HB1.out)).mono ?_
  rintro e w2 ⟨⟨z, rfl, hz, hfr⟩, hb2⟩
  have HFr : Hid (FreshS (w.heap.size + 1) z) := hfr.mono HK1.out.lt
  have HB2 : Hid (Below w.heap.size w w2) := HB1.out.trans (hb2.mono HB1.out.size)
  have HK2 := HK1.out.below hb2
  clear hb2 HB1 HK1 HPa hfr
  simp only at hz
  obtain ⟨za, zc, rfl⟩ := pins_slice hz
  unfold recV
  simp only
  have HZ2 : Hid (PinsAt w2 (.slice za x7.length zc) x7) := hz
  clear hz
  have hbA : Below w2.heap.size w2 (w2.alloc (.cells #[.int .i64 x1, .int .i64 x2, .int .i64 x3, .int .i64 x4, .bool x5, .int .i64 x6, .slice za x7.length zc] 29)) := (Below.refl _ _).alloc (Nat.le_refl _) _
  have HB3 : Hid (Below w.heap.size w (w2.alloc (.cells #[.int .i64 x1, .int .i64 x2, .int .i64 x3, .int .i64 x4, .bool x5, .int .i64 x6, .slice za x7.length zc] 29))) := HB2.out.trans (hbA.mono HB2.out.size)
  have hk := HK2.below hbA
  have HZ3 : Hid (PinsAt (w2.alloc (.cells #[.int .i64 x1, .int .i64 x2, .int .i64 x3, .int .i64 x4, .bool x5, .int .i64 x6, .slice za x7.length zc] 29)) (.slice za x7.length zc) x7) := HZ2.out.below hbA
  have HRX : Hid (RecAt (w2.alloc (.cells #[.int .i64 x1, .int .i64 x2, .int .i64 x3, .int .i64 x4, .bool x5, .int .i64 x6, .slice za x7.length zc] 29)) w2.heap.size x1 x2 x3 x4 x5 x6 (.slice za x7.length zc)) := recAt_alloc w2 x1 x2 x3 x4 x5 x6 _
  have HG : Hid (w.heap.size < w2.heap.size) := HK2.lt
  clear hbA HB2 HK2 HZ2
  go_upto_region 5 with fail
  generalize (w2.alloc (.cells #[.int .i64 x1, .int .i64 x2, .int .i64 x3, .int .i64 x4, .bool x5, .int .i64 x6, .slice za x7.length zc] 29)) = W3 at HB3 hk HZ3 HRX ⊢
  generalize w2.heap.size = g2 at HRX HG ⊢
  obtain ⟨c0, c1, c2, c3, c4, c5, c6, c7⟩ := HRX.out
  have hgg : w.heap.size < g2 := HG.out
  have HNE : Hid (∀ o' c', Value.slice za x7.length zc = .slice (some ⟨w.heap.size, o', none⟩) x7.length c' → x7 = []) := fun o' c' e => absurd (HFr.out _ _ _ _ e) (by omega)
  have HFr' : Hid (FreshS w.heap.size (.slice za x7.length zc)) := HFr.out.mono (Nat.le_succ _)
  have HBS : Hid (∀ u0 u1 u2 u3 u4 u5 u6 : Value, Below w.heap.size w (((((((W3.setCell ⟨w.heap.size, 0, none⟩ u0).setCell ⟨w.heap.size, 1, none⟩ u1).setCell ⟨w.heap.size, 2, none⟩ u2).setCell ⟨w.heap.size, 3, none⟩ u3).setCell ⟨w.heap.size, 4, none⟩ u4).setCell ⟨w.heap.size, 5, none⟩ u5).setCell ⟨w.heap.size, 6, none⟩ u6)) := fun u0 u1 u2 u3 u4 u5 u6 => (((((((HB3.out.setCell (Nat.le_refl _) _).setCell (Nat.le_refl _) _).setCell (Nat.le_refl _) _).setCell (Nat.le_refl _) _).setCell (Nat.le_refl _) _).setCell (Nat.le_refl _) _).setCell (Nat.le_refl _) _)
  have d1 := hk.cell 0
  have d2 := hk.cell 1
  have d3 := hk.cell 2
  have d4 := hk.cell 3
  have d5 := hk.cell 4
  have d6 := hk.cell 5
  have d7 := hk.cell 6
  have f1 := hk.free 0
  have f2 := hk.free 1
  have f3 := hk.free 2
  have f4 := hk.free 3
  have f5 := hk.free 4
  have f6 := hk.free 5
  have f7 := hk.free 6
  simp only [List.getElem?_toArray, List.getElem?_cons_zero, List.getElem?_cons_succ] at d1 d2 d3 d4 d5 d6 d7
  clear hk HFr HB3
  go_wp2
  refine bodyPost_ret (v := .tuple #[.agg #[.int .i64 x1, .int .i64 x2, .int .i64 x3, .int .i64 x4, .bool x5, .int .i64 x6, .slice za x7.length zc], .slice xa s.length xc, .int .i64 XE]) (by simp [results, Tryz.results30, go_sem, d1, d2, d3, d4, d5, d6, d7]) rfl ⟨?_, HBS.out _ _ _ _ _ _ _⟩
  refine ⟨.slice za x7.length zc, .slice xa s.length xc, rfl, ⟨?_, HFr'.out⟩, HX.out⟩
  have hne := HNE.out
  exact pins_set (pins_set (pins_set (pins_set (pins_set (pins_set (pins_set HZ3.out hne) hne) hne) hne) hne) hne) hne
end Go.Proofs.YtlnbcgjahjjpfacGreatDoor
