import Derived.Test.YtpenkhehceglfaaGreatDoorMD
import Derived.Test.YtpenkhehceglfaaGreatDoorMH
import Derived.Lib.SmallJoins
import Derived.Deep.RegionHeld3
import Derived.Test.YtpenkhehceglfaaGreatDoorT4
import Derived.Test.YtpenkhehceglfaaGreatDoorMJ
import Derived.Deep.RegionWith
/- The contract of disk.firstRec. -/
namespace Go.Proofs.YtpenkhehceglfaaGreatDoor
open Go.RowKit
theorem bytes_const (w : World) (g : Nat) (hg : g = w.heap.size) (fr : Nat × Nat) : BytesAt (w.alloc (.cells #[.int .u8 10] 5 fr)) (.slice (some ⟨g, 0, none⟩) 1 1) [10] := by
  refine ⟨by decide, 1, by decide, .inr ⟨g, 0, rfl, by simp [hg], fun j hj => ?_⟩⟩
  have : j = 0 := by simp at hj; omega
  subst this
  rw [Go.Joins.cell_alloc_mark_at _ _ _ _ _ _ hg]
  rfl
set_option maxHeartbeats 2000000 in
set_option maxRecDepth 100000 in
theorem first_torn (v : Value) (l : List UInt8) (w : World) (hE : Env w) (hP : BytesAt w v l) (hl : l.length ≤ 60000) (hn : 10 ∉ l) :
    Calls Tryz.prog 61 #[v] w fun e w' => e = .returned (.tuple #[recV Lk.Note.none (.slice none 0 0), .slice none 0 0, .int .i64 9]) ∧ Below w.heap.size w w' := by
  obtain ⟨p, c, rfl⟩ := bytes_slice hP
  have HBz : Hid (∀ fr, Below w.heap.size w ((w.alloc (.cells #[.int .i64 0, .int .i64 0, .int .i64 0, .int .i64 0, .bool false, .int .i64 0, .slice none 0 0] 34)).alloc (.cells #[.int .u8 10] 5 fr))) := fun fr => ((Below.refl _ w).alloc (Nat.le_refl _) _).alloc (by simp) _
  have HCt : Hid (∀ w' sv, Below w.heap.size w w' → BytesAt w' sv [10] → Calls Tryz.prog 84 #[.slice p l.length c, sv] w' fun e w'' => e = .returned (.tuple #[.slice p l.length c, .slice none 0 0, .bool false]) ∧ Below w'.heap.size w' w'') := fun w' sv hb hs => cut_torn _ sv l w' (hE.below hb) (hP.below hb) hs hl hn
  have HBk : Hid (∀ fr, Blk ((w.alloc (.cells #[.int .i64 0, .int .i64 0, .int .i64 0, .int .i64 0, .bool false, .int .i64 0, .slice none 0 0] 34)).alloc (.cells #[.int .u8 10] 5 fr)) w.heap.size #[.int .i64 0, .int .i64 0, .int .i64 0, .int .i64 0, .bool false, .int .i64 0, .slice none 0 0] 34) := fun fr => (blk_alloc w _ _).below ((Below.refl _ _).alloc (Nat.le_refl _) _)
  have kc := fun (C : Array Value) (n c : Nat) => Go.Joins.run_convert_bytes_const_at (P := Tryz.prog) (w.alloc (.cells #[.int .i64 0, .int .i64 0, .int .i64 0, .int .i64 0, .bool false, .int .i64 0, .slice none 0 0] 34)) 71 5 C n c (w.heap.size + 1) (by simp) Tryz.underlying71 Tryz.underlying5
  clear hE hP hl hn
  go_enter Tryz.func61, Tryz.ntmps61
  go_wp2_with fail
  clear kc
  refine (HCt.out _ _ (HBz.out _) (bytes_const _ _ (by simp) _)).mono ?_
  rintro e w1 ⟨rfl, hb1⟩
  have HB1 : Hid (Below w.heap.size w w1) := (HBz.out _).trans (hb1.mono (HBz.out (1, 2)).size)
  have hk := (HBk.out _).below hb1
  clear hb1 HBz HCt HBk
  have d1 := hk.cell 0
  have d2 := hk.cell 1
  have d3 := hk.cell 2
  have d4 := hk.cell 3
  have d5 := hk.cell 4
  have d6 := hk.cell 5
  have d7 := hk.cell 6
  have f1 := hk.free 0
  have f2 := hk.free 1
  have f3 := hk.free 2
  have f4 := hk.free 3
  have f5 := hk.free 4
  have f6 := hk.free 5
  have f7 := hk.free 6
  simp only [List.getElem?_toArray, List.getElem?_cons_zero, List.getElem?_cons_succ] at d1 d2 d3 d4 d5 d6 d7
  clear hk
  go_wp2
  refine bodyPost_ret (v := .tuple #[recV Lk.Note.none (.slice none 0 0), .slice none 0 0, .int .i64 9]) (by simp [results, Tryz.results61, go_sem, recV, Lk.Note.none, d1, d2, d3, d4, d5, d6, d7]) rfl ⟨rfl, ?_⟩
  exact (((((((HB1.out.setCell (Nat.le_refl _) _).setCell (Nat.le_refl _) _).setCell (Nat.le_refl _) _).setCell (Nat.le_refl _) _).setCell (Nat.le_refl _) _).setCell (Nat.le_refl _) _).setCell (Nat.le_refl _) _)
/-- what firstRec answers of a line -/
def firstR (N : Nat) (w : World) (q : Lk.Note × Int) (v : Value) (l s : List UInt8) (e : Ending) : Prop := ∃ z u, e = .returned (.tuple #[recV q.1 z, u, .int .i64 q.2]) ∧ NewPins N w z q.1.lock ∧ ∀ W, BytesAt W v l → BytesAt W u s
set_option maxHeartbeats 4000000 in
set_option maxRecDepth 100000 in
theorem first_line (v : Value) (t s : List UInt8) (w : World) (hE : Env w) (hP : BytesAt w v (t ++ 10 :: s)) (hl : (t ++ 10 :: s).length ≤ 60000) (hn : 10 ∉ t) :
    Calls Tryz.prog 61 #[v] w fun e w' => firstR w.heap.size w' (Lk.readNote t) v (t ++ 10 :: s) s e ∧ Below w.heap.size w w' := by
  obtain ⟨p, c, rfl⟩ := bytes_slice hP
  have HE : Hid (Env w) := hE
  have HBz : Hid (∀ fr, Below w.heap.size w ((w.alloc (.cells #[.int .i64 0, .int .i64 0, .int .i64 0, .int .i64 0, .bool false, .int .i64 0, .slice none 0 0] 34)).alloc (.cells #[.int .u8 10] 5 fr))) := fun fr => ((Below.refl _ w).alloc (Nat.le_refl _) _).alloc (by simp) _
  have HCt : Hid (∀ w' sv, Below w.heap.size w w' → BytesAt w' sv [10] → Calls Tryz.prog 84 #[.slice p (t ++ 10 :: s).length c, sv] w' fun e w'' => (∃ u x, e = .returned (.tuple #[u, x, .bool true]) ∧ ∀ W, BytesAt W (.slice p (t ++ 10 :: s).length c) (t ++ 10 :: s) → BytesAt W u t ∧ BytesAt W x s) ∧ Below w'.heap.size w' w'') := fun w' sv hb hs => cut_line _ sv t s w' (hE.below hb) (hP.below hb) hs hl hn
  have HBk : Hid (∀ fr, Blk ((w.alloc (.cells #[.int .i64 0, .int .i64 0, .int .i64 0, .int .i64 0, .bool false, .int .i64 0, .slice none 0 0] 34)).alloc (.cells #[.int .u8 10] 5 fr)) w.heap.size #[.int .i64 0, .int .i64 0, .int .i64 0, .int .i64 0, .bool false, .int .i64 0, .slice none 0 0] 34) := fun fr => (blk_alloc w _ _).below ((Below.refl _ _).alloc (Nat.le_refl _) _)
  have HPa : Hid (∀ w, Env w → Calls Tryz.prog 85 #[.string ⟨t.toArray⟩] w fun e w' => parsedN w.heap.size w' (Lk.readNote t) e ∧ Below w.heap.size w w') := fun w hE => by
    have := noteParse_new ⟨t.toArray⟩ (by show t.toArray.size ≤ 60000; rw [List.size_toArray]; simp at hl; omega) w hE
    simpa using this
  have kc := fun (C : Array Value) (n c : Nat) => Go.Joins.run_convert_bytes_const_at (P := Tryz.prog) (w.alloc (.cells #[.int .i64 0, .int .i64 0, .int .i64 0, .int .i64 0, .bool false, .int .i64 0, .slice none 0 0] 34)) 71 5 C n c (w.heap.size + 1) (by simp) Tryz.underlying71 Tryz.underlying5
  have HP : Hid (BytesAt w (.slice p (t ++ 10 :: s).length c) (t ++ 10 :: s)) := hP
  clear hE hP hl hn
  generalize Lk.readNote t = X at HPa ⊢
  obtain ⟨⟨x1, x2, x3, x4, x5, x6, x7⟩, XE⟩ := X
  generalize (t ++ 10 :: s).length = n at HCt HP ⊢
  go_enter Tryz.func61, Tryz.ntmps61
  go_wp2_with fail
  clear kc
  refine (HCt.out _ _ (HBz.out _) (bytes_const _ _ (by simp) _)).mono ?_
  rintro e w1 ⟨⟨u, x, rfl, hux⟩, hb1⟩
  have HB1 : Hid (Below w.heap.size w w1) := (HBz.out _).trans (hb1.mono (HBz.out (1, 2)).size)
  have HK1 : Hid (Blk w1 w.heap.size #[.int .i64 0, .int .i64 0, .int .i64 0, .int .i64 0, .bool false, .int .i64 0, .slice none 0 0] 34) := (HBk.out _).below hb1
  have hu : BytesAt w1 u t := (hux w1 (HP.out.below HB1.out)).1
  have hx : BytesAt w x s := (hux w HP.out).2
  have HX : Hid (∀ W, BytesAt W (.slice p n c) (t ++ 10 :: s) → BytesAt W x s) := fun W hW => (hux W hW).2
  clear hux
  obtain ⟨ua, uc, rfl⟩ := bytes_slice hu
  obtain ⟨xa, xc, rfl⟩ := bytes_slice hx
  have hcv := str_of hu
  generalize (⟨t.toArray⟩ : ByteArray) = S at HPa hcv
  clear hb1 HBz HCt HBk hu hx HP
  go_wp2_with fail
  clear hcv
  refine (HPa.out _ (HE.out.below HB1.out)).mono ?_
  rintro e w2 ⟨⟨z, rfl, hz, hfr⟩, hb2⟩
  have HFr : Hid (FreshS (w.heap.size + 1) z) := hfr.mono HK1.out.lt
  have HB2 : Hid (Below w.heap.size w w2) := HB1.out.trans (hb2.mono HB1.out.size)
  have HK2 := HK1.out.below hb2
  clear hb2 HB1 HK1 HPa hfr
  simp only at hz
  obtain ⟨za, zc, rfl⟩ := pins_slice hz
  unfold recV
  simp only
  have HZ2 : Hid (PinsAt w2 (.slice za x7.length zc) x7) := hz
  clear hz
  have hbA : Below w2.heap.size w2 (w2.alloc (.cells #[.int .i64 x1, .int .i64 x2, .int .i64 x3, .int .i64 x4, .bool x5, .int .i64 x6, .slice za x7.length zc] 34)) := (Below.refl _ _).alloc (Nat.le_refl _) _
  have HB3 : Hid (Below w.heap.size w (w2.alloc (.cells #[.int .i64 x1, .int .i64 x2, .int .i64 x3, .int .i64 x4, .bool x5, .int .i64 x6, .slice za x7.length zc] 34))) := HB2.out.trans (hbA.mono HB2.out.size)
  have hk := HK2.below hbA
  have HZ3 : Hid (PinsAt (w2.alloc (.cells #[.int .i64 x1, .int .i64 x2, .int .i64 x3, .int .i64 x4, .bool x5, .int .i64 x6, .slice za x7.length zc] 34)) (.slice za x7.length zc) x7) := HZ2.out.below hbA
  have HRX : Hid (RecAt (w2.alloc (.cells #[.int .i64 x1, .int .i64 x2, .int .i64 x3, .int .i64 x4, .bool x5, .int .i64 x6, .slice za x7.length zc] 34)) w2.heap.size x1 x2 x3 x4 x5 x6 (.slice za x7.length zc)) := recAt_alloc w2 x1 x2 x3 x4 x5 x6 _
  have HG : Hid (w.heap.size < w2.heap.size) := HK2.lt
  clear hbA HB2 HK2 HZ2
  go_upto_region 5 with fail
  generalize (w2.alloc (.cells #[.int .i64 x1, .int .i64 x2, .int .i64 x3, .int .i64 x4, .bool x5, .int .i64 x6, .slice za x7.length zc] 34)) = W3 at HB3 hk HZ3 HRX ⊢
  generalize w2.heap.size = g2 at HRX HG ⊢
  obtain ⟨c0, c1, c2, c3, c4, c5, c6, c7⟩ := HRX.out
  have hgg : w.heap.size < g2 := HG.out
  have HNE : Hid (∀ o' c', Value.slice za x7.length zc = .slice (some ⟨w.heap.size, o', none⟩) x7.length c' → x7 = []) := fun o' c' e => absurd (HFr.out _ _ _ _ e) (by omega)
  have HFr' : Hid (FreshS w.heap.size (.slice za x7.length zc)) := HFr.out.mono (Nat.le_succ _)
  have HBS : Hid (∀ u0 u1 u2 u3 u4 u5 u6 : Value, Below w.heap.size w (((((((W3.setCell ⟨w.heap.size, 0, none⟩ u0).setCell ⟨w.heap.size, 1, none⟩ u1).setCell ⟨w.heap.size, 2, none⟩ u2).setCell ⟨w.heap.size, 3, none⟩ u3).setCell ⟨w.heap.size, 4, none⟩ u4).setCell ⟨w.heap.size, 5, none⟩ u5).setCell ⟨w.heap.size, 6, none⟩ u6)) := fun u0 u1 u2 u3 u4 u5 u6 => (((((((HB3.out.setCell (Nat.le_refl _) _).setCell (Nat.le_refl _) _).setCell (Nat.le_refl _) _).setCell (Nat.le_refl _) _).setCell (Nat.le_refl _) _).setCell (Nat.le_refl _) _).setCell (Nat.le_refl _) _)
  have d1 := hk.cell 0
  have d2 := hk.cell 1
  have d3 := hk.cell 2
  have d4 := hk.cell 3
  have d5 := hk.cell 4
  have d6 := hk.cell 5
  have d7 := hk.cell 6
  have f1 := hk.free 0
  have f2 := hk.free 1
  have f3 := hk.free 2
  have f4 := hk.free 3
  have f5 := hk.free 4
  have f6 := hk.free 5
  have f7 := hk.free 6
  simp only [List.getElem?_toArray, List.getElem?_cons_zero, List.getElem?_cons_succ] at d1 d2 d3 d4 d5 d6 d7
  clear hk HFr HB3
  go_wp2
  refine bodyPost_ret (v := .tuple #[.agg #[.int .i64 x1, .int .i64 x2, .int .i64 x3, .int .i64 x4, .bool x5, .int .i64 x6, .slice za x7.length zc], .slice xa s.length xc, .int .i64 XE]) (by simp [results, Tryz.results61, go_sem, d1, d2, d3, d4, d5, d6, d7]) rfl ⟨?_, HBS.out _ _ _ _ _ _ _⟩
  refine ⟨.slice za x7.length zc, .slice xa s.length xc, rfl, ⟨?_, HFr'.out⟩, HX.out⟩
  have hne := HNE.out
  exact pins_set (pins_set (pins_set (pins_set (pins_set (pins_set (pins_set HZ3.out hne) hne) hne) hne) hne) hne) hne
end Go.Proofs.YtpenkhehceglfaaGreatDoor
/- Contracts of disk.size, disk.safeRecs and disk.Check. -/
namespace Go.Proofs.YtpenkhehceglfaaGreatDoor
open Go.RowKit
set_option maxHeartbeats 1000000 in
theorem size_any (a b : Option Addr) (n c m d : Nat) (w : World) (hn : n ≤ 140737488355328) (hm : m ≤ 140737488355328) :
    Calls Tryz.prog 57 #[.agg #[.slice a n c, .slice b m d]] w fun e w' => e = .returned (.int .i64 ((n : Int) + (m : Int))) ∧ Below w.heap.size w w' := by
  have HB : Hid (∀ o, Below w.heap.size w (w.alloc o)) := fun o => (Below.refl _ w).alloc (Nat.le_refl _) o
  go_enter Tryz.func57, Tryz.ntmps57
  go_wp2
  go_ret
  exact ⟨rfl, HB.out _⟩
/-- what safeRecs answers -/
def safeR (N : Nat) (w : World) (q : List Lk.Note × Int) (e : Ending) : Prop := ∃ v ps, e = .returned (.tuple #[v, .int .i64 q.2]) ∧ w.ownsRow N 34 7 v ps.length (flatR ps) ∧ Locks w v.ownBlock ps ∧ ps.map Prod.fst = q.1
theorem safeR_none (N : Nat) (w : World) {q : List Lk.Note × Int} {x : Int} (h : q = ([], x)) : safeR N w q (.returned (.tuple #[.slice none 0 0, .int .i64 x])) := by
  subst h
  exact ⟨_, [], rfl, World.ownsRow_nil _ _ _ _, (fun p hp => by cases hp), rfl⟩
theorem safeR_mk {N : Nat} {w : World} {q : List Lk.Note × Int} {v : Value} {ps : List (Lk.Note × Value)} (h : q = (ps.map Prod.fst, 0)) (hO : w.ownsRow N 34 7 v ps.length (flatR ps)) (hL : Locks w v.ownBlock ps) : safeR N w q (.returned (.tuple #[v, .int .i64 0])) := by
  subst h; exact ⟨v, ps, rfl, hO, hL, rfl⟩
theorem safe_many {d : Lk.Disk} (h : 60000 < d.safe.length + d.wait.length) : Lk.safeP d = ([], 2) := by
  unfold Lk.safeP
  rw [chk_many (by rw [Lk.tooMany_iff]; exact decide_eq_true h), if_neg (by decide)]
theorem safe_ok {d : Lk.Disk} (h : ¬ 60000 < d.safe.length + d.wait.length) {L : List Lk.Note} {n : Nat} (hq : Lk.linesFrom 200 [] 0 d.safe = (L, n, 0)) : Lk.safeP d = (L, 0) := by
  have e : Lk.linesOf d.safe 200 = (L, n, 0) := hq
  unfold Lk.safeP
  rw [chk_lines (by rw [Lk.tooMany_iff]; exact decide_eq_false h), e, if_pos rfl]
theorem safe_bad {d : Lk.Disk} (h : ¬ 60000 < d.safe.length + d.wait.length) {L : List Lk.Note} {n : Nat} {x : Int} (hx : ¬ x = 0) (hq : Lk.linesFrom 200 [] 0 d.safe = (L, n, x)) : Lk.safeP d = ([], x) := by
  have e : Lk.linesOf d.safe 200 = (L, n, x) := hq
  unfold Lk.safeP
  rw [chk_lines (by rw [Lk.tooMany_iff]; exact decide_eq_false h), e, if_neg hx]
theorem owns_less {w : World} {B B' e size n : Nat} {v : Value} {xs : List Value} (h : w.ownsRow B e size v n xs) (hB : B' ≤ B) : w.ownsRow B' e size v n xs := by
  refine ⟨h.1, ?_⟩
  rcases h.2 with h | ⟨g, cap, cur, e1, e2, e3⟩
  · exact .inl h
  · exact .inr ⟨g, cap, cur, e1, Nat.le_trans hB e2, e3⟩
set_option maxHeartbeats 8000000 in
set_option maxRecDepth 100000 in
theorem safe_any (vs vw : Value) (ls lw : List UInt8) (w : World) (hE : Env w) (hS : BytesAt w vs ls) (hW : BytesAt w vw lw) :
    Calls Tryz.prog 60 #[.agg #[vs, vw]] w fun e w' => safeR w.heap.size w' (Lk.safeP ⟨ls, lw⟩) e ∧ Below w.heap.size w w' := by
  obtain ⟨a, c, rfl⟩ := bytes_slice hS
  obtain ⟨a', c', rfl⟩ := bytes_slice hW
  have HE : Hid (Env w) := hE
  have HS : Hid (BytesAt w (.slice a ls.length c) ls) := hS
  have hsl := hS.1
  have hwl := hW.1
  have HB0 : Hid (Below w.heap.size w (w.alloc (.cells #[.slice a ls.length c, .slice a' lw.length c'] 73))) := (Below.refl _ w).alloc (Nat.le_refl _) _
  have HSz : Hid (∀ w', Calls Tryz.prog 57 #[.agg #[.slice a ls.length c, .slice a' lw.length c']] w' fun e w'' => e = .returned (.int .i64 ((ls.length : Int) + (lw.length : Int))) ∧ Below w'.heap.size w' w'') := fun w' => size_any _ _ _ _ _ _ w' hsl hwl
  have HK0 : Hid (Blk (w.alloc (.cells #[.slice a ls.length c, .slice a' lw.length c'] 73)) w.heap.size #[.slice a ls.length c, .slice a' lw.length c'] 73) := blk_alloc w _ _
  have F0 : Hid (60000 < ls.length + lw.length → Lk.safeP ⟨ls, lw⟩ = ([], 2)) := fun h => safe_many h
  have F1 : Hid (¬ 60000 < ls.length + lw.length → ∀ L n, Lk.linesFrom 200 [] 0 ls = (L, n, 0) → Lk.safeP ⟨ls, lw⟩ = (L, 0)) := fun h L n hq => safe_ok h hq
  have F2 : Hid (¬ 60000 < ls.length + lw.length → ∀ L n x, ¬ x = 0 → Lk.linesFrom 200 [] 0 ls = (L, n, x) → Lk.safeP ⟨ls, lw⟩ = ([], x)) := fun h L n x hx hq => safe_bad h hx hq
  clear hE hS hW
  generalize Lk.safeP ⟨ls, lw⟩ = Q at F0 F1 F2 ⊢
  obtain ⟨i0, hi, hz0, hz1, hz2⟩ := info_parts Tryz.info34
  go_enter Tryz.func60, Tryz.ntmps60
  go_wp2_with fail
  refine (HSz.out _).mono ?_
  rintro e w1 ⟨rfl, hb1⟩
  have HB1 : Hid (Below w.heap.size w w1) := HB0.out.trans (hb1.mono HB0.out.size)
  have HK1 := HK0.out.below hb1
  have k0 := HK1.cell 0
  have HE1 : Hid (Env w1) := HE.out.below HB1.out
  have HS1 : Hid (BytesAt w1 (.slice a ls.length c) ls) := HS.out.below HB1.out
  simp only [List.getElem?_toArray, List.getElem?_cons_zero] at k0
  clear hb1 HB0 HK0 HK1 HSz HE HS
  by_cases h1 : 60000 < ls.length + lw.length
  · have HQ : Hid (Q = ([], 2)) := F0.out h1
    have h1' : (60000 : Int) < (ls.length : Int) + (lw.length : Int) := by omega
    clear F0 F1 F2 k0
    go_wp2
    go_ret2
    exact ⟨safeR_none _ _ HQ.out, HB1.out⟩
  have h1' : (ls.length : Int) + (lw.length : Int) ≤ 60000 := by omega
  have HF1 : Hid (∀ L n, Lk.linesFrom 200 [] 0 ls = (L, n, 0) → Q = (L, 0)) := F1.out h1
  have HF2 : Hid (∀ L n x, ¬ x = 0 → Lk.linesFrom 200 [] 0 ls = (L, n, x) → Q = ([], x)) := F2.out h1
  clear F0 F1 F2
  have HQ0 : Hid (Lk.linesFrom 200 [] 0 ls = Lk.linesFrom 200 [] 0 ls) := rfl
  obtain ⟨R0, hR0⟩ : ∃ R, R = Lk.linesFrom 200 [] 0 ls := ⟨_, rfl⟩
  have HR0 : Hid (R0 = Lk.linesFrom 200 [] 0 ls) := hR0
  rw [← hR0] at HF1 HF2
  clear hR0 HQ0
  go_wp2_with fail
  clear k0
  go_loopg [4, 5] ls.length (fun g s4 s5 wr => ∃ (ps : List (Lk.Note × Value)) (s : List UInt8) (n : Nat) (sa : Option Addr) (sc : Nat), s.length ≤ g ∧ s.length ≤ 60000 ∧ s5 = .slice sa s.length sc ∧ Hid (wr.ownsRow w1.heap.size 34 7 s4 ps.length (flatR ps)) ∧ Hid (Locks wr s4.ownBlock ps) ∧ Hid (BytesAt w1 (.slice sa s.length sc) s) ∧ Hid (R0 = Lk.linesFrom 200 (ps.map Prod.fst) n s) ∧ Hid (ps.length ≤ 200) ∧ Hid (Below w1.heap.size w1 wr))
  case atStart => exact ⟨[], ls, 0, a, c, Nat.le_refl _, by omega, rfl, World.ownsRow_nil _ _ _ _, (fun p hp => by cases hp), HS1, HR0, Nat.zero_le _, Below.refl _ _⟩
  case round =>
    obtain ⟨ps, s, n, sa, sc, hg, hs6, rfl, HO, HLk, HSr, HQk, HM, HBr⟩ := hrel
    have HFin : Hid (Below w.heap.size w wr) := HB1.out.trans (HBr.out.mono HB1.out.size)
    have HRow : Hid (wr.ownsRow w.heap.size 34 7 u4 ps.length (flatR ps)) := owns_less HO.out HB1.out.size
    obtain ⟨ra, rc, hu4⟩ := slice_of_owns HO.out
    have HEr : Hid (Env wr) := HE1.out.below HBr.out
    by_cases h0 : s = []
    · subst h0
      have HQ : Hid (Q = (ps.map Prod.fst, 0)) := HF1.out _ n (by rw [HQk.out]; exact Lk.from_nil _ _ _)
      clear HF1 HF2 HQk
      subst hu4
      go_wp2
      go_ret2
      exact ⟨safeR_mk HQ.out HRow.out HLk.out, HFin.out⟩
    have hpos : (0 : Int) < (s.length : Int) := by have := List.length_pos_iff.2 h0; omega
    rcases Lk.lf_cases s with hn | ⟨t, r, es, hn⟩
    · have HQ : Hid (Q = ([], 9)) := HF2.out _ n 9 (by decide) (by rw [HQk.out]; exact Lk.from_torn h0 hn)
      have HFr : Hid (Calls Tryz.prog 61 #[.slice sa s.length sc] wr fun e w' => e = .returned (.tuple #[recV Lk.Note.none (.slice none 0 0), .slice none 0 0, .int .i64 9]) ∧ Below wr.heap.size wr w') := first_torn _ s wr HEr.out (HSr.out.below HBr.out) hs6 hn
      clear HF1 HF2 HQk h0
      subst hu4
      go_wp2_with fail
      refine HFr.out.mono ?_
      rintro e w2 ⟨rfl, hb2⟩
      have HB2 : Hid (Below w.heap.size w w2) := HFin.out.trans (hb2.mono HFin.out.size)
      clear hb2
      unfold recV Lk.Note.none
      go_wp2
      go_ret2
      exact ⟨safeR_none _ _ HQ.out, HB2.out.alloc HB2.out.size _⟩
    · subst es
      have HFr : Hid (Calls Tryz.prog 61 #[.slice sa (t ++ 10 :: r).length sc] wr fun e w' => firstR wr.heap.size w' (Lk.readNote t) (.slice sa (t ++ 10 :: r).length sc) (t ++ 10 :: r) r e ∧ Below wr.heap.size wr w') := first_line _ t r wr HEr.out (HSr.out.below HBr.out) hs6 hn
      have G1 : Hid (¬ (Lk.readNote t).2 = 0 → Q = ([], (Lk.readNote t).2)) := fun h => HF2.out _ n _ h (by rw [HQk.out]; exact Lk.from_bad hn h)
      have G2 : Hid ((Lk.readNote t).2 = 0 → 200 ≤ ps.length → Q = ([], 2)) := fun h h' => HF2.out _ n 2 (by decide) (by rw [HQk.out]; exact Lk.from_many hn h (by rw [List.length_map]; exact h'))
      have G3 : Hid ((Lk.readNote t).2 = 0 → ps.length < 200 → R0 = Lk.linesFrom 200 (ps.map Prod.fst ++ [(Lk.readNote t).1]) (n + t.length + 1) r) := fun h h' => by rw [HQk.out]; exact Lk.from_step hn h (by rw [List.length_map]; exact h')
      have hrl : r.length + 1 ≤ (t ++ 10 :: r).length := by simp
      clear HQk h0 hn
      generalize Lk.readNote t = X at HFr G1 G2 G3
      generalize (t ++ 10 :: r).length = sl at HFr HSr hg hs6 hpos hrl ⊢
      obtain ⟨⟨x1, x2, x3, x4, x5, x6, x7⟩, XE⟩ := X
      simp only at G1 G2 G3
      subst hu4
      go_wp2_with fail
      refine HFr.out.mono ?_
      rintro e w2 ⟨⟨z, u, rfl, ⟨hz, hfr⟩, hux⟩, hb2⟩
      have hu := hux w1 HSr.out
      obtain ⟨ua, uc, rfl⟩ := bytes_slice hu
      have HU : Hid (BytesAt w1 (.slice ua r.length uc) r) := hu
      simp only at hz hfr
      obtain ⟨za, zc, rfl⟩ := pins_slice hz
      clear hux hu HFr
      unfold recV
      simp only
      have hbA : Below w2.heap.size w2 (w2.alloc (.cells #[.int .i64 x1, .int .i64 x2, .int .i64 x3, .int .i64 x4, .bool x5, .int .i64 x6, .slice za x7.length zc] 34)) := (Below.refl _ _).alloc (Nat.le_refl _) _
      have hbB : Below wr.heap.size wr (w2.alloc (.cells #[.int .i64 x1, .int .i64 x2, .int .i64 x3, .int .i64 x4, .bool x5, .int .i64 x6, .slice za x7.length zc] 34)) := hb2.trans (hbA.mono hb2.size)
      have HFin2 : Hid (Below w.heap.size w (w2.alloc (.cells #[.int .i64 x1, .int .i64 x2, .int .i64 x3, .int .i64 x4, .bool x5, .int .i64 x6, .slice za x7.length zc] 34))) := HFin.out.trans (hbB.mono HFin.out.size)
      have HB3 : Hid (Below w1.heap.size w1 (w2.alloc (.cells #[.int .i64 x1, .int .i64 x2, .int .i64 x3, .int .i64 x4, .bool x5, .int .i64 x6, .slice za x7.length zc] 34))) := HBr.out.trans (hbB.mono HBr.out.size)
      have HO2 : Hid ((w2.alloc (.cells #[.int .i64 x1, .int .i64 x2, .int .i64 x3, .int .i64 x4, .bool x5, .int .i64 x6, .slice za x7.length zc] 34)).ownsRow w1.heap.size 34 7 (.slice ra ps.length rc) ps.length (flatR ps)) := owns_below HO.out hbB
      have HLk2 : Hid (Locks (w2.alloc (.cells #[.int .i64 x1, .int .i64 x2, .int .i64 x3, .int .i64 x4, .bool x5, .int .i64 x6, .slice za x7.length zc] 34)) (Value.slice ra ps.length rc).ownBlock ps) := HLk.out.below hbB
      have HZ2 : Hid (PinsAt (w2.alloc (.cells #[.int .i64 x1, .int .i64 x2, .int .i64 x3, .int .i64 x4, .bool x5, .int .i64 x6, .slice za x7.length zc] 34)) (.slice za x7.length zc) x7) := hz.below hbA
      have HAp : Hid (x7 ≠ [] → (Value.slice za x7.length zc).ownBlock ≠ (Value.slice ra ps.length rc).ownBlock) := fresh_apart HO.out hz hfr
      have HRX : Hid (RecAt (w2.alloc (.cells #[.int .i64 x1, .int .i64 x2, .int .i64 x3, .int .i64 x4, .bool x5, .int .i64 x6, .slice za x7.length zc] 34)) w2.heap.size x1 x2 x3 x4 x5 x6 (.slice za x7.length zc)) := recAt_alloc w2 x1 x2 x3 x4 x5 x6 _
      clear hbA hbB hz hfr hb2 HRow HO HLk HFin HBr HEr
      by_cases he : XE = 0
      rotate_left
      · have heb : (XE != 0) = true := by rw [bne_iff_ne]; exact he
        have HQ : Hid (Q = ([], XE)) := G1.out he
        clear G1 G2 G3 HF1 HF2 he
        go_wp2
        go_ret2
        exact ⟨safeR_none _ _ HQ.out, HFin2.out⟩
      subst he
      have hpl : ps.length ≤ 200 := HM.out
      by_cases hm : 200 ≤ ps.length
      · have HQ : Hid (Q = ([], 2)) := G2.out rfl hm
        have hm' : ((ps.length : Int) == 200) = true := by rw [beq_iff_eq]; omega
        clear G1 G2 G3 HF1 HF2 hm
        go_wp2
        go_ret2
        exact ⟨safeR_none _ _ HQ.out, HFin2.out⟩
      have hm' : ((ps.length : Int) == 200) = false := by rw [beq_eq_false_iff_ne]; omega
      have HQ2 : Hid (R0 = Lk.linesFrom 200 (ps.map Prod.fst ++ [(⟨x1, x2, x3, x4, x5, x6, x7⟩ : Lk.Note)]) (n + t.length + 1) r) := G3.out rfl (by omega)
      have HM2 : Hid (ps.length + 1 ≤ 200) := by show ps.length + 1 ≤ 200; omega
      clear G1 G2 G3 hm
      go_upto_region 11 with fail
      generalize (w2.alloc (.cells #[.int .i64 x1, .int .i64 x2, .int .i64 x3, .int .i64 x4, .bool x5, .int .i64 x6, .slice za x7.length zc] 34)) = W2 at HFin2 HB3 HO2 HLk2 HZ2 HRX ⊢
      generalize w2.heap.size = g2 at HRX ⊢
      obtain ⟨c0, c1, c2, c3, c4, c5, c6, c7⟩ := HRX.out
      have hw1 : w1.heap.size ≤ W2.heap.size := HB3.out.size
      have hps : ps.length ≤ 200 := by omega
      go_wp2_with (at_builtin; refine wpList_append_own_at _ rfl _ _ 25 rfl w1.heap.size 34 i0 (.agg #[.int .i64 0, .int .i64 0, .int .i64 0, .int .i64 0, .bool false, .int .i64 0, .slice none 0 0]) 7 72 Tryz.underlying25 hi hz0 hz1 hz2 rfl (by decide) _ ps.length (flatR ps) rfl (HO2.out.alloc _) ⟨W2.heap.size, 0, none⟩ 1 1 (recCells (⟨x1, x2, x3, x4, x5, x6, x7⟩, .slice za x7.length zc)) rfl rfl ?k1 ?k2 ?k3 ?k4 ?k5 ?_)
      case k1 =>
        intro j u hj
        rcases j with _ | _ | _ | _ | _ | _ | _ | j
        iterate 7 (simp [recCells] at hj; subst hj; simp [go_sem, Addr.add])
        simp [recCells] at hj
      case k2 =>
        intro u hu
        simp only [recCells, List.mem_cons, List.not_mem_nil, or_false] at hu
        rcases hu with rfl | rfl | rfl | rfl | rfl | rfl | rfl <;> rfl
      case k3 => unfold maxLen; omega
      case k4 => omega
      case k5 => simp; omega
      intro v' w3 hown hgrow _ hrow
      have HO3 : Hid (w3.ownsRow w1.heap.size 34 7 v' (ps ++ [((⟨x1, x2, x3, x4, x5, x6, x7⟩ : Lk.Note), Value.slice za x7.length zc)]).length (flatR (ps ++ [((⟨x1, x2, x3, x4, x5, x6, x7⟩ : Lk.Note), Value.slice za x7.length zc)]))) := by
        rw [flatR_append, List.length_append]
        have e : flatR [((⟨x1, x2, x3, x4, x5, x6, x7⟩ : Lk.Note), Value.slice za x7.length zc)] = recCells (⟨x1, x2, x3, x4, x5, x6, x7⟩, .slice za x7.length zc) := by simp [flatR]
        rw [e]; exact hown
      have HLk3 : Hid (Locks w3 v'.ownBlock (ps ++ [((⟨x1, x2, x3, x4, x5, x6, x7⟩ : Lk.Note), Value.slice za x7.length zc)])) :=
        Locks.grown ((Locks.below (HLk2.out.snoc HZ2.out HAp.out) ((Below.refl _ W2).alloc (Nat.le_refl _) _))) hgrow (by rw [World.size_alloc]; exact hrow)
      have HB4 : Hid (Below w1.heap.size w1 w3) := (HB3.out.alloc hw1 _).grown hgrow (by simp; omega) (fun q hq => (HO2.out.lt q hq).1)
      have HQ3 : Hid (R0 = Lk.linesFrom 200 ((ps ++ [((⟨x1, x2, x3, x4, x5, x6, x7⟩ : Lk.Note), Value.slice za x7.length zc)]).map Prod.fst) (n + t.length + 1) r) := by rw [HQ2.out, List.map_append]; rfl
      have HM3 : Hid ((ps ++ [((⟨x1, x2, x3, x4, x5, x6, x7⟩ : Lk.Note), Value.slice za x7.length zc)]).length ≤ 200) := by rw [List.length_append]; exact HM2.out
      clear hown hgrow hrow HO2 HLk2 HRX c0 c1 c2 c3 c4 c5 c6 c7 HQ2 HM2
      go_wp2
      go_roundg r.length
      case measure => omega
      case rel => exact ⟨ps ++ [((⟨x1, x2, x3, x4, x5, x6, x7⟩ : Lk.Note), Value.slice za x7.length zc)], r, n + t.length + 1, ua, uc, Nat.le_refl _, by omega, rfl, HO3, HLk3, HU, HQ3, HM3, HB4⟩
theorem safe_err (d : Lk.Disk) : (Lk.safeP d).2 = Lk.chkDisk d := by
  unfold Lk.safeP
  split
  · rename_i h; exact h.symm
  · rfl
set_option maxHeartbeats 1000000 in
theorem checkDisk_any (vs vw : Value) (ls lw : List UInt8) (w : World) (hE : Env w) (hS : BytesAt w vs ls) (hW : BytesAt w vw lw) :
    Calls Tryz.prog 56 #[.agg #[vs, vw]] w fun e w' => e = .returned (.int .i64 (Lk.chkDisk ⟨ls, lw⟩)) ∧ Below w.heap.size w w' := by
  obtain ⟨a, c, rfl⟩ := bytes_slice hS
  obtain ⟨a', c', rfl⟩ := bytes_slice hW
  have HB0 : Hid (Below w.heap.size w (w.alloc (.cells #[.slice a ls.length c, .slice a' lw.length c'] 73))) := (Below.refl _ w).alloc (Nat.le_refl _) _
  have HC : Hid (Calls Tryz.prog 60 #[.agg #[.slice a ls.length c, .slice a' lw.length c']] (w.alloc (.cells #[.slice a ls.length c, .slice a' lw.length c'] 73)) fun e w' => safeR (w.alloc (.cells #[.slice a ls.length c, .slice a' lw.length c'] 73)).heap.size w' (Lk.safeP ⟨ls, lw⟩) e ∧ Below (w.alloc (.cells #[.slice a ls.length c, .slice a' lw.length c'] 73)).heap.size (w.alloc (.cells #[.slice a ls.length c, .slice a' lw.length c'] 73)) w') := safe_any _ _ ls lw _ (hE.below HB0.out) (hS.below HB0.out) (hW.below HB0.out)
  rw [← safe_err]
  clear hE hS hW
  generalize Lk.safeP ⟨ls, lw⟩ = Q at HC ⊢
  go_enter Tryz.func56, Tryz.ntmps56
  go_wp2_with fail
  refine HC.out.mono ?_
  rintro e w1 ⟨⟨v, ps, rfl, hO, _, _⟩, hb1⟩
  have HB1 : Hid (Below w.heap.size w w1) := HB0.out.trans (hb1.mono HB0.out.size)
  obtain ⟨ra, rc, rfl⟩ := slice_of_owns hO
  clear hO hb1
  go_wp2
  go_ret
  exact ⟨rfl, HB1.out⟩
end Go.Proofs.YtpenkhehceglfaaGreatDoor
/- Contracts of disk.Same, disk.Sync, disk.Crash. -/
namespace Go.Proofs.YtpenkhehceglfaaGreatDoor
open Go.RowKit
theorem bytes_set {w : World} {v : Value} {l : List UInt8} {b o : Nat} {u : Value} (h : BytesAt w v l) (hne : ∀ o' n' c', v = .slice (some ⟨b, o', none⟩) n' c' → l = []) : BytesAt (w.setCell ⟨b, o, none⟩ u) v l := by
  obtain ⟨hl, c, hc, h | ⟨b', o', h1, h2, h3⟩⟩ := h
  · exact ⟨hl, c, hc, .inl h⟩
  · by_cases e : b' = b
    · subst e
      have := hne o' _ c h1
      subst this
      exact ⟨hl, c, hc, .inl ⟨rfl, _, h1, fun e => by cases e⟩⟩
    · refine ⟨hl, c, hc, .inr ⟨b', o', h1, by simpa [World.setCell] using h2, fun j hj => ?_⟩⟩
      have hk : ∀ x, (w.setCell ⟨b, o, none⟩ u).cell? ⟨b', x, none⟩ = w.cell? ⟨b', x, none⟩ := fun x => World.cell?_setCell_other _ _ _ _ (by intro y; injection y with y; exact e y.symm)
      exact (hk _).trans (h3 j hj)
theorem fresh_ne {v : Value} {l : List UInt8} {b N : Nat} (h : FreshS N v) (hb : b < N) : ∀ o' n' c', v = .slice (some ⟨b, o', none⟩) n' c' → l = [] := fun o' n' c' e => absurd (h b o' n' c' e) (by omega)
theorem NewBytes.set {w : World} {v : Value} {l : List UInt8} {b o N : Nat} (u : Value) (h : NewBytes N w v l) (hb : b < N) : NewBytes N (w.setCell ⟨b, o, none⟩ u) v l := ⟨bytes_set h.1 (fresh_ne h.2 hb), h.2⟩
theorem NewBytes.less {N M : Nat} {w : World} {v : Value} {l : List UInt8} (h : NewBytes N w v l) (hm : M ≤ N) : NewBytes M w v l := ⟨h.1, h.2.mono hm⟩
theorem newBytes_none (N : Nat) (w : World) : NewBytes N w (.slice none 0 0) [] := ⟨bytes_none w, fresh_none _ _ _⟩
/-- what is answered: a disk, and what is wrong -/
def diskN (N : Nat) (w : World) (q : Lk.Disk × Int) (e : Ending) : Prop := ∃ va vb, e = .returned (.tuple #[.agg #[va, vb], .int .i64 q.2]) ∧ NewBytes N w va q.1.safe ∧ NewBytes N w vb q.1.wait
theorem diskN_none (N : Nat) (w : World) {q : Lk.Disk × Int} {x : Int} (h : q = (Lk.Disk.none, x)) : diskN N w q (.returned (.tuple #[.agg #[.slice none 0 0, .slice none 0 0], .int .i64 x])) := by
  subst h
  exact ⟨_, _, rfl, newBytes_none _ _, newBytes_none _ _⟩
theorem sync_bad {d : Lk.Disk} (h : ¬ Lk.chkDisk d = 0) : Lk.syncP d = (Lk.Disk.none, Lk.chkDisk d) := by unfold Lk.syncP; rw [if_neg h]
theorem sync_bad2 {d : Lk.Disk} (h : Lk.chkDisk d = 0) (h' : ¬ Lk.chkDisk ⟨d.safe ++ d.wait, []⟩ = 0) : Lk.syncP d = (Lk.Disk.none, Lk.chkDisk ⟨d.safe ++ d.wait, []⟩) := by unfold Lk.syncP Lk.synced; rw [if_pos h, if_neg h']
theorem sync_ok {d : Lk.Disk} (h : Lk.chkDisk d = 0) (h' : Lk.chkDisk ⟨d.safe ++ d.wait, []⟩ = 0) : Lk.syncP d = (⟨d.safe ++ d.wait, []⟩, 0) := by unfold Lk.syncP Lk.synced; rw [if_pos h, if_pos h']
theorem chk_size {d : Lk.Disk} (h : Lk.chkDisk d = 0) : d.safe.length + d.wait.length ≤ 60000 := by
  rcases Nat.lt_or_ge 60000 (d.safe.length + d.wait.length) with h' | h'
  · rw [chk_many (by rw [Lk.tooMany_iff]; exact decide_eq_true h')] at h
    exact absurd h (by decide)
  · exact h'
set_option maxHeartbeats 4000000 in
set_option maxRecDepth 100000 in
theorem sync_any (vs vw : Value) (ls lw : List UInt8) (w : World) (hE : Env w) (hS : BytesAt w vs ls) (hW : BytesAt w vw lw) :
    Calls Tryz.prog 27 #[.agg #[vs, vw]] w fun e w' => diskN w.heap.size w' (Lk.syncP ⟨ls, lw⟩) e ∧ Below w.heap.size w w' := by
  obtain ⟨a, c, rfl⟩ := bytes_slice hS
  obtain ⟨a', c', rfl⟩ := bytes_slice hW
  have HE : Hid (Env w) := hE
  have HS : Hid (BytesAt w (.slice a ls.length c) ls) := hS
  have HW : Hid (BytesAt w (.slice a' lw.length c') lw) := hW
  have HB0 : Hid (Below w.heap.size w ((w.alloc (.cells #[.slice a ls.length c, .slice a' lw.length c'] 73)).alloc (.cells #[.slice none 0 0, .slice none 0 0] 73))) := ((Below.refl _ w).alloc (Nat.le_refl _) _).alloc (by simp) _
  have HK0 : Hid (Blk ((w.alloc (.cells #[.slice a ls.length c, .slice a' lw.length c'] 73)).alloc (.cells #[.slice none 0 0, .slice none 0 0] 73)) w.heap.size #[.slice a ls.length c, .slice a' lw.length c'] 73) := (blk_alloc w _ _).below ((Below.refl _ _).alloc (Nat.le_refl _) _)
  have HN0 : Hid (Blk ((w.alloc (.cells #[.slice a ls.length c, .slice a' lw.length c'] 73)).alloc (.cells #[.slice none 0 0, .slice none 0 0] 73)) (w.heap.size + 1) #[.slice none 0 0, .slice none 0 0] 73) := by
    have := blk_alloc (w.alloc (.cells #[.slice a ls.length c, .slice a' lw.length c'] 73)) #[.slice none 0 0, .slice none 0 0] 73
    rwa [World.size_alloc] at this
  have F1 : Hid (¬ Lk.chkDisk ⟨ls, lw⟩ = 0 → Lk.syncP ⟨ls, lw⟩ = (Lk.Disk.none, Lk.chkDisk ⟨ls, lw⟩)) := fun h => sync_bad h
  have F2 : Hid (Lk.chkDisk ⟨ls, lw⟩ = 0 → ¬ Lk.chkDisk ⟨ls ++ lw, []⟩ = 0 → Lk.syncP ⟨ls, lw⟩ = (Lk.Disk.none, Lk.chkDisk ⟨ls ++ lw, []⟩)) := fun h h' => sync_bad2 h h'
  have F3 : Hid (Lk.chkDisk ⟨ls, lw⟩ = 0 → Lk.chkDisk ⟨ls ++ lw, []⟩ = 0 → Lk.syncP ⟨ls, lw⟩ = (⟨ls ++ lw, []⟩, 0)) := fun h h' => sync_ok h h'
  have F4 : Hid (Lk.chkDisk ⟨ls, lw⟩ = 0 → ls.length + lw.length ≤ 60000) := fun h => chk_size h
  have HC1 : Hid (∀ w', Below w.heap.size w w' → Calls Tryz.prog 56 #[.agg #[.slice a ls.length c, .slice a' lw.length c']] w' fun e w'' => e = .returned (.int .i64 (Lk.chkDisk ⟨ls, lw⟩)) ∧ Below w'.heap.size w' w'') := fun w' hb => checkDisk_any _ _ ls lw w' (hE.below hb) (hS.below hb) (hW.below hb)
  have HC2 : Hid (∀ w' v, Below w.heap.size w w' → BytesAt w' v (ls ++ lw) → Calls Tryz.prog 56 #[.agg #[v, .slice none 0 0]] w' fun e w'' => e = .returned (.int .i64 (Lk.chkDisk ⟨ls ++ lw, []⟩)) ∧ Below w'.heap.size w' w'') := fun w' v hb hv => checkDisk_any _ _ (ls ++ lw) [] w' (hE.below hb) hv (bytes_none _)
  clear hE hS hW
  generalize Lk.syncP ⟨ls, lw⟩ = Q at F1 F2 F3 ⊢
  generalize Lk.chkDisk ⟨ls, lw⟩ = C1 at F1 F2 F3 F4 HC1
  generalize Lk.chkDisk ⟨ls ++ lw, []⟩ = C2 at F2 F3 HC2
  go_enter Tryz.func27, Tryz.ntmps27
  go_wp2_with fail
  refine (HC1.out _ HB0.out).mono ?_
  rintro e w1 ⟨rfl, hb1⟩
  have HB1 : Hid (Below w.heap.size w w1) := HB0.out.trans (hb1.mono HB0.out.size)
  have hk := HK0.out.below hb1
  have HN1 := HN0.out.below hb1
  clear hb1 HB0 HK0 HN0 HC1
  by_cases h1 : C1 = 0
  rotate_left
  · have h1b : (C1 != 0) = true := by rw [bne_iff_ne]; exact h1
    have HQ : Hid (Q = (Lk.Disk.none, C1)) := F1.out h1
    have d1 := HN1.cell 0
    have d2 := HN1.cell 1
    have f1 := HN1.free 0
    have f2 := HN1.free 1
    simp only [List.getElem?_toArray, List.getElem?_cons_zero, List.getElem?_cons_succ] at d1 d2
    have hBs : ∀ u0 u1 : Value, Below w.heap.size w ((w1.setCell ⟨w.heap.size + 1, 0, none⟩ u0).setCell ⟨w.heap.size + 1, 1, none⟩ u1) := fun u0 u1 => (HB1.out.setCell (Nat.le_succ _) _).setCell (Nat.le_succ _) _
    have HBs : Hid (∀ u0 u1 : Value, Below w.heap.size w ((w1.setCell ⟨w.heap.size + 1, 0, none⟩ u0).setCell ⟨w.heap.size + 1, 1, none⟩ u1)) := hBs
    clear F1 F2 F3 F4 h1 hk HN1 HC2 hBs
    go_wp2
    refine bodyPost_ret (v := .tuple #[.agg #[.slice none 0 0, .slice none 0 0], .int .i64 C1]) (by simp [results, Tryz.results27, go_sem, d1, d2]) rfl ⟨diskN_none _ _ HQ.out, HBs.out _ _⟩
  subst h1
  have hsum := F4.out rfl
  have HG2 : Hid (¬ C2 = 0 → Q = (Lk.Disk.none, C2)) := F2.out rfl
  have HG3 : Hid (C2 = 0 → Q = (⟨ls ++ lw, []⟩, 0)) := F3.out rfl
  have HJ : Hid (∀ w', Below w.heap.size w w' → Calls Tryz.prog 59 #[.slice a ls.length c, .slice a' lw.length c'] w' fun e w'' => (∃ x, e = .returned x ∧ NewBytes w'.heap.size w'' x (ls ++ lw)) ∧ Below w'.heap.size w' w'') := fun w' hb => joined_any _ _ ls lw w' (HS.out.below hb) (HW.out.below hb) (by omega)
  have k0 := hk.cell 0
  have k1 := hk.cell 1
  simp only [List.getElem?_toArray, List.getElem?_cons_zero, List.getElem?_cons_succ] at k0 k1
  have HN1' : Hid (Blk w1 (w.heap.size + 1) #[.slice none 0 0, .slice none 0 0] 73) := HN1
  clear F1 F2 F3 F4 hk HN1
  go_wp2_with fail
  refine (HJ.out _ HB1.out).mono ?_
  rintro e w2 ⟨⟨x, rfl, hx⟩, hb2⟩
  obtain ⟨xa, xc, rfl⟩ := bytes_slice hx.1
  have HB2 : Hid (Below w.heap.size w w2) := HB1.out.trans (hb2.mono HB1.out.size)
  have HN2 := HN1'.out.below hb2
  have hlt : w.heap.size + 1 < w1.heap.size := HN1'.out.lt
  have HX2 : Hid (NewBytes (w.heap.size + 2) w2 (.slice xa (ls ++ lw).length xc) (ls ++ lw)) := hx.less hlt
  clear hx hb2 HB1 HN1' HJ k0 k1 hlt
  generalize (ls ++ lw).length = nl at HX2 ⊢
  generalize ls ++ lw = L at HX2 HG3 HC2
  go_wp2_with fail
  have hbA : Below w2.heap.size w2 (w2.alloc (.cells #[.slice xa nl xc, .slice none 0 0] 73)) := (Below.refl _ _).alloc (Nat.le_refl _) _
  have HB3 : Hid (Below w.heap.size w (w2.alloc (.cells #[.slice xa nl xc, .slice none 0 0] 73))) := HB2.out.trans (hbA.mono HB2.out.size)
  have HN3 := HN2.below hbA
  have HX3 : Hid (NewBytes (w.heap.size + 2) (w2.alloc (.cells #[.slice xa nl xc, .slice none 0 0] 73)) (.slice xa nl xc) L) := HX2.out.below hbA
  have HK3 := blk_alloc w2 #[.slice xa nl xc, .slice none 0 0] 73
  clear hbA HB2 HN2 HX2
  generalize w2.alloc (.cells #[.slice xa nl xc, .slice none 0 0] 73) = W3 at HB3 HN3 HX3 HK3 ⊢
  generalize w2.heap.size = g2 at HK3 ⊢
  refine (HC2.out _ _ HB3.out HX3.out.1).mono ?_
  rintro e w4 ⟨rfl, hb4⟩
  have HB4 : Hid (Below w.heap.size w w4) := HB3.out.trans (hb4.mono HB3.out.size)
  have HN4 := HN3.below hb4
  have HX4 : Hid (NewBytes (w.heap.size + 2) w4 (.slice xa nl xc) L) := HX3.out.below hb4
  have HK4 := HK3.below hb4
  clear hb4 HB3 HN3 HX3 HK3 HC2
  have d1 := HN4.cell 0
  have d2 := HN4.cell 1
  have f1 := HN4.free 0
  have f2 := HN4.free 1
  have k1 := HK4.cell 0
  have k2 := HK4.cell 1
  simp only [List.getElem?_toArray, List.getElem?_cons_zero, List.getElem?_cons_succ] at d1 d2 k1 k2
  have HBs : Hid (∀ u0 u1 : Value, Below w.heap.size w ((w4.setCell ⟨w.heap.size + 1, 0, none⟩ u0).setCell ⟨w.heap.size + 1, 1, none⟩ u1)) := fun u0 u1 => (HB4.out.setCell (Nat.le_succ _) _).setCell (Nat.le_succ _) _
  clear HN4 HK4
  by_cases h2 : C2 = 0
  · subst h2
    have HQ : Hid (Q = (⟨L, []⟩, 0)) := HG3.out rfl
    clear HG2 HG3
    go_wp2
    refine bodyPost_ret (v := .tuple #[.agg #[.slice xa nl xc, .slice none 0 0], .int .i64 0]) (by simp [results, Tryz.results27, go_sem, d1, d2]) rfl ⟨?_, HBs.out _ _⟩
    rw [HQ.out]
    exact ⟨_, _, rfl, ((HX4.out.set _ (by omega)).set _ (by omega)).less (by omega), newBytes_none _ _⟩
  · have h2b : (C2 != 0) = true := by rw [bne_iff_ne]; exact h2
    have HQ : Hid (Q = (Lk.Disk.none, C2)) := HG2.out h2
    clear HG2 HG3 h2
    go_wp2
    refine bodyPost_ret (v := .tuple #[.agg #[.slice none 0 0, .slice none 0 0], .int .i64 C2]) (by simp [results, Tryz.results27, go_sem, d1, d2]) rfl ⟨diskN_none _ _ HQ.out, HBs.out _ _⟩
end Go.Proofs.YtpenkhehceglfaaGreatDoor
/- The contract of disk.Put. -/
namespace Go.Proofs.YtpenkhehceglfaaGreatDoor
open Go.RowKit
theorem put_bad {d : Lk.Disk} {r : Lk.Note} (h : ¬ Lk.chkDisk d = 0) : Lk.putP d r = (Lk.Disk.none, Lk.chkDisk d) := by unfold Lk.putP; rw [if_neg h]
theorem put_rec {d : Lk.Disk} {r : Lk.Note} (h : Lk.chkDisk d = 0) (h' : ¬ Lk.chkNote r = 0) : Lk.putP d r = (Lk.Disk.none, Lk.chkNote r) := by unfold Lk.putP Lk.putOn; rw [if_pos h, if_neg h']
theorem put_many {d : Lk.Disk} {r : Lk.Note} (h : Lk.chkDisk d = 0) (h' : Lk.chkNote r = 0) (h2 : 60000 < d.safe.length + d.wait.length + (Lk.noteText r).length + 1) : Lk.putP d r = (Lk.Disk.none, 2) := by unfold Lk.putP Lk.putOn; rw [if_pos h, if_pos h', if_pos h2]
theorem put_ok {d : Lk.Disk} {r : Lk.Note} (h : Lk.chkDisk d = 0) (h' : Lk.chkNote r = 0) (h2 : ¬ 60000 < d.safe.length + d.wait.length + (Lk.noteText r).length + 1) : Lk.putP d r = (⟨d.safe, d.wait ++ (Lk.noteText r ++ [10])⟩, 0) := by unfold Lk.putP Lk.putOn; rw [if_pos h, if_pos h', if_neg h2]
theorem noteText_len {r : Lk.Note} (hc : Lk.chkNote r = 0) : (Lk.noteText r).length ≤ 1000 := by
  obtain ⟨hnum, hlk⟩ := Lk.note_ok hc
  have htl : (Lk.text r.lock).length ≤ 72 := by
    obtain ⟨h1, h2⟩ := chk_ok hlk
    have := text_len r.lock h2
    omega
  have hn : ∀ k, k < 6 → 0 ≤ r.nums.getD k 0 ∧ r.nums.getD k 0 ≤ 200 := fun k hk => by
    have hl : k < r.nums.length := hk
    refine hnum _ ?_
    rw [List.getD_eq_getElem?_getD, List.getElem?_eq_getElem hl]
    exact List.getElem_mem hl
  have e : Lk.noteText r = Lib.join (lastW r.nums (Lk.text r.lock)) [32] := (join_words r.nums (Lk.text r.lock)).symm
  rw [e]
  exact note_len r.nums (Lk.text r.lock) rfl hn htl
theorem line_data (t : List UInt8) : ((⟨t.toArray⟩ : ByteArray) ++ ⟨#[10]⟩).data.toList = t ++ [10] := by simp
theorem line_size (t : List UInt8) : ((⟨t.toArray⟩ : ByteArray) ++ ⟨#[10]⟩).size = t.length + 1 := by
  rw [ByteArray.size_append]; show t.toArray.size + 1 = _; rw [List.size_toArray]
set_option maxHeartbeats 8000000 in
set_option maxRecDepth 100000 in
theorem put_any (vs vw : Value) (ls lw : List UInt8) (r : Lk.Note) (v : Value) (w : World) (hE : Env w) (hS : BytesAt w vs ls) (hW : BytesAt w vw lw) (hP : PinsAt w v r.lock) :
    Calls Tryz.prog 26 #[.agg #[vs, vw], recV r v] w fun e w' => diskN w.heap.size w' (Lk.putP ⟨ls, lw⟩ r) e ∧ Below w.heap.size w w' := by
  obtain ⟨a, c, rfl⟩ := bytes_slice hS
  obtain ⟨a', c', rfl⟩ := bytes_slice hW
  obtain ⟨pa, pc, rfl⟩ := pins_slice hP
  have HS : Hid (BytesAt w (.slice a ls.length c) ls) := hS
  have HW : Hid (BytesAt w (.slice a' lw.length c') lw) := hW
  have hsl := hS.1
  have hwl := hW.1
  have HC1 : Hid (∀ w', Below w.heap.size w w' → Calls Tryz.prog 56 #[.agg #[.slice a ls.length c, .slice a' lw.length c']] w' fun e w'' => e = .returned (.int .i64 (Lk.chkDisk ⟨ls, lw⟩)) ∧ Below w'.heap.size w' w'') := fun w' hb => checkDisk_any _ _ ls lw w' (hE.below hb) (hS.below hb) (hW.below hb)
  have HPr : Hid (∀ w', Below w.heap.size w w' → Calls Tryz.prog 55 #[recV r (.slice pa r.lock.length pc)] w' fun e w'' => e = .returned (.tuple #[.string ⟨(Lk.notePrinted r).toArray⟩, .int .i64 (Lk.chkNote r)]) ∧ Below w'.heap.size w' w'') := fun w' hb => notePrint_any r _ w' (hP.below hb) (hE.below hb)
  have F1 : Hid (¬ Lk.chkDisk ⟨ls, lw⟩ = 0 → Lk.putP ⟨ls, lw⟩ r = (Lk.Disk.none, Lk.chkDisk ⟨ls, lw⟩)) := fun h => put_bad h
  have F2 : Hid (Lk.chkDisk ⟨ls, lw⟩ = 0 → ¬ Lk.chkNote r = 0 → Lk.putP ⟨ls, lw⟩ r = (Lk.Disk.none, Lk.chkNote r)) := fun h h' => put_rec h h'
  have F3 : Hid (Lk.chkDisk ⟨ls, lw⟩ = 0 → Lk.chkNote r = 0 → 60000 < ls.length + lw.length + (Lk.notePrinted r).length + 1 → Lk.putP ⟨ls, lw⟩ r = (Lk.Disk.none, 2)) := fun h h' => by
    rw [show Lk.notePrinted r = Lk.noteText r from if_pos h']; exact put_many h h'
  have F4 : Hid (Lk.chkDisk ⟨ls, lw⟩ = 0 → Lk.chkNote r = 0 → ¬ 60000 < ls.length + lw.length + (Lk.notePrinted r).length + 1 → Lk.putP ⟨ls, lw⟩ r = (⟨ls, lw ++ (Lk.notePrinted r ++ [10])⟩, 0)) := fun h h' => by
    rw [show Lk.notePrinted r = Lk.noteText r from if_pos h']; exact put_ok h h'
  have F5 : Hid (Lk.chkNote r = 0 → (Lk.notePrinted r).length ≤ 1000) := fun h' => by
    show (Lk.notePrinted r).length ≤ 1000
    rw [show Lk.notePrinted r = Lk.noteText r from if_pos h']; exact noteText_len h'
  clear hE hS hW hP
  generalize Lk.putP ⟨ls, lw⟩ r = Q at F1 F2 F3 F4 ⊢
  generalize Lk.chkDisk ⟨ls, lw⟩ = C1 at F1 F2 F3 F4 HC1
  generalize Lk.chkNote r = CN at F2 F3 F4 F5 HPr
  generalize Lk.notePrinted r = T at F3 F4 F5 HPr
  obtain ⟨r1, r2, r3, r4, r5, r6, r7⟩ := r
  unfold recV at HPr ⊢
  simp only at HPr ⊢
  have HB0 : Hid (Below w.heap.size w (((w.alloc (.cells #[.slice a ls.length c, .slice a' lw.length c'] 73)).alloc (.cells #[.int .i64 r1, .int .i64 r2, .int .i64 r3, .int .i64 r4, .bool r5, .int .i64 r6, .slice pa r7.length pc] 34)).alloc (.cells #[.slice none 0 0, .slice none 0 0] 73))) := (((Below.refl _ w).alloc (Nat.le_refl _) _).alloc (by simp) _).alloc (by simp; omega) _
  have HK0 : Hid (Blk (((w.alloc (.cells #[.slice a ls.length c, .slice a' lw.length c'] 73)).alloc (.cells #[.int .i64 r1, .int .i64 r2, .int .i64 r3, .int .i64 r4, .bool r5, .int .i64 r6, .slice pa r7.length pc] 34)).alloc (.cells #[.slice none 0 0, .slice none 0 0] 73)) w.heap.size #[.slice a ls.length c, .slice a' lw.length c'] 73) := ((blk_alloc w _ _).below ((Below.refl _ _).alloc (Nat.le_refl _) _)).below ((Below.refl _ _).alloc (Nat.le_refl _) _)
  have HN0 : Hid (Blk (((w.alloc (.cells #[.slice a ls.length c, .slice a' lw.length c'] 73)).alloc (.cells #[.int .i64 r1, .int .i64 r2, .int .i64 r3, .int .i64 r4, .bool r5, .int .i64 r6, .slice pa r7.length pc] 34)).alloc (.cells #[.slice none 0 0, .slice none 0 0] 73)) (w.heap.size + 1 + 1) #[.slice none 0 0, .slice none 0 0] 73) := by
    have := blk_alloc ((w.alloc (.cells #[.slice a ls.length c, .slice a' lw.length c'] 73)).alloc (.cells #[.int .i64 r1, .int .i64 r2, .int .i64 r3, .int .i64 r4, .bool r5, .int .i64 r6, .slice pa r7.length pc] 34)) #[.slice none 0 0, .slice none 0 0] 73
    rwa [World.size_alloc, World.size_alloc] at this
  go_enter Tryz.func26, Tryz.ntmps26
  go_wp2_with fail
  refine (HPr.out _ HB0.out).mono ?_
  rintro e w1 ⟨rfl, hb1⟩
  have HB1 : Hid (Below w.heap.size w w1) := HB0.out.trans (hb1.mono HB0.out.size)
  have hk := HK0.out.below hb1
  have HK1 : Hid (Blk w1 w.heap.size #[.slice a ls.length c, .slice a' lw.length c'] 73) := hk
  have HN1 : Hid (Blk w1 (w.heap.size + 1 + 1) #[.slice none 0 0, .slice none 0 0] 73) := HN0.out.below hb1
  clear hb1 HB0 HK0 HN0 HPr
  have k0 := hk.cell 0
  have k1 := hk.cell 1
  simp only [List.getElem?_toArray, List.getElem?_cons_zero, List.getElem?_cons_succ] at k0 k1
  clear hk
  go_wp2_with fail
  refine (HC1.out _ HB1.out).mono ?_
  rintro e w2 ⟨rfl, hb2⟩
  have HB2 : Hid (Below w.heap.size w w2) := HB1.out.trans (hb2.mono HB1.out.size)
  have HK2 : Hid (Blk w2 w.heap.size #[.slice a ls.length c, .slice a' lw.length c'] 73) := HK1.out.below hb2
  have HN2 : Hid (Blk w2 (w.heap.size + 1 + 1) #[.slice none 0 0, .slice none 0 0] 73) := HN1.out.below hb2
  clear hb2 HB1 HK1 HN1 HC1 k0 k1
  go_wp2_with fail
  refine (or2_any C1 CN _ _ (by simp [go_sem]) (by simp [go_sem])).mono ?_
  rintro e w3 ⟨rfl, hb3⟩
  have hb3' := ((Below.refl _ w2).alloc (Nat.le_refl _) _).trans (hb3.mono (by simp))
  have HB3 : Hid (Below w.heap.size w w3) := HB2.out.trans (hb3'.mono HB2.out.size)
  have hk := HK2.out.below hb3'
  have hn := HN2.out.below hb3'
  have HK3 : Hid (Blk w3 w.heap.size #[.slice a ls.length c, .slice a' lw.length c'] 73) := hk
  have HN3 : Hid (Blk w3 (w.heap.size + 1 + 1) #[.slice none 0 0, .slice none 0 0] 73) := hn
  clear hb3 hb3' HB2 HK2 HN2
  by_cases h1 : C1 = 0 ∧ CN = 0
  rotate_left
  · obtain ⟨E, hE⟩ : ∃ E, E = (if C1 = 0 then CN else C1) := ⟨_, rfl⟩
    have hE0 : ¬ E = 0 := by
      rw [hE]; split
      · rename_i h; exact fun e => h1 ⟨h, e⟩
      · assumption
    have HQ : Hid (Q = (Lk.Disk.none, E)) := by
      show Q = (Lk.Disk.none, E)
      rw [hE]; split
      · rename_i h; exact F2.out h (fun e => h1 ⟨h, e⟩)
      · rename_i h; exact F1.out h
    rw [← hE]
    have hEb : (E != 0) = true := by rw [bne_iff_ne]; exact hE0
    have d1 := hn.cell 0
    have d2 := hn.cell 1
    have f1 := hn.free 0
    have f2 := hn.free 1
    simp only [List.getElem?_toArray, List.getElem?_cons_zero, List.getElem?_cons_succ] at d1 d2
    have HBs : Hid (∀ u0 u1 : Value, Below w.heap.size w ((w3.setCell ⟨w.heap.size + 1 + 1, 0, none⟩ u0).setCell ⟨w.heap.size + 1 + 1, 1, none⟩ u1)) := fun u0 u1 => (HB3.out.setCell (p := ⟨w.heap.size + 1 + 1, 0, none⟩) (by show w.heap.size ≤ w.heap.size + 1 + 1; omega) _).setCell (p := ⟨w.heap.size + 1 + 1, 1, none⟩) (by show w.heap.size ≤ w.heap.size + 1 + 1; omega) _
    clear F1 F2 F3 F4 F5 h1 hE hE0 hk hn
    go_wp2
    refine bodyPost_ret (v := .tuple #[.agg #[.slice none 0 0, .slice none 0 0], .int .i64 E]) (by simp [results, Tryz.results26, go_sem, d1, d2]) rfl ⟨diskN_none _ _ HQ.out, HBs.out _ _⟩
  obtain ⟨rfl, rfl⟩ := h1
  rw [if_pos rfl]
  have htl := F5.out rfl
  have G3 : Hid (60000 < ls.length + lw.length + T.length + 1 → Q = (Lk.Disk.none, 2)) := F3.out rfl rfl
  have G4 : Hid (¬ 60000 < ls.length + lw.length + T.length + 1 → Q = (⟨ls, lw ++ (T ++ [10])⟩, 0)) := F4.out rfl rfl
  clear F1 F2 F3 F4 F5 hk hn
  obtain ⟨cc, w4, hcv, hL, hb4⟩ := bytes_conv w3 (⟨T.toArray⟩ ++ ⟨#[10]⟩) (by rw [line_size]; omega)
  rw [line_data] at hL
  obtain ⟨tn, htn⟩ : ∃ tn, tn = ((⟨T.toArray⟩ : ByteArray) ++ ⟨#[10]⟩).size := ⟨_, rfl⟩
  rw [← htn] at hcv hL
  rw [line_size] at htn
  have HTN : Hid (tn = T.length + 1) := htn
  clear htn
  have HB4 : Hid (Below w.heap.size w w4) := HB3.out.trans (hb4.mono HB3.out.size)
  have hk := HK3.out.below hb4
  have HK4 : Hid (Blk w4 w.heap.size #[.slice a ls.length c, .slice a' lw.length c'] 73) := hk
  have HN4 : Hid (Blk w4 (w.heap.size + 1 + 1) #[.slice none 0 0, .slice none 0 0] 73) := HN3.out.below hb4
  have HL4 : Hid (BytesAt w4 (.slice (some ⟨w3.heap.size, 0, none⟩) tn cc) (T ++ [10])) := hL.1
  have k0 := hk.cell 0
  have k1 := hk.cell 1
  simp only [List.getElem?_toArray, List.getElem?_cons_zero, List.getElem?_cons_succ] at k0 k1
  clear hL hb4 HB3 HK3 HN3 hk
  go_wp2_with fail
  refine (size_any _ _ _ _ _ _ _ hsl hwl).mono ?_
  rintro e w5 ⟨rfl, hb5⟩
  have HB5 : Hid (Below w.heap.size w w5) := HB4.out.trans (hb5.mono HB4.out.size)
  have hk := HK4.out.below hb5
  have hn := HN4.out.below hb5
  have HK5 : Hid (Blk w5 w.heap.size #[.slice a ls.length c, .slice a' lw.length c'] 73) := hk
  have HN5 : Hid (Blk w5 (w.heap.size + 1 + 1) #[.slice none 0 0, .slice none 0 0] 73) := hn
  have HL5 : Hid (BytesAt w5 (.slice (some ⟨w3.heap.size, 0, none⟩) tn cc) (T ++ [10])) := HL4.out.below hb5
  clear hb5 HB4 HK4 HN4 HL4 k0 k1 hcv
  have k0 := hk.cell 0
  have k1 := hk.cell 1
  have d1 := hn.cell 0
  have d2 := hn.cell 1
  have f1 := hn.free 0
  have f2 := hn.free 1
  simp only [List.getElem?_toArray, List.getElem?_cons_zero, List.getElem?_cons_succ] at k0 k1 d1 d2
  clear hk hn
  have htn2 : tn ≤ 1001 := by have := HTN.out; omega
  by_cases h2 : 60000 < ls.length + lw.length + T.length + 1
  · have HQ : Hid (Q = (Lk.Disk.none, 2)) := G3.out h2
    have h2' : (60000 : Int) < (ls.length : Int) + (lw.length : Int) + (tn : Int) := by have := HTN.out; omega
    have HBs : Hid (∀ u0 u1 : Value, Below w.heap.size w ((w5.setCell ⟨w.heap.size + 1 + 1, 0, none⟩ u0).setCell ⟨w.heap.size + 1 + 1, 1, none⟩ u1)) := fun u0 u1 => (HB5.out.setCell (p := ⟨w.heap.size + 1 + 1, 0, none⟩) (by show w.heap.size ≤ w.heap.size + 1 + 1; omega) _).setCell (p := ⟨w.heap.size + 1 + 1, 1, none⟩) (by show w.heap.size ≤ w.heap.size + 1 + 1; omega) _
    clear G3 G4 h2
    go_wp2
    refine bodyPost_ret (v := .tuple #[.agg #[.slice none 0 0, .slice none 0 0], .int .i64 2]) (by simp [results, Tryz.results26, go_sem, d1, d2]) rfl ⟨diskN_none _ _ HQ.out, HBs.out _ _⟩
  have HQ : Hid (Q = (⟨ls, lw ++ (T ++ [10])⟩, 0)) := G4.out h2
  have h2' : (ls.length : Int) + (lw.length : Int) + (tn : Int) ≤ 60000 := by have := HTN.out; omega
  have HCA : Hid (∀ w', Below w5.heap.size w5 w' → Calls Tryz.prog 58 #[.slice a ls.length c] w' fun e w'' => (∃ u, e = .returned u ∧ NewBytes (w.heap.size + 3) w'' u ls) ∧ Below w'.heap.size w' w'') := fun w' hb => by
    refine (clone_any _ ls w' ((HS.out.below HB5.out).below hb)).mono ?_
    rintro e w'' ⟨⟨u, he, hu⟩, hb'⟩
    exact ⟨⟨u, he, hu.less (Nat.le_trans HN5.out.lt hb.size)⟩, hb'⟩
  have HCB : Hid (∀ w', Below w5.heap.size w5 w' → Calls Tryz.prog 59 #[.slice a' lw.length c', .slice (some ⟨w3.heap.size, 0, none⟩) tn cc] w' fun e w'' => (∃ u, e = .returned u ∧ NewBytes (w.heap.size + 3) w'' u (lw ++ (T ++ [10]))) ∧ Below w'.heap.size w' w'') := fun w' hb => by
    refine (joined_any _ _ lw (T ++ [10]) w' ((HW.out.below HB5.out).below hb) (HL5.out.below hb) (by simp; omega)).mono ?_
    rintro e w'' ⟨⟨u, he, hu⟩, hb'⟩
    exact ⟨⟨u, he, hu.less (Nat.le_trans HN5.out.lt hb.size)⟩, hb'⟩
  have HKN : Hid (∀ y, Below w5.heap.size w5 y → y.cell? ⟨w.heap.size, 0, none⟩ = some (.slice a ls.length c) ∧ y.cell? ⟨w.heap.size, 1, none⟩ = some (.slice a' lw.length c') ∧ y.cell? ⟨w.heap.size + 1 + 1, 0, none⟩ = some (.slice none 0 0) ∧ y.cell? ⟨w.heap.size + 1 + 1, 1, none⟩ = some (.slice none 0 0) ∧ y.frozen? ⟨w.heap.size + 1 + 1, 0, none⟩ = false ∧ y.frozen? ⟨w.heap.size + 1 + 1, 1, none⟩ = false) := fun y hb =>
    ⟨(HK5.out.below hb).cell 0, (HK5.out.below hb).cell 1, (HN5.out.below hb).cell 0, (HN5.out.below hb).cell 1, (HN5.out.below hb).free 0, (HN5.out.below hb).free 1⟩
  have HEnd : Hid (∀ y (u0 u1 : Value), Below w5.heap.size w5 y → Below w.heap.size w ((y.setCell ⟨w.heap.size + 1 + 1, 0, none⟩ u0).setCell ⟨w.heap.size + 1 + 1, 1, none⟩ u1)) := fun y u0 u1 hb => ((HB5.out.trans (hb.mono HB5.out.size)).setCell (p := ⟨w.heap.size + 1 + 1, 0, none⟩) (by show w.heap.size ≤ w.heap.size + 1 + 1; omega) _).setCell (p := ⟨w.heap.size + 1 + 1, 1, none⟩) (by show w.heap.size ≤ w.heap.size + 1 + 1; omega) _
  generalize lw ++ (T ++ [10]) = lt at HQ HCB
  clear G3 G4 h2 HS HW HB5 HK5 HN5 HL5
  have hB0 : Below w5.heap.size w5 w5.drew := (Below.refl _ _).drew
  go_wp2_with fail
  clear h2' htl hsl hwl htn2
  generalize w3.heap.size = g3 at HCB ⊢
  go_region_with (first
    | (go_at_call 58; refine (HCA.out _ (by assumption)).mono ?_; rintro e yA ⟨⟨uA, rfl, hA⟩, hbA⟩; obtain ⟨a1, c1, rfl⟩ := bytes_slice hA.1; have hBA : Below w5.heap.size w5 yA := Below.trans (by assumption) (hbA.mono (Below.size (by assumption))); obtain ⟨k0, k1, d1, d2, f1, f2⟩ := HKN.out yA hBA)
    | (go_at_call 59; refine (HCB.out _ (by assumption)).mono ?_; rintro e yB ⟨⟨uB, rfl, hB⟩, hbB⟩; obtain ⟨a2, c2, rfl⟩ := bytes_slice hB.1; have hBB : Below w5.heap.size w5 yB := Below.trans (by assumption) (hbB.mono (Below.size (by assumption))); obtain ⟨k0, k1, d1, d2, f1, f2⟩ := HKN.out yB hBB))
  all_goals
    go_wp2
    refine bodyPost_ret (v := .tuple #[.agg #[.slice a1 ls.length c1, .slice a2 lt.length c2], .int .i64 0]) (by simp [results, Tryz.results26, go_sem, d1, d2]) rfl ?_
    rw [HQ.out]
    first
      | exact ⟨⟨_, _, rfl, (((hA.below hbB).set _ (by omega)).set _ (by omega)).less (by omega), ((hB.set _ (by omega)).set _ (by omega)).less (by omega)⟩, HEnd.out yB _ _ hBB⟩
      | exact ⟨⟨_, _, rfl, ((hA.set _ (by omega)).set _ (by omega)).less (by omega), (((hB.below hbA).set _ (by omega)).set _ (by omega)).less (by omega)⟩, HEnd.out yA _ _ hBA⟩
end Go.Proofs.YtpenkhehceglfaaGreatDoor
/- The contract of disk.Crash. -/
namespace Go.Proofs.YtpenkhehceglfaaGreatDoor
open Go.RowKit
theorem bytes_room {w : World} {a : Option Addr} {n c : Nat} {l : List UInt8} (h : BytesAt w (.slice a n c) l) : n = l.length ∧ l.length ≤ c := by
  obtain ⟨_, c', hc, ⟨rfl, a', e, _⟩ | ⟨b, o, e, _⟩⟩ := h
  · simp only [Value.slice.injEq] at e
    exact ⟨e.2.1, by rw [e.2.2]; exact hc⟩
  · simp only [Value.slice.injEq] at e
    exact ⟨e.2.1, by rw [e.2.2]; exact hc⟩
theorem crash_bad {d : Lk.Disk} {n : Int} (h : ¬ Lk.chkDisk d = 0) : Lk.crashP d n = (Lk.Disk.none, Lk.chkDisk d) := by unfold Lk.crashP; rw [if_neg h]
theorem crash_out {d : Lk.Disk} {n : Int} (h : Lk.chkDisk d = 0) (h' : ¬ (0 ≤ n ∧ n ≤ d.wait.length)) : Lk.crashP d n = (Lk.Disk.none, 3) := by unfold Lk.crashP; rw [if_pos h, if_neg h']
theorem crash_ok {d : Lk.Disk} {k : Nat} (h : Lk.chkDisk d = 0) (h' : k ≤ d.wait.length) : Lk.crashP d (k : Int) = (⟨d.safe, d.wait.take k⟩, 0) := by
  unfold Lk.crashP; rw [if_pos h, if_pos (by omega)]; simp
end Go.Proofs.YtpenkhehceglfaaGreatDoor
/- The contract of disk.Recover. -/
namespace Go.Proofs.YtpenkhehceglfaaGreatDoor
open Go.RowKit
/-- what Recover answers -/
def recovN (N : Nat) (w : World) (q : Lk.Disk × List Lk.Note × Int) (e : Ending) : Prop := ∃ va vb v ps, e = .returned (.tuple #[.agg #[va, vb], v, .int .i64 q.2.2]) ∧ NewBytes N w va q.1.safe ∧ NewBytes N w vb q.1.wait ∧ w.ownsRow N 34 7 v ps.length (flatR ps) ∧ Locks w v.ownBlock ps ∧ ps.map Prod.fst = q.2.1
theorem recovN_none (N : Nat) (w : World) {q : Lk.Disk × List Lk.Note × Int} {x : Int} (h : q = (Lk.Disk.none, [], x)) : recovN N w q (.returned (.tuple #[.agg #[.slice none 0 0, .slice none 0 0], .slice none 0 0, .int .i64 x])) := by
  subst h
  exact ⟨_, _, _, [], rfl, newBytes_none _ _, newBytes_none _ _, World.ownsRow_nil _ _ _ _, (fun p hp => by cases hp), rfl⟩
theorem recov_bad {d : Lk.Disk} (h : ¬ (Lk.safeP d).2 = 0) : Lk.recovP d = (Lk.Disk.none, [], (Lk.safeP d).2) := by
  rw [safe_err] at h ⊢
  unfold Lk.recovP; rw [if_neg h]
theorem recov_ok {d : Lk.Disk} (h : (Lk.safeP d).2 = 0) {qs : List Lk.Note} {n : Nat} {e : Int} (hr : Lk.linesFrom (200 - (Lk.safeP d).1.length) [] 0 d.wait = (qs, n, e)) : Lk.recovP d = (⟨d.safe ++ d.wait.take n, []⟩, (Lk.safeP d).1 ++ qs, 0) := by
  have h' := h
  rw [safe_err] at h
  have hs : (Lk.safeP d).1 = (Lk.linesOf d.safe 200).1 := by unfold Lk.safeP; rw [if_pos h]
  rw [hs] at hr ⊢
  have hr' : Lk.linesOf d.wait (200 - (Lk.linesOf d.safe 200).1.length) = (qs, n, e) := hr
  unfold Lk.recovP Lk.recov
  rw [if_pos h, hr']
theorem safe_sum {d : Lk.Disk} (h : (Lk.safeP d).2 = 0) : d.safe.length + d.wait.length ≤ 60000 := chk_size (by rw [← safe_err]; exact h)
theorem safe_le (d : Lk.Disk) : (Lk.safeP d).1.length ≤ 200 := by
  unfold Lk.safeP
  split
  · exact (Lk.lines_len _ _).2
  · simp
/-- a lock's pins don't lie where two slices lie -/
theorem pins_off {w : World} {v : Value} {l : List (Int × Int)} {b : Nat} {a a' : Option Addr} {n n' c c' : Nat} {t : TypeId} (hN : Blk w b #[.slice a n c, .slice a' n' c'] t) (h : PinsAt w v l) : ∀ o' c', v = .slice (some ⟨b, o', none⟩) l.length c' → l = [] := by
  intro o' c' hv
  obtain ⟨hl, c, ⟨h, _⟩ | ⟨b', o2, h1, h2⟩⟩ := h
  · exact h
  · rw [hv] at h1
    simp only [Value.slice.injEq, Option.some.injEq, Addr.mk.injEq, and_true, true_and] at h1
    obtain ⟨⟨rfl, rfl⟩, _⟩ := h1
    cases l with
    | nil => rfl
    | cons p r =>
      exfalso
      have h0 := (h2.2 0 (by simp)).1
      rw [hN.cell] at h0
      simp only [List.getD_cons_zero, Nat.zero_mul, Nat.add_zero] at h0
      rcases o' with _ | _ | o'
      all_goals simp at h0
theorem Blk.grown {w w' : World} {b : Nat} {cs : Array Value} {t : TypeId} {row : Option Nat} (h : Blk w b cs t) (hg : w.grownBy w' row) (hne : some b ≠ row) : Blk w' b cs t := (hg.block b h.lt hne).trans h
theorem Locks.set {w : World} {row : Option Nat} {ps : List (Lk.Note × Value)} {b o : Nat} {u : Value} (h : Locks w row ps) (hne : ∀ p ∈ ps, ∀ o' c', p.2 = .slice (some ⟨b, o', none⟩) p.1.lock.length c' → p.1.lock = []) : Locks (w.setCell ⟨b, o, none⟩ u) row ps := fun p hp => ⟨pins_set (h p hp).1 (hne p hp), (h p hp).2⟩
set_option maxHeartbeats 8000000 in
set_option maxRecDepth 100000 in
theorem recover_any (vs vw : Value) (ls lw : List UInt8) (w : World) (hE : Env w) (hS : BytesAt w vs ls) (hW : BytesAt w vw lw) :
    Calls Tryz.prog 28 #[.agg #[vs, vw]] w fun e w' => recovN w.heap.size w' (Lk.recovP ⟨ls, lw⟩) e ∧ Below w.heap.size w w' := by
  obtain ⟨a, c, rfl⟩ := bytes_slice hS
  obtain ⟨a', c', rfl⟩ := bytes_slice hW
  have hroom := (bytes_room hW).2
  have HE : Hid (Env w) := hE
  have HS : Hid (BytesAt w (.slice a ls.length c) ls) := hS
  have HW : Hid (BytesAt w (.slice a' lw.length c') lw) := hW
  have HB0 : Hid (Below w.heap.size w ((w.alloc (.cells #[.slice a ls.length c, .slice a' lw.length c'] 73)).alloc (.cells #[.slice none 0 0, .slice none 0 0] 73))) := ((Below.refl _ w).alloc (Nat.le_refl _) _).alloc (by simp) _
  have HK0 : Hid (Blk ((w.alloc (.cells #[.slice a ls.length c, .slice a' lw.length c'] 73)).alloc (.cells #[.slice none 0 0, .slice none 0 0] 73)) w.heap.size #[.slice a ls.length c, .slice a' lw.length c'] 73) := (blk_alloc w _ _).below ((Below.refl _ _).alloc (Nat.le_refl _) _)
  have HN0 : Hid (Blk ((w.alloc (.cells #[.slice a ls.length c, .slice a' lw.length c'] 73)).alloc (.cells #[.slice none 0 0, .slice none 0 0] 73)) (w.heap.size + 1) #[.slice none 0 0, .slice none 0 0] 73) := by
    have := blk_alloc (w.alloc (.cells #[.slice a ls.length c, .slice a' lw.length c'] 73)) #[.slice none 0 0, .slice none 0 0] 73
    rwa [World.size_alloc] at this
  have HC1 : Hid (∀ w', Below w.heap.size w w' → Calls Tryz.prog 60 #[.agg #[.slice a ls.length c, .slice a' lw.length c']] w' fun e w'' => safeR w'.heap.size w'' (Lk.safeP ⟨ls, lw⟩) e ∧ Below w'.heap.size w' w'') := fun w' hb => safe_any _ _ ls lw w' (hE.below hb) (hS.below hb) (hW.below hb)
  have F1 : Hid (¬ (Lk.safeP ⟨ls, lw⟩).2 = 0 → Lk.recovP ⟨ls, lw⟩ = (Lk.Disk.none, [], (Lk.safeP ⟨ls, lw⟩).2)) := fun h => recov_bad h
  have F2 : Hid ((Lk.safeP ⟨ls, lw⟩).2 = 0 → ∀ qs n e, Lk.linesFrom (200 - (Lk.safeP ⟨ls, lw⟩).1.length) [] 0 lw = (qs, n, e) → Lk.recovP ⟨ls, lw⟩ = (⟨ls ++ lw.take n, []⟩, (Lk.safeP ⟨ls, lw⟩).1 ++ qs, 0)) := fun h qs n e hr => recov_ok h hr
  have F3 : Hid ((Lk.safeP ⟨ls, lw⟩).2 = 0 → ls.length + lw.length ≤ 60000) := fun h => safe_sum h
  have F4 : (Lk.safeP ⟨ls, lw⟩).1.length ≤ 200 := safe_le _
  clear hE hS hW
  generalize Lk.recovP ⟨ls, lw⟩ = Q at F1 F2 ⊢
  generalize Lk.safeP ⟨ls, lw⟩ = P at F1 F2 F3 F4 HC1
  obtain ⟨A, CE⟩ := P
  simp only at F1 F2 F3 F4
  obtain ⟨i0, hi, hz0, hz1, hz2⟩ := info_parts Tryz.info34
  go_enter Tryz.func28, Tryz.ntmps28
  go_wp2_with fail
  refine (HC1.out _ HB0.out).mono ?_
  rintro e w1 ⟨⟨v0, ps0, rfl, hO, hLk, hA⟩, hb1⟩
  simp only at hA
  have HB1 : Hid (Below w.heap.size w w1) := HB0.out.trans (hb1.mono HB0.out.size)
  have hk := HK0.out.below hb1
  have hn := HN0.out.below hb1
  have hsz0 : ((w.alloc (.cells #[.slice a ls.length c, .slice a' lw.length c'] 73)).alloc (.cells #[.slice none 0 0, .slice none 0 0] 73)).heap.size = w.heap.size + 2 := by simp
  rw [hsz0] at hO
  clear hb1 HB0 HK0 HN0 HC1 hsz0
  have k0 := hk.cell 0
  have k1 := hk.cell 1
  have d1 := hn.cell 0
  have d2 := hn.cell 1
  have f1 := hn.free 0
  have f2 := hn.free 1
  simp only [List.getElem?_toArray, List.getElem?_cons_zero, List.getElem?_cons_succ] at k0 k1 d1 d2
  have HK1 : Hid (Blk w1 w.heap.size #[.slice a ls.length c, .slice a' lw.length c'] 73) := hk
  have HN1 : Hid (Blk w1 (w.heap.size + 1) #[.slice none 0 0, .slice none 0 0] 73) := hn
  have HO1 : Hid (w1.ownsRow (w.heap.size + 2) 34 7 v0 ps0.length (flatR ps0)) := hO
  have HL1 : Hid (Locks w1 v0.ownBlock ps0) := hLk
  have HA : Hid (ps0.map Prod.fst = A) := hA
  obtain ⟨ra0, rc0, hv0⟩ := slice_of_owns hO
  clear hO hLk hA hk hn
  by_cases h1 : CE = 0
  rotate_left
  · have h1b : (CE != 0) = true := by rw [bne_iff_ne]; exact h1
    have HQ : Hid (Q = (Lk.Disk.none, [], CE)) := F1.out h1
    have HBs : Hid (∀ u0 u1 : Value, Below w.heap.size w ((w1.setCell ⟨w.heap.size + 1, 0, none⟩ u0).setCell ⟨w.heap.size + 1, 1, none⟩ u1)) := fun u0 u1 => (HB1.out.setCell (Nat.le_succ _) _).setCell (Nat.le_succ _) _
    clear F1 F2 F3 h1
    subst hv0
    go_wp2
    refine bodyPost_ret (v := .tuple #[.agg #[.slice none 0 0, .slice none 0 0], .slice none 0 0, .int .i64 CE]) (by simp [results, Tryz.results28, go_sem, d1, d2]) rfl ⟨recovN_none _ _ HQ.out, HBs.out _ _⟩
  subst h1
  have hsum := F3.out rfl
  have G2 : Hid (∀ qs n e, Lk.linesFrom (200 - A.length) [] 0 lw = (qs, n, e) → Q = (⟨ls ++ lw.take n, []⟩, A ++ qs, 0)) := F2.out rfl
  clear F1 F2 F3
  obtain ⟨R0, hR0⟩ : ∃ R, R = Lk.linesFrom (200 - A.length) [] 0 lw := ⟨_, rfl⟩
  have HR0 : Hid (R0 = Lk.linesFrom (200 - A.length) [] 0 lw) := hR0
  rw [← hR0] at G2
  clear hR0
  have hlt1 : w.heap.size + 1 < w1.heap.size := HN1.out.lt
  subst hv0
  go_wp2_with fail
  clear k0 k1 d1 d2 f1 f2
  go_loopg [5, 7] lw.length (fun g s5 s7 wr => ∃ (ps : List (Lk.Note × Value)) (qs : List Lk.Note) (s : List UInt8) (n : Nat) (sa : Option Addr) (sc : Nat), s.length ≤ g ∧ n + s.length = lw.length ∧ s7 = .slice sa s.length sc ∧ Hid (wr.ownsRow (w.heap.size + 2) 34 7 s5 ps.length (flatR ps)) ∧ Hid (Locks wr s5.ownBlock ps) ∧ Hid (BytesAt w (.slice sa s.length sc) s) ∧ Hid (R0 = Lk.linesFrom (200 - A.length) qs n s) ∧ Hid (ps.map Prod.fst = A ++ qs) ∧ ps.length ≤ 200 ∧ Hid (Below w.heap.size w wr) ∧ Hid (Blk wr w.heap.size #[.slice a ls.length c, .slice a' lw.length c'] 73) ∧ Hid (Blk wr (w.heap.size + 1) #[.slice none 0 0, .slice none 0 0] 73))
  case atStart => exact ⟨ps0, [], lw, 0, a', c', Nat.le_refl _, by omega, rfl, HO1, HL1, HW, HR0, (by show ps0.map Prod.fst = A ++ []; rw [HA.out, List.append_nil]), (by have := congrArg List.length HA.out; rw [List.length_map] at this; omega), HB1, HK1, HN1⟩
  case round =>
    obtain ⟨ps, qs, s, n, sa, sc, hg, hns, rfl, HO, HLk, HSr, HQk, HPs, hpl, HBr, HKr, HNr⟩ := hrel
    obtain ⟨ra, rc, hu5⟩ := slice_of_owns HO.out
    have HPQ : Hid (ps.length = A.length + qs.length) := by
      have := congrArg List.length HPs.out; rw [List.length_map, List.length_append] at this; exact this
    have hnn : (lw.length : Int) - (s.length : Int) = (n : Int) := by omega
    have hnc : (n : Int) ≤ (c' : Int) := by omega
    have hs6 : s.length ≤ 60000 := by omega
    have HEr : Hid (Env wr) := HE.out.below HBr.out
    by_cases h2 : 200 ≤ ps.length
    · have HQ : Hid (Q = (⟨ls ++ lw.take n, []⟩, A ++ qs, 0)) := by
        obtain ⟨er, he⟩ := Lk.from_full (most := 200 - A.length) (n := n) (acc := qs) s (by have := HPQ.out; omega)
        exact G2.out _ _ er (by rw [HQk.out]; exact he)
      have h2' : (200 : Int) ≤ (ps.length : Int) := by omega
      have HOx := HO
      have HLx := HLk
      have HBx := HBr
      have HKx := HKr
      have HNx := HNr
      clear HO HLk HBr HKr HNr HQk G2 h2 HSr HEr
      subst hu5
      have HBw : Hid (w.heap.size + 2 ≤ wr.heap.size) := HNx.out.lt
      have hk := HKx.out
      have k0 := hk.cell 0
      have k1 := hk.cell 1
      simp only [List.getElem?_toArray, List.getElem?_cons_zero, List.getElem?_cons_succ] at k0 k1
      clear hk
      have HJ : Hid (∀ w', Below w.heap.size w w' → Calls Tryz.prog 59 #[.slice a ls.length c, .slice a' n c'] w' fun e w'' => (∃ x, e = .returned x ∧ NewBytes w'.heap.size w'' x (ls ++ lw.take n)) ∧ Below w'.heap.size w' w'') := fun w' hb => joined_any _ _ ls (lw.take n) w' (HS.out.below hb) (bytes_take (HW.out.below hb) n (by omega)) (by rw [List.length_take]; omega)
      generalize ls ++ lw.take n = L at HQ HJ
      go_wp2_with fail
      refine (HJ.out _ HBx.out).mono ?_
      rintro e wJ ⟨⟨x, rfl, hx⟩, hbJ⟩
      obtain ⟨xa, xc, rfl⟩ := bytes_slice hx.1
      have HXJ : Hid (NewBytes (w.heap.size + 2) wJ (.slice xa L.length xc) L) := hx.less HBw.out
      have HBJ : Hid (Below w.heap.size w wJ) := HBx.out.trans (hbJ.mono HBx.out.size)
      have hn := HNx.out.below hbJ
      have HOJ : Hid (wJ.ownsRow (w.heap.size + 2) 34 7 (.slice ra ps.length rc) ps.length (flatR ps)) := owns_below HOx.out hbJ
      have HLJ : Hid (Locks wJ (Value.slice ra ps.length rc).ownBlock ps) := HLx.out.below hbJ
      have HNE : Hid (∀ p ∈ ps, ∀ o' c', p.2 = .slice (some ⟨w.heap.size + 1, o', none⟩) p.1.lock.length c' → p.1.lock = []) := fun p hp => pins_off hn (HLJ.out p hp).1
      have HBs : Hid (∀ u0 u1 : Value, Below w.heap.size w ((wJ.setCell ⟨w.heap.size + 1, 0, none⟩ u0).setCell ⟨w.heap.size + 1, 1, none⟩ u1)) := fun u0 u1 => (HBJ.out.setCell (Nat.le_succ _) _).setCell (Nat.le_succ _) _
      have d1 := hn.cell 0
      have d2 := hn.cell 1
      have f1 := hn.free 0
      have f2 := hn.free 1
      simp only [List.getElem?_toArray, List.getElem?_cons_zero, List.getElem?_cons_succ] at d1 d2
      clear hx hbJ hn HJ HBx HKx HNx HOx HLx k0 k1
      go_wp2
      refine bodyPost_ret (v := .tuple #[.agg #[.slice xa L.length xc, .slice none 0 0], .slice ra ps.length rc, .int .i64 0]) (by simp [results, Tryz.results28, go_sem, d1, d2]) rfl ⟨?_, HBs.out _ _⟩
      rw [HQ.out]
      exact ⟨_, _, _, ps, rfl, ((HXJ.out.set _ (by omega)).set _ (by omega)).less (by omega), newBytes_none _ _, owns_less (ownsRow_setCell_below (ownsRow_setCell_below HOJ.out (by show w.heap.size + 1 < w.heap.size + 2; omega) _) (by show w.heap.size + 1 < w.heap.size + 2; omega) _) (by omega), Locks.set (Locks.set HLJ.out HNE.out) HNE.out, HPs.out⟩
    have h2' : (ps.length : Int) < 200 := by omega
    rcases Lk.lf_cases s with hnl | ⟨t, r, es, hnl⟩
    · have HQ : Hid (Q = (⟨ls ++ lw.take n, []⟩, A ++ qs, 0)) := by
        obtain ⟨er, he⟩ := Lk.from_none (most := 200 - A.length) (n := n) (acc := qs) hnl
        exact G2.out _ _ er (by rw [HQk.out]; exact he)
      have HFr : Hid (Calls Tryz.prog 61 #[.slice sa s.length sc] wr fun e w' => e = .returned (.tuple #[recV Lk.Note.none (.slice none 0 0), .slice none 0 0, .int .i64 9]) ∧ Below wr.heap.size wr w') := first_torn _ s wr HEr.out (HSr.out.below HBr.out) hs6 hnl
      clear HQk G2 h2 HSr HEr
      subst hu5
      go_wp2_with fail
      refine HFr.out.mono ?_
      rintro e w2 ⟨rfl, hb2⟩
      unfold recV Lk.Note.none
      have hbB : Below wr.heap.size wr (w2.alloc (.cells #[.int .i64 0, .int .i64 0, .int .i64 0, .int .i64 0, .bool false, .int .i64 0, .slice none 0 0] 34)) := hb2.alloc hb2.size _
      have HOx : Hid ((w2.alloc (.cells #[.int .i64 0, .int .i64 0, .int .i64 0, .int .i64 0, .bool false, .int .i64 0, .slice none 0 0] 34)).ownsRow (w.heap.size + 2) 34 7 (.slice ra ps.length rc) ps.length (flatR ps)) := owns_below HO.out hbB
      have HLx : Hid (Locks (w2.alloc (.cells #[.int .i64 0, .int .i64 0, .int .i64 0, .int .i64 0, .bool false, .int .i64 0, .slice none 0 0] 34)) (Value.slice ra ps.length rc).ownBlock ps) := HLk.out.below hbB
      have HBx : Hid (Below w.heap.size w (w2.alloc (.cells #[.int .i64 0, .int .i64 0, .int .i64 0, .int .i64 0, .bool false, .int .i64 0, .slice none 0 0] 34))) := HBr.out.trans (hbB.mono HBr.out.size)
      have HKx : Hid (Blk (w2.alloc (.cells #[.int .i64 0, .int .i64 0, .int .i64 0, .int .i64 0, .bool false, .int .i64 0, .slice none 0 0] 34)) w.heap.size #[.slice a ls.length c, .slice a' lw.length c'] 73) := HKr.out.below hbB
      have HNx : Hid (Blk (w2.alloc (.cells #[.int .i64 0, .int .i64 0, .int .i64 0, .int .i64 0, .bool false, .int .i64 0, .slice none 0 0] 34)) (w.heap.size + 1) #[.slice none 0 0, .slice none 0 0] 73) := HNr.out.below hbB
      clear HO HLk HBr HKr HNr hb2 hbB HFr
      have HBw : Hid (w.heap.size + 2 ≤ (w2.alloc (.cells #[.int .i64 0, .int .i64 0, .int .i64 0, .int .i64 0, .bool false, .int .i64 0, .slice none 0 0] 34)).heap.size) := HNx.out.lt
      have hk := HKx.out
      have k0 := hk.cell 0
      have k1 := hk.cell 1
      simp only [List.getElem?_toArray, List.getElem?_cons_zero, List.getElem?_cons_succ] at k0 k1
      clear hk
      have HJ : Hid (∀ w', Below w.heap.size w w' → Calls Tryz.prog 59 #[.slice a ls.length c, .slice a' n c'] w' fun e w'' => (∃ x, e = .returned x ∧ NewBytes w'.heap.size w'' x (ls ++ lw.take n)) ∧ Below w'.heap.size w' w'') := fun w' hb => joined_any _ _ ls (lw.take n) w' (HS.out.below hb) (bytes_take (HW.out.below hb) n (by omega)) (by rw [List.length_take]; omega)
      generalize ls ++ lw.take n = L at HQ HJ
      go_wp2_with fail
      refine (HJ.out _ HBx.out).mono ?_
      rintro e wJ ⟨⟨x, rfl, hx⟩, hbJ⟩
      obtain ⟨xa, xc, rfl⟩ := bytes_slice hx.1
      have HXJ : Hid (NewBytes (w.heap.size + 2) wJ (.slice xa L.length xc) L) := hx.less HBw.out
      have HBJ : Hid (Below w.heap.size w wJ) := HBx.out.trans (hbJ.mono HBx.out.size)
      have hn := HNx.out.below hbJ
      have HOJ : Hid (wJ.ownsRow (w.heap.size + 2) 34 7 (.slice ra ps.length rc) ps.length (flatR ps)) := owns_below HOx.out hbJ
      have HLJ : Hid (Locks wJ (Value.slice ra ps.length rc).ownBlock ps) := HLx.out.below hbJ
      have HNE : Hid (∀ p ∈ ps, ∀ o' c', p.2 = .slice (some ⟨w.heap.size + 1, o', none⟩) p.1.lock.length c' → p.1.lock = []) := fun p hp => pins_off hn (HLJ.out p hp).1
      have HBs : Hid (∀ u0 u1 : Value, Below w.heap.size w ((wJ.setCell ⟨w.heap.size + 1, 0, none⟩ u0).setCell ⟨w.heap.size + 1, 1, none⟩ u1)) := fun u0 u1 => (HBJ.out.setCell (Nat.le_succ _) _).setCell (Nat.le_succ _) _
      have d1 := hn.cell 0
      have d2 := hn.cell 1
      have f1 := hn.free 0
      have f2 := hn.free 1
      simp only [List.getElem?_toArray, List.getElem?_cons_zero, List.getElem?_cons_succ] at d1 d2
      clear hx hbJ hn HJ HBx HKx HNx HOx HLx k0 k1
      go_wp2
      refine bodyPost_ret (v := .tuple #[.agg #[.slice xa L.length xc, .slice none 0 0], .slice ra ps.length rc, .int .i64 0]) (by simp [results, Tryz.results28, go_sem, d1, d2]) rfl ⟨?_, HBs.out _ _⟩
      rw [HQ.out]
      exact ⟨_, _, _, ps, rfl, ((HXJ.out.set _ (by omega)).set _ (by omega)).less (by omega), newBytes_none _ _, owns_less (ownsRow_setCell_below (ownsRow_setCell_below HOJ.out (by show w.heap.size + 1 < w.heap.size + 2; omega) _) (by show w.heap.size + 1 < w.heap.size + 2; omega) _) (by omega), Locks.set (Locks.set HLJ.out HNE.out) HNE.out, HPs.out⟩
    · subst es
      have HFr : Hid (Calls Tryz.prog 61 #[.slice sa (t ++ 10 :: r).length sc] wr fun e w' => firstR wr.heap.size w' (Lk.readNote t) (.slice sa (t ++ 10 :: r).length sc) (t ++ 10 :: r) r e ∧ Below wr.heap.size wr w') := first_line _ t r wr HEr.out (HSr.out.below HBr.out) hs6 hnl
      have G1 : Hid (¬ (Lk.readNote t).2 = 0 → Q = (⟨ls ++ lw.take n, []⟩, A ++ qs, 0)) := fun h => G2.out _ _ _ (by rw [HQk.out]; exact Lk.from_bad hnl h)
      have G3 : Hid ((Lk.readNote t).2 = 0 → R0 = Lk.linesFrom (200 - A.length) (qs ++ [(Lk.readNote t).1]) (n + t.length + 1) r) := fun h => by rw [HQk.out]; exact Lk.from_step hnl h (by have := HPQ.out; omega)
      have hrl : r.length + 1 ≤ (t ++ 10 :: r).length := by simp
      have hrt : (t ++ 10 :: r).length = t.length + 1 + r.length := by simp; omega
      have hnr : n + t.length + 1 + r.length = lw.length := by omega
      clear HQk hnl hrt
      generalize Lk.readNote t = X at HFr G1 G3
      generalize (t ++ 10 :: r).length = sl at HFr HSr hg hs6 hrl hns hnn ⊢
      obtain ⟨⟨x1, x2, x3, x4, x5, x6, x7⟩, XE⟩ := X
      simp only at G1 G3
      subst hu5
      go_wp2_with fail
      refine HFr.out.mono ?_
      rintro e w2 ⟨⟨z, u, rfl, ⟨hz, hfr⟩, hux⟩, hb2⟩
      have hu := hux w HSr.out
      obtain ⟨ua, uc, rfl⟩ := bytes_slice hu
      have HU : Hid (BytesAt w (.slice ua r.length uc) r) := hu
      simp only at hz hfr
      obtain ⟨za, zc, rfl⟩ := pins_slice hz
      clear hux hu HFr
      unfold recV
      simp only
      have hbA : Below w2.heap.size w2 (w2.alloc (.cells #[.int .i64 x1, .int .i64 x2, .int .i64 x3, .int .i64 x4, .bool x5, .int .i64 x6, .slice za x7.length zc] 34)) := (Below.refl _ _).alloc (Nat.le_refl _) _
      have hbB : Below wr.heap.size wr (w2.alloc (.cells #[.int .i64 x1, .int .i64 x2, .int .i64 x3, .int .i64 x4, .bool x5, .int .i64 x6, .slice za x7.length zc] 34)) := hb2.trans (hbA.mono hb2.size)
      have HOx : Hid ((w2.alloc (.cells #[.int .i64 x1, .int .i64 x2, .int .i64 x3, .int .i64 x4, .bool x5, .int .i64 x6, .slice za x7.length zc] 34)).ownsRow (w.heap.size + 2) 34 7 (.slice ra ps.length rc) ps.length (flatR ps)) := owns_below HO.out hbB
      have HLx : Hid (Locks (w2.alloc (.cells #[.int .i64 x1, .int .i64 x2, .int .i64 x3, .int .i64 x4, .bool x5, .int .i64 x6, .slice za x7.length zc] 34)) (Value.slice ra ps.length rc).ownBlock ps) := HLk.out.below hbB
      have HBx : Hid (Below w.heap.size w (w2.alloc (.cells #[.int .i64 x1, .int .i64 x2, .int .i64 x3, .int .i64 x4, .bool x5, .int .i64 x6, .slice za x7.length zc] 34))) := HBr.out.trans (hbB.mono HBr.out.size)
      have HKx : Hid (Blk (w2.alloc (.cells #[.int .i64 x1, .int .i64 x2, .int .i64 x3, .int .i64 x4, .bool x5, .int .i64 x6, .slice za x7.length zc] 34)) w.heap.size #[.slice a ls.length c, .slice a' lw.length c'] 73) := HKr.out.below hbB
      have HNx : Hid (Blk (w2.alloc (.cells #[.int .i64 x1, .int .i64 x2, .int .i64 x3, .int .i64 x4, .bool x5, .int .i64 x6, .slice za x7.length zc] 34)) (w.heap.size + 1) #[.slice none 0 0, .slice none 0 0] 73) := HNr.out.below hbB
      have HZ2 : Hid (PinsAt (w2.alloc (.cells #[.int .i64 x1, .int .i64 x2, .int .i64 x3, .int .i64 x4, .bool x5, .int .i64 x6, .slice za x7.length zc] 34)) (.slice za x7.length zc) x7) := hz.below hbA
      have HAp : Hid (x7 ≠ [] → (Value.slice za x7.length zc).ownBlock ≠ (Value.slice ra ps.length rc).ownBlock) := fresh_apart HO.out hz hfr
      have HRX : Hid (RecAt (w2.alloc (.cells #[.int .i64 x1, .int .i64 x2, .int .i64 x3, .int .i64 x4, .bool x5, .int .i64 x6, .slice za x7.length zc] 34)) w2.heap.size x1 x2 x3 x4 x5 x6 (.slice za x7.length zc)) := recAt_alloc w2 x1 x2 x3 x4 x5 x6 _
      clear hbA hbB hz hfr hb2 HO HLk HBr HKr HNr HEr
      by_cases he : XE = 0
      rotate_left
      · have heb : (XE != 0) = true := by rw [bne_iff_ne]; exact he
        have HQ : Hid (Q = (⟨ls ++ lw.take n, []⟩, A ++ qs, 0)) := G1.out he
        clear G1 G2 G3 he h2 HSr HU HZ2 HAp HRX
        have HBw : Hid (w.heap.size + 2 ≤ (w2.alloc (.cells #[.int .i64 x1, .int .i64 x2, .int .i64 x3, .int .i64 x4, .bool x5, .int .i64 x6, .slice za x7.length zc] 34)).heap.size) := HNx.out.lt
        have hk := HKx.out
        have k0 := hk.cell 0
        have k1 := hk.cell 1
        simp only [List.getElem?_toArray, List.getElem?_cons_zero, List.getElem?_cons_succ] at k0 k1
        clear hk
        have HJ : Hid (∀ w', Below w.heap.size w w' → Calls Tryz.prog 59 #[.slice a ls.length c, .slice a' n c'] w' fun e w'' => (∃ x, e = .returned x ∧ NewBytes w'.heap.size w'' x (ls ++ lw.take n)) ∧ Below w'.heap.size w' w'') := fun w' hb => joined_any _ _ ls (lw.take n) w' (HS.out.below hb) (bytes_take (HW.out.below hb) n (by omega)) (by rw [List.length_take]; omega)
        generalize ls ++ lw.take n = L at HQ HJ
        go_wp2_with fail
        refine (HJ.out _ HBx.out).mono ?_
        rintro e wJ ⟨⟨x, rfl, hx⟩, hbJ⟩
        obtain ⟨xa, xc, rfl⟩ := bytes_slice hx.1
        have HXJ : Hid (NewBytes (w.heap.size + 2) wJ (.slice xa L.length xc) L) := hx.less HBw.out
        have HBJ : Hid (Below w.heap.size w wJ) := HBx.out.trans (hbJ.mono HBx.out.size)
        have hn := HNx.out.below hbJ
        have HOJ : Hid (wJ.ownsRow (w.heap.size + 2) 34 7 (.slice ra ps.length rc) ps.length (flatR ps)) := owns_below HOx.out hbJ
        have HLJ : Hid (Locks wJ (Value.slice ra ps.length rc).ownBlock ps) := HLx.out.below hbJ
        have HNE : Hid (∀ p ∈ ps, ∀ o' c', p.2 = .slice (some ⟨w.heap.size + 1, o', none⟩) p.1.lock.length c' → p.1.lock = []) := fun p hp => pins_off hn (HLJ.out p hp).1
        have HBs : Hid (∀ u0 u1 : Value, Below w.heap.size w ((wJ.setCell ⟨w.heap.size + 1, 0, none⟩ u0).setCell ⟨w.heap.size + 1, 1, none⟩ u1)) := fun u0 u1 => (HBJ.out.setCell (Nat.le_succ _) _).setCell (Nat.le_succ _) _
        have d1 := hn.cell 0
        have d2 := hn.cell 1
        have f1 := hn.free 0
        have f2 := hn.free 1
        simp only [List.getElem?_toArray, List.getElem?_cons_zero, List.getElem?_cons_succ] at d1 d2
        clear hx hbJ hn HJ HBx HKx HNx HOx HLx k0 k1
        go_wp2
        refine bodyPost_ret (v := .tuple #[.agg #[.slice xa L.length xc, .slice none 0 0], .slice ra ps.length rc, .int .i64 0]) (by simp [results, Tryz.results28, go_sem, d1, d2]) rfl ⟨?_, HBs.out _ _⟩
        rw [HQ.out]
        exact ⟨_, _, _, ps, rfl, ((HXJ.out.set _ (by omega)).set _ (by omega)).less (by omega), newBytes_none _ _, owns_less (ownsRow_setCell_below (ownsRow_setCell_below HOJ.out (by show w.heap.size + 1 < w.heap.size + 2; omega) _) (by show w.heap.size + 1 < w.heap.size + 2; omega) _) (by omega), Locks.set (Locks.set HLJ.out HNE.out) HNE.out, HPs.out⟩
      subst he
      have HQ2 : Hid (R0 = Lk.linesFrom (200 - A.length) (qs ++ [(⟨x1, x2, x3, x4, x5, x6, x7⟩ : Lk.Note)]) (n + t.length + 1) r) := G3.out rfl
      clear G1 G3
      go_upto_region 8 with fail
      generalize (w2.alloc (.cells #[.int .i64 x1, .int .i64 x2, .int .i64 x3, .int .i64 x4, .bool x5, .int .i64 x6, .slice za x7.length zc] 34)) = W2 at HOx HLx HBx HKx HNx HZ2 HRX ⊢
      generalize w2.heap.size = g2 at HRX ⊢
      obtain ⟨c0, c1, c2, c3, c4, c5, c6, c7⟩ := HRX.out
      have hw1 : w.heap.size + 2 ≤ W2.heap.size := HNx.out.lt
      have hps : ps.length ≤ 200 := by omega
      go_wp2_with (at_builtin; refine wpList_append_own_at _ rfl _ _ 25 rfl (w.heap.size + 2) 34 i0 (.agg #[.int .i64 0, .int .i64 0, .int .i64 0, .int .i64 0, .bool false, .int .i64 0, .slice none 0 0]) 7 72 Tryz.underlying25 hi hz0 hz1 hz2 rfl (by decide) _ ps.length (flatR ps) rfl (HOx.out.alloc _) ⟨W2.heap.size, 0, none⟩ 1 1 (recCells (⟨x1, x2, x3, x4, x5, x6, x7⟩, .slice za x7.length zc)) rfl rfl ?k1 ?k2 ?k3 ?k4 ?k5 ?_)
      case k1 =>
        intro j u hj
        rcases j with _ | _ | _ | _ | _ | _ | _ | j
        iterate 7 (simp [recCells] at hj; subst hj; simp [go_sem, Addr.add])
        simp [recCells] at hj
      case k2 =>
        intro u hu
        simp only [recCells, List.mem_cons, List.not_mem_nil, or_false] at hu
        rcases hu with rfl | rfl | rfl | rfl | rfl | rfl | rfl <;> rfl
      case k3 => unfold maxLen; omega
      case k4 => omega
      case k5 => simp; omega
      intro v' w3 hown hgrow _ hrow
      have HO3 : Hid (w3.ownsRow (w.heap.size + 2) 34 7 v' (ps ++ [((⟨x1, x2, x3, x4, x5, x6, x7⟩ : Lk.Note), Value.slice za x7.length zc)]).length (flatR (ps ++ [((⟨x1, x2, x3, x4, x5, x6, x7⟩ : Lk.Note), Value.slice za x7.length zc)]))) := by
        rw [flatR_append, List.length_append]
        have e : flatR [((⟨x1, x2, x3, x4, x5, x6, x7⟩ : Lk.Note), Value.slice za x7.length zc)] = recCells (⟨x1, x2, x3, x4, x5, x6, x7⟩, .slice za x7.length zc) := by simp [flatR]
        rw [e]; exact hown
      have HLk3 : Hid (Locks w3 v'.ownBlock (ps ++ [((⟨x1, x2, x3, x4, x5, x6, x7⟩ : Lk.Note), Value.slice za x7.length zc)])) :=
        Locks.grown ((Locks.below (HLx.out.snoc HZ2.out HAp.out) ((Below.refl _ W2).alloc (Nat.le_refl _) _))) hgrow (by rw [World.size_alloc]; exact hrow)
      have HB4 : Hid (Below w.heap.size w w3) := (HBx.out.alloc HBx.out.size _).grown hgrow (by simp; have := HBx.out.size; omega) (fun q hq => by have := (HOx.out.lt q hq).1; omega)
      have HK3 : Hid (Blk w3 w.heap.size #[.slice a ls.length c, .slice a' lw.length c'] 73) := Blk.grown (HKx.out.below ((Below.refl _ W2).alloc (Nat.le_refl _) _)) hgrow (fun e => by have := (HOx.out.lt _ e.symm).1; omega)
      have HN3 : Hid (Blk w3 (w.heap.size + 1) #[.slice none 0 0, .slice none 0 0] 73) := Blk.grown (HNx.out.below ((Below.refl _ W2).alloc (Nat.le_refl _) _)) hgrow (fun e => by have := (HOx.out.lt _ e.symm).1; omega)
      have HP3 : Hid ((ps ++ [((⟨x1, x2, x3, x4, x5, x6, x7⟩ : Lk.Note), Value.slice za x7.length zc)]).map Prod.fst = A ++ (qs ++ [(⟨x1, x2, x3, x4, x5, x6, x7⟩ : Lk.Note)])) := by
        show List.map Prod.fst _ = _
        rw [List.map_append, HPs.out, List.append_assoc]; rfl
      clear hown hgrow hrow HOx HLx HRX c0 c1 c2 c3 c4 c5 c6 c7
      go_wp2
      go_roundg r.length
      case measure => omega
      case rel => exact ⟨ps ++ [((⟨x1, x2, x3, x4, x5, x6, x7⟩ : Lk.Note), Value.slice za x7.length zc)], qs ++ [(⟨x1, x2, x3, x4, x5, x6, x7⟩ : Lk.Note)], r, n + t.length + 1, ua, uc, Nat.le_refl _, hnr, rfl, HO3, HLk3, HU, HQ2, HP3, (by rw [List.length_append]; simp; omega), HB4, HK3, HN3⟩
end Go.Proofs.YtpenkhehceglfaaGreatDoor
