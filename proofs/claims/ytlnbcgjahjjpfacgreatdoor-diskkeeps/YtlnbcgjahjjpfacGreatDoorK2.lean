/- The contract of DiskKeeps's closure that puts. -/
import Derived.Test.YtlnbcgjahjjpfacGreatDoorD21
import Derived.Test.YtlnbcgjahjjpfacGreatDoorDkM2
import Derived.Deep.AppendLies
import Derived.Deep.RegionLaw
namespace Go.Proofs.YtlnbcgjahjjpfacGreatDoor
open Go.RowKit
theorem recs_take {w : World} {p : Option Addr} {n c : Nat} {ps : List (Lk.Note × Value)} (h : RecsAt w (.slice p n c) ps) (k : Nat) (hk : k ≤ ps.length) : RecsAt w (.slice p k c) (ps.take k) := by
  obtain ⟨hl, p', c', e, hc, h1, h2, h3, h4⟩ := h
  simp only [Value.slice.injEq] at e
  obtain ⟨rfl, rfl, rfl⟩ := e
  have hlen : (ps.take k).length = k := by rw [List.length_take]; omega
  refine ⟨by omega, p, c, by rw [hlen], by omega, fun e => ⟨(h1 e).1, by have := (h1 e).2; omega⟩, fun ad ha h0 => h2 ad ha (by omega), fun ad ha j u hu => h3 ad ha j u ?_, fun q hq => h4 q (List.mem_of_mem_take hq)⟩
  have e : flatR ps = flatR (ps.take k) ++ flatR (ps.drop k) := by rw [← flatR_append, List.take_append_drop]
  have hj := (List.getElem?_eq_some_iff.1 hu).1
  rw [e, List.getElem?_append_left hj]
  exact hu
theorem kgrown_below {w x y : World} {row : Option Nat} (h : w.grownBy x row) (hb : Below x.heap.size x y) : w.grownBy y row :=
  ⟨hb.os.trans h.os, hb.tape.trans h.tape, hb.output.trans h.output, Nat.le_trans h.size hb.size, fun k hk hr => (hb.block k (Nat.lt_of_lt_of_le hk h.size)).trans (h.block k hk hr)⟩
theorem kgrown_grown {w x y : World} {row row' : Option Nat} (h : w.grownBy x row) (h' : x.grownBy y row') (hr' : ∀ k, row' = some k → w.heap.size ≤ k) : w.grownBy y row :=
  ⟨h'.os.trans h.os, h'.tape.trans h.tape, h'.output.trans h.output, Nat.le_trans h.size h'.size, fun k hk hr => (h'.block k (Nat.lt_of_lt_of_le hk h.size) (fun e => by have := hr' k e.symm; omega)).trans (h.block k hk hr)⟩
theorem kgrown_set {w x : World} {g o : Nat} {u : Value} (h : w.grownBy x (some g)) : w.grownBy (x.setCell ⟨g, o, none⟩ u) (some g) :=
  ⟨h.os, h.tape, h.output, by simpa [World.setCell] using h.size, fun k hk hr => (Below.heap_setCell x ⟨g, o, none⟩ u k (fun e => hr (by rw [e]))).trans (h.block k hk hr)⟩
theorem kbytes_grown {w w' : World} {v : Value} {l : List UInt8} {row : Option Nat} {N : Nat} (h : NewBytes N w v l) (hg : w.grownBy w' row) (hr : ∀ k, row = some k → k < N) : NewBytes N w' v l := by
  refine ⟨?_, h.2⟩
  obtain ⟨⟨hl, c, hc, h0 | ⟨b, o, h1, h2, h3⟩⟩, hf⟩ := h
  · exact ⟨hl, c, hc, .inl h0⟩
  · have hb : some b ≠ row := fun e => by have := hf b o _ c h1; have := hr b e.symm; omega
    have e := hg.block b h2 hb
    exact ⟨hl, c, hc, .inr ⟨b, o, h1, Nat.lt_of_lt_of_le h2 hg.size, fun j hj => (World.cell?_of_block (w := w) (a := ⟨b, o + j, none⟩) e).trans (h3 j hj)⟩⟩
theorem kbelow_grown {w0 w w' : World} {g : Nat} (hb : Below w0.heap.size w0 w) (h : w.grownBy w' (some g)) (hg : w0.heap.size ≤ g) : Below w0.heap.size w0 w' :=
  hb.grown h hb.size (fun k hk => by cases hk; exact hg)
/-- what the closure answers, and where the disk is then -/
def putR (W w0 : World) (g : Nat) (q : Lk.Disk × List Lk.Note) (W' : World) (e : Ending) : Prop :=
  ∃ v' qs, e = .returned v' ∧ W'.ownsRow W.heap.size 29 7 v' qs.length (flatR qs) ∧ qs.map Prod.fst = q.2 ∧ (∀ x ∈ qs, PinsAt w0 x.2 x.1.lock) ∧ qs.length ≤ 20 ∧ DskAt W' g q.1.safe q.1.wait ∧ W.grownBy W' (some g)
theorem putFrom_no {d : Lk.Disk} {out r : List Lk.Note} {c : Lk.Note} (h : ¬ (Lk.putP d c).2 = 0) : Lk.putFrom d out (c :: r) = Lk.putFrom d out r := by rw [Lk.putFrom, if_neg h]
theorem putFrom_yes {d : Lk.Disk} {out r : List Lk.Note} {c : Lk.Note} (h : (Lk.putP d c).2 = 0) : Lk.putFrom d out (c :: r) = Lk.putFrom (Lk.putP d c).1 (out ++ [c]) r := by rw [Lk.putFrom, if_pos h]
set_option maxHeartbeats 16000000 in
set_option maxRecDepth 100000 in
theorem putC_any (g : Nat) (v : Value) (ps : List (Lk.Note × Value)) (d0 : Lk.Disk) (w0 W : World) (hE : Env w0) (hb : Below w0.heap.size w0 W) (hg : w0.heap.size ≤ g) (hR : RecsAt w0 v ps) (hD : DskAt W g d0.safe d0.wait) :
    Calls Tryz.prog 19 #[v, .pointer (some ⟨g, 0, none⟩)] W fun e W' => putR W w0 g (Lk.putFrom d0 [] ((ps.take 20).map Prod.fst)) W' e := by
  obtain ⟨p, c, rfl⟩ := recs_slice hR
  have hroom : ps.length ≤ c := by
    obtain ⟨_, p', c', e, hc, _⟩ := hR
    simp only [Value.slice.injEq] at e
    rw [e.2.2]; exact hc
  have hpl := hR.1
  obtain ⟨m, hm⟩ : ∃ m, m = min ps.length 20 := ⟨_, rfl⟩
  have hml : m ≤ 20 := by omega
  have hmp : m ≤ ps.length := by omega
  have ht : ps.take 20 = ps.take m := by
    rcases Nat.le_total ps.length 20 with h | h
    · rw [List.take_of_length_le h, List.take_of_length_le (by omega)]
    · rw [show m = 20 from by omega]
  rw [ht]
  have hR' := recs_take hR m hmp
  have hql : (ps.take m).length = m := by rw [List.length_take]; omega
  generalize ps.take m = QS at hR' hql ⊢
  have HR : Hid (RecsAt w0 (.slice p m c) QS) := hR'
  have HQL : Hid (QS.length = m) := hql
  have HE : Hid (Env w0) := hE
  have HB : Hid (Below w0.heap.size w0 W) := hb
  have HD : Hid (DskAt W g d0.safe d0.wait) := hD
  have hgW : g < W.heap.size := by obtain ⟨_, _, h, _⟩ := hD; exact h.lt
  have HQ : Hid (Lk.putFrom d0 [] (QS.map Prod.fst) = Lk.putFrom d0 [] ((QS.map Prod.fst).drop 0)) := rfl
  have hmin : min (ps.length : Int) 20 = (m : Int) := by omega
  have hmc : (m : Int) ≤ (c : Int) := by omega
  clear hE hb hR hD hR' hql ht
  generalize Lk.putFrom d0 [] (QS.map Prod.fst) = R at HQ ⊢
  obtain ⟨i0, hi, hz0, hz1, hz2⟩ := info_parts Tryz.info29
  go_enter Tryz.func19, Tryz.ntmps19
  go_wp2
  go_loopg [4, 15] m (fun gk s4 s15 wr => ∃ (k : Nat) (qs : List (Lk.Note × Value)) (d : Lk.Disk), k ≤ m ∧ m - k ≤ gk ∧ s15 = .int .i64 k ∧ qs.length ≤ k ∧ Hid (wr.ownsRow W.heap.size 29 7 s4 qs.length (flatR qs)) ∧ Hid (∀ x ∈ qs, PinsAt w0 x.2 x.1.lock) ∧ Hid (DskAt wr g d.safe d.wait) ∧ Hid (R = Lk.putFrom d (qs.map Prod.fst) ((QS.map Prod.fst).drop k)) ∧ Hid (W.grownBy wr (some g)))
  case atStart => exact ⟨0, [], d0, Nat.zero_le _, by omega, rfl, Nat.le_refl _, World.ownsRow_nil _ _ _ _, (fun x hx => by cases hx), HD, HQ, ⟨rfl, rfl, rfl, Nat.le_refl _, fun _ _ _ => rfl⟩⟩
  case round =>
    obtain ⟨k, qs, d, hk, hgk, rfl, hqk, HO, HPq, HDr, HQk, HG⟩ := hrel
    obtain ⟨ra, rc, hu4⟩ := slice_of_owns HO.out
    by_cases hlt : k < m
    rotate_left
    · have hk' : k = m := by omega
      have HRf : Hid (R = (d, qs.map Prod.fst)) := by
        show R = _
        rw [HQk.out, List.drop_of_length_le (by rw [List.length_map, HQL.out]; omega)]
        rfl
      subst hk'
      subst hu4
      clear hlt hk HQk
      go_wp2
      go_ret
      rw [HRf.out]
      exact ⟨_, qs, rfl, HO.out, rfl, HPq.out, by omega, HDr.out, HG.out⟩
    obtain ⟨⟨r, u⟩, hr⟩ : ∃ x, QS[k]? = some x := ⟨_, List.getElem?_eq_getElem (by rw [HQL.out]; exact hlt)⟩
    have HBr : Hid (Below w0.heap.size w0 wr) := kbelow_grown HB.out HG.out hg
    obtain ⟨b1, o1, rfl, hb1, x0, x1, x2, x3, x4, x5, x6⟩ := recs_at (HR.out.below HBr.out) hr
    have hp := recs_pins HR.out (r, u) (List.mem_of_getElem? hr)
    simp only at hp
    have G1 : Hid (¬ (Lk.putP d r).2 = 0 → R = Lk.putFrom d (qs.map Prod.fst) ((QS.map Prod.fst).drop (k + 1))) := fun h => by rw [HQk.out, drop_map hr, putFrom_no h]
    have G2 : Hid ((Lk.putP d r).2 = 0 → R = Lk.putFrom (Lk.putP d r).1 (qs.map Prod.fst ++ [r]) ((QS.map Prod.fst).drop (k + 1))) := fun h => by rw [HQk.out, drop_map hr, putFrom_yes h]
    obtain ⟨ua, uc, rfl⟩ := pins_slice hp
    have HU : Hid (PinsAt w0 (.slice ua r.lock.length uc) r.lock) := hp
    obtain ⟨da, dc, da', dc', hS, hW, y0, y1⟩ := dsk_open HDr.out
    have HS : Hid (BytesAt wr (.slice da d.safe.length dc) d.safe) := hS
    have HW : Hid (BytesAt wr (.slice da' d.wait.length dc') d.wait) := hW
    have hgr : g < wr.heap.size := Nat.lt_of_lt_of_le hgW HG.out.size
    obtain ⟨D1, hD1⟩ : ∃ x, x = Lk.putP d r := ⟨_, rfl⟩
    rw [← hD1] at G1 G2
    have HPut : Hid (∀ w', Below wr.heap.size wr w' → Calls Tryz.prog 5 #[.agg #[.slice da d.safe.length dc, .slice da' d.wait.length dc'], recV r (.slice ua r.lock.length uc)] w' fun e w'' => diskN w'.heap.size w'' D1 e ∧ Below w'.heap.size w' w'') := fun w' hb => by
      rw [hD1]
      exact put_any _ _ d.safe d.wait r _ w' (HE.out.below (HBr.out.trans (hb.mono HBr.out.size))) (HS.out.below hb) (HW.out.below hb) (HU.out.below (HBr.out.trans (hb.mono HBr.out.size)))
    obtain ⟨⟨D1s, D1w⟩, E1⟩ := D1
    simp only at G1 G2
    obtain ⟨r1, r2, r3, r4, r5, r6, r7⟩ := r
    unfold recV at HPut
    simp only at HPut x0 x1 x2 x3 x4 x5 x6
    have hbX : Below wr.heap.size wr (wr.alloc (.cells #[.int .i64 r1, .int .i64 r2, .int .i64 r3, .int .i64 r4, .bool r5, .int .i64 r6, .slice ua r7.length uc] 29)) := (Below.refl _ _).alloc (Nat.le_refl _) _
    have HbX : Hid (Below wr.heap.size wr (wr.alloc (.cells #[.int .i64 r1, .int .i64 r2, .int .i64 r3, .int .i64 r4, .bool r5, .int .i64 r6, .slice ua r7.length uc] 29))) := hbX
    have HRX : Hid (RecAt (wr.alloc (.cells #[.int .i64 r1, .int .i64 r2, .int .i64 r3, .int .i64 r4, .bool r5, .int .i64 r6, .slice ua r7.length uc] 29)) wr.heap.size r1 r2 r3 r4 r5 r6 (.slice ua r7.length uc)) := recAt_alloc wr r1 r2 r3 r4 r5 r6 _
    clear hbX hS hW hp hD1 HQk hr
    subst hu4
    go_wp2_with fail
    clear x0 x1 x2 x3 x4 x5 x6 y0 y1
    refine (HPut.out _ HbX.out).mono ?_
    rintro e w2 ⟨⟨va, vb, rfl, hva, hvb⟩, hb2⟩
    simp only at hva hvb ⊢
    obtain ⟨ea, ec, rfl⟩ := bytes_slice hva.1
    obtain ⟨ea', ec', rfl⟩ := bytes_slice hvb.1
    have hszX : (wr.alloc (.cells #[.int .i64 r1, .int .i64 r2, .int .i64 r3, .int .i64 r4, .bool r5, .int .i64 r6, .slice ua r7.length uc] 29)).heap.size = wr.heap.size + 1 := by simp
    rw [hszX] at hva hvb
    have hbY2 : Below w2.heap.size w2 (w2.alloc (.cells #[.slice ea D1s.length ec, .slice ea' D1w.length ec'] 24)) := (Below.refl _ _).alloc (Nat.le_refl _) _
    have hbXY : Below (wr.alloc (.cells #[.int .i64 r1, .int .i64 r2, .int .i64 r3, .int .i64 r4, .bool r5, .int .i64 r6, .slice ua r7.length uc] 29)).heap.size (wr.alloc (.cells #[.int .i64 r1, .int .i64 r2, .int .i64 r3, .int .i64 r4, .bool r5, .int .i64 r6, .slice ua r7.length uc] 29)) (w2.alloc (.cells #[.slice ea D1s.length ec, .slice ea' D1w.length ec'] 24)) := hb2.trans (hbY2.mono hb2.size)
    have HbY : Hid (Below wr.heap.size wr (w2.alloc (.cells #[.slice ea D1s.length ec, .slice ea' D1w.length ec'] 24))) := HbX.out.trans (hbXY.mono HbX.out.size)
    have HVa : Hid (NewBytes (wr.heap.size + 1) (w2.alloc (.cells #[.slice ea D1s.length ec, .slice ea' D1w.length ec'] 24)) (.slice ea D1s.length ec) D1s) := hva.below hbY2
    have HVb : Hid (NewBytes (wr.heap.size + 1) (w2.alloc (.cells #[.slice ea D1s.length ec, .slice ea' D1w.length ec'] 24)) (.slice ea' D1w.length ec') D1w) := hvb.below hbY2
    have HRY : Hid (RecAt (w2.alloc (.cells #[.slice ea D1s.length ec, .slice ea' D1w.length ec'] 24)) wr.heap.size r1 r2 r3 r4 r5 r6 (.slice ua r7.length uc)) := HRX.out.below hbXY
    have HKY : Hid (Blk (w2.alloc (.cells #[.slice ea D1s.length ec, .slice ea' D1w.length ec'] 24)) w2.heap.size #[.slice ea D1s.length ec, .slice ea' D1w.length ec'] 24) := blk_alloc w2 _ _
    have HGY : Hid (W.grownBy (w2.alloc (.cells #[.slice ea D1s.length ec, .slice ea' D1w.length ec'] 24)) (some g)) := kgrown_below HG.out HbY.out
    have HDY : Hid (DskAt (w2.alloc (.cells #[.slice ea D1s.length ec, .slice ea' D1w.length ec'] 24)) g d.safe d.wait) := HDr.out.below HbY.out
    have HOY : Hid ((w2.alloc (.cells #[.slice ea D1s.length ec, .slice ea' D1w.length ec'] 24)).ownsRow W.heap.size 29 7 (.slice ra qs.length rc) qs.length (flatR qs)) := owns_below HO.out HbY.out
    have HRow : Hid (∀ q, (Value.slice ra qs.length rc).ownBlock = some q → W.heap.size ≤ q ∧ q < wr.heap.size) := fun q hq => HO.out.lt q hq
    have HSz2 : Hid (wr.heap.size + 1 ≤ w2.heap.size) := by
      have := hb2.size
      rw [hszX] at this
      exact this
    clear hva hvb hb2 hbY2 hbXY hszX HPut HRX HbX HS HW HO HDr HG
    by_cases he : E1 = 0
    rotate_left
    · have heb : (E1 == 0) = false := by rw [beq_eq_false_iff_ne]; exact he
      have HQ2 : Hid (R = Lk.putFrom d (qs.map Prod.fst) ((QS.map Prod.fst).drop (k + 1))) := G1.out he
      clear G1 G2 he
      go_wp2
      go_roundg (m - (k + 1))
      case measure => omega
      case rel => exact ⟨k + 1, qs, d, by omega, by omega, by go_num, by omega, HOY, HPq, HDY, HQ2, HGY⟩
    subst he
    have HQ2 : Hid (R = Lk.putFrom ⟨D1s, D1w⟩ (qs.map Prod.fst ++ [(⟨r1, r2, r3, r4, r5, r6, r7⟩ : Lk.Note)]) ((QS.map Prod.fst).drop (k + 1))) := G2.out rfl
    clear G1 G2
    have HG7 : Hid (wr.heap.size + 1 ≤ w2.heap.size) := HSz2
    go_upto_region 7 with fail
    generalize w2.alloc (.cells #[.slice ea D1s.length ec, .slice ea' D1w.length ec'] 24) = Y at HbY HVa HVb HRY HKY HGY HDY HOY ⊢
    generalize w2.heap.size = g7 at HKY HG7 ⊢
    obtain ⟨va0, vb0, hkg, -, -⟩ := HDY.out
    have HKG : Hid (Blk Y g #[va0, vb0] 24) := hkg
    have y0 := hkg.cell 0
    have y1 := hkg.cell 1
    have f0 := hkg.free 0
    have f1 := hkg.free 1
    have k0 := HKY.out.cell 0
    have k1 := HKY.out.cell 1
    simp only [List.getElem?_toArray, List.getElem?_cons_zero, List.getElem?_cons_succ] at y0 y1 k0 k1
    obtain ⟨c0, c1, c2, c3, c4, c5, c6, c7⟩ := HRY.out
    have hg7 : g7 < Y.heap.size := HKY.out.lt
    have hgY : g < Y.heap.size := hkg.lt
    have hbZ : Below Y.heap.size Y (Y.alloc (.cells #[.int .i64 r1, .int .i64 r2, .int .i64 r3, .int .i64 r4, .bool r5, .int .i64 r6, .slice ua r7.length uc] 29)).drew := ((Below.refl _ _).alloc (Nat.le_refl _) _).drew
    have HZ : Hid (Below Y.heap.size Y (Y.alloc (.cells #[.int .i64 r1, .int .i64 r2, .int .i64 r3, .int .i64 r4, .bool r5, .int .i64 r6, .slice ua r7.length uc] 29)).drew) := hbZ
    have HNews : Hid (∀ j u, (recCells ((⟨r1, r2, r3, r4, r5, r6, r7⟩ : Lk.Note), Value.slice ua r7.length uc))[j]? = some u → ((Y.alloc (.cells #[.int .i64 r1, .int .i64 r2, .int .i64 r3, .int .i64 r4, .bool r5, .int .i64 r6, .slice ua r7.length uc] 29)).drew).cell? ((⟨Y.heap.size, 0, none⟩ : Addr).add j) = some u) := by
      intro j u hj
      rcases j with _ | _ | _ | _ | _ | _ | _ | j
      iterate 7 (simp [recCells] at hj; subst hj; simp [go_sem, Addr.add])
      simp [recCells] at hj
    have HOne : Hid (∀ u ∈ recCells ((⟨r1, r2, r3, r4, r5, r6, r7⟩ : Lk.Note), Value.slice ua r7.length uc), u.oneCell' = true) := by
      intro u hu
      simp only [recCells, List.mem_cons, List.not_mem_nil, or_false] at hu
      rcases hu with rfl | rfl | rfl | rfl | rfl | rfl | rfl <;> rfl
    have HOD : Hid (((Y.alloc (.cells #[.int .i64 r1, .int .i64 r2, .int .i64 r3, .int .i64 r4, .bool r5, .int .i64 r6, .slice ua r7.length uc] 29)).drew).ownsRow W.heap.size 29 7 (.slice ra qs.length rc) qs.length (flatR qs)) := owns_below HOY.out hbZ
    have HWY : Hid (W.heap.size ≤ ((Y.alloc (.cells #[.int .i64 r1, .int .i64 r2, .int .i64 r3, .int .i64 r4, .bool r5, .int .i64 r6, .slice ua r7.length uc] 29)).drew).heap.size) := Nat.le_trans HGY.out.size hbZ.size
    have HW3 : Hid (∀ w3, ((Y.alloc (.cells #[.int .i64 r1, .int .i64 r2, .int .i64 r3, .int .i64 r4, .bool r5, .int .i64 r6, .slice ua r7.length uc] 29)).drew).grownBy w3 (Value.slice ra qs.length rc).ownBlock → w3.cell? ⟨g, 0, none⟩ = some va0 ∧ w3.cell? ⟨g, 1, none⟩ = some vb0 ∧ w3.frozen? ⟨g, 0, none⟩ = false ∧ w3.frozen? ⟨g, 1, none⟩ = false ∧ w3.cell? ⟨g7, 0, none⟩ = some (.slice ea D1s.length ec) ∧ w3.cell? ⟨g7, 1, none⟩ = some (.slice ea' D1w.length ec')) := fun w3 hgrow => by
      have h1 := Blk.grown (HKG.out.below HZ.out) hgrow (fun e => by have := (HRow.out _ e.symm).1; omega)
      have h2 := Blk.grown (HKY.out.below HZ.out) hgrow (fun e => by have := (HRow.out _ e.symm).2; have := HG7.out; omega)
      exact ⟨h1.cell 0, h1.cell 1, h1.free 0, h1.free 1, h2.cell 0, h2.cell 1⟩
    have HFin : Hid (∀ w3 gr cap, ((Y.alloc (.cells #[.int .i64 r1, .int .i64 r2, .int .i64 r3, .int .i64 r4, .bool r5, .int .i64 r6, .slice ua r7.length uc] 29)).drew).grownBy w3 (Value.slice ra qs.length rc).ownBlock → w3.ownsRow W.heap.size 29 7 (.slice (some ⟨gr, 0, none⟩) (qs.length + 1) cap) (qs.length + 1) (flatR qs ++ recCells ((⟨r1, r2, r3, r4, r5, r6, r7⟩ : Lk.Note), Value.slice ua r7.length uc)) →
        ((w3.setCell ⟨g, 0, none⟩ (.slice ea D1s.length ec)).setCell ⟨g, 1, none⟩ (.slice ea' D1w.length ec')).ownsRow W.heap.size 29 7 (.slice (some ⟨gr, 0, none⟩) (qs.length + 1) cap) (qs ++ [((⟨r1, r2, r3, r4, r5, r6, r7⟩ : Lk.Note), Value.slice ua r7.length uc)]).length (flatR (qs ++ [((⟨r1, r2, r3, r4, r5, r6, r7⟩ : Lk.Note), Value.slice ua r7.length uc)])) ∧ DskAt ((w3.setCell ⟨g, 0, none⟩ (.slice ea D1s.length ec)).setCell ⟨g, 1, none⟩ (.slice ea' D1w.length ec')) g D1s D1w ∧ W.grownBy ((w3.setCell ⟨g, 0, none⟩ (.slice ea D1s.length ec)).setCell ⟨g, 1, none⟩ (.slice ea' D1w.length ec')) (some g)) := fun w3 gr cap hgrow hown => by
      have hrow : ∀ q, (Value.slice ra qs.length rc).ownBlock = some q → q < wr.heap.size + 1 := fun q hq => by have := (HRow.out q hq).2; omega
      have hgl : g < wr.heap.size + 1 := by omega
      refine ⟨?_, ⟨_, _, Blk.put2 (Blk.grown (HKG.out.below HZ.out) hgrow (fun e => by have := (HRow.out _ e.symm).1; omega)), ?_, ?_⟩, ?_⟩
      · rw [flatR_append, List.length_append, show flatR [((⟨r1, r2, r3, r4, r5, r6, r7⟩ : Lk.Note), Value.slice ua r7.length uc)] = recCells ((⟨r1, r2, r3, r4, r5, r6, r7⟩ : Lk.Note), Value.slice ua r7.length uc) from by simp [flatR]]
        exact ownsRow_setCell_below (ownsRow_setCell_below hown hgW _) hgW _
      · exact (((kbytes_grown (HVa.out.below HZ.out) hgrow hrow).set _ hgl).set _ hgl).1
      · exact (((kbytes_grown (HVb.out.below HZ.out) hgrow hrow).set _ hgl).set _ hgl).1
      · exact kgrown_set (kgrown_set (kgrown_grown (kgrown_below HGY.out HZ.out) hgrow (fun q hq => (HRow.out q hq).1)))
    have HP4 : Hid (∀ x ∈ qs ++ [((⟨r1, r2, r3, r4, r5, r6, r7⟩ : Lk.Note), Value.slice ua r7.length uc)], PinsAt w0 x.2 x.1.lock) := fun x hx => by
      rcases List.mem_append.1 hx with hx | hx
      · exact HPq.out x hx
      · simp only [List.mem_singleton] at hx
        subst hx
        exact HU.out
    have HQ4 : Hid (R = Lk.putFrom ⟨D1s, D1w⟩ ((qs ++ [((⟨r1, r2, r3, r4, r5, r6, r7⟩ : Lk.Note), Value.slice ua r7.length uc)]).map Prod.fst) ((QS.map Prod.fst).drop (k + 1))) := by
      show R = _
      rw [HQ2.out, List.map_append]
      rfl
    clear hkg hbZ HDY HOY HKY HVa HVb HKG HQ2 HPq HU HRY HbY
    go_region_law (refine step_append_lies (P := Tryz.prog) _ rfl (.tmp 28) (.tmp 30) 35 rfl W.heap.size 29 i0 (.agg #[.int .i64 0, .int .i64 0, .int .i64 0, .int .i64 0, .bool false, .int .i64 0, .slice none 0 0]) 7 72 Tryz.underlying35 hi hz0 hz1 hz2 rfl (by decide) (.slice ra qs.length rc) qs.length (flatR qs) (by simp [Act.eval]) HOD.out ⟨Y.heap.size, 0, none⟩ 1 1 (recCells ((⟨r1, r2, r3, r4, r5, r6, r7⟩ : Lk.Note), Value.slice ua r7.length uc)) (by simp [Act.eval]) rfl HNews.out HOne.out (by decide) (by unfold maxLen; omega) (by omega) HWY.out (Y.heap.size + 1) (by simp) ?_; intro gr cap w3 hown hgrow _ _; obtain ⟨y0, y1, f0, f1, k0, k1⟩ := HW3.out w3 hgrow)
    all_goals
      obtain ⟨HO4, HD4, HG4⟩ := HFin.out w3 gr cap hgrow hown
      have HO5 : Hid _ := HO4
      have HD5 : Hid _ := HD4
      have HG5 : Hid _ := HG4
      clear HO4 HD4 HG4 hown hgrow
      go_wp2
      go_roundg (m - (k + 1))
      case measure => omega
      case rel => exact ⟨k + 1, qs ++ [((⟨r1, r2, r3, r4, r5, r6, r7⟩ : Lk.Note), Value.slice ua r7.length uc)], ⟨D1s, D1w⟩, by omega, by omega, by go_num, by simp; omega, HO5, HP4, HD5, HQ4, HG5⟩
end Go.Proofs.YtlnbcgjahjjpfacGreatDoor
