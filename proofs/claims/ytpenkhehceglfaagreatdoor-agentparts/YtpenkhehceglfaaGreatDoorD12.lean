/- The contract of disk.Recover. -/
import Derived.Test.YtpenkhehceglfaaGreatDoorME
namespace Go.Proofs.YtpenkhehceglfaaGreatDoor
open Go.RowKit
/-- what Recover answers -/
def recovN (N : Nat) (w : World) (q : Lk.Disk × List Lk.Note × Int) (e : Ending) : Prop := ∃ va vb v ps, e = .returned (.tuple #[.agg #[va, vb], v, .int .i64 q.2.2]) ∧ NewBytes N w va q.1.safe ∧ NewBytes N w vb q.1.wait ∧ w.ownsRow N 34 7 v ps.length (flatR ps) ∧ Locks w v.ownBlock ps ∧ ps.map Prod.fst = q.2.1
theorem recovN_none (N : Nat) (w : World) {q : Lk.Disk × List Lk.Note × Int} {x : Int} (h : q = (Lk.Disk.none, [], x)) : recovN N w q (.returned (.tuple #[.agg #[.slice none 0 0, .slice none 0 0], .slice none 0 0, .int .i64 x])) := by
  subst h
  exact ⟨_, _, _, [], rfl, newBytes_none _ _, newBytes_none _ _, World.ownsRow_nil _ _ _ _, (fun p hp => by cases hp), rfl⟩
theorem recov_bad {d : Lk.Disk} (h : ¬ (Lk.safeP d).2 = 0) : Lk.recovP d = (Lk.Disk.none, [], (Lk.safeP d).2) := by
  rw [safe_err] at h ⊢
  unfold Lk.recovP; rw [if_neg h]
theorem recov_ok {d : Lk.Disk} (h : (Lk.safeP d).2 = 0) {qs : List Lk.Note} {n : Nat} {e : Int} (hr : Lk.linesFrom (200 - (Lk.safeP d).1.length) [] 0 d.wait = (qs, n, e)) : Lk.recovP d = (⟨d.safe ++ d.wait.take n, []⟩, (Lk.safeP d).1 ++ qs, 0) := by
  have h' := h
  rw [safe_err] at h
  have hs : (Lk.safeP d).1 = (Lk.linesOf d.safe 200).1 := by unfold Lk.safeP; rw [if_pos h]
  rw [hs] at hr ⊢
  have hr' : Lk.linesOf d.wait (200 - (Lk.linesOf d.safe 200).1.length) = (qs, n, e) := hr
  unfold Lk.recovP Lk.recov
  rw [if_pos h, hr']
theorem safe_sum {d : Lk.Disk} (h : (Lk.safeP d).2 = 0) : d.safe.length + d.wait.length ≤ 60000 := chk_size (by rw [← safe_err]; exact h)
theorem safe_le (d : Lk.Disk) : (Lk.safeP d).1.length ≤ 200 := by
  unfold Lk.safeP
  split
  · exact (Lk.lines_len _ _).2
  · simp
/-- a lock's pins don't lie where two slices lie -/
theorem pins_off {w : World} {v : Value} {l : List (Int × Int)} {b : Nat} {a a' : Option Addr} {n n' c c' : Nat} {t : TypeId} (hN : Blk w b #[.slice a n c, .slice a' n' c'] t) (h : PinsAt w v l) : ∀ o' c', v = .slice (some ⟨b, o', none⟩) l.length c' → l = [] := by
  intro o' c' hv
  obtain ⟨hl, c, ⟨h, _⟩ | ⟨b', o2, h1, h2⟩⟩ := h
  · exact h
  · rw [hv] at h1
    simp only [Value.slice.injEq, Option.some.injEq, Addr.mk.injEq, and_true, true_and] at h1
    obtain ⟨⟨rfl, rfl⟩, _⟩ := h1
    cases l with
    | nil => rfl
    | cons p r =>
      exfalso
      have h0 := (h2.2 0 (by simp)).1
      rw [hN.cell] at h0
      simp only [List.getD_cons_zero, Nat.zero_mul, Nat.add_zero] at h0
      rcases o' with _ | _ | o'
      all_goals simp at h0
theorem Blk.grown {w w' : World} {b : Nat} {cs : Array Value} {t : TypeId} {row : Option Nat} (h : Blk w b cs t) (hg : w.grownBy w' row) (hne : some b ≠ row) : Blk w' b cs t := (hg.block b h.lt hne).trans h
theorem Locks.set {w : World} {row : Option Nat} {ps : List (Lk.Note × Value)} {b o : Nat} {u : Value} (h : Locks w row ps) (hne : ∀ p ∈ ps, ∀ o' c', p.2 = .slice (some ⟨b, o', none⟩) p.1.lock.length c' → p.1.lock = []) : Locks (w.setCell ⟨b, o, none⟩ u) row ps := fun p hp => ⟨pins_set (h p hp).1 (hne p hp), (h p hp).2⟩
set_option maxHeartbeats 8000000 in
set_option maxRecDepth 100000 in
theorem recover_any (vs vw : Value) (ls lw : List UInt8) (w : World) (hE : Env w) (hS : BytesAt w vs ls) (hW : BytesAt w vw lw) :
    Calls Tryz.prog 28 #[.agg #[vs, vw]] w fun e w' => recovN w.heap.size w' (Lk.recovP ⟨ls, lw⟩) e ∧ Below w.heap.size w w' := by
  obtain ⟨a, c, rfl⟩ := bytes_slice hS
  obtain ⟨a', c', rfl⟩ := bytes_slice hW
  have hroom := (bytes_room hW).2
  have HE : Hid (Env w) := hE
  have HS : Hid (BytesAt w (.slice a ls.length c) ls) := hS
  have HW : Hid (BytesAt w (.slice a' lw.length c') lw) := hW
  have HB0 : Hid (Below w.heap.size w ((w.alloc (.cells #[.slice a ls.length c, .slice a' lw.length c'] 73)).alloc (.cells #[.slice none 0 0, .slice none 0 0] 73))) := ((Below.refl _ w).alloc (Nat.le_refl _) _).alloc (by simp) _
  have HK0 : Hid (Blk ((w.alloc (.cells #[.slice a ls.length c, .slice a' lw.length c'] 73)).alloc (.cells #[.slice none 0 0, .slice none 0 0] 73)) w.heap.size #[.slice a ls.length c, .slice a' lw.length c'] 73) := (blk_alloc w _ _).below ((Below.refl _ _).alloc (Nat.le_refl _) _)
  have HN0 : Hid (Blk ((w.alloc (.cells #[.slice a ls.length c, .slice a' lw.length c'] 73)).alloc (.cells #[.slice none 0 0, .slice none 0 0] 73)) (w.heap.size + 1) #[.slice none 0 0, .slice none 0 0] 73) := by
    have := blk_alloc (w.alloc (.cells #[.slice a ls.length c, .slice a' lw.length c'] 73)) #[.slice none 0 0, .slice none 0 0] 73
    rwa [World.size_alloc] at this
  have HC1 : Hid (∀ w', Below w.heap.size w w' → Calls Tryz.prog 60 #[.agg #[.slice a ls.length c, .slice a' lw.length c']] w' fun e w'' => safeR w'.heap.size w'' (Lk.safeP ⟨ls, lw⟩) e ∧ Below w'.heap.size w' w'') := fun w' hb => safe_any _ _ ls lw w' (hE.below hb) (hS.below hb) (hW.below hb)
  have F1 : Hid (¬ (Lk.safeP ⟨ls, lw⟩).2 = 0 → Lk.recovP ⟨ls, lw⟩ = (Lk.Disk.none, [], (Lk.safeP ⟨ls, lw⟩).2)) := fun h => recov_bad h
  have F2 : Hid ((Lk.safeP ⟨ls, lw⟩).2 = 0 → ∀ qs n e, Lk.linesFrom (200 - (Lk.safeP ⟨ls, lw⟩).1.length) [] 0 lw = (qs, n, e) → Lk.recovP ⟨ls, lw⟩ = (⟨ls ++ lw.take n, []⟩, (Lk.safeP ⟨ls, lw⟩).1 ++ qs, 0)) := fun h qs n e hr => recov_ok h hr
  have F3 : Hid ((Lk.safeP ⟨ls, lw⟩).2 = 0 → ls.length + lw.length ≤ 60000) := fun h => safe_sum h
  have F4 : (Lk.safeP ⟨ls, lw⟩).1.length ≤ 200 := safe_le _
  clear hE hS hW
  generalize Lk.recovP ⟨ls, lw⟩ = Q at F1 F2 ⊢
  generalize Lk.safeP ⟨ls, lw⟩ = P at F1 F2 F3 F4 HC1
  obtain ⟨A, CE⟩ := P
  simp only at F1 F2 F3 F4
  obtain ⟨i0, hi, hz0, hz1, hz2⟩ := info_parts Tryz.info34
  go_enter Tryz.func28, Tryz.ntmps28
  go_wp2_with fail
  refine (HC1.out _ HB0.out).mono ?_
  rintro e w1 ⟨⟨v0, ps0, rfl, hO, hLk, hA⟩, hb1⟩
  simp only at hA
  have HB1 : Hid (Below w.heap.size w w1) := HB0.out.trans (hb1.mono HB0.out.size)
  have hk := HK0.out.below hb1
  have hn := HN0.out.below hb1
  have hsz0 : ((w.alloc (.cells #[.slice a ls.length c, .slice a' lw.length c'] 73)).alloc (.cells #[.slice none 0 0, .slice none 0 0] 73)).heap.size = w.heap.size + 2 := by simp
  rw [hsz0] at hO
  clear hb1 HB0 HK0 HN0 HC1 hsz0
  have k0 := hk.cell 0
  have k1 := hk.cell 1
  have d1 := hn.cell 0
  have d2 := hn.cell 1
  have f1 := hn.free 0
  have f2 := hn.free 1
  simp only [List.getElem?_toArray, List.getElem?_cons_zero, List.getElem?_cons_succ] at k0 k1 d1 d2
  have HK1 : Hid (Blk w1 w.heap.size #[.slice a ls.length c, .slice a' lw.length c'] 73) := hk
  have HN1 : Hid (Blk w1 (w.heap.size + 1) #[.slice none 0 0, .slice none 0 0] 73) := hn
  have HO1 : Hid (w1.ownsRow (w.heap.size + 2) 34 7 v0 ps0.length (flatR ps0)) := hO
  have HL1 : Hid (Locks w1 v0.ownBlock ps0) := hLk
  have HA : Hid (ps0.map Prod.fst = A) := hA
  obtain ⟨ra0, rc0, hv0⟩ := slice_of_owns hO
  clear hO hLk hA hk hn
  by_cases h1 : CE = 0
  rotate_left
  · have h1b : (CE != 0) = true := by rw [bne_iff_ne]; exact h1
    have HQ : Hid (Q = (Lk.Disk.none, [], CE)) := F1.out h1
    have HBs : Hid (∀ u0 u1 : Value, Below w.heap.size w ((w1.setCell ⟨w.heap.size + 1, 0, none⟩ u0).setCell ⟨w.heap.size + 1, 1, none⟩ u1)) := fun u0 u1 => (HB1.out.setCell (Nat.le_succ _) _).setCell (Nat.le_succ _) _
    clear F1 F2 F3 h1
    subst hv0
    go_wp2
    refine bodyPost_ret (v := .tuple #[.agg #[.slice none 0 0, .slice none 0 0], .slice none 0 0, .int .i64 CE]) (by simp [results, Tryz.results28, go_sem, d1, d2]) rfl ⟨recovN_none _ _ HQ.out, HBs.out _ _⟩
  subst h1
  have hsum := F3.out rfl
  have G2 : Hid (∀ qs n e, Lk.linesFrom (200 - A.length) [] 0 lw = (qs, n, e) → Q = (⟨ls ++ lw.take n, []⟩, A ++ qs, 0)) := F2.out rfl
  clear F1 F2 F3
  obtain ⟨R0, hR0⟩ : ∃ R, R = Lk.linesFrom (200 - A.length) [] 0 lw := ⟨_, rfl⟩
  have HR0 : Hid (R0 = Lk.linesFrom (200 - A.length) [] 0 lw) := hR0
  rw [← hR0] at G2
  clear hR0
  have hlt1 : w.heap.size + 1 < w1.heap.size := HN1.out.lt
  subst hv0
  go_wp2_with fail
  clear k0 k1 d1 d2 f1 f2
  go_loopg [5, 7] lw.length (fun g s5 s7 wr => ∃ (ps : List (Lk.Note × Value)) (qs : List Lk.Note) (s : List UInt8) (n : Nat) (sa : Option Addr) (sc : Nat), s.length ≤ g ∧ n + s.length = lw.length ∧ s7 = .slice sa s.length sc ∧ Hid (wr.ownsRow (w.heap.size + 2) 34 7 s5 ps.length (flatR ps)) ∧ Hid (Locks wr s5.ownBlock ps) ∧ Hid (BytesAt w (.slice sa s.length sc) s) ∧ Hid (R0 = Lk.linesFrom (200 - A.length) qs n s) ∧ Hid (ps.map Prod.fst = A ++ qs) ∧ ps.length ≤ 200 ∧ Hid (Below w.heap.size w wr) ∧ Hid (Blk wr w.heap.size #[.slice a ls.length c, .slice a' lw.length c'] 73) ∧ Hid (Blk wr (w.heap.size + 1) #[.slice none 0 0, .slice none 0 0] 73))
  case atStart => exact ⟨ps0, [], lw, 0, a', c', Nat.le_refl _, by omega, rfl, HO1, HL1, HW, HR0, (by show ps0.map Prod.fst = A ++ []; rw [HA.out, List.append_nil]), (by have := congrArg List.length HA.out; rw [List.length_map] at this; omega), HB1, HK1, HN1⟩
  case round =>
    obtain ⟨ps, qs, s, n, sa, sc, hg, hns, rfl, HO, HLk, HSr, HQk, HPs, hpl, HBr, HKr, HNr⟩ := hrel
    obtain ⟨ra, rc, hu5⟩ := slice_of_owns HO.out
    have HPQ : Hid (ps.length = A.length + qs.length) := by
      have := congrArg List.length HPs.out; rw [List.length_map, List.length_append] at this; exact this
    have hnn : (lw.length : Int) - (s.length : Int) = (n : Int) := by omega
    have hnc : (n : Int) ≤ (c' : Int) := by omega
    have hs6 : s.length ≤ 60000 := by omega
    have HEr : Hid (Env wr) := HE.out.below HBr.out
    by_cases h2 : 200 ≤ ps.length
    · have HQ : Hid (Q = (⟨ls ++ lw.take n, []⟩, A ++ qs, 0)) := by
        obtain ⟨er, he⟩ := Lk.from_full (most := 200 - A.length) (n := n) (acc := qs) s (by have := HPQ.out; omega)
        exact G2.out _ _ er (by rw [HQk.out]; exact he)
      have h2' : (200 : Int) ≤ (ps.length : Int) := by omega
      have HOx := HO
      have HLx := HLk
      have HBx := HBr
      have HKx := HKr
      have HNx := HNr
      clear HO HLk HBr HKr HNr HQk G2 h2 HSr HEr
      subst hu5
      have HBw : Hid (w.heap.size + 2 ≤ wr.heap.size) := HNx.out.lt
      have hk := HKx.out
      have k0 := hk.cell 0
      have k1 := hk.cell 1
      simp only [List.getElem?_toArray, List.getElem?_cons_zero, List.getElem?_cons_succ] at k0 k1
      clear hk
      have HJ : Hid (∀ w', Below w.heap.size w w' → Calls Tryz.prog 59 #[.slice a ls.length c, .slice a' n c'] w' fun e w'' => (∃ x, e = .returned x ∧ NewBytes w'.heap.size w'' x (ls ++ lw.take n)) ∧ Below w'.heap.size w' w'') := fun w' hb => joined_any _ _ ls (lw.take n) w' (HS.out.below hb) (bytes_take (HW.out.below hb) n (by omega)) (by rw [List.length_take]; omega)
      generalize ls ++ lw.take n = L at HQ HJ
      go_wp2_with fail
      refine (HJ.out _ HBx.out).mono ?_
      rintro e wJ ⟨⟨x, rfl, hx⟩, hbJ⟩
      obtain ⟨xa, xc, rfl⟩ := bytes_slice hx.1
      have HXJ : Hid (NewBytes (w.heap.size + 2) wJ (.slice xa L.length xc) L) := hx.less HBw.out
      have HBJ : Hid (Below w.heap.size w wJ) := HBx.out.trans (hbJ.mono HBx.out.size)
      have hn := HNx.out.below hbJ
      have HOJ : Hid (wJ.ownsRow (w.heap.size + 2) 34 7 (.slice ra ps.length rc) ps.length (flatR ps)) := owns_below HOx.out hbJ
      have HLJ : Hid (Locks wJ (Value.slice ra ps.length rc).ownBlock ps) := HLx.out.below hbJ
      have HNE : Hid (∀ p ∈ ps, ∀ o' c', p.2 = .slice (some ⟨w.heap.size + 1, o', none⟩) p.1.lock.length c' → p.1.lock = []) := fun p hp => pins_off hn (HLJ.out p hp).1
      have HBs : Hid (∀ u0 u1 : Value, Below w.heap.size w ((wJ.setCell ⟨w.heap.size + 1, 0, none⟩ u0).setCell ⟨w.heap.size + 1, 1, none⟩ u1)) := fun u0 u1 => (HBJ.out.setCell (Nat.le_succ _) _).setCell (Nat.le_succ _) _
      have d1 := hn.cell 0
      have d2 := hn.cell 1
      have f1 := hn.free 0
      have f2 := hn.free 1
      simp only [List.getElem?_toArray, List.getElem?_cons_zero, List.getElem?_cons_succ] at d1 d2
      clear hx hbJ hn HJ HBx HKx HNx HOx HLx k0 k1
      go_wp2
      refine bodyPost_ret (v := .tuple #[.agg #[.slice xa L.length xc, .slice none 0 0], .slice ra ps.length rc, .int .i64 0]) (by simp [results, Tryz.results28, go_sem, d1, d2]) rfl ⟨?_, HBs.out _ _⟩
      rw [HQ.out]
      exact ⟨_, _, _, ps, rfl, ((HXJ.out.set _ (by omega)).set _ (by omega)).less (by omega), newBytes_none _ _, owns_less (ownsRow_setCell_below (ownsRow_setCell_below HOJ.out (by show w.heap.size + 1 < w.heap.size + 2; omega) _) (by show w.heap.size + 1 < w.heap.size + 2; omega) _) (by omega), Locks.set (Locks.set HLJ.out HNE.out) HNE.out, HPs.out⟩
    have h2' : (ps.length : Int) < 200 := by omega
    rcases Lk.lf_cases s with hnl | ⟨t, r, es, hnl⟩
    · have HQ : Hid (Q = (⟨ls ++ lw.take n, []⟩, A ++ qs, 0)) := by
        obtain ⟨er, he⟩ := Lk.from_none (most := 200 - A.length) (n := n) (acc := qs) hnl
        exact G2.out _ _ er (by rw [HQk.out]; exact he)
      have HFr : Hid (Calls Tryz.prog 61 #[.slice sa s.length sc] wr fun e w' => e = .returned (.tuple #[recV Lk.Note.none (.slice none 0 0), .slice none 0 0, .int .i64 9]) ∧ Below wr.heap.size wr w') := first_torn _ s wr HEr.out (HSr.out.below HBr.out) hs6 hnl
      clear HQk G2 h2 HSr HEr
      subst hu5
      go_wp2_with fail
      refine HFr.out.mono ?_
      rintro e w2 ⟨rfl, hb2⟩
      unfold recV Lk.Note.none
      have hbB : Below wr.heap.size wr (w2.alloc (.cells #[.int .i64 0, .int .i64 0, .int .i64 0, .int .i64 0, .bool false, .int .i64 0, .slice none 0 0] 34)) := hb2.alloc hb2.size _
      have HOx : Hid ((w2.alloc (.cells #[.int .i64 0, .int .i64 0, .int .i64 0, .int .i64 0, .bool false, .int .i64 0, .slice none 0 0] 34)).ownsRow (w.heap.size + 2) 34 7 (.slice ra ps.length rc) ps.length (flatR ps)) := owns_below HO.out hbB
      have HLx : Hid (Locks (w2.alloc (.cells #[.int .i64 0, .int .i64 0, .int .i64 0, .int .i64 0, .bool false, .int .i64 0, .slice none 0 0] 34)) (Value.slice ra ps.length rc).ownBlock ps) := HLk.out.below hbB
      have HBx : Hid (Below w.heap.size w (w2.alloc (.cells #[.int .i64 0, .int .i64 0, .int .i64 0, .int .i64 0, .bool false, .int .i64 0, .slice none 0 0] 34))) := HBr.out.trans (hbB.mono HBr.out.size)
      have HKx : Hid (Blk (w2.alloc (.cells #[.int .i64 0, .int .i64 0, .int .i64 0, .int .i64 0, .bool false, .int .i64 0, .slice none 0 0] 34)) w.heap.size #[.slice a ls.length c, .slice a' lw.length c'] 73) := HKr.out.below hbB
      have HNx : Hid (Blk (w2.alloc (.cells #[.int .i64 0, .int .i64 0, .int .i64 0, .int .i64 0, .bool false, .int .i64 0, .slice none 0 0] 34)) (w.heap.size + 1) #[.slice none 0 0, .slice none 0 0] 73) := HNr.out.below hbB
      clear HO HLk HBr HKr HNr hb2 hbB HFr
      have HBw : Hid (w.heap.size + 2 ≤ (w2.alloc (.cells #[.int .i64 0, .int .i64 0, .int .i64 0, .int .i64 0, .bool false, .int .i64 0, .slice none 0 0] 34)).heap.size) := HNx.out.lt
      have hk := HKx.out
      have k0 := hk.cell 0
      have k1 := hk.cell 1
      simp only [List.getElem?_toArray, List.getElem?_cons_zero, List.getElem?_cons_succ] at k0 k1
      clear hk
      have HJ : Hid (∀ w', Below w.heap.size w w' → Calls Tryz.prog 59 #[.slice a ls.length c, .slice a' n c'] w' fun e w'' => (∃ x, e = .returned x ∧ NewBytes w'.heap.size w'' x (ls ++ lw.take n)) ∧ Below w'.heap.size w' w'') := fun w' hb => joined_any _ _ ls (lw.take n) w' (HS.out.below hb) (bytes_take (HW.out.below hb) n (by omega)) (by rw [List.length_take]; omega)
      generalize ls ++ lw.take n = L at HQ HJ
      go_wp2_with fail
      refine (HJ.out _ HBx.out).mono ?_
      rintro e wJ ⟨⟨x, rfl, hx⟩, hbJ⟩
      obtain ⟨xa, xc, rfl⟩ := bytes_slice hx.1
      have HXJ : Hid (NewBytes (w.heap.size + 2) wJ (.slice xa L.length xc) L) := hx.less HBw.out
      have HBJ : Hid (Below w.heap.size w wJ) := HBx.out.trans (hbJ.mono HBx.out.size)
      have hn := HNx.out.below hbJ
      have HOJ : Hid (wJ.ownsRow (w.heap.size + 2) 34 7 (.slice ra ps.length rc) ps.length (flatR ps)) := owns_below HOx.out hbJ
      have HLJ : Hid (Locks wJ (Value.slice ra ps.length rc).ownBlock ps) := HLx.out.below hbJ
      have HNE : Hid (∀ p ∈ ps, ∀ o' c', p.2 = .slice (some ⟨w.heap.size + 1, o', none⟩) p.1.lock.length c' → p.1.lock = []) := fun p hp => pins_off hn (HLJ.out p hp).1
      have HBs : Hid (∀ u0 u1 : Value, Below w.heap.size w ((wJ.setCell ⟨w.heap.size + 1, 0, none⟩ u0).setCell ⟨w.heap.size + 1, 1, none⟩ u1)) := fun u0 u1 => (HBJ.out.setCell (Nat.le_succ _) _).setCell (Nat.le_succ _) _
      have d1 := hn.cell 0
      have d2 := hn.cell 1
      have f1 := hn.free 0
      have f2 := hn.free 1
      simp only [List.getElem?_toArray, List.getElem?_cons_zero, List.getElem?_cons_succ] at d1 d2
      clear hx hbJ hn HJ HBx HKx HNx HOx HLx k0 k1
      go_wp2
      refine bodyPost_ret (v := .tuple #[.agg #[.slice xa L.length xc, .slice none 0 0], .slice ra ps.length rc, .int .i64 0]) (by simp [results, Tryz.results28, go_sem, d1, d2]) rfl ⟨?_, HBs.out _ _⟩
      rw [HQ.out]
      exact ⟨_, _, _, ps, rfl, ((HXJ.out.set _ (by omega)).set _ (by omega)).less (by omega), newBytes_none _ _, owns_less (ownsRow_setCell_below (ownsRow_setCell_below HOJ.out (by show w.heap.size + 1 < w.heap.size + 2; omega) _) (by show w.heap.size + 1 < w.heap.size + 2; omega) _) (by omega), Locks.set (Locks.set HLJ.out HNE.out) HNE.out, HPs.out⟩
    · subst es
      have HFr : Hid (Calls Tryz.prog 61 #[.slice sa (t ++ 10 :: r).length sc] wr fun e w' => firstR wr.heap.size w' (Lk.readNote t) (.slice sa (t ++ 10 :: r).length sc) (t ++ 10 :: r) r e ∧ Below wr.heap.size wr w') := first_line _ t r wr HEr.out (HSr.out.below HBr.out) hs6 hnl
      have G1 : Hid (¬ (Lk.readNote t).2 = 0 → Q = (⟨ls ++ lw.take n, []⟩, A ++ qs, 0)) := fun h => G2.out _ _ _ (by rw [HQk.out]; exact Lk.from_bad hnl h)
      have G3 : Hid ((Lk.readNote t).2 = 0 → R0 = Lk.linesFrom (200 - A.length) (qs ++ [(Lk.readNote t).1]) (n + t.length + 1) r) := fun h => by rw [HQk.out]; exact Lk.from_step hnl h (by have := HPQ.out; omega)
      have hrl : r.length + 1 ≤ (t ++ 10 :: r).length := by simp
      have hrt : (t ++ 10 :: r).length = t.length + 1 + r.length := by simp; omega
      have hnr : n + t.length + 1 + r.length = lw.length := by omega
      clear HQk hnl hrt
      generalize Lk.readNote t = X at HFr G1 G3
      generalize (t ++ 10 :: r).length = sl at HFr HSr hg hs6 hrl hns hnn ⊢
      obtain ⟨⟨x1, x2, x3, x4, x5, x6, x7⟩, XE⟩ := X
      simp only at G1 G3
      subst hu5
      go_wp2_with fail
      refine HFr.out.mono ?_
      rintro e w2 ⟨⟨z, u, rfl, ⟨hz, hfr⟩, hux⟩, hb2⟩
      have hu := hux w HSr.out
      obtain ⟨ua, uc, rfl⟩ := bytes_slice hu
      have HU : Hid (BytesAt w (.slice ua r.length uc) r) := hu
      simp only at hz hfr
      obtain ⟨za, zc, rfl⟩ := pins_slice hz
      clear hux hu HFr
      unfold recV
      simp only
      have hbA : Below w2.heap.size w2 (w2.alloc (.cells #[.int .i64 x1, .int .i64 x2, .int .i64 x3, .int .i64 x4, .bool x5, .int .i64 x6, .slice za x7.length zc] 34)) := (Below.refl _ _).alloc (Nat.le_refl _) _
      have hbB : Below wr.heap.size wr (w2.alloc (.cells #[.int .i64 x1, .int .i64 x2, .int .i64 x3, .int .i64 x4, .bool x5, .int .i64 x6, .slice za x7.length zc] 34)) := hb2.trans (hbA.mono hb2.size)
      have HOx : Hid ((w2.alloc (.cells #[.int .i64 x1, .int .i64 x2, .int .i64 x3, .int .i64 x4, .bool x5, .int .i64 x6, .slice za x7.length zc] 34)).ownsRow (w.heap.size + 2) 34 7 (.slice ra ps.length rc) ps.length (flatR ps)) := owns_below HO.out hbB
      have HLx : Hid (Locks (w2.alloc (.cells #[.int .i64 x1, .int .i64 x2, .int .i64 x3, .int .i64 x4, .bool x5, .int .i64 x6, .slice za x7.length zc] 34)) (Value.slice ra ps.length rc).ownBlock ps) := HLk.out.below hbB
      have HBx : Hid (Below w.heap.size w (w2.alloc (.cells #[.int .i64 x1, .int .i64 x2, .int .i64 x3, .int .i64 x4, .bool x5, .int .i64 x6, .slice za x7.length zc] 34))) := HBr.out.trans (hbB.mono HBr.out.size)
      have HKx : Hid (Blk (w2.alloc (.cells #[.int .i64 x1, .int .i64 x2, .int .i64 x3, .int .i64 x4, .bool x5, .int .i64 x6, .slice za x7.length zc] 34)) w.heap.size #[.slice a ls.length c, .slice a' lw.length c'] 73) := HKr.out.below hbB
      have HNx : Hid (Blk (w2.alloc (.cells #[.int .i64 x1, .int .i64 x2, .int .i64 x3, .int .i64 x4, .bool x5, .int .i64 x6, .slice za x7.length zc] 34)) (w.heap.size + 1) #[.slice none 0 0, .slice none 0 0] 73) := HNr.out.below hbB
      have HZ2 : Hid (PinsAt (w2.alloc (.cells #[.int .i64 x1, .int .i64 x2, .int .i64 x3, .int .i64 x4, .bool x5, .int .i64 x6, .slice za x7.length zc] 34)) (.slice za x7.length zc) x7) := hz.below hbA
      have HAp : Hid (x7 ≠ [] → (Value.slice za x7.length zc).ownBlock ≠ (Value.slice ra ps.length rc).ownBlock) := fresh_apart HO.out hz hfr
      have HRX : Hid (RecAt (w2.alloc (.cells #[.int .i64 x1, .int .i64 x2, .int .i64 x3, .int .i64 x4, .bool x5, .int .i64 x6, .slice za x7.length zc] 34)) w2.heap.size x1 x2 x3 x4 x5 x6 (.slice za x7.length zc)) := recAt_alloc w2 x1 x2 x3 x4 x5 x6 _
      clear hbA hbB hz hfr hb2 HO HLk HBr HKr HNr HEr
      by_cases he : XE = 0
      rotate_left
      · have heb : (XE != 0) = true := by rw [bne_iff_ne]; exact he
        have HQ : Hid (Q = (⟨ls ++ lw.take n, []⟩, A ++ qs, 0)) := G1.out he
        clear G1 G2 G3 he h2 HSr HU HZ2 HAp HRX
        have HBw : Hid (w.heap.size + 2 ≤ (w2.alloc (.cells #[.int .i64 x1, .int .i64 x2, .int .i64 x3, .int .i64 x4, .bool x5, .int .i64 x6, .slice za x7.length zc] 34)).heap.size) := HNx.out.lt
        have hk := HKx.out
        have k0 := hk.cell 0
        have k1 := hk.cell 1
        simp only [List.getElem?_toArray, List.getElem?_cons_zero, List.getElem?_cons_succ] at k0 k1
        clear hk
        have HJ : Hid (∀ w', Below w.heap.size w w' → Calls Tryz.prog 59 #[.slice a ls.length c, .slice a' n c'] w' fun e w'' => (∃ x, e = .returned x ∧ NewBytes w'.heap.size w'' x (ls ++ lw.take n)) ∧ Below w'.heap.size w' w'') := fun w' hb => joined_any _ _ ls (lw.take n) w' (HS.out.below hb) (bytes_take (HW.out.below hb) n (by omega)) (by rw [List.length_take]; omega)
        generalize ls ++ lw.take n = L at HQ HJ
        go_wp2_with fail
        refine (HJ.out _ HBx.out).mono ?_
        rintro e wJ ⟨⟨x, rfl, hx⟩, hbJ⟩
        obtain ⟨xa, xc, rfl⟩ := bytes_slice hx.1
        have HXJ : Hid (NewBytes (w.heap.size + 2) wJ (.slice xa L.length xc) L) := hx.less HBw.out
        have HBJ : Hid (Below w.heap.size w wJ) := HBx.out.trans (hbJ.mono HBx.out.size)
        have hn := HNx.out.below hbJ
        have HOJ : Hid (wJ.ownsRow (w.heap.size + 2) 34 7 (.slice ra ps.length rc) ps.length (flatR ps)) := owns_below HOx.out hbJ
        have HLJ : Hid (Locks wJ (Value.slice ra ps.length rc).ownBlock ps) := HLx.out.below hbJ
        have HNE : Hid (∀ p ∈ ps, ∀ o' c', p.2 = .slice (some ⟨w.heap.size + 1, o', none⟩) p.1.lock.length c' → p.1.lock = []) := fun p hp => pins_off hn (HLJ.out p hp).1
        have HBs : Hid (∀ u0 u1 : Value, Below w.heap.size w ((wJ.setCell ⟨w.heap.size + 1, 0, none⟩ u0).setCell ⟨w.heap.size + 1, 1, none⟩ u1)) := fun u0 u1 => (HBJ.out.setCell (Nat.le_succ _) _).setCell (Nat.le_succ _) _
        have d1 := hn.cell 0
        have d2 := hn.cell 1
        have f1 := hn.free 0
        have f2 := hn.free 1
        simp only [List.getElem?_toArray, List.getElem?_cons_zero, List.getElem?_cons_succ] at d1 d2
        clear hx hbJ hn HJ HBx HKx HNx HOx HLx k0 k1
        go_wp2
        refine bodyPost_ret (v := .tuple #[.agg #[.slice xa L.length xc, .slice none 0 0], .slice ra ps.length rc, .int .i64 0]) (by simp [results, Tryz.results28, go_sem, d1, d2]) rfl ⟨?_, HBs.out _ _⟩
        rw [HQ.out]
        exact ⟨_, _, _, ps, rfl, ((HXJ.out.set _ (by omega)).set _ (by omega)).less (by omega), newBytes_none _ _, owns_less (ownsRow_setCell_below (ownsRow_setCell_below HOJ.out (by show w.heap.size + 1 < w.heap.size + 2; omega) _) (by show w.heap.size + 1 < w.heap.size + 2; omega) _) (by omega), Locks.set (Locks.set HLJ.out HNE.out) HNE.out, HPs.out⟩
      subst he
      have HQ2 : Hid (R0 = Lk.linesFrom (200 - A.length) (qs ++ [(⟨x1, x2, x3, x4, x5, x6, x7⟩ : Lk.Note)]) (n + t.length + 1) r) := G3.out rfl
      clear G1 G3
      go_upto_region 8 with fail
      generalize (w2.alloc (.cells #[.int .i64 x1, .int .i64 x2, .int .i64 x3, .int .i64 x4, .bool x5, .int .i64 x6, .slice za x7.length zc] 34)) = W2 at HOx HLx HBx HKx HNx HZ2 HRX ⊢
      generalize w2.heap.size = g2 at HRX ⊢
      obtain ⟨c0, c1, c2, c3, c4, c5, c6, c7⟩ := HRX.out
      have hw1 : w.heap.size + 2 ≤ W2.heap.size := HNx.out.lt
      have hps : ps.length ≤ 200 := by omega
      go_wp2_with (at_builtin; refine wpList_append_own_at _ rfl _ _ 25 rfl (w.heap.size + 2) 34 i0 (.agg #[.int .i64 0, .int .i64 0, .int .i64 0, .int .i64 0, .bool false, .int .i64 0, .slice none 0 0]) 7 72 Tryz.underlying25 hi hz0 hz1 hz2 rfl (by decide) _ ps.length (flatR ps) rfl (HOx.out.alloc _) ⟨W2.heap.size, 0, none⟩ 1 1 (recCells (⟨x1, x2, x3, x4, x5, x6, x7⟩, .slice za x7.length zc)) rfl rfl ?k1 ?k2 ?k3 ?k4 ?k5 ?_)
      case k1 =>
        intro j u hj
        rcases j with _ | _ | _ | _ | _ | _ | _ | j
        iterate 7 (simp [recCells] at hj; subst hj; simp [go_sem, Addr.add])
        simp [recCells] at hj
      case k2 =>
        intro u hu
        simp only [recCells, List.mem_cons, List.not_mem_nil, or_false] at hu
        rcases hu with rfl | rfl | rfl | rfl | rfl | rfl | rfl <;> rfl
      case k3 => unfold maxLen; omega
      case k4 => omega
      case k5 => simp; omega
      intro v' w3 hown hgrow _ hrow
      have HO3 : Hid (w3.ownsRow (w.heap.size + 2) 34 7 v' (ps ++ [((⟨x1, x2, x3, x4, x5, x6, x7⟩ : Lk.Note), Value.slice za x7.length zc)]).length (flatR (ps ++ [((⟨x1, x2, x3, x4, x5, x6, x7⟩ : Lk.Note), Value.slice za x7.length zc)]))) := by
        rw [flatR_append, List.length_append]
        have e : flatR [((⟨x1, x2, x3, x4, x5, x6, x7⟩ : Lk.Note), Value.slice za x7.length zc)] = recCells (⟨x1, x2, x3, x4, x5, x6, x7⟩, .slice za x7.length zc) := by simp [flatR]
        rw [e]; exact hown
      have HLk3 : Hid (Locks w3 v'.ownBlock (ps ++ [((⟨x1, x2, x3, x4, x5, x6, x7⟩ : Lk.Note), Value.slice za x7.length zc)])) :=
        Locks.grown ((Locks.below (HLx.out.snoc HZ2.out HAp.out) ((Below.refl _ W2).alloc (Nat.le_refl _) _))) hgrow (by rw [World.size_alloc]; exact hrow)
      have HB4 : Hid (Below w.heap.size w w3) := (HBx.out.alloc HBx.out.size _).grown hgrow (by simp; have := HBx.out.size; omega) (fun q hq => by have := (HOx.out.lt q hq).1; omega)
      have HK3 : Hid (Blk w3 w.heap.size #[.slice a ls.length c, .slice a' lw.length c'] 73) := Blk.grown (HKx.out.below ((Below.refl _ W2).alloc (Nat.le_refl _) _)) hgrow (fun e => by have := (HOx.out.lt _ e.symm).1; omega)
      have HN3 : Hid (Blk w3 (w.heap.size + 1) #[.slice none 0 0, .slice none 0 0] 73) := Blk.grown (HNx.out.below ((Below.refl _ W2).alloc (Nat.le_refl _) _)) hgrow (fun e => by have := (HOx.out.lt _ e.symm).1; omega)
      have HP3 : Hid ((ps ++ [((⟨x1, x2, x3, x4, x5, x6, x7⟩ : Lk.Note), Value.slice za x7.length zc)]).map Prod.fst = A ++ (qs ++ [(⟨x1, x2, x3, x4, x5, x6, x7⟩ : Lk.Note)])) := by
        show List.map Prod.fst _ = _
        rw [List.map_append, HPs.out, List.append_assoc]; rfl
      clear hown hgrow hrow HOx HLx HRX c0 c1 c2 c3 c4 c5 c6 c7
      go_wp2
      go_roundg r.length
      case measure => omega
      case rel => exact ⟨ps ++ [((⟨x1, x2, x3, x4, x5, x6, x7⟩ : Lk.Note), Value.slice za x7.length zc)], qs ++ [(⟨x1, x2, x3, x4, x5, x6, x7⟩ : Lk.Note)], r, n + t.length + 1, ua, uc, Nat.le_refl _, hnr, rfl, HO3, HLk3, HU, HQ2, HP3, (by rw [List.length_append]; simp; omega), HB4, HK3, HN3⟩
end Go.Proofs.YtpenkhehceglfaaGreatDoor
