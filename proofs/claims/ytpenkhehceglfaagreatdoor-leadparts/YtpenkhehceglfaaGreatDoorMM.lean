import Derived.Test.YtpenkhehceglfaaGreatDoorML
import Derived.Deep.OwnRows
import Derived.Laws.OwnMore
/- The contracts of lead.isThrough, tooManyIll, waveNow, isTurn, isOver and hasAgent. -/
namespace Go.Proofs.YtpenkhehceglfaaGreatDoor
open Go.RowKit
set_option maxHeartbeats 2000000 in
theorem through_any (s t : Int) (bb : Bool) (w : World) :
    Calls Tryz.prog 93 #[.agg #[.int .i64 s, .int .i64 t, .bool bb]] w fun e w' => e = .returned (.bool (s == 2 || s == 3)) ∧ Below w.heap.size w w' := by
  have HB : Hid (∀ O, Below w.heap.size w (w.alloc O)) := fun O => (Below.refl _ w).alloc (Nat.le_refl _) O
  by_cases h2 : s = 2
  · subst h2
    go_enter Tryz.func93, Tryz.ntmps93
    go_wp2
    go_ret
    exact ⟨rfl, HB.out _⟩
  have h2' : (s == 2) = false := by simpa using h2
  clear h2
  go_enter Tryz.func93, Tryz.ntmps93
  go_wp2
  go_ret
  exact ⟨by rw [h2']; rfl, HB.out _⟩
set_option maxHeartbeats 2000000 in
theorem over1_any (s t : Int) (bb : Bool) (w : World) :
    Calls Tryz.prog 92 #[.agg #[.int .i64 s, .int .i64 t, .bool bb]] w fun e w' => e = .returned (.bool (!(s == 2 || s == 3))) ∧ Below w.heap.size w w' := by
  have HB : Hid (Below w.heap.size w (w.alloc (.cells #[.int .i64 s, .int .i64 t, .bool bb] 98))) := (Below.refl _ w).alloc (Nat.le_refl _) _
  have HC : Hid (∀ w', Calls Tryz.prog 93 #[.agg #[.int .i64 s, .int .i64 t, .bool bb]] w' fun e w'' => e = .returned (.bool (s == 2 || s == 3)) ∧ Below w'.heap.size w' w'') := fun w' => through_any s t bb w'
  generalize (s == 2 || s == 3) = z at HC ⊢
  go_enter Tryz.func92, Tryz.ntmps92
  go_wp2_with fail
  refine (HC.out _).mono ?_
  rintro e w1 ⟨rfl, hb1⟩
  have HB1 : Hid (Below w.heap.size w w1) := HB.out.trans (hb1.mono HB.out.size)
  clear hb1
  go_wp2
  go_ret
  exact ⟨rfl, HB1.out⟩
set_option maxHeartbeats 2000000 in
theorem over2_any (s t : Int) (bb : Bool) (w : World) :
    Calls Tryz.prog 94 #[.agg #[.int .i64 s, .int .i64 t, .bool bb]] w fun e w' => e = .returned (.bool (s == 1 || (s != 0 && !bb))) ∧ Below w.heap.size w w' := by
  have HB : Hid (∀ O, Below w.heap.size w (w.alloc O)) := fun O => (Below.refl _ w).alloc (Nat.le_refl _) O
  by_cases h1 : s = 1
  · subst h1
    go_enter Tryz.func94, Tryz.ntmps94
    go_wp2
    go_ret
    exact ⟨rfl, HB.out _⟩
  have h1' : (s == 1) = false := by simpa using h1
  by_cases h0 : s = 0
  · subst h0
    go_enter Tryz.func94, Tryz.ntmps94
    go_wp2
    go_ret
    exact ⟨rfl, HB.out _⟩
  have h0' : (s != 0) = true := by simpa using h0
  clear h0 h1
  go_enter Tryz.func94, Tryz.ntmps94
  go_wp2
  go_ret
  exact ⟨by rw [h1', h0']; rfl, HB.out _⟩
theorem count_step {l : List Ld.Known} {k : Nat} (h : k < l.length) (s : Int) (n : Nat) : n + ((l.drop k).filter fun a => a.st == s).length = (n + if ((l.getD k ⟨0, 0, false⟩).st == s) = true then 1 else 0) + ((l.drop (k + 1)).filter fun a => a.st == s).length := by
  rw [dropKn l k h, List.filter_cons]
  split <;> simp <;> omega
set_option maxHeartbeats 4000000 in
theorem ill_any (f d nw g nx : Int) (bk : Bool) (a1 a2 a3 a4 : Option Addr) (n1 c1 n2 c2 n3 c3 n4 c4 : Nat) (ks : List Ld.Known) (Z : Value) (w : World) (hL : KnowsAt w Z ks) :
    Calls Tryz.prog 91 #[.agg #[.int .i64 f, .slice a1 n1 c1, .slice a2 n2 c2, .slice a3 n3 c3, .int .i64 d], .agg #[.slice a4 n4 c4, .int .i64 nw, .int .i64 g, .bool bk, Z, .int .i64 nx]] w fun e w' => e = .returned (.bool (decide (d < ((ks.filter fun a => a.st == 3).length : Int)))) ∧ Below w.heap.size w w' := by
  obtain ⟨a5, c5, rfl⟩ := knows_slice hL
  have HL : Hid (KnowsAt w (.slice a5 ks.length c5) ks) := hL
  have hlen := hL.1
  clear hL
  obtain ⟨hB0, hK0, hK1⟩ := box2 w #[.int .i64 f, .slice a1 n1 c1, .slice a2 n2 c2, .slice a3 n3 c3, .int .i64 d] #[.slice a4 n4 c4, .int .i64 nw, .int .i64 g, .bool bk, .slice a5 ks.length c5, .int .i64 nx] 45 49
  have k4 := hK1.cell 4
  simp only [List.getElem?_toArray, List.getElem?_cons_zero, List.getElem?_cons_succ] at k4
  have HB0 : Hid (Below w.heap.size w _) := hB0
  have HK0 : Hid (Blk _ w.heap.size _ _) := hK0
  clear hB0 hK0 hK1
  go_enter Tryz.func91, Tryz.ntmps91
  go_wp2
  go_loopg [5, 11] ks.length (fun g' s5 s11 wr => ∃ k n : Nat, k ≤ ks.length ∧ ks.length - k ≤ g' ∧ n ≤ k ∧ s5 = .int .i64 n ∧ s11 = .int .i64 k ∧ Hid (n + ((ks.drop k).filter fun a => a.st == 3).length = (ks.filter fun a => a.st == 3).length) ∧ Hid (Blk wr w.heap.size #[.int .i64 f, .slice a1 n1 c1, .slice a2 n2 c2, .slice a3 n3 c3, .int .i64 d] 45) ∧ Hid (Below w.heap.size w wr))
  case atStart => exact ⟨0, 0, Nat.zero_le _, by omega, by omega, rfl, rfl, (by show _ = _; simp), HK0, HB0⟩
  case round =>
    obtain ⟨k, n, hk, hg, hn, rfl, rfl, H, HK, HB⟩ := hrel
    clear k4 HB0 HK0
    by_cases hlt : k < ks.length
    · obtain ⟨b, o, rfl, hbw, g1, g2, g3⟩ := knows_at (HL.out.below HB.out) hlt
      have hc := count_step hlt 3 n
      rw [H.out] at hc
      have HH : Hid ((n + if ((ks.getD k ⟨0, 0, false⟩).st == 3) = true then 1 else 0) + ((ks.drop (k + 1)).filter fun a => a.st == 3).length = (ks.filter fun a => a.st == 3).length) := hc.symm
      clear hc H
      generalize ks.getD k ⟨0, 0, false⟩ = p at g1 g2 g3 HH
      obtain ⟨s, t, bb⟩ := p
      simp only at g1 g2 g3
      have HB1 : Hid (∀ O, Below w.heap.size w (wr.alloc O)) := fun O => HB.out.alloc HB.out.size O
      have HK1 : Hid (∀ O, Blk (wr.alloc O) w.heap.size #[.int .i64 f, .slice a1 n1 c1, .slice a2 n2 c2, .slice a3 n3 c3, .int .i64 d] 45) := fun O => HK.out.below ((Below.refl _ wr).alloc (Nat.le_refl _) O)
      clear HB HK
      by_cases h3 : s = 3
      · subst h3
        have HN : Hid ((n + 1) + ((ks.drop (k + 1)).filter fun a => a.st == 3).length = (ks.filter fun a => a.st == 3).length) := HH.out
        clear HH
        go_wp2
        go_roundg (ks.length - (k + 1))
        case measure => omega
        case rel => exact ⟨k + 1, n + 1, by omega, by omega, by omega, by go_num, by go_num, HN, HK1.out _, HB1.out _⟩
      · have h3' : (s == 3) = false := by simpa using h3
        have HN : Hid (n + ((ks.drop (k + 1)).filter fun a => a.st == 3).length = (ks.filter fun a => a.st == 3).length) := by
          have := HH.out
          rw [if_neg (by simpa using h3)] at this
          exact this
        clear HH h3
        go_wp2
        go_roundg (ks.length - (k + 1))
        case measure => omega
        case rel => exact ⟨k + 1, n, by omega, by omega, by omega, rfl, by go_num, HN, HK1.out _, HB1.out _⟩
    · have hk' : k = ks.length := by omega
      have HN : Hid ((ks.filter fun a => a.st == 3).length = n) := by
        have := H.out
        rw [hk', List.drop_length] at this
        exact this.symm
      subst hk'
      have kd := HK.out.cell 4
      simp only [List.getElem?_toArray, List.getElem?_cons_zero, List.getElem?_cons_succ] at kd
      clear hk hlt H HK
      go_wp2
      go_ret
      exact ⟨by rw [HN.out]; rfl, HB.out⟩
end Go.Proofs.YtpenkhehceglfaaGreatDoor
/- The contracts of lead.waveNow, lead.hasAgent, lead.isTurn, lead.isOver; slices.IndexFunc and slices.ContainsFunc at what is known of agents. -/
namespace Go.Proofs.YtpenkhehceglfaaGreatDoor
open Go.RowKit
def thr (ks : List Ld.Known) : List Bool := ks.map fun a => a.st == 2 || a.st == 3
theorem made_bools (n : Nat) : madeCells #[.bool false] n = Array.replicate n (.bool false) := by
  apply Array.ext'
  rw [toList_madeCells_one]; simp
def TBl : TypeId := 4
theorem put_bools {w : World} {g k : Nat} {bs : List Bool} {t : TypeId} (h : Blk w g (bs.map Value.bool).toArray t) (x : Bool) : Blk (w.setCell ⟨g, k, none⟩ (.bool x)) g ((bs.set k x).map Value.bool).toArray t := by
  have := h.put k (.bool x)
  rw [List.map_set]
  simpa using this
theorem bools_blk {w : World} {g n : Nat} {bs : List Bool} {t : TypeId} (h : Blk w g (bs.map Value.bool).toArray t) (hn : n = bs.length) (hl : bs.length ≤ 1000) : BoolsAt w (.slice (some ⟨g, 0, none⟩) n n) bs := by
  refine ⟨by omega, some ⟨g, 0, none⟩, g, 0, n, by rw [hn], by omega, fun _ => ⟨rfl, h.lt⟩, fun j hj => ?_⟩
  rw [h.cell (0 + j)]
  simp [List.getD_eq_getElem?_getD, hj]
theorem thr_step {ks : List Ld.Known} {k : Nat} (h : k < ks.length) : ((thr ks).take k ++ List.replicate (ks.length - k) false).set k ((ks.getD k ⟨0, 0, false⟩).st == 2 || (ks.getD k ⟨0, 0, false⟩).st == 3) = (thr ks).take (k + 1) ++ List.replicate (ks.length - (k + 1)) false := by
  have hl : ((thr ks).take k).length = k := by simp [thr]; omega
  have hl2 : k < (thr ks).length := by simpa [thr] using h
  rw [List.set_append_right _ _ (by omega), hl, Nat.sub_self, show ks.length - k = (ks.length - (k + 1)) + 1 from by omega, List.replicate_succ, List.set_cons_zero, List.take_succ_eq_append_getElem hl2, List.append_assoc]
  simp [thr, List.getD_eq_getElem?_getD, h]
set_option maxHeartbeats 4000000 in
set_option maxRecDepth 100000 in
theorem waveNow_any (f d nw g nx : Int) (bk : Bool) (a1 a2 a4 : Option Addr) (n1 c1 n2 c2 n4 c4 : Nat) (W : List (List Int)) (ks : List Ld.Known) (D Z : Value) (w : World) (hW : WavesAt w D W) (hL : KnowsAt w Z ks) (hlen : ks.length ≤ 100) :
    Calls Tryz.prog 90 #[.agg #[.int .i64 f, .slice a1 n1 c1, .slice a2 n2 c2, D, .int .i64 d], .agg #[.slice a4 n4 c4, .int .i64 nw, .int .i64 g, .bool bk, Z, .int .i64 nx]] w fun e w' => e = .returned (.int .i64 (nowOf W (thr ks))) ∧ Below w.heap.size w w' := by
  obtain ⟨a3, c3, rfl⟩ := waves_slice hW
  obtain ⟨a5, c5, rfl⟩ := knows_slice hL
  have HL : Hid (KnowsAt w (.slice a5 ks.length c5) ks) := hL
  have HW : Hid (WavesAt w (.slice a3 W.length c3) W) := hW
  clear hL hW
  generalize W.length = n3 at HW ⊢
  obtain ⟨hB0, hK0, hK1⟩ := box2 w #[.int .i64 f, .slice a1 n1 c1, .slice a2 n2 c2, .slice a3 n3 c3, .int .i64 d] #[.slice a4 n4 c4, .int .i64 nw, .int .i64 g, .bool bk, .slice a5 ks.length c5, .int .i64 nx] 45 49
  have k4 := hK1.cell 4
  simp only [List.getElem?_toArray, List.getElem?_cons_zero, List.getElem?_cons_succ] at k4
  have HB0 : Hid (Below w.heap.size w _) := hB0
  have HK0 : Hid (Blk _ w.heap.size _ _) := hK0
  clear hB0 hK0 hK1
  have hmk := fun w' => run_make_row' (P := Tryz.prog) 189 4 (.bool false) 1 Tryz.underlying189 infoBool rfl .i64 .i64 ks.length (by omega) (by omega) w'
  rw [made_bools] at hmk
  go_enter Tryz.func90, Tryz.ntmps90
  go_wp2
  generalize hV : ((w.alloc (.cells #[.int .i64 f, .slice a1 n1 c1, .slice a2 n2 c2, .slice a3 n3 c3, .int .i64 d] 45)).alloc (.cells #[.slice a4 n4 c4, .int .i64 nw, .int .i64 g, .bool bk, .slice a5 ks.length c5, .int .i64 nx] 49)) = V at k4 HB0 HK0 ⊢
  have hsz : V.heap.size = w.heap.size + 1 + 1 := by rw [← hV]; simp
  have hx := box1 V (Array.replicate ks.length (.bool false)) 4
  have HX : Hid (Below V.heap.size V (V.alloc (.cells (Array.replicate ks.length (.bool false)) 4))) := hx.1
  have HY : Hid (Blk (V.alloc (.cells (Array.replicate ks.length (.bool false)) 4)) (w.heap.size + 1 + 1) (((thr ks).take 0 ++ List.replicate (ks.length - 0) false).map Value.bool).toArray 4) := by
    have := hx.2
    rw [hsz] at this
    show Blk _ _ _ _
    simpa using this
  have hgV : w.heap.size ≤ V.heap.size := HB0.out.size
  have hgV2 : w.heap.size < V.heap.size := HK0.out.lt
  clear hx hmk k4
  go_loopg [17] ks.length (fun g' s17 wr => ∃ k : Nat, k ≤ ks.length ∧ ks.length - k ≤ g' ∧ s17 = .int .i64 k ∧ Hid (Blk wr w.heap.size #[.int .i64 f, .slice a1 n1 c1, .slice a2 n2 c2, .slice a3 n3 c3, .int .i64 d] 45) ∧ Hid (Below w.heap.size w wr) ∧ Hid (Blk wr (w.heap.size + 1 + 1) (((thr ks).take k ++ List.replicate (ks.length - k) false).map Value.bool).toArray 4))
  case atStart => exact ⟨0, Nat.zero_le _, by omega, rfl, HK0.out.below HX.out, HB0.out.trans (HX.out.mono hgV), HY.out⟩
  case round =>
    obtain ⟨k, hk, hg, rfl, HK, HB, HT⟩ := hrel
    clear HB0 HK0 HX HY
    by_cases hlt : k < ks.length
    · obtain ⟨b, o, rfl, hbw, g1, g2, g3⟩ := knows_at (HL.out.below HB.out) hlt
      have hst := thr_step hlt
      have HST : Hid (((thr ks).take k ++ List.replicate (ks.length - k) false).set k ((ks.getD k ⟨0, 0, false⟩).st == 2 || (ks.getD k ⟨0, 0, false⟩).st == 3) = (thr ks).take (k + 1) ++ List.replicate (ks.length - (k + 1)) false) := hst
      have hcur : wr.cell? ⟨w.heap.size + 1 + 1, k, none⟩ = some (.bool false) := by
        rw [HT.out.cell k]
        have hl : ((thr ks).take k).length = k := by simp [thr]; omega
        simp only [List.getElem?_toArray, List.getElem?_map]
        rw [List.getElem?_append_right (by omega), hl, Nat.sub_self]
        rw [show ks.length - k = (ks.length - (k + 1)) + 1 from by omega, List.replicate_succ]; rfl
      clear hst
      generalize ks.getD k ⟨0, 0, false⟩ = p at g1 g2 g3 HST
      obtain ⟨s, t, bb⟩ := p
      simp only at g1 g2 g3 HST
      have HKP : Hid (∀ w', Calls Tryz.prog 93 #[.agg #[.int .i64 s, .int .i64 t, .bool bb]] w' fun e w'' => e = .returned (.bool (s == 2 || s == 3)) ∧ Below w'.heap.size w' w'') := fun w' => through_any s t bb w'
      generalize (s == 2 || s == 3) = z at HKP HST
      have HX0 : Hid (Below wr.heap.size wr (wr.alloc (.cells #[.int .i64 s, .int .i64 t, .bool bb] 98))) := (box1 wr _ _).1
      have hklt : (k : Int) < ks.length := by omega
      go_wp2_with fail
      refine (HKP.out _).mono ?_
      rintro e w1 ⟨rfl, hb1⟩
      have hbb := HX0.out.trans (hb1.mono HX0.out.size)
      have HB1 : Hid (Below w.heap.size w w1) := HB.out.trans (hbb.mono HB.out.size)
      have HK1 : Hid (Blk w1 w.heap.size #[.int .i64 f, .slice a1 n1 c1, .slice a2 n2 c2, .slice a3 n3 c3, .int .i64 d] 45) := HK.out.below hbb
      have HT1 : Hid (Blk w1 (w.heap.size + 1 + 1) (((thr ks).take k ++ List.replicate (ks.length - k) false).map Value.bool).toArray 4) := HT.out.below hbb
      have hc1 := (hbb.cell (p := ⟨w.heap.size + 1 + 1, k, none⟩) HT.out.lt).trans hcur
      have hf1 := HT1.out.free k
      clear hb1 hbb HX0 HB HK HKP HT hcur
      go_wp2
      go_roundg (ks.length - (k + 1))
      case measure => omega
      case rel => exact ⟨k + 1, by omega, by omega, by go_num, HK1.out.off (by omega), HB1.out.setCell (by simp only []; omega) _, by rw [← HST.out]; exact put_bools HT1.out z⟩
    · have hk' : k = ks.length := by omega
      have HTT : Hid (BoolsAt wr (.slice (some ⟨w.heap.size + 1 + 1, 0, none⟩) ks.length ks.length) (thr ks)) := by
        refine bools_blk (t := 4) ?_ (by simp [thr]) (by simp [thr]; omega)
        have := HT.out
        rw [hk', List.take_of_length_le (by simp [thr]), Nat.sub_self, List.replicate_zero, List.append_nil] at this
        exact this
      subst hk'
      have HN := nowP_any _ _ W (thr ks) wr (HW.out.below HB.out) HTT.out
      have kd := HK.out.cell 3
      simp only [List.getElem?_toArray, List.getElem?_cons_zero, List.getElem?_cons_succ] at kd
      clear hk hlt HT HK HTT
      go_wp2_with fail
      refine HN.mono ?_
      rintro e w1 ⟨rfl, hb1⟩
      have HB1 : Hid (Below w.heap.size w w1) := HB.out.trans (hb1.mono HB.out.size)
      clear hb1 HN
      go_wp2
      go_ret
      exact ⟨rfl, HB1.out⟩
def idxK (p : Ld.Known → Bool) : List Ld.Known → Int → Int
  | [], _ => -1
  | x :: r, k => if p x = true then k else idxK p r (k + 1)
theorem idxK_any {p : Ld.Known → Bool} {l : List Ld.Known} : ∀ {k : Int}, 0 ≤ k → decide (0 ≤ idxK p l k) = l.any p := by
  induction l with
  | nil => intro k _; simp [idxK]
  | cons x r ih =>
    intro k hk
    rw [idxK, List.any_cons]
    by_cases h : p x = true
    · rw [if_pos h, h]; simp [hk]
    · rw [if_neg h, ih (by omega)]; simp [h]
set_option maxHeartbeats 4000000 in
theorem indexK_any (v : Value) (ks : List Ld.Known) (f : Nat) (p : Ld.Known → Bool) (w : World) (hL : KnowsAt w v ks) (eg : ∀ args w, (callFunc f args).run Tryz.prog w = .ok (.enter f args) w)
    (hF : ∀ a w', Calls Tryz.prog f #[.agg #[.int .i64 a.st, .int .i64 a.tr, .bool a.back]] w' fun e w'' => e = .returned (.bool (p a)) ∧ Below w'.heap.size w' w'') :
    Calls Tryz.prog 117 #[v, .func (.func f) #[] #[]] w fun e w' => e = .returned (.int .i64 (idxK p ks 0)) ∧ Below w.heap.size w w' := by
  obtain ⟨a5, c5, rfl⟩ := knows_slice hL
  have HL : Hid (KnowsAt w (.slice a5 ks.length c5) ks) := hL
  have hlen := hL.1
  have HF : Hid (∀ (a : Ld.Known) (w' : World), Calls Tryz.prog f #[.agg #[.int .i64 a.st, .int .i64 a.tr, .bool a.back]] w' fun e w'' => e = .returned (.bool (p a)) ∧ Below w'.heap.size w' w'') := hF
  clear hL hF
  go_enter Tryz.func117, Tryz.ntmps117
  go_wp2
  go_loopg [8] ks.length (fun g s8 wr => ∃ k : Nat, k ≤ ks.length ∧ ks.length - k ≤ g ∧ s8 = .int .i64 k ∧ Hid (idxK p (ks.drop k) k = idxK p ks 0) ∧ Hid (Below w.heap.size w wr))
  case atStart => exact ⟨0, Nat.zero_le _, by omega, rfl, rfl, Below.refl _ _⟩
  case round =>
    obtain ⟨k, hk, hgk, rfl, H, HB⟩ := hrel
    by_cases hlt : k < ks.length
    · obtain ⟨b, o, rfl, hbw, g1, g2, g3⟩ := knows_at (HL.out.below HB.out) hlt
      have hd := dropKn ks k hlt
      have hcl := HF.out (ks.getD k ⟨0, 0, false⟩) wr
      have HR1 : Hid (p (ks.getD k ⟨0, 0, false⟩) = true → idxK p ks 0 = k) := fun h => by rw [← H.out, hd, idxK, if_pos h]
      have HR2 : Hid (p (ks.getD k ⟨0, 0, false⟩) = false → idxK p (ks.drop (k + 1)) ((k + 1 : Nat) : Int) = idxK p ks 0) := fun h => by
        have := H.out
        rw [hd, idxK, if_neg (by rw [h]; decide)] at this
        exact this
      generalize ks.getD k ⟨0, 0, false⟩ = q at g1 g2 g3 hcl HR1 HR2
      obtain ⟨s, t, bb⟩ := q
      simp only at g1 g2 g3 hcl
      clear hd HF H
      cases hp : p ⟨s, t, bb⟩ with
      | true =>
        have HR : Hid (idxK p ks 0 = k) := HR1.out hp
        rw [hp] at hcl
        clear hp HR1 HR2
        go_wp2_with fail
        refine hcl.mono ?_
        rintro e w1 ⟨rfl, hb1⟩
        have HB1 : Hid (Below w.heap.size w w1) := HB.out.trans (hb1.mono HB.out.size)
        clear hb1 hcl
        go_wp2
        go_ret
        exact ⟨by rw [HR.out]; rfl, HB1.out⟩
      | false =>
        have HR : Hid (idxK p (ks.drop (k + 1)) ((k + 1 : Nat) : Int) = idxK p ks 0) := HR2.out hp
        rw [hp] at hcl
        clear hp HR1 HR2
        go_wp2_with fail
        refine hcl.mono ?_
        rintro e w1 ⟨rfl, hb1⟩
        have HB1 : Hid (Below w.heap.size w w1) := HB.out.trans (hb1.mono HB.out.size)
        clear hb1 hcl
        go_wp2
        go_roundg (ks.length - (k + 1))
        case measure => omega
        case rel => exact ⟨k + 1, by omega, by omega, by go_num, HR, HB1⟩
    · have hk' : k = ks.length := by omega
      have HR : Hid (idxK p ks 0 = -1) := by rw [← H.out, hk', List.drop_length]; rfl
      subst hk'
      clear hk hlt H
      go_wp2
      go_ret
      exact ⟨by rw [HR.out]; rfl, HB.out⟩
set_option maxHeartbeats 1000000 in
theorem containsK_any (v : Value) (ks : List Ld.Known) (f : Nat) (p : Ld.Known → Bool) (w : World) (hL : KnowsAt w v ks) (eg : ∀ args w, (callFunc f args).run Tryz.prog w = .ok (.enter f args) w)
    (hF : ∀ a w', Calls Tryz.prog f #[.agg #[.int .i64 a.st, .int .i64 a.tr, .bool a.back]] w' fun e w'' => e = .returned (.bool (p a)) ∧ Below w'.heap.size w' w'') :
    Calls Tryz.prog 95 #[v, .func (.func f) #[] #[]] w fun e w' => e = .returned (.bool (ks.any p)) ∧ Below w.heap.size w w' := by
  have HC := indexK_any v ks f p w hL eg hF
  have HM : Hid (decide (0 ≤ idxK p ks 0) = ks.any p) := idxK_any (by decide)
  clear hL hF eg
  go_enter Tryz.func95, Tryz.ntmps95
  go_wp2_with fail
  refine HC.mono ?_
  rintro e w1 ⟨rfl, hb1⟩
  have HB1 : Hid (Below w.heap.size w w1) := hb1
  clear hb1 HC
  go_wp2
  go_ret
  exact ⟨by rw [← HM.out]; rfl, HB1.out⟩
set_option maxHeartbeats 1000000 in
theorem hasAgent_any (nw g nx k : Int) (bk : Bool) (a4 a5 : Option Addr) (n4 c4 n5 c5 : Nat) (w : World) (h5 : n5 ≤ 140737488355328) :
    Calls Tryz.prog 63 #[.agg #[.slice a4 n4 c4, .int .i64 nw, .int .i64 g, .bool bk, .slice a5 n5 c5, .int .i64 nx], .int .i64 k] w fun e w' => e = .returned (.bool (decide (0 ≤ k ∧ k < n5))) ∧ Below w.heap.size w w' := by
  have HB : Hid (∀ O, Below w.heap.size w (w.alloc O)) := fun O => (Below.refl _ w).alloc (Nat.le_refl _) O
  have HF : Hid (¬ (0 ≤ k ∧ k < (n5 : Int)) → decide (0 ≤ k ∧ k < (n5 : Int)) = false) := fun h => decide_eq_false h
  have HT : Hid (0 ≤ k → k < (n5 : Int) → decide (0 ≤ k ∧ k < (n5 : Int)) = true) := fun h h' => decide_eq_true ⟨h, h'⟩
  generalize decide (0 ≤ k ∧ k < (n5 : Int)) = Q at HF HT ⊢
  by_cases p1 : 0 ≤ k
  rotate_left
  · have p1' : decide (0 ≤ k) = false := decide_eq_false p1
    have HQ : Hid (Q = false) := HF.out (by omega)
    clear HF HT
    go_enter Tryz.func63, Tryz.ntmps63
    go_wp2_with go_in
    go_ret
    exact ⟨by rw [HQ.out]; rfl, HB.out _⟩
  by_cases p2 : k < n5
  · have p2' : k ≤ (n5 : Int) - 1 := by omega
    have HQ : Hid (Q = true) := HT.out p1 p2
    clear HF HT
    go_enter Tryz.func63, Tryz.ntmps63
    go_wp2_with go_in
    go_ret
    exact ⟨by rw [HQ.out]; rfl, HB.out _⟩
  · have p2' : decide (k ≤ (n5 : Int) - 1) = false := decide_eq_false (by omega)
    have HQ : Hid (Q = false) := HF.out (by omega)
    clear HF HT
    go_enter Tryz.func63, Tryz.ntmps63
    go_wp2_with go_in
    go_ret
    exact ⟨by rw [HQ.out]; rfl, HB.out _⟩
end Go.Proofs.YtpenkhehceglfaaGreatDoor
/- The contracts of lead.isTurn, lead.isOver and lead.Over. -/
namespace Go.Proofs.YtpenkhehceglfaaGreatDoor
open Go.RowKit
theorem now_thr {cf : Ld.Config} {ld : Ld.Leader} (h : Ld.chkLeader cf ld = 0) : nowOf cf.waves (thr ld.ags) = Wv.now cf.waves (Ld.through ld) := by
  have h2 := (Ld.lead_few h).2.2.1
  have e : thr ld.ags = Ld.through ld := Ld.thr_eq h
  have hl : (thr ld.ags).length = ld.ags.length := by simp [thr]
  rw [nowOf, nowErr, hl, if_pos h2, e]
theorem not_lt_le (d : Int) (n : Nat) : (!decide (d < (n : Int))) = decide ((n : Int) ≤ d) := by
  by_cases h : d < (n : Int)
  · rw [decide_eq_true h, decide_eq_false (by omega)]; rfl
  · rw [decide_eq_false h, decide_eq_true (by omega)]; rfl
set_option maxHeartbeats 8000000 in
set_option maxRecDepth 100000 in
theorem isTurn_any (cf : Ld.Config) (A B D : Value) (ld : Ld.Leader) (Y Z : Value) (k : Nat) (w : World) (hC : CfAt w cf A B D) (hL : LdAt w ld Y Z) (hk : k < ld.ags.length) (hc : Ld.chkLeader cf ld = 0) :
    Calls Tryz.prog 64 #[cfV cf A B D, leV ld Y Z, .int .i64 k] w fun e w' => e = .returned (.bool (Ld.isTurn cf ld k)) ∧ Below w.heap.size w w' := by
  have hN := now_thr hc
  have hlen := (Ld.lead_few hc).2.1
  clear hc
  obtain ⟨f, L, R, W, d⟩ := cf
  obtain ⟨a1, c1, rfl⟩ := pins_slice hC.1
  obtain ⟨a2, c2, rfl⟩ := rules_slice hC.2.1
  obtain ⟨a3, c3, rfl⟩ := waves_slice hC.2.2
  obtain ⟨rs, nw, g, bk, ks, nx⟩ := ld
  obtain ⟨a4, c4, rfl⟩ := relA_slice hL.1
  obtain ⟨a5, c5, rfl⟩ := knows_slice hL.2
  simp only at hN hlen hk
  obtain ⟨b, o, rfl, hbw, g1, g2, g3⟩ := knows_at hL.2 hk
  have HT : Hid (Ld.isTurn ⟨f, L, R, W, d⟩ ⟨rs, nw, g, bk, ks, nx⟩ k = if bk = true then decide ((ks.getD k ⟨0, 0, false⟩).st ≠ 0) && !(ks.getD k ⟨0, 0, false⟩).back else decide ((ks.getD k ⟨0, 0, false⟩).st = 0) && decide (Wv.of W k = nowOf W (thr ks)) && !decide (d < ((ks.filter fun a => a.st == 3).length : Int))) := by
    show _ = _
    rw [hN, not_lt_le]; rfl
  have H1 : Hid (∀ w', Below w.heap.size w w' → Calls Tryz.prog 89 #[.slice a3 W.length c3, .int .i64 k] w' fun e w'' => e = .returned (.int .i64 (Wv.of W k)) ∧ Below w'.heap.size w' w'') := fun w' hb => ofP_any _ W k w' (hC.2.2.below hb)
  have H2 : Hid (∀ w', Below w.heap.size w w' → Calls Tryz.prog 90 #[.agg #[.int .i64 f, .slice a1 L.length c1, .slice a2 R.length c2, .slice a3 W.length c3, .int .i64 d], .agg #[.slice a4 rs.length c4, .int .i64 nw, .int .i64 g, .bool bk, .slice (some ⟨b, o, none⟩) ks.length c5, .int .i64 nx]] w' fun e w'' => e = .returned (.int .i64 (nowOf W (thr ks))) ∧ Below w'.heap.size w' w'') := fun w' hb => waveNow_any f d nw g nx bk a1 a2 a4 _ _ _ _ _ _ W ks _ _ w' (hC.2.2.below hb) (hL.2.below hb) (by omega)
  have H3 : Hid (∀ w', Below w.heap.size w w' → Calls Tryz.prog 91 #[.agg #[.int .i64 f, .slice a1 L.length c1, .slice a2 R.length c2, .slice a3 W.length c3, .int .i64 d], .agg #[.slice a4 rs.length c4, .int .i64 nw, .int .i64 g, .bool bk, .slice (some ⟨b, o, none⟩) ks.length c5, .int .i64 nx]] w' fun e w'' => e = .returned (.bool (decide (d < ((ks.filter fun a => a.st == 3).length : Int)))) ∧ Below w'.heap.size w' w'') := fun w' hb => ill_any f d nw g nx bk a1 a2 a3 a4 _ _ _ _ _ _ _ _ ks _ w' (hL.2.below hb)
  clear hC hL hN
  unfold cfV cfC leV leC
  simp only
  generalize Ld.isTurn ⟨f, L, R, W, d⟩ ⟨rs, nw, g, bk, ks, nx⟩ k = Q at HT ⊢
  generalize decide (d < ((ks.filter fun a => a.st == 3).length : Int)) = IL at HT H3
  generalize nowOf W (thr ks) = X2 at HT H2
  generalize Wv.of W k = X1 at HT H1
  generalize ks.getD k ⟨0, 0, false⟩ = p at g1 g2 g3 HT
  obtain ⟨s, t, bb⟩ := p
  simp only at g1 g2 g3 HT
  have hk' : (k : Int) < ks.length := by omega
  generalize rs.length = n4 at *
  generalize ks.length = n5 at *
  generalize L.length = n1 at *
  generalize R.length = n2 at *
  generalize W.length = n3 at *
  obtain ⟨hB0, hK0, hK1⟩ := box2 w #[.int .i64 f, .slice a1 n1 c1, .slice a2 n2 c2, .slice a3 n3 c3, .int .i64 d] #[.slice a4 n4 c4, .int .i64 nw, .int .i64 g, .bool bk, .slice (some ⟨b, o, none⟩) n5 c5, .int .i64 nx] 45 49
  rw [← hB0.cell (p := ⟨b, _, none⟩) hbw] at g1 g2 g3
  have hb3 := hK1.cell 3
  have hb4 := hK1.cell 4
  simp only [List.getElem?_toArray, List.getElem?_cons_zero, List.getElem?_cons_succ] at hb3 hb4
  obtain ⟨jB, jK0, jK1, jK2⟩ := box3 w #[.int .i64 f, .slice a1 n1 c1, .slice a2 n2 c2, .slice a3 n3 c3, .int .i64 d] #[.slice a4 n4 c4, .int .i64 nw, .int .i64 g, .bool bk, .slice (some ⟨b, o, none⟩) n5 c5, .int .i64 nx] #[.int .i64 s, .int .i64 t, .bool bb] 45 49 98
  cases bk
  rotate_left
  · have HQ : Hid (Q = (decide (s ≠ 0) && !bb)) := HT.out
    have HB : Hid (Below w.heap.size w _) := jB
    clear HT H1 H2 H3 jB jK0 jK1 jK2 hK0 hK1 hB0
    by_cases h0 : s = 0
    · subst h0
      go_enter Tryz.func64, Tryz.ntmps64
      go_wp2
      go_ret
      exact ⟨by rw [HQ.out]; rfl, HB.out⟩
    · have h0' : (s != 0) = true := by rw [bne_iff_ne]; exact h0
      have h0'' : decide (s ≠ 0) = true := decide_eq_true h0
      have HQ2 : Hid (Q = !bb) := by rw [HQ.out, h0'']; rfl
      clear h0 h0'' HQ
      go_enter Tryz.func64, Tryz.ntmps64
      go_wp2
      go_ret
      exact ⟨by rw [HQ2.out]; rfl, HB.out⟩
  have HQ : Hid (Q = (decide (s = 0) && decide (X1 = X2) && !IL)) := HT.out
  clear HT hK0 hK1
  by_cases h0 : s = 0
  rotate_left
  · have h0' : (s == 0) = false := by simpa using h0
    have HQ2 : Hid (Q = false) := by rw [HQ.out, decide_eq_false h0]; rfl
    clear HQ H1 H2 H3 h0
    go_enter Tryz.func64, Tryz.ntmps64
    go_wp2_with fail
    generalize (((w.alloc (.cells #[.int .i64 f, .slice a1 n1 c1, .slice a2 n2 c2, .slice a3 n3 c3, .int .i64 d] 45)).alloc (.cells #[.slice a4 n4 c4, .int .i64 nw, .int .i64 g, .bool false, .slice (some ⟨b, o, none⟩) n5 c5, .int .i64 nx] 49)).alloc (.cells #[.int .i64 s, .int .i64 t, .bool bb] 98)) = V at jB jK0 jK1 jK2 ⊢
    have kc0 := cell_regrown (show _ = some _ from jK0.cell 0)
    have kc1 := cell_regrown (show _ = some _ from jK0.cell 1)
    have kc2 := cell_regrown (show _ = some _ from jK0.cell 2)
    have kc3 := cell_regrown (show _ = some _ from jK0.cell 3)
    have kc4 := cell_regrown (show _ = some _ from jK0.cell 4)
    have kl0 := cell_regrown (show _ = some _ from jK1.cell 0)
    have kl1 := cell_regrown (show _ = some _ from jK1.cell 1)
    have kl2 := cell_regrown (show _ = some _ from jK1.cell 2)
    have kl3 := cell_regrown (show _ = some _ from jK1.cell 3)
    have kl4 := cell_regrown (show _ = some _ from jK1.cell 4)
    have kl5 := cell_regrown (show _ = some _ from jK1.cell 5)
    have ka0 := cell_regrown (show _ = some _ from jK2.cell 0)
    have ka1 := cell_regrown (show _ = some _ from jK2.cell 1)
    have ka2 := cell_regrown (show _ = some _ from jK2.cell 2)
    have HB0 : Hid (Below w.heap.size w V) := jB
    clear jB jK0 jK1 jK2 hB0 g1 g2 g3 hb3 hb4
    refine wp_region_quiet_below (by kernel_rfl) (by kernel_rfl) ?_
    repeat (go_big_quiet_step (first | fail))
    refine wpQuiet_nil ?_
    intro _ hw'
    obtain ⟨⟨dq, osq⟩, hw''⟩ := hw'
    subst hw''
    have hbq := below_regrown V dq osq
    have HB5 : Hid (Below w.heap.size w (Sort.grow (redrawn V dq) osq)) := HB0.out.trans (hbq.mono HB0.out.size)
    clear hbq
    go_wp2
    go_ret
    exact ⟨by rw [HQ2.out]; rfl, HB5.out⟩
  subst h0
  by_cases h1 : X1 = X2
  rotate_left
  · have h1' : (X1 == X2) = false := by simpa using h1
    have HQ2 : Hid (Q = false) := by rw [HQ.out, decide_eq_false h1]; rfl
    clear HQ H3 h1
    go_enter Tryz.func64, Tryz.ntmps64
    go_wp2_with fail
    generalize (((w.alloc (.cells #[.int .i64 f, .slice a1 n1 c1, .slice a2 n2 c2, .slice a3 n3 c3, .int .i64 d] 45)).alloc (.cells #[.slice a4 n4 c4, .int .i64 nw, .int .i64 g, .bool false, .slice (some ⟨b, o, none⟩) n5 c5, .int .i64 nx] 49)).alloc (.cells #[.int .i64 0, .int .i64 t, .bool bb] 98)) = V at jB jK0 jK1 jK2 ⊢
    have kc0 := cell_regrown (show _ = some _ from jK0.cell 0)
    have kc1 := cell_regrown (show _ = some _ from jK0.cell 1)
    have kc2 := cell_regrown (show _ = some _ from jK0.cell 2)
    have kc3 := cell_regrown (show _ = some _ from jK0.cell 3)
    have kc4 := cell_regrown (show _ = some _ from jK0.cell 4)
    have kl0 := cell_regrown (show _ = some _ from jK1.cell 0)
    have kl1 := cell_regrown (show _ = some _ from jK1.cell 1)
    have kl2 := cell_regrown (show _ = some _ from jK1.cell 2)
    have kl3 := cell_regrown (show _ = some _ from jK1.cell 3)
    have kl4 := cell_regrown (show _ = some _ from jK1.cell 4)
    have kl5 := cell_regrown (show _ = some _ from jK1.cell 5)
    have ka0 := cell_regrown (show _ = some _ from jK2.cell 0)
    have ka1 := cell_regrown (show _ = some _ from jK2.cell 1)
    have ka2 := cell_regrown (show _ = some _ from jK2.cell 2)
    have c1 := fun (d' : Nat) (os : Array Obj) => Calls.regrown_of (H1.out (Sort.grow (redrawn V d') os) (jB.trans ((below_regrown V d' os).mono jB.size)))
    have c2 := fun (d' : Nat) (os : Array Obj) => Calls.regrown_of (H2.out (Sort.grow (redrawn V d') os) (jB.trans ((below_regrown V d' os).mono jB.size)))
    have HB0 : Hid (Below w.heap.size w V) := jB
    clear jB jK0 jK1 jK2 hB0 g1 g2 g3 hb3 hb4
    refine wp_region_quiet_below (by kernel_rfl) (by kernel_rfl) ?_
    repeat (go_big_quiet_step (first | exact c1 _ _ | exact c2 _ _))
    refine wpQuiet_nil ?_
    intro _ hw'
    obtain ⟨⟨dq, osq⟩, hw''⟩ := hw'
    subst hw''
    have hbq := below_regrown V dq osq
    have HB5 : Hid (Below w.heap.size w (Sort.grow (redrawn V dq) osq)) := HB0.out.trans (hbq.mono HB0.out.size)
    clear hbq
    go_wp2
    go_ret
    exact ⟨by rw [HQ2.out]; rfl, HB5.out⟩
  have h1' : (X1 == X2) = true := by simpa using h1
  have HQ2 : Hid (Q = !IL) := by rw [HQ.out, decide_eq_true h1]; show _ = _; simp
  clear HQ h1
  go_enter Tryz.func64, Tryz.ntmps64
  go_wp2_with fail
  generalize (((w.alloc (.cells #[.int .i64 f, .slice a1 n1 c1, .slice a2 n2 c2, .slice a3 n3 c3, .int .i64 d] 45)).alloc (.cells #[.slice a4 n4 c4, .int .i64 nw, .int .i64 g, .bool false, .slice (some ⟨b, o, none⟩) n5 c5, .int .i64 nx] 49)).alloc (.cells #[.int .i64 0, .int .i64 t, .bool bb] 98)) = V at jB jK0 jK1 jK2 ⊢
  have kc0 := cell_regrown (show _ = some _ from jK0.cell 0)
  have kc1 := cell_regrown (show _ = some _ from jK0.cell 1)
  have kc2 := cell_regrown (show _ = some _ from jK0.cell 2)
  have kc3 := cell_regrown (show _ = some _ from jK0.cell 3)
  have kc4 := cell_regrown (show _ = some _ from jK0.cell 4)
  have kl0 := cell_regrown (show _ = some _ from jK1.cell 0)
  have kl1 := cell_regrown (show _ = some _ from jK1.cell 1)
  have kl2 := cell_regrown (show _ = some _ from jK1.cell 2)
  have kl3 := cell_regrown (show _ = some _ from jK1.cell 3)
  have kl4 := cell_regrown (show _ = some _ from jK1.cell 4)
  have kl5 := cell_regrown (show _ = some _ from jK1.cell 5)
  have ka0 := cell_regrown (show _ = some _ from jK2.cell 0)
  have ka1 := cell_regrown (show _ = some _ from jK2.cell 1)
  have ka2 := cell_regrown (show _ = some _ from jK2.cell 2)
  have c1 := fun (d' : Nat) (os : Array Obj) => Calls.regrown_of (H1.out (Sort.grow (redrawn V d') os) (jB.trans ((below_regrown V d' os).mono jB.size)))
  have c2 := fun (d' : Nat) (os : Array Obj) => Calls.regrown_of (H2.out (Sort.grow (redrawn V d') os) (jB.trans ((below_regrown V d' os).mono jB.size)))
  have c3 := fun (d' : Nat) (os : Array Obj) => Calls.regrown_of (H3.out (Sort.grow (redrawn V d') os) (jB.trans ((below_regrown V d' os).mono jB.size)))
  have HB0 : Hid (Below w.heap.size w V) := jB
  clear jB jK0 jK1 jK2 hB0 g1 g2 g3 hb3 hb4
  refine wp_region_quiet_below (by kernel_rfl) (by kernel_rfl) ?_
  repeat (go_big_quiet_step (first | exact c1 _ _ | exact c2 _ _ | exact c3 _ _))
  refine wpQuiet_nil ?_
  intro _ hw'
  obtain ⟨⟨dq, osq⟩, hw''⟩ := hw'
  subst hw''
  have hbq := below_regrown V dq osq
  have HB5 : Hid (Below w.heap.size w (Sort.grow (redrawn V dq) osq)) := HB0.out.trans (hbq.mono HB0.out.size)
  clear hbq
  go_wp2
  go_ret
  exact ⟨by rw [HQ2.out]; rfl, HB5.out⟩
theorem all_not_any (ks : List Ld.Known) (p q : Ld.Known → Bool) (h : ∀ a ∈ ks, q a = !p a) : ks.all q = !ks.any p := by
  induction ks with
  | nil => rfl
  | cons a t ih => rw [List.all_cons, List.any_cons, ih (fun x hx => h x (by simp [hx])), h a (by simp), Bool.not_or]
theorem over_back {cf : Ld.Config} {ld : Ld.Leader} (hb : ld.back = true) : Ld.isOver cf ld = !ld.ags.any (fun a => a.st == 1 || (a.st != 0 && !a.back)) := by
  unfold Ld.isOver
  rw [if_pos hb]
  refine all_not_any _ _ _ (fun a _ => ?_)
  rw [Bool.eq_iff_iff]
  by_cases h1 : a.st = 1
  · simp [h1]
  · by_cases h0 : a.st = 0
    · simp [h0]
    · cases hb : a.back <;> simp [h1, h0]
theorem over_on {cf : Ld.Config} {ld : Ld.Leader} (hc : Ld.chkLeader cf ld = 0) (hb : ld.back = false) : Ld.isOver cf ld = (!ld.ags.any (fun a => !(a.st == 2 || a.st == 3)) && !decide (cf.budget < ((ld.ags.filter fun a => a.st == 3).length : Int))) := by
  unfold Ld.isOver
  rw [if_neg (by rw [hb]; decide), not_lt_le]
  have e : (Ld.through ld).all id = !ld.ags.any (fun a => !(a.st == 2 || a.st == 3)) := by
    rw [← Ld.thr_eq hc, List.all_map]
    exact all_not_any _ _ _ (fun a _ => by simp)
  rw [e]; rfl
set_option maxHeartbeats 8000000 in
set_option maxRecDepth 100000 in
theorem isOver_any (cf : Ld.Config) (A B D : Value) (ld : Ld.Leader) (Y Z : Value) (w : World) (hC : CfAt w cf A B D) (hL : LdAt w ld Y Z) (hc : Ld.chkLeader cf ld = 0) :
    Calls Tryz.prog 65 #[cfV cf A B D, leV ld Y Z] w fun e w' => e = .returned (.bool (Ld.isOver cf ld)) ∧ Below w.heap.size w w' := by
  have E1 := fun hb => over_back (cf := cf) (ld := ld) hb
  have E2 := over_on (cf := cf) (ld := ld) hc
  clear hc
  obtain ⟨f, L, R, W, d⟩ := cf
  obtain ⟨a1, c1, rfl⟩ := pins_slice hC.1
  obtain ⟨a2, c2, rfl⟩ := rules_slice hC.2.1
  obtain ⟨a3, c3, rfl⟩ := waves_slice hC.2.2
  obtain ⟨rs, nw, g, bk, ks, nx⟩ := ld
  obtain ⟨a4, c4, rfl⟩ := relA_slice hL.1
  obtain ⟨a5, c5, rfl⟩ := knows_slice hL.2
  simp only at E1 E2
  have H1 : Hid (∀ w', Below w.heap.size w w' → Calls Tryz.prog 95 #[.slice a5 ks.length c5, .func (.func 92) #[] #[]] w' fun e w'' => e = .returned (.bool (ks.any (fun a => !(a.st == 2 || a.st == 3)))) ∧ Below w'.heap.size w' w'') := fun w' hb => containsK_any _ ks 92 (fun a => !(a.st == 2 || a.st == 3)) w' (hL.2.below hb) (fun _ _ => by simp [go_sem]) (fun a w'' => over1_any a.st a.tr a.back w'')
  have H2 : Hid (∀ w', Below w.heap.size w w' → Calls Tryz.prog 95 #[.slice a5 ks.length c5, .func (.func 94) #[] #[]] w' fun e w'' => e = .returned (.bool (ks.any (fun a => a.st == 1 || (a.st != 0 && !a.back)))) ∧ Below w'.heap.size w' w'') := fun w' hb => containsK_any _ ks 94 (fun a => a.st == 1 || (a.st != 0 && !a.back)) w' (hL.2.below hb) (fun _ _ => by simp [go_sem]) (fun a w'' => over2_any a.st a.tr a.back w'')
  have H3 : Hid (∀ w', Below w.heap.size w w' → Calls Tryz.prog 91 #[.agg #[.int .i64 f, .slice a1 L.length c1, .slice a2 R.length c2, .slice a3 W.length c3, .int .i64 d], .agg #[.slice a4 rs.length c4, .int .i64 nw, .int .i64 g, .bool bk, .slice a5 ks.length c5, .int .i64 nx]] w' fun e w'' => e = .returned (.bool (decide (d < ((ks.filter fun a => a.st == 3).length : Int)))) ∧ Below w'.heap.size w' w'') := fun w' hb => ill_any f d nw g nx bk a1 a2 a3 a4 _ _ _ _ _ _ _ _ ks _ w' (hL.2.below hb)
  clear hC hL
  unfold cfV cfC leV leC
  simp only
  generalize Ld.isOver ⟨f, L, R, W, d⟩ ⟨rs, nw, g, bk, ks, nx⟩ = Q at E1 E2 ⊢
  generalize decide (d < ((ks.filter fun a => a.st == 3).length : Int)) = IL at E2 H3
  generalize ks.any (fun a => !(a.st == 2 || a.st == 3)) = X1 at E2 H1
  generalize ks.any (fun a => a.st == 1 || (a.st != 0 && !a.back)) = X2 at E1 H2
  generalize rs.length = n4 at *
  generalize ks.length = n5 at *
  generalize L.length = n1 at *
  generalize R.length = n2 at *
  generalize W.length = n3 at *
  obtain ⟨hB0, hK0, hK1⟩ := box2 w #[.int .i64 f, .slice a1 n1 c1, .slice a2 n2 c2, .slice a3 n3 c3, .int .i64 d] #[.slice a4 n4 c4, .int .i64 nw, .int .i64 g, .bool bk, .slice a5 n5 c5, .int .i64 nx] 45 49
  have hb3 := hK1.cell 3
  have hb4 := hK1.cell 4
  simp only [List.getElem?_toArray, List.getElem?_cons_zero, List.getElem?_cons_succ] at hb3 hb4
  have HB0 : Hid (Below w.heap.size w _) := hB0
  have HK0 : Hid (Blk _ w.heap.size _ _) := hK0
  have HK1 : Hid (Blk _ (w.heap.size + 1) _ _) := hK1
  clear hB0 hK0 hK1
  cases bk
  · have HQ : Hid (Q = (!X1 && !IL)) := E2 rfl
    clear E1 E2 H2
    go_enter Tryz.func65, Tryz.ntmps65
    go_wp2_with fail
    refine (H1.out _ HB0.out).mono ?_
    rintro e w1 ⟨rfl, hb1⟩
    have HB1 : Hid (Below w.heap.size w w1) := HB0.out.trans (hb1.mono HB0.out.size)
    have hk0 := HK0.out.below hb1
    have hk1 := HK1.out.below hb1
    clear hb1 HB0 HK0 HK1 hb3 hb4
    have kc0 := hk0.cell 0
    have kc1 := hk0.cell 1
    have kc2 := hk0.cell 2
    have kc3 := hk0.cell 3
    have kc4 := hk0.cell 4
    simp only [List.getElem?_toArray, List.getElem?_cons_zero, List.getElem?_cons_succ] at kc0 kc1 kc2 kc3 kc4
    have kl0 := hk1.cell 0
    have kl1 := hk1.cell 1
    have kl2 := hk1.cell 2
    have kl3 := hk1.cell 3
    have kl4 := hk1.cell 4
    have kl5 := hk1.cell 5
    simp only [List.getElem?_toArray, List.getElem?_cons_zero, List.getElem?_cons_succ] at kl0 kl1 kl2 kl3 kl4 kl5
    clear hk0 hk1
    cases X1
    · go_wp2_with fail
      refine (H3.out _ HB1.out).mono ?_
      rintro e w2 ⟨rfl, hb2⟩
      have HB2 : Hid (Below w.heap.size w w2) := HB1.out.trans (hb2.mono HB1.out.size)
      clear hb2 HB1 kc0 kc1 kc2 kc3 kc4 kl0 kl1 kl2 kl3 kl4 kl5
      go_wp2
      go_ret
      exact ⟨by rw [HQ.out]; rfl, HB2.out⟩
    · go_wp2
      go_ret
      exact ⟨by rw [HQ.out]; rfl, HB1.out⟩
  · have HQ : Hid (Q = !X2) := E1 rfl
    clear E1 E2 H1
    go_enter Tryz.func65, Tryz.ntmps65
    go_wp2_with fail
    refine (H2.out _ HB0.out).mono ?_
    rintro e w1 ⟨rfl, hb1⟩
    have HB1 : Hid (Below w.heap.size w w1) := HB0.out.trans (hb1.mono HB0.out.size)
    have hk1 := HK1.out.below hb1
    have kl3 := hk1.cell 3
    simp only [List.getElem?_toArray, List.getElem?_cons_zero, List.getElem?_cons_succ] at kl3
    clear hb1 HB0 HK0 HK1 hb3 hb4 hk1
    cases X2
    · go_wp2
      go_ret
      exact ⟨by rw [HQ.out]; rfl, HB1.out⟩
    · go_wp2
      go_ret
      exact ⟨by rw [HQ.out]; rfl, HB1.out⟩
set_option maxHeartbeats 4000000 in
set_option maxRecDepth 100000 in
theorem ldOver_any (cf : Ld.Config) (A B D : Value) (ld : Ld.Leader) (Y Z : Value) (w : World) (hC : CfAt w cf A B D) (hL : LdAt w ld Y Z) :
    Calls Tryz.prog 35 #[cfV cf A B D, leV ld Y Z] w fun e w' => e = .returned (.tuple #[.bool (Ld.overL cf ld).1, .int .i64 (Ld.overL cf ld).2]) ∧ Below w.heap.size w w' := by
  have HCK := fun w' (hb : Below w.heap.size w w') => ldCheck_any cf A B D ld Y Z w' (hC.below hb) (hL.below hb)
  have HOV := fun w' (hb : Below w.heap.size w w') hc => isOver_any cf A B D ld Y Z w' (hC.below hb) (hL.below hb) hc
  have F1 : Hid (¬ Ld.chkLeader cf ld = 0 → Ld.overL cf ld = (false, Ld.chkLeader cf ld)) := fun h => by unfold Ld.overL; rw [if_neg h]
  have F2 : Hid (Ld.chkLeader cf ld = 0 → ld.goal = 0 → Ld.overL cf ld = (false, 7)) := fun h h' => by unfold Ld.overL; rw [if_pos h, if_pos h']
  have F3 : Hid (Ld.chkLeader cf ld = 0 → ¬ ld.goal = 0 → Ld.overL cf ld = (Ld.isOver cf ld, 0)) := fun h h' => by unfold Ld.overL; rw [if_pos h, if_neg h']
  obtain ⟨f, L, R, W, d⟩ := cf
  obtain ⟨a1, c1, rfl⟩ := pins_slice hC.1
  obtain ⟨a2, c2, rfl⟩ := rules_slice hC.2.1
  obtain ⟨a3, c3, rfl⟩ := waves_slice hC.2.2
  obtain ⟨rs, nw, g, bk, ks, nx⟩ := ld
  obtain ⟨a4, c4, rfl⟩ := relA_slice hL.1
  obtain ⟨a5, c5, rfl⟩ := knows_slice hL.2
  clear hC hL
  unfold cfV cfC leV leC at HCK HOV ⊢
  simp only at HCK HOV F2 F3 ⊢
  have H1 : Hid (∀ w', Below w.heap.size w w' → _) := HCK
  have H2 : Hid (∀ w', Below w.heap.size w w' → _) := HOV
  clear HCK HOV
  generalize Ld.overL ⟨f, L, R, W, d⟩ ⟨rs, nw, g, bk, ks, nx⟩ = Q at F1 F2 F3 ⊢
  generalize Ld.isOver ⟨f, L, R, W, d⟩ ⟨rs, nw, g, bk, ks, nx⟩ = OV at F3 H2
  generalize Ld.chkLeader ⟨f, L, R, W, d⟩ ⟨rs, nw, g, bk, ks, nx⟩ = CK at F1 F2 F3 H1 H2
  generalize rs.length = n4 at *
  generalize ks.length = n5 at *
  generalize L.length = n1 at *
  generalize R.length = n2 at *
  generalize W.length = n3 at *
  obtain ⟨hB0, hK0, hK1⟩ := box2 w #[.int .i64 f, .slice a1 n1 c1, .slice a2 n2 c2, .slice a3 n3 c3, .int .i64 d] #[.slice a4 n4 c4, .int .i64 nw, .int .i64 g, .bool bk, .slice a5 n5 c5, .int .i64 nx] 45 49
  have HB0 : Hid (Below w.heap.size w _) := hB0
  have HK0 : Hid (Blk _ w.heap.size _ _) := hK0
  have HK1 : Hid (Blk _ (w.heap.size + 1) _ _) := hK1
  have kc0 := hK0.cell 0
  have kc1 := hK0.cell 1
  have kc2 := hK0.cell 2
  have kc3 := hK0.cell 3
  have kc4 := hK0.cell 4
  simp only [List.getElem?_toArray, List.getElem?_cons_zero, List.getElem?_cons_succ] at kc0 kc1 kc2 kc3 kc4
  have kl0 := hK1.cell 0
  have kl1 := hK1.cell 1
  have kl2 := hK1.cell 2
  have kl3 := hK1.cell 3
  have kl4 := hK1.cell 4
  have kl5 := hK1.cell 5
  simp only [List.getElem?_toArray, List.getElem?_cons_zero, List.getElem?_cons_succ] at kl0 kl1 kl2 kl3 kl4 kl5
  clear hB0 hK0 hK1
  go_enter Tryz.func35, Tryz.ntmps35
  go_wp2_with fail
  refine (H1.out _ HB0.out).mono ?_
  rintro e w1 ⟨rfl, hb1⟩
  have HB1 : Hid (Below w.heap.size w w1) := HB0.out.trans (hb1.mono HB0.out.size)
  have hk0 := HK0.out.below hb1
  have hk1 := HK1.out.below hb1
  clear hb1 HB0 HK0 HK1 H1 kc0 kc1 kc2 kc3 kc4 kl0 kl1 kl2 kl3 kl4 kl5
  have kc0 := hk0.cell 0
  have kc1 := hk0.cell 1
  have kc2 := hk0.cell 2
  have kc3 := hk0.cell 3
  have kc4 := hk0.cell 4
  simp only [List.getElem?_toArray, List.getElem?_cons_zero, List.getElem?_cons_succ] at kc0 kc1 kc2 kc3 kc4
  have kl0 := hk1.cell 0
  have kl1 := hk1.cell 1
  have kl2 := hk1.cell 2
  have kl3 := hk1.cell 3
  have kl4 := hk1.cell 4
  have kl5 := hk1.cell 5
  simp only [List.getElem?_toArray, List.getElem?_cons_zero, List.getElem?_cons_succ] at kl0 kl1 kl2 kl3 kl4 kl5
  clear hk0 hk1
  by_cases h0 : CK = 0
  rotate_left
  · have HQ : Hid (Q = (false, CK)) := F1.out h0
    have h0' : (CK != 0) = true := by rw [bne_iff_ne]; exact h0
    clear F1 F2 F3 h0 H2
    go_wp2
    go_ret2
    exact ⟨by rw [HQ.out]; rfl, HB1.out⟩
  by_cases hg : g = 0
  · have HQ : Hid (Q = (false, 7)) := F2.out h0 hg
    subst h0 hg
    clear F1 F2 F3 H2
    go_wp2
    go_ret2
    exact ⟨by rw [HQ.out]; rfl, HB1.out⟩
  have HQ : Hid (Q = (OV, 0)) := F3.out h0 hg
  have hg' : (g == 0) = false := by simpa using hg
  have H3 := H2.out _ HB1.out h0
  subst h0
  clear F1 F2 F3 H2 hg
  go_wp2_with fail
  refine H3.mono ?_
  rintro e w2 ⟨rfl, hb2⟩
  have HB2 : Hid (Below w.heap.size w w2) := HB1.out.trans (hb2.mono HB1.out.size)
  clear hb2 H3 HB1 kc0 kc1 kc2 kc3 kc4 kl0 kl1 kl2 kl3 kl4 kl5
  go_wp2
  go_ret2
  exact ⟨by rw [HQ.out]; rfl, HB2.out⟩
end Go.Proofs.YtpenkhehceglfaaGreatDoor
/- Rows of the call's own; the contracts of slices.Clone at releases and at what is known of agents. -/
namespace Go.Proofs.YtpenkhehceglfaaGreatDoor
open Go.RowKit
theorem Keep.grow {S S' : Nat → Prop} {Q : World → Prop} {w w' : World} (h : Keep S Q w) (hb : Below w.heap.size w w') (hs : ∀ x, S' x → S x ∨ w.heap.size ≤ x) : Keep S' Q w' := fun w'' h'' => by
  obtain ⟨h1, h2, h3, h4, h5⟩ := h''
  refine h w'' ⟨h1.trans hb.os, h2.trans hb.tape, h3.trans hb.output, Nat.le_trans hb.size h4, fun b hl hn => ?_⟩
  refine (h5 b (Nat.lt_of_lt_of_le hl hb.size) (fun hx => ?_)).trans (hb.block b hl)
  rcases hs b hx with h | h
  · exact hn h
  · omega
/-- a row: cells from the head of a block, that may be written -/
def Row (w : World) (g : Nat) (xs : List Value) : Prop := g < w.heap.size ∧ (∀ j, w.frozen? ⟨g, j, none⟩ = false) ∧ ∀ j u, xs[j]? = some u → w.cell? ⟨g, j, none⟩ = some u
theorem Row.below {w w' : World} {g : Nat} {xs : List Value} (h : Row w g xs) (hb : Below w.heap.size w w') : Row w' g xs :=
  ⟨Nat.lt_of_lt_of_le h.1 hb.size, fun j => (hb.frozen (p := ⟨g, j, none⟩) h.1).trans (h.2.1 j), fun j u hu => (hb.cell (p := ⟨g, j, none⟩) h.1).trans (h.2.2 j u hu)⟩
theorem frozen_set (w : World) (a p : Addr) (u : Value) : (w.setCell a u).frozen? p = w.frozen? p := by simp [go_sem]
theorem Row.put {w : World} {g i : Nat} {xs : List Value} (h : Row w g xs) (hi : i < xs.length) (u : Value) : Row (w.setCell ⟨g, i, none⟩ u) g (xs.set i u) := by
  refine ⟨by rw [World.size_setCell]; exact h.1, fun j => by rw [frozen_set]; exact h.2.1 j, fun j v hv => ?_⟩
  rw [List.getElem?_set] at hv
  by_cases e : i = j
  · subst e
    rw [if_pos rfl, if_pos hi] at hv
    rw [World.cell?_setCell_same _ _ _ (h.2.2 i _ (List.getElem?_eq_getElem hi))]; exact hv
  · rw [if_neg e] at hv
    rw [World.cell?_setCell_other _ _ _ _ (fun h => by injection h with _ h2; exact e h2)]
    exact h.2.2 j v hv
theorem Row.off {w : World} {g b i : Nat} {xs : List Value} (h : Row w g xs) (hne : b ≠ g) (u : Value) : Row (w.setCell ⟨b, i, none⟩ u) g xs := by
  refine ⟨by rw [World.size_setCell]; exact h.1, fun j => by rw [frozen_set]; exact h.2.1 j, fun j v hv => ?_⟩
  rw [World.cell?_setCell_other _ _ _ _ (fun h => by injection h with h1; exact hne h1)]
  exact h.2.2 j v hv
theorem Row.blk {w : World} {g : Nat} {cs : Array Value} {t : TypeId} (h : Blk w g cs t) : Row w g cs.toList := ⟨h.lt, fun j => h.free j, fun j u hu => by rw [h.cell j]; simpa using hu⟩
/-- a row's room: so many cells of this type -/
def Cap (w : World) (g : Nat) (e : TypeId) (n : Nat) : Prop := ∃ cur, w.heap[g]? = some (.cells cur e (0, 0)) ∧ cur.size = n
theorem Cap.below {w w' : World} {g n : Nat} {e : TypeId} (h : Cap w g e n) (hb : Below w.heap.size w w') : Cap w' g e n := by
  obtain ⟨cur, h1, h2⟩ := h
  exact ⟨cur, (hb.block g (Array.getElem?_eq_some_iff.1 h1).1).trans h1, h2⟩
theorem Cap.set {w : World} {g n b i : Nat} {e : TypeId} (h : Cap w g e n) (u : Value) : Cap (w.setCell ⟨b, i, none⟩ u) g e n := by
  obtain ⟨cur, h1, h2⟩ := h
  by_cases e' : b = g
  · subst e'
    refine ⟨cur.setIfInBounds i u, ?_, by simp [h2]⟩
    simp [World.setCell, Array.getElem?_modify, h1]
  · refine ⟨cur, ?_, h2⟩
    rw [Below.heap_setCell w _ u g (fun e => e' e.symm)]; exact h1
theorem owns_row {w : World} {base g k n size : Nat} {e : TypeId} {xs : List Value} (h : Row w g xs) (hc : Cap w g e (k * size)) (hb : base ≤ g) (hn : n ≤ k) (hk : k ≤ maxLen) (hx : xs.length = n * size) : w.ownsRow base e size (.slice (some ⟨g, 0, none⟩) n k) n xs := by
  obtain ⟨cur, h1, h2⟩ := hc
  refine ⟨hx, .inr ⟨g, k, cur, rfl, hb, h1, hn, hk, h2, ?_⟩⟩
  apply List.ext_getElem?
  intro j
  by_cases hj : j < xs.length
  · have := h.2.2 j _ (List.getElem?_eq_getElem hj)
    have hcj : w.cell? ⟨g, j, none⟩ = cur[j]? := by simp [World.cell?, h1]
    rw [hcj] at this
    rw [List.getElem?_take_of_lt (by omega), List.getElem?_eq_getElem hj, ← this]
    simp
  · rw [List.getElem?_eq_none (l := xs) (by omega), List.getElem?_eq_none]
    have := List.length_take_le (n * size) cur.toList
    omega
theorem row_cap {w : World} {base e size n g c : Nat} {xs : List Value} (h : w.ownsRow base e size (.slice (some ⟨g, 0, none⟩) n c) n xs) : Cap w g e (c * size) ∧ c ≤ maxLen := by
  rcases h.2 with ⟨h1, _⟩ | ⟨g', cap, cur, h1, h2, h3, h4, h5, h6, _⟩
  · cases h1
  · simp only [Value.slice.injEq, Option.some.injEq, Addr.mk.injEq] at h1
    obtain ⟨⟨rfl, -, -⟩, -, rfl⟩ := h1
    exact ⟨⟨cur, h3, h6⟩, h5⟩
theorem row_owns {w : World} {base e size n : Nat} {v : Value} {xs : List Value} (h : w.ownsRow base e size v n xs) (hn : 1 ≤ n) : ∃ g c, v = .slice (some ⟨g, 0, none⟩) n c ∧ base ≤ g ∧ n ≤ c ∧ Row w g xs := by
  have h0 := h
  rcases h.2 with ⟨h1, h2⟩ | ⟨g, cap, cur, h1, h2, h3, h4⟩
  · omega
  · refine ⟨g, cap, h1, h2, h4.1, (Array.getElem?_eq_some_iff.1 h3).1, fun j => frozen_of_row w g j _ _ h3, fun j u hu => ?_⟩
    have := h0.cells (g := g) (by rw [h1]; rfl) j u hu
    rw [WideShapes.add_plain, Nat.zero_add] at this
    exact this
theorem knows_row {w : World} {g n c : Nat} {ks : List Ld.Known} (h : Row w g (flatK ks)) (hn : n = ks.length) (hc : n ≤ c) (hl : ks.length ≤ 1000) : KnowsAt w (.slice (some ⟨g, 0, none⟩) n c) ks := by
  refine ⟨by omega, some ⟨g, 0, none⟩, g, 0, c, by rw [hn], by omega, (fun e => by cases e), fun _ => ⟨rfl, h.1⟩, fun j hj => ?_⟩
  have key : ∀ i x, i < 3 → (knCells (ks.getD j ⟨0, 0, false⟩))[i]? = some x → w.cell? ⟨g, j * 3 + i, none⟩ = some x := fun i x hi hx => h.2.2 _ _ ((flatK_at ks j hj i hi).trans hx)
  rw [Nat.zero_add]
  exact ⟨key 0 _ (by omega) rfl, key 1 _ (by omega) rfl, key 2 _ (by omega) rfl⟩
theorem rels_row {w : World} {g n c : Nat} {ps : List ((Int × List (Int × Int)) × Value)} (h : Row w g (flatL ps)) (hn : n = ps.length) (hc : n ≤ c) (hl : ps.length ≤ 1000) (hp : ∀ q ∈ ps, PinsAt w q.2 q.1.2) : RelsAt w (.slice (some ⟨g, 0, none⟩) n c) ps := by
  refine ⟨by omega, some ⟨g, 0, none⟩, c, by rw [hn], by omega, (fun e => by cases e), fun ad e _ => ?_, fun ad e j u hu => ?_, hp⟩
  · cases e; exact ⟨rfl, h.1⟩
  · cases e
    rw [WideShapes.add_plain, Nat.zero_add]
    exact h.2.2 j u hu
theorem flatK_set (a : Ld.Known) : ∀ (ks : List Ld.Known) (k : Nat), k < ks.length → (((flatK ks).set (k * 3) (.int .i64 a.st)).set (k * 3 + 1) (.int .i64 a.tr)).set (k * 3 + 2) (.bool a.back) = flatK (ks.set k a)
  | [], k, h => by simp at h
  | x :: r, 0, _ => rfl
  | x :: r, k + 1, h => by
    have := flatK_set a r k (by simpa using h)
    have e0 : (k + 1) * 3 = k * 3 + 1 + 1 + 1 := by omega
    have e1 : (k + 1) * 3 + 1 = k * 3 + 1 + 1 + 1 + 1 := by omega
    have e2 : (k + 1) * 3 + 2 = k * 3 + 2 + 1 + 1 + 1 := by omega
    rw [e2, e1, e0]
    simp only [flatK, knCells, List.cons_append, List.nil_append, List.set_cons_succ]
    rw [this]
theorem flatL_set (p : (Int × List (Int × Int)) × Value) : ∀ (ps : List ((Int × List (Int × Int)) × Value)) (k : Nat), k < ps.length → ((flatL ps).set (k * 2) (.int .i64 p.1.1)).set (k * 2 + 1) p.2 = flatL (ps.set k p)
  | [], k, h => by simp at h
  | x :: r, 0, _ => rfl
  | x :: r, k + 1, h => by
    have := flatL_set p r k (by simpa using h)
    have e0 : (k + 1) * 2 = k * 2 + 1 + 1 := by omega
    have e1 : (k + 1) * 2 + 1 = k * 2 + 1 + 1 + 1 := by omega
    rw [e1, e0]
    simp only [flatL, relCells, List.cons_append, List.nil_append, List.set_cons_succ]
    rw [this]
theorem flatL_one {ps : List ((Int × List (Int × Int)) × Value)} (h : ∀ q ∈ ps, ∃ a n c, q.2 = .slice a n c) : ∀ u ∈ flatL ps, u.oneCell' = true := by
  induction ps with
  | nil => intro u hu; simp [flatL] at hu
  | cons q r ih =>
    intro u hu
    obtain ⟨a, n, c, e⟩ := h q (by simp)
    rw [flatL] at hu
    rcases List.mem_append.1 hu with hu | hu
    · simp only [relCells, List.mem_cons, List.not_mem_nil, or_false] at hu
      rcases hu with rfl | rfl
      · rfl
      · rw [e]; rfl
    · exact ih (fun q' hq' => h q' (by simp [hq'])) u hu
theorem rels_one {w : World} {v : Value} {ps : List ((Int × List (Int × Int)) × Value)} (h : RelsAt w v ps) : ∀ q ∈ ps, ∃ a n c, q.2 = .slice a n c := fun q hq => by
  obtain ⟨a, c, e⟩ := pins_slice (rels_pins h q hq)
  exact ⟨a, _, c, e⟩
theorem infoK : (Tryz.prog.info? 98).map (fun i => (i.zero, i.size, i.bytes)) = some (some (.agg #[.int .i64 0, .int .i64 0, .bool false]), 3, 24) := by kernel_rfl
theorem infoRl : (Tryz.prog.info? 24).map (fun i => (i.zero, i.size, i.bytes)) = some (some (.agg #[.int .i64 0, .slice none 0 0]), 2, 32) := by kernel_rfl
theorem eqNilK (A : Option Addr) (n c : Nat) (w : World) : (binOp .eql 47 (.slice A n c) (.slice none 0 0)).run Tryz.prog w = .ok (.bool A.isNone) w := by
  have h := run_equal_slice_nil (P := Tryz.prog) w 47 98 A n c Tryz.underlying47
  simp [binOp, h]
theorem eqNilRl (A : Option Addr) (n c : Nat) (w : World) : (binOp .eql 46 (.slice A n c) (.slice none 0 0)).run Tryz.prog w = .ok (.bool A.isNone) w := by
  have h := run_equal_slice_nil (P := Tryz.prog) w 46 24 A n c Tryz.underlying46
  simp [binOp, h]
set_option maxHeartbeats 2000000 in
theorem cloneK_any (v : Value) (ks : List Ld.Known) (w : World) (hL : KnowsAt w v ks) (h1 : 1 ≤ ks.length) (h2 : ks.length ≤ 100) :
    Calls Tryz.prog 71 #[v] w fun e w' => (∃ g c, e = .returned (.slice (some ⟨g, 0, none⟩) ks.length c) ∧ w.heap.size ≤ g ∧ ks.length ≤ c ∧ Row w' g (flatK ks)) ∧ Below w.heap.size w w' := by
  obtain ⟨i0, hi, hz0, hz1, hz2⟩ := info_parts infoK
  obtain ⟨_, A, b, o, c, rfl, _, _, hA, hC⟩ := hL
  obtain ⟨rfl, hb⟩ := hA (by omega)
  have HNW : Hid (∀ j u, (flatK ks)[j]? = some u → (w.alloc (.cells #[] 98)).cell? ((⟨b, o, none⟩ : Addr).add j) = some u) := fun j u hj => by
    have hadd : (⟨b, o, none⟩ : Addr).add j = ⟨b, o + j, none⟩ := by unfold Addr.add; split <;> simp_all
    have hjl : j < ks.length * 3 := by have := (List.getElem?_eq_some_iff.1 hj).1; rwa [flatK_len] at this
    rw [hadd, ((Below.refl _ w).alloc (Nat.le_refl _) _).cell (p := ⟨b, o + j, none⟩) hb]
    obtain ⟨c0, c1, c2⟩ := hC (j / 3) (by omega)
    have hq : j = j / 3 * 3 + 0 ∨ j = j / 3 * 3 + 1 ∨ j = j / 3 * 3 + 2 := by omega
    rcases hq with hq | hq | hq
    · rw [hq, flatK_at ks (j / 3) (by omega) 0 (by omega)] at hj
      rw [hq, Nat.add_zero, c0]; exact hj
    · rw [hq, flatK_at ks (j / 3) (by omega) 1 (by omega)] at hj
      rw [hq, ← Nat.add_assoc, c1]; exact hj
    · rw [hq, flatK_at ks (j / 3) (by omega) 2 (by omega)] at hj
      rw [hq, ← Nat.add_assoc, c2]; exact hj
  have hq := eqNilK (some ⟨b, o, none⟩) ks.length c
  clear hA hC
  go_enter Tryz.func71, Tryz.ntmps71
  go_wp2_with (at_builtin; refine wpList_append_own _ rfl _ _ 47 rfl w.heap.size 98 i0 (.agg #[.int .i64 0, .int .i64 0, .bool false]) 3 24 Tryz.underlying47 hi hz0 hz1 hz2 rfl (by decide) _ 0 [] rfl (World.ownsRow_made w #[] 0 (Nat.le_refl _) (by decide) rfl) ⟨b, o, none⟩ ks.length c (flatK ks) rfl (flatK_len ks) HNW.out (flatK_one ks) ?c3 ?c4 ?c5 ?_)
  case c3 => unfold maxLen; omega
  case c4 => omega
  case c5 => simp
  intro v' w3 hown hgrow _
  obtain ⟨g, c', rfl, hg1, hg2, hR⟩ := row_owns hown h1
  have HR : Hid (Row w3 g (flatK ks)) := hR
  have HB3 : Hid (Below w.heap.size w w3) := ((Below.refl _ w).alloc (Nat.le_refl _) _).grown hgrow (by simp) (fun q hq => by cases hq; exact Nat.le_refl _)
  clear hown hgrow hR
  go_wp2
  go_ret
  exact ⟨⟨g, c', rfl, hg1, hg2, HR.out⟩, HB3.out⟩
set_option maxHeartbeats 2000000 in
theorem cloneRl_any (v : Value) (ps : List ((Int × List (Int × Int)) × Value)) (w : World) (hL : RelsAt w v ps) (h1 : 1 ≤ ps.length) (h2 : ps.length ≤ 100) :
    Calls Tryz.prog 97 #[v] w fun e w' => (∃ g c, e = .returned (.slice (some ⟨g, 0, none⟩) ps.length c) ∧ w.heap.size ≤ g ∧ ps.length ≤ c ∧ Row w' g (flatL ps) ∧ Cap w' g 24 (c * 2) ∧ c ≤ maxLen) ∧ Below w.heap.size w w' := by
  obtain ⟨i0, hi, hz0, hz1, hz2⟩ := info_parts infoRl
  have hone := flatL_one (rels_one hL)
  obtain ⟨_, A, c, rfl, _, hA0, hA, hC, _⟩ := hL
  cases A with
  | none => exact absurd (hA0 rfl).2 (by omega)
  | some ad =>
  obtain ⟨hs, hb⟩ := hA ad rfl (by omega)
  obtain ⟨b, o, sp⟩ := ad
  simp only at hs hb
  subst hs
  have HNW : Hid (∀ j u, (flatL ps)[j]? = some u → (w.alloc (.cells #[] 24)).cell? ((⟨b, o, none⟩ : Addr).add j) = some u) := fun j u hj => by
    have := hC _ rfl j u hj
    rw [WideShapes.add_plain] at this ⊢
    exact (((Below.refl _ w).alloc (Nat.le_refl _) _).cell (p := ⟨b, o + j, none⟩) hb).trans this
  have hq := eqNilRl (some ⟨b, o, none⟩) ps.length c
  clear hA hC hA0
  go_enter Tryz.func97, Tryz.ntmps97
  go_wp2_with (at_builtin; refine wpList_append_own _ rfl _ _ 46 rfl w.heap.size 24 i0 (.agg #[.int .i64 0, .slice none 0 0]) 2 32 Tryz.underlying46 hi hz0 hz1 hz2 rfl (by decide) _ 0 [] rfl (World.ownsRow_made w #[] 0 (Nat.le_refl _) (by decide) rfl) ⟨b, o, none⟩ ps.length c (flatL ps) rfl (flatL_len ps) HNW.out hone ?c3 ?c4 ?c5 ?_)
  case c3 => unfold maxLen; omega
  case c4 => omega
  case c5 => simp
  intro v' w3 hown hgrow _
  obtain ⟨g, c', rfl, hg1, hg2, hR⟩ := row_owns hown h1
  have HR : Hid (Row w3 g (flatL ps)) := hR
  have HCP : Hid (Cap w3 g 24 (c' * 2) ∧ c' ≤ maxLen) := row_cap hown
  have HB3 : Hid (Below w.heap.size w w3) := ((Below.refl _ w).alloc (Nat.le_refl _) _).grown hgrow (by simp) (fun q hq => by cases hq; exact Nat.le_refl _)
  clear hown hgrow hR
  go_wp2
  go_ret
  exact ⟨⟨g, c', rfl, hg1, hg2, HR.out, HCP.out⟩, HB3.out⟩
end Go.Proofs.YtpenkhehceglfaaGreatDoor
