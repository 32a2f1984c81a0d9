/- The contracts of lead.waveNow, lead.hasAgent, lead.isTurn, lead.isOver; slices.IndexFunc and slices.ContainsFunc at what is known of agents. -/
import Derived.Test.YtmlhipdfjnamiaaGreatLV4
import Derived.Deep.OwnRows
import Derived.Laws.OwnMore
namespace Go.Proofs.YtmlhipdfjnamiaaGreat
open Go.RowKit
def thr (ks : List Ld.Known) : List Bool := ks.map fun a => a.st == 2 || a.st == 3
theorem made_bools (n : Nat) : madeCells #[.bool false] n = Array.replicate n (.bool false) := by
  apply Array.ext'
  rw [toList_madeCells_one]; simp
def TBl : TypeId := 4
theorem put_bools {w : World} {g k : Nat} {bs : List Bool} {t : TypeId} (h : Blk w g (bs.map Value.bool).toArray t) (x : Bool) : Blk (w.setCell ⟨g, k, none⟩ (.bool x)) g ((bs.set k x).map Value.bool).toArray t := by
  have := h.put k (.bool x)
  rw [List.map_set]
  simpa using this
theorem bools_blk {w : World} {g n : Nat} {bs : List Bool} {t : TypeId} (h : Blk w g (bs.map Value.bool).toArray t) (hn : n = bs.length) (hl : bs.length ≤ 1000) : BoolsAt w (.slice (some ⟨g, 0, none⟩) n n) bs := by
  refine ⟨by omega, some ⟨g, 0, none⟩, g, 0, n, by rw [hn], by omega, fun _ => ⟨rfl, h.lt⟩, fun j hj => ?_⟩
  rw [h.cell (0 + j)]
  simp [List.getD_eq_getElem?_getD, hj]
theorem thr_step {ks : List Ld.Known} {k : Nat} (h : k < ks.length) : ((thr ks).take k ++ List.replicate (ks.length - k) false).set k ((ks.getD k ⟨0, 0, false⟩).st == 2 || (ks.getD k ⟨0, 0, false⟩).st == 3) = (thr ks).take (k + 1) ++ List.replicate (ks.length - (k + 1)) false := by
  have hl : ((thr ks).take k).length = k := by simp [thr]; omega
  have hl2 : k < (thr ks).length := by simpa [thr] using h
  rw [List.set_append_right _ _ (by omega), hl, Nat.sub_self, show ks.length - k = (ks.length - (k + 1)) + 1 from by omega, List.replicate_succ, List.set_cons_zero, List.take_succ_eq_append_getElem hl2, List.append_assoc]
  simp [thr, List.getD_eq_getElem?_getD, h]
set_option maxHeartbeats 4000000 in
set_option maxRecDepth 100000 in
theorem waveNow_any (f d nw g nx : Int) (bk : Bool) (a1 a2 a4 : Option Addr) (n1 c1 n2 c2 n4 c4 : Nat) (W : List (List Int)) (ks : List Ld.Known) (D Z : Value) (w : World) (hW : WavesAt w D W) (hL : KnowsAt w Z ks) (hlen : ks.length ≤ 100) :
    Calls Tryz.prog 82 #[.agg #[.int .i64 f, .slice a1 n1 c1, .slice a2 n2 c2, D, .int .i64 d], .agg #[.slice a4 n4 c4, .int .i64 nw, .int .i64 g, .bool bk, Z, .int .i64 nx]] w fun e w' => e = .returned (.int .i64 (nowOf W (thr ks))) ∧ Below w.heap.size w w' := by
  obtain ⟨a3, c3, rfl⟩ := waves_slice hW
  obtain ⟨a5, c5, rfl⟩ := knows_slice hL
  have HL : Hid (KnowsAt w (.slice a5 ks.length c5) ks) := hL
  have HW : Hid (WavesAt w (.slice a3 W.length c3) W) := hW
  clear hL hW
  generalize W.length = n3 at HW ⊢
  obtain ⟨hB0, hK0, hK1⟩ := box2 w #[.int .i64 f, .slice a1 n1 c1, .slice a2 n2 c2, .slice a3 n3 c3, .int .i64 d] #[.slice a4 n4 c4, .int .i64 nw, .int .i64 g, .bool bk, .slice a5 ks.length c5, .int .i64 nx] 28 32
  have k4 := hK1.cell 4
  simp only [List.getElem?_toArray, List.getElem?_cons_zero, List.getElem?_cons_succ] at k4
  have HB0 : Hid (Below w.heap.size w _) := hB0
  have HK0 : Hid (Blk _ w.heap.size _ _) := hK0
  clear hB0 hK0 hK1
  have hmk := fun w' => run_make_row' (P := Tryz.prog) 128 4 (.bool false) 1 Tryz.underlying128 infoBool rfl .i64 .i64 ks.length (by omega) (by omega) w'
  rw [made_bools] at hmk
  go_enter Tryz.func82, Tryz.ntmps82
  go_wp2
  generalize hV : ((w.alloc (.cells #[.int .i64 f, .slice a1 n1 c1, .slice a2 n2 c2, .slice a3 n3 c3, .int .i64 d] 28)).alloc (.cells #[.slice a4 n4 c4, .int .i64 nw, .int .i64 g, .bool bk, .slice a5 ks.length c5, .int .i64 nx] 32)) = V at k4 HB0 HK0 ⊢
  have hsz : V.heap.size = w.heap.size + 1 + 1 := by rw [← hV]; simp
  have hx := box1 V (Array.replicate ks.length (.bool false)) 4
  have HX : Hid (Below V.heap.size V (V.alloc (.cells (Array.replicate ks.length (.bool false)) 4))) := hx.1
  have HY : Hid (Blk (V.alloc (.cells (Array.replicate ks.length (.bool false)) 4)) (w.heap.size + 1 + 1) (((thr ks).take 0 ++ List.replicate (ks.length - 0) false).map Value.bool).toArray 4) := by
    have := hx.2
    rw [hsz] at this
    show Blk _ _ _ _
    simpa using this
  have hgV : w.heap.size ≤ V.heap.size := HB0.out.size
  have hgV2 : w.heap.size < V.heap.size := HK0.out.lt
  clear hx hmk k4
  go_loopg [17] ks.length (fun g' s17 wr => ∃ k : Nat, k ≤ ks.length ∧ ks.length - k ≤ g' ∧ s17 = .int .i64 k ∧ Hid (Blk wr w.heap.size #[.int .i64 f, .slice a1 n1 c1, .slice a2 n2 c2, .slice a3 n3 c3, .int .i64 d] 28) ∧ Hid (Below w.heap.size w wr) ∧ Hid (Blk wr (w.heap.size + 1 + 1) (((thr ks).take k ++ List.replicate (ks.length - k) false).map Value.bool).toArray 4))
  case atStart => exact ⟨0, Nat.zero_le _, by omega, rfl, HK0.out.below HX.out, HB0.out.trans (HX.out.mono hgV), HY.out⟩
  case round =>
    obtain ⟨k, hk, hg, rfl, HK, HB, HT⟩ := hrel
    clear HB0 HK0 HX HY
    by_cases hlt : k < ks.length
    · obtain ⟨b, o, rfl, hbw, g1, g2, g3⟩ := knows_at (HL.out.below HB.out) hlt
      have hst := thr_step hlt
      have HST : Hid (((thr ks).take k ++ List.replicate (ks.length - k) false).set k ((ks.getD k ⟨0, 0, false⟩).st == 2 || (ks.getD k ⟨0, 0, false⟩).st == 3) = (thr ks).take (k + 1) ++ List.replicate (ks.length - (k + 1)) false) := hst
      have hcur : wr.cell? ⟨w.heap.size + 1 + 1, k, none⟩ = some (.bool false) := by
        rw [HT.out.cell k]
        have hl : ((thr ks).take k).length = k := by simp [thr]; omega
        simp only [List.getElem?_toArray, List.getElem?_map]
        rw [List.getElem?_append_right (by omega), hl, Nat.sub_self]
        rw [show ks.length - k = (ks.length - (k + 1)) + 1 from by omega, List.replicate_succ]; rfl
      clear hst
      generalize ks.getD k ⟨0, 0, false⟩ = p at g1 g2 g3 HST
      obtain ⟨s, t, bb⟩ := p
      simp only at g1 g2 g3 HST
      have HKP : Hid (∀ w', Calls Tryz.prog 85 #[.agg #[.int .i64 s, .int .i64 t, .bool bb]] w' fun e w'' => e = .returned (.bool (s == 2 || s == 3)) ∧ Below w'.heap.size w' w'') := fun w' => through_any s t bb w'
      generalize (s == 2 || s == 3) = z at HKP HST
      have HX0 : Hid (Below wr.heap.size wr (wr.alloc (.cells #[.int .i64 s, .int .i64 t, .bool bb] 54))) := (box1 wr _ _).1
      have hklt : (k : Int) < ks.length := by omega
      go_wp2_with fail
      refine (HKP.out _).mono ?_
      rintro e w1 ⟨rfl, hb1⟩
      have hbb := HX0.out.trans (hb1.mono HX0.out.size)
      have HB1 : Hid (Below w.heap.size w w1) := HB.out.trans (hbb.mono HB.out.size)
      have HK1 : Hid (Blk w1 w.heap.size #[.int .i64 f, .slice a1 n1 c1, .slice a2 n2 c2, .slice a3 n3 c3, .int .i64 d] 28) := HK.out.below hbb
      have HT1 : Hid (Blk w1 (w.heap.size + 1 + 1) (((thr ks).take k ++ List.replicate (ks.length - k) false).map Value.bool).toArray 4) := HT.out.below hbb
      have hc1 := (hbb.cell (p := ⟨w.heap.size + 1 + 1, k, none⟩) HT.out.lt).trans hcur
      have hf1 := HT1.out.free k
      clear hb1 hbb HX0 HB HK HKP HT hcur
      go_wp2
      go_roundg (ks.length - (k + 1))
      case measure => omega
      case rel => exact ⟨k + 1, by omega, by omega, by go_num, HK1.out.off (by omega), HB1.out.setCell (by simp only []; omega) _, by rw [← HST.out]; exact put_bools HT1.out z⟩
    · have hk' : k = ks.length := by omega
      have HTT : Hid (BoolsAt wr (.slice (some ⟨w.heap.size + 1 + 1, 0, none⟩) ks.length ks.length) (thr ks)) := by
        refine bools_blk (t := 4) ?_ (by simp [thr]) (by simp [thr]; omega)
        have := HT.out
        rw [hk', List.take_of_length_le (by simp [thr]), Nat.sub_self, List.replicate_zero, List.append_nil] at this
        exact this
      subst hk'
      have HN := nowP_any _ _ W (thr ks) wr (HW.out.below HB.out) HTT.out
      have kd := HK.out.cell 3
      simp only [List.getElem?_toArray, List.getElem?_cons_zero, List.getElem?_cons_succ] at kd
      clear hk hlt HT HK HTT
      go_wp2_with fail
      refine HN.mono ?_
      rintro e w1 ⟨rfl, hb1⟩
      have HB1 : Hid (Below w.heap.size w w1) := HB.out.trans (hb1.mono HB.out.size)
      clear hb1 HN
      go_wp2
      go_ret
      exact ⟨rfl, HB1.out⟩
def idxK (p : Ld.Known → Bool) : List Ld.Known → Int → Int
  | [], _ => -1
  | x :: r, k => if p x = true then k else idxK p r (k + 1)
theorem idxK_any {p : Ld.Known → Bool} {l : List Ld.Known} : ∀ {k : Int}, 0 ≤ k → decide (0 ≤ idxK p l k) = l.any p := by
  induction l with
  | nil => intro k _; simp [idxK]
  | cons x r ih =>
    intro k hk
    rw [idxK, List.any_cons]
    by_cases h : p x = true
    · rw [if_pos h, h]; simp [hk]
    · rw [if_neg h, ih (by omega)]; simp [h]
set_option maxHeartbeats 4000000 in
theorem indexK_any (v : Value) (ks : List Ld.Known) (f : Nat) (p : Ld.Known → Bool) (w : World) (hL : KnowsAt w v ks) (eg : ∀ args w, (callFunc f args).run Tryz.prog w = .ok (.enter f args) w)
    (hF : ∀ a w', Calls Tryz.prog f #[.agg #[.int .i64 a.st, .int .i64 a.tr, .bool a.back]] w' fun e w'' => e = .returned (.bool (p a)) ∧ Below w'.heap.size w' w'') :
    Calls Tryz.prog 95 #[v, .func (.func f) #[] #[]] w fun e w' => e = .returned (.int .i64 (idxK p ks 0)) ∧ Below w.heap.size w w' := by
  obtain ⟨a5, c5, rfl⟩ := knows_slice hL
  have HL : Hid (KnowsAt w (.slice a5 ks.length c5) ks) := hL
  have hlen := hL.1
  have HF : Hid (∀ (a : Ld.Known) (w' : World), Calls Tryz.prog f #[.agg #[.int .i64 a.st, .int .i64 a.tr, .bool a.back]] w' fun e w'' => e = .returned (.bool (p a)) ∧ Below w'.heap.size w' w'') := hF
  clear hL hF
  go_enter Tryz.func95, Tryz.ntmps95
  go_wp2
  go_loopg [8] ks.length (fun g s8 wr => ∃ k : Nat, k ≤ ks.length ∧ ks.length - k ≤ g ∧ s8 = .int .i64 k ∧ Hid (idxK p (ks.drop k) k = idxK p ks 0) ∧ Hid (Below w.heap.size w wr))
  case atStart => exact ⟨0, Nat.zero_le _, by omega, rfl, rfl, Below.refl _ _⟩
  case round =>
    obtain ⟨k, hk, hgk, rfl, H, HB⟩ := hrel
    by_cases hlt : k < ks.length
    · obtain ⟨b, o, rfl, hbw, g1, g2, g3⟩ := knows_at (HL.out.below HB.out) hlt
      have hd := dropKn ks k hlt
      have hcl := HF.out (ks.getD k ⟨0, 0, false⟩) wr
      have HR1 : Hid (p (ks.getD k ⟨0, 0, false⟩) = true → idxK p ks 0 = k) := fun h => by rw [← H.out, hd, idxK, if_pos h]
      have HR2 : Hid (p (ks.getD k ⟨0, 0, false⟩) = false → idxK p (ks.drop (k + 1)) ((k + 1 : Nat) : Int) = idxK p ks 0) := fun h => by
        have := H.out
        rw [hd, idxK, if_neg (by rw [h]; decide)] at this
        exact this
      generalize ks.getD k ⟨0, 0, false⟩ = q at g1 g2 g3 hcl HR1 HR2
      obtain ⟨s, t, bb⟩ := q
      simp only at g1 g2 g3 hcl
      clear hd HF H
      cases hp : p ⟨s, t, bb⟩ with
      | true =>
        have HR : Hid (idxK p ks 0 = k) := HR1.out hp
        rw [hp] at hcl
        clear hp HR1 HR2
        go_wp2_with fail
        refine hcl.mono ?_
        rintro e w1 ⟨rfl, hb1⟩
        have HB1 : Hid (Below w.heap.size w w1) := HB.out.trans (hb1.mono HB.out.size)
        clear hb1 hcl
        go_wp2
        go_ret
        exact ⟨by rw [HR.out]; rfl, HB1.out⟩
      | false =>
        have HR : Hid (idxK p (ks.drop (k + 1)) ((k + 1 : Nat) : Int) = idxK p ks 0) := HR2.out hp
        rw [hp] at hcl
        clear hp HR1 HR2
        go_wp2_with fail
        refine hcl.mono ?_
        rintro e w1 ⟨rfl, hb1⟩
        have HB1 : Hid (Below w.heap.size w w1) := HB.out.trans (hb1.mono HB.out.size)
        clear hb1 hcl
        go_wp2
        go_roundg (ks.length - (k + 1))
        case measure => omega
        case rel => exact ⟨k + 1, by omega, by omega, by go_num, HR, HB1⟩
    · have hk' : k = ks.length := by omega
      have HR : Hid (idxK p ks 0 = -1) := by rw [← H.out, hk', List.drop_length]; rfl
      subst hk'
      clear hk hlt H
      go_wp2
      go_ret
      exact ⟨by rw [HR.out]; rfl, HB.out⟩
set_option maxHeartbeats 1000000 in
theorem containsK_any (v : Value) (ks : List Ld.Known) (f : Nat) (p : Ld.Known → Bool) (w : World) (hL : KnowsAt w v ks) (eg : ∀ args w, (callFunc f args).run Tryz.prog w = .ok (.enter f args) w)
    (hF : ∀ a w', Calls Tryz.prog f #[.agg #[.int .i64 a.st, .int .i64 a.tr, .bool a.back]] w' fun e w'' => e = .returned (.bool (p a)) ∧ Below w'.heap.size w' w'') :
    Calls Tryz.prog 87 #[v, .func (.func f) #[] #[]] w fun e w' => e = .returned (.bool (ks.any p)) ∧ Below w.heap.size w w' := by
  have HC := indexK_any v ks f p w hL eg hF
  have HM : Hid (decide (0 ≤ idxK p ks 0) = ks.any p) := idxK_any (by decide)
  clear hL hF eg
  go_enter Tryz.func87, Tryz.ntmps87
  go_wp2_with fail
  refine HC.mono ?_
  rintro e w1 ⟨rfl, hb1⟩
  have HB1 : Hid (Below w.heap.size w w1) := hb1
  clear hb1 HC
  go_wp2
  go_ret
  exact ⟨by rw [← HM.out]; rfl, HB1.out⟩
set_option maxHeartbeats 1000000 in
theorem hasAgent_any (nw g nx k : Int) (bk : Bool) (a4 a5 : Option Addr) (n4 c4 n5 c5 : Nat) (w : World) (h5 : n5 ≤ 140737488355328) :
    Calls Tryz.prog 63 #[.agg #[.slice a4 n4 c4, .int .i64 nw, .int .i64 g, .bool bk, .slice a5 n5 c5, .int .i64 nx], .int .i64 k] w fun e w' => e = .returned (.bool (decide (0 ≤ k ∧ k < n5))) ∧ Below w.heap.size w w' := by
  have HB : Hid (∀ O, Below w.heap.size w (w.alloc O)) := fun O => (Below.refl _ w).alloc (Nat.le_refl _) O
  have HF : Hid (¬ (0 ≤ k ∧ k < (n5 : Int)) → decide (0 ≤ k ∧ k < (n5 : Int)) = false) := fun h => decide_eq_false h
  have HT : Hid (0 ≤ k → k < (n5 : Int) → decide (0 ≤ k ∧ k < (n5 : Int)) = true) := fun h h' => decide_eq_true ⟨h, h'⟩
  generalize decide (0 ≤ k ∧ k < (n5 : Int)) = Q at HF HT ⊢
  by_cases p1 : 0 ≤ k
  rotate_left
  · have p1' : decide (0 ≤ k) = false := decide_eq_false p1
    have HQ : Hid (Q = false) := HF.out (by omega)
    clear HF HT
    go_enter Tryz.func63, Tryz.ntmps63
    go_wp2_with go_in
    go_ret
    exact ⟨by rw [HQ.out]; rfl, HB.out _⟩
  by_cases p2 : k < n5
  · have p2' : k ≤ (n5 : Int) - 1 := by omega
    have HQ : Hid (Q = true) := HT.out p1 p2
    clear HF HT
    go_enter Tryz.func63, Tryz.ntmps63
    go_wp2_with go_in
    go_ret
    exact ⟨by rw [HQ.out]; rfl, HB.out _⟩
  · have p2' : decide (k ≤ (n5 : Int) - 1) = false := decide_eq_false (by omega)
    have HQ : Hid (Q = false) := HF.out (by omega)
    clear HF HT
    go_enter Tryz.func63, Tryz.ntmps63
    go_wp2_with go_in
    go_ret
    exact ⟨by rw [HQ.out]; rfl, HB.out _⟩
end Go.Proofs.YtmlhipdfjnamiaaGreat
