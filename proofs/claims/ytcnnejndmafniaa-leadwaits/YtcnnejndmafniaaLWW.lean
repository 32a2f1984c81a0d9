/- The walk of the law LeadWaits. -/
import Derived.Test.YtcnnejndmafniaaLL1
import Derived.Test.YtcnnejndmafniaaLVL
import Derived.Deep.CutBlock
namespace Go.Proofs.Ytcnnejndmafniaa
open Go.RowKit
theorem rels_take {w : World} {p : Option Addr} {n c : Nat} {ps : List ((Int × List (Int × Int)) × Value)} (h : RelsAt w (.slice p n c) ps) (k : Nat) (hk : k ≤ ps.length) : RelsAt w (.slice p k c) (ps.take k) := by
  obtain ⟨hl, p', c', e, hc, h1, h2, h3, h4⟩ := h
  simp only [Value.slice.injEq] at e
  obtain ⟨rfl, rfl, rfl⟩ := e
  have hlen : (ps.take k).length = k := by rw [List.length_take]; omega
  refine ⟨by omega, p, c, by rw [hlen], by omega, fun e => ⟨(h1 e).1, by have := (h1 e).2; omega⟩, fun ad ha h0 => h2 ad ha (by omega), fun ad ha j u hu => h3 ad ha j u ?_, fun q hq => h4 q (List.mem_of_mem_take hq)⟩
  have e : flatL ps = flatL (ps.take k) ++ flatL (ps.drop k) := by rw [← flatL_append, List.take_append_drop]
  have hj := (List.getElem?_eq_some_iff.1 hu).1
  rw [e, List.getElem?_append_left hj]
  exact hu
/-- releases, held against the first of others -/
theorem equalFL_part {Y Y2 : Value} {l : List (Int × List (Int × Int))} {p : Option Addr} {n c : Nat} {w : World} {m : List (Int × List (Int × Int))} (hA : RelAt w (.slice p n c) (l ++ m)) (hB : RelAt w Y l) (h1 : Y2 = .slice p l.length c) :
    Calls Try.prog 25 #[Y2, Y, .func (.func 26) #[] #[]] w fun e w' => e = .returned (.bool true) ∧ Below w.heap.size w w' := by
  subst h1
  obtain ⟨ps, h1, h2⟩ := hA
  obtain ⟨qs, h3, h4⟩ := hB
  have hl : l.length ≤ ps.length := by have := congrArg List.length h2; rw [List.length_map, List.length_append] at this; omega
  have := equalFL_any 26 (fun _ _ => by simp [go_sem]) (fun x y => Lk.alike x.1 x.2 y.1 y.2) (fun r q v u w h h' => alike_any r.1 q.1 v u r.2 q.2 w h h') _ Y (ps.take l.length) qs w (rels_take h1 l.length hl) h3
  rw [all2r_rels, h4, List.map_take, h2, List.take_append_of_le_length (Nat.le_refl _), List.take_length, (Ld.sameRels_iff _ _).2 rfl] at this
  exact this
/-- what a round of LeadWaits learns -/
def waitF (X Y : Ld.Leader) (r : Lk.Note) : Prop := X.next ≤ Y.next ∧ (∃ m, Y.rels = X.rels ++ m) ∧ (r.kind ≠ 9 → Y.now = X.now)
def waitS (W : List (List Int)) (d : Int) (l : Ld.Leader) (r : Lk.Note) : Prop := (0 ≤ r.agent ∧ r.agent < l.ags.length) ∧ (l.ags.getD r.agent.toNat ⟨0, 0, false⟩).st = 0 ∧ (Ld.count l 3 : Int) ≤ d ∧ ∀ k : Nat, k < l.ags.length → Wv.of W k < Wv.of W r.agent → (l.ags.getD k ⟨0, 0, false⟩).st = 2 ∨ (l.ags.getD k ⟨0, 0, false⟩).st = 3
theorem waits_s {cf : Ld.Config} {l : Ld.Leader} {r : Lk.Note} (h : (Ld.nextL cf l r).2 = 0) (h1 : r.kind = 6) (h2 : l.back = false) : waitS cf.waves cf.budget l r := by
  obtain ⟨q1, q2, q3, q4⟩ := Ld.send_waits h h1 h2
  obtain ⟨_, _, _, _, _, _, _, g8⟩ := (Ld.lead_iff cf l).1 (Ld.next_chk h).1
  refine ⟨q1, q2, q3, fun k hk hw => ?_⟩
  have b := ((Ld.known_iff _ _ _ _).1 (g8 _ (Ld.mem_getDK hk))).1
  have := q4 k hk hw
  omega
set_option maxHeartbeats 16000000 in
set_option maxRecDepth 100000 in
theorem waits_any (cf : Ld.Config) (A B D : Value) (ps : List (Lk.Note × Value)) (v : Value) (w : World) (hC : CfAt w cf A B D) (hRs : RecsAt w v ps) :
    Calls Try.prog 4 #[cfV cf A B D, v] w fun e w' => e = .returned (.bool true) ∧ Below w.heap.size w w' := by
  obtain ⟨va, vc, rfl⟩ := recs_slice hRs
  have hroom : ps.length ≤ vc := by
    obtain ⟨_, p', c', e, hc, _⟩ := hRs
    simp only [Value.slice.injEq] at e
    rw [e.2.2]; exact hc
  have hpl := hRs.1
  obtain ⟨m, hm⟩ : ∃ m, m = min ps.length 100 := ⟨_, rfl⟩
  have hmp : m ≤ ps.length := by omega
  have hmin : min (ps.length : Int) 100 = (m : Int) := by omega
  have hmc : (m : Int) ≤ (vc : Int) := by omega
  have HRS : Hid (RecsAt w (.slice va ps.length vc) ps) := hRs
  have HNW : Hid (∀ w', Below w.heap.size w w' → Calls Try.prog 6 #[cfV cf A B D] w' fun e w'' => leN w'' w'.heap.size (Ld.newL cf) e ∧ Below w'.heap.size w' w'') := fun w' hb => ldNew_any cf A B D w' (hC.below hb)
  have HLE : Hid (∀ w', Calls Try.prog 13 #[] w' fun e w'' => e = .returned (.bool true) ∧ Below w'.heap.size w' w'') := fun w' => led_any w'
  have HNX : Hid (∀ (ld : Ld.Leader) (Y Z : Value) (r : Lk.Note) (z : Value) (w' : World), Below w.heap.size w w' → LdAt w' ld Y Z → PinsAt w' z r.lock → Calls Try.prog 23 #[cfV cf A B D, leV ld Y Z, .agg #[.int .i64 r.kind, .int .i64 r.agent, .int .i64 r.tr, .int .i64 r.n, .bool r.good, .int .i64 r.id, z]] w' fun e w'' => leN w'' w'.heap.size (Ld.nextL cf ld r) e ∧ Below w'.heap.size w' w'') := fun ld Y Z r z w' hb h1 h2 => ldNext_any cf A B D ld Y Z r.kind r.agent r.tr r.n r.id r.good r.lock z w' (hC.below hb) h1 h2
  have HCK : Hid (∀ (ld : Ld.Leader) (Y Z : Value) (w' : World), Below w.heap.size w w' → LdAt w' ld Y Z → Calls Try.prog 15 #[cfV cf A B D, leV ld Y Z] w' fun e w'' => e = .returned (.int .i64 (Ld.chkLeader cf ld)) ∧ Below w'.heap.size w' w'') := fun ld Y Z w' hb h1 => ldCheck_any cf A B D ld Y Z w' (hC.below hb) h1
  have F1 : Hid (¬ Ld.chkConfig cf = 0 → Ld.newL cf = (Ld.Leader.none, Ld.chkConfig cf)) := fun h => by unfold Ld.newL; rw [if_neg h]
  have F2 : Hid (Ld.chkConfig cf = 0 → Ld.newL cf = (Ld.freshL cf, 0)) := fun h => by unfold Ld.newL; rw [if_pos h]
  have F3 : Hid (∀ l r, (Ld.nextL cf l r).2 = 0 → Ld.chkLeader cf (Ld.nextL cf l r).1 = 0) := fun l r h => (Ld.next_chk h).2.2
  have F4 : Hid (∀ l r, (Ld.nextL cf l r).2 = 0 → waitF l (Ld.nextL cf l r).1 r) := fun l r h => Ld.next_rises h
  have F5 : Hid (∀ l r, (Ld.nextL cf l r).2 = 0 → r.kind = 6 → l.back = false → waitS cf.waves cf.budget l r) := fun l r h h1 h2 => waits_s h h1 h2
  obtain ⟨f, L, R, W, d⟩ := cf
  obtain ⟨a1, c1, rfl⟩ := pins_slice hC.1
  obtain ⟨a2, c2, rfl⟩ := rules_slice hC.2.1
  obtain ⟨a3, c3, rfl⟩ := waves_slice hC.2.2
  have HOF : Hid (∀ (k : Int) (w' : World), Below w.heap.size w w' → Calls Try.prog 24 #[.slice a3 W.length c3, .int .i64 k] w' fun e w'' => e = .returned (.int .i64 (Wv.of W k)) ∧ Below w'.heap.size w' w'') := fun k w' hb => ofP_any _ W k w' (hC.2.2.below hb)
  clear hC hRs hroom hpl hm
  unfold cfV cfC at HNW HNX HCK
  unfold cfV cfC
  simp only at HNW HNX HCK F5
  simp only
  generalize Ld.newL ⟨f, L, R, W, d⟩ = QN at F1 F2 HNW
  generalize Ld.chkConfig ⟨f, L, R, W, d⟩ = CK at F1 F2
  generalize Ld.freshL ⟨f, L, R, W, d⟩ = FL at F2
  generalize Ld.nextL ⟨f, L, R, W, d⟩ = NX at F3 F4 F5 HNX
  generalize Ld.chkLeader ⟨f, L, R, W, d⟩ = CL at F3 HCK
  generalize L.length = n1 at *
  generalize R.length = n2 at *
  generalize W.length = n3 at *
  obtain ⟨hB0, hK0⟩ := box1 w #[.int .i64 f, .slice a1 n1 c1, .slice a2 n2 c2, .slice a3 n3 c3, .int .i64 d] 28
  go_enter Try.func4, Try.ntmps4
  go_wp2_with fail
  generalize (w.alloc (.cells #[.int .i64 f, .slice a1 n1 c1, .slice a2 n2 c2, .slice a3 n3 c3, .int .i64 d] 28)) = V at hB0 hK0 ⊢
  refine (HNW.out _ hB0).mono ?_
  rintro e w1 ⟨⟨Y, Z, rfl, hnew⟩, hb1⟩
  have hY := hnew.here
  obtain ⟨a4, c4, rfl⟩ := relA_slice hY.1
  obtain ⟨a5, c5, rfl⟩ := knows_slice hY.2
  have HB1 : Hid (Below w.heap.size w w1) := hB0.trans (hb1.mono hB0.size)
  have HK1 : Hid (Blk w1 w.heap.size #[.int .i64 f, .slice a1 n1 c1, .slice a2 n2 c2, .slice a3 n3 c3, .int .i64 d] 28) := hK0.below hb1
  have HNEW : Hid (New V.heap.size _ w1) := hnew
  have hVs : w.heap.size < V.heap.size := hK0.lt
  have hV1 : V.heap.size ≤ w1.heap.size := hb1.size
  clear hb1 hB0 hK0 HNW hnew hY
  by_cases h1 : CK = 0
  rotate_left
  · have e1 := F1.out h1
    have h1b : (CK != 0) = true := by rw [bne_iff_ne]; exact h1
    subst e1
    simp only [leV, leC, Ld.Leader.none, List.length_nil]
    have HBA : Hid (∀ O, Below w.heap.size w (w1.alloc O)) := fun O => HB1.out.alloc HB1.out.size _
    clear F1 F2 F3 F4 F5 h1 HNX HRS HNEW HK1 HCK HOF
    go_wp2_with fail
    refine (HLE.out _).mono ?_
    rintro e w2 ⟨rfl, hb2⟩
    have HB2 : Hid (Below w.heap.size w w2) := (HBA.out _).trans (hb2.mono (HBA.out _).size)
    clear hb2 HBA HB1
    go_wp2_with fail
    refine (HLE.out _).mono ?_
    rintro e w3 ⟨rfl, hb3⟩
    have HB3 : Hid (Below w.heap.size w w3) := HB2.out.trans (hb3.mono HB2.out.size)
    clear hb3 HB2
    go_wp2
    go_ret
    exact ⟨rfl, HB3.out⟩
  have hqn := F2.out h1
  subst hqn
  clear F1 F2 h1
  obtain ⟨rs, nw, g, bk, ks, nx⟩ := FL
  simp only at HNEW
  simp only [leV, leC]
  have hbA : Below w1.heap.size w1 (w1.alloc (.cells #[.slice a4 rs.length c4, .int .i64 nw, .int .i64 g, .bool bk, .slice a5 ks.length c5, .int .i64 nx] 32)) := (Below.refl _ _).alloc (Nat.le_refl _) _
  have HBA : Hid (Below w.heap.size w (w1.alloc (.cells #[.slice a4 rs.length c4, .int .i64 nw, .int .i64 g, .bool bk, .slice a5 ks.length c5, .int .i64 nx] 32))) := HB1.out.alloc HB1.out.size _
  have HKA : Hid (Blk (w1.alloc (.cells #[.slice a4 rs.length c4, .int .i64 nw, .int .i64 g, .bool bk, .slice a5 ks.length c5, .int .i64 nx] 32)) w.heap.size #[.int .i64 f, .slice a1 n1 c1, .slice a2 n2 c2, .slice a3 n3 c3, .int .i64 d] 28) := HK1.out.below hbA
  have HGA : Hid (Blk (w1.alloc (.cells #[.slice a4 rs.length c4, .int .i64 nw, .int .i64 g, .bool bk, .slice a5 ks.length c5, .int .i64 nx] 32)) w1.heap.size #[.slice a4 rs.length c4, .int .i64 nw, .int .i64 g, .bool bk, .slice a5 ks.length c5, .int .i64 nx] 32) := blk_alloc w1 _ _
  have HLA : Hid (Off w1.heap.size (fun w => LdAt w ⟨rs, nw, g, bk, ks, nx⟩ (.slice a4 rs.length c4) (.slice a5 ks.length c5)) (w1.alloc (.cells #[.slice a4 rs.length c4, .int .i64 nw, .int .i64 g, .bool bk, .slice a5 ks.length c5, .int .i64 nx] 32))) := Keep.grow HNEW.out hbA (fun x hx => .inr (by omega))
  have hg6 : w.heap.size < w1.heap.size := by omega
  go_wp2_with fail
  generalize (w1.alloc (.cells #[.slice a4 rs.length c4, .int .i64 nw, .int .i64 g, .bool bk, .slice a5 ks.length c5, .int .i64 nx] 32)) = w2 at HBA HKA HGA HLA ⊢
  generalize w1.heap.size = g6 at HGA HLA hg6 ⊢
  clear HB1 HK1 HNEW hbA hVs hV1
  refine (HLE.out _).mono ?_
  rintro e w3 ⟨rfl, hb3⟩
  have hb3' := HBA.out.trans (hb3.mono HBA.out.size)
  have hK3 := HKA.out.below hb3
  have hG3 := HGA.out.below hb3
  have hL3 := Keep.below HLA.out hb3
  have HB3 : Hid (Below w.heap.size w w3) := hb3'
  have HK3 : Hid (Blk w3 w.heap.size #[.int .i64 f, .slice a1 n1 c1, .slice a2 n2 c2, .slice a3 n3 c3, .int .i64 d] 28) := hK3
  have HG3 : Hid (Blk w3 g6 #[.slice a4 rs.length c4, .int .i64 nw, .int .i64 g, .bool bk, .slice a5 ks.length c5, .int .i64 nx] 32) := hG3
  have HL3 : Hid (Off g6 (fun w => LdAt w ⟨rs, nw, g, bk, ks, nx⟩ (.slice a4 rs.length c4) (.slice a5 ks.length c5)) w3) := hL3
  clear hb3 hb3' hK3 hG3 hL3 HBA HKA HGA HLA HLE
  go_upto_region 4 with fail
  go_cut [30, 31, 32] from 26 to 32 (fun s30 s31 s32 wx => s30 = .slice va m vc ∧ s31 = .int .i64 m ∧ s32 = .int .i64 0 ∧ wx = w3)
  case first =>
    have q1 : (100 : Int) < ps.length → m = 100 := fun h => by omega
    have q2 : ¬ (100 : Int) < ps.length → m = ps.length := fun h => by omega
    go_wp2_with fail
    all_goals
      go_meet
      case rel =>
        first | exact ⟨by rw [q2 (by omega)], by rw [q2 (by omega)], rfl, rfl⟩ | (have e := q1 (by omega); subst e; exact ⟨rfl, rfl, rfl, rfl⟩)
  case rest =>
  obtain ⟨rfl, rfl, rfl, rfl⟩ := hcut
  have hm100 : (m : Int) ≤ 100 := by omega
  clear hmin hmc
  go_wp2
  go_loopg [32] m (fun gh s32 wr => ∃ (k : Nat) (ld : Ld.Leader) (Y Z : Value), k ≤ m ∧ m - k ≤ gh ∧ s32 = .int .i64 k ∧ Hid (Blk wr g6 #[Y, .int .i64 ld.now, .int .i64 ld.goal, .bool ld.back, Z, .int .i64 ld.next] 32) ∧ Hid (Blk wr w.heap.size #[.int .i64 f, .slice a1 n1 c1, .slice a2 n2 c2, .slice a3 n3 c3, .int .i64 d] 28) ∧ Hid (Off g6 (fun w => LdAt w ld Y Z) wr) ∧ Hid (Below w.heap.size w wr))
  case atStart => exact ⟨0, ⟨rs, nw, g, bk, ks, nx⟩, _, _, Nat.zero_le _, by omega, rfl, HG3, HK3, HL3, HB3⟩
  case round =>
    clear HB3 HK3 HG3 HL3
    obtain ⟨k, ld, Y, Z, hk, hg, rfl, HGk, HKk, HLk, HBk⟩ := hrel
    obtain ⟨rs', nw', g', bk', ks', nx'⟩ := ld
    have hld := HLk.out.here
    obtain ⟨b4, e4, rfl⟩ := relA_slice hld.1
    obtain ⟨b5, e5, rfl⟩ := knows_slice hld.2
    have HLD : Hid (LdAt wr ⟨rs', nw', g', bk', ks', nx'⟩ _ _) := hld
    simp only at HGk HLk HLD
    clear hld
    have kg0 := HGk.out.cell 0
    have kg1 := HGk.out.cell 1
    have kg2 := HGk.out.cell 2
    have kg3 := HGk.out.cell 3
    have kg4 := HGk.out.cell 4
    have kg5 := HGk.out.cell 5
    simp only [List.getElem?_toArray, List.getElem?_cons_zero, List.getElem?_cons_succ] at kg0 kg1 kg2 kg3 kg4 kg5
    have kc0 := HKk.out.cell 0
    have kc1 := HKk.out.cell 1
    have kc2 := HKk.out.cell 2
    have kc3 := HKk.out.cell 3
    have kc4 := HKk.out.cell 4
    simp only [List.getElem?_toArray, List.getElem?_cons_zero, List.getElem?_cons_succ] at kc0 kc1 kc2 kc3 kc4
    have hl6 : g6 < wr.heap.size := HGk.out.lt
    have hlw : w.heap.size < wr.heap.size := HKk.out.lt
    by_cases hlt : k < m
    rotate_left
    · have hk' : k = m := by omega
      subst hk'
      clear hk hlt HNX HRS HLD HKk HGk F3 F4 F5 HCK HOF HLk
      go_wp2
      go_ret
      exact ⟨rfl, HBk.out⟩
    have hltp : k < ps.length := by omega
    have hat : ps[k]? = some (ps[k].1, ps[k].2) := List.getElem?_eq_getElem hltp
    obtain ⟨rb, ro, rfl, hrb, r0, r1, r2, r3, r4, r5, r6⟩ := recs_at (HRS.out.below HBk.out) hat
    have hP := recs_pins (HRS.out.below HBk.out) _ (List.getElem_mem hltp)
    have HNC := HNX.out ⟨rs', nw', g', bk', ks', nx'⟩ (.slice b4 rs'.length e4) (.slice b5 ks'.length e5) ps[k].1 ps[k].2
    generalize ps[k] = p at r0 r1 r2 r3 r4 r5 r6 hP HNC
    obtain ⟨⟨rk, ra, rt, rn, rg, ri, lk⟩, z⟩ := p
    simp only at r0 r1 r2 r3 r4 r5 r6 hP HNC
    obtain ⟨az, cz, rfl⟩ := pins_slice hP
    have hx := box1 wr #[.int .i64 rk, .int .i64 ra, .int .i64 rt, .int .i64 rn, .bool rg, .int .i64 ri, .slice az lk.length cz] 53
    have HCLL := HNC (wr.alloc (.cells #[.int .i64 rk, .int .i64 ra, .int .i64 rt, .int .i64 rn, .bool rg, .int .i64 ri, .slice az lk.length cz] 53)) (HBk.out.trans (hx.1.mono HBk.out.size)) (HLD.out.below hx.1) (hP.below hx.1)
    simp only [leV, leC] at HCLL
    have HX1 : Hid (Below wr.heap.size wr (wr.alloc (.cells #[.int .i64 rk, .int .i64 ra, .int .i64 rt, .int .i64 rn, .bool rg, .int .i64 ri, .slice az lk.length cz] 53))) := hx.1
    have HR1 : Hid (Blk (wr.alloc (.cells #[.int .i64 rk, .int .i64 ra, .int .i64 rt, .int .i64 rn, .bool rg, .int .i64 ri, .slice az lk.length cz] 53)) wr.heap.size #[.int .i64 rk, .int .i64 ra, .int .i64 rt, .int .i64 rn, .bool rg, .int .i64 ri, .slice az lk.length cz] 53) := hx.2
    have hklt : (k : Int) < m := by omega
    have f3 := F3.out ⟨rs', nw', g', bk', ks', nx'⟩ ⟨rk, ra, rt, rn, rg, ri, lk⟩
    have f4 := F4.out ⟨rs', nw', g', bk', ks', nx'⟩ ⟨rk, ra, rt, rn, rg, ri, lk⟩
    have f5 := F5.out ⟨rs', nw', g', bk', ks', nx'⟩ ⟨rk, ra, rt, rn, rg, ri, lk⟩
    clear hx hP HNC hat F3 F4 F5
    generalize NX ⟨rs', nw', g', bk', ks', nx'⟩ ⟨rk, ra, rt, rn, rg, ri, lk⟩ = q at HCLL f3 f4 f5
    obtain ⟨⟨rs2, nw2, g2, bk2, ks2, nx2⟩, E2⟩ := q
    simp only at f3 f4 f5
    have f3' : Hid _ := f3
    have f4' : Hid _ := f4
    have f5' : Hid _ := f5
    clear f3 f4 f5
    go_wp2_with fail
    refine HCLL.mono ?_
    rintro e w3 ⟨⟨Y2, Z2, rfl, hn2⟩, hb3⟩
    have hl2 := hn2.here
    obtain ⟨b42, e42, rfl⟩ := relA_slice hl2.1
    obtain ⟨b52, e52, rfl⟩ := knows_slice hl2.2
    have hb3' := HX1.out.trans (hb3.mono HX1.out.size)
    simp only [leV, leC]
    have hba : Below w3.heap.size w3 (w3.alloc (.cells #[.slice b42 rs2.length e42, .int .i64 nw2, .int .i64 g2, .bool bk2, .slice b52 ks2.length e52, .int .i64 nx2] 32)) := (Below.refl _ _).alloc (Nat.le_refl _) _
    have hb4 := hb3'.trans (hba.mono hb3'.size)
    have HK3 : Hid (Blk (w3.alloc (.cells #[.slice b42 rs2.length e42, .int .i64 nw2, .int .i64 g2, .bool bk2, .slice b52 ks2.length e52, .int .i64 nx2] 32)) w.heap.size #[.int .i64 f, .slice a1 n1 c1, .slice a2 n2 c2, .slice a3 n3 c3, .int .i64 d] 28) := HKk.out.below hb4
    have HG3 : Hid (Blk (w3.alloc (.cells #[.slice b42 rs2.length e42, .int .i64 nw2, .int .i64 g2, .bool bk2, .slice b52 ks2.length e52, .int .i64 nx2] 32)) g6 #[.slice b4 rs'.length e4, .int .i64 nw', .int .i64 g', .bool bk', .slice b5 ks'.length e5, .int .i64 nx'] 32) := HGk.out.below hb4
    have HL3 : Hid (Off g6 (fun w => LdAt w ⟨rs', nw', g', bk', ks', nx'⟩ (.slice b4 rs'.length e4) (.slice b5 ks'.length e5)) (w3.alloc (.cells #[.slice b42 rs2.length e42, .int .i64 nw2, .int .i64 g2, .bool bk2, .slice b52 ks2.length e52, .int .i64 nx2] 32))) := Keep.below HLk.out hb4
    have HY3 : Hid (Blk (w3.alloc (.cells #[.slice b42 rs2.length e42, .int .i64 nw2, .int .i64 g2, .bool bk2, .slice b52 ks2.length e52, .int .i64 nx2] 32)) w3.heap.size #[.slice b42 rs2.length e42, .int .i64 nw2, .int .i64 g2, .bool bk2, .slice b52 ks2.length e52, .int .i64 nx2] 32) := blk_alloc w3 _ _
    have HR3 : Hid (Blk (w3.alloc (.cells #[.slice b42 rs2.length e42, .int .i64 nw2, .int .i64 g2, .bool bk2, .slice b52 ks2.length e52, .int .i64 nx2] 32)) wr.heap.size #[.int .i64 rk, .int .i64 ra, .int .i64 rt, .int .i64 rn, .bool rg, .int .i64 ri, .slice az lk.length cz] 53) := HR1.out.below (hb3.trans (hba.mono hb3.size))
    have HB3 : Hid (Below w.heap.size w (w3.alloc (.cells #[.slice b42 rs2.length e42, .int .i64 nw2, .int .i64 g2, .bool bk2, .slice b52 ks2.length e52, .int .i64 nx2] 32))) := HBk.out.trans (hb4.mono HBk.out.size)
    have hsz := HX1.out.size
    have HN3 : Hid (Off g6 (fun w => LdAt w ⟨rs2, nw2, g2, bk2, ks2, nx2⟩ (.slice b42 rs2.length e42) (.slice b52 ks2.length e52)) (w3.alloc (.cells #[.slice b42 rs2.length e42, .int .i64 nw2, .int .i64 g2, .bool bk2, .slice b52 ks2.length e52, .int .i64 nx2] 32))) := Keep.below (Keep.sub hn2 (fun x hx => by omega)) hba
    clear hba hb3 hb3' hb4 hn2 hl2 HCLL HKk HGk HLk HX1 HR1 HLD HBk hsz kg0 kg1 kg2 kg3 kg4 kg5 kc0 kc1 kc2 kc3 kc4 r0 r1 r2 r3 r4 r5 r6
    go_upto_region 8 with fail
    generalize (w3.alloc (.cells #[.slice b42 rs2.length e42, .int .i64 nw2, .int .i64 g2, .bool bk2, .slice b52 ks2.length e52, .int .i64 nx2] 32)) = V3 at HK3 HG3 HL3 HY3 HR3 HB3 HN3 ⊢
    generalize w3.heap.size = gy at HY3 ⊢
    generalize wr.heap.size = gr at HR3 hl6 hlw hrb ⊢
    have hl6y : g6 < V3.heap.size := HG3.out.lt
    by_cases h3 : E2 = 0
    rotate_left
    · have h3' : (E2 != 0) = true := by rw [bne_iff_ne]; exact h3
      clear h3 f3' f4' f5' HY3 HR3 HN3
      go_wp2
      go_roundg (m - (k + 1))
      case measure => omega
      case rel => exact ⟨k + 1, ⟨rs', nw', g', bk', ks', nx'⟩, _, _, by omega, by omega, by go_num, HG3, HK3, HL3, HB3⟩
    subst h3
    have hC0 := f3'.out rfl
    obtain ⟨hn1, ⟨rm, hrm⟩, hn3⟩ := f4'.out rfl
    have f5 := f5'.out rfl
    clear f3' f4' f5'
    have f5' : Hid _ := f5
    clear f5
    have HC0 : Hid (CL ⟨rs2, nw2, g2, bk2, ks2, nx2⟩ = 0) := hC0
    have HRM : Hid (rs2 = rs' ++ rm) := hrm
    have HN1 : Hid (nx' ≤ nx2) := hn1
    have HNN : Hid (rk ≠ 9 → nw2 = nw') := hn3
    clear hC0 hn1 hrm hn3
    go_upto_region 9 with fail
    go_cut [52] from 45 to 52 (fun s52 wx => ∃ bq : Bool, s52 = .bool bq ∧ Hid (bq = (rk == 6 && !bk')) ∧ V3 = wx)
    case first =>
      have z3 := HG3.out.cell 3
      have y0 := HR3.out.cell 0
      simp only [List.getElem?_toArray, List.getElem?_cons_zero, List.getElem?_cons_succ] at z3 y0
      by_cases k6 : rk = 6
      · have k6' : (rk == 6) = true := by simpa using k6
        subst k6
        go_wp2_with fail
        go_meet
        case rel => exact ⟨_, rfl, rfl, rfl⟩
      · have k6' : (rk == 6) = false := by simpa using k6
        go_wp2_with fail
        go_meet
        case rel => exact ⟨_, rfl, (by show false = _; rw [k6']; rfl), rfl⟩
    case rest =>
    obtain ⟨bq, rfl, HB52, rfl⟩ := hcut
    go_upto_if 52 with fail
    go_cut [] from 53 to 100 (fun wx => Hid (Below V3.heap.size V3 wx))
    case first =>
      by_cases c6 : rk = 6 ∧ bk' = false
      rotate_left
      · have c6' : (rk == 6 && !bk') = false := by
          rw [Bool.and_eq_false_iff, beq_eq_false_iff_ne]
          by_cases h : rk = 6
          · right; cases hb : bk'
            · exact absurd ⟨h, hb⟩ c6
            · rfl
          · exact .inl h
        have eb : bq = false := HB52.out.trans c6'
        clear c6 c6' f5' HB52
        subst eb
        go_wp2_with fail
        go_meet
        case rel => exact Below.refl _ _
      obtain ⟨rfl, rfl⟩ := c6
      have eb : bq = true := HB52.out
      clear HB52
      subst eb
      obtain ⟨⟨p1, p2⟩, p3, p4, p5⟩ := f5'.out rfl rfl
      simp only at p1 p2 p3 p4 p5
      obtain ⟨j, rfl⟩ : ∃ j : Nat, ra = j := ⟨ra.toNat, by omega⟩
      rw [Int.toNat_natCast] at p3
      have p2' : j < ks'.length := by omega
      have P3 : Hid ((ks'.getD j ⟨0, 0, false⟩).st = 0) := p3
      have P4 : Hid (((ks'.filter fun a => a.st == 3).length : Int) ≤ d) := p4
      have P5 : Hid (∀ k : Nat, k < ks'.length → Wv.of W k < Wv.of W (j : Int) → (ks'.getD k ⟨0, 0, false⟩).st = 2 ∨ (ks'.getD k ⟨0, 0, false⟩).st = 3) := p5
      have hkl : ks'.length ≤ 140737488355328 := HL3.out.here.2.1
      have HKN : Hid (KnowsAt V3 (.slice b5 ks'.length e5) ks') := HL3.out.here.2
      clear p1 p2 p3 p4 p5 f5' HNX HCK HC0 HRM HN1 HNN HL3 HY3 HN3
      have z4 := HG3.out.cell 4
      simp only [List.getElem?_toArray, List.getElem?_cons_zero, List.getElem?_cons_succ] at z4
      go_wp2_with fail
      go_loopg [11, 56] ks'.length (fun gi s11 s56 wr => ∃ k2 n : Nat, k2 ≤ ks'.length ∧ ks'.length - k2 ≤ gi ∧ n ≤ k2 ∧ s11 = .int .i64 n ∧ s56 = .int .i64 k2 ∧ Hid (n + ((ks'.drop k2).filter fun a => a.st == 3).length = (ks'.filter fun a => a.st == 3).length) ∧ Hid (Below V3.heap.size V3 wr))
      case atStart => exact ⟨0, 0, Nat.zero_le _, by omega, by omega, rfl, rfl, (by show _ = _; simp), Below.refl _ _⟩
      case round =>
        obtain ⟨k2, n, hk2, hg2, hn2, rfl, rfl, HN, HBz⟩ := hrel
        clear z4
        by_cases hlt2 : k2 < ks'.length
        rotate_left
        · have hk2' : k2 = ks'.length := by omega
          have hnd : (n : Int) ≤ d := by
            have := HN.out
            rw [hk2', List.drop_length] at this
            have h4 := P4.out
            simp only [List.filter_nil, List.length_nil, Nat.add_zero] at this
            omega
          have hnd' : decide (d < (n : Int)) = false := decide_eq_false (by omega)
          obtain ⟨kb, ko, rfl, hkb, q1, q2, q3⟩ := knows_at (HKN.out.below HBz.out) p2'
          rw [P3.out] at q1
          have hG := HG3.out.below HBz.out
          have hK := HK3.out.below HBz.out
          have hR := HR3.out.below HBz.out
          have z4 := hG.cell 4
          have y4 := hK.cell 4
          have x1 := hR.cell 1
          simp only [List.getElem?_toArray, List.getElem?_cons_zero, List.getElem?_cons_succ] at z4 y4 x1
          have hj : (j : Int) < ks'.length := by omega
          subst hk2'
          clear hG hK hR HN P3 P4 P5 HKN HG3 HK3 HR3 HOF hnd hlt2
          go_wp2_with fail
          go_meet
          case rel => exact HBz
        obtain ⟨kb, ko, rfl, hkb, q1, q2, q3⟩ := knows_at (HKN.out.below HBz.out) hlt2
        have hcs := count_step hlt2 3 n
        rw [HN.out] at hcs
        have HH : Hid ((n + if ((ks'.getD k2 ⟨0, 0, false⟩).st == 3) = true then 1 else 0) + ((ks'.drop (k2 + 1)).filter fun a => a.st == 3).length = (ks'.filter fun a => a.st == 3).length) := hcs.symm
        have p5 := P5.out k2 hlt2
        clear hcs HN P3 P4 P5 HKN
        generalize ks'.getD k2 ⟨0, 0, false⟩ = kn at q1 q2 q3 HH p5
        obtain ⟨st, tr, bb⟩ := kn
        simp only at q1 q2 q3 p5
        have HO1 : Hid (∀ w', Below w.heap.size w w' → Calls Try.prog 24 #[.slice a3 n3 c3, .int .i64 (k2 : Int)] w' fun e w'' => e = .returned (.int .i64 (Wv.of W (k2 : Int))) ∧ Below w'.heap.size w' w'') := HOF.out k2
        have HO2 : Hid (∀ w', Below w.heap.size w w' → Calls Try.prog 24 #[.slice a3 n3 c3, .int .i64 (j : Int)] w' fun e w'' => e = .returned (.int .i64 (Wv.of W (j : Int))) ∧ Below w'.heap.size w' w'') := HOF.out j
        clear HOF
        generalize Wv.of W (k2 : Int) = o1 at HO1 p5
        generalize Wv.of W (j : Int) = o2 at HO2 p5
        have hbx := box1 wr #[.int .i64 st, .int .i64 tr, .bool bb] 56
        have hbV := HBz.out.trans (hbx.1.mono HBz.out.size)
        have HBV : Hid (Below V3.heap.size V3 (wr.alloc (.cells #[.int .i64 st, .int .i64 tr, .bool bb] 56))) := hbV
        have HB4 : Hid (Below w.heap.size w (wr.alloc (.cells #[.int .i64 st, .int .i64 tr, .bool bb] 56))) := HB3.out.trans (hbV.mono HB3.out.size)
        have HK4 : Hid (Blk (wr.alloc (.cells #[.int .i64 st, .int .i64 tr, .bool bb] 56)) w.heap.size #[.int .i64 f, .slice a1 n1 c1, .slice a2 n2 c2, .slice a3 n3 c3, .int .i64 d] 28) := HK3.out.below hbV
        have HR4 : Hid (Blk (wr.alloc (.cells #[.int .i64 st, .int .i64 tr, .bool bb] 56)) gr _ 53) := HR3.out.below hbV
        have HA4 : Hid (Blk (wr.alloc (.cells #[.int .i64 st, .int .i64 tr, .bool bb] 56)) wr.heap.size #[.int .i64 st, .int .i64 tr, .bool bb] 56) := hbx.2
        have hk2i : (k2 : Int) < ks'.length := by omega
        have hn2i : (n : Int) ≤ 140737488355328 := by omega
        have hkli : (ks'.length : Int) ≤ 140737488355328 := by omega
        clear hbx hbV HG3 HK3 HR3 HBz
        by_cases s3 : st = 3
        · subst s3
          have HN' : Hid ((n + 1) + ((ks'.drop (k2 + 1)).filter fun a => a.st == 3).length = (ks'.filter fun a => a.st == 3).length) := HH.out
          clear HH
          go_upto_region 16 with fail
          clear q1 q2 q3
          generalize (wr.alloc (.cells #[.int .i64 3, .int .i64 tr, .bool bb] 56)) = V4 at HBV HB4 HK4 HR4 HA4 ⊢
          generalize wr.heap.size = ga at HA4 ⊢
          by_cases hl : o1 < o2
          · have hl' : decide (o1 < o2) = true := decide_eq_true hl
            clear hl p5
            have cl1 := fun (d' : Nat) (os : Array Obj) => Calls.regrown_of (HO1.out (Sort.grow (redrawn V4 d') os) (HB4.out.trans ((below_regrown V4 d' os).mono HB4.out.size)))
            have cl2 := fun (d' : Nat) (os : Array Obj) => Calls.regrown_of (HO2.out (Sort.grow (redrawn V4 d') os) (HB4.out.trans ((below_regrown V4 d' os).mono HB4.out.size)))
            have zc3 := cell_regrown (show _ = some _ from HK4.out.cell 3)
            have zr1 := cell_regrown (show _ = some _ from HR4.out.cell 1)
            have za0 := cell_regrown (show _ = some _ from HA4.out.cell 0)
            clear HO1 HO2
            refine wp_region_quiet_below (by kernel_rfl) (by kernel_rfl) ?_
            repeat (go_big_quiet_step (first | exact cl1 _ _ | exact cl2 _ _))
            refine wpQuiet_nil ?_
            intro _ hw'
            obtain ⟨⟨dq, osq⟩, hw''⟩ := hw'
            subst hw''
            have hbq := below_regrown V4 dq osq
            have HB5 : Hid (Below V3.heap.size V3 (Sort.grow (redrawn V4 dq) osq)) := HBV.out.trans (hbq.mono HBV.out.size)
            clear hbq zc3 zr1 za0 cl1 cl2
            go_wp2
            go_roundg (ks'.length - (k2 + 1))
            case measure => omega
            case rel => exact ⟨k2 + 1, n + 1, by omega, by omega, by omega, by go_num, by go_num, HN', HB5⟩
          · have hl' : decide (o1 < o2) = false := decide_eq_false hl
            clear hl p5
            have cl1 := fun (d' : Nat) (os : Array Obj) => Calls.regrown_of (HO1.out (Sort.grow (redrawn V4 d') os) (HB4.out.trans ((below_regrown V4 d' os).mono HB4.out.size)))
            have cl2 := fun (d' : Nat) (os : Array Obj) => Calls.regrown_of (HO2.out (Sort.grow (redrawn V4 d') os) (HB4.out.trans ((below_regrown V4 d' os).mono HB4.out.size)))
            have zc3 := cell_regrown (show _ = some _ from HK4.out.cell 3)
            have zr1 := cell_regrown (show _ = some _ from HR4.out.cell 1)
            have za0 := cell_regrown (show _ = some _ from HA4.out.cell 0)
            clear HO1 HO2
            refine wp_region_quiet_below (by kernel_rfl) (by kernel_rfl) ?_
            repeat (go_big_quiet_step (first | exact cl1 _ _ | exact cl2 _ _))
            refine wpQuiet_nil ?_
            intro _ hw'
            obtain ⟨⟨dq, osq⟩, hw''⟩ := hw'
            subst hw''
            have hbq := below_regrown V4 dq osq
            have HB5 : Hid (Below V3.heap.size V3 (Sort.grow (redrawn V4 dq) osq)) := HBV.out.trans (hbq.mono HBV.out.size)
            clear hbq zc3 zr1 za0 cl1 cl2
            go_wp2
            go_roundg (ks'.length - (k2 + 1))
            case measure => omega
            case rel => exact ⟨k2 + 1, n + 1, by omega, by omega, by omega, by go_num, by go_num, HN', HB5⟩
        have s3' : (st == 3) = false := by simpa using s3
        have HN' : Hid (n + ((ks'.drop (k2 + 1)).filter fun a => a.st == 3).length = (ks'.filter fun a => a.st == 3).length) := by
          have := HH.out
          rw [if_neg (by simpa using s3)] at this
          exact this
        clear HH
        go_upto_region 16 with fail
        clear q1 q2 q3
        generalize (wr.alloc (.cells #[.int .i64 st, .int .i64 tr, .bool bb] 56)) = V4 at HBV HB4 HK4 HR4 HA4 ⊢
        generalize wr.heap.size = ga at HA4 ⊢
        by_cases hl : o1 < o2
        · have hl' : decide (o1 < o2) = true := decide_eq_true hl
          have hs2 : st = 2 := (p5 hl).resolve_right s3
          subst hs2
          clear hl p5 s3 s3'
          have cl1 := fun (d' : Nat) (os : Array Obj) => Calls.regrown_of (HO1.out (Sort.grow (redrawn V4 d') os) (HB4.out.trans ((below_regrown V4 d' os).mono HB4.out.size)))
          have cl2 := fun (d' : Nat) (os : Array Obj) => Calls.regrown_of (HO2.out (Sort.grow (redrawn V4 d') os) (HB4.out.trans ((below_regrown V4 d' os).mono HB4.out.size)))
          have zc3 := cell_regrown (show _ = some _ from HK4.out.cell 3)
          have zr1 := cell_regrown (show _ = some _ from HR4.out.cell 1)
          have za0 := cell_regrown (show _ = some _ from HA4.out.cell 0)
          clear HO1 HO2
          refine wp_region_quiet_below (by kernel_rfl) (by kernel_rfl) ?_
          repeat (go_big_quiet_step (first | exact cl1 _ _ | exact cl2 _ _))
          refine wpQuiet_nil ?_
          intro _ hw'
          obtain ⟨⟨dq, osq⟩, hw''⟩ := hw'
          subst hw''
          have hbq := below_regrown V4 dq osq
          have HB5 : Hid (Below V3.heap.size V3 (Sort.grow (redrawn V4 dq) osq)) := HBV.out.trans (hbq.mono HBV.out.size)
          clear hbq zc3 zr1 za0 cl1 cl2
          go_wp2
          go_roundg (ks'.length - (k2 + 1))
          case measure => omega
          case rel => exact ⟨k2 + 1, n, by omega, by omega, by omega, by go_num, by go_num, HN', HB5⟩
        · have hl' : decide (o1 < o2) = false := decide_eq_false hl
          clear hl p5 s3 s3'
          have cl1 := fun (d' : Nat) (os : Array Obj) => Calls.regrown_of (HO1.out (Sort.grow (redrawn V4 d') os) (HB4.out.trans ((below_regrown V4 d' os).mono HB4.out.size)))
          have cl2 := fun (d' : Nat) (os : Array Obj) => Calls.regrown_of (HO2.out (Sort.grow (redrawn V4 d') os) (HB4.out.trans ((below_regrown V4 d' os).mono HB4.out.size)))
          have zc3 := cell_regrown (show _ = some _ from HK4.out.cell 3)
          have zr1 := cell_regrown (show _ = some _ from HR4.out.cell 1)
          have za0 := cell_regrown (show _ = some _ from HA4.out.cell 0)
          clear HO1 HO2
          refine wp_region_quiet_below (by kernel_rfl) (by kernel_rfl) ?_
          repeat (go_big_quiet_step (first | exact cl1 _ _ | exact cl2 _ _))
          refine wpQuiet_nil ?_
          intro _ hw'
          obtain ⟨⟨dq, osq⟩, hw''⟩ := hw'
          subst hw''
          have hbq := below_regrown V4 dq osq
          have HB5 : Hid (Below V3.heap.size V3 (Sort.grow (redrawn V4 dq) osq)) := HBV.out.trans (hbq.mono HBV.out.size)
          clear hbq zc3 zr1 za0 cl1 cl2
          go_wp2
          go_roundg (ks'.length - (k2 + 1))
          case measure => omega
          case rel => exact ⟨k2 + 1, n, by omega, by omega, by omega, by go_num, by go_num, HN', HB5⟩
    case rest =>
    have HB5 : Hid (Below w.heap.size w wc) := HB3.out.trans (hcut.out.mono HB3.out.size)
    have HK5 : Hid (Blk wc w.heap.size #[.int .i64 f, .slice a1 n1 c1, .slice a2 n2 c2, .slice a3 n3 c3, .int .i64 d] 28) := HK3.out.below hcut.out
    have HG5 : Hid (Blk wc g6 #[.slice b4 rs'.length e4, .int .i64 nw', .int .i64 g', .bool bk', .slice b5 ks'.length e5, .int .i64 nx'] 32) := HG3.out.below hcut.out
    have HY5 : Hid (Blk wc gy #[.slice b42 rs2.length e42, .int .i64 nw2, .int .i64 g2, .bool bk2, .slice b52 ks2.length e52, .int .i64 nx2] 32) := HY3.out.below hcut.out
    have HR5 : Hid (Blk wc gr _ 53) := HR3.out.below hcut.out
    have HN5 : Hid (Off g6 (fun w => LdAt w ⟨rs2, nw2, g2, bk2, ks2, nx2⟩ (.slice b42 rs2.length e42) (.slice b52 ks2.length e52)) wc) := Keep.below HN3.out hcut.out
    have hLx := HL3.out.here.below hcut.out
    have hLy := HN5.out.here
    have hle : rs'.length ≤ rs2.length := by rw [HRM.out, List.length_append]; omega
    have hcap : rs2.length ≤ e42 := by
      obtain ⟨ps', ⟨_, p', c', e, hc, _⟩, hl⟩ := hLy.1
      simp only [Value.slice.injEq] at e
      rw [e.2.2]
      have := congrArg List.length hl
      rw [List.length_map] at this
      omega
    have HEQ : Hid (∀ w', Below wc.heap.size wc w' → Calls Try.prog 25 #[.slice b42 rs'.length e42, .slice b4 rs'.length e4, .func (.func 26) #[] #[]] w' fun e w'' => e = .returned (.bool true) ∧ Below w'.heap.size w' w'') := fun w' hb => equalFL_part (by have := hLy.1.below hb; rw [HRM.out] at this; exact this) (hLx.1.below hb) rfl
    have HCY : Hid (∀ w', Below wc.heap.size wc w' → Calls Try.prog 15 #[.agg #[.int .i64 f, .slice a1 n1 c1, .slice a2 n2 c2, .slice a3 n3 c3, .int .i64 d], .agg #[.slice b42 rs2.length e42, .int .i64 nw2, .int .i64 g2, .bool bk2, .slice b52 ks2.length e52, .int .i64 nx2]] w' fun e w'' => e = .returned (.int .i64 0) ∧ Below w'.heap.size w' w'') := fun w' hb => by
      have := HCK.out ⟨rs2, nw2, g2, bk2, ks2, nx2⟩ _ _ w' (HB5.out.trans (hb.mono HB5.out.size)) (hLy.below hb)
      rw [HC0.out] at this
      exact this
    have hlen2 : decide ((rs2.length : Int) < (rs'.length : Int)) = false := decide_eq_false (by omega)
    have hlen3 : decide (rs2.length < rs'.length) = false := decide_eq_false (by omega)
    have hnx2 : decide (nx2 < nx') = false := decide_eq_false (by have := HN1.out; omega)
    have hcap2 : (rs'.length : Int) ≤ (e42 : Int) := by omega
    have hcap3 : rs'.length ≤ e42 := by omega
    clear hLx hLy HB3 HK3 HG3 HY3 HR3 HN3 HL3 HRM HCK HOF f5' HB52 HC0 HN1
    clear hcut HNX hltp
    obtain ⟨W5, hW5⟩ : ∃ x, x = wc := ⟨_, rfl⟩
    subst hW5
    go_upto_region 21 with fail
    go_cut [144] from 101 to 144 (fun s144 wx => s144 = .bool false ∧ Hid (Below W5.heap.size W5 wx))
    case first =>
      have cl1 := fun (d' : Nat) (os : Array Obj) => Calls.regrown_of (HCY.out (Sort.grow (redrawn W5 d') os) (below_regrown W5 d' os))
      have cl2 := fun (d' : Nat) (os : Array Obj) => Calls.regrown_of (HEQ.out (Sort.grow (redrawn W5 d') os) (below_regrown W5 d' os))
      have zc0 := cell_regrown (show _ = some _ from HK5.out.cell 0)
      have zc1 := cell_regrown (show _ = some _ from HK5.out.cell 1)
      have zc2 := cell_regrown (show _ = some _ from HK5.out.cell 2)
      have zc3 := cell_regrown (show _ = some _ from HK5.out.cell 3)
      have zc4 := cell_regrown (show _ = some _ from HK5.out.cell 4)
      have zg0 := cell_regrown (show _ = some _ from HG5.out.cell 0)
      have zg1 := cell_regrown (show _ = some _ from HG5.out.cell 1)
      have zg2 := cell_regrown (show _ = some _ from HG5.out.cell 2)
      have zg3 := cell_regrown (show _ = some _ from HG5.out.cell 3)
      have zg4 := cell_regrown (show _ = some _ from HG5.out.cell 4)
      have zg5 := cell_regrown (show _ = some _ from HG5.out.cell 5)
      have zy0 := cell_regrown (show _ = some _ from HY5.out.cell 0)
      have zy1 := cell_regrown (show _ = some _ from HY5.out.cell 1)
      have zy2 := cell_regrown (show _ = some _ from HY5.out.cell 2)
      have zy3 := cell_regrown (show _ = some _ from HY5.out.cell 3)
      have zy4 := cell_regrown (show _ = some _ from HY5.out.cell 4)
      have zy5 := cell_regrown (show _ = some _ from HY5.out.cell 5)
      have zr0 := cell_regrown (show _ = some _ from HR5.out.cell 0)
      by_cases hnw : nw2 = nw'
      · subst hnw
        clear HEQ HCY HN5 HB5 HNN
        refine wp_region_quiet_below (by kernel_rfl) (by kernel_rfl) ?_
        repeat (go_big_quiet_step (first | exact cl1 _ _ | exact cl2 _ _))
        refine wpQuiet_nil ?_
        intro _ hw'
        obtain ⟨⟨dq, osq⟩, hw''⟩ := hw'
        subst hw''
        have hbq := below_regrown W5 dq osq
        have HB6 : Hid (Below W5.heap.size W5 (Sort.grow (redrawn W5 dq) osq)) := hbq
        clear hbq zc0 zc1 zc2 zc3 zc4 zg0 zg1 zg2 zg3 zg4 zg5 zy0 zy1 zy2 zy3 zy4 zy5 zr0 cl1 cl2
        go_wp2_with fail
        go_meet
        case rel => exact ⟨rfl, HB6⟩
      · have hnw' : (nw2 != nw') = true := by rw [bne_iff_ne]; exact hnw
        have hk9 : rk = 9 := Decidable.byContradiction fun h => hnw (HNN.out h)
        subst hk9
        clear HEQ HCY HN5 HB5 HNN hnw
        refine wp_region_quiet_below (by kernel_rfl) (by kernel_rfl) ?_
        repeat (go_big_quiet_step (first | exact cl1 _ _ | exact cl2 _ _))
        refine wpQuiet_nil ?_
        intro _ hw'
        obtain ⟨⟨dq, osq⟩, hw''⟩ := hw'
        subst hw''
        have hbq := below_regrown W5 dq osq
        have HB6 : Hid (Below W5.heap.size W5 (Sort.grow (redrawn W5 dq) osq)) := hbq
        clear hbq zc0 zc1 zc2 zc3 zc4 zg0 zg1 zg2 zg3 zg4 zg5 zy0 zy1 zy2 zy3 zy4 zy5 zr0 cl1 cl2
        go_wp2_with fail
        go_meet
        case rel => exact ⟨rfl, HB6⟩
    case rest =>
      obtain ⟨rfl, HB6⟩ := hcut
      have hG6 := HG5.out.below HB6.out
      have hY6 := HY5.out.below HB6.out
      have hK6 := HK5.out.below HB6.out
      have HG6 : Hid (Blk wc g6 #[.slice b4 rs'.length e4, .int .i64 nw', .int .i64 g', .bool bk', .slice b5 ks'.length e5, .int .i64 nx'] 32) := hG6
      have HK6 : Hid (Blk wc w.heap.size #[.int .i64 f, .slice a1 n1 c1, .slice a2 n2 c2, .slice a3 n3 c3, .int .i64 d] 28) := hK6
      have HN6 : Hid (Off g6 (fun w => LdAt w ⟨rs2, nw2, g2, bk2, ks2, nx2⟩ (.slice b42 rs2.length e42) (.slice b52 ks2.length e52)) wc) := Keep.below HN5.out HB6.out
      have HB7 : Hid (Below w.heap.size w wc) := HB5.out.trans (HB6.out.mono HB5.out.size)
      have jg0 := hG6.cell 0
      have jg1 := hG6.cell 1
      have jg2 := hG6.cell 2
      have jg3 := hG6.cell 3
      have jg4 := hG6.cell 4
      have jg5 := hG6.cell 5
      simp only [List.getElem?_toArray, List.getElem?_cons_zero, List.getElem?_cons_succ] at jg0 jg1 jg2 jg3 jg4 jg5
      have jgf0 := hG6.free 0
      have jgf1 := hG6.free 1
      have jgf2 := hG6.free 2
      have jgf3 := hG6.free 3
      have jgf4 := hG6.free 4
      have jgf5 := hG6.free 5
      have jy0 := hY6.cell 0
      have jy1 := hY6.cell 1
      have jy2 := hY6.cell 2
      have jy3 := hY6.cell 3
      have jy4 := hY6.cell 4
      have jy5 := hY6.cell 5
      simp only [List.getElem?_toArray, List.getElem?_cons_zero, List.getElem?_cons_succ] at jy0 jy1 jy2 jy3 jy4 jy5
      have hne6 : ¬ g6 = w.heap.size := by omega
      have hgz : w.heap.size ≤ g6 := by omega
      clear hG6 hY6 hK6 HG5 HY5 HK5 HN5 HB5 HB6 HEQ HCY HR5 HNN
      go_wp2
      go_roundg (m - (k + 1))
      case measure => omega
      case rel =>
        refine ⟨k + 1, ⟨rs2, nw2, g2, bk2, ks2, nx2⟩, .slice b42 rs2.length e42, .slice b52 ks2.length e52, by omega, by omega, by go_num, ?_, ?_, ?_, ?_⟩
        · exact (((((HG6.out.put 0 _).put 1 _).put 2 _).put 3 _).put 4 _).put 5 _
        · exact HK6.out.six hne6 _ _ _ _ _ _
        · exact HN6.out.six rfl _ _ _ _ _ _
        · exact below_six HB7.out hgz _ _ _ _ _ _
end Go.Proofs.Ytcnnejndmafniaa
