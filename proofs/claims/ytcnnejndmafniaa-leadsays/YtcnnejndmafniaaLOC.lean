/- What is written into one block alone; the closure of the law LeadOver. -/
import Derived.Test.YtcnnejndmafniaaLVL
import Derived.Test.YtcnnejndmafniaaLVG
namespace Go.Proofs.Ytcnnejndmafniaa
open Go.RowKit
theorem aside_trans {S : Nat → Prop} {a b c : World} (h : Aside S a b) (k : Aside S b c) : Aside S a c := by
  obtain ⟨h1, h2, h3, h4, h5⟩ := h
  obtain ⟨k1, k2, k3, k4, k5⟩ := k
  exact ⟨k1.trans h1, k2.trans h2, k3.trans h3, Nat.le_trans h4 k4, fun x hx hs => (k5 x (Nat.lt_of_lt_of_le hx h4) hs).trans (h5 x hx hs)⟩
theorem Keep.aside {S : Nat → Prop} {Q : World → Prop} {w w' : World} (h : Keep S Q w) (ha : Aside S w w') : Keep S Q w' := fun w'' h'' => h w'' (aside_trans ha h'')
theorem Blk.aside {S : Nat → Prop} {w w' : World} {g : Nat} {cs : Array Value} {t : TypeId} (h : Blk w g cs t) (ha : Aside S w w') (hs : ¬ S g) : Blk w' g cs t := by
  have hl := h.lt
  have := ha.2.2.2.2 g hl hs
  unfold Blk at h ⊢
  rw [this]; exact h
theorem below_aside {S : Nat → Prop} {B : Nat} {w w' : World} (ha : Aside S w w') (hB : B ≤ w.heap.size) (hs : ∀ x, S x → B ≤ x) : Below B w w' :=
  ⟨ha.1, ha.2.1, ha.2.2.1, ha.2.2.2.1, fun k hk => ha.2.2.2.2 k (Nat.lt_of_lt_of_le hk hB) (fun h => by have := hs k h; omega)⟩
theorem aside_of_below {S : Nat → Prop} {w w' : World} (h : Below w.heap.size w w') : Aside S w w' := ⟨h.os, h.tape, h.output, h.size, fun b hl _ => h.block b hl⟩
theorem aside_set {S : Nat → Prop} {w : World} {b i : Nat} (hb : S b) (z : Value) : Aside S w (w.setCell ⟨b, i, none⟩ z) := by
  refine ⟨rfl, rfl, rfl, by rw [World.size_setCell]; exact Nat.le_refl _, fun k _ hs => ?_⟩
  exact Below.heap_setCell w _ z k (fun e => hs (e ▸ hb))
theorem aside_six {S : Nat → Prop} {w : World} {b : Nat} (hb : S b) (v0 v1 v2 v3 v4 v5 : Value) : Aside S w ((((((w.setCell ⟨b, 0, none⟩ v0).setCell ⟨b, 1, none⟩ v1).setCell ⟨b, 2, none⟩ v2).setCell ⟨b, 3, none⟩ v3).setCell ⟨b, 4, none⟩ v4).setCell ⟨b, 5, none⟩ v5) :=
  aside_trans (aside_trans (aside_trans (aside_trans (aside_trans (aside_set hb _) (aside_set hb _)) (aside_set hb _)) (aside_set hb _)) (aside_set hb _)) (aside_set hb _)
/-- a leader at work in a block of its own: whatever is written there keeps its rows -/
def LdB (w : World) (g : Nat) (l : Ld.Leader) : Prop := ∃ b4 e4 b5 e5, Blk w g #[.slice b4 l.rels.length e4, .int .i64 l.now, .int .i64 l.goal, .bool l.back, .slice b5 l.ags.length e5, .int .i64 l.next] 32 ∧ Off g (fun w => LdAt w l (.slice b4 l.rels.length e4) (.slice b5 l.ags.length e5)) w
theorem LdB.below {w w' : World} {g : Nat} {l : Ld.Leader} (h : LdB w g l) (hb : Below w.heap.size w w') : LdB w' g l := by
  obtain ⟨b4, e4, b5, e5, h1, h2⟩ := h
  exact ⟨b4, e4, b5, e5, h1.below hb, Keep.below h2 hb⟩
/-- what the closure does: true, and the leader in its block is the next one -/
def ovC (w : World) (gl : Nat) (l : Ld.Leader) (w' : World) (e : Ending) : Prop := e = .returned (.bool true) ∧ LdB w' gl l ∧ Aside (fun x => x = gl) w w'
set_option maxHeartbeats 8000000 in
set_option maxRecDepth 100000 in
theorem overC_any (cf : Ld.Config) (A B D : Value) (gc gl : Nat) (l l2 : Ld.Leader) (rk ra rt rn ri : Int) (rg : Bool) (w : World) (hC : CfAt w cf A B D) (hK : Blk w gc (cfC cf.fid cf.budget A B D) 28) (hL : LdB w gl l) (hx : Ld.nextL cf l ⟨rk, ra, rt, rn, rg, ri, []⟩ = (l2, 0)) :
    Calls Try.prog 27 #[.agg #[.int .i64 rk, .int .i64 ra, .int .i64 rt, .int .i64 rn, .bool rg, .int .i64 ri, .slice none 0 0], .pointer (some ⟨gc, 0, none⟩), .pointer (some ⟨gl, 0, none⟩)] w fun e w' => ovC w gl l2 w' e := by
  obtain ⟨f, L, R, W, d⟩ := cf
  obtain ⟨b4, e4, b5, e5, hG, hO⟩ := hL
  have HNX : Hid (∀ w', Below w.heap.size w w' → Calls Try.prog 23 #[cfV ⟨f, L, R, W, d⟩ A B D, leV l (.slice b4 l.rels.length e4) (.slice b5 l.ags.length e5), .agg #[.int .i64 rk, .int .i64 ra, .int .i64 rt, .int .i64 rn, .bool rg, .int .i64 ri, .slice none 0 0]] w' fun e w'' => leN w'' w'.heap.size (l2, 0) e ∧ Below w'.heap.size w' w'') := fun w' hb => by
    have := ldNext_any ⟨f, L, R, W, d⟩ A B D l (.slice b4 l.rels.length e4) (.slice b5 l.ags.length e5) rk ra rt rn ri rg [] (.slice none 0 0) w' (hC.below hb) (hO.here.below hb) (pins_none w')
    rw [hx] at this
    exact this
  obtain ⟨a1, c1, rfl⟩ := pins_slice hC.1
  obtain ⟨a2, c2, rfl⟩ := rules_slice hC.2.1
  obtain ⟨a3, c3, rfl⟩ := waves_slice hC.2.2
  obtain ⟨rs, nw, g, bk, ks, nx⟩ := l
  clear hC hx hO
  unfold cfV cfC leV leC at HNX
  unfold cfC at hK
  simp only at HNX hK hG
  generalize L.length = n1 at *
  generalize R.length = n2 at *
  generalize W.length = n3 at *
  generalize rs.length = n4 at *
  generalize ks.length = n5 at *
  obtain ⟨hB0, hR0⟩ := box1 w #[.int .i64 rk, .int .i64 ra, .int .i64 rt, .int .i64 rn, .bool rg, .int .i64 ri, .slice none 0 0] 53
  have hK0 := hK.below hB0
  have hG0 := hG.below hB0
  have HB0 : Hid (Below w.heap.size w (w.alloc (.cells #[.int .i64 rk, .int .i64 ra, .int .i64 rt, .int .i64 rn, .bool rg, .int .i64 ri, .slice none 0 0] 53))) := hB0
  have kc0 := hK0.cell 0
  have kc1 := hK0.cell 1
  have kc2 := hK0.cell 2
  have kc3 := hK0.cell 3
  have kc4 := hK0.cell 4
  simp only [List.getElem?_toArray, List.getElem?_cons_zero, List.getElem?_cons_succ] at kc0 kc1 kc2 kc3 kc4
  have kg0 := hG0.cell 0
  have kg1 := hG0.cell 1
  have kg2 := hG0.cell 2
  have kg3 := hG0.cell 3
  have kg4 := hG0.cell 4
  have kg5 := hG0.cell 5
  simp only [List.getElem?_toArray, List.getElem?_cons_zero, List.getElem?_cons_succ] at kg0 kg1 kg2 kg3 kg4 kg5
  have kr0 := hR0.cell 0
  have kr1 := hR0.cell 1
  have kr2 := hR0.cell 2
  have kr3 := hR0.cell 3
  have kr4 := hR0.cell 4
  have kr5 := hR0.cell 5
  have kr6 := hR0.cell 6
  simp only [List.getElem?_toArray, List.getElem?_cons_zero, List.getElem?_cons_succ] at kr0 kr1 kr2 kr3 kr4 kr5 kr6
  have HG0 : Hid (Blk (w.alloc (.cells #[.int .i64 rk, .int .i64 ra, .int .i64 rt, .int .i64 rn, .bool rg, .int .i64 ri, .slice none 0 0] 53)) gl _ 32) := hG0
  have hlg : gl < w.heap.size := hG.lt
  have hlc : gc < w.heap.size := hK.lt
  go_enter Try.func27, Try.ntmps27
  go_wp2_with fail
  generalize (w.alloc (.cells #[.int .i64 rk, .int .i64 ra, .int .i64 rt, .int .i64 rn, .bool rg, .int .i64 ri, .slice none 0 0] 53)) = V at *
  clear hB0 hK0 hG0 hR0 hK hG
  refine (HNX.out _ HB0.out).mono ?_
  rintro e w3 ⟨⟨Y2, Z2, rfl, hn2⟩, hb3⟩
  obtain ⟨rs2, nw2, g2, bk2, ks2, nx2⟩ := l2
  have hl2 := hn2.here
  obtain ⟨b42, e42, rfl⟩ := relA_slice hl2.1
  obtain ⟨b52, e52, rfl⟩ := knows_slice hl2.2
  simp only [leV, leC]
  have hba : Below w3.heap.size w3 (w3.alloc (.cells #[.slice b42 rs2.length e42, .int .i64 nw2, .int .i64 g2, .bool bk2, .slice b52 ks2.length e52, .int .i64 nx2] 32)) := (Below.refl _ _).alloc (Nat.le_refl _) _
  have hG3 := HG0.out.below (hb3.trans (hba.mono hb3.size))
  have HG3 : Hid (Blk (w3.alloc (.cells #[.slice b42 rs2.length e42, .int .i64 nw2, .int .i64 g2, .bool bk2, .slice b52 ks2.length e52, .int .i64 nx2] 32)) gl _ 32) := hG3
  have HB3 : Hid (Below w.heap.size w (w3.alloc (.cells #[.slice b42 rs2.length e42, .int .i64 nw2, .int .i64 g2, .bool bk2, .slice b52 ks2.length e52, .int .i64 nx2] 32))) := HB0.out.trans ((hb3.trans (hba.mono hb3.size)).mono HB0.out.size)
  have hsz := HB0.out.size
  have HN3 : Hid (Off gl (fun w => LdAt w ⟨rs2, nw2, g2, bk2, ks2, nx2⟩ (.slice b42 rs2.length e42) (.slice b52 ks2.length e52)) (w3.alloc (.cells #[.slice b42 rs2.length e42, .int .i64 nw2, .int .i64 g2, .bool bk2, .slice b52 ks2.length e52, .int .i64 nx2] 32))) := Keep.below (Keep.sub hn2 (fun x (hx : x = gl) => by omega)) hba
  have HY3 : Hid (Blk (w3.alloc (.cells #[.slice b42 rs2.length e42, .int .i64 nw2, .int .i64 g2, .bool bk2, .slice b52 ks2.length e52, .int .i64 nx2] 32)) w3.heap.size #[.slice b42 rs2.length e42, .int .i64 nw2, .int .i64 g2, .bool bk2, .slice b52 ks2.length e52, .int .i64 nx2] 32) := blk_alloc w3 _ _
  have hl3 : gl < w3.heap.size := by have := hb3.size; omega
  clear hba hb3 hn2 hl2 HNX hG3 hsz kc0 kc1 kc2 kc3 kc4 kg0 kg1 kg2 kg3 kg4 kg5 kr0 kr1 kr2 kr3 kr4 kr5 kr6
  go_upto_region 2 with fail
  generalize (w3.alloc (.cells #[.slice b42 rs2.length e42, .int .i64 nw2, .int .i64 g2, .bool bk2, .slice b52 ks2.length e52, .int .i64 nx2] 32)) = V4 at HG3 HB3 HN3 HY3 ⊢
  generalize w3.heap.size = gy at HY3 hl3 ⊢
  have jg0 := HG3.out.cell 0
  have jg1 := HG3.out.cell 1
  have jg2 := HG3.out.cell 2
  have jg3 := HG3.out.cell 3
  have jg4 := HG3.out.cell 4
  have jg5 := HG3.out.cell 5
  simp only [List.getElem?_toArray, List.getElem?_cons_zero, List.getElem?_cons_succ] at jg0 jg1 jg2 jg3 jg4 jg5
  have jgf0 := HG3.out.free 0
  have jgf1 := HG3.out.free 1
  have jgf2 := HG3.out.free 2
  have jgf3 := HG3.out.free 3
  have jgf4 := HG3.out.free 4
  have jgf5 := HG3.out.free 5
  have jy0 := HY3.out.cell 0
  have jy1 := HY3.out.cell 1
  have jy2 := HY3.out.cell 2
  have jy3 := HY3.out.cell 3
  have jy4 := HY3.out.cell 4
  have jy5 := HY3.out.cell 5
  simp only [List.getElem?_toArray, List.getElem?_cons_zero, List.getElem?_cons_succ] at jy0 jy1 jy2 jy3 jy4 jy5
  have hne2 : ¬ gl = gy := by omega
  go_wp2
  go_ret
  refine ⟨rfl, ⟨b42, e42, b52, e52, ?_, ?_⟩, ?_⟩
  · exact (((((HG3.out.put 0 _).put 1 _).put 2 _).put 3 _).put 4 _).put 5 _
  · exact HN3.out.six rfl _ _ _ _ _ _
  · exact aside_trans (aside_of_below HB3.out) (aside_six (S := fun x => x = gl) rfl _ _ _ _ _ _)
end Go.Proofs.Ytcnnejndmafniaa
