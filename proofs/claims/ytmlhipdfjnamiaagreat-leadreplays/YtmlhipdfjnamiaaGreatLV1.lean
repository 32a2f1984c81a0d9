/- The contracts of whole.Release, lead.Agents, lead.checkBegin, lead.checkKept and lead.Config. -/
import Derived.Test.YtmlhipdfjnamiaaGreatWR
import Derived.Test.YtmlhipdfjnamiaaGreatLA
import Derived.Test.YtmlhipdfjnamiaaGreatPC
import Derived.Test.YtmlhipdfjnamiaaGreatMJ
import Derived.Test.YtmlhipdfjnamiaaGreatMC
import Derived.Test.YtmlhipdfjnamiaaGreatMB
import Derived.Deep.RegionHeld3
import Derived.Deep.RegionWith
import Derived.Deep.CutRange
namespace Go.Proofs.YtmlhipdfjnamiaaGreat
open Go.RowKit
set_option maxHeartbeats 4000000 in
theorem ldAgents_any (cf : Ld.Config) (A B D : Value) (w : World) (hC : CfAt w cf A B D) :
    Calls Tryz.prog 26 #[cfV cf A B D] w fun e w' => e = .returned (.int .i64 (Ld.agents cf)) ∧ Below w.heap.size w w' := by
  obtain ⟨f, L, R, W, d⟩ := cf
  obtain ⟨a1, c1, rfl⟩ := pins_slice hC.1
  obtain ⟨a2, c2, rfl⟩ := rules_slice hC.2.1
  obtain ⟨a3, c3, rfl⟩ := waves_slice hC.2.2
  have HBK := box1 w #[.int .i64 f, .slice a1 L.length c1, .slice a2 R.length c2, .slice a3 W.length c3, .int .i64 d] 28
  obtain ⟨hB0, hK0⟩ := HBK
  have HS : Hid (Ld.agents ⟨f, L, R, W, d⟩ = Ld.sumTo 0 W) := rfl
  obtain ⟨hll, A3, b, o, c3', e3, -, hA, hCc⟩ := hC.2.2
  simp only [Value.slice.injEq] at e3
  obtain ⟨rfl, -, rfl⟩ := e3
  have HA : Hid (0 < W.length → a3 = some ⟨b, o, none⟩ ∧ b < w.heap.size) := hA
  have HC : Hid (∀ j, j < W.length → ∃ u, w.cell? ⟨b, o + j, none⟩ = some u ∧ IntsAt w u (W.getD j [])) := hCc
  unfold cfV cfC
  simp only
  generalize Ld.agents ⟨f, L, R, W, d⟩ = Q at HS ⊢
  have HB0 : Hid (Below w.heap.size w (w.alloc (.cells #[.int .i64 f, .slice a1 L.length c1, .slice a2 R.length c2, .slice a3 W.length c3, .int .i64 d] 28))) := hB0
  have k2 := hK0.cell 3
  simp only [List.getElem?_toArray, List.getElem?_cons_zero, List.getElem?_cons_succ] at k2
  clear hC hA hCc hB0 hK0
  generalize L.length = n1 at *
  generalize R.length = n2 at *
  go_enter Tryz.func26, Tryz.ntmps26
  go_wp2
  go_loopg [3, 9] W.length (fun g s3 s9 wr => ∃ k s : Nat, k ≤ W.length ∧ W.length - k ≤ g ∧ s3 = .int .i64 s ∧ s9 = .int .i64 k ∧ s ≤ 6 ∧ Hid (Ld.sumTo s (W.drop k) = Ld.sumTo 0 W) ∧ wr = (w.alloc (.cells #[.int .i64 f, .slice a1 n1 c1, .slice a2 n2 c2, .slice a3 W.length c3, .int .i64 d] 28)))
  case atStart => exact ⟨0, 0, Nat.zero_le _, by omega, rfl, rfl, by omega, rfl, rfl⟩
  case round =>
    obtain ⟨k, s, hk, hg, rfl, rfl, hs, H, rfl⟩ := hrel
    by_cases hlt : k < W.length
    · obtain ⟨rfl, hbw⟩ := HA.out (by omega)
      obtain ⟨u, hu, hI⟩ := HC.out k hlt
      obtain ⟨hlm, B2, b2, o2, c2', rfl, -, -, -⟩ := hI
      rw [← HB0.out.cell (p := ⟨b, _, none⟩) hbw] at hu
      have hd := dropL W [] k hlt
      have HN : Hid (6 < s + (W.getD k []).length → Ld.sumTo 0 W = s + (W.getD k []).length) := fun h => by rw [← H.out, hd, Ld.sumTo, if_pos h]
      have HM : Hid (¬ 6 < s + (W.getD k []).length → Ld.sumTo (s + (W.getD k []).length) (W.drop (k + 1)) = Ld.sumTo 0 W) := fun h => by
        have := H.out
        rw [hd, Ld.sumTo, if_neg h] at this
        exact this
      generalize (W.getD k []).length = m at hlm hu HN HM
      clear HA HC hd H
      by_cases h6 : 6 < s + m
      · have HE : Hid (Q = ((s + m : Nat) : Int)) := by rw [HS.out, HN.out h6]; rfl
        have h6' : (6 : Int) < s + m := by omega
        clear HN HM HS
        go_wp2
        go_ret
        exact ⟨by rw [HE.out]; go_num, HB0.out⟩
      · have HE : Hid (Ld.sumTo (s + m) (W.drop (k + 1)) = Ld.sumTo 0 W) := HM.out h6
        have h6' : decide ((6 : Int) < s + m) = false := decide_eq_false (by omega)
        clear HN HM
        go_wp2
        go_roundg (W.length - (k + 1))
        case measure => omega
        case rel => exact ⟨k + 1, s + m, by omega, by omega, by go_num, by go_num, by omega, HE, rfl⟩
    · have hk' : k = W.length := by omega
      have HE : Hid (Q = (s : Int)) := by
        have := H.out
        rw [hk', List.drop_length, Ld.sumTo] at this
        rw [HS.out, ← this]; rfl
      subst hk'
      clear hk hlt HA HC H HS
      go_wp2
      go_ret
      exact ⟨by rw [HE.out]; rfl, HB0.out⟩
def begE (f d : Int) : Int := if f = 1 ∧ Lk.within d 0 3 = true then 0 else 3
set_option maxHeartbeats 2000000 in
theorem begin_any (f d : Int) (a1 a2 a3 : Option Addr) (n1 c1 n2 c2 n3 c3 : Nat) (w : World) :
    Calls Tryz.prog 68 #[.agg #[.int .i64 f, .slice a1 n1 c1, .slice a2 n2 c2, .slice a3 n3 c3, .int .i64 d]] w fun e w' => e = .returned (.int .i64 (begE f d)) ∧ Below w.heap.size w w' := by
  have HB : Hid (∀ O, Below w.heap.size w (w.alloc O)) := fun O => (Below.refl _ w).alloc (Nat.le_refl _) O
  have HE : Hid ((f ≠ 1 ∨ d < 0 ∨ 3 < d) → begE f d = 3) := fun h => by unfold begE; rw [if_neg]; simp [Lk.within]; omega
  have HF : Hid (f = 1 → 0 ≤ d → d ≤ 3 → begE f d = 0) := fun h1 h2 h3 => by unfold begE; rw [if_pos]; simp [Lk.within, h1, h2, h3]
  generalize begE f d = Q at HE HF ⊢
  by_cases p1 : f = 1
  rotate_left
  · have HQ : Hid (Q = 3) := HE.out (by omega)
    have p1' : (f != 1) = true := by rw [bne_iff_ne]; exact p1
    clear HE HF p1
    go_enter Tryz.func68, Tryz.ntmps68
    go_wp2_with go_in
    go_ret
    exact ⟨by rw [HQ.out]; rfl, HB.out _⟩
  subst p1
  by_cases t1 : 0 ≤ d
  rotate_left
  · have HQ : Hid (Q = 3) := HE.out (by omega)
    have t1' : decide (0 ≤ d) = false := decide_eq_false t1
    have t1'' : d < 0 := by omega
    clear HE HF
    go_enter Tryz.func68, Tryz.ntmps68
    go_wp2_with go_in
    go_ret
    exact ⟨by rw [HQ.out]; rfl, HB.out _⟩
  by_cases t2 : d ≤ 3
  rotate_left
  · have HQ : Hid (Q = 3) := HE.out (by omega)
    have t2' : decide (d ≤ 3) = false := decide_eq_false t2
    clear HE HF
    go_enter Tryz.func68, Tryz.ntmps68
    go_wp2_with go_in
    go_ret
    exact ⟨by rw [HQ.out]; rfl, HB.out _⟩
  have HQ : Hid (Q = 0) := HF.out rfl t1 t2
  clear HE HF
  go_enter Tryz.func68, Tryz.ntmps68
  go_wp2_with go_in
  go_ret
  exact ⟨by rw [HQ.out]; rfl, HB.out _⟩
set_option maxHeartbeats 2000000 in
theorem kept_any (v u : Value) (l : List (Int × Int)) (r : List Rk.Rl) (w : World) (hP : PinsAt w v l) (hR : RulesAt w u r) :
    Calls Tryz.prog 69 #[v, u] w fun e w' => e = .returned (.int .i64 (Ld.ruled l r)) ∧ Below w.heap.size w w' := by
  have HC := broken_any v u l r w hP hR
  have HE : Hid (Ld.ruled l r = if Rk.brokenErr l r = 0 then (if 0 ≤ Rk.broken l r then 8 else 0) else Rk.brokenErr l r) := rfl
  obtain ⟨a1, c1, rfl⟩ := pins_slice hP
  obtain ⟨a2, c2, rfl⟩ := rules_slice hR
  clear hP hR
  generalize Ld.ruled l r = Q at HE ⊢
  generalize Rk.brokenErr l r = E at HE HC
  generalize Rk.broken l r = K at HE HC
  go_enter Tryz.func69, Tryz.ntmps69
  go_wp2_with fail
  refine HC.mono ?_
  rintro e w1 ⟨rfl, hb1⟩
  have HB : Hid (Below w.heap.size w w1) := hb1
  clear hb1 HC
  by_cases h1 : E = 0
  · subst h1
    by_cases h2 : 0 ≤ K
    · have HQ : Hid (Q = 8) := by rw [HE.out, if_pos rfl, if_pos h2]; rfl
      have h2' : decide (K ≥ 0) = true := decide_eq_true h2
      clear HE
      go_wp2
      go_ret
      exact ⟨by rw [HQ.out]; rfl, HB.out⟩
    · have HQ : Hid (Q = 0) := by rw [HE.out, if_pos rfl, if_neg h2]; rfl
      have h2' : decide (0 ≤ K) = false := decide_eq_false h2
      clear HE
      go_wp2
      go_ret
      exact ⟨by rw [HQ.out]; rfl, HB.out⟩
  · have HQ : Hid (Q = E) := by rw [HE.out, if_neg h1]; rfl
    have h1' : (E == 0) = false := by simpa using h1
    clear HE h1
    go_wp2
    go_ret
    exact ⟨by rw [HQ.out]; rfl, HB.out⟩
theorem orr_cf (f d : Int) (L : List (Int × Int)) (R : List Rk.Rl) (W : List (List Int)) : orr [Lk.chkRel f L, begE f d, Ld.ruled L R, Wv.chk W (Ld.agents ⟨f, L, R, W, d⟩)] = Ld.chkConfig ⟨f, L, R, W, d⟩ := by
  have e := Ld.agents_chk ⟨f, L, R, W, d⟩
  simp only at e
  rw [e]
  unfold Ld.chkConfig begE
  simp only [orr]
  by_cases h : Lk.chkRel f L = 0
  · rw [if_pos h, if_pos h]
    by_cases h2 : f = 1 ∧ Lk.within d 0 3 = true
    · rw [if_pos h2, if_pos h2, if_pos rfl]
      by_cases h3 : Ld.ruled L R = 0
      · rw [if_pos h3, if_pos h3]
        by_cases h4 : Wv.chk W (Ld.many ⟨f, L, R, W, d⟩) = 0
        · rw [if_pos h4, h4]
        · rw [if_neg h4]
      · rw [if_neg h3, if_neg h3]
    · rw [if_neg h2, if_neg h2, if_neg (by decide)]
  · rw [if_neg h, if_neg h]
theorem cells4 (w : World) (x y z u : Int) (t : TypeId) : ∀ j, j < [x, y, z, u].length → (w.alloc (.cells #[.int .i64 x, .int .i64 y, .int .i64 z, .int .i64 u] t)).cell? ⟨w.heap.size, j, none⟩ = some (.int .i64 ([x, y, z, u].getD j 0)) := by
  intro j hj
  rw [(blk_alloc w #[.int .i64 x, .int .i64 y, .int .i64 z, .int .i64 u] t).cell j]
  match j, hj with
  | 0, _ => rfl
  | 1, _ => rfl
  | 2, _ => rfl
  | 3, _ => rfl
  | n + 4, h => simp at h; omega
/-- cmp.Or at error numbers that were just laid -/
theorem orE2 (w : World) (x y : Int) :
    Calls Tryz.prog 11 #[.slice (some ⟨w.heap.size, 0, none⟩) 2 2] (w.alloc (.cells #[.int .i64 x, .int .i64 y] 35)) fun e w' => e = .returned (.int .i64 (orr [x, y])) ∧ Below (w.alloc (.cells #[.int .i64 x, .int .i64 y] 35)).heap.size (w.alloc (.cells #[.int .i64 x, .int .i64 y] 35)) w' :=
  or_any w.heap.size 2 [x, y] _ (by simp) (cells2 _ _ _ _)
theorem orE3 (w : World) (x y z : Int) :
    Calls Tryz.prog 11 #[.slice (some ⟨w.heap.size, 0, none⟩) 3 3] (w.alloc (.cells #[.int .i64 x, .int .i64 y, .int .i64 z] 35)) fun e w' => e = .returned (.int .i64 (orr [x, y, z])) ∧ Below (w.alloc (.cells #[.int .i64 x, .int .i64 y, .int .i64 z] 35)).heap.size (w.alloc (.cells #[.int .i64 x, .int .i64 y, .int .i64 z] 35)) w' :=
  or_any w.heap.size 3 [x, y, z] _ (by simp) (cells3 _ _ _ _ _)
theorem orE4 (w : World) (x y z u : Int) :
    Calls Tryz.prog 11 #[.slice (some ⟨w.heap.size, 0, none⟩) 4 4] (w.alloc (.cells #[.int .i64 x, .int .i64 y, .int .i64 z, .int .i64 u] 35)) fun e w' => e = .returned (.int .i64 (orr [x, y, z, u])) ∧ Below (w.alloc (.cells #[.int .i64 x, .int .i64 y, .int .i64 z, .int .i64 u] 35)).heap.size (w.alloc (.cells #[.int .i64 x, .int .i64 y, .int .i64 z, .int .i64 u] 35)) w' :=
  or_any w.heap.size 4 [x, y, z, u] _ (by simp) (cells4 _ _ _ _ _ _)
set_option maxHeartbeats 8000000 in
set_option maxRecDepth 100000 in
theorem config_any (cf : Ld.Config) (A B D : Value) (w : World) (hC : CfAt w cf A B D) :
    Calls Tryz.prog 33 #[cfV cf A B D] w fun e w' => e = .returned (.int .i64 (Ld.chkConfig cf)) ∧ Below w.heap.size w w' := by
  obtain ⟨f, L, R, W, d⟩ := cf
  obtain ⟨a1, c1, rfl⟩ := pins_slice hC.1
  obtain ⟨a2, c2, rfl⟩ := rules_slice hC.2.1
  obtain ⟨a3, c3, rfl⟩ := waves_slice hC.2.2
  have HO : Hid (orr [Lk.chkRel f L, begE f d, Ld.ruled L R, Wv.chk W (Ld.agents ⟨f, L, R, W, d⟩)] = Ld.chkConfig ⟨f, L, R, W, d⟩) := orr_cf f d L R W
  have H1 : Hid (∀ w', Below w.heap.size w w' → Calls Tryz.prog 42 #[.agg #[.int .i64 f, .slice a1 L.length c1]] w' fun e w'' => e = .returned (.int .i64 (Lk.chkRel f L)) ∧ Below w'.heap.size w' w'') := fun w' hb => release_any f _ L w' (hC.1.below hb)
  have H2 : Hid (∀ w', Calls Tryz.prog 68 #[.agg #[.int .i64 f, .slice a1 L.length c1, .slice a2 R.length c2, .slice a3 W.length c3, .int .i64 d]] w' fun e w'' => e = .returned (.int .i64 (begE f d)) ∧ Below w'.heap.size w' w'') := fun w' => begin_any f d a1 a2 a3 _ c1 _ c2 _ c3 w'
  have H3 : Hid (∀ w', Below w.heap.size w w' → Calls Tryz.prog 69 #[.slice a1 L.length c1, .slice a2 R.length c2] w' fun e w'' => e = .returned (.int .i64 (Ld.ruled L R)) ∧ Below w'.heap.size w' w'') := fun w' hb => kept_any _ _ L R w' (hC.1.below hb) (hC.2.1.below hb)
  have H4 : Hid (∀ w', Below w.heap.size w w' → Calls Tryz.prog 26 #[.agg #[.int .i64 f, .slice a1 L.length c1, .slice a2 R.length c2, .slice a3 W.length c3, .int .i64 d]] w' fun e w'' => e = .returned (.int .i64 (Ld.agents ⟨f, L, R, W, d⟩)) ∧ Below w'.heap.size w' w'') := fun w' hb => ldAgents_any ⟨f, L, R, W, d⟩ _ _ _ w' (hC.below hb)
  have H5 : Hid (∀ w', Below w.heap.size w w' → Calls Tryz.prog 70 #[.slice a3 W.length c3, .int .i64 (Ld.agents ⟨f, L, R, W, d⟩)] w' fun e w'' => e = .returned (.int .i64 (Wv.chk W (Ld.agents ⟨f, L, R, W, d⟩))) ∧ Below w'.heap.size w' w'') := fun w' hb => checkP_any _ W _ w' (hC.2.2.below hb)
  clear hC
  unfold cfV cfC
  simp only
  generalize Ld.chkConfig ⟨f, L, R, W, d⟩ = Q at HO ⊢
  generalize Wv.chk W (Ld.agents ⟨f, L, R, W, d⟩) = E4 at HO H5
  generalize Ld.agents ⟨f, L, R, W, d⟩ = M at H4 H5
  generalize Lk.chkRel f L = E1 at HO H1
  generalize begE f d = E2 at HO H2
  generalize Ld.ruled L R = E3 at HO H3
  generalize L.length = n1 at *
  generalize R.length = n2 at *
  generalize W.length = n3 at *
  have HBK := box1 w #[.int .i64 f, .slice a1 n1 c1, .slice a2 n2 c2, .slice a3 n3 c3, .int .i64 d] 28
  go_enter Tryz.func33, Tryz.ntmps33
  go_wp2_with fail
  generalize (w.alloc (.cells #[.int .i64 f, .slice a1 n1 c1, .slice a2 n2 c2, .slice a3 n3 c3, .int .i64 d] 28)) = V at HBK ⊢
  obtain ⟨hB0, hK0⟩ := HBK
  generalize hgb : w.heap.size = gb at hK0 ⊢
  have HB0 : Hid (Below w.heap.size w V) := by rw [hgb]; exact hgb ▸ hB0
  have S0 : Hid (V.drew.cell? ⟨gb, 0, none⟩ = some (.int .i64 f) ∧ V.drew.cell? ⟨gb, 1, none⟩ = some (.slice a1 n1 c1) ∧ V.drew.cell? ⟨gb, 2, none⟩ = some (.slice a2 n2 c2) ∧ V.drew.cell? ⟨gb, 3, none⟩ = some (.slice a3 n3 c3) ∧ V.drew.cell? ⟨gb, 4, none⟩ = some (.int .i64 d) ∧ Hid (Below V.heap.size V V.drew)) := ⟨hK0.cell 0, hK0.cell 1, hK0.cell 2, hK0.cell 3, hK0.cell 4, (Below.refl _ V).drew⟩
  have KP : Hid (∀ x y : World, Below x.heap.size x y → (x.cell? ⟨gb, 0, none⟩ = some (.int .i64 f) ∧ x.cell? ⟨gb, 1, none⟩ = some (.slice a1 n1 c1) ∧ x.cell? ⟨gb, 2, none⟩ = some (.slice a2 n2 c2) ∧ x.cell? ⟨gb, 3, none⟩ = some (.slice a3 n3 c3) ∧ x.cell? ⟨gb, 4, none⟩ = some (.int .i64 d) ∧ Hid (Below V.heap.size V x)) → (y.cell? ⟨gb, 0, none⟩ = some (.int .i64 f) ∧ y.cell? ⟨gb, 1, none⟩ = some (.slice a1 n1 c1) ∧ y.cell? ⟨gb, 2, none⟩ = some (.slice a2 n2 c2) ∧ y.cell? ⟨gb, 3, none⟩ = some (.slice a3 n3 c3) ∧ y.cell? ⟨gb, 4, none⟩ = some (.int .i64 d) ∧ Hid (Below V.heap.size V y))) := fun x y hb h => by
    obtain ⟨h1, h2, h3, h4, h5, hB⟩ := h
    have e : ∀ b o v, x.cell? ⟨b, o, none⟩ = some v → y.cell? ⟨b, o, none⟩ = some v := fun b o v hc => (hb.cell (p := ⟨b, o, none⟩) (World.block_lt_of_cell? x _ hc)).trans hc
    exact ⟨e _ _ _ h1, e _ _ _ h2, e _ _ _ h3, e _ _ _ h4, e _ _ _ h5, hB.out.trans (hb.mono hB.out.size)⟩
  have KA : Hid (∀ (x : World) O, Below x.heap.size x (x.alloc O)) := fun x O => (Below.refl _ x).alloc (Nat.le_refl _) O
  have SP : Hid (∀ x : World, (x.cell? ⟨gb, 0, none⟩ = some (.int .i64 f) ∧ x.cell? ⟨gb, 1, none⟩ = some (.slice a1 n1 c1) ∧ x.cell? ⟨gb, 2, none⟩ = some (.slice a2 n2 c2) ∧ x.cell? ⟨gb, 3, none⟩ = some (.slice a3 n3 c3) ∧ x.cell? ⟨gb, 4, none⟩ = some (.int .i64 d) ∧ Hid (Below V.heap.size V x)) → Below w.heap.size w x) := fun x h => HB0.out.trans (h.2.2.2.2.2.out.mono HB0.out.size)
  clear hK0 hB0
  go_region_held3 (fun w' => w'.cell? ⟨gb, 0, none⟩ = some (.int .i64 f) ∧ w'.cell? ⟨gb, 1, none⟩ = some (.slice a1 n1 c1) ∧ w'.cell? ⟨gb, 2, none⟩ = some (.slice a2 n2 c2) ∧ w'.cell? ⟨gb, 3, none⟩ = some (.slice a3 n3 c3) ∧ w'.cell? ⟨gb, 4, none⟩ = some (.int .i64 d) ∧ Hid (Below V.heap.size V w')) (first | exact KP.out _ _ (by assumption) (by assumption) | exact S0.out | exact KP.out _ _ (KA.out _ _) (by assumption))
    (first
      | (go_at_call 42; refine (H1.out _ (SP.out _ (by assumption))).mono ?_; rintro e y ⟨rfl, hby⟩)
      | (go_at_call 68; refine (H2.out _).mono ?_; rintro e y ⟨rfl, hby⟩)
      | (go_at_call 69; refine (H3.out _ (SP.out _ (by assumption))).mono ?_; rintro e y ⟨rfl, hby⟩)
      | (go_at_call 26; refine (H4.out _ (SP.out _ (by assumption))).mono ?_; rintro e y ⟨rfl, hby⟩)
      | (go_at_call 70; refine (H5.out _ (SP.out _ (by assumption))).mono ?_; rintro e y ⟨rfl, hby⟩)
      | (go_at_call 11; refine (orE4 _ _ _ _ _).mono ?_; rintro e y ⟨rfl, hby⟩))
  have HB5 : Hid (Below w.heap.size w y) := SP.out _ (by assumption)
  go_wp2
  go_ret
  exact ⟨by rw [HO.out]; rfl, hgb ▸ HB5.out⟩
end Go.Proofs.YtmlhipdfjnamiaaGreat
