/- The contract of rule.Mend, and with it those of package rule. -/
import Derived.Test.YtjedjanlmjolkabRV2
import Derived.Test.YtjedjanlmjolkabR4
import Derived.BigRegion
namespace Go.Proofs.Ytjedjanlmjolkab
open Go.RowKit
namespace Rk
open Dk
/-- With is below Least -/
def lowR (t : List Int) (r : Rl) : Bool := decide (t.getD r.2.2.1.toNat 0 < r.2.2.2)
/-- how many rules a mending loop may still meet -/
def low (t : List Int) (l : List Rl) : Nat := l.countP (lowR t)
theorem low_le (t : List Int) (l : List Rl) : low t l ≤ l.length := List.countP_le_length
theorem countP_lt {p q : Rl → Bool} {l : List Rl} (h : ∀ r ∈ l, p r = true → q r = true) {r : Rl} (hr : r ∈ l) (h1 : p r = false) (h2 : q r = true) : l.countP p < l.countP q := by
  induction l with
  | nil => cases hr
  | cons x t ih =>
    have hm : t.countP p ≤ t.countP q := List.countP_mono_left fun y hy => h y (by simp [hy])
    rw [List.countP_cons, List.countP_cons]
    rcases List.mem_cons.1 hr with rfl | hr
    · rw [h1, h2]; simp; omega
    · have := ih (fun y hy => h y (by simp [hy])) hr
      have hx := h x (by simp)
      cases hp : p x
      · cases hq : q x <;> simp <;> omega
      · rw [hx hp]; simp; omega
/-- a rule that is mended is never mended again -/
theorem fix_low {t : List Int} {l : List Rl} {r : Rl} (ht : t.length = 21) (hl : ruleOk l) (hr : r ∈ l) (hb : brk t r = true) : low (fix t r) l < low t l := by
  obtain ⟨_, h2, _, _⟩ := hl r hr
  refine countP_lt (fun x hx h => ?_) hr ?_ (by rw [lowR]; exact decide_eq_true (brk_true hb).2)
  · obtain ⟨_, hx2, _, _⟩ := hl x hx
    rw [lowR] at h ⊢
    have h := of_decide_eq_true h
    have := le_fix ht hb x.2.2.1.toNat (by omega)
    exact decide_eq_true (by omega)
  · rw [lowR, fix_get t r _ (by omega), if_pos rfl]
    exact decide_eq_false (by omega)
theorem low_zero {t : List Int} {l : List Rl} (h : low t l = 0) : kept t l := fun r hr => by
  have h1 := List.countP_eq_zero.1 h r hr
  cases hb : brk t r
  · rfl
  · exact absurd (decide_eq_true (brk_true hb).2) h1
end Rk
set_option maxHeartbeats 2000000 in
theorem mend_bad (v u : Value) (a : List (Int × Int)) (r : List Rk.Rl) (w : World) (hP : PinsAt w v a) (hR : RulesAt w u r) (he : Rk.brokenErr a r ≠ 0) :
    Calls Try.prog 7 #[v, u] w fun e w' => e = .returned (.tuple #[.slice none 0 0, .int .i64 (Rk.brokenErr a r)]) ∧ Below w.heap.size w w' := by
  have HC := for_any v u a r w hP hR
  have he' : (Rk.brokenErr a r != 0) = true := by simpa using he
  clear he hP hR
  go_enter Try.func7, Try.ntmps7
  go_wp2_with fail
  refine HC.mono ?_
  rintro e w1 ⟨rfl, hb1⟩
  have HB1 : Hid (Below w.heap.size w w1) := hb1
  clear HC hb1
  go_wp2_with (guard_target = wpList _ _ _ (Oper.mk _ (Op.store 44 (.tmp 6) _) _ _ _ _ :: _) _ _; refine stNV rfl (.tmp 6) (.tmp 14) rfl (by rfl) (forTab a r) (by rfl) (forTab_len a r) ?_)
  go_ret2
  exact ⟨rfl, HB1.out.alloc HB1.out.size _⟩
/-- a slice of pins has its length -/
theorem PinsAt.slice {w : World} {y : Value} {l : List (Int × Int)} (h : PinsAt w y l) : ∃ A c, y = .slice A l.length c := by
  obtain ⟨_, c', ⟨h1, a', rfl⟩ | ⟨b', o', rfl, _⟩⟩ := h
  · exact ⟨a', c', by rw [h1]; rfl⟩
  · exact ⟨_, c', rfl⟩
set_option maxHeartbeats 8000000 in
theorem mend_good (v u : Value) (a : List (Int × Int)) (r : List Rk.Rl) (w : World) (hP : PinsAt w v a) (hR : RulesAt w u r) (he : Rk.brokenErr a r = 0) :
    Calls Try.prog 7 #[v, u] w fun e w' => (∃ y, e = .returned (.tuple #[y, .int .i64 (Rk.mendErr a r)]) ∧ PinsAt w' y (Rk.mended a r)) ∧ Below w.heap.size w w' := by
  have HC : Hid (Calls Try.prog 18 #[v, u] w fun e w' => e = .returned (.tuple #[.agg (tcells (Dk.tb a)), .int .i64 0]) ∧ Below w.heap.size w w') := by
    have := for_any v u a r w hP hR
    rw [forTab, if_pos he, he] at this
    exact this
  obtain ⟨h1, h2⟩ := Rk.brokenErr_ok he
  have HK : Hid (Rk.ruleOk r) := (Rk.rchk_ok h2).2
  have hrl : r.length ≤ 10 := (Rk.rchk_ok h2).1
  have HG : Hid (Dk.good (Dk.tb a)) := Dk.good_tb h1
  have HM : Hid (Rk.mendErr a r = if 12 < (Dk.pinsOf (Rk.clo r (Dk.tb a))).length then 2 else 0) := by rw [Rk.mendErr, if_pos he]; rfl
  obtain ⟨hll, A, b, o, c, rfl, hcap, hAa, hCc⟩ := hR
  have HAa : Hid (0 < r.length → A = some ⟨b, o, none⟩ ∧ b < w.heap.size) := hAa
  have HCc : Hid (∀ j, j < r.length → w.cell? ⟨b, o + j * 4, none⟩ = some (.int .i64 (r.getD j (0, 0, 0, 0)).1) ∧ w.cell? ⟨b, o + j * 4 + 1, none⟩ = some (.int .i64 (r.getD j (0, 0, 0, 0)).2.1) ∧ w.cell? ⟨b, o + j * 4 + 2, none⟩ = some (.int .i64 (r.getD j (0, 0, 0, 0)).2.2.1) ∧ w.cell? ⟨b, o + j * 4 + 3, none⟩ = some (.int .i64 (r.getD j (0, 0, 0, 0)).2.2.2)) := hCc
  have HRR : Hid (RulesAt w (.slice A r.length c) r) := ⟨hll, A, b, o, c, rfl, hcap, hAa, hCc⟩
  clear hP he h1 h2 hAa hCc hll hcap
  go_enter Try.func7, Try.ntmps7
  go_wp2_with fail
  refine HC.out.mono ?_
  rintro e w1 ⟨rfl, hb1⟩
  have HB1 : Hid (Below w.heap.size w w1) := hb1
  have hs1 := HB1.out.size
  clear hb1 HC
  go_wp2_with (guard_target = wpList _ _ _ (Oper.mk _ (Op.store 44 (.tmp 6) _) _ _ _ _ :: _) _ _; refine stNV rfl (.tmp 6) (.tmp 14) rfl (by rfl) (Dk.tb a) (by rfl) (Dk.tb_len a) ?_)
  try simp only [Act.put]
  go_loopg [19] 10 (fun g s19 wr => ∃ (k : Nat) (x : List Int), k ≤ 10 ∧ 10 - k ≤ g ∧ s19 = .int .i64 k ∧ Hid (Rk.low x r ≤ 10 - k) ∧ Hid (TabAt wr w1.heap.size 44 x) ∧ Hid (Dk.okTab x) ∧ Hid (Rk.le (Dk.tb a) x) ∧ Hid (Rk.le x (Rk.clo r (Dk.tb a))) ∧ Hid (Below w.heap.size w wr))
  case atStart => exact ⟨0, Dk.tb a, by omega, by omega, rfl, Nat.le_trans (Rk.low_le _ _) hrl, heap_alloc_last w1 _, HG.out.1, Rk.le_refl _, (Rk.clo_spec HK.out HG.out.1).2.1, HB1.out.alloc hs1 _⟩
  case round =>
    obtain ⟨k, x, hk, hg, rfl, HLW, HT, HOK, HL1, HL2, HW⟩ := hrel
    have HXL : Hid (x.length = 21) := HOK.out.1
    by_cases hk10 : k < 10
    · have hk10' : (k : Int) < 10 := by omega
      go_wp2_with (guard_target = wpList _ _ _ (Oper.mk _ (Op.load 44 (.tmp 6)) _ _ _ _ :: _) _ _; refine ldV (t := x) rfl (.tmp 6) rfl w1.heap.size (by rfl) HT.out HXL.out ?_)
      refine (ffirst_any _ _ _ _ HXL.out (HRR.out.below HW.out) HK.out).mono ?_
      rintro e w2 ⟨rfl, hb2⟩
      have HW2 : Hid (Below w.heap.size w w2) := HW.out.trans (hb2.mono HW.out.size)
      have HT2 : Hid (TabAt w2 w1.heap.size 44 x) := HT.out.below hb2 HT.out.lt
      clear hb2 HW HT
      by_cases hf : Rk.first x r = -1
      · have HX : Hid (x = Rk.clo r (Dk.tb a)) := Rk.clo_unique HK.out HG.out.1 HOK.out.1 HL1.out HL2.out (Rk.first_none.1 hf)
        have HE0 : Hid (Rk.mendErr a r = if 12 < (Dk.pinsOf x).length then 2 else 0) := by rw [HM.out, ← HX.out]; rfl
        have HME : Hid (Rk.mended a r = if 12 < (Dk.pinsOf x).length then [] else Dk.pinsOf x) := by
          rw [Rk.mended, HE0.out, ← HX.out]
          by_cases h12 : 12 < (Dk.pinsOf x).length
          · rw [if_pos h12, if_pos h12]; rfl
          · rw [if_neg h12, if_neg h12]; rfl
        rw [hf]
        clear hf HLW
        go_wp2_with (guard_target = wpList _ _ _ (Oper.mk _ (Op.load 44 (.tmp 6)) _ _ _ _ :: _) _ _; refine ldV (t := x) rfl (.tmp 6) rfl w1.heap.size (by rfl) HT2.out HXL.out ?_)
        refine (pins_any _ HXL.out _).mono ?_
        rintro e w3 ⟨⟨y, rfl, hy⟩, hb3⟩
        obtain ⟨A', c', rfl⟩ := hy.slice
        have HY : Hid (PinsAt w3 (.slice A' (Dk.pinsOf x).length c') (Dk.pinsOf x)) := hy
        have HB3 : Hid (Below w.heap.size w w3) := HW2.out.trans (hb3.mono HW2.out.size)
        have hyl : (Dk.pinsOf x).length ≤ 21 := Dk.fm_len _ 21
        clear hy hb3
        by_cases h12 : 12 < (Dk.pinsOf x).length
        · have HE2 : Hid (Rk.mendErr a r = 2) := by rw [HE0.out, if_pos h12]; rfl
          have HM2 : Hid (Rk.mended a r = []) := by rw [HME.out, if_pos h12]; rfl
          go_wp2
          go_ret2
          exact ⟨⟨_, by rw [HE2.out]; rfl, by rw [HM2.out]; exact pins_none _⟩, HB3.out⟩
        · have HE2 : Hid (Rk.mendErr a r = 0) := by rw [HE0.out, if_neg h12]; rfl
          have HM2 : Hid (Rk.mended a r = Dk.pinsOf x) := by rw [HME.out, if_neg h12]; rfl
          have h12' : (Dk.pinsOf x).length ≤ 12 := by omega
          clear h12
          go_wp2
          go_ret2
          exact ⟨⟨_, by rw [HE2.out]; rfl, by rw [HM2.out]; exact HY.out⟩, HB3.out⟩
      · obtain ⟨j, p, hj, hbk, hfj⟩ := Rk.first_some hf
        have hjl : j < r.length := (List.getElem?_eq_some_iff.1 hj).1
        obtain ⟨rfl, hbw⟩ := HAa.out (by omega)
        obtain ⟨g1, g2, g3, g4⟩ := HCc.out j hjl
        rw [← HW2.out.cell (p := ⟨b, _, none⟩) hbw] at g1 g2 g3 g4
        clear HAa
        have hpm : p ∈ r := List.mem_of_getElem? hj
        have hgd : r.getD j (0, 0, 0, 0) = p := by rw [List.getD_eq_getElem?_getD, hj]; rfl
        rw [hgd] at g1 g2 g3 g4
        have hin := HK.out p hpm
        have HF1 : Hid (Dk.okTab (Rk.fix x p)) := Rk.fix_ok HOK.out hin
        have HF2 : Hid (Rk.le (Dk.tb a) (Rk.fix x p)) := Rk.le_trans HL1.out (Rk.le_fix HOK.out.1 hbk)
        have HF3 : Hid (Rk.le (Rk.fix x p) (Rk.clo r (Dk.tb a))) := Rk.clo_step HK.out HG.out.1 HOK.out.1 hpm hbk HL2.out
        have HF4 : Hid (Rk.low (Rk.fix x p) r ≤ 10 - (k + 1)) := by
          have := Rk.fix_low HXL.out HK.out hpm hbk
          have := HLW.out
          show Rk.low (Rk.fix x p) r ≤ 10 - (k + 1)
          omega
        rw [hfj]
        obtain ⟨n0, v, m0, s⟩ := p
        obtain ⟨-, hi2, -, -⟩ := hin
        simp only at g1 g2 g3 g4 hi2
        obtain ⟨m, rfl⟩ : ∃ m : Nat, m0 = m := ⟨m0.toNat, by omega⟩
        have hm : m < 21 := by omega
        have hm' : (m : Int) < 21 := by omega
        have hjl' : (j : Int) < r.length := by omega
        have c8 := HT2.out.cell m (by rw [HXL.out]; exact hm)
        have hfz := frozen_of_row w2 w1.heap.size m _ _ HT2.out
        clear hf hfj hj hbk hpm hgd hi2 HLW HL1 HL2
        go_wp2_with fail
        go_region
        have HT1 : Hid (TabAt (w2.setCell ⟨w1.heap.size, m, none⟩ (.int .i64 s)).drew w1.heap.size 44 (Rk.fix x (n0, v, (m : Int), s))) := by
          have := HT2.out.set m s
          rw [Rk.fix]
          simp only [Int.toNat_natCast]
          exact this
        have HW1 : Hid (Below w.heap.size w (w2.setCell ⟨w1.heap.size, m, none⟩ (.int .i64 s)).drew) := (HW2.out.setCell hs1 _).drew
        go_wp2
        go_roundg (10 - (k + 1))
        case measure => omega
        case rel => exact ⟨k + 1, _, by omega, by omega, by go_num, HF4, HT1, HF1, HF2, HF3, HW1⟩
    · have hk' : k = 10 := by omega
      subst hk'
      have HX : Hid (x = Rk.clo r (Dk.tb a)) := Rk.clo_unique HK.out HG.out.1 HOK.out.1 HL1.out HL2.out (Rk.low_zero (by have := HLW.out; omega))
      have HE0 : Hid (Rk.mendErr a r = if 12 < (Dk.pinsOf x).length then 2 else 0) := by rw [HM.out, ← HX.out]; rfl
      have HME : Hid (Rk.mended a r = if 12 < (Dk.pinsOf x).length then [] else Dk.pinsOf x) := by
        rw [Rk.mended, HE0.out, ← HX.out]
        by_cases h12 : 12 < (Dk.pinsOf x).length
        · rw [if_pos h12, if_pos h12]; rfl
        · rw [if_neg h12, if_neg h12]; rfl
      clear hk10 hk HLW
      go_wp2_with (guard_target = wpList _ _ _ (Oper.mk _ (Op.load 44 (.tmp 6)) _ _ _ _ :: _) _ _; refine ldV (t := x) rfl (.tmp 6) rfl w1.heap.size (by rfl) HT.out HXL.out ?_)
      refine (pins_any _ HXL.out _).mono ?_
      rintro e w3 ⟨⟨y, rfl, hy⟩, hb3⟩
      obtain ⟨A', c', rfl⟩ := hy.slice
      have HY : Hid (PinsAt w3 (.slice A' (Dk.pinsOf x).length c') (Dk.pinsOf x)) := hy
      have HB3 : Hid (Below w.heap.size w w3) := HW.out.trans (hb3.mono HW.out.size)
      have hyl : (Dk.pinsOf x).length ≤ 21 := Dk.fm_len _ 21
      clear hy hb3
      by_cases h12 : 12 < (Dk.pinsOf x).length
      · have HE2 : Hid (Rk.mendErr a r = 2) := by rw [HE0.out, if_pos h12]; rfl
        have HM2 : Hid (Rk.mended a r = []) := by rw [HME.out, if_pos h12]; rfl
        go_wp2
        go_ret2
        exact ⟨⟨_, by rw [HE2.out]; rfl, by rw [HM2.out]; exact pins_none _⟩, HB3.out⟩
      · have HE2 : Hid (Rk.mendErr a r = 0) := by rw [HE0.out, if_neg h12]; rfl
        have HM2 : Hid (Rk.mended a r = Dk.pinsOf x) := by rw [HME.out, if_neg h12]; rfl
        have h12' : (Dk.pinsOf x).length ≤ 12 := by omega
        clear h12
        go_wp2
        go_ret2
        exact ⟨⟨_, by rw [HE2.out]; rfl, by rw [HM2.out]; exact HY.out⟩, HB3.out⟩
theorem mend_any (v u : Value) (a : List (Int × Int)) (r : List Rk.Rl) (w : World) (hP : PinsAt w v a) (hR : RulesAt w u r) :
    Calls Try.prog 7 #[v, u] w fun e w' => (∃ y, e = .returned (.tuple #[y, .int .i64 (Rk.mendErr a r)]) ∧ PinsAt w' y (Rk.mended a r)) ∧ Below w.heap.size w w' := by
  by_cases he : Rk.brokenErr a r = 0
  · exact mend_good v u a r w hP hR he
  · refine (mend_bad v u a r w hP hR he).mono ?_
    rintro e w' ⟨rfl, hb⟩
    have hm : Rk.mendErr a r = Rk.brokenErr a r := by rw [Rk.mendErr, if_neg he]
    exact ⟨⟨_, by rw [hm], by rw [Rk.mended, if_neg (by rw [hm]; exact he)]; exact pins_none _⟩, hb⟩
theorem ruleC : RuleC := ⟨rcheck_any, broken_any, mend_any⟩
end Go.Proofs.Ytjedjanlmjolkab
