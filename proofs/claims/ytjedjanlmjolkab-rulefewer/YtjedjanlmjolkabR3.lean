/- The contract of the document's Mended. -/
import Derived.Test.YtjedjanlmjolkabR2
import Derived.Test.YtjedjanlmjolkabT3
import Derived.BigRegion
namespace Go.Proofs.Ytjedjanlmjolkab
open Go.RowKit
set_option maxHeartbeats 2000000 in
theorem mendedR_bad (v u : Value) (a : List (Int × Int)) (r : List Rk.Rl) (w : World) (hP : PinsAt w v a) (hR : RulesAt w u r) (he : Rk.brokenErr a r ≠ 0) :
    Calls Try.prog 9 #[v, u] w fun e w' => e = .returned (.tuple #[.slice none 0 0, .int .i64 (Rk.brokenErr a r)]) ∧ Below w.heap.size w w' := by
  have HC := fbroken_any v u a r w hP hR
  have he' : (Rk.brokenErr a r != 0) = true := by simpa using he
  clear he hP hR
  go_enter Try.func9, Try.ntmps9
  go_wp2_with fail
  refine HC.mono ?_
  rintro e w1 ⟨rfl, hb1⟩
  go_wp2
  go_ret2
  exact ⟨rfl, hb1⟩
set_option maxHeartbeats 8000000 in
theorem mendedR_good (v u : Value) (a : List (Int × Int)) (r : List Rk.Rl) (w : World) (hP : PinsAt w v a) (hR : RulesAt w u r) (he : Rk.brokenErr a r = 0) :
    Calls Try.prog 9 #[v, u] w fun e w' => (∃ y, e = .returned (.tuple #[y, .int .i64 (Rk.mendErr a r)]) ∧ PinsAt w' y (Rk.mended a r)) ∧ Below w.heap.size w w' := by
  have HC : Hid (Calls Try.prog 8 #[v, u] w fun e w' => e = .returned (.tuple #[.int .i64 (Rk.first (Dk.tb a) r), .int .i64 0]) ∧ Below w.heap.size w w') := by
    have := fbroken_any v u a r w hP hR
    rw [Rk.broken, if_pos he, he] at this
    exact this
  obtain ⟨h1, h2⟩ := Rk.brokenErr_ok he
  have HP : Hid (PinsAt w v a) := hP
  have HA : Hid (Lk.chk a = 0) := h1
  have HQ : Hid (Rk.rchk r = 0) := h2
  have HK : Hid (Rk.ruleOk r) := (Rk.rchk_ok h2).2
  have hrl : r.length ≤ 10 := (Rk.rchk_ok h2).1
  have HG : Hid (Dk.good (Dk.tb a)) := Dk.good_tb h1
  have HM : Hid (Rk.mendErr a r = if 12 < (Dk.pinsOf (Rk.clo r (Dk.tb a))).length then 2 else 0) := by rw [Rk.mendErr, if_pos he]; rfl
  obtain ⟨hll, A, b, o, c, rfl, hcap, hAa, hCc⟩ := hR
  have HAa : Hid (0 < r.length → A = some ⟨b, o, none⟩ ∧ b < w.heap.size) := hAa
  have HCc : Hid (∀ j, j < r.length → w.cell? ⟨b, o + j * 4, none⟩ = some (.int .i64 (r.getD j (0, 0, 0, 0)).1) ∧ w.cell? ⟨b, o + j * 4 + 1, none⟩ = some (.int .i64 (r.getD j (0, 0, 0, 0)).2.1) ∧ w.cell? ⟨b, o + j * 4 + 2, none⟩ = some (.int .i64 (r.getD j (0, 0, 0, 0)).2.2.1) ∧ w.cell? ⟨b, o + j * 4 + 3, none⟩ = some (.int .i64 (r.getD j (0, 0, 0, 0)).2.2.2)) := hCc
  have HRR : Hid (RulesAt w (.slice A r.length c) r) := ⟨hll, A, b, o, c, rfl, hcap, hAa, hCc⟩
  clear hP he h1 h2 hAa hCc hll hcap
  go_enter Try.func9, Try.ntmps9
  go_wp2_with fail
  refine HC.out.mono ?_
  rintro e w1 ⟨rfl, hb1⟩
  have HB1 : Hid (Below w.heap.size w w1) := hb1
  clear hb1 HC
  go_wp2_with fail
  refine (tableR_any _ _ _ (HP.out.below HB1.out) HA.out).mono ?_
  rintro e w2 ⟨rfl, hb2⟩
  have HB2 : Hid (Below w.heap.size w w2) := HB1.out.trans (hb2.mono HB1.out.size)
  have hs2 := HB2.out.size
  clear hb2 HB1
  go_wp2_with (guard_target = wpList _ _ _ (Oper.mk _ (Op.store 43 (.tmp 8) _) _ _ _ _ :: _) _ _; refine stNR rfl (.tmp 8) (.tmp 19) rfl (by rfl) (Dk.tb a) (by rfl) (Dk.tb_len a) ?_)
  simp only [Act.put]
  go_loopg [6] 2080 (fun g s6 wr => ∃ x : List Int, Hid (Rk.room x ≤ g) ∧ s6 = .int .i64 (Rk.first x r) ∧ Hid (TabAt wr w2.heap.size 43 x) ∧ Hid (Dk.okTab x) ∧ Hid ((Dk.pinsOf x).length ≤ 12) ∧ Hid (Rk.le (Dk.tb a) x) ∧ Hid (Rk.le x (Rk.clo r (Dk.tb a))) ∧ Hid (Below w.heap.size w wr))
  case atStart => exact ⟨Dk.tb a, Nat.le_trans (Rk.room_le HG.out.1) (by decide), rfl, heap_alloc_last w2 _, HG.out.1, HG.out.2, Rk.le_refl _, (Rk.clo_spec HK.out HG.out.1).2.1, HB2.out.alloc hs2 _⟩
  case round =>
    obtain ⟨x, HRM, rfl, HT, HOK, HLN, HL1, HL2, HW⟩ := hrel
    by_cases hf : Rk.first x r = -1
    · have HX : Hid (x = Rk.clo r (Dk.tb a)) := Rk.clo_unique HK.out HG.out.1 HOK.out.1 HL1.out HL2.out (Rk.first_none.1 hf)
      have HE0 : Hid (Rk.mendErr a r = 0) := by rw [HM.out, ← HX.out, if_neg (by have := HLN.out; omega)]; rfl
      have HME : Hid (Rk.mended a r = Dk.pinsOf x) := by rw [Rk.mended, if_pos HE0.out, ← HX.out]; rfl
      have HNN : Hid (∀ n, n < 21 → 0 ≤ x.getD n 0) := fun n hn => (HOK.out.2.2 n hn).1
      rw [hf]
      clear hf HRM
      go_wp2_with (guard_target = wpList _ _ _ (Oper.mk _ (Op.load 43 (.tmp 8)) _ _ _ _ :: _) _ _; refine ldR (t := x) rfl (.tmp 8) rfl w2.heap.size (by rfl) HT.out HOK.out.1 ?_)
      refine (lockOf_any _ HOK.out.1 HNN.out _).mono ?_
      rintro e w3 ⟨⟨y, rfl, hy⟩, hb3⟩
      have HY : Hid (PinsAt w3 y (Rk.mended a r)) := by rw [HME.out]; exact hy
      have HB3 : Hid (Below w.heap.size w w3) := HW.out.trans (hb3.mono HW.out.size)
      clear hy hb3
      go_wp2
      go_ret2
      exact ⟨⟨_, by rw [HE0.out]; rfl, HY.out⟩, HB3.out⟩
    · obtain ⟨j, p, hj, hbk, hfj⟩ := Rk.first_some hf
      have hjl : j < r.length := (List.getElem?_eq_some_iff.1 hj).1
      obtain ⟨rfl, hbw⟩ := HAa.out (by omega)
      obtain ⟨g1, g2, g3, g4⟩ := HCc.out j hjl
      rw [← HW.out.cell (p := ⟨b, _, none⟩) hbw] at g1 g2 g3 g4
      clear HAa
      have hpm : p ∈ r := List.mem_of_getElem? hj
      have hgd : r.getD j (0, 0, 0, 0) = p := by rw [List.getD_eq_getElem?_getD, hj]; rfl
      rw [hgd] at g1 g2 g3 g4
      have hin := HK.out p hpm
      have HF1 : Hid (Dk.okTab (Rk.fix x p)) := Rk.fix_ok HOK.out hin
      have HF2 : Hid (Rk.le (Dk.tb a) (Rk.fix x p)) := Rk.le_trans HL1.out (Rk.le_fix HOK.out.1 hbk)
      have HF3 : Hid (Rk.le (Rk.fix x p) (Rk.clo r (Dk.tb a))) := Rk.clo_step HK.out HG.out.1 HOK.out.1 hpm hbk HL2.out
      have HF4 : Hid (Rk.room (Rk.fix x p) < gk) := Nat.lt_of_lt_of_le (Rk.fix_room HOK.out.1 hin hbk) HRM.out
      rw [hfj]
      obtain ⟨n0, v, m0, s⟩ := p
      obtain ⟨-, hi2, -, -⟩ := hin
      simp only at g1 g2 g3 g4 hi2
      obtain ⟨m, rfl⟩ : ∃ m : Nat, m0 = m := ⟨m0.toNat, by omega⟩
      have hm : m < 21 := by omega
      have hm' : (m : Int) < 21 := by omega
      have hjl' : (j : Int) < r.length := by omega
      have c8 := HT.out.cell m (by rw [HOK.out.1]; exact hm)
      have hfz := frozen_of_row wr w2.heap.size m _ _ HT.out
      clear hf hfj hj hbk hpm hgd hi2 HRM HL1 HL2
      go_wp2_with fail
      go_region
      have HT1 : Hid (TabAt (wr.setCell ⟨w2.heap.size, m, none⟩ (.int .i64 s)).drew w2.heap.size 43 (Rk.fix x (n0, v, (m : Int), s))) := by
        have := HT.out.set m s
        rw [Rk.fix]
        simp only [Int.toNat_natCast]
        exact this
      have HW1 : Hid (Below w.heap.size w (wr.setCell ⟨w2.heap.size, m, none⟩ (.int .i64 s)).drew) := (HW.out.setCell hs2 _).drew
      generalize (wr.setCell ⟨w2.heap.size, m, none⟩ (.int .i64 s)).drew = wx at HT1 HW1
      generalize Rk.fix x (n0, v, (m : Int), s) = z at HT1 HF1 HF2 HF3 HF4
      clear HT HW c8 hfz g1 g2 g3 g4 hm' hjl' HOK HLN
      have HZL : Hid (z.length = 21) := HF1.out.1
      have HNN : Hid (∀ n, n < 21 → 0 ≤ z.getD n 0) := fun n hn => (HF1.out.2.2 n hn).1
      go_wp2_with (guard_target = wpList _ _ _ (Oper.mk _ (Op.load 43 (.tmp 8)) _ _ _ _ :: _) _ _; refine ldR (t := z) rfl (.tmp 8) rfl w2.heap.size (by rfl) HT1.out HZL.out ?_)
      refine (lockOf_any _ HZL.out HNN.out _).mono ?_
      rintro e w3 ⟨⟨y, rfl, hy⟩, hb3⟩
      obtain ⟨hyl, hyc⟩ : (Dk.pinsOf z).length ≤ 21 ∧ ∃ A' c', y = .slice A' (Dk.pinsOf z).length c' := by
        refine ⟨Dk.fm_len _ 21, ?_⟩
        obtain ⟨_, c', ⟨h1, a', rfl⟩ | ⟨b', o', rfl, _⟩⟩ := hy
        · exact ⟨a', c', by rw [h1]; rfl⟩
        · exact ⟨_, c', rfl⟩
      obtain ⟨A', c', rfl⟩ := hyc
      have HW3 : Hid (Below w.heap.size w w3) := HW1.out.trans (hb3.mono HW1.out.size)
      have HT3 : Hid (TabAt w3 w2.heap.size 43 z) := HT1.out.below hb3 HT1.out.lt
      clear hb3 hy HT1 HW1
      by_cases h12 : 12 < (Dk.pinsOf z).length
      · have HE2 : Hid (Rk.mendErr a r = 2) := by
          rw [HM.out, if_pos (Nat.lt_of_lt_of_le h12 (Rk.pins_mono HF1.out HF3.out))]; rfl
        have HME : Hid (Rk.mended a r = []) := by rw [Rk.mended, if_neg (by rw [HE2.out]; decide)]; rfl
        go_wp2
        go_ret2
        exact ⟨⟨_, by rw [HE2.out]; rfl, by rw [HME.out]; exact pins_none _⟩, HW3.out⟩
      · have h12' : (Dk.pinsOf z).length ≤ 12 := by omega
        have HGZ : Hid (Dk.good z) := ⟨HF1.out, h12'⟩
        have HBE : Hid (Rk.brokenErr (Dk.pinsOf z) r = 0) := by rw [Rk.brokenErr, if_pos (Dk.good_chk HGZ.out), HQ.out]; rfl
        have HBR : Hid (Rk.broken (Dk.pinsOf z) r = Rk.first z r) := by rw [Rk.broken, if_pos HBE.out, Dk.tb_pinsOf HZL.out]; rfl
        have HLN1 : Hid ((Dk.pinsOf z).length ≤ 12) := h12'
        clear h12
        go_wp2_with (guard_target = wpList _ _ _ (Oper.mk _ (Op.load 43 (.tmp 8)) _ _ _ _ :: _) _ _; refine ldR (t := z) rfl (.tmp 8) rfl w2.heap.size (by rfl) HT3.out HZL.out ?_)
        refine (lockOf_any _ HZL.out HNN.out _).mono ?_
        rintro e w4 ⟨⟨y2, rfl, hy2⟩, hb4⟩
        have HY4 : Hid (PinsAt w4 y2 (Dk.pinsOf z)) := hy2
        have HW4 : Hid (Below w.heap.size w w4) := HW3.out.trans (hb4.mono HW3.out.size)
        have HT4 : Hid (TabAt w4 w2.heap.size 43 z) := HT3.out.below hb4 HT3.out.lt
        clear hy2 hb4 HT3 HW3
        go_wp2_with fail
        refine (fbroken_any _ _ _ _ _ HY4.out (HRR.out.below HW4.out)).mono ?_
        rintro e w5 ⟨rfl, hb5⟩
        rw [HBR.out, HBE.out]
        have HW5 : Hid (Below w.heap.size w w5) := HW4.out.trans (hb5.mono HW4.out.size)
        have HT5 : Hid (TabAt w5 w2.heap.size 43 z) := HT4.out.below hb5 HT4.out.lt
        clear hb5 HT4 HW4 HY4
        go_wp2
        go_roundg (Rk.room z)
        case measure => exact HF4.out
        case rel => exact ⟨z, Nat.le_refl _, rfl, HT5, HF1, HLN1, HF2, HF3, HW5⟩
theorem mendedR_any (v u : Value) (a : List (Int × Int)) (r : List Rk.Rl) (w : World) (hP : PinsAt w v a) (hR : RulesAt w u r) :
    Calls Try.prog 9 #[v, u] w fun e w' => (∃ y, e = .returned (.tuple #[y, .int .i64 (Rk.mendErr a r)]) ∧ PinsAt w' y (Rk.mended a r)) ∧ Below w.heap.size w w' := by
  by_cases he : Rk.brokenErr a r = 0
  · exact mendedR_good v u a r w hP hR he
  · refine (mendedR_bad v u a r w hP hR he).mono ?_
    rintro e w' ⟨rfl, hb⟩
    have hm : Rk.mendErr a r = Rk.brokenErr a r := by rw [Rk.mendErr, if_neg he]
    exact ⟨⟨_, by rw [hm], by rw [Rk.mended, if_neg (by rw [hm]; exact he)]; exact pins_none _⟩, hb⟩
end Go.Proofs.Ytjedjanlmjolkab
