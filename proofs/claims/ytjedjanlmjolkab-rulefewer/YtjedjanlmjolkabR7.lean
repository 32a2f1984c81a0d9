/- The walk of RuleFewer, out of the contracts. -/
import Derived.Test.YtjedjanlmjolkabR6
import Derived.Test.YtjedjanlmjolkabR5
namespace Go.Proofs.Ytjedjanlmjolkab
open Go.RowKit
/-- the first so many rules -/
def cutR (A : Option Addr) (c : Nat) : Option Addr := if c = 0 then A else A.map (·.add (0 * 4))
theorem slR (A : Option Addr) (n c k : Nat) (hk : k ≤ c) (w : World) : (Instr.slice 23 (.slice A n c) none (some (.int .i64 k)) none).run Try.prog w = .ok (.slice (cutR A c) k c) w := by
  have h1 : (0 : Int) ≤ k ∧ (k : Int) ≤ c := by omega
  simp only [Instr.slice, Sem.run_bind, run_underlying Try.underlying23, Result.andThen_ok, Instr.sliceBounds, Instr.sliceBound, Sem.run_pure, asIntOf, if_pos h1, Try.sizeOf39]
  simp [cutR]
theorem cutR_some (b o c : Nat) : cutR (some ⟨b, o, none⟩) c = some ⟨b, o, none⟩ := by
  unfold cutR
  split
  · rfl
  · simp [Addr.add]
theorem rules_take {w : World} {A : Option Addr} {c : Nat} {r : List Rk.Rl} {j : Nat} (h : RulesAt w (.slice A r.length c) r) (hj : j ≤ r.length) : j ≤ c ∧ RulesAt w (.slice (cutR A c) j c) (r.take j) := by
  obtain ⟨h1, A', b, o, c', e, h3, h4, h5⟩ := h
  cases e
  have hl : (r.take j).length = j := by rw [List.length_take]; omega
  refine ⟨by omega, by omega, cutR A c, b, o, c, by rw [hl], by omega, fun h => ?_, fun i hi => ?_⟩
  · obtain ⟨e1, e2⟩ := h4 (by omega)
    exact ⟨by rw [e1]; exact cutR_some _ _ _, e2⟩
  · have hi' : i < j := by omega
    have e : (r.take j).getD i (0, 0, 0, 0) = r.getD i (0, 0, 0, 0) := by
      rw [List.getD_eq_getElem?_getD, List.getD_eq_getElem?_getD, List.getElem?_take, if_pos hi']
    rw [e]
    exact h5 i (by omega)
set_option maxHeartbeats 4000000 in
theorem rfewer_bad (C : RuleC) (v u : Value) (x : Int) (a : List (Int × Int)) (r : List Rk.Rl) (w : World) (hP : PinsAt w v a) (hR : RulesAt w u r) (he : Rk.mendErr a r ≠ 0) :
    Calls Try.prog 5 #[v, u, .int .i64 x] w fun e w' => e = .returned (.bool true) ∧ Below w.heap.size w w' := by
  have HC := C.mend v u a r w hP hR
  have he' : (Rk.mendErr a r != 0) = true := by simpa using he
  clear he hP hR
  go_enter Try.func5, Try.ntmps5
  go_wp2_with fail
  refine HC.mono ?_
  rintro e w1 ⟨⟨y, rfl, _⟩, hb1⟩
  go_wp2_with fail
  refine (ruled_any C _).mono ?_
  rintro e w2 ⟨rfl, hb2⟩
  go_wp2_with fail
  refine (ruled_any C _).mono ?_
  rintro e w3 ⟨rfl, hb3⟩
  go_wp2
  go_ret
  have h2 := hb1.trans (hb2.mono hb1.size)
  exact ⟨rfl, h2.trans (hb3.mono h2.size)⟩
set_option maxRecDepth 100000 in
set_option maxHeartbeats 16000000 in
theorem rfewer_good (C : RuleC) (v u : Value) (x : Int) (a : List (Int × Int)) (r : List Rk.Rl) (w : World) (hP : PinsAt w v a) (hR : RulesAt w u r) (he : Rk.mendErr a r = 0) :
    Calls Try.prog 5 #[v, u, .int .i64 x] w fun e w' => e = .returned (.bool true) ∧ Below w.heap.size w w' := by
  have HC : Hid (Calls Try.prog 7 #[v, u] w fun e w' => (∃ y, e = .returned (.tuple #[y, .int .i64 0]) ∧ PinsAt w' y (Rk.mended a r)) ∧ Below w.heap.size w w') := by
    have := C.mend v u a r w hP hR
    rw [he] at this
    exact this
  have hbe := (Rk.mendErr_ok he).1
  have hrc := (Rk.brokenErr_ok hbe).2
  have hrl : r.length ≤ 10 := (Rk.rchk_ok hrc).1
  have hrev : Rk.rchk r.reverse = 0 := Rk.rchk_sub hrc (by simp) (fun p hp => by simpa using hp)
  obtain ⟨o1, o2⟩ := Rk.mended_order he hrev (fun p hp => by simpa using hp) (fun p hp => by simpa using hp)
  have HR1 : Hid (Rk.mendErr a r.reverse = 0) := o1
  have HR2 : Hid (Rk.mended a r.reverse = Rk.mended a r) := o2
  have HFW : Hid (∀ j, j ≤ r.length → Rk.mendErr a (r.take j) = 0 ∧ ∀ p ∈ Rk.mended a (r.take j), p.2 ≤ Lk.find p.1 (Rk.mended a r)) := fun j hj => by
    have hm : Rk.rchk (r.take j) = 0 := Rk.rchk_sub hrc (by simp; omega) (fun p hp => List.mem_of_mem_take hp)
    exact ⟨(Rk.mended_fewer he hm (fun p hp => List.mem_of_mem_take hp)).1, fun p hp => Rk.mend_fewer he hm (fun p hp => List.mem_of_mem_take hp) hp⟩
  have HEQ : Hid ((Rk.broken a r == -1) = Lk.same a (Rk.mended a r)) := by
    show _ = _
    by_cases hb : Rk.broken a r = -1
    · rw [show Lk.same a (Rk.mended a r) = true from decide_eq_true ((Rk.mended_none he).1 hb)]; simpa using hb
    · rw [show Lk.same a (Rk.mended a r) = false from decide_eq_false (fun e => hb ((Rk.mended_none he).2 e))]; simpa using hb
  have HBE : Hid (Rk.brokenErr a r = 0) := hbe
  clear hbe hrc hrev o1 o2 he
  generalize Rk.mended a r = m at HC HR2 HFW HEQ
  have HP : Hid (PinsAt w v a) := hP
  obtain ⟨A, b, o, c, hu⟩ : ∃ A b o c, u = .slice A r.length c ∧ True := by
    obtain ⟨_, A, b, o, c, e, _⟩ := hR
    exact ⟨A, b, o, c, e, trivial⟩
  obtain ⟨rfl, -⟩ := hu
  have HR : Hid (RulesAt w (.slice A r.length c) r) := hR
  clear hP hR b o
  go_enter Try.func5, Try.ntmps5
  go_wp2_with fail
  refine HC.out.mono ?_
  rintro e w1 ⟨⟨y1, rfl, hy⟩, hb1⟩
  have HY1 : Hid (PinsAt w1 y1 m) := hy
  have HB1 : Hid (Below w.heap.size w w1) := hb1
  clear hy hb1 HC
  go_wp2_with fail
  refine (ruled_any C _).mono ?_
  rintro e w2 ⟨rfl, hb2⟩
  have HY2 : Hid (PinsAt w2 y1 m) := HY1.out.below hb2
  have HB2 : Hid (Below w.heap.size w w2) := HB1.out.trans (hb2.mono HB1.out.size)
  clear hb2 HY1 HB1
  go_wp2_with fail
  refine (clone_any _ r _ (HR.out.below HB2.out) hrl).mono ?_
  rintro e w3 ⟨⟨y2, rfl, hy2⟩, hb3⟩
  have HOW3 : Hid (OwnR w3 w2.heap.size y2 r.length (fun j => r.getD j (0, 0, 0, 0))) := hy2
  have HW3 : Hid (Below w2.heap.size w2 w3) := hb3
  clear hy2 hb3
  go_wp2_with fail
  refine (reverse_any _ r w2.heap.size _ hrl HOW3.out).mono ?_
  rintro e w4 ⟨rfl, hy4, hb4⟩
  have HRV : Hid (RulesAt w4 y2 r.reverse) := by
    have h := hy4
    rw [show r.length = r.reverse.length from by simp] at h
    exact OwnR.rules h (by simp; omega)
  have HW4 : Hid (Below w2.heap.size w2 w4) := HW3.out.trans hb4
  have HY4 : Hid (PinsAt w4 y1 m) := HY2.out.below HW4.out
  have HB4 : Hid (Below w.heap.size w w4) := HB2.out.trans (HW4.out.mono HB2.out.size)
  clear hy4 hb4 HOW3 HW3 HW4 HY2 HB2
  go_wp2_with fail
  refine (C.mend _ _ _ _ _ (HP.out.below HB4.out) HRV.out).mono ?_
  rintro e w5 ⟨⟨y3, rfl, hy5⟩, hb5⟩
  rw [HR2.out] at hy5
  rw [HR1.out]
  have HZ5 : Hid (PinsAt w5 y3 m) := hy5
  have HY5 : Hid (PinsAt w5 y1 m) := HY4.out.below hb5
  have HB5 : Hid (Below w.heap.size w w5) := HB4.out.trans (hb5.mono HB4.out.size)
  clear hy5 hb5 HY4 HB4 HRV
  go_wp2_with fail
  refine (equal_any _ _ _ _ _ HY5.out HZ5.out).mono ?_
  rintro e w6 ⟨rfl, hb6⟩
  rw [show Lk.same m m = true from decide_eq_true rfl]
  have HY6 : Hid (PinsAt w6 y1 m) := HY5.out.below hb6
  have HB6 : Hid (Below w.heap.size w w6) := HB5.out.trans (hb6.mono HB5.out.size)
  clear hb6 HY5 HB5 HZ5
  go_wp2_with fail
  have hat := at_any x (r.length + 1) (by omega) (by omega) w6
  rw [show ((r.length + 1 : Nat) : Int) = (r.length : Int) + 1 from by omega] at hat
  refine hat.mono ?_
  rintro e w7 ⟨⟨j, rfl, hj⟩, rfl⟩
  obtain ⟨hjc, hrt⟩ := rules_take HR.out (j := j) (by omega)
  have HRT : Hid (RulesAt w (.slice (cutR A c) j c) (r.take j)) := hrt
  have hsl := slR A r.length c j hjc
  obtain ⟨f1, f2⟩ := HFW.out j (by omega)
  have HF1 : Hid (Rk.mendErr a (r.take j) = 0) := f1
  have HF2 : Hid (∀ p ∈ Rk.mended a (r.take j), p.2 ≤ Lk.find p.1 m) := f2
  generalize cutR A c = A' at HRT hsl
  clear hrt f1 f2 HFW hat
  go_wp2_with fail
  refine (C.mend _ _ _ _ _ (HP.out.below HB6.out) (HRT.out.below HB6.out)).mono ?_
  rintro e w8 ⟨⟨y4, rfl, hy8⟩, hb8⟩
  rw [HF1.out]
  generalize Rk.mended a (r.take j) = fw at hy8 HF2
  obtain ⟨B, bm, om, cm, rfl, hlf, hBa, hBc⟩ := hy8.open
  have HBa : Hid (0 < fw.length → B = some ⟨bm, om, none⟩ ∧ bm < w8.heap.size) := hBa
  have HBc : Hid (∀ j, j < fw.length → w8.cell? ⟨bm, om + j * 2, none⟩ = some (.int .i64 (fw.getD j (0, 0)).1) ∧ w8.cell? ⟨bm, om + j * 2 + 1, none⟩ = some (.int .i64 (fw.getD j (0, 0)).2)) := hBc
  have HY8 : Hid (PinsAt w8 y1 m) := HY6.out.below hb8
  have HB8 : Hid (Below w.heap.size w w8) := HB6.out.trans (hb8.mono HB6.out.size)
  clear hy8 hb8 HY6 HB6 hBa hBc HRT hsl HF1
  go_wp2_with fail
  go_loopg [62] fw.length (fun g s62 wr => ∃ k : Nat, k ≤ fw.length ∧ fw.length - k ≤ g ∧ s62 = .int .i64 k ∧ Hid (Below w8.heap.size w8 wr))
  case atStart => exact ⟨0, Nat.zero_le _, by omega, rfl, Below.refl _ _⟩
  case round =>
    obtain ⟨k, hk, hg, rfl, HW⟩ := hrel
    by_cases hlt : k < fw.length
    · have HT : Hid ((fw.getD k (0, 0)).2 ≤ Lk.find (fw.getD k (0, 0)).1 m) := HF2.out _ (mem_getD hlt)
      obtain ⟨rfl, hbw⟩ := HBa.out (by omega)
      obtain ⟨g1, g2⟩ := HBc.out k hlt
      rw [← HW.out.cell (p := ⟨bm, _, none⟩) hbw] at g1 g2
      clear HBa
      obtain ⟨⟨n, z⟩, hp⟩ : ∃ p, fw.getD k (0, 0) = p := ⟨_, rfl⟩
      rw [hp] at g1 g2
      have HPQ : Hid (fw.getD k (0, 0) = (n, z)) := hp
      clear hp
      simp only at g1 g2
      have HWA : Hid (Below w8.heap.size w8 (wr.alloc (.cells #[.int .i64 n, .int .i64 z] 33))) := HW.out.alloc HW.out.size _
      have HPA : Hid ((wr.alloc (.cells #[.int .i64 n, .int .i64 z] 33)).cell? ⟨wr.heap.size, 0, none⟩ = some (.int .i64 n) ∧ (wr.alloc (.cells #[.int .i64 n, .int .i64 z] 33)).cell? ⟨wr.heap.size, 1, none⟩ = some (.int .i64 z)) := ⟨by simp [go_sem], by simp [go_sem]⟩
      have HSA : Hid (wr.heap.size < (wr.alloc (.cells #[.int .i64 n, .int .i64 z] 33)).heap.size) := by rw [World.size_alloc]; exact Nat.lt_succ_self _
      go_upto_region 15 with fail
      generalize hwx : wr.alloc (.cells #[.int .i64 n, .int .i64 z] 33) = wx at HWA HPA HSA
      clear hwx
      go_cut [62, 72] from 62 to 73 (fun sk sc wy => sk = .int .i64 k ∧ sc = .bool (decide (Lk.find n m < z)) ∧ Hid (Below w8.heap.size w8 wy))
      case first =>
        have hB : Below wx.heap.size wx wx.drew := (Below.refl _ _).drew
        obtain ⟨c0, c1⟩ := HPA.out
        go_region_with (go_at_call 14; refine (find_any _ m n _ ((HY8.out.below HWA.out).below (by assumption))).mono ?_; rintro e w' ⟨rfl, hb'⟩; have hB' : Below wx.heap.size wx w' := Below.trans (by assumption) (hb'.mono (Below.size (by assumption))); have c0' := (hB'.cell (p := ⟨wr.heap.size, 0, none⟩) HSA.out).trans HPA.out.1; have c1' := (hB'.cell (p := ⟨wr.heap.size, 1, none⟩) HSA.out).trans HPA.out.2)
        all_goals
          go_wp2_with fail
          go_meet
          exact ⟨rfl, rfl, HWA.out.trans (hB'.mono HWA.out.size)⟩
      case rest =>
        obtain ⟨rfl, rfl, HWC⟩ := hcut
        have hdf : decide (Lk.find n m < z) = false := decide_eq_false (by have := HT.out; rw [HPQ.out] at this; simp only at this; omega)
        rw [hdf]
        clear hdf HT
        go_wp2
        go_roundg (fw.length - (k + 1))
        case measure => omega
        case rel => exact ⟨k + 1, by omega, by omega, by go_num, HWC⟩
    · have hk' : k = fw.length := by omega
      subst hk'
      clear hlt hk hg HF2
      have HB9 : Hid (Below w.heap.size w wr) := HB8.out.trans (HW.out.mono HB8.out.size)
      go_wp2_with fail
      refine (C.broken _ _ _ _ _ (HP.out.below HB9.out) (HR.out.below HB9.out)).mono ?_
      rintro e w9 ⟨rfl, hb9⟩
      rw [HBE.out]
      have HB10 : Hid (Below w.heap.size w w9) := HB9.out.trans (hb9.mono HB9.out.size)
      have HY10 : Hid (PinsAt w9 y1 m) := (HY8.out.below HW.out).below hb9
      clear hb9 HW HB9
      go_wp2_with fail
      refine (equal_any _ _ _ _ _ (HP.out.below HB10.out) HY10.out).mono ?_
      rintro e w10 ⟨rfl, hb10⟩
      rw [← HEQ.out]
      have HB11 : Hid (Below w.heap.size w w10) := HB10.out.trans (hb10.mono HB10.out.size)
      clear hb10
      go_wp2
      go_ret
      exact ⟨rfl, HB11.out⟩
theorem rfewer_any (C : RuleC) (v u : Value) (x : Int) (a : List (Int × Int)) (r : List Rk.Rl) (w : World) (hP : PinsAt w v a) (hR : RulesAt w u r) :
    Calls Try.prog 5 #[v, u, .int .i64 x] w fun e w' => e = .returned (.bool true) ∧ Below w.heap.size w w' := by
  by_cases he : Rk.mendErr a r = 0
  · exact rfewer_good C v u x a r w hP hR he
  · exact rfewer_bad C v u x a r w hP hR he
end Go.Proofs.Ytjedjanlmjolkab
