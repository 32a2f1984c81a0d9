/- The walk of WaySays. -/
import Derived.Test.YtbdefihgplcdoaeYV9
import Derived.Deep.AppendLies
import Derived.Deep.RegionLawGrows
namespace Go.Proofs.Ytbdefihgplcdoae
open Go.RowKit
theorem owns_base {w : World} {b b' n : Nat} {e : TypeId} {sz : Nat} {v : Value} {xs : List Value} (h : w.ownsRow b e sz v n xs) (hb : b' ≤ b) : w.ownsRow b' e sz v n xs := by
  refine ⟨h.1, ?_⟩
  rcases h.2 with h2 | ⟨g, cap, cur, h1, h2, h3⟩
  · exact .inl h2
  · exact .inr ⟨g, cap, cur, h1, Nat.le_trans hb h2, h3⟩
namespace Wy
def wantM (l : List Mail) (m : Mail) : List Mail := if l.length < 40 then l ++ [m] else l
theorem take_err {l : List Mail} {k : Int} {tw : Bool} (h : (takeM l k tw).2.2 ≠ 0) : (takeM l k tw).1 = [] ∧ (takeM l k tw).2.1 = Mail.none := by
  unfold takeM at h ⊢
  by_cases h1 : chkMail l = 0
  · rw [if_pos h1] at h ⊢
    by_cases h2 : 0 ≤ k ∧ k < l.length
    · rw [if_pos h2] at h; exact absurd rfl h
    · rw [if_neg h2]; exact ⟨rfl, rfl⟩
  · rw [if_neg h1]; exact ⟨rfl, rfl⟩
theorem take_code (l : List Mail) (k : Int) (tw : Bool) : (takeM l k tw).2.2 = if chkMail l = 0 then (if 0 ≤ k ∧ k < l.length then 0 else 5) else chkMail l := by
  unfold takeM
  by_cases h1 : chkMail l = 0
  · rw [if_pos h1, if_pos h1]
    by_cases h2 : 0 ≤ k ∧ k < l.length
    · rw [if_pos h2, if_pos h2]
    · rw [if_neg h2, if_neg h2]
  · rw [if_neg h1, if_neg h1]
theorem send_code (l : List Mail) (m : Mail) : (sendM l m).2 = if chkMail l = 0 then chk1 m else chkMail l := by
  unfold sendM
  by_cases h1 : chkMail l = 0
  · rw [if_pos h1, if_pos h1]
    by_cases h2 : chk1 m = 0
    · rw [if_pos h2, h2]
    · rw [if_neg h2]
  · rw [if_neg h1, if_neg h1]
theorem chk_single (m : Mail) : chkMail [m] = chk1 m := by
  unfold chkMail
  rw [if_neg (by simp), chkFrom]
  by_cases h : chk1 m = 0
  · rw [if_pos h, h]; rfl
  · rw [if_neg h]
end Wy
set_option maxHeartbeats 32000000 in
set_option maxRecDepth 100000 in
theorem waySays_any (lv va ov : Value) (ps qs : List (Wy.Mail × Value)) (m : Wy.Mail) (k : Int) (tw : Bool) (w : World) (hA : MailsAt w lv ps) (hP : PinsAt w va m.lock) (hO : MailsAt w ov qs) :
    Calls Try.prog 4 #[lv, mailV m va, .int .i64 k, .bool tw, ov] w fun e w' => e = .returned (.bool true) ∧ Below w.heap.size w w' := by
  obtain ⟨i0, hi, hz0, hz1, hz2⟩ := info_parts infoMl
  obtain ⟨la, lc, rfl⟩ := mails_slice hA
  obtain ⟨oa, oc, rfl⟩ := mails_slice hO
  obtain ⟨va, vc, rfl⟩ := pins_slice hP
  have HSe : Hid (∀ w', Below w.heap.size w w' → Calls Try.prog 14 #[.slice la ps.length lc, mailV m (.slice va m.lock.length vc)] w' fun e w'' => (∃ y rs, e = .returned (.tuple #[y, .int .i64 (Wy.sendM (ps.map Prod.fst) m).2]) ∧ MailsAt w'' y rs ∧ rs.map Prod.fst = (Wy.sendM (ps.map Prod.fst) m).1) ∧ Below w'.heap.size w' w'') := fun w' hb => mlSend_any _ _ ps m w' (hA.below hb) (hP.below hb)
  have HTa : Hid (∀ w', Below w.heap.size w w' → Calls Try.prog 15 #[.slice la ps.length lc, .int .i64 k, .bool tw] w' fun e w'' => (∃ y rs v, e = .returned (.tuple #[y, mailV (Wy.takeM (ps.map Prod.fst) k tw).2.1 v, .int .i64 (Wy.takeM (ps.map Prod.fst) k tw).2.2]) ∧ MailsAt w'' y rs ∧ rs.map Prod.fst = (Wy.takeM (ps.map Prod.fst) k tw).1 ∧ PinsAt w'' v (Wy.takeM (ps.map Prod.fst) k tw).2.1.lock) ∧ Below w'.heap.size w' w'') := fun w' hb => mlTake_any _ ps k tw w' (hA.below hb)
  have HA : Hid (MailsAt w (.slice la ps.length lc) ps) := hA
  have HO : Hid (MailsAt w (.slice oa qs.length oc) qs) := hO
  have HP : Hid (PinsAt w (.slice va m.lock.length vc) m.lock) := hP
  obtain ⟨L, hL⟩ : ∃ L, L = ps.map Prod.fst := ⟨_, rfl⟩
  rw [← hL] at HSe HTa
  have HLL : Hid (L = ps.map Prod.fst) := hL
  have HLn : Hid (L.length = ps.length) := by show _ = _; rw [hL, List.length_map]
  obtain ⟨M, hM⟩ : ∃ M, M = m := ⟨_, rfl⟩
  have HMM : Hid (M = m) := hM
  obtain ⟨SM, hSM⟩ : ∃ SM, SM = Wy.sendM L m := ⟨_, rfl⟩
  obtain ⟨TM, hTM⟩ : ∃ TM, TM = Wy.takeM L k tw := ⟨_, rfl⟩
  rw [← hSM] at HSe
  rw [← hTM] at HTa
  have HSM : Hid (SM = Wy.sendM L M) := by show _ = _; rw [hM]; exact hSM
  have HTM : Hid (TM = Wy.takeM L k tw) := hTM
  obtain ⟨sl, E1⟩ := SM
  obtain ⟨tl, tm, E2⟩ := TM
  clear hA hP hO hL hSM hTM
  obtain ⟨r1, r2, r3, r4, r5, r6⟩ := m
  clear hM
  unfold mailV at HSe HTa ⊢
  simp only at HSe HTa HP ⊢
  obtain ⟨q1, q2, q3, q4, q5, q6⟩ := tm
  simp only at HTa
  generalize hn : r6.length = n at HSe HP ⊢
  have HN : Hid (r6.length = n) := hn
  clear hn
  obtain ⟨hB0, hK0⟩ := box1 w #[.int .i64 r1, .int .i64 r2, .bool r3, .bool r4, .int .i64 r5, .slice va n vc] 52
  have k0 := hK0.cell 0
  have k1 := hK0.cell 1
  have k2 := hK0.cell 2
  have k3 := hK0.cell 3
  have k4 := hK0.cell 4
  have k5 := hK0.cell 5
  simp only [List.getElem?_toArray, List.getElem?_cons_zero, List.getElem?_cons_succ] at k0 k1 k2 k3 k4 k5
  have HB0 : Hid (Below w.heap.size w _) := hB0
  have HK0 : Hid (Blk _ w.heap.size _ _) := hK0
  clear hB0 hK0
  go_enter Try.func4, Try.ntmps4
  go_wp2_with fail
  refine (HSe.out _ HB0.out).mono ?_
  rintro e w1 ⟨⟨y1, rs1, rfl, hM1, hr1⟩, hb1⟩
  obtain ⟨ya, yc, rfl⟩ := mails_slice hM1
  have HB1 : Hid (Below w.heap.size w w1) := HB0.out.trans (hb1.mono HB0.out.size)
  have HK1 : Hid (Blk w1 w.heap.size #[.int .i64 r1, .int .i64 r2, .bool r3, .bool r4, .int .i64 r5, .slice va n vc] 52) := HK0.out.below hb1
  have HM1 : Hid (MailsAt w1 (.slice ya rs1.length yc) rs1) := hM1
  have HR1 : Hid (rs1.map Prod.fst = sl) := hr1
  clear hM1 hr1 hb1 HSe HB0 HK0 k0 k1 k2 k3 k4 k5
  go_wp2_with fail
  refine (HTa.out _ HB1.out).mono ?_
  rintro e w2 ⟨⟨y2, rs2, v2, rfl, hM2, hr2, hv2⟩, hb2⟩
  obtain ⟨za, zc, rfl⟩ := mails_slice hM2
  obtain ⟨ub, ud, rfl⟩ := pins_slice hv2
  generalize hnb : q6.length = nb at hv2 ⊢
  obtain ⟨hb3, hX3⟩ := box1 w2 #[.int .i64 q1, .int .i64 q2, .bool q3, .bool q4, .int .i64 q5, .slice ub nb ud] 52
  have hb23 := hb2.trans (hb3.mono hb2.size)
  have hBW := HB1.out.trans (hb23.mono HB1.out.size)
  have HBW : Hid (Below w.heap.size w (w2.alloc (.cells #[.int .i64 q1, .int .i64 q2, .bool q3, .bool q4, .int .i64 q5, .slice ub nb ud] 52))) := hBW
  have HAW : Hid (MailsAt (w2.alloc (.cells #[.int .i64 q1, .int .i64 q2, .bool q3, .bool q4, .int .i64 q5, .slice ub nb ud] 52)) (.slice la ps.length lc) ps) := HA.out.below hBW
  have HOW : Hid (MailsAt (w2.alloc (.cells #[.int .i64 q1, .int .i64 q2, .bool q3, .bool q4, .int .i64 q5, .slice ub nb ud] 52)) (.slice oa qs.length oc) qs) := HO.out.below hBW
  have HPW : Hid (PinsAt (w2.alloc (.cells #[.int .i64 q1, .int .i64 q2, .bool q3, .bool q4, .int .i64 q5, .slice ub nb ud] 52)) (.slice va n vc) r6) := HP.out.below hBW
  have HY1 : Hid (MailsAt (w2.alloc (.cells #[.int .i64 q1, .int .i64 q2, .bool q3, .bool q4, .int .i64 q5, .slice ub nb ud] 52)) (.slice ya rs1.length yc) rs1) := HM1.out.below hb23
  have HY2 : Hid (MailsAt (w2.alloc (.cells #[.int .i64 q1, .int .i64 q2, .bool q3, .bool q4, .int .i64 q5, .slice ub nb ud] 52)) (.slice za rs2.length zc) rs2) := hM2.below hb3
  have HV2 : Hid (PinsAt (w2.alloc (.cells #[.int .i64 q1, .int .i64 q2, .bool q3, .bool q4, .int .i64 q5, .slice ub nb ud] 52)) (.slice ub nb ud) q6) := hv2.below hb3
  have HKm : Hid (Blk (w2.alloc (.cells #[.int .i64 q1, .int .i64 q2, .bool q3, .bool q4, .int .i64 q5, .slice ub nb ud] 52)) w.heap.size #[.int .i64 r1, .int .i64 r2, .bool r3, .bool r4, .int .i64 r5, .slice va n vc] 52) := HK1.out.below hb23
  have HKx : Hid (Blk (w2.alloc (.cells #[.int .i64 q1, .int .i64 q2, .bool q3, .bool q4, .int .i64 q5, .slice ub nb ud] 52)) w2.heap.size #[.int .i64 q1, .int .i64 q2, .bool q3, .bool q4, .int .i64 q5, .slice ub nb ud] 52) := hX3
  have HR2 : Hid (rs2.map Prod.fst = tl) := hr2
  clear hM2 hr2 hv2 hb2 hb3 hX3 hb23 hBW HTa HB1 HK1 HM1 HA HO HP hnb
  go_wp2_with fail
  generalize (w2.alloc (.cells #[.int .i64 q1, .int .i64 q2, .bool q3, .bool q4, .int .i64 q5, .slice ub nb ud] 52)) = W at *
  generalize w2.heap.size = X at *
  have HB3 : Hid (Below W.heap.size W W) := Below.refl _ W
  have HCR : Hid (∀ w', Below W.heap.size W w' → Calls Try.prog 16 #[.slice la ps.length lc] w' fun e w'' => e = .returned (.int .i64 (Wy.chkMail L)) ∧ Below w'.heap.size w' w'') := fun w' hb => by rw [HLL.out]; exact mlCheckR_any _ ps w' (HAW.out.below hb)
  have HCk : Hid (∀ w', Below W.heap.size W w' → Calls Try.prog 18 #[.slice la ps.length lc] w' fun e w'' => e = .returned (.int .i64 (Wy.chkMail L)) ∧ Below w'.heap.size w' w'') := fun w' hb => by rw [HLL.out]; exact mlCheck_any _ ps w' (HAW.out.below hb)
  have HPo : Hid (∀ w', Below W.heap.size W w' → Calls Try.prog 17 #[] w' fun e w'' => e = .returned (.bool true) ∧ Below w'.heap.size w' w'') := fun w' _ => posted_any w'
  have HSa : Hid (∀ w', Below W.heap.size W w' → Calls Try.prog 19 #[.slice la ps.length lc, .slice oa qs.length oc] w' fun e w'' => e = .returned (.bool (Wy.sameMail (ps.map Prod.fst) (qs.map Prod.fst))) ∧ Below w'.heap.size w' w'') := fun w' hb => mlSame_any _ _ ps qs w' (HAW.out.below hb) (HOW.out.below hb)
  have HSR : Hid (∀ w', Below W.heap.size W w' → Calls Try.prog 20 #[.slice la ps.length lc, .slice oa qs.length oc] w' fun e w'' => e = .returned (.bool (Wy.sameMail (ps.map Prod.fst) (qs.map Prod.fst))) ∧ Below w'.heap.size w' w'') := fun w' hb => mlSameR_any _ _ ps qs w' (HAW.out.below hb) (HOW.out.below hb)
  have HCl : Hid (∀ w', Below W.heap.size W w' → ps.length ≤ 40 → Calls Try.prog 21 #[.slice la ps.length lc] w' fun e w'' => (∃ y, e = .returned y ∧ w''.ownsRow w'.heap.size 52 6 y ps.length (flatM ps)) ∧ Below w'.heap.size w' w'') := fun w' hb h => cloneM_any _ ps w' (HAW.out.below hb) h
  have HSC : Hid (E1 = if Wy.chkMail L = 0 then Wy.chk1 M else Wy.chkMail L) := by show _ = _; rw [← Wy.send_code, ← HSM.out]
  have HTC : Hid (E2 = if Wy.chkMail L = 0 then (if 0 ≤ k ∧ k < L.length then 0 else 5) else Wy.chkMail L) := by show _ = _; rw [← Wy.take_code L k tw, ← HTM.out]
  have HSB : Hid (E1 ≠ 0 → rs1.length = 0) := fun h => by
    have h1 := Wy.send_bad (l := L) (m := M) (by rw [← HSM.out]; exact h)
    rw [← HSM.out] at h1
    have h2 := congrArg List.length (HR1.out.trans h1)
    simpa using h2
  have HTB : Hid (E2 ≠ 0 → rs2.length = 0 ∧ (⟨q1, q2, q3, q4, q5, q6⟩ : Wy.Mail) = Wy.Mail.none) := fun h => by
    have h1 := Wy.take_err (l := L) (k := k) (tw := tw) (by rw [← HTM.out]; exact h)
    rw [← HTM.out] at h1
    have h2 := congrArg List.length (HR2.out.trans h1.1)
    exact ⟨by simpa using h2, h1.2⟩
  have HC40 : Hid (Wy.chkMail L = 0 → ps.length ≤ 40) := fun h => by rw [← HLn.out]; exact (Wy.chkMail_len h).1
  generalize Wy.sameMail (ps.map Prod.fst) (qs.map Prod.fst) = S at HSa HSR
  generalize hC : Wy.chkMail L = C at HCR HCk HSC HTC HC40
  refine (HCR.out _ HB3.out).mono ?_
  rintro e w4 ⟨rfl, hb⟩
  have HB4 : Hid (Below W.heap.size W w4) := HB3.out.trans (hb.mono HB3.out.size)
  clear hb
  go_wp2_with fail
  refine (HPo.out _ HB4.out).mono ?_
  rintro e w5 ⟨rfl, hb⟩
  have HB5 : Hid (Below W.heap.size W w5) := HB4.out.trans (hb.mono HB4.out.size)
  clear hb
  go_wp2_with fail
  refine (HCk.out _ HB5.out).mono ?_
  rintro e w6 ⟨rfl, hb⟩
  have HB6 : Hid (Below W.heap.size W w6) := HB5.out.trans (hb.mono HB5.out.size)
  clear hb
  go_wp2_with fail
  refine (HSa.out _ HB6.out).mono ?_
  rintro e w7 ⟨rfl, hb⟩
  have HB7 : Hid (Below W.heap.size W w7) := HB6.out.trans (hb.mono HB6.out.size)
  clear hb
  go_wp2_with fail
  refine (HSR.out _ HB7.out).mono ?_
  rintro e w8 ⟨rfl, hb⟩
  have HB8 : Hid (Below W.heap.size W w8) := HB7.out.trans (hb.mono HB7.out.size)
  clear hb
  by_cases hc : C = 0
  rotate_left
  · have hc' : (C == 0) = false := by simpa using hc
    have hc2 : (C != 0) = true := by simpa using hc
    have e1 : E1 = C := by rw [HSC.out, if_neg hc]
    have e2 : E2 = C := by rw [HTC.out, if_neg hc]
    have h01 : rs1.length = 0 := HSB.out (by rw [e1]; exact hc)
    obtain ⟨h02, hq0⟩ := HTB.out (by rw [e2]; exact hc)
    have HE17 : Hid (∀ x, Below W.heap.size W x → Calls Try.prog 20 #[.slice (some ⟨x.heap.size, 0, none⟩) 1 1, .slice (some ⟨x.heap.size + 1, 0, none⟩) 1 1] ((x.alloc (.cells #[.int .i64 q1, .int .i64 q2, .bool q3, .bool q4, .int .i64 q5, .slice ub nb ud] 52)).alloc (.cells #[.int .i64 0, .int .i64 0, .bool false, .bool false, .int .i64 0, .slice none 0 0] 52)) fun e w'' => e = .returned (.bool true) ∧ Below ((x.alloc (.cells #[.int .i64 q1, .int .i64 q2, .bool q3, .bool q4, .int .i64 q5, .slice ub nb ud] 52)).alloc (.cells #[.int .i64 0, .int .i64 0, .bool false, .bool false, .int .i64 0, .slice none 0 0] 52)).heap.size ((x.alloc (.cells #[.int .i64 q1, .int .i64 q2, .bool q3, .bool q4, .int .i64 q5, .slice ub nb ud] 52)).alloc (.cells #[.int .i64 0, .int .i64 0, .bool false, .bool false, .int .i64 0, .slice none 0 0] 52)) w'') := fun x hb => by
      have b2 := (box1 (x.alloc (.cells #[.int .i64 q1, .int .i64 q2, .bool q3, .bool q4, .int .i64 q5, .slice ub nb ud] 52)) #[.int .i64 0, .int .i64 0, .bool false, .bool false, .int .i64 0, .slice none 0 0] 52).1
      have := mlSameR_any _ _ _ _ _ ((mail_one x ⟨q1, q2, q3, q4, q5, q6⟩ (.slice ub nb ud) (HV2.out.below hb)).below b2) (mail_one (x.alloc (.cells #[.int .i64 q1, .int .i64 q2, .bool q3, .bool q4, .int .i64 q5, .slice ub nb ud] 52)) Wy.Mail.none (.slice none 0 0) (pins_none _))
      simp only [List.map_cons, List.map_nil] at this
      rw [hq0, Wy.sameMail_self, World.size_alloc] at this
      exact this
    have HQ0 : Hid ((⟨q1, q2, q3, q4, q5, q6⟩ : Wy.Mail) = Wy.Mail.none) := hq0
    clear hq0 HSB HTB HSC HTC hc HC40 hC
    subst e1 e2
    go_upto_if 62 with fail
    have HW1 : Hid (ps.length < 40 → (ps ++ [((⟨r1, r2, r3, r4, r5, r6⟩, .slice va n vc) : Wy.Mail × Value)]).map Prod.fst = Wy.wantM L M) := fun h => by
      rw [Wy.wantM, if_pos (by rw [HLn.out]; exact h), HLL.out, HMM.out, List.map_append]; rfl
    have HW2 : Hid (¬ ps.length < 40 → ps.map Prod.fst = Wy.wantM L M) := fun h => by
      rw [Wy.wantM, if_neg (by rw [HLn.out]; exact h), HLL.out]
    go_cut [18] from 60 to 67 (fun s18 wx => ∃ (aw : Option Addr) (nw cw : Nat) (rsW : List (Wy.Mail × Value)), s18 = .slice aw nw cw ∧ Hid (MailsAt wx (.slice aw nw cw) rsW) ∧ Hid (rsW.map Prod.fst = Wy.wantM L M) ∧ Hid (Below W.heap.size W wx))
    case first =>
      by_cases hl4 : ps.length < 40
      · have hl4' : ((ps.length : Nat) : Int) < 40 := by omega
        have hmd := (HKm.out.below HB8.out).below (Below.refl _ w8).drew
        have HMd : Hid (Blk w8.drew w.heap.size #[.int .i64 r1, .int .i64 r2, .bool r3, .bool r4, .int .i64 r5, .slice va n vc] 52) := hmd
        have d0 := hmd.cell 0; have d1 := hmd.cell 1; have d2 := hmd.cell 2; have d3 := hmd.cell 3; have d4 := hmd.cell 4; have d5 := hmd.cell 5; simp only [List.getElem?_toArray, List.getElem?_cons_zero, List.getElem?_cons_succ] at d0 d1 d2 d3 d4 d5
        have hltd : w.heap.size < w8.drew.heap.size := hmd.lt
        have HBd : Hid (Below W.heap.size W w8.drew) := HB8.out.drew
        have HBx : Hid (Below W.heap.size W (w8.drew.alloc (.cells #[.int .i64 r1, .int .i64 r2, .bool r3, .bool r4, .int .i64 r5, .slice va n vc] 52))) := HBd.out.trans ((box1 w8.drew #[.int .i64 r1, .int .i64 r2, .bool r3, .bool r4, .int .i64 r5, .slice va n vc] 52).1.mono HBd.out.size)
        have HOne : Hid (∀ u ∈ ([.int .i64 r1, .int .i64 r2, .bool r3, .bool r4, .int .i64 r5, .slice va n vc] : List Value), u.oneCell' = true) := fun u hu => by simp only [List.mem_cons, List.not_mem_nil, or_false] at hu; rcases hu with rfl | rfl | rfl | rfl | rfl | rfl <;> rfl
        have HW1' : Hid ((ps ++ [((⟨r1, r2, r3, r4, r5, r6⟩, .slice va n vc) : Wy.Mail × Value)]).map Prod.fst = Wy.wantM L M) := HW1.out hl4
        clear hmd HW1 HW2 hl4
        go_wp2_with fail
        go_region_law (first | (refine step_append_lies (P := Try.prog) _ rfl (.tmp 64) (.tmp 66) 50 rfl W.heap.size 52 i0 (.agg #[.int .i64 0, .int .i64 0, .bool false, .bool false, .int .i64 0, .slice none 0 0]) 6 56 Try.underlying50 hi hz0 hz1 hz2 rfl (by decide) (.slice ca ps.length cc) ps.length (flatM ps) (by simp [Act.eval]) HOX.out _ 1 1 [.int .i64 r1, .int .i64 r2, .bool r3, .bool r4, .int .i64 r5, .slice va n vc] (by simp [Act.eval]) rfl HNX.out HOne.out (by decide) (by unfold maxLen; omega) (by omega) HWX.out _ rfl ?_; intro gr cap w3 hown hgrow _ _; have HB3' : Hid (Below W.heap.size W w3) := HBX.out.grown hgrow HWX.out (fun q hq => (HOX.out.lt q hq).1); have HM3 : Hid (MailsAt w3 (.slice (some ⟨gr, 0, none⟩) (ps.length + 1) cap) (ps ++ [((⟨r1, r2, r3, r4, r5, r6⟩, .slice va n vc) : Wy.Mail × Value)])) := mails_owns (n := ps.length + 1) (by rw [List.length_append]; rfl) (by rw [List.length_append]; simp only [List.length_cons, List.length_nil]; omega) (by rw [flatM_append]; exact hown) (fun q hq => (List.mem_append.1 hq).elim (fun h => mails_pins (HAW.out.below HB3'.out) q h) (fun h => by simp only [List.mem_cons, List.not_mem_nil, or_false] at h; subst h; exact HPW.out.below HB3'.out)); clear hown hgrow) | (go_simp; go_at_call 21; refine (HCl.out _ HBd.out (by omega)).mono ?_; rintro e wc ⟨⟨yv, rfl, hoc⟩, hbc⟩; obtain ⟨ca, cc, rfl⟩ := slice_of_ownsM hoc; have hWc := HBd.out.trans (hbc.mono HBd.out.size); have hbx := (box1 wc #[.int .i64 r1, .int .i64 r2, .bool r3, .bool r4, .int .i64 r5, .slice va n vc] 52).1; have hWx := hWc.trans (hbx.mono hWc.size); have HBX : Hid (Below W.heap.size W (wc.alloc (.cells #[.int .i64 r1, .int .i64 r2, .bool r3, .bool r4, .int .i64 r5, .slice va n vc] 52))) := hWx; have HOX : Hid ((wc.alloc (.cells #[.int .i64 r1, .int .i64 r2, .bool r3, .bool r4, .int .i64 r5, .slice va n vc] 52)).ownsRow W.heap.size 52 6 (.slice ca ps.length cc) ps.length (flatM ps)) := owns_below (owns_base hoc HBd.out.size) hbx; have HNX : Hid (∀ j u, ([.int .i64 r1, .int .i64 r2, .bool r3, .bool r4, .int .i64 r5, .slice va n vc] : List Value)[j]? = some u → (wc.alloc (.cells #[.int .i64 r1, .int .i64 r2, .bool r3, .bool r4, .int .i64 r5, .slice va n vc] 52)).cell? ((⟨wc.heap.size, 0, none⟩ : Addr).add j) = some u) := news6 wc _ _ _ _ _ _ _; have HWX : Hid (W.heap.size ≤ (wc.alloc (.cells #[.int .i64 r1, .int .i64 r2, .bool r3, .bool r4, .int .i64 r5, .slice va n vc] 52)).heap.size) := hWx.size; have hmc := HMd.out.below hbc; have c0 := hmc.cell 0; have c1 := hmc.cell 1; have c2 := hmc.cell 2; have c3 := hmc.cell 3; have c4 := hmc.cell 4; have c5 := hmc.cell 5; simp only [List.getElem?_toArray, List.getElem?_cons_zero, List.getElem?_cons_succ] at c0 c1 c2 c3 c4 c5; have hltc : w.heap.size < wc.heap.size := hmc.lt; clear hoc hbc hWc hbx hWx hmc) | (go_simp; go_at_call 21; refine (HCl.out _ HBx.out (by omega)).mono ?_; rintro e wc ⟨⟨yv, rfl, hoc⟩, hbc⟩; obtain ⟨ca, cc, rfl⟩ := slice_of_ownsM hoc; have hWc := HBx.out.trans (hbc.mono HBx.out.size); have HBX : Hid (Below W.heap.size W wc) := hWc; have HOX : Hid (wc.ownsRow W.heap.size 52 6 (.slice ca ps.length cc) ps.length (flatM ps)) := owns_base hoc HBx.out.size; have HNX : Hid (∀ j u, ([.int .i64 r1, .int .i64 r2, .bool r3, .bool r4, .int .i64 r5, .slice va n vc] : List Value)[j]? = some u → wc.cell? ((⟨w8.heap.size, 0, none⟩ : Addr).add j) = some u) := fun j u hu => (hbc.cell (by simp [WideShapes.add_plain])).trans (news6 w8.drew _ _ _ _ _ _ _ j u hu); have HWX : Hid (W.heap.size ≤ wc.heap.size) := hWc.size; clear hoc hbc hWc))
        all_goals
          simp only [Act.put, List.getElem_toArray, List.getElem_cons_succ, List.getElem_cons_zero, List.setIfInBounds_toArray, List.set_cons_succ, List.set_cons_zero]
          go_wp2_with fail
          go_meet
          case rel => exact ⟨some ⟨gr, 0, none⟩, ps.length + 1, cap, _, rfl, HM3, HW1', HB3'⟩
      · have hl4' : ¬ ((ps.length : Nat) : Int) < 40 := by omega
        have HW2' : Hid (ps.map Prod.fst = Wy.wantM L M) := HW2.out hl4
        clear HW1 HW2 hl4
        go_wp2_with fail
        go_meet
        case rel => exact ⟨la, ps.length, lc, ps, rfl, HAW.out.below HB8.out, HW2', HB8⟩
    case rest =>
      obtain ⟨aw, nw, cw, rsW, rfl, HMW, HRW, HB10⟩ := hcut
      generalize hwc : wc = w10 at *
      clear HW1 HW2
      have hxk := HKx.out.below HB10.out
      have x0 := hxk.cell 0
      have x1 := hxk.cell 1
      have x2 := hxk.cell 2
      have x3 := hxk.cell 3
      have x4 := hxk.cell 4
      have x5 := hxk.cell 5
      simp only [List.getElem?_toArray, List.getElem?_cons_zero, List.getElem?_cons_succ] at x0 x1 x2 x3 x4 x5
      have hlx : X < w10.heap.size := hxk.lt
      have hE := HE17.out w10 HB10.out
      have HBe : Hid (Below W.heap.size W ((w10.alloc (.cells #[.int .i64 q1, .int .i64 q2, .bool q3, .bool q4, .int .i64 q5, .slice ub nb ud] 52)).alloc (.cells #[.int .i64 0, .int .i64 0, .bool false, .bool false, .int .i64 0, .slice none 0 0] 52))) := by
        have b1 := (box1 w10 #[.int .i64 q1, .int .i64 q2, .bool q3, .bool q4, .int .i64 q5, .slice ub nb ud] 52).1
        have b2 := (box1 (w10.alloc (.cells #[.int .i64 q1, .int .i64 q2, .bool q3, .bool q4, .int .i64 q5, .slice ub nb ud] 52)) #[.int .i64 0, .int .i64 0, .bool false, .bool false, .int .i64 0, .slice none 0 0] 52).1
        have b12 := b1.trans (b2.mono b1.size)
        exact HB10.out.trans (b12.mono HB10.out.size)
      clear hxk
      go_wp2_with fail
      refine hE.mono ?_
      rintro e wE ⟨rfl, hbE⟩
      have HBE : Hid (Below W.heap.size W wE) := HBe.out.trans (hbE.mono HBe.out.size)
      clear hbE hE
      go_wp2
      go_ret
      exact ⟨rfl, HBW.out.trans (HBE.out.mono HBW.out.size)⟩
  subst hc
  have h40 : ps.length ≤ 40 := HC40.out rfl
  have HC1 : Hid (∀ x, Below W.heap.size W x → Calls Try.prog 16 #[.slice (some ⟨x.heap.size, 0, none⟩) 1 1] (x.alloc (.cells #[.int .i64 r1, .int .i64 r2, .bool r3, .bool r4, .int .i64 r5, .slice va n vc] 52)) fun e w'' => e = .returned (.int .i64 (Wy.chk1 M)) ∧ Below (x.alloc (.cells #[.int .i64 r1, .int .i64 r2, .bool r3, .bool r4, .int .i64 r5, .slice va n vc] 52)).heap.size (x.alloc (.cells #[.int .i64 r1, .int .i64 r2, .bool r3, .bool r4, .int .i64 r5, .slice va n vc] 52)) w'') := fun x hb => by
    have := mlCheckR_any _ _ _ (mail_one x ⟨r1, r2, r3, r4, r5, r6⟩ (.slice va n vc) (HPW.out.below hb))
    simp only [List.map_cons, List.map_nil] at this
    rw [Wy.chk_single, ← HMM.out] at this
    exact this
  have HSC' : Hid (E1 = Wy.chk1 M) := by show _ = _; rw [HSC.out, if_pos rfl]
  have HTC' : Hid (E2 = if 0 ≤ k ∧ k < L.length then 0 else 5) := by show _ = _; rw [HTC.out, if_pos rfl]
  have HS12 : Hid (E1 = 0 → rs1.map Prod.fst = Wy.wantM L M) := fun h => by
    obtain ⟨_, _, h3⟩ := Wy.send_ok (l := L) (m := M) (by rw [← HSM.out]; exact h)
    rw [← HSM.out] at h3
    rw [HR1.out]
    simp only at h3
    rw [h3, Wy.wantM]
    have := HLn.out
    by_cases hf : L.length = 40
    · rw [if_pos hf, if_neg (by omega)]
    · rw [if_neg hf, if_pos (by omega)]
  generalize Wy.chk1 M = D at HC1 HSC'
  clear HSC HTC HC40
  have e1 : E1 = D := HSC'.out
  subst e1
  have hm8 := HKm.out.below HB8.out
  have m0 := hm8.cell 0
  have m1 := hm8.cell 1
  have m2 := hm8.cell 2
  have m3 := hm8.cell 3
  have m4 := hm8.cell 4
  have m5 := hm8.cell 5
  simp only [List.getElem?_toArray, List.getElem?_cons_zero, List.getElem?_cons_succ] at m0 m1 m2 m3 m4 m5
  have hl8 : w.heap.size < w8.heap.size := hm8.lt
  have hC1 := HC1.out w8 HB8.out
  have HBx8 : Hid (Below W.heap.size W (w8.alloc (.cells #[.int .i64 r1, .int .i64 r2, .bool r3, .bool r4, .int .i64 r5, .slice va n vc] 52))) := HB8.out.trans ((box1 w8 #[.int .i64 r1, .int .i64 r2, .bool r3, .bool r4, .int .i64 r5, .slice va n vc] 52).1.mono HB8.out.size)
  clear hm8
  go_wp2_with fail
  refine hC1.mono ?_
  rintro e w9 ⟨rfl, hb9⟩
  have HB9 : Hid (Below W.heap.size W w9) := HBx8.out.trans (hb9.mono HBx8.out.size)
  clear hb9 hC1 HBx8 HC1 m0 m1 m2 m3 m4 m5 hl8
  go_upto_if 62 with fail
  have HW1 : Hid (ps.length < 40 → (ps ++ [((⟨r1, r2, r3, r4, r5, r6⟩, .slice va n vc) : Wy.Mail × Value)]).map Prod.fst = Wy.wantM L M) := fun h => by
    rw [Wy.wantM, if_pos (by rw [HLn.out]; exact h), HLL.out, HMM.out, List.map_append]; rfl
  have HW2 : Hid (¬ ps.length < 40 → ps.map Prod.fst = Wy.wantM L M) := fun h => by
    rw [Wy.wantM, if_neg (by rw [HLn.out]; exact h), HLL.out]
  go_cut [18] from 60 to 67 (fun s18 wx => ∃ (aw : Option Addr) (nw cw : Nat) (rsW : List (Wy.Mail × Value)), s18 = .slice aw nw cw ∧ Hid (MailsAt wx (.slice aw nw cw) rsW) ∧ Hid (rsW.map Prod.fst = Wy.wantM L M) ∧ Hid (Below W.heap.size W wx))
  case first =>
    by_cases hl4 : ps.length < 40
    · have hl4' : ((ps.length : Nat) : Int) < 40 := by omega
      have hmd := (HKm.out.below HB9.out).below (Below.refl _ w9).drew
      have HMd : Hid (Blk w9.drew w.heap.size #[.int .i64 r1, .int .i64 r2, .bool r3, .bool r4, .int .i64 r5, .slice va n vc] 52) := hmd
      have d0 := hmd.cell 0; have d1 := hmd.cell 1; have d2 := hmd.cell 2; have d3 := hmd.cell 3; have d4 := hmd.cell 4; have d5 := hmd.cell 5; simp only [List.getElem?_toArray, List.getElem?_cons_zero, List.getElem?_cons_succ] at d0 d1 d2 d3 d4 d5
      have hltd : w.heap.size < w9.drew.heap.size := hmd.lt
      have HBd : Hid (Below W.heap.size W w9.drew) := HB9.out.drew
      have HBx : Hid (Below W.heap.size W (w9.drew.alloc (.cells #[.int .i64 r1, .int .i64 r2, .bool r3, .bool r4, .int .i64 r5, .slice va n vc] 52))) := HBd.out.trans ((box1 w9.drew #[.int .i64 r1, .int .i64 r2, .bool r3, .bool r4, .int .i64 r5, .slice va n vc] 52).1.mono HBd.out.size)
      have HOne : Hid (∀ u ∈ ([.int .i64 r1, .int .i64 r2, .bool r3, .bool r4, .int .i64 r5, .slice va n vc] : List Value), u.oneCell' = true) := fun u hu => by simp only [List.mem_cons, List.not_mem_nil, or_false] at hu; rcases hu with rfl | rfl | rfl | rfl | rfl | rfl <;> rfl
      have HW1' : Hid ((ps ++ [((⟨r1, r2, r3, r4, r5, r6⟩, .slice va n vc) : Wy.Mail × Value)]).map Prod.fst = Wy.wantM L M) := HW1.out hl4
      clear hmd HW1 HW2 hl4
      go_wp2_with fail
      go_region_law (first | (refine step_append_lies (P := Try.prog) _ rfl (.tmp 64) (.tmp 66) 50 rfl W.heap.size 52 i0 (.agg #[.int .i64 0, .int .i64 0, .bool false, .bool false, .int .i64 0, .slice none 0 0]) 6 56 Try.underlying50 hi hz0 hz1 hz2 rfl (by decide) (.slice ca ps.length cc) ps.length (flatM ps) (by simp [Act.eval]) HOX.out _ 1 1 [.int .i64 r1, .int .i64 r2, .bool r3, .bool r4, .int .i64 r5, .slice va n vc] (by simp [Act.eval]) rfl HNX.out HOne.out (by decide) (by unfold maxLen; omega) (by omega) HWX.out _ rfl ?_; intro gr cap w3 hown hgrow _ _; have HB3' : Hid (Below W.heap.size W w3) := HBX.out.grown hgrow HWX.out (fun q hq => (HOX.out.lt q hq).1); have HM3 : Hid (MailsAt w3 (.slice (some ⟨gr, 0, none⟩) (ps.length + 1) cap) (ps ++ [((⟨r1, r2, r3, r4, r5, r6⟩, .slice va n vc) : Wy.Mail × Value)])) := mails_owns (n := ps.length + 1) (by rw [List.length_append]; rfl) (by rw [List.length_append]; simp only [List.length_cons, List.length_nil]; omega) (by rw [flatM_append]; exact hown) (fun q hq => (List.mem_append.1 hq).elim (fun h => mails_pins (HAW.out.below HB3'.out) q h) (fun h => by simp only [List.mem_cons, List.not_mem_nil, or_false] at h; subst h; exact HPW.out.below HB3'.out)); clear hown hgrow) | (go_simp; go_at_call 21; refine (HCl.out _ HBd.out (by omega)).mono ?_; rintro e wc ⟨⟨yv, rfl, hoc⟩, hbc⟩; obtain ⟨ca, cc, rfl⟩ := slice_of_ownsM hoc; have hWc := HBd.out.trans (hbc.mono HBd.out.size); have hbx := (box1 wc #[.int .i64 r1, .int .i64 r2, .bool r3, .bool r4, .int .i64 r5, .slice va n vc] 52).1; have hWx := hWc.trans (hbx.mono hWc.size); have HBX : Hid (Below W.heap.size W (wc.alloc (.cells #[.int .i64 r1, .int .i64 r2, .bool r3, .bool r4, .int .i64 r5, .slice va n vc] 52))) := hWx; have HOX : Hid ((wc.alloc (.cells #[.int .i64 r1, .int .i64 r2, .bool r3, .bool r4, .int .i64 r5, .slice va n vc] 52)).ownsRow W.heap.size 52 6 (.slice ca ps.length cc) ps.length (flatM ps)) := owns_below (owns_base hoc HBd.out.size) hbx; have HNX : Hid (∀ j u, ([.int .i64 r1, .int .i64 r2, .bool r3, .bool r4, .int .i64 r5, .slice va n vc] : List Value)[j]? = some u → (wc.alloc (.cells #[.int .i64 r1, .int .i64 r2, .bool r3, .bool r4, .int .i64 r5, .slice va n vc] 52)).cell? ((⟨wc.heap.size, 0, none⟩ : Addr).add j) = some u) := news6 wc _ _ _ _ _ _ _; have HWX : Hid (W.heap.size ≤ (wc.alloc (.cells #[.int .i64 r1, .int .i64 r2, .bool r3, .bool r4, .int .i64 r5, .slice va n vc] 52)).heap.size) := hWx.size; have hmc := HMd.out.below hbc; have c0 := hmc.cell 0; have c1 := hmc.cell 1; have c2 := hmc.cell 2; have c3 := hmc.cell 3; have c4 := hmc.cell 4; have c5 := hmc.cell 5; simp only [List.getElem?_toArray, List.getElem?_cons_zero, List.getElem?_cons_succ] at c0 c1 c2 c3 c4 c5; have hltc : w.heap.size < wc.heap.size := hmc.lt; clear hoc hbc hWc hbx hWx hmc) | (go_simp; go_at_call 21; refine (HCl.out _ HBx.out (by omega)).mono ?_; rintro e wc ⟨⟨yv, rfl, hoc⟩, hbc⟩; obtain ⟨ca, cc, rfl⟩ := slice_of_ownsM hoc; have hWc := HBx.out.trans (hbc.mono HBx.out.size); have HBX : Hid (Below W.heap.size W wc) := hWc; have HOX : Hid (wc.ownsRow W.heap.size 52 6 (.slice ca ps.length cc) ps.length (flatM ps)) := owns_base hoc HBx.out.size; have HNX : Hid (∀ j u, ([.int .i64 r1, .int .i64 r2, .bool r3, .bool r4, .int .i64 r5, .slice va n vc] : List Value)[j]? = some u → wc.cell? ((⟨w9.heap.size, 0, none⟩ : Addr).add j) = some u) := fun j u hu => (hbc.cell (by simp [WideShapes.add_plain])).trans (news6 w9.drew _ _ _ _ _ _ _ j u hu); have HWX : Hid (W.heap.size ≤ wc.heap.size) := hWc.size; clear hoc hbc hWc))
      all_goals
        simp only [Act.put, List.getElem_toArray, List.getElem_cons_succ, List.getElem_cons_zero, List.setIfInBounds_toArray, List.set_cons_succ, List.set_cons_zero]
        go_wp2_with fail
        go_meet
        case rel => exact ⟨some ⟨gr, 0, none⟩, ps.length + 1, cap, _, rfl, HM3, HW1', HB3'⟩
    · have hl4' : ¬ ((ps.length : Nat) : Int) < 40 := by omega
      have HW2' : Hid (ps.map Prod.fst = Wy.wantM L M) := HW2.out hl4
      clear HW1 HW2 hl4
      go_wp2_with fail
      go_meet
      case rel => exact ⟨la, ps.length, lc, ps, rfl, HAW.out.below HB9.out, HW2', HB9⟩
  case rest =>
    obtain ⟨aw, nw, cw, rsW, rfl, HMW, HRW, HB10⟩ := hcut
    generalize hwc : wc = w10 at *
    clear hwc HW1 HW2
    go_upto_region 12 with fail
    go_cut [89] from 68 to 89 (fun s89 wx => s89 = .bool false ∧ Hid (Below W.heap.size W wx))
    case first =>
      by_cases hd : E1 = 0
      · subst hd
        have HS : Hid (∀ w', Below w10.heap.size w10 w' → Calls Try.prog 20 #[.slice ya rs1.length yc, .slice aw nw cw] w' fun e w'' => e = .returned (.bool true) ∧ Below w'.heap.size w' w'') := fun w' hb => by
          have := mlSameR_any _ _ rs1 rsW w' ((HY1.out.below HB10.out).below hb) (HMW.out.below hb)
          rwa [HS12.out rfl, HRW.out, Wy.sameMail_self] at this
        clear HS12 HMW HRW
        go_wp2_with fail
        refine (HS.out _ (Below.refl _ _)).mono ?_
        rintro e w11 ⟨rfl, hb⟩
        have HB11 : Hid (Below W.heap.size W w11) := HB10.out.trans (hb.mono HB10.out.size)
        clear hb HS
        go_wp2_with fail
        go_meet
        case rel => exact ⟨rfl, HB11⟩
      · have hd' : (E1 != 0) = true := by simpa using hd
        have hd2 : (E1 == 0) = false := by simpa using hd
        have h01 : rs1.length = 0 := HSB.out hd
        clear HS12 HMW HRW hd
        go_wp2_with fail
        go_meet
        case rel => exact ⟨rfl, HB10⟩
    case rest =>
      obtain ⟨rfl, HB11⟩ := hcut
      generalize hwc : wc = w11 at *
      clear hwc HMW HRW HS12
      by_cases hk : 0 ≤ k ∧ k < ps.length
      rotate_left
      · have e2 : E2 = 5 := by rw [HTC'.out, if_neg (by rw [HLn.out]; exact hk)]
        obtain ⟨h02, hq0⟩ := HTB.out (by rw [e2]; decide)
        have HE17 : Hid (∀ x, Below W.heap.size W x → Calls Try.prog 20 #[.slice (some ⟨x.heap.size, 0, none⟩) 1 1, .slice (some ⟨x.heap.size + 1, 0, none⟩) 1 1] ((x.alloc (.cells #[.int .i64 q1, .int .i64 q2, .bool q3, .bool q4, .int .i64 q5, .slice ub nb ud] 52)).alloc (.cells #[.int .i64 0, .int .i64 0, .bool false, .bool false, .int .i64 0, .slice none 0 0] 52)) fun e w'' => e = .returned (.bool true) ∧ Below ((x.alloc (.cells #[.int .i64 q1, .int .i64 q2, .bool q3, .bool q4, .int .i64 q5, .slice ub nb ud] 52)).alloc (.cells #[.int .i64 0, .int .i64 0, .bool false, .bool false, .int .i64 0, .slice none 0 0] 52)).heap.size ((x.alloc (.cells #[.int .i64 q1, .int .i64 q2, .bool q3, .bool q4, .int .i64 q5, .slice ub nb ud] 52)).alloc (.cells #[.int .i64 0, .int .i64 0, .bool false, .bool false, .int .i64 0, .slice none 0 0] 52)) w'') := fun x hb => by
          have b2 := (box1 (x.alloc (.cells #[.int .i64 q1, .int .i64 q2, .bool q3, .bool q4, .int .i64 q5, .slice ub nb ud] 52)) #[.int .i64 0, .int .i64 0, .bool false, .bool false, .int .i64 0, .slice none 0 0] 52).1
          have := mlSameR_any _ _ _ _ _ ((mail_one x ⟨q1, q2, q3, q4, q5, q6⟩ (.slice ub nb ud) (HV2.out.below hb)).below b2) (mail_one (x.alloc (.cells #[.int .i64 q1, .int .i64 q2, .bool q3, .bool q4, .int .i64 q5, .slice ub nb ud] 52)) Wy.Mail.none (.slice none 0 0) (pins_none _))
          simp only [List.map_cons, List.map_nil] at this
          rw [hq0, Wy.sameMail_self, World.size_alloc] at this
          exact this
        clear hq0
        subst e2
        have hcs : k < 0 ∨ (¬ k < 0 ∧ (ps.length : Int) ≤ k) := by omega
        clear hk
        rcases hcs with hk1 | ⟨hk1, hk2⟩
        all_goals
          have hxk := HKx.out.below HB11.out
          have x0 := hxk.cell 0
          have x1 := hxk.cell 1
          have x2 := hxk.cell 2
          have x3 := hxk.cell 3
          have x4 := hxk.cell 4
          have x5 := hxk.cell 5
          simp only [List.getElem?_toArray, List.getElem?_cons_zero, List.getElem?_cons_succ] at x0 x1 x2 x3 x4 x5
          have hlx : X < w11.heap.size := hxk.lt
          have hE := HE17.out w11 HB11.out
          have HBe : Hid (Below W.heap.size W ((w11.alloc (.cells #[.int .i64 q1, .int .i64 q2, .bool q3, .bool q4, .int .i64 q5, .slice ub nb ud] 52)).alloc (.cells #[.int .i64 0, .int .i64 0, .bool false, .bool false, .int .i64 0, .slice none 0 0] 52))) := by
            have b1 := (box1 w11 #[.int .i64 q1, .int .i64 q2, .bool q3, .bool q4, .int .i64 q5, .slice ub nb ud] 52).1
            have b2 := (box1 (w11.alloc (.cells #[.int .i64 q1, .int .i64 q2, .bool q3, .bool q4, .int .i64 q5, .slice ub nb ud] 52)) #[.int .i64 0, .int .i64 0, .bool false, .bool false, .int .i64 0, .slice none 0 0] 52).1
            have b12 := b1.trans (b2.mono b1.size)
            exact HB11.out.trans (b12.mono HB11.out.size)
          clear hxk
          go_wp2_with fail
          refine hE.mono ?_
          rintro e wE ⟨rfl, hbE⟩
          have HBE : Hid (Below W.heap.size W wE) := HBe.out.trans (hbE.mono HBe.out.size)
          clear hbE hE
          go_wp2
          go_ret
          exact ⟨rfl, HBW.out.trans (HBE.out.mono HBW.out.size)⟩
      obtain ⟨hk0, hk1⟩ := hk
      obtain ⟨j, rfl⟩ : ∃ j : Nat, k = j := ⟨k.toNat, by omega⟩
      have hjn : j < ps.length := by omega
      have hTin : (tl, (⟨q1, q2, q3, q4, q5, q6⟩ : Wy.Mail), E2) = (if tw = true then L else L.eraseIdx j, L.getD j Wy.Mail.none, 0) := by
        have h := HTM.out
        rw [Wy.takeM, if_pos hC, if_pos (by rw [HLn.out]; exact ⟨hk0, hk1⟩)] at h
        simpa using h
      simp only [Prod.mk.injEq] at hTin
      obtain ⟨ht1, ht2, ht3⟩ := hTin
      subst ht3
      obtain ⟨⟨qq, uq⟩, hq⟩ : ∃ x, ps[j]? = some x := ⟨_, List.getElem?_eq_getElem hjn⟩
      have hgd : L.getD j Wy.Mail.none = qq := by rw [HLL.out, List.getD_eq_getElem?_getD, List.getElem?_map, hq]; rfl
      rw [hgd] at ht2
      have HPt : Hid (∀ w', Below W.heap.size W w' → MailsAt w' (.slice (subM la lc j) 1 (lc - j)) [(qq, uq)]) := fun w' hb => by
        have := mails_part (HAW.out.below hb) j 1 (by omega)
        have hone : (ps.drop j).take 1 = [(qq, uq)] := by
          rw [List.drop_eq_getElem_cons hjn, List.take_succ_cons, List.take_zero]
          have := (List.getElem?_eq_some_iff.1 hq).2
          rw [this]
        rwa [hone] at this
      have hroom : ps.length ≤ lc := by
        obtain ⟨_, p', c', e, hc, _⟩ := HAW.out
        simp only [Value.slice.injEq] at e
        rw [e.2.2]; exact hc
      have h1 := fun w => slMb la ps.length lc j (j + 1) (by omega) (by omega) w
      simp only [Nat.add_sub_cancel_left] at h1
      have hs3 : ∀ w, (Instr.slice 50 (.slice la ps.length lc) (some (.int .i64 (j : Int))) (some (.int .i64 ((j : Int) + 1))) none).run Try.prog w = .ok (.slice (subM la lc j) 1 (lc - j)) w := fun w => by have := h1 w; rwa [Int.natCast_add] at this
      have hwr0 : IntKind.i64.wrap ((j : Int) + 1) = ((j + 1 : Nat) : Int) := wrapM j (by omega)
      have hs4 : ∀ w, (Instr.slice 50 (.slice la ps.length lc) (some (.int .i64 (j : Int))) (some (.int .i64 (IntKind.i64.wrap ((j : Int) + 1)))) none).run Try.prog w = .ok (.slice (subM la lc j) 1 (lc - j)) w := fun w => by rw [hwr0]; exact h1 w
      generalize subM la lc j = S1 at hs3 hs4 HPt
      have HX21 : Hid (∀ x, Below W.heap.size W x → Calls Try.prog 20 #[.slice (some ⟨x.heap.size, 0, none⟩) 1 1, .slice S1 1 (lc - j)] (x.alloc (.cells #[.int .i64 q1, .int .i64 q2, .bool q3, .bool q4, .int .i64 q5, .slice ub nb ud] 52)).drew fun e w'' => e = .returned (.bool true) ∧ Below (x.alloc (.cells #[.int .i64 q1, .int .i64 q2, .bool q3, .bool q4, .int .i64 q5, .slice ub nb ud] 52)).drew.heap.size (x.alloc (.cells #[.int .i64 q1, .int .i64 q2, .bool q3, .bool q4, .int .i64 q5, .slice ub nb ud] 52)).drew w'') := fun x hb => by
        have hbx := (box1 x #[.int .i64 q1, .int .i64 q2, .bool q3, .bool q4, .int .i64 q5, .slice ub nb ud] 52).1
        have hbd : Below (x.alloc (.cells #[.int .i64 q1, .int .i64 q2, .bool q3, .bool q4, .int .i64 q5, .slice ub nb ud] 52)).heap.size (x.alloc (.cells #[.int .i64 q1, .int .i64 q2, .bool q3, .bool q4, .int .i64 q5, .slice ub nb ud] 52)) (x.alloc (.cells #[.int .i64 q1, .int .i64 q2, .bool q3, .bool q4, .int .i64 q5, .slice ub nb ud] 52)).drew := (Below.refl _ _).drew
        have := mlSameR_any _ _ _ _ _ ((mail_one x ⟨q1, q2, q3, q4, q5, q6⟩ (.slice ub nb ud) (HV2.out.below hb)).below hbd) (HPt.out _ ((hb.trans (hbx.mono hb.size)).drew))
        simp only [List.map_cons, List.map_nil] at this
        rwa [ht2, Wy.sameMail_self] at this
      have HT1 : Hid (tl = if tw = true then L else L.eraseIdx j) := ht1
      clear ht1 ht2 hgd hq h1 hwr0 HTB HSB HTC' hC HPt
      have hkn : ¬ (j : Int) < 0 := by omega
      have hkl : decide ((ps.length : Int) ≤ (j : Int)) = false := decide_eq_false (by omega)
      go_upto_region 14 with fail
      go_cut [101] from 20 to 127 (fun s101 wx => s101 = .bool false ∧ w11 = wx)
      case first =>
        go_wp2_with fail
        all_goals
          go_meet
          case rel => exact ⟨by rw [decide_eq_false (Nat.not_le.2 hjn)], rfl⟩
      obtain ⟨rfl, hwc⟩ := hcut
      subst hwc
      clear hkn hkl hk0
      go_wp2_with fail
      refine (HCl.out _ HB11.out h40).mono ?_
      rintro e w12 ⟨⟨yl, rfl, hol⟩, hb⟩
      obtain ⟨ca, cc, rfl⟩ := slice_of_ownsM hol
      have HB12 : Hid (Below W.heap.size W w12) := HB11.out.trans (hb.mono HB11.out.size)
      have HLk : Hid (∀ q ∈ ps, Keep (fun b => (Value.slice ca ps.length cc).ownBlock = some b) (fun w => PinsAt w q.2 q.1.lock) w12) := fun q hq => Keep.older (w := w11) (mails_pins (HAW.out.below HB11.out) q hq) (pins_stab _ _) (fun b hb' => (hol.lt b hb').1) hb
      have HOL : Hid (w12.ownsRow w11.heap.size 52 6 (.slice ca ps.length cc) ps.length (flatM ps)) := hol
      clear hol hb
      cases tw
      · have HDl : Hid (Calls Try.prog 22 #[.slice ca ps.length cc, .int .i64 (j : Int), .int .i64 ((j : Int) + 1)] w12 fun e w' => (∃ y, e = .returned y ∧ MailsAt w' y (ps.eraseIdx j)) ∧ Below w11.heap.size w12 w') := deleteM_any w11.heap.size _ ps j w12 HOL.out hjn h40 HLk.out
        have HTL : Hid ((ps.eraseIdx j).map Prod.fst = tl) := by show _ = _; rw [HT1.out, HLL.out, if_neg (by decide), List.eraseIdx_eq_take_drop_succ, List.eraseIdx_eq_take_drop_succ, List.map_append, List.map_take, List.map_drop]
        have hs11 : W.heap.size ≤ w11.heap.size := HB11.out.size
        clear HLk HOL HT1
        go_wp2_with fail
        refine HDl.out.mono ?_
        rintro e w13 ⟨⟨yd, rfl, hmd⟩, hb⟩
        obtain ⟨ea, ec, rfl⟩ := mails_slice hmd
        have HB13 : Hid (Below W.heap.size W w13) := HB12.out.trans (hb.mono hs11)
        have HMD : Hid (MailsAt w13 (.slice ea (ps.eraseIdx j).length ec) (ps.eraseIdx j)) := hmd
        clear hmd hb HDl
        generalize ps.eraseIdx j = LS at HTL HMD ⊢
        go_wp2_with fail
        have hxd := (HKx.out.below HB13.out).below (Below.refl _ w13).drew
        have S0 : Hid (w13.drew.cell? ⟨X, 0, none⟩ = some (.int .i64 q1) ∧ w13.drew.cell? ⟨X, 1, none⟩ = some (.int .i64 q2) ∧ w13.drew.cell? ⟨X, 2, none⟩ = some (.bool q3) ∧ w13.drew.cell? ⟨X, 3, none⟩ = some (.bool q4) ∧ w13.drew.cell? ⟨X, 4, none⟩ = some (.int .i64 q5) ∧ w13.drew.cell? ⟨X, 5, none⟩ = some (.slice ub nb ud) ∧ Hid (Below w13.heap.size w13 w13.drew)) := ⟨hxd.cell 0, hxd.cell 1, hxd.cell 2, hxd.cell 3, hxd.cell 4, hxd.cell 5, (Below.refl _ w13).drew⟩
        have KP : Hid (∀ x y : World, Below x.heap.size x y → (x.cell? ⟨X, 0, none⟩ = some (.int .i64 q1) ∧ x.cell? ⟨X, 1, none⟩ = some (.int .i64 q2) ∧ x.cell? ⟨X, 2, none⟩ = some (.bool q3) ∧ x.cell? ⟨X, 3, none⟩ = some (.bool q4) ∧ x.cell? ⟨X, 4, none⟩ = some (.int .i64 q5) ∧ x.cell? ⟨X, 5, none⟩ = some (.slice ub nb ud) ∧ Hid (Below w13.heap.size w13 x)) → (y.cell? ⟨X, 0, none⟩ = some (.int .i64 q1) ∧ y.cell? ⟨X, 1, none⟩ = some (.int .i64 q2) ∧ y.cell? ⟨X, 2, none⟩ = some (.bool q3) ∧ y.cell? ⟨X, 3, none⟩ = some (.bool q4) ∧ y.cell? ⟨X, 4, none⟩ = some (.int .i64 q5) ∧ y.cell? ⟨X, 5, none⟩ = some (.slice ub nb ud) ∧ Hid (Below w13.heap.size w13 y))) := fun x y hb h => by
          obtain ⟨h1, h2, h3, h4, h5, h6, hB⟩ := h
          have e : ∀ b o v, x.cell? ⟨b, o, none⟩ = some v → y.cell? ⟨b, o, none⟩ = some v := fun b o v hc => (hb.cell (p := ⟨b, o, none⟩) (World.block_lt_of_cell? x _ hc)).trans hc
          exact ⟨e _ _ _ h1, e _ _ _ h2, e _ _ _ h3, e _ _ _ h4, e _ _ _ h5, e _ _ _ h6, hB.out.trans (hb.mono hB.out.size)⟩
        have KA : Hid (∀ (x : World) O, Below x.heap.size x (x.alloc O)) := fun x O => (Below.refl _ x).alloc (Nat.le_refl _) O
        have SP : Hid (∀ x : World, (x.cell? ⟨X, 0, none⟩ = some (.int .i64 q1) ∧ x.cell? ⟨X, 1, none⟩ = some (.int .i64 q2) ∧ x.cell? ⟨X, 2, none⟩ = some (.bool q3) ∧ x.cell? ⟨X, 3, none⟩ = some (.bool q4) ∧ x.cell? ⟨X, 4, none⟩ = some (.int .i64 q5) ∧ x.cell? ⟨X, 5, none⟩ = some (.slice ub nb ud) ∧ Hid (Below w13.heap.size w13 x)) → Below w13.heap.size w13 x) := fun x h => h.2.2.2.2.2.2.out
        have HS21 : Hid (∀ w', Below w13.heap.size w13 w' → Calls Try.prog 20 #[.slice za rs2.length zc, .slice ea LS.length ec] w' fun e w'' => e = .returned (.bool true) ∧ Below w'.heap.size w' w'') := fun w' hb => by
          have := mlSameR_any _ _ rs2 LS w' ((HY2.out.below HB13.out).below hb) (HMD.out.below hb)
          rwa [HR2.out, HTL.out, Wy.sameMail_self] at this
        clear hxd HTL HMD
        go_region_held3 (fun w' => w'.cell? ⟨X, 0, none⟩ = some (.int .i64 q1) ∧ w'.cell? ⟨X, 1, none⟩ = some (.int .i64 q2) ∧ w'.cell? ⟨X, 2, none⟩ = some (.bool q3) ∧ w'.cell? ⟨X, 3, none⟩ = some (.bool q4) ∧ w'.cell? ⟨X, 4, none⟩ = some (.int .i64 q5) ∧ w'.cell? ⟨X, 5, none⟩ = some (.slice ub nb ud) ∧ Hid (Below w13.heap.size w13 w')) (first | exact KP.out _ _ (by assumption) (by assumption) | exact S0.out | exact KP.out _ _ (KA.out _ _) (by assumption))
          (first
            | (go_at_call_of 20 (Value.slice za rs2.length zc); refine (HS21.out _ (SP.out _ (by assumption))).mono ?_; rintro e y ⟨rfl, hby⟩)
            | (go_at_call 20; refine (HX21.out w13 HB13.out).mono ?_; rintro e y ⟨rfl, hby⟩))
        have HBy : Hid (Below w13.heap.size w13 y) := SP.out _ (by assumption)
        go_wp2
        go_ret
        have h2 := HB13.out.trans (HBy.out.mono HB13.out.size)
        exact ⟨rfl, HBW.out.trans (h2.mono HBW.out.size)⟩
      · have HTL : Hid (ps.map Prod.fst = tl) := by show _ = _; rw [HT1.out, HLL.out, if_pos rfl]
        have HMD : Hid (MailsAt w12 (.slice ca ps.length cc) ps) := mails_owns rfl (by omega) HOL.out (fun q hq => (HLk.out q hq).here)
        clear HLk HOL HT1
        go_wp2_with fail
        have hxd := (HKx.out.below HB12.out).below (Below.refl _ w12).drew
        have S0 : Hid (w12.drew.cell? ⟨X, 0, none⟩ = some (.int .i64 q1) ∧ w12.drew.cell? ⟨X, 1, none⟩ = some (.int .i64 q2) ∧ w12.drew.cell? ⟨X, 2, none⟩ = some (.bool q3) ∧ w12.drew.cell? ⟨X, 3, none⟩ = some (.bool q4) ∧ w12.drew.cell? ⟨X, 4, none⟩ = some (.int .i64 q5) ∧ w12.drew.cell? ⟨X, 5, none⟩ = some (.slice ub nb ud) ∧ Hid (Below w12.heap.size w12 w12.drew)) := ⟨hxd.cell 0, hxd.cell 1, hxd.cell 2, hxd.cell 3, hxd.cell 4, hxd.cell 5, (Below.refl _ w12).drew⟩
        have KP : Hid (∀ x y : World, Below x.heap.size x y → (x.cell? ⟨X, 0, none⟩ = some (.int .i64 q1) ∧ x.cell? ⟨X, 1, none⟩ = some (.int .i64 q2) ∧ x.cell? ⟨X, 2, none⟩ = some (.bool q3) ∧ x.cell? ⟨X, 3, none⟩ = some (.bool q4) ∧ x.cell? ⟨X, 4, none⟩ = some (.int .i64 q5) ∧ x.cell? ⟨X, 5, none⟩ = some (.slice ub nb ud) ∧ Hid (Below w12.heap.size w12 x)) → (y.cell? ⟨X, 0, none⟩ = some (.int .i64 q1) ∧ y.cell? ⟨X, 1, none⟩ = some (.int .i64 q2) ∧ y.cell? ⟨X, 2, none⟩ = some (.bool q3) ∧ y.cell? ⟨X, 3, none⟩ = some (.bool q4) ∧ y.cell? ⟨X, 4, none⟩ = some (.int .i64 q5) ∧ y.cell? ⟨X, 5, none⟩ = some (.slice ub nb ud) ∧ Hid (Below w12.heap.size w12 y))) := fun x y hb h => by
          obtain ⟨h1, h2, h3, h4, h5, h6, hB⟩ := h
          have e : ∀ b o v, x.cell? ⟨b, o, none⟩ = some v → y.cell? ⟨b, o, none⟩ = some v := fun b o v hc => (hb.cell (p := ⟨b, o, none⟩) (World.block_lt_of_cell? x _ hc)).trans hc
          exact ⟨e _ _ _ h1, e _ _ _ h2, e _ _ _ h3, e _ _ _ h4, e _ _ _ h5, e _ _ _ h6, hB.out.trans (hb.mono hB.out.size)⟩
        have KA : Hid (∀ (x : World) O, Below x.heap.size x (x.alloc O)) := fun x O => (Below.refl _ x).alloc (Nat.le_refl _) O
        have SP : Hid (∀ x : World, (x.cell? ⟨X, 0, none⟩ = some (.int .i64 q1) ∧ x.cell? ⟨X, 1, none⟩ = some (.int .i64 q2) ∧ x.cell? ⟨X, 2, none⟩ = some (.bool q3) ∧ x.cell? ⟨X, 3, none⟩ = some (.bool q4) ∧ x.cell? ⟨X, 4, none⟩ = some (.int .i64 q5) ∧ x.cell? ⟨X, 5, none⟩ = some (.slice ub nb ud) ∧ Hid (Below w12.heap.size w12 x)) → Below w12.heap.size w12 x) := fun x h => h.2.2.2.2.2.2.out
        have HS21 : Hid (∀ w', Below w12.heap.size w12 w' → Calls Try.prog 20 #[.slice za rs2.length zc, .slice ca ps.length cc] w' fun e w'' => e = .returned (.bool true) ∧ Below w'.heap.size w' w'') := fun w' hb => by
          have := mlSameR_any _ _ rs2 ps w' ((HY2.out.below HB12.out).below hb) (HMD.out.below hb)
          rwa [HR2.out, HTL.out, Wy.sameMail_self] at this
        clear hxd HTL HMD
        go_region_held3 (fun w' => w'.cell? ⟨X, 0, none⟩ = some (.int .i64 q1) ∧ w'.cell? ⟨X, 1, none⟩ = some (.int .i64 q2) ∧ w'.cell? ⟨X, 2, none⟩ = some (.bool q3) ∧ w'.cell? ⟨X, 3, none⟩ = some (.bool q4) ∧ w'.cell? ⟨X, 4, none⟩ = some (.int .i64 q5) ∧ w'.cell? ⟨X, 5, none⟩ = some (.slice ub nb ud) ∧ Hid (Below w12.heap.size w12 w')) (first | exact KP.out _ _ (by assumption) (by assumption) | exact S0.out | exact KP.out _ _ (KA.out _ _) (by assumption))
          (first
            | (go_at_call_of 20 (Value.slice za rs2.length zc); refine (HS21.out _ (SP.out _ (by assumption))).mono ?_; rintro e y ⟨rfl, hby⟩)
            | (go_at_call 20; refine (HX21.out w12 HB12.out).mono ?_; rintro e y ⟨rfl, hby⟩))
        have HBy : Hid (Below w12.heap.size w12 y) := SP.out _ (by assumption)
        go_wp2
        go_ret
        have h2 := HB12.out.trans (HBy.out.mono HB12.out.size)
        exact ⟨rfl, HBW.out.trans (h2.mono HBW.out.size)⟩
end Go.Proofs.Ytbdefihgplcdoae
