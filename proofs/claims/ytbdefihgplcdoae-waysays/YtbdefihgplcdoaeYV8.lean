/- The walk of WayBack. -/
import Derived.Test.YtbdefihgplcdoaeYV7
import Derived.Test.YtbdefihgplcdoaeAt
namespace Go.Proofs.Ytbdefihgplcdoae
open Go.RowKit
namespace Wy
theorem take_last {l : List Mail} {m : Mail} (h : chkMail l = 0) (hm : chk1 m = 0) (hl : l.length < 40) : takeM (l ++ [m]) (l.length : Int) false = (l, m, 0) := by
  unfold takeM
  rw [if_pos (chkMail_app h hm hl), if_pos (by rw [List.length_append]; simp only [List.length_cons, List.length_nil]; omega)]
  simp [List.eraseIdx_append_of_length_le]
theorem take_twice {l : List Mail} {j : Nat} (h : chkMail l = 0) (hj : j < l.length) : takeM l (j : Int) true = (l, l.getD j Mail.none, 0) := by
  unfold takeM
  rw [if_pos h, if_pos (by omega)]
  simp
end Wy
set_option maxHeartbeats 16000000 in
set_option maxRecDepth 100000 in
theorem wayBack_any (lv va : Value) (ps : List (Wy.Mail × Value)) (m : Wy.Mail) (k : Int) (w : World) (hA : MailsAt w lv ps) (hP : PinsAt w va m.lock) :
    Calls Try.prog 5 #[lv, mailV m va, .int .i64 k] w fun e w' => e = .returned (.bool true) ∧ Below w.heap.size w w' := by
  obtain ⟨la, lc, rfl⟩ := mails_slice hA
  obtain ⟨va, vc, rfl⟩ := pins_slice hP
  have HA : Hid (MailsAt w (.slice la ps.length lc) ps) := hA
  have HP : Hid (PinsAt w (.slice va m.lock.length vc) m.lock) := hP
  have HSe : Hid (∀ w', Below w.heap.size w w' → Calls Try.prog 14 #[.slice la ps.length lc, mailV m (.slice va m.lock.length vc)] w' fun e w'' => (∃ y rs, e = .returned (.tuple #[y, .int .i64 (Wy.sendM (ps.map Prod.fst) m).2]) ∧ MailsAt w'' y rs ∧ rs.map Prod.fst = (Wy.sendM (ps.map Prod.fst) m).1) ∧ Below w'.heap.size w' w'') := fun w' hb => mlSend_any _ _ ps m w' (hA.below hb) (hP.below hb)
  have HPo : Hid (∀ w', Calls Try.prog 17 #[] w' fun e w'' => e = .returned (.bool true) ∧ Below w'.heap.size w' w'') := fun w' => posted_any w'
  clear hA hP
  obtain ⟨r1, r2, r3, r4, r5, r6⟩ := m
  unfold mailV at HSe ⊢
  simp only at HSe HP ⊢
  obtain ⟨SM, hSM⟩ : ∃ SM, SM = Wy.sendM (ps.map Prod.fst) ⟨r1, r2, r3, r4, r5, r6⟩ := ⟨_, rfl⟩
  rw [← hSM] at HSe
  have HSM : Hid (SM = Wy.sendM (ps.map Prod.fst) ⟨r1, r2, r3, r4, r5, r6⟩) := hSM
  clear hSM
  generalize hn : r6.length = n at HSe HP ⊢
  have HN : Hid (r6.length = n) := hn
  clear hn
  obtain ⟨hB0, hK0⟩ := box1 w #[.int .i64 r1, .int .i64 r2, .bool r3, .bool r4, .int .i64 r5, .slice va n vc] 52
  have k0 := hK0.cell 0
  have k1 := hK0.cell 1
  have k2 := hK0.cell 2
  have k3 := hK0.cell 3
  have k4 := hK0.cell 4
  have k5 := hK0.cell 5
  simp only [List.getElem?_toArray, List.getElem?_cons_zero, List.getElem?_cons_succ] at k0 k1 k2 k3 k4 k5
  have HB0 : Hid (Below w.heap.size w _) := hB0
  have HK0 : Hid (Blk _ w.heap.size _ _) := hK0
  clear hB0 hK0
  go_enter Try.func5, Try.ntmps5
  go_wp2_with fail
  refine (HSe.out _ HB0.out).mono ?_
  rintro e w1 ⟨⟨y, rs, rfl, hM, hr⟩, hb1⟩
  obtain ⟨ya, yc, rfl⟩ := mails_slice hM
  have HM : Hid (MailsAt w1 (.slice ya rs.length yc) rs) := hM
  have HR : Hid (rs.map Prod.fst = SM.1) := hr
  have HB1 : Hid (Below w.heap.size w w1) := HB0.out.trans (hb1.mono HB0.out.size)
  have HK1 : Hid (Blk w1 w.heap.size #[.int .i64 r1, .int .i64 r2, .bool r3, .bool r4, .int .i64 r5, .slice va n vc] 52) := HK0.out.below hb1
  clear hM hr hb1 HSe HB0 HK0 k0 k1 k2 k3 k4 k5
  go_wp2_with fail
  refine (HPo.out _).mono ?_
  rintro e w2 ⟨rfl, hb2⟩
  have HM2 : Hid (MailsAt w2 (.slice ya rs.length yc) rs) := HM.out.below hb2
  have HB2 : Hid (Below w.heap.size w w2) := HB1.out.trans (hb2.mono HB1.out.size)
  have HK2 : Hid (Blk w2 w.heap.size #[.int .i64 r1, .int .i64 r2, .bool r3, .bool r4, .int .i64 r5, .slice va n vc] 52) := HK1.out.below hb2
  clear hb2 HM HB1 HK1
  obtain ⟨sl, E⟩ := SM
  simp only at HR
  by_cases e0 : E = 0
  rotate_left
  · have e0' : (E != 0) = true := by simpa using e0
    clear HSM HR HM2 HK2 e0
    go_wp2_with fail
    refine (HPo.out _).mono ?_
    rintro e w3 ⟨rfl, hb3⟩
    have HB3 : Hid (Below w.heap.size w w3) := HB2.out.trans (hb3.mono HB2.out.size)
    clear hb3
    go_wp2
    go_ret
    exact ⟨rfl, HB3.out⟩
  subst e0
  have hg := Wy.send_ok (l := ps.map Prod.fst) (m := ⟨r1, r2, r3, r4, r5, r6⟩) (by rw [← HSM.out])
  rw [← HSM.out, List.length_map] at hg
  obtain ⟨g1, g2, g3⟩ := hg
  have h40 : ps.length ≤ 40 := by have := (Wy.chkMail_len g1).1; rwa [List.length_map] at this
  simp only at g3
  by_cases hf : ps.length = 40
  · have hf' : (((ps.length : Nat) : Int) == 40) = true := by rw [hf]; rfl
    have HS : Hid (∀ w', Below w2.heap.size w2 w' → Calls Try.prog 19 #[.slice ya rs.length yc, .slice la ps.length lc] w' fun e w'' => e = .returned (.bool true) ∧ Below w'.heap.size w' w'') := fun w' hb => by
      have := mlSame_any _ _ rs ps w' (HM2.out.below hb) ((HA.out.below HB2.out).below hb)
      rwa [HR.out, g3, if_pos hf, Wy.sameMail_self] at this
    clear HSM HR HM2 HK2 g1 g2 g3 hf h40
    go_wp2_with fail
    refine (HS.out _ (Below.refl _ _)).mono ?_
    rintro e w3 ⟨rfl, hb3⟩
    have HB3 : Hid (Below w.heap.size w w3) := HB2.out.trans (hb3.mono HB2.out.size)
    clear hb3 HS
    go_wp2
    go_ret
    exact ⟨rfl, HB3.out⟩
  have hlt : ps.length < 40 := by omega
  have hf' : (((ps.length : Nat) : Int) == 40) = false := by rw [beq_eq_false_iff_ne]; omega
  rw [if_neg hf] at g3
  have hrs : rs.map Prod.fst = ps.map Prod.fst ++ [⟨r1, r2, r3, r4, r5, r6⟩] := HR.out.trans g3
  have HRS : Hid (rs.map Prod.fst = ps.map Prod.fst ++ [⟨r1, r2, r3, r4, r5, r6⟩]) := hrs
  have hrl : rs.length = ps.length + 1 := by have := congrArg List.length hrs; simpa using this
  have hT1 := mlTake_any _ rs (ps.length : Int) false w2 HM2.out
  have ht1 := Wy.take_last (l := ps.map Prod.fst) (m := ⟨r1, r2, r3, r4, r5, r6⟩) g1 g2 (by rw [List.length_map]; exact hlt)
  rw [List.length_map] at ht1
  rw [hrs, ht1] at hT1
  unfold mailV at hT1
  simp only at hT1
  have HC : Hid (Wy.chkMail (rs.map Prod.fst) = 0) := by show _ = _; rw [hrs]; exact Wy.chkMail_app g1 g2 (by rw [List.length_map]; exact hlt)
  have HRL : Hid (rs.length = ps.length + 1) := hrl
  clear HSM HR g1 g2 g3 hrs hrl ht1 hf h40
  go_wp2_with fail
  refine hT1.mono ?_
  rintro e w3 ⟨⟨y3, rs3, u3, rfl, hM3, hr3, hu3⟩, hb3⟩
  obtain ⟨b3, c3, rfl⟩ := mails_slice hM3
  obtain ⟨ua, uc, rfl⟩ := pins_slice hu3
  rw [HN.out] at hu3 ⊢
  obtain ⟨hb4, hX4⟩ := box1 w3 #[.int .i64 r1, .int .i64 r2, .bool r3, .bool r4, .int .i64 r5, .slice ua n uc] 52
  have hb34 := hb3.trans (hb4.mono hb3.size)
  have HM4 : Hid (MailsAt (w3.alloc (.cells #[.int .i64 r1, .int .i64 r2, .bool r3, .bool r4, .int .i64 r5, .slice ua n uc] 52)) (.slice ya rs.length yc) rs) := HM2.out.below hb34
  have HB4 : Hid (Below w.heap.size w (w3.alloc (.cells #[.int .i64 r1, .int .i64 r2, .bool r3, .bool r4, .int .i64 r5, .slice ua n uc] 52))) := HB2.out.trans (hb34.mono HB2.out.size)
  have HK4 : Hid (Blk (w3.alloc (.cells #[.int .i64 r1, .int .i64 r2, .bool r3, .bool r4, .int .i64 r5, .slice ua n uc] 52)) w.heap.size #[.int .i64 r1, .int .i64 r2, .bool r3, .bool r4, .int .i64 r5, .slice va n vc] 52) := HK2.out.below hb34
  have HX4 : Hid (Blk (w3.alloc (.cells #[.int .i64 r1, .int .i64 r2, .bool r3, .bool r4, .int .i64 r5, .slice ua n uc] 52)) w3.heap.size #[.int .i64 r1, .int .i64 r2, .bool r3, .bool r4, .int .i64 r5, .slice ua n uc] 52) := hX4
  have HU4 : Hid (PinsAt (w3.alloc (.cells #[.int .i64 r1, .int .i64 r2, .bool r3, .bool r4, .int .i64 r5, .slice ua n uc] 52)) (.slice ua n uc) r6) := hu3.below hb4
  have hS4 := mlSame_any _ _ rs3 ps _ (hM3.below hb4) (HA.out.below HB4.out)
  rw [hr3, Wy.sameMail_self] at hS4
  clear hT1 hM3 hr3 hu3 hb3 hb4 hX4 hb34 HM2 HB2 HK2
  go_wp2_with fail
  refine hS4.mono ?_
  rintro e w5 ⟨rfl, hb5⟩
  have hK5 := HK4.out.below hb5
  have hX5 := HX4.out.below hb5
  have k0 := hK5.cell 0
  have k1 := hK5.cell 1
  have k2 := hK5.cell 2
  have k3 := hK5.cell 3
  have k4 := hK5.cell 4
  have k5 := hK5.cell 5
  simp only [List.getElem?_toArray, List.getElem?_cons_zero, List.getElem?_cons_succ] at k0 k1 k2 k3 k4 k5
  have x0 := hX5.cell 0
  have x1 := hX5.cell 1
  have x2 := hX5.cell 2
  have x3 := hX5.cell 3
  have x4 := hX5.cell 4
  have x5 := hX5.cell 5
  simp only [List.getElem?_toArray, List.getElem?_cons_zero, List.getElem?_cons_succ] at x0 x1 x2 x3 x4 x5
  have hl5 : w.heap.size < w5.heap.size := hK5.lt
  have hl6 : w3.heap.size < w5.heap.size := hX5.lt
  have hU5 := HU4.out.below hb5
  have hM5 := HM4.out.below hb5
  have hB5 := HB4.out.trans (hb5.mono HB4.out.size)
  obtain ⟨hb6, -⟩ := box1 w5 #[.int .i64 r1, .int .i64 r2, .bool r3, .bool r4, .int .i64 r5, .slice ua n uc] 52
  obtain ⟨hb7, -⟩ := box1 (w5.alloc (.cells #[.int .i64 r1, .int .i64 r2, .bool r3, .bool r4, .int .i64 r5, .slice ua n uc] 52)) #[.int .i64 r1, .int .i64 r2, .bool r3, .bool r4, .int .i64 r5, .slice va n vc] 52
  have hb67 := hb6.trans (hb7.mono hb6.size)
  have hA1 := (mail_one w5 ⟨r1, r2, r3, r4, r5, r6⟩ (.slice ua n uc) hU5).below hb7
  have hA2 := mail_one (w5.alloc (.cells #[.int .i64 r1, .int .i64 r2, .bool r3, .bool r4, .int .i64 r5, .slice ua n uc] 52)) ⟨r1, r2, r3, r4, r5, r6⟩ (.slice va n vc) ((HP.out.below hB5).below hb6)
  have hS7 := mlSame_any _ _ _ _ _ hA1 hA2
  simp only [List.map_cons, List.map_nil] at hS7
  rw [Wy.sameMail_self, World.size_alloc] at hS7
  have HM7 : Hid (MailsAt ((w5.alloc (.cells #[.int .i64 r1, .int .i64 r2, .bool r3, .bool r4, .int .i64 r5, .slice ua n uc] 52)).alloc (.cells #[.int .i64 r1, .int .i64 r2, .bool r3, .bool r4, .int .i64 r5, .slice va n vc] 52)) (.slice ya rs.length yc) rs) := hM5.below hb67
  have HB7 : Hid (Below w.heap.size w ((w5.alloc (.cells #[.int .i64 r1, .int .i64 r2, .bool r3, .bool r4, .int .i64 r5, .slice ua n uc] 52)).alloc (.cells #[.int .i64 r1, .int .i64 r2, .bool r3, .bool r4, .int .i64 r5, .slice va n vc] 52))) := hB5.trans (hb67.mono hB5.size)
  clear hS4 hK5 hX5 hU5 hM5 hB5 hb5 hb6 hb7 hb67 hA1 hA2 HM4 HB4 HK4 HX4 HU4
  go_wp2_with fail
  refine hS7.mono ?_
  rintro e w8 ⟨rfl, hb8⟩
  have HM8 : Hid (MailsAt w8 (.slice ya rs.length yc) rs) := HM7.out.below hb8
  have HB8 : Hid (Below w.heap.size w w8) := HB7.out.trans (hb8.mono HB7.out.size)
  have hrl : rs.length ≤ 1000 := by have := HRL.out; omega
  have hrl1 : 1 ≤ rs.length := by have := HRL.out; omega
  have hAt := at_any k rs.length hrl1 hrl w8
  clear hS7 hb8 HM7 HB7 k0 k1 k2 k3 k4 k5 x0 x1 x2 x3 x4 x5 hl5 hl6
  go_wp2_with fail
  refine hAt.mono ?_
  rintro e w8' ⟨⟨j, rfl, hj⟩, rfl⟩
  have hT2 := mlTake_any _ rs (j : Int) true _ HM8.out
  rw [Wy.take_twice HC.out (by rw [List.length_map]; exact hj)] at hT2
  obtain ⟨⟨q, uq⟩, hq⟩ : ∃ x, rs[j]? = some x := ⟨_, List.getElem?_eq_getElem hj⟩
  have hgd : (rs.map Prod.fst).getD j Wy.Mail.none = q := by rw [List.getD_eq_getElem?_getD, List.getElem?_map, hq]; rfl
  rw [hgd] at hT2
  obtain ⟨q1, q2, q3, q4, q5, q6⟩ := q
  unfold mailV at hT2
  simp only at hT2
  have hPt := fun w' (hb : Below w8'.heap.size w8' w') => mails_part (HM8.out.below hb) j 1 (by omega)
  have hone : (rs.drop j).take 1 = [(⟨q1, q2, q3, q4, q5, q6⟩, uq)] := by
    rw [List.drop_eq_getElem_cons hj, List.take_succ_cons, List.take_zero]
    have := (List.getElem?_eq_some_iff.1 hq).2
    rw [this]
  rw [hone] at hPt
  have HPt : Hid (∀ w', Below w8'.heap.size w8' w' → MailsAt w' (.slice (subM ya yc j) 1 (yc - j)) [(⟨q1, q2, q3, q4, q5, q6⟩, uq)]) := hPt
  have hroom : rs.length ≤ yc := by
    obtain ⟨_, p', c', e, hc, _⟩ := HM8.out
    simp only [Value.slice.injEq] at e
    rw [e.2.2]; exact hc
  clear hAt hgd hPt hone hq
  go_wp2_with fail
  refine hT2.mono ?_
  rintro e w9 ⟨⟨y9, rs9, u9, rfl, hM9, hr9, hu9⟩, hb9⟩
  obtain ⟨b9, c9, rfl⟩ := mails_slice hM9
  obtain ⟨ub, ud, rfl⟩ := pins_slice hu9
  generalize hnb : q6.length = nb at hu9 ⊢
  obtain ⟨hbA, hXA⟩ := box1 w9 #[.int .i64 q1, .int .i64 q2, .bool q3, .bool q4, .int .i64 q5, .slice ub nb ud] 52
  have hb9A := hb9.trans (hbA.mono hb9.size)
  have HXA : Hid (Blk (w9.alloc (.cells #[.int .i64 q1, .int .i64 q2, .bool q3, .bool q4, .int .i64 q5, .slice ub nb ud] 52)) w9.heap.size #[.int .i64 q1, .int .i64 q2, .bool q3, .bool q4, .int .i64 q5, .slice ub nb ud] 52) := hXA
  have HUA : Hid (PinsAt (w9.alloc (.cells #[.int .i64 q1, .int .i64 q2, .bool q3, .bool q4, .int .i64 q5, .slice ub nb ud] 52)) (.slice ub nb ud) q6) := hu9.below hbA
  have HBA : Hid (Below w.heap.size w (w9.alloc (.cells #[.int .i64 q1, .int .i64 q2, .bool q3, .bool q4, .int .i64 q5, .slice ub nb ud] 52))) := HB8.out.trans (hb9A.mono HB8.out.size)
  have HCA : Hid (Below w8'.heap.size w8' (w9.alloc (.cells #[.int .i64 q1, .int .i64 q2, .bool q3, .bool q4, .int .i64 q5, .slice ub nb ud] 52))) := hb9A
  have HSa1 : Hid (∀ w', Below (w9.alloc (.cells #[.int .i64 q1, .int .i64 q2, .bool q3, .bool q4, .int .i64 q5, .slice ub nb ud] 52)).heap.size (w9.alloc (.cells #[.int .i64 q1, .int .i64 q2, .bool q3, .bool q4, .int .i64 q5, .slice ub nb ud] 52)) w' → Calls Try.prog 19 #[.slice b9 rs9.length c9, .slice ya rs.length yc] w' fun e w'' => e = .returned (.bool true) ∧ Below w'.heap.size w' w'') := fun w' hb => by
    have := mlSame_any _ _ rs9 rs w' ((hM9.below hbA).below hb) ((HM8.out.below hb9A).below hb)
    rwa [hr9, Wy.sameMail_self] at this
  have HSa2 : Hid (∀ x, Below (w9.alloc (.cells #[.int .i64 q1, .int .i64 q2, .bool q3, .bool q4, .int .i64 q5, .slice ub nb ud] 52)).heap.size (w9.alloc (.cells #[.int .i64 q1, .int .i64 q2, .bool q3, .bool q4, .int .i64 q5, .slice ub nb ud] 52)) x → Calls Try.prog 19 #[.slice (some ⟨x.heap.size, 0, none⟩) 1 1, .slice (subM ya yc j) 1 (yc - j)] (x.alloc (.cells #[.int .i64 q1, .int .i64 q2, .bool q3, .bool q4, .int .i64 q5, .slice ub nb ud] 52)) fun e w'' => e = .returned (.bool true) ∧ Below (x.alloc (.cells #[.int .i64 q1, .int .i64 q2, .bool q3, .bool q4, .int .i64 q5, .slice ub nb ud] 52)).heap.size (x.alloc (.cells #[.int .i64 q1, .int .i64 q2, .bool q3, .bool q4, .int .i64 q5, .slice ub nb ud] 52)) w'') := fun x hb => by
    have hbx := (box1 x #[.int .i64 q1, .int .i64 q2, .bool q3, .bool q4, .int .i64 q5, .slice ub nb ud] 52).1
    have hall := hb9A.trans ((hb.trans (hbx.mono hb.size)).mono hb9A.size)
    have := mlSame_any _ _ _ _ _ (mail_one x ⟨q1, q2, q3, q4, q5, q6⟩ (.slice ub nb ud) (HUA.out.below hb)) (HPt.out _ hall)
    simp only [List.map_cons, List.map_nil] at this
    rwa [Wy.sameMail_self] at this
  have h1 := fun w => slMb ya rs.length yc j (j + 1) (by omega) (by omega) w
  simp only [Nat.add_sub_cancel_left] at h1
  have hs3 : ∀ w, (Instr.slice 50 (.slice ya rs.length yc) (some (.int .i64 (j : Int))) (some (.int .i64 ((j : Int) + 1))) none).run Try.prog w = .ok (.slice (subM ya yc j) 1 (yc - j)) w := fun w => by have := h1 w; rwa [Int.natCast_add] at this
  have hwr0 : IntKind.i64.wrap ((j : Int) + 1) = ((j + 1 : Nat) : Int) := wrapM j (by omega)
  have hs4 : ∀ w, (Instr.slice 50 (.slice ya rs.length yc) (some (.int .i64 (j : Int))) (some (.int .i64 (IntKind.i64.wrap ((j : Int) + 1)))) none).run Try.prog w = .ok (.slice (subM ya yc j) 1 (yc - j)) w := fun w => by rw [hwr0]; exact h1 w
  generalize subM ya yc j = S1 at hs3 hs4 HSa2
  have HBd : Hid (Below (w9.alloc (.cells #[.int .i64 q1, .int .i64 q2, .bool q3, .bool q4, .int .i64 q5, .slice ub nb ud] 52)).heap.size (w9.alloc (.cells #[.int .i64 q1, .int .i64 q2, .bool q3, .bool q4, .int .i64 q5, .slice ub nb ud] 52)) (w9.alloc (.cells #[.int .i64 q1, .int .i64 q2, .bool q3, .bool q4, .int .i64 q5, .slice ub nb ud] 52)).drew) := (Below.refl _ _).drew
  have hj1 : (j : Int) < rs.length := by omega
  clear h1 hwr0 HPt hT2 hM9 hr9 hu9 hb9 hbA hXA hb9A HM8 HUA HB8 HCA hnb
  go_wp2_with fail
  go_region_with (first | (go_at_call 19; refine (HSa1.out _ HBd.out).mono ?_; rintro e wA ⟨rfl, hbA⟩; have hbdA := HBd.out.trans (hbA.mono HBd.out.size); have HBdA : Hid (Below (w9.alloc (.cells #[.int .i64 q1, .int .i64 q2, .bool q3, .bool q4, .int .i64 q5, .slice ub nb ud] 52)).heap.size (w9.alloc (.cells #[.int .i64 q1, .int .i64 q2, .bool q3, .bool q4, .int .i64 q5, .slice ub nb ud] 52)) wA) := hbdA; have hXa := HXA.out.below hbdA; have xa0 := hXa.cell 0; have xa1 := hXa.cell 1; have xa2 := hXa.cell 2; have xa3 := hXa.cell 3; have xa4 := hXa.cell 4; have xa5 := hXa.cell 5; simp only [List.getElem?_toArray, List.getElem?_cons_zero, List.getElem?_cons_succ] at xa0 xa1 xa2 xa3 xa4 xa5; have hla : w9.heap.size < wA.heap.size := hXa.lt; clear hXa hbdA hbA) | (go_at_call 19; refine (HSa2.out wA HBdA.out).mono ?_; rintro e wB ⟨rfl, hbB⟩; have HBB : Hid (Below _ _ wB) := hbB; clear hbB))
  all_goals
    go_wp2
    go_ret
    have hx := (box1 wA #[.int .i64 q1, .int .i64 q2, .bool q3, .bool q4, .int .i64 q5, .slice ub nb ud] 52).1
    have h2 := HBdA.out.trans ((hx.trans (HBB.out.mono hx.size)).mono HBdA.out.size)
    exact ⟨rfl, HBA.out.trans (h2.mono HBA.out.size)⟩
end Go.Proofs.Ytbdefihgplcdoae
