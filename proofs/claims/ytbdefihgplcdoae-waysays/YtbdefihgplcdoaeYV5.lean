/- The contract of way.Send. -/
import Derived.Test.YtbdefihgplcdoaeYV4
import Derived.Test.YtbdefihgplcdoaeT4
namespace Go.Proofs.Ytbdefihgplcdoae
open Go.RowKit
namespace Wy
def sendM (l : List Mail) (m : Mail) : List Mail × Int := if chkMail l = 0 then (if chk1 m = 0 then (if l.length = 40 then l else l ++ [m], 0) else ([], chk1 m)) else ([], chkMail l)
def takeM (l : List Mail) (k : Int) (tw : Bool) : List Mail × Mail × Int := if chkMail l = 0 then (if 0 ≤ k ∧ k < l.length then (if tw = true then l else l.eraseIdx k.toNat, l.getD k.toNat Mail.none, 0) else ([], Mail.none, 5)) else ([], Mail.none, chkMail l)
theorem orr_send (l : List Mail) (m : Mail) : orr [chkMail l, chk1 m] = (sendM l m).2 := by
  unfold sendM
  by_cases h : chkMail l = 0
  · rw [if_pos h]
    by_cases h2 : chk1 m = 0
    · rw [if_pos h2, h, h2]; rfl
    · rw [if_neg h2, h, orr, if_pos rfl, orr, if_neg h2]
  · rw [if_neg h, orr, if_neg h]
theorem send_bad {l : List Mail} {m : Mail} (h : (sendM l m).2 ≠ 0) : (sendM l m).1 = [] := by
  unfold sendM at h ⊢
  by_cases h1 : chkMail l = 0
  · rw [if_pos h1] at h ⊢
    by_cases h2 : chk1 m = 0
    · rw [if_pos h2] at h; exact absurd rfl h
    · rw [if_neg h2]
  · rw [if_neg h1]
theorem send_ok {l : List Mail} {m : Mail} (h : (sendM l m).2 = 0) : chkMail l = 0 ∧ chk1 m = 0 ∧ (sendM l m).1 = if l.length = 40 then l else l ++ [m] := by
  unfold sendM at h ⊢
  by_cases h1 : chkMail l = 0
  · rw [if_pos h1] at h ⊢
    by_cases h2 : chk1 m = 0
    · rw [if_pos h2]; exact ⟨h1, h2, rfl⟩
    · rw [if_neg h2] at h; exact absurd h h2
  · rw [if_neg h1] at h; exact absurd h h1
end Wy
/-- one piece of mail that was just laid -/
theorem mail_one (w : World) (m : Wy.Mail) (v : Value) (h : PinsAt w v m.lock) : MailsAt (w.alloc (.cells #[.int .i64 m.agent, .int .i64 m.tr, .bool m.rep, .bool m.good, .int .i64 m.id, v] 52)) (.slice (some ⟨w.heap.size, 0, none⟩) 1 1) [(m, v)] := by
  refine ⟨by simp, some ⟨w.heap.size, 0, none⟩, 1, rfl, by simp, (fun e => by cases e), fun ad e _ => ?_, fun ad e j u hu => ?_, fun q hq => ?_⟩
  · cases e; exact ⟨rfl, by simp⟩
  · cases e
    exact news6 w _ _ _ _ _ _ _ j u (by simpa [flatM, mlCells] using hu)
  · simp only [List.mem_cons, List.not_mem_nil, or_false] at hq
    subst hq
    exact h.below ((Below.refl _ w).alloc (Nat.le_refl _) _)
theorem orE2M (w : World) (x y : Int) :
    Calls Try.prog 28 #[.slice (some ⟨w.heap.size, 0, none⟩) 2 2] (w.alloc (.cells #[.int .i64 x, .int .i64 y] 34)) fun e w' => e = .returned (.int .i64 (orr [x, y])) ∧ Below (w.alloc (.cells #[.int .i64 x, .int .i64 y] 34)).heap.size (w.alloc (.cells #[.int .i64 x, .int .i64 y] 34)) w' :=
  or_any w.heap.size 2 [x, y] _ (by simp) (cells2 _ _ _ _)
set_option maxHeartbeats 8000000 in
set_option maxRecDepth 100000 in
theorem mlSend_any (va v : Value) (ps : List (Wy.Mail × Value)) (m : Wy.Mail) (w : World) (hA : MailsAt w va ps) (hP : PinsAt w v m.lock) :
    Calls Try.prog 14 #[va, mailV m v] w fun e w' => (∃ y rs, e = .returned (.tuple #[y, .int .i64 (Wy.sendM (ps.map Prod.fst) m).2]) ∧ MailsAt w' y rs ∧ rs.map Prod.fst = (Wy.sendM (ps.map Prod.fst) m).1) ∧ Below w.heap.size w w' := by
  obtain ⟨la, lc, rfl⟩ := mails_slice hA
  obtain ⟨va, vc, rfl⟩ := pins_slice hP
  have HA : Hid (MailsAt w (.slice la ps.length lc) ps) := hA
  have HP : Hid (PinsAt w (.slice va m.lock.length vc) m.lock) := hP
  have HO := Wy.orr_send (ps.map Prod.fst) m
  have H1 : Hid (∀ w', Below w.heap.size w w' → Calls Try.prog 18 #[.slice la ps.length lc] w' fun e w'' => e = .returned (.int .i64 (Wy.chkMail (ps.map Prod.fst))) ∧ Below w'.heap.size w' w'') := fun w' hb => mlCheck_any _ ps w' (hA.below hb)
  have H2 : Hid (∀ w', Below w.heap.size w w' → Calls Try.prog 42 #[mailV m (.slice va m.lock.length vc)] w' fun e w'' => e = .returned (.int .i64 (Wy.chk1 m)) ∧ Below w'.heap.size w' w'') := fun w' hb => chkOne_any m _ w' (hP.below hb)
  have HB : Hid ((Wy.sendM (ps.map Prod.fst) m).2 ≠ 0 → (Wy.sendM (ps.map Prod.fst) m).1 = []) := fun h => Wy.send_bad h
  have HG : Hid ((Wy.sendM (ps.map Prod.fst) m).2 = 0 → ps.length ≤ 40 ∧ (∀ q ∈ ps, q.1.lock.length ≤ 12) ∧ m.lock.length ≤ 12 ∧ (Wy.sendM (ps.map Prod.fst) m).1 = if ps.length = 40 then ps.map Prod.fst else ps.map Prod.fst ++ [m]) := fun h => by
    obtain ⟨h1, h2, h3⟩ := Wy.send_ok h
    rw [List.length_map] at h3
    exact ⟨by have := (Wy.chkMail_len h1).1; rwa [List.length_map] at this, fun q hq => Wy.chkMail_lock h1 q.1 (List.mem_map_of_mem hq), Wy.chk1_lock h2, h3⟩
  clear hA hP
  obtain ⟨R1, R2, r3, r4, r5, r6⟩ := m
  obtain ⟨r1, hr1⟩ : ∃ r1, r1 = R1 := ⟨_, rfl⟩
  obtain ⟨r2, hr2⟩ : ∃ r2, r2 = R2 := ⟨_, rfl⟩
  subst hr1 hr2
  unfold mailV at H2 ⊢
  simp only at H2 HP ⊢
  have HONE : Hid (∀ x, Below w.heap.size w x → MailsAt (x.alloc (.cells #[.int .i64 r1, .int .i64 r2, .bool r3, .bool r4, .int .i64 r5, .slice va r6.length vc] 52)) (.slice (some ⟨x.heap.size, 0, none⟩) 1 1) [(⟨r1, r2, r3, r4, r5, r6⟩, .slice va r6.length vc)]) := fun x hb => mail_one x ⟨r1, r2, r3, r4, r5, r6⟩ _ (HP.out.below hb)
  generalize hCM : Wy.chkMail (ps.map Prod.fst) = CM at HO H1
  generalize hC1 : Wy.chk1 ⟨r1, r2, r3, r4, r5, r6⟩ = C1 at HO H2
  generalize Wy.sendM (ps.map Prod.fst) ⟨r1, r2, r3, r4, r5, r6⟩ = SM at HO HB HG ⊢
  obtain ⟨sl, E⟩ := SM
  simp only at HO HB HG ⊢
  have HOH : Hid (orr [CM, C1] = E) := HO
  clear HO hCM hC1 HP
  generalize r6.length = n at H2 HONE ⊢
  have HBK := box1 w #[.int .i64 r1, .int .i64 r2, .bool r3, .bool r4, .int .i64 r5, .slice va n vc] 52
  go_enter Try.func14, Try.ntmps14
  go_wp2_with fail
  generalize (w.alloc (.cells #[.int .i64 r1, .int .i64 r2, .bool r3, .bool r4, .int .i64 r5, .slice va n vc] 52)) = V at HBK ⊢
  obtain ⟨hB0, hK0⟩ := HBK
  generalize hgb : w.heap.size = gb at hK0 ⊢
  have HB0 : Hid (Below w.heap.size w V) := by rw [hgb]; exact hgb ▸ hB0
  have S0 : Hid (V.drew.cell? ⟨gb, 0, none⟩ = some (.int .i64 r1) ∧ V.drew.cell? ⟨gb, 1, none⟩ = some (.int .i64 r2) ∧ V.drew.cell? ⟨gb, 2, none⟩ = some (.bool r3) ∧ V.drew.cell? ⟨gb, 3, none⟩ = some (.bool r4) ∧ V.drew.cell? ⟨gb, 4, none⟩ = some (.int .i64 r5) ∧ V.drew.cell? ⟨gb, 5, none⟩ = some (.slice va n vc) ∧ Hid (Below V.heap.size V V.drew)) := ⟨hK0.cell 0, hK0.cell 1, hK0.cell 2, hK0.cell 3, hK0.cell 4, hK0.cell 5, (Below.refl _ V).drew⟩
  have KP : Hid (∀ x y : World, Below x.heap.size x y → (x.cell? ⟨gb, 0, none⟩ = some (.int .i64 r1) ∧ x.cell? ⟨gb, 1, none⟩ = some (.int .i64 r2) ∧ x.cell? ⟨gb, 2, none⟩ = some (.bool r3) ∧ x.cell? ⟨gb, 3, none⟩ = some (.bool r4) ∧ x.cell? ⟨gb, 4, none⟩ = some (.int .i64 r5) ∧ x.cell? ⟨gb, 5, none⟩ = some (.slice va n vc) ∧ Hid (Below V.heap.size V x)) → (y.cell? ⟨gb, 0, none⟩ = some (.int .i64 r1) ∧ y.cell? ⟨gb, 1, none⟩ = some (.int .i64 r2) ∧ y.cell? ⟨gb, 2, none⟩ = some (.bool r3) ∧ y.cell? ⟨gb, 3, none⟩ = some (.bool r4) ∧ y.cell? ⟨gb, 4, none⟩ = some (.int .i64 r5) ∧ y.cell? ⟨gb, 5, none⟩ = some (.slice va n vc) ∧ Hid (Below V.heap.size V y))) := fun x y hb h => by
    obtain ⟨h1, h2, h3, h4, h5, h6, hB⟩ := h
    have e : ∀ b o v, x.cell? ⟨b, o, none⟩ = some v → y.cell? ⟨b, o, none⟩ = some v := fun b o v hc => (hb.cell (p := ⟨b, o, none⟩) (World.block_lt_of_cell? x _ hc)).trans hc
    exact ⟨e _ _ _ h1, e _ _ _ h2, e _ _ _ h3, e _ _ _ h4, e _ _ _ h5, e _ _ _ h6, hB.out.trans (hb.mono hB.out.size)⟩
  have KA : Hid (∀ (x : World) O, Below x.heap.size x (x.alloc O)) := fun x O => (Below.refl _ x).alloc (Nat.le_refl _) O
  have SP : Hid (∀ x : World, (x.cell? ⟨gb, 0, none⟩ = some (.int .i64 r1) ∧ x.cell? ⟨gb, 1, none⟩ = some (.int .i64 r2) ∧ x.cell? ⟨gb, 2, none⟩ = some (.bool r3) ∧ x.cell? ⟨gb, 3, none⟩ = some (.bool r4) ∧ x.cell? ⟨gb, 4, none⟩ = some (.int .i64 r5) ∧ x.cell? ⟨gb, 5, none⟩ = some (.slice va n vc) ∧ Hid (Below V.heap.size V x)) → Below w.heap.size w x) := fun x h => HB0.out.trans (h.2.2.2.2.2.2.out.mono HB0.out.size)
  clear hK0 hB0
  go_region_held3 (fun w' => w'.cell? ⟨gb, 0, none⟩ = some (.int .i64 r1) ∧ w'.cell? ⟨gb, 1, none⟩ = some (.int .i64 r2) ∧ w'.cell? ⟨gb, 2, none⟩ = some (.bool r3) ∧ w'.cell? ⟨gb, 3, none⟩ = some (.bool r4) ∧ w'.cell? ⟨gb, 4, none⟩ = some (.int .i64 r5) ∧ w'.cell? ⟨gb, 5, none⟩ = some (.slice va n vc) ∧ Hid (Below V.heap.size V w')) (first | exact KP.out _ _ (by assumption) (by assumption) | exact S0.out | exact KP.out _ _ (KA.out _ _) (by assumption))
    (first
      | (go_at_call 18; refine (H1.out _ (SP.out _ (by assumption))).mono ?_; rintro e y ⟨rfl, hby⟩)
      | (go_at_call 42; refine (H2.out _ (SP.out _ (by assumption))).mono ?_; rintro e y ⟨rfl, hby⟩)
      | (go_at_call 28; refine (orE2M _ _ _).mono ?_; rintro e y ⟨rfl, hby⟩))
  have HBy : Hid (Below w.heap.size w y) := SP.out _ (by assumption)
  have HSy : Hid (y.cell? ⟨gb, 0, none⟩ = some (.int .i64 r1) ∧ y.cell? ⟨gb, 1, none⟩ = some (.int .i64 r2) ∧ y.cell? ⟨gb, 2, none⟩ = some (.bool r3) ∧ y.cell? ⟨gb, 3, none⟩ = some (.bool r4) ∧ y.cell? ⟨gb, 4, none⟩ = some (.int .i64 r5) ∧ y.cell? ⟨gb, 5, none⟩ = some (.slice va n vc) ∧ Hid (Below V.heap.size V y)) := by assumption
  rw [HOH.out]
  clear H1 H2 KP KA SP S0 HB0
  by_cases e0 : E = 0
  rotate_left
  · have e0' : (E != 0) = true := by simpa using e0
    have HR : Hid (sl = []) := HB.out e0
    clear HB HG HONE HOH HA HSy e0
    go_wp2
    refine bodyPost_ret (v := .tuple #[.slice none 0 0, .int .i64 E]) (by simp [results, Try.results14, go_sem]) rfl ⟨⟨_, [], rfl, mails_none _, HR.out.symm⟩, hgb ▸ HBy.out⟩
  obtain ⟨g1, g2, g3, g4⟩ := HG.out e0
  have G2 : Hid (∀ q ∈ ps, q.1.lock.length ≤ 12) := g2
  subst e0
  clear HB HG g2
  by_cases h40 : ps.length = 40
  · have G4 : Hid (sl = ps.map Prod.fst) := by show _ = _; rw [g4, if_pos h40]
    have h40' : (((ps.length : Nat) : Int) == 40) = true := by rw [h40]; rfl
    have HJ : Hid (Calls Try.prog 43 #[.agg #[.slice la ps.length lc, .slice none 0 0]] y fun e w'' => (∃ v rs, e = .returned v ∧ New y.heap.size (fun w => MailsAt w v rs) w'' ∧ rs.map Prod.fst = ps.map Prod.fst ++ ([] : List (Wy.Mail × Value)).map Prod.fst) ∧ Below y.heap.size y w'') := joined_any _ _ ps [] y (HA.out.below HBy.out) (mails_none _) (by simp; omega) (fun q hq => G2.out q (by simpa using hq))
    clear g4 HONE HOH HA HSy h40
    go_wp2_with fail
    refine HJ.out.mono ?_
    rintro e w2 ⟨⟨v, rs, rfl, hM, hrs⟩, hb2⟩
    replace hM : MailsAt w2 v rs := Keep.here hM
    have HM : Hid (MailsAt w2 v rs) := hM
    have HRS : Hid (rs.map Prod.fst = sl) := by show _ = _; rw [hrs, G4.out]; simp
    have HB2 : Hid (Below w.heap.size w w2) := HBy.out.trans (hb2.mono HBy.out.size)
    obtain ⟨va2, vc2, rfl⟩ := mails_slice hM
    clear hM hrs hb2 HJ G4
    go_wp2
    refine bodyPost_ret (v := .tuple #[.slice va2 rs.length vc2, .int .i64 0]) (by simp [results, Try.results14, go_sem]) rfl ⟨⟨_, rs, rfl, HM.out, HRS.out⟩, hgb ▸ HB2.out⟩
  · have G4 : Hid (sl = ps.map Prod.fst ++ [⟨r1, r2, r3, r4, r5, r6⟩]) := by show _ = _; rw [g4, if_neg h40]
    have h40' : (((ps.length : Nat) : Int) == 40) = false := by rw [beq_eq_false_iff_ne]; omega
    have hy1 := (box1 y #[.int .i64 r1, .int .i64 r2, .bool r3, .bool r4, .int .i64 r5, .slice va n vc] 52).1
    have HBz : Hid (Below y.heap.size y (y.alloc (.cells #[.int .i64 r1, .int .i64 r2, .bool r3, .bool r4, .int .i64 r5, .slice va n vc] 52))) := hy1
    have HBw : Hid (Below w.heap.size w (y.alloc (.cells #[.int .i64 r1, .int .i64 r2, .bool r3, .bool r4, .int .i64 r5, .slice va n vc] 52))) := HBy.out.trans (hy1.mono HBy.out.size)
    have HJ : Hid (Calls Try.prog 43 #[.agg #[.slice la ps.length lc, .slice (some ⟨y.heap.size, 0, none⟩) 1 1]] (y.alloc (.cells #[.int .i64 r1, .int .i64 r2, .bool r3, .bool r4, .int .i64 r5, .slice va n vc] 52)) fun e w'' => (∃ v rs, e = .returned v ∧ New (y.alloc (.cells #[.int .i64 r1, .int .i64 r2, .bool r3, .bool r4, .int .i64 r5, .slice va n vc] 52)).heap.size (fun w => MailsAt w v rs) w'' ∧ rs.map Prod.fst = ps.map Prod.fst ++ ([(⟨r1, r2, r3, r4, r5, r6⟩, .slice va n vc)] : List (Wy.Mail × Value)).map Prod.fst) ∧ Below (y.alloc (.cells #[.int .i64 r1, .int .i64 r2, .bool r3, .bool r4, .int .i64 r5, .slice va n vc] 52)).heap.size (y.alloc (.cells #[.int .i64 r1, .int .i64 r2, .bool r3, .bool r4, .int .i64 r5, .slice va n vc] 52)) w'') := joined_any _ _ ps [(⟨r1, r2, r3, r4, r5, r6⟩, .slice va n vc)] _ (HA.out.below HBw.out) (HONE.out y HBy.out) (by simp; omega) (fun q hq => by
      rcases List.mem_append.1 hq with h | h
      · exact G2.out q h
      · simp only [List.mem_cons, List.not_mem_nil, or_false] at h; subst h; exact g3)
    obtain ⟨s0, s1, s2, s3, s4, s5, -⟩ := HSy.out
    clear g4 HONE HOH HA HSy h40 hy1 HBz
    go_wp2_with fail
    refine HJ.out.mono ?_
    rintro e w2 ⟨⟨v, rs, rfl, hM, hrs⟩, hb2⟩
    replace hM : MailsAt w2 v rs := Keep.here hM
    have HM : Hid (MailsAt w2 v rs) := hM
    have HRS : Hid (rs.map Prod.fst = sl) := by show _ = _; rw [hrs, G4.out]; simp
    have HB2 : Hid (Below w.heap.size w w2) := HBw.out.trans (hb2.mono HBw.out.size)
    obtain ⟨va2, vc2, rfl⟩ := mails_slice hM
    clear hM hrs hb2 HJ G4 s0 s1 s2 s3 s4 s5
    go_wp2
    refine bodyPost_ret (v := .tuple #[.slice va2 rs.length vc2, .int .i64 0]) (by simp [results, Try.results14, go_sem]) rfl ⟨⟨_, rs, rfl, HM.out, HRS.out⟩, hgb ▸ HB2.out⟩
end Go.Proofs.Ytbdefihgplcdoae
