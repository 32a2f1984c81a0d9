/- The contracts of way.Check, and of the document's CheckMail. -/
import Derived.Test.YtbdefihgplcdoaeYV2
namespace Go.Proofs.Ytbdefihgplcdoae
open Go.RowKit
theorem alike0 (id : Int) (l : List (Int × Int)) : Lk.alike id l 0 [] = (decide (id = 0) && decide (l.length = 0)) := by
  rw [Bool.eq_iff_iff]
  cases l <;> simp [Lk.alike, Lk.same]
set_option maxHeartbeats 8000000 in
set_option maxRecDepth 100000 in
theorem mlCheck_any (va : Value) (ps : List (Wy.Mail × Value)) (w : World) (hA : MailsAt w va ps) :
    Calls Try.prog 18 #[va] w fun e w' => e = .returned (.int .i64 (Wy.chkMail (ps.map Prod.fst))) ∧ Below w.heap.size w w' := by
  obtain ⟨a, c, rfl⟩ := mails_slice hA
  by_cases hl : 40 < ps.length
  · have HN : Hid (Wy.chkMail (ps.map Prod.fst) = 2) := by show _ = _; rw [Wy.chkMail, if_pos (by rw [List.length_map]; exact hl)]
    have hl' : (40 : Int) < ps.length := by omega
    clear hA hl
    go_enter Try.func18, Try.ntmps18
    go_wp2
    go_ret
    exact ⟨by rw [HN.out]; rfl, Below.refl _ _⟩
  have HQ : Hid (Wy.chkMail (ps.map Prod.fst) = Wy.chkFrom ((ps.map Prod.fst).drop 0)) := by show _ = _; rw [Wy.chkMail, if_neg (by rw [List.length_map]; exact hl)]; rfl
  have HA : Hid (MailsAt w (.slice a ps.length c) ps) := hA
  have hl' : decide ((40 : Int) < ps.length) = false := decide_eq_false (by omega)
  have hl2 : ps.length ≤ 40 := by omega
  clear hA hl
  generalize Wy.chkMail (ps.map Prod.fst) = Q at HQ ⊢
  go_enter Try.func18, Try.ntmps18
  go_wp2
  clear hl'
  go_loopg [11] ps.length (fun g s wr => ∃ k : Nat, k ≤ ps.length ∧ ps.length - k ≤ g ∧ s = .int .i64 k ∧ Hid (Q = Wy.chkFrom ((ps.map Prod.fst).drop k)) ∧ Hid (Below w.heap.size w wr))
  case atStart => exact ⟨0, Nat.zero_le _, by omega, rfl, HQ, Below.refl _ _⟩
  case round =>
    obtain ⟨k, hk, hg, rfl, HQk, HBr⟩ := hrel
    clear HQ
    by_cases hlt : k < ps.length
    rotate_left
    · have hk' : k = ps.length := by omega
      have HR : Hid (Q = 0) := by
        show Q = 0
        rw [HQk.out, List.drop_of_length_le (by rw [List.length_map]; omega)]
        rfl
      subst hk'
      clear HQk hlt hk
      go_wp2
      go_ret
      exact ⟨by rw [HR.out]; rfl, HBr.out⟩
    obtain ⟨⟨r, v⟩, hr⟩ : ∃ x, ps[k]? = some x := ⟨_, List.getElem?_eq_getElem hlt⟩
    obtain ⟨b1, o1, rfl, hb1, x0, x1, x2, x3, x4, x5⟩ := mails_at (HA.out.below HBr.out) hr
    have hp := mails_pins (HA.out.below HBr.out) (r, v) (List.mem_of_getElem? hr)
    simp only at hp
    have hlen : r.lock.length ≤ 70368744177664 := hp.1
    have HR : Hid (Q = if Wy.chk1 r = 0 then Wy.chkFrom ((ps.map Prod.fst).drop (k + 1)) else Wy.chk1 r) := by
      show Q = _
      rw [HQk.out, drop_mapM hr]
      rfl
    obtain ⟨va, vc, rfl⟩ := pins_slice hp
    have hkl : (k : Int) < ps.length := by omega
    clear hr HQk
    have HKP : Hid (∀ w', Below wr.heap.size wr w' → Calls Try.prog 42 #[mailV r (.slice va r.lock.length vc)] w' fun e w'' => e = .returned (.int .i64 (Wy.chk1 r)) ∧ Below w'.heap.size w' w'') := fun w' hb => chkOne_any r _ w' (hp.below hb)
    clear hp hlen
    obtain ⟨r1, r2, r3, r4, r5, r6⟩ := r
    unfold mailV at HKP
    simp only at HKP x0 x1 x2 x3 x4 x5
    generalize Wy.chk1 ⟨r1, r2, r3, r4, r5, r6⟩ = E at HKP HR
    generalize r6.length = n at HKP x5
    have HX : Hid (Below wr.heap.size wr (wr.alloc (.cells #[.int .i64 r1, .int .i64 r2, .bool r3, .bool r4, .int .i64 r5, .slice va n vc] 52))) := (box1 wr _ _).1
    go_wp2_with fail
    refine (HKP.out _ HX.out).mono ?_
    rintro e w1 ⟨rfl, hb1⟩
    have HB1 : Hid (Below w.heap.size w w1) := HBr.out.trans ((HX.out.trans (hb1.mono HX.out.size)).mono HBr.out.size)
    clear hb1 HX HKP x0 x1 x2 x3 x4 x5
    by_cases e0 : E = 0
    · subst e0
      have HR' : Hid (Q = Wy.chkFrom ((ps.map Prod.fst).drop (k + 1))) := by show _ = _; rw [HR.out, if_pos rfl]
      clear HR
      go_wp2
      go_roundg (ps.length - (k + 1))
      case measure => omega
      case rel => exact ⟨k + 1, by omega, by omega, by go_num, HR', HB1⟩
    · have HR' : Hid (Q = E) := by show _ = _; rw [HR.out, if_neg e0]
      have e0' : (E != 0) = true := by simpa using e0
      clear HR e0
      go_wp2
      go_ret
      exact ⟨by rw [HR'.out]; rfl, HB1.out⟩
theorem chk1_out {m : Wy.Mail} (h : ¬ (0 ≤ m.agent ∧ m.agent ≤ 5 ∧ 1 ≤ m.tr ∧ m.tr ≤ 200)) : Wy.chk1 m = 3 := by
  unfold Wy.chk1
  rw [if_neg]
  simp [Lk.within]
  omega
theorem chk1_in {m : Wy.Mail} (h : 0 ≤ m.agent ∧ m.agent ≤ 5 ∧ 1 ≤ m.tr ∧ m.tr ≤ 200) : Wy.chk1 m = if m.rep = true then (if (decide (m.id = 0) && decide (m.lock.length = 0)) = true then 0 else 4) else if m.good = true then 4 else Lk.chkRel m.id m.lock := by
  unfold Wy.chk1
  rw [if_pos (by simp [Lk.within]; omega), alike0]
set_option maxHeartbeats 16000000 in
set_option maxRecDepth 100000 in
theorem mlCheckR_any (va : Value) (ps : List (Wy.Mail × Value)) (w : World) (hA : MailsAt w va ps) :
    Calls Try.prog 16 #[va] w fun e w' => e = .returned (.int .i64 (Wy.chkMail (ps.map Prod.fst))) ∧ Below w.heap.size w w' := by
  obtain ⟨a, c, rfl⟩ := mails_slice hA
  by_cases hl : 40 < ps.length
  · have HN : Hid (Wy.chkMail (ps.map Prod.fst) = 2) := by show _ = _; rw [Wy.chkMail, if_pos (by rw [List.length_map]; exact hl)]
    have hl' : (40 : Int) < ps.length := by omega
    clear hA hl
    go_enter Try.func16, Try.ntmps16
    go_wp2
    go_ret
    exact ⟨by rw [HN.out]; rfl, Below.refl _ _⟩
  have HQ : Hid (Wy.chkMail (ps.map Prod.fst) = Wy.chkFrom ((ps.map Prod.fst).drop 0)) := by show _ = _; rw [Wy.chkMail, if_neg (by rw [List.length_map]; exact hl)]; rfl
  have HA : Hid (MailsAt w (.slice a ps.length c) ps) := hA
  have hl' : decide ((40 : Int) < ps.length) = false := decide_eq_false (by omega)
  have hl2 : ps.length ≤ 40 := by omega
  clear hA hl
  generalize Wy.chkMail (ps.map Prod.fst) = Q at HQ ⊢
  go_enter Try.func16, Try.ntmps16
  go_wp2
  clear hl'
  go_loopg [12] ps.length (fun g s wr => ∃ k : Nat, k ≤ ps.length ∧ ps.length - k ≤ g ∧ s = .int .i64 k ∧ Hid (Q = Wy.chkFrom ((ps.map Prod.fst).drop k)) ∧ Hid (Below w.heap.size w wr))
  case atStart => exact ⟨0, Nat.zero_le _, by omega, rfl, HQ, Below.refl _ _⟩
  case round =>
    obtain ⟨k, hk, hg, rfl, HQk, HBr⟩ := hrel
    clear HQ
    by_cases hlt : k < ps.length
    rotate_left
    · have hk' : k = ps.length := by omega
      have HR : Hid (Q = 0) := by
        show Q = 0
        rw [HQk.out, List.drop_of_length_le (by rw [List.length_map]; omega)]
        rfl
      subst hk'
      clear HQk hlt hk
      go_wp2
      go_ret
      exact ⟨by rw [HR.out]; rfl, HBr.out⟩
    obtain ⟨⟨r, v⟩, hr⟩ : ∃ x, ps[k]? = some x := ⟨_, List.getElem?_eq_getElem hlt⟩
    obtain ⟨b1, o1, rfl, hb1, x0, x1, x2, x3, x4, x5⟩ := mails_at (HA.out.below HBr.out) hr
    have hp := mails_pins (HA.out.below HBr.out) (r, v) (List.mem_of_getElem? hr)
    simp only at hp
    have hlen : r.lock.length ≤ 70368744177664 := hp.1
    have HR : Hid (Q = if Wy.chk1 r = 0 then Wy.chkFrom ((ps.map Prod.fst).drop (k + 1)) else Wy.chk1 r) := by
      show Q = _
      rw [HQk.out, drop_mapM hr]
      rfl
    obtain ⟨va, vc, rfl⟩ := pins_slice hp
    have hkl : (k : Int) < ps.length := by omega
    clear hr HQk
    have HRel : Hid (∀ w', Below wr.heap.size wr w' → Calls Try.prog 47 #[.agg #[.int .i64 r.id, .slice va r.lock.length vc]] w' fun e w'' => e = .returned (.int .i64 (Lk.chkRel r.id r.lock)) ∧ Below w'.heap.size w' w'') := fun w' hb => releaseR_any _ _ r.lock w' (hp.below hb)
    have h3out : Hid (¬ (0 ≤ r.agent ∧ r.agent ≤ 5 ∧ 1 ≤ r.tr ∧ r.tr ≤ 200) → Wy.chk1 r = 3) := fun h => chk1_out h
    have h3in : Hid ((0 ≤ r.agent ∧ r.agent ≤ 5 ∧ 1 ≤ r.tr ∧ r.tr ≤ 200) → Wy.chk1 r = if r.rep = true then (if (decide (r.id = 0) && decide (r.lock.length = 0)) = true then 0 else 4) else if r.good = true then 4 else Lk.chkRel r.id r.lock) := fun h => chk1_in h
    clear hp
    obtain ⟨r1, r2, r3, r4, r5, r6⟩ := r
    simp only at HRel x0 x1 x2 x3 x4 x5 hlen h3out h3in
    generalize Lk.chkRel r5 r6 = CR at HRel h3in
    generalize Wy.chk1 ⟨r1, r2, r3, r4, r5, r6⟩ = E at HR h3out h3in
    generalize r6.length = n at HRel x5 hlen h3in
    have HX : Hid (Below wr.heap.size wr (wr.alloc (.cells #[.int .i64 r1, .int .i64 r2, .bool r3, .bool r4, .int .i64 r5, .slice va n vc] 52))) := (box1 wr _ _).1
    have HB1 : Hid (Below w.heap.size w (wr.alloc (.cells #[.int .i64 r1, .int .i64 r2, .bool r3, .bool r4, .int .i64 r5, .slice va n vc] 52))) := HBr.out.trans (HX.out.mono HBr.out.size)
    by_cases h1 : 0 ≤ r1
    rotate_left
    · have HN : Hid (Q = 3) := by show _ = _; rw [HR.out, h3out.out (by omega), if_neg (by decide)]
      have h1' : r1 < 0 := by omega
      clear HR HRel h3in h3out h1
      go_wp2_with go_in
      go_ret
      exact ⟨by rw [HN.out]; rfl, HB1.out⟩
    by_cases h2 : r1 ≤ 5
    rotate_left
    · have HN : Hid (Q = 3) := by show _ = _; rw [HR.out, h3out.out (by omega), if_neg (by decide)]
      have h2' : decide (r1 ≤ 5) = false := decide_eq_false h2
      clear HR HRel h3in h3out h2
      go_wp2_with go_in
      go_ret
      exact ⟨by rw [HN.out]; rfl, HB1.out⟩
    by_cases h3 : 1 ≤ r2
    rotate_left
    · have HN : Hid (Q = 3) := by show _ = _; rw [HR.out, h3out.out (by omega), if_neg (by decide)]
      have h3' : r2 < 1 := by omega
      clear HR HRel h3in h3out h3
      go_wp2_with go_in
      go_ret
      exact ⟨by rw [HN.out]; rfl, HB1.out⟩
    by_cases h4 : r2 ≤ 200
    rotate_left
    · have HN : Hid (Q = 3) := by show _ = _; rw [HR.out, h3out.out (by omega), if_neg (by decide)]
      have h4' : decide (r2 ≤ 200) = false := decide_eq_false h4
      clear HR HRel h3in h3out h4
      go_wp2_with go_in
      go_ret
      exact ⟨by rw [HN.out]; rfl, HB1.out⟩
    have HE := h3in.out ⟨h1, h2, h3, h4⟩
    have HEH : Hid (E = if r3 = true then (if (decide (r5 = 0) && decide (n = 0)) = true then 0 else 4) else if r4 = true then 4 else CR) := HE
    clear HE h3in h3out
    cases r3
    · cases r4
      · by_cases hz : r5 = 0
        · subst hz
          by_cases hn : n = 0
          · subst hn
            have HE : Hid (E = CR) := by show _ = _; rw [HEH.out, if_neg (by decide), if_neg (by decide)]
            by_cases e0 : CR = 0
            · subst e0
              have HN : Hid (Q = Wy.chkFrom ((ps.map Prod.fst).drop (k + 1))) := by show _ = _; rw [HR.out, HE.out, if_pos rfl]
              clear HR HEH HE
              go_wp2_with (first | (go_at_call 47; refine (HRel.out _ HX.out).mono ?_; rintro e w1 ⟨rfl, hb1⟩; have HBW : Hid (Below w.heap.size w w1) := HB1.out.trans (hb1.mono HB1.out.size); clear hb1 HX HB1 HRel x0 x1 x2 x3 x4 x5) | go_in)
              go_roundg (ps.length - (k + 1))
              case measure => omega
              case rel => exact ⟨k + 1, by omega, by omega, by go_num, HN, HBW⟩
            · have HN : Hid (Q = CR) := by show _ = _; rw [HR.out, HE.out, if_neg e0]
              have e0' : (CR != 0) = true := by simpa using e0
              clear HR HEH HE e0
              go_wp2_with (first | (go_at_call 47; refine (HRel.out _ HX.out).mono ?_; rintro e w1 ⟨rfl, hb1⟩; have HBW : Hid (Below w.heap.size w w1) := HB1.out.trans (hb1.mono HB1.out.size); clear hb1 HX HB1 HRel x0 x1 x2 x3 x4 x5) | go_in)
              go_ret
              exact ⟨by rw [HN.out]; rfl, HBW.out⟩
          · have hn' : ((n : Int) == 0) = false := by rw [beq_eq_false_iff_ne]; omega
            have HE : Hid (E = CR) := by show _ = _; rw [HEH.out, if_neg (by decide), if_neg (by decide)]
            by_cases e0 : CR = 0
            · subst e0
              have HN : Hid (Q = Wy.chkFrom ((ps.map Prod.fst).drop (k + 1))) := by show _ = _; rw [HR.out, HE.out, if_pos rfl]
              clear HR HEH HE
              go_wp2_with (first | (go_at_call 47; refine (HRel.out _ HX.out).mono ?_; rintro e w1 ⟨rfl, hb1⟩; have HBW : Hid (Below w.heap.size w w1) := HB1.out.trans (hb1.mono HB1.out.size); clear hb1 HX HB1 HRel x0 x1 x2 x3 x4 x5) | go_in)
              go_roundg (ps.length - (k + 1))
              case measure => omega
              case rel => exact ⟨k + 1, by omega, by omega, by go_num, HN, HBW⟩
            · have HN : Hid (Q = CR) := by show _ = _; rw [HR.out, HE.out, if_neg e0]
              have e0' : (CR != 0) = true := by simpa using e0
              clear HR HEH HE e0
              go_wp2_with (first | (go_at_call 47; refine (HRel.out _ HX.out).mono ?_; rintro e w1 ⟨rfl, hb1⟩; have HBW : Hid (Below w.heap.size w w1) := HB1.out.trans (hb1.mono HB1.out.size); clear hb1 HX HB1 HRel x0 x1 x2 x3 x4 x5) | go_in)
              go_ret
              exact ⟨by rw [HN.out]; rfl, HBW.out⟩
        · have hz' : (r5 == 0) = false := by simp [hz]
          by_cases hn : n = 0
          · subst hn
            have HE : Hid (E = CR) := by show _ = _; rw [HEH.out, if_neg (by decide), if_neg (by decide)]
            by_cases e0 : CR = 0
            · subst e0
              have HN : Hid (Q = Wy.chkFrom ((ps.map Prod.fst).drop (k + 1))) := by show _ = _; rw [HR.out, HE.out, if_pos rfl]
              clear HR HEH HE
              go_wp2_with (first | (go_at_call 47; refine (HRel.out _ HX.out).mono ?_; rintro e w1 ⟨rfl, hb1⟩; have HBW : Hid (Below w.heap.size w w1) := HB1.out.trans (hb1.mono HB1.out.size); clear hb1 HX HB1 HRel x0 x1 x2 x3 x4 x5) | go_in)
              go_roundg (ps.length - (k + 1))
              case measure => omega
              case rel => exact ⟨k + 1, by omega, by omega, by go_num, HN, HBW⟩
            · have HN : Hid (Q = CR) := by show _ = _; rw [HR.out, HE.out, if_neg e0]
              have e0' : (CR != 0) = true := by simpa using e0
              clear HR HEH HE e0
              go_wp2_with (first | (go_at_call 47; refine (HRel.out _ HX.out).mono ?_; rintro e w1 ⟨rfl, hb1⟩; have HBW : Hid (Below w.heap.size w w1) := HB1.out.trans (hb1.mono HB1.out.size); clear hb1 HX HB1 HRel x0 x1 x2 x3 x4 x5) | go_in)
              go_ret
              exact ⟨by rw [HN.out]; rfl, HBW.out⟩
          · have hn' : ((n : Int) == 0) = false := by rw [beq_eq_false_iff_ne]; omega
            have HE : Hid (E = CR) := by show _ = _; rw [HEH.out, if_neg (by decide), if_neg (by decide)]
            by_cases e0 : CR = 0
            · subst e0
              have HN : Hid (Q = Wy.chkFrom ((ps.map Prod.fst).drop (k + 1))) := by show _ = _; rw [HR.out, HE.out, if_pos rfl]
              clear HR HEH HE
              go_wp2_with (first | (go_at_call 47; refine (HRel.out _ HX.out).mono ?_; rintro e w1 ⟨rfl, hb1⟩; have HBW : Hid (Below w.heap.size w w1) := HB1.out.trans (hb1.mono HB1.out.size); clear hb1 HX HB1 HRel x0 x1 x2 x3 x4 x5) | go_in)
              go_roundg (ps.length - (k + 1))
              case measure => omega
              case rel => exact ⟨k + 1, by omega, by omega, by go_num, HN, HBW⟩
            · have HN : Hid (Q = CR) := by show _ = _; rw [HR.out, HE.out, if_neg e0]
              have e0' : (CR != 0) = true := by simpa using e0
              clear HR HEH HE e0
              go_wp2_with (first | (go_at_call 47; refine (HRel.out _ HX.out).mono ?_; rintro e w1 ⟨rfl, hb1⟩; have HBW : Hid (Below w.heap.size w w1) := HB1.out.trans (hb1.mono HB1.out.size); clear hb1 HX HB1 HRel x0 x1 x2 x3 x4 x5) | go_in)
              go_ret
              exact ⟨by rw [HN.out]; rfl, HBW.out⟩
      · by_cases hz : r5 = 0
        · subst hz
          by_cases hn : n = 0
          · subst hn
            have HE : Hid (E = 4) := by show _ = _; rw [HEH.out, if_neg (by decide), if_pos rfl]
            have HN : Hid (Q = 4) := by show _ = _; rw [HR.out, HE.out, if_neg (by decide)]
            clear HR HRel HEH HE
            go_wp2_with go_in
            go_ret
            exact ⟨by rw [HN.out]; rfl, HB1.out⟩
          · have hn' : ((n : Int) == 0) = false := by rw [beq_eq_false_iff_ne]; omega
            have HE : Hid (E = 4) := by show _ = _; rw [HEH.out, if_neg (by decide), if_pos rfl]
            have HN : Hid (Q = 4) := by show _ = _; rw [HR.out, HE.out, if_neg (by decide)]
            clear HR HRel HEH HE
            go_wp2_with go_in
            go_ret
            exact ⟨by rw [HN.out]; rfl, HB1.out⟩
        · have hz' : (r5 == 0) = false := by simp [hz]
          by_cases hn : n = 0
          · subst hn
            have HE : Hid (E = 4) := by show _ = _; rw [HEH.out, if_neg (by decide), if_pos rfl]
            have HN : Hid (Q = 4) := by show _ = _; rw [HR.out, HE.out, if_neg (by decide)]
            clear HR HRel HEH HE
            go_wp2_with go_in
            go_ret
            exact ⟨by rw [HN.out]; rfl, HB1.out⟩
          · have hn' : ((n : Int) == 0) = false := by rw [beq_eq_false_iff_ne]; omega
            have HE : Hid (E = 4) := by show _ = _; rw [HEH.out, if_neg (by decide), if_pos rfl]
            have HN : Hid (Q = 4) := by show _ = _; rw [HR.out, HE.out, if_neg (by decide)]
            clear HR HRel HEH HE
            go_wp2_with go_in
            go_ret
            exact ⟨by rw [HN.out]; rfl, HB1.out⟩
    · cases r4
      · by_cases hz : r5 = 0
        · subst hz
          by_cases hn : n = 0
          · subst hn
            have HE : Hid (E = 0) := by show _ = _; rw [HEH.out]; rfl
            have HN : Hid (Q = Wy.chkFrom ((ps.map Prod.fst).drop (k + 1))) := by show _ = _; rw [HR.out, HE.out, if_pos rfl]
            clear HR HRel HEH HE
            go_wp2_with go_in
            go_roundg (ps.length - (k + 1))
            case measure => omega
            case rel => exact ⟨k + 1, by omega, by omega, by go_num, HN, HB1⟩
          · have hn' : ((n : Int) == 0) = false := by rw [beq_eq_false_iff_ne]; omega
            have HE : Hid (E = 4) := by show _ = _; rw [HEH.out, if_pos rfl, if_neg (by simp; omega)]
            have HN : Hid (Q = 4) := by show _ = _; rw [HR.out, HE.out, if_neg (by decide)]
            clear HR HRel HEH HE
            go_wp2_with go_in
            go_ret
            exact ⟨by rw [HN.out]; rfl, HB1.out⟩
        · have hz' : (r5 == 0) = false := by simp [hz]
          by_cases hn : n = 0
          · subst hn
            have HE : Hid (E = 4) := by show _ = _; rw [HEH.out, if_pos rfl, if_neg (by simp; omega)]
            have HN : Hid (Q = 4) := by show _ = _; rw [HR.out, HE.out, if_neg (by decide)]
            clear HR HRel HEH HE
            go_wp2_with go_in
            go_ret
            exact ⟨by rw [HN.out]; rfl, HB1.out⟩
          · have hn' : ((n : Int) == 0) = false := by rw [beq_eq_false_iff_ne]; omega
            have HE : Hid (E = 4) := by show _ = _; rw [HEH.out, if_pos rfl, if_neg (by simp; omega)]
            have HN : Hid (Q = 4) := by show _ = _; rw [HR.out, HE.out, if_neg (by decide)]
            clear HR HRel HEH HE
            go_wp2_with go_in
            go_ret
            exact ⟨by rw [HN.out]; rfl, HB1.out⟩
      · by_cases hz : r5 = 0
        · subst hz
          by_cases hn : n = 0
          · subst hn
            have HE : Hid (E = 0) := by show _ = _; rw [HEH.out]; rfl
            have HN : Hid (Q = Wy.chkFrom ((ps.map Prod.fst).drop (k + 1))) := by show _ = _; rw [HR.out, HE.out, if_pos rfl]
            clear HR HRel HEH HE
            go_wp2_with go_in
            go_roundg (ps.length - (k + 1))
            case measure => omega
            case rel => exact ⟨k + 1, by omega, by omega, by go_num, HN, HB1⟩
          · have hn' : ((n : Int) == 0) = false := by rw [beq_eq_false_iff_ne]; omega
            have HE : Hid (E = 4) := by show _ = _; rw [HEH.out, if_pos rfl, if_neg (by simp; omega)]
            have HN : Hid (Q = 4) := by show _ = _; rw [HR.out, HE.out, if_neg (by decide)]
            clear HR HRel HEH HE
            go_wp2_with go_in
            go_ret
            exact ⟨by rw [HN.out]; rfl, HB1.out⟩
        · have hz' : (r5 == 0) = false := by simp [hz]
          by_cases hn : n = 0
          · subst hn
            have HE : Hid (E = 4) := by show _ = _; rw [HEH.out, if_pos rfl, if_neg (by simp; omega)]
            have HN : Hid (Q = 4) := by show _ = _; rw [HR.out, HE.out, if_neg (by decide)]
            clear HR HRel HEH HE
            go_wp2_with go_in
            go_ret
            exact ⟨by rw [HN.out]; rfl, HB1.out⟩
          · have hn' : ((n : Int) == 0) = false := by rw [beq_eq_false_iff_ne]; omega
            have HE : Hid (E = 4) := by show _ = _; rw [HEH.out, if_pos rfl, if_neg (by simp; omega)]
            have HN : Hid (Q = 4) := by show _ = _; rw [HR.out, HE.out, if_neg (by decide)]
            clear HR HRel HEH HE
            go_wp2_with go_in
            go_ret
            exact ⟨by rw [HN.out]; rfl, HB1.out⟩
end Go.Proofs.Ytbdefihgplcdoae
