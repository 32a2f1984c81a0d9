/- The contract of the document's Steps. -/
import Derived.Test.YtbnaaookeagjgaaT5
import Derived.BigQuiet
import Derived.Deep.QuietTactic
import Derived.Laws.AppendOwnNone
namespace Go.Proofs.Ytbnaaookeagjgaa
open Go.RowKit
theorem zeroR (w : World) : TabAt (w.alloc (.cells #[.int .i64 0, .int .i64 0, .int .i64 0, .int .i64 0, .int .i64 0, .int .i64 0, .int .i64 0, .int .i64 0, .int .i64 0, .int .i64 0, .int .i64 0, .int .i64 0, .int .i64 0, .int .i64 0, .int .i64 0, .int .i64 0, .int .i64 0, .int .i64 0, .int .i64 0, .int .i64 0, .int .i64 0] 64)) w.heap.size 64 (List.replicate 21 0) := heap_alloc_last w _
theorem zeroR' (w : World) (o : Obj) : TabAt ((w.alloc o).alloc (.cells #[.int .i64 0, .int .i64 0, .int .i64 0, .int .i64 0, .int .i64 0, .int .i64 0, .int .i64 0, .int .i64 0, .int .i64 0, .int .i64 0, .int .i64 0, .int .i64 0, .int .i64 0, .int .i64 0, .int .i64 0, .int .i64 0, .int .i64 0, .int .i64 0, .int .i64 0, .int .i64 0, .int .i64 0] 64)) (w.heap.size + 1) 64 (List.replicate 21 0) := by
  have := zeroR (w.alloc o)
  rwa [World.size_alloc] at this
set_option maxHeartbeats 2000000 in
theorem steps_bad1 (v u : Value) (a : List (Int × Int)) (w : World) (hP : PinsAt w v a) (he : Lk.chk a ≠ 0) :
    Calls Try.prog 12 #[v, u] w fun e w' => e = .returned (.tuple #[.slice none 0 0, .int .i64 (Lk.chk a)]) ∧ Below w.heap.size w w' := by
  have he' : (Lk.chk a != 0) = true := by simpa using he
  clear he
  go_enter Try.func12, Try.ntmps12
  go_wp2_with fail
  refine (checkR_any _ _ _ hP).mono ?_
  rintro e w1 ⟨rfl, hb1⟩
  go_wp2
  go_ret2
  exact ⟨rfl, hb1⟩
set_option maxHeartbeats 2000000 in
theorem steps_bad2 (v u : Value) (a b : List (Int × Int)) (w : World) (hP : PinsAt w v a) (hQ : PinsAt w u b) (ha : Lk.chk a = 0) (he : Lk.chk b ≠ 0) :
    Calls Try.prog 12 #[v, u] w fun e w' => e = .returned (.tuple #[.slice none 0 0, .int .i64 (Lk.chk b)]) ∧ Below w.heap.size w w' := by
  have he' : (Lk.chk b != 0) = true := by simpa using he
  have HQ : Hid (PinsAt w u b) := hQ
  have HA : Hid (Lk.chk a = 0) := ha
  clear he hQ ha
  go_enter Try.func12, Try.ntmps12
  go_wp2_with fail
  refine (checkR_any _ _ _ hP).mono ?_
  rintro e w1 ⟨rfl, hb1⟩
  rw [HA.out]
  go_wp2_with fail
  refine (checkR_any _ _ _ (HQ.out.below hb1)).mono ?_
  rintro e w2 ⟨rfl, hb2⟩
  go_wp2
  go_ret2
  exact ⟨rfl, hb1.trans (hb2.mono hb1.size)⟩
theorem own_head {w : World} {B : Nat} {v : Value} {p : Int × Int × Int} {r : List (Int × Int × Int)} (h : w.ownsRow B 43 3 v (p :: r).length (flatO (p :: r))) : ∃ g, v.ownBlock = some g ∧ w.cell? ⟨g, 0, none⟩ = some (.int .i64 p.1) := by
  rcases h.2 with ⟨_, h2⟩ | ⟨g, cap, cur, rfl, _⟩
  · cases h2
  · exact ⟨g, rfl, h.cellAt 0 (by simp)⟩
/-- two slices of steps of unlike kinds share no block -/
theorem own_apart {w : World} {B : Nat} {v u : Value} {l m : List (Int × Int × Int)} (h1 : w.ownsRow B 43 3 v l.length (flatO l)) (h2 : w.ownsRow B 43 3 u m.length (flatO m))
    (z1 : l = [] → v = .slice none 0 0) (z2 : m = [] → u = .slice none 0 0) (hk : ∀ p ∈ l, ∀ q ∈ m, p.1 ≠ q.1) : (v.ownBlock = none ∨ v.ownBlock ≠ u.ownBlock) ∧ (u.ownBlock = none ∨ u.ownBlock ≠ v.ownBlock) := by
  cases l with
  | nil =>
    have := z1 rfl
    subst this
    refine ⟨.inl rfl, ?_⟩
    cases hu : u.ownBlock with
    | none => exact .inl rfl
    | some g => exact .inr (fun e => by cases e)
  | cons p r =>
    cases m with
    | nil =>
      have := z2 rfl
      subst this
      refine ⟨?_, .inl rfl⟩
      cases hu : v.ownBlock with
      | none => exact .inl rfl
      | some g => exact .inr (fun e => by cases e)
    | cons q t =>
      obtain ⟨g, e1, c1⟩ := own_head h1
      obtain ⟨g', e2, c2⟩ := own_head h2
      have hne : g ≠ g' := fun e => by
        subst e
        rw [c1] at c2
        have : p.1 = q.1 := by injection c2 with h; injection h
        exact hk p (by simp) q (by simp) this
      rw [e1, e2]
      exact ⟨.inr (fun e => hne (Option.some.inj e)), .inr (fun e => hne (Option.some.inj e).symm)⟩
theorem kinds_apart (A B : List Int) (k : Nat) : ∀ p ∈ Dk.drops A B k, ∀ q ∈ Dk.rests A B k, p.1 ≠ q.1 := by
  intro p hp q hq
  obtain ⟨n, _, e1⟩ := Dk.mem_drops hp
  obtain ⟨m, _, e2⟩ := Dk.mem_rests hq
  have h1 := (Dk.dropAt_some e1).1
  have h2 := (Dk.restAt_some e2).1
  rw [h1, h2]
  simp only []
  split <;> decide
set_option maxHeartbeats 8000000 in
theorem steps_good (v u : Value) (a b : List (Int × Int)) (w : World) (hP : PinsAt w v a) (hQ : PinsAt w u b) (ha : Lk.chk a = 0) (hb : Lk.chk b = 0) :
    Calls Try.prog 12 #[v, u] w fun e w' => (∃ x, e = .returned (.tuple #[x, .int .i64 0]) ∧ OpsAt w' x (Dk.steps (Dk.tb a) (Dk.tb b))) ∧ Below w.heap.size w w' := by
  obtain ⟨i0, hi, hz0, hz1, hz2⟩ := info_parts Try.info43
  have HP : Hid (PinsAt w v a) := hP
  have HQ : Hid (PinsAt w u b) := hQ
  have HA : Hid (Lk.chk a = 0) := ha
  have HB : Hid (Lk.chk b = 0) := hb
  clear ha hb hP hQ
  go_enter Try.func12, Try.ntmps12
  go_wp2_with fail
  refine (checkR_any _ _ _ HP.out).mono ?_
  rintro e w1 ⟨rfl, hb1⟩
  rw [HA.out]
  go_wp2_with fail
  refine (checkR_any _ _ _ (HQ.out.below hb1)).mono ?_
  rintro e w2 ⟨rfl, hb2⟩
  rw [HB.out]
  have hb12 := hb1.trans (hb2.mono hb1.size)
  clear hb1 hb2
  go_wp2_with fail
  refine (tableR_any _ _ _ (HP.out.below hb12) HA.out).mono ?_
  rintro e w4 ⟨rfl, hb4⟩
  have hb14 := hb12.trans (hb4.mono hb12.size)
  clear hb12 hb4
  go_wp2_with fail
  refine (tableR_any _ _ _ (HQ.out.below hb14) HB.out).mono ?_
  rintro e w5 ⟨rfl, hb5⟩
  have hb15 := hb14.trans (hb5.mono hb14.size)
  have hs5 := hb15.size
  have HB5 : Hid (Below w.heap.size w w5) := hb15
  clear hb14 hb5 hb15
  go_wp2_with (first | (guard_target = wpList _ _ _ (Oper.mk _ (Op.store 64 (.tmp 8) _) _ _ _ _ :: _) _ _; refine stR (t := List.replicate 21 0) rfl (.tmp 8) (.tmp 24) rfl w5.heap.size (by rfl) (Dk.tb a) (by rfl) ((zeroR w5).alloc _) (by rfl) (Dk.tb_len a) ?_) | (guard_target = wpList _ _ _ (Oper.mk _ (Op.store 64 (.tmp 9) _) _ _ _ _ :: _) _ _; refine stR (t := List.replicate 21 0) rfl (.tmp 9) (.tmp 26) rfl (w5.heap.size + 1) (by rfl) (Dk.tb b) (by rfl) ((zeroR' w5 _).otherRow (by simp) _) (by rfl) (Dk.tb_len b) ?_))
  go_loopg [10, 11, 27] 21 (fun g s10 s11 s27 wr => ∃ k : Nat, k ≤ 21 ∧ 21 - k ≤ g ∧ s27 = .int .i64 k ∧ Hid (wr.ownsRow (w5.heap.size + 2) 43 3 s10 (Dk.drops (Dk.tb a) (Dk.tb b) k).length (flatO (Dk.drops (Dk.tb a) (Dk.tb b) k))) ∧ Hid (wr.ownsRow (w5.heap.size + 2) 43 3 s11 (Dk.rests (Dk.tb a) (Dk.tb b) k).length (flatO (Dk.rests (Dk.tb a) (Dk.tb b) k))) ∧ Hid ((Dk.drops (Dk.tb a) (Dk.tb b) k = [] → s10 = .slice none 0 0) ∧ (Dk.rests (Dk.tb a) (Dk.tb b) k = [] → s11 = .slice none 0 0)) ∧ Hid (TabAt wr w5.heap.size 64 (Dk.tb a)) ∧ Hid (TabAt wr (w5.heap.size + 1) 64 (Dk.tb b)) ∧ Hid (Below w.heap.size w wr) ∧ w5.heap.size + 2 ≤ wr.heap.size)
  case atStart =>
    refine ⟨0, Nat.zero_le _, by omega, rfl, World.ownsRow_nil _ _ _ _, World.ownsRow_nil _ _ _ _, ⟨fun _ => rfl, fun _ => rfl⟩, ?_, ?_, ?_, by simp⟩
    · exact (((zeroR w5).alloc _).row _).otherRow (by simp) _
    · exact ((zeroR' w5 _).otherRow (by simp) _).row _
    · exact below_setRow (below_setRow ((HB5.out.alloc hs5 _).alloc (by simp; omega) _) hs5 _) (by omega) _
  case round =>
    obtain ⟨k, hk, hg, rfl, HO, HR, HN, H8, H9, HW, hwr⟩ := hrel
    by_cases hlt : k < 21
    · have hlt' : (k : Int) < 21 := by omega
      have HDF : Dk.drops (Dk.tb a) (Dk.tb b) (k + 1) = Dk.drops (Dk.tb a) (Dk.tb b) k ++ (Dk.dropAt (Dk.tb a) (Dk.tb b) k).toList := Dk.fm_next _ k
      have HRF : Dk.rests (Dk.tb a) (Dk.tb b) (k + 1) = Dk.rests (Dk.tb a) (Dk.tb b) k ++ (Dk.restAt (Dk.tb a) (Dk.tb b) k).toList := Dk.fm_next _ k
      obtain ⟨HN1, HN2⟩ := own_apart HO.out HR.out HN.out.1 HN.out.2 (kinds_apart _ _ k)
      have HN1' : Hid (u10.ownBlock = none ∨ u10.ownBlock ≠ u11.ownBlock) := HN1
      have HN2' : Hid (u11.ownBlock = none ∨ u11.ownBlock ≠ u10.ownBlock) := HN2
      have hdl : (Dk.drops (Dk.tb a) (Dk.tb b) k).length ≤ 21 := Nat.le_trans (Dk.fm_len _ k) hk
      have hrl : (Dk.rests (Dk.tb a) (Dk.tb b) k).length ≤ 21 := Nat.le_trans (Dk.fm_len _ k) hk
      have c8 := H8.out.cell k (by rw [Dk.tb_len]; exact hlt)
      have c9 := H9.out.cell k (by rw [Dk.tb_len]; exact hlt)
      unfold Dk.dropAt at HDF
      unfold Dk.restAt at HRF
      generalize (Dk.tb a).getD k 0 = x at c8 HDF HRF
      generalize (Dk.tb b).getD k 0 = y at c9 HDF HRF
      generalize Dk.drops (Dk.tb a) (Dk.tb b) k = D at HO HN hdl HDF
      generalize Dk.rests (Dk.tb a) (Dk.tb b) k = R at HR HN hrl HRF
      clear HN1 HN2
      by_cases hxy : x = y
      · rw [if_pos hxy] at HDF HRF
        have HDF' : Hid (Dk.drops (Dk.tb a) (Dk.tb b) (k + 1) = D) := HDF.trans (List.append_nil _)
        have HRF' : Hid (Dk.rests (Dk.tb a) (Dk.tb b) (k + 1) = R) := HRF.trans (List.append_nil _)
        have hxy' : (x == y) = true := by simpa using hxy
        clear hxy HDF HRF
        go_wp2_with fail
        go_quiet (fail)
        have hbq : Below wr.heap.size wr (wr.drewN nq) := below_drewN (Below.refl _ _) _
        have HOq : Hid ((wr.drewN nq).ownsRow (w5.heap.size + 2) 43 3 u10 D.length (flatO D)) := owns_below HO.out hbq
        have HRq : Hid ((wr.drewN nq).ownsRow (w5.heap.size + 2) 43 3 u11 R.length (flatO R)) := owns_below HR.out hbq
        have H8q : Hid (TabAt (wr.drewN nq) w5.heap.size 64 (Dk.tb a)) := H8.out.below hbq (by omega)
        have H9q : Hid (TabAt (wr.drewN nq) (w5.heap.size + 1) 64 (Dk.tb b)) := H9.out.below hbq (by omega)
        have HWq : Hid (Below w.heap.size w (wr.drewN nq)) := HW.out.trans (hbq.mono (by omega))
        have hwq : w5.heap.size + 2 ≤ (wr.drewN nq).heap.size := Nat.le_trans hwr hbq.size
        have c8q := (hbq.cell (p := ⟨w5.heap.size, k, none⟩) (by show w5.heap.size < _; omega)).trans c8
        have c9q := (hbq.cell (p := ⟨w5.heap.size + 1, k, none⟩) (by show w5.heap.size + 1 < _; omega)).trans c9
        clear HO HR H8 H9 HW hwr c8 c9 hbq
        generalize wr.drewN nq = wq at HOq HRq H8q H9q HWq hwq c8q c9q
        go_wp2
        go_roundg (21 - (k + 1))
        case measure => omega
        case rel => exact ⟨k + 1, by omega, by omega, by go_num, by rw [HDF'.out]; exact HOq, by rw [HRF'.out]; exact HRq, by rw [HDF'.out, HRF'.out]; exact HN, H8q, H9q, HWq, hwq⟩
      · rw [if_neg hxy] at HDF HRF
        have hxy' : (x == y) = false := by simpa using hxy
        clear hxy
        by_cases hy : y = 0
        · rw [if_pos hy] at HDF HRF
          have HDF' : Hid (Dk.drops (Dk.tb a) (Dk.tb b) (k + 1) = D ++ [(2, (k : Int), 0)]) := HDF
          have HRF' : Hid (Dk.rests (Dk.tb a) (Dk.tb b) (k + 1) = R) := HRF.trans (List.append_nil _)
          have hy' : (y == 0) = true := by simpa using hy
          clear hy HDF HRF
          go_wp2_with fail
          go_quiet (fail)
          have hbq : Below wr.heap.size wr (wr.drewN nq) := below_drewN (Below.refl _ _) _
          have HOq : Hid ((wr.drewN nq).ownsRow (w5.heap.size + 2) 43 3 u10 D.length (flatO D)) := owns_below HO.out hbq
          have HRq : Hid ((wr.drewN nq).ownsRow (w5.heap.size + 2) 43 3 u11 R.length (flatO R)) := owns_below HR.out hbq
          have H8q : Hid (TabAt (wr.drewN nq) w5.heap.size 64 (Dk.tb a)) := H8.out.below hbq (by omega)
          have H9q : Hid (TabAt (wr.drewN nq) (w5.heap.size + 1) 64 (Dk.tb b)) := H9.out.below hbq (by omega)
          have HWq : Hid (Below w.heap.size w (wr.drewN nq)) := HW.out.trans (hbq.mono (by omega))
          have hwq : w5.heap.size + 2 ≤ (wr.drewN nq).heap.size := Nat.le_trans hwr hbq.size
          have c8q := (hbq.cell (p := ⟨w5.heap.size, k, none⟩) (by show w5.heap.size < _; omega)).trans c8
          have c9q := (hbq.cell (p := ⟨w5.heap.size + 1, k, none⟩) (by show w5.heap.size + 1 < _; omega)).trans c9
          clear HO HR H8 H9 HW hwr c8 c9 hbq
          generalize wr.drewN nq = wq at HOq HRq H8q H9q HWq hwq c8q c9q
          go_wp2_with (at_builtin; refine wpList_append_own _ rfl _ _ 33 rfl (w5.heap.size + 2) 43 i0 (.agg #[.int .i64 0, .int .i64 0, .int .i64 0]) 3 24 Try.underlying33 hi hz0 hz1 hz2 rfl (by decide) _ D.length (flatO D) rfl (HOq.out.alloc _) ⟨wq.heap.size, 0, none⟩ 1 1 [.int .i64 2, .int .i64 k, .int .i64 0] rfl rfl ?c1 ?c2 ?c3 ?c4 ?c5 ?_)
          case c1 =>
            intro j u hj
            rcases j with _ | _ | _ | j
            · simp at hj; subst hj; simp [go_sem, Addr.add]
            · simp at hj; subst hj; simp [go_sem, Addr.add]
            · simp at hj; subst hj; simp [go_sem, Addr.add]
            · simp at hj
          case c2 =>
            intro u hu
            simp only [List.mem_cons, List.not_mem_nil, or_false] at hu
            rcases hu with rfl | rfl | rfl <;> rfl
          case c3 => unfold maxLen; omega
          case c4 => omega
          case c5 => simp only [World.size_alloc]; omega
          intro v' w6 hown hgrow hnil
          have HO3 : Hid (w6.ownsRow (w5.heap.size + 2) 43 3 v' (D ++ [(2, (k : Int), 0)]).length (flatO (D ++ [(2, (k : Int), 0)]))) := by
            rw [flatO_append, List.length_append]; exact hown
          have HO4 := (HRq.out.alloc (.cells #[.int .i64 2, .int .i64 (k : Int), .int .i64 0] 43)).kept hgrow HN2'.out
          have hb6 : Below (w5.heap.size + 2) wq w6 := ((Below.refl _ wq).alloc hwq _).grown hgrow (by simp only [World.size_alloc]; omega) (fun q hq => (HOq.out.lt q hq).1)
          have HO4' : Hid (w6.ownsRow (w5.heap.size + 2) 43 3 u11 R.length (flatO R)) := HO4
          clear hown hgrow HO4 HOq HRq hnil
          go_wp2
          go_roundg (21 - (k + 1))
          case measure => omega
          case rel => exact ⟨k + 1, by omega, by omega, by go_num, by rw [HDF'.out]; exact HO3, by rw [HRF'.out]; exact HO4', ⟨fun e => absurd (HDF'.out.symm.trans e) (by simp), fun e => HN.out.2 (HRF'.out.symm.trans e)⟩, H8q.out.below hb6 (by omega), H9q.out.below hb6 (by omega), HWq.out.trans (hb6.mono (by omega)), Nat.le_trans hwq hb6.size⟩
        · rw [if_neg hy] at HDF HRF
          have hy' : (y == 0) = false := by simpa using hy
          have HDF' : Hid (Dk.drops (Dk.tb a) (Dk.tb b) (k + 1) = D) := HDF.trans (List.append_nil _)
          clear hy HDF
          by_cases hx : x = 0
          · rw [if_pos hx] at HRF
            have HRF' : Hid (Dk.rests (Dk.tb a) (Dk.tb b) (k + 1) = R ++ [(1, (k : Int), y)]) := HRF
            have hx' : (x == 0) = true := by simpa using hx
            clear hx HRF
            go_wp2_with fail
            go_quiet (fail)
            have hbq : Below wr.heap.size wr (wr.drewN nq) := below_drewN (Below.refl _ _) _
            have HOq : Hid ((wr.drewN nq).ownsRow (w5.heap.size + 2) 43 3 u10 D.length (flatO D)) := owns_below HO.out hbq
            have HRq : Hid ((wr.drewN nq).ownsRow (w5.heap.size + 2) 43 3 u11 R.length (flatO R)) := owns_below HR.out hbq
            have H8q : Hid (TabAt (wr.drewN nq) w5.heap.size 64 (Dk.tb a)) := H8.out.below hbq (by omega)
            have H9q : Hid (TabAt (wr.drewN nq) (w5.heap.size + 1) 64 (Dk.tb b)) := H9.out.below hbq (by omega)
            have HWq : Hid (Below w.heap.size w (wr.drewN nq)) := HW.out.trans (hbq.mono (by omega))
            have hwq : w5.heap.size + 2 ≤ (wr.drewN nq).heap.size := Nat.le_trans hwr hbq.size
            have c8q := (hbq.cell (p := ⟨w5.heap.size, k, none⟩) (by show w5.heap.size < _; omega)).trans c8
            have c9q := (hbq.cell (p := ⟨w5.heap.size + 1, k, none⟩) (by show w5.heap.size + 1 < _; omega)).trans c9
            clear HO HR H8 H9 HW hwr c8 c9 hbq
            generalize wr.drewN nq = wq at HOq HRq H8q H9q HWq hwq c8q c9q
            go_wp2_with (at_builtin; refine wpList_append_own _ rfl _ _ 33 rfl (w5.heap.size + 2) 43 i0 (.agg #[.int .i64 0, .int .i64 0, .int .i64 0]) 3 24 Try.underlying33 hi hz0 hz1 hz2 rfl (by decide) _ R.length (flatO R) rfl (HRq.out.alloc _) ⟨wq.heap.size, 0, none⟩ 1 1 [.int .i64 1, .int .i64 k, .int .i64 y] rfl rfl ?c1 ?c2 ?c3 ?c4 ?c5 ?_)
            case c1 =>
              intro j u hj
              rcases j with _ | _ | _ | j
              · simp at hj; subst hj; simp [go_sem, Addr.add]
              · simp at hj; subst hj; simp [go_sem, Addr.add]
              · simp at hj; subst hj; simp [go_sem, Addr.add]
              · simp at hj
            case c2 =>
              intro u hu
              simp only [List.mem_cons, List.not_mem_nil, or_false] at hu
              rcases hu with rfl | rfl | rfl <;> rfl
            case c3 => unfold maxLen; omega
            case c4 => omega
            case c5 => simp only [World.size_alloc]; omega
            intro v' w6 hown hgrow hnil
            have HO3 : Hid (w6.ownsRow (w5.heap.size + 2) 43 3 v' (R ++ [(1, (k : Int), y)]).length (flatO (R ++ [(1, (k : Int), y)]))) := by
              rw [flatO_append, List.length_append]; exact hown
            have HO4 := (HOq.out.alloc (.cells #[.int .i64 1, .int .i64 (k : Int), .int .i64 y] 43)).kept hgrow HN1'.out
            have hb6 : Below (w5.heap.size + 2) wq w6 := ((Below.refl _ wq).alloc hwq _).grown hgrow (by simp only [World.size_alloc]; omega) (fun q hq => (HRq.out.lt q hq).1)
            have HO4' : Hid (w6.ownsRow (w5.heap.size + 2) 43 3 u10 D.length (flatO D)) := HO4
            clear hown hgrow HO4 HOq HRq hnil
            go_wp2
            go_roundg (21 - (k + 1))
            case measure => omega
            case rel => exact ⟨k + 1, by omega, by omega, by go_num, by rw [HDF'.out]; exact HO4', by rw [HRF'.out]; exact HO3, ⟨fun e => HN.out.1 (HDF'.out.symm.trans e), fun e => absurd (HRF'.out.symm.trans e) (by simp)⟩, H8q.out.below hb6 (by omega), H9q.out.below hb6 (by omega), HWq.out.trans (hb6.mono (by omega)), Nat.le_trans hwq hb6.size⟩
          · rw [if_neg hx] at HRF
            have HRF' : Hid (Dk.rests (Dk.tb a) (Dk.tb b) (k + 1) = R ++ [(3, (k : Int), y)]) := HRF
            have hx' : (x == 0) = false := by simpa using hx
            clear hx HRF
            go_wp2_with fail
            go_quiet (fail)
            have hbq : Below wr.heap.size wr (wr.drewN nq) := below_drewN (Below.refl _ _) _
            have HOq : Hid ((wr.drewN nq).ownsRow (w5.heap.size + 2) 43 3 u10 D.length (flatO D)) := owns_below HO.out hbq
            have HRq : Hid ((wr.drewN nq).ownsRow (w5.heap.size + 2) 43 3 u11 R.length (flatO R)) := owns_below HR.out hbq
            have H8q : Hid (TabAt (wr.drewN nq) w5.heap.size 64 (Dk.tb a)) := H8.out.below hbq (by omega)
            have H9q : Hid (TabAt (wr.drewN nq) (w5.heap.size + 1) 64 (Dk.tb b)) := H9.out.below hbq (by omega)
            have HWq : Hid (Below w.heap.size w (wr.drewN nq)) := HW.out.trans (hbq.mono (by omega))
            have hwq : w5.heap.size + 2 ≤ (wr.drewN nq).heap.size := Nat.le_trans hwr hbq.size
            have c8q := (hbq.cell (p := ⟨w5.heap.size, k, none⟩) (by show w5.heap.size < _; omega)).trans c8
            have c9q := (hbq.cell (p := ⟨w5.heap.size + 1, k, none⟩) (by show w5.heap.size + 1 < _; omega)).trans c9
            clear HO HR H8 H9 HW hwr c8 c9 hbq
            generalize wr.drewN nq = wq at HOq HRq H8q H9q HWq hwq c8q c9q
            go_wp2_with (at_builtin; refine wpList_append_own _ rfl _ _ 33 rfl (w5.heap.size + 2) 43 i0 (.agg #[.int .i64 0, .int .i64 0, .int .i64 0]) 3 24 Try.underlying33 hi hz0 hz1 hz2 rfl (by decide) _ R.length (flatO R) rfl (HRq.out.alloc _) ⟨wq.heap.size, 0, none⟩ 1 1 [.int .i64 3, .int .i64 k, .int .i64 y] rfl rfl ?c1 ?c2 ?c3 ?c4 ?c5 ?_)
            case c1 =>
              intro j u hj
              rcases j with _ | _ | _ | j
              · simp at hj; subst hj; simp [go_sem, Addr.add]
              · simp at hj; subst hj; simp [go_sem, Addr.add]
              · simp at hj; subst hj; simp [go_sem, Addr.add]
              · simp at hj
            case c2 =>
              intro u hu
              simp only [List.mem_cons, List.not_mem_nil, or_false] at hu
              rcases hu with rfl | rfl | rfl <;> rfl
            case c3 => unfold maxLen; omega
            case c4 => omega
            case c5 => simp only [World.size_alloc]; omega
            intro v' w6 hown hgrow hnil
            have HO3 : Hid (w6.ownsRow (w5.heap.size + 2) 43 3 v' (R ++ [(3, (k : Int), y)]).length (flatO (R ++ [(3, (k : Int), y)]))) := by
              rw [flatO_append, List.length_append]; exact hown
            have HO4 := (HOq.out.alloc (.cells #[.int .i64 3, .int .i64 (k : Int), .int .i64 y] 43)).kept hgrow HN1'.out
            have hb6 : Below (w5.heap.size + 2) wq w6 := ((Below.refl _ wq).alloc hwq _).grown hgrow (by simp only [World.size_alloc]; omega) (fun q hq => (HRq.out.lt q hq).1)
            have HO4' : Hid (w6.ownsRow (w5.heap.size + 2) 43 3 u10 D.length (flatO D)) := HO4
            clear hown hgrow HO4 HOq HRq hnil
            go_wp2
            go_roundg (21 - (k + 1))
            case measure => omega
            case rel => exact ⟨k + 1, by omega, by omega, by go_num, by rw [HDF'.out]; exact HO4', by rw [HRF'.out]; exact HO3, ⟨fun e => HN.out.1 (HDF'.out.symm.trans e), fun e => absurd (HRF'.out.symm.trans e) (by simp)⟩, H8q.out.below hb6 (by omega), H9q.out.below hb6 (by omega), HWq.out.trans (hb6.mono (by omega)), Nat.le_trans hwq hb6.size⟩
    · have hk' : k = 21 := by omega
      subst hk'
      clear hk hlt
      have hdl : (Dk.drops (Dk.tb a) (Dk.tb b) 21).length ≤ 21 := Dk.fm_len _ 21
      have hrl : (Dk.rests (Dk.tb a) (Dk.tb b) 21).length ≤ 21 := Dk.fm_len _ 21
      have HST : Hid (Dk.steps (Dk.tb a) (Dk.tb b) = Dk.drops (Dk.tb a) (Dk.tb b) 21 ++ Dk.rests (Dk.tb a) (Dk.tb b) 21) := rfl
      generalize Dk.drops (Dk.tb a) (Dk.tb b) 21 = D at HO HN hdl HST
      generalize Dk.rests (Dk.tb a) (Dk.tb b) 21 = R at HR HN hrl HST
      by_cases hR : R = []
      · have hu := HN.out.2 hR
        subst hu hR
        have HST' : Hid (Dk.steps (Dk.tb a) (Dk.tb b) = D) := HST.out.trans (List.append_nil _)
        have HPA : Hid (OpsAt wr u10 D) := ops_of_owns HO.out (by omega)
        clear HN HR HST
        go_wp2_with (at_builtin; refine wpList_append_own_none rfl _ _ 33 rfl (w5.heap.size + 2) 43 i0 3 Try.underlying33 hi u10 _ _ rfl HO.out rfl ?_)
        go_ret2
        exact ⟨⟨_, rfl, by rw [HST'.out]; exact HPA.out⟩, HW.out⟩
      · have hu : ∃ g cap, u11 = .slice (some ⟨g, 0, none⟩) R.length cap := by
          rcases HR.out.2 with ⟨_, h2⟩ | ⟨g, cap, cur, h1, _⟩
          · exact absurd (List.length_eq_zero_iff.1 h2) hR
          · exact ⟨g, cap, h1⟩
        obtain ⟨g, cap, rfl⟩ := hu
        have HNW : Hid (∀ j u, (flatO R)[j]? = some u → wr.cell? ((⟨g, 0, none⟩ : Addr).add j) = some u) := fun j u hj => by
          have hjl : j < R.length * 3 := by
            have := (List.getElem?_eq_some_iff.1 hj).1
            rwa [flatO_len] at this
          have hadd : (⟨g, 0, none⟩ : Addr).add j = ⟨g, j, none⟩ := by unfold Addr.add; split <;> simp_all
          rw [hadd]
          exact (HR.out.cellAt j hjl).trans hj
        have HON : Hid (∀ u ∈ flatO R, u.oneCell' = true) := by
          intro u hu
          clear HNW HR HN HST hrl hR
          induction R with
          | nil => cases hu
          | cons p r ih =>
            simp only [flatO, List.mem_cons] at hu
            rcases hu with rfl | rfl | rfl | hu
            · rfl
            · rfl
            · rfl
            · exact ih hu
        clear HN hR
        go_wp2_with (at_builtin; refine wpList_append_own _ rfl _ _ 33 rfl (w5.heap.size + 2) 43 i0 (.agg #[.int .i64 0, .int .i64 0, .int .i64 0]) 3 24 Try.underlying33 hi hz0 hz1 hz2 rfl (by decide) _ D.length (flatO D) rfl HO.out ⟨g, 0, none⟩ R.length cap (flatO R) rfl (flatO_len R) HNW.out HON.out ?c3 ?c4 hwr ?_)
        case c3 => unfold maxLen; omega
        case c4 => omega
        intro v' w6 hown hgrow _
        have HO3 : Hid (w6.ownsRow (w5.heap.size + 2) 43 3 v' (D ++ R).length (flatO (D ++ R))) := by
          rw [flatO_append, List.length_append]; exact hown
        have HPA : Hid (OpsAt w6 v' (D ++ R)) := ops_of_owns HO3.out (by rw [List.length_append]; omega)
        have hb6 : Below (w5.heap.size + 2) wr w6 := (Below.refl _ wr).grown hgrow hwr (fun q hq => (HO.out.lt q hq).1)
        have HB6 : Hid (Below w.heap.size w w6) := HW.out.trans (hb6.mono (by omega))
        clear hown hgrow HO3 hb6
        go_wp2
        go_ret2
        exact ⟨⟨_, rfl, by rw [HST.out]; exact HPA.out⟩, HB6.out⟩
theorem stepsR_any (v u : Value) (a b : List (Int × Int)) (w : World) (hP : PinsAt w v a) (hQ : PinsAt w u b) :
    Calls Try.prog 12 #[v, u] w fun e w' => (∃ x, e = .returned (.tuple #[x, .int .i64 (Dk.diffErr a b)]) ∧ OpsAt w' x (Dk.diffed a b)) ∧ Below w.heap.size w w' := by
  by_cases ha : Lk.chk a = 0
  · have e : Dk.diffErr a b = Lk.chk b := by rw [Dk.diffErr, if_pos ha]
    by_cases hb : Lk.chk b = 0
    · rw [Dk.diffed, if_pos (e.trans hb), e.trans hb]
      exact steps_good v u a b w hP hQ ha hb
    · refine (steps_bad2 v u a b w hP hQ ha hb).mono ?_
      rintro e' w' ⟨rfl, hb'⟩
      exact ⟨⟨_, by rw [e], by rw [Dk.diffed, if_neg (by rw [e]; exact hb)]; exact ops_none _⟩, hb'⟩
  · have e : Dk.diffErr a b = Lk.chk a := by rw [Dk.diffErr, if_neg ha]
    refine (steps_bad1 v u a w hP ha).mono ?_
    rintro e' w' ⟨rfl, hb'⟩
    exact ⟨⟨_, by rw [e], by rw [Dk.diffed, if_neg (by rw [e]; exact ha)]; exact ops_none _⟩, hb'⟩
end Go.Proofs.Ytbnaaookeagjgaa
