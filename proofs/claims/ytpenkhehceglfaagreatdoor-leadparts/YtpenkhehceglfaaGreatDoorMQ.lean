import Derived.Test.YtpenkhehceglfaaGreatDoorLVI
import Derived.Laws.StructEq
import Derived.BigQuiet
import Derived.Deep.QuietTactic
/- The contract of slices.EqualFunc at releases, with any function that answers of two releases what a plain one does. -/
namespace Go.Proofs.YtpenkhehceglfaaGreatDoor
open Go.RowKit
/-- two lists are alike, element by element -/
def all2r (S : (Int × List (Int × Int)) → (Int × List (Int × Int)) → Bool) : List (Int × List (Int × Int)) → List (Int × List (Int × Int)) → Bool
  | [], [] => true
  | a :: r, b :: t => S a b && all2r S r t
  | [], _ :: _ => false
  | _ :: _, [] => false
theorem all2r_len (S : (Int × List (Int × Int)) → (Int × List (Int × Int)) → Bool) : ∀ (a b : List (Int × List (Int × Int))), a.length ≠ b.length → all2r S a b = false
  | [], [], h => absurd rfl h
  | [], _ :: _, _ => rfl
  | _ :: _, [], _ => rfl
  | x :: r, y :: t, h => by rw [all2r, all2r_len S r t (fun e => h (by simp [e])), Bool.and_false]
theorem all2r_rels : ∀ a b : List (Int × List (Int × Int)), all2r (fun x y => Lk.alike x.1 x.2 y.1 y.2) a b = Ld.sameRels a b
  | [], [] => rfl
  | [], _ :: _ => rfl
  | _ :: _, [] => rfl
  | x :: r, y :: t => by rw [all2r, Ld.sameRels, all2r_rels r t]
theorem drop_mapL {ps : List ((Int × List (Int × Int)) × Value)} {k : Nat} {r : Int × List (Int × Int)} {v : Value} (h : ps[k]? = some (r, v)) : (ps.map Prod.fst).drop k = r :: (ps.map Prod.fst).drop (k + 1) := by
  have hlt : k < ps.length := (List.getElem?_eq_some_iff.1 h).1
  rw [List.drop_eq_getElem_cons (by rw [List.length_map]; exact hlt)]
  congr 1
  rw [List.getElem_map]
  have := (List.getElem?_eq_some_iff.1 h).2
  rw [this]
set_option maxHeartbeats 400000 in
theorem equalFL_len (a1 a2 : Option Addr) (n c m d : Nat) (f : Value) (w : World) (h : n ≠ m) :
    Calls Tryz.prog 40 #[.slice a1 n c, .slice a2 m d, f] w fun e w' => e = .returned (.bool false) ∧ Below w.heap.size w w' := by
  have h' : ((n : Int) != (m : Int)) = true := by rw [bne_iff_ne]; omega
  go_enter Tryz.func40, Tryz.ntmps40
  go_wp2
  go_ret
  exact ⟨rfl, Below.refl _ _⟩
set_option maxHeartbeats 4000000 in
set_option maxRecDepth 100000 in
theorem equalFL_full (f : Nat) (eg : ∀ args w, (callFunc f args).run Tryz.prog w = .ok (.enter f args) w) (S : (Int × List (Int × Int)) → (Int × List (Int × Int)) → Bool)
    (hf : ∀ r q v u w, PinsAt w v r.2 → PinsAt w u q.2 → Calls Tryz.prog f #[relV r.1 v, relV q.1 u] w fun e w' => e = .returned (.bool (S r q)) ∧ Below w.heap.size w w')
    (a1 a2 : Option Addr) (c d : Nat) (ps qs : List ((Int × List (Int × Int)) × Value)) (w : World) (hA : RelsAt w (.slice a1 ps.length c) ps) (hB : RelsAt w (.slice a2 ps.length d) qs) :
    Calls Tryz.prog 40 #[.slice a1 ps.length c, .slice a2 ps.length d, .func (.func f) #[] #[]] w fun e w' => e = .returned (.bool (all2r S (ps.map Prod.fst) (qs.map Prod.fst))) ∧ Below w.heap.size w w' := by
  have HA : Hid (RelsAt w (.slice a1 ps.length c) ps) := hA
  have HB : Hid (RelsAt w (.slice a2 ps.length d) qs) := hB
  have hN : ps.length = qs.length := by
    obtain ⟨_, p', c', e, _⟩ := hB
    simp only [Value.slice.injEq] at e
    exact e.2.1
  have hpl := hA.1
  have HN : Hid (ps.length = qs.length) := hN
  have HF : Hid (∀ r q v u w, PinsAt w v r.2 → PinsAt w u q.2 → Calls Tryz.prog f #[relV r.1 v, relV q.1 u] w fun e w' => e = .returned (.bool (S r q)) ∧ Below w.heap.size w w') := hf
  have HQ : Hid (all2r S (ps.map Prod.fst) (qs.map Prod.fst) = all2r S ((ps.map Prod.fst).drop 0) ((qs.map Prod.fst).drop 0)) := rfl
  clear hA hB hN hf
  generalize all2r S (ps.map Prod.fst) (qs.map Prod.fst) = R at HQ ⊢
  go_enter Tryz.func40, Tryz.ntmps40
  go_wp2
  go_loopg [17] ps.length (fun g s17 wr => ∃ k : Nat, k ≤ ps.length ∧ ps.length - k ≤ g ∧ s17 = .int .i64 k ∧ Hid (R = all2r S ((ps.map Prod.fst).drop k) ((qs.map Prod.fst).drop k)) ∧ Hid (Below w.heap.size w wr))
  case atStart => exact ⟨0, Nat.zero_le _, by omega, rfl, HQ, Below.refl _ _⟩
  case round =>
    obtain ⟨k, hk, hg, rfl, HQk, HBr⟩ := hrel
    by_cases hlt : k < ps.length
    rotate_left
    · have hk' : k = ps.length := by omega
      have HR : Hid (R = true) := by
        show R = true
        rw [HQk.out, List.drop_of_length_le (by rw [List.length_map]; omega), List.drop_of_length_le (by rw [List.length_map, ← HN.out]; omega)]
        rfl
      subst hk'
      clear HQk hlt hk
      go_wp2
      go_ret
      exact ⟨by rw [HR.out]; rfl, HBr.out⟩
    obtain ⟨⟨r, v⟩, hr⟩ : ∃ x, ps[k]? = some x := ⟨_, List.getElem?_eq_getElem hlt⟩
    obtain ⟨⟨q, u⟩, hq⟩ : ∃ x, qs[k]? = some x := ⟨_, List.getElem?_eq_getElem (by rw [← HN.out]; exact hlt)⟩
    obtain ⟨b1, o1, rfl, hb1, x0, x1⟩ := rels_at (HA.out.below HBr.out) hr
    obtain ⟨b2, o2, rfl, hb2, y0, y1⟩ := rels_at (HB.out.below HBr.out) hq
    have hp := rels_pins (HA.out.below HBr.out) (r, v) (List.mem_of_getElem? hr)
    have hu := rels_pins (HB.out.below HBr.out) (q, u) (List.mem_of_getElem? hq)
    simp only at hp hu
    have HR : Hid (R = (S r q && all2r S ((ps.map Prod.fst).drop (k + 1)) ((qs.map Prod.fst).drop (k + 1)))) := by
      show R = _
      rw [HQk.out, drop_mapL hr, drop_mapL hq]
      rfl
    obtain ⟨va, vc, rfl⟩ := pins_slice hp
    obtain ⟨ua, uc, rfl⟩ := pins_slice hu
    have HP : Hid (PinsAt wr (.slice va r.2.length vc) r.2) := hp
    have HU : Hid (PinsAt wr (.slice ua q.2.length uc) q.2) := hu
    obtain ⟨r1, r7⟩ := r
    obtain ⟨q1, q7⟩ := q
    have HFk := HF.out (r1, r7) (q1, q7) (.slice va r7.length vc) (.slice ua q7.length uc)
    generalize S (r1, r7) (q1, q7) = sb at HR HFk
    unfold relV at HFk
    simp only at HFk HP HU x0 x1 y0 y1
    have HFk' : Hid (∀ w, PinsAt w (.slice va r7.length vc) r7 → PinsAt w (.slice ua q7.length uc) q7 → Calls Tryz.prog f #[.agg #[.int .i64 r1, .slice va r7.length vc], .agg #[.int .i64 q1, .slice ua q7.length uc]] w fun e w' => e = .returned (.bool sb) ∧ Below w.heap.size w w') := HFk
    have HBB : Hid (∀ o o', Below wr.heap.size wr ((wr.alloc o).alloc o')) := fun o o' => ((Below.refl _ wr).alloc (Nat.le_refl _) o).alloc (by simp) o'
    clear hp hu HFk HF HQk hr hq HA HB HN
    go_wp2_with fail
    refine (HFk'.out _ (HP.out.below (HBB.out _ _)) (HU.out.below (HBB.out _ _))).mono ?_
    rintro e w1 ⟨rfl, hw1⟩
    have HB1 : Hid (Below w.heap.size w w1) := HBr.out.trans (((HBB.out _ _).trans (hw1.mono (HBB.out _ _).size)).mono HBr.out.size)
    clear hw1 HBB HFk' HP HU x0 x1 y0 y1
    cases sb
    · have HR' : Hid (R = false) := by show R = false; rw [HR.out, Bool.false_and]
      go_wp2
      go_ret
      exact ⟨by rw [HR'.out]; rfl, HB1.out⟩
    · have HR' : Hid (R = all2r S ((ps.map Prod.fst).drop (k + 1)) ((qs.map Prod.fst).drop (k + 1))) := by show R = _; rw [HR.out, Bool.true_and]
      go_wp2
      go_roundg (ps.length - (k + 1))
      case measure => omega
      case rel => exact ⟨k + 1, by omega, by omega, by go_num, HR', HB1⟩
theorem equalFL_any (f : Nat) (eg : ∀ args w, (callFunc f args).run Tryz.prog w = .ok (.enter f args) w) (S : (Int × List (Int × Int)) → (Int × List (Int × Int)) → Bool)
    (hf : ∀ r q v u w, PinsAt w v r.2 → PinsAt w u q.2 → Calls Tryz.prog f #[relV r.1 v, relV q.1 u] w fun e w' => e = .returned (.bool (S r q)) ∧ Below w.heap.size w w')
    (va vb : Value) (ps qs : List ((Int × List (Int × Int)) × Value)) (w : World) (hA : RelsAt w va ps) (hB : RelsAt w vb qs) :
    Calls Tryz.prog 40 #[va, vb, .func (.func f) #[] #[]] w fun e w' => e = .returned (.bool (all2r S (ps.map Prod.fst) (qs.map Prod.fst))) ∧ Below w.heap.size w w' := by
  obtain ⟨a1, c, rfl⟩ := rels_slice hA
  obtain ⟨a2, d, rfl⟩ := rels_slice hB
  by_cases h : ps.length = qs.length
  · rw [← h] at hB ⊢
    exact equalFL_full f eg S hf a1 a2 c d ps qs w hA hB
  · rw [all2r_len S _ _ (by rw [List.length_map, List.length_map]; exact h)]
    exact equalFL_len a1 a2 _ c _ d _ w h
end Go.Proofs.YtpenkhehceglfaaGreatDoor
/- The contract of slices.Equal at what is known of agents. -/
namespace Go.Proofs.YtpenkhehceglfaaGreatDoor
open Go.RowKit
set_option maxHeartbeats 400000 in
theorem equalK_len (a1 a2 : Option Addr) (n c m d : Nat) (w : World) (h : n ≠ m) :
    Calls Tryz.prog 41 #[.slice a1 n c, .slice a2 m d] w fun e w' => e = .returned (.bool false) ∧ Below w.heap.size w w' := by
  have h' : ((n : Int) != (m : Int)) = true := by rw [bne_iff_ne]; omega
  go_enter Tryz.func41, Tryz.ntmps41
  go_wp2
  go_ret
  exact ⟨rfl, Below.refl _ _⟩
theorem neq_known (x y u v : Int) (z t : Bool) (w : World) : (binOp .neq 98 (.agg #[.int .i64 x, .int .i64 y, .bool z]) (.agg #[.int .i64 u, .int .i64 v, .bool t])).run Tryz.prog w = .ok (.bool (!(x == u && y == v && z == t))) w := by
  have u3 := Tryz.underlying3
  have u4 := Tryz.underlying4
  have hS : Tryz.prog.underlying 98 = some (.struct (Tryz.prog.fieldsOf 98)) := by kernel_rfl
  have hp : Tryz.prog.stoodInHeld 98 = false := by kernel_rfl
  rw [run_neq_struct, show (10000 : Nat) = 9999 + 1 from rfl, run_equalIn_agg w 9999 98 _ _ hS hp]
  simp only [Program.fieldsOf, Tryz.underlying98]
  go_simp
  by_cases h1 : x = u <;> by_cases h2 : y = v <;> cases z <;> cases t <;> simp [h1, h2]
theorem known_ext {l m : List Ld.Known} (hn : l.length = m.length) (h : ∀ j, j < l.length → l.getD j ⟨0, 0, false⟩ = m.getD j ⟨0, 0, false⟩) : decide (l = m) = true := by
  refine decide_eq_true (List.ext_getElem hn fun j h1 h2 => ?_)
  have := h j h1
  rwa [List.getD_eq_getElem?_getD, List.getD_eq_getElem?_getD, List.getElem?_eq_getElem h1, List.getElem?_eq_getElem h2] at this
theorem known_not {l m : List Ld.Known} {k : Nat} (h : l.getD k ⟨0, 0, false⟩ ≠ m.getD k ⟨0, 0, false⟩) : decide (l = m) = false := decide_eq_false (fun e => h (by rw [e]))
set_option maxHeartbeats 4000000 in
theorem equalK_full (a1 a2 : Option Addr) (c d : Nat) (l m : List Ld.Known) (w : World) (hn : l.length = m.length) (hP : KnowsAt w (.slice a1 l.length c) l) (hQ : KnowsAt w (.slice a2 l.length d) m) :
    Calls Tryz.prog 41 #[.slice a1 l.length c, .slice a2 l.length d] w fun e w' => e = .returned (.bool (decide (l = m))) ∧ Below w.heap.size w w' := by
  have HN : Hid (l.length = m.length) := hn
  have hl := hP.1
  have HP : Hid (KnowsAt w (.slice a1 l.length c) l) := hP
  have HQ : Hid (KnowsAt w (.slice a2 l.length d) m) := hQ
  clear hn hP hQ
  go_enter Tryz.func41, Tryz.ntmps41
  go_wp2
  go_loopg [13] l.length (fun g s13 wr => ∃ k q : Nat, k ≤ l.length ∧ l.length - k ≤ g ∧ s13 = .int .i64 k ∧ wr = w.drewN q ∧ Hid (∀ j, j < k → l.getD j ⟨0, 0, false⟩ = m.getD j ⟨0, 0, false⟩))
  case atStart => exact ⟨0, 0, Nat.zero_le _, by omega, rfl, rfl, fun j hj => absurd hj (Nat.not_lt_zero _)⟩
  case round =>
    obtain ⟨k, q, hk, hg, rfl, rfl, A⟩ := hrel
    by_cases hlt : k < l.length
    · obtain ⟨b1, o1, rfl, hb1, g1, g2, g3⟩ := knows_at HP.out hlt
      obtain ⟨b2, o2, rfl, hb2, g4, g5, g6⟩ := knows_at HQ.out (show k < m.length from HN.out ▸ hlt)
      have HM : Hid (l.getD k ⟨0, 0, false⟩ = m.getD k ⟨0, 0, false⟩ → ∀ j, j < k + 1 → l.getD j ⟨0, 0, false⟩ = m.getD j ⟨0, 0, false⟩) := fun e j hj => by
        by_cases h : j = k
        · subst h; exact e
        · exact A.out j (by omega)
      have HF : Hid (l.getD k ⟨0, 0, false⟩ ≠ m.getD k ⟨0, 0, false⟩ → decide (l = m) = false) := fun e => known_not e
      generalize l.getD k ⟨0, 0, false⟩ = p at g1 g2 g3 HM HF
      generalize m.getD k ⟨0, 0, false⟩ = p' at g4 g5 g6 HM HF
      obtain ⟨x, y, z⟩ := p
      obtain ⟨u, v, t⟩ := p'
      simp only at g1 g2 g3 g4 g5 g6
      clear A HP HQ
      have hne := fun w => neq_known x y u v z t w
      by_cases he : x = u ∧ y = v ∧ z = t
      · have hb : (!(x == u && y == v && z == t)) = false := by simp [he]
        have HE : Hid (∀ j, j < k + 1 → l.getD j ⟨0, 0, false⟩ = m.getD j ⟨0, 0, false⟩) := HM.out (by rw [he.1, he.2.1, he.2.2])
        rw [hb] at hne
        clear HM HF he hb
        go_wp2_with fail
        go_quiet (fail)
        go_wp2
        go_roundg (l.length - (k + 1))
        case measure => omega
        case rel => exact ⟨k + 1, q + nq, by omega, by omega, by go_num, by simp, HE⟩
      · have hb : (!(x == u && y == v && z == t)) = true := by
          cases h : (x == u && y == v && z == t)
          · rfl
          · exact absurd (by simpa [and_assoc] using h) he
        have HE : Hid (decide (l = m) = false) := HF.out (fun e => he (by simpa using e))
        rw [hb] at hne
        clear HM HF he hb
        go_wp2_with fail
        go_quiet (fail)
        go_wp2
        go_ret
        exact ⟨by rw [HE.out]; rfl, below_drewN (below_drewN (Below.refl _ _) _) _⟩
    · have hk' : k = l.length := by omega
      have HE : Hid (decide (l = m) = true) := known_ext HN.out (by subst hk'; exact A.out)
      subst hk'
      clear hk hlt HP HQ A
      go_wp2
      go_ret
      exact ⟨by rw [HE.out]; rfl, below_drewN (Below.refl _ _) _⟩
theorem equalK_any (v u : Value) (l m : List Ld.Known) (w : World) (hP : KnowsAt w v l) (hQ : KnowsAt w u m) :
    Calls Tryz.prog 41 #[v, u] w fun e w' => e = .returned (.bool (decide (l = m))) ∧ Below w.heap.size w w' := by
  obtain ⟨a1, c, rfl⟩ := knows_slice hP
  obtain ⟨a2, d, rfl⟩ := knows_slice hQ
  by_cases h : l.length = m.length
  · rw [← h] at hQ ⊢
    exact equalK_full a1 a2 c d l m w h hP hQ
  · rw [decide_eq_false (fun e => h (by rw [e]))]
    exact equalK_len a1 a2 _ c _ d w h
end Go.Proofs.YtpenkhehceglfaaGreatDoor
/- The contract of lead.Same. -/
namespace Go.Proofs.YtpenkhehceglfaaGreatDoor
open Go.RowKit
set_option maxHeartbeats 8000000 in
set_option maxRecDepth 100000 in
theorem ldSame_any (la lb : Ld.Leader) (Y Z Y2 Z2 : Value) (w : World) (hA : LdAt w la Y Z) (hB : LdAt w lb Y2 Z2) :
    Calls Tryz.prog 16 #[leV la Y Z, leV lb Y2 Z2] w fun e w' => e = .returned (.bool (Ld.sameLeader la lb)) ∧ Below w.heap.size w w' := by
  have HE : Hid (∀ w', Below w.heap.size w w' → Calls Tryz.prog 40 #[Y, Y2, .func (.func 29) #[] #[]] w' fun e w'' => e = .returned (.bool (Ld.sameRels la.rels lb.rels)) ∧ Below w'.heap.size w' w'') := fun w' hb => by
    obtain ⟨ps, h1, h2⟩ := hA.1.below hb
    obtain ⟨qs, h3, h4⟩ := hB.1.below hb
    have := equalFL_any 29 (fun _ _ => by simp [go_sem]) (fun x y => Lk.alike x.1 x.2 y.1 y.2) (fun r q v u w h h' => alike_any r.1 q.1 v u r.2 q.2 w h h') Y Y2 ps qs w' h1 h3
    rwa [all2r_rels, h2, h4] at this
  have HK : Hid (∀ w', Below w.heap.size w w' → Calls Tryz.prog 41 #[Z, Z2] w' fun e w'' => e = .returned (.bool (decide (la.ags = lb.ags))) ∧ Below w'.heap.size w' w'') := fun w' hb => equalK_any Z Z2 _ _ w' (hA.2.below hb) (hB.2.below hb)
  obtain ⟨rs, w1, g1, k1, ks, x1⟩ := la
  obtain ⟨rs2, w2, g2, k2, ks2, x2⟩ := lb
  obtain ⟨a4, c4, rfl⟩ := relA_slice hA.1
  obtain ⟨a5, c5, rfl⟩ := knows_slice hA.2
  obtain ⟨b4, e4, rfl⟩ := relA_slice hB.1
  obtain ⟨b5, e5, rfl⟩ := knows_slice hB.2
  have HS : Hid (Ld.sameLeader ⟨rs, w1, g1, k1, ks, x1⟩ ⟨rs2, w2, g2, k2, ks2, x2⟩ = (Ld.sameRels rs rs2 && w1 == w2 && g1 == g2 && k1 == k2 && decide (ks = ks2) && x1 == x2)) := rfl
  clear hA hB
  unfold leV leC
  simp only at HE HK HS ⊢
  generalize Ld.sameLeader ⟨rs, w1, g1, k1, ks, x1⟩ ⟨rs2, w2, g2, k2, ks2, x2⟩ = SS at HS ⊢
  generalize Ld.sameRels rs rs2 = SR at HS HE
  generalize decide (ks = ks2) = SK at HS HK
  generalize rs.length = n4 at HE ⊢
  generalize rs2.length = m4 at HE ⊢
  generalize ks.length = n5 at HK ⊢
  generalize ks2.length = m5 at HK ⊢
  obtain ⟨hB0, hK0, hK1⟩ := box2 w #[.slice a4 n4 c4, .int .i64 w1, .int .i64 g1, .bool k1, .slice a5 n5 c5, .int .i64 x1] #[.slice b4 m4 e4, .int .i64 w2, .int .i64 g2, .bool k2, .slice b5 m5 e5, .int .i64 x2] 49 49
  have p0 := hK0.cell 0
  have p1 := hK0.cell 1
  have p2 := hK0.cell 2
  have p3 := hK0.cell 3
  have p4 := hK0.cell 4
  have p5 := hK0.cell 5
  simp only [List.getElem?_toArray, List.getElem?_cons_zero, List.getElem?_cons_succ] at p0 p1 p2 p3 p4 p5
  have q0 := hK1.cell 0
  have q1 := hK1.cell 1
  have q2 := hK1.cell 2
  have q3 := hK1.cell 3
  have q4 := hK1.cell 4
  have q5 := hK1.cell 5
  simp only [List.getElem?_toArray, List.getElem?_cons_zero, List.getElem?_cons_succ] at q0 q1 q2 q3 q4 q5
  have HB0 : Hid (Below w.heap.size w _) := hB0
  have HK1 : Hid (Blk _ w.heap.size _ _) := hK0
  have HK2 : Hid (Blk _ (w.heap.size + 1) _ _) := hK1
  clear hB0 hK0 hK1
  go_enter Tryz.func16, Tryz.ntmps16
  go_wp2_with fail
  generalize ((w.alloc (.cells #[.slice a4 n4 c4, .int .i64 w1, .int .i64 g1, .bool k1, .slice a5 n5 c5, .int .i64 x1] 49)).alloc (.cells #[.slice b4 m4 e4, .int .i64 w2, .int .i64 g2, .bool k2, .slice b5 m5 e5, .int .i64 x2] 49)) = W at *
  refine (HE.out _ HB0.out).mono ?_
  rintro e y1 ⟨rfl, hb1⟩
  have HB1 : Hid (Below w.heap.size w y1) := HB0.out.trans (hb1.mono HB0.out.size)
  have hk1 := HK1.out.below hb1
  have hk2 := HK2.out.below hb1
  clear hb1 HB0 HE HK1 HK2 p0 p1 p2 p3 p4 p5 q0 q1 q2 q3 q4 q5
  have p1 := hk1.cell 1
  have p2 := hk1.cell 2
  have p3 := hk1.cell 3
  have p4 := hk1.cell 4
  have p5 := hk1.cell 5
  simp only [List.getElem?_toArray, List.getElem?_cons_zero, List.getElem?_cons_succ] at p1 p2 p3 p4 p5
  have q1 := hk2.cell 1
  have q2 := hk2.cell 2
  have q3 := hk2.cell 3
  have q4 := hk2.cell 4
  have q5 := hk2.cell 5
  simp only [List.getElem?_toArray, List.getElem?_cons_zero, List.getElem?_cons_succ] at q1 q2 q3 q4 q5
  have HK1 : Hid (Blk y1 w.heap.size _ _) := hk1
  have HK2 : Hid (Blk y1 (w.heap.size + 1) _ _) := hk2
  clear hk1 hk2
  generalize hv1 : (w1 == w2) = v1 at HS
  generalize hv2 : (g1 == g2) = v2 at HS
  generalize hv3 : (k1 == k2) = v3 at HS
  cases SR
  · have HN : Hid (SS = false) := by show _ = _; rw [HS.out]; simp
    clear HS HK HK1 HK2
    go_wp2
    go_ret
    exact ⟨by rw [HN.out]; rfl, HB1.out⟩
  cases v1
  · have HN : Hid (SS = false) := by show _ = _; rw [HS.out]; simp
    clear HS HK HK1 HK2
    go_wp2
    go_ret
    exact ⟨by rw [HN.out]; rfl, HB1.out⟩
  cases v2
  · have HN : Hid (SS = false) := by show _ = _; rw [HS.out]; simp
    clear HS HK HK1 HK2
    go_wp2
    go_ret
    exact ⟨by rw [HN.out]; rfl, HB1.out⟩
  cases v3
  · have HN : Hid (SS = false) := by show _ = _; rw [HS.out]; simp
    clear HS HK HK1 HK2
    go_wp2
    go_ret
    exact ⟨by rw [HN.out]; rfl, HB1.out⟩
  have HN : Hid (SS = (SK && (x1 == x2))) := by show _ = _; rw [HS.out]; simp
  clear HS
  go_wp2_with fail
  refine (HK.out _ HB1.out).mono ?_
  rintro e y2 ⟨rfl, hb2⟩
  have HB2 : Hid (Below w.heap.size w y2) := HB1.out.trans (hb2.mono HB1.out.size)
  have r5 := (HK1.out.below hb2).cell 5
  have s5 := (HK2.out.below hb2).cell 5
  simp only [List.getElem?_toArray, List.getElem?_cons_zero, List.getElem?_cons_succ] at r5 s5
  clear hb2 HK HB1 HK1 HK2
  cases SK
  · go_wp2
    go_ret
    exact ⟨by rw [HN.out]; rfl, HB2.out⟩
  · go_wp2
    go_ret
    exact ⟨by rw [HN.out]; simp, HB2.out⟩
end Go.Proofs.YtpenkhehceglfaaGreatDoor
