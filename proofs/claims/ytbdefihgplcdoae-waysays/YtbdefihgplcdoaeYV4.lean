/- The contracts of slices.Clone at mail, and of way.joined. -/
import Derived.Test.YtbdefihgplcdoaeYV3
import Derived.Laws.AppendOwnNone
import Derived.Laws.Cover3
namespace Go.Proofs.Ytbdefihgplcdoae
open Go.RowKit
theorem slice_of_ownsM {w : World} {base e size n : Nat} {v : Value} {xs : List Value} (h : w.ownsRow base e size v n xs) : ∃ a c, v = .slice a n c := by
  rcases h.2 with ⟨h1, h2⟩ | ⟨g, cap, cur, h1, _, _, _⟩
  · exact ⟨none, 0, by rw [h1, h2]⟩
  · exact ⟨_, cap, h1⟩
theorem Keep.step {S S' : Nat → Prop} {Q : World → Prop} {w w' : World} (h : Keep S Q w) (ha : Aside S w w') (hs : ∀ x, S' x → S x ∨ w.heap.size ≤ x) : Keep S' Q w' := fun w'' h'' => by
  obtain ⟨h1, h2, h3, h4, h5⟩ := h''
  obtain ⟨a1, a2, a3, a4, a5⟩ := ha
  refine h w'' ⟨h1.trans a1, h2.trans a2, h3.trans a3, Nat.le_trans a4 h4, fun b hl hn => ?_⟩
  refine (h5 b (Nat.lt_of_lt_of_le hl a4) (fun hx => ?_)).trans (a5 b hl hn)
  rcases hs b hx with h | h
  · exact hn h
  · omega
theorem grown_aside {w w' : World} {row : Option Nat} (h : w.grownBy w' row) : Aside (fun b => row = some b) w w' :=
  ⟨h.os, h.tape, h.output, h.size, fun b hl hn => h.block b hl (fun e => hn e.symm)⟩
/-- their locks stay whatever is written into the block of v -/
def LocksOff (B : Nat) (w : World) (v : Value) (qs : List (Wy.Mail × Value)) : Prop := ∀ q ∈ qs, Keep (fun b => b < B ∨ v.ownBlock = some b) (fun w => PinsAt w q.2 q.1.lock) w
theorem LocksOff.below {B : Nat} {w w' : World} {v : Value} {qs : List (Wy.Mail × Value)} (h : LocksOff B w v qs) (hb : Below w.heap.size w w') : LocksOff B w' v qs := fun q hq => (h q hq).below hb
theorem LocksOff.here {B : Nat} {w : World} {v : Value} {qs : List (Wy.Mail × Value)} (h : LocksOff B w v qs) : ∀ q ∈ qs, PinsAt w q.2 q.1.lock := fun q hq => (h q hq).here
theorem LocksOff.push {B : Nat} {w w' : World} {v v' : Value} {qs : List (Wy.Mail × Value)} {q : Wy.Mail × Value} (h : LocksOff B w v qs) (hq : Keep (fun b => b < B ∨ v.ownBlock = some b) (fun w => PinsAt w q.2 q.1.lock) w) (hg : w.grownBy w' v.ownBlock) (ha : v'.ownBlock = v.ownBlock ∨ v'.ownBlock = some w.heap.size) : LocksOff B w' v' (qs ++ [q]) := by
  have hs : ∀ x, (x < B ∨ v'.ownBlock = some x) → (x < B ∨ v.ownBlock = some x) ∨ w.heap.size ≤ x := fun x hx => by
    rcases hx with hx | hx
    · exact .inl (.inl hx)
    rcases ha with ha | ha
    · exact .inl (.inr (ha ▸ hx))
    · rw [ha] at hx; cases hx; exact .inr (Nat.le_refl _)
  have hga : Aside (fun x => x < B ∨ v.ownBlock = some x) w w' := by
    obtain ⟨a1, a2, a3, a4, a5⟩ := grown_aside hg
    exact ⟨a1, a2, a3, a4, fun b hl hn => a5 b hl (fun e => hn (.inr e))⟩
  intro r hr
  rcases List.mem_append.1 hr with hr | hr
  · exact (h r hr).step hga hs
  · simp only [List.mem_cons, List.not_mem_nil, or_false] at hr
    subst hr
    exact hq.step hga hs
/-- a row of one's own and its locks stay whatever is written below the base -/
theorem mails_new {B n : Nat} {w : World} {v : Value} {ps : List (Wy.Mail × Value)} (hn : n = ps.length) (hl : ps.length ≤ 140737488355328) (ho : w.ownsRow B 52 6 v n (flatM ps)) (hk : LocksOff B w v ps) : New B (fun w => MailsAt w v ps) w := fun w' h' => by
  refine mails_owns hn hl (B := B) ⟨ho.1, ?_⟩ (fun q hq => Keep.sub (hk q hq) (fun b hb => .inl hb) w' h')
  rcases ho.2 with h | ⟨g, cap, cur, h1, h2, h3, h4⟩
  · exact .inl h
  · refine .inr ⟨g, cap, cur, h1, h2, ?_, h4⟩
    rw [h'.2.2.2.2 g (Array.getElem?_eq_some_iff.1 h3).1 (by omega)]
    exact h3
theorem infoMl : (Try.prog.info? 52).map (fun i => (i.zero, i.size, i.bytes)) = some (some (.agg #[.int .i64 0, .int .i64 0, .bool false, .bool false, .int .i64 0, .slice none 0 0]), 6, 56) := by kernel_rfl
theorem eqNilM (A : Option Addr) (n c : Nat) (w : World) : (binOp .eql 50 (.slice A n c) (.slice none 0 0)).run Try.prog w = .ok (.bool A.isNone) w := by
  have h := run_equal_slice_nil (P := Try.prog) w 50 52 A n c Try.underlying50
  simp [binOp, h]
theorem mails_nil {w : World} {n c : Nat} {ps : List (Wy.Mail × Value)} (h : MailsAt w (.slice none n c) ps) : ps = [] := by
  obtain ⟨_, p', c', e, _, h1, _⟩ := h
  simp only [Value.slice.injEq] at e
  obtain ⟨rfl, rfl, rfl⟩ := e
  exact List.length_eq_zero_iff.1 (h1 rfl).2
set_option maxHeartbeats 2000000 in
theorem cloneM_any (v : Value) (ps : List (Wy.Mail × Value)) (w : World) (hA : MailsAt w v ps) (hl : ps.length ≤ 40) :
    Calls Try.prog 21 #[v] w fun e w' => (∃ y, e = .returned y ∧ w'.ownsRow w.heap.size 52 6 y ps.length (flatM ps)) ∧ Below w.heap.size w w' := by
  obtain ⟨i0, hi, hz0, hz1, hz2⟩ := info_parts infoMl
  obtain ⟨A, c, rfl⟩ := mails_slice hA
  cases A with
  | none =>
    have HN : Hid (ps = []) := mails_nil hA
    have hq := eqNilM none ps.length c
    clear hA hl
    go_enter Try.func21, Try.ntmps21
    go_wp2
    go_ret
    exact ⟨⟨_, rfl, by rw [HN.out]; exact World.ownsRow_nil _ _ _ _⟩, Below.refl _ _⟩
  | some ad =>
    have HNW : Hid (∀ j u, (flatM ps)[j]? = some u → (w.alloc (.cells #[] 52)).cell? (ad.add j) = some u) := (mails_from_src (hA.below ((Below.refl _ w).alloc (Nat.le_refl _) _))).2 ad rfl
    have HO : Hid (∀ u ∈ flatM ps, u.oneCell' = true) := flatM_one (mails_one hA)
    have hq := eqNilM (some ad) ps.length c
    have HL : Hid ((flatM ps).length = ps.length * 6) := flatM_len ps
    clear hA
    go_enter Try.func21, Try.ntmps21
    go_wp2_with (at_builtin; refine wpList_append_own _ rfl _ _ 50 rfl w.heap.size 52 i0 (.agg #[.int .i64 0, .int .i64 0, .bool false, .bool false, .int .i64 0, .slice none 0 0]) 6 56 Try.underlying50 hi hz0 hz1 hz2 rfl (by decide) _ 0 [] rfl (World.ownsRow_made w #[] 0 (Nat.le_refl _) (by decide) rfl) ad ps.length c (flatM ps) rfl HL.out HNW.out HO.out ?c3 ?c4 ?c5 ?_)
    case c3 => unfold maxLen; omega
    case c4 => omega
    case c5 => simp
    intro v' w3 hown hgrow _
    have HO3 : Hid (w3.ownsRow w.heap.size 52 6 v' ps.length (flatM ps)) := by show World.ownsRow _ _ _ _ _ _ _; simpa using hown
    have HB3 : Hid (Below w.heap.size w w3) := ((Below.refl _ w).alloc (Nat.le_refl _) _).grown hgrow (by simp) (fun q hq => by cases hq; exact Nat.le_refl _)
    clear hown hgrow
    go_wp2
    go_ret
    exact ⟨⟨_, rfl, HO3.out⟩, HB3.out⟩
theorem news6 (w : World) (x1 x2 x3 x4 x5 x6 : Value) (t : TypeId) : ∀ j u, ([x1, x2, x3, x4, x5, x6] : List Value)[j]? = some u → (w.alloc (.cells #[x1, x2, x3, x4, x5, x6] t)).cell? ((⟨w.heap.size, 0, none⟩ : Addr).add j) = some u := by
  intro j u hu
  rw [WideShapes.add_plain, Nat.zero_add, (blk_alloc w #[x1, x2, x3, x4, x5, x6] t).cell j]
  simpa using hu
theorem ixP0 (a1 a2 : Option Addr) (n1 c1 n2 c2 : Nat) (w : World) : (Instr.index 85 (.agg #[.slice a1 n1 c1, .slice a2 n2 c2]) (.int .i64 0)).run Try.prog w = .ok (.slice a1 n1 c1) w := by
  have h1 : (0 : Int) ≤ 0 ∧ (0 : Int) < ((2 : Nat) : Int) := by omega
  simp only [Instr.index, asIntOf, Sem.run_bind, Sem.run_pure, Result.andThen_ok, run_underlying Try.underlying85, if_pos h1, Try.sizeOf50, part, Try.isAgg50]
  simp
theorem ixP1 (a1 a2 : Option Addr) (n1 c1 n2 c2 : Nat) (w : World) : (Instr.index 85 (.agg #[.slice a1 n1 c1, .slice a2 n2 c2]) (.int .i64 1)).run Try.prog w = .ok (.slice a2 n2 c2) w := by
  have h1 : (0 : Int) ≤ 1 ∧ (1 : Int) < ((2 : Nat) : Int) := by omega
  simp only [Instr.index, asIntOf, Sem.run_bind, Sem.run_pure, Result.andThen_ok, run_underlying Try.underlying85, if_pos h1, Try.sizeOf50, part, Try.isAgg50]
  simp
set_option maxHeartbeats 8000000 in
set_option maxRecDepth 100000 in
theorem joined_any (va vb : Value) (ps qs : List (Wy.Mail × Value)) (w : World) (hA : MailsAt w va ps) (hB : MailsAt w vb qs) (hl : ps.length + qs.length ≤ 41) (h12 : ∀ q ∈ ps ++ qs, q.1.lock.length ≤ 12) :
    Calls Try.prog 43 #[.agg #[va, vb]] w fun e w' => (∃ v rs, e = .returned v ∧ New w.heap.size (fun w => MailsAt w v rs) w' ∧ rs.map Prod.fst = ps.map Prod.fst ++ qs.map Prod.fst) ∧ Below w.heap.size w w' := by
  obtain ⟨i0, hi, hz0, hz1, hz2⟩ := info_parts infoMl
  obtain ⟨a1, c1, rfl⟩ := mails_slice hA
  obtain ⟨a2, c2, rfl⟩ := mails_slice hB
  have Hps : Hid (MailsAt w (.slice a1 ps.length c1) ps) := hA
  have Hqs : Hid (MailsAt w (.slice a2 qs.length c2) qs) := hB
  have H12 : Hid (∀ q ∈ ps ++ qs, q.1.lock.length ≤ 12) := h12
  have HXB : Hid (Below w.heap.size w (w.alloc (.cells #[.slice a1 ps.length c1, .slice a2 qs.length c2] 85))) := (box1 w _ _).1
  clear hA hB h12
  go_enter Try.func43, Try.ntmps43
  go_wp2
  go_loopg [3, 9] 2 (fun g s3 s9 wr => ∃ (k : Nat) (rs : List (Wy.Mail × Value)), 2 - k ≤ g ∧ s9 = .int .i64 k ∧ Hid (Below w.heap.size w wr) ∧ Hid (wr.ownsRow w.heap.size 52 6 s3 rs.length (flatM rs)) ∧ Hid (LocksOff w.heap.size wr s3 rs) ∧ ((k = 0 ∧ Hid (rs.map Prod.fst = []) ∧ Hid (rs.length = 0)) ∨ (k = 1 ∧ Hid (rs.map Prod.fst = ps.map Prod.fst) ∧ Hid (rs.length = ps.length)) ∨ (k = 2 ∧ Hid (rs.map Prod.fst = ps.map Prod.fst ++ qs.map Prod.fst) ∧ Hid (rs.length = ps.length + qs.length))))
  case atStart => exact ⟨0, [], by omega, rfl, HXB, World.ownsRow_nil _ _ _ _, (fun q hq => by cases hq), .inl ⟨rfl, rfl, rfl⟩⟩
  case round =>
    obtain ⟨k, rs0, hg, rfl, HB0, HO0, HLk0, hcase⟩ := hrel
    obtain ⟨sa0, sc0, rfl⟩ := slice_of_ownsM HO0.out
    rcases hcase with ⟨rfl, HD0, HL0⟩ | ⟨rfl, HD0, HL0⟩ | ⟨rfl, HD0, HL0⟩
    · have hix := ixP0 a1 a2 ps.length c1 qs.length c2
      go_wp2
      clear hix
      go_loopg [3, 14] ps.length (fun g s3 s14 w2 => ∃ (j : Nat) (rs : List (Wy.Mail × Value)), j ≤ ps.length ∧ ps.length - j ≤ g ∧ s14 = .int .i64 j ∧ Hid (rs.map Prod.fst = [] ++ (ps.map Prod.fst).take j) ∧ Hid (rs.length = 0 + j) ∧ Hid (w2.ownsRow w.heap.size 52 6 s3 rs.length (flatM rs)) ∧ Hid (LocksOff w.heap.size w2 s3 rs) ∧ Hid (Below w.heap.size w w2))
      case atStart => exact ⟨0, rs0, Nat.zero_le _, by omega, rfl, by show _ = _; rw [List.take_zero, List.append_nil]; exact HD0.out, by show _ = _; have := HL0.out; omega, HO0, HLk0, HB0⟩
      case round =>
        obtain ⟨j, rs, hj, hg2, rfl, HD, HLn, HO, HLk, HBr⟩ := hrel
        clear HD0 HL0 HO0 HLk0 HB0 HXB
        obtain ⟨sa, sc, rfl⟩ := slice_of_ownsM HO.out
        by_cases hlt : j < ps.length
        · obtain ⟨⟨r, v⟩, hr⟩ : ∃ x, ps[j]? = some x := ⟨_, List.getElem?_eq_getElem hlt⟩
          obtain ⟨b1, o1, rfl, hb1, x0, x1, x2, x3, x4, x5⟩ := mails_at (Hps.out.below HBr.out) hr
          have hp := mails_pins (Hps.out.below HBr.out) (r, v) (List.mem_of_getElem? hr)
          have hrl : r.lock.length ≤ 12 := H12.out (r, v) (List.mem_append.2 (.inl (List.mem_of_getElem? hr)))
          simp only at hp
          have HT : Hid ((ps.map Prod.fst).take (j + 1) = (ps.map Prod.fst).take j ++ [r]) := by
            show _ = _
            rw [List.take_succ_eq_append_getElem (by rw [List.length_map]; exact hlt), List.getElem_map]
            have := (List.getElem?_eq_some_iff.1 hr).2
            rw [this]
          obtain ⟨va, vc, rfl⟩ := pins_slice hp
          have HKP : Hid (∀ w', Below wr.heap.size wr w' → Calls Try.prog 45 #[mailV r (.slice va r.lock.length vc)] w' fun e w'' => (∃ y, e = .returned (mailV r y) ∧ PinsNew w'' w'.heap.size y r.lock) ∧ Below w'.heap.size w' w'') := fun w' hb => wMail_any r _ w' (hp.below hb) hrl
          have hjl : (j : Int) < ps.length := by omega
          clear hp hr hrl
          obtain ⟨r1, r2, r3, r4, r5, r6⟩ := r
          unfold mailV at HKP
          simp only at HKP x0 x1 x2 x3 x4 x5
          generalize hn : r6.length = n at HKP x5
          have HX : Hid (Below wr.heap.size wr (wr.alloc (.cells #[.int .i64 r1, .int .i64 r2, .bool r3, .bool r4, .int .i64 r5, .slice va n vc] 52))) := (box1 wr _ _).1
          have hbs : w.heap.size ≤ wr.heap.size := HBr.out.size
          go_wp2_with fail
          refine (HKP.out _ HX.out).mono ?_
          rintro e w3 ⟨⟨y, rfl, hy⟩, hb3⟩
          obtain ⟨ya, yc, rfl⟩ := pins_slice hy.pins
          rw [hn] at hy ⊢
          have hb23 := HX.out.trans (hb3.mono HX.out.size)
          have HB3 : Hid (Below w.heap.size w w3) := HBr.out.trans (hb23.mono HBr.out.size)
          have HO3 : Hid (w3.ownsRow w.heap.size 52 6 (.slice sa rs.length sc) rs.length (flatM rs)) := owns_below HO.out hb23
          have HLk3 : Hid (LocksOff w.heap.size w3 (.slice sa rs.length sc) rs) := HLk.out.below hb23
          have HK3 : Hid (Keep (fun b => b < w.heap.size ∨ (Value.slice sa rs.length sc).ownBlock = some b) (fun w => PinsAt w (.slice ya n yc) r6) w3) := Keep.sub (pinsNew_keep hy) (fun b hb => hb.elim (fun hb => Nat.lt_of_lt_of_le hb (Nat.le_trans hbs HX.out.size)) (fun hb => Nat.lt_of_lt_of_le (HO.out.lt b hb).2 HX.out.size))
          have h3s : w.heap.size ≤ w3.heap.size := HB3.out.size
          have HX4 := (box1 w3 #[.int .i64 r1, .int .i64 r2, .bool r3, .bool r4, .int .i64 r5, .slice ya n yc] 52).1
          have HB4 : Hid (Below w.heap.size w (w3.alloc (.cells #[.int .i64 r1, .int .i64 r2, .bool r3, .bool r4, .int .i64 r5, .slice ya n yc] 52))) := HB3.out.trans (HX4.mono h3s)
          have HO4 : Hid ((w3.alloc (.cells #[.int .i64 r1, .int .i64 r2, .bool r3, .bool r4, .int .i64 r5, .slice ya n yc] 52)).ownsRow w.heap.size 52 6 (.slice sa rs.length sc) rs.length (flatM rs)) := owns_below HO3.out HX4
          have HLk4 : Hid (LocksOff w.heap.size (w3.alloc (.cells #[.int .i64 r1, .int .i64 r2, .bool r3, .bool r4, .int .i64 r5, .slice ya n yc] 52)) (.slice sa rs.length sc) rs) := HLk3.out.below HX4
          have HK4 : Hid (Keep (fun b => b < w.heap.size ∨ (Value.slice sa rs.length sc).ownBlock = some b) (fun w => PinsAt w (.slice ya n yc) r6) (w3.alloc (.cells #[.int .i64 r1, .int .i64 r2, .bool r3, .bool r4, .int .i64 r5, .slice ya n yc] 52))) := HK3.out.below HX4
          have hrn : rs.length ≤ 41 := by have := HLn.out; omega
          have HNW : Hid (∀ j u, ([.int .i64 r1, .int .i64 r2, .bool r3, .bool r4, .int .i64 r5, .slice ya n yc] : List Value)[j]? = some u → (w3.alloc (.cells #[.int .i64 r1, .int .i64 r2, .bool r3, .bool r4, .int .i64 r5, .slice ya n yc] 52)).cell? ((⟨w3.heap.size, 0, none⟩ : Addr).add j) = some u) := news6 w3 _ _ _ _ _ _ _
          clear hb3 hb23 hy HX HKP x0 x1 x2 x3 x4 x5 HX4 HO HLk HBr hb1 HO3 HLk3 HK3 HB3
          go_wp2_with (at_builtin; refine wpList_append_own_at _ rfl _ _ 50 rfl w.heap.size 52 i0 (.agg #[.int .i64 0, .int .i64 0, .bool false, .bool false, .int .i64 0, .slice none 0 0]) 6 56 Try.underlying50 hi hz0 hz1 hz2 rfl (by decide) _ rs.length (flatM rs) rfl HO4.out ⟨w3.heap.size, 0, none⟩ 1 1 [.int .i64 r1, .int .i64 r2, .bool r3, .bool r4, .int .i64 r5, .slice ya n yc] rfl rfl HNW.out ?c2 ?c3 ?c4 ?c5 ?_)
          case c2 => intro u hu; simp only [List.mem_cons, List.not_mem_nil, or_false] at hu; rcases hu with rfl | rfl | rfl | rfl | rfl | rfl <;> rfl
          case c3 => unfold maxLen; omega
          case c4 => omega
          case c5 => simp; omega
          intro v' w5 hown hgrow _ hat
          have HO5 : Hid (w5.ownsRow w.heap.size 52 6 v' (rs ++ [((⟨r1, r2, r3, r4, r5, r6⟩, .slice ya n yc) : Wy.Mail × Value)]).length (flatM (rs ++ [(⟨r1, r2, r3, r4, r5, r6⟩, .slice ya n yc)]))) := by
            show World.ownsRow _ _ _ _ _ _ _
            rw [flatM_append, List.length_append]
            exact hown
          have HLk5 : Hid (LocksOff w.heap.size w5 v' (rs ++ [(⟨r1, r2, r3, r4, r5, r6⟩, .slice ya n yc)])) := HLk4.out.push (q := (⟨r1, r2, r3, r4, r5, r6⟩, .slice ya n yc)) HK4.out hgrow (by rw [World.size_alloc]; exact hat)
          have HB5 : Hid (Below w.heap.size w w5) := HB4.out.grown hgrow (Nat.le_trans h3s (by simp)) (fun q hq => (HO4.out.lt q hq).1)
          clear hown hgrow hat HO4 HLk4 HK4 HB4 HNW
          go_wp2
          go_roundg (ps.length - (j + 1))
          case measure => omega
          case rel => exact ⟨j + 1, rs ++ [(⟨r1, r2, r3, r4, r5, r6⟩, .slice ya n yc)], by omega, by omega, by go_num, by show _ = _; rw [List.map_append, HD.out, HT.out, List.append_assoc]; rfl, by show _ = _; rw [List.length_append, HLn.out]; rfl, HO5, HLk5, HB5⟩
        · have hj' : j = ps.length := by omega
          have HD' : Hid (rs.map Prod.fst = ps.map Prod.fst) := by
            show _ = _
            rw [HD.out, List.take_of_length_le (by rw [List.length_map]; omega)]; rfl
          have HLn' : Hid (rs.length = ps.length) := by show _ = _; rw [HLn.out]; omega
          subst hj'
          clear HD HLn hj hlt
          go_wp2
          go_roundg 1
          case measure => omega
          case rel => exact ⟨1, rs, by omega, by go_num, HBr, HO, HLk, .inr (.inl ⟨rfl, HD', HLn'⟩)⟩
    · have hix := ixP1 a1 a2 ps.length c1 qs.length c2
      go_wp2
      clear hix
      go_loopg [3, 14] qs.length (fun g s3 s14 w2 => ∃ (j : Nat) (rs : List (Wy.Mail × Value)), j ≤ qs.length ∧ qs.length - j ≤ g ∧ s14 = .int .i64 j ∧ Hid (rs.map Prod.fst = ps.map Prod.fst ++ (qs.map Prod.fst).take j) ∧ Hid (rs.length = ps.length + j) ∧ Hid (w2.ownsRow w.heap.size 52 6 s3 rs.length (flatM rs)) ∧ Hid (LocksOff w.heap.size w2 s3 rs) ∧ Hid (Below w.heap.size w w2))
      case atStart => exact ⟨0, rs0, Nat.zero_le _, by omega, rfl, by show _ = _; rw [List.take_zero, List.append_nil]; exact HD0.out, by show _ = _; have := HL0.out; omega, HO0, HLk0, HB0⟩
      case round =>
        obtain ⟨j, rs, hj, hg2, rfl, HD, HLn, HO, HLk, HBr⟩ := hrel
        clear HD0 HL0 HO0 HLk0 HB0 HXB
        obtain ⟨sa, sc, rfl⟩ := slice_of_ownsM HO.out
        by_cases hlt : j < qs.length
        · obtain ⟨⟨r, v⟩, hr⟩ : ∃ x, qs[j]? = some x := ⟨_, List.getElem?_eq_getElem hlt⟩
          obtain ⟨b1, o1, rfl, hb1, x0, x1, x2, x3, x4, x5⟩ := mails_at (Hqs.out.below HBr.out) hr
          have hp := mails_pins (Hqs.out.below HBr.out) (r, v) (List.mem_of_getElem? hr)
          have hrl : r.lock.length ≤ 12 := H12.out (r, v) (List.mem_append.2 (.inr (List.mem_of_getElem? hr)))
          simp only at hp
          have HT : Hid ((qs.map Prod.fst).take (j + 1) = (qs.map Prod.fst).take j ++ [r]) := by
            show _ = _
            rw [List.take_succ_eq_append_getElem (by rw [List.length_map]; exact hlt), List.getElem_map]
            have := (List.getElem?_eq_some_iff.1 hr).2
            rw [this]
          obtain ⟨va, vc, rfl⟩ := pins_slice hp
          have HKP : Hid (∀ w', Below wr.heap.size wr w' → Calls Try.prog 45 #[mailV r (.slice va r.lock.length vc)] w' fun e w'' => (∃ y, e = .returned (mailV r y) ∧ PinsNew w'' w'.heap.size y r.lock) ∧ Below w'.heap.size w' w'') := fun w' hb => wMail_any r _ w' (hp.below hb) hrl
          have hjl : (j : Int) < qs.length := by omega
          clear hp hr hrl
          obtain ⟨r1, r2, r3, r4, r5, r6⟩ := r
          unfold mailV at HKP
          simp only at HKP x0 x1 x2 x3 x4 x5
          generalize hn : r6.length = n at HKP x5
          have HX : Hid (Below wr.heap.size wr (wr.alloc (.cells #[.int .i64 r1, .int .i64 r2, .bool r3, .bool r4, .int .i64 r5, .slice va n vc] 52))) := (box1 wr _ _).1
          have hbs : w.heap.size ≤ wr.heap.size := HBr.out.size
          go_wp2_with fail
          refine (HKP.out _ HX.out).mono ?_
          rintro e w3 ⟨⟨y, rfl, hy⟩, hb3⟩
          obtain ⟨ya, yc, rfl⟩ := pins_slice hy.pins
          rw [hn] at hy ⊢
          have hb23 := HX.out.trans (hb3.mono HX.out.size)
          have HB3 : Hid (Below w.heap.size w w3) := HBr.out.trans (hb23.mono HBr.out.size)
          have HO3 : Hid (w3.ownsRow w.heap.size 52 6 (.slice sa rs.length sc) rs.length (flatM rs)) := owns_below HO.out hb23
          have HLk3 : Hid (LocksOff w.heap.size w3 (.slice sa rs.length sc) rs) := HLk.out.below hb23
          have HK3 : Hid (Keep (fun b => b < w.heap.size ∨ (Value.slice sa rs.length sc).ownBlock = some b) (fun w => PinsAt w (.slice ya n yc) r6) w3) := Keep.sub (pinsNew_keep hy) (fun b hb => hb.elim (fun hb => Nat.lt_of_lt_of_le hb (Nat.le_trans hbs HX.out.size)) (fun hb => Nat.lt_of_lt_of_le (HO.out.lt b hb).2 HX.out.size))
          have h3s : w.heap.size ≤ w3.heap.size := HB3.out.size
          have HX4 := (box1 w3 #[.int .i64 r1, .int .i64 r2, .bool r3, .bool r4, .int .i64 r5, .slice ya n yc] 52).1
          have HB4 : Hid (Below w.heap.size w (w3.alloc (.cells #[.int .i64 r1, .int .i64 r2, .bool r3, .bool r4, .int .i64 r5, .slice ya n yc] 52))) := HB3.out.trans (HX4.mono h3s)
          have HO4 : Hid ((w3.alloc (.cells #[.int .i64 r1, .int .i64 r2, .bool r3, .bool r4, .int .i64 r5, .slice ya n yc] 52)).ownsRow w.heap.size 52 6 (.slice sa rs.length sc) rs.length (flatM rs)) := owns_below HO3.out HX4
          have HLk4 : Hid (LocksOff w.heap.size (w3.alloc (.cells #[.int .i64 r1, .int .i64 r2, .bool r3, .bool r4, .int .i64 r5, .slice ya n yc] 52)) (.slice sa rs.length sc) rs) := HLk3.out.below HX4
          have HK4 : Hid (Keep (fun b => b < w.heap.size ∨ (Value.slice sa rs.length sc).ownBlock = some b) (fun w => PinsAt w (.slice ya n yc) r6) (w3.alloc (.cells #[.int .i64 r1, .int .i64 r2, .bool r3, .bool r4, .int .i64 r5, .slice ya n yc] 52))) := HK3.out.below HX4
          have hrn : rs.length ≤ 41 := by have := HLn.out; omega
          have HNW : Hid (∀ j u, ([.int .i64 r1, .int .i64 r2, .bool r3, .bool r4, .int .i64 r5, .slice ya n yc] : List Value)[j]? = some u → (w3.alloc (.cells #[.int .i64 r1, .int .i64 r2, .bool r3, .bool r4, .int .i64 r5, .slice ya n yc] 52)).cell? ((⟨w3.heap.size, 0, none⟩ : Addr).add j) = some u) := news6 w3 _ _ _ _ _ _ _
          clear hb3 hb23 hy HX HKP x0 x1 x2 x3 x4 x5 HX4 HO HLk HBr hb1 HO3 HLk3 HK3 HB3
          go_wp2_with (at_builtin; refine wpList_append_own_at _ rfl _ _ 50 rfl w.heap.size 52 i0 (.agg #[.int .i64 0, .int .i64 0, .bool false, .bool false, .int .i64 0, .slice none 0 0]) 6 56 Try.underlying50 hi hz0 hz1 hz2 rfl (by decide) _ rs.length (flatM rs) rfl HO4.out ⟨w3.heap.size, 0, none⟩ 1 1 [.int .i64 r1, .int .i64 r2, .bool r3, .bool r4, .int .i64 r5, .slice ya n yc] rfl rfl HNW.out ?c2 ?c3 ?c4 ?c5 ?_)
          case c2 => intro u hu; simp only [List.mem_cons, List.not_mem_nil, or_false] at hu; rcases hu with rfl | rfl | rfl | rfl | rfl | rfl <;> rfl
          case c3 => unfold maxLen; omega
          case c4 => omega
          case c5 => simp; omega
          intro v' w5 hown hgrow _ hat
          have HO5 : Hid (w5.ownsRow w.heap.size 52 6 v' (rs ++ [((⟨r1, r2, r3, r4, r5, r6⟩, .slice ya n yc) : Wy.Mail × Value)]).length (flatM (rs ++ [(⟨r1, r2, r3, r4, r5, r6⟩, .slice ya n yc)]))) := by
            show World.ownsRow _ _ _ _ _ _ _
            rw [flatM_append, List.length_append]
            exact hown
          have HLk5 : Hid (LocksOff w.heap.size w5 v' (rs ++ [(⟨r1, r2, r3, r4, r5, r6⟩, .slice ya n yc)])) := HLk4.out.push (q := (⟨r1, r2, r3, r4, r5, r6⟩, .slice ya n yc)) HK4.out hgrow (by rw [World.size_alloc]; exact hat)
          have HB5 : Hid (Below w.heap.size w w5) := HB4.out.grown hgrow (Nat.le_trans h3s (by simp)) (fun q hq => (HO4.out.lt q hq).1)
          clear hown hgrow hat HO4 HLk4 HK4 HB4 HNW
          go_wp2
          go_roundg (qs.length - (j + 1))
          case measure => omega
          case rel => exact ⟨j + 1, rs ++ [(⟨r1, r2, r3, r4, r5, r6⟩, .slice ya n yc)], by omega, by omega, by go_num, by show _ = _; rw [List.map_append, HD.out, HT.out, List.append_assoc]; rfl, by show _ = _; rw [List.length_append, HLn.out]; rfl, HO5, HLk5, HB5⟩
        · have hj' : j = qs.length := by omega
          have HD' : Hid (rs.map Prod.fst = ps.map Prod.fst ++ qs.map Prod.fst) := by
            show _ = _
            rw [HD.out, List.take_of_length_le (by rw [List.length_map]; omega)]
          have HLn' : Hid (rs.length = ps.length + qs.length) := by show _ = _; rw [HLn.out]; omega
          subst hj'
          clear HD HLn hj hlt
          go_wp2
          go_roundg 0
          case measure => omega
          case rel => exact ⟨2, rs, by omega, by go_num, HBr, HO, HLk, .inr (.inr ⟨rfl, HD', HLn'⟩)⟩
    · have HM : Hid (New w.heap.size (fun w => MailsAt w (.slice sa0 rs0.length sc0) rs0) wr) := mails_new rfl (by have := HL0.out; omega) HO0.out HLk0.out
      go_wp2
      go_ret
      exact ⟨⟨_, rs0, rfl, HM.out, HD0.out⟩, HB0.out⟩
end Go.Proofs.Ytbdefihgplcdoae
