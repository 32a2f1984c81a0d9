import Derived.Test.YtpenkhehceglfaaGreatDoorMD
import Derived.Laws.AppendOwnNone
import Derived.Maps.AppendAt
/- Contracts of slices.Grow of nothing, and of slices.Concat of two, at bytes. -/
namespace Go.Proofs.YtpenkhehceglfaaGreatDoor
open Go.RowKit
/-- 'append(nil, make([]T, n)...)' -/
theorem run_append_zeros {P : Program} (w : World) (t tx ty e : TypeId) (i : TypeInfo) (z : Value) (ht : P.underlying t = some (.slice e)) (hx : P.underlying tx = some (.int .i64)) (hi : P.info? e = some i) (hz : i.zero = some z) (hzs : z.cells.size = i.size)
    (n : Nat) (h0 : 0 < n) (hs0 : 0 < i.size) (h63 : n ≤ 140737488355328) (h48 : n * i.bytes ≤ 140737488355328) :
    ∃ cur, (Builtin.append_ #[t, tx] ty #[.slice none 0 0, .int .i64 (n : Int)]).run P w = .ok (.slice (some ⟨w.heap.size, 0, none⟩) n (grownCap w n 0 e)) (w.drew.alloc (.cells cur e)) ∧ cur.size = grownCap w n 0 e * i.size := by
  refine ⟨Builtin.zeroCells z.cells n ++ Builtin.zeroCells z.cells (grownCap w n 0 e - n), ?_, ?_⟩
  · have hn : n ≠ 0 := by omega
    have hw : IntKind.i64.wrap (n : Int) = (n : Int) := by rw [IntKind.wrap_i64]; omega
    have h1 : ¬ ((n : Int) < 0) := by omega
    have h2 : ¬ (281474976710656 < (n : Int) * (i.bytes : Int)) := by
      have : ((n * i.bytes : Nat) : Int) ≤ 140737488355328 := by omega
      rw [Int.natCast_mul] at this
      omega
    have h63' : ¬ (9223372036854775807 < (n : Int)) := by omega
    have h48' : ¬ (281474976710656 < Builtin.nextslicecap n 0 * i.bytes) := by rw [nextslicecap_zero h0]; omega
    have hns : ¬ n * i.size = 0 := by
      intro h
      rcases Nat.mul_eq_zero.1 h with h | h <;> omega
    simp [Builtin.append_, run_underlying ht, run_underlying hx, sizeOf, typeInfo, zeroValue, hi, hz, asInt, asIntOf, hw, h1, h2, hn, h63', h48', Question.forced, run_firstCells_none, newRow, grownCap]
    exact fun h => absurd h hns
  · have hge := grownCap_ge w n 0 e
    rw [Array.size_append, size_zeroCells, size_zeroCells, hzs, ← Nat.add_mul]
    congr 1
    omega
theorem wpList_append_run {P : Program} {w w' : World} {ops : Array Oper} {rest : List Oper} {o : Oper} {a : Act} {Q : Exit → Act → World → Prop} (hgd : o.guard = none) (s x : Operand) (t tx : TypeId)
    (ho : o.op = .call { callee := .builtin .append, args := #[s, x], argTypes := #[t, tx] }) (v u R : Value) (hs : a.eval s = v) (hx : a.eval x = u)
    (hrun : (Builtin.append_ #[t, tx] o.type #[v, u]).run P w = .ok R w') (h : wpList P ops Q rest (a.put o.dst R) w') : wpList P ops Q (o :: rest) a w := by
  refine wpList_plain hgd fun K hK => ?_
  unfold Oper.wp
  simp [execOp, ho, resolve, invoke, builtin, hs, hx, hrun, Result.andThen]
  exact hK _ _ h
/-- 'append(s, x...)' from whatever slice -/
theorem wpList_append_src {P : Program} {w : World} {ops : Array Oper} {rest : List Oper} {o : Oper} {a : Act} {Q : Exit → Act → World → Prop} (hgd : o.guard = none) (s x : Operand) (t : TypeId)
    (ho : o.op = .call { callee := .builtin .append, args := #[s, x], argTypes := #[t, t] })
    (base : Nat) (e : TypeId) (i : TypeInfo) (z : Value) (size bytes : Nat) (ht : P.underlying t = some (.slice e)) (hi : P.info? e = some i) (hz : i.zero = some z)
    (hsize : i.size = size) (hby : i.bytes = bytes) (hzs : z.cells.size = size) (hsz : 0 < size)
    (v : Value) (n : Nat) (xs : List Value) (hs : a.eval s = v) (hown : w.ownsRow base e size v n xs)
    (p : Option Addr) (m c : Nat) (news : List Value) (hx : a.eval x = .slice p m c) (hp : p = none → c = 0 ∧ m = 0) (hl : news.length = m * size) (hnews : ∀ ad, p = some ad → ∀ j u, news[j]? = some u → w.cell? (ad.add j) = some u) (h1 : ∀ u ∈ news, u.oneCell' = true)
    (h63 : n + m ≤ maxLen) (hbytes : (n + m) * bytes ≤ 140737488355328) (hbase : base ≤ w.heap.size)
    (h : ∀ v' w', w'.ownsRow base e size v' (n + m) (xs ++ news) → w.grownBy w' v.ownBlock → (v'.ownBlock = v.ownBlock ∨ v'.ownBlock = some w.heap.size) → wpList P ops Q rest (a.put o.dst v') w') :
    wpList P ops Q (o :: rest) a w := by
  cases p with
  | none =>
    obtain ⟨rfl, rfl⟩ := hp rfl
    have hn : news = [] := List.eq_nil_of_length_eq_zero (by simpa using hl)
    subst hn
    exact wpList_append_own_none hgd s x t ho base e i size ht hi v n xs hs hown hx (h v w (by simpa using hown) ⟨rfl, rfl, rfl, Nat.le_refl _, fun _ _ _ => rfl⟩ (.inl rfl))
  | some ad => exact wpList_append_own_at _ hgd s x t ho base e i z size bytes ht hi hz hsize hby hzs hsz v n xs hs hown ad m c news hx hl (hnews ad rfl) h1 h63 hbytes hbase (fun v' w' a1 a2 _ a4 => h v' w' a1 a2 a4)
end Go.Proofs.YtpenkhehceglfaaGreatDoor
/- Rows of records, however they lie; contracts of slices.Grow of nothing, and of slices.Concat of two, at records. -/
namespace Go.Proofs.YtpenkhehceglfaaGreatDoor
open Go.RowKit
end Go.Proofs.YtpenkhehceglfaaGreatDoor
/- The contract of slices.EqualFunc at records, with any function that answers of two records what a plain one does. -/
namespace Go.Proofs.YtpenkhehceglfaaGreatDoor
open Go.RowKit
/-- two lists are alike, element by element -/
def all2 (S : Lk.Note → Lk.Note → Bool) : List Lk.Note → List Lk.Note → Bool
  | [], [] => true
  | a :: r, b :: t => S a b && all2 S r t
  | [], _ :: _ => false
  | _ :: _, [] => false
theorem all2_len (S : Lk.Note → Lk.Note → Bool) : ∀ (a b : List Lk.Note), a.length ≠ b.length → all2 S a b = false
  | [], [], h => absurd rfl h
  | [], _ :: _, _ => rfl
  | _ :: _, [], _ => rfl
  | x :: r, y :: t, h => by rw [all2, all2_len S r t (fun e => h (by simp [e])), Bool.and_false]
theorem all2_self (S : Lk.Note → Lk.Note → Bool) (h : ∀ r, S r r = true) : ∀ a, all2 S a a = true
  | [] => rfl
  | x :: r => by rw [all2, h, all2_self S h r]; rfl
theorem drop_map {ps : List (Lk.Note × Value)} {k : Nat} {r : Lk.Note} {v : Value} (h : ps[k]? = some (r, v)) : (ps.map Prod.fst).drop k = r :: (ps.map Prod.fst).drop (k + 1) := by
  have hlt : k < ps.length := (List.getElem?_eq_some_iff.1 h).1
  rw [List.drop_eq_getElem_cons (by rw [List.length_map]; exact hlt)]
  congr 1
  rw [List.getElem_map]
  have := (List.getElem?_eq_some_iff.1 h).2
  rw [this]
set_option maxHeartbeats 400000 in
theorem equalF_len (a1 a2 : Option Addr) (n c m d : Nat) (f : Value) (w : World) (h : n ≠ m) :
    Calls Tryz.prog 11 #[.slice a1 n c, .slice a2 m d, f] w fun e w' => e = .returned (.bool false) ∧ Below w.heap.size w w' := by
  have h' : ((n : Int) != (m : Int)) = true := by rw [bne_iff_ne]; omega
  go_enter Tryz.func11, Tryz.ntmps11
  go_wp2
  go_ret
  exact ⟨rfl, Below.refl _ _⟩
set_option maxHeartbeats 4000000 in
set_option maxRecDepth 100000 in
theorem equalF_full (f : Nat) (eg : ∀ args w, (callFunc f args).run Tryz.prog w = .ok (.enter f args) w) (S : Lk.Note → Lk.Note → Bool)
    (hf : ∀ r q v u w, PinsAt w v r.lock → PinsAt w u q.lock → Calls Tryz.prog f #[recV r v, recV q u] w fun e w' => e = .returned (.bool (S r q)) ∧ Below w.heap.size w w')
    (a1 a2 : Option Addr) (c d : Nat) (ps qs : List (Lk.Note × Value)) (w : World) (hA : RecsAt w (.slice a1 ps.length c) ps) (hB : RecsAt w (.slice a2 ps.length d) qs) :
    Calls Tryz.prog 11 #[.slice a1 ps.length c, .slice a2 ps.length d, .func (.func f) #[] #[]] w fun e w' => e = .returned (.bool (all2 S (ps.map Prod.fst) (qs.map Prod.fst))) ∧ Below w.heap.size w w' := by
  have HA : Hid (RecsAt w (.slice a1 ps.length c) ps) := hA
  have HB : Hid (RecsAt w (.slice a2 ps.length d) qs) := hB
  have hN : ps.length = qs.length := by
    obtain ⟨_, p', c', e, _⟩ := hB
    simp only [Value.slice.injEq] at e
    exact e.2.1
  have hpl := hA.1
  have HN : Hid (ps.length = qs.length) := hN
  have HF : Hid (∀ r q v u w, PinsAt w v r.lock → PinsAt w u q.lock → Calls Tryz.prog f #[recV r v, recV q u] w fun e w' => e = .returned (.bool (S r q)) ∧ Below w.heap.size w w') := hf
  have HQ : Hid (all2 S (ps.map Prod.fst) (qs.map Prod.fst) = all2 S ((ps.map Prod.fst).drop 0) ((qs.map Prod.fst).drop 0)) := rfl
  clear hA hB hN hf
  generalize all2 S (ps.map Prod.fst) (qs.map Prod.fst) = R at HQ ⊢
  go_enter Tryz.func11, Tryz.ntmps11
  go_wp2
  go_loopg [17] ps.length (fun g s17 wr => ∃ k : Nat, k ≤ ps.length ∧ ps.length - k ≤ g ∧ s17 = .int .i64 k ∧ Hid (R = all2 S ((ps.map Prod.fst).drop k) ((qs.map Prod.fst).drop k)) ∧ Hid (Below w.heap.size w wr))
  case atStart => exact ⟨0, Nat.zero_le _, by omega, rfl, HQ, Below.refl _ _⟩
  case round =>
    obtain ⟨k, hk, hg, rfl, HQk, HBr⟩ := hrel
    by_cases hlt : k < ps.length
    rotate_left
    · have hk' : k = ps.length := by omega
      have HR : Hid (R = true) := by
        show R = true
        rw [HQk.out, List.drop_of_length_le (by rw [List.length_map]; omega), List.drop_of_length_le (by rw [List.length_map, ← HN.out]; omega)]
        rfl
      subst hk'
      clear HQk hlt hk
      go_wp2
      go_ret
      exact ⟨by rw [HR.out]; rfl, HBr.out⟩
    obtain ⟨⟨r, v⟩, hr⟩ : ∃ x, ps[k]? = some x := ⟨_, List.getElem?_eq_getElem hlt⟩
    obtain ⟨⟨q, u⟩, hq⟩ : ∃ x, qs[k]? = some x := ⟨_, List.getElem?_eq_getElem (by rw [← HN.out]; exact hlt)⟩
    obtain ⟨b1, o1, rfl, hb1, x0, x1, x2, x3, x4, x5, x6⟩ := recs_at (HA.out.below HBr.out) hr
    obtain ⟨b2, o2, rfl, hb2, y0, y1, y2, y3, y4, y5, y6⟩ := recs_at (HB.out.below HBr.out) hq
    have hp := recs_pins (HA.out.below HBr.out) (r, v) (List.mem_of_getElem? hr)
    have hu := recs_pins (HB.out.below HBr.out) (q, u) (List.mem_of_getElem? hq)
    simp only at hp hu
    have HR : Hid (R = (S r q && all2 S ((ps.map Prod.fst).drop (k + 1)) ((qs.map Prod.fst).drop (k + 1)))) := by
      show R = _
      rw [HQk.out, drop_map hr, drop_map hq]
      rfl
    obtain ⟨va, vc, rfl⟩ := pins_slice hp
    obtain ⟨ua, uc, rfl⟩ := pins_slice hu
    have HP : Hid (PinsAt wr (.slice va r.lock.length vc) r.lock) := hp
    have HU : Hid (PinsAt wr (.slice ua q.lock.length uc) q.lock) := hu
    obtain ⟨r1, r2, r3, r4, r5, r6, r7⟩ := r
    obtain ⟨q1, q2, q3, q4, q5, q6, q7⟩ := q
    have HFk := HF.out ⟨r1, r2, r3, r4, r5, r6, r7⟩ ⟨q1, q2, q3, q4, q5, q6, q7⟩ (.slice va r7.length vc) (.slice ua q7.length uc)
    generalize S ⟨r1, r2, r3, r4, r5, r6, r7⟩ ⟨q1, q2, q3, q4, q5, q6, q7⟩ = sb at HR HFk
    unfold recV at HFk
    simp only at HFk HP HU x0 x1 x2 x3 x4 x5 x6 y0 y1 y2 y3 y4 y5 y6
    have HFk' : Hid (∀ w, PinsAt w (.slice va r7.length vc) r7 → PinsAt w (.slice ua q7.length uc) q7 → Calls Tryz.prog f #[.agg #[.int .i64 r1, .int .i64 r2, .int .i64 r3, .int .i64 r4, .bool r5, .int .i64 r6, .slice va r7.length vc], .agg #[.int .i64 q1, .int .i64 q2, .int .i64 q3, .int .i64 q4, .bool q5, .int .i64 q6, .slice ua q7.length uc]] w fun e w' => e = .returned (.bool sb) ∧ Below w.heap.size w w') := HFk
    have HBB : Hid (∀ o o', Below wr.heap.size wr ((wr.alloc o).alloc o')) := fun o o' => ((Below.refl _ wr).alloc (Nat.le_refl _) o).alloc (by simp) o'
    clear hp hu HFk HF HQk hr hq HA HB HN
    go_wp2_with fail
    refine (HFk'.out _ (HP.out.below (HBB.out _ _)) (HU.out.below (HBB.out _ _))).mono ?_
    rintro e w1 ⟨rfl, hw1⟩
    have HB1 : Hid (Below w.heap.size w w1) := HBr.out.trans (((HBB.out _ _).trans (hw1.mono (HBB.out _ _).size)).mono HBr.out.size)
    clear hw1 HBB HFk' HP HU x0 x1 x2 x3 x4 x5 x6 y0 y1 y2 y3 y4 y5 y6
    cases sb
    · have HR' : Hid (R = false) := by show R = false; rw [HR.out, Bool.false_and]
      go_wp2
      go_ret
      exact ⟨by rw [HR'.out]; rfl, HB1.out⟩
    · have HR' : Hid (R = all2 S ((ps.map Prod.fst).drop (k + 1)) ((qs.map Prod.fst).drop (k + 1))) := by show R = _; rw [HR.out, Bool.true_and]
      go_wp2
      go_roundg (ps.length - (k + 1))
      case measure => omega
      case rel => exact ⟨k + 1, by omega, by omega, by go_num, HR', HB1⟩
theorem equalF_any (f : Nat) (eg : ∀ args w, (callFunc f args).run Tryz.prog w = .ok (.enter f args) w) (S : Lk.Note → Lk.Note → Bool)
    (hf : ∀ r q v u w, PinsAt w v r.lock → PinsAt w u q.lock → Calls Tryz.prog f #[recV r v, recV q u] w fun e w' => e = .returned (.bool (S r q)) ∧ Below w.heap.size w w')
    (va vb : Value) (ps qs : List (Lk.Note × Value)) (w : World) (hA : RecsAt w va ps) (hB : RecsAt w vb qs) :
    Calls Tryz.prog 11 #[va, vb, .func (.func f) #[] #[]] w fun e w' => e = .returned (.bool (all2 S (ps.map Prod.fst) (qs.map Prod.fst))) ∧ Below w.heap.size w w' := by
  obtain ⟨a1, c, rfl⟩ := recs_slice hA
  obtain ⟨a2, d, rfl⟩ := recs_slice hB
  by_cases h : ps.length = qs.length
  · rw [← h] at hB ⊢
    exact equalF_full f eg S hf a1 a2 c d ps qs w hA hB
  · rw [all2_len S _ _ (by rw [List.length_map, List.length_map]; exact h)]
    exact equalF_len a1 a2 _ c _ d _ w h
end Go.Proofs.YtpenkhehceglfaaGreatDoor
