import Derived.Test.YtlnbcgjahjjpfacGreatDoorD6
import Derived.Laws.AppendOwnNone
import Derived.Maps.AppendAt
/- Contracts of slices.Grow of nothing, and of slices.Concat of two, at bytes. -/
namespace Go.Proofs.YtlnbcgjahjjpfacGreatDoor
open Go.RowKit
/-- 'append(nil, make([]T, n)...)' -/
theorem run_append_zeros {P : Program} (w : World) (t tx ty e : TypeId) (i : TypeInfo) (z : Value) (ht : P.underlying t = some (.slice e)) (hx : P.underlying tx = some (.int .i64)) (hi : P.info? e = some i) (hz : i.zero = some z) (hzs : z.cells.size = i.size)
    (n : Nat) (h0 : 0 < n) (hs0 : 0 < i.size) (h63 : n ≤ 140737488355328) (h48 : n * i.bytes ≤ 140737488355328) :
    ∃ cur, (Builtin.append_ #[t, tx] ty #[.slice none 0 0, .int .i64 (n : Int)]).run P w = .ok (.slice (some ⟨w.heap.size, 0, none⟩) n (grownCap w n 0 e)) (w.drew.alloc (.cells cur e)) ∧ cur.size = grownCap w n 0 e * i.size := by
  refine ⟨Builtin.zeroCells z.cells n ++ Builtin.zeroCells z.cells (grownCap w n 0 e - n), ?_, ?_⟩
  · have hn : n ≠ 0 := by omega
    have hw : IntKind.i64.wrap (n : Int) = (n : Int) := by rw [IntKind.wrap_i64]; omega
    have h1 : ¬ ((n : Int) < 0) := by omega
    have h2 : ¬ (281474976710656 < (n : Int) * (i.bytes : Int)) := by
      have : ((n * i.bytes : Nat) : Int) ≤ 140737488355328 := by omega
      rw [Int.natCast_mul] at this
      omega
    have h63' : ¬ (9223372036854775807 < (n : Int)) := by omega
    have h48' : ¬ (281474976710656 < Builtin.nextslicecap n 0 * i.bytes) := by rw [nextslicecap_zero h0]; omega
    have hns : ¬ n * i.size = 0 := by
      intro h
      rcases Nat.mul_eq_zero.1 h with h | h <;> omega
    simp [Builtin.append_, run_underlying ht, run_underlying hx, sizeOf, typeInfo, zeroValue, hi, hz, asInt, asIntOf, hw, h1, h2, hn, h63', h48', Question.forced, run_firstCells_none, newRow, grownCap]
    exact fun h => absurd h hns
  · have hge := grownCap_ge w n 0 e
    rw [Array.size_append, size_zeroCells, size_zeroCells, hzs, ← Nat.add_mul]
    congr 1
    omega
theorem wpList_append_run {P : Program} {w w' : World} {ops : Array Oper} {rest : List Oper} {o : Oper} {a : Act} {Q : Exit → Act → World → Prop} (hgd : o.guard = none) (s x : Operand) (t tx : TypeId)
    (ho : o.op = .call { callee := .builtin .append, args := #[s, x], argTypes := #[t, tx] }) (v u R : Value) (hs : a.eval s = v) (hx : a.eval x = u)
    (hrun : (Builtin.append_ #[t, tx] o.type #[v, u]).run P w = .ok R w') (h : wpList P ops Q rest (a.put o.dst R) w') : wpList P ops Q (o :: rest) a w := by
  refine wpList_plain hgd fun K hK => ?_
  unfold Oper.wp
  simp [execOp, ho, resolve, invoke, builtin, hs, hx, hrun, Result.andThen]
  exact hK _ _ h
/-- 'append(s, x...)' from whatever slice -/
theorem wpList_append_src {P : Program} {w : World} {ops : Array Oper} {rest : List Oper} {o : Oper} {a : Act} {Q : Exit → Act → World → Prop} (hgd : o.guard = none) (s x : Operand) (t : TypeId)
    (ho : o.op = .call { callee := .builtin .append, args := #[s, x], argTypes := #[t, t] })
    (base : Nat) (e : TypeId) (i : TypeInfo) (z : Value) (size bytes : Nat) (ht : P.underlying t = some (.slice e)) (hi : P.info? e = some i) (hz : i.zero = some z)
    (hsize : i.size = size) (hby : i.bytes = bytes) (hzs : z.cells.size = size) (hsz : 0 < size)
    (v : Value) (n : Nat) (xs : List Value) (hs : a.eval s = v) (hown : w.ownsRow base e size v n xs)
    (p : Option Addr) (m c : Nat) (news : List Value) (hx : a.eval x = .slice p m c) (hp : p = none → c = 0 ∧ m = 0) (hl : news.length = m * size) (hnews : ∀ ad, p = some ad → ∀ j u, news[j]? = some u → w.cell? (ad.add j) = some u) (h1 : ∀ u ∈ news, u.oneCell' = true)
    (h63 : n + m ≤ maxLen) (hbytes : (n + m) * bytes ≤ 140737488355328) (hbase : base ≤ w.heap.size)
    (h : ∀ v' w', w'.ownsRow base e size v' (n + m) (xs ++ news) → w.grownBy w' v.ownBlock → (v'.ownBlock = v.ownBlock ∨ v'.ownBlock = some w.heap.size) → wpList P ops Q rest (a.put o.dst v') w') :
    wpList P ops Q (o :: rest) a w := by
  cases p with
  | none =>
    obtain ⟨rfl, rfl⟩ := hp rfl
    have hn : news = [] := List.eq_nil_of_length_eq_zero (by simpa using hl)
    subst hn
    exact wpList_append_own_none hgd s x t ho base e i size ht hi v n xs hs hown hx (h v w (by simpa using hown) ⟨rfl, rfl, rfl, Nat.le_refl _, fun _ _ _ => rfl⟩ (.inl rfl))
  | some ad => exact wpList_append_own_at _ hgd s x t ho base e i z size bytes ht hi hz hsize hby hzs hsz v n xs hs hown ad m c news hx hl (hnews ad rfl) h1 h63 hbytes hbase (fun v' w' a1 a2 _ a4 => h v' w' a1 a2 a4)
set_option maxHeartbeats 1000000 in
theorem growB_none (w : World) :
    Calls Tryz.prog 51 #[.slice none 0 0, .int .i64 0] w fun e w' => e = .returned (.slice none 0 0) ∧ w' = w := by
  go_enter Tryz.func51, Tryz.ntmps51
  go_wp2
  go_ret
  exact ⟨rfl, rfl⟩
set_option maxHeartbeats 1000000 in
set_option maxRecDepth 100000 in
theorem growB_any (n : Nat) (hn : n ≤ 1000000) (w : World) :
    Calls Tryz.prog 51 #[.slice none 0 0, .int .i64 (n : Int)] w fun e w' => ∃ v, e = .returned v ∧ w'.ownsRow w.heap.size 5 1 v 0 [] ∧ Below w.heap.size w w' := by
  rcases Nat.eq_zero_or_pos n with h0 | h0
  · subst h0
    refine (growB_none w).mono ?_
    rintro e w' ⟨rfl, rfl⟩
    exact ⟨_, rfl, World.ownsRow_nil _ _ _ _, Below.refl _ _⟩
  · obtain ⟨i0, hi, hz0, hz1, hz2⟩ := info_parts Tryz.info5
    obtain ⟨cur, hrun, hcs⟩ := run_append_zeros (P := Tryz.prog) w 22 3 22 5 i0 (.int .u8 0) Tryz.underlying22 Tryz.underlying3 hi hz0 (by rw [hz1]; rfl) n h0 (by rw [hz1]; decide) (by omega) (by rw [hz2]; omega)
    have hgc := grownCap_ge w n 0 5
    have hgm := grownCap_le_maxLen w n 0 5 (by unfold maxLen; omega)
    have HO : Hid ((w.drew.alloc (.cells cur 5)).ownsRow w.heap.size 5 1 (.slice (some ⟨w.heap.size, 0, none⟩) 0 (grownCap w n 0 5)) 0 []) := World.ownsRow_made w.drew cur _ (Nat.le_refl _) hgm (by rw [hcs, hz1])
    have HB : Hid (Below w.heap.size w (w.drew.alloc (.cells cur 5))) := (Below.refl _ w).drew.alloc (by simp) _
    generalize grownCap w n 0 5 = gc at hrun hgc HO
    have h0' : (0 : Int) < (n : Int) := by omega
    clear hcs hgm
    go_enter Tryz.func51, Tryz.ntmps51
    have HR : Hid ((Builtin.append_ #[22, 3] 22 #[.slice none 0 0, .int .i64 (n : Int)]).run Tryz.prog w = .ok (.slice (some ⟨w.heap.size, 0, none⟩) n gc) (w.drew.alloc (.cells cur 5))) := hrun
    clear hrun
    go_wp2_with (at_builtin; refine wpList_append_run rfl (.tmp 20) (.tmp 21) 22 3 rfl _ _ _ rfl rfl HR.out ?_)
    go_ret
    exact ⟨_, rfl, HO.out, HB.out⟩
end Go.Proofs.YtlnbcgjahjjpfacGreatDoor
/- The contract of slices.Concat of two slices of bytes. -/
namespace Go.Proofs.YtlnbcgjahjjpfacGreatDoor
open Go.RowKit
theorem bytes_from_src {w : World} {p : Option Addr} {n c : Nat} {l : List UInt8} (h : BytesAt w (.slice p n c) l) : (p = none → c = 0 ∧ n = 0) ∧ ∀ ad, p = some ad → ∀ j u, (cellsB l)[j]? = some u → w.cell? (ad.add j) = some u := by
  have h' := h
  obtain ⟨_, c', hc, ⟨rfl, a, e, ha⟩ | ⟨b, o, e, _, h3⟩⟩ := h
  · simp only [Value.slice.injEq] at e
    obtain ⟨rfl, rfl, rfl⟩ := e
    exact ⟨fun e => ⟨ha e, rfl⟩, fun ad _ j u hu => by simp [cellsB, numsB] at hu⟩
  · simp only [Value.slice.injEq] at e
    obtain ⟨rfl, rfl, rfl⟩ := e
    refine ⟨(fun e => by cases e), fun ad e j u hu => ?_⟩
    obtain ⟨ad', e1, e2⟩ := bytes_src h' (by
      have := (List.getElem?_eq_some_iff.1 hu).1
      rw [cellsB_len] at this
      omega)
    cases e
    cases e1
    exact e2 j u hu
set_option maxHeartbeats 4000000 in
set_option maxRecDepth 100000 in
theorem concatB_any (b : Nat) (v u : Value) (l m : List UInt8) (w : World) (h0 : w.cell? ⟨b, 0, none⟩ = some v) (h1 : w.cell? ⟨b, 1, none⟩ = some u) (hP : BytesAt w v l) (hQ : BytesAt w u m) (hlm : l.length + m.length ≤ 1000000) :
    Calls Tryz.prog 35 #[.slice (some ⟨b, 0, none⟩) 2 2] w fun e w' => (∃ x, e = .returned x ∧ NewBytes w.heap.size w' x (l ++ m)) ∧ Below w.heap.size w w' := by
  obtain ⟨p, c, rfl⟩ := bytes_slice hP
  obtain ⟨q, d, rfl⟩ := bytes_slice hQ
  have HP : Hid (BytesAt w (.slice p l.length c) l) := hP
  have HQ : Hid (BytesAt w (.slice q m.length d) m) := hQ
  have HC0 : Hid (∀ w', Below w.heap.size w w' → w'.cell? ⟨b, 0, none⟩ = some (.slice p l.length c) ∧ w'.cell? ⟨b, 1, none⟩ = some (.slice q m.length d)) := fun w' hb => ⟨(hb.cell (p := ⟨b, 0, none⟩) (World.block_lt_of_cell? w _ h0)).trans h0, (hb.cell (p := ⟨b, 1, none⟩) (World.block_lt_of_cell? w _ h1)).trans h1⟩
  clear hP hQ
  obtain ⟨i0, hi, hz0, hz1, hz2⟩ := info_parts Tryz.info5
  go_enter Tryz.func35, Tryz.ntmps35
  go_wp2
  go_loopg [3, 11] 2 (fun g s3 s11 wr => ∃ k : Nat, 2 - k ≤ g ∧ wr = w ∧ ((k = 0 ∧ s11 = .int .i64 0 ∧ s3 = .int .i64 0) ∨ (k = 1 ∧ s11 = .int .i64 1 ∧ s3 = .int .i64 (l.length : Int)) ∨ (k = 2 ∧ s11 = .int .i64 2 ∧ s3 = .int .i64 ((l.length : Int) + (m.length : Int)))))
  case atStart => exact ⟨0, by omega, rfl, .inl ⟨rfl, rfl, rfl⟩⟩
  case round =>
    obtain ⟨k, hg, hw, hcase⟩ := hrel
    replace hw := hw.symm
    subst hw
    rcases hcase with ⟨rfl, rfl, rfl⟩ | ⟨rfl, rfl, rfl⟩ | ⟨rfl, rfl, rfl⟩
    · go_wp2
      go_roundg 1
      case measure => omega
      case rel => exact ⟨1, by omega, rfl, .inr (.inl ⟨rfl, by go_num, by go_num⟩)⟩
    · go_wp2
      go_roundg 0
      case measure => omega
      case rel => exact ⟨2, by omega, rfl, .inr (.inr ⟨rfl, by go_num, by go_num⟩)⟩
    · have HGr : Hid (Calls Tryz.prog 51 #[.slice none 0 0, .int .i64 ((l.length : Int) + (m.length : Int))] w fun e w' => ∃ v, e = .returned v ∧ w'.ownsRow w.heap.size 5 1 v 0 [] ∧ Below w.heap.size w w') := by
        have := growB_any (l.length + m.length) hlm w
        rwa [Int.natCast_add] at this
      go_wp2_with fail
      refine HGr.out.mono ?_
      rintro e w1 ⟨v1, rfl, ho, hb1⟩
      obtain ⟨va, vc, rfl⟩ := slice_of_owns ho
      have HO1 : Hid (w1.ownsRow w.heap.size 5 1 (.slice va 0 vc) 0 []) := ho
      have HB1 : Hid (Below w.heap.size w w1) := hb1
      clear ho hb1 HGr h0 h1
      go_wp2
      go_loopg [6, 27] 2 (fun g s6 s27 wr => ∃ k : Nat, 2 - k ≤ g ∧ Hid (Below w.heap.size w wr) ∧ ((k = 0 ∧ s27 = .int .i64 0 ∧ Hid (wr.ownsRow w.heap.size 5 1 s6 0 [])) ∨ (k = 1 ∧ s27 = .int .i64 1 ∧ Hid (wr.ownsRow w.heap.size 5 1 s6 l.length (cellsB l))) ∨ (k = 2 ∧ s27 = .int .i64 2 ∧ Hid (wr.ownsRow w.heap.size 5 1 s6 (l.length + m.length) (cellsB l ++ cellsB m)))))
      case atStart => exact ⟨0, by omega, HB1, .inl ⟨rfl, rfl, HO1⟩⟩
      case round =>
        obtain ⟨k, hg, HBr, hcase⟩ := hrel
        rcases hcase with ⟨rfl, rfl, HOr⟩ | ⟨rfl, rfl, HOr⟩ | ⟨rfl, rfl, HOr⟩
        · skip
          obtain ⟨hp, hsrc⟩ := bytes_from_src (HP.out.below HBr.out)
          obtain ⟨k0, k1⟩ := HC0.out _ HBr.out
          obtain ⟨sa, sc, rfl⟩ := slice_of_owns HOr.out
          have hws : w.heap.size ≤ wr.heap.size := HBr.out.size
          have HSc : Hid ((∀ ad, p = some ad → ∀ j u, (cellsB l)[j]? = some u → wr.cell? (ad.add j) = some u)) := hsrc
          have HPp : Hid (p = none → c = 0 ∧ l.length = 0) := hp
          obtain ⟨X, hX⟩ : ∃ X, X = cellsB l := ⟨_, rfl⟩
          have HX : Hid (X = cellsB l) := hX
          rw [← hX] at HSc
          clear hp hsrc hX
          go_wp2_with (at_builtin; refine wpList_append_src rfl (.tmp 31) (.tmp 32) 22 rfl w.heap.size 5 i0 (.int .u8 0) 1 1 Tryz.underlying22 hi hz0 hz1 hz2 rfl (by decide) _ 0 [] rfl HOr.out p l.length c X rfl HPp.out ?k1 HSc.out ?k2 ?k3 ?k4 hws ?_)
          case k1 => rw [HX.out, cellsB_len, Nat.mul_one]
          case k2 => rw [HX.out]; exact cellsB_one l
          case k3 => unfold maxLen; omega
          case k4 => omega
          intro v' w3 hown hgrow _
          have HO3 : Hid (w3.ownsRow w.heap.size 5 1 v' l.length (cellsB l)) := by rw [← HX.out]; exact hown
          have HB3 : Hid (Below w.heap.size w w3) := HBr.out.grown hgrow hws (fun q hq => (HOr.out.lt q hq).1)
          clear hown hgrow HOr k0 k1 HSc HPp
          go_wp2
          go_roundg 1
          case measure => omega
          case rel => exact ⟨1, by omega, HB3, .inr (.inl ⟨rfl, by go_num, HO3⟩)⟩
        · skip
          obtain ⟨hp, hsrc⟩ := bytes_from_src (HQ.out.below HBr.out)
          obtain ⟨k0, k1⟩ := HC0.out _ HBr.out
          obtain ⟨sa, sc, rfl⟩ := slice_of_owns HOr.out
          have hws : w.heap.size ≤ wr.heap.size := HBr.out.size
          have HSc : Hid ((∀ ad, q = some ad → ∀ j u, (cellsB m)[j]? = some u → wr.cell? (ad.add j) = some u)) := hsrc
          have HPp : Hid (q = none → d = 0 ∧ m.length = 0) := hp
          obtain ⟨X, hX⟩ : ∃ X, X = cellsB m := ⟨_, rfl⟩
          have HX : Hid (X = cellsB m) := hX
          rw [← hX] at HSc
          clear hp hsrc hX
          go_wp2_with (at_builtin; refine wpList_append_src rfl (.tmp 31) (.tmp 32) 22 rfl w.heap.size 5 i0 (.int .u8 0) 1 1 Tryz.underlying22 hi hz0 hz1 hz2 rfl (by decide) _ l.length (cellsB l) rfl HOr.out q m.length d X rfl HPp.out ?k1 HSc.out ?k2 ?k3 ?k4 hws ?_)
          case k1 => rw [HX.out, cellsB_len, Nat.mul_one]
          case k2 => rw [HX.out]; exact cellsB_one m
          case k3 => unfold maxLen; omega
          case k4 => omega
          intro v' w3 hown hgrow _
          have HO3 : Hid (w3.ownsRow w.heap.size 5 1 v' (l.length + m.length) (cellsB l ++ cellsB m)) := by rw [← HX.out]; exact hown
          have HB3 : Hid (Below w.heap.size w w3) := HBr.out.grown hgrow hws (fun q hq => (HOr.out.lt q hq).1)
          clear hown hgrow HOr k0 k1 HSc HPp
          go_wp2
          go_roundg 0
          case measure => omega
          case rel => exact ⟨2, by omega, HB3, .inr (.inr ⟨rfl, by go_num, HO3⟩)⟩
        · obtain ⟨sa, sc, rfl⟩ := slice_of_owns HOr.out
          have hO := HOr.out
          rw [← cellsB_app] at hO
          have HN : Hid (NewBytes w.heap.size wr (.slice sa (l.length + m.length) sc) (l ++ m)) := bytes_owns (n := l.length + m.length) (by simp) (by simp; omega) hO
          clear hO
          go_wp2
          go_ret
          exact ⟨⟨_, rfl, HN.out⟩, HBr.out⟩
end Go.Proofs.YtlnbcgjahjjpfacGreatDoor
/- Rows of records, however they lie; contracts of slices.Grow of nothing, and of slices.Concat of two, at records. -/
namespace Go.Proofs.YtlnbcgjahjjpfacGreatDoor
open Go.RowKit
/-- a slice of records, each with its lock's slice -/
def RecsAt (w : World) (v : Value) (ps : List (Lk.Note × Value)) : Prop :=
  ps.length ≤ 140737488355328 ∧ ∃ p c, v = .slice p ps.length c ∧ ps.length ≤ c ∧ (p = none → c = 0 ∧ ps.length = 0) ∧ (∀ ad, p = some ad → 0 < ps.length → ad.spot = none ∧ ad.block < w.heap.size) ∧ (∀ ad, p = some ad → ∀ j u, (flatR ps)[j]? = some u → w.cell? (ad.add j) = some u) ∧ ∀ q ∈ ps, PinsAt w q.2 q.1.lock
theorem flatR_pos {ps : List (Lk.Note × Value)} {j : Nat} {u : Value} (h : (flatR ps)[j]? = some u) : 0 < ps.length := by
  have := (List.getElem?_eq_some_iff.1 h).1
  rw [flatR_len] at this
  omega
theorem RecsAt.below {w w' : World} {v : Value} {ps : List (Lk.Note × Value)} (h : RecsAt w v ps) (hb : Below w.heap.size w w') : RecsAt w' v ps := by
  obtain ⟨hl, p, c, e, hc, h1, h2, h3, h4⟩ := h
  refine ⟨hl, p, c, e, hc, h1, fun ad ha h0 => ⟨(h2 ad ha h0).1, Nat.lt_of_lt_of_le (h2 ad ha h0).2 hb.size⟩, fun ad ha j u hu => ?_, fun q hq => (h4 q hq).below hb⟩
  have hblk : (ad.add j).block = ad.block := by unfold Addr.add; split <;> rfl
  exact (hb.cell (p := ad.add j) (by rw [hblk]; exact (h2 ad ha (flatR_pos hu)).2)).trans (h3 ad ha j u hu)
theorem recs_slice {w : World} {v : Value} {ps : List (Lk.Note × Value)} (h : RecsAt w v ps) : ∃ a c, v = .slice a ps.length c := by
  obtain ⟨_, p, c, e, _⟩ := h
  exact ⟨p, c, e⟩
theorem recs_pins {w : World} {v : Value} {ps : List (Lk.Note × Value)} (h : RecsAt w v ps) : ∀ q ∈ ps, PinsAt w q.2 q.1.lock := by
  obtain ⟨_, p, c, _, _, _, _, _, h4⟩ := h
  exact h4
theorem recs_none (w : World) : RecsAt w (.slice none 0 0) [] := ⟨by simp, none, 0, rfl, by simp, fun _ => ⟨rfl, rfl⟩, (fun _ e => by cases e), (fun _ e => by cases e), fun _ h => by cases h⟩
theorem recs_from_src {w : World} {p : Option Addr} {n c : Nat} {ps : List (Lk.Note × Value)} (h : RecsAt w (.slice p n c) ps) : (p = none → c = 0 ∧ n = 0) ∧ ∀ ad, p = some ad → ∀ j u, (flatR ps)[j]? = some u → w.cell? (ad.add j) = some u := by
  obtain ⟨hl, p', c', e, hc, h1, h2, h3, h4⟩ := h
  simp only [Value.slice.injEq] at e
  obtain ⟨rfl, rfl, rfl⟩ := e
  exact ⟨h1, h3⟩
theorem recs_one {w : World} {v : Value} {ps : List (Lk.Note × Value)} (h : RecsAt w v ps) : ∀ q ∈ ps, ∃ a n c, q.2 = .slice a n c := fun q hq => by
  obtain ⟨a, c, e⟩ := pins_slice (recs_pins h q hq)
  exact ⟨a, _, c, e⟩
theorem flatR_one {ps : List (Lk.Note × Value)} (h : ∀ q ∈ ps, ∃ a n c, q.2 = .slice a n c) : ∀ u ∈ flatR ps, u.oneCell' = true := by
  induction ps with
  | nil => intro u hu; simp [flatR] at hu
  | cons q r ih =>
    intro u hu
    obtain ⟨a, n, c, e⟩ := h q (by simp)
    rw [flatR] at hu
    rcases List.mem_append.1 hu with hu | hu
    · simp only [recCells, List.mem_cons, List.not_mem_nil, or_false] at hu
      rcases hu with rfl | rfl | rfl | rfl | rfl | rfl | rfl
      iterate 6 rfl
      rw [e]; rfl
    · exact ih (fun q' hq' => h q' (by simp [hq'])) u hu
theorem recs_owns {w : World} {B n : Nat} {v : Value} {ps : List (Lk.Note × Value)} (hn : n = ps.length) (hl : ps.length ≤ 140737488355328) (h : w.ownsRow B 29 7 v n (flatR ps)) (hp : ∀ q ∈ ps, PinsAt w q.2 q.1.lock) : RecsAt w v ps := by
  subst hn
  have h0 := h
  rcases h.2 with ⟨h1, h2⟩ | ⟨g, cap, cur, h1, h2, h3, h4⟩
  · refine ⟨hl, none, 0, by rw [h1, h2], by omega, fun _ => ⟨rfl, h2⟩, (fun _ e => by cases e), (fun _ e => by cases e), hp⟩
  · refine ⟨hl, _, cap, h1, h4.1, (fun e => by cases e), fun ad e _ => ?_, fun ad e j u hu => ?_, hp⟩
    · cases e; exact ⟨rfl, (Array.getElem?_eq_some_iff.1 h3).1⟩
    · cases e; exact h0.cells (g := g) (by rw [h1]; rfl) j u hu
set_option maxHeartbeats 1000000 in
theorem growR_none (w : World) :
    Calls Tryz.prog 37 #[.slice none 0 0, .int .i64 0] w fun e w' => e = .returned (.slice none 0 0) ∧ w' = w := by
  go_enter Tryz.func37, Tryz.ntmps37
  go_wp2
  go_ret
  exact ⟨rfl, rfl⟩
set_option maxHeartbeats 1000000 in
set_option maxRecDepth 100000 in
theorem growR_any (n : Nat) (hn : n ≤ 1000000) (w : World) :
    Calls Tryz.prog 37 #[.slice none 0 0, .int .i64 (n : Int)] w fun e w' => ∃ v, e = .returned v ∧ w'.ownsRow w.heap.size 29 7 v 0 [] ∧ Below w.heap.size w w' := by
  rcases Nat.eq_zero_or_pos n with h0 | h0
  · subst h0
    refine (growR_none w).mono ?_
    rintro e w' ⟨rfl, rfl⟩
    exact ⟨_, rfl, World.ownsRow_nil _ _ _ _, Below.refl _ _⟩
  · obtain ⟨i0, hi, hz0, hz1, hz2⟩ := info_parts Tryz.info29
    obtain ⟨cur, hrun, hcs⟩ := run_append_zeros (P := Tryz.prog) w 35 3 35 29 i0 (.agg #[.int .i64 0, .int .i64 0, .int .i64 0, .int .i64 0, .bool false, .int .i64 0, .slice none 0 0]) Tryz.underlying35 Tryz.underlying3 hi hz0 (by rw [hz1]; rfl) n h0 (by rw [hz1]; decide) (by omega) (by rw [hz2]; omega)
    have hgc := grownCap_ge w n 0 29
    have hgm := grownCap_le_maxLen w n 0 29 (by unfold maxLen; omega)
    have HO : Hid ((w.drew.alloc (.cells cur 29)).ownsRow w.heap.size 29 7 (.slice (some ⟨w.heap.size, 0, none⟩) 0 (grownCap w n 0 29)) 0 []) := World.ownsRow_made w.drew cur _ (Nat.le_refl _) hgm (by rw [hcs, hz1])
    have HB : Hid (Below w.heap.size w (w.drew.alloc (.cells cur 29))) := (Below.refl _ w).drew.alloc (by simp) _
    generalize grownCap w n 0 29 = gc at hrun hgc HO
    have h0' : (0 : Int) < (n : Int) := by omega
    clear hcs hgm
    go_enter Tryz.func37, Tryz.ntmps37
    have HR : Hid ((Builtin.append_ #[35, 3] 35 #[.slice none 0 0, .int .i64 (n : Int)]).run Tryz.prog w = .ok (.slice (some ⟨w.heap.size, 0, none⟩) n gc) (w.drew.alloc (.cells cur 29))) := hrun
    clear hrun
    go_wp2_with (at_builtin; refine wpList_append_run rfl (.tmp 20) (.tmp 21) 35 3 rfl _ _ _ rfl rfl HR.out ?_)
    go_ret
    exact ⟨_, rfl, HO.out, HB.out⟩
set_option maxHeartbeats 4000000 in
set_option maxRecDepth 100000 in
theorem concatR_any (b : Nat) (v u : Value) (l m : List (Lk.Note × Value)) (w : World) (h0 : w.cell? ⟨b, 0, none⟩ = some v) (h1 : w.cell? ⟨b, 1, none⟩ = some u) (hP : RecsAt w v l) (hQ : RecsAt w u m) (hlm : l.length + m.length ≤ 1000000) :
    Calls Tryz.prog 21 #[.slice (some ⟨b, 0, none⟩) 2 2] w fun e w' => (∃ x, e = .returned x ∧ RecsAt w' x (l ++ m)) ∧ Below w.heap.size w w' := by
  obtain ⟨p, c, rfl⟩ := recs_slice hP
  obtain ⟨q, d, rfl⟩ := recs_slice hQ
  have HP : Hid (RecsAt w (.slice p l.length c) l) := hP
  have HQ : Hid (RecsAt w (.slice q m.length d) m) := hQ
  have HC0 : Hid (∀ w', Below w.heap.size w w' → w'.cell? ⟨b, 0, none⟩ = some (.slice p l.length c) ∧ w'.cell? ⟨b, 1, none⟩ = some (.slice q m.length d)) := fun w' hb => ⟨(hb.cell (p := ⟨b, 0, none⟩) (World.block_lt_of_cell? w _ h0)).trans h0, (hb.cell (p := ⟨b, 1, none⟩) (World.block_lt_of_cell? w _ h1)).trans h1⟩
  clear hP hQ
  obtain ⟨i0, hi, hz0, hz1, hz2⟩ := info_parts Tryz.info29
  go_enter Tryz.func21, Tryz.ntmps21
  go_wp2
  go_loopg [3, 11] 2 (fun g s3 s11 wr => ∃ k : Nat, 2 - k ≤ g ∧ wr = w ∧ ((k = 0 ∧ s11 = .int .i64 0 ∧ s3 = .int .i64 0) ∨ (k = 1 ∧ s11 = .int .i64 1 ∧ s3 = .int .i64 (l.length : Int)) ∨ (k = 2 ∧ s11 = .int .i64 2 ∧ s3 = .int .i64 ((l.length : Int) + (m.length : Int)))))
  case atStart => exact ⟨0, by omega, rfl, .inl ⟨rfl, rfl, rfl⟩⟩
  case round =>
    obtain ⟨k, hg, hw, hcase⟩ := hrel
    replace hw := hw.symm
    subst hw
    rcases hcase with ⟨rfl, rfl, rfl⟩ | ⟨rfl, rfl, rfl⟩ | ⟨rfl, rfl, rfl⟩
    · go_wp2
      go_roundg 1
      case measure => omega
      case rel => exact ⟨1, by omega, rfl, .inr (.inl ⟨rfl, by go_num, by go_num⟩)⟩
    · go_wp2
      go_roundg 0
      case measure => omega
      case rel => exact ⟨2, by omega, rfl, .inr (.inr ⟨rfl, by go_num, by go_num⟩)⟩
    · have HGr : Hid (Calls Tryz.prog 37 #[.slice none 0 0, .int .i64 ((l.length : Int) + (m.length : Int))] w fun e w' => ∃ v, e = .returned v ∧ w'.ownsRow w.heap.size 29 7 v 0 [] ∧ Below w.heap.size w w') := by
        have := growR_any (l.length + m.length) hlm w
        rwa [Int.natCast_add] at this
      go_wp2_with fail
      refine HGr.out.mono ?_
      rintro e w1 ⟨v1, rfl, ho, hb1⟩
      obtain ⟨va, vc, rfl⟩ := slice_of_owns ho
      have HO1 : Hid (w1.ownsRow w.heap.size 29 7 (.slice va 0 vc) 0 []) := ho
      have HB1 : Hid (Below w.heap.size w w1) := hb1
      clear ho hb1 HGr h0 h1
      go_wp2
      go_loopg [6, 27] 2 (fun g s6 s27 wr => ∃ k : Nat, 2 - k ≤ g ∧ Hid (Below w.heap.size w wr) ∧ ((k = 0 ∧ s27 = .int .i64 0 ∧ Hid (wr.ownsRow w.heap.size 29 7 s6 0 [])) ∨ (k = 1 ∧ s27 = .int .i64 1 ∧ Hid (wr.ownsRow w.heap.size 29 7 s6 l.length (flatR l))) ∨ (k = 2 ∧ s27 = .int .i64 2 ∧ Hid (wr.ownsRow w.heap.size 29 7 s6 (l.length + m.length) (flatR l ++ flatR m)))))
      case atStart => exact ⟨0, by omega, HB1, .inl ⟨rfl, rfl, HO1⟩⟩
      case round =>
        obtain ⟨k, hg, HBr, hcase⟩ := hrel
        rcases hcase with ⟨rfl, rfl, HOr⟩ | ⟨rfl, rfl, HOr⟩ | ⟨rfl, rfl, HOr⟩
        · skip
          obtain ⟨hp, hsrc⟩ := recs_from_src (HP.out.below HBr.out)
          obtain ⟨k0, k1⟩ := HC0.out _ HBr.out
          obtain ⟨sa, sc, rfl⟩ := slice_of_owns HOr.out
          have hws : w.heap.size ≤ wr.heap.size := HBr.out.size
          have HSc : Hid ((∀ ad, p = some ad → ∀ j u, (flatR l)[j]? = some u → wr.cell? (ad.add j) = some u)) := hsrc
          have HPp : Hid (p = none → c = 0 ∧ l.length = 0) := hp
          obtain ⟨X, hX⟩ : ∃ X, X = flatR l := ⟨_, rfl⟩
          have HX : Hid (X = flatR l) := hX
          rw [← hX] at HSc
          clear hp hsrc hX
          go_wp2_with (at_builtin; refine wpList_append_src rfl (.tmp 31) (.tmp 32) 35 rfl w.heap.size 29 i0 (.agg #[.int .i64 0, .int .i64 0, .int .i64 0, .int .i64 0, .bool false, .int .i64 0, .slice none 0 0]) 7 72 Tryz.underlying35 hi hz0 hz1 hz2 rfl (by decide) _ 0 [] rfl HOr.out p l.length c X rfl HPp.out ?k1 HSc.out ?k2 ?k3 ?k4 hws ?_)
          case k1 => rw [HX.out, flatR_len]
          case k2 => rw [HX.out]; exact flatR_one (recs_one HP.out)
          case k3 => unfold maxLen; omega
          case k4 => omega
          intro v' w3 hown hgrow _
          have HO3 : Hid (w3.ownsRow w.heap.size 29 7 v' l.length (flatR l)) := by rw [← HX.out]; exact hown
          have HB3 : Hid (Below w.heap.size w w3) := HBr.out.grown hgrow hws (fun q hq => (HOr.out.lt q hq).1)
          clear hown hgrow HOr k0 k1 HSc HPp
          go_wp2
          go_roundg 1
          case measure => omega
          case rel => exact ⟨1, by omega, HB3, .inr (.inl ⟨rfl, by go_num, HO3⟩)⟩
        · skip
          obtain ⟨hp, hsrc⟩ := recs_from_src (HQ.out.below HBr.out)
          obtain ⟨k0, k1⟩ := HC0.out _ HBr.out
          obtain ⟨sa, sc, rfl⟩ := slice_of_owns HOr.out
          have hws : w.heap.size ≤ wr.heap.size := HBr.out.size
          have HSc : Hid ((∀ ad, q = some ad → ∀ j u, (flatR m)[j]? = some u → wr.cell? (ad.add j) = some u)) := hsrc
          have HPp : Hid (q = none → d = 0 ∧ m.length = 0) := hp
          obtain ⟨X, hX⟩ : ∃ X, X = flatR m := ⟨_, rfl⟩
          have HX : Hid (X = flatR m) := hX
          rw [← hX] at HSc
          clear hp hsrc hX
          go_wp2_with (at_builtin; refine wpList_append_src rfl (.tmp 31) (.tmp 32) 35 rfl w.heap.size 29 i0 (.agg #[.int .i64 0, .int .i64 0, .int .i64 0, .int .i64 0, .bool false, .int .i64 0, .slice none 0 0]) 7 72 Tryz.underlying35 hi hz0 hz1 hz2 rfl (by decide) _ l.length (flatR l) rfl HOr.out q m.length d X rfl HPp.out ?k1 HSc.out ?k2 ?k3 ?k4 hws ?_)
          case k1 => rw [HX.out, flatR_len]
          case k2 => rw [HX.out]; exact flatR_one (recs_one HQ.out)
          case k3 => unfold maxLen; omega
          case k4 => omega
          intro v' w3 hown hgrow _
          have HO3 : Hid (w3.ownsRow w.heap.size 29 7 v' (l.length + m.length) (flatR l ++ flatR m)) := by rw [← HX.out]; exact hown
          have HB3 : Hid (Below w.heap.size w w3) := HBr.out.grown hgrow hws (fun q hq => (HOr.out.lt q hq).1)
          clear hown hgrow HOr k0 k1 HSc HPp
          go_wp2
          go_roundg 0
          case measure => omega
          case rel => exact ⟨2, by omega, HB3, .inr (.inr ⟨rfl, by go_num, HO3⟩)⟩
        · obtain ⟨sa, sc, rfl⟩ := slice_of_owns HOr.out
          have hO := HOr.out
          rw [← flatR_append] at hO
          have HN : Hid (RecsAt wr (.slice sa (l.length + m.length) sc) (l ++ m)) := recs_owns (n := l.length + m.length) (by simp) (by simp; omega) hO (fun x hx => by
            rcases List.mem_append.1 hx with hx | hx
            · exact (recs_pins HP.out x hx).below HBr.out
            · exact (recs_pins HQ.out x hx).below HBr.out)
          clear hO
          go_wp2
          go_ret
          exact ⟨⟨_, rfl, HN.out⟩, HBr.out⟩
end Go.Proofs.YtlnbcgjahjjpfacGreatDoor
