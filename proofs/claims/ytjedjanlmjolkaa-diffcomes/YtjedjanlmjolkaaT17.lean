/- The walk of DiffComes, out of the contracts: it returns true, and nothing old has turned. -/
import Derived.Test.YtjedjanlmjolkaaT14
import Derived.Test.YtjedjanlmjolkaaW3
import Derived.Test.YtjedjanlmjolkaaDMath2
import Derived.Maps.OwnOps
import Derived.Maps.Views
namespace Go.Proofs.Ytjedjanlmjolkaa
open Go.RowKit Go.Maps
namespace Dk
open Lk
/-- the locks on the way, one by one -/
theorem on_step {a b : List (Int × Int)} (hd : diffErr a b = 0) {i : Nat} {o : Int × Int × Int} (ho : (steps (tb a) (tb b))[i]? = some o) :
    betweenErr a b (pinsOf (after (tb a) ((steps (tb a) (tb b)).take i))) = 0 ∧ between a b (pinsOf (after (tb a) ((steps (tb a) (tb b)).take i))) = i ∧
    diffErr (pinsOf (after (tb a) ((steps (tb a) (tb b)).take i))) b = 0 ∧ diffed (pinsOf (after (tb a) ((steps (tb a) (tb b)).take i))) b = (steps (tb a) (tb b)).drop i ∧
    applyErr (pinsOf (after (tb a) ((steps (tb a) (tb b)).take i))) o = 0 ∧ applied (pinsOf (after (tb a) ((steps (tb a) (tb b)).take i))) o = pinsOf (after (tb a) ((steps (tb a) (tb b)).take (i + 1))) ∧
    chk (pinsOf (after (tb a) ((steps (tb a) (tb b)).take (i + 1)))) = 0 ∧
    ∃ n : Nat, n < 21 ∧ o.2.1 = n ∧ (after (tb a) ((steps (tb a) (tb b)).take i)).getD n 0 ≠ (tb b).getD n 0 ∧ ∀ m : Nat, m < 21 → (after (tb a) ((steps (tb a) (tb b)).take (i + 1))).getD m 0 ≠ (tb b).getD m 0 → m ≠ n ∧ (after (tb a) ((steps (tb a) (tb b)).take i)).getD m 0 ≠ (tb b).getD m 0 := by
  have hab : chk a = 0 ∧ chk b = 0 := by
    unfold diffErr at hd
    by_cases ha : chk a = 0
    · rw [if_pos ha] at hd; exact ⟨ha, hd⟩
    · rw [if_neg ha] at hd; exact absurd hd ha
  have hA := good_tb hab.1
  have hB := good_tb hab.2
  have hi : i < (steps (tb a) (tb b)).length := (List.getElem?_eq_some_iff.1 ho).1
  obtain ⟨h1, h2⟩ := on_way hA hB i (by omega)
  have hw := way_at hA hB i (by omega) 0 i (by omega)
  have hat := after_take (tb a) _ i o ho
  have h3 := h2
  rw [drop_cons ho] at h3
  obtain ⟨s1, s2, s3⟩ := apply_step h1 hB h3
  obtain ⟨n, n1, n2, e1, e2, _, _⟩ := step_first h1 hB h3
  rw [hat]
  have hc := good_chk h1
  have htb := tb_pinsOf h1.1.1
  have hbe : betweenErr a b (pinsOf (after (tb a) ((steps (tb a) (tb b)).take i))) = 0 := by rw [betweenErr, if_pos hd, hc]
  have hde : diffErr (pinsOf (after (tb a) ((steps (tb a) (tb b)).take i))) b = 0 := by rw [diffErr, if_pos hc, hab.2]
  refine ⟨hbe, ?_, hde, ?_, s1, s2, good_chk s3, n, by omega, by rw [e1], e2, fun m hm hne => ?_⟩
  · rw [between, if_pos hbe, htb]
    exact hw
  · rw [diffed, if_pos hde, htb, h2]
  · have en : o.2.1.toNat = n := by rw [e1]; simp
    have ev : o.2.2 = (tb b).getD n 0 := by rw [e1]
    have hl := h1.1.1
    rw [putO_get _ o m (by omega)] at hne
    by_cases e : o.2.1.toNat = m
    · rw [if_pos e] at hne
      exact absurd (by rw [ev, ← en, e]) hne
    · rw [if_neg e] at hne
      exact ⟨by omega, hne⟩
theorem on_end {a b : List (Int × Int)} (hd : diffErr a b = 0) : pinsOf (after (tb a) ((steps (tb a) (tb b)).take (steps (tb a) (tb b)).length)) = b ∧ diffErr b b = 0 ∧ diffed b b = [] := by
  have hab : chk a = 0 ∧ chk b = 0 := by
    unfold diffErr at hd
    by_cases ha : chk a = 0
    · rw [if_pos ha] at hd; exact ⟨ha, hd⟩
    · rw [if_neg ha] at hd; exact absurd hd ha
  have hA := good_tb hab.1
  have hB := good_tb hab.2
  have hw := on_way hA hB _ (Nat.le_refl _)
  rw [List.drop_length] at hw
  have e3 := steps_nil hw.1.1.1 hB.1.1 hw.2
  have hbb : diffErr b b = 0 := by rw [diffErr, if_pos hab.2, hab.2]
  exact ⟨by rw [e3, pins_tb hab.2], hbb, by rw [diffed, if_pos hbb, steps_self]⟩
end Dk
theorem keyedI : Keyed Try.prog 3 := int_keyed Try.underlying3
theorem zeroB (w : World) : (zeroValue 4).run Try.prog w = .ok (.bool false) w := by kernel_rfl
theorem plainElem_bool_inv {H : Type} {P : Program} {e : TypeId} (he : P.underlying e = some .bool) {v : Value} {z : DataW H × List MemPlace} (h : plainElem P e v = some z) : ∃ c, v = .bool c ∧ z = (.lit (.bool c), []) := by
  unfold plainElem at h
  rw [he] at h
  cases v <;> simp at h
  exact ⟨_, rfl, h.symm⟩
/-- a bool is looked up in a map of the call's own -/
theorem look_bool {w : World} {bm n : Nat} {D : DataW Unit} (h : w.ownsMap Try.prog 3 (plainElem Try.prog 4) bm n D) (m : Nat) (hm : m < 21) (hz : D.atKey (.int .i64 m) (.lit (.bool false)) = .lit (.bool false)) :
    (Instr.lookup 42 (.map (some bm)) (.int .i64 m) false).run Try.prog w = .ok (.bool false) w := by
  have hwf : (Lit.int .i64 (m : Int)).wf = true := WalkArith.wf_i64 (by omega)
  obtain ⟨v, ps, hrun, hv⟩ := h.lookup keyedI Try.underlying42 (zeroB w) (plainElem_bool Try.underlying4 false) (keyOf_int_mk Try.underlying3 hwf)
  rw [hz] at hv
  obtain ⟨c, rfl, hc⟩ := plainElem_bool_inv Try.underlying4 hv
  have : c = false := by
    injection hc with h1 _
    injection h1 with h1
    injection h1 with h1
    exact h1.symm
  rw [hrun, this]
/-- what the map may say: where a name is not yet as it shall be, it wasn't seen -/
def Unseen (D : DataW Unit) (T B : List Int) : Prop := IsMap D ∧ ∀ n : Nat, n < 21 → T.getD n 0 ≠ B.getD n 0 → D.atKey (.int .i64 n) (.lit (.bool false)) = .lit (.bool false)
theorem Unseen.put {D : DataW Unit} {T T' B : List Int} {m : Nat} (h : Unseen D T B) (hT : ∀ n : Nat, n < 21 → T'.getD n 0 ≠ B.getD n 0 → n ≠ m ∧ T.getD n 0 ≠ B.getD n 0) (d : DataW Unit) : Unseen (D.put (.int .i64 m) d) T' B := by
  refine ⟨?_, fun n hn hne => ?_⟩
  · obtain ⟨es, rfl⟩ := h.1
    exact ⟨_, rfl⟩
  · obtain ⟨h1, h2⟩ := hT n hn hne
    rw [atKey_put_other (fun e => h1 (by injection e with _ e; omega))]
    exact h.2 n hn h2
theorem owns_map_below {w w' : World} {bm n : Nat} {D : DataW Unit} (h : w.ownsMap Try.prog 3 (plainElem Try.prog 4) bm n D) (hb : Below w.heap.size w w') : w'.ownsMap Try.prog 3 (plainElem Try.prog 4) bm n D := by
  have hlt := h.lt
  obtain ⟨es, clock, h1, F, hs, hD⟩ := h
  exact ⟨es, clock, (hb.block bm hlt).trans h1, F, hs, hD⟩
theorem not_map {w : World} {bm n : Nat} {D : DataW Unit} (h : w.ownsMap Try.prog 3 (plainElem Try.prog 4) bm n D) {b o : Nat} {v : Value} (hc : w.cell? ⟨b, o, none⟩ = some v) : some b ≠ some bm := by
  obtain ⟨es, clock, h1, _⟩ := h
  intro e
  have e' : b = bm := Option.some.inj e
  subst e'
  rw [World.cell?, h1] at hc
  cases hc
theorem pins_grown {w w' : World} {v : Value} {l : List (Int × Int)} {bm n : Nat} {D : DataW Unit} (h : PinsAt w v l) (hg : w.grownBy w' (some bm)) (hm : w.ownsMap Try.prog 3 (plainElem Try.prog 4) bm n D) : PinsAt w' v l := by
  obtain ⟨hl, c, h | ⟨b, o, h1, h2, h3⟩⟩ := h
  · exact ⟨hl, c, .inl h⟩
  · refine ⟨hl, c, .inr ⟨b, o, h1, Nat.lt_of_lt_of_le h2 hg.size, fun j hj => ?_⟩⟩
    obtain ⟨e1, e2⟩ := h3 j hj
    exact ⟨hg.cell e1 (not_map hm e1), hg.cell e2 (not_map hm e2)⟩
theorem op_grown {w w' : World} {g : Nat} {k n x : Int} {bm q : Nat} {D : DataW Unit} (h : OpAt w g k n x) (hg : w.grownBy w' (some bm)) (hm : w.ownsMap Try.prog 3 (plainElem Try.prog 4) bm q D) : OpAt w' g k n x :=
  ⟨hg.cell h.1 (not_map hm h.1), hg.cell h.2.1 (not_map hm h.2.1), hg.cell h.2.2 (not_map hm h.2.2)⟩
set_option maxHeartbeats 4000000 in
theorem comes_bad (v u : Value) (a b : List (Int × Int)) (w : World) (hP : PinsAt w v a) (hQ : PinsAt w u b) (he : Dk.diffErr a b ≠ 0) :
    Calls Try.prog 5 #[v, u] w fun e w' => e = .returned (.bool true) ∧ Below w.heap.size w w' := by
  have HC := diff_any v u a b w hP hQ
  have he' : (Dk.diffErr a b != 0) = true := by simpa using he
  clear he hP hQ
  go_enter Try.func5, Try.ntmps5
  go_wp2_with fail
  refine HC.mono ?_
  rintro e w1 ⟨⟨x, rfl, _⟩, hb1⟩
  go_wp2_with fail
  refine (parted_any _).mono ?_
  rintro e w2 ⟨rfl, hb2⟩
  go_wp2_with fail
  refine (parted_any _).mono ?_
  rintro e w3 ⟨rfl, hb3⟩
  go_wp2
  go_ret
  have h2 := hb1.trans (hb2.mono hb1.size)
  exact ⟨rfl, h2.trans (hb3.mono h2.size)⟩
set_option maxRecDepth 100000 in
set_option maxHeartbeats 8000000 in
theorem comes_good (v u : Value) (a b : List (Int × Int)) (w : World) (hP : PinsAt w v a) (hQ : PinsAt w u b) (hd : Dk.diffErr a b = 0) :
    Calls Try.prog 5 #[v, u] w fun e w' => e = .returned (.bool true) ∧ Below w.heap.size w w' := by
  have HC : Hid (Calls Try.prog 8 #[v, u] w fun e w' => (∃ x, e = .returned (.tuple #[x, .int .i64 0]) ∧ OpsAt w' x (Dk.steps (Dk.tb a) (Dk.tb b))) ∧ Below w.heap.size w w') := by
    have := diff_any v u a b w hP hQ
    rw [Dk.diffed, if_pos hd, hd] at this
    exact this
  have HP : Hid (PinsAt w v a) := hP
  have HQ : Hid (PinsAt w u b) := hQ
  have HON := fun (i : Nat) (o : Int × Int × Int) (ho : (Dk.steps (Dk.tb a) (Dk.tb b))[i]? = some o) => Dk.on_step hd ho
  have HEND := Dk.on_end hd
  have hA0 : Dk.pinsOf (Dk.tb a) = a := Dk.pins_tb (diffErr_ok hd).1
  have hsl := steps_len (Dk.tb a) (Dk.tb b)
  generalize Dk.steps (Dk.tb a) (Dk.tb b) = S at HC HON HEND hsl
  obtain ⟨TT, hTT⟩ : ∃ TT : Nat → List Int, TT = fun i => Dk.after (Dk.tb a) (S.take i) := ⟨_, rfl⟩
  have H0 : Hid (TT 0 = Dk.tb a) := by rw [hTT]; rfl
  have HON' : Hid (∀ (i : Nat) (o : Int × Int × Int), S[i]? = some o → Dk.betweenErr a b (Dk.pinsOf (TT i)) = 0 ∧ Dk.between a b (Dk.pinsOf (TT i)) = i ∧ Dk.diffErr (Dk.pinsOf (TT i)) b = 0 ∧ Dk.diffed (Dk.pinsOf (TT i)) b = S.drop i ∧ Dk.applyErr (Dk.pinsOf (TT i)) o = 0 ∧ Dk.applied (Dk.pinsOf (TT i)) o = Dk.pinsOf (TT (i + 1)) ∧ Lk.chk (Dk.pinsOf (TT (i + 1))) = 0 ∧ ∃ n : Nat, n < 21 ∧ o.2.1 = n ∧ (TT i).getD n 0 ≠ (Dk.tb b).getD n 0 ∧ ∀ m : Nat, m < 21 → (TT (i + 1)).getD m 0 ≠ (Dk.tb b).getD m 0 → m ≠ n ∧ (TT i).getD m 0 ≠ (Dk.tb b).getD m 0) := by rw [hTT]; exact HON
  have HEND' : Hid (Dk.pinsOf (TT S.length) = b ∧ Dk.diffErr b b = 0 ∧ Dk.diffed b b = []) := by rw [hTT]; exact HEND
  have HA0 : Hid (Dk.pinsOf (TT 0) = a) := by rw [H0.out]; exact hA0
  clear hP hQ hd HON HEND hA0 hTT H0
  have hmm := @run_makeMap Try.prog
  go_enter Try.func5, Try.ntmps5
  go_wp2_with fail
  refine HC.out.mono ?_
  rintro e w1 ⟨⟨x, rfl, hx⟩, hb1⟩
  obtain ⟨A, bs, os, cs, rfl, hS1, hS2⟩ := hx.open
  have HS1 : Hid (0 < S.length → A = some ⟨bs, os, none⟩ ∧ bs < w1.heap.size ∧ S.length ≤ cs) := hS1
  have HS2 : Hid (∀ j, j < S.length → w1.cell? ⟨bs, os + j * 3, none⟩ = some (.int .i64 (S.getD j (0, 0, 0)).1) ∧ w1.cell? ⟨bs, os + j * 3 + 1, none⟩ = some (.int .i64 (S.getD j (0, 0, 0)).2.1) ∧ w1.cell? ⟨bs, os + j * 3 + 2, none⟩ = some (.int .i64 (S.getD j (0, 0, 0)).2.2)) := hS2
  have HB1 : Hid (Below w.heap.size w w1) := hb1
  have HP1 : Hid (PinsAt w1 v a) := HP.out.below hb1
  have HQ1 : Hid (PinsAt w1 u b) := HQ.out.below hb1
  clear hS1 hS2 hx HC hb1 HP HQ
  go_wp2_with fail
  refine (parted_any _).mono ?_
  rintro e w2 ⟨rfl, hb2⟩
  have HB2 : Hid (Below w1.heap.size w1 w2) := hb2
  clear hb2
  go_wp2_with fail
  go_loopg [7, 32] S.length (fun g s7 s32 wr => ∃ k : Nat, ∃ D : DataW Unit, k ≤ S.length ∧ S.length - k ≤ g ∧ s32 = .int .i64 k ∧ Hid (PinsAt wr s7 (Dk.pinsOf (TT k))) ∧ Hid (wr.ownsMap Try.prog 3 (plainElem Try.prog 4) w2.heap.size k D) ∧ Hid (Unseen D (TT k) (Dk.tb b)) ∧ Hid (Below w1.heap.size w1 wr))
  case atStart => exact ⟨0, .map [], Nat.zero_le _, by omega, rfl, by rw [HA0.out]; exact (HP1.out.below HB2.out).below ((Below.refl _ _).alloc (Nat.le_refl _) _), World.ownsMap_made _ _ _ _, ⟨⟨_, rfl⟩, fun _ _ _ => rfl⟩, HB2.out.alloc HB2.out.size _⟩
  case round =>
    obtain ⟨k, D, hk, hg, rfl, HN, HM, HU, HW⟩ := hrel
    by_cases hlt : k < S.length
    · obtain ⟨rfl, hbs, _⟩ := HS1.out (by omega)
      obtain ⟨g1, g2, g3⟩ := HS2.out k hlt
      rw [← HW.out.cell (p := ⟨bs, _, none⟩) hbs] at g1 g2 g3
      clear HS1
      have hG : S[k]? = some (S.getD k (0, 0, 0)) := by rw [List.getD_eq_getElem?_getD, List.getElem?_eq_getElem hlt]; rfl
      obtain ⟨b1, b2, b3, b4, b5, b6, b7, n, hn, hno, hne, hnx⟩ := HON'.out k _ hG
      generalize S.getD k (0, 0, 0) = p at g1 g2 g3 b5 b6 hno
      obtain ⟨q, m, z⟩ := p
      simp only at g1 g2 g3 hno
      subst hno
      have hlk := fun (wx : World) (h : wx.ownsMap Try.prog 3 (plainElem Try.prog 4) w2.heap.size k D) => look_bool h n hn (HU.out.2 n hn hne)
      have HLK : Hid (∀ wx : World, wx.ownsMap Try.prog 3 (plainElem Try.prog 4) w2.heap.size k D → (Instr.lookup 42 (.map (some w2.heap.size)) (.int .i64 n) false).run Try.prog wx = .ok (.bool false) wx) := hlk
      have HU1 : Hid (Unseen (D.put (.int .i64 n) (.lit (.bool true))) (TT (k + 1)) (Dk.tb b)) := HU.out.put hnx _
      have hwf : (Lit.int .i64 (n : Int)).wf = true := WalkArith.wf_i64 (by omega)
      have HKEY : Hid (keyOf Try.prog 3 (.int .i64 n) = some (.int .i64 n)) := keyOf_int_mk Try.underlying3 hwf
      have HB1' : Hid (Dk.betweenErr a b (Dk.pinsOf (TT k)) = 0) := b1
      have HB2' : Hid (Dk.between a b (Dk.pinsOf (TT k)) = k) := b2
      have HB3' : Hid (Dk.diffErr (Dk.pinsOf (TT k)) b = 0) := b3
      have HB4' : Hid (Dk.diffed (Dk.pinsOf (TT k)) b = S.drop k) := b4
      have HB5' : Hid (Dk.applyErr (Dk.pinsOf (TT k)) (q, (n : Int), z) = 0) := b5
      have HB6' : Hid (Dk.applied (Dk.pinsOf (TT k)) (q, (n : Int), z) = Dk.pinsOf (TT (k + 1))) := b6
      have HB7' : Hid (Lk.chk (Dk.pinsOf (TT (k + 1))) = 0) := b7
      clear b1 b2 b3 b4 b5 b6 b7 hne hnx hlk hwf hG HU
      have hbo : Below wr.heap.size wr (wr.alloc (.cells #[.int .i64 q, .int .i64 (n : Int), .int .i64 z] 29)) := (Below.refl _ _).alloc (Nat.le_refl _) _
      have HN0 : Hid (PinsAt (wr.alloc (.cells #[.int .i64 q, .int .i64 (n : Int), .int .i64 z] 29)) u7 (Dk.pinsOf (TT k))) := HN.out.below hbo
      have HM0 : Hid ((wr.alloc (.cells #[.int .i64 q, .int .i64 (n : Int), .int .i64 z] 29)).ownsMap Try.prog 3 (plainElem Try.prog 4) w2.heap.size k D) := HM.out.alloc _
      have HW0 : Hid (Below w1.heap.size w1 (wr.alloc (.cells #[.int .i64 q, .int .i64 (n : Int), .int .i64 z] 29))) := HW.out.alloc HW.out.size _
      have HO0 : Hid (OpAt (wr.alloc (.cells #[.int .i64 q, .int .i64 (n : Int), .int .i64 z] 29)) wr.heap.size q n z) := ⟨by simp [go_sem], by simp [go_sem], by simp [go_sem]⟩
      have HSZ : Hid (wr.heap.size < (wr.alloc (.cells #[.int .i64 q, .int .i64 (n : Int), .int .i64 z] 29)).heap.size) := by rw [World.size_alloc]; exact Nat.lt_succ_self _
      have HBM : Hid (w2.heap.size < wr.heap.size) := HM.out.lt
      clear hbo
      go_wp2_with fail
      refine (between_any _ _ _ _ _ _ _ (HP1.out.below HW0.out) (HQ1.out.below HW0.out) HN0.out).mono ?_
      rintro e w3 ⟨rfl, hb3⟩
      rw [HB1'.out, HB2'.out]
      have HN3 : Hid (PinsAt w3 u7 (Dk.pinsOf (TT k))) := HN0.out.below hb3
      have HM3 := owns_map_below HM0.out hb3
      have HM3' : Hid (w3.ownsMap Try.prog 3 (plainElem Try.prog 4) w2.heap.size k D) := HM3
      have HW3 : Hid (Below w1.heap.size w1 w3) := HW0.out.trans (hb3.mono HW0.out.size)
      have HO3 : Hid (OpAt w3 wr.heap.size q n z) := HO0.out.below hb3 HSZ.out
      have HS3 : Hid (wr.heap.size < w3.heap.size) := Nat.lt_of_lt_of_le HSZ.out hb3.size
      obtain ⟨c0, c1, c2⟩ := HO3.out
      have hlook := HLK.out w3 HM3
      clear hb3 HM3 HN0 HM0 HW0 HO0 HSZ
      go_wp2_with (at_mapUpdate; refine wpList_mapUpdate_own _ rfl _ _ _ 42 rfl 3 4 keyedI Try.underlying42 _ w2.heap.size k D rfl HM3'.out (by unfold maxLen; omega) _ _ (.int .i64 n) rfl rfl HKEY.out (.lit (.bool true)) [] (plainElem_bool Try.underlying4 true) ?_; intro w4 hown4 hgrow4)
      have HN4 : Hid (PinsAt w4 u7 (Dk.pinsOf (TT k))) := pins_grown HN3.out hgrow4 HM3'.out
      have HO4 : Hid (OpAt w4 wr.heap.size q n z) := op_grown HO3.out hgrow4 HM3'.out
      have HW4 : Hid (Below w1.heap.size w1 w4) := HW3.out.grown hgrow4 HW3.out.size (fun j hj => by cases hj; exact HB2.out.size)
      have HM4 : Hid (w4.ownsMap Try.prog 3 (plainElem Try.prog 4) w2.heap.size (k + 1) (D.put (.int .i64 n) (.lit (.bool true)))) := hown4
      have HS4 : Hid (wr.heap.size < w4.heap.size) := Nat.lt_of_lt_of_le HS3.out hgrow4.size
      clear hown4 hgrow4 HN3 HO3 HW3 HM3' HS3 hlook c0 c1 c2 HLK HKEY
      go_wp2_with fail
      refine (diff_any _ _ _ _ _ HN4.out (HQ1.out.below HW4.out)).mono ?_
      rintro e w5 ⟨⟨x2, rfl, hx2⟩, hb5⟩
      rw [HB4'.out] at hx2
      rw [HB3'.out]
      obtain ⟨A2, b2, o2, c2, rfl, -, -⟩ := hx2.open
      have HN5 : Hid (PinsAt w5 u7 (Dk.pinsOf (TT k))) := HN4.out.below hb5
      have HW5 : Hid (Below w1.heap.size w1 w5) := HW4.out.trans (hb5.mono HW4.out.size)
      have HM5 : Hid (w5.ownsMap Try.prog 3 (plainElem Try.prog 4) w2.heap.size (k + 1) (D.put (.int .i64 n) (.lit (.bool true)))) := owns_map_below HM4.out hb5
      obtain ⟨c0, c1, c2⟩ := HO4.out.below hb5 HS4.out
      have hld : (S.drop k).length = S.length - k := List.length_drop
      rw [hld]
      obtain ⟨d, hd⟩ : ∃ d, d = S.length - k := ⟨_, rfl⟩
      rw [← hd]
      have hsub : ((d : Int) != (S.length : Int) - (k : Int)) = false := by simp only [bne_eq_false_iff_eq]; omega
      have hd42 : d ≤ 42 := by omega
      clear hb5 hx2 HN4 HW4 HM4 HO4 HS4 hld hd
      go_wp2_with fail
      refine (apply_any _ _ q n z _ HN5.out).mono ?_
      rintro e w6 ⟨⟨y2, rfl, hy2⟩, hb6⟩
      rw [HB6'.out] at hy2
      rw [HB5'.out]
      have HY6 : Hid (PinsAt w6 y2 (Dk.pinsOf (TT (k + 1)))) := hy2
      have HW6 : Hid (Below w1.heap.size w1 w6) := HW5.out.trans (hb6.mono HW5.out.size)
      have HM6 : Hid (w6.ownsMap Try.prog 3 (plainElem Try.prog 4) w2.heap.size (k + 1) (D.put (.int .i64 n) (.lit (.bool true)))) := owns_map_below HM5.out hb6
      clear hb6 hy2 HN5 HW5 HM5 c0 c1 c2
      go_wp2_with fail
      refine (check_any _ _ _ HY6.out).mono ?_
      rintro e w7 ⟨rfl, hb7⟩
      rw [HB7'.out]
      have HY7 : Hid (PinsAt w7 y2 (Dk.pinsOf (TT (k + 1)))) := HY6.out.below hb7
      have HW7 : Hid (Below w1.heap.size w1 w7) := HW6.out.trans (hb7.mono HW6.out.size)
      have HM7 : Hid (w7.ownsMap Try.prog 3 (plainElem Try.prog 4) w2.heap.size (k + 1) (D.put (.int .i64 n) (.lit (.bool true)))) := owns_map_below HM6.out hb7
      clear hb7 HY6 HW6 HM6
      go_wp2
      go_roundg (S.length - (k + 1))
      case measure => omega
      case rel => exact ⟨k + 1, D.put (.int .i64 n) (.lit (.bool true)), by omega, by omega, by go_num, HY7, HM7, HU1, HW7⟩
    · have hk' : k = S.length := by omega
      subst hk'
      clear hlt hk
      obtain ⟨e1, e2, e3⟩ := HEND'.out
      rw [e1] at HN
      have HE2 : Hid (Dk.diffErr b b = 0) := e2
      have HE3 : Hid (Dk.diffed b b = []) := e3
      clear e1 e2 e3 HON' HEND' HM HU
      go_wp2_with fail
      refine (diff_any _ _ _ _ _ (HQ1.out.below HW.out) (HQ1.out.below HW.out)).mono ?_
      rintro e w3 ⟨⟨x2, rfl, hx2⟩, hb3⟩
      rw [HE3.out] at hx2
      rw [HE2.out]
      obtain ⟨A2, b2, o2, c2, rfl, -, -⟩ := hx2.open
      have HN3 : Hid (PinsAt w3 u7 b) := HN.out.below hb3
      have HW3 : Hid (Below w1.heap.size w1 w3) := HW.out.trans (hb3.mono HW.out.size)
      clear hb3 hx2
      go_wp2_with fail
      refine (equal_any _ _ _ _ _ HN3.out (HQ1.out.below HW3.out)).mono ?_
      rintro e w4 ⟨rfl, hb4⟩
      rw [show Lk.same b b = true from decide_eq_true rfl]
      have HW4 : Hid (Below w1.heap.size w1 w4) := HW3.out.trans (hb4.mono HW3.out.size)
      clear hb4
      go_wp2
      go_ret
      exact ⟨rfl, HB1.out.trans (HW4.out.mono HB1.out.size)⟩
theorem comes_any (v u : Value) (a b : List (Int × Int)) (w : World) (hP : PinsAt w v a) (hQ : PinsAt w u b) :
    Calls Try.prog 5 #[v, u] w fun e w' => e = .returned (.bool true) ∧ Below w.heap.size w w' := by
  by_cases h : Dk.diffErr a b = 0
  · exact comes_good v u a b w hP hQ h
  · exact comes_bad v u a b w hP hQ h
end Go.Proofs.Ytjedjanlmjolkaa
