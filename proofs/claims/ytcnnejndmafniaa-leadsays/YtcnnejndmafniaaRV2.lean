/- The contracts of rule.firstBroken, rule.tableFor and rule.Broken. -/
import Derived.Test.YtcnnejndmafniaaRV1
import Derived.Test.YtcnnejndmafniaaR2
import Derived.Test.YtcnnejndmafniaaMT
import Derived.Test.YtcnnejndmafniaaT4
namespace Go.Proofs.Ytcnnejndmafniaa
open Go.RowKit
set_option maxHeartbeats 4000000 in
theorem ffirst_any (t : List Int) (u : Value) (l : List Rk.Rl) (w : World) (ht : t.length = 21) (hR : RulesAt w u l) (hok : Rk.ruleOk l) :
    Calls Try.prog 90 #[.agg (tcells t), u] w fun e w' => e = .returned (.int .i64 (Rk.first t l)) ∧ Below w.heap.size w w' := by
  obtain ⟨hll, A, b, o, c, rfl, -, hA, hC⟩ := hR
  have HA : Hid (0 < l.length → A = some ⟨b, o, none⟩ ∧ b < w.heap.size) := hA
  have HC : Hid (∀ j, j < l.length → w.cell? ⟨b, o + j * 4, none⟩ = some (.int .i64 (l.getD j (0, 0, 0, 0)).1) ∧ w.cell? ⟨b, o + j * 4 + 1, none⟩ = some (.int .i64 (l.getD j (0, 0, 0, 0)).2.1) ∧ w.cell? ⟨b, o + j * 4 + 2, none⟩ = some (.int .i64 (l.getD j (0, 0, 0, 0)).2.2.1) ∧ w.cell? ⟨b, o + j * 4 + 3, none⟩ = some (.int .i64 (l.getD j (0, 0, 0, 0)).2.2.2)) := hC
  have HL : Hid (t.length = 21) := ht
  have HK : Hid (Rk.ruleOk l) := hok
  clear hA hC ht hok
  go_enter Try.func90, Try.ntmps90
  go_wp2
  go_loopg [9] l.length (fun g s9 wr => ∃ k : Nat, k ≤ l.length ∧ l.length - k ≤ g ∧ s9 = .int .i64 k ∧ Hid (Rk.firstFrom t (l.drop k) k = Rk.first t l) ∧ Hid (TabAt wr w.heap.size 120 t) ∧ Below w.heap.size w wr)
  case atStart => exact ⟨0, Nat.zero_le _, by omega, rfl, rfl, heap_alloc_last w _, (Below.refl _ w).alloc (Nat.le_refl _) _⟩
  case round =>
    obtain ⟨k, hk, hg, rfl, H, HT, hb⟩ := hrel
    by_cases hlt : k < l.length
    · obtain ⟨rfl, hbw⟩ := HA.out (by omega)
      obtain ⟨g1, g2, g3, g4⟩ := HC.out k hlt
      rw [← hb.cell (p := ⟨b, _, none⟩) hbw] at g1 g2 g3 g4
      clear HA HC
      have HD := dropR_getD l k hlt
      have hin := HK.out (l.getD k (0, 0, 0, 0)) (by rw [List.getD_eq_getElem?_getD, List.getElem?_eq_getElem hlt]; exact List.getElem_mem hlt)
      generalize l.getD k (0, 0, 0, 0) = p at g1 g2 g3 g4 HD hin
      obtain ⟨n0, v, m0, s⟩ := p
      obtain ⟨hi1, hi2, -, -⟩ := hin
      simp only at g1 g2 g3 g4 hi1 hi2
      obtain ⟨n, rfl⟩ : ∃ n : Nat, n0 = n := ⟨n0.toNat, by omega⟩
      obtain ⟨m, rfl⟩ : ∃ m : Nat, m0 = m := ⟨m0.toNat, by omega⟩
      have hn : n < 21 := by omega
      have hm : m < 21 := by omega
      have c1 := HT.out.cell n (by rw [HL.out]; exact hn)
      have c2 := HT.out.cell m (by rw [HL.out]; exact hm)
      have hsz := HT.out.lt
      have HBK : Rk.brk t ((n : Int), v, (m : Int), s) = (decide (v ≤ t.getD n 0) && decide (t.getD m 0 < s)) := by simp [Rk.brk]
      have HT' : Hid (∀ O, TabAt (wr.alloc O) w.heap.size 120 t) := fun O => HT.out.alloc O
      have HF1 : Hid (Rk.brk t ((n : Int), v, (m : Int), s) = true → Rk.first t l = k) := fun h => firstFrom_hit HD H.out h
      have HF2 : Hid (Rk.brk t ((n : Int), v, (m : Int), s) = false → Rk.firstFrom t (l.drop (k + 1)) ((k + 1 : Nat) : Int) = Rk.first t l) := fun h => firstFrom_next HD H.out h
      generalize t.getD n 0 = x at c1 HBK
      generalize t.getD m 0 = y at c2 HBK
      have hn' : (n : Int) < 21 := by omega
      have hm' : (m : Int) < 21 := by omega
      clear HD H hi1 hi2 HT
      by_cases h1 : v ≤ x
      · by_cases h2 : y < s
        · have HE : Hid (Rk.first t l = k) := HF1.out (by rw [HBK, decide_eq_true h1, decide_eq_true h2]; rfl)
          clear HBK HF1 HF2
          go_wp2_with fail
          go_quiet (fail)
          go_wp2
          go_ret
          exact ⟨by rw [HE.out]; rfl, below_drewN (hb.alloc hb.size _) _⟩
        · have HE : Hid (Rk.firstFrom t (l.drop (k + 1)) ((k + 1 : Nat) : Int) = Rk.first t l) := HF2.out (by rw [HBK, decide_eq_true h1, decide_eq_false h2]; rfl)
          have h2' : decide (y < s) = false := decide_eq_false h2
          clear HBK HF1 HF2 h2
          go_wp2_with fail
          go_quiet (fail)
          go_wp2
          go_roundg (l.length - (k + 1))
          case measure => omega
          case rel => exact ⟨k + 1, by omega, by omega, by go_num, HE, HT'.out _, below_drewN (hb.alloc hb.size _) _⟩
      · have HE : Hid (Rk.firstFrom t (l.drop (k + 1)) ((k + 1 : Nat) : Int) = Rk.first t l) := HF2.out (by rw [HBK, decide_eq_false h1]; rfl)
        have h1' : decide (v ≤ x) = false := decide_eq_false h1
        clear HBK HF1 HF2 h1
        go_wp2_with fail
        go_quiet (fail)
        go_wp2
        go_roundg (l.length - (k + 1))
        case measure => omega
        case rel => exact ⟨k + 1, by omega, by omega, by go_num, HE, HT'.out _, below_drewN (hb.alloc hb.size _) _⟩
    · have hk' : k = l.length := by omega
      have HB : Hid (Rk.first t l = -1) := by rw [← H.out, hk', List.drop_length]; rfl
      subst hk'
      clear hk hlt
      go_wp2
      go_ret
      exact ⟨by rw [HB.out]; rfl, hb⟩
/-- the table that rule.tableFor answers -/
def forTab (a : List (Int × Int)) (r : List Rk.Rl) : List Int := if Rk.brokenErr a r = 0 then Dk.tb a else zero21
theorem forTab_len (a : List (Int × Int)) (r : List Rk.Rl) : (forTab a r).length = 21 := by
  unfold forTab; split
  · exact Dk.tb_len a
  · rfl
set_option maxHeartbeats 4000000 in
theorem for_any (v u : Value) (a : List (Int × Int)) (r : List Rk.Rl) (w : World) (hP : PinsAt w v a) (hR : RulesAt w u r) :
    Calls Try.prog 89 #[v, u] w fun e w' => e = .returned (.tuple #[.agg (tcells (forTab a r)), .int .i64 (Rk.brokenErr a r)]) ∧ Below w.heap.size w w' := by
  have HP : Hid (PinsAt w v a) := hP
  have HR : Hid (RulesAt w u r) := hR
  have HE : Hid (orr [Lk.chk a, Rk.rchk r] = Rk.brokenErr a r) := by
    rw [orr2, Rk.brokenErr]; rfl
  have HB0 : Hid (∀ O, Below w.heap.size w (w.alloc O)) := fun O => (Below.refl _ w).alloc (Nat.le_refl _) O
  clear hP hR
  go_enter Try.func89, Try.ntmps89
  go_wp2_with fail
  refine (of_any _ _ _ (HP.out.below (HB0.out _))).mono ?_
  rintro e w1 ⟨rfl, hb1⟩
  have H0 : Hid (TabAt w1 w.heap.size 120 (List.replicate 21 0)) := TabAt.below (t := List.replicate 21 0) (heap_alloc_last w _) hb1 (by simp)
  have HB1 : Hid (Below w.heap.size w w1) := (HB0.out _).trans (hb1.mono (by simp))
  have hs1 : w.heap.size < w1.heap.size := H0.out.lt
  clear hb1 HB0
  go_wp2_with (guard_target = wpList _ _ _ (Oper.mk _ (Op.store 120 (.tmp 6) _) _ _ _ _ :: _) _ _; refine stNV rfl (.tmp 6) (.tmp 12) rfl (by rfl) (ofTab a) (by rfl) (ofTab_len a) ?_)
  have HB2 : Hid (Below w.heap.size w (w1.alloc (.cells (tcells (ofTab a)) 120))) := HB1.out.alloc HB1.out.size _
  refine (rcheck_any _ _ _ (HR.out.below HB2.out)).mono ?_
  rintro e w2 ⟨rfl, hb2⟩
  have H6 : Hid (TabAt w2 w1.heap.size 120 (ofTab a)) := TabAt.below (heap_alloc_last w1 _) hb2 (by simp)
  have H4 : Hid (TabAt w2 w.heap.size 120 (List.replicate 21 0)) := (H0.out.alloc _).below hb2 (by simp; omega)
  have HB3 : Hid (Below w.heap.size w w2) := HB2.out.trans (hb2.mono HB2.out.size)
  clear hb2 HB2 HB1 H0
  go_wp2_with fail
  refine (or_any _ _ [Lk.chk a, Rk.rchk r] _ (by simp) (cells2 _ _ _ _)).mono ?_
  rintro e w3 ⟨rfl, hb3⟩
  rw [HE.out]
  have hs2 := H6.out.lt
  have H63 : Hid (TabAt w3 w1.heap.size 120 (ofTab a)) := (H6.out.alloc _).below hb3 (by simp; omega)
  have H43 : Hid (TabAt w3 w.heap.size 120 (List.replicate 21 0)) := (H4.out.alloc _).below hb3 (by simp; omega)
  have HB4 : Hid (Below w.heap.size w w3) := (HB3.out.alloc HB3.out.size _).trans (hb3.mono (by simp; omega))
  clear hb3 HB3 H6 H4
  by_cases h0 : Rk.brokenErr a r = 0
  · have HO : Hid (ofTab a = Dk.tb a) := by
      rw [ofTab, if_pos (Rk.brokenErr_ok h0).1]; rfl
    have HF : Hid (forTab a r = Dk.tb a) := by rw [forTab, if_pos h0]; rfl
    rw [HO.out] at H63
    have H00 : Hid (Rk.brokenErr a r = 0) := h0
    rw [h0]
    clear h0 HE
    go_wp2_with (first | (guard_target = wpList _ _ _ (Oper.mk _ (Op.load 120 (.tmp 6)) _ _ _ _ :: _) _ _; refine ldV (t := Dk.tb a) rfl (.tmp 6) rfl w1.heap.size (by rfl) H63.out (Dk.tb_len a) ?_) | (guard_target = wpList _ _ _ (Oper.mk _ (Op.store 120 (.tmp 4) _) _ _ _ _ :: _) _ _; refine stV rfl (.tmp 4) (.tmp 23) rfl w.heap.size (by rfl) (Dk.tb a) (by rfl) H43.out rfl (Dk.tb_len a) ?_))
    refine bodyPost_ret (v := .tuple #[.agg (tcells (Dk.tb a)), .int .i64 0]) (results_rowV rfl _ _ w.heap.size 120 _ (0, 0) _ rfl (H43.out.row (Dk.tb a)) Try.underlying120 rfl (by rw [tcells_size, Dk.tb_len]; exact info21V) _ rfl) rfl ⟨by rw [HF.out, H00.out], below_setRow HB4.out (Nat.le_refl _) _⟩
  · have HF : Hid (forTab a r = zero21) := by rw [forTab, if_neg h0]; rfl
    have h0' : (Rk.brokenErr a r != 0) = true := by simpa using h0
    clear h0 HE
    go_wp2_with (guard_target = wpList _ _ _ (Oper.mk _ (Op.store 120 (.tmp 4) _) _ _ _ _ :: _) _ _; refine stV rfl (.tmp 4) (.tmp 21) rfl w.heap.size (by rfl) zero21 (by rfl) H43.out rfl rfl ?_)
    refine bodyPost_ret (v := .tuple #[.agg (tcells zero21), .int .i64 (Rk.brokenErr a r)]) (results_rowV rfl _ _ w.heap.size 120 _ (0, 0) _ rfl (H43.out.row zero21) Try.underlying120 rfl (by rw [tcells_size]; kernel_rfl) _ rfl) rfl ⟨by rw [HF.out], below_setRow HB4.out (Nat.le_refl _) _⟩
set_option maxHeartbeats 4000000 in
theorem broken_any (v u : Value) (a : List (Int × Int)) (r : List Rk.Rl) (w : World) (hP : PinsAt w v a) (hR : RulesAt w u r) :
    Calls Try.prog 73 #[v, u] w fun e w' => e = .returned (.tuple #[.int .i64 (Rk.broken a r), .int .i64 (Rk.brokenErr a r)]) ∧ Below w.heap.size w w' := by
  have HC := for_any v u a r w hP hR
  have HR : Hid (RulesAt w u r) := hR
  clear hP hR
  go_enter Try.func73, Try.ntmps73
  go_wp2_with fail
  refine HC.mono ?_
  rintro e w1 ⟨rfl, hb1⟩
  clear HC
  have HB1 : Hid (Below w.heap.size w w1) := hb1
  clear hb1
  by_cases h0 : Rk.brokenErr a r = 0
  · have HF : Hid (forTab a r = Dk.tb a) := by rw [forTab, if_pos h0]; rfl
    have HV : Hid (Rk.broken a r = Rk.first (Dk.tb a) r) := by rw [Rk.broken, if_pos h0]; rfl
    have HK : Hid (Rk.ruleOk r) := (Rk.rchk_ok (Rk.brokenErr_ok h0).2).2
    have H00 : Hid (Rk.brokenErr a r = 0) := h0
    rw [HF.out, h0]
    have HB2 : Hid (Below w.heap.size w (w1.alloc (.cells (tcells (Dk.tb a)) 120))) := HB1.out.alloc HB1.out.size _
    have HT : Hid (TabAt (w1.alloc (.cells (tcells (Dk.tb a)) 120)) w1.heap.size 120 (Dk.tb a)) := heap_alloc_last w1 _
    clear h0
    go_wp2_with (first | (guard_target = wpList _ _ _ (Oper.mk _ (Op.store 120 (.tmp 6) _) _ _ _ _ :: _) _ _; refine stNV rfl (.tmp 6) (.tmp 12) rfl (by rfl) (Dk.tb a) (by rfl) (Dk.tb_len a) ?_) | (guard_target = wpList _ _ _ (Oper.mk _ (Op.load 120 (.tmp 6)) _ _ _ _ :: _) _ _; refine ldV (t := Dk.tb a) rfl (.tmp 6) rfl w1.heap.size (by rfl) HT.out (Dk.tb_len a) ?_))
    refine (ffirst_any _ _ _ _ (Dk.tb_len a) (HR.out.below HB2.out) HK.out).mono ?_
    rintro e w2 ⟨rfl, hb2⟩
    have HB3 : Hid (Below w.heap.size w w2) := HB2.out.trans (hb2.mono HB2.out.size)
    clear hb2
    go_wp2
    go_ret2
    exact ⟨by rw [HV.out, H00.out]; rfl, HB3.out⟩
  · have HV : Hid (Rk.broken a r = 0) := by rw [Rk.broken, if_neg h0]; rfl
    have h0' : (Rk.brokenErr a r != 0) = true := by simpa using h0
    clear h0
    go_wp2_with (guard_target = wpList _ _ _ (Oper.mk _ (Op.store 120 (.tmp 6) _) _ _ _ _ :: _) _ _; refine stNV rfl (.tmp 6) (.tmp 12) rfl (by rfl) (forTab a r) (by rfl) (forTab_len a r) ?_)
    go_ret2
    exact ⟨by rw [HV.out]; rfl, HB1.out.alloc HB1.out.size _⟩
end Go.Proofs.Ytcnnejndmafniaa
