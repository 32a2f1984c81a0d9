/- The contracts of the document's FirstBroken, its closure and slices.IndexFunc at rules. -/
import Derived.Test.YtcnnejndmafniaaR1
import Derived.Test.YtcnnejndmafniaaMT
import Derived.BigQuiet
import Derived.Deep.QuietTactic
namespace Go.Proofs.Ytcnnejndmafniaa
open Go.RowKit
set_option maxHeartbeats 2000000 in
theorem brkClose_any (n m : Nat) (v s : Int) (g : Nat) (t : List Int) (w : World) (hT : TabAt w g 94 t) (hl : t.length = 21) (hn : n < 21) (hm : m < 21) :
    Calls Try.prog 71 #[.agg #[.int .i64 n, .int .i64 v, .int .i64 m, .int .i64 s], .pointer (some ⟨g, 0, none⟩)] w fun e w' => e = .returned (.bool (Rk.brk t ((n : Int), v, (m : Int), s))) ∧ Below w.heap.size w w' := by
  have c1 := hT.cell n (by omega)
  have c2 := hT.cell m (by omega)
  have hlt := hT.lt
  have HB : Rk.brk t ((n : Int), v, (m : Int), s) = (decide (v ≤ t.getD n 0) && decide (t.getD m 0 < s)) := by simp [Rk.brk]
  have hd1 : ∀ o, (w.alloc o).cell? ⟨g, n, none⟩ = some (.int .i64 (t.getD n 0)) := fun o => (((Below.refl _ w).alloc (Nat.le_refl _) o).cell (p := ⟨g, n, none⟩) hlt).trans c1
  have hd2 : ∀ o, (w.alloc o).cell? ⟨g, m, none⟩ = some (.int .i64 (t.getD m 0)) := fun o => (((Below.refl _ w).alloc (Nat.le_refl _) o).cell (p := ⟨g, m, none⟩) hlt).trans c2
  generalize t.getD n 0 = x at c1 hd1 HB
  generalize t.getD m 0 = y at c2 hd2 HB
  have hn' : (n : Int) < 21 := by omega
  have hm' : (m : Int) < 21 := by omega
  by_cases h1 : v ≤ x
  · have HE : Hid (Rk.brk t ((n : Int), v, (m : Int), s) = decide (y < s)) := by rw [HB, decide_eq_true h1]; rfl
    clear HB hT hl
    go_enter Try.func71, Try.ntmps71
    go_wp2_with fail
    go_quiet (fail)
    go_wp2
    go_ret
    exact ⟨by rw [HE.out]; rfl, below_drewN ((Below.refl _ w).alloc (Nat.le_refl _) _) _⟩
  · have HE : Hid (Rk.brk t ((n : Int), v, (m : Int), s) = false) := by rw [HB, decide_eq_false h1]; rfl
    have h1' : decide (v ≤ x) = false := decide_eq_false h1
    clear HB hT hl h1
    go_enter Try.func71, Try.ntmps71
    go_wp2_with fail
    go_quiet (fail)
    go_wp2
    go_ret
    exact ⟨by rw [HE.out]; rfl, below_drewN ((Below.refl _ w).alloc (Nat.le_refl _) _) _⟩
theorem firstFrom_hit {t : List Int} {l : List Rk.Rl} {k : Nat} {p : Rk.Rl} (HD : l.drop k = p :: l.drop (k + 1)) (H : Rk.firstFrom t (l.drop k) k = Rk.first t l) (h : Rk.brk t p = true) : Rk.first t l = k := by
  rw [← H, HD, Rk.firstFrom, if_pos h]
theorem firstFrom_next {t : List Int} {l : List Rk.Rl} {k : Nat} {p : Rk.Rl} (HD : l.drop k = p :: l.drop (k + 1)) (H : Rk.firstFrom t (l.drop k) k = Rk.first t l) (h : Rk.brk t p = false) : Rk.firstFrom t (l.drop (k + 1)) ((k + 1 : Nat) : Int) = Rk.first t l := by
  rw [← H, HD, Rk.firstFrom, if_neg (by rw [h]; decide)]; rfl
set_option maxHeartbeats 2000000 in
theorem indexR_any (v : Value) (l : List Rk.Rl) (g : Nat) (t : List Int) (w : World) (hR : RulesAt w v l) (hT : TabAt w g 94 t) (hl : t.length = 21) (hok : Rk.ruleOk l) :
    Calls Try.prog 70 #[v, .func (.func 71) #[] #[.pointer (some ⟨g, 0, none⟩)]] w fun e w' => e = .returned (.int .i64 (Rk.first t l)) ∧ Below w.heap.size w w' := by
  obtain ⟨hll, A, b, o, c, rfl, -, hA, hC⟩ := hR
  have HA : Hid (0 < l.length → A = some ⟨b, o, none⟩ ∧ b < w.heap.size) := hA
  have HC : Hid (∀ j, j < l.length → w.cell? ⟨b, o + j * 4, none⟩ = some (.int .i64 (l.getD j (0, 0, 0, 0)).1) ∧ w.cell? ⟨b, o + j * 4 + 1, none⟩ = some (.int .i64 (l.getD j (0, 0, 0, 0)).2.1) ∧ w.cell? ⟨b, o + j * 4 + 2, none⟩ = some (.int .i64 (l.getD j (0, 0, 0, 0)).2.2.1) ∧ w.cell? ⟨b, o + j * 4 + 3, none⟩ = some (.int .i64 (l.getD j (0, 0, 0, 0)).2.2.2)) := hC
  have HT : Hid (TabAt w g 94 t) := hT
  have HL : Hid (t.length = 21) := hl
  have HK : Hid (Rk.ruleOk l) := hok
  clear hA hC hT hl hok
  go_enter Try.func70, Try.ntmps70
  go_wp2
  go_loopg [8] l.length (fun g s8 wr => ∃ k : Nat, k ≤ l.length ∧ l.length - k ≤ g ∧ s8 = .int .i64 k ∧ Hid (Rk.firstFrom t (l.drop k) k = Rk.first t l) ∧ Below w.heap.size w wr)
  case atStart => exact ⟨0, Nat.zero_le _, by omega, rfl, rfl, Below.refl _ _⟩
  case round =>
    obtain ⟨k, hk, hg, rfl, H, hb⟩ := hrel
    by_cases hlt : k < l.length
    · obtain ⟨rfl, hbw⟩ := HA.out (by omega)
      obtain ⟨g1, g2, g3, g4⟩ := HC.out k hlt
      rw [← hb.cell (p := ⟨b, _, none⟩) hbw] at g1 g2 g3 g4
      clear HA HC
      have HD := dropR_getD l k hlt
      have hin := HK.out (l.getD k (0, 0, 0, 0)) (by rw [List.getD_eq_getElem?_getD, List.getElem?_eq_getElem hlt]; exact List.getElem_mem hlt)
      generalize l.getD k (0, 0, 0, 0) = p at g1 g2 g3 g4 HD hin
      obtain ⟨n0, v, m0, s⟩ := p
      obtain ⟨hi1, hi2, -, -⟩ := hin
      simp only at g1 g2 g3 g4 hi1 hi2
      obtain ⟨n, rfl⟩ : ∃ n : Nat, n0 = n := ⟨n0.toNat, by omega⟩
      obtain ⟨m, rfl⟩ : ∃ m : Nat, m0 = m := ⟨m0.toNat, by omega⟩
      have hcl := brkClose_any n m v s g t wr (HT.out.below hb HT.out.lt) HL.out (by omega) (by omega)
      cases hbk : Rk.brk t ((n : Int), v, (m : Int), s) with
      | true =>
        have HF : Hid (Rk.first t l = k) := firstFrom_hit HD H.out hbk
        rw [hbk] at hcl
        clear hbk HD H hi1 hi2
        go_wp2_with fail
        refine hcl.mono ?_
        rintro e w1 ⟨rfl, hb1⟩
        go_wp2
        go_ret
        exact ⟨by rw [HF.out]; rfl, hb.trans (hb1.mono hb.size)⟩
      | false =>
        have HF : Hid (Rk.firstFrom t (l.drop (k + 1)) ((k + 1 : Nat) : Int) = Rk.first t l) := firstFrom_next HD H.out hbk
        rw [hbk] at hcl
        clear hbk HD H hi1 hi2
        go_wp2_with fail
        refine hcl.mono ?_
        rintro e w1 ⟨rfl, hb1⟩
        go_wp2
        go_roundg (l.length - (k + 1))
        case measure => omega
        case rel => exact ⟨k + 1, by omega, by omega, by go_num, HF, hb.trans (hb1.mono hb.size)⟩
    · have hk' : k = l.length := by omega
      have HB : Hid (Rk.first t l = -1) := by rw [← H.out, hk', List.drop_length]; rfl
      subst hk'
      clear hk hlt
      go_wp2
      go_ret
      exact ⟨by rw [HB.out]; rfl, hb⟩
set_option maxHeartbeats 2000000 in
theorem fbroken_bad1 (v u : Value) (a : List (Int × Int)) (w : World) (hP : PinsAt w v a) (he : Lk.chk a ≠ 0) :
    Calls Try.prog 36 #[v, u] w fun e w' => e = .returned (.tuple #[.int .i64 0, .int .i64 (Lk.chk a)]) ∧ Below w.heap.size w w' := by
  have he' : (Lk.chk a != 0) = true := by simpa using he
  clear he
  go_enter Try.func36, Try.ntmps36
  go_wp2_with fail
  refine (checkR_any _ _ _ hP).mono ?_
  rintro e w1 ⟨rfl, hb1⟩
  go_wp2
  go_ret2
  exact ⟨rfl, hb1⟩
set_option maxHeartbeats 2000000 in
theorem fbroken_bad2 (v u : Value) (a : List (Int × Int)) (r : List Rk.Rl) (w : World) (hP : PinsAt w v a) (hR : RulesAt w u r) (ha : Lk.chk a = 0) (he : Rk.rchk r ≠ 0) :
    Calls Try.prog 36 #[v, u] w fun e w' => e = .returned (.tuple #[.int .i64 0, .int .i64 (Rk.rchk r)]) ∧ Below w.heap.size w w' := by
  have he' : (Rk.rchk r != 0) = true := by simpa using he
  have HR : Hid (RulesAt w u r) := hR
  have HA : Hid (Lk.chk a = 0) := ha
  clear he hR ha
  go_enter Try.func36, Try.ntmps36
  go_wp2_with fail
  refine (checkR_any _ _ _ hP).mono ?_
  rintro e w1 ⟨rfl, hb1⟩
  rw [HA.out]
  go_wp2_with fail
  refine (rcheckR_any _ _ _ (HR.out.below hb1)).mono ?_
  rintro e w2 ⟨rfl, hb2⟩
  go_wp2
  go_ret2
  exact ⟨rfl, hb1.trans (hb2.mono hb1.size)⟩
set_option maxHeartbeats 2000000 in
theorem fbroken_good (v u : Value) (a : List (Int × Int)) (r : List Rk.Rl) (w : World) (hP : PinsAt w v a) (hR : RulesAt w u r) (ha : Lk.chk a = 0) (hr : Rk.rchk r = 0) :
    Calls Try.prog 36 #[v, u] w fun e w' => e = .returned (.tuple #[.int .i64 (Rk.first (Dk.tb a) r), .int .i64 0]) ∧ Below w.heap.size w w' := by
  have HP : Hid (PinsAt w v a) := hP
  have HR : Hid (RulesAt w u r) := hR
  have HA : Hid (Lk.chk a = 0) := ha
  have HB : Hid (Rk.rchk r = 0) := hr
  have HK : Hid (Rk.ruleOk r) := (Rk.rchk_ok hr).2
  clear hP hR ha hr
  go_enter Try.func36, Try.ntmps36
  go_wp2_with fail
  refine (checkR_any _ _ _ HP.out).mono ?_
  rintro e w1 ⟨rfl, hb1⟩
  rw [HA.out]
  go_wp2_with fail
  refine (rcheckR_any _ _ _ (HR.out.below hb1)).mono ?_
  rintro e w2 ⟨rfl, hb2⟩
  rw [HB.out]
  have hb12 := hb1.trans (hb2.mono hb1.size)
  clear hb1 hb2
  go_wp2_with fail
  refine (tableR_any _ _ _ (HP.out.below hb12) HA.out).mono ?_
  rintro e w3 ⟨rfl, hb3⟩
  have HB3 : Hid (Below w.heap.size w w3) := hb12.trans (hb3.mono hb12.size)
  have HB4 : Hid (Below w.heap.size w (w3.alloc (.cells (tcells (Dk.tb a)) 94))) := HB3.out.alloc HB3.out.size _
  clear hb12 hb3
  go_wp2_with (guard_target = wpList _ _ _ (Oper.mk _ (Op.store 94 (.tmp 8) _) _ _ _ _ :: _) _ _; refine stNR rfl (.tmp 8) (.tmp 20) rfl (by rfl) (Dk.tb a) (by rfl) (Dk.tb_len a) ?_)
  refine (indexR_any _ _ _ _ _ (HR.out.below HB4.out) (heap_alloc_last w3 _) (Dk.tb_len a) HK.out).mono ?_
  rintro e w5 ⟨rfl, hb5⟩
  have HB5 : Hid (Below w.heap.size w w5) := HB4.out.trans (hb5.mono HB4.out.size)
  clear hb5
  go_wp2
  go_ret2
  exact ⟨rfl, HB5.out⟩
theorem fbroken_any (v u : Value) (a : List (Int × Int)) (r : List Rk.Rl) (w : World) (hP : PinsAt w v a) (hR : RulesAt w u r) :
    Calls Try.prog 36 #[v, u] w fun e w' => e = .returned (.tuple #[.int .i64 (Rk.broken a r), .int .i64 (Rk.brokenErr a r)]) ∧ Below w.heap.size w w' := by
  by_cases ha : Lk.chk a = 0
  · have e : Rk.brokenErr a r = Rk.rchk r := by rw [Rk.brokenErr, if_pos ha]
    by_cases hr : Rk.rchk r = 0
    · rw [Rk.broken, if_pos (e.trans hr), e.trans hr]
      exact fbroken_good v u a r w hP hR ha hr
    · rw [Rk.broken, if_neg (by rw [e]; exact hr), e]
      exact fbroken_bad2 v u a r w hP hR ha hr
  · have e : Rk.brokenErr a r = Lk.chk a := by rw [Rk.brokenErr, if_neg ha]
    rw [Rk.broken, if_neg (by rw [e]; exact ha), e]
    exact fbroken_bad1 v u a w hP ha
end Go.Proofs.Ytcnnejndmafniaa
