/- The contract of the document's RecText. -/
import Derived.Test.YtlnbcgjahjjpfacGreatDoorN6
import Derived.Test.YtlnbcgjahjjpfacGreatDoorMA
import Derived.Test.YtlnbcgjahjjpfacGreatDoorW10
import Derived.Lib.ItoaLen
namespace Go.Proofs.YtlnbcgjahjjpfacGreatDoor
open Go.RowKit Go.Maps
theorem keyedB : Keyed Tryz.prog 4 := bool_keyed Tryz.underlying4
def goodD : DataW Unit := DataW.put (.map []) (.bool true) (.lit (.int .i64 1))
theorem look_good {w : World} {b : Nat} (h : w.ownsMap Tryz.prog 4 (plainElem Tryz.prog 3) b 1 goodD) (g : Bool) :
    (Instr.lookup 84 (.map (some b)) (.bool g) false).run Tryz.prog w = .ok (.int .i64 (Lk.goodNum g)) w := by
  obtain ⟨c, hrun, hc, -⟩ := h.lookup_int keyedB Tryz.underlying84 Tryz.underlying3 (by kernel_rfl) (keyOf_bool_mk Tryz.underlying4 g)
  rw [hrun]
  have : c = Lk.goodNum g := by
    cases g
    · have e : goodD.atKey (.bool false) (.lit (.int .i64 0)) = (.lit (.int .i64 0) : DataW Unit) := by
        unfold goodD; rw [atKey_put_other (by simp)]; rfl
      rw [e] at hc
      simpa [Lk.goodNum] using hc.symm
    · have e : goodD.atKey (.bool true) (.lit (.int .i64 0)) = (.lit (.int .i64 1) : DataW Unit) := by
        unfold goodD; exact atKey_put_same ⟨_, rfl⟩ (by simp [WideAt.IsKeyLit]) _ _
      rw [e] at hc
      simpa [Lk.goodNum] using hc.symm
  rw [this]
def numText (ns : List Int) (k : Nat) : List UInt8 := ((ns.take k).map fun n => Lib.itoa n ++ [32]).flatten
theorem numText_zero (ns : List Int) : numText ns 0 = [] := by simp [numText]
theorem numText_next (ns : List Int) (k : Nat) (h : k < ns.length) : numText ns (k + 1) = numText ns k ++ (Lib.itoa (ns.getD k 0) ++ [32]) := by
  unfold numText
  rw [List.take_add_one, List.getElem?_eq_getElem h, List.getD_eq_getElem?_getD, List.getElem?_eq_getElem h, List.map_append, List.flatten_append]
  simp
theorem numText_all (ns : List Int) : numText ns ns.length = (ns.map fun n => Lib.itoa n ++ [32]).flatten := by simp [numText]
theorem str_num (t : List UInt8) (n : Int) : (⟨t.toArray⟩ : ByteArray) ++ (⟨(Lib.itoa n).toArray⟩ ++ ⟨#[32]⟩) = ⟨(t ++ (Lib.itoa n ++ [32])).toArray⟩ := by
  apply WideShapes.bytes_inj; simp
theorem str_end (t u : List UInt8) : (⟨t.toArray⟩ : ByteArray) ++ ⟨#[61]⟩ ++ ⟨u.toArray⟩ = ⟨(t ++ 61 :: u).toArray⟩ := by
  apply WideShapes.bytes_inj; simp
set_option maxHeartbeats 2000000 in
theorem recTextR_bad (r : Lk.Note) (v : Value) (w : World) (hP : PinsAt w v r.lock) (hw : (Lit.int .i64 r.kind).wf = true) (hc : ¬ Lk.chkNote r = 0) :
    Calls Tryz.prog 34 #[recV r v] w fun e w' => e = .returned (.tuple #[.string ⟨#[]⟩, .int .i64 (Lk.chkNote r)]) ∧ Below w.heap.size w w' := by
  obtain ⟨a, c, rfl⟩ := pins_slice hP
  have HC : Hid (∀ w, PinsAt w (.slice a r.lock.length c) r.lock → Calls Tryz.prog 49 #[recV r (.slice a r.lock.length c)] w fun e w' => e = .returned (.int .i64 (Lk.chkNote r)) ∧ Below w.heap.size w w') := fun w h => recR_any r _ w h hw
  have HP : Hid (PinsAt w (.slice a r.lock.length c) r.lock) := hP
  have hcb : (Lk.chkNote r != 0) = true := by rw [bne_iff_ne]; exact hc
  clear hP hw hc
  generalize Lk.chkNote r = CN at hcb HC ⊢
  unfold recV at HC ⊢
  obtain ⟨rk, ra, rt, rn, rg, ri, rl⟩ := r
  simp only at HC HP ⊢
  have hb0 : Below w.heap.size w (w.alloc (.cells #[.int .i64 rk, .int .i64 ra, .int .i64 rt, .int .i64 rn, .bool rg, .int .i64 ri, .slice a rl.length c] 29)) := (Below.refl _ w).alloc (Nat.le_refl _) _
  have HB0 : Hid (Below w.heap.size w (w.alloc (.cells #[.int .i64 rk, .int .i64 ra, .int .i64 rt, .int .i64 rn, .bool rg, .int .i64 ri, .slice a rl.length c] 29))) := hb0
  clear hb0
  go_enter Tryz.func34, Tryz.ntmps34
  go_wp2_with fail
  refine (HC.out _ (HP.out.below HB0.out)).mono ?_
  rintro e w1 ⟨rfl, hb1⟩
  go_wp2
  go_ret2
  exact ⟨rfl, HB0.out.trans (hb1.mono HB0.out.size)⟩
set_option maxHeartbeats 4000000 in
set_option maxRecDepth 100000 in
theorem recTextR_full (r : Lk.Note) (v : Value) (w : World) (hP : PinsAt w v r.lock) (hw : (Lit.int .i64 r.kind).wf = true) (hc : Lk.chkNote r = 0) (hE : Env w) :
    Calls Tryz.prog 34 #[recV r v] w fun e w' => e = .returned (.tuple #[.string ⟨(Lk.noteText r).toArray⟩, .int .i64 0]) ∧ Below w.heap.size w w' := by
  obtain ⟨a, c, rfl⟩ := pins_slice hP
  obtain ⟨hnum, hlk⟩ := Lk.note_ok hc
  have HC : Hid (∀ w, PinsAt w (.slice a r.lock.length c) r.lock → Calls Tryz.prog 49 #[recV r (.slice a r.lock.length c)] w fun e w' => e = .returned (.int .i64 0) ∧ Below w.heap.size w w') := fun w h => by rw [← hc]; exact recR_any r _ w h hw
  have HT : Hid (∀ w, PinsAt w (.slice a r.lock.length c) r.lock → Calls Tryz.prog 50 #[.slice a r.lock.length c] w fun e w' => e = .returned (.string ⟨(Lk.text r.lock).toArray⟩) ∧ Below w.heap.size w w') := fun w h => lockText_any _ _ w h hlk
  have htl : (Lk.text r.lock).length ≤ 72 := by
    obtain ⟨h1, h2⟩ := chk_ok hlk
    have := text_len r.lock h2
    omega
  have HN : Hid (∀ k, k < 6 → 0 ≤ r.nums.getD k 0 ∧ r.nums.getD k 0 ≤ 200) := fun k hk => by
    have hl : k < r.nums.length := hk
    refine hnum _ ?_
    rw [List.getD_eq_getElem?_getD, List.getElem?_eq_getElem hl]
    exact List.getElem_mem hl
  have HTX : Hid (Lk.noteText r = numText r.nums 6 ++ 61 :: Lk.text r.lock) := rfl
  have HP : Hid (PinsAt w (.slice a r.lock.length c) r.lock) := hP
  have HE : Hid (Env w) := hE
  have hnums : r.nums = [r.kind, r.agent, r.tr, r.n, Lk.goodNum r.good, r.id] := rfl
  clear hP hw hc hnum hlk hE
  generalize Lk.noteText r = TX at HTX ⊢
  generalize Lk.text r.lock = TL at HTX HT htl
  generalize r.nums = ns at HN HTX hnums
  unfold recV at HC ⊢
  obtain ⟨rk, ra, rt, rn, rg, ri, rl⟩ := r
  simp only at HC HP HT hnums ⊢
  have HNS : Hid (ns = [rk, ra, rt, rn, Lk.goodNum rg, ri]) := hnums
  clear hnums
  have HB0 : Hid (Below w.heap.size w (w.alloc (.cells #[.int .i64 rk, .int .i64 ra, .int .i64 rt, .int .i64 rn, .bool rg, .int .i64 ri, .slice a rl.length c] 29))) := (Below.refl _ w).alloc (Nat.le_refl _) _
  have HRec : Hid (RecAt (w.alloc (.cells #[.int .i64 rk, .int .i64 ra, .int .i64 rt, .int .i64 rn, .bool rg, .int .i64 ri, .slice a rl.length c] 29)) w.heap.size rk ra rt rn rg ri (.slice a rl.length c)) := recAt_alloc w rk ra rt rn rg ri (.slice a rl.length c)
  have hmm := @run_makeMap Tryz.prog
  go_enter Tryz.func34, Tryz.ntmps34
  go_wp2_with fail
  refine (HC.out _ (HP.out.below HB0.out)).mono ?_
  rintro e w1 ⟨rfl, hb1⟩
  have HB1 : Hid (Below w.heap.size w w1) := HB0.out.trans (hb1.mono HB0.out.size)
  have HR1 : Hid (RecAt w1 w.heap.size rk ra rt rn rg ri (.slice a rl.length c)) := HRec.out.below hb1
  clear hb1 HRec HB0 HC
  have M0 : Hid ((w1.alloc (.map #[] 0)).ownsMap (H := Unit) Tryz.prog 4 (plainElem Tryz.prog 3) w1.heap.size 0 (.map [])) := World.ownsMap_made _ _ _ _
  have B0 : Hid (Below w1.heap.size w1 (w1.alloc (.map #[] 0))) := (Below.refl _ _).alloc (Nat.le_refl _) _
  go_wp2_with (guard_target = wpList _ _ _ (Oper.mk _ (Op.insert _ _ _ _) _ _ _ _ :: _) _ _; refine wpList_insert_own _ rfl _ _ _ 84 rfl 4 3 keyedB Tryz.underlying84 _ w1.heap.size 0 (.map []) rfl M0.out (by unfold maxLen; omega) _ _ (.bool true) rfl rfl (keyOf_bool_mk Tryz.underlying4 true) (.lit (.int .i64 1)) [] (plainElem_int Tryz.underlying3 (by decide)) ?_; intro x1 o1 g1; have B1 : Hid (Below w1.heap.size w1 x1) := B0.out.grown g1 B0.out.size (fun j hj => by cases hj; exact Nat.le_refl _); clear g1; have hlk := look_good o1 rg; clear o1; have R1 := HR1.out.below B1.out; obtain ⟨c0, c1, c2, c3, c4, c5, c6, c7⟩ := R1)
  clear hmm hlk M0 B0
  have HBX : Hid (Below w.heap.size w x1) := HB1.out.trans (B1.out.mono HB1.out.size)
  have c6x : Hid (x1.cell? ⟨w.heap.size, 6, none⟩ = some (.slice a rl.length c)) := c7
  have HEx : Hid (Env x1) := HE.out.below HBX.out
  have HPx : Hid (PinsAt x1 (.slice a rl.length c) rl) := HP.out.below HBX.out
  have hc0 : Hid (w.heap.size < x1.heap.size) := c0
  clear c0 c1 c2 c3 c4 c5 c6 c7 HR1 HB1 B1 HE HP
  have HSL : Hid (∀ k : Nat, k < 6 → (x1.alloc (.cells #[.int .i64 rk, .int .i64 ra, .int .i64 rt, .int .i64 rn, .int .i64 (Lk.goodNum rg), .int .i64 ri] 3)).cell? ⟨x1.heap.size, k, none⟩ = some (.int .i64 (ns.getD k 0))) := fun k hk => by
    rw [HNS.out]
    rcases k with _ | _ | _ | _ | _ | _ | k
    iterate 6 simp [go_sem]
    omega
  have HBA : Hid (Below x1.heap.size x1 (x1.alloc (.cells #[.int .i64 rk, .int .i64 ra, .int .i64 rt, .int .i64 rn, .int .i64 (Lk.goodNum rg), .int .i64 ri] 3))) := (Below.refl _ _).alloc (Nat.le_refl _) _
  have HSZ : Hid (x1.heap.size < (x1.alloc (.cells #[.int .i64 rk, .int .i64 ra, .int .i64 rt, .int .i64 rn, .int .i64 (Lk.goodNum rg), .int .i64 ri] 3)).heap.size) := by rw [World.size_alloc]; exact Nat.lt_succ_self _
  generalize x1.alloc (.cells #[.int .i64 rk, .int .i64 ra, .int .i64 rt, .int .i64 rn, .int .i64 (Lk.goodNum rg), .int .i64 ri] 3) = W at HSL HBA HSZ ⊢
  go_loopg [6, 33] 6 (fun g s6 s33 wr => ∃ k : Nat, ∃ t : List UInt8, k ≤ 6 ∧ 6 - k ≤ g ∧ s6 = .string ⟨t.toArray⟩ ∧ s33 = .int .i64 k ∧ t.length ≤ 22 * k ∧ Hid (t = numText ns k) ∧ Hid (Below W.heap.size W wr))
  case atStart => exact ⟨0, [], Nat.zero_le _, by omega, rfl, rfl, by simp, (numText_zero ns).symm, Below.refl _ _⟩
  case round =>
    obtain ⟨k, t, hk, hg, rfl, rfl, htk, HTk, HW⟩ := hrel
    have HBr : Hid (Below x1.heap.size x1 wr) := HBA.out.trans (HW.out.mono HBA.out.size)
    by_cases hlt : k < 6
    · have g1 : wr.cell? ⟨x1.heap.size, k, none⟩ = some (.int .i64 (ns.getD k 0)) := (HW.out.cell (p := ⟨x1.heap.size, k, none⟩) HSZ.out).trans (HSL.out k hlt)
      have HNX : Hid (numText ns (k + 1) = numText ns k ++ (Lib.itoa (ns.getD k 0) ++ [32])) := numText_next ns k (by rw [HNS.out]; exact hlt)
      obtain ⟨h1, h2⟩ := HN.out k hlt
      generalize ns.getD k 0 = n at g1 HNX h1 h2
      have HI : Hid (∀ w, Env w → Calls Tryz.prog 42 #[.int .i64 n] w fun e w' => e = .returned (.string ⟨(Lib.itoa n).toArray⟩) ∧ Below w.heap.size w w') := fun w hE => itoa_any n (by omega) (by omega) w hE
      have hil := Lib.itoa_length_le n (by omega) (by omega)
      have HEr : Hid (Env wr) := HEx.out.below HBr.out
      clear h1 h2
      have hlt' : (k : Int) < 6 := by omega
      go_wp2_with fail
      refine (HI.out _ HEr.out).mono ?_
      rintro e w3 ⟨rfl, hb3⟩
      go_wp2
      go_roundg (6 - (k + 1))
      case measure => omega
      case rel => exact ⟨k + 1, t ++ (Lib.itoa n ++ [32]), by omega, by omega, by rw [str_num], by go_num, by simp; omega, by rw [HNX.out, HTk.out]; rfl, HW.out.trans (hb3.mono HW.out.size)⟩
    · have hk' : k = 6 := by omega
      subst hk'
      clear hk hlt
      have g6 : wr.cell? ⟨w.heap.size, 6, none⟩ = some (.slice a rl.length c) := (HBr.out.cell (p := ⟨w.heap.size, 6, none⟩) hc0.out).trans c6x.out
      have HX : Hid (TX = t ++ 61 :: TL) := by rw [HTX.out, HTk.out]; rfl
      go_wp2_with fail
      refine (HT.out _ (HPx.out.below HBr.out)).mono ?_
      rintro e w3 ⟨rfl, hb3⟩
      go_wp2
      go_ret2
      refine ⟨by rw [HX.out, str_end]; rfl, ?_⟩
      exact (HBX.out.trans (HBr.out.mono HBX.out.size)).trans (hb3.mono (Nat.le_trans HBX.out.size HBr.out.size))
theorem recTextR_any (r : Lk.Note) (v : Value) (w : World) (hP : PinsAt w v r.lock) (hw : (Lit.int .i64 r.kind).wf = true) (hE : Env w) :
    Calls Tryz.prog 34 #[recV r v] w fun e w' => e = .returned (.tuple #[.string ⟨(Lk.notePrinted r).toArray⟩, .int .i64 (Lk.chkNote r)]) ∧ Below w.heap.size w w' := by
  by_cases hc : Lk.chkNote r = 0
  · rw [show Lk.notePrinted r = Lk.noteText r from if_pos hc, hc]
    exact recTextR_full r v w hP hw hc hE
  · rw [show Lk.notePrinted r = [] from if_neg hc]
    exact recTextR_bad r v w hP hw hc
end Go.Proofs.YtlnbcgjahjjpfacGreatDoor
