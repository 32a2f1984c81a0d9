import Derived.Test.YtlnbcgjahjjpfacGreatDoorD2
import Derived.Laws.BytesArg
import Derived.BigQuiet
import Derived.Deep.QuietTactic
/- Slices of bytes; the contract of the document's CheckDisk. -/
namespace Go.Proofs.YtlnbcgjahjjpfacGreatDoor
open Go.RowKit
/-- a slice of bytes, the empty and the nil one too -/
def BytesAt (w : World) (v : Value) (l : List UInt8) : Prop :=
  l.length ≤ 140737488355328 ∧ ∃ c, l.length ≤ c ∧ ((l = [] ∧ ∃ a, v = .slice a 0 c ∧ (a = none → c = 0)) ∨ (∃ b o, v = .slice (some ⟨b, o, none⟩) l.length c ∧ b < w.heap.size ∧ ∀ j, j < l.length → w.cell? ⟨b, o + j, none⟩ = some (.int .u8 ((l.getD j 0).toNat : Int))))
theorem BytesAt.below {w w' : World} {v : Value} {l : List UInt8} (h : BytesAt w v l) (hb : Below w.heap.size w w') : BytesAt w' v l := by
  obtain ⟨hl, c, hc, h | ⟨b, o, h1, h2, h3⟩⟩ := h
  · exact ⟨hl, c, hc, .inl h⟩
  · exact ⟨hl, c, hc, .inr ⟨b, o, h1, Nat.lt_of_lt_of_le h2 hb.size, fun j hj => (hb.cell (p := ⟨b, o + j, none⟩) h2).trans (h3 j hj)⟩⟩
theorem bytes_slice {w : World} {v : Value} {l : List UInt8} (h : BytesAt w v l) : ∃ a c, v = .slice a l.length c := by
  obtain ⟨_, c, _, ⟨rfl, a, rfl, _⟩ | ⟨b, o, rfl, _⟩⟩ := h
  · exact ⟨a, c, rfl⟩
  · exact ⟨_, c, rfl⟩
theorem bytes_none (w : World) : BytesAt w (.slice none 0 0) [] := ⟨by simp, 0, by simp, .inl ⟨rfl, none, rfl, fun _ => rfl⟩⟩
theorem nums_back (l : List UInt8) : strOfNums (l.map fun b => (b.toNat : Int)) = ⟨l.toArray⟩ := by
  unfold strOfNums
  rw [List.map_map]
  have : ((fun n : Int => UInt8.ofNat n.toNat) ∘ fun b : UInt8 => (b.toNat : Int)) = id := by funext b; simp
  rw [this, List.map_id]
/-- 'string(b)' -/
theorem str_of {w : World} {v : Value} {l : List UInt8} (h : BytesAt w v l) : (convert 22 9 v).run Tryz.prog w = .ok (.string ⟨l.toArray⟩) w := by
  obtain ⟨_, c, _, ⟨rfl, a, rfl, _⟩ | ⟨b, o, rfl, _, h3⟩⟩ := h
  · cases a with
    | none => exact run_convert_bytes_nil w 22 5 Tryz.underlying22 Tryz.underlying5 0 c 9 Tryz.underlying9
    | some ad =>
      have hl : (loadCells ad 0).run Tryz.prog w = .ok (([] : List Int).map (Value.int .u8)).toArray w := by
        have := run_loadCells_list (P := Tryz.prog) w ad [] (fun j v hj => by simp at hj)
        simpa using this
      rw [run_convert_bytes_string w 22 9 5 _ 0 c Tryz.underlying22 Tryz.underlying5 Tryz.underlying9, run_bytesToString w _ 0 c [] hl]
      rfl
  · have := run_convert_bytes_arg w 22 5 Tryz.underlying22 Tryz.underlying5 b o l.length c (l.map fun b => (b.toNat : Int)) (by simp) (fun i hi => by
      rw [h3 i hi]
      congr 2
      simp [List.getElem?_eq_getElem hi]) 9 Tryz.underlying9
    rw [nums_back] at this
    exact this
theorem chk_many {d : Lk.Disk} (h : Lk.tooMany d = true) : Lk.chkDisk d = 2 := by unfold Lk.chkDisk; rw [if_pos h]
theorem chk_lines {d : Lk.Disk} (h : Lk.tooMany d = false) : Lk.chkDisk d = (Lk.linesOf d.safe 200).2.2 := by unfold Lk.chkDisk; rw [if_neg (by rw [h]; decide)]
set_option maxHeartbeats 2000000 in
set_option maxRecDepth 100000 in
theorem checkDiskR_any (vs vw : Value) (ls lw : List UInt8) (w : World) (hE : Env w) (hS : BytesAt w vs ls) (hW : BytesAt w vw lw) :
    Calls Tryz.prog 9 #[.agg #[vs, vw]] w fun e w' => e = .returned (.int .i64 (Lk.chkDisk ⟨ls, lw⟩)) ∧ Below w.heap.size w w' := by
  obtain ⟨a, c, rfl⟩ := bytes_slice hS
  obtain ⟨a', c', rfl⟩ := bytes_slice hW
  have HE : Hid (Env w) := hE
  have HS : Hid (BytesAt w (.slice a ls.length c) ls) := hS
  have hsl := hS.1
  have hwl := hW.1
  have HB0 : Hid (Below w.heap.size w (w.alloc (.cells #[.slice a ls.length c, .slice a' lw.length c'] 24))) := (Below.refl _ w).alloc (Nat.le_refl _) _
  clear hE hS hW
  by_cases h1 : 60000 < ls.length
  · have HQ : Hid (Lk.chkDisk ⟨ls, lw⟩ = 2) := chk_many (by simp only [Lk.tooMany, Bool.or_eq_true, decide_eq_true_eq]; omega)
    have h1' : (60000 : Int) < (ls.length : Int) := by omega
    generalize Lk.chkDisk ⟨ls, lw⟩ = CD at HQ ⊢
    go_enter Tryz.func9, Tryz.ntmps9
    go_wp2
    go_ret
    exact ⟨by rw [HQ.out]; rfl, HB0.out⟩
  · by_cases h2 : 60000 - ls.length < lw.length
    · have HQ : Hid (Lk.chkDisk ⟨ls, lw⟩ = 2) := chk_many (by simp only [Lk.tooMany, Bool.or_eq_true, decide_eq_true_eq]; omega)
      have h1' : (ls.length : Int) ≤ 60000 := by omega
      have h2' : (60000 : Int) - (ls.length : Int) < (lw.length : Int) := by omega
      generalize Lk.chkDisk ⟨ls, lw⟩ = CD at HQ ⊢
      go_enter Tryz.func9, Tryz.ntmps9
      go_wp2
      go_ret
      exact ⟨by rw [HQ.out]; rfl, HB0.out⟩
    · have HQ : Hid (Lk.chkDisk ⟨ls, lw⟩ = (Lk.linesOf ls 200).2.2) := chk_lines (by simp only [Lk.tooMany, Bool.or_eq_false_iff, decide_eq_false_iff_not]; omega)
      have h1' : (ls.length : Int) ≤ 60000 := by omega
      have h2' : (lw.length : Int) ≤ (60000 : Int) - (ls.length : Int) := by omega
      have HL : Hid (∀ w, Env w → Calls Tryz.prog 31 #[.string ⟨ls.toArray⟩, .int .i64 200] w fun e w' => linedR w.heap.size w' (Lk.linesOf ls 200) e ∧ Below w.heap.size w w') := fun w hE => linesR_any ⟨ls.toArray⟩ (by show ls.toArray.size ≤ 60000; rw [List.size_toArray]; omega) 200 (by decide) w hE
      have hcv := str_of (HS.out.below HB0.out)
      generalize Lk.chkDisk ⟨ls, lw⟩ = CD at HQ ⊢
      generalize Lk.linesOf ls 200 = Q at HQ HL
      generalize (⟨ls.toArray⟩ : ByteArray) = S at HL hcv
      go_enter Tryz.func9, Tryz.ntmps9
      go_wp2_with fail
      refine (HL.out _ (HE.out.below HB0.out)).mono ?_
      rintro e w1 ⟨⟨v, ps, rfl, _, _, _⟩, hb1⟩
      go_wp2
      go_ret
      exact ⟨by rw [HQ.out]; rfl, HB0.out.trans (hb1.mono HB0.out.size)⟩
end Go.Proofs.YtlnbcgjahjjpfacGreatDoor
/- Contracts of slices.Equal at slices of bytes and of the document's SameDisk. -/
namespace Go.Proofs.YtlnbcgjahjjpfacGreatDoor
open Go.RowKit
def sameB (l m : List UInt8) : Bool := decide (l = m)
theorem sameB_of {l m : List UInt8} (hn : l.length = m.length) (h : ∀ j, j < l.length → l.getD j 0 = m.getD j 0) : sameB l m = true := by
  refine decide_eq_true (List.ext_getElem hn fun j h1 h2 => ?_)
  have := h j h1
  rwa [List.getD_eq_getElem?_getD, List.getD_eq_getElem?_getD, List.getElem?_eq_getElem h1, List.getElem?_eq_getElem h2] at this
theorem sameB_not {l m : List UInt8} {j : Nat} (h : l.getD j 0 ≠ m.getD j 0) : sameB l m = false := decide_eq_false fun e => h (by rw [e])
theorem sameB_len {l m : List UInt8} (h : l.length ≠ m.length) : sameB l m = false := decide_eq_false fun e => h (by rw [e])
set_option maxHeartbeats 400000 in
theorem equalB_len (a1 a2 : Option Addr) (n c m d : Nat) (w : World) (h : n ≠ m) :
    Calls Tryz.prog 33 #[.slice a1 n c, .slice a2 m d] w fun e w' => e = .returned (.bool false) ∧ Below w.heap.size w w' := by
  have h' : ((n : Int) != (m : Int)) = true := by rw [bne_iff_ne]; omega
  go_enter Tryz.func33, Tryz.ntmps33
  go_wp2
  go_ret
  exact ⟨rfl, Below.refl _ _⟩
set_option maxHeartbeats 400000 in
theorem equalB_none (a1 a2 : Option Addr) (c d : Nat) (w : World) :
    Calls Tryz.prog 33 #[.slice a1 0 c, .slice a2 0 d] w fun e w' => e = .returned (.bool true) ∧ Below w.heap.size w w' := by
  go_enter Tryz.func33, Tryz.ntmps33
  go_wp2
  go_loopg [13] 0 (fun g s13 wr => s13 = .int .i64 0 ∧ wr = w)
  case atStart => exact ⟨rfl, rfl⟩
  case round =>
    obtain ⟨rfl, rfl⟩ := hrel
    go_wp2
    go_ret
    exact ⟨rfl, Below.refl _ _⟩
theorem byte_ne {x y : UInt8} : (((x.toNat : Int)) != (y.toNat : Int)) = !(x == y) := by
  by_cases h : x = y
  · subst h; simp
  · have : x.toNat ≠ y.toNat := fun e => h (UInt8.toNat_inj.1 e)
    have h2 : ((x.toNat : Int)) ≠ (y.toNat : Int) := by omega
    rw [bne_iff_ne.2 h2]; simp [h]
set_option maxHeartbeats 1000000 in
theorem equalB_full (b1 o1 c b2 o2 d : Nat) (l m : List UInt8) (w : World) (hl : l.length ≤ 140737488355328) (hn : l.length = m.length)
    (hP : ∀ j, j < l.length → w.cell? ⟨b1, o1 + j, none⟩ = some (.int .u8 ((l.getD j 0).toNat : Int))) (hQ : ∀ j, j < m.length → w.cell? ⟨b2, o2 + j, none⟩ = some (.int .u8 ((m.getD j 0).toNat : Int))) :
    Calls Tryz.prog 33 #[.slice (some ⟨b1, o1, none⟩) l.length c, .slice (some ⟨b2, o2, none⟩) l.length d] w fun e w' => e = .returned (.bool (sameB l m)) ∧ Below w.heap.size w w' := by
  have HN : Hid (l.length = m.length) := hn
  clear hn
  go_enter Tryz.func33, Tryz.ntmps33
  go_wp2
  go_loopg [13] l.length (fun g s13 wr => ∃ k q : Nat, k ≤ l.length ∧ l.length - k ≤ g ∧ s13 = .int .i64 k ∧ wr = w.drewN q ∧ Hid (∀ j, j < k → l.getD j 0 = m.getD j 0))
  case atStart => exact ⟨0, 0, Nat.zero_le _, by omega, rfl, rfl, fun j hj => absurd hj (Nat.not_lt_zero _)⟩
  case round =>
    obtain ⟨k, q, hk, hg, rfl, rfl, A⟩ := hrel
    by_cases hlt : k < l.length
    · have g1 := hP k hlt
      have g3 := hQ k (by rw [← HN.out]; exact hlt)
      have HM : Hid (l.getD k 0 = m.getD k 0 → ∀ j, j < k + 1 → l.getD j 0 = m.getD j 0) := fun e j hj => by
        by_cases h : j = k
        · subst h; exact e
        · exact A.out j (by omega)
      have HF : Hid (l.getD k 0 ≠ m.getD k 0 → sameB l m = false) := fun e => sameB_not e
      generalize l.getD k 0 = x at g1 HM HF
      generalize m.getD k 0 = y at g3 HM HF
      clear hP hQ A
      by_cases he : x = y
      · have hb : (((x.toNat : Int)) != (y.toNat : Int)) = false := by rw [he]; simp
        have HE : Hid (∀ j, j < k + 1 → l.getD j 0 = m.getD j 0) := HM.out he
        clear HM HF he
        go_wp2_with fail
        go_quiet (fail)
        go_wp2
        go_roundg (l.length - (k + 1))
        case measure => omega
        case rel => exact ⟨k + 1, q + nq, by omega, by omega, by go_num, by simp, HE⟩
      · have hb : (((x.toNat : Int)) != (y.toNat : Int)) = true := by rw [byte_ne]; simp [he]
        have HE : Hid (sameB l m = false) := HF.out he
        clear HM HF he
        go_wp2_with fail
        go_quiet (fail)
        go_wp2
        go_ret
        exact ⟨by rw [HE.out]; rfl, below_drewN (below_drewN (Below.refl _ _) _) _⟩
    · have hk' : k = l.length := by omega
      have HE : Hid (sameB l m = true) := sameB_of HN.out (by subst hk'; exact A.out)
      subst hk'
      clear hk hlt hP hQ A
      go_wp2
      go_ret
      exact ⟨by rw [HE.out]; rfl, below_drewN (Below.refl _ _) _⟩
theorem equalB_any (v u : Value) (l m : List UInt8) (w : World) (hP : BytesAt w v l) (hQ : BytesAt w u m) :
    Calls Tryz.prog 33 #[v, u] w fun e w' => e = .returned (.bool (sameB l m)) ∧ Below w.heap.size w w' := by
  obtain ⟨hl, c, _, ⟨rfl, a, rfl, _⟩ | ⟨b, o, rfl, _, hc⟩⟩ := hP
  · obtain ⟨hm, d, _, ⟨rfl, a', rfl, _⟩ | ⟨b', o', rfl, _, hc'⟩⟩ := hQ
    · exact equalB_none a a' c d w
    · by_cases h : m = []
      · subst h; exact equalB_none a _ c d w
      · have hz : m.length ≠ 0 := by simpa using h
        rw [sameB_len (by simpa using hz.symm)]
        exact equalB_len a _ 0 c _ d w hz.symm
  · obtain ⟨hm, d, _, ⟨rfl, a', rfl, _⟩ | ⟨b', o', rfl, _, hc'⟩⟩ := hQ
    · by_cases h : l = []
      · subst h; exact equalB_none _ a' c d w
      · have hz : l.length ≠ 0 := by simpa using h
        rw [sameB_len (by simpa using hz)]
        exact equalB_len _ a' _ c 0 d w hz
    · by_cases h : l.length = m.length
      · rw [← h]; exact equalB_full b o c b' o' d l m w hl h hc hc'
      · rw [sameB_len h]
        exact equalB_len _ _ _ c _ d w h
set_option maxHeartbeats 1000000 in
theorem sameDiskR_any (va vb ua ub : Value) (a b c d : List UInt8) (w : World) (h1 : BytesAt w va a) (h2 : BytesAt w vb b) (h3 : BytesAt w ua c) (h4 : BytesAt w ub d) :
    Calls Tryz.prog 13 #[.agg #[va, vb], .agg #[ua, ub]] w fun e w' => e = .returned (.bool (Lk.sameDisk ⟨a, b⟩ ⟨c, d⟩)) ∧ Below w.heap.size w w' := by
  obtain ⟨a1, c1, rfl⟩ := bytes_slice h1
  obtain ⟨a2, c2, rfl⟩ := bytes_slice h2
  obtain ⟨a3, c3, rfl⟩ := bytes_slice h3
  obtain ⟨a4, c4, rfl⟩ := bytes_slice h4
  have H1 : Hid (∀ w', Below w.heap.size w w' → Calls Tryz.prog 33 #[.slice a1 a.length c1, .slice a3 c.length c3] w' fun e w'' => e = .returned (.bool (sameB a c)) ∧ Below w'.heap.size w' w'') := fun w' hb => equalB_any _ _ a c w' (h1.below hb) (h3.below hb)
  have H2 : Hid (∀ w', Below w.heap.size w w' → Calls Tryz.prog 33 #[.slice a2 b.length c2, .slice a4 d.length c4] w' fun e w'' => e = .returned (.bool (sameB b d)) ∧ Below w'.heap.size w' w'') := fun w' hb => equalB_any _ _ b d w' (h2.below hb) (h4.below hb)
  have HS : Hid (Lk.sameDisk ⟨a, b⟩ ⟨c, d⟩ = (sameB a c && sameB b d)) := rfl
  have HB : Hid (∀ o o', Below w.heap.size w ((w.alloc o).alloc o')) := fun o o' => ((Below.refl _ w).alloc (Nat.le_refl _) o).alloc (by simp) o'
  clear h1 h2 h3 h4
  generalize Lk.sameDisk ⟨a, b⟩ ⟨c, d⟩ = SS at HS ⊢
  generalize sameB a c = s1 at HS H1
  generalize sameB b d = s2 at HS H2
  have R0 : Hid (∀ w1, Below ((w.alloc (.cells #[.slice a1 a.length c1, .slice a2 b.length c2] 24)).alloc (.cells #[.slice a3 c.length c3, .slice a4 d.length c4] 24)).heap.size ((w.alloc (.cells #[.slice a1 a.length c1, .slice a2 b.length c2] 24)).alloc (.cells #[.slice a3 c.length c3, .slice a4 d.length c4] 24)) w1 → w1.cell? ⟨w.heap.size, 1, none⟩ = some (.slice a2 b.length c2) ∧ w1.cell? ⟨w.heap.size + 1, 1, none⟩ = some (.slice a4 d.length c4)) := fun w1 hb =>
    ⟨(hb.cell (p := ⟨w.heap.size, 1, none⟩) (by simp; omega)).trans (by simp [go_sem]), (hb.cell (p := ⟨w.heap.size + 1, 1, none⟩) (by simp)).trans (by simp [go_sem])⟩
  go_enter Tryz.func13, Tryz.ntmps13
  go_wp2_with fail
  refine (H1.out _ (HB.out _ _)).mono ?_
  rintro e w1 ⟨rfl, hb1⟩
  obtain ⟨k1, k2⟩ := R0.out w1 hb1
  have HB1 : Hid (Below w.heap.size w w1) := (HB.out _ _).trans (hb1.mono (HB.out _ _).size)
  clear hb1 R0 HB
  cases s1
  · have HS' : Hid (SS = false) := (show SS = false from by have := HS.out; simpa using this)
    go_wp2
    go_ret
    exact ⟨by rw [HS'.out]; rfl, HB1.out⟩
  · have HS' : Hid (SS = s2) := (show SS = s2 from by have := HS.out; simpa using this)
    go_wp2_with fail
    refine (H2.out _ HB1.out).mono ?_
    rintro e w2 ⟨rfl, hb2⟩
    go_wp2
    go_ret
    exact ⟨by rw [HS'.out]; rfl, HB1.out.trans (hb2.mono HB1.out.size)⟩
end Go.Proofs.YtlnbcgjahjjpfacGreatDoor
/- Contracts of bytes.Equal, bytes.Clone, bytes.Cut at a line feed, of '[]byte(s)'. -/
namespace Go.Proofs.YtlnbcgjahjjpfacGreatDoor
open Go.RowKit
def numsB (l : List UInt8) : List Int := l.map fun b => (b.toNat : Int)
theorem numsB_len (l : List UInt8) : (numsB l).length = l.length := by simp [numsB]
theorem numsB_getD (l : List UInt8) (i : Nat) : (numsB l).getD i 0 = ((l.getD i 0).toNat : Int) := by
  unfold numsB
  by_cases h : i < l.length
  · simp [List.getD_eq_getElem?_getD, List.getElem?_eq_getElem h]
  · simp [List.getD_eq_getElem?_getD, List.getElem?_eq_none (Nat.le_of_not_lt h)]
theorem numsB_range (l : List UInt8) : ∀ x ∈ numsB l, 0 ≤ x ∧ x < 256 := by
  intro x hx
  obtain ⟨b, _, rfl⟩ := List.mem_map.1 hx
  have := b.toNat_lt
  omega
theorem bytesOf_nums (l : List UInt8) : Lib.bytesOf (numsB l) = l := by
  unfold Lib.bytesOf numsB
  rw [List.map_map]
  have : ((fun n : Int => UInt8.ofNat n.toNat) ∘ fun b : UInt8 => (b.toNat : Int)) = id := by funext b; simp
  rw [this, List.map_id]
/-- a slice of bytes, in the shelf's own words -/
theorem bytes_in {w : World} {v : Value} {l : List UInt8} (h : BytesAt w v l) : ∃ p c, v = .slice p l.length c ∧ l.length ≤ c ∧ (p = none → c = 0) ∧ Lib.BytesIn w p l.length (numsB l) := by
  obtain ⟨_, c, hc, ⟨rfl, a, rfl, ha⟩ | ⟨b, o, rfl, _, h3⟩⟩ := h
  · exact ⟨a, c, rfl, hc, ha, Lib.BytesIn.nil w a _⟩
  · exact ⟨_, c, rfl, hc, (fun e => by cases e), Lib.BytesIn.of_cells (a := ⟨b, o, none⟩) (fun i hi => by rw [WideShapes.add_plain, numsB_getD]; exact h3 i hi)⟩
theorem equalP_any (v u : Value) (l m : List UInt8) (w : World) (hP : BytesAt w v l) (hQ : BytesAt w u m) :
    Calls Tryz.prog 32 #[v, u] w fun e w' => e = .returned (.bool (sameB l m)) ∧ Below w.heap.size w w' := by
  obtain ⟨p, c, rfl, _, _, h1⟩ := bytes_in hP
  obtain ⟨q, d, rfl, _, _, h2⟩ := bytes_in hQ
  refine (Tryz.bytes_Equal_all p q l.length c m.length d (numsB l) (numsB m) w (numsB_len l) (numsB_len m) h1 h2).mono ?_
  rintro e w' ⟨rfl, rfl⟩
  refine ⟨?_, Below.refl _ _⟩
  rw [bytesOf_nums, bytesOf_nums]
  congr 2
  by_cases h : l = m
  · subst h; simp [sameB]
  · simp [sameB, h]
/-- a slice of bytes that lies nowhere old -/
def NewBytes (N : Nat) (w : World) (v : Value) (l : List UInt8) : Prop := BytesAt w v l ∧ FreshS N v
theorem NewBytes.below {N : Nat} {w w' : World} {v : Value} {l : List UInt8} (h : NewBytes N w v l) (hb : Below w.heap.size w w') : NewBytes N w' v l := ⟨h.1.below hb, h.2⟩
theorem bytes_owns {w : World} {B e : Nat} {v : Value} {l : List UInt8} {n : Nat} (hn : n = l.length) (hl : l.length ≤ 140737488355328) (h : w.ownsRow B e 1 v n ((numsB l).map (Value.int .u8))) : NewBytes B w v l := by
  subst hn
  refine ⟨?_, fresh_of_owns h⟩
  have h0 := h
  rcases h.2 with ⟨h1, h2⟩ | ⟨g, cap, cur, h1, h2, h3, h4⟩
  · have : l = [] := List.length_eq_zero_iff.1 h2
    subst this
    exact ⟨by simp, 0, by simp, .inl ⟨rfl, none, h1, fun _ => rfl⟩⟩
  · subst h1
    refine ⟨hl, cap, h4.1, .inr ⟨g, 0, rfl, ?_, fun j hj => ?_⟩⟩
    · rcases Nat.lt_or_ge g w.heap.size with h | h
      · exact h
      · rw [Array.getElem?_eq_none h] at h3; cases h3
    · rw [Nat.zero_add]
      refine (h0.cellAt j (show j < l.length * 1 by omega)).trans ?_
      unfold numsB
      simp [List.getElem?_eq_getElem hj]
theorem clone_any (v : Value) (l : List UInt8) (w : World) (hP : BytesAt w v l) :
    Calls Tryz.prog 26 #[v] w fun e w' => (∃ u, e = .returned u ∧ NewBytes w.heap.size w' u l) ∧ Below w.heap.size w w' := by
  obtain ⟨p, c, rfl, hc, hp, h1⟩ := bytes_in hP
  cases p with
  | none =>
    have hc0 := hp rfl
    subst hc0
    have h0 : l = [] := List.length_eq_zero_iff.1 (by omega)
    subst h0
    refine (Tryz.bytes_Clone_nil 0 0 w).mono ?_
    rintro e w' ⟨rfl, rfl⟩
    exact ⟨⟨_, rfl, bytes_none _, fresh_none _ _ _⟩, Below.refl _ _⟩
  | some a =>
    refine (Tryz.bytes_Clone_at a l.length c (numsB l) w (numsB_len l) hP.1 (fun i hi => ?_)).mono ?_
    · obtain ⟨b, o, e, hcell⟩ := h1.at (by omega)
      cases e
      rw [WideShapes.add_plain]; exact hcell i hi
    · rintro e w' ⟨u, rfl, hu, _, hb⟩
      exact ⟨⟨u, rfl, bytes_owns rfl hP.1 hu⟩, hb⟩
theorem bytes_take {w : World} {p : Option Addr} {n c : Nat} {l : List UInt8} (h : BytesAt w (.slice p n c) l) (k : Nat) (hk : k ≤ l.length) : BytesAt w (.slice p k c) (l.take k) := by
  obtain ⟨hl, c', hc, ⟨rfl, a, e, ha⟩ | ⟨b, o, e, hb, h3⟩⟩ := h
  · obtain rfl : k = 0 := by simpa using hk
    simp only [Value.slice.injEq] at e
    obtain ⟨rfl, rfl, rfl⟩ := e
    exact ⟨by simp, c, by simp, .inl ⟨rfl, p, rfl, ha⟩⟩
  · simp only [Value.slice.injEq] at e
    obtain ⟨rfl, rfl, rfl⟩ := e
    refine ⟨by rw [List.length_take]; omega, c, by rw [List.length_take]; omega, .inr ⟨b, o, by rw [List.length_take, Nat.min_eq_left hk], hb, fun j hj => ?_⟩⟩
    rw [List.length_take] at hj
    rw [h3 j (by omega)]
    congr 3
    simp [List.getD_eq_getElem?_getD, show j < k by omega]
theorem bytes_from {w : World} {p : Option Addr} {c : Nat} {l : List UInt8} (h : BytesAt w (.slice p l.length c) l) (k : Nat) (hk : k ≤ l.length) : BytesAt w (Lib.fromV p l.length c k) (l.drop k) := by
  unfold Lib.fromV
  have hlen : (l.drop k).length = l.length - k := by simp
  obtain ⟨hl, c', hc, ⟨rfl, a, e, ha⟩ | ⟨b, o, e, hb, h3⟩⟩ := h
  · obtain rfl : k = 0 := by simpa using hk
    simp only [Value.slice.injEq] at e
    obtain ⟨rfl, _, rfl⟩ := e
    refine ⟨by simp, c - 0, by simp, .inl ⟨by simp, _, rfl, fun e => ?_⟩⟩
    cases p with
    | none => simpa using ha rfl
    | some ad => split at e <;> cases e
  · simp only [Value.slice.injEq] at e
    obtain ⟨rfl, _, rfl⟩ := e
    by_cases hck : c = k
    · subst hck
      have h0 : l.drop c = [] := List.drop_eq_nil_of_le hc
      rw [if_pos rfl, h0, show l.length - c = 0 from by omega, Nat.sub_self]
      exact ⟨by simp, 0, by simp, .inl ⟨rfl, _, rfl, fun _ => rfl⟩⟩
    · rw [if_neg hck]
      refine ⟨by omega, c - k, by omega, .inr ⟨b, o + k, ?_, hb, fun j hj => ?_⟩⟩
      · rw [hlen, Option.map_some, WideShapes.add_plain]
      · rw [hlen] at hj
        rw [Nat.add_assoc, h3 (k + j) (by omega)]
        congr 3
        simp [List.getD_eq_getElem?_getD, List.getElem?_drop]
/-- bytes.Cut at a line feed -/
theorem cut_torn (v sv : Value) (l : List UInt8) (w : World) (hE : Env w) (hP : BytesAt w v l) (hS : BytesAt w sv [10]) (hl : l.length ≤ 60000) (hn : 10 ∉ l) :
    Calls Tryz.prog 44 #[v, sv] w fun e w' => e = .returned (.tuple #[v, .slice none 0 0, .bool false]) ∧ Below w.heap.size w w' := by
  obtain ⟨m, hm⟩ := hE.mx
  obtain ⟨p, c, rfl, hc, hp, h1⟩ := bytes_in hP
  obtain ⟨q, d, rfl, _, _, h2⟩ := bytes_in hS
  refine (Tryz.bytes_Cut_all p q l.length c 1 d (numsB l) (numsB [10]) m w (numsB_len l) rfl (numsB_range l) (numsB_range _) h1 h2 hp hc (by omega) (by decide) hm).mono ?_
  rintro e w' ⟨rfl, k, rfl⟩
  refine ⟨?_, below_drewN (Below.refl _ _) _⟩
  rw [bytesOf_nums, bytesOf_nums, Lib.index_one, Lk.index_not 10 l hn]
  rfl
theorem cut_line (v sv : Value) (t s : List UInt8) (w : World) (hE : Env w) (hP : BytesAt w v (t ++ 10 :: s)) (hS : BytesAt w sv [10]) (hl : (t ++ 10 :: s).length ≤ 60000) (hn : 10 ∉ t) :
    Calls Tryz.prog 44 #[v, sv] w fun e w' => (∃ u x, e = .returned (.tuple #[u, x, .bool true]) ∧ ∀ W, BytesAt W v (t ++ 10 :: s) → BytesAt W u t ∧ BytesAt W x s) ∧ Below w.heap.size w w' := by
  obtain ⟨m, hm⟩ := hE.mx
  obtain ⟨p, c, rfl, hc, hp, h1⟩ := bytes_in hP
  obtain ⟨q, d, rfl, _, _, h2⟩ := bytes_in hS
  refine (Tryz.bytes_Cut_all p q _ c 1 d (numsB (t ++ 10 :: s)) (numsB [10]) m w (numsB_len _) rfl (numsB_range _) (numsB_range _) h1 h2 hp hc (by omega) (by decide) hm).mono ?_
  rintro e w' ⟨rfl, k, rfl⟩
  have hb : Below w.heap.size w (w.drewN k) := below_drewN (Below.refl _ _) _
  refine ⟨⟨.slice p t.length c, Lib.fromV p (t ++ 10 :: s).length c (t.length + 1), ?_, fun W hW => ⟨?_, ?_⟩⟩, hb⟩
  · rw [bytesOf_nums, bytesOf_nums, Lib.index_one, Lk.index_app 10 t s hn]
    unfold Lib.cutV
    rw [if_pos (by omega)]
    simp
  · have := bytes_take hW t.length (by simp)
    simpa using this
  · have := bytes_from hW (t.length + 1) (by simp)
    have e : (t ++ 10 :: s).drop (t.length + 1) = s := by rw [List.drop_append]; simp
    rwa [e] at this
end Go.Proofs.YtlnbcgjahjjpfacGreatDoor
