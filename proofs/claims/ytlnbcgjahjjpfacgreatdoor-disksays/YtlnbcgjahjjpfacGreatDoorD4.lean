/- Contracts of slices.Equal at slices of bytes and of the document's SameDisk. -/
import Derived.Test.YtlnbcgjahjjpfacGreatDoorD3
import Derived.BigQuiet
import Derived.Deep.QuietTactic
namespace Go.Proofs.YtlnbcgjahjjpfacGreatDoor
open Go.RowKit
def sameB (l m : List UInt8) : Bool := decide (l = m)
theorem sameB_of {l m : List UInt8} (hn : l.length = m.length) (h : ∀ j, j < l.length → l.getD j 0 = m.getD j 0) : sameB l m = true := by
  refine decide_eq_true (List.ext_getElem hn fun j h1 h2 => ?_)
  have := h j h1
  rwa [List.getD_eq_getElem?_getD, List.getD_eq_getElem?_getD, List.getElem?_eq_getElem h1, List.getElem?_eq_getElem h2] at this
theorem sameB_not {l m : List UInt8} {j : Nat} (h : l.getD j 0 ≠ m.getD j 0) : sameB l m = false := decide_eq_false fun e => h (by rw [e])
theorem sameB_len {l m : List UInt8} (h : l.length ≠ m.length) : sameB l m = false := decide_eq_false fun e => h (by rw [e])
set_option maxHeartbeats 400000 in
theorem equalB_len (a1 a2 : Option Addr) (n c m d : Nat) (w : World) (h : n ≠ m) :
    Calls Tryz.prog 33 #[.slice a1 n c, .slice a2 m d] w fun e w' => e = .returned (.bool false) ∧ Below w.heap.size w w' := by
  have h' : ((n : Int) != (m : Int)) = true := by rw [bne_iff_ne]; omega
  go_enter Tryz.func33, Tryz.ntmps33
  go_wp2
  go_ret
  exact ⟨rfl, Below.refl _ _⟩
set_option maxHeartbeats 400000 in
theorem equalB_none (a1 a2 : Option Addr) (c d : Nat) (w : World) :
    Calls Tryz.prog 33 #[.slice a1 0 c, .slice a2 0 d] w fun e w' => e = .returned (.bool true) ∧ Below w.heap.size w w' := by
  go_enter Tryz.func33, Tryz.ntmps33
  go_wp2
  go_loopg [13] 0 (fun g s13 wr => s13 = .int .i64 0 ∧ wr = w)
  case atStart => exact ⟨rfl, rfl⟩
  case round =>
    obtain ⟨rfl, rfl⟩ := hrel
    go_wp2
    go_ret
    exact ⟨rfl, Below.refl _ _⟩
theorem byte_ne {x y : UInt8} : (((x.toNat : Int)) != (y.toNat : Int)) = !(x == y) := by
  by_cases h : x = y
  · subst h; simp
  · have : x.toNat ≠ y.toNat := fun e => h (UInt8.toNat_inj.1 e)
    have h2 : ((x.toNat : Int)) ≠ (y.toNat : Int) := by omega
    rw [bne_iff_ne.2 h2]; simp [h]
set_option maxHeartbeats 1000000 in
theorem equalB_full (b1 o1 c b2 o2 d : Nat) (l m : List UInt8) (w : World) (hl : l.length ≤ 140737488355328) (hn : l.length = m.length)
    (hP : ∀ j, j < l.length → w.cell? ⟨b1, o1 + j, none⟩ = some (.int .u8 ((l.getD j 0).toNat : Int))) (hQ : ∀ j, j < m.length → w.cell? ⟨b2, o2 + j, none⟩ = some (.int .u8 ((m.getD j 0).toNat : Int))) :
    Calls Tryz.prog 33 #[.slice (some ⟨b1, o1, none⟩) l.length c, .slice (some ⟨b2, o2, none⟩) l.length d] w fun e w' => e = .returned (.bool (sameB l m)) ∧ Below w.heap.size w w' := by
  have HN : Hid (l.length = m.length) := hn
  clear hn
  go_enter Tryz.func33, Tryz.ntmps33
  go_wp2
  go_loopg [13] l.length (fun g s13 wr => ∃ k q : Nat, k ≤ l.length ∧ l.length - k ≤ g ∧ s13 = .int .i64 k ∧ wr = w.drewN q ∧ Hid (∀ j, j < k → l.getD j 0 = m.getD j 0))
  case atStart => exact ⟨0, 0, Nat.zero_le _, by omega, rfl, rfl, fun j hj => absurd hj (Nat.not_lt_zero _)⟩
  case round =>
    obtain ⟨k, q, hk, hg, rfl, rfl, A⟩ := hrel
    by_cases hlt : k < l.length
    · have g1 := hP k hlt
      have g3 := hQ k (by rw [← HN.out]; exact hlt)
      have HM : Hid (l.getD k 0 = m.getD k 0 → ∀ j, j < k + 1 → l.getD j 0 = m.getD j 0) := fun e j hj => by
        by_cases h : j = k
        · subst h; exact e
        · exact A.out j (by omega)
      have HF : Hid (l.getD k 0 ≠ m.getD k 0 → sameB l m = false) := fun e => sameB_not e
      generalize l.getD k 0 = x at g1 HM HF
      generalize m.getD k 0 = y at g3 HM HF
      clear hP hQ A
      by_cases he : x = y
      · have hb : (((x.toNat : Int)) != (y.toNat : Int)) = false := by rw [he]; simp
        have HE : Hid (∀ j, j < k + 1 → l.getD j 0 = m.getD j 0) := HM.out he
        clear HM HF he
        go_wp2_with fail
        go_quiet (fail)
        go_wp2
        go_roundg (l.length - (k + 1))
        case measure => omega
        case rel => exact ⟨k + 1, q + nq, by omega, by omega, by go_num, by simp, HE⟩
      · have hb : (((x.toNat : Int)) != (y.toNat : Int)) = true := by rw [byte_ne]; simp [he]
        have HE : Hid (sameB l m = false) := HF.out he
        clear HM HF he
        go_wp2_with fail
        go_quiet (fail)
        go_wp2
        go_ret
        exact ⟨by rw [HE.out]; rfl, below_drewN (below_drewN (Below.refl _ _) _) _⟩
    · have hk' : k = l.length := by omega
      have HE : Hid (sameB l m = true) := sameB_of HN.out (by subst hk'; exact A.out)
      subst hk'
      clear hk hlt hP hQ A
      go_wp2
      go_ret
      exact ⟨by rw [HE.out]; rfl, below_drewN (Below.refl _ _) _⟩
theorem equalB_any (v u : Value) (l m : List UInt8) (w : World) (hP : BytesAt w v l) (hQ : BytesAt w u m) :
    Calls Tryz.prog 33 #[v, u] w fun e w' => e = .returned (.bool (sameB l m)) ∧ Below w.heap.size w w' := by
  obtain ⟨hl, c, _, ⟨rfl, a, rfl, _⟩ | ⟨b, o, rfl, _, hc⟩⟩ := hP
  · obtain ⟨hm, d, _, ⟨rfl, a', rfl, _⟩ | ⟨b', o', rfl, _, hc'⟩⟩ := hQ
    · exact equalB_none a a' c d w
    · by_cases h : m = []
      · subst h; exact equalB_none a _ c d w
      · have hz : m.length ≠ 0 := by simpa using h
        rw [sameB_len (by simpa using hz.symm)]
        exact equalB_len a _ 0 c _ d w hz.symm
  · obtain ⟨hm, d, _, ⟨rfl, a', rfl, _⟩ | ⟨b', o', rfl, _, hc'⟩⟩ := hQ
    · by_cases h : l = []
      · subst h; exact equalB_none _ a' c d w
      · have hz : l.length ≠ 0 := by simpa using h
        rw [sameB_len (by simpa using hz)]
        exact equalB_len _ a' _ c 0 d w hz
    · by_cases h : l.length = m.length
      · rw [← h]; exact equalB_full b o c b' o' d l m w hl h hc hc'
      · rw [sameB_len h]
        exact equalB_len _ _ _ c _ d w h
set_option maxHeartbeats 1000000 in
theorem sameDiskR_any (va vb ua ub : Value) (a b c d : List UInt8) (w : World) (h1 : BytesAt w va a) (h2 : BytesAt w vb b) (h3 : BytesAt w ua c) (h4 : BytesAt w ub d) :
    Calls Tryz.prog 13 #[.agg #[va, vb], .agg #[ua, ub]] w fun e w' => e = .returned (.bool (Lk.sameDisk ⟨a, b⟩ ⟨c, d⟩)) ∧ Below w.heap.size w w' := by
  obtain ⟨a1, c1, rfl⟩ := bytes_slice h1
  obtain ⟨a2, c2, rfl⟩ := bytes_slice h2
  obtain ⟨a3, c3, rfl⟩ := bytes_slice h3
  obtain ⟨a4, c4, rfl⟩ := bytes_slice h4
  have H1 : Hid (∀ w', Below w.heap.size w w' → Calls Tryz.prog 33 #[.slice a1 a.length c1, .slice a3 c.length c3] w' fun e w'' => e = .returned (.bool (sameB a c)) ∧ Below w'.heap.size w' w'') := fun w' hb => equalB_any _ _ a c w' (h1.below hb) (h3.below hb)
  have H2 : Hid (∀ w', Below w.heap.size w w' → Calls Tryz.prog 33 #[.slice a2 b.length c2, .slice a4 d.length c4] w' fun e w'' => e = .returned (.bool (sameB b d)) ∧ Below w'.heap.size w' w'') := fun w' hb => equalB_any _ _ b d w' (h2.below hb) (h4.below hb)
  have HS : Hid (Lk.sameDisk ⟨a, b⟩ ⟨c, d⟩ = (sameB a c && sameB b d)) := rfl
  have HB : Hid (∀ o o', Below w.heap.size w ((w.alloc o).alloc o')) := fun o o' => ((Below.refl _ w).alloc (Nat.le_refl _) o).alloc (by simp) o'
  clear h1 h2 h3 h4
  generalize Lk.sameDisk ⟨a, b⟩ ⟨c, d⟩ = SS at HS ⊢
  generalize sameB a c = s1 at HS H1
  generalize sameB b d = s2 at HS H2
  have R0 : Hid (∀ w1, Below ((w.alloc (.cells #[.slice a1 a.length c1, .slice a2 b.length c2] 24)).alloc (.cells #[.slice a3 c.length c3, .slice a4 d.length c4] 24)).heap.size ((w.alloc (.cells #[.slice a1 a.length c1, .slice a2 b.length c2] 24)).alloc (.cells #[.slice a3 c.length c3, .slice a4 d.length c4] 24)) w1 → w1.cell? ⟨w.heap.size, 1, none⟩ = some (.slice a2 b.length c2) ∧ w1.cell? ⟨w.heap.size + 1, 1, none⟩ = some (.slice a4 d.length c4)) := fun w1 hb =>
    ⟨(hb.cell (p := ⟨w.heap.size, 1, none⟩) (by simp; omega)).trans (by simp [go_sem]), (hb.cell (p := ⟨w.heap.size + 1, 1, none⟩) (by simp)).trans (by simp [go_sem])⟩
  go_enter Tryz.func13, Tryz.ntmps13
  go_wp2_with fail
  refine (H1.out _ (HB.out _ _)).mono ?_
  rintro e w1 ⟨rfl, hb1⟩
  obtain ⟨k1, k2⟩ := R0.out w1 hb1
  have HB1 : Hid (Below w.heap.size w w1) := (HB.out _ _).trans (hb1.mono (HB.out _ _).size)
  clear hb1 R0 HB
  cases s1
  · have HS' : Hid (SS = false) := (show SS = false from by have := HS.out; simpa using this)
    go_wp2
    go_ret
    exact ⟨by rw [HS'.out]; rfl, HB1.out⟩
  · have HS' : Hid (SS = s2) := (show SS = s2 from by have := HS.out; simpa using this)
    go_wp2_with fail
    refine (H2.out _ HB1.out).mono ?_
    rintro e w2 ⟨rfl, hb2⟩
    go_wp2
    go_ret
    exact ⟨by rw [HS'.out]; rfl, HB1.out.trans (hb2.mono HB1.out.size)⟩
end Go.Proofs.YtlnbcgjahjjpfacGreatDoor
