/- The contracts of slices.ContainsFunc with WaveOn's closure and of slices.Clone at truths; the walk of WaveOn. -/
import Derived.Test.YtigblcefpiacmabV4
import Derived.Test.YtigblcefpiacmabAt
import Derived.Laws.AppendOwnNone
import Derived.Laws.Cover3
namespace Go.Proofs.Ytigblcefpiacmab
open Go.RowKit
namespace Wv
theorem open_set {t : List Bool} {w : List Int} {j : Nat} (h : isOpen (t.set j true) w = true) : isOpen t w = true := by
  obtain ⟨a, ha, hb⟩ := open_true h
  refine List.any_eq_true.2 ⟨a, ha, ?_⟩
  have : t.getD a.toNat true = false := by
    rw [List.getD_eq_getElem?_getD, List.getElem?_set] at hb
    by_cases e : j = a.toNat
    · rw [if_pos e] at hb
      split at hb
      · simp at hb
      · simp at hb
    · rw [if_neg e] at hb
      rw [List.getD_eq_getElem?_getD]
      exact hb
  rw [this]; rfl
theorem now_mono (l : List (List Int)) (t : List Bool) (j : Nat) : now l t ≤ now l (t.set j true) ∧ now l (t.set j true) ≤ l.length := by
  obtain ⟨i, h1, h2, h3, h4⟩ := now_spec l t
  obtain ⟨k, g1, g2, g3, g4⟩ := now_spec l (t.set j true)
  rw [h2, g2]
  refine ⟨?_, by omega⟩
  rcases Nat.lt_or_ge k i with h | h
  · have a := open_set (g4 (by omega))
    rw [h3 k h] at a
    cases a
  · omega
/-- where the first one is of which it is true -/
def idxF (p : Int → Bool) : List Int → Int → Int
  | [], _ => -1
  | x :: r, k => if p x = true then k else idxF p r (k + 1)
theorem idxF_any {p : Int → Bool} {l : List Int} : ∀ {k : Int}, 0 ≤ k → decide (0 ≤ idxF p l k) = l.any p := by
  induction l with
  | nil => intro k _; rfl
  | cons x r ih =>
    intro k hk
    rw [idxF, List.any_cons]
    by_cases h : p x = true
    · rw [if_pos h, h]; simp [hk]
    · rw [if_neg h, ih (by omega)]; simp [h]
end Wv
set_option maxHeartbeats 1000000 in
theorem wonC_any (a : Int) (g : Nat) (u : Value) (t : List Bool) (w : World) (hg : w.cell? ⟨g, 0, none⟩ = some u) (hT : BoolsAt w u t) (h0 : 0 ≤ a) (h1 : a < t.length) :
    Calls Try.prog 28 #[.int .i64 a, .pointer (some ⟨g, 0, none⟩)] w fun e w' => e = .returned (.bool (!t.getD a.toNat true)) ∧ w' = w := by
  obtain ⟨htl, A, b, o, c, rfl, -, hA, hC⟩ := hT
  obtain ⟨rfl, hb⟩ := hA (by omega)
  obtain ⟨n, rfl⟩ : ∃ n : Nat, a = n := ⟨a.toNat, by omega⟩
  have hn : n < t.length := by omega
  have c1 := hC n hn
  rw [Int.toNat_natCast]
  generalize t.getD n true = x at c1
  clear hA hC h0
  go_enter Try.func28, Try.ntmps28
  go_wp2
  go_ret
  exact ⟨rfl, rfl⟩
set_option maxHeartbeats 2000000 in
theorem indexFW_any (v : Value) (m : List Int) (g : Nat) (u : Value) (t : List Bool) (w : World) (hL : IntsAt w v m) (hg : w.cell? ⟨g, 0, none⟩ = some u) (hT : BoolsAt w u t) (hin : ∀ a ∈ m, 0 ≤ a ∧ a < t.length) :
    Calls Try.prog 50 #[v, .func (.func 28) #[] #[.pointer (some ⟨g, 0, none⟩)]] w fun e w' => e = .returned (.int .i64 (Wv.idxF (fun a => !t.getD a.toNat true) m 0)) ∧ w' = w := by
  obtain ⟨hll, A, b, o, c, rfl, -, hA, hC⟩ := hL
  have HA : Hid (0 < m.length → A = some ⟨b, o, none⟩ ∧ b < w.heap.size) := hA
  have HC : Hid (∀ j, j < m.length → w.cell? ⟨b, o + j, none⟩ = some (.int .i64 (m.getD j 0))) := hC
  have HN : Hid (∀ a ∈ m, 0 ≤ a ∧ a < t.length) := hin
  have HG : Hid (w.cell? ⟨g, 0, none⟩ = some u) := hg
  have HT : Hid (BoolsAt w u t) := hT
  clear hA hC hin hg hT
  go_enter Try.func50, Try.ntmps50
  go_wp2
  go_loopg [8] m.length (fun g s8 wr => ∃ k : Nat, k ≤ m.length ∧ m.length - k ≤ g ∧ s8 = .int .i64 k ∧ Hid (Wv.idxF (fun a => !t.getD a.toNat true) (m.drop k) k = Wv.idxF (fun a => !t.getD a.toNat true) m 0) ∧ wr = w)
  case atStart => exact ⟨0, Nat.zero_le _, by omega, rfl, rfl, rfl⟩
  case round =>
    obtain ⟨k, hk, hgk, rfl, H, rfl⟩ := hrel
    by_cases hlt : k < m.length
    · obtain ⟨rfl, hbw⟩ := HA.out (by omega)
      have g1 := HC.out k hlt
      have hd := dropL m 0 k hlt
      have hr := HN.out _ (mem_getDI hlt)
      generalize m.getD k 0 = x at g1 hd hr
      have hcl := wonC_any x g u t wr HG.out HT.out hr.1 hr.2
      clear HA HC hr
      cases hp : (!t.getD x.toNat true) with
      | true =>
        have HF : Hid (Wv.idxF (fun a => !t.getD a.toNat true) m 0 = k) := by rw [← H.out, hd, Wv.idxF, if_pos hp]; rfl
        rw [hp] at hcl
        clear hp hd H
        go_wp2_with fail
        refine hcl.mono ?_
        rintro e w1 ⟨rfl, rfl⟩
        go_wp2
        go_ret
        exact ⟨by rw [HF.out]; rfl, rfl⟩
      | false =>
        have HF : Hid (Wv.idxF (fun a => !t.getD a.toNat true) (m.drop (k + 1)) ((k + 1 : Nat) : Int) = Wv.idxF (fun a => !t.getD a.toNat true) m 0) := by
          have := H.out
          rw [hd, Wv.idxF, if_neg (by rw [hp]; decide)] at this
          exact this
        rw [hp] at hcl
        clear hp hd H
        go_wp2_with fail
        refine hcl.mono ?_
        rintro e w1 ⟨rfl, rfl⟩
        go_wp2
        go_roundg (m.length - (k + 1))
        case measure => omega
        case rel => exact ⟨k + 1, by omega, by omega, by go_num, HF, rfl⟩
    · have hk' : k = m.length := by omega
      have HB : Hid (Wv.idxF (fun a => !t.getD a.toNat true) m 0 = -1) := by rw [← H.out, hk', List.drop_length]; rfl
      subst hk'
      clear hk hlt
      go_wp2
      go_ret
      exact ⟨by rw [HB.out]; rfl, rfl⟩
set_option maxHeartbeats 1000000 in
theorem containsFW_any (v : Value) (m : List Int) (g : Nat) (u : Value) (t : List Bool) (w : World) (hL : IntsAt w v m) (hg : w.cell? ⟨g, 0, none⟩ = some u) (hT : BoolsAt w u t) (hin : ∀ a ∈ m, 0 ≤ a ∧ a < t.length) :
    Calls Try.prog 27 #[v, .func (.func 28) #[] #[.pointer (some ⟨g, 0, none⟩)]] w fun e w' => e = .returned (.bool (Wv.isOpen t m)) ∧ w' = w := by
  have HC := indexFW_any v m g u t w hL hg hT hin
  have HM : Hid (decide (0 ≤ Wv.idxF (fun a => !t.getD a.toNat true) m 0) = Wv.isOpen t m) := Wv.idxF_any (by decide)
  clear hL hg hT hin
  go_enter Try.func27, Try.ntmps27
  go_wp2_with fail
  refine HC.mono ?_
  rintro e w1 ⟨rfl, rfl⟩
  go_wp2
  go_ret
  exact ⟨by rw [← HM.out]; rfl, rfl⟩
theorem infoBool : (Try.prog.info? 4).map (fun i => (i.zero, i.size, i.bytes)) = some (some (.bool false), 1, 1) := by kernel_rfl
theorem eqNilB (A : Option Addr) (n c : Nat) (w : World) : (binOp .eql 44 (.slice A n c) (.slice none 0 0)).run Try.prog w = .ok (.bool A.isNone) w := by
  have h := run_equal_slice_nil (P := Try.prog) w 44 4 A n c Try.underlying44
  simp [binOp, h]
set_option maxHeartbeats 2000000 in
theorem cloneB_any (v : Value) (t : List Bool) (w : World) (hT : BoolsAt w v t) (hl : 1 ≤ t.length) (hl2 : t.length ≤ 100) :
    Calls Try.prog 29 #[v] w fun e w' => (∃ g c, e = .returned (.slice (some ⟨g, 0, none⟩) t.length c) ∧ t.length ≤ c ∧ w.heap.size ≤ g ∧ g < w'.heap.size ∧ (∀ j, w'.frozen? ⟨g, j, none⟩ = false) ∧ ∀ j, j < t.length → w'.cell? ⟨g, j, none⟩ = some (.bool (t.getD j true))) ∧ Below w.heap.size w w' := by
  obtain ⟨i0, hi, hz0, hz1, hz2⟩ := info_parts infoBool
  obtain ⟨-, A, b, o, c, rfl, -, hA, hC⟩ := hT
  obtain ⟨rfl, hb⟩ := hA (by omega)
  have HNW : Hid (∀ j u, (t.map Value.bool)[j]? = some u → (w.alloc (.cells #[] 4)).cell? ((⟨b, o, none⟩ : Addr).add j) = some u) := fun j u hj => by
    have hadd : (⟨b, o, none⟩ : Addr).add j = ⟨b, o + j, none⟩ := by unfold Addr.add; split <;> simp_all
    have hjl : j < t.length := by have := (List.getElem?_eq_some_iff.1 hj).1; simpa using this
    rw [hadd, ((Below.refl _ w).alloc (Nat.le_refl _) _).cell (p := ⟨b, o + j, none⟩) hb, hC j hjl]
    simpa [List.getD_eq_getElem?_getD, hjl] using hj
  have hq := eqNilB (some ⟨b, o, none⟩) t.length c
  have hlen : (t.map Value.bool).length = t.length * 1 := by simp
  have hone : ∀ u ∈ t.map Value.bool, u.oneCell' = true := fun u hu => by
    obtain ⟨x, -, rfl⟩ := List.mem_map.1 hu; rfl
  clear hA hC
  go_enter Try.func29, Try.ntmps29
  go_wp2_with (at_builtin; refine wpList_append_own _ rfl _ _ 44 rfl w.heap.size 4 i0 (.bool false) 1 1 Try.underlying44 hi hz0 hz1 hz2 rfl (by decide) _ 0 [] rfl (World.ownsRow_made w #[] 0 (Nat.le_refl _) (by decide) rfl) ⟨b, o, none⟩ t.length c (t.map Value.bool) rfl hlen HNW.out hone ?c3 ?c4 ?c5 ?_)
  case c3 => unfold maxLen; omega
  case c4 => omega
  case c5 => simp
  intro v' w3 hown hgrow _
  have HO : Hid (∃ g c, v' = .slice (some ⟨g, 0, none⟩) t.length c ∧ t.length ≤ c ∧ w.heap.size ≤ g ∧ g < w3.heap.size ∧ (∀ j, w3.frozen? ⟨g, j, none⟩ = false) ∧ ∀ j, j < t.length → w3.cell? ⟨g, j, none⟩ = some (.bool (t.getD j true))) := by
    have h0 := hown
    rcases h0.2 with ⟨_, h2⟩ | ⟨g, cap, cur, h1, h2, h3, h4, _⟩
    · omega
    · refine ⟨g, cap, h1, h4, h2, (Array.getElem?_eq_some_iff.1 h3).1, fun j => frozen_of_row w3 g j _ _ h3, fun j hj => ?_⟩
      subst h1
      rw [h0.cellAt j (by omega)]
      simp [List.getD_eq_getElem?_getD, hj]
  have HB3 : Hid (Below w.heap.size w w3) := ((Below.refl _ w).alloc (Nat.le_refl _) _).grown hgrow (by simp) (fun q hq => by cases hq; exact Nat.le_refl _)
  clear hown hgrow
  obtain ⟨g, c', rfl, HO'⟩ := HO.out
  have HO2 : Hid (t.length ≤ c' ∧ w.heap.size ≤ g ∧ g < w3.heap.size ∧ (∀ j, w3.frozen? ⟨g, j, none⟩ = false) ∧ ∀ j, j < t.length → w3.cell? ⟨g, j, none⟩ = some (.bool (t.getD j true))) := HO'
  clear HO' HO
  go_wp2
  go_ret
  exact ⟨⟨g, c', rfl, HO2.out⟩, HB3.out⟩
theorem bools_set {w : World} {g n c : Nat} {t : List Bool} {j : Nat} (hn : n = t.length) (hl : t.length ≤ 100) (hc : n ≤ c) (hg : g < w.heap.size) (hC : ∀ j, j < t.length → w.cell? ⟨g, j, none⟩ = some (.bool (t.getD j true))) (hj : j < t.length) :
    BoolsAt (w.setCell ⟨g, j, none⟩ (.bool true)) (.slice (some ⟨g, 0, none⟩) n c) (t.set j true) := by
  refine ⟨by simp; omega, some ⟨g, 0, none⟩, g, 0, c, by rw [List.length_set, hn], by simp; omega, fun _ => ⟨rfl, by simpa using hg⟩, fun i hi => ?_⟩
  rw [List.length_set] at hi
  rw [Nat.zero_add, List.getD_eq_getElem?_getD, List.getElem?_set]
  by_cases e : j = i
  · subst e
    rw [if_pos rfl, if_pos hj, World.cell?_setCell_same _ _ _ (hC j hj)]; rfl
  · rw [if_neg e, World.cell?_setCell_other _ _ _ _ (fun h => by injection h with _ h2; exact e h2), hC i hi, List.getD_eq_getElem?_getD]
set_option maxHeartbeats 8000000 in
theorem won_any (C : WaveC) (v u : Value) (l : List (List Int)) (t : List Bool) (a : Int) (w : World) (hL : WavesAt w v l) (hT : BoolsAt w u t) :
    Calls Try.prog 7 #[v, u, .int .i64 a] w fun e w' => e = .returned (.bool true) ∧ Below w.heap.size w w' := by
  have HL : Hid (WavesAt w v l) := hL
  have HT : Hid (BoolsAt w u t) := hT
  obtain ⟨hll, A, b, o, c, rfl, -, hA, hCc⟩ := hL
  have HA : Hid (0 < l.length → A = some ⟨b, o, none⟩ ∧ b < w.heap.size) := hA
  have HCc : Hid (∀ j, j < l.length → ∃ u, w.cell? ⟨b, o + j, none⟩ = some u ∧ IntsAt w u (l.getD j [])) := hCc
  obtain ⟨htl, B, b2, o2, c2, rfl, -, -, -⟩ := hT
  have HB0 : Hid (∀ O, Below w.heap.size w (w.alloc O)) := fun O => (Below.refl _ w).alloc (Nat.le_refl _) O
  clear hA hCc
  go_enter Try.func7, Try.ntmps7
  go_wp2_with fail
  refine (C.now _ _ _ _ _ (HL.out.below (HB0.out _)) (HT.out.below (HB0.out _))).mono ?_
  rintro e w1 ⟨rfl, hb1⟩
  have HG1 : Hid (w1.cell? ⟨w.heap.size, 0, none⟩ = some (.slice B t.length c2)) := (hb1.cell (p := ⟨w.heap.size, 0, none⟩) (by simp)).trans (by simp [go_sem])
  have HB1 : Hid (Below w.heap.size w w1) := (HB0.out _).trans (hb1.mono (by simp))
  have hs1 : w.heap.size < w1.heap.size := by have := hb1.size; simp at this; omega
  clear hb1 HB0
  by_cases hz : nowErr l t = 0
  · have HZ : Hid (Wv.chk l t.length = 0) := hz
    have HZ2 : Hid (∀ j, nowErr l (t.set j true) = 0) := fun j => by unfold nowErr; rw [List.length_set]; exact hz
    have HNW : Hid (nowOf l t = Wv.now l t) := by rw [nowOf, if_pos hz]; rfl
    have HN2 : Hid (∀ j, nowOf l (t.set j true) = Wv.now l (t.set j true)) := fun j => by rw [nowOf, if_pos (HZ2.out j)]
    obtain ⟨⟨hn1, hn2⟩, hw, _, _⟩ := Wv.all_stand hz
    have HWV : Hid (∀ m ∈ l, m ≠ [] ∧ ∀ a ∈ m, 0 ≤ a ∧ a ≤ (t.length : Int) - 1) := hw
    have HMO : Hid (∀ j, Wv.now l t ≤ Wv.now l (t.set j true) ∧ Wv.now l (t.set j true) ≤ l.length) := Wv.now_mono l t
    obtain ⟨q, hq1, hq2, hq3, hq4⟩ := Wv.now_spec l t
    have HQ3 : Hid (∀ i, i < q → Wv.isOpen t (l.getD i []) = false) := hq3
    have HQ4 : Hid (q < l.length → Wv.isOpen t (l.getD q []) = true) := hq4
    have HQ2 : Hid (Wv.now l t = q) := hq2
    have ht1 : 1 ≤ t.length := by omega
    have ht6 : t.length ≤ 6 := by omega
    rw [hz, HNW.out, hq2]
    clear hz hw hq2 hq3 hq4 hn1 hn2
    go_wp2_with fail
    refine (waved_any C _).mono ?_
    rintro e w2 ⟨rfl, hb2⟩
    have HG2 : Hid (w2.cell? ⟨w.heap.size, 0, none⟩ = some (.slice B t.length c2)) := (hb2.cell (p := ⟨w.heap.size, 0, none⟩) hs1).trans HG1.out
    have HB2 : Hid (Below w.heap.size w w2) := HB1.out.trans (hb2.mono HB1.out.size)
    have hs2 : w.heap.size < w2.heap.size := Nat.lt_of_lt_of_le hs1 hb2.size
    clear hb2 HB1 HG1
    go_wp2_with fail
    go_loopg [29] l.length (fun g s29 wr => ∃ k : Nat, k ≤ l.length ∧ l.length - k ≤ g ∧ s29 = .int .i64 k ∧ wr = w2)
    case atStart => exact ⟨0, Nat.zero_le _, by omega, rfl, rfl⟩
    case round =>
      obtain ⟨k, hk, hg, rfl, rfl⟩ := hrel
      by_cases hlt : k < l.length
      · obtain ⟨rfl, hbw⟩ := HA.out (by omega)
        obtain ⟨x, hx, hI⟩ := HCc.out k hlt
        rw [← HB2.out.cell (p := ⟨b, _, none⟩) hbw] at hx
        have hmem : l.getD k [] ∈ l := by rw [List.getD_eq_getElem?_getD, List.getElem?_eq_getElem hlt]; exact List.getElem_mem hlt
        have hct := containsFW_any x (l.getD k []) w.heap.size _ t wr (hI.below HB2.out) HG2.out (HT.out.below HB2.out) (fun y hy => by have := (HWV.out _ hmem).2 y hy; omega)
        have hcase : (k < q ∧ Wv.isOpen t (l.getD k []) = false) ∨ (k = q ∧ Wv.isOpen t (l.getD k []) = true) ∨ q < k := by
          rcases Nat.lt_trichotomy k q with h | h | h
          · exact .inl ⟨h, HQ3.out k h⟩
          · exact .inr (.inl ⟨h, by rw [h]; exact HQ4.out (by omega)⟩)
          · exact .inr (.inr h)
        generalize Wv.isOpen t (l.getD k []) = op at hct hcase
        clear HA HCc hI hmem
        have hg1 := HG2.out
        rcases hcase with ⟨h1, rfl⟩ | ⟨rfl, rfl⟩ | h1
        · have h1' : (k : Int) < q := by omega
          have h2' : ((k : Int) == q) = false := by simp only [beq_eq_false_iff_ne]; omega
          clear h1
          go_wp2_with fail
          refine hct.mono ?_
          rintro e w3 ⟨rfl, rfl⟩
          go_wp2
          go_roundg (l.length - (k + 1))
          case measure => omega
          case rel => exact ⟨k + 1, by omega, by omega, by go_num, rfl⟩
        · go_wp2_with fail
          refine hct.mono ?_
          rintro e w3 ⟨rfl, rfl⟩
          go_wp2
          go_roundg (l.length - (k + 1))
          case measure => omega
          case rel => exact ⟨k + 1, by omega, by omega, by go_num, rfl⟩
        · have h1' : (q : Int) ≤ k := by omega
          have h2' : ((k : Int) == q) = false := by simp only [beq_eq_false_iff_ne]; omega
          clear h1
          go_wp2_with fail
          refine hct.mono ?_
          rintro e w3 ⟨rfl, rfl⟩
          go_wp2
          go_roundg (l.length - (k + 1))
          case measure => omega
          case rel => exact ⟨k + 1, by omega, by omega, by go_num, rfl⟩
      · have hk' : k = l.length := by omega
        subst hk'
        clear hk hlt HA HCc
        have hg1 := HG2.out
        go_wp2_with fail
        refine (cloneB_any _ t _ (HT.out.below HB2.out) ht1 (by omega)).mono ?_
        rintro e w3 ⟨⟨g, c3, rfl, hc3, hg3, hgs3, hf3, hC3⟩, hb3⟩
        have HF3 : Hid (∀ j, w3.frozen? ⟨g, j, none⟩ = false) := hf3
        have HC3 : Hid (∀ j, j < t.length → w3.cell? ⟨g, j, none⟩ = some (.bool (t.getD j true))) := hC3
        have HB3 : Hid (Below w.heap.size w w3) := HB2.out.trans (hb3.mono HB2.out.size)
        clear hb3 hf3 hC3 hg1
        go_wp2_with fail
        refine (at_any a t.length ht1 (by omega) _).mono ?_
        rintro e w4 ⟨⟨j, rfl, hj⟩, rfl⟩
        have hf4 := HF3.out j
        have hc4 := HC3.out j hj
        have hj' : (j : Int) < t.length := by omega
        have HT5 : Hid (BoolsAt (w4.setCell ⟨g, j, none⟩ (.bool true)) (.slice (some ⟨g, 0, none⟩) t.length c3) (t.set j true)) := bools_set rfl (by omega) hc3 hgs3 HC3.out hj
        have HB5 : Hid (Below w.heap.size w (w4.setCell ⟨g, j, none⟩ (.bool true))) := HB3.out.setCell (by simp only []; omega) _
        have HM1 := HMO.out j
        rw [HQ2.out] at HM1
        obtain ⟨hm1, hm2⟩ := HM1
        go_wp2_with fail
        refine (C.now _ _ l (t.set j true) _ (HL.out.below HB5.out) HT5.out).mono ?_
        rintro e w6 ⟨rfl, hb6⟩
        rw [HZ2.out j, HN2.out j]
        have HB6 : Hid (Below w.heap.size w w6) := HB5.out.trans (hb6.mono HB5.out.size)
        generalize Wv.now l (t.set j true) = y at hm1 hm2
        clear hb6 HT5 HB5 hf4 hc4
        go_wp2
        go_ret
        exact ⟨rfl, HB6.out⟩
  · have hz' : (nowErr l t != 0) = true := by simpa using hz
    clear hz
    go_wp2_with fail
    refine (waved_any C _).mono ?_
    rintro e w2 ⟨rfl, hb2⟩
    have HB2 : Hid (Below w.heap.size w w2) := HB1.out.trans (hb2.mono HB1.out.size)
    clear hb2
    go_wp2_with fail
    refine (waved_any C _).mono ?_
    rintro e w3 ⟨rfl, hb3⟩
    have HB3 : Hid (Below w.heap.size w w3) := HB2.out.trans (hb3.mono HB2.out.size)
    clear hb3
    go_wp2
    go_ret
    exact ⟨rfl, HB3.out⟩
end Go.Proofs.Ytigblcefpiacmab
