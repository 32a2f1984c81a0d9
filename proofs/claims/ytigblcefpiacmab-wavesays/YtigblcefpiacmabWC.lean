/- The contracts of slices.IndexFunc at waves, wave.Of and wave.Now: the contracts of package wave. -/
import Derived.Test.YtigblcefpiacmabC3
import Derived.Test.YtigblcefpiacmabV5
import Derived.Laws.EntriesVeiled
namespace Go.Proofs.Ytigblcefpiacmab
open Go.RowKit
namespace Wv
/-- where the first wave is of which it is true -/
def idxL (p : List Int → Bool) : List (List Int) → Int → Int
  | [], _ => -1
  | x :: r, k => if p x = true then k else idxL p r (k + 1)
theorem idxL_of (a : Int) : ∀ (l : List (List Int)) (k : Int), idxL (fun m => decide (a ∈ m)) l k = ofFrom a l k
  | [], _ => rfl
  | x :: r, k => by
    rw [idxL, ofFrom, idxL_of a r]
    by_cases h : a ∈ x
    · rw [if_pos (decide_eq_true h), if_pos h]
    · rw [if_neg (by simpa using h), if_neg h]
theorem idxL_now (t : List Bool) : ∀ (l : List (List Int)) (k : Int), 0 ≤ k → (0 ≤ idxL (isOpen t) l k ∧ nowFrom t l k = idxL (isOpen t) l k) ∨ (idxL (isOpen t) l k = -1 ∧ nowFrom t l k = k + l.length)
  | [], k, _ => .inr ⟨rfl, by simp [nowFrom]⟩
  | x :: r, k, hk => by
    rw [idxL, nowFrom]
    by_cases h : isOpen t x = true
    · rw [if_pos h, if_pos h]; exact .inl ⟨hk, rfl⟩
    · rw [if_neg h, if_neg h]
      rcases idxL_now t r (k + 1) (by omega) with ⟨h1, h2⟩ | ⟨h1, h2⟩
      · exact .inl ⟨h1, h2⟩
      · exact .inr ⟨h1, by rw [h2, List.length_cons]; omega⟩
end Wv
set_option maxHeartbeats 4000000 in
theorem indexL_any (v : Value) (l : List (List Int)) (f : Nat) (c : Value) (p : List Int → Bool) (w : World) (hL : WavesAt w v l) (eg : ∀ args w, (callFunc f args).run Try.prog w = .ok (.enter f args) w)
    (hF : ∀ u m, m ∈ l → IntsAt w u m → Calls Try.prog f #[u, c] w fun e w' => e = .returned (.bool (p m)) ∧ w' = w) :
    Calls Try.prog 43 #[v, .func (.func f) #[] #[c]] w fun e w' => e = .returned (.int .i64 (Wv.idxL p l 0)) ∧ w' = w := by
  obtain ⟨hll, A, b, o, cp, rfl, -, hA, hC⟩ := hL
  have HA : Hid (0 < l.length → A = some ⟨b, o, none⟩ ∧ b < w.heap.size) := hA
  have HC : Hid (∀ j, j < l.length → ∃ u, w.cell? ⟨b, o + j, none⟩ = some u ∧ IntsAt w u (l.getD j [])) := hC
  have HF : Hid (∀ u m, m ∈ l → IntsAt w u m → Calls Try.prog f #[u, c] w fun e w' => e = .returned (.bool (p m)) ∧ w' = w) := hF
  clear hA hC hF
  go_enter Try.func43, Try.ntmps43
  go_wp2
  go_loopg [8] l.length (fun g s8 wr => ∃ k : Nat, k ≤ l.length ∧ l.length - k ≤ g ∧ s8 = .int .i64 k ∧ Hid (Wv.idxL p (l.drop k) k = Wv.idxL p l 0) ∧ wr = w)
  case atStart => exact ⟨0, Nat.zero_le _, by omega, rfl, rfl, rfl⟩
  case round =>
    obtain ⟨k, hk, hgk, rfl, H, rfl⟩ := hrel
    by_cases hlt : k < l.length
    · obtain ⟨rfl, hbw⟩ := HA.out (by omega)
      obtain ⟨u, hu, hI⟩ := HC.out k hlt
      have hd := dropL l [] k hlt
      have hmem : l.getD k [] ∈ l := by rw [List.getD_eq_getElem?_getD, List.getElem?_eq_getElem hlt]; exact List.getElem_mem hlt
      have hcl := HF.out u _ hmem hI
      generalize l.getD k [] = m at hd hcl
      clear HA HC hI hmem HF
      cases hp : p m with
      | true =>
        have HR : Hid (Wv.idxL p l 0 = k) := by rw [← H.out, hd, Wv.idxL, if_pos hp]; rfl
        rw [hp] at hcl
        clear hp hd H
        go_wp2_with fail
        refine hcl.mono ?_
        rintro e w1 ⟨rfl, rfl⟩
        go_wp2
        go_ret
        exact ⟨by rw [HR.out]; rfl, rfl⟩
      | false =>
        have HR : Hid (Wv.idxL p (l.drop (k + 1)) ((k + 1 : Nat) : Int) = Wv.idxL p l 0) := by
          have := H.out
          rw [hd, Wv.idxL, if_neg (by rw [hp]; decide)] at this
          exact this
        rw [hp] at hcl
        clear hp hd H
        go_wp2_with fail
        refine hcl.mono ?_
        rintro e w1 ⟨rfl, rfl⟩
        go_wp2
        go_roundg (l.length - (k + 1))
        case measure => omega
        case rel => exact ⟨k + 1, by omega, by omega, by go_num, HR, rfl⟩
    · have hk' : k = l.length := by omega
      have HB : Hid (Wv.idxL p l 0 = -1) := by rw [← H.out, hk', List.drop_length]; rfl
      subst hk'
      clear hk hlt
      go_wp2
      go_ret
      exact ⟨by rw [HB.out]; rfl, rfl⟩
set_option maxHeartbeats 1000000 in
theorem ofC_any (u : Value) (m : List Int) (a : Int) (g : Nat) (w : World) (hI : IntsAt w u m) (hg : w.cell? ⟨g, 0, none⟩ = some (.int .i64 a)) :
    Calls Try.prog 49 #[u, .pointer (some ⟨g, 0, none⟩)] w fun e w' => e = .returned (.bool (decide (a ∈ m))) ∧ w' = w := by
  have hc := containsI_any u m a w hI
  clear hI
  generalize decide (a ∈ m) = x at hc
  go_enter Try.func49, Try.ntmps49
  go_wp2_with fail
  refine hc.mono ?_
  rintro e w1 ⟨rfl, rfl⟩
  go_wp2
  go_ret
  exact ⟨rfl, rfl⟩
set_option maxHeartbeats 1000000 in
theorem ofP_any (v : Value) (l : List (List Int)) (a : Int) (w : World) (hL : WavesAt w v l) :
    Calls Try.prog 24 #[v, .int .i64 a] w fun e w' => e = .returned (.int .i64 (Wv.of l a)) ∧ Below w.heap.size w w' := by
  have HB : Hid (Below w.heap.size w (w.alloc (.cells #[.int .i64 a] 3))) := (Below.refl _ w).alloc (Nat.le_refl _) _
  have HC : Hid (Calls Try.prog 43 #[v, .func (.func 49) #[] #[.pointer (some ⟨w.heap.size, 0, none⟩)]] (w.alloc (.cells #[.int .i64 a] 3)) fun e w' => e = .returned (.int .i64 (Wv.idxL (fun m => decide (a ∈ m)) l 0)) ∧ w' = w.alloc (.cells #[.int .i64 a] 3)) :=
    indexL_any v l _ _ _ _ (hL.below HB.out) (fun _ _ => by simp [go_sem]) (fun u m _ hI => ofC_any u m a w.heap.size _ hI (by simp [go_sem]))
  have HE : Hid (Wv.idxL (fun m => decide (a ∈ m)) l 0 = Wv.of l a) := Wv.idxL_of a l 0
  clear hL
  go_enter Try.func24, Try.ntmps24
  go_wp2_with fail
  refine HC.out.mono ?_
  rintro e w1 ⟨rfl, rfl⟩
  go_wp2
  go_ret
  exact ⟨by rw [HE.out]; rfl, HB.out⟩
set_option maxHeartbeats 1000000 in
theorem nowC1_any (a : Int) (g : Nat) (u : Value) (t : List Bool) (w : World) (hg : w.cell? ⟨g, 0, none⟩ = some u) (hT : BoolsAt w u t) (h0 : 0 ≤ a) (h1 : a < t.length) :
    Calls Try.prog 42 #[.int .i64 a, .pointer (some ⟨g, 0, none⟩)] w fun e w' => e = .returned (.bool (!t.getD a.toNat true)) ∧ w' = w := by
  obtain ⟨htl, A, b, o, c, rfl, -, hA, hC⟩ := hT
  obtain ⟨rfl, hb⟩ := hA (by omega)
  obtain ⟨n, rfl⟩ : ∃ n : Nat, a = n := ⟨a.toNat, by omega⟩
  have hn : n < t.length := by omega
  have c1 := hC n hn
  rw [Int.toNat_natCast]
  generalize t.getD n true = x at c1
  clear hA hC h0
  go_enter Try.func42, Try.ntmps42
  go_wp2
  go_ret
  exact ⟨rfl, rfl⟩
set_option maxHeartbeats 4000000 in
theorem indexFG_any (v : Value) (m : List Int) (f : Nat) (c : Value) (p : Int → Bool) (w : World) (hL : IntsAt w v m) (eg : ∀ args w, (callFunc f args).run Try.prog w = .ok (.enter f args) w)
    (hF : ∀ a ∈ m, Calls Try.prog f #[.int .i64 a, c] w fun e w' => e = .returned (.bool (p a)) ∧ w' = w) :
    Calls Try.prog 50 #[v, .func (.func f) #[] #[c]] w fun e w' => e = .returned (.int .i64 (Wv.idxF p m 0)) ∧ w' = w := by
  obtain ⟨hll, A, b, o, cp, rfl, -, hA, hC⟩ := hL
  have HA : Hid (0 < m.length → A = some ⟨b, o, none⟩ ∧ b < w.heap.size) := hA
  have HC : Hid (∀ j, j < m.length → w.cell? ⟨b, o + j, none⟩ = some (.int .i64 (m.getD j 0))) := hC
  have HF : Hid (∀ a ∈ m, Calls Try.prog f #[.int .i64 a, c] w fun e w' => e = .returned (.bool (p a)) ∧ w' = w) := hF
  clear hA hC hF
  go_enter Try.func50, Try.ntmps50
  go_wp2
  go_loopg [8] m.length (fun g s8 wr => ∃ k : Nat, k ≤ m.length ∧ m.length - k ≤ g ∧ s8 = .int .i64 k ∧ Hid (Wv.idxF p (m.drop k) k = Wv.idxF p m 0) ∧ wr = w)
  case atStart => exact ⟨0, Nat.zero_le _, by omega, rfl, rfl, rfl⟩
  case round =>
    obtain ⟨k, hk, hgk, rfl, H, rfl⟩ := hrel
    by_cases hlt : k < m.length
    · obtain ⟨rfl, hbw⟩ := HA.out (by omega)
      have g1 := HC.out k hlt
      have hd := dropL m 0 k hlt
      have hcl := HF.out _ (mem_getDI hlt)
      generalize m.getD k 0 = x at g1 hd hcl
      clear HA HC HF
      cases hp : p x with
      | true =>
        have HR : Hid (Wv.idxF p m 0 = k) := by rw [← H.out, hd, Wv.idxF, if_pos hp]; rfl
        rw [hp] at hcl
        clear hp hd H
        go_wp2_with fail
        refine hcl.mono ?_
        rintro e w1 ⟨rfl, rfl⟩
        go_wp2
        go_ret
        exact ⟨by rw [HR.out]; rfl, rfl⟩
      | false =>
        have HR : Hid (Wv.idxF p (m.drop (k + 1)) ((k + 1 : Nat) : Int) = Wv.idxF p m 0) := by
          have := H.out
          rw [hd, Wv.idxF, if_neg (by rw [hp]; decide)] at this
          exact this
        rw [hp] at hcl
        clear hp hd H
        go_wp2_with fail
        refine hcl.mono ?_
        rintro e w1 ⟨rfl, rfl⟩
        go_wp2
        go_roundg (m.length - (k + 1))
        case measure => omega
        case rel => exact ⟨k + 1, by omega, by omega, by go_num, HR, rfl⟩
    · have hk' : k = m.length := by omega
      have HB : Hid (Wv.idxF p m 0 = -1) := by rw [← H.out, hk', List.drop_length]; rfl
      subst hk'
      clear hk hlt
      go_wp2
      go_ret
      exact ⟨by rw [HB.out]; rfl, rfl⟩
set_option maxHeartbeats 1000000 in
theorem containsFG_any (v : Value) (m : List Int) (f : Nat) (c : Value) (p : Int → Bool) (w : World) (hL : IntsAt w v m) (eg : ∀ args w, (callFunc f args).run Try.prog w = .ok (.enter f args) w)
    (hF : ∀ a ∈ m, Calls Try.prog f #[.int .i64 a, c] w fun e w' => e = .returned (.bool (p a)) ∧ w' = w) :
    Calls Try.prog 27 #[v, .func (.func f) #[] #[c]] w fun e w' => e = .returned (.bool (m.any p)) ∧ w' = w := by
  have HC := indexFG_any v m f c p w hL eg hF
  have HM : Hid (decide (0 ≤ Wv.idxF p m 0) = m.any p) := Wv.idxF_any (by decide)
  clear hL hF eg
  go_enter Try.func27, Try.ntmps27
  go_wp2_with fail
  refine HC.mono ?_
  rintro e w1 ⟨rfl, rfl⟩
  go_wp2
  go_ret
  exact ⟨by rw [← HM.out]; rfl, rfl⟩
set_option maxHeartbeats 1000000 in
theorem nowC2_any (u : Value) (m : List Int) (g g2 : Nat) (x : Value) (t : List Bool) (w : World) (hI : IntsAt w u m) (hg2 : w.cell? ⟨g2, 0, none⟩ = some (.func (.func 42) #[] #[.pointer (some ⟨g, 0, none⟩)])) (hg : w.cell? ⟨g, 0, none⟩ = some x) (hT : BoolsAt w x t) (hin : ∀ a ∈ m, 0 ≤ a ∧ a < t.length) :
    Calls Try.prog 44 #[u, .pointer (some ⟨g2, 0, none⟩)] w fun e w' => e = .returned (.bool (Wv.isOpen t m)) ∧ w' = w := by
  have hc : Calls Try.prog 27 #[u, .func (.func 42) #[] #[.pointer (some ⟨g, 0, none⟩)]] w fun e w' => e = .returned (.bool (Wv.isOpen t m)) ∧ w' = w :=
    containsFG_any u m _ _ (fun a => !t.getD a.toNat true) w hI (fun _ _ => by simp [go_sem]) (fun a ha => nowC1_any a g x t w hg hT (hin a ha).1 (hin a ha).2)
  clear hI hT hin hg
  generalize Wv.isOpen t m = y at hc
  go_enter Try.func44, Try.ntmps44
  go_wp2_with fail
  refine hc.mono ?_
  rintro e w1 ⟨rfl, rfl⟩
  go_wp2
  go_ret
  exact ⟨rfl, rfl⟩
set_option maxHeartbeats 4000000 in
theorem nowP_any (v u : Value) (l : List (List Int)) (t : List Bool) (w : World) (hL : WavesAt w v l) (hT : BoolsAt w u t) :
    Calls Try.prog 20 #[v, u] w fun e w' => e = .returned (.tuple #[.int .i64 (nowOf l t), .int .i64 (nowErr l t)]) ∧ Below w.heap.size w w' := by
  have HL : Hid (WavesAt w v l) := hL
  have HT : Hid (BoolsAt w u t) := hT
  have HB0 : Hid (Below w.heap.size w (w.alloc (.cells #[u] 44))) := (Below.refl _ w).alloc (Nat.le_refl _) _
  have HCK : Hid (Calls Try.prog 23 #[v, .int .i64 t.length] (w.alloc (.cells #[u] 44)) fun e w' => e = .returned (.int .i64 (nowErr l t)) ∧ Below (w.alloc (.cells #[u] 44)).heap.size (w.alloc (.cells #[u] 44)) w') := checkP_any v l t.length _ (HL.out.below HB0.out)
  have HG0 : Hid ((w.alloc (.cells #[u] 44)).cell? ⟨w.heap.size, 0, none⟩ = some u) := by show _ = _; simp [go_sem]
  obtain ⟨htl, B, b2, o2, c2, rfl, -, -, -⟩ := hT
  obtain ⟨hll, A, b, o, c, rfl, -, -, -⟩ := hL
  go_enter Try.func20, Try.ntmps20
  go_wp2_with fail
  refine HCK.out.mono ?_
  rintro e w1 ⟨rfl, hb1⟩
  have HB1 : Hid (Below w.heap.size w w1) := HB0.out.trans (hb1.mono HB0.out.size)
  have hs1 : w.heap.size < w1.heap.size := by have := hb1.size; simp at this; omega
  have HG1 : Hid (w1.cell? ⟨w.heap.size, 0, none⟩ = some (.slice B t.length c2)) := (hb1.cell (p := ⟨w.heap.size, 0, none⟩) (by simp)).trans HG0.out
  clear hb1 HB0 HCK HG0
  by_cases hz : nowErr l t = 0
  · have hin : ∀ m ∈ l, ∀ a ∈ m, 0 ≤ a ∧ a < t.length := fun m hm a ha => by
      have := ((Wv.all_stand (show Wv.chk l t.length = 0 from hz)).2.1 m hm).2 a ha
      omega
    have HIN : Hid (∀ m ∈ l, ∀ a ∈ m, 0 ≤ a ∧ a < t.length) := hin
    have HNW : Hid (nowOf l t = Wv.now l t) := by rw [nowOf, if_pos hz]; rfl
    have hcase := Wv.idxL_now t l 0 (by omega)
    have HB2 : Hid (Below w.heap.size w (w1.alloc (.cells #[.func (.func 42) #[] #[.pointer (some ⟨w.heap.size, 0, none⟩)]] 52))) := HB1.out.alloc HB1.out.size _
    have HX : Hid (Calls Try.prog 43 #[.slice A l.length c, .func (.func 44) #[] #[.pointer (some ⟨w1.heap.size, 0, none⟩)]] (w1.alloc (.cells #[.func (.func 42) #[] #[.pointer (some ⟨w.heap.size, 0, none⟩)]] 52)) fun e w' => e = .returned (.int .i64 (Wv.idxL (Wv.isOpen t) l 0)) ∧ w' = w1.alloc (.cells #[.func (.func 42) #[] #[.pointer (some ⟨w.heap.size, 0, none⟩)]] 52)) :=
      indexL_any _ l _ _ _ _ (HL.out.below HB2.out) (fun _ _ => by simp [go_sem]) (fun x m hm hI => nowC2_any x m w.heap.size w1.heap.size _ t _ hI (by simp [go_sem]) ((((Below.refl _ w1).alloc (Nat.le_refl _) _).cell (p := ⟨w.heap.size, 0, none⟩) hs1).trans HG1.out) (HT.out.below HB2.out) (hin m hm))
    have HZ : Hid (nowErr l t = 0) := hz
    rw [hz]
    clear hz hin HIN HG1 HT HL
    rcases hcase with ⟨h1, h2⟩ | ⟨h1, h2⟩
    · have HR : Hid (nowOf l t = Wv.idxL (Wv.isOpen t) l 0) := by rw [HNW.out]; exact h2
      generalize Wv.idxL (Wv.isOpen t) l 0 = y at h1 HX HR
      clear h2 HNW
      go_wp2_with fail
      refine HX.out.mono ?_
      rintro e w3 ⟨rfl, rfl⟩
      go_wp2
      go_ret2
      exact ⟨by rw [HR.out, HZ.out]; rfl, HB2.out⟩
    · have HR : Hid (nowOf l t = l.length) := by rw [HNW.out]; exact h2.trans (by simp)
      rw [h1] at HX
      clear h1 h2 HNW
      go_wp2_with fail
      refine HX.out.mono ?_
      rintro e w3 ⟨rfl, rfl⟩
      go_wp2
      go_ret2
      exact ⟨by rw [HR.out, HZ.out]; rfl, HB2.out⟩
  · have hz' : (nowErr l t != 0) = true := by simpa using hz
    have HN : Hid (nowOf l t = 0) := by rw [nowOf, if_neg hz]; rfl
    clear hz
    go_wp2
    go_ret2
    exact ⟨by rw [HN.out]; rfl, HB1.out⟩
theorem waveC : WaveC := ⟨checkP_any, ofP_any, nowP_any⟩
end Go.Proofs.Ytigblcefpiacmab
