/- What package wave's functions are asked for, in one word; the closed fact 'waved' and the walk of WaveSays out of it. -/
import Derived.Test.YtigblcefpiacmabV2
import Derived.Test.YtigblcefpiacmabV3
namespace Go.Proofs.Ytigblcefpiacmab
open Go.RowKit
/-- what Now answers: the error, and the wave -/
def nowErr (l : List (List Int)) (t : List Bool) : Int := Wv.chk l t.length
def nowOf (l : List (List Int)) (t : List Bool) : Int := if nowErr l t = 0 then Wv.now l t else 0
/-- the contracts of package wave -/
structure WaveC : Prop where
  check : ∀ (v : Value) (l : List (List Int)) (n : Int) (w : World), WavesAt w v l → Calls Try.prog 23 #[v, .int .i64 n] w fun e w' => e = .returned (.int .i64 (Wv.chk l n)) ∧ Below w.heap.size w w'
  of : ∀ (v : Value) (l : List (List Int)) (a : Int) (w : World), WavesAt w v l → Calls Try.prog 24 #[v, .int .i64 a] w fun e w' => e = .returned (.int .i64 (Wv.of l a)) ∧ Below w.heap.size w w'
  now : ∀ (v u : Value) (l : List (List Int)) (t : List Bool) (w : World), WavesAt w v l → BoolsAt w u t → Calls Try.prog 20 #[v, u] w fun e w' => e = .returned (.tuple #[.int .i64 (nowOf l t), .int .i64 (nowErr l t)]) ∧ Below w.heap.size w w'
def twoW : List (List Int) := [[1], [2, 0]]
theorem bools_new (w : World) (x : Bool) (t : TypeId) : BoolsAt (w.alloc (.cells #[.bool true, .bool true, .bool x] t)) (.slice (some ⟨w.heap.size, 0, none⟩) 3 3) [true, true, x] := by
  refine ⟨by simp, some ⟨w.heap.size, 0, none⟩, w.heap.size, 0, 3, rfl, by simp, fun _ => ⟨rfl, by simp⟩, fun j hj => ?_⟩
  rcases j with _ | _ | _ | j
  · simp [go_sem]
  · simp [go_sem]
  · simp [go_sem]
  · simp at hj; omega
/-- the world in which 'waved' has laid its waves -/
def wavedW (w : World) : World := ((w.alloc (.cells #[.int .i64 1] 3)).alloc (.cells #[.int .i64 2, .int .i64 0] 3)).alloc (.cells #[.slice (some ⟨w.heap.size, 0, none⟩) 1 1, .slice (some ⟨w.heap.size + 1, 0, none⟩) 2 2] 50)
theorem waves_new (w : World) : WavesAt (wavedW w) (.slice (some ⟨w.heap.size + 2, 0, none⟩) 2 2) twoW := by
  refine ⟨by decide, some ⟨w.heap.size + 2, 0, none⟩, w.heap.size + 2, 0, 2, rfl, by decide, fun _ => ⟨rfl, by simp [wavedW]⟩, fun j hj => ?_⟩
  rcases j with _ | _ | j
  · refine ⟨.slice (some ⟨w.heap.size, 0, none⟩) 1 1, by simp [wavedW, go_sem], by decide, some ⟨w.heap.size, 0, none⟩, w.heap.size, 0, 1, rfl, by decide, fun _ => ⟨rfl, by simp [wavedW]; omega⟩, fun i hi => ?_⟩
    rcases i with _ | i
    · simp [wavedW, go_sem, twoW]
    · simp [twoW] at hi
  · refine ⟨.slice (some ⟨w.heap.size + 1, 0, none⟩) 2 2, by simp [wavedW, go_sem], by decide, some ⟨w.heap.size + 1, 0, none⟩, w.heap.size + 1, 0, 2, rfl, by decide, fun _ => ⟨rfl, by simp [wavedW]⟩, fun i hi => ?_⟩
    rcases i with _ | _ | i
    · simp [wavedW, go_sem, twoW]
    · simp [wavedW, go_sem, twoW]
    · simp [twoW] at hi; omega
  · simp [twoW] at hj; omega
theorem wd1 : nowOf twoW [true, true, false] = 1 := by decide +kernel
theorem wd2 : nowErr twoW [true, true, false] = 0 := by decide +kernel
theorem wd3 : nowOf twoW [true, true, true] = 2 := by decide +kernel
theorem wd4 : nowErr twoW [true, true, true] = 0 := by decide +kernel
theorem wd5 : Wv.of twoW 0 = 1 := by decide +kernel
theorem wd6 : Wv.of twoW 3 = -1 := by decide +kernel
theorem wd7 : Wv.chk twoW 2 = 5 := by decide +kernel
set_option maxHeartbeats 4000000 in
theorem waved_any (C : WaveC) (w : World) : Calls Try.prog 22 #[] w fun e w' => e = .returned (.bool true) ∧ Below w.heap.size w w' := by
  have HV : Hid (WavesAt (wavedW w) (.slice (some ⟨w.heap.size + 2, 0, none⟩) 2 2) twoW) := waves_new w
  have HB : Hid (Below w.heap.size w (wavedW w)) := (((Below.refl _ w).alloc (Nat.le_refl _) _).alloc (by simp) _).alloc (by simp; omega) _
  have HD : Hid (((w.alloc (.cells #[.int .i64 1] 3)).alloc (.cells #[.int .i64 2, .int .i64 0] 3)).alloc (.cells #[.slice (some ⟨w.heap.size, 0, none⟩) 1 1, .slice (some ⟨w.heap.size + 1, 0, none⟩) 2 2] 50) = wavedW w) := rfl
  have HZ : Hid ((wavedW w).heap.size = w.heap.size + 3) := by show _ = _; simp [wavedW]
  go_enter Try.func22, Try.ntmps22
  go_wp2_with fail
  rw [HD.out]
  have HT1 : Hid (BoolsAt ((wavedW w).alloc (.cells #[.bool true, .bool true, .bool false] 4)) (.slice (some ⟨w.heap.size + 1 + 1 + 1, 0, none⟩) 3 3) [true, true, false]) := by
    have := bools_new (wavedW w) false 4
    rw [HZ.out] at this
    exact this
  have HA1 : Hid (Below (wavedW w).heap.size (wavedW w) ((wavedW w).alloc (.cells #[.bool true, .bool true, .bool false] 4))) := (Below.refl _ _).alloc (Nat.le_refl _) _
  refine (C.now _ _ twoW _ _ (HV.out.below HA1.out) HT1.out).mono ?_
  rintro e w1 ⟨rfl, hb1⟩
  rw [wd1, wd2]
  have HB1 : Hid (Below (wavedW w).heap.size (wavedW w) w1) := HA1.out.trans (hb1.mono HA1.out.size)
  have HA2 : Hid (Below (wavedW w).heap.size (wavedW w) (w1.alloc (.cells #[.bool true, .bool true, .bool true] 4))) := HB1.out.alloc HB1.out.size _
  clear hb1 HT1 HA1
  go_wp2_with fail
  refine (C.now _ _ twoW _ _ (HV.out.below HA2.out) (bools_new w1 true 4)).mono ?_
  rintro e w2 ⟨rfl, hb2⟩
  rw [wd3, wd4]
  have HB2 : Hid (Below (wavedW w).heap.size (wavedW w) w2) := HA2.out.trans (hb2.mono HA2.out.size)
  clear hb2 HA2 HB1
  go_wp2_with fail
  refine (C.of _ twoW 0 _ (HV.out.below HB2.out)).mono ?_
  rintro e w3 ⟨rfl, hb3⟩
  rw [wd5]
  have HB3 : Hid (Below (wavedW w).heap.size (wavedW w) w3) := HB2.out.trans (hb3.mono HB2.out.size)
  clear hb3 HB2
  go_wp2_with fail
  refine (C.of _ twoW 3 _ (HV.out.below HB3.out)).mono ?_
  rintro e w4 ⟨rfl, hb4⟩
  rw [wd6]
  have HB4 : Hid (Below (wavedW w).heap.size (wavedW w) w4) := HB3.out.trans (hb4.mono HB3.out.size)
  clear hb4 HB3
  go_wp2_with fail
  refine (C.check _ twoW 2 _ (HV.out.below HB4.out)).mono ?_
  rintro e w5 ⟨rfl, hb5⟩
  rw [wd7]
  have HB5 : Hid (Below (wavedW w).heap.size (wavedW w) w5) := HB4.out.trans (hb5.mono HB4.out.size)
  clear hb5 HB4
  go_wp2
  go_ret
  exact ⟨rfl, HB.out.trans (HB5.out.mono HB.out.size)⟩
set_option maxHeartbeats 8000000 in
theorem wsays_any (C : WaveC) (v u : Value) (l : List (List Int)) (t : List Bool) (n a : Int) (w : World) (hL : WavesAt w v l) (hT : BoolsAt w u t) :
    Calls Try.prog 6 #[v, .int .i64 n, .int .i64 a, u] w fun e w' => e = .returned (.bool true) ∧ Below w.heap.size w w' := by
  have HL : Hid (WavesAt w v l) := hL
  have HT : Hid (BoolsAt w u t) := hT
  obtain ⟨htl, A, b, o, c, rfl, -, -, -⟩ := hT
  have HLS : Hid (nowErr l t = 0 → Wv.least l t = nowOf l t) := fun h => by rw [nowOf, if_pos h]; exact Wv.now_least h
  have HLZ : Hid (nowErr l t ≠ 0 → nowOf l t = 0) := fun h => by rw [nowOf, if_neg h]
  have HEE : Hid (Wv.chk l t.length = nowErr l t) := rfl
  clear hL
  go_enter Try.func6, Try.ntmps6
  go_wp2_with fail
  refine (C.now _ _ _ _ _ HL.out HT.out).mono ?_
  rintro e w1 ⟨rfl, hb1⟩
  have HB1 : Hid (Below w.heap.size w w1) := hb1
  clear hb1
  go_wp2_with fail
  refine (checkWR_any _ l _ _ (HL.out.below HB1.out)).mono ?_
  rintro e w2 ⟨rfl, hb2⟩
  rw [HEE.out]
  have HB2 : Hid (Below w.heap.size w w2) := HB1.out.trans (hb2.mono HB1.out.size)
  clear hb2 HB1
  go_wp2_with fail
  refine (waved_any C _).mono ?_
  rintro e w3 ⟨rfl, hb3⟩
  have HB3 : Hid (Below w.heap.size w w3) := HB2.out.trans (hb3.mono HB2.out.size)
  clear hb3 HB2
  go_wp2_with fail
  refine (C.check _ l n _ (HL.out.below HB3.out)).mono ?_
  rintro e w4 ⟨rfl, hb4⟩
  have HB4 : Hid (Below w.heap.size w w4) := HB3.out.trans (hb4.mono HB3.out.size)
  clear hb4 HB3
  go_wp2_with fail
  refine (checkWR_any _ l n _ (HL.out.below HB4.out)).mono ?_
  rintro e w5 ⟨rfl, hb5⟩
  have HB5 : Hid (Below w.heap.size w w5) := HB4.out.trans (hb5.mono HB4.out.size)
  clear hb5 HB4
  go_wp2_with fail
  refine (C.of _ l a _ (HL.out.below HB5.out)).mono ?_
  rintro e w6 ⟨rfl, hb6⟩
  have HB6 : Hid (Below w.heap.size w w6) := HB5.out.trans (hb6.mono HB5.out.size)
  clear hb6 HB5
  go_wp2_with fail
  refine (waveOfR_any _ l a _ (HL.out.below HB6.out)).mono ?_
  rintro e w7 ⟨rfl, rfl⟩
  by_cases hz : nowErr l t = 0
  · rw [hz]
    have HLE : Hid (Wv.least l t = nowOf l t) := HLS.out hz
    clear hz HLS HLZ
    go_wp2_with fail
    refine (waveNowR_any _ _ l t _ (HL.out.below HB6.out) (HT.out.below HB6.out)).mono ?_
    rintro e w8 ⟨rfl, rfl⟩
    rw [HLE.out]
    go_wp2
    go_ret
    exact ⟨rfl, HB6.out⟩
  · have HLE : Hid (nowOf l t = 0) := HLZ.out hz
    have hz' : (nowErr l t != 0) = true := by simpa using hz
    rw [HLE.out]
    clear hz HLS HLZ HLE
    go_wp2
    go_ret
    exact ⟨rfl, HB6.out⟩
end Go.Proofs.Ytigblcefpiacmab
