/- The walk of LockBack, out of the contracts: it returns true, and nothing old has turned. -/
import Derived.Test.YtpmhajdljghfcaaDoorW12
namespace Go.Proofs.YtpmhajdljghfcaaDoor
open Go.RowKit
theorem okP_of {l : List (Int × Int)} (h : Lk.chk l = 0) : ∀ p ∈ l, Lk.okP p := (chk_ok h).2
theorem read_text {l : List (Int × Int)} (h : Lk.chk l = 0) : Lk.readAs ⟨(Lk.text l).toArray⟩ = (l, 0) := readAs_good (Lk.pins_text l (okP_of h)) h
theorem text_small {l : List (Int × Int)} (h : Lk.chk l = 0) : (⟨(Lk.text l).toArray⟩ : ByteArray).size ≤ 60000 := by
  have h1 := text_len l (chk_ok h).2
  have h2 := (chk_ok h).1
  show (Lk.text l).toArray.size ≤ 60000
  rw [List.size_toArray]; omega
theorem text_same {l m : List (Int × Int)} (hl : Lk.chk l = 0) (hm : Lk.chk m = 0) : (Lk.text l == Lk.text m) = Lk.same l m := by
  by_cases h : l = m
  · subst h; rw [same_self]; simp
  · rw [show Lk.same l m = false from decide_eq_false h]
    refine beq_eq_false_iff_ne.2 fun e => h ?_
    have h1 := read_text hl
    rw [e, read_text hm] at h1
    exact (Prod.mk.inj h1).1.symm
/-- where a text is read as a lock, that is printed as it was -/
theorem read_back {s : ByteArray} (h : (Lk.readAs s).2 = 0) : Lk.chk (Lk.readAs s).1 = 0 ∧ printed (Lk.readAs s).1 = s.data.toList := by
  cases hp : Lk.pins s with
  | none => rw [readAs_none hp] at h; cases h
  | some l =>
    by_cases hc : Lk.chk l = 0
    · rw [readAs_good hp hc]
      exact ⟨hc, by rw [printed_good hc]; exact Lk.text_back s l hp (okP_of hc)⟩
    · rw [readAs_bad hp hc] at h; exact absurd h hc

set_option maxHeartbeats 4000000 in
theorem back_LMx (v u : Value) (l m : List (Int × Int)) (s : ByteArray) (w : World) (hE : Env w) (hP : PinsAt w v l) (hQ : PinsAt w u m) (hc : Lk.chk l = 0) (hd : Lk.chk m = 0) (hs : 60000 < s.size) :
    Calls Tryd.prog 4 #[v, u, .string s] w fun e w' => e = .returned (.bool true) ∧ Below w.heap.size w w' := by
  have HE : Hid (Env w) := hE
  have HP : Hid (PinsAt w v l) := hP
  have HQ : Hid (PinsAt w u m) := hQ
  have HC : Hid (Lk.chk l = 0) := hc
  have HD : Hid (Lk.chk m = 0) := hd
  clear hE hP hQ hc hd
  go_enter Tryd.func4, Tryd.ntmps4
  go_wp2_with fail
  refine (print_any _ _ _ HP.out).mono ?_
  rintro e w1 ⟨rfl, hb1⟩
  rw [printed_good HC.out, HC.out]
  have HE1 : Hid (Env w1) := HE.out.below hb1
  have HP1 : Hid (PinsAt w1 v l) := HP.out.below hb1
  have HQ1 : Hid (PinsAt w1 u m) := HQ.out.below hb1
  have HB1 : Hid (Below w.heap.size w w1) := hb1
  clear hb1 HE HP HQ
  go_wp2_with fail
  refine (print_any _ _ _ HQ1.out).mono ?_
  rintro e w2 ⟨rfl, hb2⟩
  rw [printed_good HD.out, HD.out]
  have HE2 : Hid (Env w2) := HE1.out.below hb2
  have HP2 : Hid (PinsAt w2 v l) := HP1.out.below hb2
  have HQ2 : Hid (PinsAt w2 u m) := HQ1.out.below hb2
  have HB2 : Hid (Below w.heap.size w w2) := HB1.out.trans (hb2.mono HB1.out.size)
  clear hb2 HE1 HP1 HQ1 HB1
  go_wp2_with fail
  refine (locked_any _ HE2.out).mono ?_
  rintro e w3 ⟨rfl, hb3⟩
  have HE3 : Hid (Env w3) := HE2.out.below hb3
  have HP3 : Hid (PinsAt w3 v l) := HP2.out.below hb3
  have HQ3 : Hid (PinsAt w3 u m) := HQ2.out.below hb3
  have HB3 : Hid (Below w.heap.size w w3) := HB2.out.trans (hb3.mono HB2.out.size)
  clear hb3 HE2 HP2 HQ2 HB2
  have HTS : Hid ((Lk.text l == Lk.text m) = Lk.same l m) := text_same HC.out HD.out
  generalize hsm : Lk.same l m = sm at HTS
  have HSM : Hid (Lk.same l m = sm) := hsm
  have hts := HTS.out
  clear hsm HTS
  go_wp2_with fail
  refine (equal_any _ _ _ _ _ HP3.out HQ3.out).mono ?_
  rintro e w4 ⟨rfl, hb4⟩
  rw [HSM.out]
  have HE4 : Hid (Env w4) := HE3.out.below hb4
  have HP4 : Hid (PinsAt w4 v l) := HP3.out.below hb4
  have HQ4 : Hid (PinsAt w4 u m) := HQ3.out.below hb4
  have HB4 : Hid (Below w.heap.size w w4) := HB3.out.trans (hb4.mono HB3.out.size)
  clear hb4 HE3 HP3 HQ3 HB3
  go_wp2_with fail
  refine (parse_any ⟨(Lk.text l).toArray⟩ (text_small HC.out) _ HE4.out).mono ?_
  rintro e w5 ⟨⟨x, rfl, hx⟩, hb5⟩
  rw [read_text HC.out] at hx ⊢
  have HX : Hid (PinsAt w5 x l) := hx
  clear hx
  have HE5 : Hid (Env w5) := HE4.out.below hb5
  have HP5 : Hid (PinsAt w5 v l) := HP4.out.below hb5
  have HQ5 : Hid (PinsAt w5 u m) := HQ4.out.below hb5
  have HB5 : Hid (Below w.heap.size w w5) := HB4.out.trans (hb5.mono HB4.out.size)
  clear hb5 HE4 HP4 HQ4 HB4
  go_wp2_with fail
  refine (equal_any _ _ _ _ _ HX.out HP5.out).mono ?_
  rintro e w6 ⟨rfl, hb6⟩
  rw [same_self]
  have HE6 : Hid (Env w6) := HE5.out.below hb6
  have HP6 : Hid (PinsAt w6 v l) := HP5.out.below hb6
  have HQ6 : Hid (PinsAt w6 u m) := HQ5.out.below hb6
  have HB6 : Hid (Below w.heap.size w w6) := HB5.out.trans (hb6.mono HB5.out.size)
  clear hb6 HE5 HP5 HQ5 HB5
  go_wp2_with fail
  refine (parse_long s hs _).mono ?_
  rintro e w7 ⟨rfl, hb7⟩
  have HE7 : Hid (Env w7) := HE6.out.below hb7
  have HP7 : Hid (PinsAt w7 v l) := HP6.out.below hb7
  have HQ7 : Hid (PinsAt w7 u m) := HQ6.out.below hb7
  have HB7 : Hid (Below w.heap.size w w7) := HB6.out.trans (hb7.mono HB6.out.size)
  clear hb7 HE6 HP6 HQ6 HB6
  go_wp2
  go_ret
  exact ⟨rfl, HB7.out⟩

set_option maxHeartbeats 4000000 in
theorem back_LMr (v u : Value) (l m : List (Int × Int)) (s : ByteArray) (w : World) (hE : Env w) (hP : PinsAt w v l) (hQ : PinsAt w u m) (hc : Lk.chk l = 0) (hd : Lk.chk m = 0) (hs : s.size ≤ 60000) (hr : (Lk.readAs s).2 = 0) :
    Calls Tryd.prog 4 #[v, u, .string s] w fun e w' => e = .returned (.bool true) ∧ Below w.heap.size w w' := by
  have HE : Hid (Env w) := hE
  have HP : Hid (PinsAt w v l) := hP
  have HQ : Hid (PinsAt w u m) := hQ
  have HC : Hid (Lk.chk l = 0) := hc
  have HD : Hid (Lk.chk m = 0) := hd
  have HR : Hid ((Lk.readAs s).2 = 0) := hr
  clear hr
  clear hE hP hQ hc hd
  go_enter Tryd.func4, Tryd.ntmps4
  go_wp2_with fail
  refine (print_any _ _ _ HP.out).mono ?_
  rintro e w1 ⟨rfl, hb1⟩
  rw [printed_good HC.out, HC.out]
  have HE1 : Hid (Env w1) := HE.out.below hb1
  have HP1 : Hid (PinsAt w1 v l) := HP.out.below hb1
  have HQ1 : Hid (PinsAt w1 u m) := HQ.out.below hb1
  have HB1 : Hid (Below w.heap.size w w1) := hb1
  clear hb1 HE HP HQ
  go_wp2_with fail
  refine (print_any _ _ _ HQ1.out).mono ?_
  rintro e w2 ⟨rfl, hb2⟩
  rw [printed_good HD.out, HD.out]
  have HE2 : Hid (Env w2) := HE1.out.below hb2
  have HP2 : Hid (PinsAt w2 v l) := HP1.out.below hb2
  have HQ2 : Hid (PinsAt w2 u m) := HQ1.out.below hb2
  have HB2 : Hid (Below w.heap.size w w2) := HB1.out.trans (hb2.mono HB1.out.size)
  clear hb2 HE1 HP1 HQ1 HB1
  go_wp2_with fail
  refine (locked_any _ HE2.out).mono ?_
  rintro e w3 ⟨rfl, hb3⟩
  have HE3 : Hid (Env w3) := HE2.out.below hb3
  have HP3 : Hid (PinsAt w3 v l) := HP2.out.below hb3
  have HQ3 : Hid (PinsAt w3 u m) := HQ2.out.below hb3
  have HB3 : Hid (Below w.heap.size w w3) := HB2.out.trans (hb3.mono HB2.out.size)
  clear hb3 HE2 HP2 HQ2 HB2
  have HTS : Hid ((Lk.text l == Lk.text m) = Lk.same l m) := text_same HC.out HD.out
  generalize hsm : Lk.same l m = sm at HTS
  have HSM : Hid (Lk.same l m = sm) := hsm
  have hts := HTS.out
  clear hsm HTS
  go_wp2_with fail
  refine (equal_any _ _ _ _ _ HP3.out HQ3.out).mono ?_
  rintro e w4 ⟨rfl, hb4⟩
  rw [HSM.out]
  have HE4 : Hid (Env w4) := HE3.out.below hb4
  have HP4 : Hid (PinsAt w4 v l) := HP3.out.below hb4
  have HQ4 : Hid (PinsAt w4 u m) := HQ3.out.below hb4
  have HB4 : Hid (Below w.heap.size w w4) := HB3.out.trans (hb4.mono HB3.out.size)
  clear hb4 HE3 HP3 HQ3 HB3
  go_wp2_with fail
  refine (parse_any ⟨(Lk.text l).toArray⟩ (text_small HC.out) _ HE4.out).mono ?_
  rintro e w5 ⟨⟨x, rfl, hx⟩, hb5⟩
  rw [read_text HC.out] at hx ⊢
  have HX : Hid (PinsAt w5 x l) := hx
  clear hx
  have HE5 : Hid (Env w5) := HE4.out.below hb5
  have HP5 : Hid (PinsAt w5 v l) := HP4.out.below hb5
  have HQ5 : Hid (PinsAt w5 u m) := HQ4.out.below hb5
  have HB5 : Hid (Below w.heap.size w w5) := HB4.out.trans (hb5.mono HB4.out.size)
  clear hb5 HE4 HP4 HQ4 HB4
  go_wp2_with fail
  refine (equal_any _ _ _ _ _ HX.out HP5.out).mono ?_
  rintro e w6 ⟨rfl, hb6⟩
  rw [same_self]
  have HE6 : Hid (Env w6) := HE5.out.below hb6
  have HP6 : Hid (PinsAt w6 v l) := HP5.out.below hb6
  have HQ6 : Hid (PinsAt w6 u m) := HQ5.out.below hb6
  have HB6 : Hid (Below w.heap.size w w6) := HB5.out.trans (hb6.mono HB5.out.size)
  clear hb6 HE5 HP5 HQ5 HB5
  go_wp2_with fail
  refine (parse_any s hs _ HE6.out).mono ?_
  rintro e w7 ⟨⟨y, rfl, hy⟩, hb7⟩
  have HY : Hid (PinsAt w7 y (Lk.readAs s).1) := hy
  rw [HR.out]
  clear hy
  have HE7 : Hid (Env w7) := HE6.out.below hb7
  have HP7 : Hid (PinsAt w7 v l) := HP6.out.below hb7
  have HQ7 : Hid (PinsAt w7 u m) := HQ6.out.below hb7
  have HB7 : Hid (Below w.heap.size w w7) := HB6.out.trans (hb7.mono HB6.out.size)
  clear hb7 HE6 HP6 HQ6 HB6
  go_wp2_with fail
  refine (print_any _ _ _ HY.out).mono ?_
  rintro e w8 ⟨rfl, hb8⟩
  rw [(read_back HR.out).1, (read_back HR.out).2, ← toList_eq]
  have HE8 : Hid (Env w8) := HE7.out.below hb8
  have HP8 : Hid (PinsAt w8 v l) := HP7.out.below hb8
  have HQ8 : Hid (PinsAt w8 u m) := HQ7.out.below hb8
  have HB8 : Hid (Below w.heap.size w w8) := HB7.out.trans (hb8.mono HB7.out.size)
  clear hb8 HE7 HP7 HQ7 HB7
  go_wp2
  go_ret
  exact ⟨by simp, HB8.out⟩

set_option maxHeartbeats 4000000 in
theorem back_LMn (v u : Value) (l m : List (Int × Int)) (s : ByteArray) (w : World) (hE : Env w) (hP : PinsAt w v l) (hQ : PinsAt w u m) (hc : Lk.chk l = 0) (hd : Lk.chk m = 0) (hs : s.size ≤ 60000) (hr : ¬ (Lk.readAs s).2 = 0) :
    Calls Tryd.prog 4 #[v, u, .string s] w fun e w' => e = .returned (.bool true) ∧ Below w.heap.size w w' := by
  have HE : Hid (Env w) := hE
  have HP : Hid (PinsAt w v l) := hP
  have HQ : Hid (PinsAt w u m) := hQ
  have HC : Hid (Lk.chk l = 0) := hc
  have HD : Hid (Lk.chk m = 0) := hd
  have HR : Hid (¬ (Lk.readAs s).2 = 0) := hr
  clear hr
  clear hE hP hQ hc hd
  go_enter Tryd.func4, Tryd.ntmps4
  go_wp2_with fail
  refine (print_any _ _ _ HP.out).mono ?_
  rintro e w1 ⟨rfl, hb1⟩
  rw [printed_good HC.out, HC.out]
  have HE1 : Hid (Env w1) := HE.out.below hb1
  have HP1 : Hid (PinsAt w1 v l) := HP.out.below hb1
  have HQ1 : Hid (PinsAt w1 u m) := HQ.out.below hb1
  have HB1 : Hid (Below w.heap.size w w1) := hb1
  clear hb1 HE HP HQ
  go_wp2_with fail
  refine (print_any _ _ _ HQ1.out).mono ?_
  rintro e w2 ⟨rfl, hb2⟩
  rw [printed_good HD.out, HD.out]
  have HE2 : Hid (Env w2) := HE1.out.below hb2
  have HP2 : Hid (PinsAt w2 v l) := HP1.out.below hb2
  have HQ2 : Hid (PinsAt w2 u m) := HQ1.out.below hb2
  have HB2 : Hid (Below w.heap.size w w2) := HB1.out.trans (hb2.mono HB1.out.size)
  clear hb2 HE1 HP1 HQ1 HB1
  go_wp2_with fail
  refine (locked_any _ HE2.out).mono ?_
  rintro e w3 ⟨rfl, hb3⟩
  have HE3 : Hid (Env w3) := HE2.out.below hb3
  have HP3 : Hid (PinsAt w3 v l) := HP2.out.below hb3
  have HQ3 : Hid (PinsAt w3 u m) := HQ2.out.below hb3
  have HB3 : Hid (Below w.heap.size w w3) := HB2.out.trans (hb3.mono HB2.out.size)
  clear hb3 HE2 HP2 HQ2 HB2
  have HTS : Hid ((Lk.text l == Lk.text m) = Lk.same l m) := text_same HC.out HD.out
  generalize hsm : Lk.same l m = sm at HTS
  have HSM : Hid (Lk.same l m = sm) := hsm
  have hts := HTS.out
  clear hsm HTS
  go_wp2_with fail
  refine (equal_any _ _ _ _ _ HP3.out HQ3.out).mono ?_
  rintro e w4 ⟨rfl, hb4⟩
  rw [HSM.out]
  have HE4 : Hid (Env w4) := HE3.out.below hb4
  have HP4 : Hid (PinsAt w4 v l) := HP3.out.below hb4
  have HQ4 : Hid (PinsAt w4 u m) := HQ3.out.below hb4
  have HB4 : Hid (Below w.heap.size w w4) := HB3.out.trans (hb4.mono HB3.out.size)
  clear hb4 HE3 HP3 HQ3 HB3
  go_wp2_with fail
  refine (parse_any ⟨(Lk.text l).toArray⟩ (text_small HC.out) _ HE4.out).mono ?_
  rintro e w5 ⟨⟨x, rfl, hx⟩, hb5⟩
  rw [read_text HC.out] at hx ⊢
  have HX : Hid (PinsAt w5 x l) := hx
  clear hx
  have HE5 : Hid (Env w5) := HE4.out.below hb5
  have HP5 : Hid (PinsAt w5 v l) := HP4.out.below hb5
  have HQ5 : Hid (PinsAt w5 u m) := HQ4.out.below hb5
  have HB5 : Hid (Below w.heap.size w w5) := HB4.out.trans (hb5.mono HB4.out.size)
  clear hb5 HE4 HP4 HQ4 HB4
  go_wp2_with fail
  refine (equal_any _ _ _ _ _ HX.out HP5.out).mono ?_
  rintro e w6 ⟨rfl, hb6⟩
  rw [same_self]
  have HE6 : Hid (Env w6) := HE5.out.below hb6
  have HP6 : Hid (PinsAt w6 v l) := HP5.out.below hb6
  have HQ6 : Hid (PinsAt w6 u m) := HQ5.out.below hb6
  have HB6 : Hid (Below w.heap.size w w6) := HB5.out.trans (hb6.mono HB5.out.size)
  clear hb6 HE5 HP5 HQ5 HB5
  go_wp2_with fail
  refine (parse_any s hs _ HE6.out).mono ?_
  rintro e w7 ⟨⟨y, rfl, hy⟩, hb7⟩
  have hrb : ((Lk.readAs s).2 != 0) = true := by rw [bne_iff_ne]; exact HR.out
  generalize (Lk.readAs s).2 = rc at hrb
  clear hy
  have HE7 : Hid (Env w7) := HE6.out.below hb7
  have HP7 : Hid (PinsAt w7 v l) := HP6.out.below hb7
  have HQ7 : Hid (PinsAt w7 u m) := HQ6.out.below hb7
  have HB7 : Hid (Below w.heap.size w w7) := HB6.out.trans (hb7.mono HB6.out.size)
  clear hb7 HE6 HP6 HQ6 HB6
  go_wp2
  go_ret
  exact ⟨rfl, HB7.out⟩

set_option maxHeartbeats 4000000 in
theorem back_Lmx (v u : Value) (l m : List (Int × Int)) (s : ByteArray) (w : World) (hE : Env w) (hP : PinsAt w v l) (hQ : PinsAt w u m) (hc : Lk.chk l = 0) (hd : ¬ Lk.chk m = 0) (hs : 60000 < s.size) :
    Calls Tryd.prog 4 #[v, u, .string s] w fun e w' => e = .returned (.bool true) ∧ Below w.heap.size w w' := by
  have HE : Hid (Env w) := hE
  have HP : Hid (PinsAt w v l) := hP
  have HQ : Hid (PinsAt w u m) := hQ
  have HC : Hid (Lk.chk l = 0) := hc
  have HD : Hid (¬ Lk.chk m = 0) := hd
  clear hE hP hQ hc hd
  go_enter Tryd.func4, Tryd.ntmps4
  go_wp2_with fail
  refine (print_any _ _ _ HP.out).mono ?_
  rintro e w1 ⟨rfl, hb1⟩
  rw [printed_good HC.out, HC.out]
  have HE1 : Hid (Env w1) := HE.out.below hb1
  have HP1 : Hid (PinsAt w1 v l) := HP.out.below hb1
  have HQ1 : Hid (PinsAt w1 u m) := HQ.out.below hb1
  have HB1 : Hid (Below w.heap.size w w1) := hb1
  clear hb1 HE HP HQ
  go_wp2_with fail
  refine (print_any _ _ _ HQ1.out).mono ?_
  rintro e w2 ⟨rfl, hb2⟩
  rw [printed_bad HD.out]
  have hdb : (Lk.chk m == 0) = false := beq_eq_false_iff_ne.2 HD.out
  generalize Lk.chk m = d at hdb
  have HE2 : Hid (Env w2) := HE1.out.below hb2
  have HP2 : Hid (PinsAt w2 v l) := HP1.out.below hb2
  have HQ2 : Hid (PinsAt w2 u m) := HQ1.out.below hb2
  have HB2 : Hid (Below w.heap.size w w2) := HB1.out.trans (hb2.mono HB1.out.size)
  clear hb2 HE1 HP1 HQ1 HB1
  go_wp2_with fail
  refine (locked_any _ HE2.out).mono ?_
  rintro e w3 ⟨rfl, hb3⟩
  have HE3 : Hid (Env w3) := HE2.out.below hb3
  have HP3 : Hid (PinsAt w3 v l) := HP2.out.below hb3
  have HQ3 : Hid (PinsAt w3 u m) := HQ2.out.below hb3
  have HB3 : Hid (Below w.heap.size w w3) := HB2.out.trans (hb3.mono HB2.out.size)
  clear hb3 HE2 HP2 HQ2 HB2
  go_wp2_with fail
  refine (parse_any ⟨(Lk.text l).toArray⟩ (text_small HC.out) _ HE3.out).mono ?_
  rintro e w4 ⟨⟨x, rfl, hx⟩, hb4⟩
  rw [read_text HC.out] at hx ⊢
  have HX : Hid (PinsAt w4 x l) := hx
  clear hx
  have HE4 : Hid (Env w4) := HE3.out.below hb4
  have HP4 : Hid (PinsAt w4 v l) := HP3.out.below hb4
  have HQ4 : Hid (PinsAt w4 u m) := HQ3.out.below hb4
  have HB4 : Hid (Below w.heap.size w w4) := HB3.out.trans (hb4.mono HB3.out.size)
  clear hb4 HE3 HP3 HQ3 HB3
  go_wp2_with fail
  refine (equal_any _ _ _ _ _ HX.out HP4.out).mono ?_
  rintro e w5 ⟨rfl, hb5⟩
  rw [same_self]
  have HE5 : Hid (Env w5) := HE4.out.below hb5
  have HP5 : Hid (PinsAt w5 v l) := HP4.out.below hb5
  have HQ5 : Hid (PinsAt w5 u m) := HQ4.out.below hb5
  have HB5 : Hid (Below w.heap.size w w5) := HB4.out.trans (hb5.mono HB4.out.size)
  clear hb5 HE4 HP4 HQ4 HB4
  go_wp2_with fail
  refine (parse_long s hs _).mono ?_
  rintro e w6 ⟨rfl, hb6⟩
  have HE6 : Hid (Env w6) := HE5.out.below hb6
  have HP6 : Hid (PinsAt w6 v l) := HP5.out.below hb6
  have HQ6 : Hid (PinsAt w6 u m) := HQ5.out.below hb6
  have HB6 : Hid (Below w.heap.size w w6) := HB5.out.trans (hb6.mono HB5.out.size)
  clear hb6 HE5 HP5 HQ5 HB5
  go_wp2
  go_ret
  exact ⟨rfl, HB6.out⟩

set_option maxHeartbeats 4000000 in
theorem back_Lmr (v u : Value) (l m : List (Int × Int)) (s : ByteArray) (w : World) (hE : Env w) (hP : PinsAt w v l) (hQ : PinsAt w u m) (hc : Lk.chk l = 0) (hd : ¬ Lk.chk m = 0) (hs : s.size ≤ 60000) (hr : (Lk.readAs s).2 = 0) :
    Calls Tryd.prog 4 #[v, u, .string s] w fun e w' => e = .returned (.bool true) ∧ Below w.heap.size w w' := by
  have HE : Hid (Env w) := hE
  have HP : Hid (PinsAt w v l) := hP
  have HQ : Hid (PinsAt w u m) := hQ
  have HC : Hid (Lk.chk l = 0) := hc
  have HD : Hid (¬ Lk.chk m = 0) := hd
  have HR : Hid ((Lk.readAs s).2 = 0) := hr
  clear hr
  clear hE hP hQ hc hd
  go_enter Tryd.func4, Tryd.ntmps4
  go_wp2_with fail
  refine (print_any _ _ _ HP.out).mono ?_
  rintro e w1 ⟨rfl, hb1⟩
  rw [printed_good HC.out, HC.out]
  have HE1 : Hid (Env w1) := HE.out.below hb1
  have HP1 : Hid (PinsAt w1 v l) := HP.out.below hb1
  have HQ1 : Hid (PinsAt w1 u m) := HQ.out.below hb1
  have HB1 : Hid (Below w.heap.size w w1) := hb1
  clear hb1 HE HP HQ
  go_wp2_with fail
  refine (print_any _ _ _ HQ1.out).mono ?_
  rintro e w2 ⟨rfl, hb2⟩
  rw [printed_bad HD.out]
  have hdb : (Lk.chk m == 0) = false := beq_eq_false_iff_ne.2 HD.out
  generalize Lk.chk m = d at hdb
  have HE2 : Hid (Env w2) := HE1.out.below hb2
  have HP2 : Hid (PinsAt w2 v l) := HP1.out.below hb2
  have HQ2 : Hid (PinsAt w2 u m) := HQ1.out.below hb2
  have HB2 : Hid (Below w.heap.size w w2) := HB1.out.trans (hb2.mono HB1.out.size)
  clear hb2 HE1 HP1 HQ1 HB1
  go_wp2_with fail
  refine (locked_any _ HE2.out).mono ?_
  rintro e w3 ⟨rfl, hb3⟩
  have HE3 : Hid (Env w3) := HE2.out.below hb3
  have HP3 : Hid (PinsAt w3 v l) := HP2.out.below hb3
  have HQ3 : Hid (PinsAt w3 u m) := HQ2.out.below hb3
  have HB3 : Hid (Below w.heap.size w w3) := HB2.out.trans (hb3.mono HB2.out.size)
  clear hb3 HE2 HP2 HQ2 HB2
  go_wp2_with fail
  refine (parse_any ⟨(Lk.text l).toArray⟩ (text_small HC.out) _ HE3.out).mono ?_
  rintro e w4 ⟨⟨x, rfl, hx⟩, hb4⟩
  rw [read_text HC.out] at hx ⊢
  have HX : Hid (PinsAt w4 x l) := hx
  clear hx
  have HE4 : Hid (Env w4) := HE3.out.below hb4
  have HP4 : Hid (PinsAt w4 v l) := HP3.out.below hb4
  have HQ4 : Hid (PinsAt w4 u m) := HQ3.out.below hb4
  have HB4 : Hid (Below w.heap.size w w4) := HB3.out.trans (hb4.mono HB3.out.size)
  clear hb4 HE3 HP3 HQ3 HB3
  go_wp2_with fail
  refine (equal_any _ _ _ _ _ HX.out HP4.out).mono ?_
  rintro e w5 ⟨rfl, hb5⟩
  rw [same_self]
  have HE5 : Hid (Env w5) := HE4.out.below hb5
  have HP5 : Hid (PinsAt w5 v l) := HP4.out.below hb5
  have HQ5 : Hid (PinsAt w5 u m) := HQ4.out.below hb5
  have HB5 : Hid (Below w.heap.size w w5) := HB4.out.trans (hb5.mono HB4.out.size)
  clear hb5 HE4 HP4 HQ4 HB4
  go_wp2_with fail
  refine (parse_any s hs _ HE5.out).mono ?_
  rintro e w6 ⟨⟨y, rfl, hy⟩, hb6⟩
  have HY : Hid (PinsAt w6 y (Lk.readAs s).1) := hy
  rw [HR.out]
  clear hy
  have HE6 : Hid (Env w6) := HE5.out.below hb6
  have HP6 : Hid (PinsAt w6 v l) := HP5.out.below hb6
  have HQ6 : Hid (PinsAt w6 u m) := HQ5.out.below hb6
  have HB6 : Hid (Below w.heap.size w w6) := HB5.out.trans (hb6.mono HB5.out.size)
  clear hb6 HE5 HP5 HQ5 HB5
  go_wp2_with fail
  refine (print_any _ _ _ HY.out).mono ?_
  rintro e w7 ⟨rfl, hb7⟩
  rw [(read_back HR.out).1, (read_back HR.out).2, ← toList_eq]
  have HE7 : Hid (Env w7) := HE6.out.below hb7
  have HP7 : Hid (PinsAt w7 v l) := HP6.out.below hb7
  have HQ7 : Hid (PinsAt w7 u m) := HQ6.out.below hb7
  have HB7 : Hid (Below w.heap.size w w7) := HB6.out.trans (hb7.mono HB6.out.size)
  clear hb7 HE6 HP6 HQ6 HB6
  go_wp2
  go_ret
  exact ⟨by simp, HB7.out⟩

set_option maxHeartbeats 4000000 in
theorem back_Lmn (v u : Value) (l m : List (Int × Int)) (s : ByteArray) (w : World) (hE : Env w) (hP : PinsAt w v l) (hQ : PinsAt w u m) (hc : Lk.chk l = 0) (hd : ¬ Lk.chk m = 0) (hs : s.size ≤ 60000) (hr : ¬ (Lk.readAs s).2 = 0) :
    Calls Tryd.prog 4 #[v, u, .string s] w fun e w' => e = .returned (.bool true) ∧ Below w.heap.size w w' := by
  have HE : Hid (Env w) := hE
  have HP : Hid (PinsAt w v l) := hP
  have HQ : Hid (PinsAt w u m) := hQ
  have HC : Hid (Lk.chk l = 0) := hc
  have HD : Hid (¬ Lk.chk m = 0) := hd
  have HR : Hid (¬ (Lk.readAs s).2 = 0) := hr
  clear hr
  clear hE hP hQ hc hd
  go_enter Tryd.func4, Tryd.ntmps4
  go_wp2_with fail
  refine (print_any _ _ _ HP.out).mono ?_
  rintro e w1 ⟨rfl, hb1⟩
  rw [printed_good HC.out, HC.out]
  have HE1 : Hid (Env w1) := HE.out.below hb1
  have HP1 : Hid (PinsAt w1 v l) := HP.out.below hb1
  have HQ1 : Hid (PinsAt w1 u m) := HQ.out.below hb1
  have HB1 : Hid (Below w.heap.size w w1) := hb1
  clear hb1 HE HP HQ
  go_wp2_with fail
  refine (print_any _ _ _ HQ1.out).mono ?_
  rintro e w2 ⟨rfl, hb2⟩
  rw [printed_bad HD.out]
  have hdb : (Lk.chk m == 0) = false := beq_eq_false_iff_ne.2 HD.out
  generalize Lk.chk m = d at hdb
  have HE2 : Hid (Env w2) := HE1.out.below hb2
  have HP2 : Hid (PinsAt w2 v l) := HP1.out.below hb2
  have HQ2 : Hid (PinsAt w2 u m) := HQ1.out.below hb2
  have HB2 : Hid (Below w.heap.size w w2) := HB1.out.trans (hb2.mono HB1.out.size)
  clear hb2 HE1 HP1 HQ1 HB1
  go_wp2_with fail
  refine (locked_any _ HE2.out).mono ?_
  rintro e w3 ⟨rfl, hb3⟩
  have HE3 : Hid (Env w3) := HE2.out.below hb3
  have HP3 : Hid (PinsAt w3 v l) := HP2.out.below hb3
  have HQ3 : Hid (PinsAt w3 u m) := HQ2.out.below hb3
  have HB3 : Hid (Below w.heap.size w w3) := HB2.out.trans (hb3.mono HB2.out.size)
  clear hb3 HE2 HP2 HQ2 HB2
  go_wp2_with fail
  refine (parse_any ⟨(Lk.text l).toArray⟩ (text_small HC.out) _ HE3.out).mono ?_
  rintro e w4 ⟨⟨x, rfl, hx⟩, hb4⟩
  rw [read_text HC.out] at hx ⊢
  have HX : Hid (PinsAt w4 x l) := hx
  clear hx
  have HE4 : Hid (Env w4) := HE3.out.below hb4
  have HP4 : Hid (PinsAt w4 v l) := HP3.out.below hb4
  have HQ4 : Hid (PinsAt w4 u m) := HQ3.out.below hb4
  have HB4 : Hid (Below w.heap.size w w4) := HB3.out.trans (hb4.mono HB3.out.size)
  clear hb4 HE3 HP3 HQ3 HB3
  go_wp2_with fail
  refine (equal_any _ _ _ _ _ HX.out HP4.out).mono ?_
  rintro e w5 ⟨rfl, hb5⟩
  rw [same_self]
  have HE5 : Hid (Env w5) := HE4.out.below hb5
  have HP5 : Hid (PinsAt w5 v l) := HP4.out.below hb5
  have HQ5 : Hid (PinsAt w5 u m) := HQ4.out.below hb5
  have HB5 : Hid (Below w.heap.size w w5) := HB4.out.trans (hb5.mono HB4.out.size)
  clear hb5 HE4 HP4 HQ4 HB4
  go_wp2_with fail
  refine (parse_any s hs _ HE5.out).mono ?_
  rintro e w6 ⟨⟨y, rfl, hy⟩, hb6⟩
  have hrb : ((Lk.readAs s).2 != 0) = true := by rw [bne_iff_ne]; exact HR.out
  generalize (Lk.readAs s).2 = rc at hrb
  clear hy
  have HE6 : Hid (Env w6) := HE5.out.below hb6
  have HP6 : Hid (PinsAt w6 v l) := HP5.out.below hb6
  have HQ6 : Hid (PinsAt w6 u m) := HQ5.out.below hb6
  have HB6 : Hid (Below w.heap.size w w6) := HB5.out.trans (hb6.mono HB5.out.size)
  clear hb6 HE5 HP5 HQ5 HB5
  go_wp2
  go_ret
  exact ⟨rfl, HB6.out⟩

set_option maxHeartbeats 4000000 in
theorem back_lMx (v u : Value) (l m : List (Int × Int)) (s : ByteArray) (w : World) (hE : Env w) (hP : PinsAt w v l) (hQ : PinsAt w u m) (hc : ¬ Lk.chk l = 0) (hd : Lk.chk m = 0) (hs : 60000 < s.size) :
    Calls Tryd.prog 4 #[v, u, .string s] w fun e w' => e = .returned (.bool true) ∧ Below w.heap.size w w' := by
  have HE : Hid (Env w) := hE
  have HP : Hid (PinsAt w v l) := hP
  have HQ : Hid (PinsAt w u m) := hQ
  have HC : Hid (¬ Lk.chk l = 0) := hc
  have HD : Hid (Lk.chk m = 0) := hd
  clear hE hP hQ hc hd
  go_enter Tryd.func4, Tryd.ntmps4
  go_wp2_with fail
  refine (print_any _ _ _ HP.out).mono ?_
  rintro e w1 ⟨rfl, hb1⟩
  rw [printed_bad HC.out]
  have hcb : (Lk.chk l == 0) = false := beq_eq_false_iff_ne.2 HC.out
  generalize Lk.chk l = c at hcb
  have HE1 : Hid (Env w1) := HE.out.below hb1
  have HP1 : Hid (PinsAt w1 v l) := HP.out.below hb1
  have HQ1 : Hid (PinsAt w1 u m) := HQ.out.below hb1
  have HB1 : Hid (Below w.heap.size w w1) := hb1
  clear hb1 HE HP HQ
  go_wp2_with fail
  refine (print_any _ _ _ HQ1.out).mono ?_
  rintro e w2 ⟨rfl, hb2⟩
  rw [printed_good HD.out, HD.out]
  have HE2 : Hid (Env w2) := HE1.out.below hb2
  have HP2 : Hid (PinsAt w2 v l) := HP1.out.below hb2
  have HQ2 : Hid (PinsAt w2 u m) := HQ1.out.below hb2
  have HB2 : Hid (Below w.heap.size w w2) := HB1.out.trans (hb2.mono HB1.out.size)
  clear hb2 HE1 HP1 HQ1 HB1
  go_wp2_with fail
  refine (locked_any _ HE2.out).mono ?_
  rintro e w3 ⟨rfl, hb3⟩
  have HE3 : Hid (Env w3) := HE2.out.below hb3
  have HP3 : Hid (PinsAt w3 v l) := HP2.out.below hb3
  have HQ3 : Hid (PinsAt w3 u m) := HQ2.out.below hb3
  have HB3 : Hid (Below w.heap.size w w3) := HB2.out.trans (hb3.mono HB2.out.size)
  clear hb3 HE2 HP2 HQ2 HB2
  go_wp2_with fail
  refine (parse_long s hs _).mono ?_
  rintro e w4 ⟨rfl, hb4⟩
  have HE4 : Hid (Env w4) := HE3.out.below hb4
  have HP4 : Hid (PinsAt w4 v l) := HP3.out.below hb4
  have HQ4 : Hid (PinsAt w4 u m) := HQ3.out.below hb4
  have HB4 : Hid (Below w.heap.size w w4) := HB3.out.trans (hb4.mono HB3.out.size)
  clear hb4 HE3 HP3 HQ3 HB3
  go_wp2
  go_ret
  exact ⟨rfl, HB4.out⟩

set_option maxHeartbeats 4000000 in
theorem back_lMr (v u : Value) (l m : List (Int × Int)) (s : ByteArray) (w : World) (hE : Env w) (hP : PinsAt w v l) (hQ : PinsAt w u m) (hc : ¬ Lk.chk l = 0) (hd : Lk.chk m = 0) (hs : s.size ≤ 60000) (hr : (Lk.readAs s).2 = 0) :
    Calls Tryd.prog 4 #[v, u, .string s] w fun e w' => e = .returned (.bool true) ∧ Below w.heap.size w w' := by
  have HE : Hid (Env w) := hE
  have HP : Hid (PinsAt w v l) := hP
  have HQ : Hid (PinsAt w u m) := hQ
  have HC : Hid (¬ Lk.chk l = 0) := hc
  have HD : Hid (Lk.chk m = 0) := hd
  have HR : Hid ((Lk.readAs s).2 = 0) := hr
  clear hr
  clear hE hP hQ hc hd
  go_enter Tryd.func4, Tryd.ntmps4
  go_wp2_with fail
  refine (print_any _ _ _ HP.out).mono ?_
  rintro e w1 ⟨rfl, hb1⟩
  rw [printed_bad HC.out]
  have hcb : (Lk.chk l == 0) = false := beq_eq_false_iff_ne.2 HC.out
  generalize Lk.chk l = c at hcb
  have HE1 : Hid (Env w1) := HE.out.below hb1
  have HP1 : Hid (PinsAt w1 v l) := HP.out.below hb1
  have HQ1 : Hid (PinsAt w1 u m) := HQ.out.below hb1
  have HB1 : Hid (Below w.heap.size w w1) := hb1
  clear hb1 HE HP HQ
  go_wp2_with fail
  refine (print_any _ _ _ HQ1.out).mono ?_
  rintro e w2 ⟨rfl, hb2⟩
  rw [printed_good HD.out, HD.out]
  have HE2 : Hid (Env w2) := HE1.out.below hb2
  have HP2 : Hid (PinsAt w2 v l) := HP1.out.below hb2
  have HQ2 : Hid (PinsAt w2 u m) := HQ1.out.below hb2
  have HB2 : Hid (Below w.heap.size w w2) := HB1.out.trans (hb2.mono HB1.out.size)
  clear hb2 HE1 HP1 HQ1 HB1
  go_wp2_with fail
  refine (locked_any _ HE2.out).mono ?_
  rintro e w3 ⟨rfl, hb3⟩
  have HE3 : Hid (Env w3) := HE2.out.below hb3
  have HP3 : Hid (PinsAt w3 v l) := HP2.out.below hb3
  have HQ3 : Hid (PinsAt w3 u m) := HQ2.out.below hb3
  have HB3 : Hid (Below w.heap.size w w3) := HB2.out.trans (hb3.mono HB2.out.size)
  clear hb3 HE2 HP2 HQ2 HB2
  go_wp2_with fail
  refine (parse_any s hs _ HE3.out).mono ?_
  rintro e w4 ⟨⟨y, rfl, hy⟩, hb4⟩
  have HY : Hid (PinsAt w4 y (Lk.readAs s).1) := hy
  rw [HR.out]
  clear hy
  have HE4 : Hid (Env w4) := HE3.out.below hb4
  have HP4 : Hid (PinsAt w4 v l) := HP3.out.below hb4
  have HQ4 : Hid (PinsAt w4 u m) := HQ3.out.below hb4
  have HB4 : Hid (Below w.heap.size w w4) := HB3.out.trans (hb4.mono HB3.out.size)
  clear hb4 HE3 HP3 HQ3 HB3
  go_wp2_with fail
  refine (print_any _ _ _ HY.out).mono ?_
  rintro e w5 ⟨rfl, hb5⟩
  rw [(read_back HR.out).1, (read_back HR.out).2, ← toList_eq]
  have HE5 : Hid (Env w5) := HE4.out.below hb5
  have HP5 : Hid (PinsAt w5 v l) := HP4.out.below hb5
  have HQ5 : Hid (PinsAt w5 u m) := HQ4.out.below hb5
  have HB5 : Hid (Below w.heap.size w w5) := HB4.out.trans (hb5.mono HB4.out.size)
  clear hb5 HE4 HP4 HQ4 HB4
  go_wp2
  go_ret
  exact ⟨by simp, HB5.out⟩

set_option maxHeartbeats 4000000 in
theorem back_lMn (v u : Value) (l m : List (Int × Int)) (s : ByteArray) (w : World) (hE : Env w) (hP : PinsAt w v l) (hQ : PinsAt w u m) (hc : ¬ Lk.chk l = 0) (hd : Lk.chk m = 0) (hs : s.size ≤ 60000) (hr : ¬ (Lk.readAs s).2 = 0) :
    Calls Tryd.prog 4 #[v, u, .string s] w fun e w' => e = .returned (.bool true) ∧ Below w.heap.size w w' := by
  have HE : Hid (Env w) := hE
  have HP : Hid (PinsAt w v l) := hP
  have HQ : Hid (PinsAt w u m) := hQ
  have HC : Hid (¬ Lk.chk l = 0) := hc
  have HD : Hid (Lk.chk m = 0) := hd
  have HR : Hid (¬ (Lk.readAs s).2 = 0) := hr
  clear hr
  clear hE hP hQ hc hd
  go_enter Tryd.func4, Tryd.ntmps4
  go_wp2_with fail
  refine (print_any _ _ _ HP.out).mono ?_
  rintro e w1 ⟨rfl, hb1⟩
  rw [printed_bad HC.out]
  have hcb : (Lk.chk l == 0) = false := beq_eq_false_iff_ne.2 HC.out
  generalize Lk.chk l = c at hcb
  have HE1 : Hid (Env w1) := HE.out.below hb1
  have HP1 : Hid (PinsAt w1 v l) := HP.out.below hb1
  have HQ1 : Hid (PinsAt w1 u m) := HQ.out.below hb1
  have HB1 : Hid (Below w.heap.size w w1) := hb1
  clear hb1 HE HP HQ
  go_wp2_with fail
  refine (print_any _ _ _ HQ1.out).mono ?_
  rintro e w2 ⟨rfl, hb2⟩
  rw [printed_good HD.out, HD.out]
  have HE2 : Hid (Env w2) := HE1.out.below hb2
  have HP2 : Hid (PinsAt w2 v l) := HP1.out.below hb2
  have HQ2 : Hid (PinsAt w2 u m) := HQ1.out.below hb2
  have HB2 : Hid (Below w.heap.size w w2) := HB1.out.trans (hb2.mono HB1.out.size)
  clear hb2 HE1 HP1 HQ1 HB1
  go_wp2_with fail
  refine (locked_any _ HE2.out).mono ?_
  rintro e w3 ⟨rfl, hb3⟩
  have HE3 : Hid (Env w3) := HE2.out.below hb3
  have HP3 : Hid (PinsAt w3 v l) := HP2.out.below hb3
  have HQ3 : Hid (PinsAt w3 u m) := HQ2.out.below hb3
  have HB3 : Hid (Below w.heap.size w w3) := HB2.out.trans (hb3.mono HB2.out.size)
  clear hb3 HE2 HP2 HQ2 HB2
  go_wp2_with fail
  refine (parse_any s hs _ HE3.out).mono ?_
  rintro e w4 ⟨⟨y, rfl, hy⟩, hb4⟩
  have hrb : ((Lk.readAs s).2 != 0) = true := by rw [bne_iff_ne]; exact HR.out
  generalize (Lk.readAs s).2 = rc at hrb
  clear hy
  have HE4 : Hid (Env w4) := HE3.out.below hb4
  have HP4 : Hid (PinsAt w4 v l) := HP3.out.below hb4
  have HQ4 : Hid (PinsAt w4 u m) := HQ3.out.below hb4
  have HB4 : Hid (Below w.heap.size w w4) := HB3.out.trans (hb4.mono HB3.out.size)
  clear hb4 HE3 HP3 HQ3 HB3
  go_wp2
  go_ret
  exact ⟨rfl, HB4.out⟩

set_option maxHeartbeats 4000000 in
theorem back_lmx (v u : Value) (l m : List (Int × Int)) (s : ByteArray) (w : World) (hE : Env w) (hP : PinsAt w v l) (hQ : PinsAt w u m) (hc : ¬ Lk.chk l = 0) (hd : ¬ Lk.chk m = 0) (hs : 60000 < s.size) :
    Calls Tryd.prog 4 #[v, u, .string s] w fun e w' => e = .returned (.bool true) ∧ Below w.heap.size w w' := by
  have HE : Hid (Env w) := hE
  have HP : Hid (PinsAt w v l) := hP
  have HQ : Hid (PinsAt w u m) := hQ
  have HC : Hid (¬ Lk.chk l = 0) := hc
  have HD : Hid (¬ Lk.chk m = 0) := hd
  clear hE hP hQ hc hd
  go_enter Tryd.func4, Tryd.ntmps4
  go_wp2_with fail
  refine (print_any _ _ _ HP.out).mono ?_
  rintro e w1 ⟨rfl, hb1⟩
  rw [printed_bad HC.out]
  have hcb : (Lk.chk l == 0) = false := beq_eq_false_iff_ne.2 HC.out
  generalize Lk.chk l = c at hcb
  have HE1 : Hid (Env w1) := HE.out.below hb1
  have HP1 : Hid (PinsAt w1 v l) := HP.out.below hb1
  have HQ1 : Hid (PinsAt w1 u m) := HQ.out.below hb1
  have HB1 : Hid (Below w.heap.size w w1) := hb1
  clear hb1 HE HP HQ
  go_wp2_with fail
  refine (print_any _ _ _ HQ1.out).mono ?_
  rintro e w2 ⟨rfl, hb2⟩
  rw [printed_bad HD.out]
  have hdb : (Lk.chk m == 0) = false := beq_eq_false_iff_ne.2 HD.out
  generalize Lk.chk m = d at hdb
  have HE2 : Hid (Env w2) := HE1.out.below hb2
  have HP2 : Hid (PinsAt w2 v l) := HP1.out.below hb2
  have HQ2 : Hid (PinsAt w2 u m) := HQ1.out.below hb2
  have HB2 : Hid (Below w.heap.size w w2) := HB1.out.trans (hb2.mono HB1.out.size)
  clear hb2 HE1 HP1 HQ1 HB1
  go_wp2_with fail
  refine (locked_any _ HE2.out).mono ?_
  rintro e w3 ⟨rfl, hb3⟩
  have HE3 : Hid (Env w3) := HE2.out.below hb3
  have HP3 : Hid (PinsAt w3 v l) := HP2.out.below hb3
  have HQ3 : Hid (PinsAt w3 u m) := HQ2.out.below hb3
  have HB3 : Hid (Below w.heap.size w w3) := HB2.out.trans (hb3.mono HB2.out.size)
  clear hb3 HE2 HP2 HQ2 HB2
  go_wp2_with fail
  refine (parse_long s hs _).mono ?_
  rintro e w4 ⟨rfl, hb4⟩
  have HE4 : Hid (Env w4) := HE3.out.below hb4
  have HP4 : Hid (PinsAt w4 v l) := HP3.out.below hb4
  have HQ4 : Hid (PinsAt w4 u m) := HQ3.out.below hb4
  have HB4 : Hid (Below w.heap.size w w4) := HB3.out.trans (hb4.mono HB3.out.size)
  clear hb4 HE3 HP3 HQ3 HB3
  go_wp2
  go_ret
  exact ⟨rfl, HB4.out⟩

set_option maxHeartbeats 4000000 in
theorem back_lmr (v u : Value) (l m : List (Int × Int)) (s : ByteArray) (w : World) (hE : Env w) (hP : PinsAt w v l) (hQ : PinsAt w u m) (hc : ¬ Lk.chk l = 0) (hd : ¬ Lk.chk m = 0) (hs : s.size ≤ 60000) (hr : (Lk.readAs s).2 = 0) :
    Calls Tryd.prog 4 #[v, u, .string s] w fun e w' => e = .returned (.bool true) ∧ Below w.heap.size w w' := by
  have HE : Hid (Env w) := hE
  have HP : Hid (PinsAt w v l) := hP
  have HQ : Hid (PinsAt w u m) := hQ
  have HC : Hid (¬ Lk.chk l = 0) := hc
  have HD : Hid (¬ Lk.chk m = 0) := hd
  have HR : Hid ((Lk.readAs s).2 = 0) := hr
  clear hr
  clear hE hP hQ hc hd
  go_enter Tryd.func4, Tryd.ntmps4
  go_wp2_with fail
  refine (print_any _ _ _ HP.out).mono ?_
  rintro e w1 ⟨rfl, hb1⟩
  rw [printed_bad HC.out]
  have hcb : (Lk.chk l == 0) = false := beq_eq_false_iff_ne.2 HC.out
  generalize Lk.chk l = c at hcb
  have HE1 : Hid (Env w1) := HE.out.below hb1
  have HP1 : Hid (PinsAt w1 v l) := HP.out.below hb1
  have HQ1 : Hid (PinsAt w1 u m) := HQ.out.below hb1
  have HB1 : Hid (Below w.heap.size w w1) := hb1
  clear hb1 HE HP HQ
  go_wp2_with fail
  refine (print_any _ _ _ HQ1.out).mono ?_
  rintro e w2 ⟨rfl, hb2⟩
  rw [printed_bad HD.out]
  have hdb : (Lk.chk m == 0) = false := beq_eq_false_iff_ne.2 HD.out
  generalize Lk.chk m = d at hdb
  have HE2 : Hid (Env w2) := HE1.out.below hb2
  have HP2 : Hid (PinsAt w2 v l) := HP1.out.below hb2
  have HQ2 : Hid (PinsAt w2 u m) := HQ1.out.below hb2
  have HB2 : Hid (Below w.heap.size w w2) := HB1.out.trans (hb2.mono HB1.out.size)
  clear hb2 HE1 HP1 HQ1 HB1
  go_wp2_with fail
  refine (locked_any _ HE2.out).mono ?_
  rintro e w3 ⟨rfl, hb3⟩
  have HE3 : Hid (Env w3) := HE2.out.below hb3
  have HP3 : Hid (PinsAt w3 v l) := HP2.out.below hb3
  have HQ3 : Hid (PinsAt w3 u m) := HQ2.out.below hb3
  have HB3 : Hid (Below w.heap.size w w3) := HB2.out.trans (hb3.mono HB2.out.size)
  clear hb3 HE2 HP2 HQ2 HB2
  go_wp2_with fail
  refine (parse_any s hs _ HE3.out).mono ?_
  rintro e w4 ⟨⟨y, rfl, hy⟩, hb4⟩
  have HY : Hid (PinsAt w4 y (Lk.readAs s).1) := hy
  rw [HR.out]
  clear hy
  have HE4 : Hid (Env w4) := HE3.out.below hb4
  have HP4 : Hid (PinsAt w4 v l) := HP3.out.below hb4
  have HQ4 : Hid (PinsAt w4 u m) := HQ3.out.below hb4
  have HB4 : Hid (Below w.heap.size w w4) := HB3.out.trans (hb4.mono HB3.out.size)
  clear hb4 HE3 HP3 HQ3 HB3
  go_wp2_with fail
  refine (print_any _ _ _ HY.out).mono ?_
  rintro e w5 ⟨rfl, hb5⟩
  rw [(read_back HR.out).1, (read_back HR.out).2, ← toList_eq]
  have HE5 : Hid (Env w5) := HE4.out.below hb5
  have HP5 : Hid (PinsAt w5 v l) := HP4.out.below hb5
  have HQ5 : Hid (PinsAt w5 u m) := HQ4.out.below hb5
  have HB5 : Hid (Below w.heap.size w w5) := HB4.out.trans (hb5.mono HB4.out.size)
  clear hb5 HE4 HP4 HQ4 HB4
  go_wp2
  go_ret
  exact ⟨by simp, HB5.out⟩

set_option maxHeartbeats 4000000 in
theorem back_lmn (v u : Value) (l m : List (Int × Int)) (s : ByteArray) (w : World) (hE : Env w) (hP : PinsAt w v l) (hQ : PinsAt w u m) (hc : ¬ Lk.chk l = 0) (hd : ¬ Lk.chk m = 0) (hs : s.size ≤ 60000) (hr : ¬ (Lk.readAs s).2 = 0) :
    Calls Tryd.prog 4 #[v, u, .string s] w fun e w' => e = .returned (.bool true) ∧ Below w.heap.size w w' := by
  have HE : Hid (Env w) := hE
  have HP : Hid (PinsAt w v l) := hP
  have HQ : Hid (PinsAt w u m) := hQ
  have HC : Hid (¬ Lk.chk l = 0) := hc
  have HD : Hid (¬ Lk.chk m = 0) := hd
  have HR : Hid (¬ (Lk.readAs s).2 = 0) := hr
  clear hr
  clear hE hP hQ hc hd
  go_enter Tryd.func4, Tryd.ntmps4
  go_wp2_with fail
  refine (print_any _ _ _ HP.out).mono ?_
  rintro e w1 ⟨rfl, hb1⟩
  rw [printed_bad HC.out]
  have hcb : (Lk.chk l == 0) = false := beq_eq_false_iff_ne.2 HC.out
  generalize Lk.chk l = c at hcb
  have HE1 : Hid (Env w1) := HE.out.below hb1
  have HP1 : Hid (PinsAt w1 v l) := HP.out.below hb1
  have HQ1 : Hid (PinsAt w1 u m) := HQ.out.below hb1
  have HB1 : Hid (Below w.heap.size w w1) := hb1
  clear hb1 HE HP HQ
  go_wp2_with fail
  refine (print_any _ _ _ HQ1.out).mono ?_
  rintro e w2 ⟨rfl, hb2⟩
  rw [printed_bad HD.out]
  have hdb : (Lk.chk m == 0) = false := beq_eq_false_iff_ne.2 HD.out
  generalize Lk.chk m = d at hdb
  have HE2 : Hid (Env w2) := HE1.out.below hb2
  have HP2 : Hid (PinsAt w2 v l) := HP1.out.below hb2
  have HQ2 : Hid (PinsAt w2 u m) := HQ1.out.below hb2
  have HB2 : Hid (Below w.heap.size w w2) := HB1.out.trans (hb2.mono HB1.out.size)
  clear hb2 HE1 HP1 HQ1 HB1
  go_wp2_with fail
  refine (locked_any _ HE2.out).mono ?_
  rintro e w3 ⟨rfl, hb3⟩
  have HE3 : Hid (Env w3) := HE2.out.below hb3
  have HP3 : Hid (PinsAt w3 v l) := HP2.out.below hb3
  have HQ3 : Hid (PinsAt w3 u m) := HQ2.out.below hb3
  have HB3 : Hid (Below w.heap.size w w3) := HB2.out.trans (hb3.mono HB2.out.size)
  clear hb3 HE2 HP2 HQ2 HB2
  go_wp2_with fail
  refine (parse_any s hs _ HE3.out).mono ?_
  rintro e w4 ⟨⟨y, rfl, hy⟩, hb4⟩
  have hrb : ((Lk.readAs s).2 != 0) = true := by rw [bne_iff_ne]; exact HR.out
  generalize (Lk.readAs s).2 = rc at hrb
  clear hy
  have HE4 : Hid (Env w4) := HE3.out.below hb4
  have HP4 : Hid (PinsAt w4 v l) := HP3.out.below hb4
  have HQ4 : Hid (PinsAt w4 u m) := HQ3.out.below hb4
  have HB4 : Hid (Below w.heap.size w w4) := HB3.out.trans (hb4.mono HB3.out.size)
  clear hb4 HE3 HP3 HQ3 HB3
  go_wp2
  go_ret
  exact ⟨rfl, HB4.out⟩

theorem back_any (v u : Value) (l m : List (Int × Int)) (s : ByteArray) (w : World) (hE : Env w) (hP : PinsAt w v l) (hQ : PinsAt w u m) :
    Calls Tryd.prog 4 #[v, u, .string s] w fun e w' => e = .returned (.bool true) ∧ Below w.heap.size w w' := by
  by_cases hc : Lk.chk l = 0
  · by_cases hd : Lk.chk m = 0
    · by_cases hs : s.size ≤ 60000
      · by_cases hr : (Lk.readAs s).2 = 0
        · exact back_LMr v u l m s w hE hP hQ hc hd hs hr
        · exact back_LMn v u l m s w hE hP hQ hc hd hs hr
      · exact back_LMx v u l m s w hE hP hQ hc hd (by omega)
    · by_cases hs : s.size ≤ 60000
      · by_cases hr : (Lk.readAs s).2 = 0
        · exact back_Lmr v u l m s w hE hP hQ hc hd hs hr
        · exact back_Lmn v u l m s w hE hP hQ hc hd hs hr
      · exact back_Lmx v u l m s w hE hP hQ hc hd (by omega)
  · by_cases hd : Lk.chk m = 0
    · by_cases hs : s.size ≤ 60000
      · by_cases hr : (Lk.readAs s).2 = 0
        · exact back_lMr v u l m s w hE hP hQ hc hd hs hr
        · exact back_lMn v u l m s w hE hP hQ hc hd hs hr
      · exact back_lMx v u l m s w hE hP hQ hc hd (by omega)
    · by_cases hs : s.size ≤ 60000
      · by_cases hr : (Lk.readAs s).2 = 0
        · exact back_lmr v u l m s w hE hP hQ hc hd hs hr
        · exact back_lmn v u l m s w hE hP hQ hc hd hs hr
      · exact back_lmx v u l m s w hE hP hQ hc hd (by omega)
end Go.Proofs.YtpmhajdljghfcaaDoor
