/- The walk of LockSays, out of the contracts: it returns true, and nothing old has turned. -/
import Derived.Test.YtpmhajdljghfcaaDoorW11
namespace Go.Proofs.YtpmhajdljghfcaaDoor
open Go.RowKit
theorem same_self (l : List (Int × Int)) : Lk.same l l = true := decide_eq_true rfl
theorem printed_good {l : List (Int × Int)} (h : Lk.chk l = 0) : printed l = Lk.text l := if_pos h
theorem printed_bad {l : List (Int × Int)} (h : ¬ Lk.chk l = 0) : printed l = [] := if_neg h

set_option maxHeartbeats 4000000 in
theorem says_goodLong (v : Value) (l : List (Int × Int)) (name : Int) (s : ByteArray) (w : World) (hE : Env w) (hP : PinsAt w v l) (hc : Lk.chk l = 0) (hs : 60000 < s.size) :
    Calls Tryd.prog 3 #[v, .int .i64 name, .string s] w fun e w' => e = .returned (.bool true) ∧ Below w.heap.size w w' := by
  have HE : Hid (Env w) := hE
  have HP : Hid (PinsAt w v l) := hP
  have HC : Hid (Lk.chk l = 0) := hc
  have hs' : (60000 : Int) < (s.size : Int) := by omega
  clear hE hP hc
  go_enter Tryd.func3, Tryd.ntmps3
  go_wp2_with fail
  refine (print_any _ _ _ HP.out).mono ?_
  rintro e w1 ⟨rfl, hb1⟩
  rw [printed_good HC.out, HC.out]
  have HE1 : Hid (Env w1) := HE.out.below hb1
  have HP1 : Hid (PinsAt w1 v l) := HP.out.below hb1
  have HB1 : Hid (Below w.heap.size w w1) := hb1
  clear hb1 HE HP
  go_wp2_with fail
  refine (parse_long s hs _).mono ?_
  rintro e w2 ⟨rfl, hb2⟩
  have HE2 : Hid (Env w2) := HE1.out.below hb2
  have HP2 : Hid (PinsAt w2 v l) := HP1.out.below hb2
  have HB2 : Hid (Below w.heap.size w w2) := HB1.out.trans (hb2.mono HB1.out.size)
  clear hb2 HE1 HP1 HB1
  go_wp2_with fail
  refine (checkR_any _ _ _ HP2.out).mono ?_
  rintro e w3 ⟨rfl, hb3⟩
  rw [HC.out]
  have HE3 : Hid (Env w3) := HE2.out.below hb3
  have HP3 : Hid (PinsAt w3 v l) := HP2.out.below hb3
  have HB3 : Hid (Below w.heap.size w w3) := HB2.out.trans (hb3.mono HB2.out.size)
  clear hb3 HE2 HP2 HB2
  go_wp2_with fail
  refine (lockText_any _ _ _ HP3.out HC.out).mono ?_
  rintro e w4 ⟨rfl, hb4⟩
  have HE4 : Hid (Env w4) := HE3.out.below hb4
  have HP4 : Hid (PinsAt w4 v l) := HP3.out.below hb4
  have HB4 : Hid (Below w.heap.size w w4) := HB3.out.trans (hb4.mono HB3.out.size)
  clear hb4 HE3 HP3 HB3
  go_wp2_with fail
  refine (locked_any _ HE4.out).mono ?_
  rintro e w5 ⟨rfl, hb5⟩
  have HE5 : Hid (Env w5) := HE4.out.below hb5
  have HP5 : Hid (PinsAt w5 v l) := HP4.out.below hb5
  have HB5 : Hid (Below w.heap.size w w5) := HB4.out.trans (hb5.mono HB4.out.size)
  clear hb5 HE4 HP4 HB4
  go_wp2_with fail
  refine (check_any _ _ _ HP5.out).mono ?_
  rintro e w6 ⟨rfl, hb6⟩
  rw [HC.out]
  have HE6 : Hid (Env w6) := HE5.out.below hb6
  have HP6 : Hid (PinsAt w6 v l) := HP5.out.below hb6
  have HB6 : Hid (Below w.heap.size w w6) := HB5.out.trans (hb6.mono HB5.out.size)
  clear hb6 HE5 HP5 HB5
  go_wp2_with fail
  refine (find_any _ _ name _ HP6.out).mono ?_
  rintro e w7 ⟨rfl, hb7⟩
  have HE7 : Hid (Env w7) := HE6.out.below hb7
  have HP7 : Hid (PinsAt w7 v l) := HP6.out.below hb7
  have HB7 : Hid (Below w.heap.size w w7) := HB6.out.trans (hb7.mono HB6.out.size)
  clear hb7 HE6 HP6 HB6
  go_wp2_with fail
  refine (at_any _ _ name _ HP7.out).mono ?_
  rintro e w8 ⟨rfl, hb8⟩
  have HE8 : Hid (Env w8) := HE7.out.below hb8
  have HP8 : Hid (PinsAt w8 v l) := HP7.out.below hb8
  have HB8 : Hid (Below w.heap.size w w8) := HB7.out.trans (hb8.mono HB7.out.size)
  clear hb8 HE7 HP7 HB7
  generalize Lk.find name l = fn
  go_wp2
  go_ret
  exact ⟨rfl, HB8.out⟩

set_option maxHeartbeats 4000000 in
theorem says_good (v : Value) (l : List (Int × Int)) (name : Int) (s : ByteArray) (w : World) (hE : Env w) (hP : PinsAt w v l) (hc : Lk.chk l = 0) (hs : s.size ≤ 60000) :
    Calls Tryd.prog 3 #[v, .int .i64 name, .string s] w fun e w' => e = .returned (.bool true) ∧ Below w.heap.size w w' := by
  have HE : Hid (Env w) := hE
  have HP : Hid (PinsAt w v l) := hP
  have HC : Hid (Lk.chk l = 0) := hc
  have hs' : (s.size : Int) ≤ 60000 := by omega
  clear hE hP hc
  go_enter Tryd.func3, Tryd.ntmps3
  go_wp2_with fail
  refine (print_any _ _ _ HP.out).mono ?_
  rintro e w1 ⟨rfl, hb1⟩
  rw [printed_good HC.out, HC.out]
  have HE1 : Hid (Env w1) := HE.out.below hb1
  have HP1 : Hid (PinsAt w1 v l) := HP.out.below hb1
  have HB1 : Hid (Below w.heap.size w w1) := hb1
  clear hb1 HE HP
  go_wp2_with fail
  refine (parse_any s hs _ HE1.out).mono ?_
  rintro e w2 ⟨⟨m, rfl, hm⟩, hb2⟩
  have HM2 : Hid (PinsAt w2 m (Lk.readAs s).1) := hm
  clear hm
  have HE2 : Hid (Env w2) := HE1.out.below hb2
  have HP2 : Hid (PinsAt w2 v l) := HP1.out.below hb2
  have HB2 : Hid (Below w.heap.size w w2) := HB1.out.trans (hb2.mono HB1.out.size)
  clear hb2 HE1 HP1 HB1
  go_wp2_with fail
  refine (checkR_any _ _ _ HP2.out).mono ?_
  rintro e w3 ⟨rfl, hb3⟩
  rw [HC.out]
  have HE3 : Hid (Env w3) := HE2.out.below hb3
  have HP3 : Hid (PinsAt w3 v l) := HP2.out.below hb3
  have HB3 : Hid (Below w.heap.size w w3) := HB2.out.trans (hb3.mono HB2.out.size)
  have HM3 : Hid (PinsAt w3 m (Lk.readAs s).1) := HM2.out.below hb3
  clear HM2
  clear hb3 HE2 HP2 HB2
  go_wp2_with fail
  refine (lockText_any _ _ _ HP3.out HC.out).mono ?_
  rintro e w4 ⟨rfl, hb4⟩
  have HE4 : Hid (Env w4) := HE3.out.below hb4
  have HP4 : Hid (PinsAt w4 v l) := HP3.out.below hb4
  have HB4 : Hid (Below w.heap.size w w4) := HB3.out.trans (hb4.mono HB3.out.size)
  have HM4 : Hid (PinsAt w4 m (Lk.readAs s).1) := HM3.out.below hb4
  clear HM3
  clear hb4 HE3 HP3 HB3
  go_wp2_with fail
  refine (locked_any _ HE4.out).mono ?_
  rintro e w5 ⟨rfl, hb5⟩
  have HE5 : Hid (Env w5) := HE4.out.below hb5
  have HP5 : Hid (PinsAt w5 v l) := HP4.out.below hb5
  have HB5 : Hid (Below w.heap.size w w5) := HB4.out.trans (hb5.mono HB4.out.size)
  have HM5 : Hid (PinsAt w5 m (Lk.readAs s).1) := HM4.out.below hb5
  clear HM4
  clear hb5 HE4 HP4 HB4
  go_wp2_with fail
  refine (check_any _ _ _ HP5.out).mono ?_
  rintro e w6 ⟨rfl, hb6⟩
  rw [HC.out]
  have HE6 : Hid (Env w6) := HE5.out.below hb6
  have HP6 : Hid (PinsAt w6 v l) := HP5.out.below hb6
  have HB6 : Hid (Below w.heap.size w w6) := HB5.out.trans (hb6.mono HB5.out.size)
  have HM6 : Hid (PinsAt w6 m (Lk.readAs s).1) := HM5.out.below hb6
  clear HM5
  clear hb6 HE5 HP5 HB5
  go_wp2_with fail
  refine (find_any _ _ name _ HP6.out).mono ?_
  rintro e w7 ⟨rfl, hb7⟩
  have HE7 : Hid (Env w7) := HE6.out.below hb7
  have HP7 : Hid (PinsAt w7 v l) := HP6.out.below hb7
  have HB7 : Hid (Below w.heap.size w w7) := HB6.out.trans (hb7.mono HB6.out.size)
  have HM7 : Hid (PinsAt w7 m (Lk.readAs s).1) := HM6.out.below hb7
  clear HM6
  clear hb7 HE6 HP6 HB6
  go_wp2_with fail
  refine (at_any _ _ name _ HP7.out).mono ?_
  rintro e w8 ⟨rfl, hb8⟩
  have HE8 : Hid (Env w8) := HE7.out.below hb8
  have HP8 : Hid (PinsAt w8 v l) := HP7.out.below hb8
  have HB8 : Hid (Below w.heap.size w w8) := HB7.out.trans (hb8.mono HB7.out.size)
  have HM8 : Hid (PinsAt w8 m (Lk.readAs s).1) := HM7.out.below hb8
  clear HM7
  clear hb8 HE7 HP7 HB7
  generalize Lk.find name l = fn
  go_wp2_with fail
  refine (lockRead_any s hs _ HE8.out).mono ?_
  rintro e w9 ⟨⟨M, rfl, hM⟩, hb9⟩
  have HMM : Hid (PinsAt w9 M (Lk.readAs s).1) := hM
  clear hM
  have HE9 : Hid (Env w9) := HE8.out.below hb9
  have HP9 : Hid (PinsAt w9 v l) := HP8.out.below hb9
  have HB9 : Hid (Below w.heap.size w w9) := HB8.out.trans (hb9.mono HB8.out.size)
  have HM9 : Hid (PinsAt w9 m (Lk.readAs s).1) := HM8.out.below hb9
  clear HM8
  clear hb9 HE8 HP8 HB8
  go_wp2_with fail
  refine (equal_any _ _ _ _ _ HM9.out HMM.out).mono ?_
  rintro e w10 ⟨rfl, hb10⟩
  rw [same_self]
  have HE10 : Hid (Env w10) := HE9.out.below hb10
  have HP10 : Hid (PinsAt w10 v l) := HP9.out.below hb10
  have HB10 : Hid (Below w.heap.size w w10) := HB9.out.trans (hb10.mono HB9.out.size)
  have HM10 : Hid (PinsAt w10 m (Lk.readAs s).1) := HM9.out.below hb10
  clear HM9
  clear hb10 HE9 HP9 HB9
  go_wp2
  go_ret
  exact ⟨rfl, HB10.out⟩

set_option maxHeartbeats 4000000 in
theorem says_badLong (v : Value) (l : List (Int × Int)) (name : Int) (s : ByteArray) (w : World) (hE : Env w) (hP : PinsAt w v l) (hc : ¬ Lk.chk l = 0) (hs : 60000 < s.size) :
    Calls Tryd.prog 3 #[v, .int .i64 name, .string s] w fun e w' => e = .returned (.bool true) ∧ Below w.heap.size w w' := by
  have HE : Hid (Env w) := hE
  have HP : Hid (PinsAt w v l) := hP
  have HC : Hid (¬ Lk.chk l = 0) := hc
  have hs' : (60000 : Int) < (s.size : Int) := by omega
  clear hE hP hc
  go_enter Tryd.func3, Tryd.ntmps3
  go_wp2_with fail
  refine (print_any _ _ _ HP.out).mono ?_
  rintro e w1 ⟨rfl, hb1⟩
  rw [printed_bad HC.out]
  have HCB : Hid ((Lk.chk l == 0) = false) := beq_eq_false_iff_ne.2 HC.out
  have HE1 : Hid (Env w1) := HE.out.below hb1
  have HP1 : Hid (PinsAt w1 v l) := HP.out.below hb1
  have HB1 : Hid (Below w.heap.size w w1) := hb1
  clear hb1 HE HP
  go_wp2_with fail
  refine (parse_long s hs _).mono ?_
  rintro e w2 ⟨rfl, hb2⟩
  have HE2 : Hid (Env w2) := HE1.out.below hb2
  have HP2 : Hid (PinsAt w2 v l) := HP1.out.below hb2
  have HB2 : Hid (Below w.heap.size w w2) := HB1.out.trans (hb2.mono HB1.out.size)
  clear hb2 HE1 HP1 HB1
  go_wp2_with fail
  refine (checkR_any _ _ _ HP2.out).mono ?_
  rintro e w3 ⟨rfl, hb3⟩
  have HE3 : Hid (Env w3) := HE2.out.below hb3
  have HP3 : Hid (PinsAt w3 v l) := HP2.out.below hb3
  have HB3 : Hid (Below w.heap.size w w3) := HB2.out.trans (hb3.mono HB2.out.size)
  clear hb3 HE2 HP2 HB2
  generalize hq : Lk.chk l = c
  rw [hq] at HCB
  have HQ : Hid (Lk.chk l = c) := hq
  clear hq
  have hcb := HCB.out
  go_wp2_with fail
  refine (locked_any _ HE3.out).mono ?_
  rintro e w4 ⟨rfl, hb4⟩
  have HE4 : Hid (Env w4) := HE3.out.below hb4
  have HP4 : Hid (PinsAt w4 v l) := HP3.out.below hb4
  have HB4 : Hid (Below w.heap.size w w4) := HB3.out.trans (hb4.mono HB3.out.size)
  clear hb4 HE3 HP3 HB3
  go_wp2_with fail
  refine (check_any _ _ _ HP4.out).mono ?_
  rintro e w5 ⟨rfl, hb5⟩
  rw [HQ.out]
  have HE5 : Hid (Env w5) := HE4.out.below hb5
  have HP5 : Hid (PinsAt w5 v l) := HP4.out.below hb5
  have HB5 : Hid (Below w.heap.size w w5) := HB4.out.trans (hb5.mono HB4.out.size)
  clear hb5 HE4 HP4 HB4
  go_wp2_with fail
  refine (find_any _ _ name _ HP5.out).mono ?_
  rintro e w6 ⟨rfl, hb6⟩
  have HE6 : Hid (Env w6) := HE5.out.below hb6
  have HP6 : Hid (PinsAt w6 v l) := HP5.out.below hb6
  have HB6 : Hid (Below w.heap.size w w6) := HB5.out.trans (hb6.mono HB5.out.size)
  clear hb6 HE5 HP5 HB5
  go_wp2_with fail
  refine (at_any _ _ name _ HP6.out).mono ?_
  rintro e w7 ⟨rfl, hb7⟩
  have HE7 : Hid (Env w7) := HE6.out.below hb7
  have HP7 : Hid (PinsAt w7 v l) := HP6.out.below hb7
  have HB7 : Hid (Below w.heap.size w w7) := HB6.out.trans (hb7.mono HB6.out.size)
  clear hb7 HE6 HP6 HB6
  generalize Lk.find name l = fn
  go_wp2
  go_ret
  exact ⟨rfl, HB7.out⟩

set_option maxHeartbeats 4000000 in
theorem says_bad (v : Value) (l : List (Int × Int)) (name : Int) (s : ByteArray) (w : World) (hE : Env w) (hP : PinsAt w v l) (hc : ¬ Lk.chk l = 0) (hs : s.size ≤ 60000) :
    Calls Tryd.prog 3 #[v, .int .i64 name, .string s] w fun e w' => e = .returned (.bool true) ∧ Below w.heap.size w w' := by
  have HE : Hid (Env w) := hE
  have HP : Hid (PinsAt w v l) := hP
  have HC : Hid (¬ Lk.chk l = 0) := hc
  have hs' : (s.size : Int) ≤ 60000 := by omega
  clear hE hP hc
  go_enter Tryd.func3, Tryd.ntmps3
  go_wp2_with fail
  refine (print_any _ _ _ HP.out).mono ?_
  rintro e w1 ⟨rfl, hb1⟩
  rw [printed_bad HC.out]
  have HCB : Hid ((Lk.chk l == 0) = false) := beq_eq_false_iff_ne.2 HC.out
  have HE1 : Hid (Env w1) := HE.out.below hb1
  have HP1 : Hid (PinsAt w1 v l) := HP.out.below hb1
  have HB1 : Hid (Below w.heap.size w w1) := hb1
  clear hb1 HE HP
  go_wp2_with fail
  refine (parse_any s hs _ HE1.out).mono ?_
  rintro e w2 ⟨⟨m, rfl, hm⟩, hb2⟩
  have HM2 : Hid (PinsAt w2 m (Lk.readAs s).1) := hm
  clear hm
  have HE2 : Hid (Env w2) := HE1.out.below hb2
  have HP2 : Hid (PinsAt w2 v l) := HP1.out.below hb2
  have HB2 : Hid (Below w.heap.size w w2) := HB1.out.trans (hb2.mono HB1.out.size)
  clear hb2 HE1 HP1 HB1
  go_wp2_with fail
  refine (checkR_any _ _ _ HP2.out).mono ?_
  rintro e w3 ⟨rfl, hb3⟩
  have HE3 : Hid (Env w3) := HE2.out.below hb3
  have HP3 : Hid (PinsAt w3 v l) := HP2.out.below hb3
  have HB3 : Hid (Below w.heap.size w w3) := HB2.out.trans (hb3.mono HB2.out.size)
  have HM3 : Hid (PinsAt w3 m (Lk.readAs s).1) := HM2.out.below hb3
  clear HM2
  clear hb3 HE2 HP2 HB2
  generalize hq : Lk.chk l = c
  rw [hq] at HCB
  have HQ : Hid (Lk.chk l = c) := hq
  clear hq
  have hcb := HCB.out
  go_wp2_with fail
  refine (locked_any _ HE3.out).mono ?_
  rintro e w4 ⟨rfl, hb4⟩
  have HE4 : Hid (Env w4) := HE3.out.below hb4
  have HP4 : Hid (PinsAt w4 v l) := HP3.out.below hb4
  have HB4 : Hid (Below w.heap.size w w4) := HB3.out.trans (hb4.mono HB3.out.size)
  have HM4 : Hid (PinsAt w4 m (Lk.readAs s).1) := HM3.out.below hb4
  clear HM3
  clear hb4 HE3 HP3 HB3
  go_wp2_with fail
  refine (check_any _ _ _ HP4.out).mono ?_
  rintro e w5 ⟨rfl, hb5⟩
  rw [HQ.out]
  have HE5 : Hid (Env w5) := HE4.out.below hb5
  have HP5 : Hid (PinsAt w5 v l) := HP4.out.below hb5
  have HB5 : Hid (Below w.heap.size w w5) := HB4.out.trans (hb5.mono HB4.out.size)
  have HM5 : Hid (PinsAt w5 m (Lk.readAs s).1) := HM4.out.below hb5
  clear HM4
  clear hb5 HE4 HP4 HB4
  go_wp2_with fail
  refine (find_any _ _ name _ HP5.out).mono ?_
  rintro e w6 ⟨rfl, hb6⟩
  have HE6 : Hid (Env w6) := HE5.out.below hb6
  have HP6 : Hid (PinsAt w6 v l) := HP5.out.below hb6
  have HB6 : Hid (Below w.heap.size w w6) := HB5.out.trans (hb6.mono HB5.out.size)
  have HM6 : Hid (PinsAt w6 m (Lk.readAs s).1) := HM5.out.below hb6
  clear HM5
  clear hb6 HE5 HP5 HB5
  go_wp2_with fail
  refine (at_any _ _ name _ HP6.out).mono ?_
  rintro e w7 ⟨rfl, hb7⟩
  have HE7 : Hid (Env w7) := HE6.out.below hb7
  have HP7 : Hid (PinsAt w7 v l) := HP6.out.below hb7
  have HB7 : Hid (Below w.heap.size w w7) := HB6.out.trans (hb7.mono HB6.out.size)
  have HM7 : Hid (PinsAt w7 m (Lk.readAs s).1) := HM6.out.below hb7
  clear HM6
  clear hb7 HE6 HP6 HB6
  generalize Lk.find name l = fn
  go_wp2_with fail
  refine (lockRead_any s hs _ HE7.out).mono ?_
  rintro e w8 ⟨⟨M, rfl, hM⟩, hb8⟩
  have HMM : Hid (PinsAt w8 M (Lk.readAs s).1) := hM
  clear hM
  have HE8 : Hid (Env w8) := HE7.out.below hb8
  have HP8 : Hid (PinsAt w8 v l) := HP7.out.below hb8
  have HB8 : Hid (Below w.heap.size w w8) := HB7.out.trans (hb8.mono HB7.out.size)
  have HM8 : Hid (PinsAt w8 m (Lk.readAs s).1) := HM7.out.below hb8
  clear HM7
  clear hb8 HE7 HP7 HB7
  go_wp2_with fail
  refine (equal_any _ _ _ _ _ HM8.out HMM.out).mono ?_
  rintro e w9 ⟨rfl, hb9⟩
  rw [same_self]
  have HE9 : Hid (Env w9) := HE8.out.below hb9
  have HP9 : Hid (PinsAt w9 v l) := HP8.out.below hb9
  have HB9 : Hid (Below w.heap.size w w9) := HB8.out.trans (hb9.mono HB8.out.size)
  have HM9 : Hid (PinsAt w9 m (Lk.readAs s).1) := HM8.out.below hb9
  clear HM8
  clear hb9 HE8 HP8 HB8
  go_wp2
  go_ret
  exact ⟨rfl, HB9.out⟩

theorem says_any (v : Value) (l : List (Int × Int)) (name : Int) (s : ByteArray) (w : World) (hE : Env w) (hP : PinsAt w v l) :
    Calls Tryd.prog 3 #[v, .int .i64 name, .string s] w fun e w' => e = .returned (.bool true) ∧ Below w.heap.size w w' := by
  by_cases hc : Lk.chk l = 0 <;> by_cases hs : s.size ≤ 60000
  · exact says_good v l name s w hE hP hc hs
  · exact says_goodLong v l name s w hE hP hc (by omega)
  · exact says_bad v l name s w hE hP hc hs
  · exact says_badLong v l name s w hE hP hc (by omega)
end Go.Proofs.YtpmhajdljghfcaaDoor
