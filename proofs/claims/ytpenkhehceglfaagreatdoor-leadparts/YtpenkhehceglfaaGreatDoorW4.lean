/- Contracts of number.Read and of the document's whole. -/
import Derived.Test.YtpenkhehceglfaaGreatDoorShelf
import Derived.Test.YtpenkhehceglfaaGreatDoorMA
import Derived.Lib.ParseIntBTie
import Derived.Test.YtpenkhehceglfaaGreatDoorW1
namespace Go.Proofs.YtpenkhehceglfaaGreatDoor
open Go.RowKit
/-- what the program's own variables hold, as far as it matters -/
structure Env (w : World) : Prop where
  mx : ∃ m, w.cell? ⟨0, 0, none⟩ = some (.int .i64 m)
  tab : Lib.TabIs Tryz.prog w "internal/strconv.uint64pow10" .u64 Lib.pow10Tab
  syn : ∃ tp p, w.var? Tryz.prog "strconv.ErrSyntax" = some #[.iface tp p]
  ran : ∃ tp p, w.var? Tryz.prog "strconv.ErrRange" = some #[.iface tp p]
  big : 8 ≤ w.heap.size
theorem g_tab : ((Tryz.prog.globalNamed "internal/strconv.uint64pow10").map fun g => decide (g < 8)) = some true := by kernel_rfl
theorem g_syn : ((Tryz.prog.globalNamed "strconv.ErrSyntax").map fun g => decide (g < 8)) = some true := by kernel_rfl
theorem g_ran : ((Tryz.prog.globalNamed "strconv.ErrRange").map fun g => decide (g < 8)) = some true := by kernel_rfl
theorem var_kept {n : String} {w w' : World} {cs : Array Value} (hg : ((Tryz.prog.globalNamed n).map fun g => decide (g < 8)) = some true) (hb : Below w.heap.size w w') (h8 : 8 ≤ w.heap.size) (hv : w.var? Tryz.prog n = some cs) : w'.var? Tryz.prog n = some cs := by
  obtain ⟨g, e1, e2⟩ := Option.map_eq_some_iff.1 hg
  exact var?_below hb e1 (by have := of_decide_eq_true e2; omega) hv
theorem Env.below {w w' : World} (h : Env w) (hb : Below w.heap.size w w') : Env w' := by
  refine ⟨?_, var_kept g_tab hb h.big h.tab, ?_, ?_, Nat.le_trans h.big hb.size⟩
  · obtain ⟨m, hm⟩ := h.mx
    exact ⟨m, (hb.cell (p := ⟨0, 0, none⟩) (by have := h.big; show 0 < _; omega)).trans hm⟩
  · obtain ⟨tp, p, hv⟩ := h.syn
    exact ⟨tp, p, var_kept g_syn hb h.big hv⟩
  · obtain ⟨tp, p, hv⟩ := h.ran
    exact ⟨tp, p, var_kept g_ran hb h.big hv⟩
theorem below_bytes (w : World) (t : ByteArray) : Below w.heap.size w (Lib.bytesWorld w 5 t) :=
  ⟨rfl, rfl, rfl, by rw [Lib.bytesWorld_size]; omega, fun j hj => Lib.bytesWorld_at_old w 5 t j hj⟩
theorem below_grow (w : World) (k : Nat) (os : Array Obj) : Below w.heap.size w (Sort.grow (w.drewN k) os) :=
  ⟨rfl, rfl, rfl, by simp [Sort.grow], fun j hj => by show (w.heap ++ os)[j]? = _; rw [Array.getElem?_append_left hj]⟩
theorem atoi_ok (s : ByteArray) (hs : s.size ≤ 60000) (v : Int) (h : Lib.atoiAll s.data.toList = .ok v) (w : World) :
    Calls Tryz.prog 146 #[.string s] w fun e w' => e = .returned (.tuple #[.int .i64 v, .nilIface]) ∧ Below w.heap.size w w' := by
  refine (Any.strconv_Atoi_ok Tryz.laysC172 s (by omega) v h w).mono ?_
  rintro e w' ⟨rfl, rfl | ⟨t, rfl⟩⟩
  · exact ⟨rfl, Below.refl _ _⟩
  · exact ⟨rfl, below_bytes w t⟩
theorem atoi_bad (s : ByteArray) (hs : s.size ≤ 60000) (h : ∀ v, Lib.atoiAll s.data.toList ≠ .ok v) (w : World) (hE : Env w) :
    Calls Tryz.prog 146 #[.string s] w fun e w' => (∃ n N, e = .returned (.tuple #[.int .i64 n, .iface 243 (.pointer (some ⟨N, 0, none⟩))])) ∧ Below w.heap.size w w' := by
  obtain ⟨tp, p, h1⟩ := hE.syn
  obtain ⟨tr, q, h2⟩ := hE.ran
  cases e : Lib.atoiAll s.data.toList with
  | ok v => exact absurd e (h v)
  | range =>
    refine (Any.strconv_Atoi_range_var Tryz.laysC172 s (by omega) e tr q w h2).mono ?_
    rintro e w' ⟨N, rfl, _, _, hb⟩
    exact ⟨⟨_, N, rfl⟩, hb⟩
  | _ =>
    refine (Any.strconv_Atoi_syntax_var Tryz.laysC172 s (by omega) e tp p w h1).mono ?_
    rintro e w' ⟨N, rfl, _, _, hb⟩
    exact ⟨⟨_, N, rfl⟩, hb⟩
theorem itoa_any (n : Int) (h0 : -9223372036854775808 ≤ n) (h1 : n ≤ 9223372036854775807) (w : World) (hE : Env w) :
    Calls Tryz.prog 82 #[.int .i64 n] w fun e w' => e = .returned (.string ⟨(Lib.itoa n).toArray⟩) ∧ Below w.heap.size w w' := by
  refine (Tryz.strconv_Itoa n h0 h1 w hE.tab).mono ?_
  rintro e w' ⟨rfl, k, os, rfl⟩
  exact ⟨rfl, below_grow w k os⟩
theorem toList_eq (s : ByteArray) : s.toList = s.data.toList := ByteArray.toList_eq s

set_option maxHeartbeats 1000000 in
theorem readNumber_ok (s : ByteArray) (hs : s.size ≤ 60000) (v : Int) (h : Lib.atoiAll s.data.toList = .ok v) (he : Lib.itoa v = s.data.toList) (w : World) (hE : Env w) :
    Calls Tryz.prog 128 #[.string s] w fun e w' => e = .returned (.tuple #[.int .i64 v, .bool true]) ∧ Below w.heap.size w w' := by
  have hv := Lib.atoiAll_bounds h
  have HA : Hid (∀ w, Calls Tryz.prog 146 #[.string s] w fun e w' => e = .returned (.tuple #[.int .i64 v, .nilIface]) ∧ Below w.heap.size w w') := fun w => atoi_ok s hs v h w
  have HI : Hid (∀ w, Env w → Calls Tryz.prog 82 #[.int .i64 v] w fun e w' => e = .returned (.string ⟨(Lib.itoa v).toArray⟩) ∧ Below w.heap.size w w') := fun w hE => itoa_any v hv.1 hv.2 w hE
  have HE : Hid (Env w) := hE
  have he' : (Lib.itoa v == s.toList) = true := by rw [toList_eq, beq_iff_eq]; exact he
  clear h hv hE he
  go_enter Tryz.func128, Tryz.ntmps128
  go_wp2_with fail
  refine (HA.out _).mono ?_
  rintro e w1 ⟨rfl, hb1⟩
  go_wp2_with fail
  refine (HI.out _ (HE.out.below hb1)).mono ?_
  rintro e w2 ⟨rfl, hb2⟩
  go_wp2
  go_ret2
  exact ⟨rfl, hb1.trans (hb2.mono hb1.size)⟩
set_option maxHeartbeats 1000000 in
theorem readNumber_no (s : ByteArray) (hs : s.size ≤ 60000) (v : Int) (h : Lib.atoiAll s.data.toList = .ok v) (he : ¬ Lib.itoa v = s.data.toList) (w : World) (hE : Env w) :
    Calls Tryz.prog 128 #[.string s] w fun e w' => e = .returned (.tuple #[.int .i64 0, .bool false]) ∧ Below w.heap.size w w' := by
  have hv := Lib.atoiAll_bounds h
  have HA : Hid (∀ w, Calls Tryz.prog 146 #[.string s] w fun e w' => e = .returned (.tuple #[.int .i64 v, .nilIface]) ∧ Below w.heap.size w w') := fun w => atoi_ok s hs v h w
  have HI : Hid (∀ w, Env w → Calls Tryz.prog 82 #[.int .i64 v] w fun e w' => e = .returned (.string ⟨(Lib.itoa v).toArray⟩) ∧ Below w.heap.size w w') := fun w hE => itoa_any v hv.1 hv.2 w hE
  have HE : Hid (Env w) := hE
  have he' : (Lib.itoa v == s.toList) = false := by rw [toList_eq, beq_eq_false_iff_ne]; exact he
  clear h hv hE he
  go_enter Tryz.func128, Tryz.ntmps128
  go_wp2_with fail
  refine (HA.out _).mono ?_
  rintro e w1 ⟨rfl, hb1⟩
  go_wp2_with fail
  refine (HI.out _ (HE.out.below hb1)).mono ?_
  rintro e w2 ⟨rfl, hb2⟩
  go_wp2
  go_ret2
  exact ⟨rfl, hb1.trans (hb2.mono hb1.size)⟩
set_option maxHeartbeats 1000000 in
theorem readNumber_bad (s : ByteArray) (hs : s.size ≤ 60000) (h : ∀ v, Lib.atoiAll s.data.toList ≠ .ok v) (w : World) (hE : Env w) :
    Calls Tryz.prog 128 #[.string s] w fun e w' => e = .returned (.tuple #[.int .i64 0, .bool false]) ∧ Below w.heap.size w w' := by
  have HA : Hid (Calls Tryz.prog 146 #[.string s] w fun e w' => (∃ n N, e = .returned (.tuple #[.int .i64 n, .iface 243 (.pointer (some ⟨N, 0, none⟩))])) ∧ Below w.heap.size w w') := atoi_bad s hs h w hE
  clear h hE
  go_enter Tryz.func128, Tryz.ntmps128
  go_wp2_with fail
  refine HA.out.mono ?_
  rintro e w1 ⟨⟨n, N, rfl⟩, hb1⟩
  go_wp2
  go_ret2
  exact ⟨rfl, hb1⟩
theorem readNumber_any (s : ByteArray) (hs : s.size ≤ 60000) (w : World) (hE : Env w) :
    Calls Tryz.prog 128 #[.string s] w fun e w' => (∃ n : Int, e = .returned (.tuple #[.int .i64 n, .bool (Lk.numOf s.data.toList).isSome]) ∧ ∀ v, Lk.numOf s.data.toList = some v → n = v) ∧ Below w.heap.size w w' := by
  by_cases h : ∃ v, Lib.atoiAll s.data.toList = .ok v
  · obtain ⟨v, h⟩ := h
    by_cases he : Lib.itoa v = s.data.toList
    · refine (readNumber_ok s hs v h he w hE).mono ?_
      rintro e w' ⟨rfl, hb⟩
      exact ⟨⟨v, by rw [Lk.numOf_ok h he]; rfl, fun u hu => by rw [Lk.numOf_ok h he] at hu; simpa using hu⟩, hb⟩
    · refine (readNumber_no s hs v h he w hE).mono ?_
      rintro e w' ⟨rfl, hb⟩
      exact ⟨⟨0, by rw [Lk.numOf_no h he]; rfl, fun u hu => by rw [Lk.numOf_no h he] at hu; simp at hu⟩, hb⟩
  · have h' : ∀ v, Lib.atoiAll s.data.toList ≠ .ok v := fun v e => h ⟨v, e⟩
    refine (readNumber_bad s hs h' w hE).mono ?_
    rintro e w' ⟨rfl, hb⟩
    rw [Lk.numOf_bad h']
    exact ⟨⟨0, rfl, fun v hv => by simp at hv⟩, hb⟩

end Go.Proofs.YtpenkhehceglfaaGreatDoor
