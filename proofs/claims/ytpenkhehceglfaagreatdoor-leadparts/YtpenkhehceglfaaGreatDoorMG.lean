import Derived.Test.YtpenkhehceglfaaGreatDoorW1
import Derived.Test.YtpenkhehceglfaaGreatDoorMA
import Derived.Deep.WholeRow
import Derived.Laws.CopyOwn
import Derived.OwnWalk
import Derived.Test.YtpenkhehceglfaaGreatDoorMH
import Derived.Laws.ResultCell
/- Tables by name, as arrays of the document's own type: whole rows of cells. -/
namespace Go.Proofs.YtpenkhehceglfaaGreatDoor
open Go.RowKit
/-- a table's cells -/
def tcells (t : List Int) : Array Value := (t.map (Value.int .i64)).toArray
theorem tcells_size (t : List Int) : (tcells t).size = t.length := by simp [tcells]
theorem tcells_get (t : List Int) (n : Nat) (h : n < t.length) : (tcells t)[n]? = some (.int .i64 (t.getD n 0)) := by
  simp [tcells, List.getD_eq_getElem?_getD, h]
theorem tcells_set (t : List Int) (n : Nat) (v : Int) : (tcells t).setIfInBounds n (.int .i64 v) = tcells (t.set n v) := by
  simp [tcells, List.map_set]
/-- a table in a block of its own -/
def TabAt (w : World) (b : Nat) (ty : TypeId) (t : List Int) : Prop := w.heap[b]? = some (.cells (tcells t) ty (0, 0))
theorem TabAt.lt {w : World} {b : Nat} {ty : TypeId} {t : List Int} (h : TabAt w b ty t) : b < w.heap.size := by
  rcases Nat.lt_or_ge b w.heap.size with h' | h'
  · exact h'
  · rw [TabAt, Array.getElem?_eq_none h'] at h; cases h
theorem TabAt.cell {w : World} {b : Nat} {ty : TypeId} {t : List Int} (h : TabAt w b ty t) (n : Nat) (hn : n < t.length) : w.cell? ⟨b, n, none⟩ = some (.int .i64 (t.getD n 0)) := by
  rw [cell_of_row w b n _ ty _ h, tcells_get t n hn]
theorem TabAt.below {w w' : World} {b : Nat} {ty : TypeId} {t : List Int} (h : TabAt w b ty t) {B : Nat} (hb : Below B w w') (hB : b < B) : TabAt w' b ty t := (hb.block b hB).trans h
theorem TabAt.alloc {w : World} {b : Nat} {ty : TypeId} {t : List Int} (h : TabAt w b ty t) (o : Obj) : TabAt (w.alloc o) b ty t := (Below.heap_alloc w o b h.lt).trans h
theorem TabAt.set {w : World} {b : Nat} {ty : TypeId} {t : List Int} (h : TabAt w b ty t) (n : Nat) (v : Int) : TabAt (w.setCell ⟨b, n, none⟩ (.int .i64 v)) b ty (t.set n v) := by
  have := heap_setCell_same w b n _ ty (.int .i64 v) h
  rw [tcells_set] at this
  exact this
theorem TabAt.other {w : World} {b : Nat} {ty : TypeId} {t : List Int} (h : TabAt w b ty t) {a : Addr} (ha : b ≠ a.block) (v : Value) : TabAt (w.setCell a v) b ty t := (heap_setCell_other w a b v ha).trans h
theorem TabAt.load {P : Program} {w : World} {b : Nat} {ty : TypeId} {t : List Int} (h : TabAt w b ty t) (hl : t.length = 21) : (loadCellsFrom ⟨b, 0, none⟩ 0 21 #[]).run P w = .ok (tcells t) w := by
  have := run_loadCells_list (P := P) w ⟨b, 0, none⟩ (tcells t).toList (fun j v hv => by
    have hadd : (⟨b, 0, none⟩ : Addr).add j = ⟨b, j, none⟩ := by unfold Addr.add; split <;> simp_all
    rw [hadd, cell_of_row _ _ j _ _ (0, 0) h]
    simpa using hv)
  have e : (tcells t).toList.length = 21 := by rw [Array.length_toList, tcells_size, hl]
  rw [e] at this
  simpa [loadCells] using this
theorem TabAt.loadVar {P : Program} {w : World} {b : Nat} {ty : TypeId} {t : List Int} {n : Nat} {e : TypeId} (h : TabAt w b ty t) (hu : P.underlying ty = some (.array n e)) (hi : (P.info? ty).map (·.size) = some 21) (hl : t.length = 21) : (Go.loadVar ty ⟨b, 0, none⟩).run P w = .ok (.agg (tcells t)) w :=
  run_loadVar_row _ _ ty ty _ (0, 0) _ h hu rfl (by rw [hi, tcells_size, hl])
theorem tcells_one (t : List Int) : (tcells t).all (·.oneCell') = true := by
  simp [tcells, Value.oneCell']
theorem TabAt.store {P : Program} {w : World} {b : Nat} {ty : TypeId} {t : List Int} (h : TabAt w b ty t) (s : List Int) (hl : t.length = s.length) :
    (storeCells ⟨b, 0, none⟩ (tcells s).toList 0).run P w = .ok () (w.setRow b (tcells s)) := by
  have := run_storeCells_from (P := P) b ty (tcells s).toList 0 (tcells t) w h (by simp [tcells, hl]) (fun v hv => (Array.all_eq_true_iff_forall_mem.1 (tcells_one s)) v (by simpa using hv))
  simpa using this
theorem TabAt.row {w : World} {b : Nat} {ty : TypeId} {t : List Int} (h : TabAt w b ty t) (s : List Int) : TabAt (w.setRow b (tcells s)) b ty s := setRow_heap w b _ _ ty _ h
theorem TabAt.otherRow {w : World} {b c : Nat} {ty : TypeId} {t : List Int} (h : TabAt w b ty t) (hc : b ≠ c) (cs : Array Value) : TabAt (w.setRow c cs) b ty t := (setRow_other w c b cs hc).trans h
theorem info21R : (Tryz.prog.info? 109).map (·.size) = some 21 := by kernel_rfl
/-- a whole table is loaded -/
theorem ldR {ops : Array Oper} {rest : List Oper} {o : Oper} {a : Act} {w : World} {Q : Exit → Act → World → Prop} (hgd : o.guard = none) (x : Operand) (ho : o.op = .load 109 x)
    (g : Nat) (hx : a.eval x = .pointer (some ⟨g, 0, none⟩)) {t : List Int} (hT : TabAt w g 109 t) (hl : t.length = 21)
    (h : wpList Tryz.prog ops Q rest (a.put o.dst (.agg (tcells t))) w) : wpList Tryz.prog ops Q (o :: rest) a w :=
  wpList_load_row hgd 109 x ho g hx 109 _ (0, 0) _ hT Tryz.underlying109 rfl (by rw [tcells_size, hl]; exact info21R) h
/-- a whole table is stored -/
theorem stR {ops : Array Oper} {rest : List Oper} {o : Oper} {a : Act} {w : World} {Q : Exit → Act → World → Prop} (hgd : o.guard = none) (x y : Operand) (ho : o.op = .store 109 x y)
    (g : Nat) (hx : a.eval x = .pointer (some ⟨g, 0, none⟩)) (s : List Int) (hy : a.eval y = .agg (tcells s)) {t : List Int} (hT : TabAt w g 109 t) (hl : t.length = 21) (hs : s.length = 21)
    (h : wpList Tryz.prog ops Q rest (a.put o.dst undef) (w.setRow g (tcells s))) : wpList Tryz.prog ops Q (o :: rest) a w :=
  wpList_store_row hgd 109 x y ho g (tcells s) hx hy 109 _ hT (by rw [tcells_size, hs]; exact info21R) (by rw [tcells_size, tcells_size, hl, hs]) (tcells_one _) h
/-- a table, by value, is asked -/
theorem ixR (t : List Int) (k : Nat) (hk : k < 21) (hl : t.length = 21) (w : World) : (Instr.index 109 (.agg (tcells t)) (.int .i64 k)).run Tryz.prog w = .ok (.int .i64 (t.getD k 0)) w := by
  have h1 : (0 : Int) ≤ k ∧ (k : Int) < ((21 : Nat) : Int) := by omega
  simp only [Instr.index, asIntOf, Sem.run_bind, Sem.run_pure, Result.andThen_ok, run_underlying Tryz.underlying109, if_pos h1, Tryz.sizeOf3, part, Tryz.isAgg3]
  simp [tcells_get t k (by omega)]
/-- a whole table is stored into the block that was made last -/
theorem stNR {ops : Array Oper} {rest : List Oper} {o : Oper} {a : Act} {w : World} {Q : Exit → Act → World → Prop} (hgd : o.guard = none) (x y : Operand) (ho : o.op = .store 109 x y)
    (hx : a.eval x = .pointer (some ⟨w.heap.size, 0, none⟩)) (s : List Int) (hy : a.eval y = .agg (tcells s)) (hs : s.length = 21)
    (h : wpList Tryz.prog ops Q rest (a.put o.dst undef) (w.alloc (.cells (tcells s) 109))) : wpList Tryz.prog ops Q (o :: rest) a (w.alloc (.cells (tcells (List.replicate 21 0)) 109)) :=
  stR (t := List.replicate 21 0) hgd x y ho w.heap.size hx s hy (heap_alloc_last w _) rfl hs (by rw [World.setRow_alloc_new]; exact h)
end Go.Proofs.YtpenkhehceglfaaGreatDoor
/- The contract of the document's table. -/
namespace Go.Proofs.YtpenkhehceglfaaGreatDoor
open Go.RowKit
theorem put_take (t : List Int) (l : List (Int × Int)) (k : Nat) (x y : Int) (h : l.drop k = (x, y) :: l.drop (k + 1)) : (l.take (k + 1)).foldl Dk.put t = ((l.take k).foldl Dk.put t).set x.toNat y := by
  have e : l[k]? = some (x, y) := by
    have : (l.drop k)[0]? = some (x, y) := by rw [h]; rfl
    simpa using this
  rw [List.take_add_one, e, List.foldl_append]; rfl
theorem srt_get {l : List (Int × Int)} : ∀ {k : Int} {p : Int × Int}, Dk.srt k l → p ∈ l → k ≤ p.1 ∧ p.1 ≤ 20 ∧ 1 ≤ p.2 ∧ p.2 ≤ 99 := by
  induction l with
  | nil => intro k p _ h; cases h
  | cons q r ih =>
    intro k p hs h
    rcases List.mem_cons.1 h with rfl | h
    · exact hs.1
    · have := ih hs.2 h
      have := hs.1
      omega
end Go.Proofs.YtpenkhehceglfaaGreatDoor
/- The contract of the document's lockOf: the lock of a table. -/
namespace Go.Proofs.YtpenkhehceglfaaGreatDoor
open Go.RowKit
end Go.Proofs.YtpenkhehceglfaaGreatDoor
/- Package table: versions by name, as arrays: whole rows of cells; a result that is such an array, and an error. -/
namespace Go.Proofs.YtpenkhehceglfaaGreatDoor
open Go.RowKit
theorem info21V : (Tryz.prog.info? 110).map (·.size) = some 21 := by kernel_rfl
/-- a whole table is loaded -/
theorem ldV {ops : Array Oper} {rest : List Oper} {o : Oper} {a : Act} {w : World} {Q : Exit → Act → World → Prop} (hgd : o.guard = none) (x : Operand) (ho : o.op = .load 110 x)
    (g : Nat) (hx : a.eval x = .pointer (some ⟨g, 0, none⟩)) {t : List Int} (hT : TabAt w g 110 t) (hl : t.length = 21)
    (h : wpList Tryz.prog ops Q rest (a.put o.dst (.agg (tcells t))) w) : wpList Tryz.prog ops Q (o :: rest) a w :=
  wpList_load_row hgd 110 x ho g hx 110 _ (0, 0) _ hT Tryz.underlying110 rfl (by rw [tcells_size, hl]; exact info21V) h
/-- a whole table is stored -/
theorem stV {ops : Array Oper} {rest : List Oper} {o : Oper} {a : Act} {w : World} {Q : Exit → Act → World → Prop} (hgd : o.guard = none) (x y : Operand) (ho : o.op = .store 110 x y)
    (g : Nat) (hx : a.eval x = .pointer (some ⟨g, 0, none⟩)) (s : List Int) (hy : a.eval y = .agg (tcells s)) {t : List Int} (hT : TabAt w g 110 t) (hl : t.length = 21) (hs : s.length = 21)
    (h : wpList Tryz.prog ops Q rest (a.put o.dst undef) (w.setRow g (tcells s))) : wpList Tryz.prog ops Q (o :: rest) a w :=
  wpList_store_row hgd 110 x y ho g (tcells s) hx hy 110 _ hT (by rw [tcells_size, hs]; exact info21V) (by rw [tcells_size, tcells_size, hl, hs]) (tcells_one _) h
/-- a table, by value, is asked -/
theorem ixV (t : List Int) (k : Nat) (hk : k < 21) (hl : t.length = 21) (w : World) : (Instr.index 110 (.agg (tcells t)) (.int .i64 k)).run Tryz.prog w = .ok (.int .i64 (t.getD k 0)) w := by
  have h1 : (0 : Int) ≤ k ∧ (k : Int) < ((21 : Nat) : Int) := by omega
  simp only [Instr.index, asIntOf, Sem.run_bind, Sem.run_pure, Result.andThen_ok, run_underlying Tryz.underlying110, if_pos h1, Tryz.sizeOf3, part, Tryz.isAgg3]
  simp [tcells_get t k (by omega)]
/-- a whole table is stored into the block that was made last -/
theorem stNV {ops : Array Oper} {rest : List Oper} {o : Oper} {a : Act} {w : World} {Q : Exit → Act → World → Prop} (hgd : o.guard = none) (x y : Operand) (ho : o.op = .store 110 x y)
    (hx : a.eval x = .pointer (some ⟨w.heap.size, 0, none⟩)) (s : List Int) (hy : a.eval y = .agg (tcells s)) (hs : s.length = 21)
    (h : wpList Tryz.prog ops Q rest (a.put o.dst undef) (w.alloc (.cells (tcells s) 110))) : wpList Tryz.prog ops Q (o :: rest) a (w.alloc (.cells (tcells (List.replicate 21 0)) 110)) :=
  stV (t := List.replicate 21 0) hgd x y ho w.heap.size hx s hy (heap_alloc_last w _) rfl hs (by rw [World.setRow_alloc_new]; exact h)
theorem results_rowV {P : Program} {fn : Func} {p u : Tmp} {ty : TypeId} (h : fn.results = #[.cell p ty, .tmp u]) (tmps : Array Value) (w : World) (g : Nat) (t : TypeId) (cs : Array Value) (fr : Nat × Nat) (d : TypeDesc)
    (hp : tmps.getD p undef = .pointer (some ⟨g, 0, none⟩)) (hg : w.heap[g]? = some (.cells cs t fr))
    (hu : P.underlying ty = some d) (hd : (match d with | .struct _ | .array _ _ => true | _ => false) = true) (hi : (P.info? ty).map (·.size) = some cs.size) (x : Value) (hx : tmps.getD u undef = x) :
    (results fn tmps).run P w = .ok (.tuple #[.agg cs, x]) w := by
  rw [results_cell_tmp h, hp, hx]
  simp [asAddr, run_loadVar_row w g t ty cs fr d hg hu hd hi]
/-- a table of nothing -/
def zero21 : List Int := List.replicate 21 0
/-- the table that table.Of answers -/
def ofTab (l : List (Int × Int)) : List Int := if Lk.chk l = 0 then Dk.tb l else zero21
theorem ofTab_len (l : List (Int × Int)) : (ofTab l).length = 21 := by
  unfold ofTab; split
  · exact Dk.tb_len l
  · rfl
set_option maxHeartbeats 2000000 in
theorem of_bad (v : Value) (l : List (Int × Int)) (w : World) (hP : PinsAt w v l) (he : Lk.chk l ≠ 0) :
    Calls Tryz.prog 50 #[v] w fun e w' => e = .returned (.tuple #[.agg (tcells zero21), .int .i64 (Lk.chk l)]) ∧ Below w.heap.size w w' := by
  have he' : (Lk.chk l != 0) = true := by simpa using he
  have HP : Hid (PinsAt w v l) := hP
  clear he hP
  go_enter Tryz.func50, Tryz.ntmps50
  go_wp2_with fail
  refine (check_any _ _ _ (HP.out.below ((Below.refl _ w).alloc (Nat.le_refl _) _))).mono ?_
  rintro e w1 ⟨rfl, hb1⟩
  have H0 : Hid (TabAt w1 w.heap.size 110 (List.replicate 21 0)) := TabAt.below (t := List.replicate 21 0) (heap_alloc_last w _) hb1 (by simp)
  have HB1 : Hid (Below w.heap.size w w1) := ((Below.refl _ w).alloc (Nat.le_refl _) _).trans (hb1.mono (by simp))
  clear hb1
  go_wp2_with (guard_target = wpList _ _ _ (Oper.mk _ (Op.store 110 (.tmp 2) _) _ _ _ _ :: _) _ _; refine stV rfl (.tmp 2) (.tmp 12) rfl w.heap.size (by rfl) zero21 (by rfl) H0.out rfl rfl ?_)
  refine bodyPost_ret (v := .tuple #[.agg (tcells zero21), .int .i64 (Lk.chk l)]) (results_rowV rfl _ _ w.heap.size 110 _ (0, 0) _ rfl (H0.out.row zero21) Tryz.underlying110 rfl (by rw [tcells_size]; kernel_rfl) _ rfl) rfl ⟨rfl, below_setRow HB1.out (Nat.le_refl _) _⟩
set_option maxHeartbeats 2000000 in
theorem of_good (v : Value) (l : List (Int × Int)) (w : World) (hP : PinsAt w v l) (hc : Lk.chk l = 0) :
    Calls Tryz.prog 50 #[v] w fun e w' => e = .returned (.tuple #[.agg (tcells (Dk.tb l)), .int .i64 0]) ∧ Below w.heap.size w w' := by
  have HP : Hid (PinsAt w v l) := hP
  obtain ⟨A, b, o, c, rfl, -, hAa, hAc⟩ := hP.open
  have HA : Hid (0 < l.length → A = some ⟨b, o, none⟩ ∧ b < w.heap.size) := hAa
  have HC : Hid (∀ j, j < l.length → w.cell? ⟨b, o + j * 2, none⟩ = some (.int .i64 (l.getD j (0, 0)).1) ∧ w.cell? ⟨b, o + j * 2 + 1, none⟩ = some (.int .i64 (l.getD j (0, 0)).2)) := hAc
  have hll : l.length ≤ 12 := (Dk.chk_srt hc).1
  have HS : Hid (Dk.srt 1 l) := (Dk.chk_srt hc).2
  have HE : Hid (Lk.chk l = 0) := hc
  clear hc hAa hAc hP
  go_enter Tryz.func50, Tryz.ntmps50
  go_wp2_with fail
  refine (check_any _ _ _ (HP.out.below ((Below.refl _ w).alloc (Nat.le_refl _) _))).mono ?_
  rintro e w1 ⟨rfl, hb1⟩
  rw [HE.out]
  have H0 : Hid (TabAt w1 w.heap.size 110 (List.replicate 21 0)) := TabAt.below (t := List.replicate 21 0) (heap_alloc_last w _) hb1 (by simp)
  have HB1 : Hid (Below w.heap.size w w1) := ((Below.refl _ w).alloc (Nat.le_refl _) _).trans (hb1.mono (by simp))
  have hs1 : w.heap.size < w1.heap.size := H0.out.lt
  clear hb1
  go_wp2
  go_loopg [16] l.length (fun g s16 wr => ∃ k : Nat, k ≤ l.length ∧ l.length - k ≤ g ∧ s16 = .int .i64 k ∧ Hid (TabAt wr w.heap.size 110 (List.replicate 21 0)) ∧ Hid (TabAt wr w1.heap.size 110 ((l.take k).foldl Dk.put (List.replicate 21 0))) ∧ Hid (Below w.heap.size w wr))
  case atStart => exact ⟨0, Nat.zero_le _, by omega, rfl, H0.out.alloc _, heap_alloc_last w1 _, HB1.out.alloc HB1.out.size _⟩
  case round =>
    obtain ⟨k, hk, hg, rfl, H2, H3, HB⟩ := hrel
    by_cases hlt : k < l.length
    · obtain ⟨rfl, hbw⟩ := HA.out (by omega)
      obtain ⟨g1, g2⟩ := HC.out k hlt
      rw [← HB.out.cell (p := ⟨b, _, none⟩) hbw] at g1 g2
      clear HA
      have HD : Hid (l.drop k = l.getD k (0, 0) :: l.drop (k + 1)) := drop_getD l k _ hlt rfl
      have hm := srt_get HS.out (p := l.getD k (0, 0)) (by rw [List.getD_eq_getElem?_getD, List.getElem?_eq_getElem hlt]; exact List.getElem_mem hlt)
      generalize l.getD k (0,0) = p at g1 g2 HD hm
      obtain ⟨x, y⟩ := p
      simp only at g1 g2 hm
      obtain ⟨h1, h2, h3, h4⟩ := hm
      obtain ⟨n, rfl⟩ : ∃ n : Nat, x = n := ⟨x.toNat, by omega⟩
      have hn : n < 21 := by omega
      have c0 := H3.out.cell n (by rw [Dk.foldl_put_len]; simpa using hn)
      have hsz := H3.out.lt
      have hf := frozen_of_row wr w1.heap.size n _ _ H3.out
      go_wp2
      go_roundg (l.length - (k + 1))
      case measure => omega
      case rel =>
        refine ⟨k + 1, by omega, by omega, by go_num, (H2.out.other (by simp; omega) _).alloc _, ?_, ((HB.out.setCell (by simp; omega) _).alloc (by simpa using HB.out.size) _)⟩
        rw [put_take _ l k _ _ HD.out]
        exact (H3.out.set n y).alloc _
    · have hk' : k = l.length := by omega
      subst hk'
      have HT : Hid (TabAt wr w1.heap.size 110 (Dk.tb l)) := by
        have := H3.out
        rw [List.take_length, show l.foldl Dk.put (List.replicate 21 0) = Dk.tabOf l from rfl, Dk.tabOf_tb HS.out] at this
        exact this
      clear hk hlt H3
      go_wp2_with (first | (guard_target = wpList _ _ _ (Oper.mk _ (Op.load 110 (.tmp 5)) _ _ _ _ :: _) _ _; refine ldV (t := Dk.tb l) rfl (.tmp 5) rfl w1.heap.size (by rfl) HT.out (Dk.tb_len l) ?_) | (guard_target = wpList _ _ _ (Oper.mk _ (Op.store 110 (.tmp 2) _) _ _ _ _ :: _) _ _; refine stV rfl (.tmp 2) (.tmp 26) rfl w.heap.size (by rfl) (Dk.tb l) (by rfl) H2.out rfl (Dk.tb_len l) ?_))
      refine bodyPost_ret (v := .tuple #[.agg (tcells (Dk.tb l)), .int .i64 0]) (results_rowV rfl _ _ w.heap.size 110 _ (0, 0) _ rfl (H2.out.row (Dk.tb l)) Tryz.underlying110 rfl (by rw [tcells_size, Dk.tb_len]; exact info21V) _ rfl) rfl ⟨rfl, below_setRow HB.out (Nat.le_refl _) _⟩
theorem of_any (v : Value) (l : List (Int × Int)) (w : World) (hP : PinsAt w v l) :
    Calls Tryz.prog 50 #[v] w fun e w' => e = .returned (.tuple #[.agg (tcells (ofTab l)), .int .i64 (Lk.chk l)]) ∧ Below w.heap.size w w' := by
  by_cases h : Lk.chk l = 0
  · rw [ofTab, if_pos h, h]; exact of_good v l w hP h
  · rw [ofTab, if_neg h]; exact of_bad v l w hP h
set_option maxHeartbeats 2000000 in
theorem pins_new (t : List Int) (ht : t.length = 21) (w : World) :
    Calls Tryz.prog 54 #[.agg (tcells t)] w fun e w' => (∃ v, e = .returned v ∧ PinsNew w' w.heap.size v (Dk.pinsOf t)) ∧ Below w.heap.size w w' := by
  obtain ⟨i0, hi, hz0, hz1, hz2⟩ := info_parts Tryz.info57
  have HL : Hid (t.length = 21) := ht
  clear ht
  go_enter Tryz.func54, Tryz.ntmps54
  have H0 : Hid (TabAt (w.alloc (.cells (tcells t) 110)) w.heap.size 110 t) := heap_alloc_last w _
  go_wp2_with (guard_target = wpList _ _ _ (_ :: _) _ _; refine ldV rfl _ rfl _ rfl H0.out HL.out ?_)
  go_loopg [3, 7] 21 (fun g s3 s7 wr => ∃ k : Nat, k ≤ 21 ∧ 21 - k ≤ g ∧ s7 = .int .i64 k ∧ Hid (wr.ownsRow (w.heap.size + 1) 57 2 s3 (Dk.pinsTo t k).length (flat (Dk.pinsTo t k))) ∧ Below (w.heap.size + 1) (w.alloc (.cells (tcells t) 110)) wr)
  case atStart => exact ⟨0, Nat.zero_le _, by omega, rfl, World.ownsRow_nil _ _ _ _, Below.refl _ _⟩
  case round =>
    obtain ⟨k, hk, hg, rfl, HO, hb⟩ := hrel
    by_cases hlt : k < 21
    · have hlt' : (k : Int) < 21 := by omega
      have hix := ixV t k hlt HL.out
      generalize hv : t.getD k 0 = v at hix
      have HV : Hid (t.getD k 0 = v) := hv
      clear hv
      by_cases h0 : v = 0
      · subst h0
        have HP : Hid (Dk.pinsTo t (k + 1) = Dk.pinsTo t k) := Dk.pinsTo_none HV.out
        go_wp2
        go_roundg (21 - (k + 1))
        case measure => omega
        case rel => exact ⟨k + 1, by omega, by omega, by go_num, by rw [HP.out]; exact HO, hb⟩
      · have HP : Hid (Dk.pinsTo t (k + 1) = Dk.pinsTo t k ++ [((k : Int), v)]) := Dk.pinsTo_some HV.out h0
        have h0' : (v != 0) = true := by simpa using h0
        have hll : (Dk.pinsTo t k).length ≤ 21 := Nat.le_trans (Dk.fm_len _ k) hk
        have hsz : w.heap.size + 1 ≤ wr.heap.size := by have := hb.size; simpa using this
        clear h0
        go_wp2_with (at_builtin; refine wpList_append_own _ rfl _ _ 22 rfl (w.heap.size + 1) 57 i0 (.agg #[.int .i64 0, .int .i64 0]) 2 16 Tryz.underlying22 hi hz0 hz1 hz2 rfl (by decide) _ (Dk.pinsTo t k).length (flat (Dk.pinsTo t k)) rfl (HO.out.alloc _) ⟨wr.heap.size, 0, none⟩ 1 1 [.int .i64 k, .int .i64 v] rfl rfl ?c1 ?c2 ?c3 ?c4 ?c5 ?_)
        case c1 =>
          intro j u hj
          rcases j with _ | _ | j
          · simp at hj; subst hj; simp [go_sem, Addr.add]
          · simp at hj; subst hj; simp [go_sem, Addr.add]
          · simp at hj
        case c2 =>
          intro u hu
          simp only [List.mem_cons, List.not_mem_nil, or_false] at hu
          rcases hu with rfl | rfl <;> rfl
        case c3 => unfold maxLen; omega
        case c4 => omega
        case c5 => simp; omega
        intro v' w3 hown hgrow _
        have HO3 : Hid (w3.ownsRow (w.heap.size + 1) 57 2 v' (Dk.pinsTo t (k + 1)).length (flat (Dk.pinsTo t (k + 1)))) := by
          rw [HP.out, flat_append, List.length_append]; exact hown
        have hb3 := (hb.alloc hsz (.cells #[.int .i64 (k : Int), .int .i64 v] 57)).grown hgrow (by simp; omega) (fun q hq => (HO.out.lt q hq).1)
        clear hown hgrow HO
        go_wp2
        go_roundg (21 - (k + 1))
        case measure => omega
        case rel => exact ⟨k + 1, by omega, by omega, by go_num, HO3, hb3⟩
    · have hk' : k = 21 := by omega
      subst hk'
      have HPA : Hid (PinsNew wr w.heap.size u3 (Dk.pinsOf t)) := (pins_new_owns HO.out (Nat.le_trans (Dk.fm_len _ 21) (by omega))).mono (Nat.le_succ _)
      have hbb : Below w.heap.size w wr := ((Below.refl _ w).alloc (Nat.le_refl _) _).trans (hb.mono (by omega))
      clear hk hlt HO
      go_wp2
      go_ret
      exact ⟨⟨_, rfl, HPA.out⟩, hbb⟩
theorem pins_any (t : List Int) (ht : t.length = 21) (w : World) :
    Calls Tryz.prog 54 #[.agg (tcells t)] w fun e w' => (∃ v, e = .returned v ∧ PinsAt w' v (Dk.pinsOf t)) ∧ Below w.heap.size w w' := by
  refine (pins_new t ht w).mono ?_
  rintro e w' ⟨⟨v, h1, h2⟩, hb⟩
  exact ⟨⟨v, h1, h2.pins⟩, hb⟩
end Go.Proofs.YtpenkhehceglfaaGreatDoor
