/- Tables by name, as arrays of the document's own type: whole rows of cells. -/
import Derived.Test.YtbnaaookeagjgaaW1
import Derived.Test.YtbnaaookeagjgaaDMath
import Derived.Deep.WholeRow
import Derived.Laws.CopyOwn
namespace Go.Proofs.Ytbnaaookeagjgaa
open Go.RowKit
/-- a table's cells -/
def tcells (t : List Int) : Array Value := (t.map (Value.int .i64)).toArray
theorem tcells_size (t : List Int) : (tcells t).size = t.length := by simp [tcells]
theorem tcells_get (t : List Int) (n : Nat) (h : n < t.length) : (tcells t)[n]? = some (.int .i64 (t.getD n 0)) := by
  simp [tcells, List.getD_eq_getElem?_getD, h]
theorem tcells_set (t : List Int) (n : Nat) (v : Int) : (tcells t).setIfInBounds n (.int .i64 v) = tcells (t.set n v) := by
  simp [tcells, List.map_set]
/-- a table in a block of its own -/
def TabAt (w : World) (b : Nat) (ty : TypeId) (t : List Int) : Prop := w.heap[b]? = some (.cells (tcells t) ty (0, 0))
theorem TabAt.lt {w : World} {b : Nat} {ty : TypeId} {t : List Int} (h : TabAt w b ty t) : b < w.heap.size := by
  rcases Nat.lt_or_ge b w.heap.size with h' | h'
  · exact h'
  · rw [TabAt, Array.getElem?_eq_none h'] at h; cases h
theorem TabAt.cell {w : World} {b : Nat} {ty : TypeId} {t : List Int} (h : TabAt w b ty t) (n : Nat) (hn : n < t.length) : w.cell? ⟨b, n, none⟩ = some (.int .i64 (t.getD n 0)) := by
  rw [cell_of_row w b n _ ty _ h, tcells_get t n hn]
theorem TabAt.below {w w' : World} {b : Nat} {ty : TypeId} {t : List Int} (h : TabAt w b ty t) {B : Nat} (hb : Below B w w') (hB : b < B) : TabAt w' b ty t := (hb.block b hB).trans h
theorem TabAt.alloc {w : World} {b : Nat} {ty : TypeId} {t : List Int} (h : TabAt w b ty t) (o : Obj) : TabAt (w.alloc o) b ty t := (Below.heap_alloc w o b h.lt).trans h
theorem TabAt.set {w : World} {b : Nat} {ty : TypeId} {t : List Int} (h : TabAt w b ty t) (n : Nat) (v : Int) : TabAt (w.setCell ⟨b, n, none⟩ (.int .i64 v)) b ty (t.set n v) := by
  have := heap_setCell_same w b n _ ty (.int .i64 v) h
  rw [tcells_set] at this
  exact this
theorem TabAt.other {w : World} {b : Nat} {ty : TypeId} {t : List Int} (h : TabAt w b ty t) {a : Addr} (ha : b ≠ a.block) (v : Value) : TabAt (w.setCell a v) b ty t := (heap_setCell_other w a b v ha).trans h
theorem TabAt.load {P : Program} {w : World} {b : Nat} {ty : TypeId} {t : List Int} (h : TabAt w b ty t) (hl : t.length = 21) : (loadCellsFrom ⟨b, 0, none⟩ 0 21 #[]).run P w = .ok (tcells t) w := by
  have := run_loadCells_list (P := P) w ⟨b, 0, none⟩ (tcells t).toList (fun j v hv => by
    have hadd : (⟨b, 0, none⟩ : Addr).add j = ⟨b, j, none⟩ := by unfold Addr.add; split <;> simp_all
    rw [hadd, cell_of_row _ _ j _ _ (0, 0) h]
    simpa using hv)
  have e : (tcells t).toList.length = 21 := by rw [Array.length_toList, tcells_size, hl]
  rw [e] at this
  simpa [loadCells] using this
theorem TabAt.loadVar {P : Program} {w : World} {b : Nat} {ty : TypeId} {t : List Int} {n : Nat} {e : TypeId} (h : TabAt w b ty t) (hu : P.underlying ty = some (.array n e)) (hi : (P.info? ty).map (·.size) = some 21) (hl : t.length = 21) : (Go.loadVar ty ⟨b, 0, none⟩).run P w = .ok (.agg (tcells t)) w :=
  run_loadVar_row _ _ ty ty _ (0, 0) _ h hu rfl (by rw [hi, tcells_size, hl])
theorem tcells_one (t : List Int) : (tcells t).all (·.oneCell') = true := by
  simp [tcells, Value.oneCell']
theorem TabAt.store {P : Program} {w : World} {b : Nat} {ty : TypeId} {t : List Int} (h : TabAt w b ty t) (s : List Int) (hl : t.length = s.length) :
    (storeCells ⟨b, 0, none⟩ (tcells s).toList 0).run P w = .ok () (w.setRow b (tcells s)) := by
  have := run_storeCells_from (P := P) b ty (tcells s).toList 0 (tcells t) w h (by simp [tcells, hl]) (fun v hv => (Array.all_eq_true_iff_forall_mem.1 (tcells_one s)) v (by simpa using hv))
  simpa using this
theorem TabAt.row {w : World} {b : Nat} {ty : TypeId} {t : List Int} (h : TabAt w b ty t) (s : List Int) : TabAt (w.setRow b (tcells s)) b ty s := setRow_heap w b _ _ ty _ h
theorem TabAt.otherRow {w : World} {b c : Nat} {ty : TypeId} {t : List Int} (h : TabAt w b ty t) (hc : b ≠ c) (cs : Array Value) : TabAt (w.setRow c cs) b ty t := (setRow_other w c b cs hc).trans h
theorem info21R : (Try.prog.info? 64).map (·.size) = some 21 := by kernel_rfl
/-- a whole table is loaded -/
theorem ldR {ops : Array Oper} {rest : List Oper} {o : Oper} {a : Act} {w : World} {Q : Exit → Act → World → Prop} (hgd : o.guard = none) (x : Operand) (ho : o.op = .load 64 x)
    (g : Nat) (hx : a.eval x = .pointer (some ⟨g, 0, none⟩)) {t : List Int} (hT : TabAt w g 64 t) (hl : t.length = 21)
    (h : wpList Try.prog ops Q rest (a.put o.dst (.agg (tcells t))) w) : wpList Try.prog ops Q (o :: rest) a w :=
  wpList_load_row hgd 64 x ho g hx 64 _ (0, 0) _ hT Try.underlying64 rfl (by rw [tcells_size, hl]; exact info21R) h
/-- a whole table is stored -/
theorem stR {ops : Array Oper} {rest : List Oper} {o : Oper} {a : Act} {w : World} {Q : Exit → Act → World → Prop} (hgd : o.guard = none) (x y : Operand) (ho : o.op = .store 64 x y)
    (g : Nat) (hx : a.eval x = .pointer (some ⟨g, 0, none⟩)) (s : List Int) (hy : a.eval y = .agg (tcells s)) {t : List Int} (hT : TabAt w g 64 t) (hl : t.length = 21) (hs : s.length = 21)
    (h : wpList Try.prog ops Q rest (a.put o.dst undef) (w.setRow g (tcells s))) : wpList Try.prog ops Q (o :: rest) a w :=
  wpList_store_row hgd 64 x y ho g (tcells s) hx hy 64 _ hT (by rw [tcells_size, hs]; exact info21R) (by rw [tcells_size, tcells_size, hl, hs]) (tcells_one _) h
/-- a table, by value, is asked -/
theorem ixR (t : List Int) (k : Nat) (hk : k < 21) (hl : t.length = 21) (w : World) : (Instr.index 64 (.agg (tcells t)) (.int .i64 k)).run Try.prog w = .ok (.int .i64 (t.getD k 0)) w := by
  have h1 : (0 : Int) ≤ k ∧ (k : Int) < ((21 : Nat) : Int) := by omega
  simp only [Instr.index, asIntOf, Sem.run_bind, Sem.run_pure, Result.andThen_ok, run_underlying Try.underlying64, if_pos h1, Try.sizeOf3, part, Try.isAgg3]
  simp [tcells_get t k (by omega)]
/-- a whole table is stored into the block that was made last -/
theorem stNR {ops : Array Oper} {rest : List Oper} {o : Oper} {a : Act} {w : World} {Q : Exit → Act → World → Prop} (hgd : o.guard = none) (x y : Operand) (ho : o.op = .store 64 x y)
    (hx : a.eval x = .pointer (some ⟨w.heap.size, 0, none⟩)) (s : List Int) (hy : a.eval y = .agg (tcells s)) (hs : s.length = 21)
    (h : wpList Try.prog ops Q rest (a.put o.dst undef) (w.alloc (.cells (tcells s) 64))) : wpList Try.prog ops Q (o :: rest) a (w.alloc (.cells (tcells (List.replicate 21 0)) 64)) :=
  stR (t := List.replicate 21 0) hgd x y ho w.heap.size hx s hy (heap_alloc_last w _) rfl hs (by rw [World.setRow_alloc_new]; exact h)
end Go.Proofs.Ytbnaaookeagjgaa
