/- Contracts of strings.SplitAfter at a line feed and of the document's linesOf; rows of records of the call's own. -/
import Derived.Test.YtlnbcgjahjjpfacGreatDoorN13
import Derived.Test.YtlnbcgjahjjpfacGreatDoorMA
import Derived.Maps.AppendAt
namespace Go.Proofs.YtlnbcgjahjjpfacGreatDoor
open Go.RowKit
namespace Lk
def lf : ByteArray := ⟨#[10]⟩
/-- pieces of a text, each with its line feed -/
def la (s : ByteArray) : List ByteArray := Lib.splitB lf 1 (Lib.countB s lf) s
theorem la_len (s : ByteArray) : (la s).length = Lib.countB s lf + 1 := Lib.splitB_all lf (by decide) 1 _ s rfl
theorem countl_le (s : ByteArray) : Lib.countB s lf ≤ s.size := Lib.countB_le lf (by decide) s.size s (Nat.le_refl _)
theorem splitl_le (k : Nat) : ∀ (s x : ByteArray), x ∈ Lib.splitB lf 1 k s → x.size ≤ s.size := by
  induction k with
  | zero => intro s x h; simp [Lib.splitB] at h; rw [h]; exact Nat.le_refl _
  | succ k ih =>
    intro s x h
    unfold Lib.splitB at h
    split at h
    · simp at h; rw [h]; exact Nat.le_refl _
    · rcases List.mem_cons.1 h with h | h
      · rw [h, ByteArray.size_extract]; omega
      · have := ih _ _ h; rw [ByteArray.size_extract] at this; omega
theorem la_le (s x : ByteArray) (h : x ∈ la s) : x.size ≤ s.size := splitl_le _ s x h
def addLF : List (List UInt8) → List (List UInt8)
  | [] => []
  | [t] => [t]
  | t :: u :: r => (t ++ [10]) :: addLF (u :: r)
theorem addLF_cons (t : List UInt8) (r : List (List UInt8)) (h : r ≠ []) : addLF (t :: r) = (t ++ [10]) :: addLF r := by
  cases r with
  | nil => exact absurd rfl h
  | cons u r => rfl
theorem splitB_N (k : Nat) : ∀ s : ByteArray, Lib.countB s lf = k → (Lib.splitB lf 1 k s).map (·.data.toList) = addLF (splitN s.data.toList) := by
  induction k with
  | zero =>
    intro s hk
    have hc : Lib.count s.data.toList [10] = 0 := hk
    rw [Lib.count_one] at hc
    have hn : (10 : UInt8) ∉ s.data.toList := List.count_eq_zero.1 hc
    rw [splitN_not _ hn]
    rfl
  | succ k ih =>
    intro s hk
    rcases lf_cases s.data.toList with hn | ⟨a, r, e, hn⟩
    · have hc : Lib.count s.data.toList [10] = k + 1 := hk
      rw [Lib.count_one, List.count_eq_zero.2 hn] at hc
      omega
    · have hix : Lib.indexB s lf = (a.length : Nat) := by
        show Lib.index s.data.toList [10] = _
        rw [Lib.index_one, e]
        exact index_app 10 a r hn
      have h1 : 1 ≤ lf.size := by decide
      have hcnt := Lib.countB_hit s lf a.length h1 hix
      rw [Lib.splitB_hit lf 1 k s a.length hix, List.map_cons]
      have hcs : lf.size = 1 := by decide
      rw [hcs] at hcnt ⊢
      rw [ih _ (by omega), e, splitN_app a r hn, addLF_cons _ _ (splitN_ne r)]
      have e1 : (s.extract 0 (a.length + 1)).data.toList = a ++ [10] := by
        rw [Lib.extract_data, e, List.drop_zero, Nat.sub_zero, List.take_append, List.take_of_length_le (by omega)]
        simp
      have e2 : (s.extract (a.length + 1) s.size).data.toList = r := by rw [Lib.extract_to_end, e, List.drop_append]; simp
      rw [e1, e2]
theorem la_N (s : ByteArray) : (la s).map (·.data.toList) = addLF (splitN s.data.toList) := splitB_N _ s rfl
theorem addLF_len (ps : List (List UInt8)) : (addLF ps).length = ps.length := by
  induction ps with
  | nil => rfl
  | cons t r ih =>
    cases r with
    | nil => rfl
    | cons u r => rw [addLF_cons _ _ (by simp), List.length_cons, ih]; rfl
theorem la_len_N (s : ByteArray) : (splitN s.data.toList).length = (la s).length := by
  rw [← addLF_len, ← la_N, List.length_map]
/-- the rest of the pieces, and the piece at hand -/
theorem addLF_drop (ps : List (List UInt8)) : ∀ k, k < ps.length → ∃ t r, ps.drop k = t :: r ∧ (addLF ps)[k]? = some (if r = [] then t else t ++ [10]) ∧ ps.drop (k + 1) = r := by
  induction ps with
  | nil => intro k h; simp at h
  | cons t r ih =>
    intro k hk
    cases k with
    | zero =>
      refine ⟨t, r, rfl, ?_, rfl⟩
      cases r with
      | nil => rfl
      | cons u r => rfl
    | succ k =>
      have hr : r ≠ [] := fun e => by rw [e] at hk; simp at hk
      obtain ⟨t', r', h1, h2, h3⟩ := ih k (by simpa using hk)
      exact ⟨t', r', h1, by rw [addLF_cons _ _ hr]; exact h2, h3⟩
theorem splitN_no10 (s : List UInt8) : ∀ t ∈ splitN s, 10 ∉ t := by
  induction s with
  | nil => intro t ht; simp [splitN] at ht; rw [ht]; simp
  | cons c r ih =>
    intro t ht
    unfold splitN at ht
    split at ht
    · rcases List.mem_cons.1 ht with rfl | ht
      · simp
      · exact ih t ht
    · rename_i hc
      split at ht
      · rename_i e; exact absurd e (splitN_ne r)
      · rename_i a u e
        rcases List.mem_cons.1 ht with rfl | ht
        · have := ih a (by rw [e]; simp)
          simp [this, Ne.symm hc]
        · exact ih t (by rw [e]; simp [ht])
end Lk
theorem splitAfter_any (s : ByteArray) (hs : s.size ≤ 60000) (w : World) (hE : Env w) :
    Calls Tryz.prog 46 #[.string s, .string ⟨#[10]⟩] w fun e w' => e = .returned (.slice (some ⟨w.heap.size, 0, none⟩) (Lk.la s).length (Lk.la s).length) ∧ (∀ j x, (Lk.la s)[j]? = some x → w'.cell? ⟨w.heap.size, j, none⟩ = some (.string x)) ∧ w'.heap.size = w.heap.size + 1 ∧ Below w.heap.size w w' := by
  obtain ⟨m, hm⟩ := hE.mx
  have hcl := Lk.countl_le s
  have HG := Tryz.strings_genSplit s Lk.lf 1 (-1) (Lib.countB s Lk.lf + 1) m w (by omega) hm (by decide) (by decide) (by decide) (by decide) (by
    rw [if_pos (by decide)]; omega)
  rw [Nat.add_sub_cancel] at HG
  have HG' : Hid (Calls Tryz.prog 66 #[.string s, .string Lk.lf, .int .i64 ((1 : Nat) : Int), .int .i64 (-1)] w fun e w' => e = .returned (.slice (some ⟨w.heap.size, 0, none⟩) (Lk.la s).length (Lib.countB s Lk.lf + 1)) ∧ w' = w.alloc (.cells (Lib.cellsOf (Lk.la s) (Lib.countB s Lk.lf + 1)) 9)) := HG
  clear HG hm
  go_enter Tryz.func46, Tryz.ntmps46
  go_wp2_with fail
  refine HG'.out.mono ?_
  rintro e w' ⟨rfl, rfl⟩
  go_wp2
  go_ret
  have hl := Lk.la_len s
  refine ⟨by rw [hl]; rfl, ?_, by simp, (Below.refl _ w).alloc (Nat.le_refl _) _⟩
  intro j x hx
  rw [World.cell?_alloc_new]
  have hj : j < (Lk.la s).length := (List.getElem?_eq_some_iff.1 hx).1
  unfold Lib.cellsOf
  rw [List.getElem?_toArray, List.getElem?_append_left (by simpa using hj), List.getElem?_map, hx]
  rfl
/-- the cells of records, each with its lock's slice -/
def recCells (p : Lk.Note × Value) : List Value := [.int .i64 p.1.kind, .int .i64 p.1.agent, .int .i64 p.1.tr, .int .i64 p.1.n, .bool p.1.good, .int .i64 p.1.id, p.2]
def flatR : List (Lk.Note × Value) → List Value
  | [] => []
  | p :: r => recCells p ++ flatR r
theorem flatR_append (a b : List (Lk.Note × Value)) : flatR (a ++ b) = flatR a ++ flatR b := by
  induction a with
  | nil => rfl
  | cons p r ih => simp [flatR, ih]
theorem flatR_len (a : List (Lk.Note × Value)) : (flatR a).length = a.length * 7 := by
  induction a with
  | nil => rfl
  | cons p r ih => simp [flatR, recCells, ih]; omega
/-- the locks of records are there, and lie in no row that is written -/
def Locks (w : World) (row : Option Nat) (ps : List (Lk.Note × Value)) : Prop := ∀ p ∈ ps, PinsAt w p.2 p.1.lock ∧ (p.1.lock ≠ [] → p.2.ownBlock ≠ row)
theorem Locks.below {w w' : World} {row : Option Nat} {ps : List (Lk.Note × Value)} (h : Locks w row ps) (hb : Below w.heap.size w w') : Locks w' row ps := fun p hp => ⟨(h p hp).1.below hb, (h p hp).2⟩
theorem pins_grown {w w' : World} {v : Value} {l : List (Int × Int)} {row : Option Nat} (h : PinsAt w v l) (hg : w.grownBy w' row) (hne : l ≠ [] → v.ownBlock ≠ row) : PinsAt w' v l := by
  obtain ⟨hl, c, h | ⟨b, o, h1, h2⟩⟩ := h
  · exact ⟨hl, c, .inl h⟩
  · by_cases h0 : l = []
    · subst h0; exact ⟨hl, c, .inl ⟨rfl, _, h1⟩⟩
    · have hbn : some b ≠ row := by have := hne h0; rw [h1] at this; exact this
      have e := hg.block b h2.1 hbn
      have hk : ∀ x, w'.cell? ⟨b, x, none⟩ = w.cell? ⟨b, x, none⟩ := fun x => World.cell?_of_block (w := w) (a := ⟨b, x, none⟩) e
      exact ⟨hl, c, .inr ⟨b, o, h1, Nat.lt_of_lt_of_le h2.1 hg.size, fun j hj => ⟨(hk _).trans (h2.2 j hj).1, (hk _).trans (h2.2 j hj).2⟩⟩⟩
theorem pins_lt {w : World} {v : Value} {l : List (Int × Int)} (h : PinsAt w v l) (h0 : l ≠ []) : v.ownBlock ≠ some w.heap.size := by
  obtain ⟨hl, c, h | ⟨b, o, h1, h2⟩⟩ := h
  · exact absurd h.1 h0
  · rw [h1]
    intro e
    have e' : b = w.heap.size := by injection e
    have := h2.1
    omega
theorem Locks.grown {w w' : World} {row row' : Option Nat} {ps : List (Lk.Note × Value)} (h : Locks w row ps) (hg : w.grownBy w' row) (hr : row' = row ∨ row' = some w.heap.size) : Locks w' row' ps := fun p hp => by
  refine ⟨pins_grown (h p hp).1 hg (h p hp).2, fun h0 => ?_⟩
  rcases hr with rfl | rfl
  · exact (h p hp).2 h0
  · exact pins_lt (h p hp).1 h0
theorem Locks.snoc {w : World} {row : Option Nat} {ps : List (Lk.Note × Value)} {r : Lk.Note} {u : Value} (h : Locks w row ps) (hp : PinsAt w u r.lock) (hn : r.lock ≠ [] → u.ownBlock ≠ row) : Locks w row (ps ++ [(r, u)]) := fun p hp' => by
  rcases List.mem_append.1 hp' with hp' | hp'
  · exact h p hp'
  · simp only [List.mem_singleton] at hp'
    subst hp'
    exact ⟨hp, hn⟩
end Go.Proofs.YtlnbcgjahjjpfacGreatDoor
