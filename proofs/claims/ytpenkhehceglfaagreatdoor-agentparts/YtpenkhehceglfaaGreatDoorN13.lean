/- The contract of the document's RecRead. -/
import Derived.Test.YtpenkhehceglfaaGreatDoorN12
import Derived.Deep.RegionHeld3
namespace Go.Proofs.YtpenkhehceglfaaGreatDoor
open Go.RowKit
theorem Tryz.info3 : (Tryz.prog.info? 3).map (fun i => (i.zero, i.size, i.bytes)) = some (some (.int .i64 0), 1, 8) := by kernel_rfl
theorem split32_any (s : ByteArray) (hs : s.size ≤ 60000) (w : World) (hE : Env w) :
    Calls Tryz.prog 148 #[.string s, .string ⟨#[32]⟩] w fun e w' => e = .returned (.slice (some ⟨w.heap.size, 0, none⟩) (Lk.wb s).length (Lk.wb s).length) ∧ (∀ j x, (Lk.wb s)[j]? = some x → w'.cell? ⟨w.heap.size, j, none⟩ = some (.string x)) ∧ w'.heap.size = w.heap.size + 1 ∧ Below w.heap.size w w' := by
  obtain ⟨m, hm⟩ := hE.mx
  refine (Tryz.strings_Split s Lk.blank m w (by omega) hm (by decide)).mono ?_
  rintro e w' ⟨rfl, rfl⟩
  refine ⟨by rw [Lk.wb_len], ?_, by simp, (Below.refl _ w).alloc (Nat.le_refl _) _⟩
  intro j x hx
  rw [World.cell?_alloc_new]
  show ((Lk.wb s).map Value.string).toArray[j]? = _
  simp [hx]
theorem numOf_wf {s : List UInt8} {v : Int} (h : Lk.numOf s = some v) : (Lit.int .i64 v).wf = true := by
  unfold Lk.numOf at h
  split at h
  · rename_i u e
    split at h
    · cases h
      have := Lib.atoiAll_bounds e
      exact WalkArith.wf_i64 (by omega)
    · cases h
  · cases h
/-- the first k words are numbers -/
def numTo (s : ByteArray) (k : Nat) (ns : List Int) : Prop := Lk.numsOf (((Lk.wb s).take k).map (·.data.toList)) = some ns
theorem numTo_next {s : ByteArray} {k : Nat} {ns : List Int} {x : ByteArray} {p : Int} (h : numTo s k ns) (hx : (Lk.wb s)[k]? = some x) (hp : Lk.numOf x.data.toList = some p) : numTo s (k + 1) (ns ++ [p]) := by
  unfold numTo
  rw [List.take_add_one, hx, List.map_append]
  exact Lk.numsOf_snoc _ _ _ _ h hp
theorem numTo_len {s : ByteArray} {k : Nat} {ns : List Int} (h : numTo s k ns) (hk : k ≤ (Lk.wb s).length) : ns.length = k := by
  rw [Lk.numsOf_len _ _ h]; simp; omega
theorem take_map (s : ByteArray) (k : Nat) : ((Lk.wb s).take k).map (·.data.toList) = (Lk.splitC s.data.toList).take k := by
  rw [List.map_take, Lk.wb_C]
theorem read_badnum {s : ByteArray} {k : Nat} (hk : k < 6) {x : ByteArray} (hx : (Lk.wb s)[k]? = some x) (hp : Lk.numOf x.data.toList = none) : Lk.readNote s.data.toList = (Lk.Note.none, 1) := by
  refine Lk.read_num (Lk.numsOf_bad _ x.data.toList ?_ hp)
  have := Lk.wb_at hx
  exact List.mem_of_getElem? (i := k) (by rw [List.getElem?_take_of_lt hk]; exact this)
theorem numTo_wf {s : ByteArray} {ns : List Int} (h : numTo s 6 ns) : ∀ v ∈ ns, (Lit.int .i64 v).wf = true := by
  have key : ∀ (a : List (List UInt8)) (l : List Int), Lk.numsOf a = some l → ∀ v ∈ l, (Lit.int .i64 v).wf = true := by
    intro a
    induction a with
    | nil => intro l h v hv; simp only [Lk.numsOf, Option.some.injEq] at h; subst h; cases hv
    | cons x r ih =>
      intro l h v hv
      simp only [Lk.numsOf] at h
      cases e : Lk.numOf x with
      | none => rw [e] at h; simp at h
      | some q =>
        cases e' : Lk.numsOf r with
        | none => rw [e, e'] at h; simp at h
        | some m =>
          rw [e, e'] at h
          simp only [Option.some.injEq] at h
          subst h
          rcases List.mem_cons.1 hv with rfl | hv
          · exact numOf_wf e
          · exact ih m e' v hv
  exact key _ _ h
theorem recR_len {s : ByteArray} (h : (Lk.wb s).length ≠ 7) : Lk.readNote s.data.toList = (Lk.Note.none, 1) := Lk.read_len (by rw [Lk.wb_lenC]; exact h)
theorem recR_head {s x : ByteArray} (h : (Lk.wb s).length = 7) (hx : (Lk.wb s)[6]? = some x) (hp : Lib.hasPrefix x.data.toList [61] = false) : Lk.readNote s.data.toList = (Lk.Note.none, 1) := Lk.read_head (by rw [Lk.wb_lenC]; exact h) (Lk.wb_at hx) hp
theorem recR_good {s x : ByteArray} {ns : List Int} (h : (Lk.wb s).length = 7) (hx : (Lk.wb s)[6]? = some x) (hn : numTo s 6 ns) (hg : Lk.within (ns.getD 4 0) 0 1 = false) : Lk.readNote s.data.toList = (Lk.Note.none, 1) := Lk.read_good (by rw [Lk.wb_lenC]; exact h) (Lk.wb_at hx) (by rw [← take_map]; exact hn) hg
theorem recR_fin {s x : ByteArray} {ns : List Int} (h : (Lk.wb s).length = 7) (hx : (Lk.wb s)[6]? = some x) (hp : Lib.hasPrefix x.data.toList [61] = true) (hn : numTo s 6 ns) (hg : Lk.within (ns.getD 4 0) 0 1 = true) : Lk.readNote s.data.toList = Lk.fin ns (x.extract 1 x.size).data.toList := by
  rw [Lk.read_fin (by rw [Lk.wb_lenC]; exact h) (Lk.wb_at hx) hp (by rw [← take_map]; exact hn) hg, ext_drop]
theorem prefix_size {x : ByteArray} (hp : Lib.hasPrefix x.data.toList [61] = true) : 1 ≤ x.size := by
  show 1 ≤ x.data.toList.length
  cases h : x.data.toList with
  | nil => rw [h] at hp; simp [Lib.hasPrefix] at hp
  | cons _ _ => simp
theorem owns_six {w : World} {base : Nat} {v : Value} {ns : List Int} (h : w.ownsRow base 3 1 v ns.length (ns.map (Value.int .i64))) (hl : ns.length = 6) :
    ∃ gb cap, v = .slice (some ⟨gb, 0, none⟩) 6 cap ∧ gb < w.heap.size ∧ ∀ j, j < 6 → w.cell? ⟨gb, j, none⟩ = some (.int .i64 (ns.getD j 0)) := by
  have h0 := h
  rcases h.2 with ⟨h1, h2⟩ | ⟨g, cap, cur, h1, h2, h3, h4⟩
  · omega
  · subst h1
    refine ⟨g, cap, by rw [hl], ?_, fun j hj => ?_⟩
    · rcases Nat.lt_or_ge g w.heap.size with h | h
      · exact h
      · rw [Array.getElem?_eq_none h] at h3; cases h3
    · refine (h0.cellAt j (show j < ns.length * 1 by omega)).trans ?_
      rw [List.getElem?_map, List.getElem?_eq_getElem (by omega), List.getD_eq_getElem?_getD, List.getElem?_eq_getElem (by omega)]
      rfl
end Go.Proofs.YtpenkhehceglfaaGreatDoor
