import Derived.Test.YtpenkhehceglfaaGreatDoorMJ
import Derived.Test.YtpenkhehceglfaaGreatDoorMA
import Derived.Test.YtpenkhehceglfaaGreatDoorRR
import Derived.Maps.AppendAt
import Derived.Laws.BytesArg
import Derived.BigQuiet
import Derived.Deep.QuietTactic
import Derived.Laws.CopyOwn
import Derived.Laws.IdiomStrings
import Derived.OwnWalk
/- Contracts of strings.SplitAfter at a line feed and of the document's linesOf; rows of records of the call's own. -/
namespace Go.Proofs.YtpenkhehceglfaaGreatDoor
open Go.RowKit
namespace Lk
def lf : ByteArray := ⟨#[10]⟩
/-- pieces of a text, each with its line feed -/
def la (s : ByteArray) : List ByteArray := Lib.splitB lf 1 (Lib.countB s lf) s
theorem la_len (s : ByteArray) : (la s).length = Lib.countB s lf + 1 := Lib.splitB_all lf (by decide) 1 _ s rfl
theorem countl_le (s : ByteArray) : Lib.countB s lf ≤ s.size := Lib.countB_le lf (by decide) s.size s (Nat.le_refl _)
theorem splitl_le (k : Nat) : ∀ (s x : ByteArray), x ∈ Lib.splitB lf 1 k s → x.size ≤ s.size := by
  induction k with
  | zero => intro s x h; simp [Lib.splitB] at h; rw [h]; exact Nat.le_refl _
  | succ k ih =>
    intro s x h
    unfold Lib.splitB at h
    split at h
    · simp at h; rw [h]; exact Nat.le_refl _
    · rcases List.mem_cons.1 h with h | h
      · rw [h, ByteArray.size_extract]; omega
      · have := ih _ _ h; rw [ByteArray.size_extract] at this; omega
theorem la_le (s x : ByteArray) (h : x ∈ la s) : x.size ≤ s.size := splitl_le _ s x h
def addLF : List (List UInt8) → List (List UInt8)
  | [] => []
  | [t] => [t]
  | t :: u :: r => (t ++ [10]) :: addLF (u :: r)
theorem addLF_cons (t : List UInt8) (r : List (List UInt8)) (h : r ≠ []) : addLF (t :: r) = (t ++ [10]) :: addLF r := by
  cases r with
  | nil => exact absurd rfl h
  | cons u r => rfl
theorem splitB_N (k : Nat) : ∀ s : ByteArray, Lib.countB s lf = k → (Lib.splitB lf 1 k s).map (·.data.toList) = addLF (splitN s.data.toList) := by
  induction k with
  | zero =>
    intro s hk
    have hc : Lib.count s.data.toList [10] = 0 := hk
    rw [Lib.count_one] at hc
    have hn : (10 : UInt8) ∉ s.data.toList := List.count_eq_zero.1 hc
    rw [splitN_not _ hn]
    rfl
  | succ k ih =>
    intro s hk
    rcases lf_cases s.data.toList with hn | ⟨a, r, e, hn⟩
    · have hc : Lib.count s.data.toList [10] = k + 1 := hk
      rw [Lib.count_one, List.count_eq_zero.2 hn] at hc
      omega
    · have hix : Lib.indexB s lf = (a.length : Nat) := by
        show Lib.index s.data.toList [10] = _
        rw [Lib.index_one, e]
        exact index_app 10 a r hn
      have h1 : 1 ≤ lf.size := by decide
      have hcnt := Lib.countB_hit s lf a.length h1 hix
      rw [Lib.splitB_hit lf 1 k s a.length hix, List.map_cons]
      have hcs : lf.size = 1 := by decide
      rw [hcs] at hcnt ⊢
      rw [ih _ (by omega), e, splitN_app a r hn, addLF_cons _ _ (splitN_ne r)]
      have e1 : (s.extract 0 (a.length + 1)).data.toList = a ++ [10] := by
        rw [Lib.extract_data, e, List.drop_zero, Nat.sub_zero, List.take_append, List.take_of_length_le (by omega)]
        simp
      have e2 : (s.extract (a.length + 1) s.size).data.toList = r := by rw [Lib.extract_to_end, e, List.drop_append]; simp
      rw [e1, e2]
theorem la_N (s : ByteArray) : (la s).map (·.data.toList) = addLF (splitN s.data.toList) := splitB_N _ s rfl
theorem addLF_len (ps : List (List UInt8)) : (addLF ps).length = ps.length := by
  induction ps with
  | nil => rfl
  | cons t r ih =>
    cases r with
    | nil => rfl
    | cons u r => rw [addLF_cons _ _ (by simp), List.length_cons, ih]; rfl
theorem la_len_N (s : ByteArray) : (splitN s.data.toList).length = (la s).length := by
  rw [← addLF_len, ← la_N, List.length_map]
/-- the rest of the pieces, and the piece at hand -/
theorem addLF_drop (ps : List (List UInt8)) : ∀ k, k < ps.length → ∃ t r, ps.drop k = t :: r ∧ (addLF ps)[k]? = some (if r = [] then t else t ++ [10]) ∧ ps.drop (k + 1) = r := by
  induction ps with
  | nil => intro k h; simp at h
  | cons t r ih =>
    intro k hk
    cases k with
    | zero =>
      refine ⟨t, r, rfl, ?_, rfl⟩
      cases r with
      | nil => rfl
      | cons u r => rfl
    | succ k =>
      have hr : r ≠ [] := fun e => by rw [e] at hk; simp at hk
      obtain ⟨t', r', h1, h2, h3⟩ := ih k (by simpa using hk)
      exact ⟨t', r', h1, by rw [addLF_cons _ _ hr]; exact h2, h3⟩
theorem splitN_no10 (s : List UInt8) : ∀ t ∈ splitN s, 10 ∉ t := by
  induction s with
  | nil => intro t ht; simp [splitN] at ht; rw [ht]; simp
  | cons c r ih =>
    intro t ht
    unfold splitN at ht
    split at ht
    · rcases List.mem_cons.1 ht with rfl | ht
      · simp
      · exact ih t ht
    · rename_i hc
      split at ht
      · rename_i e; exact absurd e (splitN_ne r)
      · rename_i a u e
        rcases List.mem_cons.1 ht with rfl | ht
        · have := ih a (by rw [e]; simp)
          simp [this, Ne.symm hc]
        · exact ih t (by rw [e]; simp [ht])
end Lk
/-- the locks of records are there, and lie in no row that is written -/
def Locks (w : World) (row : Option Nat) (ps : List (Lk.Note × Value)) : Prop := ∀ p ∈ ps, PinsAt w p.2 p.1.lock ∧ (p.1.lock ≠ [] → p.2.ownBlock ≠ row)
theorem Locks.below {w w' : World} {row : Option Nat} {ps : List (Lk.Note × Value)} (h : Locks w row ps) (hb : Below w.heap.size w w') : Locks w' row ps := fun p hp => ⟨(h p hp).1.below hb, (h p hp).2⟩
theorem pins_grown {w w' : World} {v : Value} {l : List (Int × Int)} {row : Option Nat} (h : PinsAt w v l) (hg : w.grownBy w' row) (hne : l ≠ [] → v.ownBlock ≠ row) : PinsAt w' v l := by
  obtain ⟨hl, c, h | ⟨b, o, h1, h2⟩⟩ := h
  · exact ⟨hl, c, .inl h⟩
  · by_cases h0 : l = []
    · subst h0; exact ⟨hl, c, .inl ⟨rfl, _, h1⟩⟩
    · have hbn : some b ≠ row := by have := hne h0; rw [h1] at this; exact this
      have e := hg.block b h2.1 hbn
      have hk : ∀ x, w'.cell? ⟨b, x, none⟩ = w.cell? ⟨b, x, none⟩ := fun x => World.cell?_of_block (w := w) (a := ⟨b, x, none⟩) e
      exact ⟨hl, c, .inr ⟨b, o, h1, Nat.lt_of_lt_of_le h2.1 hg.size, fun j hj => ⟨(hk _).trans (h2.2 j hj).1, (hk _).trans (h2.2 j hj).2⟩⟩⟩
theorem pins_lt {w : World} {v : Value} {l : List (Int × Int)} (h : PinsAt w v l) (h0 : l ≠ []) : v.ownBlock ≠ some w.heap.size := by
  obtain ⟨hl, c, h | ⟨b, o, h1, h2⟩⟩ := h
  · exact absurd h.1 h0
  · rw [h1]
    intro e
    have e' : b = w.heap.size := by injection e
    have := h2.1
    omega
theorem Locks.grown {w w' : World} {row row' : Option Nat} {ps : List (Lk.Note × Value)} (h : Locks w row ps) (hg : w.grownBy w' row) (hr : row' = row ∨ row' = some w.heap.size) : Locks w' row' ps := fun p hp => by
  refine ⟨pins_grown (h p hp).1 hg (h p hp).2, fun h0 => ?_⟩
  rcases hr with rfl | rfl
  · exact (h p hp).2 h0
  · exact pins_lt (h p hp).1 h0
theorem Locks.snoc {w : World} {row : Option Nat} {ps : List (Lk.Note × Value)} {r : Lk.Note} {u : Value} (h : Locks w row ps) (hp : PinsAt w u r.lock) (hn : r.lock ≠ [] → u.ownBlock ≠ row) : Locks w row (ps ++ [(r, u)]) := fun p hp' => by
  rcases List.mem_append.1 hp' with hp' | hp'
  · exact h p hp'
  · simp only [List.mem_singleton] at hp'
    subst hp'
    exact ⟨hp, hn⟩
end Go.Proofs.YtpenkhehceglfaaGreatDoor
/- The contract of the document's linesOf. -/
namespace Go.Proofs.YtpenkhehceglfaaGreatDoor
open Go.RowKit
theorem Tryz.info34 : (Tryz.prog.info? 34).map (fun i => (i.zero, i.size, i.bytes)) = some (some (.agg #[.int .i64 0, .int .i64 0, .int .i64 0, .int .i64 0, .bool false, .int .i64 0, .slice none 0 0]), 7, 72) := by kernel_rfl
/-- what linesOf answers -/
def linedR (N : Nat) (w : World) (q : List Lk.Note × Nat × Int) (e : Ending) : Prop := ∃ v ps, e = .returned (.tuple #[v, .int .i64 q.2.1, .int .i64 q.2.2]) ∧ w.ownsRow N 34 7 v ps.length (flatR ps) ∧ Locks w v.ownBlock ps ∧ ps.map Prod.fst = q.1
theorem linedR_mk {N : Nat} {w : World} {q : List Lk.Note × Nat × Int} {v : Value} {ps : List (Lk.Note × Value)} {n : Nat} {er : Int} (hq : q = (ps.map Prod.fst, n, er)) (hO : w.ownsRow N 34 7 v ps.length (flatR ps)) (hL : Locks w v.ownBlock ps) : linedR N w q (.returned (.tuple #[v, .int .i64 n, .int .i64 er])) := by
  subst hq; exact ⟨v, ps, rfl, hO, hL, rfl⟩
theorem owns_own {w : World} {base e size n : Nat} {v : Value} {xs : List Value} (h : w.ownsRow base e size v n xs) : v = .slice none 0 0 ∨ ∃ g, v.ownBlock = some g ∧ g < w.heap.size := by
  rcases h.2 with ⟨h1, _⟩ | ⟨g, cap, cur, h1, _, h3, _⟩
  · exact .inl h1
  · refine .inr ⟨g, by rw [h1]; rfl, ?_⟩
    rcases Nat.lt_or_ge g w.heap.size with h | h
    · exact h
    · rw [Array.getElem?_eq_none h] at h3; cases h3
theorem fresh_apart {w : World} {base e size n : Nat} {v u : Value} {xs : List Value} {l : List (Int × Int)} {w' : World} (h : w.ownsRow base e size v n xs) (hp : PinsAt w' u l) (hf : FreshS w.heap.size u) : l ≠ [] → u.ownBlock ≠ v.ownBlock := by
  intro h0
  obtain ⟨_, c, h1 | ⟨b, o, h1, _⟩⟩ := hp
  · exact absurd h1.1 h0
  · rcases owns_own h with h2 | ⟨g, h2, h3⟩
    · rw [h2, h1]; simp [Value.ownBlock]
    · rw [h2, h1]
      intro e'
      have : b = g := by simpa [Value.ownBlock] using e'
      have := hf b o _ c h1
      omega
theorem slice_of_owns {w : World} {base e size n : Nat} {v : Value} {xs : List Value} (h : w.ownsRow base e size v n xs) : ∃ a c, v = .slice a n c := by
  rcases h.2 with ⟨h1, h2⟩ | ⟨g, cap, cur, h1, _, _, _⟩
  · exact ⟨none, 0, by rw [h1, h2]⟩
  · exact ⟨_, cap, h1⟩
theorem piece_empty {x : ByteArray} (h : x.data.toList = []) : x = ⟨#[]⟩ := bytes_nil x (by show x.data.toList.length = 0; rw [h]; rfl)
end Go.Proofs.YtpenkhehceglfaaGreatDoor
/- Slices of bytes; the contract of the document's CheckDisk. -/
namespace Go.Proofs.YtpenkhehceglfaaGreatDoor
open Go.RowKit
/-- a slice of bytes, the empty and the nil one too -/
def BytesAt (w : World) (v : Value) (l : List UInt8) : Prop :=
  l.length ≤ 140737488355328 ∧ ∃ c, l.length ≤ c ∧ ((l = [] ∧ ∃ a, v = .slice a 0 c ∧ (a = none → c = 0)) ∨ (∃ b o, v = .slice (some ⟨b, o, none⟩) l.length c ∧ b < w.heap.size ∧ ∀ j, j < l.length → w.cell? ⟨b, o + j, none⟩ = some (.int .u8 ((l.getD j 0).toNat : Int))))
theorem BytesAt.below {w w' : World} {v : Value} {l : List UInt8} (h : BytesAt w v l) (hb : Below w.heap.size w w') : BytesAt w' v l := by
  obtain ⟨hl, c, hc, h | ⟨b, o, h1, h2, h3⟩⟩ := h
  · exact ⟨hl, c, hc, .inl h⟩
  · exact ⟨hl, c, hc, .inr ⟨b, o, h1, Nat.lt_of_lt_of_le h2 hb.size, fun j hj => (hb.cell (p := ⟨b, o + j, none⟩) h2).trans (h3 j hj)⟩⟩
theorem bytes_slice {w : World} {v : Value} {l : List UInt8} (h : BytesAt w v l) : ∃ a c, v = .slice a l.length c := by
  obtain ⟨_, c, _, ⟨rfl, a, rfl, _⟩ | ⟨b, o, rfl, _⟩⟩ := h
  · exact ⟨a, c, rfl⟩
  · exact ⟨_, c, rfl⟩
theorem bytes_none (w : World) : BytesAt w (.slice none 0 0) [] := ⟨by simp, 0, by simp, .inl ⟨rfl, none, rfl, fun _ => rfl⟩⟩
theorem nums_back (l : List UInt8) : strOfNums (l.map fun b => (b.toNat : Int)) = ⟨l.toArray⟩ := by
  unfold strOfNums
  rw [List.map_map]
  have : ((fun n : Int => UInt8.ofNat n.toNat) ∘ fun b : UInt8 => (b.toNat : Int)) = id := by funext b; simp
  rw [this, List.map_id]
/-- 'string(b)' -/
theorem str_of {w : World} {v : Value} {l : List UInt8} (h : BytesAt w v l) : (convert 71 9 v).run Tryz.prog w = .ok (.string ⟨l.toArray⟩) w := by
  obtain ⟨_, c, _, ⟨rfl, a, rfl, _⟩ | ⟨b, o, rfl, _, h3⟩⟩ := h
  · cases a with
    | none => exact run_convert_bytes_nil w 71 5 Tryz.underlying71 Tryz.underlying5 0 c 9 Tryz.underlying9
    | some ad =>
      have hl : (loadCells ad 0).run Tryz.prog w = .ok (([] : List Int).map (Value.int .u8)).toArray w := by
        have := run_loadCells_list (P := Tryz.prog) w ad [] (fun j v hj => by simp at hj)
        simpa using this
      rw [run_convert_bytes_string w 71 9 5 _ 0 c Tryz.underlying71 Tryz.underlying5 Tryz.underlying9, run_bytesToString w _ 0 c [] hl]
      rfl
  · have := run_convert_bytes_arg w 71 5 Tryz.underlying71 Tryz.underlying5 b o l.length c (l.map fun b => (b.toNat : Int)) (by simp) (fun i hi => by
      rw [h3 i hi]
      congr 2
      simp [List.getElem?_eq_getElem hi]) 9 Tryz.underlying9
    rw [nums_back] at this
    exact this
theorem chk_many {d : Lk.Disk} (h : Lk.tooMany d = true) : Lk.chkDisk d = 2 := by unfold Lk.chkDisk; rw [if_pos h]
theorem chk_lines {d : Lk.Disk} (h : Lk.tooMany d = false) : Lk.chkDisk d = (Lk.linesOf d.safe 200).2.2 := by unfold Lk.chkDisk; rw [if_neg (by rw [h]; decide)]
end Go.Proofs.YtpenkhehceglfaaGreatDoor
/- Contracts of slices.Equal at slices of bytes and of the document's SameDisk. -/
namespace Go.Proofs.YtpenkhehceglfaaGreatDoor
open Go.RowKit
def sameB (l m : List UInt8) : Bool := decide (l = m)
theorem sameB_of {l m : List UInt8} (hn : l.length = m.length) (h : ∀ j, j < l.length → l.getD j 0 = m.getD j 0) : sameB l m = true := by
  refine decide_eq_true (List.ext_getElem hn fun j h1 h2 => ?_)
  have := h j h1
  rwa [List.getD_eq_getElem?_getD, List.getD_eq_getElem?_getD, List.getElem?_eq_getElem h1, List.getElem?_eq_getElem h2] at this
theorem sameB_not {l m : List UInt8} {j : Nat} (h : l.getD j 0 ≠ m.getD j 0) : sameB l m = false := decide_eq_false fun e => h (by rw [e])
theorem sameB_len {l m : List UInt8} (h : l.length ≠ m.length) : sameB l m = false := decide_eq_false fun e => h (by rw [e])
theorem byte_ne {x y : UInt8} : (((x.toNat : Int)) != (y.toNat : Int)) = !(x == y) := by
  by_cases h : x = y
  · subst h; simp
  · have : x.toNat ≠ y.toNat := fun e => h (UInt8.toNat_inj.1 e)
    have h2 : ((x.toNat : Int)) ≠ (y.toNat : Int) := by omega
    rw [bne_iff_ne.2 h2]; simp [h]
end Go.Proofs.YtpenkhehceglfaaGreatDoor
/- Contracts of bytes.Equal, bytes.Clone, bytes.Cut at a line feed, of '[]byte(s)'. -/
namespace Go.Proofs.YtpenkhehceglfaaGreatDoor
open Go.RowKit
def numsB (l : List UInt8) : List Int := l.map fun b => (b.toNat : Int)
theorem numsB_len (l : List UInt8) : (numsB l).length = l.length := by simp [numsB]
theorem numsB_getD (l : List UInt8) (i : Nat) : (numsB l).getD i 0 = ((l.getD i 0).toNat : Int) := by
  unfold numsB
  by_cases h : i < l.length
  · simp [List.getD_eq_getElem?_getD, List.getElem?_eq_getElem h]
  · simp [List.getD_eq_getElem?_getD, List.getElem?_eq_none (Nat.le_of_not_lt h)]
theorem numsB_range (l : List UInt8) : ∀ x ∈ numsB l, 0 ≤ x ∧ x < 256 := by
  intro x hx
  obtain ⟨b, _, rfl⟩ := List.mem_map.1 hx
  have := b.toNat_lt
  omega
theorem bytesOf_nums (l : List UInt8) : Lib.bytesOf (numsB l) = l := by
  unfold Lib.bytesOf numsB
  rw [List.map_map]
  have : ((fun n : Int => UInt8.ofNat n.toNat) ∘ fun b : UInt8 => (b.toNat : Int)) = id := by funext b; simp
  rw [this, List.map_id]
/-- a slice of bytes, in the shelf's own words -/
theorem bytes_in {w : World} {v : Value} {l : List UInt8} (h : BytesAt w v l) : ∃ p c, v = .slice p l.length c ∧ l.length ≤ c ∧ (p = none → c = 0) ∧ Lib.BytesIn w p l.length (numsB l) := by
  obtain ⟨_, c, hc, ⟨rfl, a, rfl, ha⟩ | ⟨b, o, rfl, _, h3⟩⟩ := h
  · exact ⟨a, c, rfl, hc, ha, Lib.BytesIn.nil w a _⟩
  · exact ⟨_, c, rfl, hc, (fun e => by cases e), Lib.BytesIn.of_cells (a := ⟨b, o, none⟩) (fun i hi => by rw [WideShapes.add_plain, numsB_getD]; exact h3 i hi)⟩
theorem equalP_any (v u : Value) (l m : List UInt8) (w : World) (hP : BytesAt w v l) (hQ : BytesAt w u m) :
    Calls Tryz.prog 122 #[v, u] w fun e w' => e = .returned (.bool (sameB l m)) ∧ Below w.heap.size w w' := by
  obtain ⟨p, c, rfl, _, _, h1⟩ := bytes_in hP
  obtain ⟨q, d, rfl, _, _, h2⟩ := bytes_in hQ
  refine (Tryz.bytes_Equal_all p q l.length c m.length d (numsB l) (numsB m) w (numsB_len l) (numsB_len m) h1 h2).mono ?_
  rintro e w' ⟨rfl, rfl⟩
  refine ⟨?_, Below.refl _ _⟩
  rw [bytesOf_nums, bytesOf_nums]
  congr 2
  by_cases h : l = m
  · subst h; simp [sameB]
  · simp [sameB, h]
/-- a slice of bytes that lies nowhere old -/
def NewBytes (N : Nat) (w : World) (v : Value) (l : List UInt8) : Prop := BytesAt w v l ∧ FreshS N v
theorem NewBytes.below {N : Nat} {w w' : World} {v : Value} {l : List UInt8} (h : NewBytes N w v l) (hb : Below w.heap.size w w') : NewBytes N w' v l := ⟨h.1.below hb, h.2⟩
theorem bytes_owns {w : World} {B e : Nat} {v : Value} {l : List UInt8} {n : Nat} (hn : n = l.length) (hl : l.length ≤ 140737488355328) (h : w.ownsRow B e 1 v n ((numsB l).map (Value.int .u8))) : NewBytes B w v l := by
  subst hn
  refine ⟨?_, fresh_of_owns h⟩
  have h0 := h
  rcases h.2 with ⟨h1, h2⟩ | ⟨g, cap, cur, h1, h2, h3, h4⟩
  · have : l = [] := List.length_eq_zero_iff.1 h2
    subst this
    exact ⟨by simp, 0, by simp, .inl ⟨rfl, none, h1, fun _ => rfl⟩⟩
  · subst h1
    refine ⟨hl, cap, h4.1, .inr ⟨g, 0, rfl, ?_, fun j hj => ?_⟩⟩
    · rcases Nat.lt_or_ge g w.heap.size with h | h
      · exact h
      · rw [Array.getElem?_eq_none h] at h3; cases h3
    · rw [Nat.zero_add]
      refine (h0.cellAt j (show j < l.length * 1 by omega)).trans ?_
      unfold numsB
      simp [List.getElem?_eq_getElem hj]
theorem clone_any (v : Value) (l : List UInt8) (w : World) (hP : BytesAt w v l) :
    Calls Tryz.prog 58 #[v] w fun e w' => (∃ u, e = .returned u ∧ NewBytes w.heap.size w' u l) ∧ Below w.heap.size w w' := by
  obtain ⟨p, c, rfl, hc, hp, h1⟩ := bytes_in hP
  cases p with
  | none =>
    have hc0 := hp rfl
    subst hc0
    have h0 : l = [] := List.length_eq_zero_iff.1 (by omega)
    subst h0
    refine (Tryz.bytes_Clone_nil 0 0 w).mono ?_
    rintro e w' ⟨rfl, rfl⟩
    exact ⟨⟨_, rfl, bytes_none _, fresh_none _ _ _⟩, Below.refl _ _⟩
  | some a =>
    refine (Tryz.bytes_Clone_at a l.length c (numsB l) w (numsB_len l) hP.1 (fun i hi => ?_)).mono ?_
    · obtain ⟨b, o, e, hcell⟩ := h1.at (by omega)
      cases e
      rw [WideShapes.add_plain]; exact hcell i hi
    · rintro e w' ⟨u, rfl, hu, _, hb⟩
      exact ⟨⟨u, rfl, bytes_owns rfl hP.1 hu⟩, hb⟩
theorem bytes_take {w : World} {p : Option Addr} {n c : Nat} {l : List UInt8} (h : BytesAt w (.slice p n c) l) (k : Nat) (hk : k ≤ l.length) : BytesAt w (.slice p k c) (l.take k) := by
  obtain ⟨hl, c', hc, ⟨rfl, a, e, ha⟩ | ⟨b, o, e, hb, h3⟩⟩ := h
  · obtain rfl : k = 0 := by simpa using hk
    simp only [Value.slice.injEq] at e
    obtain ⟨rfl, rfl, rfl⟩ := e
    exact ⟨by simp, c, by simp, .inl ⟨rfl, p, rfl, ha⟩⟩
  · simp only [Value.slice.injEq] at e
    obtain ⟨rfl, rfl, rfl⟩ := e
    refine ⟨by rw [List.length_take]; omega, c, by rw [List.length_take]; omega, .inr ⟨b, o, by rw [List.length_take, Nat.min_eq_left hk], hb, fun j hj => ?_⟩⟩
    rw [List.length_take] at hj
    rw [h3 j (by omega)]
    congr 3
    simp [List.getD_eq_getElem?_getD, show j < k by omega]
theorem bytes_from {w : World} {p : Option Addr} {c : Nat} {l : List UInt8} (h : BytesAt w (.slice p l.length c) l) (k : Nat) (hk : k ≤ l.length) : BytesAt w (Lib.fromV p l.length c k) (l.drop k) := by
  unfold Lib.fromV
  have hlen : (l.drop k).length = l.length - k := by simp
  obtain ⟨hl, c', hc, ⟨rfl, a, e, ha⟩ | ⟨b, o, e, hb, h3⟩⟩ := h
  · obtain rfl : k = 0 := by simpa using hk
    simp only [Value.slice.injEq] at e
    obtain ⟨rfl, _, rfl⟩ := e
    refine ⟨by simp, c - 0, by simp, .inl ⟨by simp, _, rfl, fun e => ?_⟩⟩
    cases p with
    | none => simpa using ha rfl
    | some ad => split at e <;> cases e
  · simp only [Value.slice.injEq] at e
    obtain ⟨rfl, _, rfl⟩ := e
    by_cases hck : c = k
    · subst hck
      have h0 : l.drop c = [] := List.drop_eq_nil_of_le hc
      rw [if_pos rfl, h0, show l.length - c = 0 from by omega, Nat.sub_self]
      exact ⟨by simp, 0, by simp, .inl ⟨rfl, _, rfl, fun _ => rfl⟩⟩
    · rw [if_neg hck]
      refine ⟨by omega, c - k, by omega, .inr ⟨b, o + k, ?_, hb, fun j hj => ?_⟩⟩
      · rw [hlen, Option.map_some, WideShapes.add_plain]
      · rw [hlen] at hj
        rw [Nat.add_assoc, h3 (k + j) (by omega)]
        congr 3
        simp [List.getD_eq_getElem?_getD, List.getElem?_drop]
/-- bytes.Cut at a line feed -/
theorem cut_torn (v sv : Value) (l : List UInt8) (w : World) (hE : Env w) (hP : BytesAt w v l) (hS : BytesAt w sv [10]) (hl : l.length ≤ 60000) (hn : 10 ∉ l) :
    Calls Tryz.prog 84 #[v, sv] w fun e w' => e = .returned (.tuple #[v, .slice none 0 0, .bool false]) ∧ Below w.heap.size w w' := by
  obtain ⟨m, hm⟩ := hE.mx
  obtain ⟨p, c, rfl, hc, hp, h1⟩ := bytes_in hP
  obtain ⟨q, d, rfl, _, _, h2⟩ := bytes_in hS
  refine (Tryz.bytes_Cut_all p q l.length c 1 d (numsB l) (numsB [10]) m w (numsB_len l) rfl (numsB_range l) (numsB_range _) h1 h2 hp hc (by omega) (by decide) hm).mono ?_
  rintro e w' ⟨rfl, k, rfl⟩
  refine ⟨?_, below_drewN (Below.refl _ _) _⟩
  rw [bytesOf_nums, bytesOf_nums, Lib.index_one, Lk.index_not 10 l hn]
  rfl
theorem cut_line (v sv : Value) (t s : List UInt8) (w : World) (hE : Env w) (hP : BytesAt w v (t ++ 10 :: s)) (hS : BytesAt w sv [10]) (hl : (t ++ 10 :: s).length ≤ 60000) (hn : 10 ∉ t) :
    Calls Tryz.prog 84 #[v, sv] w fun e w' => (∃ u x, e = .returned (.tuple #[u, x, .bool true]) ∧ ∀ W, BytesAt W v (t ++ 10 :: s) → BytesAt W u t ∧ BytesAt W x s) ∧ Below w.heap.size w w' := by
  obtain ⟨m, hm⟩ := hE.mx
  obtain ⟨p, c, rfl, hc, hp, h1⟩ := bytes_in hP
  obtain ⟨q, d, rfl, _, _, h2⟩ := bytes_in hS
  refine (Tryz.bytes_Cut_all p q _ c 1 d (numsB (t ++ 10 :: s)) (numsB [10]) m w (numsB_len _) rfl (numsB_range _) (numsB_range _) h1 h2 hp hc (by omega) (by decide) hm).mono ?_
  rintro e w' ⟨rfl, k, rfl⟩
  have hb : Below w.heap.size w (w.drewN k) := below_drewN (Below.refl _ _) _
  refine ⟨⟨.slice p t.length c, Lib.fromV p (t ++ 10 :: s).length c (t.length + 1), ?_, fun W hW => ⟨?_, ?_⟩⟩, hb⟩
  · rw [bytesOf_nums, bytesOf_nums, Lib.index_one, Lk.index_app 10 t s hn]
    unfold Lib.cutV
    rw [if_pos (by omega)]
    simp
  · have := bytes_take hW t.length (by simp)
    simpa using this
  · have := bytes_from hW (t.length + 1) (by simp)
    have e : (t ++ 10 :: s).drop (t.length + 1) = s := by rw [List.drop_append]; simp
    rwa [e] at this
end Go.Proofs.YtpenkhehceglfaaGreatDoor
/- The contract of disk.joined; what '[]byte(s)' lays. -/
namespace Go.Proofs.YtpenkhehceglfaaGreatDoor
open Go.RowKit
theorem Tryz.info5 : (Tryz.prog.info? 5).map (fun i => (i.zero, i.size, i.bytes)) = some (some (.int .u8 0), 1, 1) := by kernel_rfl
theorem splice_two {α : Type} (Z X Y : List α) (k : Nat) (hk : X.length = k) (hZ : Z.length = k + Y.length) : splice (splice Z 0 X) k Y = X ++ Y := by
  subst hk
  unfold splice
  have e1 : Z.take 0 ++ (X ++ Z.drop (0 + X.length)) = X ++ Z.drop X.length := by simp
  have e2 : (X ++ Z.drop X.length).drop (X.length + Y.length) = [] := List.drop_eq_nil_of_le (by simp; omega)
  rw [e1, List.take_left, e2, List.append_nil]
def cellsB (l : List UInt8) : List Value := (numsB l).map (Value.int .u8)
theorem cellsB_len (l : List UInt8) : (cellsB l).length = l.length := by simp [cellsB, numsB]
theorem cellsB_at (l : List UInt8) (j : Nat) (hj : j < l.length) : (cellsB l)[j]? = some (.int .u8 ((l.getD j 0).toNat : Int)) := by
  unfold cellsB numsB
  simp [List.getElem?_eq_getElem hj]
theorem cellsB_app (l m : List UInt8) : cellsB (l ++ m) = cellsB l ++ cellsB m := by simp [cellsB, numsB]
theorem cellsB_one (l : List UInt8) : ∀ v ∈ cellsB l, v.oneCell' = true := by
  intro v hv
  obtain ⟨x, _, rfl⟩ := List.mem_map.1 hv
  rfl
theorem bytes_src {w : World} {p : Option Addr} {n c : Nat} {l : List UInt8} (h : BytesAt w (.slice p n c) l) (h0 : 0 < l.length) : ∃ ad, p = some ad ∧ ∀ j v, (cellsB l)[j]? = some v → w.cell? (ad.add j) = some v := by
  obtain ⟨_, c', _, ⟨rfl, _⟩ | ⟨b, o, e, _, h3⟩⟩ := h
  · simp at h0
  · simp only [Value.slice.injEq] at e
    obtain ⟨rfl, _, _⟩ := e
    refine ⟨⟨b, o, none⟩, rfl, fun j v hv => ?_⟩
    have hj : j < l.length := by
      have := (List.getElem?_eq_some_iff.1 hv).1
      rwa [cellsB_len] at this
    rw [cellsB_at l j hj] at hv
    rw [WideShapes.add_plain, h3 j hj, hv]
theorem bytes_row {w : World} {N g n c : Nat} {l : List UInt8} {cur : Array Value} {t : TypeId} {fr : Nat × Nat} (hN : N ≤ g) (hl : l.length ≤ 140737488355328) (hn : n = l.length) (hc : l.length ≤ c) (h : w.heap[g]? = some (.cells cur t fr))
    (hcur : ∀ j, j < l.length → cur[j]? = (cellsB l)[j]?) : NewBytes N w (.slice (some ⟨g, 0, none⟩) n c) l := by
  subst hn
  refine ⟨⟨hl, c, hc, .inr ⟨g, 0, rfl, (Array.getElem?_eq_some_iff.1 h).1, fun j hj => ?_⟩⟩, fun b o n' c' e => ?_⟩
  · rw [Nat.zero_add, ← cellsB_at l j hj, ← hcur j hj]
    simp [World.cell?, h]
  · simp only [Value.slice.injEq, Option.some.injEq, Addr.mk.injEq] at e
    omega
theorem made_row {w : World} {B e g n : Nat} {xs : List Value} (h : w.ownsRow B e 1 (.slice (some ⟨g, 0, none⟩) n n) n xs) : ∃ Z : List Value, Z.length = n ∧ w.heap[g]? = some (.cells Z.toArray e (0, 0)) := by
  rcases h.2 with ⟨h1, _⟩ | ⟨g', cap, cur, h1, _, h3, _, _, h6, _⟩
  · simp at h1
  · simp only [Value.slice.injEq, Option.some.injEq, Addr.mk.injEq] at h1
    obtain ⟨⟨rfl, _⟩, _, rfl⟩ := h1
    exact ⟨cur.toList, by rw [Array.length_toList, h6, Nat.mul_one], by rw [h3]⟩
set_option maxHeartbeats 2000000 in
set_option maxRecDepth 100000 in
theorem joined_any (v u : Value) (l m : List UInt8) (w : World) (hP : BytesAt w v l) (hQ : BytesAt w u m) (hlm : l.length + m.length ≤ 1000000) :
    Calls Tryz.prog 59 #[v, u] w fun e w' => (∃ x, e = .returned x ∧ NewBytes w.heap.size w' x (l ++ m)) ∧ Below w.heap.size w w' := by
  obtain ⟨p, c, rfl⟩ := bytes_slice hP
  obtain ⟨q, d, rfl⟩ := bytes_slice hQ
  have HP : Hid (BytesAt w (.slice p l.length c) l) := hP
  have HQ : Hid (BytesAt w (.slice q m.length d) m) := hQ
  clear hP hQ
  obtain ⟨i0, hi, hz0, hz1, hz2⟩ := info_parts Tryz.info5
  have hbb : i0.bytes * (l.length + m.length) ≤ 281474976710656 := by rw [hz2]; omega
  have hsz : (Tryz.prog.info? 5).map (·.size) = some 1 := by rw [hi]; simp [hz1]
  go_enter Tryz.func59, Tryz.ntmps59
  go_wp2_with (at_make; refine wpList_make_full _ rfl (.tmp 10) (.tmp 10) 71 rfl w.heap.size 5 i0 (.int .u8 0) 1 Tryz.underlying71 hi hz0 hz1 .i64 .i64 _ _ (l.length + m.length) rfl rfl (by omega) (by omega) hbb (by unfold maxLen; omega) (Nat.le_refl _) ?_)
  intro w2 hown hgrow
  obtain ⟨Z, hZl, hZ⟩ := made_row hown
  have HZ : Hid (w2.heap[w.heap.size]? = some (.cells Z.toArray 5 (0, 0))) := hZ
  have HZL : Hid (Z.length = l.length + m.length) := hZl
  have HB2 : Hid (Below w.heap.size w w2) := (Below.refl _ _).grown hgrow (Nat.le_refl _) (fun k hk => by cases hk)
  clear hown hgrow hZ hZl hbb
  obtain ⟨X1, hX1⟩ : ∃ X, X = cellsB l := ⟨_, rfl⟩
  obtain ⟨X2, hX2⟩ : ∃ X, X = cellsB m := ⟨_, rfl⟩
  have HX1 : Hid (X1 = cellsB l) := hX1
  have HX2 : Hid (X2 = cellsB m) := hX2
  have HL1 : Hid (X1.length = l.length) := by show X1.length = _; rw [hX1, cellsB_len]
  have HL2 : Hid (X2.length = m.length) := by show X2.length = _; rw [hX2, cellsB_len]
  clear hX1 hX2
  go_wp2_with (guard_target = wpList _ _ _ (Oper.mk _ (Op.call { callee := .builtin .copy, args := _, argTypes := _ }) _ _ _ _ :: _) _ _; refine wpList_copy_splice rfl (.tmp 12) (.tmp 13) 71 71 rfl 5 Tryz.underlying71 hsz _ _ _ _ _ _ rfl rfl w.heap.size 0 Z 5 HZ.out X1 ?k1 ?k2 ?k3 ?k4 w.heap.size w HB2.out (Nat.le_refl _) ?_)
  case k1 => rw [HL1.out]; exact (Nat.min_eq_left (by omega)).symm
  case k2 =>
    intro h0
    obtain ⟨ad, e1, e2⟩ := bytes_src (HP.out.below HB2.out) (by rw [← HL1.out]; exact h0)
    exact ⟨ad, e1, by rw [HX1.out]; exact e2⟩
  case k3 => rw [HL1.out, HZL.out]; omega
  case k4 => rw [HX1.out]; exact cellsB_one l
  intro w3 HG3 hB3
  have HB3 : Hid (Below w.heap.size w w3) := hB3
  clear hB3 HB2 HZ
  go_wp2_with (guard_target = wpList _ _ _ (Oper.mk _ (Op.call { callee := .builtin .copy, args := _, argTypes := _ }) _ _ _ _ :: _) _ _; refine wpList_copy_splice rfl (.tmp 18) (.tmp 19) 71 71 rfl 5 Tryz.underlying71 hsz _ _ _ _ _ _ rfl rfl w.heap.size l.length (splice Z 0 X1) 5 HG3.out X2 ?k1 ?k2 ?k3 ?k4 w.heap.size w HB3.out (Nat.le_refl _) ?_)
  case k1 => rw [HL2.out]; exact (Nat.min_self _).symm
  case k2.inl =>
    intro h0
    have h1 := HL2.out
    have h2 : m = [] := by assumption
    rw [h2] at h1
    simp only [List.length_nil] at h1
    exact absurd h0 (by omega)
  case k2.inr =>
    intro h0
    obtain ⟨ad, e1, e2⟩ := bytes_src (HQ.out.below HB3.out) (by rw [← HL2.out]; exact h0)
    exact ⟨ad, e1, by rw [HX2.out]; exact e2⟩
  case k3 => rw [length_splice _ _ _ (by rw [HL1.out, HZL.out]; omega), HZL.out, HL2.out]; exact Nat.le_refl _
  case k4 => rw [HX2.out]; exact cellsB_one m
  all_goals
    intro w4 HG4 hB4
    go_wp2
    go_ret
    refine ⟨⟨_, rfl, bytes_row (Nat.le_refl _) (by simp; omega) (by first | (simp; done) | (have hm : m = [] := (by assumption); simp [hm]; done)) (by first | (simp; done) | (have hm : m = [] := (by assumption); simp [hm]; done)) HG4.out ?_⟩, hB4⟩
    rw [splice_two Z X1 X2 l.length HL1.out (by rw [HZL.out, HL2.out]), HX1.out, HX2.out, ← cellsB_app]
    intro j _
    simp
/-- '[]byte(s)' -/
theorem bytes_conv (w : World) (s : ByteArray) (hs : s.size ≤ 1000000) :
    ∃ c w', (convert 9 71 (.string s)).run Tryz.prog w = .ok (.slice (some ⟨w.heap.size, 0, none⟩) s.size c) w' ∧ NewBytes w.heap.size w' (.slice (some ⟨w.heap.size, 0, none⟩) s.size c) s.data.toList ∧ Below w.heap.size w w' := by
  refine ⟨_, _, run_bytes_of_string w 9 71 5 s Tryz.underlying9 Tryz.underlying71 Tryz.underlying5, ?_, ?_⟩
  · have hsz : s.data.toList.length = s.size := rfl
    refine bytes_row (Nat.le_refl _) (by rw [hsz]; omega) hsz.symm (by rw [hsz]; exact grownCap_ge _ _ _ _) (heap_alloc_new w.drew _) (fun j hj => ?_)
    rw [cellsB_at _ _ hj]
    have hj' : j < s.data.size := by simpa using hj
    unfold bytesRow
    rw [Array.getElem?_append_left (by simpa using hj'), Array.getElem?_map, Array.getElem?_eq_getElem hj', Option.map_some]
    congr 3
    simp [List.getD_eq_getElem?_getD, Array.getElem?_eq_getElem hj']
  · exact (Below.refl _ w).drew.alloc (by simp) _
end Go.Proofs.YtpenkhehceglfaaGreatDoor
