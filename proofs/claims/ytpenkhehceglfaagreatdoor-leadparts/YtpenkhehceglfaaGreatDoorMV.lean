import Derived.Test.YtpenkhehceglfaaGreatDoorProg
import Derived.Test.YtpenkhehceglfaaGreatDoorMA
import Derived.WalkKit
import Derived.Deep.LoopGhost
import Derived.WalkLawsBesides
import Derived.WalkSpells
import Derived.Outline
import Derived.OwnWalk
import Derived.Test.YtpenkhehceglfaaGreatDoorAt
import Derived.Laws.AppendOwnNone
import Derived.Laws.Cover3
/- Slices of numbers, of truths, of waves; the contract of the document's WaveOf. -/
namespace Go.Proofs.YtpenkhehceglfaaGreatDoor
open Go.RowKit
/-- a slice of numbers, the empty and the nil one too -/
def IntsAt (w : World) (v : Value) (l : List Int) : Prop :=
  l.length ≤ 70368744177664 ∧ ∃ A b o c, v = .slice A l.length c ∧ l.length ≤ c ∧ (0 < l.length → A = some ⟨b, o, none⟩ ∧ b < w.heap.size) ∧ ∀ j, j < l.length → w.cell? ⟨b, o + j, none⟩ = some (.int .i64 (l.getD j 0))
theorem IntsAt.below {w w' : World} {v : Value} {l : List Int} (h : IntsAt w v l) (hb : Below w.heap.size w w') : IntsAt w' v l := by
  obtain ⟨hl, A, b, o, c, h1, h2, h3, h4⟩ := h
  exact ⟨hl, A, b, o, c, h1, h2, fun h => ⟨(h3 h).1, Nat.lt_of_lt_of_le (h3 h).2 hb.size⟩, fun j hj => (hb.cell (p := ⟨b, o + j, none⟩) (h3 (by omega)).2).trans (h4 j hj)⟩
/-- a slice of truths -/
def BoolsAt (w : World) (v : Value) (l : List Bool) : Prop :=
  l.length ≤ 140737488355328 ∧ ∃ A b o c, v = .slice A l.length c ∧ l.length ≤ c ∧ (0 < l.length → A = some ⟨b, o, none⟩ ∧ b < w.heap.size) ∧ ∀ j, j < l.length → w.cell? ⟨b, o + j, none⟩ = some (.bool (l.getD j true))
theorem BoolsAt.below {w w' : World} {v : Value} {l : List Bool} (h : BoolsAt w v l) (hb : Below w.heap.size w w') : BoolsAt w' v l := by
  obtain ⟨hl, A, b, o, c, h1, h2, h3, h4⟩ := h
  exact ⟨hl, A, b, o, c, h1, h2, fun h => ⟨(h3 h).1, Nat.lt_of_lt_of_le (h3 h).2 hb.size⟩, fun j hj => (hb.cell (p := ⟨b, o + j, none⟩) (h3 (by omega)).2).trans (h4 j hj)⟩
/-- a slice of waves -/
def WavesAt (w : World) (v : Value) (l : List (List Int)) : Prop :=
  l.length ≤ 70368744177664 ∧ ∃ A b o c, v = .slice A l.length c ∧ l.length ≤ c ∧ (0 < l.length → A = some ⟨b, o, none⟩ ∧ b < w.heap.size) ∧ ∀ j, j < l.length → ∃ u, w.cell? ⟨b, o + j, none⟩ = some u ∧ IntsAt w u (l.getD j [])
theorem WavesAt.below {w w' : World} {v : Value} {l : List (List Int)} (h : WavesAt w v l) (hb : Below w.heap.size w w') : WavesAt w' v l := by
  obtain ⟨hl, A, b, o, c, h1, h2, h3, h4⟩ := h
  refine ⟨hl, A, b, o, c, h1, h2, fun h => ⟨(h3 h).1, Nat.lt_of_lt_of_le (h3 h).2 hb.size⟩, fun j hj => ?_⟩
  obtain ⟨u, e1, e2⟩ := h4 j hj
  exact ⟨u, (hb.cell (p := ⟨b, o + j, none⟩) (h3 (by omega)).2).trans e1, e2.below hb⟩
theorem dropL {α : Type} (l : List α) (d : α) (k : Nat) (h : k < l.length) : l.drop k = l.getD k d :: l.drop (k + 1) := by
  rw [List.drop_eq_getElem_cons h, List.getD_eq_getElem?_getD, List.getElem?_eq_getElem h]; rfl
theorem ofFrom_hit {a : Int} {l : List (List Int)} {k : Nat} (hk : k < l.length) (H : Wv.ofFrom a (l.drop k) k = Wv.of l a) (h : a ∈ l.getD k []) : Wv.of l a = k := by
  rw [← H, dropL l [] k hk, Wv.ofFrom, if_pos h]
theorem ofFrom_next {a : Int} {l : List (List Int)} {k : Nat} (hk : k < l.length) (H : Wv.ofFrom a (l.drop k) k = Wv.of l a) (h : a ∉ l.getD k []) : Wv.ofFrom a (l.drop (k + 1)) ((k + 1 : Nat) : Int) = Wv.of l a := by
  rw [← H, dropL l [] k hk, Wv.ofFrom, if_neg h]; rfl
theorem mem_getDI {l : List Int} {k : Nat} (h : k < l.length) : l.getD k 0 ∈ l := by
  rw [List.getD_eq_getElem?_getD, List.getElem?_eq_getElem h]; exact List.getElem_mem h
end Go.Proofs.YtpenkhehceglfaaGreatDoor
/- The contract of the document's WaveNow. -/
namespace Go.Proofs.YtpenkhehceglfaaGreatDoor
open Go.RowKit
theorem least_step {l : List (List Int)} {t : List Bool} {k : Nat} {m : Int} (hk : k < t.length) (H : Wv.leastFrom l (t.drop k) k m = Wv.least l t) : Wv.leastFrom l (t.drop (k + 1)) (k + 1) (if t.getD k true = true then m else min m (Wv.of l k)) = Wv.least l t := by
  rw [← H, dropL t true k hk, Wv.leastFrom]
end Go.Proofs.YtpenkhehceglfaaGreatDoor
/- The contracts of slices.Index, slices.Contains at numbers and of the document's CheckWaves. -/
namespace Go.Proofs.YtpenkhehceglfaaGreatDoor
open Go.RowKit
/-- where a number stands first -/
def idxI (a : Int) : List Int → Int → Int
  | [], _ => -1
  | x :: r, k => if a = x then k else idxI a r (k + 1)
theorem idxI_mem {a : Int} {l : List Int} : ∀ {k : Int}, 0 ≤ k → (decide (0 ≤ idxI a l k) = decide (a ∈ l)) := by
  induction l with
  | nil => intro k _; simp [idxI]
  | cons x r ih =>
    intro k hk
    rw [idxI]
    by_cases h : a = x
    · rw [if_pos h]; simp [h, hk]
    · rw [if_neg h, ih (by omega)]; simp [h]
set_option maxHeartbeats 2000000 in
theorem indexI_any (v : Value) (l : List Int) (a : Int) (w : World) (hL : IntsAt w v l) :
    Calls Tryz.prog 133 #[v, .int .i64 a] w fun e w' => e = .returned (.int .i64 (idxI a l 0)) ∧ w' = w := by
  obtain ⟨hll, A, b, o, c, rfl, -, hA, hC⟩ := hL
  have HA : Hid (0 < l.length → A = some ⟨b, o, none⟩ ∧ b < w.heap.size) := hA
  have HC : Hid (∀ j, j < l.length → w.cell? ⟨b, o + j, none⟩ = some (.int .i64 (l.getD j 0))) := hC
  clear hA hC
  go_enter Tryz.func133, Tryz.ntmps133
  go_wp2
  go_loopg [8] l.length (fun g s8 wr => ∃ k : Nat, k ≤ l.length ∧ l.length - k ≤ g ∧ s8 = .int .i64 k ∧ Hid (idxI a (l.drop k) k = idxI a l 0) ∧ wr = w)
  case atStart => exact ⟨0, Nat.zero_le _, by omega, rfl, rfl, rfl⟩
  case round =>
    obtain ⟨k, hk, hg, rfl, H, rfl⟩ := hrel
    by_cases hlt : k < l.length
    · obtain ⟨rfl, hbw⟩ := HA.out (by omega)
      have g1 := HC.out k hlt
      have hd := dropL l 0 k hlt
      clear HA HC
      generalize l.getD k 0 = x at g1 hd
      by_cases hx : a = x
      · have HR : Hid (idxI a l 0 = k) := by rw [← H.out, hd, idxI, if_pos hx]; rfl
        have hx' : (a == x) = true := by simpa using hx
        clear hx hd
        go_wp2
        go_ret
        exact ⟨by rw [HR.out]; rfl, rfl⟩
      · have HR : Hid (idxI a (l.drop (k + 1)) ((k + 1 : Nat) : Int) = idxI a l 0) := by
          have := H.out
          rw [hd, idxI, if_neg hx] at this
          exact this
        have hx' : (a == x) = false := by simpa using hx
        clear hx hd
        go_wp2
        go_roundg (l.length - (k + 1))
        case measure => omega
        case rel => exact ⟨k + 1, by omega, by omega, by go_num, HR, rfl⟩
    · have hk' : k = l.length := by omega
      have HB : Hid (idxI a l 0 = -1) := by rw [← H.out, hk', List.drop_length]; rfl
      subst hk'
      clear hk hlt
      go_wp2
      go_ret
      exact ⟨by rw [HB.out]; rfl, rfl⟩
set_option maxHeartbeats 1000000 in
theorem containsI_any (v : Value) (l : List Int) (a : Int) (w : World) (hL : IntsAt w v l) :
    Calls Tryz.prog 115 #[v, .int .i64 a] w fun e w' => e = .returned (.bool (decide (a ∈ l))) ∧ w' = w := by
  have HC := indexI_any v l a w hL
  have HM : Hid (decide (0 ≤ idxI a l 0) = decide (a ∈ l)) := idxI_mem (by decide)
  clear hL
  go_enter Tryz.func115, Tryz.ntmps115
  go_wp2_with fail
  refine HC.mono ?_
  rintro e w1 ⟨rfl, rfl⟩
  go_wp2
  go_ret
  exact ⟨by rw [← HM.out]; rfl, rfl⟩
theorem infoInt : (Tryz.prog.info? 3).map (fun i => (i.zero, i.size, i.bytes)) = some (some (.int .i64 0), 1, 8) := by kernel_rfl
theorem ints_of_owns {w : World} {base : Nat} {v : Value} {l : List Int} (h : w.ownsRow base 3 1 v l.length (l.map (Value.int .i64))) (hl : l.length ≤ 1000) : IntsAt w v l := by
  have h0 := h
  rcases h.2 with ⟨h1, h2⟩ | ⟨g, cap, cur, h1, h2, h3, h4, _⟩
  · subst h1
    exact ⟨by omega, none, 0, 0, 0, by rw [h2], by omega, fun h => absurd h (by omega), fun j hj => absurd hj (by omega)⟩
  · subst h1
    refine ⟨by omega, _, g, 0, cap, rfl, h4, fun _ => ⟨rfl, (Array.getElem?_eq_some_iff.1 h3).1⟩, fun j hj => ?_⟩
    rw [Nat.zero_add, h0.cellAt j (by omega)]
    simp [List.getD_eq_getElem?_getD, hj]
theorem owns_belowI {w w' : World} {base e size : Nat} {v : Value} {n : Nat} {xs : List Value} (h : w.ownsRow base e size v n xs) (hb : Below w.heap.size w w') : w'.ownsRow base e size v n xs := by
  refine ⟨h.1, ?_⟩
  rcases h.2 with h2 | ⟨g, cap, cur, h1, h2, h3, h4⟩
  · exact .inl h2
  · exact .inr ⟨g, cap, cur, h1, h2, (hb.block g (Array.getElem?_eq_some_iff.1 h3).1).trans h3, h4⟩
/-- who stood so far: all within the bounds, nobody twice -/
def Stood (n : Int) (seen : List Int) : Prop := seen.Nodup ∧ ∀ x ∈ seen, 0 ≤ x ∧ x ≤ n - 1
theorem Stood.len {n : Int} {seen : List Int} (h : Stood n seen) (hn : n ≤ 6) : seen.length ≤ 6 := by
  have := Wv.nodup_le (m := 6) h.1 (fun x hx => by have := h.2 x hx; omega)
  exact this
theorem Stood.next {n a : Int} {seen : List Int} (h : Stood n seen) (h1 : 0 ≤ a ∧ a ≤ n - 1) (h2 : a ∉ seen) : Stood n (seen ++ [a]) := by
  refine ⟨?_, fun x hx => ?_⟩
  · rw [List.nodup_append]
    exact ⟨h.1, by simp, fun x hx y hy e => h2 (by simp at hy; rw [← hy, ← e]; exact hx)⟩
  · rcases List.mem_append.1 hx with hx | hx
    · exact h.2 x hx
    · simp at hx; rw [hx]; exact h1
end Go.Proofs.YtpenkhehceglfaaGreatDoor
/- What package wave's functions are asked for, in one word; the closed fact 'waved' and the walk of WaveSays out of it. -/
namespace Go.Proofs.YtpenkhehceglfaaGreatDoor
open Go.RowKit
/-- what Now answers: the error, and the wave -/
def nowErr (l : List (List Int)) (t : List Bool) : Int := Wv.chk l t.length
def nowOf (l : List (List Int)) (t : List Bool) : Int := if nowErr l t = 0 then Wv.now l t else 0
/-- the contracts of package wave -/
structure WaveC : Prop where
  check : ∀ (v : Value) (l : List (List Int)) (n : Int) (w : World), WavesAt w v l → Calls Tryz.prog 88 #[v, .int .i64 n] w fun e w' => e = .returned (.int .i64 (Wv.chk l n)) ∧ Below w.heap.size w w'
  of : ∀ (v : Value) (l : List (List Int)) (a : Int) (w : World), WavesAt w v l → Calls Tryz.prog 89 #[v, .int .i64 a] w fun e w' => e = .returned (.int .i64 (Wv.of l a)) ∧ Below w.heap.size w w'
  now : ∀ (v u : Value) (l : List (List Int)) (t : List Bool) (w : World), WavesAt w v l → BoolsAt w u t → Calls Tryz.prog 116 #[v, u] w fun e w' => e = .returned (.tuple #[.int .i64 (nowOf l t), .int .i64 (nowErr l t)]) ∧ Below w.heap.size w w'
def twoW : List (List Int) := [[1], [2, 0]]
theorem bools_new (w : World) (x : Bool) (t : TypeId) : BoolsAt (w.alloc (.cells #[.bool true, .bool true, .bool x] t)) (.slice (some ⟨w.heap.size, 0, none⟩) 3 3) [true, true, x] := by
  refine ⟨by simp, some ⟨w.heap.size, 0, none⟩, w.heap.size, 0, 3, rfl, by simp, fun _ => ⟨rfl, by simp⟩, fun j hj => ?_⟩
  rcases j with _ | _ | _ | j
  · simp [go_sem]
  · simp [go_sem]
  · simp [go_sem]
  · simp at hj; omega
/-- the world in which 'waved' has laid its waves -/
def wavedW (w : World) : World := ((w.alloc (.cells #[.int .i64 1] 3)).alloc (.cells #[.int .i64 2, .int .i64 0] 3)).alloc (.cells #[.slice (some ⟨w.heap.size, 0, none⟩) 1 1, .slice (some ⟨w.heap.size + 1, 0, none⟩) 2 2] 131)
theorem waves_new (w : World) : WavesAt (wavedW w) (.slice (some ⟨w.heap.size + 2, 0, none⟩) 2 2) twoW := by
  refine ⟨by decide, some ⟨w.heap.size + 2, 0, none⟩, w.heap.size + 2, 0, 2, rfl, by decide, fun _ => ⟨rfl, by simp [wavedW]⟩, fun j hj => ?_⟩
  rcases j with _ | _ | j
  · refine ⟨.slice (some ⟨w.heap.size, 0, none⟩) 1 1, by simp [wavedW, go_sem], by decide, some ⟨w.heap.size, 0, none⟩, w.heap.size, 0, 1, rfl, by decide, fun _ => ⟨rfl, by simp [wavedW]; omega⟩, fun i hi => ?_⟩
    rcases i with _ | i
    · simp [wavedW, go_sem, twoW]
    · simp [twoW] at hi
  · refine ⟨.slice (some ⟨w.heap.size + 1, 0, none⟩) 2 2, by simp [wavedW, go_sem], by decide, some ⟨w.heap.size + 1, 0, none⟩, w.heap.size + 1, 0, 2, rfl, by decide, fun _ => ⟨rfl, by simp [wavedW]⟩, fun i hi => ?_⟩
    rcases i with _ | _ | i
    · simp [wavedW, go_sem, twoW]
    · simp [wavedW, go_sem, twoW]
    · simp [twoW] at hi; omega
  · simp [twoW] at hj; omega
theorem wd1 : nowOf twoW [true, true, false] = 1 := by decide +kernel
theorem wd2 : nowErr twoW [true, true, false] = 0 := by decide +kernel
theorem wd3 : nowOf twoW [true, true, true] = 2 := by decide +kernel
theorem wd4 : nowErr twoW [true, true, true] = 0 := by decide +kernel
theorem wd5 : Wv.of twoW 0 = 1 := by decide +kernel
theorem wd6 : Wv.of twoW 3 = -1 := by decide +kernel
theorem wd7 : Wv.chk twoW 2 = 5 := by decide +kernel
end Go.Proofs.YtpenkhehceglfaaGreatDoor
/- The contracts of slices.ContainsFunc with WaveOn's closure and of slices.Clone at truths; the walk of WaveOn. -/
namespace Go.Proofs.YtpenkhehceglfaaGreatDoor
open Go.RowKit
namespace Wv
theorem open_set {t : List Bool} {w : List Int} {j : Nat} (h : isOpen (t.set j true) w = true) : isOpen t w = true := by
  obtain ⟨a, ha, hb⟩ := open_true h
  refine List.any_eq_true.2 ⟨a, ha, ?_⟩
  have : t.getD a.toNat true = false := by
    rw [List.getD_eq_getElem?_getD, List.getElem?_set] at hb
    by_cases e : j = a.toNat
    · rw [if_pos e] at hb
      split at hb
      · simp at hb
      · simp at hb
    · rw [if_neg e] at hb
      rw [List.getD_eq_getElem?_getD]
      exact hb
  rw [this]; rfl
theorem now_mono (l : List (List Int)) (t : List Bool) (j : Nat) : now l t ≤ now l (t.set j true) ∧ now l (t.set j true) ≤ l.length := by
  obtain ⟨i, h1, h2, h3, h4⟩ := now_spec l t
  obtain ⟨k, g1, g2, g3, g4⟩ := now_spec l (t.set j true)
  rw [h2, g2]
  refine ⟨?_, by omega⟩
  rcases Nat.lt_or_ge k i with h | h
  · have a := open_set (g4 (by omega))
    rw [h3 k h] at a
    cases a
  · omega
/-- where the first one is of which it is true -/
def idxF (p : Int → Bool) : List Int → Int → Int
  | [], _ => -1
  | x :: r, k => if p x = true then k else idxF p r (k + 1)
theorem idxF_any {p : Int → Bool} {l : List Int} : ∀ {k : Int}, 0 ≤ k → decide (0 ≤ idxF p l k) = l.any p := by
  induction l with
  | nil => intro k _; rfl
  | cons x r ih =>
    intro k hk
    rw [idxF, List.any_cons]
    by_cases h : p x = true
    · rw [if_pos h, h]; simp [hk]
    · rw [if_neg h, ih (by omega)]; simp [h]
end Wv
theorem infoBool : (Tryz.prog.info? 4).map (fun i => (i.zero, i.size, i.bytes)) = some (some (.bool false), 1, 1) := by kernel_rfl
theorem eqNilB (A : Option Addr) (n c : Nat) (w : World) : (binOp .eql 189 (.slice A n c) (.slice none 0 0)).run Tryz.prog w = .ok (.bool A.isNone) w := by
  have h := run_equal_slice_nil (P := Tryz.prog) w 189 4 A n c Tryz.underlying189
  simp [binOp, h]
theorem bools_set {w : World} {g n c : Nat} {t : List Bool} {j : Nat} (hn : n = t.length) (hl : t.length ≤ 100) (hc : n ≤ c) (hg : g < w.heap.size) (hC : ∀ j, j < t.length → w.cell? ⟨g, j, none⟩ = some (.bool (t.getD j true))) (hj : j < t.length) :
    BoolsAt (w.setCell ⟨g, j, none⟩ (.bool true)) (.slice (some ⟨g, 0, none⟩) n c) (t.set j true) := by
  refine ⟨by simp; omega, some ⟨g, 0, none⟩, g, 0, c, by rw [List.length_set, hn], by simp; omega, fun _ => ⟨rfl, by simpa using hg⟩, fun i hi => ?_⟩
  rw [List.length_set] at hi
  rw [Nat.zero_add, List.getD_eq_getElem?_getD, List.getElem?_set]
  by_cases e : j = i
  · subst e
    rw [if_pos rfl, if_pos hj, World.cell?_setCell_same _ _ _ (hC j hj)]; rfl
  · rw [if_neg e, World.cell?_setCell_other _ _ _ _ (fun h => by injection h with _ h2; exact e h2), hC i hi, List.getD_eq_getElem?_getD]
end Go.Proofs.YtpenkhehceglfaaGreatDoor
