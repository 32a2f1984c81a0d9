/- Two tables, by value, are compared: cell by cell. -/
import Derived.Test.YtjedjanlmjolkaaT1
import Derived.Laws.StructEq
namespace Go.Proofs.Ytjedjanlmjolkaa
open Go.RowKit
/-- an array's comparison, as a list of places -/
def eqAll (d : Nat) (e : TypeId) (n : Nat) (xs ys : Array Value) : List Nat → Sem Bool
  | [] => pure true
  | i :: r => do
    let a ← part e xs (i * n)
    let b ← part e ys (i * n)
    let q ← Op.equalIn d e a b
    if (!q) = true then pure false else eqAll d e n xs ys r
theorem run_equalIn_array {P : Program} (w : World) (d : Nat) (t e : TypeId) (len n : Nat) (xs ys : Array Value) (ht : P.underlying t = some (.array len e)) (hn : ∀ w, (sizeOf e).run P w = .ok n w) :
    (Op.equalIn (d + 1) t (.agg xs) (.agg ys)).run P w = (eqAll d e n xs ys (List.range' 0 len)).run P w := by
  simp only [Op.equalIn, Sem.run_bind, run_underlying ht, Result.andThen_ok, hn]
  simp only [Std.Legacy.Range.forIn_eq_forIn_range', Std.Legacy.Range.size]
  rw [show (len - 0 + 1 - 1) / 1 = len from by simp]
  generalize List.range' 0 len = fs
  clear ht hn
  induction fs generalizing w with
  | nil => simp [eqAll]
  | cons i fs ih =>
    simp only [List.forIn_cons, eqAll, Sem.run_bind]
    generalize (part e xs (i * n)).run P w = r1
    cases r1 with
    | ok a w1 =>
      simp only [Result.andThen_ok]
      generalize (part e ys (i * n)).run P w1 = r2
      cases r2 with
      | ok b w2 =>
        simp only [Result.andThen_ok]
        generalize (Op.equalIn d e a b).run P w2 = r3
        cases r3 with
        | ok r w3 =>
          cases r
          · simp only [Result.andThen_ok, Bool.not_false, if_true, Sem.run_pure]
          · simp only [Result.andThen_ok, Bool.not_true, Bool.false_eq_true, if_false, Sem.run_pure]
            exact ih w3
        | halt x w3 => simp [Result.andThen]
      | halt x w2 => simp [Result.andThen]
    | halt x w1 => simp [Result.andThen]
theorem eqAll_ints {P : Program} (w : World) (d : Nat) (e : TypeId) (s t : List Int) (hl : s.length = t.length) (hu : P.underlying e = some (.int .i64)) (ha : ∀ w, (isAgg e).run P w = .ok false w) : ∀ L : List Nat, (∀ i ∈ L, i < s.length) →
    (eqAll (d + 1) e 1 (tcells s) (tcells t) L).run P w = .ok (L.all fun i => s.getD i 0 == t.getD i 0) w := by
  intro L
  induction L with
  | nil => intro _; rfl
  | cons i L ih =>
    intro h
    have hi : i < s.length := h i (by simp)
    have e1 : (part e (tcells s) (i * 1)).run P w = .ok (.int .i64 (s.getD i 0)) w := by
      simp only [part, Sem.run_bind, ha, Result.andThen_ok, Nat.mul_one]
      simp [tcells_get s i hi]
    have e2 : (part e (tcells t) (i * 1)).run P w = .ok (.int .i64 (t.getD i 0)) w := by
      simp only [part, Sem.run_bind, ha, Result.andThen_ok, Nat.mul_one]
      simp [tcells_get t i (by omega)]
    simp only [eqAll, Sem.run_bind, e1, e2, Result.andThen_ok, run_equalIn_int w d e .i64 .i64 _ _ hu, List.all_cons]
    cases hq : (s.getD i 0 == t.getD i 0) with
    | false => simp
    | true =>
      simp only [Bool.not_true, Bool.false_eq_true, if_false, Bool.true_and]
      exact ih fun j hj => h j (by simp [hj])
theorem all_eq21 {s t : List Int} (hs : s.length = 21) (ht : t.length = 21) : ((List.range' 0 21).all fun i => s.getD i 0 == t.getD i 0) = decide (s = t) := by
  by_cases h : s = t
  · subst h
    rw [decide_eq_true rfl]
    simp
  · rw [decide_eq_false h]
    refine Bool.eq_false_iff.2 fun e => h (Dk.list_ext21 hs ht fun n hn => ?_)
    have := List.all_eq_true.1 e n (List.mem_range'_1.2 (by omega))
    simpa using this
theorem eqlV (s t : List Int) (hs : s.length = 21) (ht : t.length = 21) (w : World) : (binOp .eql 46 (.agg (tcells s)) (.agg (tcells t))).run Try.prog w = .ok (.bool (decide (s = t))) w := by
  rw [run_eql_struct, show (10000 : Nat) = 9998 + 1 + 1 from rfl, run_equalIn_array w (9998 + 1) 46 3 21 1 _ _ Try.underlying46 Try.sizeOf3, eqAll_ints w 9998 3 s t (by omega) Try.underlying3 Try.isAgg3 _ (fun i hi => by have := (List.mem_range'_1.1 hi).2; omega), all_eq21 hs ht]
  rfl
theorem eqlR (s t : List Int) (hs : s.length = 21) (ht : t.length = 21) (w : World) : (binOp .eql 45 (.agg (tcells s)) (.agg (tcells t))).run Try.prog w = .ok (.bool (decide (s = t))) w := by
  rw [run_eql_struct, show (10000 : Nat) = 9998 + 1 + 1 from rfl, run_equalIn_array w (9998 + 1) 45 3 21 1 _ _ Try.underlying45 Try.sizeOf3, eqAll_ints w 9998 3 s t (by omega) Try.underlying3 Try.isAgg3 _ (fun i hi => by have := (List.mem_range'_1.1 hi).2; omega), all_eq21 hs ht]
  rfl
end Go.Proofs.Ytjedjanlmjolkaa
