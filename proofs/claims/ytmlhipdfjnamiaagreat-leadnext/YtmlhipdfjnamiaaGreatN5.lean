/- A map literal of the call's own, from numbers to texts: what the document's CheckRec looks a kind up in; and the closure that asks whether a letter is in a text. -/
import Derived.Test.YtmlhipdfjnamiaaGreatShelf
import Derived.Test.YtmlhipdfjnamiaaGreatMB
import Derived.Maps.OwnSet
import Derived.Maps.Views
import Derived.Maps.StringElems
namespace Go.Proofs.YtmlhipdfjnamiaaGreat
open Go.RowKit Go.Maps
/-- an entry of a map literal, at the operation -/
theorem wpList_insert_own {H : Type} {P : Program} (w : World) {ops : Array Oper} {rest : List Oper} {o : Oper} {a : Act} {Q : Exit → Act → World → Prop}
    (hg : o.guard = none) (m x v : Operand) (t : TypeId) (hop : o.op = Op.insert t m x v)
    (k e : TypeId) (K : Keyed P k) (ht : P.underlying t = some (.map k e)) (R : Value → Option (DataW H × List MemPlace)) (b n : Nat) (D : DataW H)
    (hm : a.eval m = .map (some b)) (hown : w.ownsMap P k R b n D) (hn : n < maxLen) (key val : Value) (kl : Lit) (hx : a.eval x = key) (hv : a.eval v = val) (hkey : keyOf P k key = some kl)
    (d : DataW H) (ps : List MemPlace) (hval : R val = some (d, ps))
    (hK : ∀ w', w'.ownsMap P k R b (n + 1) (D.put kl d) → w.grownBy w' (some b) → wpList P ops Q rest (a.put o.dst undef) w') :
    wpList P ops Q (o :: rest) a w := by
  refine wpList_plain hg fun K' hK' => ?_
  obtain ⟨w', hrun, r1, r2⟩ := hown.update K ht hn hkey hval
  unfold Oper.wp
  simp [execOp, hop, hm, hx, hv, hrun, Result.andThen]
  exact hK' _ _ (hK w' r1 r2)
theorem keyedK : Keyed Tryz.prog 3 := int_keyed Tryz.underlying3
theorem zeroS (w : World) : (zeroValue 9).run Tryz.prog w = .ok (.string ⟨#[]⟩) w := by kernel_rfl
/-- the letters of what a kind has a use for -/
def useS (k : Int) : List UInt8 := if k = 1 then [84, 82] else if k = 2 then [84] else if k = 3 then [84, 71] else if k = 4 then [82] else if k = 5 then [78] else if k = 6 then [65, 84] else if k = 7 then [65, 84, 71] else []
def useE : List (Int × List UInt8) := [(1, [84, 82]), (2, [84]), (3, [84, 71]), (4, [82]), (5, [78]), (6, [65, 84]), (7, [65, 84, 71]), (8, []), (9, [])]
def useD (n : Nat) : DataW Unit := (useE.take n).foldl (fun D e => D.put (.int .i64 e.1) (.lit (.string e.2))) (.map [])
theorem put_isMap {D : DataW Unit} (h : IsMap D) (k : Lit) (d : DataW Unit) : IsMap (D.put k d) := by
  obtain ⟨es, rfl⟩ := h
  exact ⟨_, rfl⟩
theorem fold_isMap (l : List (Int × List UInt8)) : ∀ D : DataW Unit, IsMap D → IsMap (l.foldl (fun D e => D.put (.int .i64 e.1) (.lit (.string e.2))) D) := by
  induction l with
  | nil => intro D h; exact h
  | cons e r ih => intro D h; exact ih _ (put_isMap h _ _)
theorem useD_isMap (n : Nat) : IsMap (useD n) := fold_isMap _ _ ⟨_, rfl⟩
def UseMap (w : World) (b n : Nat) : Prop := w.ownsMap Tryz.prog 3 (plainElem Tryz.prog 9) b n (useD n)
theorem keyK (k : Int) (h : (Lit.int .i64 k).wf = true) : keyOf Tryz.prog 3 (.int .i64 k) = some (.int .i64 k) := keyOf_int_mk Tryz.underlying3 h
theorem strS (s : ByteArray) (h : s.size ≤ 3) : plainElem (H := Unit) Tryz.prog 9 (.string s) = some (.lit (.string s.data.toList), []) := plainElem_string Tryz.underlying9 (by unfold maxLen; omega)
theorem kl_ne {a b : Int} (h : a ≠ b) : (Lit.int .i64 a) ≠ Lit.int .i64 b := fun e => h (by injection e)
theorem keyLitK (a : Int) : WideAt.IsKeyLit (Lit.int .i64 a) := by simp [WideAt.IsKeyLit]
theorem useD_look (k : Int) : has (useD 9) (.int .i64 k) = Lk.within k 1 9 ∧ (useD 9).atKey (.int .i64 k) (.lit (.string [])) = .lit (.string (useS k)) := by
  by_cases h : 1 ≤ k ∧ k ≤ 9
  · have hw : Lk.within k 1 9 = true := within_yes h.1 h.2
    rw [hw]
    have hc : k = 1 ∨ k = 2 ∨ k = 3 ∨ k = 4 ∨ k = 5 ∨ k = 6 ∨ k = 7 ∨ k = 8 ∨ k = 9 := by omega
    rcases hc with rfl | rfl | rfl | rfl | rfl | rfl | rfl | rfl | rfl
    · refine ⟨?_, ?_⟩
      · rw [show useD 9 = (useD 8).put (.int .i64 9) (.lit (.string [])) from rfl, has_put_other (kl_ne (by decide)), show useD 8 = (useD 7).put (.int .i64 8) (.lit (.string [])) from rfl, has_put_other (kl_ne (by decide)), show useD 7 = (useD 6).put (.int .i64 7) (.lit (.string [65, 84, 71])) from rfl, has_put_other (kl_ne (by decide)), show useD 6 = (useD 5).put (.int .i64 6) (.lit (.string [65, 84])) from rfl, has_put_other (kl_ne (by decide)), show useD 5 = (useD 4).put (.int .i64 5) (.lit (.string [78])) from rfl, has_put_other (kl_ne (by decide)), show useD 4 = (useD 3).put (.int .i64 4) (.lit (.string [82])) from rfl, has_put_other (kl_ne (by decide)), show useD 3 = (useD 2).put (.int .i64 3) (.lit (.string [84, 71])) from rfl, has_put_other (kl_ne (by decide)), show useD 2 = (useD 1).put (.int .i64 2) (.lit (.string [84])) from rfl, has_put_other (kl_ne (by decide))]
        exact has_put_same (useD_isMap 0) (keyLitK 1) _
      · rw [show useD 9 = (useD 8).put (.int .i64 9) (.lit (.string [])) from rfl, atKey_put_other (kl_ne (by decide)), show useD 8 = (useD 7).put (.int .i64 8) (.lit (.string [])) from rfl, atKey_put_other (kl_ne (by decide)), show useD 7 = (useD 6).put (.int .i64 7) (.lit (.string [65, 84, 71])) from rfl, atKey_put_other (kl_ne (by decide)), show useD 6 = (useD 5).put (.int .i64 6) (.lit (.string [65, 84])) from rfl, atKey_put_other (kl_ne (by decide)), show useD 5 = (useD 4).put (.int .i64 5) (.lit (.string [78])) from rfl, atKey_put_other (kl_ne (by decide)), show useD 4 = (useD 3).put (.int .i64 4) (.lit (.string [82])) from rfl, atKey_put_other (kl_ne (by decide)), show useD 3 = (useD 2).put (.int .i64 3) (.lit (.string [84, 71])) from rfl, atKey_put_other (kl_ne (by decide)), show useD 2 = (useD 1).put (.int .i64 2) (.lit (.string [84])) from rfl, atKey_put_other (kl_ne (by decide))]
        exact atKey_put_same (useD_isMap 0) (keyLitK 1) _ _
    · refine ⟨?_, ?_⟩
      · rw [show useD 9 = (useD 8).put (.int .i64 9) (.lit (.string [])) from rfl, has_put_other (kl_ne (by decide)), show useD 8 = (useD 7).put (.int .i64 8) (.lit (.string [])) from rfl, has_put_other (kl_ne (by decide)), show useD 7 = (useD 6).put (.int .i64 7) (.lit (.string [65, 84, 71])) from rfl, has_put_other (kl_ne (by decide)), show useD 6 = (useD 5).put (.int .i64 6) (.lit (.string [65, 84])) from rfl, has_put_other (kl_ne (by decide)), show useD 5 = (useD 4).put (.int .i64 5) (.lit (.string [78])) from rfl, has_put_other (kl_ne (by decide)), show useD 4 = (useD 3).put (.int .i64 4) (.lit (.string [82])) from rfl, has_put_other (kl_ne (by decide)), show useD 3 = (useD 2).put (.int .i64 3) (.lit (.string [84, 71])) from rfl, has_put_other (kl_ne (by decide))]
        exact has_put_same (useD_isMap 1) (keyLitK 2) _
      · rw [show useD 9 = (useD 8).put (.int .i64 9) (.lit (.string [])) from rfl, atKey_put_other (kl_ne (by decide)), show useD 8 = (useD 7).put (.int .i64 8) (.lit (.string [])) from rfl, atKey_put_other (kl_ne (by decide)), show useD 7 = (useD 6).put (.int .i64 7) (.lit (.string [65, 84, 71])) from rfl, atKey_put_other (kl_ne (by decide)), show useD 6 = (useD 5).put (.int .i64 6) (.lit (.string [65, 84])) from rfl, atKey_put_other (kl_ne (by decide)), show useD 5 = (useD 4).put (.int .i64 5) (.lit (.string [78])) from rfl, atKey_put_other (kl_ne (by decide)), show useD 4 = (useD 3).put (.int .i64 4) (.lit (.string [82])) from rfl, atKey_put_other (kl_ne (by decide)), show useD 3 = (useD 2).put (.int .i64 3) (.lit (.string [84, 71])) from rfl, atKey_put_other (kl_ne (by decide))]
        exact atKey_put_same (useD_isMap 1) (keyLitK 2) _ _
    · refine ⟨?_, ?_⟩
      · rw [show useD 9 = (useD 8).put (.int .i64 9) (.lit (.string [])) from rfl, has_put_other (kl_ne (by decide)), show useD 8 = (useD 7).put (.int .i64 8) (.lit (.string [])) from rfl, has_put_other (kl_ne (by decide)), show useD 7 = (useD 6).put (.int .i64 7) (.lit (.string [65, 84, 71])) from rfl, has_put_other (kl_ne (by decide)), show useD 6 = (useD 5).put (.int .i64 6) (.lit (.string [65, 84])) from rfl, has_put_other (kl_ne (by decide)), show useD 5 = (useD 4).put (.int .i64 5) (.lit (.string [78])) from rfl, has_put_other (kl_ne (by decide)), show useD 4 = (useD 3).put (.int .i64 4) (.lit (.string [82])) from rfl, has_put_other (kl_ne (by decide))]
        exact has_put_same (useD_isMap 2) (keyLitK 3) _
      · rw [show useD 9 = (useD 8).put (.int .i64 9) (.lit (.string [])) from rfl, atKey_put_other (kl_ne (by decide)), show useD 8 = (useD 7).put (.int .i64 8) (.lit (.string [])) from rfl, atKey_put_other (kl_ne (by decide)), show useD 7 = (useD 6).put (.int .i64 7) (.lit (.string [65, 84, 71])) from rfl, atKey_put_other (kl_ne (by decide)), show useD 6 = (useD 5).put (.int .i64 6) (.lit (.string [65, 84])) from rfl, atKey_put_other (kl_ne (by decide)), show useD 5 = (useD 4).put (.int .i64 5) (.lit (.string [78])) from rfl, atKey_put_other (kl_ne (by decide)), show useD 4 = (useD 3).put (.int .i64 4) (.lit (.string [82])) from rfl, atKey_put_other (kl_ne (by decide))]
        exact atKey_put_same (useD_isMap 2) (keyLitK 3) _ _
    · refine ⟨?_, ?_⟩
      · rw [show useD 9 = (useD 8).put (.int .i64 9) (.lit (.string [])) from rfl, has_put_other (kl_ne (by decide)), show useD 8 = (useD 7).put (.int .i64 8) (.lit (.string [])) from rfl, has_put_other (kl_ne (by decide)), show useD 7 = (useD 6).put (.int .i64 7) (.lit (.string [65, 84, 71])) from rfl, has_put_other (kl_ne (by decide)), show useD 6 = (useD 5).put (.int .i64 6) (.lit (.string [65, 84])) from rfl, has_put_other (kl_ne (by decide)), show useD 5 = (useD 4).put (.int .i64 5) (.lit (.string [78])) from rfl, has_put_other (kl_ne (by decide))]
        exact has_put_same (useD_isMap 3) (keyLitK 4) _
      · rw [show useD 9 = (useD 8).put (.int .i64 9) (.lit (.string [])) from rfl, atKey_put_other (kl_ne (by decide)), show useD 8 = (useD 7).put (.int .i64 8) (.lit (.string [])) from rfl, atKey_put_other (kl_ne (by decide)), show useD 7 = (useD 6).put (.int .i64 7) (.lit (.string [65, 84, 71])) from rfl, atKey_put_other (kl_ne (by decide)), show useD 6 = (useD 5).put (.int .i64 6) (.lit (.string [65, 84])) from rfl, atKey_put_other (kl_ne (by decide)), show useD 5 = (useD 4).put (.int .i64 5) (.lit (.string [78])) from rfl, atKey_put_other (kl_ne (by decide))]
        exact atKey_put_same (useD_isMap 3) (keyLitK 4) _ _
    · refine ⟨?_, ?_⟩
      · rw [show useD 9 = (useD 8).put (.int .i64 9) (.lit (.string [])) from rfl, has_put_other (kl_ne (by decide)), show useD 8 = (useD 7).put (.int .i64 8) (.lit (.string [])) from rfl, has_put_other (kl_ne (by decide)), show useD 7 = (useD 6).put (.int .i64 7) (.lit (.string [65, 84, 71])) from rfl, has_put_other (kl_ne (by decide)), show useD 6 = (useD 5).put (.int .i64 6) (.lit (.string [65, 84])) from rfl, has_put_other (kl_ne (by decide))]
        exact has_put_same (useD_isMap 4) (keyLitK 5) _
      · rw [show useD 9 = (useD 8).put (.int .i64 9) (.lit (.string [])) from rfl, atKey_put_other (kl_ne (by decide)), show useD 8 = (useD 7).put (.int .i64 8) (.lit (.string [])) from rfl, atKey_put_other (kl_ne (by decide)), show useD 7 = (useD 6).put (.int .i64 7) (.lit (.string [65, 84, 71])) from rfl, atKey_put_other (kl_ne (by decide)), show useD 6 = (useD 5).put (.int .i64 6) (.lit (.string [65, 84])) from rfl, atKey_put_other (kl_ne (by decide))]
        exact atKey_put_same (useD_isMap 4) (keyLitK 5) _ _
    · refine ⟨?_, ?_⟩
      · rw [show useD 9 = (useD 8).put (.int .i64 9) (.lit (.string [])) from rfl, has_put_other (kl_ne (by decide)), show useD 8 = (useD 7).put (.int .i64 8) (.lit (.string [])) from rfl, has_put_other (kl_ne (by decide)), show useD 7 = (useD 6).put (.int .i64 7) (.lit (.string [65, 84, 71])) from rfl, has_put_other (kl_ne (by decide))]
        exact has_put_same (useD_isMap 5) (keyLitK 6) _
      · rw [show useD 9 = (useD 8).put (.int .i64 9) (.lit (.string [])) from rfl, atKey_put_other (kl_ne (by decide)), show useD 8 = (useD 7).put (.int .i64 8) (.lit (.string [])) from rfl, atKey_put_other (kl_ne (by decide)), show useD 7 = (useD 6).put (.int .i64 7) (.lit (.string [65, 84, 71])) from rfl, atKey_put_other (kl_ne (by decide))]
        exact atKey_put_same (useD_isMap 5) (keyLitK 6) _ _
    · refine ⟨?_, ?_⟩
      · rw [show useD 9 = (useD 8).put (.int .i64 9) (.lit (.string [])) from rfl, has_put_other (kl_ne (by decide)), show useD 8 = (useD 7).put (.int .i64 8) (.lit (.string [])) from rfl, has_put_other (kl_ne (by decide))]
        exact has_put_same (useD_isMap 6) (keyLitK 7) _
      · rw [show useD 9 = (useD 8).put (.int .i64 9) (.lit (.string [])) from rfl, atKey_put_other (kl_ne (by decide)), show useD 8 = (useD 7).put (.int .i64 8) (.lit (.string [])) from rfl, atKey_put_other (kl_ne (by decide))]
        exact atKey_put_same (useD_isMap 6) (keyLitK 7) _ _
    · refine ⟨?_, ?_⟩
      · rw [show useD 9 = (useD 8).put (.int .i64 9) (.lit (.string [])) from rfl, has_put_other (kl_ne (by decide))]
        exact has_put_same (useD_isMap 7) (keyLitK 8) _
      · rw [show useD 9 = (useD 8).put (.int .i64 9) (.lit (.string [])) from rfl, atKey_put_other (kl_ne (by decide))]
        exact atKey_put_same (useD_isMap 7) (keyLitK 8) _ _
    · refine ⟨?_, ?_⟩
      · exact has_put_same (useD_isMap 8) (keyLitK 9) _
      · exact atKey_put_same (useD_isMap 8) (keyLitK 9) _ _
  · have hw : Lk.within k 1 9 = false := by simp only [Lk.within, Bool.and_eq_false_iff, decide_eq_false_iff_not]; omega
    rw [hw]
    refine ⟨?_, ?_⟩
    · rw [show useD 9 = (useD 8).put (.int .i64 9) (.lit (.string [])) from rfl, has_put_other (kl_ne (by omega)), show useD 8 = (useD 7).put (.int .i64 8) (.lit (.string [])) from rfl, has_put_other (kl_ne (by omega)), show useD 7 = (useD 6).put (.int .i64 7) (.lit (.string [65, 84, 71])) from rfl, has_put_other (kl_ne (by omega)), show useD 6 = (useD 5).put (.int .i64 6) (.lit (.string [65, 84])) from rfl, has_put_other (kl_ne (by omega)), show useD 5 = (useD 4).put (.int .i64 5) (.lit (.string [78])) from rfl, has_put_other (kl_ne (by omega)), show useD 4 = (useD 3).put (.int .i64 4) (.lit (.string [82])) from rfl, has_put_other (kl_ne (by omega)), show useD 3 = (useD 2).put (.int .i64 3) (.lit (.string [84, 71])) from rfl, has_put_other (kl_ne (by omega)), show useD 2 = (useD 1).put (.int .i64 2) (.lit (.string [84])) from rfl, has_put_other (kl_ne (by omega)), show useD 1 = (useD 0).put (.int .i64 1) (.lit (.string [84, 82])) from rfl, has_put_other (kl_ne (by omega))]
      rfl
    · rw [show useD 9 = (useD 8).put (.int .i64 9) (.lit (.string [])) from rfl, atKey_put_other (kl_ne (by omega)), show useD 8 = (useD 7).put (.int .i64 8) (.lit (.string [])) from rfl, atKey_put_other (kl_ne (by omega)), show useD 7 = (useD 6).put (.int .i64 7) (.lit (.string [65, 84, 71])) from rfl, atKey_put_other (kl_ne (by omega)), show useD 6 = (useD 5).put (.int .i64 6) (.lit (.string [65, 84])) from rfl, atKey_put_other (kl_ne (by omega)), show useD 5 = (useD 4).put (.int .i64 5) (.lit (.string [78])) from rfl, atKey_put_other (kl_ne (by omega)), show useD 4 = (useD 3).put (.int .i64 4) (.lit (.string [82])) from rfl, atKey_put_other (kl_ne (by omega)), show useD 3 = (useD 2).put (.int .i64 3) (.lit (.string [84, 71])) from rfl, atKey_put_other (kl_ne (by omega)), show useD 2 = (useD 1).put (.int .i64 2) (.lit (.string [84])) from rfl, atKey_put_other (kl_ne (by omega)), show useD 1 = (useD 0).put (.int .i64 1) (.lit (.string [84, 82])) from rfl, atKey_put_other (kl_ne (by omega))]
      unfold useS
      rw [if_neg (show ¬ k = 1 by omega), if_neg (show ¬ k = 2 by omega), if_neg (show ¬ k = 3 by omega), if_neg (show ¬ k = 4 by omega), if_neg (show ¬ k = 5 by omega), if_neg (show ¬ k = 6 by omega), if_neg (show ¬ k = 7 by omega)]
      rfl
theorem look_use {w : World} {b : Nat} (h : UseMap w b 9) (k : Int) (hk : (Lit.int .i64 k).wf = true) :
    (Instr.lookup 89 (.map (some b)) (.int .i64 k) true).run Tryz.prog w = .ok (.tuple #[.string ⟨(useS k).toArray⟩, .bool (Lk.within k 1 9)]) w := by
  obtain ⟨v, ps, hrun, hv⟩ := World.ownsMap.look_ok (h : w.ownsMap Tryz.prog 3 (plainElem Tryz.prog 9) b 9 (useD 9)) keyedK Tryz.underlying89 (zeroS w) (strS ⟨#[]⟩ (by decide)) (keyK k hk)
  obtain ⟨h1, h2⟩ := useD_look k
  rw [show (⟨#[]⟩ : ByteArray).data.toList = [] from rfl, h2] at hv
  rw [h1] at hrun
  obtain ⟨s, rfl, hs, -⟩ := plainElem_string_inv Tryz.underlying9 hv
  have : s = ⟨(useS k).toArray⟩ := by
    simp only [Prod.mk.injEq, DataW.lit.injEq, Lit.string.injEq] at hs
    rw [hs.1]
  rw [hrun, this]
theorem UseMap.below {w w' : World} {b n : Nat} (h : UseMap w b n) (hb : Below w.heap.size w w') : UseMap w' b n := by
  have hlt := World.ownsMap.lt h
  obtain ⟨es, clock, h1, F, hs, hD⟩ := h
  exact ⟨es, clock, (hb.block b hlt).trans h1, F, hs, hD⟩
/-- a letter is among those of a kind -/
def hasL (k : Int) (c : UInt8) : Bool := decide (0 ≤ Lib.indexByte (useS k) c)
theorem hasL_all (k : Int) : hasL k 65 = Lk.uA k ∧ hasL k 84 = Lk.uT k ∧ hasL k 78 = Lk.uN k ∧ hasL k 71 = Lk.uG k ∧ hasL k 82 = Lk.uR k := by
  rcases kind_cases k with rfl | rfl | rfl | rfl | rfl | rfl | rfl | ⟨h1, h2, h3, h4, h5, h6, h7⟩
  iterate 7 exact ⟨by decide, by decide, by decide, by decide, by decide⟩
  have e : useS k = [] := by
    simp only [beq_eq_false_iff_ne] at h1 h2 h3 h4 h5 h6 h7
    unfold useS
    rw [if_neg h1, if_neg h2, if_neg h3, if_neg h4, if_neg h5, if_neg h6, if_neg h7]
  unfold hasL
  rw [e]
  simp [Lk.uA, Lk.uT, Lk.uN, Lk.uG, Lk.uR, h1, h2, h3, h4, h5, h6, h7, Lib.indexByte]
theorem has_any (s : ByteArray) (c : UInt8) (g : Nat) (w : World) (hg : w.cell? ⟨g, 0, none⟩ = some (.string s)) :
    Calls Tryz.prog 53 #[.string ⟨#[c]⟩, .pointer (some ⟨g, 0, none⟩)] w fun e w' => e = .returned (.bool (decide (0 ≤ Lib.indexByte s.data.toList c))) ∧ w' = w := by
  go_enter Tryz.func53, Tryz.ntmps53
  go_wp2_with fail
  refine (Tryz.strings_Contains_one s c _).mono ?_
  rintro e w1 ⟨rfl, rfl⟩
  go_wp2
  go_ret
  exact ⟨rfl, rfl⟩
end Go.Proofs.YtmlhipdfjnamiaaGreat
