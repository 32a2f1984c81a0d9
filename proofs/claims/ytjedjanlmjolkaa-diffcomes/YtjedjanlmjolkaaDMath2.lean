/- Of a step that was done, and of what it leaves: plain facts. Nothing of the program is named here. -/
import Derived.Test.YtjedjanlmjolkaaDMath
namespace Go.Proofs.Ytjedjanlmjolkaa
namespace Dk
open Lk
theorem fm_one {f g : Nat → Option (Int × Int)} {m : Nat} (h : ∀ n, n ≠ m → f n = g n) : ∀ l : List Nat, l.Nodup → (l.filterMap f).length ≤ (l.filterMap g).length + 1 := by
  intro l
  induction l with
  | nil => intro _; simp
  | cons x q ih =>
    intro hd
    rw [List.nodup_cons] at hd
    rw [List.filterMap_cons, List.filterMap_cons]
    by_cases e : x = m
    · have : q.filterMap f = q.filterMap g := fm_congr fun z hz => h z fun e' => hd.1 (by rw [e, ← e']; exact hz)
      rw [this]
      cases f x <;> cases g x <;> simp <;> omega
    · rw [h x e]
      have := ih hd.2
      cases g x
      · exact this
      · simp only [List.length_cons]; omega
theorem pins_one (A : List Int) (o : Int × Int × Int) : (pinsOf (putO A o)).length ≤ (pinsOf A).length + 1 := by
  refine fm_one (m := o.2.1.toNat) (fun n hn => ?_) _ List.nodup_range
  unfold pinAt
  have e : (putO A o).getD n 0 = A.getD n 0 := by
    unfold putO
    rw [List.getD_eq_getElem?_getD, List.getElem?_set_ne (by omega), ← List.getD_eq_getElem?_getD]
  rw [e]
/-- a step that can be done makes a lock of a lock -/
theorem good_applied {a : List (Int × Int)} {o : Int × Int × Int} (h : applyErr a o = 0) : chk a = 0 ∧ good (putO (tb a) o) ∧ applied a o = pinsOf (putO (tb a) o) := by
  have hc : chk a = 0 := by
    unfold applyErr at h
    by_cases hc : chk a = 0
    · exact hc
    · rw [if_neg hc] at h; exact h
  have ho : opErr o = 0 := by
    unfold applyErr at h
    rw [if_pos hc] at h
    by_cases ho : opErr o = 0
    · exact ho
    · rw [if_neg ho] at h; exact h
  have hf : fitErr a o = 0 := by
    unfold applyErr at h
    rwa [if_pos hc, if_pos ho] at h
  have hA := good_tb hc
  have hl : (tb a).length = 21 := tb_len a
  have hk : 1 ≤ o.1 ∧ o.1 ≤ 3 := by
    by_cases hk : 1 ≤ o.1 ∧ o.1 ≤ 3
    · exact hk
    · unfold opErr at ho; rw [if_neg hk] at ho; cases ho
  have hr : (1 ≤ o.2.1 ∧ o.2.1 ≤ 20) ∧ (if o.1 = 2 then o.2.2 = 0 else 1 ≤ o.2.2 ∧ o.2.2 ≤ 99) := by
    unfold opErr at ho
    rw [if_pos hk] at ho
    by_cases hr : (1 ≤ o.2.1 ∧ o.2.1 ≤ 20) ∧ (if o.1 = 2 then o.2.2 = 0 else 1 ≤ o.2.2 ∧ o.2.2 ≤ 99)
    · exact hr
    · rw [if_neg hr] at ho; cases ho
  have hv : 0 ≤ o.2.2 ∧ o.2.2 ≤ 99 := by
    have := hr.2
    split at this <;> omega
  have hok : okTab (putO (tb a) o) := by
    refine ⟨by rw [putO_len]; exact hl, ?_, fun k hk => ?_⟩
    · rw [putO_get _ o 0 (by omega), if_neg (by omega)]; exact hA.1.2.1
    · rw [putO_get _ o k (by omega)]
      split
      · exact hv
      · exact hA.1.2.2 k hk
  refine ⟨hc, ⟨hok, ?_⟩, by rw [applied, if_pos h]⟩
  unfold fitErr at hf
  by_cases hz : find o.2.1 a = 0
  · rw [if_pos hz] at hf
    by_cases h1 : o.1 = 1
    · rw [if_pos h1] at hf
      by_cases h2 : 12 ≤ a.length
      · rw [if_pos h2] at hf; cases hf
      · have := pins_one (tb a) o
        rw [pins_tb hc] at this
        omega
    · rw [if_neg h1] at hf; cases hf
  · refine Nat.le_trans (pins_le (t := tb a) fun k hk hs => ?_) hA.2
    rw [putO_get _ o k (by omega)] at hs
    split at hs
    · rename_i e
      rw [tb_get a k hk]
      intro h0
      apply hz
      rw [← h0]
      congr 1
      omega
    · exact hs
/-- undoing: what is between, told of the locks -/
theorem undo_lock {a : List (Int × Int)} {o : Int × Int × Int} (h : applyErr a o = 0) :
    chk (applied a o) = 0 ∧ diffErr (applied a o) a = 0 ∧
      ((diffed (applied a o) a = [] ∧ applied a o = a) ∨ ∃ q, diffed (applied a o) a = [q] ∧ applyErr (applied a o) q = 0 ∧ applied (applied a o) q = a) := by
  obtain ⟨hc, hg, he⟩ := good_applied h
  have hA := good_tb hc
  have hm : chk (applied a o) = 0 := by rw [he]; exact good_chk hg
  have hd : diffErr (applied a o) a = 0 := by rw [diffErr, if_pos hm, hc]
  have htb : tb (applied a o) = putO (tb a) o := by rw [he, tb_pinsOf hg.1.1]
  refine ⟨hm, hd, ?_⟩
  rw [diffed, if_pos hd, htb]
  rcases undone hA hg with ⟨h1, h2⟩ | ⟨q, h1, h2⟩
  · refine .inl ⟨h1, ?_⟩
    rw [he, h2, pins_tb hc]
  · refine .inr ⟨q, h1, ?_⟩
    obtain ⟨s1, s2, _⟩ := apply_step hg hA h1
    rw [he]
    exact ⟨s1, by rw [s2, h2, pins_tb hc]⟩
/-- where a lock isn't on the way, it is neither end -/
theorem between_not {a b l : List (Int × Int)} (he : betweenErr a b l = 0) (h : between a b l = -1) : l ≠ a ∧ l ≠ b := by
  have h1 : diffErr a b = 0 ∧ chk l = 0 := by
    unfold betweenErr at he
    by_cases ha : diffErr a b = 0
    · rw [if_pos ha] at he; exact ⟨ha, he⟩
    · rw [if_neg ha] at he; exact absurd he ha
  have h2 : chk a = 0 ∧ chk b = 0 := by
    have := h1.1
    unfold diffErr at this
    by_cases ha : chk a = 0
    · rw [if_pos ha] at this; exact ⟨ha, this⟩
    · rw [if_neg ha] at this; exact absurd this ha
  rw [between, if_pos he] at h
  obtain ⟨n1, n2⟩ := way_not (good_tb h2.1) (good_tb h2.2) h
  exact ⟨fun e => n1 (by rw [e]), fun e => n2 (by rw [e])⟩
end Dk
end Go.Proofs.Ytjedjanlmjolkaa
