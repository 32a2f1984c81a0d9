/- The contract of the document's lockOf: the lock of a table. -/
import Derived.Test.YtbnaaookeagjgaaT1
import Derived.OwnWalk
import Derived.Test.YtbnaaookeagjgaaFlat
import Derived.Test.YtbnaaookeagjgaaPN
namespace Go.Proofs.Ytbnaaookeagjgaa
open Go.RowKit
set_option maxHeartbeats 2000000 in
theorem lockOf_new (t : List Int) (ht : t.length = 21) (hn : ∀ n, n < 21 → 0 ≤ t.getD n 0) (w : World) :
    Calls Try.prog 53 #[.agg (tcells t)] w fun e w' => (∃ v, e = .returned v ∧ PinsNew w' w.heap.size v (Dk.pinsOf t)) ∧ Below w.heap.size w w' := by
  obtain ⟨i0, hi, hz0, hz1, hz2⟩ := info_parts Try.info51
  have HL : Hid (t.length = 21) := ht
  have HN : Hid (∀ n, n < 21 → 0 ≤ t.getD n 0) := hn
  clear ht hn
  go_enter Try.func53, Try.ntmps53
  have H0 : Hid (TabAt (w.alloc (.cells (tcells t) 64)) w.heap.size 64 t) := heap_alloc_last w _
  go_wp2_with (guard_target = wpList _ _ _ (_ :: _) _ _; refine ldR rfl _ rfl _ rfl H0.out HL.out ?_)
  go_loopg [3, 7] 21 (fun g s3 s7 wr => ∃ k : Nat, k ≤ 21 ∧ 21 - k ≤ g ∧ s7 = .int .i64 k ∧ Hid (wr.ownsRow (w.heap.size + 1) 51 2 s3 (Dk.pinsTo t k).length (flat (Dk.pinsTo t k))) ∧ Below (w.heap.size + 1) (w.alloc (.cells (tcells t) 64)) wr)
  case atStart => exact ⟨0, Nat.zero_le _, by omega, rfl, World.ownsRow_nil _ _ _ _, Below.refl _ _⟩
  case round =>
    obtain ⟨k, hk, hg, rfl, HO, hb⟩ := hrel
    by_cases hlt : k < 21
    · have hlt' : (k : Int) < 21 := by omega
      have hix := ixR t k hlt HL.out
      generalize hv : t.getD k 0 = v at hix
      have HV : Hid (t.getD k 0 = v) := hv
      clear hv
      by_cases h0 : v = 0
      · subst h0
        have HP : Hid (Dk.pinsTo t (k + 1) = Dk.pinsTo t k) := Dk.pinsTo_none HV.out
        go_wp2
        go_roundg (21 - (k + 1))
        case measure => omega
        case rel => exact ⟨k + 1, by omega, by omega, by go_num, by rw [HP.out]; exact HO, hb⟩
      · have HP : Hid (Dk.pinsTo t (k + 1) = Dk.pinsTo t k ++ [((k : Int), v)]) := Dk.pinsTo_some HV.out h0
        have h0' : 0 < v := by have := HN.out k hlt; rw [HV.out] at this; omega
        have hll : (Dk.pinsTo t k).length ≤ 21 := Nat.le_trans (Dk.fm_len _ k) hk
        have hsz : w.heap.size + 1 ≤ wr.heap.size := by have := hb.size; simpa using this
        clear h0
        go_wp2_with (at_builtin; refine wpList_append_own _ rfl _ _ 22 rfl (w.heap.size + 1) 51 i0 (.agg #[.int .i64 0, .int .i64 0]) 2 16 Try.underlying22 hi hz0 hz1 hz2 rfl (by decide) _ (Dk.pinsTo t k).length (flat (Dk.pinsTo t k)) rfl (HO.out.alloc _) ⟨wr.heap.size, 0, none⟩ 1 1 [.int .i64 k, .int .i64 v] rfl rfl ?c1 ?c2 ?c3 ?c4 ?c5 ?_)
        case c1 =>
          intro j u hj
          rcases j with _ | _ | j
          · simp at hj; subst hj; simp [go_sem, Addr.add]
          · simp at hj; subst hj; simp [go_sem, Addr.add]
          · simp at hj
        case c2 =>
          intro u hu
          simp only [List.mem_cons, List.not_mem_nil, or_false] at hu
          rcases hu with rfl | rfl <;> rfl
        case c3 => unfold maxLen; omega
        case c4 => omega
        case c5 => simp; omega
        intro v' w3 hown hgrow _
        have HO3 : Hid (w3.ownsRow (w.heap.size + 1) 51 2 v' (Dk.pinsTo t (k + 1)).length (flat (Dk.pinsTo t (k + 1)))) := by
          rw [HP.out, flat_append, List.length_append]; exact hown
        have hb3 := (hb.alloc hsz (.cells #[.int .i64 (k : Int), .int .i64 v] 51)).grown hgrow (by simp; omega) (fun q hq => (HO.out.lt q hq).1)
        clear hown hgrow HO
        go_wp2
        go_roundg (21 - (k + 1))
        case measure => omega
        case rel => exact ⟨k + 1, by omega, by omega, by go_num, HO3, hb3⟩
    · have hk' : k = 21 := by omega
      subst hk'
      have HPA : Hid (PinsNew wr w.heap.size u3 (Dk.pinsOf t)) := (pins_new_owns HO.out (Nat.le_trans (Dk.fm_len _ 21) (by omega))).mono (Nat.le_succ _)
      have hbb : Below w.heap.size w wr := ((Below.refl _ w).alloc (Nat.le_refl _) _).trans (hb.mono (by omega))
      clear hk hlt HO
      go_wp2
      go_ret
      exact ⟨⟨_, rfl, HPA.out⟩, hbb⟩
theorem lockOf_any (t : List Int) (ht : t.length = 21) (hn : ∀ n, n < 21 → 0 ≤ t.getD n 0) (w : World) :
    Calls Try.prog 53 #[.agg (tcells t)] w fun e w' => (∃ v, e = .returned v ∧ PinsAt w' v (Dk.pinsOf t)) ∧ Below w.heap.size w w' := by
  refine (lockOf_new t ht hn w).mono ?_
  rintro e w' ⟨⟨v, h1, h2⟩, hb⟩
  exact ⟨⟨v, h1, h2.pins⟩, hb⟩
end Go.Proofs.Ytbnaaookeagjgaa
