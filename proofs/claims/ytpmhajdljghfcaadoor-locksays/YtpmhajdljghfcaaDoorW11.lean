/- The contract of the closed fact 'locked', and the walk of LockSays. -/
import Derived.Test.YtpmhajdljghfcaaDoorW10
import Derived.Test.YtpmhajdljghfcaaDoorMath
import Derived.Test.YtpmhajdljghfcaaDoorW2
import Derived.Test.YtpmhajdljghfcaaDoorW3
namespace Go.Proofs.YtpmhajdljghfcaaDoor
open Go.RowKit
theorem lk_text : Lk.text [(1, 2), (7, 1)] = [49, 64, 50, 44, 55, 64, 49] := by
  have h1 : Lib.decDigits 1 = [49] := Lib.decDigits_one (by decide)
  have h2 : Lib.decDigits 2 = [50] := Lib.decDigits_one (by decide)
  have h7 : Lib.decDigits 7 = [55] := Lib.decDigits_one (by decide)
  simp [Lk.text, Lk.pinText, Lib.join, h1, h2, h7, List.intercalate]
theorem lk_pins : Lk.pins ⟨#[49, 64, 50, 44, 55, 64, 49]⟩ = some [(1, 2), (7, 1)] := by
  have := Lk.pins_text [(1, 2), (7, 1)] (by
    intro p hp
    simp only [List.mem_cons, List.not_mem_nil, or_false] at hp
    rcases hp with rfl | rfl <;> (unfold Lk.okP; decide))
  rw [lk_text] at this
  exact this
theorem lk_chk : Lk.chk [(1, 2), (7, 1)] = 0 := by decide
theorem lk_read : Lk.readAs ⟨#[49, 64, 50, 44, 55, 64, 49]⟩ = ([(1, 2), (7, 1)], 0) := readAs_good lk_pins lk_chk
theorem lk_printed : printed [(1, 2), (7, 1)] = [49, 64, 50, 44, 55, 64, 49] := by unfold printed; rw [if_pos lk_chk, lk_text]
set_option maxHeartbeats 2000000 in
theorem locked_any (w : World) (hE : Env w) :
    Calls Tryd.prog 9 #[] w fun e w' => e = .returned (.bool true) ∧ Below w.heap.size w w' := by
  have HE : Hid (Env w) := hE
  clear hE
  go_enter Tryd.func9, Tryd.ntmps9
  go_wp2_with fail
  refine (parse_any ⟨#[49, 64, 50, 44, 55, 64, 49]⟩ (by decide) _ HE.out).mono ?_
  rintro e w1 ⟨⟨v, rfl, hp⟩, hb1⟩
  rw [lk_read] at hp ⊢
  have HP1 : Hid (PinsAt w1 v [(1, 2), (7, 1)]) := hp
  obtain ⟨a, c, hv⟩ : ∃ a c, v = .slice a 2 c := by
    obtain ⟨_, c, ⟨h, _⟩ | ⟨b, o, rfl, _⟩⟩ := hp
    · cases h
    · exact ⟨_, c, rfl⟩
  subst hv
  clear hp
  go_wp2_with fail
  refine (print_any _ _ _ HP1.out).mono ?_
  rintro e w2 ⟨rfl, hb2⟩
  rw [lk_printed, lk_chk]
  have HP2 : Hid (PinsAt w2 (.slice a 2 c) [(1, 2), (7, 1)]) := HP1.out.below hb2
  go_wp2_with fail
  refine (find_any _ _ 1 _ HP2.out).mono ?_
  rintro e w3 ⟨rfl, hb3⟩
  rw [show Lk.find 1 [(1, 2), (7, 1)] = 2 from by decide]
  have HP3 : Hid (PinsAt w3 (.slice a 2 c) [(1, 2), (7, 1)]) := HP2.out.below hb3
  go_wp2_with fail
  refine (find_any _ _ 2 _ HP3.out).mono ?_
  rintro e w4 ⟨rfl, hb4⟩
  rw [show Lk.find 2 [(1, 2), (7, 1)] = 0 from by decide]
  go_wp2
  go_ret
  refine ⟨rfl, ?_⟩
  exact ((hb1.trans (hb2.mono hb1.size)).trans (hb3.mono (Nat.le_trans hb1.size hb2.size))).trans (hb4.mono (Nat.le_trans (Nat.le_trans hb1.size hb2.size) hb3.size))
end Go.Proofs.YtpmhajdljghfcaaDoor
