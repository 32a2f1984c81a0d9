/- Contracts of lock.Parse and of the document's LockRead. -/
import Derived.Test.YtlnbcgjahjjpfacGreatDoorW6
namespace Go.Proofs.YtlnbcgjahjjpfacGreatDoor
open Go.RowKit
theorem readAs_none {s : ByteArray} (h : Lk.pins s = none) : Lk.readAs s = ([], 1) := by unfold Lk.readAs; rw [h]
theorem readAs_good {s : ByteArray} {l : List (Int × Int)} (h : Lk.pins s = some l) (hc : Lk.chk l = 0) : Lk.readAs s = (l, 0) := by unfold Lk.readAs; rw [h]; exact if_pos hc
theorem readAs_bad {s : ByteArray} {l : List (Int × Int)} (h : Lk.pins s = some l) (hc : ¬ Lk.chk l = 0) : Lk.readAs s = ([], Lk.chk l) := by unfold Lk.readAs; rw [h]; exact if_neg hc
set_option maxHeartbeats 400000 in
theorem parse_long (s : ByteArray) (hs : 60000 < s.size) (w : World) :
    Calls Tryz.prog 64 #[.string s] w fun e w' => e = .returned (.tuple #[.slice none 0 0, .int .i64 2]) ∧ Below w.heap.size w w' := by
  have hs' : (60000 : Int) < (s.size : Int) := by omega
  go_enter Tryz.func64, Tryz.ntmps64
  go_wp2
  go_ret2
  exact ⟨rfl, Below.refl _ _⟩
set_option maxHeartbeats 1000000 in
theorem parse_new (s : ByteArray) (hs : s.size ≤ 60000) (w : World) (hE : Env w) :
    Calls Tryz.prog 64 #[.string s] w fun e w' => (∃ v, e = .returned (.tuple #[v, .int .i64 (Lk.readAs s).2]) ∧ NewPins w.heap.size w' v (Lk.readAs s).1) ∧ Below w.heap.size w w' := by
  have HE : Hid (Env w) := hE
  clear hE
  go_enter Tryz.func64, Tryz.ntmps64
  go_wp2_with fail
  refine (readPins_any s hs _ HE.out).mono ?_
  rintro e w1 ⟨⟨v, rfl, hn, hl⟩, hb⟩
  have HN : Hid (Lk.pins s = none → v = .slice none 0 0) := hn
  have HL : Hid (∀ l, Lk.pins s = some l → NewPins w.heap.size w1 v l) := hl
  clear hn hl
  have HB : Hid (Below w.heap.size w w1) := hb
  clear hb
  cases hp : Lk.pins s with
  | none =>
    have HR : Hid (Lk.readAs s = ([], 1)) := readAs_none hp
    clear hp
    go_wp2
    go_ret2
    exact ⟨⟨_, by rw [HR.out]; rfl, by rw [HR.out]; exact new_none _ _⟩, HB.out⟩
  | some l =>
    have HP : Hid (NewPins w.heap.size w1 v l) := HL.out l hp
    have HS : Hid (Lk.pins s = some l) := hp
    clear hp
    go_wp2_with fail
    refine (check_any v l _ HP.out.1).mono ?_
    rintro e w2 ⟨rfl, hb2⟩
    by_cases hc : Lk.chk l = 0
    · have HR : Hid (Lk.readAs s = (l, 0)) := readAs_good HS.out hc
      have HP2 : Hid (NewPins w.heap.size w2 v l) := HP.out.below hb2
      rw [hc]
      clear hc
      go_wp2
      go_ret2
      exact ⟨⟨_, by rw [HR.out]; rfl, by rw [HR.out]; exact HP2.out⟩, HB.out.trans (hb2.mono HB.out.size)⟩
    · have HR : Hid (Lk.readAs s = ([], Lk.chk l)) := readAs_bad HS.out hc
      generalize Lk.chk l = c at hc HR
      have hc' : (c != 0) = true := by simpa using hc
      clear hc
      go_wp2
      go_ret2
      exact ⟨⟨_, by rw [HR.out]; rfl, by rw [HR.out]; exact new_none _ _⟩, HB.out.trans (hb2.mono HB.out.size)⟩
theorem parse_any (s : ByteArray) (hs : s.size ≤ 60000) (w : World) (hE : Env w) :
    Calls Tryz.prog 64 #[.string s] w fun e w' => (∃ v, e = .returned (.tuple #[v, .int .i64 (Lk.readAs s).2]) ∧ PinsAt w' v (Lk.readAs s).1) ∧ Below w.heap.size w w' := by
  refine (parse_new s hs w hE).mono ?_
  rintro e w' ⟨⟨v, he, h⟩, hb⟩
  exact ⟨⟨v, he, h.1⟩, hb⟩
end Go.Proofs.YtlnbcgjahjjpfacGreatDoor
