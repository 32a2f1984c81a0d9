/- The contract of the document's LockText. -/
import Derived.Test.YtlnbcgjahjjpfacGreatDoorMC
import Derived.BigQuiet
import Derived.Deep.QuietTactic
namespace Go.Proofs.YtlnbcgjahjjpfacGreatDoor
open Go.RowKit
theorem chkFrom_ok (l : List (Int × Int)) (last : Int) (h : Lk.chkFrom last l = 0) : ∀ p ∈ l, (1 ≤ p.1 ∧ p.1 ≤ 20) ∧ (1 ≤ p.2 ∧ p.2 ≤ 99) := by
  induction l generalizing last with
  | nil => intro p hp; cases hp
  | cons q r ih =>
    rw [Lk.chkFrom] at h
    by_cases hq : Lk.okPin q = true
    · rw [if_pos hq] at h
      by_cases h6 : q.1 ≤ last
      · rw [if_pos h6] at h; cases h
      · rw [if_neg h6] at h
        intro p hp
        rcases List.mem_cons.1 hp with rfl | hp
        · simpa [Lk.okPin, and_assoc] using hq
        · exact ih _ h p hp
    · rw [if_neg hq] at h; cases h
theorem chk_ok {l : List (Int × Int)} (h : Lk.chk l = 0) : l.length ≤ 12 ∧ ∀ p ∈ l, (1 ≤ p.1 ∧ p.1 ≤ 20) ∧ (1 ≤ p.2 ∧ p.2 ≤ 99) := by
  unfold Lk.chk at h
  by_cases hl : 12 < l.length
  · rw [if_pos hl] at h; cases h
  · rw [if_neg hl] at h
    exact ⟨by omega, chkFrom_ok l 0 h⟩
theorem dec_len (n : Nat) (h : n < 100) : (Lib.decDigits n).length ≤ 2 := by
  by_cases h1 : n < 10
  · rw [Lib.decDigits_one h1]; simp
  · rw [Lib.decDigits_two h1 h]; simp
/-- the text of the first k pins -/
def textTo (l : List (Int × Int)) (k : Nat) : List UInt8 := Lib.join ((l.take k).map Lk.pinText) [44]
theorem textTo_zero (l : List (Int × Int)) : textTo l 0 = [] := by simp [textTo, Lib.join]
theorem inter_snoc (sep : List UInt8) (a : List (List UInt8)) (x : List UInt8) (h : a ≠ []) : sep.intercalate (a ++ [x]) = sep.intercalate a ++ sep ++ x := by
  induction a with
  | nil => exact absurd rfl h
  | cons y r ih =>
    cases r with
    | nil => simp [List.intercalate, List.intersperse]
    | cons z r =>
      have := ih (by simp)
      simp only [List.cons_append, List.intercalate, List.intersperse, List.flatten_cons] at this ⊢
      rw [this]
      simp
theorem textTo_first (l : List (Int × Int)) (p : Int × Int) (h : l[0]? = some p) : textTo l 1 = Lk.pinText p := by
  unfold textTo
  rw [List.take_add_one, h]
  simp [Lib.join, List.intercalate]
theorem textTo_next (l : List (Int × Int)) (k : Nat) (hk : 0 < k) (p : Int × Int) (h : l[k]? = some p) : textTo l (k + 1) = textTo l k ++ [44] ++ Lk.pinText p := by
  unfold textTo
  rw [List.take_add_one, h]
  simp only [Option.toList, List.map_append, List.map_cons, List.map_nil, Lib.join]
  refine inter_snoc _ _ _ ?_
  intro e
  have hl := congrArg List.length e
  simp at hl
  have : k < l.length := (List.getElem?_eq_some_iff.1 h).1
  rcases hl with h | h
  · omega
  · subst h; simp at this
theorem textTo_all (l : List (Int × Int)) : textTo l l.length = Lk.text l := by unfold textTo Lk.text; rw [List.take_length]
theorem str_more (t a b : List UInt8) : (⟨t.toArray⟩ : ByteArray) ++ ⟨#[44]⟩ ++ (⟨a.toArray⟩ ++ ⟨#[64]⟩ ++ ⟨b.toArray⟩) = ⟨(t ++ [44] ++ (a ++ 64 :: b)).toArray⟩ := by
  apply WideShapes.bytes_inj; simp
theorem str_first (a b : List UInt8) : (⟨#[]⟩ : ByteArray) ++ (⟨a.toArray⟩ ++ ⟨#[64]⟩ ++ ⟨b.toArray⟩) = ⟨(a ++ 64 :: b).toArray⟩ := by
  apply WideShapes.bytes_inj; simp
set_option maxHeartbeats 400000 in
theorem lockText_none (a : Option Addr) (c : Nat) (w : World) :
    Calls Tryz.prog 50 #[.slice a 0 c] w fun e w' => e = .returned (.string ⟨#[]⟩) ∧ Below w.heap.size w w' := by
  go_enter Tryz.func50, Tryz.ntmps50
  go_wp2
  go_loopg [3, 8] 0 (fun g s3 s8 wr => s8 = .int .i64 0 ∧ s3 = .string ⟨#[]⟩ ∧ wr = w)
  case atStart => exact ⟨rfl, rfl, rfl⟩
  case round =>
    obtain ⟨rfl, rfl, rfl⟩ := hrel
    go_wp2
    go_ret
    exact ⟨rfl, Below.refl _ _⟩
set_option maxHeartbeats 2000000 in
theorem lockText_full (b o c : Nat) (l : List (Int × Int)) (w : World) (hl : l.length ≤ 12) (hr : ∀ p ∈ l, (1 ≤ p.1 ∧ p.1 ≤ 20) ∧ (1 ≤ p.2 ∧ p.2 ≤ 99)) (hP : PinCells w b o l) :
    Calls Tryz.prog 50 #[.slice (some ⟨b, o, none⟩) l.length c] w fun e w' => e = .returned (.string ⟨(Lk.text l).toArray⟩) ∧ Below w.heap.size w w' := by
  have HRg : Hid (∀ p ∈ l, (1 ≤ p.1 ∧ p.1 ≤ 20) ∧ (1 ≤ p.2 ∧ p.2 ≤ 99)) := hr
  clear hr
  go_enter Tryz.func50, Tryz.ntmps50
  go_wp2
  go_loopg [3, 8] l.length (fun g s3 s8 wr => ∃ k : Nat, ∃ t : List UInt8, k ≤ l.length ∧ l.length - k ≤ g ∧ s3 = .string ⟨t.toArray⟩ ∧ s8 = .int .i64 k ∧ t.length ≤ 6 * k ∧ Hid (t = textTo l k) ∧ Below w.heap.size w wr)
  case atStart => exact ⟨0, [], Nat.zero_le _, by omega, rfl, rfl, by simp, (textTo_zero l).symm, Below.refl _ _⟩
  case round =>
    obtain ⟨k, t, hk, hg, rfl, rfl, htl, HT, hb⟩ := hrel
    by_cases hlt : k < l.length
    · obtain ⟨g1, g2⟩ := (hP.below hb).2 k hlt
      obtain ⟨p, hp⟩ : ∃ p, l[k]? = some p := ⟨_, List.getElem?_eq_getElem hlt⟩
      have HPk : Hid (l[k]? = some p) := hp
      have hrg := HRg.out p (List.mem_of_getElem? hp)
      rw [List.getD_eq_getElem?_getD, hp] at g1 g2
      simp only [Option.getD_some] at g1 g2
      clear hp hP
      obtain ⟨x, y⟩ := p
      obtain ⟨⟨hx1, hx2⟩, hy1, hy2⟩ := hrg
      simp only at g1 g2 hx1 hx2 hy1 hy2
      obtain ⟨n, rfl⟩ := Int.eq_ofNat_of_zero_le (show 0 ≤ x by omega)
      obtain ⟨m, rfl⟩ := Int.eq_ofNat_of_zero_le (show 0 ≤ y by omega)
      have hn := dec_len n (by omega)
      have hm := dec_len m (by omega)
      by_cases hk0 : 0 < k
      · go_wp2_with fail
        go_quiet ((first | (go_at_call_of 42 (Value.int IntKind.i64 (n : Int)); exact Calls.quiet_of_same (Tryz.strconv_Itoa_small n (by omega) _)) | (go_at_call_of 42 (Value.int IntKind.i64 (m : Int)); exact Calls.quiet_of_same (Tryz.strconv_Itoa_small m (by omega) _))))
        go_wp2
        go_roundg (l.length - (k + 1))
        case measure => omega
        case rel => exact ⟨k + 1, t ++ [44] ++ (Lib.decDigits n ++ 64 :: Lib.decDigits m), by omega, by omega, by rw [str_more], by go_num, by simp; omega, by rw [textTo_next l k hk0 _ HPk.out, HT.out]; rfl, below_drewN (hb.alloc hb.size _) _⟩
      · have HK : Hid (k = 0) := by show k = 0; omega
        have ht0 : t = [] := by rw [HT.out, HK.out, textTo_zero]
        subst ht0
        clear htl HT
        go_wp2_with fail
        go_quiet ((first | (go_at_call_of 42 (Value.int IntKind.i64 (n : Int)); exact Calls.quiet_of_same (Tryz.strconv_Itoa_small n (by omega) _)) | (go_at_call_of 42 (Value.int IntKind.i64 (m : Int)); exact Calls.quiet_of_same (Tryz.strconv_Itoa_small m (by omega) _))))
        go_wp2
        go_roundg (l.length - (k + 1))
        case measure => omega
        case rel => exact ⟨k + 1, Lib.decDigits n ++ 64 :: Lib.decDigits m, by omega, by omega, by rw [← str_first], by go_num, by simp; omega, by rw [HK.out, textTo_first l _ (by rw [← HK.out]; exact HPk.out)]; rfl, below_drewN (hb.alloc hb.size _) _⟩
    · have hk' : k = l.length := by omega
      have HE : Hid (t = Lk.text l) := by rw [HT.out, hk', textTo_all]; rfl
      subst hk'
      clear hk hlt hP HT htl
      go_wp2
      go_ret
      exact ⟨by rw [HE.out]; rfl, hb⟩
theorem lockText_any (v : Value) (l : List (Int × Int)) (w : World) (hP : PinsAt w v l) (hc : Lk.chk l = 0) :
    Calls Tryz.prog 50 #[v] w fun e w' => e = .returned (.string ⟨(Lk.text l).toArray⟩) ∧ Below w.heap.size w w' := by
  obtain ⟨hl, hr⟩ := chk_ok hc
  obtain ⟨_, c, ⟨rfl, a, rfl⟩ | ⟨b, o, rfl, hc⟩⟩ := hP
  · exact lockText_none a c w
  · exact lockText_full b o c l w hl hr hc
end Go.Proofs.YtlnbcgjahjjpfacGreatDoor
