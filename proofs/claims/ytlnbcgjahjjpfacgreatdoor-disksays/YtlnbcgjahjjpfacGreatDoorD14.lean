/- The contract of slices.Concat of two slices of bytes. -/
import Derived.Test.YtlnbcgjahjjpfacGreatDoorD13
namespace Go.Proofs.YtlnbcgjahjjpfacGreatDoor
open Go.RowKit
theorem bytes_from_src {w : World} {p : Option Addr} {n c : Nat} {l : List UInt8} (h : BytesAt w (.slice p n c) l) : (p = none → c = 0 ∧ n = 0) ∧ ∀ ad, p = some ad → ∀ j u, (cellsB l)[j]? = some u → w.cell? (ad.add j) = some u := by
  have h' := h
  obtain ⟨_, c', hc, ⟨rfl, a, e, ha⟩ | ⟨b, o, e, _, h3⟩⟩ := h
  · simp only [Value.slice.injEq] at e
    obtain ⟨rfl, rfl, rfl⟩ := e
    exact ⟨fun e => ⟨ha e, rfl⟩, fun ad _ j u hu => by simp [cellsB, numsB] at hu⟩
  · simp only [Value.slice.injEq] at e
    obtain ⟨rfl, rfl, rfl⟩ := e
    refine ⟨(fun e => by cases e), fun ad e j u hu => ?_⟩
    obtain ⟨ad', e1, e2⟩ := bytes_src h' (by
      have := (List.getElem?_eq_some_iff.1 hu).1
      rw [cellsB_len] at this
      omega)
    cases e
    cases e1
    exact e2 j u hu
set_option maxHeartbeats 4000000 in
set_option maxRecDepth 100000 in
theorem concatB_any (b : Nat) (v u : Value) (l m : List UInt8) (w : World) (h0 : w.cell? ⟨b, 0, none⟩ = some v) (h1 : w.cell? ⟨b, 1, none⟩ = some u) (hP : BytesAt w v l) (hQ : BytesAt w u m) (hlm : l.length + m.length ≤ 1000000) :
    Calls Tryz.prog 35 #[.slice (some ⟨b, 0, none⟩) 2 2] w fun e w' => (∃ x, e = .returned x ∧ NewBytes w.heap.size w' x (l ++ m)) ∧ Below w.heap.size w w' := by
  obtain ⟨p, c, rfl⟩ := bytes_slice hP
  obtain ⟨q, d, rfl⟩ := bytes_slice hQ
  have HP : Hid (BytesAt w (.slice p l.length c) l) := hP
  have HQ : Hid (BytesAt w (.slice q m.length d) m) := hQ
  have HC0 : Hid (∀ w', Below w.heap.size w w' → w'.cell? ⟨b, 0, none⟩ = some (.slice p l.length c) ∧ w'.cell? ⟨b, 1, none⟩ = some (.slice q m.length d)) := fun w' hb => ⟨(hb.cell (p := ⟨b, 0, none⟩) (World.block_lt_of_cell? w _ h0)).trans h0, (hb.cell (p := ⟨b, 1, none⟩) (World.block_lt_of_cell? w _ h1)).trans h1⟩
  clear hP hQ
  obtain ⟨i0, hi, hz0, hz1, hz2⟩ := info_parts Tryz.info5
  go_enter Tryz.func35, Tryz.ntmps35
  go_wp2
  go_loopg [3, 11] 2 (fun g s3 s11 wr => ∃ k : Nat, 2 - k ≤ g ∧ wr = w ∧ ((k = 0 ∧ s11 = .int .i64 0 ∧ s3 = .int .i64 0) ∨ (k = 1 ∧ s11 = .int .i64 1 ∧ s3 = .int .i64 (l.length : Int)) ∨ (k = 2 ∧ s11 = .int .i64 2 ∧ s3 = .int .i64 ((l.length : Int) + (m.length : Int)))))
  case atStart => exact ⟨0, by omega, rfl, .inl ⟨rfl, rfl, rfl⟩⟩
  case round =>
    obtain ⟨k, hg, hw, hcase⟩ := hrel
    replace hw := hw.symm
    subst hw
    rcases hcase with ⟨rfl, rfl, rfl⟩ | ⟨rfl, rfl, rfl⟩ | ⟨rfl, rfl, rfl⟩
    · go_wp2
      go_roundg 1
      case measure => omega
      case rel => exact ⟨1, by omega, rfl, .inr (.inl ⟨rfl, by go_num, by go_num⟩)⟩
    · go_wp2
      go_roundg 0
      case measure => omega
      case rel => exact ⟨2, by omega, rfl, .inr (.inr ⟨rfl, by go_num, by go_num⟩)⟩
    · have HGr : Hid (Calls Tryz.prog 51 #[.slice none 0 0, .int .i64 ((l.length : Int) + (m.length : Int))] w fun e w' => ∃ v, e = .returned v ∧ w'.ownsRow w.heap.size 5 1 v 0 [] ∧ Below w.heap.size w w') := by
        have := growB_any (l.length + m.length) hlm w
        rwa [Int.natCast_add] at this
      go_wp2_with fail
      refine HGr.out.mono ?_
      rintro e w1 ⟨v1, rfl, ho, hb1⟩
      obtain ⟨va, vc, rfl⟩ := slice_of_owns ho
      have HO1 : Hid (w1.ownsRow w.heap.size 5 1 (.slice va 0 vc) 0 []) := ho
      have HB1 : Hid (Below w.heap.size w w1) := hb1
      clear ho hb1 HGr h0 h1
      go_wp2
      go_loopg [6, 27] 2 (fun g s6 s27 wr => ∃ k : Nat, 2 - k ≤ g ∧ Hid (Below w.heap.size w wr) ∧ ((k = 0 ∧ s27 = .int .i64 0 ∧ Hid (wr.ownsRow w.heap.size 5 1 s6 0 [])) ∨ (k = 1 ∧ s27 = .int .i64 1 ∧ Hid (wr.ownsRow w.heap.size 5 1 s6 l.length (cellsB l))) ∨ (k = 2 ∧ s27 = .int .i64 2 ∧ Hid (wr.ownsRow w.heap.size 5 1 s6 (l.length + m.length) (cellsB l ++ cellsB m)))))
      case atStart => exact ⟨0, by omega, HB1, .inl ⟨rfl, rfl, HO1⟩⟩
      case round =>
        obtain ⟨k, hg, HBr, hcase⟩ := hrel
        rcases hcase with ⟨rfl, rfl, HOr⟩ | ⟨rfl, rfl, HOr⟩ | ⟨rfl, rfl, HOr⟩
        · skip
          obtain ⟨hp, hsrc⟩ := bytes_from_src (HP.out.below HBr.out)
          obtain ⟨k0, k1⟩ := HC0.out _ HBr.out
          obtain ⟨sa, sc, rfl⟩ := slice_of_owns HOr.out
          have hws : w.heap.size ≤ wr.heap.size := HBr.out.size
          have HSc : Hid ((∀ ad, p = some ad → ∀ j u, (cellsB l)[j]? = some u → wr.cell? (ad.add j) = some u)) := hsrc
          have HPp : Hid (p = none → c = 0 ∧ l.length = 0) := hp
          obtain ⟨X, hX⟩ : ∃ X, X = cellsB l := ⟨_, rfl⟩
          have HX : Hid (X = cellsB l) := hX
          rw [← hX] at HSc
          clear hp hsrc hX
          go_wp2_with (at_builtin; refine wpList_append_src rfl (.tmp 31) (.tmp 32) 22 rfl w.heap.size 5 i0 (.int .u8 0) 1 1 Tryz.underlying22 hi hz0 hz1 hz2 rfl (by decide) _ 0 [] rfl HOr.out p l.length c X rfl HPp.out ?k1 HSc.out ?k2 ?k3 ?k4 hws ?_)
          case k1 => rw [HX.out, cellsB_len, Nat.mul_one]
          case k2 => rw [HX.out]; exact cellsB_one l
          case k3 => unfold maxLen; omega
          case k4 => omega
          intro v' w3 hown hgrow _
          have HO3 : Hid (w3.ownsRow w.heap.size 5 1 v' l.length (cellsB l)) := by rw [← HX.out]; exact hown
          have HB3 : Hid (Below w.heap.size w w3) := HBr.out.grown hgrow hws (fun q hq => (HOr.out.lt q hq).1)
          clear hown hgrow HOr k0 k1 HSc HPp
          go_wp2
          go_roundg 1
          case measure => omega
          case rel => exact ⟨1, by omega, HB3, .inr (.inl ⟨rfl, by go_num, HO3⟩)⟩
        · skip
          obtain ⟨hp, hsrc⟩ := bytes_from_src (HQ.out.below HBr.out)
          obtain ⟨k0, k1⟩ := HC0.out _ HBr.out
          obtain ⟨sa, sc, rfl⟩ := slice_of_owns HOr.out
          have hws : w.heap.size ≤ wr.heap.size := HBr.out.size
          have HSc : Hid ((∀ ad, q = some ad → ∀ j u, (cellsB m)[j]? = some u → wr.cell? (ad.add j) = some u)) := hsrc
          have HPp : Hid (q = none → d = 0 ∧ m.length = 0) := hp
          obtain ⟨X, hX⟩ : ∃ X, X = cellsB m := ⟨_, rfl⟩
          have HX : Hid (X = cellsB m) := hX
          rw [← hX] at HSc
          clear hp hsrc hX
          go_wp2_with (at_builtin; refine wpList_append_src rfl (.tmp 31) (.tmp 32) 22 rfl w.heap.size 5 i0 (.int .u8 0) 1 1 Tryz.underlying22 hi hz0 hz1 hz2 rfl (by decide) _ l.length (cellsB l) rfl HOr.out q m.length d X rfl HPp.out ?k1 HSc.out ?k2 ?k3 ?k4 hws ?_)
          case k1 => rw [HX.out, cellsB_len, Nat.mul_one]
          case k2 => rw [HX.out]; exact cellsB_one m
          case k3 => unfold maxLen; omega
          case k4 => omega
          intro v' w3 hown hgrow _
          have HO3 : Hid (w3.ownsRow w.heap.size 5 1 v' (l.length + m.length) (cellsB l ++ cellsB m)) := by rw [← HX.out]; exact hown
          have HB3 : Hid (Below w.heap.size w w3) := HBr.out.grown hgrow hws (fun q hq => (HOr.out.lt q hq).1)
          clear hown hgrow HOr k0 k1 HSc HPp
          go_wp2
          go_roundg 0
          case measure => omega
          case rel => exact ⟨2, by omega, HB3, .inr (.inr ⟨rfl, by go_num, HO3⟩)⟩
        · obtain ⟨sa, sc, rfl⟩ := slice_of_owns HOr.out
          have hO := HOr.out
          rw [← cellsB_app] at hO
          have HN : Hid (NewBytes w.heap.size wr (.slice sa (l.length + m.length) sc) (l ++ m)) := bytes_owns (n := l.length + m.length) (by simp) (by simp; omega) hO
          clear hO
          go_wp2
          go_ret
          exact ⟨⟨_, rfl, HN.out⟩, HBr.out⟩
end Go.Proofs.YtlnbcgjahjjpfacGreatDoor
