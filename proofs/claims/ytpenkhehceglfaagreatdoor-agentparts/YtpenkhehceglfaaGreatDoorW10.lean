/- The contract of lock.Print. -/
import Derived.Test.YtpenkhehceglfaaGreatDoorW9
import Derived.Deep.RegionWith
namespace Go.Proofs.YtpenkhehceglfaaGreatDoor
open Go.RowKit
theorem Tryz.info9 : (Tryz.prog.info? 9).map (fun i => (i.zero, i.size, i.bytes)) = some (some (.string ⟨#[]⟩), 1, 16) := by kernel_rfl
/-- the words written so far, and the empty ones behind them -/
def wordsTo (l : List (Int × Int)) (k : Nat) : List Value := (l.take k).map (fun p => Value.string ⟨(Lk.pinText p).toArray⟩) ++ List.replicate (l.length - k) (.string ⟨#[]⟩)
theorem wordsTo_zero (l : List (Int × Int)) : wordsTo l 0 = List.replicate l.length (.string ⟨#[]⟩) := by simp [wordsTo]
theorem wordsTo_len (l : List (Int × Int)) (k : Nat) (h : k ≤ l.length) : (wordsTo l k).length = l.length := by simp [wordsTo]; omega
theorem wordsTo_at (l : List (Int × Int)) (k : Nat) (h : k < l.length) : (wordsTo l k)[k]? = some (.string ⟨#[]⟩) := by
  unfold wordsTo
  have e2 : min k l.length = k := by omega
  rw [List.getElem?_append_right (by simp; omega)]
  simp [e2, List.getElem?_replicate]; omega
theorem wordsTo_next (l : List (Int × Int)) (k : Nat) (p : Int × Int) (h : l[k]? = some p) : (wordsTo l k).set k (.string ⟨(Lk.pinText p).toArray⟩) = wordsTo l (k + 1) := by
  have hk : k < l.length := (List.getElem?_eq_some_iff.1 h).1
  unfold wordsTo
  rw [List.set_append_right _ _ (by simp; omega), List.take_add_one, h]
  have e : l.length - k = (l.length - (k + 1)) + 1 := by omega
  have e2 : min k l.length = k := by omega
  rw [e, List.replicate_succ]
  simp [e2]
theorem wordsTo_all (l : List (Int × Int)) : wordsTo l l.length = l.map (fun p => Value.string ⟨(Lk.pinText p).toArray⟩) := by simp [wordsTo]
theorem made_words (n : Nat) : (madeCells #[Value.string ⟨#[]⟩] n).toList = List.replicate n (.string ⟨#[]⟩) := by
  have h : ∀ x : Nat, [Value.string ⟨#[]⟩][x % 1]?.getD default = Value.string ⟨#[]⟩ := fun x => by rw [Nat.mod_one]; rfl
  simp [madeCells, h, List.map_const']
theorem pin_len (p : Int × Int) (h : (1 ≤ p.1 ∧ p.1 ≤ 20) ∧ (1 ≤ p.2 ∧ p.2 ≤ 99)) : (Lk.pinText p).length ≤ 5 := by
  have h1 := dec_len p.1.toNat (by omega)
  have h2 := dec_len p.2.toNat (by omega)
  simp [Lk.pinText]; omega
theorem inter_len (a : List (List UInt8)) (h : ∀ x ∈ a, x.length ≤ 5) : (([44] : List UInt8).intercalate a).length ≤ 6 * a.length := by
  induction a with
  | nil => simp [List.intercalate]
  | cons x r ih =>
    have hx := h x (by simp)
    have hr := ih (fun y hy => h y (by simp [hy]))
    cases r with
    | nil => simp [List.intercalate]; omega
    | cons z r =>
      simp only [List.intercalate, List.intersperse, List.flatten_cons, List.length_append, List.length_cons, List.length_nil] at hr ⊢
      omega
theorem text_len (l : List (Int × Int)) (hr : ∀ p ∈ l, (1 ≤ p.1 ∧ p.1 ≤ 20) ∧ (1 ≤ p.2 ∧ p.2 ≤ 99)) : (Lk.text l).length ≤ 6 * l.length := by
  have := inter_len (l.map Lk.pinText) (fun x hx => by obtain ⟨p, hp, rfl⟩ := List.mem_map.1 hx; exact pin_len p (hr p hp))
  simpa [Lk.text, Lib.join] using this
theorem join_any (g : Nat) (l : List (Int × Int)) (w : World) (hO : w.ownsRow g 9 1 (.slice (some ⟨g, 0, none⟩) l.length l.length) l.length (l.map fun p => Value.string ⟨(Lk.pinText p).toArray⟩)) (hl : l.length ≤ 12)
    (hr : ∀ p ∈ l, (1 ≤ p.1 ∧ p.1 ≤ 20) ∧ (1 ≤ p.2 ∧ p.2 ≤ 99)) :
    Calls Tryz.prog 83 #[.slice (some ⟨g, 0, none⟩) l.length l.length, .string ⟨#[44]⟩] w fun e w' => e = .returned (.string ⟨(Lk.text l).toArray⟩) ∧ Below w.heap.size w w' := by
  have e : ((l.map fun p => (⟨(Lk.pinText p).toArray⟩ : ByteArray)).map (·.data.toList)) = l.map Lk.pinText := by
    rw [List.map_map]; exact List.map_congr_left (fun p _ => by simp)
  have hj := Tryz.strings_Join g 0 l.length (l.map fun p => (⟨(Lk.pinText p).toArray⟩ : ByteArray)) ⟨#[44]⟩ w (fun j x hx => by
      have hj : j < l.length := by have := (List.getElem?_eq_some_iff.1 hx).1; simpa using this
      rw [Nat.zero_add, hO.cellAt j (by omega)]
      rw [List.getElem?_map] at hx ⊢
      cases hq : l[j]? with
      | none => rw [hq] at hx; simp at hx
      | some q => rw [hq] at hx; simp at hx; subst hx; rfl) (hO.lt _ rfl).2 (by simp; omega) (by simp) (by
      rw [e]
      have := text_len l hr
      unfold Lk.text at this
      exact Nat.le_trans this (by omega))
  rw [List.length_map, e] at hj
  exact hj
theorem str_pin (n m : Nat) : (⟨(Lib.decDigits n).toArray⟩ : ByteArray) ++ ⟨#[64]⟩ ++ ⟨(Lib.decDigits m).toArray⟩ = ⟨(Lk.pinText ((n : Int), (m : Int))).toArray⟩ := by
  apply WideShapes.bytes_inj; simp [Lk.pinText]
set_option maxHeartbeats 4000000 in
set_option maxRecDepth 100000 in
theorem print_full (v : Value) (l : List (Int × Int)) (w : World) (hP : PinsAt w v l) (hc : Lk.chk l = 0) :
    Calls Tryz.prog 81 #[v] w fun e w' => e = .returned (.tuple #[.string ⟨(Lk.text l).toArray⟩, .int .i64 0]) ∧ Below w.heap.size w w' := by
  obtain ⟨hl, hr⟩ := chk_ok hc
  have HRg : Hid (∀ p ∈ l, (1 ≤ p.1 ∧ p.1 ≤ 20) ∧ (1 ≤ p.2 ∧ p.2 ≤ 99)) := hr
  have HP : Hid (PinsAt w v l) := hP
  obtain ⟨a, c, hv⟩ : ∃ a c, v = .slice a l.length c := by
    obtain ⟨_, c, ⟨rfl, a, rfl⟩ | ⟨b, o, rfl, _⟩⟩ := hP
    · exact ⟨a, c, rfl⟩
    · exact ⟨_, c, rfl⟩
  subst hv
  clear hr hP
  obtain ⟨i0, hi, hz0, hz1, hz2⟩ := info_parts Tryz.info9
  go_enter Tryz.func81, Tryz.ntmps81
  go_wp2_with fail
  refine (check_any _ l _ HP.out).mono ?_
  rintro e w1 ⟨rfl, hb1⟩
  rw [hc]
  clear hc
  have hbb : i0.bytes * l.length ≤ 281474976710656 := by rw [hz2]; omega
  go_wp2_with (at_make; refine wpList_make_full _ rfl (.tmp 14) (.tmp 14) 148 rfl w1.heap.size 9 i0 (.string ⟨#[]⟩) 1 Tryz.underlying148 hi hz0 hz1 .i64 .i64 _ _ l.length rfl rfl rfl rfl hbb (by unfold maxLen; omega) (Nat.le_refl _) ?_)
  intro w2 hown hgrow
  rw [made_words, ← wordsTo_zero] at hown
  have HOw : Hid (w2.ownsRow w1.heap.size 9 1 (.slice (some ⟨w1.heap.size, 0, none⟩) l.length l.length) l.length (wordsTo l 0)) := hown
  have HB2 : Hid (Below w1.heap.size w1 w2) := (Below.refl _ _).grown hgrow (Nat.le_refl _) (fun k hk => by cases hk)
  have HB1 : Hid (Below w.heap.size w w1) := hb1
  clear hown hgrow hb1 hbb
  go_wp2_with fail
  go_loopg [18] l.length (fun g s18 wr => ∃ k : Nat, k ≤ l.length ∧ l.length - k ≤ g ∧ s18 = .int .i64 k ∧ Hid (wr.ownsRow w1.heap.size 9 1 (.slice (some ⟨w1.heap.size, 0, none⟩) l.length l.length) l.length (wordsTo l k)) ∧ Hid (Below w1.heap.size w1 wr))
  case atStart => exact ⟨0, Nat.zero_le _, by omega, rfl, HOw, HB2⟩
  case round =>
    obtain ⟨k, hk, hg, rfl, HO, HBr⟩ := hrel
    by_cases hlt : k < l.length
    · obtain ⟨b, o, hab, hPc⟩ : ∃ b o, a = some ⟨b, o, none⟩ ∧ PinCells w b o l := by
        obtain ⟨_, c', ⟨e, _⟩ | ⟨b, o, e, h⟩⟩ := HP.out
        · rw [e] at hlt; simp at hlt
        · simp only [Value.slice.injEq] at e; exact ⟨b, o, e.1, h⟩
      subst hab
      obtain ⟨g1, g2⟩ := ((hPc.below HB1.out).below HBr.out).2 k hlt
      obtain ⟨p, hp⟩ : ∃ p, l[k]? = some p := ⟨_, List.getElem?_eq_getElem hlt⟩
      have HPk : Hid (l[k]? = some p) := hp
      have hrg := HRg.out p (List.mem_of_getElem? hp)
      rw [List.getD_eq_getElem?_getD, hp] at g1 g2
      simp only [Option.getD_some] at g1 g2
      clear hp hPc
      obtain ⟨x, y⟩ := p
      obtain ⟨⟨hx1, hx2⟩, hy1, hy2⟩ := hrg
      simp only at g1 g2 hx1 hx2 hy1 hy2
      obtain ⟨n, rfl⟩ := Int.eq_ofNat_of_zero_le (show 0 ≤ x by omega)
      obtain ⟨m, rfl⟩ := Int.eq_ofNat_of_zero_le (show 0 ≤ y by omega)
      have hn := dec_len n (by omega)
      have hm := dec_len m (by omega)
      have hgs : w1.heap.size < wr.heap.size := (HO.out.lt _ rfl).2
      have k1 : wr.cell? ⟨w1.heap.size, k, none⟩ = some (.string ⟨#[]⟩) := (HO.out.cellAt k (by omega)).trans (wordsTo_at l k hlt)
      have k2 : wr.frozen? ⟨w1.heap.size, k, none⟩ = false := HO.out.frozenAt k
      have HS : Hid (∀ ob, ((wr.setCell ⟨w1.heap.size, k, none⟩ (.string (⟨(Lib.decDigits n).toArray⟩ ++ ⟨#[64]⟩ ++ ⟨(Lib.decDigits m).toArray⟩))).alloc ob).drew.ownsRow w1.heap.size 9 1 (.slice (some ⟨w1.heap.size, 0, none⟩) l.length l.length) l.length (wordsTo l (k + 1))) := fun ob => by
        rw [← wordsTo_next l k _ HPk.out, str_pin]
        exact ((HO.out.stored k _).1.alloc ob).drew
      have HBS : Hid (∀ ob u, Below w1.heap.size w1 ((wr.setCell ⟨w1.heap.size, k, none⟩ u).alloc ob).drew) := fun ob u => ((HBr.out.setCell (p := ⟨w1.heap.size, k, none⟩) (Nat.le_refl _) u).alloc (by simp [World.setCell]; omega) ob).drew
      clear HO HBr
      go_wp2_with fail
      go_region_with (first | (go_at_call_of 82 (Value.int IntKind.i64 (n : Int)); refine (Tryz.strconv_Itoa_small n (by omega) _).mono ?_; rintro e w' ⟨rfl, rfl⟩) | (go_at_call_of 82 (Value.int IntKind.i64 (m : Int)); refine (Tryz.strconv_Itoa_small m (by omega) _).mono ?_; rintro e w' ⟨rfl, rfl⟩))
      all_goals
        go_wp2
        go_roundg (l.length - (k + 1))
        case measure => omega
        case rel => exact ⟨k + 1, by omega, by omega, by go_num, HS.out _, HBS.out _ _⟩
    · have hk' : k = l.length := by omega
      subst hk'
      rw [wordsTo_all] at HO
      clear hk hlt hg
      have HB3 : Hid (Below w.heap.size w wr) := HB1.out.trans (HBr.out.mono HB1.out.size)
      go_wp2_with fail
      refine (join_any _ l _ HO.out hl HRg.out).mono ?_
      rintro e w3 ⟨rfl, hb3⟩
      go_wp2
      go_ret2
      exact ⟨rfl, HB3.out.trans (hb3.mono HB3.out.size)⟩
set_option maxHeartbeats 1000000 in
theorem print_bad (v : Value) (l : List (Int × Int)) (w : World) (hP : PinsAt w v l) (hc : ¬ Lk.chk l = 0) :
    Calls Tryz.prog 81 #[v] w fun e w' => e = .returned (.tuple #[.string ⟨#[]⟩, .int .i64 (Lk.chk l)]) ∧ Below w.heap.size w w' := by
  have HP : Hid (PinsAt w v l) := hP
  have HC : Hid (¬ Lk.chk l = 0) := hc
  clear hP hc
  go_enter Tryz.func81, Tryz.ntmps81
  go_wp2_with fail
  refine (check_any _ l _ HP.out).mono ?_
  rintro e w1 ⟨rfl, hb1⟩
  have hc' : (Lk.chk l != 0) = true := by rw [bne_iff_ne]; exact HC.out
  generalize hq : Lk.chk l = c at hc'
  have HQ : Hid (Lk.chk l = c) := hq
  clear hq HC
  go_wp2
  go_ret2
  exact ⟨by rw [HQ.out]; rfl, hb1⟩
/-- what Print answers: the text, and what is wrong -/
def printed (l : List (Int × Int)) : List UInt8 := if Lk.chk l = 0 then Lk.text l else []
theorem print_any (v : Value) (l : List (Int × Int)) (w : World) (hP : PinsAt w v l) :
    Calls Tryz.prog 81 #[v] w fun e w' => e = .returned (.tuple #[.string ⟨(printed l).toArray⟩, .int .i64 (Lk.chk l)]) ∧ Below w.heap.size w w' := by
  by_cases hc : Lk.chk l = 0
  · rw [show printed l = Lk.text l from if_pos hc, hc]
    exact print_full v l w hP hc
  · rw [show printed l = [] from if_neg hc]
    exact print_bad v l w hP hc
end Go.Proofs.YtpenkhehceglfaaGreatDoor
