/- Slices of bytes; the contract of the document's CheckDisk. -/
import Derived.Test.YtlnbcgjahjjpfacGreatDoorD2
import Derived.Laws.BytesArg
namespace Go.Proofs.YtlnbcgjahjjpfacGreatDoor
open Go.RowKit
/-- a slice of bytes, the empty and the nil one too -/
def BytesAt (w : World) (v : Value) (l : List UInt8) : Prop :=
  l.length ≤ 140737488355328 ∧ ∃ c, l.length ≤ c ∧ ((l = [] ∧ ∃ a, v = .slice a 0 c ∧ (a = none → c = 0)) ∨ (∃ b o, v = .slice (some ⟨b, o, none⟩) l.length c ∧ b < w.heap.size ∧ ∀ j, j < l.length → w.cell? ⟨b, o + j, none⟩ = some (.int .u8 ((l.getD j 0).toNat : Int))))
theorem BytesAt.below {w w' : World} {v : Value} {l : List UInt8} (h : BytesAt w v l) (hb : Below w.heap.size w w') : BytesAt w' v l := by
  obtain ⟨hl, c, hc, h | ⟨b, o, h1, h2, h3⟩⟩ := h
  · exact ⟨hl, c, hc, .inl h⟩
  · exact ⟨hl, c, hc, .inr ⟨b, o, h1, Nat.lt_of_lt_of_le h2 hb.size, fun j hj => (hb.cell (p := ⟨b, o + j, none⟩) h2).trans (h3 j hj)⟩⟩
theorem bytes_slice {w : World} {v : Value} {l : List UInt8} (h : BytesAt w v l) : ∃ a c, v = .slice a l.length c := by
  obtain ⟨_, c, _, ⟨rfl, a, rfl, _⟩ | ⟨b, o, rfl, _⟩⟩ := h
  · exact ⟨a, c, rfl⟩
  · exact ⟨_, c, rfl⟩
theorem bytes_none (w : World) : BytesAt w (.slice none 0 0) [] := ⟨by simp, 0, by simp, .inl ⟨rfl, none, rfl, fun _ => rfl⟩⟩
theorem nums_back (l : List UInt8) : strOfNums (l.map fun b => (b.toNat : Int)) = ⟨l.toArray⟩ := by
  unfold strOfNums
  rw [List.map_map]
  have : ((fun n : Int => UInt8.ofNat n.toNat) ∘ fun b : UInt8 => (b.toNat : Int)) = id := by funext b; simp
  rw [this, List.map_id]
/-- 'string(b)' -/
theorem str_of {w : World} {v : Value} {l : List UInt8} (h : BytesAt w v l) : (convert 22 9 v).run Tryz.prog w = .ok (.string ⟨l.toArray⟩) w := by
  obtain ⟨_, c, _, ⟨rfl, a, rfl, _⟩ | ⟨b, o, rfl, _, h3⟩⟩ := h
  · cases a with
    | none => exact run_convert_bytes_nil w 22 5 Tryz.underlying22 Tryz.underlying5 0 c 9 Tryz.underlying9
    | some ad =>
      have hl : (loadCells ad 0).run Tryz.prog w = .ok (([] : List Int).map (Value.int .u8)).toArray w := by
        have := run_loadCells_list (P := Tryz.prog) w ad [] (fun j v hj => by simp at hj)
        simpa using this
      rw [run_convert_bytes_string w 22 9 5 _ 0 c Tryz.underlying22 Tryz.underlying5 Tryz.underlying9, run_bytesToString w _ 0 c [] hl]
      rfl
  · have := run_convert_bytes_arg w 22 5 Tryz.underlying22 Tryz.underlying5 b o l.length c (l.map fun b => (b.toNat : Int)) (by simp) (fun i hi => by
      rw [h3 i hi]
      congr 2
      simp [List.getElem?_eq_getElem hi]) 9 Tryz.underlying9
    rw [nums_back] at this
    exact this
theorem chk_many {d : Lk.Disk} (h : Lk.tooMany d = true) : Lk.chkDisk d = 2 := by unfold Lk.chkDisk; rw [if_pos h]
theorem chk_lines {d : Lk.Disk} (h : Lk.tooMany d = false) : Lk.chkDisk d = (Lk.linesOf d.safe 200).2.2 := by unfold Lk.chkDisk; rw [if_neg (by rw [h]; decide)]
set_option maxHeartbeats 2000000 in
set_option maxRecDepth 100000 in
theorem checkDiskR_any (vs vw : Value) (ls lw : List UInt8) (w : World) (hE : Env w) (hS : BytesAt w vs ls) (hW : BytesAt w vw lw) :
    Calls Tryz.prog 9 #[.agg #[vs, vw]] w fun e w' => e = .returned (.int .i64 (Lk.chkDisk ⟨ls, lw⟩)) ∧ Below w.heap.size w w' := by
  obtain ⟨a, c, rfl⟩ := bytes_slice hS
  obtain ⟨a', c', rfl⟩ := bytes_slice hW
  have HE : Hid (Env w) := hE
  have HS : Hid (BytesAt w (.slice a ls.length c) ls) := hS
  have hsl := hS.1
  have hwl := hW.1
  have HB0 : Hid (Below w.heap.size w (w.alloc (.cells #[.slice a ls.length c, .slice a' lw.length c'] 24))) := (Below.refl _ w).alloc (Nat.le_refl _) _
  clear hE hS hW
  by_cases h1 : 60000 < ls.length
  · have HQ : Hid (Lk.chkDisk ⟨ls, lw⟩ = 2) := chk_many (by simp only [Lk.tooMany, Bool.or_eq_true, decide_eq_true_eq]; omega)
    have h1' : (60000 : Int) < (ls.length : Int) := by omega
    generalize Lk.chkDisk ⟨ls, lw⟩ = CD at HQ ⊢
    go_enter Tryz.func9, Tryz.ntmps9
    go_wp2
    go_ret
    exact ⟨by rw [HQ.out]; rfl, HB0.out⟩
  · by_cases h2 : 60000 - ls.length < lw.length
    · have HQ : Hid (Lk.chkDisk ⟨ls, lw⟩ = 2) := chk_many (by simp only [Lk.tooMany, Bool.or_eq_true, decide_eq_true_eq]; omega)
      have h1' : (ls.length : Int) ≤ 60000 := by omega
      have h2' : (60000 : Int) - (ls.length : Int) < (lw.length : Int) := by omega
      generalize Lk.chkDisk ⟨ls, lw⟩ = CD at HQ ⊢
      go_enter Tryz.func9, Tryz.ntmps9
      go_wp2
      go_ret
      exact ⟨by rw [HQ.out]; rfl, HB0.out⟩
    · have HQ : Hid (Lk.chkDisk ⟨ls, lw⟩ = (Lk.linesOf ls 200).2.2) := chk_lines (by simp only [Lk.tooMany, Bool.or_eq_false_iff, decide_eq_false_iff_not]; omega)
      have h1' : (ls.length : Int) ≤ 60000 := by omega
      have h2' : (lw.length : Int) ≤ (60000 : Int) - (ls.length : Int) := by omega
      have HL : Hid (∀ w, Env w → Calls Tryz.prog 31 #[.string ⟨ls.toArray⟩, .int .i64 200] w fun e w' => linedR w.heap.size w' (Lk.linesOf ls 200) e ∧ Below w.heap.size w w') := fun w hE => linesR_any ⟨ls.toArray⟩ (by show ls.toArray.size ≤ 60000; rw [List.size_toArray]; omega) 200 (by decide) w hE
      have hcv := str_of (HS.out.below HB0.out)
      generalize Lk.chkDisk ⟨ls, lw⟩ = CD at HQ ⊢
      generalize Lk.linesOf ls 200 = Q at HQ HL
      generalize (⟨ls.toArray⟩ : ByteArray) = S at HL hcv
      go_enter Tryz.func9, Tryz.ntmps9
      go_wp2_with fail
      refine (HL.out _ (HE.out.below HB0.out)).mono ?_
      rintro e w1 ⟨⟨v, ps, rfl, _, _, _⟩, hb1⟩
      go_wp2
      go_ret
      exact ⟨by rw [HQ.out]; rfl, HB0.out.trans (hb1.mono HB0.out.size)⟩
end Go.Proofs.YtlnbcgjahjjpfacGreatDoor
