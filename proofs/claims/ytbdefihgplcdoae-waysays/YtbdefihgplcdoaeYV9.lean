/- The contract of slices.Delete at mail: one piece of a row of the call's own. -/
import Derived.Test.YtbdefihgplcdoaeYV8
import Derived.Deep.RegionLaw
namespace Go.Proofs.Ytbdefihgplcdoae
open Go.RowKit
theorem Keep.setCells {S : Nat → Prop} {Q : World → Prop} {g : Nat} (hg : S g) : ∀ (vs : List Value) (o : Nat) (w : World), Keep S Q w → Keep S Q (w.setCells g o vs)
  | [], _, _, h => h
  | v :: r, o, w, h => by rw [World.setCells]; exact Keep.setCells hg r (o + 1) _ (h.set (a := ⟨g, o, none⟩) hg v)
theorem below_setCellsM {B g : Nat} {a : World} (hb : B ≤ g) : ∀ (vs : List Value) (o : Nat) (w : World), Below B a w → Below B a (w.setCells g o vs)
  | [], _, _, h => h
  | v :: r, o, w, h => by rw [World.setCells]; exact below_setCellsM hb r (o + 1) _ (h.setCell hb _)
theorem size_setCellsM (g : Nat) : ∀ (vs : List Value) (o : Nat) (w : World), (w.setCells g o vs).heap.size = w.heap.size
  | [], _, _ => rfl
  | v :: r, o, w => by rw [World.setCells, size_setCellsM g r, World.size_setCell]
theorem isSome_setCellsM (g : Nat) (vs : List Value) (o : Nat) (w : World) (h : ∀ j, j < vs.length → (w.cell? ⟨g, o + j, none⟩).isSome = true) (k : Nat) (hk : (w.cell? ⟨g, k, none⟩).isSome = true) : ((w.setCells g o vs).cell? ⟨g, k, none⟩).isSome = true := by
  by_cases hi : o ≤ k ∧ k < o + vs.length
  · have := World.cell?_setCells_in g vs o w h (k - o) (by omega)
    rw [show o + (k - o) = k from by omega] at this
    rw [this]; rfl
  · rw [World.cell?_setCells_out g vs o w ⟨g, k, none⟩ (fun _ _ => by simp only []; omega)]
    exact hk
/-- what lies there behind a piece taken out -/
theorem row_taken {w : World} {g j m : Nat} {cur : Array Value} {t : TypeId} {ps : List (Wy.Mail × Value)} (hK : Blk w g cur t) (hn : ps.length = j + m + 1) (ht : cur.toList.take (ps.length * 6) = flatM ps) :
    ∀ i u, (flatM (ps.eraseIdx j))[i]? = some u → i < (j + m) * 6 ∧ (w.drew.setCells g (j * 6) (flatM (ps.drop (j + 1)))).cell? ⟨g, i, none⟩ = some u := by
  intro i u hu
  rw [List.eraseIdx_eq_take_drop_succ, flatM_append] at hu
  have hl1 : (flatM (ps.take j)).length = j * 6 := by rw [flatM_len, List.length_take]; congr 1; omega
  have hl2 : (flatM (ps.drop (j + 1))).length = m * 6 := by rw [flatM_len, List.length_drop]; congr 1; omega
  have hil := (List.getElem?_eq_some_iff.1 hu).1
  rw [List.length_append, hl1, hl2] at hil
  refine ⟨by omega, ?_⟩
  have hcur : ∀ k, k < ps.length * 6 → cur[k]? = (flatM ps)[k]? := fun k hk => by rw [← ht, List.getElem?_take, if_pos hk]; simp
  have hlen : (flatM ps).length = ps.length * 6 := flatM_len ps
  by_cases hi : i < j * 6
  · rw [World.cell?_setCells_out g _ _ _ _ (fun _ _ => .inl hi)]
    rw [List.getElem?_append_left (by omega)] at hu
    show w.cell? ⟨g, i, none⟩ = some u
    rw [hK.cell i, hcur i (by omega)]
    rw [← List.take_append_drop j ps, flatM_append, List.getElem?_append_left (by omega)]
    exact hu
  · rw [List.getElem?_append_right (by omega), hl1] at hu
    have hk := (List.getElem?_eq_some_iff.1 hu).1
    have := World.cell?_setCells_in g (flatM (ps.drop (j + 1))) (j * 6) w.drew (fun k hk => by
      show (w.cell? ⟨g, j * 6 + k, none⟩).isSome = true
      rw [hK.cell, hcur _ (by omega)]
      rw [List.getElem?_eq_getElem (by omega)]; rfl) (i - j * 6) hk
    rw [show j * 6 + (i - j * 6) = i from by omega] at this
    rw [this]
    have := (List.getElem?_eq_some_iff.1 hu).2
    rw [this]
theorem append_src {w : World} {g j m : Nat} {cur : Array Value} {t : TypeId} {ps : List (Wy.Mail × Value)} (hK : Blk w g cur t) (hn : ps.length = j + m + 1) (ht : cur.toList.take (ps.length * 6) = flatM ps) (cap : Nat) (hc : ps.length ≤ cap) :
    ∃ A, subM (some ⟨g, 0, none⟩) cap (j + 1) = some A ∧ ∀ i u, (flatM (ps.drop (j + 1)))[i]? = some u → w.cell? (A.add i) = some u := by
  have hl2 : (flatM (ps.drop (j + 1))).length = m * 6 := by rw [flatM_len, List.length_drop]; congr 1; omega
  have hl1 : (flatM (ps.take (j + 1))).length = (j + 1) * 6 := by rw [flatM_len, List.length_take]; congr 1; omega
  by_cases hcj : cap = j + 1
  · refine ⟨⟨g, 0, none⟩, by unfold subM; rw [if_pos hcj], fun i u hu => ?_⟩
    have := (List.getElem?_eq_some_iff.1 hu).1
    omega
  · refine ⟨⟨g, (j + 1) * 6, none⟩, by unfold subM; rw [if_neg hcj]; simp [WideShapes.add_plain], fun i u hu => ?_⟩
    have hi := (List.getElem?_eq_some_iff.1 hu).1
    rw [WideShapes.add_plain, hK.cell]
    have hcur : cur[(j + 1) * 6 + i]? = (flatM ps)[(j + 1) * 6 + i]? := by rw [← ht, List.getElem?_take, if_pos (by omega)]; simp
    rw [hcur, ← List.take_append_drop (j + 1) ps, flatM_append, List.getElem?_append_right (by omega), hl1, Nat.add_sub_cancel_left]
    exact hu
def zsM : List Value := [.int .i64 0, .int .i64 0, .bool false, .bool false, .int .i64 0, .slice none 0 0]
theorem run_clear1 (W : World) (ty : TypeId) (g o c : Nat) (hc : ∀ i, i < zsM.length → (W.cell? ⟨g, o + i, none⟩).isSome = true) (hf : ∀ i, i < zsM.length → W.frozen? ⟨g, o + i, none⟩ = false) :
    (Builtin.clear_ #[50] ty #[.slice (some ⟨g, o, none⟩) 1 c]).run Try.prog W = .ok (.tuple #[]) (W.setCells g o zsM) := by
  have hst := run_storeCells_cells (P := Try.prog) g o zsM 0 W (by simpa using hc) (by simpa using hf) (by intro v hv; simp only [zsM, List.mem_cons, List.not_mem_nil, or_false] at hv; rcases hv with rfl | rfl | rfl | rfl | rfl | rfl <;> rfl)
  simp only [Nat.add_zero] at hst
  have hzc : (Builtin.zeroCells (Value.cells (.agg #[.int .i64 0, .int .i64 0, .bool false, .bool false, .int .i64 0, .slice none 0 0])) 1).toList = zsM := by kernel_rfl
  simp [Builtin.clear_, run_underlying Try.underlying50, hzc, hst]
set_option maxHeartbeats 16000000 in
set_option maxRecDepth 100000 in
theorem deleteM_any (B : Nat) (v : Value) (ps : List (Wy.Mail × Value)) (j : Nat) (w : World) (ho : w.ownsRow B 52 6 v ps.length (flatM ps)) (hj : j < ps.length) (hl : ps.length ≤ 40) (hp : ∀ q ∈ ps, Keep (fun b => v.ownBlock = some b) (fun w => PinsAt w q.2 q.1.lock) w) :
    Calls Try.prog 22 #[v, .int .i64 (j : Int), .int .i64 ((j : Int) + 1)] w fun e w' => (∃ y, e = .returned y ∧ MailsAt w' y (ps.eraseIdx j)) ∧ Below B w w' := by
  obtain ⟨i0, hi, hz0, hz1, hz2⟩ := info_parts infoMl
  obtain ⟨hlen, hrow⟩ := ho
  obtain ⟨g, cap, cur, rfl, hbg, hg, hnc, hcm, hcs, htake⟩ : ∃ g cap cur, v = .slice (some ⟨g, 0, none⟩) ps.length cap ∧ B ≤ g ∧ w.heap[g]? = some (.cells cur 52 (0, 0)) ∧ ps.length ≤ cap ∧ cap ≤ maxLen ∧ cur.size = cap * 6 ∧ cur.toList.take (ps.length * 6) = flatM ps := by
    rcases hrow with ⟨_, h0⟩ | h
    · omega
    · exact h
  clear hrow
  have hK : Blk w g cur 52 := hg
  obtain ⟨m, hn⟩ : ∃ m, ps.length = j + m + 1 := ⟨ps.length - j - 1, by omega⟩
  obtain ⟨A, hA, hnews⟩ := append_src hK hn htake cap hnc
  have hs1 := fun w => slMh (some ⟨g, 0, none⟩) ps.length cap j (by omega) w
  have hs2 := fun w => slMl (some ⟨g, 0, none⟩) ps.length cap (j + 1) (by omega) w
  have h0 : subM (some ⟨g, 0, none⟩) cap 0 = some ⟨g, 0, none⟩ := by unfold subM; rw [if_neg (by omega)]; simp [WideShapes.add_plain]
  rw [hA] at hs2
  rw [h0] at hs1
  have hnm : ps.length - (j + 1) = m := by omega
  rw [hnm] at hs2
  have hs3 : ∀ w, (Instr.slice 50 (.slice (some ⟨g, 0, none⟩) ps.length cap) (some (.int .i64 ((j : Int) + 1))) none none).run Try.prog w = .ok (.slice (some A) m (cap - (j + 1))) w := fun w => by have := hs2 w; rwa [Int.natCast_add] at this
  have HNW : Hid (∀ i u, (flatM (ps.drop (j + 1)))[i]? = some u → w.drew.cell? (A.add i) = some u) := hnews
  have HL : Hid ((flatM (ps.drop (j + 1))).length = m * 6) := by show _ = _; rw [flatM_len, List.length_drop]; congr 1
  have HE : Hid (∀ i, i < cap * 6 → (w.cell? ⟨g, i, none⟩).isSome = true) := fun i hi => by rw [hK.cell i, Array.getElem?_eq_getElem (by omega)]; rfl
  have HF : Hid (∀ i, w.frozen? ⟨g, i, none⟩ = false) := fun i => hK.free i
  have HSP : Hid (∀ i, i < (flatM (ps.drop (j + 1))).length → (w.drew.cell? ⟨g, 0 + j * 6 + i, none⟩).isSome = true ∧ w.drew.frozen? ⟨g, 0 + j * 6 + i, none⟩ = false) := fun i hi => ⟨HE.out _ (by have := HL.out; omega), HF.out _⟩
  have H1 : Hid (∀ u ∈ flatM (ps.drop (j + 1)), u.oneCell' = true) := flatM_one (fun q hq => by
    obtain ⟨a, c, e⟩ := pins_slice (hp q (List.mem_of_mem_drop hq)).here
    exact ⟨a, _, c, e⟩)
  have HT := row_taken hK hn htake
  have HM : Hid (∀ x : World, g < x.heap.size → (∀ i u, i < (j + m) * 6 → (w.drew.setCells g (j * 6) (flatM (ps.drop (j + 1)))).cell? ⟨g, i, none⟩ = some u → x.cell? ⟨g, i, none⟩ = some u) → (∀ q ∈ ps, PinsAt x q.2 q.1.lock) → MailsAt x (.slice (some ⟨g, 0, none⟩) (j + m) cap) (ps.eraseIdx j)) := fun x hx hc hq => by
    have hel : (ps.eraseIdx j).length = j + m := by rw [List.length_eraseIdx, if_pos hj]; omega
    refine ⟨by omega, some ⟨g, 0, none⟩, cap, by rw [hel], by omega, (fun e => by cases e), fun ad e _ => by cases e; exact ⟨rfl, hx⟩, fun ad e i u hu => ?_, fun q hq' => hq q ((List.eraseIdx_sublist ps j).mem hq')⟩
    cases e
    rw [WideShapes.add_plain, Nat.zero_add]
    obtain ⟨g1, g2⟩ := HT i u hu
    exact hc i u g1 g2
  have HP : Hid (∀ q ∈ ps, Keep (fun b => g = b) (fun w => PinsAt w q.2 q.1.lock) w) := fun q hq => Keep.sub (hp q hq) (fun b hb => by rw [hb]; rfl)
  have hgw : g < w.heap.size := hK.lt
  have hjm : j + m ≤ cap := by omega
  have hcne : ¬ (cap = j + m) := by omega
  have hjl : (j : Int) < ps.length := by omega
  clear hs2 hK hg htake hlen hnews hA h0 hp HT
  rw [hn] at hs1 hs3 hjl ⊢
  go_enter Try.func22, Try.ntmps22
  go_wp2
  go_region_law (refine step_append_room rfl (.tmp 22) (.tmp 25) 50 rfl 52 i0 6 Try.underlying50 hi hz1 g 0 j cap (by simp [Act.eval, Act.put]) A m (cap - (j + 1)) (flatM (ps.drop (j + 1))) (by simp [Act.eval, Act.put]) HL.out HNW.out H1.out (by omega) HSP.out ?_)
  have HB1 : Hid (Below B w (w.drew.setCells g (0 + j * 6) (flatM (ps.drop (j + 1))))) := below_setCellsM hbg _ _ _ ((Below.refl B w).drew)
  have HE1 : Hid (∀ i, i < cap * 6 → ((w.drew.setCells g (0 + j * 6) (flatM (ps.drop (j + 1)))).cell? ⟨g, i, none⟩).isSome = true) := fun i hi => isSome_setCellsM g _ _ w.drew (fun k hk => (HSP.out k hk).1) i (HE.out i hi)
  have HF1 : Hid (∀ i, (w.drew.setCells g (0 + j * 6) (flatM (ps.drop (j + 1)))).frozen? ⟨g, i, none⟩ = false) := fun i => by rw [World.frozen?_setCells]; exact HF.out i
  have HP1 : Hid (∀ q ∈ ps, Keep (fun b => g = b) (fun w => PinsAt w q.2 q.1.lock) (w.drew.setCells g (0 + j * 6) (flatM (ps.drop (j + 1))))) := fun q hq => Keep.setCells rfl _ _ _ (HP.out q hq).drew
  have hs1w : g < (w.drew.setCells g (0 + j * 6) (flatM (ps.drop (j + 1)))).heap.size := by rw [size_setCellsM]; exact hgw
  rw [Nat.zero_add] at HB1 HE1 HF1 HP1 hs1w
  generalize (w.drew.setCells g (j * 6) (flatM (ps.drop (j + 1)))) = W at HB1 HE1 HF1 HP1 HM hs1w ⊢
  have hs5 : ∀ w, (Instr.slice 50 (.slice (some ⟨g, 0, none⟩) (j + m) cap) (some (.int .i64 ((j : Int) + (m : Int)))) (some (.int .i64 ((j : Int) + (m : Int) + 1))) none).run Try.prog w = .ok (.slice (some ⟨g, (j + m) * 6, none⟩) 1 (cap - (j + m))) w := fun w => by
    have h := slMb (some ⟨g, 0, none⟩) (j + m) cap (j + m) (j + m + 1) (by omega) (by omega) w
    have hsb : subM (some ⟨g, 0, none⟩) cap (j + m) = some ⟨g, (j + m) * 6, none⟩ := by unfold subM; rw [if_neg hcne]; simp [WideShapes.add_plain]
    rw [hsb, Nat.add_sub_cancel_left] at h
    simpa using h
  have hclr := run_clear1 W 0 g ((j + m) * 6) (cap - (j + m)) (fun i hi => HE1.out _ (by have : i < 6 := hi; omega)) (fun i _ => HF1.out _)
  have HMW : Hid (MailsAt (W.setCells g ((j + m) * 6) zsM) (.slice (some ⟨g, 0, none⟩) (j + m) cap) (ps.eraseIdx j)) := HM.out _ (by rw [size_setCellsM]; exact hs1w) (fun i u hi hu => by rw [World.cell?_setCells_out g _ _ _ _ (fun _ _ => .inl hi)]; exact hu) (fun q hq => (Keep.setCells rfl _ _ _ (HP1.out q hq)).here)
  have HBW : Hid (Below B w (W.setCells g ((j + m) * 6) zsM)) := below_setCellsM hbg _ _ _ HB1.out
  clear hs1 hs3 HNW HL HE HF HSP H1 HP HE1 HF1 HM HP1 HB1
  go_wp2
  go_ret
  exact ⟨⟨_, rfl, HMW.out⟩, HBW.out⟩
end Go.Proofs.Ytbdefihgplcdoae
