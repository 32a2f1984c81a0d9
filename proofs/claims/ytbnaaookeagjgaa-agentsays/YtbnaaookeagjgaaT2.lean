/- The contract of the document's table. -/
import Derived.Test.YtbnaaookeagjgaaT1
namespace Go.Proofs.Ytbnaaookeagjgaa
open Go.RowKit
theorem put_take (t : List Int) (l : List (Int × Int)) (k : Nat) (x y : Int) (h : l.drop k = (x, y) :: l.drop (k + 1)) : (l.take (k + 1)).foldl Dk.put t = ((l.take k).foldl Dk.put t).set x.toNat y := by
  have e : l[k]? = some (x, y) := by
    have : (l.drop k)[0]? = some (x, y) := by rw [h]; rfl
    simpa using this
  rw [List.take_add_one, e, List.foldl_append]; rfl
theorem srt_get {l : List (Int × Int)} : ∀ {k : Int} {p : Int × Int}, Dk.srt k l → p ∈ l → k ≤ p.1 ∧ p.1 ≤ 20 ∧ 1 ≤ p.2 ∧ p.2 ≤ 99 := by
  induction l with
  | nil => intro k p _ h; cases h
  | cons q r ih =>
    intro k p hs h
    rcases List.mem_cons.1 h with rfl | h
    · exact hs.1
    · have := ih hs.2 h
      have := hs.1
      omega
set_option maxHeartbeats 1000000 in
theorem tableR_none (a : Option Addr) (c : Nat) (w : World) :
    Calls Try.prog 36 #[.slice a 0 c] w fun e w' => e = .returned (.agg (tcells (Dk.tb []))) ∧ Below w.heap.size w w' := by
  go_enter Try.func36, Try.ntmps36
  go_wp2
  go_loopg [8] 0 (fun g s8 wr => s8 = .int .i64 0 ∧ Hid (TabAt wr w.heap.size 64 (List.replicate 21 0)) ∧ Hid (TabAt wr (w.heap.size + 1) 64 (Dk.tb [])) ∧ Below w.heap.size w wr)
  case atStart =>
    refine ⟨rfl, ?_, ?_, ((Below.refl _ w).alloc (Nat.le_refl _) _).alloc (by simp) _⟩
    · exact (Below.heap_alloc _ _ _ (by simp)).trans (heap_alloc_last w _)
    · have := heap_alloc_last (w.alloc (.cells (tcells (List.replicate 21 0)) 64)) (.cells (tcells (List.replicate 21 0)) 64)
      rw [World.size_alloc] at this
      exact this
  case round =>
    obtain ⟨rfl, H2, HT, hb⟩ := hrel
    go_wp2_with (guard_target = wpList _ _ _ (_ :: _) _ _; first | refine wpList_load_row rfl 64 _ rfl _ rfl 64 _ (0, 0) _ HT.out Try.underlying64 rfl (by rw [tcells_size, Dk.tb_len]; kernel_rfl) ?_ | refine wpList_store_row rfl 64 _ _ rfl _ (tcells (Dk.tb [])) rfl rfl 64 _ H2.out (by rw [tcells_size, Dk.tb_len]; kernel_rfl) (by rw [tcells_size, tcells_size, Dk.tb_len]; rfl) (tcells_one _) ?_)
    refine bodyPost_ret (v := .agg (tcells (Dk.tb []))) (results_cell_row rfl _ _ w.heap.size 64 _ (0, 0) _ rfl (H2.out.row (Dk.tb [])) Try.underlying64 rfl (by rw [tcells_size, Dk.tb_len]; kernel_rfl)) rfl ⟨rfl, below_setRow hb (Nat.le_refl _) _⟩
set_option maxHeartbeats 2000000 in
theorem tableR_full (b o c : Nat) (l : List (Int × Int)) (w : World) (hP : PinCells w b o l) (hc : Lk.chk l = 0) :
    Calls Try.prog 36 #[.slice (some ⟨b, o, none⟩) l.length c] w fun e w' => e = .returned (.agg (tcells (Dk.tb l))) ∧ Below w.heap.size w w' := by
  have hll : l.length ≤ 12 := (Dk.chk_srt hc).1
  have HS : Hid (Dk.srt 1 l) := (Dk.chk_srt hc).2
  clear hc
  go_enter Try.func36, Try.ntmps36
  go_wp2
  go_loopg [8] l.length (fun g s8 wr => ∃ k : Nat, k ≤ l.length ∧ l.length - k ≤ g ∧ s8 = .int .i64 k ∧ Hid (TabAt wr w.heap.size 64 (List.replicate 21 0)) ∧ Hid (TabAt wr (w.heap.size + 1) 64 ((l.take k).foldl Dk.put (List.replicate 21 0))) ∧ Below w.heap.size w wr)
  case atStart =>
    refine ⟨0, Nat.zero_le _, by omega, rfl, ?_, ?_, ((Below.refl _ w).alloc (Nat.le_refl _) _).alloc (by simp) _⟩
    · exact (Below.heap_alloc _ _ _ (by simp)).trans (heap_alloc_last w _)
    · have := heap_alloc_last (w.alloc (.cells (tcells (List.replicate 21 0)) 64)) (.cells (tcells (List.replicate 21 0)) 64)
      rw [World.size_alloc] at this
      exact this
  case round =>
    obtain ⟨k, hk, hg, rfl, H2, H3, hb⟩ := hrel
    by_cases hlt : k < l.length
    · obtain ⟨g1, g2⟩ := (hP.below hb).2 k hlt
      have HD : Hid (l.drop k = l.getD k (0, 0) :: l.drop (k + 1)) := drop_getD l k _ hlt rfl
      have hm := srt_get HS.out (p := l.getD k (0, 0)) (by rw [List.getD_eq_getElem?_getD, List.getElem?_eq_getElem hlt]; exact List.getElem_mem hlt)
      generalize l.getD k (0,0) = p at g1 g2 HD hm
      obtain ⟨x, y⟩ := p
      simp only at g1 g2 hm
      obtain ⟨h1, h2, h3, h4⟩ := hm
      obtain ⟨n, rfl⟩ : ∃ n : Nat, x = n := ⟨x.toNat, by omega⟩
      have hn : n < 21 := by omega
      have c0 := H3.out.cell n (by rw [Dk.foldl_put_len]; simpa using hn)
      have hsz := H3.out.lt
      have hf := frozen_of_row wr (w.heap.size + 1) n _ _ H3.out
      clear hP
      go_wp2
      go_roundg (l.length - (k + 1))
      case measure => omega
      case rel =>
        refine ⟨k + 1, by omega, by omega, by go_num, (H2.out.other (by simp) _).alloc _, ?_, ((hb.setCell (by simp) _).alloc (by simpa using hb.size) _)⟩
        rw [put_take _ l k _ _ HD.out]
        exact (H3.out.set n y).alloc _
    · have hk' : k = l.length := by omega
      subst hk'
      have HT : Hid (TabAt wr (w.heap.size + 1) 64 (Dk.tb l)) := by
        have := H3.out
        rw [List.take_length, show l.foldl Dk.put (List.replicate 21 0) = Dk.tabOf l from rfl, Dk.tabOf_tb HS.out] at this
        exact this
      clear hk hlt H3 hP
      go_wp2_with (guard_target = wpList _ _ _ (_ :: _) _ _; first | refine wpList_load_row rfl 64 _ rfl _ rfl 64 _ (0, 0) _ HT.out Try.underlying64 rfl (by rw [tcells_size, Dk.tb_len]; kernel_rfl) ?_ | refine wpList_store_row rfl 64 _ _ rfl _ (tcells (Dk.tb l)) rfl rfl 64 _ H2.out (by rw [tcells_size, Dk.tb_len]; kernel_rfl) (by rw [tcells_size, tcells_size, Dk.tb_len]; rfl) (tcells_one _) ?_)
      refine bodyPost_ret (v := .agg (tcells (Dk.tb l))) (results_cell_row rfl _ _ w.heap.size 64 _ (0, 0) _ rfl (H2.out.row (Dk.tb l)) Try.underlying64 rfl (by rw [tcells_size, Dk.tb_len]; kernel_rfl)) rfl ⟨rfl, below_setRow hb (Nat.le_refl _) _⟩
theorem tableR_any (v : Value) (l : List (Int × Int)) (w : World) (hP : PinsAt w v l) (hk : Lk.chk l = 0) :
    Calls Try.prog 36 #[v] w fun e w' => e = .returned (.agg (tcells (Dk.tb l))) ∧ Below w.heap.size w w' := by
  obtain ⟨hl, c, ⟨rfl, a, rfl⟩ | ⟨b, o, rfl, hc⟩⟩ := hP
  · exact tableR_none a c w
  · exact tableR_full b o c l w hc hk
end Go.Proofs.Ytbnaaookeagjgaa
