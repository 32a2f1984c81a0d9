/- The contract of the document's linesOf. -/
import Derived.Test.YtlnbcgjahjjpfacGreatDoorD1
namespace Go.Proofs.YtlnbcgjahjjpfacGreatDoor
open Go.RowKit
theorem Tryz.info29 : (Tryz.prog.info? 29).map (fun i => (i.zero, i.size, i.bytes)) = some (some (.agg #[.int .i64 0, .int .i64 0, .int .i64 0, .int .i64 0, .bool false, .int .i64 0, .slice none 0 0]), 7, 72) := by kernel_rfl
/-- what linesOf answers -/
def linedR (N : Nat) (w : World) (q : List Lk.Note × Nat × Int) (e : Ending) : Prop := ∃ v ps, e = .returned (.tuple #[v, .int .i64 q.2.1, .int .i64 q.2.2]) ∧ w.ownsRow N 29 7 v ps.length (flatR ps) ∧ Locks w v.ownBlock ps ∧ ps.map Prod.fst = q.1
theorem linedR_mk {N : Nat} {w : World} {q : List Lk.Note × Nat × Int} {v : Value} {ps : List (Lk.Note × Value)} {n : Nat} {er : Int} (hq : q = (ps.map Prod.fst, n, er)) (hO : w.ownsRow N 29 7 v ps.length (flatR ps)) (hL : Locks w v.ownBlock ps) : linedR N w q (.returned (.tuple #[v, .int .i64 n, .int .i64 er])) := by
  subst hq; exact ⟨v, ps, rfl, hO, hL, rfl⟩
theorem owns_own {w : World} {base e size n : Nat} {v : Value} {xs : List Value} (h : w.ownsRow base e size v n xs) : v = .slice none 0 0 ∨ ∃ g, v.ownBlock = some g ∧ g < w.heap.size := by
  rcases h.2 with ⟨h1, _⟩ | ⟨g, cap, cur, h1, _, h3, _⟩
  · exact .inl h1
  · refine .inr ⟨g, by rw [h1]; rfl, ?_⟩
    rcases Nat.lt_or_ge g w.heap.size with h | h
    · exact h
    · rw [Array.getElem?_eq_none h] at h3; cases h3
theorem fresh_apart {w : World} {base e size n : Nat} {v u : Value} {xs : List Value} {l : List (Int × Int)} {w' : World} (h : w.ownsRow base e size v n xs) (hp : PinsAt w' u l) (hf : FreshS w.heap.size u) : l ≠ [] → u.ownBlock ≠ v.ownBlock := by
  intro h0
  obtain ⟨_, c, h1 | ⟨b, o, h1, _⟩⟩ := hp
  · exact absurd h1.1 h0
  · rcases owns_own h with h2 | ⟨g, h2, h3⟩
    · rw [h2, h1]; simp [Value.ownBlock]
    · rw [h2, h1]
      intro e'
      have : b = g := by simpa [Value.ownBlock] using e'
      have := hf b o _ c h1
      omega
theorem slice_of_owns {w : World} {base e size n : Nat} {v : Value} {xs : List Value} (h : w.ownsRow base e size v n xs) : ∃ a c, v = .slice a n c := by
  rcases h.2 with ⟨h1, h2⟩ | ⟨g, cap, cur, h1, _, _, _⟩
  · exact ⟨none, 0, by rw [h1, h2]⟩
  · exact ⟨_, cap, h1⟩
theorem piece_empty {x : ByteArray} (h : x.data.toList = []) : x = ⟨#[]⟩ := bytes_nil x (by show x.data.toList.length = 0; rw [h]; rfl)
set_option maxHeartbeats 8000000 in
set_option maxRecDepth 100000 in
theorem linesR_any (s : ByteArray) (hs : s.size ≤ 60000) (most : Nat) (hmost : most ≤ 200) (w : World) (hE : Env w) :
    Calls Tryz.prog 31 #[.string s, .int .i64 most] w fun e w' => linedR w.heap.size w' (Lk.linesOf s.data.toList most) e ∧ Below w.heap.size w w' := by
  have HE : Hid (Env w) := hE
  have HSP : Hid (∀ w, Env w → Calls Tryz.prog 46 #[.string s, .string ⟨#[10]⟩] w fun e w' => e = .returned (.slice (some ⟨w.heap.size, 0, none⟩) (Lk.la s).length (Lk.la s).length) ∧ (∀ j x, (Lk.la s)[j]? = some x → w'.cell? ⟨w.heap.size, j, none⟩ = some (.string x)) ∧ w'.heap.size = w.heap.size + 1 ∧ Below w.heap.size w w') := fun w hE => splitAfter_any s hs w hE
  have HWL : Hid (∀ x ∈ Lk.la s, x.size ≤ 60000) := fun x hx => Nat.le_trans (Lk.la_le s x hx) hs
  have hwl : (Lk.la s).length ≤ 60001 := by rw [Lk.la_len]; have := Lk.countl_le s; omega
  have HLN : Hid ((Lk.splitN s.data.toList).length = (Lk.la s).length) := Lk.la_len_N s
  have HAt : Hid (∀ k, k < (Lk.la s).length → ∃ t r x, (Lk.splitN s.data.toList).drop k = t :: r ∧ (Lk.la s)[k]? = some x ∧ x.data.toList = (if r = [] then t else t ++ [10]) ∧ (Lk.splitN s.data.toList).drop (k + 1) = r ∧ 10 ∉ t) := fun k hk => by
    obtain ⟨t, r, h1, h2, h3⟩ := Lk.addLF_drop (Lk.splitN s.data.toList) k (by rw [Lk.la_len_N]; exact hk)
    rw [← Lk.la_N, List.getElem?_map] at h2
    cases hx : (Lk.la s)[k]? with
    | none => rw [hx] at h2; cases h2
    | some x =>
      rw [hx] at h2
      simp only [Option.map_some, Option.some.injEq] at h2
      exact ⟨t, r, x, h1, rfl, h2, h3, Lk.splitN_no10 _ t (List.mem_of_mem_drop (by rw [h1]; simp))⟩
  have HQ : Hid (Lk.linesOf s.data.toList most = Lk.walkL most [] 0 ((Lk.splitN s.data.toList).drop 0)) := rfl
  clear hE hs
  generalize Lk.linesOf s.data.toList most = Q at HQ ⊢
  generalize Lk.splitN s.data.toList = P at HQ HAt HLN
  obtain ⟨i0, hi, hz0, hz1, hz2⟩ := info_parts Tryz.info29
  go_enter Tryz.func31, Tryz.ntmps31
  go_wp2_with fail
  refine (HSP.out _ HE.out).mono ?_
  rintro e w1 ⟨rfl, hcell, hsz, hb1⟩
  have HC : Hid (∀ j x, (Lk.la s)[j]? = some x → w1.cell? ⟨w.heap.size, j, none⟩ = some (.string x)) := hcell
  have HSZ : Hid (w.heap.size < w1.heap.size) := by show w.heap.size < w1.heap.size; omega
  have HB1 : Hid (Below w.heap.size w w1) := hb1
  have HE1 : Hid (Env w1) := HE.out.below hb1
  have HPos : Hid (0 < (Lk.la s).length) := by show 0 < (Lk.la s).length; rw [Lk.la_len]; omega
  clear hcell hsz hb1 HSP HE
  go_wp2_with fail
  go_loopg [7, 8, 16] (Lk.la s).length (fun g s7 s8 s16 wr => ∃ k n : Nat, ∃ ps : List (Lk.Note × Value), k < (Lk.la s).length ∧ (Lk.la s).length - k ≤ g ∧ s8 = .int .i64 n ∧ s16 = .int .i64 k ∧ n ≤ 60001 * k ∧ Hid (wr.ownsRow w1.heap.size 29 7 s7 ps.length (flatR ps)) ∧ Hid (Locks wr s7.ownBlock ps) ∧ Hid (Q = Lk.walkL most (ps.map Prod.fst) n (P.drop k)) ∧ Hid (ps.length ≤ most) ∧ Hid (Below w1.heap.size w1 wr))
  case atStart => exact ⟨0, 0, [], HPos.out, by omega, rfl, rfl, by omega, World.ownsRow_nil _ _ _ _, (fun p hp => by cases hp), HQ, Nat.zero_le _, Below.refl _ _⟩
  case round =>
    obtain ⟨k, n, ps, hk, hg, rfl, rfl, hn, HO, HLk, HQk, HM, HBr⟩ := hrel
    obtain ⟨t, r, x, h1, h2, h3, h4, h5⟩ := HAt.out k hk
    have HX3 : Hid (x.data.toList = (if r = [] then t else t ++ [10])) := h3
    have HP1 : Hid (P.drop k = t :: r) := h1
    have HP4 : Hid (P.drop (k + 1) = r) := h4
    have hxs : x.size ≤ 60000 := HWL.out x (List.mem_of_getElem? h2)
    have c1 : wr.cell? ⟨w.heap.size, k, none⟩ = some (.string x) := (HBr.out.cell (p := ⟨w.heap.size, k, none⟩) HSZ.out).trans (HC.out k x h2)
    have HFin : Hid (Below w.heap.size w wr) := HB1.out.trans (HBr.out.mono HB1.out.size)
    have HRow : Hid (wr.ownsRow w.heap.size 29 7 u7 ps.length (flatR ps)) := by
      have := HO.out
      refine ⟨this.1, ?_⟩
      rcases this.2 with h | ⟨g, cap, cur, e1, e2, e3⟩
      · exact .inl h
      · exact .inr ⟨g, cap, cur, e1, Nat.le_trans HB1.out.size e2, e3⟩
    obtain ⟨ra, rc, hu7⟩ := slice_of_owns HO.out
    clear h1 h2 h3 h4
    by_cases hr : r = []
    · subst hr
      have hx3 : x.data.toList = t := by rw [HX3.out, if_pos rfl]
      by_cases ht : t = []
      · have hx : x = ⟨#[]⟩ := piece_empty (by rw [hx3, ht])
        subst hx
        have HQ2 : Hid (Q = (ps.map Prod.fst, n, 0)) := by rw [HQk.out, HP1.out, ht]; exact Lk.walk_end _ _ _
        clear HX3 HP1 HP4 hx3 ht HQk
        subst hu7
        go_wp2
        refine bodyPost_ret (v := .tuple #[.slice ra ps.length rc, .int .i64 n, .int .i64 0]) (by simp [results, Tryz.results31, go_sem]) rfl ⟨linedR_mk HQ2.out HRow.out HLk.out, HFin.out⟩
      · have HQ2 : Hid (Q = (ps.map Prod.fst, n, 9)) := by rw [HQk.out, HP1.out]; exact Lk.walk_torn ht
        have hne : x.toList.isEmpty = false := bytes_ne x (fun e => ht (by rw [← hx3]; exact List.length_eq_zero_iff.1 e))
        have hsf : Lib.hasSuffix x.data.toList [10] = false := by
          rw [hx3]
          refine Bool.eq_false_iff.2 fun e => h5 ?_
          obtain ⟨y, hy⟩ := List.isSuffixOf_iff_suffix.1 e
          rw [← hy]; simp
        have HSf : Hid (∀ w, Calls Tryz.prog 47 #[.string x, .string ⟨#[10]⟩] w fun e w' => e = .returned (.bool false) ∧ w' = w) := fun w => by rw [← hsf]; exact Tryz.strings_HasSuffix x ⟨#[10]⟩ w (by omega)
        clear HX3 HP1 HP4 hx3 ht HQk hsf
        subst hu7
        go_wp2_with (go_at_call 47; refine (HSf.out _).mono ?_; rintro e w' ⟨rfl, hw'⟩; rw [hw']; clear hw')
        refine bodyPost_ret (v := .tuple #[.slice ra ps.length rc, .int .i64 n, .int .i64 9]) (by simp [results, Tryz.results31, go_sem]) rfl ⟨linedR_mk HQ2.out HRow.out HLk.out, HFin.out⟩
    · have hx3 : x.data.toList = t ++ [10] := by rw [HX3.out, if_neg hr]
      have hxl : x.size = t.length + 1 := by
        show x.data.toList.length = _
        rw [hx3]; simp
      have hne : x.toList.isEmpty = false := bytes_ne x (by omega)
      have HSf : Hid (∀ w, Calls Tryz.prog 47 #[.string x, .string ⟨#[10]⟩] w fun e w' => e = .returned (.bool true) ∧ w' = w) := fun w => by
        have : Lib.hasSuffix x.data.toList [10] = true := by rw [hx3]; exact List.isSuffixOf_iff_suffix.2 ⟨t, rfl⟩
        rw [← this]; exact Tryz.strings_HasSuffix x ⟨#[10]⟩ w (by omega)
      have hex : (x.extract 0 (x.size - 1)).data.toList = t := by
        rw [ext_take, hx3, hxl]; simp
      have hes : (x.extract 0 (x.size - 1)).size ≤ 60000 := by rw [ByteArray.size_extract]; omega
      have HRd : Hid (∀ w, Env w → Calls Tryz.prog 48 #[.string (x.extract 0 (x.size - 1))] w fun e w' => parsedN w.heap.size w' (Lk.readNote t) e ∧ Below w.heap.size w w') := fun w hE => by
        have := recRead_new (x.extract 0 (x.size - 1)) hes w hE
        rwa [hex] at this
      have HXL : Hid (x.size = t.length + 1) := hxl
      have HEr : Hid (Env wr) := HE1.out.below HBr.out
      have hk1 : k + 1 < (Lk.la s).length := by
        have h := HP4.out
        rcases Nat.lt_or_ge (k + 1) (Lk.la s).length with h' | h'
        · exact h'
        · rw [List.drop_of_length_le (by rw [HLN.out]; exact h')] at h
          exact absurd h.symm hr
      have F1 : Hid (¬ (Lk.readNote t).2 = 0 → Q = (ps.map Prod.fst, n, (Lk.readNote t).2)) := fun h => by rw [HQk.out, HP1.out]; exact Lk.walk_bad hr h
      have F2 : Hid ((Lk.readNote t).2 = 0 → most ≤ ps.length → Q = (ps.map Prod.fst, n, 2)) := fun h h' => by rw [HQk.out, HP1.out]; exact Lk.walk_many hr h (by rw [List.length_map]; exact h')
      have F3 : Hid ((Lk.readNote t).2 = 0 → ps.length < most → Q = Lk.walkL most (ps.map Prod.fst ++ [(Lk.readNote t).1]) (n + x.size) (P.drop (k + 1))) := fun h h' => by
        rw [HQk.out, HP1.out, HP4.out, Lk.walk_step hr h (by rw [List.length_map]; exact h'), HXL.out, Nat.add_assoc]
      have hx1 : (1 : Int) ≤ (x.size : Int) := by omega
      clear HX3 hx3 hxl hex hes HP1 HQk h5 HXL
      subst hu7
      go_wp2_with (go_at_call 47; refine (HSf.out _).mono ?_; rintro e w' ⟨rfl, hw'⟩; rw [hw']; clear hw')
      refine (HRd.out _ HEr.out).mono ?_
      rintro e w2 ⟨⟨z, rfl, hz, hfr⟩, hb2⟩
      generalize Lk.readNote t = X at hz F1 F2 F3 ⊢
      obtain ⟨X1, XE⟩ := X
      simp only at hz F1 F2 F3 ⊢
      obtain ⟨za, zc, rfl⟩ := pins_slice hz
      obtain ⟨x1, x2, x3, x4, x5, x6, x7⟩ := X1
      unfold recV
      simp only at hz ⊢
      have hbA : Below w2.heap.size w2 (w2.alloc (.cells #[.int .i64 x1, .int .i64 x2, .int .i64 x3, .int .i64 x4, .bool x5, .int .i64 x6, .slice za x7.length zc] 29)) := (Below.refl _ _).alloc (Nat.le_refl _) _
      have hbB : Below wr.heap.size wr (w2.alloc (.cells #[.int .i64 x1, .int .i64 x2, .int .i64 x3, .int .i64 x4, .bool x5, .int .i64 x6, .slice za x7.length zc] 29)) := hb2.trans (hbA.mono hb2.size)
      have HFin2 : Hid (Below w.heap.size w (w2.alloc (.cells #[.int .i64 x1, .int .i64 x2, .int .i64 x3, .int .i64 x4, .bool x5, .int .i64 x6, .slice za x7.length zc] 29))) := HFin.out.trans (hbB.mono HFin.out.size)
      have HB3 : Hid (Below w1.heap.size w1 (w2.alloc (.cells #[.int .i64 x1, .int .i64 x2, .int .i64 x3, .int .i64 x4, .bool x5, .int .i64 x6, .slice za x7.length zc] 29))) := HBr.out.trans (hbB.mono HBr.out.size)
      have HRow2 : Hid ((w2.alloc (.cells #[.int .i64 x1, .int .i64 x2, .int .i64 x3, .int .i64 x4, .bool x5, .int .i64 x6, .slice za x7.length zc] 29)).ownsRow w.heap.size 29 7 (.slice ra ps.length rc) ps.length (flatR ps)) := owns_below HRow.out hbB
      have HO2 : Hid ((w2.alloc (.cells #[.int .i64 x1, .int .i64 x2, .int .i64 x3, .int .i64 x4, .bool x5, .int .i64 x6, .slice za x7.length zc] 29)).ownsRow w1.heap.size 29 7 (.slice ra ps.length rc) ps.length (flatR ps)) := owns_below HO.out hbB
      have HLk2 : Hid (Locks (w2.alloc (.cells #[.int .i64 x1, .int .i64 x2, .int .i64 x3, .int .i64 x4, .bool x5, .int .i64 x6, .slice za x7.length zc] 29)) (Value.slice ra ps.length rc).ownBlock ps) := HLk.out.below hbB
      have HZ2 : Hid (PinsAt (w2.alloc (.cells #[.int .i64 x1, .int .i64 x2, .int .i64 x3, .int .i64 x4, .bool x5, .int .i64 x6, .slice za x7.length zc] 29)) (.slice za x7.length zc) x7) := hz.below hbA
      have HAp : Hid (x7 ≠ [] → (Value.slice za x7.length zc).ownBlock ≠ (Value.slice ra ps.length rc).ownBlock) := fresh_apart HO.out hz hfr
      have HRX : Hid (RecAt (w2.alloc (.cells #[.int .i64 x1, .int .i64 x2, .int .i64 x3, .int .i64 x4, .bool x5, .int .i64 x6, .slice za x7.length zc] 29)) w2.heap.size x1 x2 x3 x4 x5 x6 (.slice za x7.length zc)) := recAt_alloc w2 x1 x2 x3 x4 x5 x6 _
      clear hbA hbB hz hfr hb2 HRow HO HLk HFin HBr HEr HRd HSf
      by_cases he : XE = 0
      rotate_left
      · have heb : (XE != 0) = true := by rw [bne_iff_ne]; exact he
        have hee : (XE == 0) = false := by rw [beq_eq_false_iff_ne]; exact he
        have HQ2 : Hid (Q = (ps.map Prod.fst, n, XE)) := F1.out he
        clear F1 F2 F3 he
        go_wp2
        refine bodyPost_ret (v := .tuple #[.slice ra ps.length rc, .int .i64 n, .int .i64 XE]) (by simp [results, Tryz.results31, go_sem]) rfl ⟨linedR_mk HQ2.out HRow2.out HLk2.out, HFin2.out⟩
      subst he
      have hpl : ps.length ≤ most := HM.out
      by_cases hm : most ≤ ps.length
      · have HQ2 : Hid (Q = (ps.map Prod.fst, n, 2)) := F2.out rfl hm
        have hm' : (most : Int) ≤ (ps.length : Int) := by omega
        clear F1 F2 F3 hm
        go_wp2
        refine bodyPost_ret (v := .tuple #[.slice ra ps.length rc, .int .i64 n, .int .i64 2]) (by simp [results, Tryz.results31, go_sem]) rfl ⟨linedR_mk HQ2.out HRow2.out HLk2.out, HFin2.out⟩
      have hm' : (ps.length : Int) < (most : Int) := by omega
      have HQ2 : Hid (Q = Lk.walkL most (ps.map Prod.fst ++ [(⟨x1, x2, x3, x4, x5, x6, x7⟩ : Lk.Note)]) (n + x.size) (P.drop (k + 1))) := F3.out rfl (by omega)
      have HM2 : Hid (ps.length + 1 ≤ most) := by show ps.length + 1 ≤ most; omega
      clear F1 F2 F3 hm
      go_upto_region 10 with fail
      generalize (w2.alloc (.cells #[.int .i64 x1, .int .i64 x2, .int .i64 x3, .int .i64 x4, .bool x5, .int .i64 x6, .slice za x7.length zc] 29)) = W2 at HFin2 HB3 HRow2 HO2 HLk2 HZ2 HRX ⊢
      generalize w2.heap.size = g2 at HRX ⊢
      obtain ⟨c0, c1, c2, c3, c4, c5, c6, c7⟩ := HRX.out
      have hw1 : w1.heap.size ≤ W2.heap.size := HB3.out.size
      have hps : ps.length ≤ 200 := by omega
      go_wp2_with (at_builtin; refine wpList_append_own_at _ rfl _ _ 35 rfl w1.heap.size 29 i0 (.agg #[.int .i64 0, .int .i64 0, .int .i64 0, .int .i64 0, .bool false, .int .i64 0, .slice none 0 0]) 7 72 Tryz.underlying35 hi hz0 hz1 hz2 rfl (by decide) _ ps.length (flatR ps) rfl (HO2.out.alloc _) ⟨W2.heap.size, 0, none⟩ 1 1 (recCells (⟨x1, x2, x3, x4, x5, x6, x7⟩, .slice za x7.length zc)) rfl rfl ?k1 ?k2 ?k3 ?k4 ?k5 ?_)
      case k1 =>
        intro j u hj
        rcases j with _ | _ | _ | _ | _ | _ | _ | j
        iterate 7 (simp [recCells] at hj; subst hj; simp [go_sem, Addr.add])
        simp [recCells] at hj
      case k2 =>
        intro u hu
        simp only [recCells, List.mem_cons, List.not_mem_nil, or_false] at hu
        rcases hu with rfl | rfl | rfl | rfl | rfl | rfl | rfl <;> rfl
      case k3 => unfold maxLen; omega
      case k4 => omega
      case k5 => simp; omega
      intro v' w3 hown hgrow _ hrow
      have HO3 : Hid (w3.ownsRow w1.heap.size 29 7 v' (ps ++ [((⟨x1, x2, x3, x4, x5, x6, x7⟩ : Lk.Note), Value.slice za x7.length zc)]).length (flatR (ps ++ [((⟨x1, x2, x3, x4, x5, x6, x7⟩ : Lk.Note), Value.slice za x7.length zc)]))) := by
        rw [flatR_append, List.length_append]
        have e : flatR [((⟨x1, x2, x3, x4, x5, x6, x7⟩ : Lk.Note), Value.slice za x7.length zc)] = recCells (⟨x1, x2, x3, x4, x5, x6, x7⟩, .slice za x7.length zc) := by simp [flatR]
        rw [e]; exact hown
      have HLk3 : Hid (Locks w3 v'.ownBlock (ps ++ [((⟨x1, x2, x3, x4, x5, x6, x7⟩ : Lk.Note), Value.slice za x7.length zc)])) :=
        Locks.grown ((Locks.below (HLk2.out.snoc HZ2.out HAp.out) ((Below.refl _ W2).alloc (Nat.le_refl _) _))) hgrow (by rw [World.size_alloc]; exact hrow)
      have HB4 : Hid (Below w1.heap.size w1 w3) := (HB3.out.alloc hw1 _).grown hgrow (by simp; omega) (fun q hq => (HO2.out.lt q hq).1)
      have HQ3 : Hid (Q = Lk.walkL most ((ps ++ [((⟨x1, x2, x3, x4, x5, x6, x7⟩ : Lk.Note), Value.slice za x7.length zc)]).map Prod.fst) (n + x.size) (P.drop (k + 1))) := by rw [HQ2.out, List.map_append]; rfl
      have HM3 : Hid ((ps ++ [((⟨x1, x2, x3, x4, x5, x6, x7⟩ : Lk.Note), Value.slice za x7.length zc)]).length ≤ most) := by rw [List.length_append]; exact HM2.out
      clear hown hgrow hrow HO2 HLk2 HRow2 HRX c0 c1 c2 c3 c4 c5 c6 c7 HQ2 HM2
      go_wp2
      go_roundg ((Lk.la s).length - (k + 1))
      case measure => omega
      case rel => exact ⟨k + 1, n + x.size, ps ++ [((⟨x1, x2, x3, x4, x5, x6, x7⟩ : Lk.Note), Value.slice za x7.length zc)], hk1, by omega, by go_num, by go_num, by omega, HO3, HLk3, HQ3, HM3, HB4⟩
end Go.Proofs.YtlnbcgjahjjpfacGreatDoor
