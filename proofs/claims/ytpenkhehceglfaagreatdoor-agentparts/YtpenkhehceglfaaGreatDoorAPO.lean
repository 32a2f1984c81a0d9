/- From a row's own hypotheses to what the walks ask: the variables' contents, the records that came in. -/
import Derived.Test.YtpenkhehceglfaaGreatDoorKit
import Derived.Test.YtpenkhehceglfaaGreatDoorMB
import Derived.Test.YtpenkhehceglfaaGreatDoorMF
import Derived.Test.YtpenkhehceglfaaGreatDoorW4
import Derived.Stop.LaidErr
import Derived.Lib.LaidTab
import Derived.Shelf.Vars
import Derived.Lay
import Derived.SevenTiedAt
namespace Go.Proofs.YtpenkhehceglfaaGreatDoor
open Go.RowKit Go.ChangeShapes Go.WideShapes Go.ChangeAt
theorem n_pow : Tryz.prog.globalNamed "internal/strconv.uint64pow10" = some 1 := by kernel_rfl
theorem n_syn : Tryz.prog.globalNamed "strconv.ErrSyntax" = some 4 := by kernel_rfl
theorem n_ran : Tryz.prog.globalNamed "strconv.ErrRange" = some 5 := by kernel_rfl
theorem n_b64 : Tryz.prog.globalNamed "math/bits.deBruijn64tab" = some 3 := by kernel_rfl
theorem t_pow : (Tryz.prog.globals[1]?).map (·.type) = some 230 := by kernel_rfl
theorem t_syn : (Tryz.prog.globals[4]?).map (·.type) = some 170 := by kernel_rfl
theorem t_ran : (Tryz.prog.globals[5]?).map (·.type) = some 170 := by kernel_rfl
theorem t_b64 : (Tryz.prog.globals[3]?).map (·.type) = some 249 := by kernel_rfl
theorem Tryz.cells3 : Tryz.prog.cellsOf 3 = 1 := by kernel_rfl
theorem Tryz.cells5 : Tryz.prog.cellsOf 5 = 1 := by kernel_rfl
theorem Tryz.cells9 : Tryz.prog.cellsOf 9 = 1 := by kernel_rfl
theorem Tryz.cells57 : Tryz.prog.cellsOf 57 = 2 := by kernel_rfl
theorem Tryz.cells213 : Tryz.prog.cellsOf 213 = 1 := by kernel_rfl
theorem Tryz.cells230 : Tryz.prog.cellsOf 230 = 20 := by kernel_rfl
theorem Tryz.cells264 : Tryz.prog.cellsOf 264 = 1 := by kernel_rfl
theorem Tryz.cells249 : Tryz.prog.cellsOf 249 = 64 := by kernel_rfl
theorem Tryz.bytes57 : Tryz.prog.bytesOf 57 = 16 := by kernel_rfl
theorem star : "*" ++ "errors.errorString" = "*errors.errorString" := by decide
theorem rowErr (u : TypeId) (h : Tryz.prog.typeName? 3 u = some "*errors.errorString") : u = 262 :=
  typeName_ptr_named (nm := "errors.errorString") (by rw [star]; kernel_rfl) (by kernel_rfl) (by decide) u (by rw [star]; exact h)
theorem pow_tab : (Rows.laid_internal_strconv_uint64pow10 : DataW Unit) = Lib.tabData .u64 Lib.pow10Tab := by kernel_rfl
/-- the numbers of a listed table -/
def b64 : List Int := [0, 1, 56, 2, 57, 49, 28, 3, 61, 58, 42, 50, 38, 29, 17, 4, 62, 47, 59, 36, 45, 43, 51, 22, 53, 39, 33, 30, 24, 18, 12, 5, 63, 55, 48, 27, 60, 41, 37, 16, 46, 35, 44, 21, 52, 32, 23, 11, 54, 26, 40, 15, 34, 20, 31, 10, 25, 14, 19, 9, 13, 8, 7, 6]
theorem b64_tab : (Rows.laid_math_bits_deBruijn64tab : DataW Unit) = Lib.tabData .u8 b64 := by kernel_rfl
theorem big_of {W : World} (hsh : W.ShapedOpen Tryz.prog) : 8 ≤ W.heap.size := by
  have h0 : (((begin Tryz.prog (fun _ _ => 0) default).world.heap[7]?).bind Obj.row?).isSome = true := by kernel_rfl
  obtain ⟨⟨zero, t⟩, h⟩ := Option.isSome_iff_exists.1 h0
  obtain ⟨cs, hh, _⟩ := hsh.1 7 zero t (of_decide_eq_true (by kernel_rfl)) h
  rcases Nat.lt_or_ge 7 W.heap.size with h' | h'
  · exact h'
  · rw [Array.getElem?_eq_none h'] at hh; cases hh
theorem env_of {W : World} (hL : laidMet Tryz.prog Rows.agentPartsRow.laid W) (hsh : W.ShapedOpen Tryz.prog) : Env W := by
  have h1 : laidMet Tryz.prog (("math/bits.deBruijn64tab", Lib.tabData .u8 b64) :: ("internal/strconv.uint64pow10", Rows.laid_internal_strconv_uint64pow10) :: ("unicode/utf8.acceptRanges", Rows.laid_unicode_utf8_acceptRanges) :: ("strconv.ErrRange", Rows.laid_strconv_ErrRange) :: ("strconv.ErrSyntax", Rows.laid_strconv_ErrSyntax) :: [("unicode/utf8.first", Rows.laid_unicode_utf8_first)]) W := by
    rw [← b64_tab]; exact hL.tail
  have h2 := h1.tail
  rw [pow_tab] at h2
  have htab : Lib.TabIs Tryz.prog W "internal/strconv.uint64pow10" .u64 Lib.pow10Tab := Lib.tabIs_of_head n_pow t_pow Tryz.underlying230 Tryz.underlying213 Tryz.cells213 Tryz.cells230 h2
  have h4 := h2.tail.tail
  obtain ⟨a0, s0, hv0, _⟩ := laid_sentinel h4 n_ran t_ran Tryz.underlying170 rowErr Tryz.underlying262 Tryz.underlying264 rfl rfl Tryz.underlying9 Tryz.cells264 Tryz.cells9
  obtain ⟨a1, s1, hv1, _⟩ := laid_sentinel h4.tail n_syn t_syn Tryz.underlying170 rowErr Tryz.underlying262 Tryz.underlying264 rfl rfl Tryz.underlying9 Tryz.cells264 Tryz.cells9
  refine ⟨?_, htab, ⟨_, _, hv1⟩, ⟨_, _, hv0⟩, big_of hsh⟩
  exact cell_of_shapedOpen_int (P := Tryz.prog) (g := 0) (t := 3) (zero := #[.int .i64 0]) hsh (of_decide_eq_true (by kernel_rfl)) (by kernel_rfl) rfl (by kernel_rfl) (by kernel_rfl) Tryz.underlying3
/-- a law's row that lists variables, the world's shape and the reach handed to the contract -/
theorem lift_shaped {H : Type} {enc : TypeId × Value → H} {a : Assume} {C : Checked} {os : Os} {f : FuncId} {fn : Func} {s : ChangeSpec} {conds : List PathCond} {apart fresh handsOn again : Bool} {laid : List (String × DataW Unit)}
    (own : ownKnob C.prog.godebug = none) (started : os.Started) (noInit : C.prog.inits.idxOf? f = none) (hfn : C.prog.funcs[f]? = some fn)
    (witness : ∃ (w : World) (tape : Tape) (i : Input), w.os = os ∧ (w.forCall tape i).Shaped C.prog ∧ i.vars = [] ∧ Input.okWide C.prog (w.forCall tape i) .any w.heap.size f i ∧
      ((s.pre enc C.prog fn conds apart (w.forCall tape i).memory i.args ∧ laidMetH C.prog laid (w.forCall tape i).memory) ∧ sizedMet enc C.prog fn (OpenSpec.ofChange s) apart (w.forCall tape i).memory i.args) ∧ a.holds C.prog (lone (Frame.enter C.prog f i.args .normal) [] (w.forCall tape i)))
    (contract : ∀ (W : World) (base : Nat) (args : Array Value) (ds gs : List (DataW H)) (before : List MemPlace),
      (∀ (j : Nat) t v, fn.params[j]? = some t → args[j]? = some v → Value.okWide C.prog W .any base t v) →
      DataW.Whole enc C.prog fn.params.toList s.vars apart W args.toList ds gs before →
      (DataW.weightsEach C.prog (fn.params.toList ++ s.plain.varTypes C.prog) (ds ++ gs)).all (· ≤ reachBytes) = true → laidMetH C.prog laid W → W.ShapedOpen C.prog →
      Calls C.prog f args W fun e W' => ∃ v, e = .returned v ∧ s.post enc C.prog fn apart fresh handsOn again W args v W') :
    ReturnsInHanded a C os f .any (fun w args => (s.pre enc C.prog fn conds apart w args ∧ laidMetH C.prog laid w) ∧ sizedMet enc C.prog fn (OpenSpec.ofChange s) apart w args) (s.post enc C.prog fn apart fresh handsOn again) := by
  refine returnsInHanded_of_calls own started noInit witness ?_
  intro w tape i _ hsh _ hok hpre hholds
  obtain ⟨_, _, _, fn', hfn', _, _, _, _, hval⟩ := hok
  have e : fn' = fn := Option.some.inj (hfn'.symm.trans hfn)
  subst e
  obtain ⟨⟨⟨ds, gs, before, hw, hc⟩, hx⟩, hz⟩ := hpre
  have hw' := DataW.Whole.of_heap (w' := w.forCall tape i) (by rfl) hw
  refine (contract (w.forCall tape i) w.heap.size i.args ds gs before hval hw' (hz.weights hw) (hx.of_heap (by rfl)) hsh).mono fun e W' ⟨v, he, hp⟩ => ?_
  subst he
  exact ChangeSpec.post_blind hp
theorem opens_intw {t : TypeId} (ht : Tryz.prog.underlying t = some (.int .i64)) : Opens t (fun _ cs (a : Int) => cs = [.int .i64 a] ∧ (Lit.int .i64 a).wf = true) := fun H enc W spare held fuel cs x hx _ => by
  obtain ⟨n, e, _, h⟩ := DataW.trod_int ht hx
  exact ⟨n, e, h⟩
theorem cellsB1 : Tryz.prog.cellsOf 4 = 1 := by kernel_rfl
theorem cellsP1 : Tryz.prog.cellsOf 22 = 1 := by kernel_rfl
theorem cellsR2 : Tryz.prog.cellsOf 24 = 2 := by kernel_rfl
theorem cellsC7 : Tryz.prog.cellsOf 34 = 7 := by kernel_rfl
theorem opens_pin : Opens 57 (fun _ cs (p : Int × Int) => cs = [.int .i64 p.1, .int .i64 p.2]) :=
  (opens_struct Tryz.underlying57 Tryz.cells57 (opensF_cons (n := 1) rfl Tryz.cells3 (opens_int Tryz.underlying3) (opensF_last (n := 1) rfl Tryz.cells3 (opens_int Tryz.underlying3)))).mono id (fun _ cs p ⟨hl, h1, h2⟩ => by
    match cs, hl with
    | [x, y], _ => simp at h1 h2; simp [h1, h2])
theorem opens_pins : Opens 22 (fun w cs (l : List (Int × Int)) => ∃ v, cs = [v] ∧ PinsAt w v l) :=
  (opens_slice (B := 70368744177664) Tryz.underlying22 Tryz.cells57 (by decide) (fun k hk => by rw [Tryz.bytes57] at hk; unfold reachBytes at hk; omega) opens_pin).mono id (fun w _ l ⟨v, e, h⟩ => ⟨v, e, by
    obtain ⟨h1, A, b, o, c, rfl, h2, h3, h4⟩ := h
    refine ⟨h1, c, ?_⟩
    by_cases h0 : l = []
    · subst h0
      exact .inl ⟨rfl, A, rfl⟩
    · have hpos : 0 < l.length := List.length_pos_iff.2 h0
      obtain ⟨rfl, hb⟩ := h3 hpos
      refine .inr ⟨b, o, rfl, hb, fun j hj => ?_⟩
      obtain ⟨cs, a, ha, _, hc, rfl⟩ := h4 j hj
      have e1 := hc 0 (by decide)
      have e2 := hc 1 (by decide)
      have : l.getD j (0, 0) = a := by rw [List.getD_eq_getElem?_getD, ha]; rfl
      show w.cell? ⟨b, o + j * 2, none⟩ = some (.int .i64 (l.getD j (0, 0)).1) ∧ w.cell? ⟨b, o + j * 2 + 1, none⟩ = some (.int .i64 (l.getD j (0, 0)).2)
      rw [this]
      exact ⟨e1, e2⟩⟩)
theorem opens_rel : Opens 24 (fun w cs (p : Int × List (Int × Int)) => ∃ v, cs = [.int .i64 p.1, v] ∧ PinsAt w v p.2) :=
  (opens_struct Tryz.underlying24 cellsR2 (opensF_cons (n := 1) rfl Tryz.cells3 (opens_int Tryz.underlying3) (opensF_last (n := 1) rfl cellsP1 opens_pins))).mono id (fun w cs p ⟨hl, h1, v, h2, h3⟩ => by
    match cs, hl with
    | [x, y], _ => simp at h1 h2; exact ⟨v, by simp [h1, h2], h3⟩)
/-- a record that came in -/
theorem opens_rec : Opens 34 (fun w cs (r : Lk.Note) => ∃ v, cs = [.int .i64 r.kind, .int .i64 r.agent, .int .i64 r.tr, .int .i64 r.n, .bool r.good, .int .i64 r.id, v] ∧ PinsAt w v r.lock ∧ (Lit.int .i64 r.kind).wf = true) :=
  (opens_struct Tryz.underlying34 cellsC7
    (opensF_cons (n := 1) rfl Tryz.cells3 (opens_intw Tryz.underlying3)
    (opensF_cons (n := 1) rfl Tryz.cells3 (opens_int Tryz.underlying3)
    (opensF_cons (n := 1) rfl Tryz.cells3 (opens_int Tryz.underlying3)
    (opensF_cons (n := 1) rfl Tryz.cells3 (opens_int Tryz.underlying3)
    (opensF_cons (n := 1) rfl cellsB1 (opens_bool Tryz.underlying4)
    (opensF_last (n := 2) rfl cellsR2 opens_rel))))))).mono (fun p => ⟨p.1, p.2.1, p.2.2.1, p.2.2.2.1, p.2.2.2.2.1, p.2.2.2.2.2.1, p.2.2.2.2.2.2⟩) (fun w cs p ⟨hl, ⟨h1, hw⟩, h2, h3, h4, h5, v, h6, h7⟩ => by
    match cs, hl with
    | [x1, x2, x3, x4, x5, x6, x7], _ =>
      simp at h1 h2 h3 h4 h5 h6
      exact ⟨v, by simp [h1, h2, h3, h4, h5, h6], h7, hw⟩)
theorem bytesC72 : Tryz.prog.bytesOf 34 = 72 := by kernel_rfl
theorem opens_recp : Opens 34 (fun w cs (p : Lk.Note × Value) => cs = recCells p ∧ PinsAt w p.2 p.1.lock) := fun H enc W spare held fuel cs x hx hw => by
  obtain ⟨r, v, e, h1, _⟩ := opens_rec H enc W spare held fuel cs x hx hw
  exact ⟨(r, v), e, h1⟩
/-- records that came in -/
theorem opens_recs : Opens 25 (fun w cs (ps : List (Lk.Note × Value)) => ∃ v, cs = [v] ∧ RecsAt w v ps) :=
  (opens_slice (B := 140737488355328) Tryz.underlying25 cellsC7 (by decide) (fun k hk => by rw [bytesC72] at hk; unfold reachBytes at hk; omega) opens_recp).mono id (fun w _ l ⟨v, e, h⟩ => ⟨v, e, by
    obtain ⟨h1, A, b, o, c, rfl, ⟨h2, h2'⟩, h3, h4⟩ := h
    show RecsAt w _ l
    refine ⟨h1, A, c, rfl, h2, (fun e => by have := h2' e; exact ⟨this, by omega⟩), fun ad ha h0 => ?_, fun ad ha j u hu => ?_, fun q hq => ?_⟩
    · obtain ⟨e1, hb⟩ := h3 h0
      rw [ha] at e1
      cases e1
      exact ⟨rfl, hb⟩
    · have h0 : 0 < l.length := flatR_pos hu
      obtain ⟨e1, hb⟩ := h3 h0
      rw [ha] at e1
      cases e1
      have hj : j < l.length * 7 := by have := (List.getElem?_eq_some_iff.1 hu).1; rwa [flatR_len] at this
      have hk : j / 7 < l.length := by omega
      obtain ⟨cs, q, hq, hcl, hc, rfl, _⟩ := h4 (j / 7) hk
      have e2 := flatR_at l (j / 7) q hq (j % 7) (by omega)
      have e3 : j / 7 * 7 + j % 7 = j := by omega
      rw [e3] at e2
      have e4 := hc (j % 7) (by omega)
      rw [WideShapes.add_plain]
      rw [show o + j = o + j / 7 * 7 + j % 7 from by omega, e4, ← e2]
      exact hu
    · obtain ⟨k, hk⟩ := List.getElem?_of_mem hq
      obtain ⟨cs, q', hq', _, _, _, hp⟩ := h4 k (List.getElem?_eq_some_iff.1 hk).1
      rw [hk] at hq'
      cases hq'
      exact hp⟩)
end Go.Proofs.YtpenkhehceglfaaGreatDoor
