/- Configurations, leaders, releases, records as they came in. -/
import Derived.Test.YtcnnejndmafniaaKit
import Derived.Test.YtcnnejndmafniaaRR
import Derived.Test.YtcnnejndmafniaaWOp
import Derived.Test.YtcnnejndmafniaaLA
namespace Go.Proofs.Ytcnnejndmafniaa
open Go.RowKit Go.ChangeShapes Go.WideShapes Go.ChangeAt
theorem Try.cells3 : Try.prog.cellsOf 3 = 1 := by kernel_rfl
theorem Try.cells75 : Try.prog.cellsOf 75 = 2 := by kernel_rfl
theorem Try.bytes75 : Try.prog.bytesOf 75 = 16 := by kernel_rfl
theorem opens_intw {t : TypeId} (ht : Try.prog.underlying t = some (.int .i64)) : Opens t (fun _ cs (a : Int) => cs = [.int .i64 a] ∧ (Lit.int .i64 a).wf = true) := fun H enc W spare held fuel cs x hx _ => by
  obtain ⟨n, e, _, h⟩ := DataW.trod_int ht hx
  exact ⟨n, e, h⟩
theorem cellsB1 : Try.prog.cellsOf 4 = 1 := by kernel_rfl
theorem cellsP1 : Try.prog.cellsOf 22 = 1 := by kernel_rfl
theorem cellsR2 : Try.prog.cellsOf 24 = 2 := by kernel_rfl
theorem cellsC7 : Try.prog.cellsOf 53 = 7 := by kernel_rfl
theorem opens_pin : Opens 75 (fun _ cs (p : Int × Int) => cs = [.int .i64 p.1, .int .i64 p.2]) :=
  (opens_struct Try.underlying75 Try.cells75 (opensF_cons (n := 1) rfl Try.cells3 (opens_int Try.underlying3) (opensF_last (n := 1) rfl Try.cells3 (opens_int Try.underlying3)))).mono id (fun _ cs p ⟨hl, h1, h2⟩ => by
    match cs, hl with
    | [x, y], _ => simp at h1 h2; simp [h1, h2])
theorem opens_pins : Opens 22 (fun w cs (l : List (Int × Int)) => ∃ v, cs = [v] ∧ PinsAt w v l) :=
  (opens_slice (B := 70368744177664) Try.underlying22 Try.cells75 (by decide) (fun k hk => by rw [Try.bytes75] at hk; unfold reachBytes at hk; omega) opens_pin).mono id (fun w _ l ⟨v, e, h⟩ => ⟨v, e, by
    obtain ⟨h1, A, b, o, c, rfl, h2, h3, h4⟩ := h
    refine ⟨h1, c, ?_⟩
    by_cases h0 : l = []
    · subst h0
      exact .inl ⟨rfl, A, rfl⟩
    · have hpos : 0 < l.length := List.length_pos_iff.2 h0
      obtain ⟨rfl, hb⟩ := h3 hpos
      refine .inr ⟨b, o, rfl, hb, fun j hj => ?_⟩
      obtain ⟨cs, a, ha, _, hc, rfl⟩ := h4 j hj
      have e1 := hc 0 (by decide)
      have e2 := hc 1 (by decide)
      have : l.getD j (0, 0) = a := by rw [List.getD_eq_getElem?_getD, ha]; rfl
      show w.cell? ⟨b, o + j * 2, none⟩ = some (.int .i64 (l.getD j (0, 0)).1) ∧ w.cell? ⟨b, o + j * 2 + 1, none⟩ = some (.int .i64 (l.getD j (0, 0)).2)
      rw [this]
      exact ⟨e1, e2⟩⟩)
theorem opens_rel : Opens 24 (fun w cs (p : Int × List (Int × Int)) => ∃ v, cs = [.int .i64 p.1, v] ∧ PinsAt w v p.2) :=
  (opens_struct Try.underlying24 cellsR2 (opensF_cons (n := 1) rfl Try.cells3 (opens_int Try.underlying3) (opensF_last (n := 1) rfl cellsP1 opens_pins))).mono id (fun w cs p ⟨hl, h1, v, h2, h3⟩ => by
    match cs, hl with
    | [x, y], _ => simp at h1 h2; exact ⟨v, by simp [h1, h2], h3⟩)
/-- a record that came in -/
theorem opens_rec : Opens 53 (fun w cs (r : Lk.Note) => ∃ v, cs = [.int .i64 r.kind, .int .i64 r.agent, .int .i64 r.tr, .int .i64 r.n, .bool r.good, .int .i64 r.id, v] ∧ PinsAt w v r.lock ∧ (Lit.int .i64 r.kind).wf = true) :=
  (opens_struct Try.underlying53 cellsC7
    (opensF_cons (n := 1) rfl Try.cells3 (opens_intw Try.underlying3)
    (opensF_cons (n := 1) rfl Try.cells3 (opens_int Try.underlying3)
    (opensF_cons (n := 1) rfl Try.cells3 (opens_int Try.underlying3)
    (opensF_cons (n := 1) rfl Try.cells3 (opens_int Try.underlying3)
    (opensF_cons (n := 1) rfl cellsB1 (opens_bool Try.underlying4)
    (opensF_last (n := 2) rfl cellsR2 opens_rel))))))).mono (fun p => ⟨p.1, p.2.1, p.2.2.1, p.2.2.2.1, p.2.2.2.2.1, p.2.2.2.2.2.1, p.2.2.2.2.2.2⟩) (fun w cs p ⟨hl, ⟨h1, hw⟩, h2, h3, h4, h5, v, h6, h7⟩ => by
    match cs, hl with
    | [x1, x2, x3, x4, x5, x6, x7], _ =>
      simp at h1 h2 h3 h4 h5 h6
      exact ⟨v, by simp [h1, h2, h3, h4, h5, h6], h7, hw⟩)
theorem bytesC72 : Try.prog.bytesOf 53 = 72 := by kernel_rfl
theorem opens_recp : Opens 53 (fun w cs (p : Lk.Note × Value) => cs = recCells p ∧ PinsAt w p.2 p.1.lock ∧ (Lit.int .i64 p.1.kind).wf = true) := fun H enc W spare held fuel cs x hx hw => by
  obtain ⟨r, v, e, h1, h2⟩ := opens_rec H enc W spare held fuel cs x hx hw
  exact ⟨(r, v), e, h1, h2⟩
/-- records that came in -/
theorem opens_recs : Opens 51 (fun w cs (ps : List (Lk.Note × Value)) => ∃ v, cs = [v] ∧ RecsAt w v ps ∧ ∀ q ∈ ps, (Lit.int .i64 q.1.kind).wf = true) :=
  (opens_slice (B := 140737488355328) Try.underlying51 cellsC7 (by decide) (fun k hk => by rw [bytesC72] at hk; unfold reachBytes at hk; omega) opens_recp).mono id (fun w _ l ⟨v, e, h⟩ => ⟨v, e, by
    obtain ⟨h1, A, b, o, c, rfl, ⟨h2, h2'⟩, h3, h4⟩ := h
    show RecsAt w _ l ∧ ∀ q ∈ l, (Lit.int .i64 q.1.kind).wf = true
    refine ⟨⟨h1, A, c, rfl, h2, (fun e => by have := h2' e; exact ⟨this, by omega⟩), fun ad ha h0 => ?_, fun ad ha j u hu => ?_, fun q hq => ?_⟩, fun q hq => ?_⟩
    · obtain ⟨e1, hb⟩ := h3 h0
      rw [ha] at e1
      cases e1
      exact ⟨rfl, hb⟩
    · have h0 : 0 < l.length := flatR_pos hu
      obtain ⟨e1, hb⟩ := h3 h0
      rw [ha] at e1
      cases e1
      have hj : j < l.length * 7 := by have := (List.getElem?_eq_some_iff.1 hu).1; rwa [flatR_len] at this
      have hk : j / 7 < l.length := by omega
      obtain ⟨cs, q, hq, hcl, hc, rfl, _, _⟩ := h4 (j / 7) hk
      have e2 := flatR_at l (j / 7) q hq (j % 7) (by omega)
      have e3 : j / 7 * 7 + j % 7 = j := by omega
      rw [e3] at e2
      have e4 := hc (j % 7) (by omega)
      rw [WideShapes.add_plain]
      rw [show o + j = o + j / 7 * 7 + j % 7 from by omega, e4, ← e2]
      exact hu
    · obtain ⟨k, hk⟩ := List.getElem?_of_mem hq
      obtain ⟨cs, q', hq', _, _, _, hp, _⟩ := h4 k (List.getElem?_eq_some_iff.1 hk).1
      rw [hk] at hq'
      cases hq'
      exact hp
    · obtain ⟨k, hk⟩ := List.getElem?_of_mem hq
      obtain ⟨cs, q', hq', _, _, _, _, hp⟩ := h4 k (List.getElem?_eq_some_iff.1 hk).1
      rw [hk] at hq'
      cases hq'
      exact hp⟩)
theorem cellsRl4 : Try.prog.cellsOf 98 = 4 := by kernel_rfl
theorem bytesRl32 : Try.prog.bytesOf 98 = 32 := by kernel_rfl
theorem opens_rule : Opens 98 (fun _ cs (p : Rk.Rl) => cs = [.int .i64 p.1, .int .i64 p.2.1, .int .i64 p.2.2.1, .int .i64 p.2.2.2]) :=
  (opens_struct Try.underlying98 cellsRl4
    (opensF_cons (n := 1) rfl Try.cells3 (opens_int Try.underlying3)
    (opensF_cons (n := 1) rfl Try.cells3 (opens_int Try.underlying3)
    (opensF_cons (n := 1) rfl Try.cells3 (opens_int Try.underlying3)
    (opensF_last (n := 1) rfl Try.cells3 (opens_int Try.underlying3)))))).mono id (fun _ cs p ⟨hl, h1, h2, h3, h4⟩ => by
    match cs, hl with
    | [x1, x2, x3, x4], _ => simp at h1 h2 h3 h4; simp [h1, h2, h3, h4])
theorem opens_rules : Opens 25 (fun w cs (l : List Rk.Rl) => ∃ v, cs = [v] ∧ RulesAt w v l) :=
  (opens_slice (B := 70368744177664) Try.underlying25 cellsRl4 (by decide) (fun k hk => by rw [bytesRl32] at hk; unfold reachBytes at hk; omega) opens_rule).mono id (fun w _ l ⟨v, e, h⟩ => ⟨v, e, by
    obtain ⟨h1, A, b, o, c, rfl, h2, h3, h4⟩ := h
    refine ⟨h1, A, b, o, c, rfl, h2.1, h3, fun j hj => ?_⟩
    obtain ⟨cs, a, ha, _, hc, rfl⟩ := h4 j hj
    have : (id l).getD j (0, 0, 0, 0) = a := by show l.getD j (0, 0, 0, 0) = a; rw [List.getD_eq_getElem?_getD, ha]; rfl
    rw [this]
    exact ⟨hc 0 (by decide), hc 1 (by decide), hc 2 (by decide), hc 3 (by decide)⟩⟩)
theorem cellsRs1 : Try.prog.cellsOf 25 = 1 := by kernel_rfl
theorem cellsWs1 : Try.prog.cellsOf 26 = 1 := by kernel_rfl
theorem cellsCf5 : Try.prog.cellsOf 28 = 5 := by kernel_rfl
/-- a configuration that came in -/
theorem opens_config : Opens 28 (fun w cs (c : Ld.Config) => ∃ a b d, cs = [.int .i64 c.fid, a, b, d, .int .i64 c.budget] ∧ CfAt w c a b d) :=
  (opens_struct Try.underlying28 cellsCf5
    (opensF_cons (n := 2) rfl cellsR2 opens_rel
    (opensF_cons (n := 1) rfl cellsRs1 opens_rules
    (opensF_cons (n := 1) rfl cellsWs1 opens_waves
    (opensF_last (n := 1) rfl Try.cells3 (opens_int Try.underlying3)))))).mono (fun p => ⟨p.1.1, p.1.2, p.2.1, p.2.2.1, p.2.2.2⟩) (fun w cs p ⟨hl, ⟨a, h1, ha⟩, ⟨b, h2, hb⟩, ⟨d, h3, hd⟩, h4⟩ => by
    match cs, hl with
    | [x1, x2, x3, x4, x5], _ =>
      simp at h1 h2 h3 h4
      exact ⟨a, b, d, by simp [h1, h2, h3, h4], ha, hb, hd⟩)
theorem cellsKn3 : Try.prog.cellsOf 56 = 3 := by kernel_rfl
theorem bytesKn24 : Try.prog.bytesOf 56 = 24 := by kernel_rfl
theorem opens_known : Opens 56 (fun _ cs (p : Ld.Known) => cs = [.int .i64 p.st, .int .i64 p.tr, .bool p.back]) :=
  (opens_struct Try.underlying56 cellsKn3
    (opensF_cons (n := 1) rfl Try.cells3 (opens_int Try.underlying3)
    (opensF_cons (n := 1) rfl Try.cells3 (opens_int Try.underlying3)
    (opensF_last (n := 1) rfl cellsB1 (opens_bool Try.underlying4))))).mono (fun p => ⟨p.1, p.2.1, p.2.2⟩) (fun _ cs p ⟨hl, h1, h2, h3⟩ => by
    match cs, hl with
    | [x1, x2, x3], _ => simp at h1 h2 h3; simp [h1, h2, h3])
theorem opens_knowns : Opens 30 (fun w cs (l : List Ld.Known) => ∃ v, cs = [v] ∧ KnowsAt w v l) :=
  (opens_slice (B := 140737488355328) Try.underlying30 cellsKn3 (by decide) (fun k hk => by rw [bytesKn24] at hk; unfold reachBytes at hk; omega) opens_known).mono id (fun w _ l ⟨v, e, h⟩ => ⟨v, e, by
    obtain ⟨h1, A, b, o, c, rfl, ⟨h2, h2'⟩, h3, h4⟩ := h
    refine ⟨h1, A, b, o, c, rfl, h2, h2', h3, fun j hj => ?_⟩
    obtain ⟨cs, a, ha, _, hc, rfl⟩ := h4 j hj
    have : (id l).getD j ⟨0, 0, false⟩ = a := by show l.getD j ⟨0, 0, false⟩ = a; rw [List.getD_eq_getElem?_getD, ha]; rfl
    rw [this]
    exact ⟨hc 0 (by decide), hc 1 (by decide), hc 2 (by decide)⟩⟩)
theorem bytesRe32 : Try.prog.bytesOf 24 = 32 := by kernel_rfl
theorem opens_relp : Opens 24 (fun w cs (p : (Int × List (Int × Int)) × Value) => cs = relCells p ∧ PinsAt w p.2 p.1.2) := fun H enc W spare held fuel cs x hx hw => by
  obtain ⟨r, v, e, h1⟩ := opens_rel H enc W spare held fuel cs x hx hw
  exact ⟨(r, v), e, h1⟩
theorem opens_rels : Opens 29 (fun w cs (ps : List ((Int × List (Int × Int)) × Value)) => ∃ v, cs = [v] ∧ RelsAt w v ps) :=
  (opens_slice (B := 140737488355328) Try.underlying29 cellsR2 (by decide) (fun k hk => by rw [bytesRe32] at hk; unfold reachBytes at hk; omega) opens_relp).mono id (fun w _ l ⟨v, e, h⟩ => ⟨v, e, by
    obtain ⟨h1, A, b, o, c, rfl, ⟨h2, h2'⟩, h3, h4⟩ := h
    show RelsAt w _ l
    refine ⟨h1, A, c, rfl, h2, (fun e => by have := h2' e; exact ⟨this, by omega⟩), fun ad ha h0 => ?_, fun ad ha j u hu => ?_, fun q hq => ?_⟩
    · obtain ⟨e1, hb⟩ := h3 h0
      rw [ha] at e1
      cases e1
      exact ⟨rfl, hb⟩
    · have h0 : 0 < l.length := flatL_pos hu
      obtain ⟨e1, hb⟩ := h3 h0
      rw [ha] at e1
      cases e1
      have hj : j < l.length * 2 := by have := (List.getElem?_eq_some_iff.1 hu).1; rwa [flatL_len] at this
      have hk : j / 2 < l.length := by omega
      obtain ⟨cs, q, hq, hcl, hc, rfl, _⟩ := h4 (j / 2) hk
      have e2 := flatL_at l (j / 2) q hq (j % 2) (by omega)
      have e3 : j / 2 * 2 + j % 2 = j := by omega
      rw [e3] at e2
      have e4 := hc (j % 2) (by omega)
      rw [WideShapes.add_plain]
      rw [show o + j = o + j / 2 * 2 + j % 2 from by omega, e4, ← e2]
      exact hu
    · obtain ⟨k, hk⟩ := List.getElem?_of_mem hq
      obtain ⟨cs, q', hq', _, _, _, hp⟩ := h4 k (List.getElem?_eq_some_iff.1 hk).1
      rw [hk] at hq'
      cases hq'
      exact hp⟩)
theorem cellsRe1 : Try.prog.cellsOf 29 = 1 := by kernel_rfl
theorem cellsKs1 : Try.prog.cellsOf 30 = 1 := by kernel_rfl
theorem cellsLe6 : Try.prog.cellsOf 32 = 6 := by kernel_rfl
/-- a leader that came in -/
theorem opens_leader : Opens 32 (fun w cs (l : Ld.Leader) => ∃ r a, cs = [r, .int .i64 l.now, .int .i64 l.goal, .bool l.back, a, .int .i64 l.next] ∧ LdAt w l r a) :=
  (opens_struct Try.underlying32 cellsLe6
    (opensF_cons (n := 1) rfl cellsRe1 opens_rels
    (opensF_cons (n := 1) rfl Try.cells3 (opens_int Try.underlying3)
    (opensF_cons (n := 1) rfl Try.cells3 (opens_int Try.underlying3)
    (opensF_cons (n := 1) rfl cellsB1 (opens_bool Try.underlying4)
    (opensF_cons (n := 1) rfl cellsKs1 opens_knowns
    (opensF_last (n := 1) rfl Try.cells3 (opens_int Try.underlying3)))))))).mono (fun p => ⟨p.1.map Prod.fst, p.2.1, p.2.2.1, p.2.2.2.1, p.2.2.2.2.1, p.2.2.2.2.2⟩) (fun w cs p ⟨hl, ⟨r, h1, hr⟩, h2, h3, h4, ⟨a, h5, ha⟩, h6⟩ => by
    match cs, hl with
    | [x1, x2, x3, x4, x5, x6], _ =>
      simp at h1 h2 h3 h4 h5 h6
      exact ⟨r, a, by simp [h1, h2, h3, h4, h5, h6], ⟨p.1, hr, rfl⟩, ha⟩)
end Go.Proofs.Ytcnnejndmafniaa
