/- Agents, releases, records as they came in. -/
import Derived.Test.YtbnaaookeagjgaaKit
import Derived.Test.YtbnaaookeagjgaaRR
import Derived.Test.YtbnaaookeagjgaaAG1
namespace Go.Proofs.Ytbnaaookeagjgaa
open Go.RowKit Go.ChangeShapes Go.WideShapes Go.ChangeAt
theorem Try.cells3 : Try.prog.cellsOf 3 = 1 := by kernel_rfl
theorem Try.cells51 : Try.prog.cellsOf 51 = 2 := by kernel_rfl
theorem Try.bytes51 : Try.prog.bytesOf 51 = 16 := by kernel_rfl
theorem opens_intw {t : TypeId} (ht : Try.prog.underlying t = some (.int .i64)) : Opens t (fun _ cs (a : Int) => cs = [.int .i64 a] ∧ (Lit.int .i64 a).wf = true) := fun H enc W spare held fuel cs x hx _ => by
  obtain ⟨n, e, _, h⟩ := DataW.trod_int ht hx
  exact ⟨n, e, h⟩
theorem cellsB1 : Try.prog.cellsOf 4 = 1 := by kernel_rfl
theorem cellsP1 : Try.prog.cellsOf 22 = 1 := by kernel_rfl
theorem cellsR2 : Try.prog.cellsOf 24 = 2 := by kernel_rfl
theorem cellsC7 : Try.prog.cellsOf 28 = 7 := by kernel_rfl
theorem opens_pin : Opens 51 (fun _ cs (p : Int × Int) => cs = [.int .i64 p.1, .int .i64 p.2]) :=
  (opens_struct Try.underlying51 Try.cells51 (opensF_cons (n := 1) rfl Try.cells3 (opens_int Try.underlying3) (opensF_last (n := 1) rfl Try.cells3 (opens_int Try.underlying3)))).mono id (fun _ cs p ⟨hl, h1, h2⟩ => by
    match cs, hl with
    | [x, y], _ => simp at h1 h2; simp [h1, h2])
theorem opens_pins : Opens 22 (fun w cs (l : List (Int × Int)) => ∃ v, cs = [v] ∧ PinsAt w v l) :=
  (opens_slice (B := 70368744177664) Try.underlying22 Try.cells51 (by decide) (fun k hk => by rw [Try.bytes51] at hk; unfold reachBytes at hk; omega) opens_pin).mono id (fun w _ l ⟨v, e, h⟩ => ⟨v, e, by
    obtain ⟨h1, A, b, o, c, rfl, h2, h3, h4⟩ := h
    refine ⟨h1, c, ?_⟩
    by_cases h0 : l = []
    · subst h0
      exact .inl ⟨rfl, A, rfl⟩
    · have hpos : 0 < l.length := List.length_pos_iff.2 h0
      obtain ⟨rfl, hb⟩ := h3 hpos
      refine .inr ⟨b, o, rfl, hb, fun j hj => ?_⟩
      obtain ⟨cs, a, ha, _, hc, rfl⟩ := h4 j hj
      have e1 := hc 0 (by decide)
      have e2 := hc 1 (by decide)
      have : l.getD j (0, 0) = a := by rw [List.getD_eq_getElem?_getD, ha]; rfl
      show w.cell? ⟨b, o + j * 2, none⟩ = some (.int .i64 (l.getD j (0, 0)).1) ∧ w.cell? ⟨b, o + j * 2 + 1, none⟩ = some (.int .i64 (l.getD j (0, 0)).2)
      rw [this]
      exact ⟨e1, e2⟩⟩)
theorem opens_rel : Opens 24 (fun w cs (p : Int × List (Int × Int)) => ∃ v, cs = [.int .i64 p.1, v] ∧ PinsAt w v p.2) :=
  (opens_struct Try.underlying24 cellsR2 (opensF_cons (n := 1) rfl Try.cells3 (opens_int Try.underlying3) (opensF_last (n := 1) rfl cellsP1 opens_pins))).mono id (fun w cs p ⟨hl, h1, v, h2, h3⟩ => by
    match cs, hl with
    | [x, y], _ => simp at h1 h2; exact ⟨v, by simp [h1, h2], h3⟩)
/-- a record that came in -/
theorem opens_rec : Opens 28 (fun w cs (r : Lk.Note) => ∃ v, cs = [.int .i64 r.kind, .int .i64 r.agent, .int .i64 r.tr, .int .i64 r.n, .bool r.good, .int .i64 r.id, v] ∧ PinsAt w v r.lock ∧ (Lit.int .i64 r.kind).wf = true) :=
  (opens_struct Try.underlying28 cellsC7
    (opensF_cons (n := 1) rfl Try.cells3 (opens_intw Try.underlying3)
    (opensF_cons (n := 1) rfl Try.cells3 (opens_int Try.underlying3)
    (opensF_cons (n := 1) rfl Try.cells3 (opens_int Try.underlying3)
    (opensF_cons (n := 1) rfl Try.cells3 (opens_int Try.underlying3)
    (opensF_cons (n := 1) rfl cellsB1 (opens_bool Try.underlying4)
    (opensF_last (n := 2) rfl cellsR2 opens_rel))))))).mono (fun p => ⟨p.1, p.2.1, p.2.2.1, p.2.2.2.1, p.2.2.2.2.1, p.2.2.2.2.2.1, p.2.2.2.2.2.2⟩) (fun w cs p ⟨hl, ⟨h1, hw⟩, h2, h3, h4, h5, v, h6, h7⟩ => by
    match cs, hl with
    | [x1, x2, x3, x4, x5, x6, x7], _ =>
      simp at h1 h2 h3 h4 h5 h6
      exact ⟨v, by simp [h1, h2, h3, h4, h5, h6], h7, hw⟩)
theorem bytesC72 : Try.prog.bytesOf 28 = 72 := by kernel_rfl
theorem opens_recp : Opens 28 (fun w cs (p : Lk.Note × Value) => cs = recCells p ∧ PinsAt w p.2 p.1.lock ∧ (Lit.int .i64 p.1.kind).wf = true) := fun H enc W spare held fuel cs x hx hw => by
  obtain ⟨r, v, e, h1, h2⟩ := opens_rec H enc W spare held fuel cs x hx hw
  exact ⟨(r, v), e, h1, h2⟩
/-- records that came in -/
theorem opens_recs : Opens 45 (fun w cs (ps : List (Lk.Note × Value)) => ∃ v, cs = [v] ∧ RecsAt w v ps ∧ ∀ q ∈ ps, (Lit.int .i64 q.1.kind).wf = true) :=
  (opens_slice (B := 140737488355328) Try.underlying45 cellsC7 (by decide) (fun k hk => by rw [bytesC72] at hk; unfold reachBytes at hk; omega) opens_recp).mono id (fun w _ l ⟨v, e, h⟩ => ⟨v, e, by
    obtain ⟨h1, A, b, o, c, rfl, ⟨h2, h2'⟩, h3, h4⟩ := h
    show RecsAt w _ l ∧ ∀ q ∈ l, (Lit.int .i64 q.1.kind).wf = true
    refine ⟨⟨h1, A, c, rfl, h2, (fun e => by have := h2' e; exact ⟨this, by omega⟩), fun ad ha h0 => ?_, fun ad ha j u hu => ?_, fun q hq => ?_⟩, fun q hq => ?_⟩
    · obtain ⟨e1, hb⟩ := h3 h0
      rw [ha] at e1
      cases e1
      exact ⟨rfl, hb⟩
    · have h0 : 0 < l.length := flatR_pos hu
      obtain ⟨e1, hb⟩ := h3 h0
      rw [ha] at e1
      cases e1
      have hj : j < l.length * 7 := by have := (List.getElem?_eq_some_iff.1 hu).1; rwa [flatR_len] at this
      have hk : j / 7 < l.length := by omega
      obtain ⟨cs, q, hq, hcl, hc, rfl, _, _⟩ := h4 (j / 7) hk
      have e2 := flatR_at l (j / 7) q hq (j % 7) (by omega)
      have e3 : j / 7 * 7 + j % 7 = j := by omega
      rw [e3] at e2
      have e4 := hc (j % 7) (by omega)
      rw [WideShapes.add_plain]
      rw [show o + j = o + j / 7 * 7 + j % 7 from by omega, e4, ← e2]
      exact hu
    · obtain ⟨k, hk⟩ := List.getElem?_of_mem hq
      obtain ⟨cs, q', hq', _, _, _, hp, _⟩ := h4 k (List.getElem?_eq_some_iff.1 hk).1
      rw [hk] at hq'
      cases hq'
      exact hp
    · obtain ⟨k, hk⟩ := List.getElem?_of_mem hq
      obtain ⟨cs, q', hq', _, _, _, _, hp⟩ := h4 k (List.getElem?_eq_some_iff.1 hk).1
      rw [hk] at hq'
      cases hq'
      exact hp⟩)
theorem cellsA7 : Try.prog.cellsOf 26 = 7 := by kernel_rfl
/-- an agent that came in -/
theorem opens_agent : Opens 26 (fun w cs (a : Ag.Agent) => ∃ v u, cs = [v, .int .i64 a.at', .int .i64 a.tr, .bool a.going, .int .i64 a.gid, u, .bool a.good] ∧ PinsAt w v a.lock ∧ PinsAt w u a.glock) :=
  (opens_struct Try.underlying26 cellsA7
    (opensF_cons (n := 1) rfl cellsP1 opens_pins
    (opensF_cons (n := 1) rfl Try.cells3 (opens_int Try.underlying3)
    (opensF_cons (n := 1) rfl Try.cells3 (opens_int Try.underlying3)
    (opensF_cons (n := 1) rfl cellsB1 (opens_bool Try.underlying4)
    (opensF_cons (n := 2) rfl cellsR2 opens_rel
    (opensF_last (n := 1) rfl cellsB1 (opens_bool Try.underlying4)))))))).mono (fun p => ⟨p.1, p.2.1, p.2.2.1, p.2.2.2.1, p.2.2.2.2.1.1, p.2.2.2.2.1.2, p.2.2.2.2.2⟩) (fun w cs p ⟨hl, ⟨v, h1, hv⟩, h2, h3, h4, ⟨u, h5, hu⟩, h6⟩ => by
    match cs, hl with
    | [x1, x2, x3, x4, x5, x6, x7], _ =>
      simp at h1 h2 h3 h4 h5 h6
      exact ⟨v, u, by simp [h1, h2, h3, h4, h5, h6], hv, hu⟩)
end Go.Proofs.Ytbnaaookeagjgaa
