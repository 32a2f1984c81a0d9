/- Mail as it came in. -/
import Derived.Test.YtbdefihgplcdoaeKit
import Derived.Carry
import Derived.Test.YtbdefihgplcdoaeMR
namespace Go.Proofs.Ytbdefihgplcdoae
open Go.RowKit Go.ChangeShapes Go.WideShapes Go.ChangeAt
theorem Try.cells3 : Try.prog.cellsOf 3 = 1 := by kernel_rfl
theorem Try.cells69 : Try.prog.cellsOf 69 = 2 := by kernel_rfl
theorem Try.bytes69 : Try.prog.bytesOf 69 = 16 := by kernel_rfl
theorem opens_intw {t : TypeId} (ht : Try.prog.underlying t = some (.int .i64)) : Opens t (fun _ cs (a : Int) => cs = [.int .i64 a] ∧ (Lit.int .i64 a).wf = true) := fun H enc W spare held fuel cs x hx _ => by
  obtain ⟨n, e, _, h⟩ := DataW.trod_int ht hx
  exact ⟨n, e, h⟩
theorem cellsB1 : Try.prog.cellsOf 4 = 1 := by kernel_rfl
theorem cellsP1 : Try.prog.cellsOf 22 = 1 := by kernel_rfl
theorem cellsR2 : Try.prog.cellsOf 24 = 2 := by kernel_rfl
theorem cellsM6 : Try.prog.cellsOf 52 = 6 := by kernel_rfl
theorem bytesM56 : Try.prog.bytesOf 52 = 56 := by kernel_rfl
theorem opens_pin : Opens 69 (fun _ cs (p : Int × Int) => cs = [.int .i64 p.1, .int .i64 p.2]) :=
  (opens_struct Try.underlying69 Try.cells69 (opensF_cons (n := 1) rfl Try.cells3 (opens_int Try.underlying3) (opensF_last (n := 1) rfl Try.cells3 (opens_int Try.underlying3)))).mono id (fun _ cs p ⟨hl, h1, h2⟩ => by
    match cs, hl with
    | [x, y], _ => simp at h1 h2; simp [h1, h2])
theorem opens_pins : Opens 22 (fun w cs (l : List (Int × Int)) => ∃ v, cs = [v] ∧ PinsAt w v l) :=
  (opens_slice (B := 70368744177664) Try.underlying22 Try.cells69 (by decide) (fun k hk => by rw [Try.bytes69] at hk; unfold reachBytes at hk; omega) opens_pin).mono id (fun w _ l ⟨v, e, h⟩ => ⟨v, e, by
    obtain ⟨h1, A, b, o, c, rfl, h2, h3, h4⟩ := h
    refine ⟨h1, c, ?_⟩
    by_cases h0 : l = []
    · subst h0
      exact .inl ⟨rfl, A, rfl⟩
    · have hpos : 0 < l.length := List.length_pos_iff.2 h0
      obtain ⟨rfl, hb⟩ := h3 hpos
      refine .inr ⟨b, o, rfl, hb, fun j hj => ?_⟩
      obtain ⟨cs, a, ha, _, hc, rfl⟩ := h4 j hj
      have e1 := hc 0 (by decide)
      have e2 := hc 1 (by decide)
      have : l.getD j (0, 0) = a := by rw [List.getD_eq_getElem?_getD, ha]; rfl
      show w.cell? ⟨b, o + j * 2, none⟩ = some (.int .i64 (l.getD j (0, 0)).1) ∧ w.cell? ⟨b, o + j * 2 + 1, none⟩ = some (.int .i64 (l.getD j (0, 0)).2)
      rw [this]
      exact ⟨e1, e2⟩⟩)
theorem opens_rel : Opens 24 (fun w cs (p : Int × List (Int × Int)) => ∃ v, cs = [.int .i64 p.1, v] ∧ PinsAt w v p.2) :=
  (opens_struct Try.underlying24 cellsR2 (opensF_cons (n := 1) rfl Try.cells3 (opens_int Try.underlying3) (opensF_last (n := 1) rfl cellsP1 opens_pins))).mono id (fun w cs p ⟨hl, h1, v, h2, h3⟩ => by
    match cs, hl with
    | [x, y], _ => simp at h1 h2; exact ⟨v, by simp [h1, h2], h3⟩)
/-- a piece of mail that came in -/
theorem opens_mail : Opens 52 (fun w cs (p : Wy.Mail × Value) => cs = mlCells p ∧ PinsAt w p.2 p.1.lock) := fun H enc W spare held fuel cs x hx hw => by
  have key : Opens 52 (fun w cs (r : Wy.Mail) => ∃ v, cs = [.int .i64 r.agent, .int .i64 r.tr, .bool r.rep, .bool r.good, .int .i64 r.id, v] ∧ PinsAt w v r.lock) :=
    (opens_struct Try.underlying52 cellsM6
      (opensF_cons (n := 1) rfl Try.cells3 (opens_int Try.underlying3)
      (opensF_cons (n := 1) rfl Try.cells3 (opens_int Try.underlying3)
      (opensF_cons (n := 1) rfl cellsB1 (opens_bool Try.underlying4)
      (opensF_cons (n := 1) rfl cellsB1 (opens_bool Try.underlying4)
      (opensF_last (n := 2) rfl cellsR2 opens_rel)))))).mono (fun p => ⟨p.1, p.2.1, p.2.2.1, p.2.2.2.1, p.2.2.2.2.1, p.2.2.2.2.2⟩) (fun w cs p ⟨hl, h1, h2, h3, h4, v, h6, h7⟩ => by
      match cs, hl with
      | [x1, x2, x3, x4, x5, x6], _ =>
        simp at h1 h2 h3 h4 h6
        exact ⟨v, by simp [h1, h2, h3, h4, h6], h7⟩)
  obtain ⟨r, v, e, h1⟩ := key H enc W spare held fuel cs x hx hw
  exact ⟨(r, v), e, h1⟩
/-- mail that came in -/
theorem opens_mails : Opens 50 (fun w cs (ps : List (Wy.Mail × Value)) => ∃ v, cs = [v] ∧ MailsAt w v ps) :=
  (opens_slice (B := 140737488355328) Try.underlying50 cellsM6 (by decide) (fun k hk => by rw [bytesM56] at hk; unfold reachBytes at hk; omega) opens_mail).mono id (fun w _ l ⟨v, e, h⟩ => ⟨v, e, by
    obtain ⟨h1, A, b, o, c, rfl, ⟨h2, h2'⟩, h3, h4⟩ := h
    show MailsAt w _ l
    refine ⟨h1, A, c, rfl, h2, (fun e => by have := h2' e; exact ⟨this, by omega⟩), fun ad ha h0 => ?_, fun ad ha j u hu => ?_, fun q hq => ?_⟩
    · obtain ⟨e1, hb⟩ := h3 h0
      rw [ha] at e1
      cases e1
      exact ⟨rfl, hb⟩
    · have h0 : 0 < l.length := flatM_pos hu
      obtain ⟨e1, hb⟩ := h3 h0
      rw [ha] at e1
      cases e1
      have hj : j < l.length * 6 := by have := (List.getElem?_eq_some_iff.1 hu).1; rwa [flatM_len] at this
      have hk : j / 6 < l.length := by omega
      obtain ⟨cs, q, hq, hcl, hc, rfl, _⟩ := h4 (j / 6) hk
      have e2 := flatM_at l (j / 6) q hq (j % 6) (by omega)
      have e3 : j / 6 * 6 + j % 6 = j := by omega
      rw [e3] at e2
      have e4 := hc (j % 6) (by omega)
      rw [WideShapes.add_plain]
      rw [show o + j = o + j / 6 * 6 + j % 6 from by omega, e4, ← e2]
      exact hu
    · obtain ⟨k, hk⟩ := List.getElem?_of_mem hq
      obtain ⟨cs, q', hq', _, _, _, hp⟩ := h4 k (List.getElem?_eq_some_iff.1 hk).1
      rw [hk] at hq'
      cases hq'
      exact hp⟩)
section
variable {H : Type} {enc : TypeId × Value → H} {P : Program} {w : World} {base : Nat} {spare : Nat → Bool} {held : Bool}
theorem trodAll_five {t t' t'' t3 t4 : TypeId} {args : Array Value} {ds : List (DataW H)} {ps : List MemPlace} (h : DataW.TrodAll enc P w base spare held [t, t', t'', t3, t4] args.toList ds ps) :
    ∃ v v' v'' v3 v4 d d' d'' d3 d4 p p' p'' p3 p4, args = #[v, v', v'', v3, v4] ∧ ds = [d, d', d'', d3, d4] ∧ ps = p ++ p' ++ p'' ++ p3 ++ p4 ∧ DataW.Trod enc P w base spare held t v d p ∧ DataW.Trod enc P w base spare held t' v' d' p' ∧ DataW.Trod enc P w base spare held t'' v'' d'' p'' ∧ DataW.Trod enc P w base spare held t3 v3 d3 p3 ∧ DataW.Trod enc P w base spare held t4 v4 d4 p4 := by
  obtain ⟨v, vs, d, ds1, p, q, hargs, rfl, rfl, hd, hrest⟩ := trodAll_cons h
  obtain ⟨v', vs1, d', ds2, p', q1, rfl, rfl, rfl, hd', hrest1⟩ := trodAll_cons hrest
  obtain ⟨v'', vs2, d'', ds3, p'', q2, rfl, rfl, rfl, hd'', hrest2⟩ := trodAll_cons hrest1
  obtain ⟨v3, vs3, d3, ds4, p3, q3, rfl, rfl, rfl, hd3, hrest3⟩ := trodAll_cons hrest2
  obtain ⟨v4, vs4, d4, ds5, p4, q4, rfl, rfl, rfl, hd4, hrest4⟩ := trodAll_cons hrest3
  obtain ⟨rfl, rfl, rfl⟩ := trodAll_nil hrest4
  exact ⟨v, v', v'', v3, v4, d, d', d'', d3, d4, p, p', p'', p3, p4, by cases args; simp_all, rfl, by simp, hd, hd', hd'', hd3, hd4⟩
theorem trodAll_mk5 {t t' t'' t3 t4 : TypeId} {v v' v'' v3 v4 : Value} {d d' d'' d3 d4 : DataW H} {p p' p'' p3 p4 : List MemPlace} (h : DataW.Trod enc P w base spare held t v d p) (h' : DataW.Trod enc P w base spare held t' v' d' p')
    (h'' : DataW.Trod enc P w base spare held t'' v'' d'' p'') (h3 : DataW.Trod enc P w base spare held t3 v3 d3 p3) (h4 : DataW.Trod enc P w base spare held t4 v4 d4 p4) : DataW.TrodAll enc P w base spare held [t, t', t'', t3, t4] [v, v', v'', v3, v4] [d, d', d'', d3, d4] (p ++ (p' ++ (p'' ++ (p3 ++ p4)))) := ⟨p, p' ++ (p'' ++ (p3 ++ p4)), h, trodAll_mk4 h' h'' h3 h4, rfl⟩
end
end Go.Proofs.Ytbdefihgplcdoae
