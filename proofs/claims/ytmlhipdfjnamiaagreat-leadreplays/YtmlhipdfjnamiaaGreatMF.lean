import Derived.Test.YtmlhipdfjnamiaaGreatRows
import Derived.ProofKit
import Derived.Deep.SlicePairs
import Derived.SizedLaws
import Derived.Handed
import Derived.Carry
import Derived.Test.YtmlhipdfjnamiaaGreatMD
import Derived.Test.YtmlhipdfjnamiaaGreatRR
import Derived.Test.YtmlhipdfjnamiaaGreatLA
/- From a row's own hypotheses to what the walks ask, type by type: what a datum that came in opens as. -/
namespace Go.Proofs.YtmlhipdfjnamiaaGreat
open Go.RowKit Go.ChangeShapes Go.WideShapes Go.ChangeAt
theorem own : ownKnob Tryz.prog.godebug = none := by kernel_rfl
theorem laidOut : laidOutB Tryz.prog = true := by kernel_rfl
theorem lt_of_cell {w : World} {b o : Nat} {v : Value} (h : w.cell? ⟨b, o, none⟩ = some v) : b < w.heap.size := by
  rcases Nat.lt_or_ge b w.heap.size with h' | h'
  · exact h'
  · simp [World.cell?, Array.getElem?_eq_none h'] at h
/-- a datum of type t opens as R says -/
def Opens {α : Type} (t : TypeId) (R : World → List Value → α → Prop) : Prop :=
  ∀ (H : Type) (enc : TypeId × Value → H) (W : World) (spare : Nat → Bool) (held : Bool) (fuel : Nat) (cs : List Value) (x : DataW H × List MemPlace),
    DataW.trod enc Tryz.prog W 0 spare held fuel t cs = some x → (∀ k ∈ x.1.weights Tryz.prog t, k ≤ reachBytes) → ∃ a, R W cs a
theorem Opens.weaken {α β : Type} {t : TypeId} {R : World → List Value → α → Prop} {S : World → List Value → β → Prop} (h : Opens t R) (f : α → β) (hf : ∀ W cs a, cs.length = Tryz.prog.cellsOf t → R W cs a → S W cs (f a)) (hl : ∀ W cs a, R W cs a → cs.length = Tryz.prog.cellsOf t) : Opens t S := fun H enc W spare held fuel cs x hx hw => by
  obtain ⟨a, ha⟩ := h H enc W spare held fuel cs x hx hw
  exact ⟨f a, hf W cs a (hl W cs a ha) ha⟩
theorem Opens.mono {α β : Type} {t : TypeId} {R : World → List Value → α → Prop} {S : World → List Value → β → Prop} (h : Opens t R) (f : α → β) (hf : ∀ W cs a, R W cs a → S W cs (f a)) : Opens t S := fun H enc W spare held fuel cs x hx hw => by
  obtain ⟨a, ha⟩ := h H enc W spare held fuel cs x hx hw
  exact ⟨f a, hf W cs a ha⟩
theorem opens_int {t : TypeId} (ht : Tryz.prog.underlying t = some (.int .i64)) : Opens t (fun _ cs (a : Int) => cs = [.int .i64 a]) := fun H enc W spare held fuel cs x hx _ => by
  obtain ⟨n, e, _, _⟩ := DataW.trod_int ht hx
  exact ⟨n, e⟩
theorem opens_bool {t : TypeId} (ht : Tryz.prog.underlying t = some .bool) : Opens t (fun _ cs (a : Bool) => cs = [.bool a]) := fun H enc W spare held fuel cs x hx _ => by
  obtain ⟨n, e, _⟩ := DataW.trod_bool ht hx
  exact ⟨n, e⟩
theorem weights_all {H : Type} {P : Program} {e : TypeId} {d : DataW H} : ∀ {l : List (DataW H)}, d ∈ l → ∀ k ∈ d.weights P e, k ∈ DataW.weightsAll P e l
  | x :: r, hd, k, hk => by
    rw [DataW.weightsAll]
    rcases List.mem_cons.1 hd with rfl | hd
    · exact List.mem_append_left _ hk
    · exact List.mem_append_right _ (weights_all hd k hk)
/-- a slice, element by element: n cells each -/
def RowRep {α : Type} (R : World → List Value → α → Prop) (n B : Nat) (w : World) (v : Value) (l : List α) : Prop :=
  l.length ≤ B ∧ ∃ A b o c, v = .slice A l.length c ∧ (l.length ≤ c ∧ (A = none → c = 0)) ∧ (0 < l.length → A = some ⟨b, o, none⟩ ∧ b < w.heap.size) ∧
    ∀ j, j < l.length → ∃ cs a, l[j]? = some a ∧ cs.length = n ∧ (∀ i, i < n → w.cell? ⟨b, o + j * n + i, none⟩ = cs[i]?) ∧ R w cs a
theorem opens_slice {α : Type} {t e : TypeId} {R : World → List Value → α → Prop} {n B : Nat} (ht : Tryz.prog.underlying t = some (.slice e)) (hc : Tryz.prog.cellsOf e = n) (hn : 0 < n) (hB : ∀ k, k * Tryz.prog.bytesOf e ≤ reachBytes → k ≤ B) (he : Opens e R) :
    Opens t (fun w cs (l : List α) => ∃ v, cs = [v] ∧ RowRep R n B w v l) := fun H enc W spare held fuel cs x hx hw => by
  rcases Deep.open_slice ht hx with ⟨e1, _⟩ | ⟨a, len, cap, m, f, D, Pl, e1, _, hl, _, hm, hxe, hel⟩
  · subst e1
    exact ⟨[], _, rfl, Nat.zero_le _, none, 0, 0, 0, rfl, ⟨Nat.le_refl _, fun _ => rfl⟩, fun h => absurd h (by simp), fun j hj => absurd hj (by simp)⟩
  · subst e1
    have hlm : len ≤ m := by rw [hm]; split <;> omega
    have hwt : ∀ k ∈ (len + (m - len)) * Tryz.prog.bytesOf e :: (DataW.weightsAll Tryz.prog e ((List.range len).map D) ++ DataW.weightsAll Tryz.prog e ((List.range (m - len)).map fun j => D (len + j))), k ≤ reachBytes := by
      have : x.1.weights Tryz.prog t = (len + (m - len)) * Tryz.prog.bytesOf e :: (DataW.weightsAll Tryz.prog e ((List.range len).map D) ++ DataW.weightsAll Tryz.prog e ((List.range (m - len)).map fun j => D (len + j))) := by
        rw [hxe]; simp [DataW.weights, ht]
      rw [← this]; exact hw
    have hbd : len ≤ B := by
      have := hwt _ (List.mem_cons_self ..)
      exact hB _ (Nat.le_trans (Nat.mul_le_mul_right _ (by omega)) this)
    have each : ∀ i, i < len → ∃ p : List Value × α, W.cells? 0 (a.add (i * n)) n = some p.1 ∧ R W p.1 p.2 := by
      intro i hi
      obtain ⟨cs', h1, h2⟩ := hel i (by omega)
      rw [hc] at h1
      obtain ⟨y, hy⟩ := he H enc W spare held f cs' (D i, Pl i) h2 (fun k hk => hwt k (List.mem_cons_of_mem _ (List.mem_append_left _ (weights_all (List.mem_map.2 ⟨i, List.mem_range.2 hi, rfl⟩) k hk))))
      exact ⟨(cs', y), h1, hy⟩
    obtain ⟨b, off, spot⟩ := a
    by_cases h0 : len = 0
    · subst h0
      exact ⟨[], _, rfl, Nat.zero_le _, some ⟨b, off, spot⟩, b, off, cap, rfl, ⟨Nat.zero_le _, fun h => by cases h⟩, fun h => absurd h (by simp), fun j hj => absurd hj (by simp)⟩
    · obtain ⟨p0, _⟩ := each 0 (by omega)
      haveI : Inhabited (List Value × α) := ⟨p0⟩
      obtain ⟨f, hf⟩ := Deep.choose_lt each
      have first := (hf 0 (by omega)).1
      obtain ⟨_, hlen0, hcell0⟩ := World.cells?_some first
      have c0 := hcell0 0 hn
      have hsome : ∃ u, W.cell? (((⟨b, off, spot⟩ : Addr).add (0 * n)).add 0) = some u := ⟨(f 0).1[0]'(by omega), by rw [c0, List.getElem?_eq_getElem (by omega)]⟩
      obtain ⟨u0, hu0⟩ := hsome
      have hspot : spot = none := by simpa [Addr.add] using World.cell?_spot hu0
      subst hspot
      refine ⟨(List.range len).map fun i => (f i).2, _, rfl, by simpa using hbd, some ⟨b, off, none⟩, b, off, cap, by simp, ⟨by simpa using hl, fun h => by cases h⟩, fun _ => ⟨rfl, ?_⟩, fun j hj => ?_⟩
      · rw [Deep.add_add, WideShapes.add_plain] at hu0
        exact lt_of_cell hu0
      · have hj' : j < len := by simpa using hj
        obtain ⟨h1, h2⟩ := hf j hj'
        obtain ⟨_, hlen, hcell⟩ := World.cells?_some h1
        refine ⟨(f j).1, (f j).2, by simp [hj'], hlen, fun i hi => ?_, h2⟩
        have := hcell i hi
        rw [Deep.add_add, WideShapes.add_plain, ← Nat.add_assoc] at this
        exact this
/-- fields, one after the other, from a place on -/
def OpensF {α : Type} (fs : List Field) (off : Nat) (R : World → List Value → α → Prop) : Prop :=
  ∀ (H : Type) (enc : TypeId × Value → H) (W : World) (spare : Nat → Bool) (held : Bool) (fuel : Nat) (cs : List Value),
    (∀ (j : Nat) (f : Field), fs[j]? = some f → ∃ y : DataW H × List MemPlace, DataW.trod enc Tryz.prog W 0 spare held fuel f.type ((cs.drop f.offset).take (Tryz.prog.cellsOf f.type)) = some y ∧ ∀ k ∈ y.1.weights Tryz.prog f.type, k ≤ reachBytes) → ∃ a, R W (cs.drop off) a
theorem opensF_nil {off : Nat} : OpensF [] off (fun _ _ (_ : Unit) => True) := fun _ _ _ _ _ _ _ _ => ⟨(), trivial⟩
theorem opensF_cons {α β : Type} {f : Field} {fs : List Field} {off n : Nat} {R : World → List Value → α → Prop} {S : World → List Value → β → Prop} (ho : f.offset = off) (hc : Tryz.prog.cellsOf f.type = n) (hf : Opens f.type R) (hr : OpensF fs (off + n) S) :
    OpensF (f :: fs) off (fun w cs (a : α × β) => R w (cs.take n) a.1 ∧ S w (cs.drop n) a.2) := fun H enc W spare held fuel cs h => by
  obtain ⟨y, hy, hw⟩ := h 0 f rfl
  obtain ⟨a, ha⟩ := hf H enc W spare held fuel _ y hy hw
  obtain ⟨b, hb⟩ := hr H enc W spare held fuel cs (fun j g hg => h (j + 1) g (by simpa using hg))
  rw [ho, hc] at ha
  exact ⟨(a, b), ha, by rw [List.drop_drop]; exact hb⟩
theorem opensF_last {α : Type} {f : Field} {off n : Nat} {R : World → List Value → α → Prop} (ho : f.offset = off) (hc : Tryz.prog.cellsOf f.type = n) (hf : Opens f.type R) :
    OpensF [f] off (fun w cs (a : α) => R w (cs.take n) a) := fun H enc W spare held fuel cs h => by
  obtain ⟨y, hy, hw⟩ := h 0 f rfl
  obtain ⟨a, ha⟩ := hf H enc W spare held fuel _ y hy hw
  rw [ho, hc] at ha
  exact ⟨a, ha⟩
theorem weights_each {H : Type} {P : Program} : ∀ {ts : List TypeId} {ds : List (DataW H)} {j : Nat} {t : TypeId} {d : DataW H}, ts[j]? = some t → ds[j]? = some d → ∀ k ∈ d.weights P t, k ∈ DataW.weightsEach P ts ds := fun ht hd k hk => DataW.weights_mem_each ht hd k hk
theorem opens_struct {α : Type} {t : TypeId} {fs : Array Field} {n : Nat} {R : World → List Value → α → Prop} (ht : Tryz.prog.underlying t = some (.struct fs)) (hn : Tryz.prog.cellsOf t = n) (hf : OpensF fs.toList 0 R) : Opens t (fun w cs a => cs.length = n ∧ R w cs a) := fun H enc W spare held fuel cs x hx hw => by
  obtain ⟨xs, m, _, hxe, hcl, hlen, hel⟩ := DataW.trod_struct ht hx
  have hwt : ∀ k ∈ DataW.weightsEach Tryz.prog (fs.toList.map (·.type)) (xs.map (·.1)), k ≤ reachBytes := by
    have : x.1.weights Tryz.prog t = DataW.weightsEach Tryz.prog (fs.toList.map (·.type)) (xs.map (·.1)) := by rw [hxe]; simp [DataW.weights, ht]
    rw [← this]; exact hw
  obtain ⟨a, ha⟩ := hf H enc W spare held m cs (fun j f hj => by
    have hj' : fs[j]? = some f := by simpa using hj
    have hjl : j < xs.length := by
      have := (Array.getElem?_eq_some_iff.1 hj').1
      omega
    have e := hel j f hj'
    refine ⟨xs[j], by rw [e, List.getElem?_eq_getElem hjl], fun k hk => hwt k (weights_each (j := j) (t := f.type) (d := xs[j].1) ?_ ?_ k hk)⟩
    · rw [List.getElem?_map, hj]; rfl
    · rw [List.getElem?_map, List.getElem?_eq_getElem hjl]; rfl)
  exact ⟨a, hcl.trans hn, by simpa using ha⟩
/-- an argument's own reading, opened -/
theorem Opens.arg {α : Type} {t : TypeId} {R : World → List Value → α → Prop} (h : Opens t R) {H : Type} {enc : TypeId × Value → H} {W : World} {spare : Nat → Bool} {held : Bool} {v : Value} {d : DataW H} {p : List MemPlace} (hv : DataW.Trod enc Tryz.prog W 0 spare held t v d p)
    {ts : List TypeId} {ds : List (DataW H)} {j : Nat} (hsz : (DataW.weightsEach Tryz.prog ts ds).all (· ≤ reachBytes) = true) (ht : ts[j]? = some t) (hd : ds[j]? = some d) : ∃ a, R W v.cells.toList a := by
  obtain ⟨fuel, hf⟩ := hv
  exact h H enc W spare held fuel _ _ hf (fun k hk => by simpa using List.all_eq_true.1 hsz k (DataW.weights_mem_each ht hd k hk))
end Go.Proofs.YtmlhipdfjnamiaaGreat
/- Slices of numbers, of truths, of waves, as they came in. -/
namespace Go.Proofs.YtmlhipdfjnamiaaGreat
open Go.RowKit Go.ChangeShapes Go.WideShapes Go.ChangeAt
theorem getD_of {α : Type} {l : List α} {j : Nat} {a d : α} (h : l[j]? = some a) : l.getD j d = a := by rw [List.getD_eq_getElem?_getD, h]; rfl
theorem ints_of_row {w : World} {v : Value} {l : List Int} (h : RowRep (fun _ cs (a : Int) => cs = [.int .i64 a]) 1 17592186044416 w v l) : IntsAt w v l := by
  obtain ⟨h1, A, b, o, c, rfl, h2, h3, h4⟩ := h
  refine ⟨by omega, A, b, o, c, rfl, h2.1, h3, fun j hj => ?_⟩
  obtain ⟨cs, a, ha, _, hc, rfl⟩ := h4 j hj
  have := hc 0 (by decide)
  rw [getD_of ha]
  simpa using this
theorem bools_of_row {w : World} {v : Value} {l : List Bool} (h : RowRep (fun _ cs (a : Bool) => cs = [.bool a]) 1 140737488355328 w v l) : BoolsAt w v l := by
  obtain ⟨h1, A, b, o, c, rfl, h2, h3, h4⟩ := h
  refine ⟨by omega, A, b, o, c, rfl, h2.1, h3, fun j hj => ?_⟩
  obtain ⟨cs, a, ha, _, hc, rfl⟩ := h4 j hj
  have := hc 0 (by decide)
  rw [getD_of ha]
  simpa using this
theorem bytesI : Tryz.prog.bytesOf 3 = 8 := by kernel_rfl
theorem bytesB : Tryz.prog.bytesOf 4 = 1 := by kernel_rfl
theorem bytesSI : Tryz.prog.bytesOf 101 = 24 := by kernel_rfl
theorem cellsI : Tryz.prog.cellsOf 3 = 1 := by kernel_rfl
theorem cellsB : Tryz.prog.cellsOf 4 = 1 := by kernel_rfl
theorem cellsSI : Tryz.prog.cellsOf 101 = 1 := by kernel_rfl
theorem opens_ints : Opens 101 (fun w cs (l : List Int) => ∃ v, cs = [v] ∧ IntsAt w v l) :=
  (opens_slice (B := 17592186044416) Tryz.underlying101 cellsI (by decide) (fun k hk => by rw [bytesI] at hk; unfold reachBytes at hk; omega) (opens_int Tryz.underlying3)).mono id (fun _ _ _ ⟨v, e, h⟩ => ⟨v, e, ints_of_row h⟩)
theorem opens_bools : Opens 128 (fun w cs (l : List Bool) => ∃ v, cs = [v] ∧ BoolsAt w v l) :=
  (opens_slice (B := 140737488355328) Tryz.underlying128 cellsB (by decide) (fun k hk => by rw [bytesB] at hk; unfold reachBytes at hk; omega) (opens_bool Tryz.underlying4)).mono id (fun _ _ _ ⟨v, e, h⟩ => ⟨v, e, bools_of_row h⟩)
theorem opens_waves : Opens 26 (fun w cs (l : List (List Int)) => ∃ v, cs = [v] ∧ WavesAt w v l) :=
  (opens_slice (B := 17592186044416) Tryz.underlying26 cellsSI (by decide) (fun k hk => by rw [bytesSI] at hk; unfold reachBytes at hk; omega) opens_ints).mono id (fun _ _ l ⟨v, e, h⟩ => ⟨v, e, by
    obtain ⟨h1, A, b, o, c, rfl, h2, h3, h4⟩ := h
    refine ⟨by show l.length ≤ _; omega, A, b, o, c, rfl, h2.1, h3, fun j hj => ?_⟩
    obtain ⟨cs, a, ha, _, hc, u, rfl, hu⟩ := h4 j hj
    have := hc 0 (by decide)
    refine ⟨u, by simpa using this, ?_⟩
    show IntsAt _ u (l.getD j [])
    rw [getD_of ha]
    exact hu⟩)
end Go.Proofs.YtmlhipdfjnamiaaGreat
/- Configurations, leaders, releases, records as they came in. -/
namespace Go.Proofs.YtmlhipdfjnamiaaGreat
open Go.RowKit Go.ChangeShapes Go.WideShapes Go.ChangeAt
theorem Tryz.cells3 : Tryz.prog.cellsOf 3 = 1 := by kernel_rfl
theorem Tryz.cells65 : Tryz.prog.cellsOf 65 = 2 := by kernel_rfl
theorem Tryz.bytes65 : Tryz.prog.bytesOf 65 = 16 := by kernel_rfl
theorem opens_intw {t : TypeId} (ht : Tryz.prog.underlying t = some (.int .i64)) : Opens t (fun _ cs (a : Int) => cs = [.int .i64 a] ∧ (Lit.int .i64 a).wf = true) := fun H enc W spare held fuel cs x hx _ => by
  obtain ⟨n, e, _, h⟩ := DataW.trod_int ht hx
  exact ⟨n, e, h⟩
theorem cellsB1 : Tryz.prog.cellsOf 4 = 1 := by kernel_rfl
theorem cellsP1 : Tryz.prog.cellsOf 22 = 1 := by kernel_rfl
theorem cellsR2 : Tryz.prog.cellsOf 24 = 2 := by kernel_rfl
theorem cellsC7 : Tryz.prog.cellsOf 34 = 7 := by kernel_rfl
theorem opens_pin : Opens 65 (fun _ cs (p : Int × Int) => cs = [.int .i64 p.1, .int .i64 p.2]) :=
  (opens_struct Tryz.underlying65 Tryz.cells65 (opensF_cons (n := 1) rfl Tryz.cells3 (opens_int Tryz.underlying3) (opensF_last (n := 1) rfl Tryz.cells3 (opens_int Tryz.underlying3)))).mono id (fun _ cs p ⟨hl, h1, h2⟩ => by
    match cs, hl with
    | [x, y], _ => simp at h1 h2; simp [h1, h2])
theorem opens_pins : Opens 22 (fun w cs (l : List (Int × Int)) => ∃ v, cs = [v] ∧ PinsAt w v l) :=
  (opens_slice (B := 70368744177664) Tryz.underlying22 Tryz.cells65 (by decide) (fun k hk => by rw [Tryz.bytes65] at hk; unfold reachBytes at hk; omega) opens_pin).mono id (fun w _ l ⟨v, e, h⟩ => ⟨v, e, by
    obtain ⟨h1, A, b, o, c, rfl, h2, h3, h4⟩ := h
    refine ⟨h1, c, ?_⟩
    by_cases h0 : l = []
    · subst h0
      exact .inl ⟨rfl, A, rfl⟩
    · have hpos : 0 < l.length := List.length_pos_iff.2 h0
      obtain ⟨rfl, hb⟩ := h3 hpos
      refine .inr ⟨b, o, rfl, hb, fun j hj => ?_⟩
      obtain ⟨cs, a, ha, _, hc, rfl⟩ := h4 j hj
      have e1 := hc 0 (by decide)
      have e2 := hc 1 (by decide)
      have : l.getD j (0, 0) = a := by rw [List.getD_eq_getElem?_getD, ha]; rfl
      show w.cell? ⟨b, o + j * 2, none⟩ = some (.int .i64 (l.getD j (0, 0)).1) ∧ w.cell? ⟨b, o + j * 2 + 1, none⟩ = some (.int .i64 (l.getD j (0, 0)).2)
      rw [this]
      exact ⟨e1, e2⟩⟩)
theorem opens_rel : Opens 24 (fun w cs (p : Int × List (Int × Int)) => ∃ v, cs = [.int .i64 p.1, v] ∧ PinsAt w v p.2) :=
  (opens_struct Tryz.underlying24 cellsR2 (opensF_cons (n := 1) rfl Tryz.cells3 (opens_int Tryz.underlying3) (opensF_last (n := 1) rfl cellsP1 opens_pins))).mono id (fun w cs p ⟨hl, h1, v, h2, h3⟩ => by
    match cs, hl with
    | [x, y], _ => simp at h1 h2; exact ⟨v, by simp [h1, h2], h3⟩)
/-- a record that came in -/
theorem opens_rec : Opens 34 (fun w cs (r : Lk.Note) => ∃ v, cs = [.int .i64 r.kind, .int .i64 r.agent, .int .i64 r.tr, .int .i64 r.n, .bool r.good, .int .i64 r.id, v] ∧ PinsAt w v r.lock ∧ (Lit.int .i64 r.kind).wf = true) :=
  (opens_struct Tryz.underlying34 cellsC7
    (opensF_cons (n := 1) rfl Tryz.cells3 (opens_intw Tryz.underlying3)
    (opensF_cons (n := 1) rfl Tryz.cells3 (opens_int Tryz.underlying3)
    (opensF_cons (n := 1) rfl Tryz.cells3 (opens_int Tryz.underlying3)
    (opensF_cons (n := 1) rfl Tryz.cells3 (opens_int Tryz.underlying3)
    (opensF_cons (n := 1) rfl cellsB1 (opens_bool Tryz.underlying4)
    (opensF_last (n := 2) rfl cellsR2 opens_rel))))))).mono (fun p => ⟨p.1, p.2.1, p.2.2.1, p.2.2.2.1, p.2.2.2.2.1, p.2.2.2.2.2.1, p.2.2.2.2.2.2⟩) (fun w cs p ⟨hl, ⟨h1, hw⟩, h2, h3, h4, h5, v, h6, h7⟩ => by
    match cs, hl with
    | [x1, x2, x3, x4, x5, x6, x7], _ =>
      simp at h1 h2 h3 h4 h5 h6
      exact ⟨v, by simp [h1, h2, h3, h4, h5, h6], h7, hw⟩)
theorem bytesC72 : Tryz.prog.bytesOf 34 = 72 := by kernel_rfl
theorem opens_recp : Opens 34 (fun w cs (p : Lk.Note × Value) => cs = recCells p ∧ PinsAt w p.2 p.1.lock ∧ (Lit.int .i64 p.1.kind).wf = true) := fun H enc W spare held fuel cs x hx hw => by
  obtain ⟨r, v, e, h1, h2⟩ := opens_rec H enc W spare held fuel cs x hx hw
  exact ⟨(r, v), e, h1, h2⟩
/-- records that came in -/
theorem opens_recs : Opens 41 (fun w cs (ps : List (Lk.Note × Value)) => ∃ v, cs = [v] ∧ RecsAt w v ps ∧ ∀ q ∈ ps, (Lit.int .i64 q.1.kind).wf = true) :=
  (opens_slice (B := 140737488355328) Tryz.underlying41 cellsC7 (by decide) (fun k hk => by rw [bytesC72] at hk; unfold reachBytes at hk; omega) opens_recp).mono id (fun w _ l ⟨v, e, h⟩ => ⟨v, e, by
    obtain ⟨h1, A, b, o, c, rfl, ⟨h2, h2'⟩, h3, h4⟩ := h
    show RecsAt w _ l ∧ ∀ q ∈ l, (Lit.int .i64 q.1.kind).wf = true
    refine ⟨⟨h1, A, c, rfl, h2, (fun e => by have := h2' e; exact ⟨this, by omega⟩), fun ad ha h0 => ?_, fun ad ha j u hu => ?_, fun q hq => ?_⟩, fun q hq => ?_⟩
    · obtain ⟨e1, hb⟩ := h3 h0
      rw [ha] at e1
      cases e1
      exact ⟨rfl, hb⟩
    · have h0 : 0 < l.length := flatR_pos hu
      obtain ⟨e1, hb⟩ := h3 h0
      rw [ha] at e1
      cases e1
      have hj : j < l.length * 7 := by have := (List.getElem?_eq_some_iff.1 hu).1; rwa [flatR_len] at this
      have hk : j / 7 < l.length := by omega
      obtain ⟨cs, q, hq, hcl, hc, rfl, _, _⟩ := h4 (j / 7) hk
      have e2 := flatR_at l (j / 7) q hq (j % 7) (by omega)
      have e3 : j / 7 * 7 + j % 7 = j := by omega
      rw [e3] at e2
      have e4 := hc (j % 7) (by omega)
      rw [WideShapes.add_plain]
      rw [show o + j = o + j / 7 * 7 + j % 7 from by omega, e4, ← e2]
      exact hu
    · obtain ⟨k, hk⟩ := List.getElem?_of_mem hq
      obtain ⟨cs, q', hq', _, _, _, hp, _⟩ := h4 k (List.getElem?_eq_some_iff.1 hk).1
      rw [hk] at hq'
      cases hq'
      exact hp
    · obtain ⟨k, hk⟩ := List.getElem?_of_mem hq
      obtain ⟨cs, q', hq', _, _, _, _, hp⟩ := h4 k (List.getElem?_eq_some_iff.1 hk).1
      rw [hk] at hq'
      cases hq'
      exact hp⟩)
theorem cellsRl4 : Tryz.prog.cellsOf 98 = 4 := by kernel_rfl
theorem bytesRl32 : Tryz.prog.bytesOf 98 = 32 := by kernel_rfl
theorem opens_rule : Opens 98 (fun _ cs (p : Rk.Rl) => cs = [.int .i64 p.1, .int .i64 p.2.1, .int .i64 p.2.2.1, .int .i64 p.2.2.2]) :=
  (opens_struct Tryz.underlying98 cellsRl4
    (opensF_cons (n := 1) rfl Tryz.cells3 (opens_int Tryz.underlying3)
    (opensF_cons (n := 1) rfl Tryz.cells3 (opens_int Tryz.underlying3)
    (opensF_cons (n := 1) rfl Tryz.cells3 (opens_int Tryz.underlying3)
    (opensF_last (n := 1) rfl Tryz.cells3 (opens_int Tryz.underlying3)))))).mono id (fun _ cs p ⟨hl, h1, h2, h3, h4⟩ => by
    match cs, hl with
    | [x1, x2, x3, x4], _ => simp at h1 h2 h3 h4; simp [h1, h2, h3, h4])
theorem opens_rules : Opens 25 (fun w cs (l : List Rk.Rl) => ∃ v, cs = [v] ∧ RulesAt w v l) :=
  (opens_slice (B := 70368744177664) Tryz.underlying25 cellsRl4 (by decide) (fun k hk => by rw [bytesRl32] at hk; unfold reachBytes at hk; omega) opens_rule).mono id (fun w _ l ⟨v, e, h⟩ => ⟨v, e, by
    obtain ⟨h1, A, b, o, c, rfl, h2, h3, h4⟩ := h
    refine ⟨h1, A, b, o, c, rfl, h2.1, h3, fun j hj => ?_⟩
    obtain ⟨cs, a, ha, _, hc, rfl⟩ := h4 j hj
    have : (id l).getD j (0, 0, 0, 0) = a := by show l.getD j (0, 0, 0, 0) = a; rw [List.getD_eq_getElem?_getD, ha]; rfl
    rw [this]
    exact ⟨hc 0 (by decide), hc 1 (by decide), hc 2 (by decide), hc 3 (by decide)⟩⟩)
theorem cellsRs1 : Tryz.prog.cellsOf 25 = 1 := by kernel_rfl
theorem cellsWs1 : Tryz.prog.cellsOf 26 = 1 := by kernel_rfl
theorem cellsCf5 : Tryz.prog.cellsOf 28 = 5 := by kernel_rfl
/-- a configuration that came in -/
theorem opens_config : Opens 28 (fun w cs (c : Ld.Config) => ∃ a b d, cs = [.int .i64 c.fid, a, b, d, .int .i64 c.budget] ∧ CfAt w c a b d) :=
  (opens_struct Tryz.underlying28 cellsCf5
    (opensF_cons (n := 2) rfl cellsR2 opens_rel
    (opensF_cons (n := 1) rfl cellsRs1 opens_rules
    (opensF_cons (n := 1) rfl cellsWs1 opens_waves
    (opensF_last (n := 1) rfl Tryz.cells3 (opens_int Tryz.underlying3)))))).mono (fun p => ⟨p.1.1, p.1.2, p.2.1, p.2.2.1, p.2.2.2⟩) (fun w cs p ⟨hl, ⟨a, h1, ha⟩, ⟨b, h2, hb⟩, ⟨d, h3, hd⟩, h4⟩ => by
    match cs, hl with
    | [x1, x2, x3, x4, x5], _ =>
      simp at h1 h2 h3 h4
      exact ⟨a, b, d, by simp [h1, h2, h3, h4], ha, hb, hd⟩)
theorem cellsKn3 : Tryz.prog.cellsOf 54 = 3 := by kernel_rfl
theorem bytesKn24 : Tryz.prog.bytesOf 54 = 24 := by kernel_rfl
theorem opens_known : Opens 54 (fun _ cs (p : Ld.Known) => cs = [.int .i64 p.st, .int .i64 p.tr, .bool p.back]) :=
  (opens_struct Tryz.underlying54 cellsKn3
    (opensF_cons (n := 1) rfl Tryz.cells3 (opens_int Tryz.underlying3)
    (opensF_cons (n := 1) rfl Tryz.cells3 (opens_int Tryz.underlying3)
    (opensF_last (n := 1) rfl cellsB1 (opens_bool Tryz.underlying4))))).mono (fun p => ⟨p.1, p.2.1, p.2.2⟩) (fun _ cs p ⟨hl, h1, h2, h3⟩ => by
    match cs, hl with
    | [x1, x2, x3], _ => simp at h1 h2 h3; simp [h1, h2, h3])
theorem opens_knowns : Opens 30 (fun w cs (l : List Ld.Known) => ∃ v, cs = [v] ∧ KnowsAt w v l) :=
  (opens_slice (B := 140737488355328) Tryz.underlying30 cellsKn3 (by decide) (fun k hk => by rw [bytesKn24] at hk; unfold reachBytes at hk; omega) opens_known).mono id (fun w _ l ⟨v, e, h⟩ => ⟨v, e, by
    obtain ⟨h1, A, b, o, c, rfl, ⟨h2, h2'⟩, h3, h4⟩ := h
    refine ⟨h1, A, b, o, c, rfl, h2, h2', h3, fun j hj => ?_⟩
    obtain ⟨cs, a, ha, _, hc, rfl⟩ := h4 j hj
    have : (id l).getD j ⟨0, 0, false⟩ = a := by show l.getD j ⟨0, 0, false⟩ = a; rw [List.getD_eq_getElem?_getD, ha]; rfl
    rw [this]
    exact ⟨hc 0 (by decide), hc 1 (by decide), hc 2 (by decide)⟩⟩)
theorem bytesRe32 : Tryz.prog.bytesOf 24 = 32 := by kernel_rfl
theorem opens_relp : Opens 24 (fun w cs (p : (Int × List (Int × Int)) × Value) => cs = relCells p ∧ PinsAt w p.2 p.1.2) := fun H enc W spare held fuel cs x hx hw => by
  obtain ⟨r, v, e, h1⟩ := opens_rel H enc W spare held fuel cs x hx hw
  exact ⟨(r, v), e, h1⟩
theorem opens_rels : Opens 29 (fun w cs (ps : List ((Int × List (Int × Int)) × Value)) => ∃ v, cs = [v] ∧ RelsAt w v ps) :=
  (opens_slice (B := 140737488355328) Tryz.underlying29 cellsR2 (by decide) (fun k hk => by rw [bytesRe32] at hk; unfold reachBytes at hk; omega) opens_relp).mono id (fun w _ l ⟨v, e, h⟩ => ⟨v, e, by
    obtain ⟨h1, A, b, o, c, rfl, ⟨h2, h2'⟩, h3, h4⟩ := h
    show RelsAt w _ l
    refine ⟨h1, A, c, rfl, h2, (fun e => by have := h2' e; exact ⟨this, by omega⟩), fun ad ha h0 => ?_, fun ad ha j u hu => ?_, fun q hq => ?_⟩
    · obtain ⟨e1, hb⟩ := h3 h0
      rw [ha] at e1
      cases e1
      exact ⟨rfl, hb⟩
    · have h0 : 0 < l.length := flatL_pos hu
      obtain ⟨e1, hb⟩ := h3 h0
      rw [ha] at e1
      cases e1
      have hj : j < l.length * 2 := by have := (List.getElem?_eq_some_iff.1 hu).1; rwa [flatL_len] at this
      have hk : j / 2 < l.length := by omega
      obtain ⟨cs, q, hq, hcl, hc, rfl, _⟩ := h4 (j / 2) hk
      have e2 := flatL_at l (j / 2) q hq (j % 2) (by omega)
      have e3 : j / 2 * 2 + j % 2 = j := by omega
      rw [e3] at e2
      have e4 := hc (j % 2) (by omega)
      rw [WideShapes.add_plain]
      rw [show o + j = o + j / 2 * 2 + j % 2 from by omega, e4, ← e2]
      exact hu
    · obtain ⟨k, hk⟩ := List.getElem?_of_mem hq
      obtain ⟨cs, q', hq', _, _, _, hp⟩ := h4 k (List.getElem?_eq_some_iff.1 hk).1
      rw [hk] at hq'
      cases hq'
      exact hp⟩)
theorem cellsRe1 : Tryz.prog.cellsOf 29 = 1 := by kernel_rfl
theorem cellsKs1 : Tryz.prog.cellsOf 30 = 1 := by kernel_rfl
theorem cellsLe6 : Tryz.prog.cellsOf 32 = 6 := by kernel_rfl
/-- a leader that came in -/
theorem opens_leader : Opens 32 (fun w cs (l : Ld.Leader) => ∃ r a, cs = [r, .int .i64 l.now, .int .i64 l.goal, .bool l.back, a, .int .i64 l.next] ∧ LdAt w l r a) :=
  (opens_struct Tryz.underlying32 cellsLe6
    (opensF_cons (n := 1) rfl cellsRe1 opens_rels
    (opensF_cons (n := 1) rfl Tryz.cells3 (opens_int Tryz.underlying3)
    (opensF_cons (n := 1) rfl Tryz.cells3 (opens_int Tryz.underlying3)
    (opensF_cons (n := 1) rfl cellsB1 (opens_bool Tryz.underlying4)
    (opensF_cons (n := 1) rfl cellsKs1 opens_knowns
    (opensF_last (n := 1) rfl Tryz.cells3 (opens_int Tryz.underlying3)))))))).mono (fun p => ⟨p.1.map Prod.fst, p.2.1, p.2.2.1, p.2.2.2.1, p.2.2.2.2.1, p.2.2.2.2.2⟩) (fun w cs p ⟨hl, ⟨r, h1, hr⟩, h2, h3, h4, ⟨a, h5, ha⟩, h6⟩ => by
    match cs, hl with
    | [x1, x2, x3, x4, x5, x6], _ =>
      simp at h1 h2 h3 h4 h5 h6
      exact ⟨r, a, by simp [h1, h2, h3, h4, h5, h6], ⟨p.1, hr, rfl⟩, ha⟩)
end Go.Proofs.YtmlhipdfjnamiaaGreat
