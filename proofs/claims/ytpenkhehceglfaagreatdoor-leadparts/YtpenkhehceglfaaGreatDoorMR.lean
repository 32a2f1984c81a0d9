import Derived.Test.YtpenkhehceglfaaGreatDoorRows
import Derived.ProofKit
import Derived.Deep.SlicePairs
import Derived.SizedLaws
import Derived.Handed
import Derived.Carry
import Derived.Test.YtpenkhehceglfaaGreatDoorMV
import Derived.Test.YtpenkhehceglfaaGreatDoorRR
import Derived.Test.YtpenkhehceglfaaGreatDoorML
import Derived.Test.YtpenkhehceglfaaGreatDoorMB
import Derived.Test.YtpenkhehceglfaaGreatDoorW4
import Derived.Stop.LaidErr
import Derived.Lib.LaidTab
import Derived.Shelf.Vars
import Derived.Lay
import Derived.SevenTiedAt
/- From a row's own hypotheses to what the walks ask, type by type: what a datum that came in opens as. -/
namespace Go.Proofs.YtpenkhehceglfaaGreatDoor
open Go.RowKit Go.ChangeShapes Go.WideShapes Go.ChangeAt
theorem own : ownKnob Tryz.prog.godebug = none := by kernel_rfl
theorem laidOut : laidOutB Tryz.prog = true := by kernel_rfl
theorem lt_of_cell {w : World} {b o : Nat} {v : Value} (h : w.cell? ⟨b, o, none⟩ = some v) : b < w.heap.size := by
  rcases Nat.lt_or_ge b w.heap.size with h' | h'
  · exact h'
  · simp [World.cell?, Array.getElem?_eq_none h'] at h
/-- a datum of type t opens as R says -/
def Opens {α : Type} (t : TypeId) (R : World → List Value → α → Prop) : Prop :=
  ∀ (H : Type) (enc : TypeId × Value → H) (W : World) (spare : Nat → Bool) (held : Bool) (fuel : Nat) (cs : List Value) (x : DataW H × List MemPlace),
    DataW.trod enc Tryz.prog W 0 spare held fuel t cs = some x → (∀ k ∈ x.1.weights Tryz.prog t, k ≤ reachBytes) → ∃ a, R W cs a
theorem Opens.weaken {α β : Type} {t : TypeId} {R : World → List Value → α → Prop} {S : World → List Value → β → Prop} (h : Opens t R) (f : α → β) (hf : ∀ W cs a, cs.length = Tryz.prog.cellsOf t → R W cs a → S W cs (f a)) (hl : ∀ W cs a, R W cs a → cs.length = Tryz.prog.cellsOf t) : Opens t S := fun H enc W spare held fuel cs x hx hw => by
  obtain ⟨a, ha⟩ := h H enc W spare held fuel cs x hx hw
  exact ⟨f a, hf W cs a (hl W cs a ha) ha⟩
theorem Opens.mono {α β : Type} {t : TypeId} {R : World → List Value → α → Prop} {S : World → List Value → β → Prop} (h : Opens t R) (f : α → β) (hf : ∀ W cs a, R W cs a → S W cs (f a)) : Opens t S := fun H enc W spare held fuel cs x hx hw => by
  obtain ⟨a, ha⟩ := h H enc W spare held fuel cs x hx hw
  exact ⟨f a, hf W cs a ha⟩
theorem opens_int {t : TypeId} (ht : Tryz.prog.underlying t = some (.int .i64)) : Opens t (fun _ cs (a : Int) => cs = [.int .i64 a]) := fun H enc W spare held fuel cs x hx _ => by
  obtain ⟨n, e, _, _⟩ := DataW.trod_int ht hx
  exact ⟨n, e⟩
theorem opens_bool {t : TypeId} (ht : Tryz.prog.underlying t = some .bool) : Opens t (fun _ cs (a : Bool) => cs = [.bool a]) := fun H enc W spare held fuel cs x hx _ => by
  obtain ⟨n, e, _⟩ := DataW.trod_bool ht hx
  exact ⟨n, e⟩
theorem weights_all {H : Type} {P : Program} {e : TypeId} {d : DataW H} : ∀ {l : List (DataW H)}, d ∈ l → ∀ k ∈ d.weights P e, k ∈ DataW.weightsAll P e l
  | x :: r, hd, k, hk => by
    rw [DataW.weightsAll]
    rcases List.mem_cons.1 hd with rfl | hd
    · exact List.mem_append_left _ hk
    · exact List.mem_append_right _ (weights_all hd k hk)
/-- a slice, element by element: n cells each -/
def RowRep {α : Type} (R : World → List Value → α → Prop) (n B : Nat) (w : World) (v : Value) (l : List α) : Prop :=
  l.length ≤ B ∧ ∃ A b o c, v = .slice A l.length c ∧ (l.length ≤ c ∧ (A = none → c = 0)) ∧ (0 < l.length → A = some ⟨b, o, none⟩ ∧ b < w.heap.size) ∧
    ∀ j, j < l.length → ∃ cs a, l[j]? = some a ∧ cs.length = n ∧ (∀ i, i < n → w.cell? ⟨b, o + j * n + i, none⟩ = cs[i]?) ∧ R w cs a
theorem opens_slice {α : Type} {t e : TypeId} {R : World → List Value → α → Prop} {n B : Nat} (ht : Tryz.prog.underlying t = some (.slice e)) (hc : Tryz.prog.cellsOf e = n) (hn : 0 < n) (hB : ∀ k, k * Tryz.prog.bytesOf e ≤ reachBytes → k ≤ B) (he : Opens e R) :
    Opens t (fun w cs (l : List α) => ∃ v, cs = [v] ∧ RowRep R n B w v l) := fun H enc W spare held fuel cs x hx hw => by
  rcases Deep.open_slice ht hx with ⟨e1, _⟩ | ⟨a, len, cap, m, f, D, Pl, e1, _, hl, _, hm, hxe, hel⟩
  · subst e1
    exact ⟨[], _, rfl, Nat.zero_le _, none, 0, 0, 0, rfl, ⟨Nat.le_refl _, fun _ => rfl⟩, fun h => absurd h (by simp), fun j hj => absurd hj (by simp)⟩
  · subst e1
    have hlm : len ≤ m := by rw [hm]; split <;> omega
    have hwt : ∀ k ∈ (len + (m - len)) * Tryz.prog.bytesOf e :: (DataW.weightsAll Tryz.prog e ((List.range len).map D) ++ DataW.weightsAll Tryz.prog e ((List.range (m - len)).map fun j => D (len + j))), k ≤ reachBytes := by
      have : x.1.weights Tryz.prog t = (len + (m - len)) * Tryz.prog.bytesOf e :: (DataW.weightsAll Tryz.prog e ((List.range len).map D) ++ DataW.weightsAll Tryz.prog e ((List.range (m - len)).map fun j => D (len + j))) := by
        rw [hxe]; simp [DataW.weights, ht]
      rw [← this]; exact hw
    have hbd : len ≤ B := by
      have := hwt _ (List.mem_cons_self ..)
      exact hB _ (Nat.le_trans (Nat.mul_le_mul_right _ (by omega)) this)
    have each : ∀ i, i < len → ∃ p : List Value × α, W.cells? 0 (a.add (i * n)) n = some p.1 ∧ R W p.1 p.2 := by
      intro i hi
      obtain ⟨cs', h1, h2⟩ := hel i (by omega)
      rw [hc] at h1
      obtain ⟨y, hy⟩ := he H enc W spare held f cs' (D i, Pl i) h2 (fun k hk => hwt k (List.mem_cons_of_mem _ (List.mem_append_left _ (weights_all (List.mem_map.2 ⟨i, List.mem_range.2 hi, rfl⟩) k hk))))
      exact ⟨(cs', y), h1, hy⟩
    obtain ⟨b, off, spot⟩ := a
    by_cases h0 : len = 0
    · subst h0
      exact ⟨[], _, rfl, Nat.zero_le _, some ⟨b, off, spot⟩, b, off, cap, rfl, ⟨Nat.zero_le _, fun h => by cases h⟩, fun h => absurd h (by simp), fun j hj => absurd hj (by simp)⟩
    · obtain ⟨p0, _⟩ := each 0 (by omega)
      haveI : Inhabited (List Value × α) := ⟨p0⟩
      obtain ⟨f, hf⟩ := Deep.choose_lt each
      have first := (hf 0 (by omega)).1
      obtain ⟨_, hlen0, hcell0⟩ := World.cells?_some first
      have c0 := hcell0 0 hn
      have hsome : ∃ u, W.cell? (((⟨b, off, spot⟩ : Addr).add (0 * n)).add 0) = some u := ⟨(f 0).1[0]'(by omega), by rw [c0, List.getElem?_eq_getElem (by omega)]⟩
      obtain ⟨u0, hu0⟩ := hsome
      have hspot : spot = none := by simpa [Addr.add] using World.cell?_spot hu0
      subst hspot
      refine ⟨(List.range len).map fun i => (f i).2, _, rfl, by simpa using hbd, some ⟨b, off, none⟩, b, off, cap, by simp, ⟨by simpa using hl, fun h => by cases h⟩, fun _ => ⟨rfl, ?_⟩, fun j hj => ?_⟩
      · rw [Deep.add_add, WideShapes.add_plain] at hu0
        exact lt_of_cell hu0
      · have hj' : j < len := by simpa using hj
        obtain ⟨h1, h2⟩ := hf j hj'
        obtain ⟨_, hlen, hcell⟩ := World.cells?_some h1
        refine ⟨(f j).1, (f j).2, by simp [hj'], hlen, fun i hi => ?_, h2⟩
        have := hcell i hi
        rw [Deep.add_add, WideShapes.add_plain, ← Nat.add_assoc] at this
        exact this
/-- fields, one after the other, from a place on -/
def OpensF {α : Type} (fs : List Field) (off : Nat) (R : World → List Value → α → Prop) : Prop :=
  ∀ (H : Type) (enc : TypeId × Value → H) (W : World) (spare : Nat → Bool) (held : Bool) (fuel : Nat) (cs : List Value),
    (∀ (j : Nat) (f : Field), fs[j]? = some f → ∃ y : DataW H × List MemPlace, DataW.trod enc Tryz.prog W 0 spare held fuel f.type ((cs.drop f.offset).take (Tryz.prog.cellsOf f.type)) = some y ∧ ∀ k ∈ y.1.weights Tryz.prog f.type, k ≤ reachBytes) → ∃ a, R W (cs.drop off) a
theorem opensF_nil {off : Nat} : OpensF [] off (fun _ _ (_ : Unit) => True) := fun _ _ _ _ _ _ _ _ => ⟨(), trivial⟩
theorem opensF_cons {α β : Type} {f : Field} {fs : List Field} {off n : Nat} {R : World → List Value → α → Prop} {S : World → List Value → β → Prop} (ho : f.offset = off) (hc : Tryz.prog.cellsOf f.type = n) (hf : Opens f.type R) (hr : OpensF fs (off + n) S) :
    OpensF (f :: fs) off (fun w cs (a : α × β) => R w (cs.take n) a.1 ∧ S w (cs.drop n) a.2) := fun H enc W spare held fuel cs h => by
  obtain ⟨y, hy, hw⟩ := h 0 f rfl
  obtain ⟨a, ha⟩ := hf H enc W spare held fuel _ y hy hw
  obtain ⟨b, hb⟩ := hr H enc W spare held fuel cs (fun j g hg => h (j + 1) g (by simpa using hg))
  rw [ho, hc] at ha
  exact ⟨(a, b), ha, by rw [List.drop_drop]; exact hb⟩
theorem opensF_last {α : Type} {f : Field} {off n : Nat} {R : World → List Value → α → Prop} (ho : f.offset = off) (hc : Tryz.prog.cellsOf f.type = n) (hf : Opens f.type R) :
    OpensF [f] off (fun w cs (a : α) => R w (cs.take n) a) := fun H enc W spare held fuel cs h => by
  obtain ⟨y, hy, hw⟩ := h 0 f rfl
  obtain ⟨a, ha⟩ := hf H enc W spare held fuel _ y hy hw
  rw [ho, hc] at ha
  exact ⟨a, ha⟩
theorem weights_each {H : Type} {P : Program} : ∀ {ts : List TypeId} {ds : List (DataW H)} {j : Nat} {t : TypeId} {d : DataW H}, ts[j]? = some t → ds[j]? = some d → ∀ k ∈ d.weights P t, k ∈ DataW.weightsEach P ts ds := fun ht hd k hk => DataW.weights_mem_each ht hd k hk
theorem opens_struct {α : Type} {t : TypeId} {fs : Array Field} {n : Nat} {R : World → List Value → α → Prop} (ht : Tryz.prog.underlying t = some (.struct fs)) (hn : Tryz.prog.cellsOf t = n) (hf : OpensF fs.toList 0 R) : Opens t (fun w cs a => cs.length = n ∧ R w cs a) := fun H enc W spare held fuel cs x hx hw => by
  obtain ⟨xs, m, _, hxe, hcl, hlen, hel⟩ := DataW.trod_struct ht hx
  have hwt : ∀ k ∈ DataW.weightsEach Tryz.prog (fs.toList.map (·.type)) (xs.map (·.1)), k ≤ reachBytes := by
    have : x.1.weights Tryz.prog t = DataW.weightsEach Tryz.prog (fs.toList.map (·.type)) (xs.map (·.1)) := by rw [hxe]; simp [DataW.weights, ht]
    rw [← this]; exact hw
  obtain ⟨a, ha⟩ := hf H enc W spare held m cs (fun j f hj => by
    have hj' : fs[j]? = some f := by simpa using hj
    have hjl : j < xs.length := by
      have := (Array.getElem?_eq_some_iff.1 hj').1
      omega
    have e := hel j f hj'
    refine ⟨xs[j], by rw [e, List.getElem?_eq_getElem hjl], fun k hk => hwt k (weights_each (j := j) (t := f.type) (d := xs[j].1) ?_ ?_ k hk)⟩
    · rw [List.getElem?_map, hj]; rfl
    · rw [List.getElem?_map, List.getElem?_eq_getElem hjl]; rfl)
  exact ⟨a, hcl.trans hn, by simpa using ha⟩
/-- an argument's own reading, opened -/
theorem Opens.arg {α : Type} {t : TypeId} {R : World → List Value → α → Prop} (h : Opens t R) {H : Type} {enc : TypeId × Value → H} {W : World} {spare : Nat → Bool} {held : Bool} {v : Value} {d : DataW H} {p : List MemPlace} (hv : DataW.Trod enc Tryz.prog W 0 spare held t v d p)
    {ts : List TypeId} {ds : List (DataW H)} {j : Nat} (hsz : (DataW.weightsEach Tryz.prog ts ds).all (· ≤ reachBytes) = true) (ht : ts[j]? = some t) (hd : ds[j]? = some d) : ∃ a, R W v.cells.toList a := by
  obtain ⟨fuel, hf⟩ := hv
  exact h H enc W spare held fuel _ _ hf (fun k hk => by simpa using List.all_eq_true.1 hsz k (DataW.weights_mem_each ht hd k hk))
end Go.Proofs.YtpenkhehceglfaaGreatDoor
/- Slices of numbers, of truths, of waves, as they came in. -/
namespace Go.Proofs.YtpenkhehceglfaaGreatDoor
open Go.RowKit Go.ChangeShapes Go.WideShapes Go.ChangeAt
theorem getD_of {α : Type} {l : List α} {j : Nat} {a d : α} (h : l[j]? = some a) : l.getD j d = a := by rw [List.getD_eq_getElem?_getD, h]; rfl
theorem ints_of_row {w : World} {v : Value} {l : List Int} (h : RowRep (fun _ cs (a : Int) => cs = [.int .i64 a]) 1 17592186044416 w v l) : IntsAt w v l := by
  obtain ⟨h1, A, b, o, c, rfl, h2, h3, h4⟩ := h
  refine ⟨by omega, A, b, o, c, rfl, h2.1, h3, fun j hj => ?_⟩
  obtain ⟨cs, a, ha, _, hc, rfl⟩ := h4 j hj
  have := hc 0 (by decide)
  rw [getD_of ha]
  simpa using this
theorem bools_of_row {w : World} {v : Value} {l : List Bool} (h : RowRep (fun _ cs (a : Bool) => cs = [.bool a]) 1 140737488355328 w v l) : BoolsAt w v l := by
  obtain ⟨h1, A, b, o, c, rfl, h2, h3, h4⟩ := h
  refine ⟨by omega, A, b, o, c, rfl, h2.1, h3, fun j hj => ?_⟩
  obtain ⟨cs, a, ha, _, hc, rfl⟩ := h4 j hj
  have := hc 0 (by decide)
  rw [getD_of ha]
  simpa using this
theorem bytesI : Tryz.prog.bytesOf 3 = 8 := by kernel_rfl
theorem bytesB : Tryz.prog.bytesOf 4 = 1 := by kernel_rfl
theorem bytesSI : Tryz.prog.bytesOf 131 = 24 := by kernel_rfl
theorem cellsI : Tryz.prog.cellsOf 3 = 1 := by kernel_rfl
theorem cellsBl : Tryz.prog.cellsOf 4 = 1 := by kernel_rfl
theorem cellsSI : Tryz.prog.cellsOf 131 = 1 := by kernel_rfl
theorem opens_ints : Opens 131 (fun w cs (l : List Int) => ∃ v, cs = [v] ∧ IntsAt w v l) :=
  (opens_slice (B := 17592186044416) Tryz.underlying131 cellsI (by decide) (fun k hk => by rw [bytesI] at hk; unfold reachBytes at hk; omega) (opens_int Tryz.underlying3)).mono id (fun _ _ _ ⟨v, e, h⟩ => ⟨v, e, ints_of_row h⟩)
theorem opens_bools : Opens 189 (fun w cs (l : List Bool) => ∃ v, cs = [v] ∧ BoolsAt w v l) :=
  (opens_slice (B := 140737488355328) Tryz.underlying189 cellsBl (by decide) (fun k hk => by rw [bytesB] at hk; unfold reachBytes at hk; omega) (opens_bool Tryz.underlying4)).mono id (fun _ _ _ ⟨v, e, h⟩ => ⟨v, e, bools_of_row h⟩)
theorem opens_waves : Opens 43 (fun w cs (l : List (List Int)) => ∃ v, cs = [v] ∧ WavesAt w v l) :=
  (opens_slice (B := 17592186044416) Tryz.underlying43 cellsSI (by decide) (fun k hk => by rw [bytesSI] at hk; unfold reachBytes at hk; omega) opens_ints).mono id (fun _ _ l ⟨v, e, h⟩ => ⟨v, e, by
    obtain ⟨h1, A, b, o, c, rfl, h2, h3, h4⟩ := h
    refine ⟨by show l.length ≤ _; omega, A, b, o, c, rfl, h2.1, h3, fun j hj => ?_⟩
    obtain ⟨cs, a, ha, _, hc, u, rfl, hu⟩ := h4 j hj
    have := hc 0 (by decide)
    refine ⟨u, by simpa using this, ?_⟩
    show IntsAt _ u (l.getD j [])
    rw [getD_of ha]
    exact hu⟩)
end Go.Proofs.YtpenkhehceglfaaGreatDoor
/- Configurations, leaders, releases, records as they came in. -/
namespace Go.Proofs.YtpenkhehceglfaaGreatDoor
open Go.RowKit Go.ChangeShapes Go.WideShapes Go.ChangeAt
theorem Tryz.cells3 : Tryz.prog.cellsOf 3 = 1 := by kernel_rfl
theorem Tryz.cells57 : Tryz.prog.cellsOf 57 = 2 := by kernel_rfl
theorem Tryz.bytes57 : Tryz.prog.bytesOf 57 = 16 := by kernel_rfl
theorem opens_intw {t : TypeId} (ht : Tryz.prog.underlying t = some (.int .i64)) : Opens t (fun _ cs (a : Int) => cs = [.int .i64 a] ∧ (Lit.int .i64 a).wf = true) := fun H enc W spare held fuel cs x hx _ => by
  obtain ⟨n, e, _, h⟩ := DataW.trod_int ht hx
  exact ⟨n, e, h⟩
theorem cellsB1 : Tryz.prog.cellsOf 4 = 1 := by kernel_rfl
theorem cellsP1 : Tryz.prog.cellsOf 22 = 1 := by kernel_rfl
theorem cellsR2 : Tryz.prog.cellsOf 24 = 2 := by kernel_rfl
theorem cellsC7 : Tryz.prog.cellsOf 34 = 7 := by kernel_rfl
theorem opens_pin : Opens 57 (fun _ cs (p : Int × Int) => cs = [.int .i64 p.1, .int .i64 p.2]) :=
  (opens_struct Tryz.underlying57 Tryz.cells57 (opensF_cons (n := 1) rfl Tryz.cells3 (opens_int Tryz.underlying3) (opensF_last (n := 1) rfl Tryz.cells3 (opens_int Tryz.underlying3)))).mono id (fun _ cs p ⟨hl, h1, h2⟩ => by
    match cs, hl with
    | [x, y], _ => simp at h1 h2; simp [h1, h2])
theorem opens_pins : Opens 22 (fun w cs (l : List (Int × Int)) => ∃ v, cs = [v] ∧ PinsAt w v l) :=
  (opens_slice (B := 70368744177664) Tryz.underlying22 Tryz.cells57 (by decide) (fun k hk => by rw [Tryz.bytes57] at hk; unfold reachBytes at hk; omega) opens_pin).mono id (fun w _ l ⟨v, e, h⟩ => ⟨v, e, by
    obtain ⟨h1, A, b, o, c, rfl, h2, h3, h4⟩ := h
    refine ⟨h1, c, ?_⟩
    by_cases h0 : l = []
    · subst h0
      exact .inl ⟨rfl, A, rfl⟩
    · have hpos : 0 < l.length := List.length_pos_iff.2 h0
      obtain ⟨rfl, hb⟩ := h3 hpos
      refine .inr ⟨b, o, rfl, hb, fun j hj => ?_⟩
      obtain ⟨cs, a, ha, _, hc, rfl⟩ := h4 j hj
      have e1 := hc 0 (by decide)
      have e2 := hc 1 (by decide)
      have : l.getD j (0, 0) = a := by rw [List.getD_eq_getElem?_getD, ha]; rfl
      show w.cell? ⟨b, o + j * 2, none⟩ = some (.int .i64 (l.getD j (0, 0)).1) ∧ w.cell? ⟨b, o + j * 2 + 1, none⟩ = some (.int .i64 (l.getD j (0, 0)).2)
      rw [this]
      exact ⟨e1, e2⟩⟩)
theorem opens_rel : Opens 24 (fun w cs (p : Int × List (Int × Int)) => ∃ v, cs = [.int .i64 p.1, v] ∧ PinsAt w v p.2) :=
  (opens_struct Tryz.underlying24 cellsR2 (opensF_cons (n := 1) rfl Tryz.cells3 (opens_int Tryz.underlying3) (opensF_last (n := 1) rfl cellsP1 opens_pins))).mono id (fun w cs p ⟨hl, h1, v, h2, h3⟩ => by
    match cs, hl with
    | [x, y], _ => simp at h1 h2; exact ⟨v, by simp [h1, h2], h3⟩)
/-- a record that came in -/
theorem opens_rec : Opens 34 (fun w cs (r : Lk.Note) => ∃ v, cs = [.int .i64 r.kind, .int .i64 r.agent, .int .i64 r.tr, .int .i64 r.n, .bool r.good, .int .i64 r.id, v] ∧ PinsAt w v r.lock ∧ (Lit.int .i64 r.kind).wf = true) :=
  (opens_struct Tryz.underlying34 cellsC7
    (opensF_cons (n := 1) rfl Tryz.cells3 (opens_intw Tryz.underlying3)
    (opensF_cons (n := 1) rfl Tryz.cells3 (opens_int Tryz.underlying3)
    (opensF_cons (n := 1) rfl Tryz.cells3 (opens_int Tryz.underlying3)
    (opensF_cons (n := 1) rfl Tryz.cells3 (opens_int Tryz.underlying3)
    (opensF_cons (n := 1) rfl cellsB1 (opens_bool Tryz.underlying4)
    (opensF_last (n := 2) rfl cellsR2 opens_rel))))))).mono (fun p => ⟨p.1, p.2.1, p.2.2.1, p.2.2.2.1, p.2.2.2.2.1, p.2.2.2.2.2.1, p.2.2.2.2.2.2⟩) (fun w cs p ⟨hl, ⟨h1, hw⟩, h2, h3, h4, h5, v, h6, h7⟩ => by
    match cs, hl with
    | [x1, x2, x3, x4, x5, x6, x7], _ =>
      simp at h1 h2 h3 h4 h5 h6
      exact ⟨v, by simp [h1, h2, h3, h4, h5, h6], h7, hw⟩)
theorem bytesC72 : Tryz.prog.bytesOf 34 = 72 := by kernel_rfl
theorem opens_recp : Opens 34 (fun w cs (p : Lk.Note × Value) => cs = recCells p ∧ PinsAt w p.2 p.1.lock ∧ (Lit.int .i64 p.1.kind).wf = true) := fun H enc W spare held fuel cs x hx hw => by
  obtain ⟨r, v, e, h1, h2⟩ := opens_rec H enc W spare held fuel cs x hx hw
  exact ⟨(r, v), e, h1, h2⟩
/-- records that came in -/
theorem opens_recs : Opens 25 (fun w cs (ps : List (Lk.Note × Value)) => ∃ v, cs = [v] ∧ RecsAt w v ps ∧ ∀ q ∈ ps, (Lit.int .i64 q.1.kind).wf = true) :=
  (opens_slice (B := 140737488355328) Tryz.underlying25 cellsC7 (by decide) (fun k hk => by rw [bytesC72] at hk; unfold reachBytes at hk; omega) opens_recp).mono id (fun w _ l ⟨v, e, h⟩ => ⟨v, e, by
    obtain ⟨h1, A, b, o, c, rfl, ⟨h2, h2'⟩, h3, h4⟩ := h
    show RecsAt w _ l ∧ ∀ q ∈ l, (Lit.int .i64 q.1.kind).wf = true
    refine ⟨⟨h1, A, c, rfl, h2, (fun e => by have := h2' e; exact ⟨this, by omega⟩), fun ad ha h0 => ?_, fun ad ha j u hu => ?_, fun q hq => ?_⟩, fun q hq => ?_⟩
    · obtain ⟨e1, hb⟩ := h3 h0
      rw [ha] at e1
      cases e1
      exact ⟨rfl, hb⟩
    · have h0 : 0 < l.length := flatR_pos hu
      obtain ⟨e1, hb⟩ := h3 h0
      rw [ha] at e1
      cases e1
      have hj : j < l.length * 7 := by have := (List.getElem?_eq_some_iff.1 hu).1; rwa [flatR_len] at this
      have hk : j / 7 < l.length := by omega
      obtain ⟨cs, q, hq, hcl, hc, rfl, _, _⟩ := h4 (j / 7) hk
      have e2 := flatR_at l (j / 7) q hq (j % 7) (by omega)
      have e3 : j / 7 * 7 + j % 7 = j := by omega
      rw [e3] at e2
      have e4 := hc (j % 7) (by omega)
      rw [WideShapes.add_plain]
      rw [show o + j = o + j / 7 * 7 + j % 7 from by omega, e4, ← e2]
      exact hu
    · obtain ⟨k, hk⟩ := List.getElem?_of_mem hq
      obtain ⟨cs, q', hq', _, _, _, hp, _⟩ := h4 k (List.getElem?_eq_some_iff.1 hk).1
      rw [hk] at hq'
      cases hq'
      exact hp
    · obtain ⟨k, hk⟩ := List.getElem?_of_mem hq
      obtain ⟨cs, q', hq', _, _, _, _, hp⟩ := h4 k (List.getElem?_eq_some_iff.1 hk).1
      rw [hk] at hq'
      cases hq'
      exact hp⟩)
theorem cellsRl4 : Tryz.prog.cellsOf 130 = 4 := by kernel_rfl
theorem bytesRl32 : Tryz.prog.bytesOf 130 = 32 := by kernel_rfl
theorem opens_rule : Opens 130 (fun _ cs (p : Rk.Rl) => cs = [.int .i64 p.1, .int .i64 p.2.1, .int .i64 p.2.2.1, .int .i64 p.2.2.2]) :=
  (opens_struct Tryz.underlying130 cellsRl4
    (opensF_cons (n := 1) rfl Tryz.cells3 (opens_int Tryz.underlying3)
    (opensF_cons (n := 1) rfl Tryz.cells3 (opens_int Tryz.underlying3)
    (opensF_cons (n := 1) rfl Tryz.cells3 (opens_int Tryz.underlying3)
    (opensF_last (n := 1) rfl Tryz.cells3 (opens_int Tryz.underlying3)))))).mono id (fun _ cs p ⟨hl, h1, h2, h3, h4⟩ => by
    match cs, hl with
    | [x1, x2, x3, x4], _ => simp at h1 h2 h3 h4; simp [h1, h2, h3, h4])
theorem opens_rules : Opens 42 (fun w cs (l : List Rk.Rl) => ∃ v, cs = [v] ∧ RulesAt w v l) :=
  (opens_slice (B := 70368744177664) Tryz.underlying42 cellsRl4 (by decide) (fun k hk => by rw [bytesRl32] at hk; unfold reachBytes at hk; omega) opens_rule).mono id (fun w _ l ⟨v, e, h⟩ => ⟨v, e, by
    obtain ⟨h1, A, b, o, c, rfl, h2, h3, h4⟩ := h
    refine ⟨h1, A, b, o, c, rfl, h2.1, h3, fun j hj => ?_⟩
    obtain ⟨cs, a, ha, _, hc, rfl⟩ := h4 j hj
    have : (id l).getD j (0, 0, 0, 0) = a := by show l.getD j (0, 0, 0, 0) = a; rw [List.getD_eq_getElem?_getD, ha]; rfl
    rw [this]
    exact ⟨hc 0 (by decide), hc 1 (by decide), hc 2 (by decide), hc 3 (by decide)⟩⟩)
theorem cellsRs1 : Tryz.prog.cellsOf 42 = 1 := by kernel_rfl
theorem cellsWs1 : Tryz.prog.cellsOf 43 = 1 := by kernel_rfl
theorem cellsCf5 : Tryz.prog.cellsOf 45 = 5 := by kernel_rfl
/-- a configuration that came in -/
theorem opens_config : Opens 45 (fun w cs (c : Ld.Config) => ∃ a b d, cs = [.int .i64 c.fid, a, b, d, .int .i64 c.budget] ∧ CfAt w c a b d) :=
  (opens_struct Tryz.underlying45 cellsCf5
    (opensF_cons (n := 2) rfl cellsR2 opens_rel
    (opensF_cons (n := 1) rfl cellsRs1 opens_rules
    (opensF_cons (n := 1) rfl cellsWs1 opens_waves
    (opensF_last (n := 1) rfl Tryz.cells3 (opens_int Tryz.underlying3)))))).mono (fun p => ⟨p.1.1, p.1.2, p.2.1, p.2.2.1, p.2.2.2⟩) (fun w cs p ⟨hl, ⟨a, h1, ha⟩, ⟨b, h2, hb⟩, ⟨d, h3, hd⟩, h4⟩ => by
    match cs, hl with
    | [x1, x2, x3, x4, x5], _ =>
      simp at h1 h2 h3 h4
      exact ⟨a, b, d, by simp [h1, h2, h3, h4], ha, hb, hd⟩)
theorem cellsKn3 : Tryz.prog.cellsOf 98 = 3 := by kernel_rfl
theorem bytesKn24 : Tryz.prog.bytesOf 98 = 24 := by kernel_rfl
theorem opens_known : Opens 98 (fun _ cs (p : Ld.Known) => cs = [.int .i64 p.st, .int .i64 p.tr, .bool p.back]) :=
  (opens_struct Tryz.underlying98 cellsKn3
    (opensF_cons (n := 1) rfl Tryz.cells3 (opens_int Tryz.underlying3)
    (opensF_cons (n := 1) rfl Tryz.cells3 (opens_int Tryz.underlying3)
    (opensF_last (n := 1) rfl cellsB1 (opens_bool Tryz.underlying4))))).mono (fun p => ⟨p.1, p.2.1, p.2.2⟩) (fun _ cs p ⟨hl, h1, h2, h3⟩ => by
    match cs, hl with
    | [x1, x2, x3], _ => simp at h1 h2 h3; simp [h1, h2, h3])
theorem opens_knowns : Opens 47 (fun w cs (l : List Ld.Known) => ∃ v, cs = [v] ∧ KnowsAt w v l) :=
  (opens_slice (B := 140737488355328) Tryz.underlying47 cellsKn3 (by decide) (fun k hk => by rw [bytesKn24] at hk; unfold reachBytes at hk; omega) opens_known).mono id (fun w _ l ⟨v, e, h⟩ => ⟨v, e, by
    obtain ⟨h1, A, b, o, c, rfl, ⟨h2, h2'⟩, h3, h4⟩ := h
    refine ⟨h1, A, b, o, c, rfl, h2, h2', h3, fun j hj => ?_⟩
    obtain ⟨cs, a, ha, _, hc, rfl⟩ := h4 j hj
    have : (id l).getD j ⟨0, 0, false⟩ = a := by show l.getD j ⟨0, 0, false⟩ = a; rw [List.getD_eq_getElem?_getD, ha]; rfl
    rw [this]
    exact ⟨hc 0 (by decide), hc 1 (by decide), hc 2 (by decide)⟩⟩)
theorem bytesRe32 : Tryz.prog.bytesOf 24 = 32 := by kernel_rfl
theorem opens_relp : Opens 24 (fun w cs (p : (Int × List (Int × Int)) × Value) => cs = relCells p ∧ PinsAt w p.2 p.1.2) := fun H enc W spare held fuel cs x hx hw => by
  obtain ⟨r, v, e, h1⟩ := opens_rel H enc W spare held fuel cs x hx hw
  exact ⟨(r, v), e, h1⟩
theorem opens_rels : Opens 46 (fun w cs (ps : List ((Int × List (Int × Int)) × Value)) => ∃ v, cs = [v] ∧ RelsAt w v ps) :=
  (opens_slice (B := 140737488355328) Tryz.underlying46 cellsR2 (by decide) (fun k hk => by rw [bytesRe32] at hk; unfold reachBytes at hk; omega) opens_relp).mono id (fun w _ l ⟨v, e, h⟩ => ⟨v, e, by
    obtain ⟨h1, A, b, o, c, rfl, ⟨h2, h2'⟩, h3, h4⟩ := h
    show RelsAt w _ l
    refine ⟨h1, A, c, rfl, h2, (fun e => by have := h2' e; exact ⟨this, by omega⟩), fun ad ha h0 => ?_, fun ad ha j u hu => ?_, fun q hq => ?_⟩
    · obtain ⟨e1, hb⟩ := h3 h0
      rw [ha] at e1
      cases e1
      exact ⟨rfl, hb⟩
    · have h0 : 0 < l.length := flatL_pos hu
      obtain ⟨e1, hb⟩ := h3 h0
      rw [ha] at e1
      cases e1
      have hj : j < l.length * 2 := by have := (List.getElem?_eq_some_iff.1 hu).1; rwa [flatL_len] at this
      have hk : j / 2 < l.length := by omega
      obtain ⟨cs, q, hq, hcl, hc, rfl, _⟩ := h4 (j / 2) hk
      have e2 := flatL_at l (j / 2) q hq (j % 2) (by omega)
      have e3 : j / 2 * 2 + j % 2 = j := by omega
      rw [e3] at e2
      have e4 := hc (j % 2) (by omega)
      rw [WideShapes.add_plain]
      rw [show o + j = o + j / 2 * 2 + j % 2 from by omega, e4, ← e2]
      exact hu
    · obtain ⟨k, hk⟩ := List.getElem?_of_mem hq
      obtain ⟨cs, q', hq', _, _, _, hp⟩ := h4 k (List.getElem?_eq_some_iff.1 hk).1
      rw [hk] at hq'
      cases hq'
      exact hp⟩)
theorem cellsRe1 : Tryz.prog.cellsOf 46 = 1 := by kernel_rfl
theorem cellsKs1 : Tryz.prog.cellsOf 47 = 1 := by kernel_rfl
theorem cellsLe6 : Tryz.prog.cellsOf 49 = 6 := by kernel_rfl
/-- a leader that came in -/
theorem opens_leader : Opens 49 (fun w cs (l : Ld.Leader) => ∃ r a, cs = [r, .int .i64 l.now, .int .i64 l.goal, .bool l.back, a, .int .i64 l.next] ∧ LdAt w l r a) :=
  (opens_struct Tryz.underlying49 cellsLe6
    (opensF_cons (n := 1) rfl cellsRe1 opens_rels
    (opensF_cons (n := 1) rfl Tryz.cells3 (opens_int Tryz.underlying3)
    (opensF_cons (n := 1) rfl Tryz.cells3 (opens_int Tryz.underlying3)
    (opensF_cons (n := 1) rfl cellsB1 (opens_bool Tryz.underlying4)
    (opensF_cons (n := 1) rfl cellsKs1 opens_knowns
    (opensF_last (n := 1) rfl Tryz.cells3 (opens_int Tryz.underlying3)))))))).mono (fun p => ⟨p.1.map Prod.fst, p.2.1, p.2.2.1, p.2.2.2.1, p.2.2.2.2.1, p.2.2.2.2.2⟩) (fun w cs p ⟨hl, ⟨r, h1, hr⟩, h2, h3, h4, ⟨a, h5, ha⟩, h6⟩ => by
    match cs, hl with
    | [x1, x2, x3, x4, x5, x6], _ =>
      simp at h1 h2 h3 h4 h5 h6
      exact ⟨r, a, by simp [h1, h2, h3, h4, h5, h6], ⟨p.1, hr, rfl⟩, ha⟩)
end Go.Proofs.YtpenkhehceglfaaGreatDoor
/- From LeadParts's row's own hypotheses to what the walks ask: the variables' contents. (Written by tools/gen_leadpartsopen.py.) -/
namespace Go.Proofs.YtpenkhehceglfaaGreatDoor
open Go.RowKit Go.ChangeShapes Go.WideShapes Go.ChangeAt
theorem n_pow : Tryz.prog.globalNamed "internal/strconv.uint64pow10" = some 1 := by kernel_rfl
theorem n_syn : Tryz.prog.globalNamed "strconv.ErrSyntax" = some 4 := by kernel_rfl
theorem n_ran : Tryz.prog.globalNamed "strconv.ErrRange" = some 5 := by kernel_rfl
theorem n_b64 : Tryz.prog.globalNamed "math/bits.deBruijn64tab" = some 3 := by kernel_rfl
theorem t_pow : (Tryz.prog.globals[1]?).map (·.type) = some 230 := by kernel_rfl
theorem t_syn : (Tryz.prog.globals[4]?).map (·.type) = some 170 := by kernel_rfl
theorem t_ran : (Tryz.prog.globals[5]?).map (·.type) = some 170 := by kernel_rfl
theorem t_b64 : (Tryz.prog.globals[3]?).map (·.type) = some 249 := by kernel_rfl
theorem Tryz.cells5 : Tryz.prog.cellsOf 5 = 1 := by kernel_rfl
theorem Tryz.cells9 : Tryz.prog.cellsOf 9 = 1 := by kernel_rfl
theorem Tryz.cells213 : Tryz.prog.cellsOf 213 = 1 := by kernel_rfl
theorem Tryz.cells230 : Tryz.prog.cellsOf 230 = 20 := by kernel_rfl
theorem Tryz.cells264 : Tryz.prog.cellsOf 264 = 1 := by kernel_rfl
theorem Tryz.cells249 : Tryz.prog.cellsOf 249 = 64 := by kernel_rfl
theorem star : "*" ++ "errors.errorString" = "*errors.errorString" := by decide
theorem rowErr (u : TypeId) (h : Tryz.prog.typeName? 3 u = some "*errors.errorString") : u = 262 :=
  typeName_ptr_named (nm := "errors.errorString") (by rw [star]; kernel_rfl) (by kernel_rfl) (by decide) u (by rw [star]; exact h)
theorem pow_tab : (Rows.laid_internal_strconv_uint64pow10 : DataW Unit) = Lib.tabData .u64 Lib.pow10Tab := by kernel_rfl
/-- the numbers of a listed table -/
def b64 : List Int := [0, 1, 56, 2, 57, 49, 28, 3, 61, 58, 42, 50, 38, 29, 17, 4, 62, 47, 59, 36, 45, 43, 51, 22, 53, 39, 33, 30, 24, 18, 12, 5, 63, 55, 48, 27, 60, 41, 37, 16, 46, 35, 44, 21, 52, 32, 23, 11, 54, 26, 40, 15, 34, 20, 31, 10, 25, 14, 19, 9, 13, 8, 7, 6]
theorem b64_tab : (Rows.laid_math_bits_deBruijn64tab : DataW Unit) = Lib.tabData .u8 b64 := by kernel_rfl
theorem big_of {W : World} (hsh : W.ShapedOpen Tryz.prog) : 8 ≤ W.heap.size := by
  have h0 : (((begin Tryz.prog (fun _ _ => 0) default).world.heap[7]?).bind Obj.row?).isSome = true := by kernel_rfl
  obtain ⟨⟨zero, t⟩, h⟩ := Option.isSome_iff_exists.1 h0
  obtain ⟨cs, hh, _⟩ := hsh.1 7 zero t (of_decide_eq_true (by kernel_rfl)) h
  rcases Nat.lt_or_ge 7 W.heap.size with h' | h'
  · exact h'
  · rw [Array.getElem?_eq_none h'] at hh; cases hh
theorem env_of {W : World} (hL : laidMet Tryz.prog Rows.leadPartsRow.laid W) (hsh : W.ShapedOpen Tryz.prog) : Env W := by
  have h1 : laidMet Tryz.prog (("math/bits.deBruijn64tab", Lib.tabData .u8 b64) :: ("internal/strconv.uint64pow10", Rows.laid_internal_strconv_uint64pow10) :: ("unicode/utf8.acceptRanges", Rows.laid_unicode_utf8_acceptRanges) :: ("strconv.ErrRange", Rows.laid_strconv_ErrRange) :: ("strconv.ErrSyntax", Rows.laid_strconv_ErrSyntax) :: [("unicode/utf8.first", Rows.laid_unicode_utf8_first)]) W := by
    rw [← b64_tab]; exact hL.tail
  have h2 := h1.tail
  rw [pow_tab] at h2
  have htab : Lib.TabIs Tryz.prog W "internal/strconv.uint64pow10" .u64 Lib.pow10Tab := Lib.tabIs_of_head n_pow t_pow Tryz.underlying230 Tryz.underlying213 Tryz.cells213 Tryz.cells230 h2
  have h4 := h2.tail.tail
  obtain ⟨a0, s0, hv0, _⟩ := laid_sentinel h4 n_ran t_ran Tryz.underlying170 rowErr Tryz.underlying262 Tryz.underlying264 rfl rfl Tryz.underlying9 Tryz.cells264 Tryz.cells9
  obtain ⟨a1, s1, hv1, _⟩ := laid_sentinel h4.tail n_syn t_syn Tryz.underlying170 rowErr Tryz.underlying262 Tryz.underlying264 rfl rfl Tryz.underlying9 Tryz.cells264 Tryz.cells9
  refine ⟨?_, htab, ⟨_, _, hv1⟩, ⟨_, _, hv0⟩, big_of hsh⟩
  exact cell_of_shapedOpen_int (P := Tryz.prog) (g := 0) (t := 3) (zero := #[.int .i64 0]) hsh (of_decide_eq_true (by kernel_rfl)) (by kernel_rfl) rfl (by kernel_rfl) (by kernel_rfl) Tryz.underlying3
/-- a law's row that lists variables, the world's shape and the reach handed to the contract -/
theorem lift_shaped {H : Type} {enc : TypeId × Value → H} {a : Assume} {C : Checked} {os : Os} {f : FuncId} {fn : Func} {s : ChangeSpec} {conds : List PathCond} {apart fresh handsOn again : Bool} {laid : List (String × DataW Unit)}
    (own : ownKnob C.prog.godebug = none) (started : os.Started) (noInit : C.prog.inits.idxOf? f = none) (hfn : C.prog.funcs[f]? = some fn)
    (witness : ∃ (w : World) (tape : Tape) (i : Input), w.os = os ∧ (w.forCall tape i).Shaped C.prog ∧ i.vars = [] ∧ Input.okWide C.prog (w.forCall tape i) .any w.heap.size f i ∧
      ((s.pre enc C.prog fn conds apart (w.forCall tape i).memory i.args ∧ laidMetH C.prog laid (w.forCall tape i).memory) ∧ sizedMet enc C.prog fn (OpenSpec.ofChange s) apart (w.forCall tape i).memory i.args) ∧ a.holds C.prog (lone (Frame.enter C.prog f i.args .normal) [] (w.forCall tape i)))
    (contract : ∀ (W : World) (base : Nat) (args : Array Value) (ds gs : List (DataW H)) (before : List MemPlace),
      (∀ (j : Nat) t v, fn.params[j]? = some t → args[j]? = some v → Value.okWide C.prog W .any base t v) →
      DataW.Whole enc C.prog fn.params.toList s.vars apart W args.toList ds gs before →
      (DataW.weightsEach C.prog (fn.params.toList ++ s.plain.varTypes C.prog) (ds ++ gs)).all (· ≤ reachBytes) = true → laidMetH C.prog laid W → W.ShapedOpen C.prog →
      Calls C.prog f args W fun e W' => ∃ v, e = .returned v ∧ s.post enc C.prog fn apart fresh handsOn again W args v W') :
    ReturnsInHanded a C os f .any (fun w args => (s.pre enc C.prog fn conds apart w args ∧ laidMetH C.prog laid w) ∧ sizedMet enc C.prog fn (OpenSpec.ofChange s) apart w args) (s.post enc C.prog fn apart fresh handsOn again) := by
  refine returnsInHanded_of_calls own started noInit witness ?_
  intro w tape i _ hsh _ hok hpre hholds
  obtain ⟨_, _, _, fn', hfn', _, _, _, _, hval⟩ := hok
  have e : fn' = fn := Option.some.inj (hfn'.symm.trans hfn)
  subst e
  obtain ⟨⟨⟨ds, gs, before, hw, hc⟩, hx⟩, hz⟩ := hpre
  have hw' := DataW.Whole.of_heap (w' := w.forCall tape i) (by rfl) hw
  refine (contract (w.forCall tape i) w.heap.size i.args ds gs before hval hw' (hz.weights hw) (hx.of_heap (by rfl)) hsh).mono fun e W' ⟨v, he, hp⟩ => ?_
  subst he
  exact ChangeSpec.post_blind hp
end Go.Proofs.YtpenkhehceglfaaGreatDoor
