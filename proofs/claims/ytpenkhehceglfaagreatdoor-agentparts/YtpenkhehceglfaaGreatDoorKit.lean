/- From a row's own hypotheses to what the walks ask, type by type: what a datum that came in opens as. -/
import Derived.Test.YtpenkhehceglfaaGreatDoorRows
import Derived.ProofKit
import Derived.Deep.SlicePairs
import Derived.SizedLaws
import Derived.Handed
import Derived.Carry
namespace Go.Proofs.YtpenkhehceglfaaGreatDoor
open Go.RowKit Go.ChangeShapes Go.WideShapes Go.ChangeAt
theorem own : ownKnob Tryz.prog.godebug = none := by kernel_rfl
theorem laidOut : laidOutB Tryz.prog = true := by kernel_rfl
theorem lt_of_cell {w : World} {b o : Nat} {v : Value} (h : w.cell? ⟨b, o, none⟩ = some v) : b < w.heap.size := by
  rcases Nat.lt_or_ge b w.heap.size with h' | h'
  · exact h'
  · simp [World.cell?, Array.getElem?_eq_none h'] at h
/-- a datum of type t opens as R says -/
def Opens {α : Type} (t : TypeId) (R : World → List Value → α → Prop) : Prop :=
  ∀ (H : Type) (enc : TypeId × Value → H) (W : World) (spare : Nat → Bool) (held : Bool) (fuel : Nat) (cs : List Value) (x : DataW H × List MemPlace),
    DataW.trod enc Tryz.prog W 0 spare held fuel t cs = some x → (∀ k ∈ x.1.weights Tryz.prog t, k ≤ reachBytes) → ∃ a, R W cs a
theorem Opens.weaken {α β : Type} {t : TypeId} {R : World → List Value → α → Prop} {S : World → List Value → β → Prop} (h : Opens t R) (f : α → β) (hf : ∀ W cs a, cs.length = Tryz.prog.cellsOf t → R W cs a → S W cs (f a)) (hl : ∀ W cs a, R W cs a → cs.length = Tryz.prog.cellsOf t) : Opens t S := fun H enc W spare held fuel cs x hx hw => by
  obtain ⟨a, ha⟩ := h H enc W spare held fuel cs x hx hw
  exact ⟨f a, hf W cs a (hl W cs a ha) ha⟩
theorem Opens.mono {α β : Type} {t : TypeId} {R : World → List Value → α → Prop} {S : World → List Value → β → Prop} (h : Opens t R) (f : α → β) (hf : ∀ W cs a, R W cs a → S W cs (f a)) : Opens t S := fun H enc W spare held fuel cs x hx hw => by
  obtain ⟨a, ha⟩ := h H enc W spare held fuel cs x hx hw
  exact ⟨f a, hf W cs a ha⟩
theorem opens_int {t : TypeId} (ht : Tryz.prog.underlying t = some (.int .i64)) : Opens t (fun _ cs (a : Int) => cs = [.int .i64 a]) := fun H enc W spare held fuel cs x hx _ => by
  obtain ⟨n, e, _, _⟩ := DataW.trod_int ht hx
  exact ⟨n, e⟩
theorem opens_bool {t : TypeId} (ht : Tryz.prog.underlying t = some .bool) : Opens t (fun _ cs (a : Bool) => cs = [.bool a]) := fun H enc W spare held fuel cs x hx _ => by
  obtain ⟨n, e, _⟩ := DataW.trod_bool ht hx
  exact ⟨n, e⟩
theorem weights_all {H : Type} {P : Program} {e : TypeId} {d : DataW H} : ∀ {l : List (DataW H)}, d ∈ l → ∀ k ∈ d.weights P e, k ∈ DataW.weightsAll P e l
  | x :: r, hd, k, hk => by
    rw [DataW.weightsAll]
    rcases List.mem_cons.1 hd with rfl | hd
    · exact List.mem_append_left _ hk
    · exact List.mem_append_right _ (weights_all hd k hk)
/-- a slice, element by element: n cells each -/
def RowRep {α : Type} (R : World → List Value → α → Prop) (n B : Nat) (w : World) (v : Value) (l : List α) : Prop :=
  l.length ≤ B ∧ ∃ A b o c, v = .slice A l.length c ∧ (l.length ≤ c ∧ (A = none → c = 0)) ∧ (0 < l.length → A = some ⟨b, o, none⟩ ∧ b < w.heap.size) ∧
    ∀ j, j < l.length → ∃ cs a, l[j]? = some a ∧ cs.length = n ∧ (∀ i, i < n → w.cell? ⟨b, o + j * n + i, none⟩ = cs[i]?) ∧ R w cs a
theorem opens_slice {α : Type} {t e : TypeId} {R : World → List Value → α → Prop} {n B : Nat} (ht : Tryz.prog.underlying t = some (.slice e)) (hc : Tryz.prog.cellsOf e = n) (hn : 0 < n) (hB : ∀ k, k * Tryz.prog.bytesOf e ≤ reachBytes → k ≤ B) (he : Opens e R) :
    Opens t (fun w cs (l : List α) => ∃ v, cs = [v] ∧ RowRep R n B w v l) := fun H enc W spare held fuel cs x hx hw => by
  rcases Deep.open_slice ht hx with ⟨e1, _⟩ | ⟨a, len, cap, m, f, D, Pl, e1, _, hl, _, hm, hxe, hel⟩
  · subst e1
    exact ⟨[], _, rfl, Nat.zero_le _, none, 0, 0, 0, rfl, ⟨Nat.le_refl _, fun _ => rfl⟩, fun h => absurd h (by simp), fun j hj => absurd hj (by simp)⟩
  · subst e1
    have hlm : len ≤ m := by rw [hm]; split <;> omega
    have hwt : ∀ k ∈ (len + (m - len)) * Tryz.prog.bytesOf e :: (DataW.weightsAll Tryz.prog e ((List.range len).map D) ++ DataW.weightsAll Tryz.prog e ((List.range (m - len)).map fun j => D (len + j))), k ≤ reachBytes := by
      have : x.1.weights Tryz.prog t = (len + (m - len)) * Tryz.prog.bytesOf e :: (DataW.weightsAll Tryz.prog e ((List.range len).map D) ++ DataW.weightsAll Tryz.prog e ((List.range (m - len)).map fun j => D (len + j))) := by
        rw [hxe]; simp [DataW.weights, ht]
      rw [← this]; exact hw
    have hbd : len ≤ B := by
      have := hwt _ (List.mem_cons_self ..)
      exact hB _ (Nat.le_trans (Nat.mul_le_mul_right _ (by omega)) this)
    have each : ∀ i, i < len → ∃ p : List Value × α, W.cells? 0 (a.add (i * n)) n = some p.1 ∧ R W p.1 p.2 := by
      intro i hi
      obtain ⟨cs', h1, h2⟩ := hel i (by omega)
      rw [hc] at h1
      obtain ⟨y, hy⟩ := he H enc W spare held f cs' (D i, Pl i) h2 (fun k hk => hwt k (List.mem_cons_of_mem _ (List.mem_append_left _ (weights_all (List.mem_map.2 ⟨i, List.mem_range.2 hi, rfl⟩) k hk))))
      exact ⟨(cs', y), h1, hy⟩
    obtain ⟨b, off, spot⟩ := a
    by_cases h0 : len = 0
    · subst h0
      exact ⟨[], _, rfl, Nat.zero_le _, some ⟨b, off, spot⟩, b, off, cap, rfl, ⟨Nat.zero_le _, fun h => by cases h⟩, fun h => absurd h (by simp), fun j hj => absurd hj (by simp)⟩
    · obtain ⟨p0, _⟩ := each 0 (by omega)
      haveI : Inhabited (List Value × α) := ⟨p0⟩
      obtain ⟨f, hf⟩ := Deep.choose_lt each
      have first := (hf 0 (by omega)).1
      obtain ⟨_, hlen0, hcell0⟩ := World.cells?_some first
      have c0 := hcell0 0 hn
      have hsome : ∃ u, W.cell? (((⟨b, off, spot⟩ : Addr).add (0 * n)).add 0) = some u := ⟨(f 0).1[0]'(by omega), by rw [c0, List.getElem?_eq_getElem (by omega)]⟩
      obtain ⟨u0, hu0⟩ := hsome
      have hspot : spot = none := by simpa [Addr.add] using World.cell?_spot hu0
      subst hspot
      refine ⟨(List.range len).map fun i => (f i).2, _, rfl, by simpa using hbd, some ⟨b, off, none⟩, b, off, cap, by simp, ⟨by simpa using hl, fun h => by cases h⟩, fun _ => ⟨rfl, ?_⟩, fun j hj => ?_⟩
      · rw [Deep.add_add, WideShapes.add_plain] at hu0
        exact lt_of_cell hu0
      · have hj' : j < len := by simpa using hj
        obtain ⟨h1, h2⟩ := hf j hj'
        obtain ⟨_, hlen, hcell⟩ := World.cells?_some h1
        refine ⟨(f j).1, (f j).2, by simp [hj'], hlen, fun i hi => ?_, h2⟩
        have := hcell i hi
        rw [Deep.add_add, WideShapes.add_plain, ← Nat.add_assoc] at this
        exact this
/-- fields, one after the other, from a place on -/
def OpensF {α : Type} (fs : List Field) (off : Nat) (R : World → List Value → α → Prop) : Prop :=
  ∀ (H : Type) (enc : TypeId × Value → H) (W : World) (spare : Nat → Bool) (held : Bool) (fuel : Nat) (cs : List Value),
    (∀ (j : Nat) (f : Field), fs[j]? = some f → ∃ y : DataW H × List MemPlace, DataW.trod enc Tryz.prog W 0 spare held fuel f.type ((cs.drop f.offset).take (Tryz.prog.cellsOf f.type)) = some y ∧ ∀ k ∈ y.1.weights Tryz.prog f.type, k ≤ reachBytes) → ∃ a, R W (cs.drop off) a
theorem opensF_nil {off : Nat} : OpensF [] off (fun _ _ (_ : Unit) => True) := fun _ _ _ _ _ _ _ _ => ⟨(), trivial⟩
theorem opensF_cons {α β : Type} {f : Field} {fs : List Field} {off n : Nat} {R : World → List Value → α → Prop} {S : World → List Value → β → Prop} (ho : f.offset = off) (hc : Tryz.prog.cellsOf f.type = n) (hf : Opens f.type R) (hr : OpensF fs (off + n) S) :
    OpensF (f :: fs) off (fun w cs (a : α × β) => R w (cs.take n) a.1 ∧ S w (cs.drop n) a.2) := fun H enc W spare held fuel cs h => by
  obtain ⟨y, hy, hw⟩ := h 0 f rfl
  obtain ⟨a, ha⟩ := hf H enc W spare held fuel _ y hy hw
  obtain ⟨b, hb⟩ := hr H enc W spare held fuel cs (fun j g hg => h (j + 1) g (by simpa using hg))
  rw [ho, hc] at ha
  exact ⟨(a, b), ha, by rw [List.drop_drop]; exact hb⟩
theorem opensF_last {α : Type} {f : Field} {off n : Nat} {R : World → List Value → α → Prop} (ho : f.offset = off) (hc : Tryz.prog.cellsOf f.type = n) (hf : Opens f.type R) :
    OpensF [f] off (fun w cs (a : α) => R w (cs.take n) a) := fun H enc W spare held fuel cs h => by
  obtain ⟨y, hy, hw⟩ := h 0 f rfl
  obtain ⟨a, ha⟩ := hf H enc W spare held fuel _ y hy hw
  rw [ho, hc] at ha
  exact ⟨a, ha⟩
theorem weights_each {H : Type} {P : Program} : ∀ {ts : List TypeId} {ds : List (DataW H)} {j : Nat} {t : TypeId} {d : DataW H}, ts[j]? = some t → ds[j]? = some d → ∀ k ∈ d.weights P t, k ∈ DataW.weightsEach P ts ds := fun ht hd k hk => DataW.weights_mem_each ht hd k hk
theorem opens_struct {α : Type} {t : TypeId} {fs : Array Field} {n : Nat} {R : World → List Value → α → Prop} (ht : Tryz.prog.underlying t = some (.struct fs)) (hn : Tryz.prog.cellsOf t = n) (hf : OpensF fs.toList 0 R) : Opens t (fun w cs a => cs.length = n ∧ R w cs a) := fun H enc W spare held fuel cs x hx hw => by
  obtain ⟨xs, m, _, hxe, hcl, hlen, hel⟩ := DataW.trod_struct ht hx
  have hwt : ∀ k ∈ DataW.weightsEach Tryz.prog (fs.toList.map (·.type)) (xs.map (·.1)), k ≤ reachBytes := by
    have : x.1.weights Tryz.prog t = DataW.weightsEach Tryz.prog (fs.toList.map (·.type)) (xs.map (·.1)) := by rw [hxe]; simp [DataW.weights, ht]
    rw [← this]; exact hw
  obtain ⟨a, ha⟩ := hf H enc W spare held m cs (fun j f hj => by
    have hj' : fs[j]? = some f := by simpa using hj
    have hjl : j < xs.length := by
      have := (Array.getElem?_eq_some_iff.1 hj').1
      omega
    have e := hel j f hj'
    refine ⟨xs[j], by rw [e, List.getElem?_eq_getElem hjl], fun k hk => hwt k (weights_each (j := j) (t := f.type) (d := xs[j].1) ?_ ?_ k hk)⟩
    · rw [List.getElem?_map, hj]; rfl
    · rw [List.getElem?_map, List.getElem?_eq_getElem hjl]; rfl)
  exact ⟨a, hcl.trans hn, by simpa using ha⟩
/-- an argument's own reading, opened -/
theorem Opens.arg {α : Type} {t : TypeId} {R : World → List Value → α → Prop} (h : Opens t R) {H : Type} {enc : TypeId × Value → H} {W : World} {spare : Nat → Bool} {held : Bool} {v : Value} {d : DataW H} {p : List MemPlace} (hv : DataW.Trod enc Tryz.prog W 0 spare held t v d p)
    {ts : List TypeId} {ds : List (DataW H)} {j : Nat} (hsz : (DataW.weightsEach Tryz.prog ts ds).all (· ≤ reachBytes) = true) (ht : ts[j]? = some t) (hd : ds[j]? = some d) : ∃ a, R W v.cells.toList a := by
  obtain ⟨fuel, hf⟩ := hv
  exact h H enc W spare held fuel _ _ hf (fun k hk => by simpa using List.all_eq_true.1 hsz k (DataW.weights_mem_each ht hd k hk))
end Go.Proofs.YtpenkhehceglfaaGreatDoor
