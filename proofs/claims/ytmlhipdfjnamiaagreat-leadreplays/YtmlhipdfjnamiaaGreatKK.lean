/- What stays true whatever is written elsewhere; worlds with one, two, three, four blocks more. (The same texts stand in LeadAt: where a seat wants both, LeadAt drops its own.) -/
import Derived.Test.YtmlhipdfjnamiaaGreatPN
import Derived.Test.YtmlhipdfjnamiaaGreatBlk
namespace Go.Proofs.YtmlhipdfjnamiaaGreat
open Go.RowKit
/-- the worlds that differ from w in blocks of S alone, and in new ones -/
def Aside (S : Nat → Prop) (w w' : World) : Prop := w'.os = w.os ∧ w'.tape = w.tape ∧ w'.output = w.output ∧ w.heap.size ≤ w'.heap.size ∧ ∀ b, b < w.heap.size → ¬ S b → w'.heap[b]? = w.heap[b]?
/-- what stays true whatever is written into blocks of S -/
def Keep (S : Nat → Prop) (P : World → Prop) (w : World) : Prop := ∀ w', Aside S w w' → P w'
def Off (g : Nat) (P : World → Prop) (w : World) : Prop := Keep (fun b => b = g) P w
def New (base : Nat) (P : World → Prop) (w : World) : Prop := Keep (fun b => b < base) P w
def Stab (P : World → Prop) : Prop := ∀ w w', P w → Below w.heap.size w w' → P w'
theorem aside_refl (S : Nat → Prop) (w : World) : Aside S w w := ⟨rfl, rfl, rfl, Nat.le_refl _, fun _ _ _ => rfl⟩
theorem Keep.here {S : Nat → Prop} {P : World → Prop} {w : World} (h : Keep S P w) : P w := h w (aside_refl S w)
theorem aside_below {S : Nat → Prop} {w w' w'' : World} (hb : Below w.heap.size w w') (h : Aside S w' w'') : Aside S w w'' := by
  obtain ⟨h1, h2, h3, h4, h5⟩ := h
  exact ⟨h1.trans hb.os, h2.trans hb.tape, h3.trans hb.output, Nat.le_trans hb.size h4, fun b hl hs => (h5 b (Nat.lt_of_lt_of_le hl hb.size) hs).trans (hb.block b hl)⟩
theorem Keep.below {S : Nat → Prop} {P : World → Prop} {w w' : World} (h : Keep S P w) (hb : Below w.heap.size w w') : Keep S P w' := fun w'' h'' => h w'' (aside_below hb h'')
theorem Keep.sub {S T : Nat → Prop} {P : World → Prop} {w : World} (h : Keep S P w) (hs : ∀ b, T b → S b) : Keep T P w := fun w' h' => h w' ⟨h'.1, h'.2.1, h'.2.2.1, h'.2.2.2.1, fun b hl hn => h'.2.2.2.2 b hl (fun ht => hn (hs b ht))⟩
theorem Keep.set {S : Nat → Prop} {P : World → Prop} {w : World} (h : Keep S P w) {a : Addr} (ha : S a.block) (z : Value) : Keep S P (w.setCell a z) := fun w'' h'' => h w'' (by
  obtain ⟨h1, h2, h3, h4, h5⟩ := h''
  rw [World.size_setCell] at h4 h5
  exact ⟨h1, h2, h3, h4, fun b hl hn => (h5 b hl hn).trans (Below.heap_setCell w a z b (fun e => hn (e ▸ ha)))⟩)
theorem Keep.mono {S : Nat → Prop} {P Q : World → Prop} {w : World} (h : Keep S P w) (hq : ∀ w', P w' → Q w') : Keep S Q w := fun w' h' => hq w' (h w' h')
theorem Keep.older {S : Nat → Prop} {P : World → Prop} {w w' : World} (h : P w) (hst : Stab P) (hS : ∀ b, S b → w.heap.size ≤ b) (hb : Below w.heap.size w w') : Keep S P w' := fun w'' h'' => by
  refine hst w w'' h ?_
  obtain ⟨h1, h2, h3, h4, h5⟩ := aside_below hb h''
  exact ⟨h1, h2, h3, h4, fun b hl => h5 b hl (fun hs => by have := hS b hs; omega)⟩
theorem Keep.drew {S : Nat → Prop} {P : World → Prop} {w : World} (h : Keep S P w) : Keep S P w.drew := h.below (Below.refl _ w).drew
theorem New.off {base g : Nat} {P : World → Prop} {w : World} (h : New base P w) (hg : g < base) : Off g P w := Keep.sub h (fun b e => by rw [e]; exact hg)
theorem New.mono {base base' : Nat} {P : World → Prop} {w : World} (h : New base P w) (hb : base' ≤ base) : New base' P w := Keep.sub h (fun _ e => Nat.lt_of_lt_of_le e hb)
theorem keep_cell {S : Nat → Prop} {w w' : World} (h : Aside S w w') {a : Addr} (hl : a.block < w.heap.size) (hs : ¬ S a.block) : w'.cell? a = w.cell? a := World.cell?_of_block (w := w) (h.2.2.2.2 a.block hl hs)
theorem pins_stab (v : Value) (l : List (Int × Int)) : Stab (fun w => PinsAt w v l) := fun _ _ h hb => h.below hb
theorem pinsNew_keep {w : World} {base : Nat} {v : Value} {l : List (Int × Int)} (h : PinsNew w base v l) : New base (fun w => PinsAt w v l) w := fun w' h' => by
  obtain ⟨hl, c, h | ⟨b, o, h0, h1, h2⟩⟩ := h
  · exact ⟨hl, c, .inl h⟩
  · refine ⟨hl, c, .inr ⟨b, o, h1, Nat.lt_of_lt_of_le h2.1 h'.2.2.2.1, fun j hj => ?_⟩⟩
    rw [keep_cell h' (a := ⟨b, _, none⟩) h2.1 (by simp only []; omega), keep_cell h' (a := ⟨b, _, none⟩) h2.1 (by simp only []; omega)]
    exact h2.2 j hj
theorem box1 (w : World) (cs : Array Value) (t : TypeId) : Below w.heap.size w (w.alloc (.cells cs t)) ∧ Blk (w.alloc (.cells cs t)) w.heap.size cs t := ⟨(Below.refl _ w).alloc (Nat.le_refl _) _, blk_alloc w _ _⟩
theorem box2 (w : World) (cs cs' : Array Value) (t t' : TypeId) : Below w.heap.size w ((w.alloc (.cells cs t)).alloc (.cells cs' t')) ∧ Blk ((w.alloc (.cells cs t)).alloc (.cells cs' t')) w.heap.size cs t ∧ Blk ((w.alloc (.cells cs t)).alloc (.cells cs' t')) (w.heap.size + 1) cs' t' := by
  refine ⟨((Below.refl _ w).alloc (Nat.le_refl _) _).alloc (by simp) _, (blk_alloc w _ _).below ((Below.refl _ _).alloc (Nat.le_refl _) _), ?_⟩
  have := blk_alloc (w.alloc (.cells cs t)) cs' t'
  rwa [World.size_alloc] at this
theorem box3 (w : World) (cs cs' cs'' : Array Value) (t t' t'' : TypeId) : Below w.heap.size w (((w.alloc (.cells cs t)).alloc (.cells cs' t')).alloc (.cells cs'' t'')) ∧ Blk (((w.alloc (.cells cs t)).alloc (.cells cs' t')).alloc (.cells cs'' t'')) w.heap.size cs t ∧ Blk (((w.alloc (.cells cs t)).alloc (.cells cs' t')).alloc (.cells cs'' t'')) (w.heap.size + 1) cs' t' ∧ Blk (((w.alloc (.cells cs t)).alloc (.cells cs' t')).alloc (.cells cs'' t'')) (w.heap.size + 1 + 1) cs'' t'' := by
  obtain ⟨h1, h2, h3⟩ := box2 w cs cs' t t'
  have hb : Below ((w.alloc (.cells cs t)).alloc (.cells cs' t')).heap.size ((w.alloc (.cells cs t)).alloc (.cells cs' t')) (((w.alloc (.cells cs t)).alloc (.cells cs' t')).alloc (.cells cs'' t'')) := (Below.refl _ _).alloc (Nat.le_refl _) _
  refine ⟨h1.trans (hb.mono h1.size), h2.below hb, h3.below hb, ?_⟩
  have := blk_alloc ((w.alloc (.cells cs t)).alloc (.cells cs' t')) cs'' t''
  rwa [World.size_alloc, World.size_alloc] at this
theorem box4 (w : World) (cs cs' cs'' cs3 : Array Value) (t t' t'' t3 : TypeId) : Below w.heap.size w ((((w.alloc (.cells cs t)).alloc (.cells cs' t')).alloc (.cells cs'' t'')).alloc (.cells cs3 t3)) ∧ Blk ((((w.alloc (.cells cs t)).alloc (.cells cs' t')).alloc (.cells cs'' t'')).alloc (.cells cs3 t3)) w.heap.size cs t ∧ Blk ((((w.alloc (.cells cs t)).alloc (.cells cs' t')).alloc (.cells cs'' t'')).alloc (.cells cs3 t3)) (w.heap.size + 1) cs' t' ∧ Blk ((((w.alloc (.cells cs t)).alloc (.cells cs' t')).alloc (.cells cs'' t'')).alloc (.cells cs3 t3)) (w.heap.size + 1 + 1) cs'' t'' ∧ Blk ((((w.alloc (.cells cs t)).alloc (.cells cs' t')).alloc (.cells cs'' t'')).alloc (.cells cs3 t3)) (w.heap.size + 1 + 1 + 1) cs3 t3 := by
  obtain ⟨h1, h2, h3, h4⟩ := box3 w cs cs' cs'' t t' t''
  have hb : Below (((w.alloc (.cells cs t)).alloc (.cells cs' t')).alloc (.cells cs'' t'')).heap.size (((w.alloc (.cells cs t)).alloc (.cells cs' t')).alloc (.cells cs'' t'')) ((((w.alloc (.cells cs t)).alloc (.cells cs' t')).alloc (.cells cs'' t'')).alloc (.cells cs3 t3)) := (Below.refl _ _).alloc (Nat.le_refl _) _
  refine ⟨h1.trans (hb.mono h1.size), h2.below hb, h3.below hb, h4.below hb, ?_⟩
  have := blk_alloc (((w.alloc (.cells cs t)).alloc (.cells cs' t')).alloc (.cells cs'' t'')) cs3 t3
  rwa [World.size_alloc, World.size_alloc, World.size_alloc] at this
end Go.Proofs.YtmlhipdfjnamiaaGreat
