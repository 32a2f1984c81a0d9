/- The walks of vanguardlaw.DiskSays (written by a program). -/
import Derived.Test.YtlnbcgjahjjpfacGreatDoorD10
import Derived.Test.YtlnbcgjahjjpfacGreatDoorD17
import Derived.Test.YtlnbcgjahjjpfacGreatDoorD18
import Derived.Test.YtlnbcgjahjjpfacGreatDoorD19
import Derived.Test.YtlnbcgjahjjpfacGreatDoorD20
import Derived.Test.YtlnbcgjahjjpfacGreatDoorN7
import Derived.Deep.RegionHeld3
namespace Go.Proofs.YtlnbcgjahjjpfacGreatDoor
open Go.RowKit
/-- a disk in a block of its own -/
def DskAt (w : World) (g : Nat) (l m : List UInt8) : Prop := ∃ va vb, Blk w g #[va, vb] 24 ∧ BytesAt w va l ∧ BytesAt w vb m
theorem DskAt.below {w w' : World} {g : Nat} {l m : List UInt8} (h : DskAt w g l m) (hb : Below w.heap.size w w') : DskAt w' g l m := by
  obtain ⟨va, vb, h1, h2, h3⟩ := h
  exact ⟨va, vb, h1.below hb, h2.below hb, h3.below hb⟩
theorem dsk_new {w : World} {va vb : Value} {l m : List UInt8} (h1 : BytesAt w va l) (h2 : BytesAt w vb m) : DskAt (w.alloc (.cells #[va, vb] 24)) w.heap.size l m :=
  ⟨va, vb, blk_alloc w _ _, h1.below ((Below.refl _ _).alloc (Nat.le_refl _) _), h2.below ((Below.refl _ _).alloc (Nat.le_refl _) _)⟩
theorem dsk_open {w : World} {g : Nat} {l m : List UInt8} (h : DskAt w g l m) : ∃ a c a' c', BytesAt w (.slice a l.length c) l ∧ BytesAt w (.slice a' m.length c') m ∧ w.cell? ⟨g, 0, none⟩ = some (.slice a l.length c) ∧ w.cell? ⟨g, 1, none⟩ = some (.slice a' m.length c') := by
  obtain ⟨va, vb, h1, h2, h3⟩ := h
  obtain ⟨a, c, rfl⟩ := bytes_slice h2
  obtain ⟨a', c', rfl⟩ := bytes_slice h3
  exact ⟨a, c, a', c', h2, h3, h1.cell 0, h1.cell 1⟩
theorem sameDisk_self (d : Lk.Disk) : Lk.sameDisk d d = true := by simp [Lk.sameDisk]
theorem sameTrue (w : World) (va vb ua ub : Value) (l m : List UInt8) (h1 : BytesAt w va l) (h2 : BytesAt w vb m) (h3 : BytesAt w ua l) (h4 : BytesAt w ub m) :
    Calls Tryz.prog 13 #[.agg #[va, vb], .agg #[ua, ub]] w fun e w' => e = .returned (.bool true) ∧ Below w.heap.size w w' := by
  have := sameDiskR_any va vb ua ub l m l m w h1 h2 h3 h4
  rwa [sameDisk_self] at this
theorem recsame (w : World) (va vb : Value) (ps qs : List (Lk.Note × Value)) (h1 : RecsAt w va ps) (h2 : RecsAt w vb qs) (he : ps.map Prod.fst = qs.map Prod.fst) :
    Calls Tryz.prog 17 #[va, vb, .func (.func 18) #[] #[]] w fun e w' => e = .returned (.bool true) ∧ Below w.heap.size w w' := by
  have := equalF_any 18 (fun _ _ => by simp [go_sem]) Lk.sameNote (fun r q v u w h h' => sameR_any r q v u w h h') va vb ps qs w h1 h2
  rwa [he, all2_self Lk.sameNote Lk.sameNote_self] at this
end Go.Proofs.YtlnbcgjahjjpfacGreatDoor
