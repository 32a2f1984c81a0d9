/- The walk of vanguardlaw.DiskSays, whole. -/
import Derived.Test.YtlnbcgjahjjpfacGreatDoorS1
import Derived.Test.YtlnbcgjahjjpfacGreatDoorS2
import Derived.Test.YtlnbcgjahjjpfacGreatDoorS3
namespace Go.Proofs.YtlnbcgjahjjpfacGreatDoor
open Go.RowKit
theorem diskSays_any (vs vw ux uy : Value) (ls lw xl xm : List UInt8) (r : Lk.Note) (v : Value) (n : Int) (w : World) (hE : Env w) (hS : BytesAt w vs ls) (hW : BytesAt w vw lw) (hX : BytesAt w ux xl) (hY : BytesAt w uy xm) (hP : PinsAt w v r.lock) (hwf : (Lit.int .i64 r.kind).wf = true) :
    Calls Tryz.prog 3 #[.agg #[vs, vw], recV r v, .int .i64 n, .agg #[ux, uy]] w fun e w' => e = .returned (.bool true) ∧ Below w.heap.size w w' := by
  by_cases h : Lk.chkDisk ⟨ls, lw⟩ = 0
  · by_cases h0 : 0 ≤ n
    · by_cases h1 : n ≤ (lw.length : Int)
      · obtain ⟨k, rfl⟩ := Int.eq_ofNat_of_zero_le h0
        exact diskSays_in vs vw ux uy ls lw xl xm r v k w hE hS hW hX hY hP hwf h (by omega)
      · exact diskSays_out vs vw ux uy ls lw xl xm r v n w hE hS hW hX hY hP hwf h (.inr ⟨h0, by omega⟩)
    · exact diskSays_out vs vw ux uy ls lw xl xm r v n w hE hS hW hX hY hP hwf h (.inl (by omega))
  · exact diskSays_bad vs vw ux uy ls lw xl xm r v n w hE hS hW hX hY hP hwf h
end Go.Proofs.YtlnbcgjahjjpfacGreatDoor
