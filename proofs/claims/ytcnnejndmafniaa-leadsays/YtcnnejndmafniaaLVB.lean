/- The contracts of lead.got, lead.send, lead.tellOrHear. -/
import Derived.Test.YtcnnejndmafniaaLVA
import Derived.Test.YtcnnejndmafniaaMA
import Derived.BigRegion
namespace Go.Proofs.Ytcnnejndmafniaa
open Go.RowKit
def gotL (l : Ld.Leader) (k : Nat) (t : Int) (good : Bool) : Ld.Leader × Int :=
  if (l.ags.getD k ⟨0, 0, false⟩).st = 1 ∧ (l.ags.getD k ⟨0, 0, false⟩).tr = t then ({ l with ags := l.ags.set k { l.ags.getD k ⟨0, 0, false⟩ with st := if good = true then 2 else 3 } }, 0) else (Ld.Leader.none, 7)
theorem set_set_st {l : Ld.Leader} {k : Nat} (hk : k < l.ags.length) (x y : Int) : ({ l with ags := (l.ags.set k { l.ags.getD k ⟨0, 0, false⟩ with st := x }).set k { (l.ags.set k { l.ags.getD k ⟨0, 0, false⟩ with st := x }).getD k ⟨0, 0, false⟩ with st := y } } : Ld.Leader) = { l with ags := l.ags.set k { l.ags.getD k ⟨0, 0, false⟩ with st := y } } := by
  rw [List.set_set, Ld.getD_set, if_pos ⟨rfl, hk⟩]
set_option maxHeartbeats 4000000 in
theorem got_any (base b : Nat) (l : Ld.Leader) (k g5 n k5 : Nat) (rk ra rt rn ri : Int) (rg : Bool) (az : Option Addr) (nz cz : Nat) (w : World) (h : LdW w base b l) (hk : k < l.ags.length) (hB : w.cell? ⟨b, 4, none⟩ = some (.slice (some ⟨g5, 0, none⟩) n k5)) (hbs : base ≤ w.heap.size) :
    Calls Try.prog 94 #[.pointer (some ⟨g5, k * 3, none⟩), .agg #[.int .i64 rk, .int .i64 ra, .int .i64 rt, .int .i64 rn, .bool rg, .int .i64 ri, .slice az nz cz]] w fun e w' => leD w' base b (gotL l k rt rg) e ∧ Below base w w' := by
  obtain ⟨hX, hY⟩ := box1 w #[.int .i64 rk, .int .i64 ra, .int .i64 rt, .int .i64 rn, .bool rg, .int .i64 ri, .slice az nz cz] 53
  have hblt : b < w.heap.size := World.block_lt_of_cell? w _ hB
  have h' := h.below hX
  have hB' := (hX.cell (p := ⟨b, 4, none⟩) hblt).trans hB
  obtain ⟨h2, h3, h4, h5, h6, h7, h8, h9, h10⟩ := h'.agentAt hk hB'
  have HBX : Hid (Below base w (w.alloc (.cells #[.int .i64 rk, .int .i64 ra, .int .i64 rt, .int .i64 rn, .bool rg, .int .i64 ri, .slice az nz cz] 53))) := hX.mono hbs
  have HE : Hid (gotL l k rt rg = if (l.ags.getD k ⟨0, 0, false⟩).st = 1 ∧ (l.ags.getD k ⟨0, 0, false⟩).tr = rt then ({ l with ags := l.ags.set k { l.ags.getD k ⟨0, 0, false⟩ with st := if rg = true then 2 else 3 } }, 0) else (Ld.Leader.none, 7)) := rfl
  have HS3 : Hid (∀ q, LdW (((w.alloc (.cells #[.int .i64 rk, .int .i64 ra, .int .i64 rt, .int .i64 rn, .bool rg, .int .i64 ri, .slice az nz cz] 53)).drewN q).setCell ⟨g5, k * 3, none⟩ (.int .i64 3)) base b { l with ags := l.ags.set k { l.ags.getD k ⟨0, 0, false⟩ with st := 3 } }) := fun q => by
    have hq := h'.below (below_drewN (Below.refl _ _) q)
    have hBq := ((below_drewN (Below.refl _ (w.alloc (.cells #[.int .i64 rk, .int .i64 ra, .int .i64 rt, .int .i64 rn, .bool rg, .int .i64 ri, .slice az nz cz] 53))) q).cell (p := ⟨b, 4, none⟩) (Nat.lt_of_lt_of_le hblt hX.size)).trans hB'
    exact (hq.agentAt hk hBq).2.2.2.2.2.2.2.2 3
  have HS2 : Hid (∀ q, LdW ((((w.alloc (.cells #[.int .i64 rk, .int .i64 ra, .int .i64 rt, .int .i64 rn, .bool rg, .int .i64 ri, .slice az nz cz] 53)).drewN q).setCell ⟨g5, k * 3, none⟩ (.int .i64 3)).setCell ⟨g5, k * 3, none⟩ (.int .i64 2)) base b { l with ags := l.ags.set k { l.ags.getD k ⟨0, 0, false⟩ with st := 2 } }) := fun q => by
    have h0 := HS3.out q
    have hk' : k < (l.ags.set k { l.ags.getD k ⟨0, 0, false⟩ with st := 3 }).length := by simpa using hk
    have hBq : (((w.alloc (.cells #[.int .i64 rk, .int .i64 ra, .int .i64 rt, .int .i64 rn, .bool rg, .int .i64 ri, .slice az nz cz] 53)).drewN q).setCell ⟨g5, k * 3, none⟩ (.int .i64 3)).cell? ⟨b, 4, none⟩ = some (.slice (some ⟨g5, 0, none⟩) n k5) := by
      rw [World.cell?_setCell_other _ _ _ _ (fun e => by injection e with e1; exact h4 e1.symm)]
      exact ((below_drewN (Below.refl _ (w.alloc (.cells #[.int .i64 rk, .int .i64 ra, .int .i64 rt, .int .i64 rn, .bool rg, .int .i64 ri, .slice az nz cz] 53))) q).cell (p := ⟨b, 4, none⟩) (Nat.lt_of_lt_of_le hblt hX.size)).trans hB'
    have := (h0.agentAt (k := k) hk' hBq).2.2.2.2.2.2.2.2 2
    rw [← set_set_st hk 3 2]
    exact this
  clear h h' hB hB' h9 h10
  generalize gotL l k rt rg = Q at HE ⊢
  have r0 := hY.cell 0
  have r1 := hY.cell 1
  have r2 := hY.cell 2
  have r3 := hY.cell 3
  have r4 := hY.cell 4
  have r5 := hY.cell 5
  have r6 := hY.cell 6
  simp only [List.getElem?_toArray, List.getElem?_cons_zero, List.getElem?_cons_succ] at r0 r1 r2 r3 r4 r5 r6
  have hf0 := h8 (k * 3)
  clear hY h8 hX
  generalize l.ags.getD k ⟨0, 0, false⟩ = p at h5 h6 h7 HE HS3 HS2
  obtain ⟨s, t, bb⟩ := p
  simp only at h5 h6 h7 HE HS3 HS2
  by_cases c1 : s = 1
  rotate_left
  · have HQ : Hid (Q = (Ld.Leader.none, 7)) := by rw [HE.out, if_neg (fun e => c1 e.1)]; rfl
    have c1' : (s != 1) = true := by rw [bne_iff_ne]; exact c1
    clear HE c1 HS3 HS2
    go_enter Try.func94, Try.ntmps94
    go_wp2_with fail
    go_quiet (fail)
    go_wp2
    go_ret
    exact ⟨leD_bad HQ.out (by decide), below_drewN HBX.out _⟩
  subst c1
  by_cases c2 : t = rt
  rotate_left
  · have HQ : Hid (Q = (Ld.Leader.none, 7)) := by rw [HE.out, if_neg (fun e => c2 e.2)]; rfl
    have c2' : (t != rt) = true := by rw [bne_iff_ne]; exact c2
    clear HE c2 HS3 HS2
    go_enter Try.func94, Try.ntmps94
    go_wp2_with fail
    go_quiet (fail)
    go_wp2
    go_ret
    exact ⟨leD_bad HQ.out (by decide), below_drewN HBX.out _⟩
  subst c2
  cases rg
  · have HQ : Hid (Q = ({ l with ags := l.ags.set k ⟨3, t, bb⟩ }, 0)) := by rw [HE.out, if_pos ⟨rfl, rfl⟩]; rfl
    clear HE HS2
    go_enter Try.func94, Try.ntmps94
    go_wp2_with fail
    go_quiet (fail)
    go_wp2
    go_ret
    refine ⟨by rw [HQ.out]; exact ⟨rfl, fun _ => HS3.out _⟩, ?_⟩
    exact (below_drewN HBX.out _).setCell h3 _
  · have HQ : Hid (Q = ({ l with ags := l.ags.set k ⟨2, t, bb⟩ }, 0)) := by rw [HE.out, if_pos ⟨rfl, rfl⟩]; rfl
    clear HE HS3
    go_enter Try.func94, Try.ntmps94
    go_wp2_with fail
    go_quiet (fail)
    go_wp2
    go_ret
    refine ⟨by rw [HQ.out]; exact ⟨rfl, fun _ => HS2.out _⟩, ?_⟩
    exact ((below_drewN HBX.out _).setCell h3 _).setCell h3 _
end Go.Proofs.Ytcnnejndmafniaa
