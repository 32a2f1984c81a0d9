/- Plain: records put one after the other; what DiskKeeps asks. Nothing of the program is named here. -/
import Derived.Test.YtlnbcgjahjjpfacGreatDoorMA
namespace Go.Proofs.YtlnbcgjahjjpfacGreatDoor
namespace Lk
/-- those that can be put are put -/
def putFrom (d : Disk) (out : List Note) : List Note → Disk × List Note
  | [] => (d, out)
  | c :: r => if (putP d c).2 = 0 then putFrom (putP d c).1 (out ++ [c]) r else putFrom d out r
theorem putFrom_texts {a : List Note} (ha : allOk a) (hm : a.length ≤ 200) (l : List Note) : ∀ (b out : List Note), allOk b → (texts a).length + (texts b).length ≤ 60000 →
    ∃ o, allOk o ∧ o.length ≤ l.length ∧ putFrom ⟨texts a, texts b⟩ out l = (⟨texts a, texts (b ++ o)⟩, out ++ o) ∧ (texts a).length + (texts (b ++ o)).length ≤ 60000 := by
  induction l with
  | nil => intro b out hb hs; exact ⟨[], (fun r hr => by cases hr), Nat.le_refl _, by simp [putFrom], by simpa using hs⟩
  | cons c r ih =>
    intro b out hb hs
    have hchk : chkDisk ⟨texts a, texts b⟩ = 0 := chk_texts ha hm hs
    have hput : putP ⟨texts a, texts b⟩ c = putOn ⟨texts a, texts b⟩ c := by unfold putP; rw [if_pos hchk]
    by_cases h : (putOn ⟨texts a, texts b⟩ c).2 = 0
    · obtain ⟨h1, h2, h3⟩ := put_texts h
      obtain ⟨o, o1, o2, o3, o4⟩ := ih (b ++ [c]) (out ++ [c]) (allOk_app hb (fun x hx => by simp at hx; subst hx; exact h1)) h3
      refine ⟨c :: o, fun x hx => ?_, by simp; omega, ?_, ?_⟩
      · rcases List.mem_cons.1 hx with rfl | hx
        · exact h1
        · exact o1 x hx
      · rw [putFrom, hput, if_pos h, h2]
        simp only
        rw [o3, List.append_assoc, List.append_assoc]
        rfl
      · rw [List.append_assoc] at o4; exact o4
    · obtain ⟨o, o1, o2, o3, o4⟩ := ih b out hb hs
      exact ⟨o, o1, by simp; omega, by rw [putFrom, hput, if_neg h]; exact o3, o4⟩
theorem sync_all {b : List Note} (hb : allOk b) (hm : b.length ≤ 200) (hs : (texts b).length ≤ 60000) : syncP ⟨texts [], texts b⟩ = (⟨texts b, []⟩, 0) := by
  have hchk : chkDisk ⟨texts [], texts b⟩ = 0 := chk_texts (a := []) (fun r hr => by cases hr) (by simp) (by simpa [texts] using hs)
  unfold syncP
  rw [if_pos hchk]
  exact sync_texts hb hm hs
theorem recov_all {a b : List Note} (ha : allOk a) (hb : allOk b) (hm : a.length + b.length ≤ 200) (hs : (texts a).length + (texts b).length ≤ 60000) (k : Nat) :
    ∃ j, j ≤ b.length ∧ recovP ⟨texts a, (texts b).take k⟩ = (⟨texts (a ++ b.take j), []⟩, a ++ b.take j, 0) ∧ recovP ⟨texts (a ++ b.take j), []⟩ = (⟨texts (a ++ b.take j), []⟩, a ++ b.take j, 0) := by
  obtain ⟨j, h1, h2, h3⟩ := recov_keeps ha hb hm k
  have hsz : (texts (b.take j)).length ≤ (texts b).length := by
    have e : texts b = texts (b.take j) ++ texts (b.drop j) := by rw [← texts_app, List.take_append_drop]
    rw [e, List.length_append]; omega
  refine ⟨j, h1, ?_, ?_⟩
  · have hc : chkDisk ⟨texts a, (texts b).take k⟩ = 0 := chk_texts ha (by omega) (by rw [List.length_take]; omega)
    unfold recovP; rw [if_pos hc, h2]
  · have hc : chkDisk ⟨texts (a ++ b.take j), []⟩ = 0 := chk_texts (allOk_app ha (allOk_take hb j)) (by simp; omega) (by rw [texts_app]; simp; omega)
    unfold recovP; rw [if_pos hc, h3]
theorem take_two (a b : List Note) (j : Nat) : (a ++ b).take (a.length + j) = a ++ b.take j := by
  rw [List.take_append, List.take_of_length_le (by omega), Nat.add_sub_cancel_left]
end Lk
end Go.Proofs.YtlnbcgjahjjpfacGreatDoor
