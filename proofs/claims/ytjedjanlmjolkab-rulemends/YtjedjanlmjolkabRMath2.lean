/- Of names in a lock and what is asked of them. Nothing of the program is named here. -/
import Derived.Test.YtjedjanlmjolkabRMath
namespace Go.Proofs.Ytjedjanlmjolkab
namespace Rk
open Lk Dk
theorem find_of_mem {l : List (Int × Int)} : ∀ {k : Int} {p : Int × Int}, srt k l → p ∈ l → find p.1 l = p.2 := by
  induction l with
  | nil => intro k p _ h; cases h
  | cons q r ih =>
    intro k p hs h
    rw [find]
    rcases List.mem_cons.1 h with rfl | h
    · rw [if_pos rfl]
    · have hp : q.1 + 1 ≤ p.1 := by
        have : ∀ (r : List (Int × Int)) (j : Int), srt j r → p ∈ r → j ≤ p.1 := by
          intro r
          induction r with
          | nil => intro j _ h; cases h
          | cons z s ihs =>
            intro j hj hm
            rcases List.mem_cons.1 hm with rfl | hm
            · exact hj.1.1
            · have := ihs _ hj.2 hm
              have := hj.1.1
              omega
        exact this r _ hs.2 h
      rw [if_neg (by omega)]
      exact ih hs.2 h
theorem mem_of_find {l : List (Int × Int)} {n : Int} (h : find n l ≠ 0) : (n, find n l) ∈ l := by
  induction l with
  | nil => exact absurd rfl h
  | cons q r ih =>
    rw [find] at h ⊢
    by_cases e : q.1 = n
    · rw [if_pos e]
      obtain ⟨x, y⟩ := q
      simp only at e
      subst e
      simp
    · rw [if_neg e] at h ⊢
      exact List.mem_cons_of_mem _ (ih h)
theorem name_range {l : List (Int × Int)} (h : chk l = 0) {p : Int × Int} (hp : p ∈ l) : ∃ n : Nat, n < 21 ∧ p.1 = n := by
  have : ∀ (l : List (Int × Int)) (k : Int), 0 ≤ k → srt k l → p ∈ l → 0 ≤ p.1 ∧ p.1 ≤ 20 := by
    intro l
    induction l with
    | nil => intro k _ _ h; cases h
    | cons q r ih =>
      intro k hk hs h
      have := hs.1
      rcases List.mem_cons.1 h with rfl | h
      · omega
      · exact ih _ (by omega) hs.2 h
  have := this l 1 (by decide) (chk_srt h).2 hp
  exact ⟨p.1.toNat, by omega, by omega⟩
/-- each pin of the lock is there, none at a lesser version -/
theorem mend_has {l : List (Int × Int)} {r : List Rl} (h : mendErr l r = 0) {p : Int × Int} (hp : p ∈ l) : p.2 ≤ find p.1 (mended l r) := by
  have hc := (brokenErr_ok (mendErr_ok h).1).1
  obtain ⟨n, hn, e⟩ := name_range hc hp
  have h1 := mended_ge h n hn
  rw [← e, find_of_mem (chk_srt hc).2 hp] at h1
  exact h1
/-- where another one keeps all rules and has all that, it has all that was mended -/
theorem mend_least {l o : List (Int × Int)} {r : List Rl} (h : mendErr l r = 0) (hob : brokenErr o r = 0) (hok : broken o r = -1) (hge : ∀ p ∈ l, p.2 ≤ find p.1 o) {p : Int × Int} (hp : p ∈ mended l r) : p.2 ≤ find p.1 o := by
  have hc := (brokenErr_ok (mendErr_ok h).1).1
  have hm := (mended_good h).2.1
  obtain ⟨n, hn, e⟩ := name_range hm hp
  have h1 := mended_least h hob hok (fun k hk => by
    by_cases h0 : find (k : Int) l = 0
    · rw [h0]; exact (find_range _ (chk_srt (brokenErr_ok hob).1).2).1
    · exact hge _ (mem_of_find h0)) n hn
  rw [← e, find_of_mem (chk_srt hm).2 hp] at h1
  exact h1
/-- with fewer rules no more comes -/
theorem mend_fewer {l : List (Int × Int)} {r m : List Rl} (h : mendErr l r = 0) (hm : rchk m = 0) (h1 : ∀ x ∈ m, x ∈ r) {p : Int × Int} (hp : p ∈ mended l m) : p.2 ≤ find p.1 (mended l r) := by
  obtain ⟨he, hf⟩ := mended_fewer h hm h1
  have hc := (mended_good he).2.1
  obtain ⟨n, hn, e⟩ := name_range hc hp
  have h2 := hf n hn
  rw [← e, find_of_mem (chk_srt hc).2 hp] at h2
  exact h2
theorem rchk_sub {r m : List Rl} (h : rchk r = 0) (hl : m.length ≤ r.length) (h1 : ∀ x ∈ m, x ∈ r) : rchk m = 0 := by
  have hr := rchk_ok h
  unfold rchk at h ⊢
  rw [if_neg (by omega)] at h
  rw [if_neg (by omega)]
  exact rchkFrom_ok.2 fun x hx => rchkFrom_ok.1 h x (h1 x hx)
end Rk
end Go.Proofs.Ytjedjanlmjolkab
