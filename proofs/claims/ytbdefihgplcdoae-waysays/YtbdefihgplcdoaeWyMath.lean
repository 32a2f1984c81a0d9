/- Plain functions on mail: how it is checked, sent, taken. Nothing of the program is named here. -/
import Derived.Test.YtbdefihgplcdoaeNMath
namespace Go.Proofs.Ytbdefihgplcdoae
namespace Wy
open Lk
structure Mail where
  agent : Int
  tr : Int
  rep : Bool
  good : Bool
  id : Int
  lock : List (Int × Int)
def Mail.none : Mail := ⟨0, 0, false, false, 0, []⟩
def chk1 (m : Mail) : Int :=
  if (within m.agent 0 5 && within m.tr 1 200) = true then
    (if m.rep = true then (if alike m.id m.lock 0 [] = true then 0 else 4) else if m.good = true then 4 else chkRel m.id m.lock)
  else 3
def chkFrom : List Mail → Int
  | [] => 0
  | m :: t => if chk1 m = 0 then chkFrom t else chk1 m
def chkMail (l : List Mail) : Int := if 40 < l.length then 2 else chkFrom l
def same1 (a b : Mail) : Bool := a.agent == b.agent && a.tr == b.tr && a.rep == b.rep && a.good == b.good && alike a.id a.lock b.id b.lock
/-- two lists are alike, element by element -/
def all2m (S : Mail → Mail → Bool) : List Mail → List Mail → Bool
  | [], [] => true
  | a :: r, b :: t => S a b && all2m S r t
  | [], _ :: _ => false
  | _ :: _, [] => false
theorem all2m_len (S : Mail → Mail → Bool) : ∀ (a b : List Mail), a.length ≠ b.length → all2m S a b = false
  | [], [], h => absurd rfl h
  | [], _ :: _, _ => rfl
  | _ :: _, [], _ => rfl
  | x :: r, y :: t, h => by rw [all2m, all2m_len S r t (fun e => h (by simp [e])), Bool.and_false]
theorem all2m_self (S : Mail → Mail → Bool) (h : ∀ r, S r r = true) : ∀ a, all2m S a a = true
  | [] => rfl
  | x :: r => by rw [all2m, h, all2m_self S h r]; rfl
def sameMail (a b : List Mail) : Bool := all2m same1 a b
theorem same1_self (a : Mail) : same1 a a = true := by simp [same1, alike, same]
theorem sameMail_self (a : List Mail) : sameMail a a = true := all2m_self _ same1_self a
theorem chkFrom_lock : ∀ {l : List Mail}, chkFrom l = 0 → ∀ m ∈ l, m.lock.length ≤ 12
  | x :: t, h, m, hm => by
    rw [chkFrom] at h
    by_cases h1 : chk1 x = 0
    · rw [if_pos h1] at h
      rcases List.mem_cons.1 hm with rfl | hm
      · unfold chk1 at h1
        by_cases hw : (within m.agent 0 5 && within m.tr 1 200) = true
        · rw [if_pos hw] at h1
          by_cases hr : m.rep = true
          · rw [if_pos hr] at h1
            by_cases ha : alike m.id m.lock 0 [] = true
            · have : m.lock = [] := by simp [alike, same] at ha; exact ha.2
              rw [this]; simp
            · rw [if_neg ha] at h1; exact absurd h1 (by decide)
          · rw [if_neg hr] at h1
            by_cases hg : m.good = true
            · rw [if_pos hg] at h1; exact absurd h1 (by decide)
            · rw [if_neg hg] at h1
              unfold chkRel at h1
              by_cases hi : within m.id 1 6 = true
              · rw [if_pos hi] at h1
                unfold chk at h1
                by_cases hl : 12 < m.lock.length
                · rw [if_pos hl] at h1; exact absurd h1 (by decide)
                · omega
              · rw [if_neg hi] at h1; exact absurd h1 (by decide)
        · rw [if_neg hw] at h1; exact absurd h1 (by decide)
      · exact chkFrom_lock h m hm
    · rw [if_neg h1] at h; exact absurd h h1
theorem chkMail_len {l : List Mail} (h : chkMail l = 0) : l.length ≤ 40 ∧ chkFrom l = 0 := by
  unfold chkMail at h
  by_cases hl : 40 < l.length
  · rw [if_pos hl] at h; exact absurd h (by decide)
  · rw [if_neg hl] at h; exact ⟨by omega, h⟩
theorem chkMail_lock {l : List Mail} (h : chkMail l = 0) : ∀ m ∈ l, m.lock.length ≤ 12 := chkFrom_lock (chkMail_len h).2
theorem chk1_lock {m : Mail} (h : chk1 m = 0) : m.lock.length ≤ 12 := chkFrom_lock (l := [m]) (by rw [chkFrom, if_pos h]; rfl) m (by simp)
theorem chkFrom_app : ∀ (a b : List Mail), chkFrom (a ++ b) = if chkFrom a = 0 then chkFrom b else chkFrom a
  | [], b => by simp [chkFrom]
  | x :: t, b => by
    rw [List.cons_append, chkFrom, chkFrom, chkFrom_app t b]
    by_cases h : chk1 x = 0
    · rw [if_pos h, if_pos h]
    · rw [if_neg h, if_neg h, if_neg h]
theorem chkMail_app {l : List Mail} {m : Mail} (h : chkMail l = 0) (hm : chk1 m = 0) (hl : l.length < 40) : chkMail (l ++ [m]) = 0 := by
  obtain ⟨_, h2⟩ := chkMail_len h
  unfold chkMail
  rw [if_neg (by simp; omega), chkFrom_app, if_pos h2, chkFrom, if_pos hm]; rfl
end Wy
end Go.Proofs.Ytbdefihgplcdoae
