/- The contract of the law's 'at': a place among so many. -/
import Derived.Test.YtmlhipdfjnamiaaGreatProg
import Derived.WalkKit
import Derived.WalkLawsBesides
import Derived.WalkSpells
import Derived.Outline
namespace Go.Proofs.YtmlhipdfjnamiaaGreat
open Go.RowKit
theorem tmod_range (k : Int) {n : Int} (h : 0 < n) : -n < k.tmod n ∧ k.tmod n < n := ⟨Int.lt_tmod_of_pos k h, Int.tmod_lt_of_pos k h⟩
end Go.Proofs.YtmlhipdfjnamiaaGreat
