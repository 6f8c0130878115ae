/- Own texts, put together: M. -/
import Derived.Laws.BitsAllLaws
/- Plain facts on words of 64 bits: the number that a list of words tells, its windows, and how they come of the words. -/
namespace Go.Proofs.YtcgbnjoajieggaaGreat
def val : List Nat → Nat
 | [] => 0
 | n :: r => n + 18446744073709551616 * val r
def Small (ns : List Nat) : Prop := ∀ n, n ∈ ns → n < 18446744073709551616
end Go.Proofs.YtcgbnjoajieggaaGreat
