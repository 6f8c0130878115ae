/- Own texts, put together: M M2 M3. -/
import Derived.Laws.BitsAllLaws
namespace Go.Proofs.YtgfloegaoofbbaaDoor
/- Plain facts on words of 64 bits: the number that a list of words tells, its windows, and how they come of the words. -/
section
def val : List Nat → Nat
 | [] => 0
 | n :: r => n + 18446744073709551616 * val r
def Small (ns : List Nat) : Prop := ∀ n, n ∈ ns → n < 18446744073709551616
end

/- Plain facts: the words of a number, cut out at a bit; a magnitude in its own form. -/
section
end

/- Plain facts: two magnitudes brought to one lowest bit. -/
section
end
end Go.Proofs.YtgfloegaoofbbaaDoor
