/- Own texts, put together: Jr. -/
import Derived.Test.YtgoadpnoagaflaaDoorQ8
import Derived.Test.YtgoadpnoagaflaaDoorRows
import Derived.Stop.LaidErr
import Derived.ProofKit
import Derived.LaidMore
import Derived.OpenShut
import Derived.Laws.Cover2
import Derived.Lib.LaidTab
/- What the rows of this seat share: the three tables that the condition lays, the door's own heap. -/
namespace Go.Proofs.YtgoadpnoagaflaaDoor
open Go.ChangeShapes Go.WideShapes Go.ChangeAt Go.WideMaps Go.WideElems Go.RowKit
theorem own : ownKnob Tryd.prog.godebug = none := by kernel_rfl
theorem laidOut : laidOutB Tryd.prog = true := by kernel_rfl
abbrev laidTab : List (String × DataW Unit) := [("math/bits.deBruijn32tab", Rows.laid_math_bits_deBruijn32tab), ("math/bits.deBruijn64tab", Rows.laid_math_bits_deBruijn64tab), ("internal/strconv.uint64pow10", Rows.laid_internal_strconv_uint64pow10)]
theorem gTab : Tryd.prog.globalNamed "math/bits.deBruijn64tab" = some 2 := by kernel_rfl
theorem tTab : (Tryd.prog.globals[2]?).map (·.type) = some 163 := by kernel_rfl
theorem uTab : Tryd.prog.underlying 163 = some (.array 64 5) := by kernel_rfl
theorem uByte : Tryd.prog.underlying 5 = some (.int .u8) := by kernel_rfl
theorem cByte : Tryd.prog.cellsOf 5 = 1 := by kernel_rfl
theorem cTab : Tryd.prog.cellsOf 163 = 64 := by kernel_rfl
theorem gPow : Tryd.prog.globalNamed "internal/strconv.uint64pow10" = some 3 := by kernel_rfl
theorem tPow : (Tryd.prog.globals[3]?).map (·.type) = some 169 := by kernel_rfl
theorem uPow : Tryd.prog.underlying 169 = some (.array 20 60) := by kernel_rfl
theorem uU64 : Tryd.prog.underlying 60 = some (.int .u64) := by kernel_rfl
theorem cU64 : Tryd.prog.cellsOf 60 = 1 := by kernel_rfl
theorem cPow : Tryd.prog.cellsOf 169 = 20 := by kernel_rfl
theorem door_met (os : Os) (args : Array Value) : laidMetH Tryd.prog laidTab ((World.doorLaid Tryd.prog 400 os).forCall (fun _ _ => 0) ⟨#[], args, []⟩).memory :=
 laidMetH_of_parts3 (fuel := 8) (laidMet_of_run' 8 (by kernel_rfl) (by kernel_rfl)) (by kernel_rfl) (by kernel_rfl)
theorem t8_of_laid {W : World} (h : laidMetH Tryd.prog laidTab W) : T8 W := by
 rw [MakeChecks.laidMetH_plain _ _ _ (by kernel_rfl)] at h
 have h1 := laidMet.tail h
 have h2 := laidMet.tail h1
 have h1' : laidMet Tryd.prog (("math/bits.deBruijn64tab", Lib.tabData .u8 (Lib.deBruijn64tab.map (fun (n : Nat) => (n : Int)))) :: [("internal/strconv.uint64pow10", Rows.laid_internal_strconv_uint64pow10)]) W := h1
 have h2' : laidMet Tryd.prog (("internal/strconv.uint64pow10", Lib.tabData .u64 Lib.pow10Tab) :: []) W := h2
 have hT := Lib.tabIs_of_head gTab tTab uTab uByte cByte cTab h1'
 refine ⟨?_, Lib.tabIs_of_head gPow tPow uPow uU64 cU64 cPow h2'⟩
 intro j hj
 have := hT.cell gTab j (by simpa using hj)
 rw [this]
 simp [List.getD, List.getElem?_map]
 cases Lib.deBruijn64tab[j]? <;> simp
end Go.Proofs.YtgoadpnoagaflaaDoor
