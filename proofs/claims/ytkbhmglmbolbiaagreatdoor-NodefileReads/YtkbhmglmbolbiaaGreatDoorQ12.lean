/- Own texts, put together: Jrh. -/
import Derived.Test.YtkbhmglmbolbiaaGreatDoorQ9
import Derived.Test.YtkbhmglmbolbiaaGreatDoorQ10
import Derived.Test.YtkbhmglmbolbiaaGreatDoorRows
import Derived.LaidHandle
import Derived.Stop.LaidErr
import Derived.ProofKit
import Derived.LaidMore
import Derived.OpenShut
import Derived.Laws.Cover2
import Derived.Lib.LaidTab
/- What the rows of this seat share: the three tables and the handle that the condition lays, the door's own heap. -/
namespace Go.Proofs.YtkbhmglmbolbiaaGreatDoor
open Go.ChangeShapes Go.WideShapes Go.ChangeAt Go.WideMaps Go.WideElems Go.RowKit
theorem own : ownKnob Tryz.prog.godebug = none := by kernel_rfl
theorem laidOut : laidOutB Tryz.prog = true := by kernel_rfl
abbrev laidTab : List (String × DataW Unit) := [("math/bits.deBruijn32tab", Rows.laid_math_bits_deBruijn32tab), ("math/bits.deBruijn64tab", Rows.laid_math_bits_deBruijn64tab), ("internal/strconv.uint64pow10", Rows.laid_internal_strconv_uint64pow10), ("errors.errorType", Rows.laid_errors_errorType)]
abbrev laidPlain : List (String × DataW Unit) := [("math/bits.deBruijn32tab", Rows.laid_math_bits_deBruijn32tab), ("math/bits.deBruijn64tab", Rows.laid_math_bits_deBruijn64tab), ("internal/strconv.uint64pow10", Rows.laid_internal_strconv_uint64pow10)]
theorem gTab : Tryz.prog.globalNamed "math/bits.deBruijn64tab" = some 3 := by kernel_rfl
theorem tTab : (Tryz.prog.globals[3]?).map (·.type) = some 208 := by kernel_rfl
theorem uTab : Tryz.prog.underlying 208 = some (.array 64 5) := by kernel_rfl
theorem uByte : Tryz.prog.underlying 5 = some (.int .u8) := by kernel_rfl
theorem cByte : Tryz.prog.cellsOf 5 = 1 := by kernel_rfl
theorem cTab : Tryz.prog.cellsOf 208 = 64 := by kernel_rfl
theorem gPow : Tryz.prog.globalNamed "internal/strconv.uint64pow10" = some 4 := by kernel_rfl
theorem tPow : (Tryz.prog.globals[4]?).map (·.type) = some 212 := by kernel_rfl
theorem uPow : Tryz.prog.underlying 212 = some (.array 20 150) := by kernel_rfl
theorem uU64 : Tryz.prog.underlying 150 = some (.int .u64) := by kernel_rfl
theorem cU64 : Tryz.prog.cellsOf 150 = 1 := by kernel_rfl
theorem cPow : Tryz.prog.cellsOf 212 = 20 := by kernel_rfl
theorem door_met (os : Os) (args : Array Value) : laidMetH Tryz.prog laidTab ((World.doorLaid Tryz.prog 400 os).forCall (fun _ _ => 0) ⟨#[], args, []⟩).memory :=
 laidMetH_of_parts3 (fuel := 8) (laidMet_of_run' 8 (by kernel_rfl) (by kernel_rfl)) (by kernel_rfl) (by kernel_rfl)
theorem gEty : Tryz.prog.globalNamed "errors.errorType" = some 0 := by kernel_rfl
theorem rEty : (Tryz.prog.cutTypes.find? (·.1 == "internal/reflectlite.rtype")).map (·.2) = some 166 := by kernel_rfl
theorem oneEty : ((List.range (344 - 100)).filter fun t => Tryz.prog.rowNamed t [101, 114, 114, 111, 114]) = [67] := by kernel_rfl
theorem sizeTy : Tryz.prog.types.size = 344 - 100 := by kernel_rfl
theorem t10_of_laid {W : World} (h : laidMetH Tryz.prog laidTab W) : T8 W ∧ Ety W := by
 have h' : laidMet Tryz.prog laidPlain W ∧ handlesMet Tryz.prog [("errors.errorType", Rows.laid_errors_errorType)] W := h
 obtain ⟨h, hh⟩ := h'
 have h1 := laidMet.tail h
 have h2 := laidMet.tail h1
 have h1' : laidMet Tryz.prog (("math/bits.deBruijn64tab", Lib.tabData .u8 (Lib.deBruijn64tab.map (fun (n : Nat) => (n : Int)))) :: [("internal/strconv.uint64pow10", Rows.laid_internal_strconv_uint64pow10)]) W := h1
 have h2' : laidMet Tryz.prog (("internal/strconv.uint64pow10", Lib.tabData .u64 Lib.pow10Tab) :: []) W := h2
 have hT := Lib.tabIs_of_head gTab tTab uTab uByte cByte cTab h1'
 refine ⟨⟨?_, Lib.tabIs_of_head gPow tPow uPow uU64 cU64 cPow h2'⟩, ?_⟩
 · intro j hj
   have := hT.cell gTab j (by simpa using hj)
   rw [this]
   simp [List.getD, List.getElem?_map]
   cases Lib.deBruijn64tab[j]? <;> simp
 · obtain ⟨name, u, ty, e1, e2, e3, e4, e5⟩ := hh _ (List.mem_singleton.2 rfl)
   have en : name = [101, 114, 114, 111, 114] := (Option.some.inj e1).symm
   subst en
   obtain rfl := Option.some.inj (rEty.symm.trans e2)
   have hm : ty ∈ (List.range (344 - 100)).filter fun t => Tryz.prog.rowNamed t [101, 114, 114, 111, 114] := List.mem_filter.2 ⟨List.mem_range.2 (by rw [← sizeTy]; exact e3), e4⟩
   rw [oneEty] at hm
   obtain rfl := List.mem_singleton.1 hm
   have hh : typeHandle Tryz.prog 67 = .pointer (some ⟨6, 67, none⟩) := by kernel_rfl
   rw [hh] at e5
   unfold Ety
   simpa using World.var?_cell gEty e5 0
end Go.Proofs.YtkbhmglmbolbiaaGreatDoor
