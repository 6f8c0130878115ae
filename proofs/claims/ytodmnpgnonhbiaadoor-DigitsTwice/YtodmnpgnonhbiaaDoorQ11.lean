/- Own texts, put together: Fd Ee Jr. -/
import Derived.Test.YtodmnpgnonhbiaaDoorQ7
import Derived.Test.YtodmnpgnonhbiaaDoorQ8
import Derived.Test.YtodmnpgnonhbiaaDoorQ9
import Derived.Test.YtodmnpgnonhbiaaDoorRows
import Derived.Stop.LaidErr
import Derived.ProofKit
import Derived.LaidMore
import Derived.OpenShut
import Derived.Laws.Cover2
import Derived.Lib.LaidTab
namespace Go.Proofs.YtodmnpgnonhbiaaDoor
/- Floats: Ldexp, on floats that are not below the normal ones. -/
section
open Go.RowKit
set_option maxHeartbeats 1000000 in
theorem Ldexp_of (a b : Nat) (k : Int) (w : World) (hf : ∀ w, Calls Tryd.prog 58 #[.float .f64 a, .int .i64 k] w fun e w' => e = .returned (.float .f64 b) ∧ w' = w) :
   Calls Tryd.prog 42 #[.float .f64 a, .int .i64 k] w fun e w' => e = .returned (.float .f64 b) ∧ w' = w := by
 have HF : Hid _ := hf
 clear hf
 go_enter Tryd.func42, Tryd.ntmps42
 go_wp2_with (first | (go_at_call 58; refine (HF.out _).mono ?_; rintro e w' ⟨rfl, rfl⟩))
 go_ret
 exact ⟨rfl, rfl⟩
end

/- Tame and safe, as the document has them: the two questions. -/
section
open Go.RowKit
end

/- What the rows of this seat share: the three tables that the condition lays, the door's own heap. -/
section
open Go.ChangeShapes Go.WideShapes Go.ChangeAt Go.WideMaps Go.WideElems Go.RowKit
theorem own : ownKnob Tryd.prog.godebug = none := by kernel_rfl
theorem laidOut : laidOutB Tryd.prog = true := by kernel_rfl
abbrev laidTab : List (String × DataW Unit) := [("math/bits.deBruijn32tab", Rows.laid_math_bits_deBruijn32tab), ("math/bits.deBruijn64tab", Rows.laid_math_bits_deBruijn64tab), ("internal/strconv.uint64pow10", Rows.laid_internal_strconv_uint64pow10)]
theorem gTab : Tryd.prog.globalNamed "math/bits.deBruijn64tab" = some 1 := by kernel_rfl
theorem tTab : (Tryd.prog.globals[1]?).map (·.type) = some 81 := by kernel_rfl
theorem uTab : Tryd.prog.underlying 81 = some (.array 64 5) := by kernel_rfl
theorem uByte : Tryd.prog.underlying 5 = some (.int .u8) := by kernel_rfl
theorem cByte : Tryd.prog.cellsOf 5 = 1 := by kernel_rfl
theorem cTab : Tryd.prog.cellsOf 81 = 64 := by kernel_rfl
theorem gPow : Tryd.prog.globalNamed "internal/strconv.uint64pow10" = some 3 := by kernel_rfl
theorem tPow : (Tryd.prog.globals[3]?).map (·.type) = some 93 := by kernel_rfl
theorem uPow : Tryd.prog.underlying 93 = some (.array 20 58) := by kernel_rfl
theorem uU64 : Tryd.prog.underlying 58 = some (.int .u64) := by kernel_rfl
theorem cU64 : Tryd.prog.cellsOf 58 = 1 := by kernel_rfl
theorem cPow : Tryd.prog.cellsOf 93 = 20 := by kernel_rfl
theorem door_met (os : Os) (args : Array Value) : laidMetH Tryd.prog laidTab ((World.doorLaid Tryd.prog 400 os).forCall (fun _ _ => 0) ⟨#[], args, []⟩).memory :=
 laidMetH_of_parts3 (fuel := 8) (laidMet_of_run' 8 (by kernel_rfl) (by kernel_rfl)) (by kernel_rfl) (by kernel_rfl)
theorem t8_of_laid {W : World} (h : laidMetH Tryd.prog laidTab W) : T8 W := by
 rw [MakeChecks.laidMetH_plain _ _ _ (by kernel_rfl)] at h
 have h1 := laidMet.tail h
 have h2 := laidMet.tail h1
 have h1' : laidMet Tryd.prog (("math/bits.deBruijn64tab", Lib.tabData .u8 (Lib.deBruijn64tab.map (fun (n : Nat) => (n : Int)))) :: [("internal/strconv.uint64pow10", Rows.laid_internal_strconv_uint64pow10)]) W := h1
 have h2' : laidMet Tryd.prog (("internal/strconv.uint64pow10", Lib.tabData .u64 Lib.pow10Tab) :: []) W := h2
 have hT := Lib.tabIs_of_head gTab tTab uTab uByte cByte cTab h1'
 refine ⟨?_, Lib.tabIs_of_head gPow tPow uPow uU64 cU64 cPow h2'⟩
 intro j hj
 have := hT.cell gTab j (by simpa using hj)
 rw [this]
 simp [List.getD, List.getElem?_map]
 cases Lib.deBruijn64tab[j]? <;> simp
theorem inR_of {n : Int} (h : (Lit.int .i64 n).wf = true) : InR n := by
 simp only [Lit.wf, Bool.and_eq_true, decide_eq_true_eq] at h
 exact ⟨h.1, h.2⟩
theorem float_of_trod {H : Type} {enc : TypeId × Value → H} {P : Program} {w : World} {base m : Nat} {sp : Nat → Bool} {held : Bool} {e : TypeId} {c : Value} {x : DataW H × List MemPlace}
   (he : P.underlying e = some (.float .f64)) (h : DataW.trod enc P w base sp held m e [c] = some x) : ∃ b, c = .float .f64 b ∧ b < 18446744073709551616 := by
 cases m with
 | zero => simp [DataW.trod] at h
 | succ m =>
   unfold DataW.trod at h
   rw [he] at h
   cases c with
   | float k b =>
     simp only [] at h
     split at h
     · rename_i hk
       obtain ⟨rfl, hw⟩ := hk
       exact ⟨b, rfl, by simpa [Lit.wf, FloatKind.has] using hw⟩
     · cases h
   | _ => simp at h
end
end Go.Proofs.YtodmnpgnonhbiaaDoor
