/- Own texts, put together: Ra. -/
import Derived.Test.YtfcgndgmbmkdgaaDoorQ2
import Derived.Test.YtfcgndgmbmkdgaaDoorQ14
import Derived.Test.YtfcgndgmbmkdgaaDoorRows
import Derived.ProofKit
import Derived.LaidMore
import Derived.OpenShut
import Derived.Laws.Cover2
import Derived.Lib.LaidTab
/- What the rows of this seat share: the table that the condition lays, the door's own heap, floats that came in an array. -/
namespace Go.Proofs.YtfcgndgmbmkdgaaDoor
open Go.ChangeShapes Go.WideShapes Go.ChangeAt Go.WideMaps Go.WideElems Go.RowKit

theorem own : ownKnob Tryd.prog.godebug = none := by kernel_rfl
theorem laidOut : laidOutB Tryd.prog = true := by kernel_rfl
abbrev laidTab : List (String × DataW Unit) := [("math/bits.deBruijn64tab", Rows.laid_math_bits_deBruijn64tab)]
theorem gTab : Tryd.prog.globalNamed "math/bits.deBruijn64tab" = some 1 := by kernel_rfl
theorem tTab : (Tryd.prog.globals[1]?).map (·.type) = some 85 := by kernel_rfl
theorem uTab : Tryd.prog.underlying 85 = some (.array 64 5) := by kernel_rfl
theorem uByte : Tryd.prog.underlying 5 = some (.int .u8) := by kernel_rfl
theorem cByte : Tryd.prog.cellsOf 5 = 1 := by kernel_rfl
theorem cTab : Tryd.prog.cellsOf 85 = 64 := by kernel_rfl

/-- The door's own heap meets the condition. -/
theorem door_met (os : Os) (args : Array Value) : laidMetH Tryd.prog laidTab ((World.doorLaid Tryd.prog 400 os).forCall (fun _ _ => 0) ⟨#[], args, []⟩).memory :=
  laidMetH_of_parts3 (fuel := 8) (laidMet_of_run' 8 (by kernel_rfl) (by kernel_rfl)) (by kernel_rfl) (by kernel_rfl)

/-- What the condition gives the walks. -/
theorem tab_of_laid {W : World} (h : laidMetH Tryd.prog laidTab W) : Tab W := by
  rw [MakeChecks.laidMetH_plain _ _ _ (by kernel_rfl)] at h
  have h' : laidMet Tryd.prog (("math/bits.deBruijn64tab", Lib.tabData .u8 (Lib.deBruijn64tab.map (fun (n : Nat) => (n : Int)))) :: []) W := h
  have hT := Lib.tabIs_of_head gTab tTab uTab uByte cByte cTab h'
  intro j hj
  have := hT.cell gTab j (by simpa using hj)
  rw [this]
  simp [List.getD, List.getElem?_map]
  cases Lib.deBruijn64tab[j]? <;> simp

theorem floats_list : ∀ (l : List Value), (∀ i, i < l.length → ∃ b, l[i]? = some (.float .f64 b) ∧ b < 18446744073709551616) → ∃ bs : List Nat, l = bs.map (Value.float .f64 ·) ∧ ∀ b ∈ bs, b < 18446744073709551616
  | [], _ => ⟨[], rfl, by simp⟩
  | c :: l, h => by
    obtain ⟨bs, rfl, hb⟩ := floats_list l (fun i hi => by simpa using h (i + 1) (by simpa using hi))
    obtain ⟨b, e, hb'⟩ := h 0 (by simp)
    simp at e
    exact ⟨b :: bs, by simp [e], by simpa using ⟨hb', hb⟩⟩

theorem float_of_trod {H : Type} {enc : TypeId × Value → H} {P : Program} {w : World} {base m : Nat} {sp : Nat → Bool} {held : Bool} {e : TypeId} {c : Value} {x : DataW H × List MemPlace}
    (he : P.underlying e = some (.float .f64)) (h : DataW.trod enc P w base sp held m e [c] = some x) : ∃ b, c = .float .f64 b ∧ b < 18446744073709551616 := by
  cases m with
  | zero => simp [DataW.trod] at h
  | succ m =>
    unfold DataW.trod at h
    rw [he] at h
    cases c with
    | float k b =>
      simp only [] at h
      split at h
      · rename_i hk
        obtain ⟨rfl, hw⟩ := hk
        exact ⟨b, rfl, by simpa [Lit.wf, FloatKind.has] using hw⟩
      · cases h
    | _ => simp at h

theorem open_floats {H : Type} {enc : TypeId × Value → H} {P : Program} {w : World} {base b0 : Nat} {sp : Nat → Bool} {held : Bool} {r : Reach} {t e : TypeId} {n : Nat} {v : Value} {d : DataW H} {ps : List MemPlace}
    (ht : P.underlying t = some (.array n e)) (he : P.underlying e = some (.float .f64)) (hce : P.cellsOf e = 1) (hct : P.cellsOf t = n)
    (hval : Value.okWide P w r b0 t v) (hd : DataW.Trod enc P w base sp held t v d ps) :
    ∃ bs : List Nat, bs.length = n ∧ v = .agg (bs.map (Value.float .f64 ·)).toArray ∧ ∀ b ∈ bs, b < 18446744073709551616 := by
  simp only [Value.okWide, ht] at hval
  obtain ⟨cs, rfl, hsz, _⟩ := hval
  obtain ⟨fuel, hf⟩ := hd
  obtain ⟨xs, m, rfl, _, hl, hxs, hel⟩ := DataW.trod_array ht hf
  rw [hct] at hl
  have hl' : cs.toList.length = n := by simpa [Value.cells] using hl
  obtain ⟨bs, hbs, hlt⟩ := floats_list cs.toList (fun i hi => by
    have h := hel i (by omega)
    rw [hce, Nat.mul_one] at h
    have hx : ∃ x, xs[i]? = some x := ⟨xs[i]'(by omega), List.getElem?_eq_getElem _⟩
    obtain ⟨x, hx⟩ := hx
    rw [hx] at h
    have e1 : ((Value.agg cs).cells.toList.drop i).take 1 = [cs.toList[i]'hi] := by
      show (cs.toList.drop i).take 1 = _
      rw [List.drop_eq_getElem_cons hi]; rfl
    rw [e1] at h
    obtain ⟨b, e, hb⟩ := float_of_trod he h
    exact ⟨b, by rw [List.getElem?_eq_getElem hi, e], hb⟩)
  exact ⟨bs, by rw [← hl', hbs]; simp, by rw [← hbs], hlt⟩
end Go.Proofs.YtfcgndgmbmkdgaaDoor
