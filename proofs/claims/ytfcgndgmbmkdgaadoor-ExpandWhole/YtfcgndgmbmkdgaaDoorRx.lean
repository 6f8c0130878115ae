/- Proved: ExpandWhole. Whatever six floats are handed in, the law returns true, and the array reads behind the call as it read before; the one listed variable (math/bits.deBruijn64tab) is tied to the program's text. No condition beside it. -/
import Derived.Test.YtfcgndgmbmkdgaaDoorQ14
import Derived.Test.YtfcgndgmbmkdgaaDoorQ15
import Derived.Test.YtfcgndgmbmkdgaaDoorTie
import Derived.Test.YtfcgndgmbmkdgaaDoorCards
import Derived.Below
import Derived.ChangeOld
import Derived.Stop.Joined
import Derived.SevenTiedAt
namespace Go.Proofs.YtfcgndgmbmkdgaaDoor
open Go.ChangeShapes Go.WideShapes Go.ChangeAt Go.WideMaps Go.WideElems Go.RowKit

namespace WholeRow
theorem uArr : Tryd.prog.underlying 23 = some (.array 6 22) := by kernel_rfl
theorem uFloat : Tryd.prog.underlying 22 = some (.float .f64) := by kernel_rfl
theorem uBool : Tryd.prog.underlying 4 = some .bool := by kernel_rfl
theorem cFloat : Tryd.prog.cellsOf 22 = 1 := by kernel_rfl
theorem cArr : Tryd.prog.cellsOf 23 = 6 := by kernel_rfl

theorem six {α : Type} : ∀ (l : List α), l.length = 6 → ∃ a b c d e f, l = [a, b, c, d, e, f]
  | [a, b, c, d, e, f], _ => ⟨a, b, c, d, e, f, rfl⟩
theorem at6_lt {f0 f1 f2 f3 f4 f5 : Nat} (h : ∀ b ∈ [f0, f1, f2, f3, f4, f5], b < 18446744073709551616) (k : Nat) : at6 f0 f1 f2 f3 f4 f5 k < 18446744073709551616 := by
  unfold at6
  repeat' split
  all_goals exact h _ (by simp)

set_option maxRecDepth 100000 in
theorem lifted (os : Os) (started : os.Started) (H : Type) (enc : TypeId × Value → H) :
    ReturnsInHanded {} Tryd.checked os 3 .any (fun w args => (Rows.expandWholeSpec.pre enc Tryd.prog Tryd.f3 [] false w args ∧ laidMetH Tryd.prog laidTab w) ∧ sizedMet enc Tryd.prog Tryd.f3 (OpenSpec.ofChange Rows.expandWholeSpec) false w args)
      (Rows.expandWholeSpec.post enc Tryd.prog Tryd.f3 false true false false) := by
  refine returnsInHanded_of_change_and (C := Tryd.checked) (X := fun w _ => laidMetH Tryd.prog laidTab w) (fun _ _ _ hh h => h.of_heap hh) own started (by kernel_rfl) Tryd.func3
    (ChangeSpec.witness_shaped (enc := enc) (C := Tryd.checked) (os := os) (X := fun w _ => laidMetH Tryd.prog laidTab w) false (World.doorLaid Tryd.prog 400 os) #[.agg #[.float .f64 0, .float .f64 0, .float .f64 0, .float .f64 0, .float .f64 0, .float .f64 0]] 8 rfl (World.shaped_of_RefB (by kernel_rfl) (by kernel_rfl)) (by kernel_rfl) (by kernel_rfl) (by kernel_rfl) (door_met os _)) ?_
  intro W base args ds gs before hval0 hW _ _ hL _
  have hval : ∀ (j : Nat) t v, Tryd.f3.params[j]? = some t → args[j]? = some v → Value.okWide Tryd.prog W .any base t v := hval0
  have hW' := hW
  obtain ⟨p, q, hA0, hV, rfl, hfz, hnd⟩ := hW
  have hA : DataW.TrodAll enc Tryd.prog W 0 (fun _ => true) true Tryd.f3.params.toList args.toList ds p := hA0
  rw [Tryd.params3] at hA hval
  obtain ⟨v0, d0, rfl, rfl, h0⟩ := trodAll_one hA
  obtain ⟨rfl, rfl⟩ := trodVars_none hV
  have k0 := h0
  have lt0 : ∀ x ∈ p, x.block < W.heap.size := by obtain ⟨m, hm⟩ := k0; exact DataW.trod_lt m _ _ _ hm
  obtain ⟨bs, hlen, rfl, hlt⟩ := open_floats uArr uFloat cFloat cArr (hval 0 23 v0 rfl rfl) h0
  obtain ⟨f0, f1, f2, f3, f4, f5, rfl⟩ := six bs hlen
  clear hA0 hval0
  refine (ewhole_law f0 f1 f2 f3 f4 f5 W (tab_of_laid hL) (at6_lt hlt)).mono fun e W' ⟨he, bel⟩ => ?_
  subst he
  exact ⟨_, rfl, _, _, _, [], _, [], hW', trodAll_mk1 (shut_bool uBool _), (trodAll_mk1 (Below.trod laidOut (by kernel_rfl) (of_decide_eq_true (by kernel_rfl)) k0 bel lt0)), rfl, bel.frame _, fun h => by cases h⟩

theorem row_holds : Rows.ExpandWholeSaid :=
  OpenClaim.holds_of_wide 3 Tryd.f3 rfl rfl rfl rfl rfl rfl rfl ⟨rfl, rfl, rfl, rfl, rfl⟩ rfl rfl rfl rfl rfl (by kernel_rfl) Tryd.func3 (by kernel_rfl)
    (of_decide_eq_true (by kernel_rfl)) (by unfold Func.isWrapper; first | (rw [if_pos (by decide +kernel)]; kernel_rfl) | (rw [if_neg (by decide +kernel)]; exact ⟨rfl, rfl⟩))
    (fun os started H enc _ => lifted os started H enc)
end WholeRow

/-- The tied card. -/
theorem ewhole_card : Rows.ExpandWholeCardSaid :=
  Claim7.holds_tied_plain_at .later [] [.data] true Rows.expandWholeCard.stood.harness false
    WholeRow.row_holds (fun _ h => by cases h) (by kernel_rfl) (fun _ h => by cases h) expandWhole_row_tie rfl ⟨rfl, rfl⟩ (by kernel_rfl) rfl
    (fun f fn hf hfn => by
      obtain rfl : f = 3 := Option.some.inj ((show Tryd.prog.funcNamed "trivet/trivetlaw03.ExpandWhole" = some 3 by kernel_rfl).symm.trans hf) |>.symm
      obtain rfl : fn = Tryd.f3 := (Option.some.inj (Tryd.func3.symm.trans hfn)).symm
      exact ⟨by kernel_rfl, fun j t ht => by
        rw [Tryd.params3] at ht
        have hm : t ∈ [23] := by simpa using Array.mem_of_getElem? ht
        have hall : ([23].all fun u => !Tryd.prog.wantsStandIn u) = true := by kernel_rfl
        exact (show Tryd.prog.wantsStandIn t = false by simpa using List.all_eq_true.1 hall t hm)⟩)
    (by kernel_rfl)
#print axioms ewhole_card
end Go.Proofs.YtfcgndgmbmkdgaaDoor
