/- Proved: trivetlaw05.CircleKnows answers true for every eight whole numbers: of points of small whole coordinates that do not lie on one circle it is known soon. No condition. -/
import Derived.Test.YtghchejehlljkaaRows
import Derived.Test.YtghchejehlljkaaP20
import Derived.ProofKit
import Derived.OpenShut
import Derived.Laws.Cover2
import Derived.ChangeOld
import Derived.Below
import Derived.Carry
import Derived.Lib.SmallJoins
namespace Go.Proofs.Ytghchejehlljkaa
open Go.ChangeShapes Go.WideShapes Go.ChangeAt Go.RowKit Go.Joins Go.Deep

namespace CircleKnowsRow
theorem own : ownKnob Try.prog.godebug = none := by kernel_rfl
theorem laidOut : laidOutB Try.prog = true := by kernel_rfl
theorem uInt : Try.prog.underlying 3 = some (.int .i64) := by kernel_rfl
theorem uArr : Try.prog.underlying 34 = some (.array 8 3) := by kernel_rfl
theorem uBool : Try.prog.underlying 4 = some .bool := by kernel_rfl
theorem cInt : Try.prog.cellsOf 3 = 1 := by kernel_rfl
theorem cArr : Try.prog.cellsOf 34 = 8 := by kernel_rfl
theorem int_of_trod {H : Type} {enc : TypeId × Value → H} {P : Program} {w : World} {base m : Nat} {sp : Nat → Bool} {held : Bool} {e : TypeId} {c : Value} {x : DataW H × List MemPlace}
    (he : P.underlying e = some (.int .i64)) (h : DataW.trod enc P w base sp held m e [c] = some x) : ∃ b, c = .int .i64 b := by
  cases m with
  | zero => simp [DataW.trod] at h
  | succ m =>
    unfold DataW.trod at h
    rw [he] at h
    cases c with
    | int k b =>
      simp only [] at h
      split at h
      · rename_i hk
        obtain ⟨rfl, hw⟩ := hk
        exact ⟨b, rfl⟩
      · cases h
    | _ => simp at h
set_option maxRecDepth 100000 in
theorem open_ints {H : Type} {enc : TypeId × Value → H} {W : World} {b0 : Nat} {r : Reach} {v : Value} {d : DataW H} {ps : List MemPlace} (hval : Value.okWide Try.prog W r b0 34 v) (hd : DataW.Trod enc Try.prog W 0 (fun _ => true) true 34 v d ps) :
    ∃ n0 n1 n2 n3 n4 n5 n6 n7, v = .agg #[.int .i64 n0, .int .i64 n1, .int .i64 n2, .int .i64 n3, .int .i64 n4, .int .i64 n5, .int .i64 n6, .int .i64 n7] := by
  simp only [Value.okWide, uArr] at hval
  obtain ⟨cs, rfl, hsz, _⟩ := hval
  obtain ⟨fuel, hf⟩ := hd
  obtain ⟨xs, m, rfl, _, hl, hxs, hel⟩ := DataW.trod_array uArr hf
  rw [cArr] at hl
  have hl' : cs.toList.length = 8 := by simpa [Value.cells] using hl
  have key : ∀ i (hi : i < cs.toList.length), ∃ b, cs.toList[i] = .int .i64 b := fun i hi => by
    have h := hel i (by omega)
    rw [cInt, Nat.mul_one] at h
    obtain ⟨x, hx⟩ : ∃ x, xs[i]? = some x := ⟨xs[i]'(by omega), List.getElem?_eq_getElem _⟩
    rw [hx] at h
    have e1 : ((Value.agg cs).cells.toList.drop i).take 1 = [cs.toList[i]'hi] := by
      show (cs.toList.drop i).take 1 = _
      rw [List.drop_eq_getElem_cons hi]; rfl
    rw [e1] at h
    exact int_of_trod uInt h
  obtain ⟨l⟩ := cs
  have hl2 : l.length = 8 := hl'
  match l, hl2, key with
  | [c0, c1, c2, c3, c4, c5, c6, c7], _, key =>
    obtain ⟨n0, e0⟩ := key 0 (by simp)
    obtain ⟨n1, e1⟩ := key 1 (by simp)
    obtain ⟨n2, e2⟩ := key 2 (by simp)
    obtain ⟨n3, e3⟩ := key 3 (by simp)
    obtain ⟨n4, e4⟩ := key 4 (by simp)
    obtain ⟨n5, e5⟩ := key 5 (by simp)
    obtain ⟨n6, e6⟩ := key 6 (by simp)
    obtain ⟨n7, e7⟩ := key 7 (by simp)
    simp at e0 e1 e2 e3 e4 e5 e6 e7
    exact ⟨n0, n1, n2, n3, n4, n5, n6, n7, by rw [e0, e1, e2, e3, e4, e5, e6, e7]⟩

set_option maxRecDepth 100000 in
theorem lifted (os : Os) (started : os.Started) (H : Type) (enc : TypeId × Value → H) :
    ReturnsInHanded {} Try.checked os 5 .any (Rows.circleKnowsSpec.pre6 enc Try.prog Try.f5 Rows.circleKnowsRow.domain false) (Rows.circleKnowsSpec.post enc Try.prog Try.f5 false true false false) := by
  refine returnsInHanded_of_change (C := Try.checked) own started (by kernel_rfl) Try.func5
    (ChangeSpec.witness6 (enc := enc) (C := Try.checked) false ⟨#[], #[.agg #[.int .i64 0, .int .i64 0, .int .i64 0, .int .i64 0, .int .i64 0, .int .i64 0, .int .i64 0, .int .i64 0]], []⟩ 8 (by kernel_rfl) (by kernel_rfl) (by kernel_rfl) (by kernel_rfl)) ?_
  intro W base args ds gs before hval0 hW _ _
  have hval : ∀ (j : Nat) t v, Try.f5.params[j]? = some t → args[j]? = some v → Value.okWide Try.prog W .any base t v := hval0
  have hW' := hW
  obtain ⟨p, q, hA0, hV, rfl, hfz, hnd⟩ := hW
  have hA : DataW.TrodAll enc Try.prog W 0 (fun _ => true) true Try.f5.params.toList args.toList ds p := hA0
  rw [Try.params5] at hA hval
  obtain ⟨v0, d0, rfl, rfl, h0⟩ := trodAll_one hA
  obtain ⟨rfl, rfl⟩ := trodVars_none hV
  have lt0 : ∀ x ∈ p, x.block < W.heap.size := by obtain ⟨m, hm⟩ := h0; exact DataW.trod_lt m _ _ _ hm
  obtain ⟨n0, n1, n2, n3, n4, n5, n6, n7, rfl⟩ := open_ints (hval 0 34 v0 rfl rfl) h0
  clear hA0 hval0
  refine (cknows_law n0 n1 n2 n3 n4 n5 n6 n7 W).mono fun e W' ⟨he, bel⟩ => ?_
  subst he
  exact ⟨_, rfl, _, _, _, [], _, [], hW', trodAll_mk1 (shut_bool uBool _), (trodAll_mk1 (Below.trod laidOut (by kernel_rfl) (of_decide_eq_true (by kernel_rfl)) h0 bel lt0)), rfl, bel.frame _, fun h => by cases h⟩
end CircleKnowsRow

theorem cknows_holds : Rows.CircleKnowsSaid :=
  OpenClaim.holds_of_wide 5 Try.f5 rfl rfl rfl rfl rfl rfl rfl ⟨rfl, rfl, rfl, rfl, rfl⟩ rfl rfl rfl rfl rfl (by kernel_rfl) Try.func5 (by kernel_rfl)
    (of_decide_eq_true (by kernel_rfl)) (by unfold Func.isWrapper; first | (rw [if_pos (by decide +kernel)]; kernel_rfl) | (rw [if_neg (by decide +kernel)]; exact ⟨rfl, rfl⟩))
    (fun os started H enc _ => CircleKnowsRow.lifted os started H enc)
#print axioms cknows_holds
end Go.Proofs.Ytghchejehlljkaa
