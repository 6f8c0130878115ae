import Derived.Test.YtcgbnjoajieggaaGreatQ33
import Derived.Test.YtcgbnjoajieggaaGreatMcb
import Derived.Test.YtcgbnjoajieggaaGreatRows
import Derived.ProofKit
import Derived.OpenShut
import Derived.Laws.Cover2
import Derived.ChangeOld
import Derived.Below
import Derived.Carry
import Derived.Lib.SmallJoins
import Derived.Deep.Slices
/- Proved: MeshCounted: whatever points and triangles are handed in, the law returns true: three times the triangles are twice the edges less the border edges, the border comes to each point as often as it leaves it, each triangle is told by each of its edges, and all are told in order. No condition beside it. -/
namespace Go.Proofs.YtcgbnjoajieggaaGreat
open Go.ChangeShapes Go.WideShapes Go.ChangeAt Go.RowKit Go.Joins Go.Deep
namespace MeshCountedRow
theorem own : ownKnob Tryz.prog.godebug = none := by kernel_rfl
theorem laidOut : laidOutB Tryz.prog = true := by kernel_rfl
theorem uInt : Tryz.prog.underlying 3 = some (.int .i64) := by kernel_rfl
theorem uTri : Tryz.prog.underlying 30 = some (.array 3 3) := by kernel_rfl
theorem uTris : Tryz.prog.underlying 31 = some (.slice 30) := by kernel_rfl
theorem uBool : Tryz.prog.underlying 4 = some .bool := by kernel_rfl
theorem cInt : Tryz.prog.cellsOf 3 = 1 := by kernel_rfl
theorem cTri : Tryz.prog.cellsOf 30 = 3 := by kernel_rfl
theorem int_of_trod {H : Type} {enc : TypeId × Value → H} {P : Program} {w : World} {base m : Nat} {sp : Nat → Bool} {held : Bool} {e : TypeId} {c : Value} {x : DataW H × List MemPlace}
    (he : P.underlying e = some (.int .i64)) (h : DataW.trod enc P w base sp held m e [c] = some x) : ∃ b, c = .int .i64 b := by
  cases m with
  | zero => simp [DataW.trod] at h
  | succ m =>
    unfold DataW.trod at h
    rw [he] at h
    cases c with
    | int k b =>
      simp only [] at h
      split at h
      · rename_i hk
        obtain ⟨rfl, hw⟩ := hk
        exact ⟨b, rfl⟩
      · cases h
    | _ => simp at h
set_option maxRecDepth 100000 in
theorem tri_cells {H : Type} {enc : TypeId × Value → H} {w : World} {base fuel : Nat} {sp : Nat → Bool} {held : Bool} {cs : List Value} {x : DataW H × List MemPlace} (hf : DataW.trod enc Tryz.prog w base sp held fuel 30 cs = some x) :
    ∃ n0 n1 n2, cs = [.int .i64 n0, .int .i64 n1, .int .i64 n2] := by
  obtain ⟨xs, m, rfl, _, hl, hxs, hel⟩ := DataW.trod_array uTri hf
  rw [cTri] at hl
  have key : ∀ i (hi : i < cs.length), ∃ b, cs[i] = .int .i64 b := fun i hi => by
    have h := hel i (by omega)
    rw [cInt, Nat.mul_one] at h
    obtain ⟨x, hx⟩ : ∃ x, xs[i]? = some x := ⟨xs[i]'(by omega), List.getElem?_eq_getElem _⟩
    rw [hx] at h
    have e1 : (cs.drop i).take 1 = [cs[i]'hi] := by rw [List.drop_eq_getElem_cons hi]; rfl
    rw [e1] at h
    exact int_of_trod uInt h
  match cs, hl, key with
  | [c0, c1, c2], _, key =>
    obtain ⟨n0, e0⟩ := key 0 (by simp)
    obtain ⟨n1, e1⟩ := key 1 (by simp)
    obtain ⟨n2, e2⟩ := key 2 (by simp)
    simp at e0 e1 e2
    exact ⟨n0, n1, n2, by rw [e0, e1, e2]⟩
set_option maxRecDepth 100000 in
theorem open_ts {H : Type} {enc : TypeId × Value → H} {W : World} {b0 : Nat} {r : Reach} {v : Value} {d : DataW H} {ps : List MemPlace} (hval : Value.okWide Tryz.prog W r b0 31 v) (h : DataW.Trod enc Tryz.prog W 0 (fun _ => true) true 31 v d ps) :
    ∃ m t, TsP W v m t := by
  obtain ⟨a, len, cap, rfl⟩ := okWide_slice uTris hval
  obtain ⟨fuel, hf⟩ := h
  rcases open_slice uTris hf with ⟨hcs, _⟩ | ⟨a', len', cap', m, n, D, Pl, hcs, _, hl, hm, hmm, _, hx⟩
  · simp [Value.cells] at hcs
    obtain ⟨rfl, rfl, rfl⟩ := hcs
    exact ⟨0, fun _ => (0, 0, 0), none, 0, rfl, Or.inl rfl⟩
  · simp [Value.cells] at hcs
    obtain ⟨rfl, rfl, rfl⟩ := hcs
    simp only [if_true] at hmm
    rw [cTri] at hx
    have key : ∀ i, i < len → ∃ p : Int × Int × Int, W.cell? (a'.add (i * 3)) = some (.int .i64 p.1) ∧ W.cell? (a'.add (i * 3 + 1)) = some (.int .i64 p.2.1) ∧ W.cell? (a'.add (i * 3 + 2)) = some (.int .i64 p.2.2) := fun i hi => by
      obtain ⟨cs', h1, h2⟩ := hx i (by omega)
      obtain ⟨n0, n1, n2, rfl⟩ := tri_cells h2
      obtain ⟨_, _, h4⟩ := World.cells?_some h1
      have e0 := h4 0 (by omega)
      have e1 := h4 1 (by omega)
      have e2 := h4 2 (by omega)
      rw [Addr.add_add] at e0 e1 e2
      exact ⟨(n0, n1, n2), e0, e1, e2⟩
    obtain ⟨q, hq⟩ := choose_lt key
    refine ⟨len, q, some a', cap, rfl, ?_⟩
    by_cases h0 : len = 0
    · exact Or.inl h0
    · right
      obtain ⟨b, off, spot⟩ := a'
      have hspot : spot = none := by simpa [Addr.add] using World.cell?_spot (hq 0 (by omega)).1
      subst hspot
      refine ⟨b, off, rfl, World.block_lt_of_cell? _ _ (hq 0 (by omega)).1, fun k hk => ?_⟩
      obtain ⟨e1, e2, e3⟩ := hq k hk
      rw [Addr.add_lit] at e1 e2 e3
      exact ⟨e1, by rw [Nat.add_assoc]; exact e2, by rw [Nat.add_assoc]; exact e3⟩
set_option maxRecDepth 100000 in
theorem lifted (os : Os) (started : os.Started) (H : Type) (enc : TypeId × Value → H) :
    ReturnsInHanded {} Tryz.checked os 7 .any (Rows.meshCountedSpec.pre6 enc Tryz.prog Tryz.f7 Rows.meshCountedRow.domain false) (Rows.meshCountedSpec.post enc Tryz.prog Tryz.f7 false true false false) := by
  refine returnsInHanded_of_change (C := Tryz.checked) own started (by kernel_rfl) Tryz.func7
    (ChangeSpec.witness6 (enc := enc) (C := Tryz.checked) false ⟨#[], #[.slice none 0 0, .slice none 0 0], []⟩ 8 (by kernel_rfl) (by kernel_rfl) (by kernel_rfl) (by kernel_rfl)) ?_
  intro W base args ds gs before hval0 hW _ _
  have hval : ∀ (j : Nat) t v, Tryz.f7.params[j]? = some t → args[j]? = some v → Value.okWide Tryz.prog W .any base t v := hval0
  have hW' := hW
  obtain ⟨p, q, hA0, hV, rfl, hfz, hnd⟩ := hW
  have hA : DataW.TrodAll enc Tryz.prog W 0 (fun _ => true) true Tryz.f7.params.toList args.toList ds p := hA0
  rw [Tryz.params7] at hA hval
  obtain ⟨v0, v1, d0, d1, p0, p1, rfl, rfl, rfl, h0, h1⟩ := trodAll_two hA
  obtain ⟨rfl, rfl⟩ := trodVars_none hV
  have lt0 : ∀ x ∈ p0, x.block < W.heap.size := by obtain ⟨m, hm⟩ := h0; exact DataW.trod_lt m _ _ _ hm
  have lt1 : ∀ x ∈ p1, x.block < W.heap.size := by obtain ⟨m, hm⟩ := h1; exact DataW.trod_lt m _ _ _ hm
  obtain ⟨n, f, f0⟩ := open_ps (hval 0 27 v0 rfl rfl) h0
  obtain ⟨m, t, f1⟩ := open_ts (hval 1 31 v1 rfl rfl) h1
  clear hA0 hval0
  refine (counted_law v0 v1 n m f t W f0 f1).mono fun e W' ⟨he, bel⟩ => ?_
  subst he
  exact ⟨_, rfl, _, _, _, [], _, [], hW', trodAll_mk1 (shut_bool uBool _), (trodAll_mk2 (Below.trod laidOut (by kernel_rfl) (of_decide_eq_true (by kernel_rfl)) h0 bel lt0) (Below.trod laidOut (by kernel_rfl) (of_decide_eq_true (by kernel_rfl)) h1 bel lt1)), rfl, bel.frame _, fun h => by cases h⟩
end MeshCountedRow
theorem meshCounted_proved : Rows.MeshCountedSaid :=
  OpenClaim.holds_of_wide 7 Tryz.f7 rfl rfl rfl rfl rfl rfl rfl ⟨rfl, rfl, rfl, rfl, rfl⟩ rfl rfl rfl rfl rfl (by kernel_rfl) Tryz.func7 (by kernel_rfl)
    (of_decide_eq_true (by kernel_rfl)) (by unfold Func.isWrapper; first | (rw [if_pos (by decide +kernel)]; kernel_rfl) | (rw [if_neg (by decide +kernel)]; exact ⟨rfl, rfl⟩))
    (fun os started H enc _ => MeshCountedRow.lifted os started H enc)
end Go.Proofs.YtcgbnjoajieggaaGreat
