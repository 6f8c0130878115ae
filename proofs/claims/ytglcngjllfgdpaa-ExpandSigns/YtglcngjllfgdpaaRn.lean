/- Proved: ExpandSigns. Whatever two lists of floats are handed in, the law returns true, and they read behind the call as they read before. No condition. -/
import Derived.Test.YtglcngjllfgdpaaRows
import Derived.Test.YtglcngjllfgdpaaQ14
import Derived.ProofKit
import Derived.OpenShut
import Derived.Laws.Cover2
import Derived.ChangeOld
import Derived.Below
import Derived.Carry
import Derived.Deep.Slices
namespace Go.Proofs.Ytglcngjllfgdpaa
open Go.ChangeShapes Go.WideShapes Go.ChangeAt Go.RowKit Go.Deep

namespace ExpandSignsRow
theorem own : ownKnob Try.prog.godebug = none := by kernel_rfl
theorem laidOut : laidOutB Try.prog = true := by kernel_rfl
theorem uFloat : Try.prog.underlying 22 = some (.float .f64) := by kernel_rfl
theorem uSl : Try.prog.underlying 39 = some (.slice 22) := by kernel_rfl
theorem cFloat : Try.prog.cellsOf 22 = 1 := by kernel_rfl
theorem uBool : Try.prog.underlying 4 = some .bool := by kernel_rfl

theorem floats_list : ∀ (l : List Value), (∀ i, i < l.length → ∃ b, l[i]? = some (.float .f64 b) ∧ b < 18446744073709551616) → ∃ bs : List Nat, l = bs.map (Value.float .f64 ·) ∧ ∀ b ∈ bs, b < 18446744073709551616
  | [], _ => ⟨[], rfl, by simp⟩
  | c :: l, h => by
    obtain ⟨bs, rfl, hb⟩ := floats_list l (fun i hi => by simpa using h (i + 1) (by simpa using hi))
    obtain ⟨b, e, hb'⟩ := h 0 (by simp)
    simp at e
    exact ⟨b :: bs, by simp [e], by simpa using ⟨hb', hb⟩⟩

theorem float_of_trod {H : Type} {enc : TypeId × Value → H} {P : Program} {w : World} {base m : Nat} {sp : Nat → Bool} {held : Bool} {e : TypeId} {c : Value} {x : DataW H × List MemPlace}
    (he : P.underlying e = some (.float .f64)) (h : DataW.trod enc P w base sp held m e [c] = some x) : ∃ b, c = .float .f64 b ∧ b < 18446744073709551616 := by
  cases m with
  | zero => simp [DataW.trod] at h
  | succ m =>
    unfold DataW.trod at h
    rw [he] at h
    cases c with
    | float k b =>
      simp only [] at h
      split at h
      · rename_i hk
        obtain ⟨rfl, hw⟩ := hk
        exact ⟨b, rfl, by simpa [Lit.wf, FloatKind.has] using hw⟩
      · cases h
    | _ => simp at h


theorem open_fs {H : Type} {enc : TypeId × Value → H} {W : World} {b0 : Nat} {r : Reach} {v : Value} {d : DataW H} {ps : List MemPlace} (hval : Value.okWide Try.prog W r b0 39 v) (h : DataW.Trod enc Try.prog W 0 (fun _ => true) true 39 v d ps) :
    ∃ a n c bs, v = .slice a n c ∧ Fs W (.slice a n c) bs ∧ bs.length = n ∧ ∀ k c', Value.slice a n c = .slice none k c' → k = 0 ∧ c' = 0 := by
  obtain ⟨a, len, cap, rfl⟩ := okWide_slice uSl hval
  obtain ⟨fuel, hf⟩ := h
  rcases open_slice1 uSl cFloat hf with ⟨hcs, _⟩ | ⟨a', len', cap', m, nn, V, D, Pl, hcs, _, hl, hm, hmm, _, hx⟩
  · simp [Value.cells] at hcs
    obtain ⟨rfl, rfl, rfl⟩ := hcs
    exact ⟨none, 0, 0, [], rfl, ⟨⟨none, 0, rfl, by simp, by omega, Or.inl rfl⟩, by simp⟩, rfl, fun k c' e => by cases e; exact ⟨rfl, rfl⟩⟩
  · simp [Value.cells] at hcs
    obtain ⟨rfl, rfl, rfl⟩ := hcs
    simp only [if_true] at hmm
    obtain ⟨bs, hbs, hlt⟩ := floats_list ((List.range len).map V) (fun i hi => by
      have hi' : i < len := by simpa using hi
      obtain ⟨b, e, hb⟩ := float_of_trod uFloat (hx i (by omega)).2
      exact ⟨b, by simp [hi', e], hb⟩)
    have hlen : bs.length = len := by have := congrArg List.length hbs; simpa using this.symm
    have hV : ∀ i, i < len → V i = .float .f64 (bs.getD i 0) := fun i hi => by
      have h1 : ((List.range len).map V)[i]? = (bs.map (Value.float .f64 ·))[i]? := by rw [hbs]
      have hi2 : i < bs.length := by omega
      simpa [hi, hi2, List.getD] using h1
    refine ⟨some a', len, cap, bs, rfl, ⟨⟨some a', cap, by rw [hlen], by omega, by unfold maxLen at hm; omega, ?_⟩, hlt⟩, hlen, fun k c' e => by cases e⟩
    by_cases h0 : bs = []
    · exact Or.inl h0
    · right
      have hpos : 0 < len := by have := List.length_pos_iff.2 h0; omega
      obtain ⟨b, off, spot⟩ := a'
      have hspot : spot = none := by simpa [Addr.add] using World.cell?_spot (hx 0 (by omega)).1
      subst hspot
      refine ⟨b, off, rfl, fun k hk => ?_⟩
      have := (hx k (by omega)).1
      rw [hV k (by omega), Addr.add_lit] at this
      exact this

set_option maxRecDepth 100000 in
theorem lifted (os : Os) (started : os.Started) (H : Type) (enc : TypeId × Value → H) :
    ReturnsInHanded {} Try.checked os 8 .any (Rows.expandSignsSpec.pre6 enc Try.prog Try.f8 Rows.expandSignsRow.domain false) (Rows.expandSignsSpec.post enc Try.prog Try.f8 false true false false) := by
  refine returnsInHanded_of_change (C := Try.checked) own started (by kernel_rfl) Try.func8
    (ChangeSpec.witness6 (enc := enc) (C := Try.checked) false ⟨#[], #[.slice none 0 0, .slice none 0 0, .float .f64 0], []⟩ 8 (by kernel_rfl) (by kernel_rfl) (by kernel_rfl) (by kernel_rfl)) ?_
  intro W base args ds gs before hval0 hW _ _
  have hval : ∀ (j : Nat) t v, Try.f8.params[j]? = some t → args[j]? = some v → Value.okWide Try.prog W .any base t v := hval0
  have hW' := hW
  obtain ⟨p, q, hA0, hV, rfl, hfz, hnd⟩ := hW
  have hA : DataW.TrodAll enc Try.prog W 0 (fun _ => true) true Try.f8.params.toList args.toList ds p := hA0
  rw [Try.params8] at hA hval
  obtain ⟨v0, v1, v2, d0, d1, d2, p0, p1, p2, rfl, rfl, rfl, h0, h1, h2⟩ := trodAll_three hA
  obtain ⟨rfl, rfl⟩ := trodVars_none hV
  have k0 := h0
  have k1 := h1
  have k2 := h2
  have lt0 : ∀ x ∈ p0, x.block < W.heap.size := by obtain ⟨m, hm⟩ := k0; exact DataW.trod_lt m _ _ _ hm
  have lt1 : ∀ x ∈ p1, x.block < W.heap.size := by obtain ⟨m, hm⟩ := k1; exact DataW.trod_lt m _ _ _ hm
  have lt2 : ∀ x ∈ p2, x.block < W.heap.size := by obtain ⟨m, hm⟩ := k2; exact DataW.trod_lt m _ _ _ hm
  obtain ⟨a0, n0, c0, es, rfl, f0, e0, z0⟩ := open_fs (hval 0 39 v0 rfl rfl) h0
  obtain ⟨a1, n1, c1, fs, rfl, f1, e1, _⟩ := open_fs (hval 1 39 v1 rfl rfl) h1
  obtain ⟨b2, rfl, rfl, rfl, w2⟩ := open_float uFloat (hval 2 22 v2 rfl rfl) h2
  have hb2 : b2 < 18446744073709551616 := by simpa [Lit.wf] using w2
  clear hA0 hval0
  refine (signs_law a0 a1 n0 n1 c0 c1 b2 es fs W f0 f1 e0 e1 z0 hb2).mono fun e W' ⟨he, bel⟩ => ?_
  subst he
  exact ⟨_, rfl, _, _, _, [], _, [], hW', trodAll_mk1 (shut_bool uBool _), (trodAll_mk3 (Below.trod laidOut (by kernel_rfl) (of_decide_eq_true (by kernel_rfl)) k0 bel lt0) (Below.trod laidOut (by kernel_rfl) (of_decide_eq_true (by kernel_rfl)) k1 bel lt1) (Below.trod laidOut (by kernel_rfl) (of_decide_eq_true (by kernel_rfl)) k2 bel lt2)), rfl, bel.frame _, fun h => by cases h⟩
end ExpandSignsRow

theorem signs_holds : Rows.ExpandSignsSaid :=
  OpenClaim.holds_of_wide 8 Try.f8 rfl rfl rfl rfl rfl rfl rfl ⟨rfl, rfl, rfl, rfl, rfl⟩ rfl rfl rfl rfl rfl (by kernel_rfl) Try.func8 (by kernel_rfl)
    (of_decide_eq_true (by kernel_rfl)) (by unfold Func.isWrapper; first | (rw [if_pos (by decide +kernel)]; kernel_rfl) | (rw [if_neg (by decide +kernel)]; exact ⟨rfl, rfl⟩))
    (fun os started H enc _ => ExpandSignsRow.lifted os started H enc)
#print axioms signs_holds
end Go.Proofs.Ytglcngjllfgdpaa
