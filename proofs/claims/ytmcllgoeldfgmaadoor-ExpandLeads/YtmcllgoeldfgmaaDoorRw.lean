/- Proved: ExpandLeads. Whatever list of floats is handed in, the law returns true, and the list reads behind the call as it read before; the one listed variable (math/bits.deBruijn64tab) is tied to the program's text. No condition beside it. -/
import Derived.Test.YtmcllgoeldfgmaaDoorQ16
import Derived.Test.YtmcllgoeldfgmaaDoorTie
import Derived.Test.YtmcllgoeldfgmaaDoorCards
import Derived.Below
import Derived.ChangeOld
import Derived.Stop.Joined
import Derived.SevenTiedAt
import Derived.Carry
import Derived.Deep.Slices
namespace Go.Proofs.YtmcllgoeldfgmaaDoor
open Go.ChangeShapes Go.WideShapes Go.ChangeAt Go.WideMaps Go.WideElems Go.RowKit Go.Deep

namespace LeadsRow
theorem uFloat : Tryd.prog.underlying 31 = some (.float .f64) := by kernel_rfl
theorem uSl : Tryd.prog.underlying 63 = some (.slice 31) := by kernel_rfl
theorem cFloat : Tryd.prog.cellsOf 31 = 1 := by kernel_rfl
theorem uBool : Tryd.prog.underlying 4 = some .bool := by kernel_rfl

set_option maxRecDepth 100000 in
theorem open_fs {H : Type} {enc : TypeId × Value → H} {W : World} {b0 : Nat} {r : Reach} {v : Value} {d : DataW H} {ps : List MemPlace} (hval : Value.okWide Tryd.prog W r b0 63 v) (h : DataW.Trod enc Tryd.prog W 0 (fun _ => true) true 63 v d ps) :
    ∃ a n c bs, v = .slice a n c ∧ Fs W (.slice a n c) bs ∧ bs.length = n ∧ ∀ k c', Value.slice a n c = .slice none k c' → k = 0 ∧ c' = 0 := by
  obtain ⟨a, len, cap, rfl⟩ := okWide_slice uSl hval
  obtain ⟨fuel, hf⟩ := h
  rcases open_slice1 uSl cFloat hf with ⟨hcs, _⟩ | ⟨a', len', cap', m, nn, V, D, Pl, hcs, _, hl, hm, hmm, _, hx⟩
  · simp [Value.cells] at hcs
    obtain ⟨rfl, rfl, rfl⟩ := hcs
    exact ⟨none, 0, 0, [], rfl, ⟨⟨none, 0, rfl, by simp, by omega, Or.inl rfl⟩, by simp⟩, rfl, fun k c' e => by cases e; exact ⟨rfl, rfl⟩⟩
  · simp [Value.cells] at hcs
    obtain ⟨rfl, rfl, rfl⟩ := hcs
    simp only [if_true] at hmm
    obtain ⟨bs, hbs, hlt⟩ := floats_list ((List.range len).map V) (fun i hi => by
      have hi' : i < len := by simpa using hi
      obtain ⟨b, e, hb⟩ := float_of_trod uFloat (hx i (by omega)).2
      exact ⟨b, by simp [hi', e], hb⟩)
    have hlen : bs.length = len := by have := congrArg List.length hbs; simpa using this.symm
    have hV : ∀ i, i < len → V i = .float .f64 (bs.getD i 0) := fun i hi => by
      have h1 : ((List.range len).map V)[i]? = (bs.map (Value.float .f64 ·))[i]? := by rw [hbs]
      have hi2 : i < bs.length := by omega
      simpa [hi, hi2, List.getD] using h1
    refine ⟨some a', len, cap, bs, rfl, ⟨⟨some a', cap, by rw [hlen], by omega, by unfold maxLen at hm; omega, ?_⟩, hlt⟩, hlen, fun k c' e => by cases e⟩
    by_cases h0 : bs = []
    · exact Or.inl h0
    · right
      have hpos : 0 < len := by have := List.length_pos_iff.2 h0; omega
      obtain ⟨b, off, spot⟩ := a'
      have hspot : spot = none := by simpa [Addr.add] using World.cell?_spot (hx 0 (by omega)).1
      subst hspot
      refine ⟨b, off, rfl, fun k hk => ?_⟩
      have := (hx k (by omega)).1
      rw [hV k (by omega), Addr.add_lit] at this
      exact this

set_option maxRecDepth 100000 in
theorem lifted (os : Os) (started : os.Started) (H : Type) (enc : TypeId × Value → H) :
    ReturnsInHanded {} Tryd.checked os 7 .any (fun w args => (Rows.expandLeadsSpec.pre enc Tryd.prog Tryd.f7 [] false w args ∧ laidMetH Tryd.prog laidTab w) ∧ sizedMet enc Tryd.prog Tryd.f7 (OpenSpec.ofChange Rows.expandLeadsSpec) false w args)
      (Rows.expandLeadsSpec.post enc Tryd.prog Tryd.f7 false true false false) := by
  refine returnsInHanded_of_change_and (C := Tryd.checked) (X := fun w _ => laidMetH Tryd.prog laidTab w) (fun _ _ _ hh h => h.of_heap hh) own started (by kernel_rfl) Tryd.func7
    (ChangeSpec.witness_shaped (enc := enc) (C := Tryd.checked) (os := os) (X := fun w _ => laidMetH Tryd.prog laidTab w) false (World.doorLaid Tryd.prog 400 os) #[.slice none 0 0] 8 rfl (World.shaped_of_RefB (by kernel_rfl) (by kernel_rfl)) (by kernel_rfl) (by kernel_rfl) (by kernel_rfl) (door_met os _)) ?_
  intro W base args ds gs before hval0 hW _ _ hL _
  have hval : ∀ (j : Nat) t v, Tryd.f7.params[j]? = some t → args[j]? = some v → Value.okWide Tryd.prog W .any base t v := hval0
  have hW' := hW
  obtain ⟨p, q, hA0, hV, rfl, hfz, hnd⟩ := hW
  have hA : DataW.TrodAll enc Tryd.prog W 0 (fun _ => true) true Tryd.f7.params.toList args.toList ds p := hA0
  rw [Tryd.params7] at hA hval
  obtain ⟨v0, d0, rfl, rfl, h0⟩ := trodAll_one hA
  obtain ⟨rfl, rfl⟩ := trodVars_none hV
  have k0 := h0
  have lt0 : ∀ x ∈ p, x.block < W.heap.size := by obtain ⟨m, hm⟩ := k0; exact DataW.trod_lt m _ _ _ hm
  obtain ⟨a0, n0, c0, es, rfl, f0, e0, z0⟩ := open_fs (hval 0 63 v0 rfl rfl) h0
  clear hA0 hval0
  refine (leads_law _ es W (tab_of_laid hL) f0).mono fun e W' ⟨he, bel⟩ => ?_
  subst he
  exact ⟨_, rfl, _, _, _, [], _, [], hW', trodAll_mk1 (shut_bool uBool _), (trodAll_mk1 (Below.trod laidOut (by kernel_rfl) (of_decide_eq_true (by kernel_rfl)) k0 bel lt0)), rfl, bel.frame _, fun h => by cases h⟩

theorem row_holds : Rows.ExpandLeadsSaid :=
  OpenClaim.holds_of_wide 7 Tryd.f7 rfl rfl rfl rfl rfl rfl rfl ⟨rfl, rfl, rfl, rfl, rfl⟩ rfl rfl rfl rfl rfl (by kernel_rfl) Tryd.func7 (by kernel_rfl)
    (of_decide_eq_true (by kernel_rfl)) (by unfold Func.isWrapper; first | (rw [if_pos (by decide +kernel)]; kernel_rfl) | (rw [if_neg (by decide +kernel)]; exact ⟨rfl, rfl⟩))
    (fun os started H enc _ => lifted os started H enc)
end LeadsRow

/-- The tied card. -/
theorem leads_card : Rows.ExpandLeadsCardSaid :=
  Claim7.holds_tied_plain_at .later [] [.data] true Rows.expandLeadsCard.stood.harness false
    LeadsRow.row_holds (fun _ h => by cases h) (by kernel_rfl) (fun _ h => by cases h) expandLeads_row_tie rfl ⟨rfl, rfl⟩ (by kernel_rfl) rfl
    (fun f fn hf hfn => by
      obtain rfl : f = 7 := Option.some.inj ((show Tryd.prog.funcNamed "trivet/trivetlaw03.ExpandLeads" = some 7 by kernel_rfl).symm.trans hf) |>.symm
      obtain rfl : fn = Tryd.f7 := (Option.some.inj (Tryd.func7.symm.trans hfn)).symm
      exact ⟨by kernel_rfl, fun j t ht => by
        rw [Tryd.params7] at ht
        have hm : t ∈ [63] := by simpa using Array.mem_of_getElem? ht
        have hall : ([63].all fun u => !Tryd.prog.wantsStandIn u) = true := by kernel_rfl
        exact (show Tryd.prog.wantsStandIn t = false by simpa using List.all_eq_true.1 hall t hm)⟩)
    (by kernel_rfl)
#print axioms leads_card
end Go.Proofs.YtmcllgoeldfgmaaDoor
