/- Own texts, put together: Qdg. -/
import Derived.Test.YtkbhmglmbolbiaaGreatDoorQ41
/- The law NodefileReads: spoil: nodes are written over. -/
namespace Go.Proofs.YtkbhmglmbolbiaaGreatDoor
set_option maxRecDepth 100000
open Go.RowKit Go.Shelf Go.Lib
attribute [local go_sem] run_store_float
structure Mid (B C : Nat) (w W : World) : Prop where
 os : W.os = w.os
 tape : W.tape = w.tape
 output : W.output = w.output
 size : W.heap.size = w.heap.size
 block : ∀ k, k < B ∨ C ≤ k → W.heap[k]? = w.heap[k]?
theorem Mid.refl (B C : Nat) (w : World) : Mid B C w w := ⟨rfl, rfl, rfl, rfl, fun _ _ => rfl⟩
theorem Mid.set {B C : Nat} {w W : World} (h : Mid B C w W) (b i : Nat) (u : Value) (h1 : B ≤ b) (h2 : b < C) : Mid B C w (W.setCell ⟨b, i, none⟩ u) := by
 have ho := Ob.set b i W u
 refine ⟨ho.os.trans h.os, ho.tape.trans h.tape, ho.output.trans h.output, by rw [← h.size]; simp [World.setCell], fun k hk => ?_⟩
 rw [← h.block k hk]
 rcases Nat.lt_or_ge k W.heap.size with hlt | hge
 · exact ho.block k hlt (by omega)
 · rw [Array.getElem?_eq_none hge, Array.getElem?_eq_none (by simp [World.setCell]; omega)]
structure Sp (w W : World) (B C g : Nat) (ns : List Nt) : Prop where
 mid : Mid B C w W
 at2 : ∀ (i : Nat) (p : Nt), ns[i]? = some p → W.cell? ⟨g, i * 4 + 2, none⟩ = some p.2
 at3 : ∀ (i : Nat) (p : Nt), ns[i]? = some p → (∃ u, W.cell? ⟨g, i * 4 + 3, none⟩ = some u) ∧ W.frozen? ⟨g, i * 4 + 3, none⟩ = false
 sub : ∀ p ∈ ns, ∀ (ga na ca : Nat), p.2 = .slice (some ⟨ga, 0, none⟩) na ca → B ≤ ga ∧ ga < C ∧ ga ≠ g ∧ ∀ k, k < p.1.a.length → (∃ u, W.cell? ⟨ga, k, none⟩ = some u) ∧ W.frozen? ⟨ga, k, none⟩ = false
theorem Sp.attr {w W : World} {B C g : Nat} {ns : List Nt} (h : Sp w W B C g ns) {p : Nt} (hp : p ∈ ns) {ga na ca : Nat} (e : p.2 = .slice (some ⟨ga, 0, none⟩) na ca) (k : Nat) (u : Value) : Sp w (W.setCell ⟨ga, k, none⟩ u) B C g ns := by
 obtain ⟨h1, h2, h3, _⟩ := h.sub p hp ga na ca e
 have hne : ∀ o o' : Nat, (⟨ga, o, none⟩ : Addr) ≠ ⟨g, o', none⟩ := fun o o' e => h3 (by injection e)
 refine ⟨h.mid.set _ _ _ h1 h2, fun i q hq => ?_, fun i q hq => ⟨?_, ?_⟩, fun q hq gb nb cb eb => ?_⟩
 · rw [World.cell?_setCell_other (h := hne _ _)]; exact h.at2 i q hq
 · rw [World.cell?_setCell_other (h := hne _ _)]; exact (h.at3 i q hq).1
 · rw [World.frozen?_setCell]; exact (h.at3 i q hq).2
 · obtain ⟨g1, g2, g3, g4⟩ := h.sub q hq gb nb cb eb
   refine ⟨g1, g2, g3, fun j hj => ⟨?_, ?_⟩⟩
   · obtain ⟨v, hv⟩ := (g4 j hj).1
     exact RowKit.cell?_setCell_some hv
   · rw [World.frozen?_setCell]; exact (g4 j hj).2
theorem Sp.mark {w W : World} {B C g : Nat} {ns : List Nt} (h : Sp w W B C g ns) (h1 : B ≤ g) (h2 : g < C) (i : Nat) (u : Value) : Sp w (W.setCell ⟨g, i * 4 + 3, none⟩ u) B C g ns := by
 refine ⟨h.mid.set _ _ _ h1 h2, fun j q hq => ?_, fun j q hq => ⟨?_, ?_⟩, fun q hq gb nb cb eb => ?_⟩
 · rw [World.cell?_setCell_other (h := fun e => by injection e with _ e2 _; omega)]; exact h.at2 j q hq
 · obtain ⟨v, hv⟩ := (h.at3 j q hq).1
   exact RowKit.cell?_setCell_some hv
 · rw [World.frozen?_setCell]; exact (h.at3 j q hq).2
 · obtain ⟨g1, g2, g3, g4⟩ := h.sub q hq gb nb cb eb
   refine ⟨g1, g2, g3, fun j hj => ⟨?_, ?_⟩⟩
   · obtain ⟨v, hv⟩ := (g4 j hj).1
     exact RowKit.cell?_setCell_some hv
   · rw [World.frozen?_setCell]; exact (g4 j hj).2
theorem own_frozen' {W : World} {B t size n g cap : Nat} {xs : List Value} (h : W.ownsRow B t size (.slice (some ⟨g, 0, none⟩) n cap) n xs) (i : Nat) : W.frozen? ⟨g, i, none⟩ = false := by
 rcases h.2 with ⟨h1, _⟩ | ⟨g', cap', cur, h1, _, h3, _⟩
 · cases h1
 · cases h1
   simp [World.frozen?, h3]
theorem Sp.start {w : World} {B C g c : Nat} {ns : List Nt} (h : Nr w B (.slice (some ⟨g, 0, none⟩) ns.length c) ns) (hC : ∀ p ∈ ns, ∀ b, p.2.ownBlock = some b → b < C) : Sp w w B C g ns := by
 refine ⟨Mid.refl _ _ _, fun i p hp => ?_, fun i p hp => ⟨?_, own_frozen' h.own _⟩, fun p hp ga na ca e => ?_⟩
 · have := (ncs_at ns i p hp).2.2.1
   simpa using own_cellL h.own this
 · have := (ncs_at ns i p hp).2.2.2
   exact ⟨_, by simpa using own_cellL h.own this⟩
 · have hf := (h.sub p hp).own
   rw [e] at hf
   have hlt := hf.lt ga rfl
   refine ⟨hlt.1, hC p hp ga (by rw [e]; rfl), fun e2 => ?_, fun k hk => ⟨?_, ?_⟩⟩
   · subst e2
     have h0 := h.own
     rcases h0.2 with ⟨h1, _⟩ | ⟨g1, cap1, cur1, h1, _, h3, _⟩
     · cases h1
     · cases h1
       rcases hf.2 with ⟨q1, _⟩ | ⟨g2, cap2, cur2, q1, _, q3, _⟩
       · cases q1
       · cases q1
         rw [h3] at q3
         simp at q3
   · obtain ⟨a2, c2, e3⟩ := own_slice (h.sub p hp).own
     rw [e] at e3
     cases e3
     have hc : (f64s p.1.a)[k]? = some (.float .f64 (p.1.a.getD k 0)) := by
       unfold f64s
       rw [List.getElem?_map, List.getElem?_eq_getElem hk, List.getD_eq_getElem?_getD, List.getElem?_eq_getElem hk]; rfl
     exact ⟨_, by simpa using own_cellL hf hc⟩
   · obtain ⟨a2, c2, e3⟩ := own_slice (h.sub p hp).own
     rw [e] at e3
     cases e3
     exact own_frozen' hf _
set_option maxHeartbeats 8000000 in
theorem spoil10_any (v : Value) (ns : List Nt) (B C : Nat) (w : World) (hN : Nr w B v ns) (hC : ∀ b, v.ownBlock = some b → b < C) (hCs : ∀ p ∈ ns, ∀ b, p.2.ownBlock = some b → b < C) (hn : ns.length ≤ 1048576) :
   Calls Tryz.prog 9 #[v] w fun e w' => e = .returned (.tuple #[]) ∧ Mid B C w w' := by
 obtain ⟨a, c, rfl⟩ := hN.form
 obtain ⟨N, hNN⟩ : ∃ N, Hid (ns.length = N) := ⟨_, Lib.hid rfl⟩
 by_cases h0 : ns = []
 · subst h0
   simp only [List.length_nil]
   clear hN hC hCs hn hNN
   go_enter Tryz.func9, Tryz.ntmps9
   go_wp2_with fail
   go_loopw [2] (fun s2 wr => s2 = .int .i64 0 ∧ wr = w) (fun _ _ => 0)
   case atStart => exact ⟨rfl, rfl⟩
   case round =>
     obtain ⟨rfl, rfl⟩ := hrel
     go_wp2
     refine bodyPost_end (results_none rfl _ _ _) rfl ?_
     exact ⟨rfl, Mid.refl _ _ _⟩
 · have hex : ∃ g, a = some ⟨g, 0, none⟩ ∧ B ≤ g ∧ g < C := by
     rcases hN.own.2 with ⟨h1, h2⟩ | ⟨g, cap, cur, h1, h2, _⟩
     · exact absurd (List.length_eq_zero_iff.1 h2) h0
     · cases h1
       exact ⟨g, rfl, h2, hC g rfl⟩
   obtain ⟨g, rfl, hg1, hg2⟩ := hex
   have HS := Lib.hid (Sp.start hN hCs)
   have HFo : Hid (∀ p ∈ ns, p.1.a = [] ∨ ∃ ga ca, p.2 = .slice (some ⟨ga, 0, none⟩) p.1.a.length ca ∧ p.1.a.length ≤ 9223372036854775807) := Lib.hid fun p hp => by
     rcases (hN.sub p hp).own.2 with ⟨h1, h2⟩ | ⟨ga, cap, cur, h1, _, _, h4, h5, _⟩
     · exact Or.inl (List.length_eq_zero_iff.1 h2)
     · exact Or.inr ⟨ga, cap, h1, by unfold maxLen at h5; omega⟩
   have HFs : Hid (∀ p ∈ ns, ∃ pa pc, p.2 = .slice pa p.1.a.length pc) := Lib.hid fun p hp => own_slice (hN.sub p hp).own
   rw [hNN.out] at hn ⊢
   have hn' : (N : Int) ≤ 1048576 := by omega
   clear hN hC hCs h0
   go_enter Tryz.func9, Tryz.ntmps9
   go_wp2_with fail
   go_loopw [2] (fun s2 wr => ∃ i : Nat, s2 = .int .i64 (i : Nat) ∧ i ≤ N ∧ Hid (Sp w wr B C g ns)) (fun s2 _ => N - (RowKit.intOf s2).toNat)
   case atStart => exact ⟨0, rfl, by omega, HS.out⟩
   case round =>
     obtain ⟨i, rfl, hi1, hI⟩ := hrel
     by_cases hlt : i < N
     · have hlt' : (i : Int) < (N : Int) := by omega
       have hi0 : (0 : Int) ≤ (i : Int) := by omega
       obtain ⟨q, hq⟩ : ∃ q, ns[i]? = some q := ⟨_, List.getElem?_eq_getElem (by rw [hNN.out]; exact hlt)⟩
       have hqm := List.mem_of_getElem? hq
       obtain ⟨pa, pc, hpv⟩ := HFs.out q hqm
       have HQ := Lib.hid (And.intro hq hqm)
       obtain ⟨M, hM⟩ : ∃ M, Hid (q.1.a.length = M) := ⟨_, Lib.hid rfl⟩
       have HPv := Lib.hid hpv
       have hM' : (M : Int) ≤ 9223372036854775807 := by
         rcases HFo.out q hqm with h | ⟨_, _, _, h⟩
         · rw [← hM.out, h]; decide
         · rw [← hM.out]; omega
       clear hq hqm hpv
       go_wp2_with fail
       go_loopw [3] (fun s3 wr => ∃ j : Nat, s3 = .int .i64 (j : Nat) ∧ j ≤ M ∧ Hid (Sp w wr B C g ns)) (fun s3 _ => M - (RowKit.intOf s3).toNat)
       case atStart => exact ⟨0, rfl, by omega, hI.out⟩
       case round =>
         obtain ⟨j, rfl, hj1, hJ⟩ := hrel
         have k2 := hJ.out.at2 i q HQ.out.1
         rw [HPv.out, hM.out] at k2
         by_cases hlj : j < M
         · have hlj' : (j : Int) < (M : Int) := by omega
           have hj0 : (0 : Int) ≤ (j : Int) := by omega
           obtain ⟨ga, ca, hga⟩ : ∃ ga ca, q.2 = .slice (some ⟨ga, 0, none⟩) q.1.a.length ca := by
             rcases HFo.out q HQ.out.2 with h | ⟨ga, ca, h, _⟩
             · rw [← hM.out, h] at hlj; simp at hlj
             · exact ⟨ga, ca, h⟩
           have hpa : pa = some ⟨ga, 0, none⟩ := by have := HPv.out.symm.trans hga; injection this
           subst hpa
           obtain ⟨⟨u, hu⟩, hf⟩ := (hJ.out.sub q HQ.out.2 ga _ _ hga).2.2.2 j (by rw [hM.out]; exact hlj)
           have HN := Lib.hid (hJ.out.attr HQ.out.2 hga j (.float .f64 13858490847093325824))
           clear hga hI
           go_wp2
           exact ⟨⟨j + 1, by go_num, by omega, HN.out⟩, by simp [RowKit.intOf]; omega⟩
         · have hlj' : ¬ ((j : Int) < (M : Int)) := by omega
           obtain ⟨⟨u, hu⟩, hf⟩ := hJ.out.at3 i q HQ.out.1
           have HN := Lib.hid (hJ.out.mark hg1 hg2 i (.int .i64 (-77)))
           clear hI
           go_wp2
           exact ⟨⟨i + 1, by go_num, by omega, HN.out⟩, by simp [RowKit.intOf]; omega⟩
     · have hlt' : ¬ ((i : Int) < (N : Int)) := by omega
       have HM := Lib.hid hI.out.mid
       clear hI
       go_wp2
       refine bodyPost_end (results_none rfl _ _ _) rfl ?_
       exact ⟨rfl, HM.out⟩
end Go.Proofs.YtkbhmglmbolbiaaGreatDoor
