/- Own texts, put together: Wl. -/
import Derived.Test.YtlpnobcapdbfkaaDoorQ8
import Derived.Lib.SliceRun
/- The walks of slices.Clone and of moved: a number's words copied, its lowest bit moved. -/
namespace Go.Proofs.YtlpnobcapdbfkaaDoor
open Go.RowKit
attribute [local go_sem ↓] Go.wp_at_zero Go.wp_at_succ
theorem ws_of_owns {w : World} {base : Nat} {e : TypeId} {v : Value} {ns : List Nat} (h : w.ownsRow base e 1 v ns.length (wds ns)) (hs : Small ns) (hl : ns.length ≤ 1000000) : Ws w v ns := by
 obtain ⟨h0, ⟨rfl, hn⟩ | ⟨g, cap, cur, rfl, hb, hc, h2, h3, h4, h5⟩⟩ := h
 · have : ns = [] := List.length_eq_zero_iff.1 hn
   subst this
   exact ⟨⟨_, _, rfl, Nat.le_refl _, Or.inl rfl⟩, hs, hl⟩
 · refine ⟨⟨_, _, rfl, h2, Or.inr ⟨g, 0, rfl, ?_, fun j hj => ?_⟩⟩, hs, hl⟩
   · by_cases hg : g < w.heap.size
     · exact hg
     · rw [Array.getElem?_eq_none (by omega)] at hc; cases hc
   · have e1 : cur[j]? = some (.int .u64 (ns.getD j 0 : Nat)) := by
       have : (cur.toList.take (ns.length * 1))[j]? = (wds ns)[j]? := by rw [h5]
       rw [List.getElem?_take_of_lt (by omega), List.getElem?_eq_getElem (l := wds ns) (by rw [wds_length]; exact hj), wds_getD _ _ hj] at this
       simpa using this
     simp [World.cell?, hc, e1]
set_option maxHeartbeats 1000000 in
theorem clone_nil (n c : Nat) (w : World) :
   Calls Tryd.prog 39 #[.slice none n c] w fun e w' => e = .returned (.slice none 0 0) ∧ w' = w := by
 have q : ∀ (w : World) (a : Option Addr) (n c n' c' : Nat), (binOp .eql 23 (.slice a n c) (.slice none n' c')).run Tryd.prog w = .ok (.bool a.isNone) w := fun w a n c n' c' => Lib.run_eql_slice_nil w _ _ a n c n' c' Tryd.underlying23
 go_enter Tryd.func39, Tryd.ntmps39
 go_wp2
 go_ret
 exact ⟨rfl, rfl⟩
set_option maxHeartbeats 1000000 in
theorem clone_some (ad : Addr) (ns : List Nat) (c : Nat) (w : World) (hs : Small ns) (hl : ns.length ≤ 1000000) (hc : ∀ j u, (wds ns)[j]? = some u → w.cell? (ad.add j) = some u) :
   Calls Tryd.prog 39 #[.slice (some ad) ns.length c] w fun e w' => ∃ v', e = .returned v' ∧ Ws w' v' ns ∧ Below w.heap.size w w' := by
 have q : ∀ (w : World) (a : Option Addr) (n c n' c' : Nat), (binOp .eql 23 (.slice a n c) (.slice none n' c')).run Tryd.prog w = .ok (.bool a.isNone) w := fun w a n c n' c' => Lib.run_eql_slice_nil w _ _ a n c n' c' Tryd.underlying23
 obtain ⟨i0, hi, hz0, hz1, hz2⟩ := info_parts Tryd.info39'
 have HC : Hid (∀ j u, (wds ns)[j]? = some u → w.cell? (ad.add j) = some u) := hc
 clear hc
 go_enter Tryd.func39, Tryd.ntmps39
 go_wp2_with (at_builtin; refine wpList_append_own _ rfl _ _ 23 rfl w.heap.size 39 i0 (.int .u64 0) 1 8 Tryd.underlying23 hi hz0 hz1 hz2 rfl (by decide) _ _ _ rfl (World.ownsRow_made w #[] 0 (Nat.le_refl _) (Nat.zero_le _) rfl) ad ns.length c (wds ns) rfl ?qc1 ?qc2 ?qc3 ?qc4 ?qc5 ?qc6 ?_)
 case qc1 => rw [wds_length]; omega
 case qc2 =>
   intro j u hj
   exact Lib.cell?_alloc_some _ (HC.out j u hj)
 case qc3 => intro u hu; obtain ⟨x, _, rfl⟩ := List.mem_map.1 hu; rfl
 case qc4 => unfold maxLen; omega
 case qc5 => omega
 case qc6 => simp
 intro v' w1 hown hgrow hnil
 go_wp2
 go_ret
 refine ⟨v', rfl, ws_of_owns (base := w.heap.size) (e := 39) (by simpa using hown) hs hl, ?_⟩
 exact ((Below.refl _ w).alloc (Nat.le_refl _) _).grown hgrow (by simp) (by intro k hk; simp [Value.ownBlock] at hk; omega)
theorem clone_any (s : Value) (ns : List Nat) (w : World) (h : Ws w s ns) :
   Calls Tryd.prog 39 #[s] w fun e w' => ∃ v', e = .returned v' ∧ Ws w' v' ns ∧ Below w.heap.size w w' := by
 obtain ⟨⟨a, cap, rfl, hcap, hc⟩, hs, hl⟩ := h
 cases a with
 | none =>
   have : ns = [] := by
     rcases hc with hc | ⟨b, off, ha, _⟩
     · exact hc
     · cases ha
   subst this
   refine (clone_nil _ _ w).mono ?_
   rintro e w' ⟨rfl, rfl⟩
   exact ⟨_, rfl, ⟨⟨_, _, rfl, Nat.le_refl _, Or.inl rfl⟩, hs, hl⟩, Below.refl _ _⟩
 | some ad =>
   refine clone_some ad ns cap w hs hl ?_
   intro j u hj
   rcases hc with rfl | ⟨b, off, ha, _, hc⟩
   · simp [wds] at hj
   · cases ha
     have hjl : j < ns.length := by
       have := (List.getElem?_eq_some_iff.1 hj).1
       rwa [wds_length] at this
     rw [List.getElem?_eq_getElem (by rw [wds_length]; exact hjl), wds_getD _ _ hjl] at hj
     rw [Addr.add_lit, hc j hjl, hj]
def Back (w w' : World) (ns : List Nat) (low : Int) (e : Ending) : Prop := ∃ s, e = .returned (.agg #[s, .int .i64 low]) ∧ Ws w' s ns ∧ Below w.heap.size w w'
set_option maxHeartbeats 1000000 in
theorem moved_any (s : Value) (ns : List Nat) (low k : Int) (w : World) (h : Ws w s ns) (h1 : -1000000 ≤ low) (h2 : low ≤ 1000000) (h3 : -1000000 ≤ k) (h4 : k ≤ 1000000) :
   Calls Tryd.prog 24 #[.agg #[s, .int .i64 low], .int .i64 k] w fun e w' => Back w w' ns (low + k) e := by
 have H : Hid (Ws w s ns) := h
 obtain ⟨a1, c1, rfl, hcap, hc⟩ := h.shape
 have HB0 : Hid (Below w.heap.size w ((w.alloc (.cells #[.slice a1 ns.length c1, .int .i64 low] 25)).alloc (.cells #[.slice none 0 0, .int .i64 0] 25))) := ((Below.refl _ _).alloc (Nat.le_refl _) _).alloc (by simp) _
 have hw : IntKind.i64.wrap (low + k) = low + k := wrapI _ (by omega) (by omega)
 clear h hc
 go_enter Tryd.func24, Tryd.ntmps24
 go_wp2
 go_region_held3 (fun W => W.cell? ⟨w.heap.size, 0, none⟩ = some (.slice a1 ns.length c1) ∧ W.cell? ⟨w.heap.size, 1, none⟩ = some (.int .i64 low) ∧ Below w.heap.size w W)
   (first
     | assumption
     | exact ⟨by go_simp, by go_simp, HB0.out.drew⟩
     | exact keep2 (by assumption) (by assumption)
     | exact keep2_set (keep2_set (by assumption) _ _ (by simp) (by simp) (by simp)) _ _ (by simp) (by simp) (by simp))
   (first
     | (go_at_call 39; refine (clone_any _ ns _ ?_).mono ?_; exact H.out.later HB0.out.drew (Nat.le_refl _); rintro e w1 ⟨v1, rfl, hws1, hb1⟩; obtain ⟨a5, c5, rfl, hc5, hx5⟩ := hws1.shape; clear hx5; have p0 : w1.cell? ⟨w.heap.size + 1, 0, none⟩ = some (.slice none 0 0) := cell_later hb1 (by go_simp); have p1 : w1.cell? ⟨w.heap.size + 1, 1, none⟩ = some (.int .i64 0) := cell_later hb1 (by go_simp); have p2 : w1.frozen? ⟨w.heap.size + 1, 0, none⟩ = false := frozen_later hb1 (by go_simp) (by simp); have p3 : w1.frozen? ⟨w.heap.size + 1, 1, none⟩ = false := frozen_later hb1 (by go_simp) (by simp)))
 go_wp2
 refine bodyPost_ret (v := .agg #[.slice a5 ns.length c5, .int .i64 (low + k)]) (by simp [results, Tryd.results24, go_sem, p0, p1]) rfl ?_
 have hws6 := (hws1.set p0 (by intro n; simp) (.slice a5 ns.length c5)).set (cell_ne p1 p0 (by simp) (.slice a5 ns.length c5)) (by intro n; simp) (.int .i64 (low + k))
 exact ⟨_, rfl, hws6, (by assumption : _ ∧ _ ∧ _).2.2⟩
end Go.Proofs.YtlpnobcapdbfkaaDoor
