/- The walk of highest: the highest bit of a magnitude. -/
import Derived.Test.YtfnjlkhgjlihoaaDoorWc
import Derived.Test.YtfnjlkhgjlihoaaDoorWd
namespace Go.Proofs.YtfnjlkhgjlihoaaDoor
open Go.RowKit
attribute [local go_sem ↓] Go.wp_at_zero Go.wp_at_succ

theorem keep3 {w W W' : World} {p q r : Addr} {x y z : Value} (h : W.cell? p = some x ∧ W.cell? q = some y ∧ W.cell? r = some z ∧ Below w.heap.size w W) (hb : Below W.heap.size W W') : W'.cell? p = some x ∧ W'.cell? q = some y ∧ W'.cell? r = some z ∧ Below w.heap.size w W' :=
  ⟨cell_later hb h.1, cell_later hb h.2.1, cell_later hb h.2.2.1, h.2.2.2.trans (hb.mono h.2.2.2.size)⟩

set_option maxHeartbeats 1000000 in
theorem highest_some (b off len cap t : Nat) (low : Int) (w : World) (hc : w.cell? ⟨b, off + len, none⟩ = some (.int .u64 (t : Nat))) (h0 : t ≠ 0) (h1 : t < 18446744073709551616) (h2 : -200000000 ≤ low) (h3 : low ≤ 200000000) (h4 : len ≤ 1000000) (h5 : Nat.log2 t ≤ 64) :
    Calls Tryd.prog 51 #[.agg #[.slice (some ⟨b, off, none⟩) (len + 1) cap, .int .i64 low]] w fun e w' => e = .returned (.int .i64 (low + (64 * len + Nat.log2 t : Nat))) ∧ Below w.heap.size w w' := by
  have hz : ((len : Int) + 1 == 0) = false := by rw [beq_eq_false_iff_ne]; omega
  have hz' : (((len + 1 : Nat) : Int) == 0) = false := by rw [beq_eq_false_iff_ne]; omega
  have hl : (len : Int) ≤ 1000000 := by omega
  have hl1 : IntKind.i64.wrap (64 * (len : Int)) = 64 * (len : Int) := wrapI _ (by omega) (by omega)
  have hl2 : IntKind.i64.wrap (low + 64 * (len : Int)) = low + 64 * (len : Int) := wrapI _ (by omega) (by omega)
  have hl3 : IntKind.i64.wrap (low + 64 * (len : Int) + ((Nat.log2 t : Nat) + 1 : Int)) = low + 64 * (len : Int) + ((Nat.log2 t : Nat) + 1 : Int) := wrapI _ (by omega) (by omega)
  have hl4 : IntKind.i64.wrap (low + 64 * (len : Int) + ((Nat.log2 t : Nat) + 1 : Int) - 1) = low + (64 * len + Nat.log2 t : Nat) := by rw [wrapI _ (by omega) (by omega)]; omega
  have hi1 : (0 : Int) ≤ (len : Int) := by omega
  have hi2 : (len : Int) < (len : Int) + 1 := by omega
  have hi3 : (len : Int) < ((len + 1 : Nat) : Int) := by omega
  go_enter Tryd.func51, Tryd.ntmps51
  go_wp2_with fail
  refine (isZero_any _ _ _ _ _).mono ?_
  rintro e w' ⟨rfl, hb1⟩
  have hx0 : w'.cell? ⟨w.heap.size, 0, none⟩ = some (.slice (some ⟨b, off, none⟩) (len + 1) cap) := cell_later hb1 (by simp)
  have hx1 : w'.cell? ⟨w.heap.size, 1, none⟩ = some (.int .i64 low) := cell_later hb1 (by simp)
  have hB : Below w.heap.size w w' := ((Below.refl _ _).alloc (Nat.le_refl _) _).trans (hb1.mono (by simp))
  have hc' : w'.cell? ⟨b, off + len, none⟩ = some (.int .u64 (t : Nat)) := cell_later hB hc
  clear hb1 hc
  go_wp2
  go_region_held3 (fun W => W.cell? ⟨w.heap.size, 0, none⟩ = some (.slice (some ⟨b, off, none⟩) (len + 1) cap) ∧ W.cell? ⟨w.heap.size, 1, none⟩ = some (.int .i64 low) ∧ W.cell? ⟨b, off + len, none⟩ = some (.int .u64 (t : Nat)) ∧ Below w.heap.size w W)
    (first | exact ⟨hx0, hx1, hc', hB.drew⟩)
    (first | (go_at_call 73; refine (len64_any _ _ ?_ ?_).mono ?_; omega; omega; rintro e w' ⟨rfl, rfl⟩))
  go_wp2
  go_ret
  exact ⟨rfl, hB.drew⟩

set_option maxHeartbeats 400000 in
theorem highest_none (a : Option Addr) (cap : Nat) (low : Int) (w : World) :
    Calls Tryd.prog 51 #[.agg #[.slice a 0 cap, .int .i64 low]] w fun e w' => e = .returned (.int .i64 0) ∧ Below w.heap.size w w' := by
  go_enter Tryd.func51, Tryd.ntmps51
  go_wp2_with fail
  refine (isZero_any _ _ _ _ _).mono ?_
  rintro e w' ⟨rfl, hb1⟩
  go_wp2
  go_ret
  exact ⟨rfl, ((Below.refl _ _).alloc (Nat.le_refl _) _).trans (hb1.mono (by simp))⟩

/-- highest: the highest bit; 0 of nothing. -/
theorem highest_any (s : Value) (ns : List Nat) (low : Int) (w : World) (h : Ws w s ns) (ht : Topped ns) (h2 : -200000000 ≤ low) (h3 : low ≤ 200000000) :
    Calls Tryd.prog 51 #[.agg #[s, .int .i64 low]] w fun e w' => e = .returned (.int .i64 (hiB ns low)) ∧ Below w.heap.size w w' := by
  obtain ⟨⟨a, cap, rfl, _, hc⟩, hs, hl⟩ := h
  rcases hc with rfl | ⟨b, off, rfl, hb, hc⟩
  · exact highest_none a cap low w
  · by_cases hne : ns = []
    · subst hne; exact highest_none _ cap low w
    · have hp := List.length_pos_iff.2 hne
      obtain ⟨m, hm⟩ : ∃ m, ns.length = m + 1 := ⟨ns.length - 1, by omega⟩
      have ht' := ht hne
      have hlog := log2_val hs hne ht'
      unfold hiB
      rw [if_neg hne, hlog]
      rw [hm] at hc ht' ⊢
      rw [show m + 1 - 1 = m by omega] at *
      have hsm := small_getD hs m
      exact highest_some b off m cap _ low w (hc m (by omega)) ht' hsm h2 h3 (by omega) (Nat.le_of_lt ((Nat.log2_lt ht').2 hsm))

end Go.Proofs.YtfnjlkhgjlihoaaDoor
