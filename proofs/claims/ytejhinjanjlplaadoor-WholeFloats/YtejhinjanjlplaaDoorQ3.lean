/- Own texts, put together: Wa Wb. -/
import Derived.Test.YtejhinjanjlplaaDoorQ2
import Derived.Test.YtejhinjanjlplaaDoorProg
import Derived.WalkKit
import Derived.WalkSpells
import Derived.WalkLawsBesides
import Derived.Deep.RegionHeld3
import Derived.Deep.DrawnRows
namespace Go.Proofs.YtejhinjanjlplaaDoor
/- Walks of the small functions of package whole: what each of them answers, for every magnitude. -/
section
open Go.RowKit
structure Ws (w : World) (s : Value) (ns : List Nat) : Prop where
 shape : ∃ a cap, s = .slice a ns.length cap ∧ ns.length ≤ cap ∧ (ns = [] ∨ ∃ b off, a = some ⟨b, off, none⟩ ∧ b < w.heap.size ∧ ∀ j, j < ns.length → w.cell? ⟨b, off + j, none⟩ = some (.int .u64 (ns.getD j 0 : Nat)))
 small : ∀ n, n ∈ ns → n < 18446744073709551616
 short : ns.length ≤ 1000000
theorem Ws.later {w w' : World} {s : Value} {ns : List Nat} {B : Nat} (h : Ws w s ns) (hb : Below B w w') (hB : w.heap.size ≤ B) : Ws w' s ns := by
 obtain ⟨⟨a, cap, hs, hcap, hc⟩, h2, h3⟩ := h
 refine ⟨⟨a, cap, hs, hcap, ?_⟩, h2, h3⟩
 rcases hc with hc | ⟨b, off, ha, hbs, hc⟩
 · exact Or.inl hc
 · exact Or.inr ⟨b, off, ha, Nat.lt_of_lt_of_le hbs hb.size, fun j hj => (hb.cell (by exact Nat.lt_of_lt_of_le hbs hB)).trans (hc j hj)⟩
set_option maxHeartbeats 400000 in
theorem isZero_any (a : Option Addr) (len cap : Nat) (low : Int) (w : World) :
   Calls Tryd.prog 43 #[.agg #[.slice a len cap, .int .i64 low]] w fun e w' => e = .returned (.bool ((len : Int) == 0)) ∧ Below w.heap.size w w' := by
 go_enter Tryd.func43, Tryd.ntmps43
 go_wp2
 go_ret
 exact ⟨rfl, (Below.refl _ _).alloc (Nat.le_refl _) _⟩
set_option maxHeartbeats 400000 in
theorem lowest_any (a : Option Addr) (len cap : Nat) (low : Int) (w : World) :
   Calls Tryd.prog 42 #[.agg #[.slice a len cap, .int .i64 low]] w fun e w' => e = .returned (.int .i64 low) ∧ Below w.heap.size w w' := by
 go_enter Tryd.func42, Tryd.ntmps42
 go_wp2
 go_ret
 exact ⟨rfl, (Below.refl _ _).alloc (Nat.le_refl _) _⟩
set_option maxHeartbeats 400000 in
theorem word_out (a : Option Addr) (len cap : Nat) (low : Int) (i : Nat) (w : World) (hi : len ≤ i) :
   Calls Tryd.prog 62 #[.agg #[.slice a len cap, .int .i64 low], .int .i64 i] w fun e w' => e = .returned (.int .u64 0) ∧ Below w.heap.size w w' := by
 go_enter Tryd.func62, Tryd.ntmps62
 go_wp2
 go_ret
 exact ⟨rfl, (Below.refl _ _).alloc (Nat.le_refl _) _⟩
set_option maxHeartbeats 400000 in
theorem word_in (b off len cap : Nat) (low : Int) (i : Nat) (n : Int) (w : World) (hi : i < len) (hb : b < w.heap.size) (hc : w.cell? ⟨b, off + i, none⟩ = some (.int .u64 n)) :
   Calls Tryd.prog 62 #[.agg #[.slice (some ⟨b, off, none⟩) len cap, .int .i64 low], .int .i64 i] w fun e w' => e = .returned (.int .u64 n) ∧ Below w.heap.size w w' := by
 go_enter Tryd.func62, Tryd.ntmps62
 go_wp2
 go_ret
 exact ⟨rfl, (Below.refl _ _).alloc (Nat.le_refl _) _⟩
theorem word_any (s : Value) (ns : List Nat) (low i : Int) (w : World) (h : Ws w s ns) (hi : 0 ≤ i) :
   Calls Tryd.prog 62 #[.agg #[s, .int .i64 low], .int .i64 i] w fun e w' => e = .returned (.int .u64 (ns.getD i.toNat 0 : Nat)) ∧ Below w.heap.size w w' := by
 obtain ⟨n, rfl⟩ := Int.eq_ofNat_of_zero_le hi
 obtain ⟨⟨a, cap, rfl, _, hc⟩, h2, h3⟩ := h
 rw [Int.toNat_natCast]
 by_cases hlt : n < ns.length
 · rcases hc with rfl | ⟨b, off, rfl, hb, hc⟩
   · simp at hlt
   · exact word_in b off _ cap low n _ w hlt hb (hc n hlt)
 · have : ns.getD n 0 = 0 := by simp [List.getD, List.getElem?_eq_none (Nat.le_of_not_lt hlt)]
   rw [this]
   exact word_out a _ cap low n w (by omega)
end

/- Walks of window and span. -/
section
open Go.RowKit
attribute [local go_sem ↓] Go.wp_at_zero Go.wp_at_succ
theorem wrapI (x : Int) (h : -4611686018427387904 ≤ x) (h' : x ≤ 4611686018427387904) : IntKind.i64.wrap x = x := by
 rw [IntKind.wrap_i64]; omega
theorem keep2 {w W W' : World} {p q : Addr} {x y : Value} (h : W.cell? p = some x ∧ W.cell? q = some y ∧ Below w.heap.size w W) (hb : Below W.heap.size W W') : W'.cell? p = some x ∧ W'.cell? q = some y ∧ Below w.heap.size w W' :=
 ⟨cell_later hb h.1, cell_later hb h.2.1, h.2.2.trans (hb.mono h.2.2.size)⟩
set_option maxHeartbeats 1000000 in
theorem window_low (s : Value) (ns : List Nat) (low at' : Int) (w : World) (h : Ws w s ns) (hlt : at' < low) (h1 : -1000000000 ≤ at') (h2 : low ≤ 1000000000) :
   Calls Tryd.prog 49 #[.agg #[s, .int .i64 low], .int .i64 at'] w fun e w' => e = .returned (.int .u64 (IntKind.u64.wrap ((ns.getD 0 0 : Nat) * 2 ^ min (low - at').toNat 64))) ∧ Below w.heap.size w w' := by
 obtain ⟨a, cap, rfl, _, hc⟩ := h.shape
 have hw1 : IntKind.i64.wrap (low - at') = low - at' := wrapI _ (by omega) (by omega)
 have hw2 : at' ≤ low := by omega
 go_enter Tryd.func49, Tryd.ntmps49
 go_wp2
 go_region_held3 (fun w' => w'.cell? ⟨w.heap.size, 0, none⟩ = some (.slice a ns.length cap) ∧ w'.cell? ⟨w.heap.size, 1, none⟩ = some (.int .i64 low) ∧ Below w.heap.size w w')
   (first | exact ⟨by simp, by simp, ((Below.refl _ _).alloc (Nat.le_refl _) _).drew⟩ | exact ⟨cell_later (by assumption) (by simp), cell_later (by assumption) (by simp), (((Below.refl _ _).alloc (Nat.le_refl _) _).drew).trans ((by assumption : Below _ _ _).mono (by simp))⟩ | (trace_state; fail))
   (first | (go_at_call 62; refine (word_any _ ns _ _ _ ?_ ?_).mono ?_; exact h.later (((Below.refl _ _).alloc (Nat.le_refl _) _).drew) (Nat.le_refl _); omega; rintro e w' ⟨rfl, hb⟩))
 go_wp2
 go_ret
 exact ⟨rfl, (by assumption : _ ∧ _ ∧ _).2.2⟩
set_option maxHeartbeats 1000000 in
theorem window_high (s : Value) (ns : List Nat) (low : Int) (k p r : Nat) (w : World) (h : Ws w s ns) (h3 : k ≤ 1000000000) (hp : p = k / 64) (hr : r = k % 64) :
   Calls Tryd.prog 49 #[.agg #[s, .int .i64 low], .int .i64 (low + k)] w fun e w' => e = .returned (.int .u64 (bits .or .u64 ((ns.getD p 0 : Nat) / 2 ^ min r 64) (IntKind.u64.wrap ((ns.getD (p + 1) 0 : Nat) * 2 ^ min (64 - r) 64)))) ∧ Below w.heap.size w w' := by
 obtain ⟨a, cap, rfl, _, hc⟩ := h.shape
 have hw0 : ¬ (low + (k : Int)) < low := by omega
 have hw1 : IntKind.i64.wrap (low + (k : Int) - low) = (k : Int) := by rw [show low + (k : Int) - low = (k : Int) by omega]; exact wrapI _ (by omega) (by omega)
 have hw3 : (k : Int) ≤ 1000000000 := by omega
 have hq1 : IntKind.i64.wrap ((k : Int) / 64) = (p : Int) := by rw [wrapI _ (by omega) (by omega)]; omega
 have hq2 : (k : Int).tmod 64 = (r : Int) := by rw [Int.tmod_eq_emod_of_nonneg (by omega)]; omega
 have hq3 : IntKind.i64.wrap ((p : Int) + 1) = (p : Int) + 1 := wrapI _ (by omega) (by omega)
 have hq4 : IntKind.i64.wrap (64 - (r : Int)) = 64 - (r : Int) := wrapI _ (by omega) (by omega)
 have hq5 : (r : Int) ≤ 64 := by omega
 have hq6 : (64 - (r : Int)).toNat = 64 - r := by omega
 clear hp hr
 go_enter Tryd.func49, Tryd.ntmps49
 go_wp2
 go_region_held3 (fun w' => w'.cell? ⟨w.heap.size, 0, none⟩ = some (.slice a ns.length cap) ∧ w'.cell? ⟨w.heap.size, 1, none⟩ = some (.int .i64 low) ∧ Below w.heap.size w w')
   (first | exact ⟨by simp, by simp, ((Below.refl _ _).alloc (Nat.le_refl _) _).drew⟩)
   (fail)
 go_wp2
 go_region_held3 (fun w' => w'.cell? ⟨w.heap.size, 0, none⟩ = some (.slice a ns.length cap) ∧ w'.cell? ⟨w.heap.size, 1, none⟩ = some (.int .i64 low) ∧ Below w.heap.size w w')
   (first
      | exact ⟨by simp, by simp, ((Below.refl _ _).alloc (Nat.le_refl _) _).drew.drew⟩
      | exact ⟨cell_later (by assumption) (by simp [*]), cell_later (by assumption) (by simp [*]), (((Below.refl _ _).alloc (Nat.le_refl _) _).drew.drew).trans ((by assumption : Below _ _ _).mono (by simp))⟩
      | exact keep2 (by assumption) (by assumption))
   (first | (go_at_call 62; refine (word_any _ ns _ _ _ ?_ ?_).mono ?_; (first | exact h.later (((Below.refl _ _).alloc (Nat.le_refl _) _).drew.drew) (Nat.le_refl _) | exact h.later ((by assumption : _ ∧ _ ∧ _).2.2) (Nat.le_refl _)); omega; rintro e w' ⟨rfl, hb⟩))
 go_wp2
 go_ret
 refine ⟨?_, (by assumption : _ ∧ _ ∧ _).2.2⟩
 have e1 : min r 64 = r := by omega
 have e2 : min (64 - r) 64 = 64 - r := by omega
 rw [e1, e2]
 rfl
theorem window_any (s : Value) (ns : List Nat) (low at' : Int) (w : World) (h : Ws w s ns) (h1 : -400000000 ≤ low) (h2 : low ≤ 400000000) (h3 : -400000000 ≤ at') (h4 : at' ≤ 400000000) :
   Calls Tryd.prog 49 #[.agg #[s, .int .i64 low], .int .i64 at'] w fun e w' => e = .returned (.int .u64 (win ns low at' : Nat)) ∧ Below w.heap.size w w' := by
 by_cases hlt : at' < low
 · refine (window_low s ns low at' w h hlt (by omega) (by omega)).mono fun e w' he => ⟨he.1.trans ?_, he.2⟩
   rw [IntKind.wrap_u64]
   unfold win
   rw [if_pos hlt, ← win_low_eq, castMul]
 · obtain ⟨k, hk⟩ : ∃ k : Nat, at' = low + (k : Int) := ⟨(at' - low).toNat, by omega⟩
   subst hk
   refine (window_high s ns low k _ _ w h (by omega) rfl rfl).mono fun e w' he => ⟨he.1.trans ?_, he.2⟩
   have hs : Small ns := h.small
   unfold win
   rw [if_neg hlt, show (low + (k : Int) - low).toNat = k by omega, ← win_high_eq hs, IntKind.wrap_u64]
   have e1 : min (k % 64) 64 = k % 64 := by omega
   have e2 : min (64 - k % 64) 64 = 64 - k % 64 := by omega
   have b1 : ns.getD (k / 64) 0 / 2 ^ (k % 64) < 18446744073709551616 := Nat.lt_of_le_of_lt (Nat.div_le_self _ _) (small_getD hs _)
   have b2 : ns.getD (k / 64 + 1) 0 * 2 ^ (64 - k % 64) % 18446744073709551616 < 18446744073709551616 := Nat.mod_lt _ (by omega)
   rw [e1, e2, ← u64_or_nat _ _ b1 b2, castMul, castDiv]
end
end Go.Proofs.YtejhinjanjlplaaDoor
