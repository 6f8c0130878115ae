/- Own texts, put together: Na. -/
import Derived.Test.YtlpnobcapdbfkaaDoorQ4
import Derived.Test.YtlpnobcapdbfkaaDoorQ9
import Derived.Test.YtlpnobcapdbfkaaDoorQ10
import Derived.Test.YtlpnobcapdbfkaaDoorQ11
/- Numbers in memory, and the walk of number: a magnitude and a sign become a number, or none. -/
namespace Go.Proofs.YtlpnobcapdbfkaaDoor
open Go.RowKit
attribute [local go_sem ↓] Go.wp_at_zero Go.wp_at_succ
def sg (b : Bool) : Rat := if b then -1 else 1
def IsNum (w : World) (v : Value) (x : Option Rat) : Prop :=
 ∃ a ns c low neg nn, v = .agg #[.slice a (List.length ns) c, .int .i64 low, .bool neg, .bool nn] ∧ Ws w (.slice a (List.length ns) c) ns ∧ OwnF ns low ∧ -65536 ≤ low ∧ hiB ns low ≤ 65536 ∧ (ns = [] → neg = false) ∧
   (nn = true → ns = [] ∧ x = none) ∧ (nn = false → x = some (sg neg * magR ns low))
theorem IsNum.later {w w' : World} {v : Value} {x : Option Rat} (h : IsNum w v x) (hb : Below w.heap.size w w') : IsNum w' v x := by
 obtain ⟨a, ns, c, low, neg, nn, h1, h2, h3⟩ := h
 exact ⟨a, ns, c, low, neg, nn, h1, h2.later hb (Nat.le_refl _), h3⟩
def Norm (q : Rat) (x : Option Rat) : Prop := (May q ∧ x = some q) ∨ (¬ May q ∧ x = none)
def NumR (w w' : World) (q : Rat) (e : Ending) : Prop := ∃ v x, e = .returned v ∧ IsNum w' v x ∧ Norm q x ∧ Below w.heap.size w w'
theorem isNum_none (w : World) : IsNum w (.agg #[.slice none 0 0, .int .i64 0, .bool false, .bool true]) none :=
 ⟨none, [], 0, 0, false, true, rfl, ⟨⟨_, _, rfl, Nat.le_refl _, Or.inl rfl⟩, fun n hn => by simp at hn, by simp⟩, Or.inl ⟨rfl, rfl⟩, by omega, by simp [hiB], fun _ => rfl, fun _ => ⟨rfl, rfl⟩, fun h => by cases h⟩
theorem may_sg {ns : List Nat} {low : Int} {b : Bool} : May (sg b * magR ns low) ↔ May (magR ns low) := by
 unfold sg
 cases b
 · simp
 · simp only [if_true]
   constructor
   · intro h; have := may_neg h; rwa [show -(-1 * magR ns low) = magR ns low by grind] at this
   · intro h; have := may_neg h; rwa [show -1 * magR ns low = -magR ns low by grind]
theorem magR_nil (low : Int) : magR [] low = 0 := by simp [magR, val]
set_option maxHeartbeats 2000000 in
theorem number_out (a : Option Addr) (c : Nat) (ns : List Nat) (low : Int) (neg : Bool) (w : World) (h : Ws w (.slice a ns.length c) ns) (o : OwnF ns low) (b1 : -200000000 ≤ low) (b2 : low ≤ 200000000) (hm : ¬ (hiB ns low ≤ 65536 ∧ -65536 ≤ low)) :
   Calls Tryd.prog 21 #[.agg #[.slice a ns.length c, .int .i64 low], .bool neg] w fun e w' => e = .returned (.agg #[.slice none 0 0, .int .i64 0, .bool false, .bool true]) ∧ Below w.heap.size w w' := by
 have HB0 : Hid (Below w.heap.size w ((w.alloc (.cells #[.slice a ns.length c, .int .i64 low] 25)).alloc (.cells #[.slice none 0 0, .int .i64 0, .bool false, .bool false] 27))) := ((Below.refl _ _).alloc (Nat.le_refl _) _).alloc (by simp) _
 have H : Hid (Ws w (.slice a ns.length c) ns) := h
 have HO : Hid _ := o
 clear h o
 go_enter Tryd.func21, Tryd.ntmps21
 go_wp2_with fail
 refine (highest_any _ ns _ _ (H.out.later HB0.out (Nat.le_refl _)) (own_topped HO.out) (by omega) (by omega)).mono ?_
 rintro e w1 ⟨rfl, hb1⟩
 have x0 : w1.cell? ⟨w.heap.size, 0, none⟩ = some (.slice a ns.length c) := cell_later hb1 (by go_simp)
 have x1 : w1.cell? ⟨w.heap.size, 1, none⟩ = some (.int .i64 low) := cell_later hb1 (by go_simp)
 have r0 : w1.cell? ⟨w.heap.size + 1, 0, none⟩ = some (.slice none 0 0) := cell_later hb1 (by go_simp)
 have r1 : w1.cell? ⟨w.heap.size + 1, 1, none⟩ = some (.int .i64 0) := cell_later hb1 (by go_simp)
 have r2 : w1.cell? ⟨w.heap.size + 1, 2, none⟩ = some (.bool false) := cell_later hb1 (by go_simp)
 have r3 : w1.cell? ⟨w.heap.size + 1, 3, none⟩ = some (.bool false) := cell_later hb1 (by go_simp)
 have f0 : ∀ i, w1.frozen? ⟨w.heap.size + 1, i, none⟩ = false := fun i => frozen_later hb1 (by go_simp) (by simp)
 have HB1 : Hid (Below w.heap.size w w1) := thru HB0.out hb1
 have hsz : w.heap.size + 1 < w1.heap.size := by have := hb1.size; simp at this; omega
 clear hb1 HB0
 generalize hiB ns low = hi at *
 by_cases hh : 65536 < hi
 · go_wp2
   refine bodyPost_ret (v := .agg #[.slice none 0 0, .int .i64 0, .bool false, .bool true]) (by simp [results, Tryd.results21, go_sem, r0, r1, r2, r3]) rfl ⟨rfl, ?_⟩
   repeat (first | exact HB1.out | refine Below.setCell ?_ (by simp) _)
 · have hlo : low < -65536 := by omega
   go_wp2_with fail
   refine (lowest_any _ _ _ _ _).mono ?_
   rintro e w2 ⟨rfl, hb2⟩
   have q0 := cell_later hb2 r0
   have q1 := cell_later hb2 r1
   have q2 := cell_later hb2 r2
   have q3 := cell_later hb2 r3
   have g0 : ∀ i, w2.frozen? ⟨w.heap.size + 1, i, none⟩ = false := fun i => frozen_later hb2 (f0 i) hsz
   have HB2 : Hid (Below w.heap.size w w2) := thru HB1.out hb2
   clear hb2 r0 r1 r2 r3 f0 HB1 x0 x1
   go_wp2
   refine bodyPost_ret (v := .agg #[.slice none 0 0, .int .i64 0, .bool false, .bool true]) (by simp [results, Tryd.results21, go_sem, q0, q1, q2, q3]) rfl ⟨rfl, ?_⟩
   repeat (first | exact HB2.out | refine Below.setCell ?_ (by simp) _)
set_option maxHeartbeats 2000000 in
theorem number_in (a : Option Addr) (c : Nat) (ns : List Nat) (low : Int) (neg : Bool) (w : World) (h : Ws w (.slice a ns.length c) ns) (o : OwnF ns low) (b1 : -65536 ≤ low) (b2 : low ≤ 200000000) (hm : hiB ns low ≤ 65536) :
   Calls Tryd.prog 21 #[.agg #[.slice a ns.length c, .int .i64 low], .bool neg] w fun e w' => e = .returned (.agg #[.slice a ns.length c, .int .i64 low, .bool (neg && !((ns.length : Int) == 0)), .bool false]) ∧ Ws w' (.slice a ns.length c) ns ∧ Below w.heap.size w w' := by
 have HB0 : Hid (Below w.heap.size w ((w.alloc (.cells #[.slice a ns.length c, .int .i64 low] 25)).alloc (.cells #[.slice none 0 0, .int .i64 0, .bool false, .bool false] 27))) := ((Below.refl _ _).alloc (Nat.le_refl _) _).alloc (by simp) _
 have H : Hid (Ws w (.slice a ns.length c) ns) := h
 have HO : Hid _ := o
 clear h o
 go_enter Tryd.func21, Tryd.ntmps21
 go_wp2_with fail
 refine (highest_any _ ns _ _ (H.out.later HB0.out (Nat.le_refl _)) (own_topped HO.out) (by omega) (by omega)).mono ?_
 rintro e w1 ⟨rfl, hb1⟩
 have x0 : w1.cell? ⟨w.heap.size, 0, none⟩ = some (.slice a ns.length c) := cell_later hb1 (by go_simp)
 have x1 : w1.cell? ⟨w.heap.size, 1, none⟩ = some (.int .i64 low) := cell_later hb1 (by go_simp)
 have r0 : w1.cell? ⟨w.heap.size + 1, 0, none⟩ = some (.slice none 0 0) := cell_later hb1 (by go_simp)
 have r1 : w1.cell? ⟨w.heap.size + 1, 1, none⟩ = some (.int .i64 0) := cell_later hb1 (by go_simp)
 have r2 : w1.cell? ⟨w.heap.size + 1, 2, none⟩ = some (.bool false) := cell_later hb1 (by go_simp)
 have r3 : w1.cell? ⟨w.heap.size + 1, 3, none⟩ = some (.bool false) := cell_later hb1 (by go_simp)
 have f0 : ∀ i, w1.frozen? ⟨w.heap.size + 1, i, none⟩ = false := fun i => frozen_later hb1 (by go_simp) (by simp)
 have HB1 : Hid (Below w.heap.size w w1) := thru HB0.out hb1
 have hsz : w.heap.size + 1 < w1.heap.size := by have := hb1.size; simp at this; omega
 clear hb1 HB0
 generalize hiB ns low = hi at *
 have hh : ¬ 65536 < hi := by omega
 have hlo : ¬ low < -65536 := by omega
 go_wp2_with fail
 refine (lowest_any _ _ _ _ _).mono ?_
 rintro e w2 ⟨rfl, hb2⟩
 have q0 := cell_later hb2 r0
 have q1 := cell_later hb2 r1
 have q2 := cell_later hb2 r2
 have q3 := cell_later hb2 r3
 have y0 := cell_later hb2 x0
 have y1 := cell_later hb2 x1
 have g0 : ∀ i, w2.frozen? ⟨w.heap.size + 1, i, none⟩ = false := fun i => frozen_later hb2 (f0 i) hsz
 have HB2 : Hid (Below w.heap.size w w2) := thru HB1.out hb2
 have hsz2 : w.heap.size + 1 < w2.heap.size := Nat.lt_of_lt_of_le hsz hb2.size
 clear hb2 r0 r1 r2 r3 f0 HB1 x0 x1 hsz
 cases neg with
 | false =>
   go_wp2
   go_region
   go_wp2
   refine bodyPost_ret (v := .agg #[.slice a ns.length c, .int .i64 low, .bool (false && !((ns.length : Int) == 0)), .bool false]) (by simp [results, Tryd.results21, go_sem, q0, q1, q2, q3]) rfl ?_
   refine ⟨rfl, H.out.later (B := w.heap.size) ?_ (Nat.le_refl _), ?_⟩
   all_goals repeat (first | exact HB2.out | refine Below.drew ?_ | refine Below.setCell ?_ (by simp) _)
 | true =>
   go_wp2
   go_region_held3 (fun W => W.cell? ⟨w.heap.size, 0, none⟩ = some (.slice a ns.length c) ∧ W.cell? ⟨w.heap.size, 1, none⟩ = some (.int .i64 low) ∧ Below w.heap.size w W)
     (first
       | assumption
       | exact ⟨y0, y1, HB2.out.drew⟩
       | exact keep2 (by assumption) (by assumption)
       | exact keep2_set (keep2_set (keep2_set (keep2_set (by assumption) _ _ (by simp) (by simp) (by simp)) _ _ (by simp) (by simp) (by simp)) _ _ (by simp) (by simp) (by simp)) _ _ (by simp) (by simp) (by simp))
     (first
       | (go_at_call 23; refine (isZero_any _ _ _ _ _).mono ?_; rintro e w3 ⟨rfl, hb3⟩; have t0 : w3.cell? ⟨w.heap.size + 1, 0, none⟩ = some (.slice none 0 0) := cell_later hb3 q0; have t1 : w3.cell? ⟨w.heap.size + 1, 1, none⟩ = some (.int .i64 0) := cell_later hb3 q1; have t2 : w3.cell? ⟨w.heap.size + 1, 2, none⟩ = some (.bool false) := cell_later hb3 q2; have t3 : w3.cell? ⟨w.heap.size + 1, 3, none⟩ = some (.bool false) := cell_later hb3 q3; have u0 : ∀ i, w3.frozen? ⟨w.heap.size + 1, i, none⟩ = false := fun i => frozen_later hb3 (g0 i) hsz2))
   go_wp2
   refine bodyPost_ret (v := .agg #[.slice a ns.length c, .int .i64 low, .bool (true && !((ns.length : Int) == 0)), .bool false]) (by simp [results, Tryd.results21, go_sem, t0, t1, t2, t3]) rfl ?_
   have hB := (by assumption : _ ∧ _ ∧ Below w.heap.size w _).2.2
   exact ⟨rfl, H.out.later (B := w.heap.size) hB (Nat.le_refl _), hB⟩
theorem number_any (s : Value) (ns : List Nat) (low : Int) (neg : Bool) (w : World) (h : Ws w s ns) (o : OwnF ns low) (b1 : -200000000 ≤ low) (b2 : low ≤ 200000000) :
   Calls Tryd.prog 21 #[.agg #[s, .int .i64 low], .bool neg] w fun e w' => NumR w w' (sg neg * magR ns low) e := by
 obtain ⟨a, c, rfl, _, _⟩ := h.shape
 by_cases hm : hiB ns low ≤ 65536 ∧ -65536 ≤ low
 · refine (number_in a c ns low neg w h o hm.2 b2 hm.1).mono ?_
   rintro e w' ⟨rfl, hw, hb⟩
   refine ⟨_, some (sg neg * magR ns low), rfl, ⟨a, ns, c, low, _, false, rfl, hw, o, hm.2, hm.1, ?_, (fun h => by cases h), fun _ => ?_⟩, Or.inl ⟨may_sg.2 ((may_iff o).1 hm), rfl⟩, hb⟩
   · rintro rfl; simp
   · by_cases hne : ns = []
     · subst hne; rw [magR_nil]; simp
     · have hz : ((ns.length : Int) == 0) = false := by rw [beq_eq_false_iff_ne]; have := List.length_pos_iff.2 hne; omega
       rw [hz]; simp
 · refine (number_out a c ns low neg w h o b1 b2 hm).mono ?_
   rintro e w' ⟨rfl, hb⟩
   exact ⟨_, none, rfl, isNum_none w', Or.inr ⟨fun h => hm ((may_iff o).2 (may_sg.1 h)), rfl⟩, hb⟩
end Go.Proofs.YtlpnobcapdbfkaaDoor
