/- EftTurned's walk. -/
import Derived.Test.YtfnjlkhgjlihoabEx
namespace Go.Proofs.Ytfnjlkhgjlihoab
open Go.RowKit

theorem fin_tame {a b : Nat} (h : TameW a b) : Fin64 a ∧ Fin64 b := by
  obtain ⟨h1, h2⟩ := h
  unfold Fin64
  omega
theorem fin_safe {a b : Nat} (h : SafeP a b) : Fin64 a ∧ Fin64 b := by
  obtain ⟨h1, h2⟩ := h
  unfold SafeW at h1 h2
  unfold Fin64
  omega

set_option maxHeartbeats 4000000 in
theorem turned_walk (a b : Nat) (w : World) (ha : a < 18446744073709551616) (hb : b < 18446744073709551616) : Calls Try.prog 7 #[.float .f64 a, .float .f64 b] w fun e w' => e = .returned (.bool true) ∧ Below w.heap.size w w' := by
  have H : Hid (a < 18446744073709551616 ∧ b < 18446744073709551616) := ⟨ha, hb⟩
  have na := run_negF a ha
  have nb := run_negF b hb
  clear ha hb
  go_enter Try.func7, Try.ntmps7
  go_wp2_with fail
  refine (sum_pair a b _ H.out.1 H.out.2).mono ?_
  rintro e w1 ⟨⟨x, y, rfl, hp1⟩, hb1⟩
  have P1 : Hid _ := hp1
  have HB1 : Hid (Below w.heap.size w w1) := hb1
  clear hp1 hb1
  go_wp2_with fail
  refine (sum_pair b a _ H.out.2 H.out.1).mono ?_
  rintro e w2 ⟨⟨v, z, rfl, hp2⟩, hb2⟩
  have P2 : Hid _ := hp2
  have HB2 : Hid (Below w.heap.size w w2) := HB1.out.trans (hb2.mono HB1.out.size)
  clear hp2 hb2
  go_wp2_with fail
  refine (sum_pair (fflip a) (fflip b) _ (flip_lt H.out.1) (flip_lt H.out.2)).mono ?_
  rintro e w3 ⟨⟨p, q, rfl, hp3⟩, hb3⟩
  have P3 : Hid _ := hp3
  have HB3 : Hid (Below w.heap.size w w3) := HB2.out.trans (hb3.mono HB2.out.size)
  clear hp3 hb3
  obtain ⟨o1, o2⟩ := pair_eq P1.out P2.out ⟨fun h => ⟨h.2, h.1⟩, fun h => ⟨h.2, h.1⟩⟩ (fun _ => by grind)
  replace o1 := beq_iff_eq.1 o1
  replace o2 := beq_iff_eq.1 o2
  obtain ⟨o3, o4⟩ := pair_neg P1.out P3.out (by unfold TameW; rw [frung_flip H.out.1, frung_flip H.out.2]) (fun h => by rw [fval_flip H.out.1 (fin_tame h).1, fval_flip H.out.2 (fin_tame h).2]; grind)
  replace o3 := beq_iff_eq.1 o3
  replace o4 := beq_iff_eq.1 o4
  have nx := run_negF x P1.out.2.2.1
  have ny := run_negF y P1.out.2.2.2.1
  go_wp2_with fail
  refine (diff_pair a b _ H.out.1 H.out.2).mono ?_
  rintro e w4 ⟨⟨x4, y4, rfl, hp4⟩, hb4⟩
  have P4 : Hid _ := hp4
  have HB4 : Hid (Below w.heap.size w w4) := HB3.out.trans (hb4.mono HB3.out.size)
  clear hp4 hb4 P1 P2 P3 o1 o2 o3 o4 nx ny
  go_wp2_with fail
  refine (diff_pair b a _ H.out.2 H.out.1).mono ?_
  rintro e w5 ⟨⟨v5, z5, rfl, hp5⟩, hb5⟩
  have P5 : Hid _ := hp5
  have HB5 : Hid (Below w.heap.size w w5) := HB4.out.trans (hb5.mono HB4.out.size)
  clear hp5 hb5
  obtain ⟨o5, o6⟩ := pair_neg P5.out P4.out ⟨fun h => ⟨h.2, h.1⟩, fun h => ⟨h.2, h.1⟩⟩ (fun _ => by grind)
  replace o5 := beq_iff_eq.1 o5
  replace o6 := beq_iff_eq.1 o6
  have nv5 := run_negF v5 P5.out.2.2.1
  have nz5 := run_negF z5 P5.out.2.2.2.1
  go_wp2_with fail
  refine (prod_pair a b _ H.out.1 H.out.2).mono ?_
  rintro e w6 ⟨⟨x6, y6, rfl, hp6⟩, hb6⟩
  have P6 : Hid _ := hp6
  have HB6 : Hid (Below w.heap.size w w6) := HB5.out.trans (hb6.mono HB5.out.size)
  clear hp6 hb6 P4 P5 o5 o6 nv5 nz5
  go_wp2_with fail
  refine (prod_pair b a _ H.out.2 H.out.1).mono ?_
  rintro e w7 ⟨⟨v7, z7, rfl, hp7⟩, hb7⟩
  have P7 : Hid _ := hp7
  have HB7 : Hid (Below w.heap.size w w7) := HB6.out.trans (hb7.mono HB6.out.size)
  clear hp7 hb7
  go_wp2_with fail
  refine (prod_pair (fflip a) b _ (flip_lt H.out.1) H.out.2).mono ?_
  rintro e w8 ⟨⟨p8, q8, rfl, hp8⟩, hb8⟩
  have P8 : Hid _ := hp8
  have HB8 : Hid (Below w.heap.size w w8) := HB7.out.trans (hb8.mono HB7.out.size)
  clear hp8 hb8
  obtain ⟨o7, o8⟩ := pair_eq P6.out P7.out ⟨fun h => ⟨h.2, h.1⟩, fun h => ⟨h.2, h.1⟩⟩ (fun _ => by grind)
  replace o7 := beq_iff_eq.1 o7
  replace o8 := beq_iff_eq.1 o8
  obtain ⟨o9, o10⟩ := pair_neg P6.out P8.out (by unfold SafeP; rw [frung_flip H.out.1]) (fun h => by rw [fval_flip H.out.1 (fin_safe h).1]; grind)
  replace o9 := beq_iff_eq.1 o9
  replace o10 := beq_iff_eq.1 o10
  have nx6 := run_negF x6 P6.out.2.2.1
  have ny6 := run_negF y6 P6.out.2.2.2.1
  clear P6 P7 P8
  go_wp2_with fail
  refine (awake_any _).mono ?_
  rintro e w9 ⟨rfl, hb9⟩
  have HB9 : Hid (Below w.heap.size w w9) := HB8.out.trans (hb9.mono HB8.out.size)
  clear hb9
  go_wp2
  go_ret
  exact ⟨rfl, HB9.out⟩

end Go.Proofs.Ytfnjlkhgjlihoab
