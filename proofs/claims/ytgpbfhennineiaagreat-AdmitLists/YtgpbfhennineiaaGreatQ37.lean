/- Own texts, put together: Cqa. -/
import Derived.Test.YtgpbfhennineiaaGreatQ33
/- The document's side of layer 5: Left. -/
namespace Go.Proofs.YtgpbfhennineiaaGreat
open Go.RowKit Go.Shelf
attribute [local go_sem] run_store_float
set_option maxRecDepth 100000 in
set_option maxHeartbeats 2000000 in
theorem left5_any (ax ay bx by' cx cy : Nat) (w : World) (hw : W6 ax ay bx by' cx cy) :
   Calls Tryz.prog 31 #[pv ax ay, pv bx by', pv cx cy] w fun e w' => e = .returned (.int .i64 (sg3 ax ay bx by' cx cy)) ∧ Below w.heap.size w w' := by
 have HW : Hid (W6 ax ay bx by' cx cy) := hw
 clear hw
 have HS : Hid (B3 w (((w.alloc (.cells #[.float .f64 ax, .float .f64 ay] 32)).alloc (.cells #[.float .f64 bx, .float .f64 by'] 32)).alloc (.cells #[.float .f64 cx, .float .f64 cy] 32)) ax ay bx by' cx cy) := B3.start w ax ay bx by' cx cy
 go_enter Tryz.func31, Tryz.ntmps31
 go_wp2_with fail
 refine (may_any ax ay _ HW.out.1).mono ?_
 rintro e w1 ⟨⟨t, rfl, ht⟩, hb⟩
 have H1 : Hid (B3 w w1 ax ay bx by' cx cy) := HS.out.later hb
 have HT1 : Hid (t = true ↔ Pt ax ay) := ht
 clear ht hb
 obtain ⟨x0, x1, x2, x3, x4, x5, _⟩ := H1.out
 cases t
 · go_wp2
   go_ret
   exact ⟨by rw [sg3_no (fun h => Bool.noConfusion (HT1.out.2 h.1))]; rfl, H1.out.bel⟩
 have HA1 : Hid (Pt ax ay) := HT1.out.1 rfl
 go_wp2_with fail
 refine (may_any bx by' _ HW.out.2.1).mono ?_
 rintro e w2 ⟨⟨t, rfl, ht⟩, hb⟩
 have H2 : Hid (B3 w w2 ax ay bx by' cx cy) := H1.out.later hb
 have HT2 : Hid (t = true ↔ Pt bx by') := ht
 clear ht hb x0 x1 x2 x3 x4 x5
 obtain ⟨x0, x1, x2, x3, x4, x5, _⟩ := H2.out
 cases t
 · go_wp2
   go_ret
   exact ⟨by rw [sg3_no (fun h => Bool.noConfusion (HT2.out.2 h.2.1))]; rfl, H2.out.bel⟩
 have HA2 : Hid (Pt bx by') := HT2.out.1 rfl
 go_wp2_with fail
 refine (may_any cx cy _ HW.out.2.2).mono ?_
 rintro e w3 ⟨⟨t, rfl, ht⟩, hb⟩
 have H3 : Hid (B3 w w3 ax ay bx by' cx cy) := H2.out.later hb
 have HT3 : Hid (t = true ↔ Pt cx cy) := ht
 clear ht hb x0 x1 x2 x3 x4 x5
 obtain ⟨x0, x1, x2, x3, x4, x5, _⟩ := H3.out
 cases t
 · go_wp2
   go_ret
   exact ⟨by rw [sg3_no (fun h => Bool.noConfusion (HT3.out.2 h.2.2))]; rfl, H3.out.bel⟩
 have HA3 : Hid (Pt cx cy) := HT3.out.1 rfl
 have HP : Hid (P3 ax ay bx by' cx cy) := ⟨HA1.out, HA2.out, HA3.out⟩
 go_wp2_with fail
 refine (turn_rf ax ay bx by' cx cy _ HW.out HP.out).mono ?_
 rintro e w4 ⟨v4, rfl, hr4, hb4⟩
 obtain ⟨S4, a4, n4, c4, E4, rfl, hs⟩ := hr4.sgn
 have HSG : Hid (S4 = sgq (S3 ax ay bx by' cx cy)) := sgq_of hs
 have fd : ∀ w, (Instr.field 55 (.agg #[.int .i64 S4, .slice a4 n4 c4, .int .i64 E4]) 0).run Tryz.prog w = .ok (.int .i64 S4) w := fun _ => by kernel_rfl
 clear hs
 have HB4 : Hid (Below w.heap.size w w4) := below_step H3.out.bel hb4
 clear hr4 hb4 x0 x1 x2 x3 x4 x5
 go_wp2
 go_ret
 exact ⟨by rw [sg3_yes HP.out, ← HSG.out]; rfl, HB4.out⟩
end Go.Proofs.YtgpbfhennineiaaGreat
