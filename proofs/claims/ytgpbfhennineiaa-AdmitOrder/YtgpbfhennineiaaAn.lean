import Derived.Test.YtgpbfhennineiaaQ3
import Derived.Test.YtgpbfhennineiaaQ25
import Derived.Test.YtgpbfhennineiaaQ29
/- AdmitOrder. -/
namespace Go.Proofs.Ytgpbfhennineiaa
open Go.RowKit Go.Shelf Go.Sort Go.Lib
attribute [local go_sem ↓] Go.wp_at_zero Go.wp_at_succ
attribute [local go_sem] run_store_float
structure OI (w W : World) (R1 R2 n : Nat) (f : Nat → Nat × Nat) (os : List Nat) : Prop where
 o : IRow W R1 n (fun k => (os.getD k 0 : Nat))
 t : IRow W R2 n (fun k => (tw f k : Nat))
 bel : Below w.heap.size w W
theorem OI.later {w W W' : World} {R1 R2 n : Nat} {f : Nat → Nat × Nat} {os : List Nat} (h : OI w W R1 R2 n f os) (hb : Below W.heap.size W W') : OI w W' R1 R2 n f os := ⟨h.o.later hb, h.t.later hb, below_step h.bel hb⟩
theorem IRow.but {W W' : World} {g n R : Nat} {c : Nat → Int} (h : IRow W g n c) (hb : But W W' R) (hn : g ≠ R) : IRow W' g n c := h.block (hb.block g h.lt hn) hb.size
theorem OI.but {w W W' : World} {R R1 R2 n : Nat} {f : Nat → Nat × Nat} {os : List Nat} (h : OI w W R1 R2 n f os) (hb : But W W' R) (h1 : R1 ≠ R) (h2 : R2 ≠ R) (hR : w.heap.size ≤ R) : OI w W' R1 R2 n f os := ⟨h.o.but hb h1, h.t.but hb h2, hb.below h.bel hR⟩
theorem seen_step {f : Nat → Nat × Nat} {n : Nat} {os : List Nat} (h : Ord f n os) (i : Nat) (hi : i < n) {x : Nat} (hx : os.getD i 0 = x) (j : Nat) : (if j = x then (1 : Int) else if j ∈ os.take i then 1 else 0) = if j ∈ os.take (i + 1) then 1 else 0 := by
 have hl : i < os.length := by rw [h.len]; exact hi
 have e : os[i] = x := by rw [← hx]; simp [List.getD, hl]
 rw [List.take_succ_eq_append_getElem hl, e]
 by_cases hj : j = x <;> simp [hj]
theorem seen_not {f : Nat → Nat × Nat} {n : Nat} {os : List Nat} (h : Ord f n os) (i : Nat) (hi : i < n) {x : Nat} (hx : os.getD i 0 = x) : x ∉ os.take i := by
 have hl : i < os.length := by rw [h.len]; exact hi
 have e : os[i] = x := by rw [← hx]; simp [List.getD, hl]
 have hn : os.Nodup := by rw [h.perm.nodup_iff]; exact List.nodup_range
 intro hm
 rw [List.mem_take_iff_getElem] at hm
 obtain ⟨k, hk, ek⟩ := hm
 have hk' : k < i := by omega
 rw [← e] at ek
 exact List.pairwise_iff_getElem.1 hn k i (by omega) hl hk' ek
theorem ord_lt {f : Nat → Nat × Nat} {n : Nat} {os : List Nat} (h : Ord f n os) {i x : Nat} (hi : i < n) (hx : os.getD i 0 = x) : x < n := by
 have hl : i < os.length := by rw [h.len]; exact hi
 have := h.lt hl
 rw [← hx]; simpa [List.getD, hl] using this
theorem ord_step {f : Nat → Nat × Nat} {n : Nat} {os : List Nat} (h : Ord f n os) {i x y : Nat} (h0 : i ≠ 0) (hi : i < n) (hx : os.getD i 0 = x) (hy : os.getD (i - 1) 0 = y) : ltO f y x := by
 have hl : i < os.length := by rw [h.len]; exact hi
 have e : os[i] = x := by rw [← hx]; simp [List.getD, hl]
 have e2 : os[i - 1] = y := by rw [← hy]; simp [List.getD, show i - 1 < os.length by omega]
 rw [← e, ← e2]
 exact List.pairwise_iff_getElem.1 h.pw _ _ _ _ (by omega)
theorem cmp_may {n : Nat} {f : Nat → Nat × Nat} (h : MayL n f) {i j : Nat} (hi : i < n) (hj : j < n) {z : Int} (hz : hold (f i) (f j) = z) : (if PtP (f i) ∧ PtP (f j) then hold (f i) (f j) else 0) = z := by
 rw [if_pos ⟨h.2 i hi, h.2 j hj⟩]; exact hz
theorem owns_len {f : Nat → Nat × Nat} {n : Nat} {os : List Nat} (h : Ord f n os) : (os.filter fun i => decide (tw f i = i)).length = (owns f n).length := (h.perm.filter _).length_eq
set_option maxRecDepth 100000 in
set_option maxHeartbeats 8000000 in
theorem order7_law (s : Value) (n : Nat) (f : Nat → Nat × Nat) (w : World) (h : Ps w s n f) : Calls Try.prog 5 #[s] w fun e w' => e = .returned (.bool true) ∧ Below w.heap.size w w' := by
 have HF : Hid (Ps w s n f) := h
 obtain ⟨a, c, rfl, hc, hm⟩ := h.shape
 clear h
 go_enter Try.func5, Try.ntmps5
 go_wp2_with fail
 refine (all_any _ n f w HF.out).mono ?_
 rintro e w1 ⟨⟨z, r, rfl, hr⟩, hb⟩
 have HR : Hid (r = 0 ↔ MayL n f) := hr.ok
 have HB : Hid (Below w.heap.size w w1) := hb
 clear hr hb
 go_wp2_with fail
 refine (works7_any _).mono ?_
 rintro e w2 ⟨rfl, hb⟩
 have HB : Hid (Below w.heap.size w w2) := below_step HB.out hb
 clear hb
 by_cases hbig : 200 < n
 · have hbig' : (200 : Int) < (n : Int) := by omega
   go_wp2_with fail
   refine (works7_any _).mono ?_
   rintro e w3 ⟨rfl, hb⟩
   have HB : Hid (Below w.heap.size w w3) := below_step HB.out hb
   clear hb
   go_wp2
   go_ret
   exact ⟨rfl, HB.out⟩
 · have hbig' : ¬ (200 : Int) < (n : Int) := by omega
   by_cases hr0 : ¬ r = 0
   · have hr1 : (r == 0) = false := by simp [hr0]
     have hr2 : (r != 0) = true := by simp [hr0]
     go_wp2_with fail
     refine (works7_any _).mono ?_
     rintro e w3 ⟨rfl, hb⟩
     have HB : Hid (Below w.heap.size w w3) := below_step HB.out hb
     clear hb
     go_wp2
     go_ret
     exact ⟨rfl, HB.out⟩
   · have hr0 : r = 0 := Classical.not_not.1 hr0
     have HM : Hid (MayL n f) := HR.out.1 hr0
     subst hr0
     clear HR
     have hn : n ≤ 200 := by omega
     clear hbig
     go_wp2_with fail
     refine (order_any _ n f _ (HF.out.later HB.out)).mono ?_
     rintro e w3 ⟨h3, hb3⟩
     rcases h3 with ⟨hh, _⟩ | ⟨_, R1, os, rfl, hR1, ho, hi⟩
     · exact absurd HM.out hh
     have HB3 : Hid (Below w.heap.size w w3) := below_step HB.out hb3
     have HO : Hid (Ord f n os) := ho
     have HI3 : Hid (IRow w3 R1 n (fun k => (os.getD k 0 : Nat))) := hi
     have HR1 : Hid (w.heap.size ≤ R1) := Nat.le_trans HB.out.size hR1
     clear ho hi hR1 hb3 HB
     go_wp2_with fail
     refine (twins_any _ n f _ (HF.out.later HB3.out)).mono ?_
     rintro e w4 ⟨h4, hb4⟩
     rcases h4 with ⟨hh, _⟩ | ⟨_, R2, rfl, hR2, hi⟩
     · exact absurd HM.out hh
     have HOI : Hid (OI w w4 R1 R2 n f os) := ⟨HI3.out.later hb4, hi, below_step HB3.out hb4⟩
     have HR2 : Hid (w.heap.size ≤ R2) := Nat.le_trans HB3.out.size hR2
     clear hi hR2 hb4 HB3 HI3
     have mi := makeInt n (by omega)
     obtain ⟨w5, hw5⟩ : ∃ w5, w4.alloc (.cells (Array.replicate n (Value.int .i64 0)) 3) = w5 := ⟨_, rfl⟩
     have HS0 : Hid (IRow w5 w4.heap.size n (fun _ => 0)) := by rw [← hw5]; exact IRow.made n w4
     have HOI5 : Hid (OI w w5 R1 R2 n f os) := by rw [← hw5]; exact HOI.out.later ((Below.refl _ w4).alloc (Nat.le_refl _) _)
     have HNE : Hid (R1 ≠ w4.heap.size ∧ R2 ≠ w4.heap.size ∧ w.heap.size ≤ w4.heap.size) := ⟨Nat.ne_of_lt HOI.out.o.lt, Nat.ne_of_lt HOI.out.t.lt, HOI.out.bel.size⟩
     obtain ⟨R3, hR3⟩ : ∃ R3, w4.heap.size = R3 := ⟨_, rfl⟩
     rw [hR3] at HS0 HNE
     clear HOI
     go_wp2
     clear hw5 hR3 mi
     go_loopw [8] (fun s8 wr => ∃ i : Nat, i ≤ n ∧ s8 = .int .i64 (i : Nat) ∧ Hid (OI w wr R1 R2 n f os) ∧ Hid (IRow wr R3 n (fun j => if j ∈ os.take i then 1 else 0))) (fun s8 _ => n - (intOf s8).toNat)
     case atStart => exact ⟨0, Nat.zero_le _, rfl, HOI5.out, HS0.out.congr (fun j _ => by simp)⟩
     case round =>
       obtain ⟨i, hi, rfl, HOI, HS⟩ := hrel
       by_cases hlt : i < n
       · have hlt' : (i : Int) < (n : Int) := by omega
         have hi0 : (0 : Int) ≤ (i : Int) := by omega
         obtain ⟨x, hx⟩ : ∃ x, Hid (os.getD i 0 = x) := ⟨_, rfl⟩
         have hxn : x < n := ord_lt HO.out hlt hx.out
         have hxn' : (x : Int) < (n : Int) := by omega
         have hx0 : (0 : Int) ≤ (x : Int) := by omega
         have e0 := (HOI.out.o.cell i hlt).1
         rw [hx.out] at e0
         have e1 := HS.out.cell x hxn
         rw [if_neg (seen_not HO.out i hlt hx.out)] at e1
         obtain ⟨e1, e2⟩ := e1
         obtain ⟨W1, hW1⟩ : ∃ W1, wr.setCell ⟨R3, x, none⟩ (.int .i64 1) = W1 := ⟨_, rfl⟩
         have HOI1 : Hid (OI w W1 R1 R2 n f os) := by rw [← hW1]; exact HOI.out.but (But.setCell _ _ _ _) HNE.out.1 HNE.out.2.1 HNE.out.2.2
         have HS1 : Hid (IRow W1 R3 n (fun j => if j = x then 1 else if j ∈ os.take i then 1 else 0)) := by rw [← hW1]; exact HS.out.set x hxn 1
         by_cases h0 : i = 0
         · subst h0
           go_wp2
           refine ⟨⟨1, by omega, by go_num, HOI1.out, HS1.out.congr (fun j hj => ?_)⟩, by simp [intOf]; omega⟩
           exact seen_step HO.out 0 hlt hx.out j
         · have hi1 : (0 : Int) < (i : Int) := by omega
           have p1 : (1 : Int) ≤ (i : Int) := by omega
           have p2' : (i : Int) - 1 < (n : Int) := by omega
           have p3 : IntKind.i64.wrap ((i : Int) - 1) = (i : Int) - 1 := by rw [IntKind.wrap_i64]; omega
           obtain ⟨y, hy⟩ : ∃ y, Hid (os.getD (i - 1) 0 = y) := ⟨_, rfl⟩
           have hyn : y < n := ord_lt HO.out (by omega) hy.out
           have hyn' : (y : Int) < (n : Int) := by omega
           have hy0 : (0 : Int) ≤ (y : Int) := by omega
           obtain ⟨g, off, rfl, hg, hcell⟩ := HF.out.some (by omega)
           have hL := ord_step HO.out h0 hlt hx.out hy.out
           rcases hL with hL | ⟨hL, hyx⟩
           · have hcz : hold (f y) (f x) = -1 := by have := hold_vals (f y) (f x); omega
             have HYX : Hid (WdP (f y) ∧ WdP (f x) ∧ (if PtP (f y) ∧ PtP (f x) then hold (f y) (f x) else 0) = -1) := ⟨HF.out.word y, HF.out.word x, cmp_may HM.out hyn hxn hcz⟩
             clear hL hcz
             go_wp2_with fail
             clear e0 e1 e2 hW1
             have a1 := (HOI1.out.o.cell (i - 1) (by omega)).1
             have a2 := (HOI1.out.o.cell i hlt).1
             rw [hy.out] at a1
             rw [hx.out] at a2
             have b1 := box_cell HOI1.out.bel (hcell y hyn).1
             have b2 := box_cell HOI1.out.bel (hcell y hyn).2
             have b3 := box_cell HOI1.out.bel (hcell x hxn).1
             have b4 := box_cell HOI1.out.bel (hcell x hxn).2
             clear hcell
             refine wp_region_held_drew (S := (fun W => W.cell? ⟨R1, i - 1, none⟩ = some (.int .i64 (y : Int)) ∧ W.cell? ⟨R1, i, none⟩ = some (.int .i64 (x : Int)) ∧ W.cell? ⟨g, off + y * 2, none⟩ = some (.float .f64 (f y).1) ∧ W.cell? ⟨g, off + y * 2 + 1, none⟩ = some (.float .f64 (f y).2) ∧ W.cell? ⟨g, off + x * 2, none⟩ = some (.float .f64 (f x).1) ∧ W.cell? ⟨g, off + x * 2 + 1, none⟩ = some (.float .f64 (f x).2) ∧ Below W1.heap.size W1 W)) (by kernel_rfl) ⟨a1, a2, b1, b2, b3, b4, (Below.refl _ _).drew⟩ (fun hS => ?_)
             refine takA (i := 0) (d := some 87) (v := .slice (some ⟨g, off, none⟩) n c) hS ?_
             simp only [AP]
             refine takA (i := 1) (d := some 88) (v := .slice (some ⟨R1, 0, none⟩) n n) hS ?_
             simp only [AP]
             refine takA (i := 2) (d := some 89) (v := .int .i64 (i : Int)) hS ?_
             simp only [AP]
             refine takA (i := 3) (d := some 90) (v := .int .i64 ((i : Int) - 1 : Int)) hS ?_
             simp only [AP]
             refine takA (i := 4) (d := some 91) (v := .pointer (some ⟨R1, i - 1, none⟩)) hS ?_
             simp only [AP]
             refine takA (i := 5) (d := some 92) (v := .int .i64 (y : Int)) hS ?_
             simp only [AP]
             refine takA (i := 6) (d := some 93) (v := .pointer (some ⟨g, off + y * 2, none⟩)) hS ?_
             simp only [AP]
             refine takA (i := 7) (d := some 94) (v := .agg #[.float .f64 (f y).1, .float .f64 (f y).2]) hS ?_
             simp only [AP]
             refine takA (i := 8) (d := some 95) (v := .slice (some ⟨g, off, none⟩) n c) hS ?_
             simp only [AP]
             refine takA (i := 9) (d := some 96) (v := .slice (some ⟨R1, 0, none⟩) n n) hS ?_
             simp only [AP]
             refine takA (i := 10) (d := some 97) (v := .int .i64 (i : Int)) hS ?_
             simp only [AP]
             refine takA (i := 11) (d := some 98) (v := .pointer (some ⟨R1, i, none⟩)) hS ?_
             simp only [AP]
             refine takA (i := 12) (d := some 99) (v := .int .i64 (x : Int)) hS ?_
             simp only [AP]
             refine takA (i := 13) (d := some 100) (v := .pointer (some ⟨g, off + x * 2, none⟩)) hS ?_
             simp only [AP]
             refine takA (i := 14) (d := some 101) (v := .agg #[.float .f64 (f x).1, .float .f64 (f x).2]) hS ?_
             simp only [AP]
             refine calA 15 fun KF hK => ?_
             go_simp
             refine (cmp7_any (f y) (f x) _ HYX.out.1 HYX.out.2.1).mono ?_
             rintro e wx ⟨rfl, hbx⟩
             rw [HYX.out.2.2]
             go_wp2_with fail
             refine hK.out _ _ (kp6 hbx hS) ?_
             clear hS hbx
             intro hS
             clear hK KF
             try simp only [AP]
             refine takA (i := 16) (d := some 9) (v := .int .i64 (-1)) hS ?_
             simp only [AP]
             refine wpAnyH_done (by kernel_rfl) ?_ _
             have HB2 : Hid (Below W1.heap.size W1 _) := hS.2.2.2.2.2.2
             have a1 := hS.1
             have a2 := hS.2.1
             clear hS
             generalize hW2 : wx = W2 at *
             clear hW2
             go_wp2_with fail
             refine wp_region_held_drew (S := (fun W => W.cell? ⟨R1, i - 1, none⟩ = some (.int .i64 (y : Int)) ∧ W.cell? ⟨R1, i, none⟩ = some (.int .i64 (x : Int)) ∧ Below W2.heap.size W2 W)) (by kernel_rfl) ⟨a1, a2, (Below.refl _ _).drew⟩ (fun hS => ?_)
             refine takA (i := 0) (d := some 103) (v := .int .i64 (-1)) hS ?_
             simp only [AP]
             refine takA (i := 1) (d := some 104) (v := .bool false) hS ?_
             simp only [AP]
             refine takA (i := 2) (d := some 105) (v := .bool false) hS ?_
             simp only [AP]
             refine takA (i := 3) (d := some 106) (v := .int .i64 (-1)) hS ?_
             simp only [AP]
             refine takA (i := 4) (d := some 107) (v := .bool false) hS ?_
             simp only [AP]
             refine takA (i := 5) (d := some 108) (v := .bool false) hS ?_
             simp only [AP]
             refine skip_at 6 (d := some 109) (by kernel_rfl) (by kernel_rfl) (by kernel_rfl) (by kernel_rfl) (fun _ _ _ h => h) (by rfl) hS ?_
             simp only [AP]
             refine skip_at 7 (d := some 110) (by kernel_rfl) (by kernel_rfl) (by kernel_rfl) (by kernel_rfl) (fun _ _ _ h => h) (by rfl) hS ?_
             simp only [AP]
             refine skip_at 8 (d := some 111) (by kernel_rfl) (by kernel_rfl) (by kernel_rfl) (by kernel_rfl) (fun _ _ _ h => h) (by rfl) hS ?_
             simp only [AP]
             refine skip_at 9 (d := some 112) (by kernel_rfl) (by kernel_rfl) (by kernel_rfl) (by kernel_rfl) (fun _ _ _ h => h) (by rfl) hS ?_
             simp only [AP]
             refine skip_at 10 (d := some 113) (by kernel_rfl) (by kernel_rfl) (by kernel_rfl) (by kernel_rfl) (fun _ _ _ h => h) (by rfl) hS ?_
             simp only [AP]
             refine skip_at 11 (d := some 114) (by kernel_rfl) (by kernel_rfl) (by kernel_rfl) (by kernel_rfl) (fun _ _ _ h => h) (by rfl) hS ?_
             simp only [AP]
             refine skip_at 12 (d := some 115) (by kernel_rfl) (by kernel_rfl) (by kernel_rfl) (by kernel_rfl) (fun _ _ _ h => h) (by rfl) hS ?_
             simp only [AP]
             refine skip_at 13 (d := some 116) (by kernel_rfl) (by kernel_rfl) (by kernel_rfl) (by kernel_rfl) (fun _ _ _ h => h) (by rfl) hS ?_
             simp only [AP]
             refine skip_at 14 (d := some 117) (by kernel_rfl) (by kernel_rfl) (by kernel_rfl) (by kernel_rfl) (fun _ _ _ h => h) (by rfl) hS ?_
             simp only [AP]
             refine skip_at 15 (d := some 118) (by kernel_rfl) (by kernel_rfl) (by kernel_rfl) (by kernel_rfl) (fun _ _ _ h => h) (by rfl) hS ?_
             simp only [AP]
             refine takA (i := 16) (d := some 119) (v := .bool false) hS ?_
             simp only [AP]
             refine takA (i := 17) (d := some 120) (v := .bool false) hS ?_
             simp only [AP]
             refine wpAnyH_done (by kernel_rfl) ?_ _
             have HB3 : Hid (Below W2.heap.size W2 _) := hS.2.2
             clear hS a1 a2
             go_wp2
             refine ⟨⟨i + 1, by omega, by go_num, HOI1.out.later (below_step HB2.out HB3.out), (HS1.out.later (below_step HB2.out HB3.out)).congr (fun j hj => ?_)⟩, by simp [intOf]; omega⟩
             exact seen_step HO.out i hlt hx.out j
           · have HYX : Hid (WdP (f y) ∧ WdP (f x) ∧ (if PtP (f y) ∧ PtP (f x) then hold (f y) (f x) else 0) = 0) := ⟨HF.out.word y, HF.out.word x, cmp_may HM.out hyn hxn hL⟩
             have hyx' : (y : Int) < (x : Int) := by omega
             clear hL
             go_wp2_with fail
             clear e0 e1 e2 hW1
             have a1 := (HOI1.out.o.cell (i - 1) (by omega)).1
             have a2 := (HOI1.out.o.cell i hlt).1
             rw [hy.out] at a1
             rw [hx.out] at a2
             have b1 := box_cell HOI1.out.bel (hcell y hyn).1
             have b2 := box_cell HOI1.out.bel (hcell y hyn).2
             have b3 := box_cell HOI1.out.bel (hcell x hxn).1
             have b4 := box_cell HOI1.out.bel (hcell x hxn).2
             clear hcell
             refine wp_region_held_drew (S := (fun W => W.cell? ⟨R1, i - 1, none⟩ = some (.int .i64 (y : Int)) ∧ W.cell? ⟨R1, i, none⟩ = some (.int .i64 (x : Int)) ∧ W.cell? ⟨g, off + y * 2, none⟩ = some (.float .f64 (f y).1) ∧ W.cell? ⟨g, off + y * 2 + 1, none⟩ = some (.float .f64 (f y).2) ∧ W.cell? ⟨g, off + x * 2, none⟩ = some (.float .f64 (f x).1) ∧ W.cell? ⟨g, off + x * 2 + 1, none⟩ = some (.float .f64 (f x).2) ∧ Below W1.heap.size W1 W)) (by kernel_rfl) ⟨a1, a2, b1, b2, b3, b4, (Below.refl _ _).drew⟩ (fun hS => ?_)
             refine takA (i := 0) (d := some 87) (v := .slice (some ⟨g, off, none⟩) n c) hS ?_
             simp only [AP]
             refine takA (i := 1) (d := some 88) (v := .slice (some ⟨R1, 0, none⟩) n n) hS ?_
             simp only [AP]
             refine takA (i := 2) (d := some 89) (v := .int .i64 (i : Int)) hS ?_
             simp only [AP]
             refine takA (i := 3) (d := some 90) (v := .int .i64 ((i : Int) - 1 : Int)) hS ?_
             simp only [AP]
             refine takA (i := 4) (d := some 91) (v := .pointer (some ⟨R1, i - 1, none⟩)) hS ?_
             simp only [AP]
             refine takA (i := 5) (d := some 92) (v := .int .i64 (y : Int)) hS ?_
             simp only [AP]
             refine takA (i := 6) (d := some 93) (v := .pointer (some ⟨g, off + y * 2, none⟩)) hS ?_
             simp only [AP]
             refine takA (i := 7) (d := some 94) (v := .agg #[.float .f64 (f y).1, .float .f64 (f y).2]) hS ?_
             simp only [AP]
             refine takA (i := 8) (d := some 95) (v := .slice (some ⟨g, off, none⟩) n c) hS ?_
             simp only [AP]
             refine takA (i := 9) (d := some 96) (v := .slice (some ⟨R1, 0, none⟩) n n) hS ?_
             simp only [AP]
             refine takA (i := 10) (d := some 97) (v := .int .i64 (i : Int)) hS ?_
             simp only [AP]
             refine takA (i := 11) (d := some 98) (v := .pointer (some ⟨R1, i, none⟩)) hS ?_
             simp only [AP]
             refine takA (i := 12) (d := some 99) (v := .int .i64 (x : Int)) hS ?_
             simp only [AP]
             refine takA (i := 13) (d := some 100) (v := .pointer (some ⟨g, off + x * 2, none⟩)) hS ?_
             simp only [AP]
             refine takA (i := 14) (d := some 101) (v := .agg #[.float .f64 (f x).1, .float .f64 (f x).2]) hS ?_
             simp only [AP]
             refine calA 15 fun KF hK => ?_
             go_simp
             refine (cmp7_any (f y) (f x) _ HYX.out.1 HYX.out.2.1).mono ?_
             rintro e wx ⟨rfl, hbx⟩
             rw [HYX.out.2.2]
             go_wp2_with fail
             refine hK.out _ _ (kp6 hbx hS) ?_
             clear hS hbx
             intro hS
             clear hK KF
             try simp only [AP]
             refine takA (i := 16) (d := some 9) (v := .int .i64 (0)) hS ?_
             simp only [AP]
             refine wpAnyH_done (by kernel_rfl) ?_ _
             have HB2 : Hid (Below W1.heap.size W1 _) := hS.2.2.2.2.2.2
             have a1 := hS.1
             have a2 := hS.2.1
             clear hS
             generalize hW2 : wx = W2 at *
             clear hW2
             go_wp2_with fail
             refine wp_region_held_drew (S := (fun W => W.cell? ⟨R1, i - 1, none⟩ = some (.int .i64 (y : Int)) ∧ W.cell? ⟨R1, i, none⟩ = some (.int .i64 (x : Int)) ∧ Below W2.heap.size W2 W)) (by kernel_rfl) ⟨a1, a2, (Below.refl _ _).drew⟩ (fun hS => ?_)
             refine takA (i := 0) (d := some 103) (v := .int .i64 (0)) hS ?_
             simp only [AP]
             refine takA (i := 1) (d := some 104) (v := .bool false) hS ?_
             simp only [AP]
             refine takA (i := 2) (d := some 105) (v := .bool false) hS ?_
             simp only [AP]
             refine takA (i := 3) (d := some 106) (v := .int .i64 (0)) hS ?_
             simp only [AP]
             refine takA (i := 4) (d := some 107) (v := .bool true) hS ?_
             simp only [AP]
             refine takA (i := 5) (d := some 108) (v := .bool true) hS ?_
             simp only [AP]
             refine takA (i := 6) (d := some 109) (v := .slice (some ⟨R1, 0, none⟩) n n) hS ?_
             simp only [AP]
             refine takA (i := 7) (d := some 110) (v := .int .i64 (i : Int)) hS ?_
             simp only [AP]
             refine takA (i := 8) (d := some 111) (v := .int .i64 ((i : Int) - 1 : Int)) hS ?_
             simp only [AP]
             refine takA (i := 9) (d := some 112) (v := .pointer (some ⟨R1, i - 1, none⟩)) hS ?_
             simp only [AP]
             refine takA (i := 10) (d := some 113) (v := .int .i64 (y : Int)) hS ?_
             simp only [AP]
             refine takA (i := 11) (d := some 114) (v := .slice (some ⟨R1, 0, none⟩) n n) hS ?_
             simp only [AP]
             refine takA (i := 12) (d := some 115) (v := .int .i64 (i : Int)) hS ?_
             simp only [AP]
             refine takA (i := 13) (d := some 116) (v := .pointer (some ⟨R1, i, none⟩)) hS ?_
             simp only [AP]
             refine takA (i := 14) (d := some 117) (v := .int .i64 (x : Int)) hS ?_
             simp only [AP]
             refine takA (i := 15) (d := some 118) (v := .bool false) hS ?_
             simp only [AP]
             refine takA (i := 16) (d := some 119) (v := .bool false) hS ?_
             simp only [AP]
             refine takA (i := 17) (d := some 120) (v := .bool false) hS ?_
             simp only [AP]
             refine wpAnyH_done (by kernel_rfl) ?_ _
             have HB3 : Hid (Below W2.heap.size W2 _) := hS.2.2
             clear hS a1 a2
             go_wp2
             refine ⟨⟨i + 1, by omega, by go_num, HOI1.out.later (below_step HB2.out HB3.out), (HS1.out.later (below_step HB2.out HB3.out)).congr (fun j hj => ?_)⟩, by simp [intOf]; omega⟩
             exact seen_step HO.out i hlt hx.out j
       · obtain rfl : n = i := by omega
         have hltb : decide ((n : Int) < (n : Int)) = false := decide_eq_false (by omega)
         clear HS HS0 HOI5
         go_wp2
         go_loopw [10, 11] (fun s10 s11 wr => ∃ i u : Nat, i ≤ n ∧ s11 = .int .i64 (i : Nat) ∧ s10 = .int .i64 (u : Nat) ∧ u ≤ i ∧ Hid (OI w wr R1 R2 n f os ∧ u = (owns f i).length)) (fun _ s11 _ => n - (intOf s11).toNat)
         case atStart => exact ⟨0, 0, Nat.zero_le _, rfl, rfl, Nat.le_refl _, HOI.out, rfl⟩
         case round =>
           clear HOI
           obtain ⟨i, u, hi, rfl, rfl, hu, HJ⟩ := hrel
           by_cases hlt : i < n
           · have hlt' : (i : Int) < (n : Int) := by omega
             have hi0 : (0 : Int) ≤ (i : Int) := by omega
             obtain ⟨g, off, rfl, hg, hcell⟩ := HF.out.some (by omega)
             obtain ⟨t, ht⟩ : ∃ t, Hid (tw f i = t) := ⟨_, rfl⟩
             have hti : t ≤ i := by rw [← ht.out]; exact (tw_is i).le
             have htn : (t : Int) < (n : Int) := by omega
             have ht0 : (0 : Int) ≤ (t : Int) := by omega
             have hti' : ¬ (i : Int) < (t : Int) := by omega
             have a1 := (HJ.out.1.t.cell i hlt).1
             have a2 := (HJ.out.1.t.cell t (by omega)).1
             rw [ht.out] at a1
             rw [show tw f t = t by rw [← ht.out]; exact tw_tw i] at a2
             go_wp2_with fail
             refine wp_region_held_drew (S := (fun W => W.cell? ⟨R2, i, none⟩ = some (.int .i64 (t : Int)) ∧ W.cell? ⟨R2, t, none⟩ = some (.int .i64 (t : Int)) ∧ Below wr.heap.size wr W)) (by kernel_rfl) ⟨a1, a2, (Below.refl _ _).drew⟩ (fun hS => ?_)
             refine takA (i := 0) (d := some 127) (v := .slice (some ⟨R2, 0, none⟩) n n) hS ?_
             simp only [AP]
             refine takA (i := 1) (d := some 128) (v := .int .i64 (i : Int)) hS ?_
             simp only [AP]
             refine takA (i := 2) (d := some 129) (v := .pointer (some ⟨R2, i, none⟩)) hS ?_
             simp only [AP]
             refine takA (i := 3) (d := some 130) (v := .int .i64 (t : Int)) hS ?_
             simp only [AP]
             refine takA (i := 4) (d := some 131) (v := .bool false) hS ?_
             simp only [AP]
             refine takA (i := 5) (d := some 132) (v := .bool false) hS ?_
             simp only [AP]
             refine takA (i := 6) (d := some 133) (v := .slice (some ⟨R2, 0, none⟩) n n) hS ?_
             simp only [AP]
             refine takA (i := 7) (d := some 134) (v := .int .i64 (i : Int)) hS ?_
             simp only [AP]
             refine takA (i := 8) (d := some 135) (v := .pointer (some ⟨R2, i, none⟩)) hS ?_
             simp only [AP]
             refine takA (i := 9) (d := some 136) (v := .int .i64 (t : Int)) hS ?_
             simp only [AP]
             refine takA (i := 10) (d := some 137) (v := .int .i64 (i : Int)) hS ?_
             simp only [AP]
             refine takA (i := 11) (d := some 138) (v := .bool false) hS ?_
             simp only [AP]
             refine takA (i := 12) (d := some 139) (v := .bool false) hS ?_
             simp only [AP]
             refine takA (i := 13) (d := some 140) (v := .bool false) hS ?_
             simp only [AP]
             refine takA (i := 14) (d := some 141) (v := .slice (some ⟨R2, 0, none⟩) n n) hS ?_
             simp only [AP]
             refine takA (i := 15) (d := some 142) (v := .slice (some ⟨R2, 0, none⟩) n n) hS ?_
             simp only [AP]
             refine takA (i := 16) (d := some 143) (v := .int .i64 (i : Int)) hS ?_
             simp only [AP]
             refine takA (i := 17) (d := some 144) (v := .pointer (some ⟨R2, i, none⟩)) hS ?_
             simp only [AP]
             refine takA (i := 18) (d := some 145) (v := .int .i64 (t : Int)) hS ?_
             simp only [AP]
             refine takA (i := 19) (d := some 146) (v := .pointer (some ⟨R2, t, none⟩)) hS ?_
             simp only [AP]
             refine takA (i := 20) (d := some 147) (v := .int .i64 (t : Int)) hS ?_
             simp only [AP]
             refine takA (i := 21) (d := some 148) (v := .slice (some ⟨R2, 0, none⟩) n n) hS ?_
             simp only [AP]
             refine takA (i := 22) (d := some 149) (v := .int .i64 (i : Int)) hS ?_
             simp only [AP]
             refine takA (i := 23) (d := some 150) (v := .pointer (some ⟨R2, i, none⟩)) hS ?_
             simp only [AP]
             refine takA (i := 24) (d := some 151) (v := .int .i64 (t : Int)) hS ?_
             simp only [AP]
             refine takA (i := 25) (d := some 152) (v := .bool false) hS ?_
             simp only [AP]
             refine takA (i := 26) (d := some 153) (v := .bool false) hS ?_
             simp only [AP]
             refine wpAnyH_done (by kernel_rfl) ?_ _
             have HB1 : Hid (Below wr.heap.size wr _) := hS.2.2
             have a1 := hS.1
             clear hS a2
             generalize hW1 : wr.drew = W1 at *
             have HOI1 : Hid (OI w W1 R1 R2 n f os) := HJ.out.1.later HB1.out
             clear hW1
             obtain ⟨uu, huu, HU2⟩ : ∃ uu : Nat, (if t = i then uu = u + 1 else uu = u) ∧ Hid (uu = (owns f (i + 1)).length) := by
               by_cases e : t = i
               · refine ⟨u + 1, by rw [if_pos e], ?_⟩
                 show u + 1 = _
                 rw [owns_succ, if_pos (by rw [ht.out]; exact e), List.length_append, ← HJ.out.2]; rfl
               · refine ⟨u, by rw [if_neg e], ?_⟩
                 show u = _
                 rw [owns_succ, if_neg (by rw [ht.out]; exact e), ← HJ.out.2]
             have hu3 : uu ≤ i + 1 := by split at huu <;> omega
             have HU3 : Hid (uu ≤ i + 1) := hu3
             clear hu3
             clear HJ HB1 a1
             have a0 := (HOI1.out.t.cell i hlt).1
             rw [ht.out] at a0
             rcases Classical.em (t = i) with e | e
             case' inl =>
               rw [if_pos e] at huu
               have et : ((t : Int) == (i : Int)) = true := by simp [e]
               have et2 : (t : Int) = (i : Int) := by omega
               go_wp2
               rw [show (u : Int) + 1 = (uu : Int) by omega]
               clear et et2 huu hu e
             case' inr =>
               rw [if_neg e] at huu
               obtain rfl : uu = u := huu
               have et : ((t : Int) == (i : Int)) = false := by simp; omega
               have et2 : ¬ (t : Int) = (i : Int) := by omega
               go_wp2
               clear et et2 hu e
             all_goals
               clear a0
               go_loopw [12] (fun s12 wr => ∃ k : Nat, k ≤ i ∧ s12 = .int .i64 (k : Nat) ∧ Hid (OI w wr R1 R2 n f os)) (fun s12 _ => i - (intOf s12).toNat)
               case atStart => exact ⟨0, Nat.zero_le _, rfl, HOI1.out⟩
               case round =>
                 clear HOI1
                 obtain ⟨k, hk, rfl, hK⟩ := hrel
                 by_cases hlk : k < i
                 · have hlk' : (k : Int) < (i : Int) := by omega
                   have hkn : (k : Int) < (n : Int) := by omega
                   have hk0 : (0 : Int) ≤ (k : Int) := by omega
                   have a1 := (hK.out.t.cell i hlt).1
                   have a2 := (hK.out.t.cell k (by omega)).1
                   rw [ht.out] at a1
                   have b1 := box_cell hK.out.bel (hcell i hlt).1
                   have b2 := box_cell hK.out.bel (hcell i hlt).2
                   have b3 := box_cell hK.out.bel (hcell k (by omega)).1
                   have b4 := box_cell hK.out.bel (hcell k (by omega)).2
                   by_cases hal : alike (f i) (f k)
                   · have HIK : Hid (WdP (f i) ∧ WdP (f k) ∧ (if PtP (f i) ∧ PtP (f k) then hold (f i) (f k) else 0) = 0) := ⟨HF.out.word i, HF.out.word k, cmp_may HM.out hlt (by omega) (hold_zero.2 hal)⟩
                     rw [← (tw_iff (f := f) i k).2 hal, ht.out] at a2
                     clear hal hcell
                     go_wp2_with fail
                     refine wp_region_held_drew (S := (fun W => W.cell? ⟨R2, i, none⟩ = some (.int .i64 (t : Int)) ∧ W.cell? ⟨R2, k, none⟩ = some (.int .i64 (t : Int)) ∧ W.cell? ⟨g, off + i * 2, none⟩ = some (.float .f64 (f i).1) ∧ W.cell? ⟨g, off + i * 2 + 1, none⟩ = some (.float .f64 (f i).2) ∧ W.cell? ⟨g, off + k * 2, none⟩ = some (.float .f64 (f k).1) ∧ W.cell? ⟨g, off + k * 2 + 1, none⟩ = some (.float .f64 (f k).2) ∧ Below wr.heap.size wr W)) (by kernel_rfl) ⟨a1, a2, b1, b2, b3, b4, (Below.refl _ _).drew⟩ (fun hS => ?_)
                     refine takA (i := 0) (d := some 167) (v := .slice (some ⟨R2, 0, none⟩) n n) hS ?_
                     simp only [AP]
                     refine takA (i := 1) (d := some 168) (v := .int .i64 (i : Int)) hS ?_
                     simp only [AP]
                     refine takA (i := 2) (d := some 169) (v := .pointer (some ⟨R2, i, none⟩)) hS ?_
                     simp only [AP]
                     refine takA (i := 3) (d := some 170) (v := .int .i64 (t : Int)) hS ?_
                     simp only [AP]
                     refine takA (i := 4) (d := some 171) (v := .slice (some ⟨R2, 0, none⟩) n n) hS ?_
                     simp only [AP]
                     refine takA (i := 5) (d := some 172) (v := .int .i64 (k : Int)) hS ?_
                     simp only [AP]
                     refine takA (i := 6) (d := some 173) (v := .pointer (some ⟨R2, k, none⟩)) hS ?_
                     simp only [AP]
                     refine takA (i := 7) (d := some 174) (v := .int .i64 (t : Int)) hS ?_
                     simp only [AP]
                     refine takA (i := 8) (d := some 175) (v := .bool true) hS ?_
                     simp only [AP]
                     refine takA (i := 9) (d := some 176) (v := .slice (some ⟨g, off, none⟩) n c) hS ?_
                     simp only [AP]
                     refine takA (i := 10) (d := some 177) (v := .int .i64 (i : Int)) hS ?_
                     simp only [AP]
                     refine takA (i := 11) (d := some 178) (v := .pointer (some ⟨g, off + i * 2, none⟩)) hS ?_
                     simp only [AP]
                     refine takA (i := 12) (d := some 179) (v := .agg #[.float .f64 (f i).1, .float .f64 (f i).2]) hS ?_
                     simp only [AP]
                     refine takA (i := 13) (d := some 180) (v := .slice (some ⟨g, off, none⟩) n c) hS ?_
                     simp only [AP]
                     refine takA (i := 14) (d := some 181) (v := .int .i64 (k : Int)) hS ?_
                     simp only [AP]
                     refine takA (i := 15) (d := some 182) (v := .pointer (some ⟨g, off + k * 2, none⟩)) hS ?_
                     simp only [AP]
                     refine takA (i := 16) (d := some 183) (v := .agg #[.float .f64 (f k).1, .float .f64 (f k).2]) hS ?_
                     simp only [AP]
                     refine calA 17 fun KF hK => ?_
                     go_simp
                     refine (cmp7_any (f i) (f k) _ HIK.out.1 HIK.out.2.1).mono ?_
                     rintro e wx ⟨rfl, hbx⟩
                     rw [HIK.out.2.2]
                     go_wp2_with fail
                     refine hK.out _ _ (kp6 hbx hS) ?_
                     clear hS hbx
                     intro hS
                     clear hK KF
                     try simp only [AP]
                     refine takA (i := 18) (d := some 185) (v := .bool true) hS ?_
                     simp only [AP]
                     refine takA (i := 19) (d := some 186) (v := .bool false) hS ?_
                     simp only [AP]
                     refine wpAnyH_done (by kernel_rfl) ?_ _
                     have HB2 : Hid (Below wr.heap.size wr _) := hS.2.2.2.2.2.2
                     clear hS
                     go_wp2
                     exact ⟨⟨k + 1, by omega, by go_num, hK.out.later HB2.out⟩, by simp [intOf]; omega⟩
                   · obtain ⟨cz, hcz⟩ : ∃ cz, hold (f i) (f k) = cz := ⟨_, rfl⟩
                     have hcz0 : ¬ cz = 0 := fun h => hal (hold_zero.1 (by rw [hcz, h]))
                     have hcz1 : (cz == 0) = false := by simp [hcz0]
                     have HIK : Hid (WdP (f i) ∧ WdP (f k) ∧ (if PtP (f i) ∧ PtP (f k) then hold (f i) (f k) else 0) = cz) := ⟨HF.out.word i, HF.out.word k, cmp_may HM.out hlt (by omega) hcz⟩
                     obtain ⟨t2, ht2⟩ : ∃ t2, Hid (tw f k = t2) := ⟨_, rfl⟩
                     have htt : t ≠ t2 := fun h => hal ((tw_iff (f := f) i k).1 (by rw [ht.out, ht2.out, h]))
                     have htt1 : ¬ (t : Int) = (t2 : Int) := by omega
                     have htt2 : ((t : Int) == (t2 : Int)) = false := by simp; omega
                     rw [ht2.out] at a2
                     clear hal hcell hcz htt
                     go_wp2_with fail
                     refine wp_region_held_drew (S := (fun W => W.cell? ⟨R2, i, none⟩ = some (.int .i64 (t : Int)) ∧ W.cell? ⟨R2, k, none⟩ = some (.int .i64 (t2 : Int)) ∧ W.cell? ⟨g, off + i * 2, none⟩ = some (.float .f64 (f i).1) ∧ W.cell? ⟨g, off + i * 2 + 1, none⟩ = some (.float .f64 (f i).2) ∧ W.cell? ⟨g, off + k * 2, none⟩ = some (.float .f64 (f k).1) ∧ W.cell? ⟨g, off + k * 2 + 1, none⟩ = some (.float .f64 (f k).2) ∧ Below wr.heap.size wr W)) (by kernel_rfl) ⟨a1, a2, b1, b2, b3, b4, (Below.refl _ _).drew⟩ (fun hS => ?_)
                     refine takA (i := 0) (d := some 167) (v := .slice (some ⟨R2, 0, none⟩) n n) hS ?_
                     simp only [AP]
                     refine takA (i := 1) (d := some 168) (v := .int .i64 (i : Int)) hS ?_
                     simp only [AP]
                     refine takA (i := 2) (d := some 169) (v := .pointer (some ⟨R2, i, none⟩)) hS ?_
                     simp only [AP]
                     refine takA (i := 3) (d := some 170) (v := .int .i64 (t : Int)) hS ?_
                     simp only [AP]
                     refine takA (i := 4) (d := some 171) (v := .slice (some ⟨R2, 0, none⟩) n n) hS ?_
                     simp only [AP]
                     refine takA (i := 5) (d := some 172) (v := .int .i64 (k : Int)) hS ?_
                     simp only [AP]
                     refine takA (i := 6) (d := some 173) (v := .pointer (some ⟨R2, k, none⟩)) hS ?_
                     simp only [AP]
                     refine takA (i := 7) (d := some 174) (v := .int .i64 (t2 : Int)) hS ?_
                     simp only [AP]
                     refine takA (i := 8) (d := some 175) (v := .bool false) hS ?_
                     simp only [AP]
                     refine takA (i := 9) (d := some 176) (v := .slice (some ⟨g, off, none⟩) n c) hS ?_
                     simp only [AP]
                     refine takA (i := 10) (d := some 177) (v := .int .i64 (i : Int)) hS ?_
                     simp only [AP]
                     refine takA (i := 11) (d := some 178) (v := .pointer (some ⟨g, off + i * 2, none⟩)) hS ?_
                     simp only [AP]
                     refine takA (i := 12) (d := some 179) (v := .agg #[.float .f64 (f i).1, .float .f64 (f i).2]) hS ?_
                     simp only [AP]
                     refine takA (i := 13) (d := some 180) (v := .slice (some ⟨g, off, none⟩) n c) hS ?_
                     simp only [AP]
                     refine takA (i := 14) (d := some 181) (v := .int .i64 (k : Int)) hS ?_
                     simp only [AP]
                     refine takA (i := 15) (d := some 182) (v := .pointer (some ⟨g, off + k * 2, none⟩)) hS ?_
                     simp only [AP]
                     refine takA (i := 16) (d := some 183) (v := .agg #[.float .f64 (f k).1, .float .f64 (f k).2]) hS ?_
                     simp only [AP]
                     refine calA 17 fun KF hK => ?_
                     go_simp
                     refine (cmp7_any (f i) (f k) _ HIK.out.1 HIK.out.2.1).mono ?_
                     rintro e wx ⟨rfl, hbx⟩
                     rw [HIK.out.2.2]
                     go_wp2_with fail
                     refine hK.out _ _ (kp6 hbx hS) ?_
                     clear hS hbx
                     intro hS
                     clear hK KF
                     try simp only [AP]
                     refine takA (i := 18) (d := some 185) (v := .bool false) hS ?_
                     simp only [AP]
                     refine takA (i := 19) (d := some 186) (v := .bool false) hS ?_
                     simp only [AP]
                     refine wpAnyH_done (by kernel_rfl) ?_ _
                     have HB2 : Hid (Below wr.heap.size wr _) := hS.2.2.2.2.2.2
                     clear hS
                     go_wp2
                     exact ⟨⟨k + 1, by omega, by go_num, hK.out.later HB2.out⟩, by simp [intOf]; omega⟩
                 · obtain rfl : i = k := by omega
                   have hltb : decide ((i : Int) < (i : Int)) = false := decide_eq_false (by omega)
                   clear hcell
                   go_wp2
                   exact ⟨⟨i + 1, uu, by omega, by go_num, rfl, HU3.out, hK.out, HU2.out⟩, by simp [intOf]; omega⟩
           · obtain rfl : n = i := by omega
             have hltb : decide ((n : Int) < (n : Int)) = false := decide_eq_false (by omega)
             go_wp2_with fail
             refine (unlike_any _ n f _ (HF.out.later HJ.out.1.bel)).mono ?_
             rintro e w6 ⟨h6, hb6⟩
             rcases h6 with ⟨hh, _⟩ | ⟨_, R4, os', us, rfl, _, ho, hus, _⟩
             · exact absurd HM.out hh
             obtain rfl := ho.uniq HO.out
             have hlen : us.length = u := by rw [hus, owns_len HO.out, HJ.out.2]
             have HB6 : Hid (Below w.heap.size w w6) := below_step HJ.out.1.bel hb6
             clear hus ho hb6
             rw [hlen]
             go_wp2
             go_ret
             exact ⟨rfl, HB6.out⟩
end Go.Proofs.Ytgpbfhennineiaa
