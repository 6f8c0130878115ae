import Derived.Test.YtgpbfhennineiaaAq
/- AdmitNames. -/
namespace Go.Proofs.Ytgpbfhennineiaa
open Go.RowKit Go.Shelf Go.Sort Go.Lib
attribute [local go_sem ↓] Go.wp_at_zero Go.wp_at_succ
attribute [local go_sem] run_store_float

def lz2 : List (Nat × Nat) := [(0, 0), (9223372036854775808, 9223372036854775808)]
theorem nall : AllR 3 (fL [(0, 0), (5062045981164437504, 0), (0, 9221120237041090561)]) 1 10 := Or.inr (Or.inr ⟨by omega, 1, by omega, by decide +kernel, by decide +kernel, rfl, rfl⟩)
theorem nz2 : MayL 2 (fL lz2) := ⟨by omega, by decide +kernel⟩
theorem nz2tw : tw (fL lz2) 1 = 0 := by decide +kernel
theorem nmw10 : Pt 4156822456062967808 14280914418391842816 := by decide +kernel
theorem nmw11 : ¬ Pt 4152318856435597312 0 := by decide +kernel
theorem nmw14 : ¬ Pt 0 5057542381537067009 := by decide +kernel
theorem nmw16 : ¬ Pt 18442240474082181120 0 := by decide +kernel
theorem nnil : MayL 0 (fun _ => ((0 : Nat), (0 : Nat))) ∧ FlatP (fun _ => ((0 : Nat), (0 : Nat))) 0 := ⟨⟨by omega, fun _ h => absurd h (Nat.not_lt_zero _)⟩, fun _ _ _ h => absurd h (Nat.not_lt_zero _)⟩
theorem nfw19 : (MayL 4 (fL [(0, 0), (4607182418800017408, 0), (0, 0), (4607182418800017408, 0)]) ∧ FlatP (fL [(0, 0), (4607182418800017408, 0), (0, 0), (4607182418800017408, 0)]) 4) := ⟨⟨by omega, by decide +kernel⟩, (flat_line (t := 0) (s := 1) (by omega) (by omega) (by decide +kernel)).2 (by decide +kernel)⟩
theorem nfw21 : ¬ (MayL 4 (fL [(0, 0), (4607182418800017408, 0), (4611686018427387904, 0), (4613937818241073152, 4607182418800017408)]) ∧ FlatP (fL [(0, 0), (4607182418800017408, 0), (4611686018427387904, 0), (4613937818241073152, 4607182418800017408)]) 4) := fun h => absurd (h.2 0 1 3 (by omega) (by omega) (by omega)) (by decide +kernel)
theorem nfw23 : ¬ (MayL 4 (fL [(0, 4613937818241073152), (0, 4607182418800017408), (0, 4611686018427387904), (4621256167635550208, 0)]) ∧ FlatP (fL [(0, 4613937818241073152), (0, 4607182418800017408), (0, 4611686018427387904), (4621256167635550208, 0)]) 4) := fun h => absurd (h.2 0 1 3 (by omega) (by omega) (by omega)) (by decide +kernel)
theorem nu2 : MayL 2 (fL [(0, 0), (9223372036854775808, 0)]) := ⟨by omega, by decide +kernel⟩
theorem nu2o : Ord (fL [(0, 0), (9223372036854775808, 0)]) 2 [0, 1] := ⟨by decide, by decide +kernel⟩
theorem nu2f : [0, 1].filter (fun i => decide (tw (fL [(0, 0), (9223372036854775808, 0)]) i = i)) = [0] := by decide +kernel
theorem ncmp : (if PtP (9223372036854775808, 0) ∧ PtP (0, 0) then hold (9223372036854775808, 0) (0, 0) else 0) = 0 := by decide +kernel

set_option maxRecDepth 100000 in
set_option maxHeartbeats 8000000 in
theorem names7_law (w : World) : Calls Try.prog 3 #[] w fun e w' => e = .returned (.bool true) ∧ Below w.heap.size w w' := by
 obtain ⟨Bg, hBg, mkB⟩ := big_ex
 have HBG : Hid (Big Bg) := hBg
 clear hBg
 obtain ⟨i0, hif, hz0, hz1, hz2⟩ := info_parts (show (Try.prog.info? 28).map (fun i => (i.zero, i.size, i.bytes)) = some (some (.agg #[.float .f64 0, .float .f64 0]), 2, 16) by kernel_rfl)
 go_enter Try.func3, Try.ntmps3
 have HB : Hid (Below w.heap.size w w) := Below.refl _ _
 go_wp2_with fail
 refine (works7_any _).mono ?_
 rintro e w1 ⟨rfl, hb⟩
 have HB : Hid (Below w.heap.size w w1) := below_step HB.out hb
 clear hb
 go_wp2_with fail
 refine (nan7_is _).mono ?_
 rintro e w2 ⟨rfl, hb0⟩
 have hb : Below w1.heap.size w1 w2 := by rw [hb0]; exact Below.refl _ _
 clear hb0
 have HB : Hid (Below w.heap.size w w2) := below_step HB.out hb
 clear hb
 obtain ⟨v3, hv3⟩ : ∃ W, w2.alloc (.cells #[.float .f64 0, .float .f64 0, .float .f64 5062045981164437504, .float .f64 0, .float .f64 0, .float .f64 9221120237041090561] 28) = W := ⟨_, rfl⟩
 have HP : Hid (Ps v3 (.slice (some ⟨w2.heap.size, 0, none⟩) 3 3) 3 (fL [(0, 0), (5062045981164437504, 0), (0, 9221120237041090561)])) := by rw [← hv3]; exact psNew3 _ _ _ _ _ _ _ (by decide)
 have hb : Below w2.heap.size w2 v3 := by rw [← hv3]; exact (Below.refl _ _).alloc (Nat.le_refl _) _
 have HB : Hid (Below w.heap.size w v3) := below_step HB.out hb
 clear hb
 go_wp2_with fail
 refine (all_any _ 3 (fL [(0, 0), (5062045981164437504, 0), (0, 9221120237041090561)]) v3 HP.out).mono ?_
 rintro e w4 ⟨⟨z, r, rfl, hr⟩, hb⟩
 obtain ⟨rfl, rfl⟩ := hr.fun' nall
 clear hr HP hv3
 have HB : Hid (Below w.heap.size w w4) := below_step HB.out hb
 clear hb
 obtain ⟨v5, hv5⟩ : ∃ W, w4.alloc (.cells Bg 28) = W := ⟨_, rfl⟩
 have HP : Hid (Ps v5 (.slice (some ⟨w4.heap.size, 0, none⟩) 1048576 1048576) 1048576 (fun _ => (0, 0))) := by rw [← hv5]; exact HBG.out.ps _
 have hb : Below w4.heap.size w4 v5 := by rw [← hv5]; exact (Below.refl _ _).alloc (Nat.le_refl _) _
 have HB : Hid (Below w.heap.size w v5) := below_step HB.out hb
 clear hb
 go_wp2_with fail
 refine (all_any _ 1048576 (fun _ => (0, 0)) v5 HP.out).mono ?_
 rintro e w6 ⟨⟨z, r, rfl, hr⟩, hb⟩
 obtain ⟨rfl, rfl⟩ := hr.fun' nbig
 clear hr HP hv5
 have HB : Hid (Below w.heap.size w w6) := below_step HB.out hb
 clear hb
 go_wp2_with fail
 refine wp_region_held_drew (S := (fun W => Below w6.heap.size w6 W)) (by kernel_rfl) ((Below.refl _ _).drew) (fun hS => ?_)
 refine call_at2 0 1 (by kernel_rfl) (by kernel_rfl) (by kernel_rfl) ?pa ?pb
 case' pa =>
   intro o ho
   simp only [List.getElem?_toArray, List.getElem?_cons_zero, Option.some.injEq] at ho
   subst ho
   intro KF hK
   go_simp
   go_wp2_with fail
   obtain ⟨X1, hX1⟩ : ∃ X, (w6.alloc (.cells Bg 28)).drew = X := ⟨_, rfl⟩
   have k1 : Below w6.heap.size w6 X1 := by rw [← hX1]; exact ((Below.refl _ _).alloc (Nat.le_refl _) _).drew
   have q1 : X1.heap[w6.heap.size]? = some (.cells Bg 28) := by rw [← hX1]; exact heap_new w6 _
   have s1 : w6.heap.size < X1.heap.size := by rw [← hX1]; show _ < (w6.alloc (.cells Bg 28)).heap.size; simp
   rw [hX1]
   clear hX1
   refine hK.out _ _ k1 ?_
   clear hS
   intro hS
   clear hK KF
   try simp only [AP]
   refine calA 1 fun KF hK => ?_
   go_simp
   refine (nan7_is _).mono ?_
   rintro e wx ⟨rfl, hbx⟩
   rw [hbx]
   clear hbx wx
   go_wp2_with fail
   refine hK.out _ _ hS ?_
   clear hS
   intro hS
   clear hK KF
   try simp only [AP]
   refine takA (i := 2) (d := some 34) (v := .agg #[.float .f64 9221120237041090561, .float .f64 0]) hS ?_
   simp only [AP]
   refine calA 3 fun KF hK => ?_
   go_simp
   go_wp2_with fail
   obtain ⟨X2, hX2⟩ : ∃ Y, X1.alloc (.cells #[.float .f64 9221120237041090561, .float .f64 0] 28) = Y := ⟨_, rfl⟩
   have k2 : Below X1.heap.size X1 X2 := by rw [← hX2]; exact (Below.refl _ _).alloc (Nat.le_refl _) _
   have q2 : X2.heap[X1.heap.size]? = some (.cells #[.float .f64 9221120237041090561, .float .f64 0] 28) := by rw [← hX2]; exact heap_new X1 _
   have q3 := (k2.block _ s1).trans q1
   rw [hX2]
   clear hX2
   refine hK.out _ _ (below_step hS k2) ?_
   clear hS
   intro hS
   clear hK KF
   try simp only [AP]
   refine calA 4 fun KF hK => ?_
   rw [if_pos (by rfl)]
   refine wp_append_own _ _ _ _ rfl w6.heap.size 28 i0 _ 2 16 Try.underlying30 hif hz0 hz1 hz2 rfl (by omega) _ 1048576 Bg.toList rfl (HBG.out.own (Nat.le_refl _) q3) ⟨X1.heap.size, 0, none⟩ 1 1 [.float .f64 9221120237041090561, .float .f64 0] rfl rfl (World.news_of_block (cs := #[.float .f64 9221120237041090561, .float .f64 0]) (t := 28) (fr := (0, 0)) q2) (by simp [Value.oneCell']) (by unfold maxLen; omega) (by omega) hS.size ?_
   intro va W7 hown7 hgrow7 _
   have HW7 : Hid (Below w6.heap.size w6 W7) := hS.grown hgrow7 hS.size (fun q hq => by cases hq; exact Nat.le_refl _)
   obtain ⟨_, ⟨_, hx⟩ | ⟨ga, ca, cur, rfl, _⟩⟩ := hown7
   · omega
   clear hgrow7
   refine hK.out _ _ HW7.out ?_
   clear hS
   intro hS
   clear hK KF
   try simp only [AP]
   refine calA 5 fun KF hK => ?_
   go_simp
   refine (allBig_any _ 1048577 _ _ (by omega)).mono ?_
   rintro e wx ⟨rfl, hbx⟩
   rw [hbx]
   clear hbx wx
   go_wp2_with fail
   refine hK.out _ _ hS ?_
   clear hS
   intro hS
   clear hK KF
   try simp only [AP]
   refine takA (i := 6) (d := some 31) (v := .tuple #[.int .i64 0, .int .i64 3]) hS ?_
   simp only [AP]
   refine takA (i := 7) (d := some 38) (v := .int .i64 0) hS ?_
   simp only [AP]
   refine takA (i := 8) (d := some 39) (v := .int .i64 3) hS ?_
   simp only [AP]
   refine takA (i := 9) (d := some 5) (v := .int .i64 0) hS ?_
   simp only [AP]
   refine takA (i := 10) (d := some 6) (v := .int .i64 3) hS ?_
   simp only [AP]
   refine wpAnyH_done (by kernel_rfl) ?_ _
   have HB : Hid (Below w.heap.size w W7) := below_step HB.out HW7.out
   clear hS HW7
   try clear k1 q1 s1 k2 q2 q3
 case' pb =>
   intro o ho
   simp only [List.getElem?_toArray, List.getElem?_cons_succ, List.getElem?_cons_zero, Option.some.injEq] at ho
   subst ho
   intro KF hK
   go_simp
   refine (nan7_is _).mono ?_
   rintro e wx ⟨rfl, hbx⟩
   rw [hbx]
   clear hbx wx
   go_wp2_with fail
   refine hK.out _ _ hS ?_
   clear hS
   intro hS
   clear hK KF
   try simp only [AP]
   refine takA (i := 2) (d := some 34) (v := .agg #[.float .f64 9221120237041090561, .float .f64 0]) hS ?_
   simp only [AP]
   refine call_at2 0 3 (by kernel_rfl) (by kernel_rfl) (by kernel_rfl) ?pc ?pd
 case' pc =>
   intro o ho
   simp only [List.getElem?_toArray, List.getElem?_cons_zero, Option.some.injEq] at ho
   subst ho
   intro KF hK
   go_simp
   go_wp2_with fail
   obtain ⟨X1, hX1⟩ : ∃ X, (w6.alloc (.cells Bg 28)).drew = X := ⟨_, rfl⟩
   have k1 : Below w6.heap.size w6 X1 := by rw [← hX1]; exact ((Below.refl _ _).alloc (Nat.le_refl _) _).drew
   have q1 : X1.heap[w6.heap.size]? = some (.cells Bg 28) := by rw [← hX1]; exact heap_new w6 _
   have s1 : w6.heap.size < X1.heap.size := by rw [← hX1]; show _ < (w6.alloc (.cells Bg 28)).heap.size; simp
   rw [hX1]
   clear hX1
   refine hK.out _ _ k1 ?_
   clear hS
   intro hS
   clear hK KF
   try simp only [AP]
   refine calA 3 fun KF hK => ?_
   go_simp
   go_wp2_with fail
   obtain ⟨X2, hX2⟩ : ∃ Y, X1.alloc (.cells #[.float .f64 9221120237041090561, .float .f64 0] 28) = Y := ⟨_, rfl⟩
   have k2 : Below X1.heap.size X1 X2 := by rw [← hX2]; exact (Below.refl _ _).alloc (Nat.le_refl _) _
   have q2 : X2.heap[X1.heap.size]? = some (.cells #[.float .f64 9221120237041090561, .float .f64 0] 28) := by rw [← hX2]; exact heap_new X1 _
   have q3 := (k2.block _ s1).trans q1
   rw [hX2]
   clear hX2
   refine hK.out _ _ (below_step hS k2) ?_
   clear hS
   intro hS
   clear hK KF
   try simp only [AP]
   refine calA 4 fun KF hK => ?_
   rw [if_pos (by rfl)]
   refine wp_append_own _ _ _ _ rfl w6.heap.size 28 i0 _ 2 16 Try.underlying30 hif hz0 hz1 hz2 rfl (by omega) _ 1048576 Bg.toList rfl (HBG.out.own (Nat.le_refl _) q3) ⟨X1.heap.size, 0, none⟩ 1 1 [.float .f64 9221120237041090561, .float .f64 0] rfl rfl (World.news_of_block (cs := #[.float .f64 9221120237041090561, .float .f64 0]) (t := 28) (fr := (0, 0)) q2) (by simp [Value.oneCell']) (by unfold maxLen; omega) (by omega) hS.size ?_
   intro va W7 hown7 hgrow7 _
   have HW7 : Hid (Below w6.heap.size w6 W7) := hS.grown hgrow7 hS.size (fun q hq => by cases hq; exact Nat.le_refl _)
   obtain ⟨_, ⟨_, hx⟩ | ⟨ga, ca, cur, rfl, _⟩⟩ := hown7
   · omega
   clear hgrow7
   refine hK.out _ _ HW7.out ?_
   clear hS
   intro hS
   clear hK KF
   try simp only [AP]
   refine calA 5 fun KF hK => ?_
   go_simp
   refine (allBig_any _ 1048577 _ _ (by omega)).mono ?_
   rintro e wx ⟨rfl, hbx⟩
   rw [hbx]
   clear hbx wx
   go_wp2_with fail
   refine hK.out _ _ hS ?_
   clear hS
   intro hS
   clear hK KF
   try simp only [AP]
   refine takA (i := 6) (d := some 31) (v := .tuple #[.int .i64 0, .int .i64 3]) hS ?_
   simp only [AP]
   refine takA (i := 7) (d := some 38) (v := .int .i64 0) hS ?_
   simp only [AP]
   refine takA (i := 8) (d := some 39) (v := .int .i64 3) hS ?_
   simp only [AP]
   refine takA (i := 9) (d := some 5) (v := .int .i64 0) hS ?_
   simp only [AP]
   refine takA (i := 10) (d := some 6) (v := .int .i64 3) hS ?_
   simp only [AP]
   refine wpAnyH_done (by kernel_rfl) ?_ _
   have HB : Hid (Below w.heap.size w W7) := below_step HB.out HW7.out
   clear hS HW7
   try clear k1 q1 s1 k2 q2 q3
 case' pd =>
   intro o ho
   simp only [List.getElem?_toArray, List.getElem?_cons_succ, List.getElem?_cons_zero, Option.some.injEq] at ho
   subst ho
   intro KF hK
   go_simp
   go_wp2_with fail
   obtain ⟨X1, hX1⟩ : ∃ X, (w6.alloc (.cells #[.float .f64 9221120237041090561, .float .f64 0] 28)).drew = X := ⟨_, rfl⟩
   have k1 : Below w6.heap.size w6 X1 := by rw [← hX1]; exact ((Below.refl _ _).alloc (Nat.le_refl _) _).drew
   have q1 : X1.heap[w6.heap.size]? = some (.cells #[.float .f64 9221120237041090561, .float .f64 0] 28) := by rw [← hX1]; exact heap_new w6 _
   have s1 : w6.heap.size < X1.heap.size := by rw [← hX1]; show _ < (w6.alloc (.cells #[.float .f64 9221120237041090561, .float .f64 0] 28)).heap.size; simp
   rw [hX1]
   clear hX1
   refine hK.out _ _ k1 ?_
   clear hS
   intro hS
   clear hK KF
   try simp only [AP]
   refine calA 0 fun KF hK => ?_
   go_simp
   go_wp2_with fail
   obtain ⟨X2, hX2⟩ : ∃ Y, X1.alloc (.cells Bg 28) = Y := ⟨_, rfl⟩
   have k2 : Below X1.heap.size X1 X2 := by rw [← hX2]; exact (Below.refl _ _).alloc (Nat.le_refl _) _
   have q2 : X2.heap[X1.heap.size]? = some (.cells Bg 28) := by rw [← hX2]; exact heap_new X1 _
   have q3 := (k2.block _ s1).trans q1
   rw [hX2]
   clear hX2
   refine hK.out _ _ (below_step hS k2) ?_
   clear hS
   intro hS
   clear hK KF
   try simp only [AP]
   refine calA 4 fun KF hK => ?_
   rw [if_pos (by rfl)]
   refine wp_append_own _ _ _ _ rfl w6.heap.size 28 i0 _ 2 16 Try.underlying30 hif hz0 hz1 hz2 rfl (by omega) _ 1048576 Bg.toList rfl (HBG.out.own (Nat.le_of_lt s1) q2) ⟨w6.heap.size, 0, none⟩ 1 1 [.float .f64 9221120237041090561, .float .f64 0] rfl rfl (World.news_of_block (cs := #[.float .f64 9221120237041090561, .float .f64 0]) (t := 28) (fr := (0, 0)) q3) (by simp [Value.oneCell']) (by unfold maxLen; omega) (by omega) hS.size ?_
   intro va W7 hown7 hgrow7 _
   have HW7 : Hid (Below w6.heap.size w6 W7) := hS.grown hgrow7 hS.size (fun q hq => by cases hq; exact Nat.le_of_lt s1)
   obtain ⟨_, ⟨_, hx⟩ | ⟨ga, ca, cur, rfl, _⟩⟩ := hown7
   · omega
   clear hgrow7
   refine hK.out _ _ HW7.out ?_
   clear hS
   intro hS
   clear hK KF
   try simp only [AP]
   refine calA 5 fun KF hK => ?_
   go_simp
   refine (allBig_any _ 1048577 _ _ (by omega)).mono ?_
   rintro e wx ⟨rfl, hbx⟩
   rw [hbx]
   clear hbx wx
   go_wp2_with fail
   refine hK.out _ _ hS ?_
   clear hS
   intro hS
   clear hK KF
   try simp only [AP]
   refine takA (i := 6) (d := some 31) (v := .tuple #[.int .i64 0, .int .i64 3]) hS ?_
   simp only [AP]
   refine takA (i := 7) (d := some 38) (v := .int .i64 0) hS ?_
   simp only [AP]
   refine takA (i := 8) (d := some 39) (v := .int .i64 3) hS ?_
   simp only [AP]
   refine takA (i := 9) (d := some 5) (v := .int .i64 0) hS ?_
   simp only [AP]
   refine takA (i := 10) (d := some 6) (v := .int .i64 3) hS ?_
   simp only [AP]
   refine wpAnyH_done (by kernel_rfl) ?_ _
   have HB : Hid (Below w.heap.size w W7) := below_step HB.out HW7.out
   clear hS HW7
   try clear k1 q1 s1 k2 q2 q3
 all_goals
   go_wp2_with fail
   refine (csign7_is _).mono ?_
   rintro e w7 ⟨rfl, hb0⟩
   have hb : Below W7.heap.size W7 w7 := by rw [hb0]; exact Below.refl _ _
   clear hb0
   have HB : Hid (Below w.heap.size w w7) := below_step HB.out hb
   clear hb
   obtain ⟨v8, hv8⟩ : ∃ W, w7.alloc (.cells #[.float .f64 0, .float .f64 0, .float .f64 9223372036854775808, .float .f64 9223372036854775808] 28) = W := ⟨_, rfl⟩
   have HP : Hid (Ps v8 (.slice (some ⟨w7.heap.size, 0, none⟩) 2 2) 2 (fL [(0, 0), (9223372036854775808, 9223372036854775808)])) := by rw [← hv8]; exact psNew2 _ _ _ _ _ (by decide)
   have hb : Below w7.heap.size w7 v8 := by rw [← hv8]; exact (Below.refl _ _).alloc (Nat.le_refl _) _
   have HB : Hid (Below w.heap.size w v8) := below_step HB.out hb
   clear hb
   go_wp2_with fail
   refine (twins_any _ 2 (fL lz2) v8 HP.out).mono ?_
   rintro e w9 ⟨ht, hb⟩
   rcases ht with ⟨hh, _⟩ | ⟨_, gt, rfl, _, hi⟩
   · exact absurd nz2 hh
   have HTW : Hid (IRow w9 gt 2 (fun k => (tw (fL lz2) k : Nat))) := hi
   clear hi HP hv8
   have HB : Hid (Below w.heap.size w w9) := below_step HB.out hb
   clear hb
   have ct : w9.cell? ⟨gt, 1, none⟩ = some (.int .i64 0) := by have := (HTW.out.cell 1 (by omega)).1; rw [nz2tw] at this; exact this
   go_wp2_with fail
   refine (may1_any 4156822456062967808 14280914418391842816 _ (by unfold WdP; decide)).mono ?_
   rintro e w10 ⟨⟨t, rfl, ht⟩, hb⟩
   obtain rfl : t = true := ht.2 nmw10
   clear ht
   have HB : Hid (Below w.heap.size w w10) := below_step HB.out hb
   have ct : w10.cell? ⟨gt, 1, none⟩ = some (.int .i64 0) := box_cell hb ct
   clear hb
   go_wp2_with fail
   refine (may1_any 4152318856435597312 0 _ (by unfold WdP; decide)).mono ?_
   rintro e w11 ⟨⟨t, rfl, ht⟩, hb⟩
   obtain rfl : t = false := by
     cases t
     · rfl
     · exact absurd (ht.1 rfl) nmw11
   clear ht
   have HB : Hid (Below w.heap.size w w11) := below_step HB.out hb
   have ct : w11.cell? ⟨gt, 1, none⟩ = some (.int .i64 0) := box_cell hb ct
   clear hb
   go_wp2_with fail
   refine (inf7_is _).mono ?_
   rintro e w12 ⟨rfl, hb0⟩
   have hb : Below w11.heap.size w11 w12 := by rw [hb0]; exact Below.refl _ _
   clear hb0
   have HB : Hid (Below w.heap.size w w12) := below_step HB.out hb
   have ct : w12.cell? ⟨gt, 1, none⟩ = some (.int .i64 0) := box_cell hb ct
   clear hb
   go_wp2_with fail
   refine (next7_is _).mono ?_
   rintro e w13 ⟨rfl, hb0⟩
   have hb : Below w12.heap.size w12 w13 := by rw [hb0]; exact Below.refl _ _
   clear hb0
   have HB : Hid (Below w.heap.size w w13) := below_step HB.out hb
   have ct : w13.cell? ⟨gt, 1, none⟩ = some (.int .i64 0) := box_cell hb ct
   clear hb
   go_wp2_with fail
   refine (may1_any 0 5057542381537067009 _ (by unfold WdP; decide)).mono ?_
   rintro e w14 ⟨⟨t, rfl, ht⟩, hb⟩
   obtain rfl : t = false := by
     cases t
     · rfl
     · exact absurd (ht.1 rfl) nmw14
   clear ht
   have HB : Hid (Below w.heap.size w w14) := below_step HB.out hb
   have ct : w14.cell? ⟨gt, 1, none⟩ = some (.int .i64 0) := box_cell hb ct
   clear hb
   go_wp2_with fail
   refine (infm_is _).mono ?_
   rintro e w15 ⟨rfl, hb0⟩
   have hb : Below w14.heap.size w14 w15 := by rw [hb0]; exact Below.refl _ _
   clear hb0
   have HB : Hid (Below w.heap.size w w15) := below_step HB.out hb
   have ct : w15.cell? ⟨gt, 1, none⟩ = some (.int .i64 0) := box_cell hb ct
   clear hb
   go_wp2_with fail
   refine (may1_any 18442240474082181120 0 _ (by unfold WdP; decide)).mono ?_
   rintro e w16 ⟨⟨t, rfl, ht⟩, hb⟩
   obtain rfl : t = false := by
     cases t
     · rfl
     · exact absurd (ht.1 rfl) nmw16
   clear ht
   have HB : Hid (Below w.heap.size w w16) := below_step HB.out hb
   have ct : w16.cell? ⟨gt, 1, none⟩ = some (.int .i64 0) := box_cell hb ct
   clear hb
   go_wp2_with fail
   refine (flat_any _ 0 (fun _ => (0, 0)) w16 ⟨⟨none, 0, rfl, Nat.le_refl _, by omega, Or.inl rfl⟩, fun _ => by unfold WdP; decide⟩).mono ?_
   rintro e w17 ⟨⟨t, rfl, ht⟩, hb⟩
   obtain rfl : t = true := ht.2 nnil
   clear ht
   have HB : Hid (Below w.heap.size w w17) := below_step HB.out hb
   have ct : w17.cell? ⟨gt, 1, none⟩ = some (.int .i64 0) := box_cell hb ct
   clear hb
   obtain ⟨v18, hv18⟩ : ∃ W, w17.alloc (.cells #[.float .f64 0, .float .f64 0, .float .f64 4607182418800017408, .float .f64 0, .float .f64 0, .float .f64 0, .float .f64 4607182418800017408, .float .f64 0] 28) = W := ⟨_, rfl⟩
   have HP : Hid (Ps v18 (.slice (some ⟨w17.heap.size, 0, none⟩) 4 4) 4 (fL [(0, 0), (4607182418800017408, 0), (0, 0), (4607182418800017408, 0)])) := by rw [← hv18]; exact psNew4 _ _ _ _ _ _ _ _ _ (by decide)
   have hb : Below w17.heap.size w17 v18 := by rw [← hv18]; exact (Below.refl _ _).alloc (Nat.le_refl _) _
   have HB : Hid (Below w.heap.size w v18) := below_step HB.out hb
   have ct : v18.cell? ⟨gt, 1, none⟩ = some (.int .i64 0) := box_cell hb ct
   clear hb
   go_wp2_with fail
   refine (flat_any _ 4 (fL [(0, 0), (4607182418800017408, 0), (0, 0), (4607182418800017408, 0)]) v18 HP.out).mono ?_
   rintro e w19 ⟨⟨t, rfl, ht⟩, hb⟩
   obtain rfl : t = true := ht.2 nfw19
   clear ht
   clear HP hv18
   have HB : Hid (Below w.heap.size w w19) := below_step HB.out hb
   have ct : w19.cell? ⟨gt, 1, none⟩ = some (.int .i64 0) := box_cell hb ct
   clear hb
   obtain ⟨v20, hv20⟩ : ∃ W, w19.alloc (.cells #[.float .f64 0, .float .f64 0, .float .f64 4607182418800017408, .float .f64 0, .float .f64 4611686018427387904, .float .f64 0, .float .f64 4613937818241073152, .float .f64 4607182418800017408] 28) = W := ⟨_, rfl⟩
   have HP : Hid (Ps v20 (.slice (some ⟨w19.heap.size, 0, none⟩) 4 4) 4 (fL [(0, 0), (4607182418800017408, 0), (4611686018427387904, 0), (4613937818241073152, 4607182418800017408)])) := by rw [← hv20]; exact psNew4 _ _ _ _ _ _ _ _ _ (by decide)
   have hb : Below w19.heap.size w19 v20 := by rw [← hv20]; exact (Below.refl _ _).alloc (Nat.le_refl _) _
   have HB : Hid (Below w.heap.size w v20) := below_step HB.out hb
   have ct : v20.cell? ⟨gt, 1, none⟩ = some (.int .i64 0) := box_cell hb ct
   clear hb
   go_wp2_with fail
   refine (flat_any _ 4 (fL [(0, 0), (4607182418800017408, 0), (4611686018427387904, 0), (4613937818241073152, 4607182418800017408)]) v20 HP.out).mono ?_
   rintro e w21 ⟨⟨t, rfl, ht⟩, hb⟩
   obtain rfl : t = false := by
     cases t
     · rfl
     · exact absurd (ht.1 rfl) nfw21
   clear ht
   clear HP hv20
   have HB : Hid (Below w.heap.size w w21) := below_step HB.out hb
   have ct : w21.cell? ⟨gt, 1, none⟩ = some (.int .i64 0) := box_cell hb ct
   clear hb
   obtain ⟨v22, hv22⟩ : ∃ W, w21.alloc (.cells #[.float .f64 0, .float .f64 4613937818241073152, .float .f64 0, .float .f64 4607182418800017408, .float .f64 0, .float .f64 4611686018427387904, .float .f64 4621256167635550208, .float .f64 0] 28) = W := ⟨_, rfl⟩
   have HP : Hid (Ps v22 (.slice (some ⟨w21.heap.size, 0, none⟩) 4 4) 4 (fL [(0, 4613937818241073152), (0, 4607182418800017408), (0, 4611686018427387904), (4621256167635550208, 0)])) := by rw [← hv22]; exact psNew4 _ _ _ _ _ _ _ _ _ (by decide)
   have hb : Below w21.heap.size w21 v22 := by rw [← hv22]; exact (Below.refl _ _).alloc (Nat.le_refl _) _
   have HB : Hid (Below w.heap.size w v22) := below_step HB.out hb
   have ct : v22.cell? ⟨gt, 1, none⟩ = some (.int .i64 0) := box_cell hb ct
   clear hb
   go_wp2_with fail
   refine (flat_any _ 4 (fL [(0, 4613937818241073152), (0, 4607182418800017408), (0, 4611686018427387904), (4621256167635550208, 0)]) v22 HP.out).mono ?_
   rintro e w23 ⟨⟨t, rfl, ht⟩, hb⟩
   obtain rfl : t = false := by
     cases t
     · rfl
     · exact absurd (ht.1 rfl) nfw23
   clear ht
   clear HP hv22
   have HB : Hid (Below w.heap.size w w23) := below_step HB.out hb
   have ct : w23.cell? ⟨gt, 1, none⟩ = some (.int .i64 0) := box_cell hb ct
   clear hb
   obtain ⟨v24, hv24⟩ : ∃ W, w23.alloc (.cells #[.float .f64 0, .float .f64 0, .float .f64 9223372036854775808, .float .f64 0] 28) = W := ⟨_, rfl⟩
   have HP : Hid (Ps v24 (.slice (some ⟨w23.heap.size, 0, none⟩) 2 2) 2 (fL [(0, 0), (9223372036854775808, 0)])) := by rw [← hv24]; exact psNew2 _ _ _ _ _ (by decide)
   have hb : Below w23.heap.size w23 v24 := by rw [← hv24]; exact (Below.refl _ _).alloc (Nat.le_refl _) _
   have HB : Hid (Below w.heap.size w v24) := below_step HB.out hb
   have ct : v24.cell? ⟨gt, 1, none⟩ = some (.int .i64 0) := box_cell hb ct
   clear hb
   go_wp2_with fail
   refine (unlike_any _ 2 (fL [(0, 0), (9223372036854775808, 0)]) v24 HP.out).mono ?_
   rintro e w25 ⟨h6, hb⟩
   rcases h6 with ⟨hh, _⟩ | ⟨_, R4, os', us, rfl, _, ho, hus, _⟩
   · exact absurd nu2 hh
   obtain rfl := ho.uniq nu2o
   rw [nu2f] at hus
   subst hus
   clear ho HP hv24
   have HB : Hid (Below w.heap.size w w25) := below_step HB.out hb
   have ct : w25.cell? ⟨gt, 1, none⟩ = some (.int .i64 0) := box_cell hb ct
   clear hb
   go_wp2_with fail
   refine (cmp7_any (9223372036854775808, 0) (0, 0) _ (by unfold WdP; decide) (by unfold WdP; decide)).mono ?_
   rintro e w26 ⟨rfl, hb⟩
   rw [ncmp]
   have HB : Hid (Below w.heap.size w w26) := below_step HB.out hb
   have ct : w26.cell? ⟨gt, 1, none⟩ = some (.int .i64 0) := box_cell hb ct
   clear hb
   go_wp2
   go_ret
   exact ⟨rfl, HB.out⟩

end Go.Proofs.Ytgpbfhennineiaa
