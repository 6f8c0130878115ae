/- Own texts, put together: Ef Eg Eh Fd Wj. -/
import Derived.Test.YtejhinjanjlplaaDoorQ13
import Derived.Test.YtejhinjanjlplaaDoorQ14
import Derived.Test.YtejhinjanjlplaaDoorQ15
import Derived.Below
namespace Go.Proofs.YtejhinjanjlplaaDoor
/- What is refused. -/
section
open Go.RowKit
end

/- The steps of sums, halves and products: each is the float that the language has of it. -/
section
open Go.RowKit
structure TwoSum (a b x fb fa lb la y : Nat) : Prop where
 s0 : floatBits .add .f64 a b = some x
 s1 : floatBits .sub .f64 x a = some fb
 s2 : floatBits .sub .f64 x fb = some fa
 s3 : floatBits .sub .f64 b fb = some lb
 s4 : floatBits .sub .f64 a fa = some la
 s5 : floatBits .add .f64 la lb = some y
end

/- awake: the examples. -/
section
open Go.RowKit
theorem ex1 : TwoSum 4845873199050653696 4607182418800017408 4845873199050653696 0 4845873199050653696 4607182418800017408 0 4607182418800017408 := ⟨by decide +kernel, by decide +kernel, by decide +kernel, by decide +kernel, by decide +kernel, by decide +kernel⟩
end

/- Floats: Ldexp, on floats that are not below the normal ones. -/
section
open Go.RowKit
set_option maxHeartbeats 1000000 in
theorem inf_pos (w : World) : Calls Tryd.prog 56 #[.int .i64 1] w fun e w' => e = .returned (.float .f64 9218868437227405312) ∧ w' = w := by
 have b2 := run_frombits 9218868437227405312
 have b2' : ∀ w, (callFunc 38 #[.int .u64 9218868437227405312]).run Tryd.prog w = .ok (.value (.float .f64 9218868437227405312)) w := b2
 go_enter Tryd.func56, Tryd.ntmps56
 go_wp2
 go_ret
 exact ⟨rfl, rfl⟩
set_option maxHeartbeats 2000000 in
theorem ldexp_norm (E u T x y z9 : Nat) (k : Int) (w : World) (hx : E * 4503599627370496 + u = x) (hy : T * 4503599627370496 + u = y) (hz : T * 4503599627370496 = z9) (hE1 : 1 ≤ E) (hE2 : E ≤ 2046) (hu : u < 4503599627370496) (hT : k + (E : Int) = (T : Int)) (hT1 : 1 ≤ T) (hT2 : T ≤ 2046) :
   Calls Tryd.prog 40 #[.float .f64 x, .int .i64 k] w fun e w' => e = .returned (.float .f64 y) ∧ w' = w := by
 have z := zero_order x (by omega) (by omega)
 obtain ⟨f1, f2⟩ := fin_flags x (by omega)
 have b1 := run_bits x
 have HI : Hid (∀ w, Calls Tryd.prog 16 #[.float .f64 x, .int .i64 0] w fun e w' => e = .returned (.bool false) ∧ w' = w) := fun w => by have := isInf0_any x w (by omega); rwa [f1] at this
 have HN : Hid (∀ w, Calls Tryd.prog 15 #[.float .f64 x] w fun e w' => e = .returned (.bool false) ∧ w' = w) := fun w => by have := isNaN_any x w; rwa [f2] at this
 have HM : Hid (∀ w, Calls Tryd.prog 55 #[.float .f64 x] w fun e w' => e = .returned (.tuple #[.float .f64 x, .int .i64 0]) ∧ w' = w) := fun w => normalize_big _ w (by omega) (by omega)
 have c1 : ((x : Nat) : Int) / 4503599627370496 = (E : Int) := by omega
 have c2 := and_exp_i E (by omega)
 have c3 := andNot_exp x (by omega)
 rw [show x % 4503599627370496 = u by omega] at c3
 have c4 : bits .or .u64 (u : Int) (z9 : Int) = (y : Int) := by have := or_exp T u (by omega) hu; rw [hy, hz] at this; exact this
 have b2 := run_frombits y
 have c5 : IntKind.u64.wrap ((T : Int) * 4503599627370496) = (z9 : Int) := by rw [IntKind.wrap_u64]; omega
 have c6 : ∀ w, (binOp .mul 22 (.float .f64 4607182418800017408) (.float .f64 y)).run Tryd.prog w = .ok (.float .f64 y) w := fun w => run_float_arith w .mul _ .f64 _ _ _ (by have := mul_one T u hT1 hT2 hu; rw [hy] at this; exact this)
 have g1 : ¬ (k + ((E : Int) - 1023) < -1075) := by omega
 have g2 : ¬ (1023 < k + ((E : Int) - 1023)) := by omega
 have g3 : ¬ (k + ((E : Int) - 1023) < -1022) := by omega
 have g4 : k + ((E : Int) - 1023) + 1023 = (T : Int) := by omega
 have g5 : -5000 ≤ k := by omega
 have g6 : k ≤ 5000 := by omega
 have g7 : (E : Int) ≤ 2046 := by omega
 have g8 : (T : Int) ≤ 2046 := by omega
 have HX : Hid (E * 4503599627370496 + u = x) := hx
 clear hx f1 f2
 have HY : Hid (T * 4503599627370496 + u = y) := hy
 have HZ : Hid (T * 4503599627370496 = z9) := hz
 have HT : Hid (k + (E : Int) = (T : Int)) := hT
 clear hy hz hT
 go_enter Tryd.func40, Tryd.ntmps40
 go_wp2_with (first
   | (go_at_call 16; refine (HI.out _).mono ?_; rintro e w' ⟨rfl, rfl⟩)
   | (go_at_call 15; refine (HN.out _).mono ?_; rintro e w' ⟨rfl, rfl⟩)
   | (go_at_call 55; refine (HM.out _).mono ?_; rintro e w' ⟨rfl, rfl⟩))
 go_ret
 exact ⟨rfl, rfl⟩
set_option maxHeartbeats 2000000 in
theorem ldexp_den (E u T x y z9 r : Nat) (k : Int) (w : World) (hx : E * 4503599627370496 + u = x) (hy : T * 4503599627370496 + u = y) (hz : T * 4503599627370496 = z9) (hE1 : 1 ≤ E) (hE2 : E ≤ 2046) (hu : u < 4503599627370496) (hT : k + (E : Int) + 53 = (T : Int)) (hT1 : 1 ≤ T) (hT2 : T ≤ 53) (hmul : Ieee.double.mul 4368491638549381120 y = some r) :
   Calls Tryd.prog 40 #[.float .f64 x, .int .i64 k] w fun e w' => e = .returned (.float .f64 r) ∧ w' = w := by
 have z := zero_order x (by omega) (by omega)
 obtain ⟨f1, f2⟩ := fin_flags x (by omega)
 have b1 := run_bits x
 have HI : Hid (∀ w, Calls Tryd.prog 16 #[.float .f64 x, .int .i64 0] w fun e w' => e = .returned (.bool false) ∧ w' = w) := fun w => by have := isInf0_any x w (by omega); rwa [f1] at this
 have HN : Hid (∀ w, Calls Tryd.prog 15 #[.float .f64 x] w fun e w' => e = .returned (.bool false) ∧ w' = w) := fun w => by have := isNaN_any x w; rwa [f2] at this
 have HM : Hid (∀ w, Calls Tryd.prog 55 #[.float .f64 x] w fun e w' => e = .returned (.tuple #[.float .f64 x, .int .i64 0]) ∧ w' = w) := fun w => normalize_big _ w (by omega) (by omega)
 have c1 : ((x : Nat) : Int) / 4503599627370496 = (E : Int) := by omega
 have c2 := and_exp_i E (by omega)
 have c3 := andNot_exp x (by omega)
 rw [show x % 4503599627370496 = u by omega] at c3
 have c4 : bits .or .u64 (u : Int) (z9 : Int) = (y : Int) := by have := or_exp T u (by omega) hu; rw [hy, hz] at this; exact this
 have b2 := run_frombits y
 have c5 : IntKind.u64.wrap ((T : Int) * 4503599627370496) = (z9 : Int) := by rw [IntKind.wrap_u64]; omega
 have c6 : ∀ w, (binOp .mul 22 (.float .f64 4368491638549381120) (.float .f64 y)).run Tryd.prog w = .ok (.float .f64 r) w := fun w => run_float_arith w .mul _ .f64 _ _ _ hmul
 have g1 : ¬ (k + ((E : Int) - 1023) < -1075) := by omega
 have g2 : ¬ (1023 < k + ((E : Int) - 1023)) := by omega
 have g3 : k + ((E : Int) - 1023) < -1022 := by omega
 have g4 : k + ((E : Int) - 1023) + 53 + 1023 = (T : Int) := by omega
 have g5 : -5000 ≤ k := by omega
 have g6 : k ≤ 5000 := by omega
 have g7 : (E : Int) ≤ 2046 := by omega
 have g8 : (T : Int) ≤ 2046 := by omega
 have HX : Hid (E * 4503599627370496 + u = x) := hx
 clear hx f1 f2
 have HY : Hid (T * 4503599627370496 + u = y) := hy
 have HZ : Hid (T * 4503599627370496 = z9) := hz
 have HT : Hid (k + (E : Int) + 53 = (T : Int)) := hT
 clear hy hz hT hmul
 go_enter Tryd.func40, Tryd.ntmps40
 go_wp2_with (first
   | (go_at_call 16; refine (HI.out _).mono ?_; rintro e w' ⟨rfl, rfl⟩)
   | (go_at_call 15; refine (HN.out _).mono ?_; rintro e w' ⟨rfl, rfl⟩)
   | (go_at_call 55; refine (HM.out _).mono ?_; rintro e w' ⟨rfl, rfl⟩))
 go_ret
 exact ⟨rfl, rfl⟩
set_option maxHeartbeats 2000000 in
theorem ldexp_inf (E u x : Nat) (k : Int) (w : World) (hx : E * 4503599627370496 + u = x) (hE1 : 1 ≤ E) (hE2 : E ≤ 2046) (hu : u < 4503599627370496) (hT : 2046 < k + (E : Int)) (hk : k ≤ 1000000) :
   Calls Tryd.prog 40 #[.float .f64 x, .int .i64 k] w fun e w' => e = .returned (.float .f64 9218868437227405312) ∧ w' = w := by
 have z := zero_order x (by omega) (by omega)
 obtain ⟨f1, f2⟩ := fin_flags x (by omega)
 have b1 := run_bits x
 have HI : Hid (∀ w, Calls Tryd.prog 16 #[.float .f64 x, .int .i64 0] w fun e w' => e = .returned (.bool false) ∧ w' = w) := fun w => by have := isInf0_any x w (by omega); rwa [f1] at this
 have HN : Hid (∀ w, Calls Tryd.prog 15 #[.float .f64 x] w fun e w' => e = .returned (.bool false) ∧ w' = w) := fun w => by have := isNaN_any x w; rwa [f2] at this
 have HM : Hid (∀ w, Calls Tryd.prog 55 #[.float .f64 x] w fun e w' => e = .returned (.tuple #[.float .f64 x, .int .i64 0]) ∧ w' = w) := fun w => normalize_big _ w (by omega) (by omega)
 have c1 : ((x : Nat) : Int) / 4503599627370496 = (E : Int) := by omega
 have c2 := and_exp_i E (by omega)
 have c3 := andNot_exp x (by omega)
 rw [show x % 4503599627370496 = u by omega] at c3
 have g0 : (FloatKind.f64.format.order x 0 == some .lt) = false := by
   show (Ieee.double.order x 0 == some .lt) = false
   rw [order_fin (by unfold Fin64 frung; omega) (by unfold Fin64 frung; decide), fval_zero_iff.2 (by rfl : frung 0 = 0), if_neg (by have := fval_nonneg (r := x) (by omega); grind)]
   split <;> rfl
 have g1 : ¬ (k + ((E : Int) - 1023) < -1075) := by omega
 have g2 : 1023 < k + ((E : Int) - 1023) := by omega
 have g5 : -5000 ≤ k := by omega
 have g7 : (E : Int) ≤ 2046 := by omega
 have HX : Hid (E * 4503599627370496 + u = x) := hx
 clear hx f1 f2
 have HT : Hid (2046 < k + (E : Int)) := hT
 clear hT
 go_enter Tryd.func40, Tryd.ntmps40
 go_wp2_with (first
   | (go_at_call 16; refine (HI.out _).mono ?_; rintro e w' ⟨rfl, rfl⟩)
   | (go_at_call 15; refine (HN.out _).mono ?_; rintro e w' ⟨rfl, rfl⟩)
   | (go_at_call 55; refine (HM.out _).mono ?_; rintro e w' ⟨rfl, rfl⟩)
   | (go_at_call 56; refine (inf_pos _).mono ?_; rintro e w' ⟨rfl, rfl⟩))
 go_ret
 exact ⟨rfl, rfl⟩
set_option maxHeartbeats 1000000 in
theorem ldexp_zero (k : Int) (w : World) : Calls Tryd.prog 40 #[.float .f64 0, .int .i64 k] w fun e w' => e = .returned (.float .f64 0) ∧ w' = w := by
 have z : (FloatKind.f64.format.order 0 0 == some .eq) = true := by decide
 go_enter Tryd.func40, Tryd.ntmps40
 go_wp2
 go_ret
 exact ⟨rfl, rfl⟩
set_option maxHeartbeats 1000000 in
theorem Ldexp_of (a b : Nat) (k : Int) (w : World) (hf : ∀ w, Calls Tryd.prog 40 #[.float .f64 a, .int .i64 k] w fun e w' => e = .returned (.float .f64 b) ∧ w' = w) :
   Calls Tryd.prog 19 #[.float .f64 a, .int .i64 k] w fun e w' => e = .returned (.float .f64 b) ∧ w' = w := by
 have HF : Hid _ := hf
 clear hf
 go_enter Tryd.func19, Tryd.ntmps19
 go_wp2_with (first | (go_at_call 40; refine (HF.out _).mono ?_; rintro e w' ⟨rfl, rfl⟩))
 go_ret
 exact ⟨rfl, rfl⟩
end

/- The walk of bringTimes: a number times a word is added to words. -/
section
open Go.RowKit
theorem mulN (x y : Nat) (w : World) (hx : x < 18446744073709551616) (hy : y < 18446744073709551616) :
   Calls Tryd.prog 61 #[.int .u64 (x : Nat), .int .u64 (y : Nat)] w fun e w' => e = .returned (.tuple #[.int .u64 (x * y / 18446744073709551616 : Nat), .int .u64 (x * y % 18446744073709551616 : Nat)]) ∧ w' = w := by
 refine (mul64_any x y w (by omega) (by omega) (by omega) (by omega)).mono ?_
 rintro e w' ⟨rfl, rfl⟩
 refine ⟨?_, rfl⟩
 rw [Int.natCast_ediv, Int.natCast_emod, Int.natCast_mul]
 rfl
def btRow (zs ps : List Nat) (i k : Nat) : List Nat := zs.take i ++ ps ++ zs.drop (i + k)
theorem btRow_length (zs ps : List Nat) (i k : Nat) (hp : ps.length = k) (h : i + k ≤ zs.length) : (btRow zs ps i k).length = zs.length := by
 simp [btRow]; omega
theorem btRow_getD (zs ps : List Nat) (i k : Nat) (hp : ps.length = k) (h : i + k < zs.length) : (btRow zs ps i k).getD (i + k) 0 = zs.getD (i + k) 0 := by
 unfold btRow
 rw [List.getD, List.getElem?_append_right (by simp; omega)]
 simp only [List.length_append, List.length_take, hp, Nat.min_eq_left (show i ≤ zs.length by omega), Nat.sub_self, List.getElem?_drop, Nat.add_zero]
 rfl
theorem btRow_set (zs ps : List Nat) (i k v : Nat) (hp : ps.length = k) (h : i + k < zs.length) : (wds (btRow zs ps i k)).set (i + k) (.int .u64 (v : Nat)) = wds (btRow zs (ps ++ [v]) i (k + 1)) := by
 unfold wds btRow
 rw [← List.map_set, List.set_append_right _ _ (by simp; omega)]
 congr 1
 have e : i + k - (List.take i zs ++ ps).length = 0 := by simp; omega
 rw [e, ← List.append_assoc, List.append_assoc (List.take i zs ++ ps)]
 congr 1
 rw [List.drop_eq_getElem_cons h]
 rfl
theorem bt_step (p v c x y wv a b T : Nat) (hT : T = y * wv + c + x) (h : v + p * c = a + b * wv) : v + p * (T % 18446744073709551616) + p * 18446744073709551616 * (T / 18446744073709551616) = a + p * x + (b + p * y) * wv := by
 have h2 := Nat.mod_add_div T 18446744073709551616
 generalize T % 18446744073709551616 = s at *
 generalize T / 18446744073709551616 = d at *
 subst hT
 grind
theorem bt_words (x y wv c : Nat) (hx : x < 18446744073709551616) (hy : y < 18446744073709551616) (hw : wv < 18446744073709551616) (hc : c < 18446744073709551616) :
   (x + (y * wv % 18446744073709551616 + c) % 18446744073709551616) % 18446744073709551616 = (y * wv + c + x) % 18446744073709551616 ∧
   y * wv / 18446744073709551616 + (y * wv % 18446744073709551616 + c) / 18446744073709551616 < 18446744073709551616 ∧
   y * wv / 18446744073709551616 + (y * wv % 18446744073709551616 + c) / 18446744073709551616 + (x + (y * wv % 18446744073709551616 + c) % 18446744073709551616) / 18446744073709551616 = (y * wv + c + x) / 18446744073709551616 ∧
   (y * wv + c + x) / 18446744073709551616 < 18446744073709551616 := by
 have h : y * wv ≤ 18446744073709551615 * 18446744073709551615 := Nat.mul_le_mul (by omega) (by omega)
 generalize y * wv = q at *
 omega
set_option maxHeartbeats 2000000 in
theorem bt_walk (sm : Value) (more zs : List Nat) (g i wv : Nat) (w0 w : World) (h0 : Ws w0 sm more) (hB : Below w0.heap.size w0 w) (hg : w0.heap.size ≤ g) (hr : Row w 45 g (wds zs)) (hz : Small zs) (hwv : wv < 18446744073709551616)
   (hi : i + more.length < zs.length) (hl : zs.length ≤ 1000000) :
   Calls Tryd.prog 48 #[sm, .int .u64 (wv : Nat), .slice (some ⟨g, i, none⟩) (zs.length - i) (zs.length - i)] w fun e w' => e = .returned (.tuple #[]) ∧
     ∃ (ps : List Nat), ps.length = more.length + 1 ∧ Small ps ∧ val ps = val ((zs.drop i).take more.length) + val more * wv ∧ Row w' 45 g (wds (btRow zs ps i (more.length + 1))) ∧ w.grownBy w' (some g) := by
 have hms : Small more := h0.small
 obtain ⟨a, cap, rfl, hcap, hc⟩ := h0.shape
 have hcm : ∀ W, w.grownBy W (some g) → ∀ k, k < more.length → ∃ b off, a = some ⟨b, off, none⟩ ∧ W.cell? ⟨b, off + k, none⟩ = some (.int .u64 (more.getD k 0 : Nat)) := by
   intro W hW k hk
   rcases hc with hc | ⟨b, off, ha, hb, hc⟩
   · rw [hc] at hk; simp at hk
   · exact ⟨b, off, ha, hW.cell (cell_later hB (hc k hk)) (by simp; omega)⟩
 have hl' : (zs.length : Int) ≤ 1000000 := by omega
 have hml : (more.length : Int) ≤ 1000000 := by omega
 generalize hN : zs.length - i = N
 have HN : Hid (zs.length - i = N) := hN
 have hNl : (more.length : Int) < (N : Int) := by omega
 have hNs : (N : Int) ≤ 1000000 := by omega
 clear hc hN
 go_enter Tryd.func48, Tryd.ntmps48
 go_wp2
 go_loopw [6, 14] (fun cr j wr => ∃ (k c : Nat) (ps : List Nat), k ≤ more.length ∧ c < 18446744073709551616 ∧ j = .int .i64 k ∧ cr = .int .u64 c ∧ ps.length = k ∧ Small ps ∧ val ps + 2 ^ (64 * k) * c = val ((zs.drop i).take k) + val (more.take k) * wv ∧ Row wr 45 g (wds (btRow zs ps i k)) ∧ w.grownBy wr (some g))
   (fun _ j _ => more.length - (intOf j).toNat)
 case atStart => exact ⟨0, 0, [], Nat.zero_le _, by omega, rfl, rfl, rfl, fun n hn => by simp at hn, by simp [val], by simpa [btRow] using hr, World.grownBy.refl _ _⟩
 case round =>
   obtain ⟨k, c, ps, hk, hcb, rfl, rfl, hps, hsm, hv, hrk, hgr⟩ := hrel
   by_cases hlt : k < more.length
   · obtain ⟨b, off, rfl, hcell⟩ := hcm wr hgr k hlt
     have hik : i + k < zs.length := by omega
     have hxk : wr.cell? ⟨g, i + k, none⟩ = some (.int .u64 (zs.getD (i + k) 0 : Nat)) := by
       rw [hrk.cell (i + k) (by rw [wds_length, btRow_length _ _ _ _ hps (by omega)]; exact hik), wds_getD _ _ (by rw [btRow_length _ _ _ _ hps (by omega)]; exact hik), btRow_getD _ _ _ _ hps hik]
     have hfk := hrk.frozen (i + k)
     have hx := small_getD hz (i + k)
     have hy := small_getD hms k
     obtain ⟨m1, m2, m3, m4⟩ := bt_words (zs.getD (i + k) 0) (more.getD k 0) wv c hx hy hwv hcb
     have HNV : Hid (val (ps ++ [(more.getD k 0 * wv + c + zs.getD (i + k) 0) % 18446744073709551616]) + 2 ^ (64 * (k + 1)) * ((more.getD k 0 * wv + c + zs.getD (i + k) 0) / 18446744073709551616) = val ((zs.drop i).take (k + 1)) + val (more.take (k + 1)) * wv) := by
       rw [val_snoc, hps, val_take_succ, val_take_succ, getD_drop, Nat.mul_add, Nat.mul_one, Nat.pow_add, show (2 : Nat) ^ 64 = 18446744073709551616 from rfl]
       exact bt_step _ _ _ _ _ _ _ _ _ rfl hv
     have HNR : Hid (Row (wr.setCell ⟨g, i + k, none⟩ (.int .u64 ((more.getD k 0 * wv + c + zs.getD (i + k) 0) % 18446744073709551616 : Nat))) 45 g (wds (btRow zs (ps ++ [(more.getD k 0 * wv + c + zs.getD (i + k) 0) % 18446744073709551616]) i (k + 1)))) := by
       rw [← btRow_set zs ps i k _ hps hik]; exact hrk.set (i + k) _
     have HNS : Hid (Small (ps ++ [(more.getD k 0 * wv + c + zs.getD (i + k) 0) % 18446744073709551616])) := small_app hsm (fun n hn => by simp at hn; rw [hn]; exact Nat.mod_lt _ (by omega))
     have HNC : Hid ((more.getD k 0 * wv + c + zs.getD (i + k) 0) / 18446744073709551616 < 18446744073709551616) := m4
     have hmul := fun W => mulN (more.getD k 0) wv W hy hwv
     have ha1 := fun W => isAdd.run (more.getD k 0 * wv % 18446744073709551616) c 0 W (by omega)
     have ha2 := fun W => isAdd.run (zs.getD (i + k) 0) ((more.getD k 0 * wv % 18446744073709551616 + c) % 18446744073709551616) 0 W (by omega)
     simp only [Nat.add_zero] at ha1 ha2
     have hw1 : IntKind.u64.wrap (((more.getD k 0 * wv / 18446744073709551616 : Nat) : Int) + ((more.getD k 0 * wv % 18446744073709551616 + c) / 18446744073709551616 : Nat)) = ((more.getD k 0 * wv / 18446744073709551616 + (more.getD k 0 * wv % 18446744073709551616 + c) / 18446744073709551616 : Nat) : Int) := by
       rw [IntKind.wrap_u64]; omega
     have hw2 : IntKind.u64.wrap (((more.getD k 0 * wv / 18446744073709551616 + (more.getD k 0 * wv % 18446744073709551616 + c) / 18446744073709551616 : Nat) : Int) + ((zs.getD (i + k) 0 + (more.getD k 0 * wv % 18446744073709551616 + c) % 18446744073709551616) / 18446744073709551616 : Nat)) = ((more.getD k 0 * wv + c + zs.getD (i + k) 0) / 18446744073709551616 : Nat) := by
       rw [← m3, IntKind.wrap_u64]; omega
     rw [m1] at ha2
     clear m3 m1 m2 m4
     generalize (more.getD k 0 * wv + c + zs.getD (i + k) 0) / 18446744073709551616 = cN at *
     generalize (more.getD k 0 * wv + c + zs.getD (i + k) 0) % 18446744073709551616 = sN at *
     generalize more.getD k 0 * wv / 18446744073709551616 + (more.getD k 0 * wv % 18446744073709551616 + c) / 18446744073709551616 = h1 at *
     generalize (zs.getD (i + k) 0 + (more.getD k 0 * wv % 18446744073709551616 + c) % 18446744073709551616) / 18446744073709551616 = c2 at *
     generalize (more.getD k 0 * wv % 18446744073709551616 + c) % 18446744073709551616 = s1 at *
     generalize (more.getD k 0 * wv % 18446744073709551616 + c) / 18446744073709551616 = c1 at *
     generalize more.getD k 0 * wv % 18446744073709551616 = lo at *
     generalize more.getD k 0 * wv / 18446744073709551616 = hi' at *
     generalize more.getD k 0 = y at *
     generalize zs.getD (i + k) 0 = x at *
     have ha1' : ∀ W, (callFunc 59 #[.int .u64 (lo : Nat), .int .u64 (c : Nat), .int .u64 0]).run Tryd.prog W = .ok (.value (.tuple #[.int .u64 (s1 : Nat), .int .u64 (c1 : Nat)])) W := ha1
     have ha2' : ∀ W, (callFunc 59 #[.int .u64 (x : Nat), .int .u64 (s1 : Nat), .int .u64 0]).run Tryd.prog W = .ok (.value (.tuple #[.int .u64 (sN : Nat), .int .u64 (c2 : Nat)])) W := ha2
     clear ha1 ha2
     have HPS : Hid (ps.length = k) := hps
     have HGR : Hid _ := hgr
     have HMUL : Hid _ := hmul
     have hkN : (k : Int) < (N : Int) := by omega
     have hkm : (k : Int) < (more.length : Int) := by omega
     clear hps hgr hmul hv hrk hsm hcm hr hz hms h0
     go_wp2_with fail
     refine (HMUL.out _).mono ?_
     rintro e w1 ⟨rfl, rfl⟩
     go_wp2
     exact ⟨⟨k + 1, cN, ps ++ [sN], by omega, HNC.out, by go_num, rfl, by simp [HPS.out], HNS.out, HNV.out, HNR.out, grown_set HGR.out _ _⟩, by simp [intOf]; omega⟩
   · have hkm : k = more.length := by omega
     subst hkm
     have hik : i + more.length < zs.length := hi
     have hxk : ∃ v, wr.cell? ⟨g, i + more.length, none⟩ = some v := ⟨_, hrk.cell (i + more.length) (by rw [wds_length, btRow_length _ _ _ _ hps (by omega)]; exact hik)⟩
     obtain ⟨v0, hxk⟩ := hxk
     have hfk := hrk.frozen (i + more.length)
     have HNR : Hid (Row (wr.setCell ⟨g, i + more.length, none⟩ (.int .u64 (c : Nat))) 45 g (wds (btRow zs (ps ++ [c]) i (more.length + 1)))) := by
       rw [← btRow_set zs ps i more.length _ hps hik]; exact hrk.set (i + more.length) _
     have HNS : Hid (Small (ps ++ [c])) := small_app hsm (fun n hn => by simp at hn; rw [hn]; exact hcb)
     have HNV : Hid (val (ps ++ [c]) = val ((zs.drop i).take more.length) + val more * wv) := by
       rw [val_snoc, hps, hv, List.take_of_length_le (Nat.le_refl _)]; exact rfl
     have HPS : Hid (ps.length = more.length) := hps
     have HGR : Hid _ := hgr
     clear hps hgr hv hrk hsm hcm hr hz hms h0
     go_wp2
     go_end0
     exact ⟨rfl, ps ++ [c], by simp [HPS.out], HNS.out, HNV.out, HNR.out, grown_set HGR.out _ _⟩
end
end Go.Proofs.YtejhinjanjlplaaDoor
