/- EftHalves: the walk. -/
import Derived.Test.YtfocdhapjljooaaHa
namespace Go.Proofs.Ytfocdhapjljooaa
open Go.RowKit
attribute [local go_sem ↓] Go.wp_at_zero Go.wp_at_succ
attribute [local go_sem] run_store_float

/-- What is asked of a half: a float of at most 26 bits. -/
def Few (x : Nat) : Prop := x < 18446744073709551616 ∧ Fin64 x ∧ ∃ (n : Int) (s : Nat), 550 ≤ s ∧ s ≤ 1500 ∧ fval x = (n : Rat) * U s ∧ -67108864 ≤ n ∧ n ≤ 67108864

theorem few_half {a : Nat} (h : SafeW (frung a)) : ∃ c d x y, Halves a c d x y ∧ Few x ∧ Few y ∧ fval x + fval y = fval a := by
  obtain ⟨c, d, x, y, h1, h2, h3, h4, h5, _, _, h6⟩ := halves_words h
  refine ⟨c, d, x, y, h1, ?_⟩
  rcases h6 with ⟨z1, z2, z3⟩ | ⟨hS, X, Y, N⟩
  · refine ⟨⟨h4, h2, 0, 600, by omega, by omega, by rw [z2, show ((0 : Int) : Rat) = 0 from rfl]; grind, by omega, by omega⟩, ⟨h5, h3, 0, 600, by omega, by omega, by rw [z3, show ((0 : Int) : Rat) = 0 from rfl]; grind, by omega, by omega⟩, by rw [z1, z2, z3]; grind⟩
  · have hb : frung a / 4503599627370496 ≤ 1473 := by unfold SafeW at h; omega
    exact ⟨⟨h4, h2, X, _, by omega, by omega, N.h1, N.x1, N.x2⟩, ⟨h5, h3, Y, _, by omega, by omega, N.h2, N.y1, N.y2⟩, N.sum⟩

theorem U_prod {s t : Nat} (h : 1074 ≤ s + t) : U s * U t = U (s + t - 1074) := by
  unfold U
  rw [← p2_add, show (s : Int) - 1074 + ((t : Int) - 1074) = ((s + t - 1074 : Nat) : Int) - 1074 by omega]

/-- The product of two halves is not rounded. -/
theorem few_prod {p q : Nat} (hp : Few p) (hq : Few q) : ∃ r, floatBits .mul .f64 p q = some r ∧ r < 18446744073709551616 ∧ den r = den p * den q := by
  obtain ⟨lp, fp, n, s, s1, s2, e1, n1, n2⟩ := hp
  obtain ⟨lq, fq, m, t, t1, t2, e2, m1, m2⟩ := hq
  have hu := U_prod (show 1074 ≤ s + t by omega)
  have e : fval p * fval q = ((n * m : Int) : Rat) * U (s + t - 1074) := by rw [e1, e2, ← hu, Rat.intCast_mul]; grind
  have hnm : -4503599627370496 ≤ n * m ∧ n * m ≤ 4503599627370496 := by
    have a1 : (n * m).natAbs ≤ 67108864 * 67108864 := by rw [Int.natAbs_mul]; exact Nat.mul_le_mul (by omega) (by omega)
    omega
  have hF : F (fval p * fval q) := ⟨_, n * m, e, by omega, by omega⟩
  have hb := F.abs e (by omega) (by omega)
  have hlim : Lim (fval p * fval q) := by
    have h1 : 9007199254740992 * U (s + t - 1074) < p2 1023 := by
      have : 9007199254740992 * U (s + t - 1074) = p2 (((s + t - 1074 : Nat) : Int) - 1074 + 53) := by
        unfold U
        rw [show ((s + t - 1074 : Nat) : Int) - 1074 + 53 = ((53 : Nat) : Int) + (((s + t - 1074 : Nat) : Int) - 1074) by omega, p2_add, p2_nat]; rfl
      rw [this]
      exact p2_lt (by omega)
    exact ⟨by grind, by grind⟩
  obtain ⟨r, h1, h2, h3, h4⟩ := mul_bits fp fq hlim
  refine ⟨r, h1, h3, ?_⟩
  rw [den_fin h2, den_fin fp, den_fin fq]
  exact h4.rn.exact hF
theorem few_den {x : Nat} (h : Few x) : ∃ n s : Int, den x = (n : Rat) * p2 s ∧ -67108864 ≤ n ∧ n ≤ 67108864 := by
  obtain ⟨_, f, n, s, _, _, e, n1, n2⟩ := h
  exact ⟨n, (s : Int) - 1074, by rw [den_fin f, e]; rfl, n1, n2⟩

set_option maxRecDepth 100000 in
set_option maxHeartbeats 8000000 in
theorem halves_law (a b : Nat) (w : World) (ha : a < 18446744073709551616) (hb : b < 18446744073709551616) : Calls Try.prog 5 #[.float .f64 a, .float .f64 b] w fun e w' => e = .returned (.bool true) ∧ Below w.heap.size w w' := by
  have HA : Hid (∀ w, Calls Try.prog 17 #[.float .f64 a] w fun e w' => e = .returned (.bool (decide (SafeW (frung a)))) ∧ w' = w) := fun w => refSafe_any a w ha
  have HB : Hid (∀ w, Calls Try.prog 17 #[.float .f64 b] w fun e w' => e = .returned (.bool (decide (SafeW (frung b)))) ∧ w' = w) := fun w => refSafe_any b w hb
  obtain ⟨x, y, hsa⟩ : ∃ x y, Hid ((∀ w, Calls Try.prog 14 #[.float .f64 a] w fun e w' => e = .returned (.tuple #[.float .f64 x, .float .f64 y]) ∧ Below w.heap.size w w') ∧ (SafeW (frung a) → Few x ∧ Few y ∧ fval x + fval y = fval a)) := by
    by_cases h : SafeW (frung a)
    · obtain ⟨c, d, x, y, h1, h2⟩ := few_half h
      exact ⟨x, y, fun w => split_yes a c d x y w ha h h1, fun _ => h2⟩
    · exact ⟨0, 0, fun w => split_no a w ha h, fun h' => absurd h' h⟩
  obtain ⟨v, y2, hsb⟩ : ∃ x y, Hid ((∀ w, Calls Try.prog 14 #[.float .f64 b] w fun e w' => e = .returned (.tuple #[.float .f64 x, .float .f64 y]) ∧ Below w.heap.size w w') ∧ (SafeW (frung b) → Few x ∧ Few y ∧ fval x + fval y = fval b)) := by
    by_cases h : SafeW (frung b)
    · obtain ⟨c, d, x, y, h1, h2⟩ := few_half h
      exact ⟨x, y, fun w => split_yes b c d x y w hb h h1, fun _ => h2⟩
    · exact ⟨0, 0, fun w => split_no b w hb h, fun h' => absurd h' h⟩
  have HLA : Hid (a < 18446744073709551616) := ha
  clear ha hb
  go_enter Try.func5, Try.ntmps5
  go_wp2_with fail
  refine (hsa.out.1 _).mono ?_
  rintro e w1 ⟨rfl, hb1⟩
  go_wp2_with fail
  refine (hsb.out.1 _).mono ?_
  rintro e w2 ⟨rfl, hb2⟩
  go_wp2_with fail
  refine (awake_any _).mono ?_
  rintro e w3 ⟨rfl, hb3⟩
  have HB3 : Hid (Below w.heap.size w w3) := hb1.trans ((hb2.trans (hb3.mono hb2.size)).mono hb1.size)
  clear hb1 hb2 hb3
  by_cases sa : SafeW (frung a)
  · by_cases sb : SafeW (frung b)
    · have da : decide (SafeW (frung a)) = true := decide_eq_true sa
      have db : decide (SafeW (frung b)) = true := decide_eq_true sb
      obtain ⟨fx, fy, hsum⟩ := hsa.out.2 sa
      obtain ⟨fv, fw, _⟩ := hsb.out.2 sb
      have FX : Hid (Few x) := fx
      have FY : Hid (Few y) := fy
      have FV : Hid (Few v) := fv
      have FW : Hid (Few y2) := fw
      have HS : Hid (den x + den y = den a) := by
        show _ = _
        rw [den_fin fx.2.1, den_fin fy.2.1, den_fin (by unfold SafeW at sa; unfold Fin64; omega)]; exact hsum
      clear fx fy fv fw hsum sa sb hsa hsb
      rw [da] at HA
      rw [db] at HB
      clear da db
      go_wp2_with fail
      refine (HA.out _).mono ?_
      rintro e w4 ⟨rfl, rfl⟩
      go_wp2_with fail
      refine (HB.out _).mono ?_
      rintro e w4 ⟨rfl, rfl⟩
      go_wp2_with fail
      refine (refOf_any x _ FX.out.1).mono ?_
      rintro e w5 ⟨v5, rfl, hr5, hb5⟩
      go_wp2_with fail
      refine (refOf_any y _ FY.out.1).mono ?_
      rintro e w6 ⟨v6, rfl, hr6, hb6⟩
      go_wp2_with fail
      refine (refAdd_any _ _ (den x) (den y) _ (hr5.later hb6) hr6 (den_Fit x) (den_Fit y)).mono ?_
      rintro e w7 ⟨v7, rfl, hr7, hb7⟩
      go_wp2_with fail
      refine (refOf_any a _ HLA.out).mono ?_
      rintro e w8 ⟨v8, rfl, hr8, hb8⟩
      go_wp2_with fail
      refine (cmp_same _ _ (den x + den y) (den a) _ (hr7.later hb8) hr8 (by rw [HS.out]; exact den_Fit a) (den_Fit a) HS.out).mono ?_
      rintro e w9 ⟨rfl, hb9⟩
      have HB9 : Hid (Below w.heap.size w w9) := HB3.out.trans ((((((hb5.trans (hb6.mono hb5.size)).trans (hb7.mono (Nat.le_trans hb5.size hb6.size))).trans (hb8.mono (Nat.le_trans (Nat.le_trans hb5.size hb6.size) hb7.size))).trans (hb9.mono (Nat.le_trans (Nat.le_trans (Nat.le_trans hb5.size hb6.size) hb7.size) hb8.size)))).mono HB3.out.size)
      clear hr5 hr6 hr7 hr8 hb5 hb6 hb7 hb8 hb9
      obtain ⟨nx, sx, ex, nx1, nx2⟩ := few_den FX.out
      obtain ⟨ny, sy, ey, ny1, ny2⟩ := few_den FY.out
      have BX : Hid (∀ w, Calls Try.prog 21 #[.float .f64 x] w fun e w' => (∃ k, e = .returned (.int .i64 k) ∧ k ≤ 26) ∧ Below w.heap.size w w') := fun w => bits_le x nx sx w FX.out.1 ex nx1 nx2
      have BY : Hid (∀ w, Calls Try.prog 21 #[.float .f64 y] w fun e w' => (∃ k, e = .returned (.int .i64 k) ∧ k ≤ 26) ∧ Below w.heap.size w w') := fun w => bits_le y ny sy w FY.out.1 ey ny1 ny2
      clear ex ey nx1 nx2 ny1 ny2
      go_wp2_with fail
      refine (BX.out _).mono ?_
      rintro e w10 ⟨⟨k1, rfl, hk1⟩, hb10⟩
      have hk1' : decide (26 < k1) = false := decide_eq_false (by omega)
      go_wp2_with fail
      refine (BY.out _).mono ?_
      rintro e w11 ⟨⟨k2, rfl, hk2⟩, hb11⟩
      have hk2' : decide (26 < k2) = false := decide_eq_false (by omega)
      have HB11 : Hid (Below w.heap.size w w11) := HB9.out.trans ((hb10.trans (hb11.mono hb10.size)).mono HB9.out.size)
      clear hb10 hb11 BX BY
      go_wp2
      clear hk1 hk1' hk2 hk2'
      go_loopw [63] (fun i wr => ∃ k : Nat, i = .int .i64 (k : Nat) ∧ k ≤ 4 ∧ Hid (Below w.heap.size w wr)) (fun i _ => 4 - (intOf i).toNat)
      case atStart => exact ⟨0, by simp, by omega, HB11.out⟩
      case round =>
        obtain ⟨k, rfl, hk, HBW⟩ := hrel
        have hc : k = 0 ∨ k = 1 ∨ k = 2 ∨ k = 3 ∨ k = 4 := by omega
        clear hk
        rcases hc with rfl | rfl | rfl | rfl | rfl
        · obtain ⟨r, hm, hr, he⟩ := few_prod FX.out FV.out
          have rm : ∀ w, (binOp .mul 22 (.float .f64 x) (.float .f64 v)).run Try.prog w = .ok (.float .f64 r) w := fun w => run_float_arith w .mul _ .f64 _ _ _ hm
          have HE : Hid (den r = den x * den v) := he
          have HR : Hid (r < 18446744073709551616) := hr
          have hidx : ∀ W, (Instr.index 38 (.agg #[.float .f64 x, .float .f64 v, .float .f64 x, .float .f64 y2, .float .f64 y, .float .f64 v, .float .f64 y, .float .f64 y2]) (.int .i64 0)).run Try.prog W = .ok (.agg #[.float .f64 x, .float .f64 v]) W := fun W => by rfl
          have HAL : Hid (Below wr.heap.size wr (wr.alloc (.cells #[.float .f64 x, .float .f64 v] 37))) := (Below.refl _ _).alloc (Nat.le_refl _) _
          clear hm hr he
          go_wp2
          go_region_held3 (fun W => W.cell? ⟨wr.heap.size, 0, none⟩ = some (.float .f64 x) ∧ W.cell? ⟨wr.heap.size, 1, none⟩ = some (.float .f64 v) ∧ Below wr.heap.size wr W)
            (first
              | assumption
              | exact ⟨by go_simp, by go_simp, HAL.out.drew⟩
              | exact keepN2 (by assumption) (by assumption))
            (first
              | (go_at_call_of 20 r; refine (refOf_any r _ HR.out).mono ?_; rintro e wA ⟨vA, rfl, hrA, hbA⟩)
              | (go_at_call_of 20 x; refine (refOf_any x _ FX.out.1).mono ?_; rintro e wB ⟨vB, rfl, hrB, hbB⟩)
              | (go_at_call_of 20 v; refine (refOf_any v _ FV.out.1).mono ?_; rintro e wC ⟨vC, rfl, hrC, hbC⟩)
              | (go_at_call 22; refine (mul_rf _ _ (den x) (den v) _ (hrB.later hbC) hrC (den_Fit _) (den_Fit _)).mono ?_; rintro e wD ⟨vD, rfl, hrD, hbD⟩)
              | (go_at_call 18; refine (cmp_same _ _ (den r) (den x * den v) _ (((hrA.later hbB).later hbC).later hbD) hrD (den_Fit _) (by rw [← HE.out]; exact den_Fit _) HE.out).mono ?_; rintro e wE ⟨rfl, hbE⟩))
          have hBf := (by assumption : _ ∧ _ ∧ Below wr.heap.size wr _).2.2
          have HBF : Hid (Below w.heap.size w wE) := HBW.out.trans (hBf.mono HBW.out.size)
          clear hrA hrB hrC hrD hbA hbB hbC hbD hbE hBf
          go_wp2
          exact ⟨⟨1, by go_num, by omega, HBF.out⟩, by simp [intOf]⟩
        · obtain ⟨r, hm, hr, he⟩ := few_prod FX.out FW.out
          have rm : ∀ w, (binOp .mul 22 (.float .f64 x) (.float .f64 y2)).run Try.prog w = .ok (.float .f64 r) w := fun w => run_float_arith w .mul _ .f64 _ _ _ hm
          have HE : Hid (den r = den x * den y2) := he
          have HR : Hid (r < 18446744073709551616) := hr
          have hidx : ∀ W, (Instr.index 38 (.agg #[.float .f64 x, .float .f64 v, .float .f64 x, .float .f64 y2, .float .f64 y, .float .f64 v, .float .f64 y, .float .f64 y2]) (.int .i64 1)).run Try.prog W = .ok (.agg #[.float .f64 x, .float .f64 y2]) W := fun W => by rfl
          have HAL : Hid (Below wr.heap.size wr (wr.alloc (.cells #[.float .f64 x, .float .f64 y2] 37))) := (Below.refl _ _).alloc (Nat.le_refl _) _
          clear hm hr he
          go_wp2
          go_region_held3 (fun W => W.cell? ⟨wr.heap.size, 0, none⟩ = some (.float .f64 x) ∧ W.cell? ⟨wr.heap.size, 1, none⟩ = some (.float .f64 y2) ∧ Below wr.heap.size wr W)
            (first
              | assumption
              | exact ⟨by go_simp, by go_simp, HAL.out.drew⟩
              | exact keepN2 (by assumption) (by assumption))
            (first
              | (go_at_call_of 20 r; refine (refOf_any r _ HR.out).mono ?_; rintro e wA ⟨vA, rfl, hrA, hbA⟩)
              | (go_at_call_of 20 x; refine (refOf_any x _ FX.out.1).mono ?_; rintro e wB ⟨vB, rfl, hrB, hbB⟩)
              | (go_at_call_of 20 y2; refine (refOf_any y2 _ FW.out.1).mono ?_; rintro e wC ⟨vC, rfl, hrC, hbC⟩)
              | (go_at_call 22; refine (mul_rf _ _ (den x) (den y2) _ (hrB.later hbC) hrC (den_Fit _) (den_Fit _)).mono ?_; rintro e wD ⟨vD, rfl, hrD, hbD⟩)
              | (go_at_call 18; refine (cmp_same _ _ (den r) (den x * den y2) _ (((hrA.later hbB).later hbC).later hbD) hrD (den_Fit _) (by rw [← HE.out]; exact den_Fit _) HE.out).mono ?_; rintro e wE ⟨rfl, hbE⟩))
          have hBf := (by assumption : _ ∧ _ ∧ Below wr.heap.size wr _).2.2
          have HBF : Hid (Below w.heap.size w wE) := HBW.out.trans (hBf.mono HBW.out.size)
          clear hrA hrB hrC hrD hbA hbB hbC hbD hbE hBf
          go_wp2
          exact ⟨⟨2, by go_num, by omega, HBF.out⟩, by simp [intOf]⟩
        · obtain ⟨r, hm, hr, he⟩ := few_prod FY.out FV.out
          have rm : ∀ w, (binOp .mul 22 (.float .f64 y) (.float .f64 v)).run Try.prog w = .ok (.float .f64 r) w := fun w => run_float_arith w .mul _ .f64 _ _ _ hm
          have HE : Hid (den r = den y * den v) := he
          have HR : Hid (r < 18446744073709551616) := hr
          have hidx : ∀ W, (Instr.index 38 (.agg #[.float .f64 x, .float .f64 v, .float .f64 x, .float .f64 y2, .float .f64 y, .float .f64 v, .float .f64 y, .float .f64 y2]) (.int .i64 2)).run Try.prog W = .ok (.agg #[.float .f64 y, .float .f64 v]) W := fun W => by rfl
          have HAL : Hid (Below wr.heap.size wr (wr.alloc (.cells #[.float .f64 y, .float .f64 v] 37))) := (Below.refl _ _).alloc (Nat.le_refl _) _
          clear hm hr he
          go_wp2
          go_region_held3 (fun W => W.cell? ⟨wr.heap.size, 0, none⟩ = some (.float .f64 y) ∧ W.cell? ⟨wr.heap.size, 1, none⟩ = some (.float .f64 v) ∧ Below wr.heap.size wr W)
            (first
              | assumption
              | exact ⟨by go_simp, by go_simp, HAL.out.drew⟩
              | exact keepN2 (by assumption) (by assumption))
            (first
              | (go_at_call_of 20 r; refine (refOf_any r _ HR.out).mono ?_; rintro e wA ⟨vA, rfl, hrA, hbA⟩)
              | (go_at_call_of 20 y; refine (refOf_any y _ FY.out.1).mono ?_; rintro e wB ⟨vB, rfl, hrB, hbB⟩)
              | (go_at_call_of 20 v; refine (refOf_any v _ FV.out.1).mono ?_; rintro e wC ⟨vC, rfl, hrC, hbC⟩)
              | (go_at_call 22; refine (mul_rf _ _ (den y) (den v) _ (hrB.later hbC) hrC (den_Fit _) (den_Fit _)).mono ?_; rintro e wD ⟨vD, rfl, hrD, hbD⟩)
              | (go_at_call 18; refine (cmp_same _ _ (den r) (den y * den v) _ (((hrA.later hbB).later hbC).later hbD) hrD (den_Fit _) (by rw [← HE.out]; exact den_Fit _) HE.out).mono ?_; rintro e wE ⟨rfl, hbE⟩))
          have hBf := (by assumption : _ ∧ _ ∧ Below wr.heap.size wr _).2.2
          have HBF : Hid (Below w.heap.size w wE) := HBW.out.trans (hBf.mono HBW.out.size)
          clear hrA hrB hrC hrD hbA hbB hbC hbD hbE hBf
          go_wp2
          exact ⟨⟨3, by go_num, by omega, HBF.out⟩, by simp [intOf]⟩
        · obtain ⟨r, hm, hr, he⟩ := few_prod FY.out FW.out
          have rm : ∀ w, (binOp .mul 22 (.float .f64 y) (.float .f64 y2)).run Try.prog w = .ok (.float .f64 r) w := fun w => run_float_arith w .mul _ .f64 _ _ _ hm
          have HE : Hid (den r = den y * den y2) := he
          have HR : Hid (r < 18446744073709551616) := hr
          have hidx : ∀ W, (Instr.index 38 (.agg #[.float .f64 x, .float .f64 v, .float .f64 x, .float .f64 y2, .float .f64 y, .float .f64 v, .float .f64 y, .float .f64 y2]) (.int .i64 3)).run Try.prog W = .ok (.agg #[.float .f64 y, .float .f64 y2]) W := fun W => by rfl
          have HAL : Hid (Below wr.heap.size wr (wr.alloc (.cells #[.float .f64 y, .float .f64 y2] 37))) := (Below.refl _ _).alloc (Nat.le_refl _) _
          clear hm hr he
          go_wp2
          go_region_held3 (fun W => W.cell? ⟨wr.heap.size, 0, none⟩ = some (.float .f64 y) ∧ W.cell? ⟨wr.heap.size, 1, none⟩ = some (.float .f64 y2) ∧ Below wr.heap.size wr W)
            (first
              | assumption
              | exact ⟨by go_simp, by go_simp, HAL.out.drew⟩
              | exact keepN2 (by assumption) (by assumption))
            (first
              | (go_at_call_of 20 r; refine (refOf_any r _ HR.out).mono ?_; rintro e wA ⟨vA, rfl, hrA, hbA⟩)
              | (go_at_call_of 20 y; refine (refOf_any y _ FY.out.1).mono ?_; rintro e wB ⟨vB, rfl, hrB, hbB⟩)
              | (go_at_call_of 20 y2; refine (refOf_any y2 _ FW.out.1).mono ?_; rintro e wC ⟨vC, rfl, hrC, hbC⟩)
              | (go_at_call 22; refine (mul_rf _ _ (den y) (den y2) _ (hrB.later hbC) hrC (den_Fit _) (den_Fit _)).mono ?_; rintro e wD ⟨vD, rfl, hrD, hbD⟩)
              | (go_at_call 18; refine (cmp_same _ _ (den r) (den y * den y2) _ (((hrA.later hbB).later hbC).later hbD) hrD (den_Fit _) (by rw [← HE.out]; exact den_Fit _) HE.out).mono ?_; rintro e wE ⟨rfl, hbE⟩))
          have hBf := (by assumption : _ ∧ _ ∧ Below wr.heap.size wr _).2.2
          have HBF : Hid (Below w.heap.size w wE) := HBW.out.trans (hBf.mono HBW.out.size)
          clear hrA hrB hrC hrD hbA hbB hbC hbD hbE hBf
          go_wp2
          exact ⟨⟨4, by go_num, by omega, HBF.out⟩, by simp [intOf]⟩
        · go_wp2
          go_ret
          exact ⟨rfl, HBW.out⟩
    · have da : decide (SafeW (frung a)) = true := decide_eq_true sa
      have db : decide (SafeW (frung b)) = false := decide_eq_false sb
      rw [da] at HA
      rw [db] at HB
      clear da db sa sb hsa hsb
      go_wp2_with fail
      refine (HA.out _).mono ?_
      rintro e w4 ⟨rfl, rfl⟩
      go_wp2_with fail
      refine (HB.out _).mono ?_
      rintro e w4 ⟨rfl, rfl⟩
      go_wp2
      go_ret
      exact ⟨rfl, HB3.out⟩
  · have da : decide (SafeW (frung a)) = false := decide_eq_false sa
    rw [da] at HA
    clear da sa hsa hsb
    go_wp2_with fail
    refine (HA.out _).mono ?_
    rintro e w4 ⟨rfl, rfl⟩
    go_wp2
    go_ret
    exact ⟨rfl, HB3.out⟩

end Go.Proofs.Ytfocdhapjljooaa
