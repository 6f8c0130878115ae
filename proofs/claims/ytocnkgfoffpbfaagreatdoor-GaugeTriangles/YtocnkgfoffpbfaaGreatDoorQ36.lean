/- Own texts, put together: Ge. -/
import Derived.Test.YtocnkgfoffpbfaaGreatDoorQ33
/- Areas and cosines in floats: what is rounded off. -/
namespace Go.Proofs.YtocnkgfoffpbfaaGreatDoor

theorem fval_top : fval 9218868437227405311 = 18014398509481982 * p2 970 := by
 rw [(fval_pos_lt (r := 9218868437227405311) (by omega)).1, show fmag 9218868437227405311 = 9007199254740991 by decide, show fpl 9218868437227405311 = 1 + 970 by decide, p2_add, p2_one]
 rw [show ((9007199254740991 : Nat) : Rat) = 9007199254740991 from rfl]
 grind
theorem fval_le_top {g : Nat} (h : Fin64 g) : ab (fval g) ≤ 18014398509481982 * p2 970 := by
 rw [← ab_fval g h, ← fval_top]
 exact fval_le_max h
theorem U_small {p : Nat} (h : p ≤ 2043) : U p ≤ p2 970 / 2 := by
 have h1 : U p ≤ p2 969 := by unfold U; exact p2_mono (by omega)
 have h2 : p2 970 = 2 * p2 969 := by rw [show (970 : Int) = 1 + 969 by omega, p2_add, p2_one]
 rw [h2]
 grind
theorem sum_lim {a g : Rat} (ha : ab a ≤ U 2000) (hg : ab g ≤ 18014398509481982 * p2 970) : ab (a - g) < 18014398509481983 * p2 970 ∧ ab (a + g) < 18014398509481983 * p2 970 := by
 have h1 := U_small (p := 2000) (by omega)
 have h2 := p2_pos 970
 have h3 := ab_sub a g
 have h4 := ab_add a g
 constructor <;> grind

theorem F_half {z : Rat} {t : Nat} (hz : F z) (hm : M (U t) z) (ht : 104 ≤ t) : F (z * p2 (-1)) := by
 obtain ⟨S, m, e, m1, m2⟩ := hz
 rcases Nat.lt_or_ge S 1 with h | h
 · have hb : ab z < U t := by
     have hu := U_pos S
     have h1 := F.abs e m1 m2
     have h2 : 9007199254740992 * U S = U (S + 53) := by rw [U_add]; rfl
     have h3 := U_lt_iff.2 (show S + 53 < t by omega)
     exact ab_lt.2 ⟨by grind, by grind⟩
   have z0 : z = 0 := by
     apply Classical.byContradiction
     intro h0
     have := hm.ge (U_pos t) h0
     grind
   rw [z0, Rat.zero_mul]
   exact F_zero
 · refine ⟨S - 1, m, ?_, m1, m2⟩
   have : U S * p2 (-1) = U (S - 1) := by
     unfold U
     rw [← p2_add]
     congr 1
     omega
   rw [e, ← this]
   grind

theorem p2_half (z : Rat) : 2 * (z * p2 (-1)) = z := by
 have : p2 (-1) * 2 = 1 := by rw [← p2_one, ← p2_add]; exact p2_zero
 have h : 2 * (z * p2 (-1)) = z * (p2 (-1) * 2) := by grind
 rw [h, this, Rat.mul_one]

theorem half_is {a : Nat} (ha : Fin64 a) (hm : M (U 874) (fval a)) (hl : ab (fval a) ≤ U 1277) : ∃ r, floatBits .quo .f64 a 4611686018427387904 = some r ∧ Fin64 r ∧ r < 18446744073709551616 ∧ 2 * fval r = fval a := by
 obtain ⟨r, e, h⟩ := half_word ha
 have hh := p2_half (fval a)
 have hlim : ab (fval a * p2 (-1)) < 18014398509481983 * p2 970 := by
   have h1 := U_small (p := 1277) (by omega)
   have h2 := p2_pos 970
   have h3 : ab (fval a) = 2 * ab (fval a * p2 (-1)) := by
     have : ab (2 * (fval a * p2 (-1))) = ab 2 * ab (fval a * p2 (-1)) := ab_mul _ _
     rw [hh, show ab 2 = 2 by unfold ab; grind] at this
     exact this
   have h4 := ab_nonneg (fval a * p2 (-1))
   grind
 obtain ⟨w, f, rv⟩ := h.fin hlim
 have := rv.rn.exact (F_half (word_F ha) hm (by omega))
 exact ⟨r, e, f, w, by rw [this]; exact hh⟩

theorem RN.same {q x : Rat} (h : RN q x) (hm : M (U 0) q) : sgq x = sgq q := by
 have k := h.rel hm
 have a := ab_self (q - x)
 apply sgq_three
 unfold ab at k
 split at k <;> split at k <;> grind
theorem M0 {b : Nat} (h : Fin64 b) : M (U 0) (fval b) := F.mult0 (word_F h)

theorem area_word {P : Rat} {s z g : Nat} (h : ProdW P s z) (hg : Fin64 g) :
   ∃ a hz x zz v, floatBits .quo .f64 (frung s) 4611686018427387904 = some a ∧ floatBits .quo .f64 z 4611686018427387904 = some hz ∧ floatBits .sub .f64 a g = some x ∧ floatBits .add .f64 hz (frung g) = some zz ∧ floatBits .mul .f64 4386506037058863104 zz = some v ∧ Fin64 x ∧ x < 18446744073709551616 ∧ ((FloatKind.f64.format.order (frung x) v == some .gt) = true → sgq (fval x) = sgq (ab P - 2 * fval g)) := by
 have vs := ab_fval s h.fs
 have aa : ∀ x : Rat, ab (ab x) = ab x := fun x => ab_pos' (ab_nonneg x)
 obtain ⟨a, ea, fa, wa, va⟩ := half_is (a := frung s) (fin_small h.fs) (by rw [vs]; exact h.ms.ab) (by rw [vs, aa]; exact h.ls)
 rw [vs] at va
 obtain ⟨hz, ehz, fhz, whz, vhz⟩ := half_is h.fz h.mz h.lz
 have vg := ab_fval g hg
 have lg := fval_le_top hg
 have b1 : ab (fval a) ≤ U 2000 := by
   have h1 := h.ls
   have h2 := U_mono (show 1277 ≤ 2000 by omega)
   have h3 := ab_nonneg (fval s)
   rw [ab_pos' (by grind)]
   grind
 have b2 : ab (fval hz) ≤ U 2000 := by
   have h1 := h.lz
   have h2 := U_mono (show 1277 ≤ 2000 by omega)
   have h3 := h.z0
   rw [ab_pos' h3] at h1
   rw [ab_pos' (by grind)]
   grind
 obtain ⟨x, ex, rx⟩ := sub_full fa hg
 obtain ⟨wx, fx, rx⟩ := rx.fin (sum_lim b1 lg).1
 obtain ⟨zz, ez, rz⟩ := add_full fhz (fin_small hg : Fin64 (frung g))
 rw [vg] at rz
 obtain ⟨wz, fzz, rz⟩ := rz.fin (sum_lim b2 (by rw [aa]; exact lg)).2
 have hz0 := h.z0
 have g0 := ab_nonneg (fval g)
 have mzz : M (U 0) (fval hz + ab (fval g)) := (M0 fhz).add (M0 hg).ab
 have zz0 := rz.rn.nonneg mzz (by grind)
 obtain ⟨v, ev, _, _, hv⟩ := tell_word fx fzz zz0
 refine ⟨a, hz, x, zz, v, ea, ehz, ex, ez, ev, fx, wx, fun k => ?_⟩
 have mx : M (U 0) (fval a - fval g) := (M0 fa).sub (M0 hg)
 have e2 : sgq (ab P - 2 * fval g) = sgq (ab P / 2 - fval g) := by
   apply sgq_three
   grind
 rw [e2]
 by_cases hzero : fval z = 0
 · -- nothing is rounded off
   have k1 := h.err
   have k2 := h.le
   rw [hzero] at k1 k2
   have c1 := ab_zero (x := P - fval s) (by have := ab_nonneg (P - fval s); grind)
   have c2 := ab_zero (x := fval s) (by have := ab_nonneg (fval s); grind)
   have c3 : P = 0 := by grind
   rw [c3, show ab 0 = 0 by unfold ab; grind]
   rw [rx.rn.same mx]
   rw [c2, show ab 0 = 0 by unfold ab; grind] at va
   have ea : fval a = 0 := by grind
   have e3 : (0 : Rat) / 2 - fval g = 0 - fval g := by grind
   rw [ea, e3]
 · have kk : U 873 ≤ fval zz := by
     have h1 := h.mz.ge (U_pos 874) hzero
     rw [ab_pos' hz0] at h1
     have h2 := U_succ 873
     have h3 := rz.rn.rel mzz
     rw [ab_pos' zz0] at h3
     have h4 := (ab_self (fval hz + ab (fval g) - fval zz)).1
     have h5 := U_pos 873
     have h6 := U_succ 872
     -- rounding keeps what is not below a power of two
     obtain ⟨T, kT, R⟩ := rz.rn
     have F8 : F (U 873) := ⟨873, 1, by rw [one_rat]; grind, by omega, by omega⟩
     apply Classical.byContradiction
     intro hn
     have hb := R.best F8 (c := fval hz + ab (fval g) - U 873) (by grind) (by grind)
     grind
   have hm : M (U 821) (fval zz) := by
     have := (word_F fzz).mult (K := 873) (by rw [ab_pos' zz0]; exact kk)
     exact this
   rw [hv ⟨821, by omega, hm⟩] at k
   refine tell ?_ (of_decide_eq_true k)
   have k1 := rx.rn.rel mx
   have k2 := rz.rn.rel mzz
   rw [ab_pos' zz0] at k2
   have k3 := h.err
   have k4 := h.le
   have t0 : ab (ab P / 2 - fval a) * 2 ≤ ab (P - fval s) := by
     have a1 := ab_sub P (P - fval s)
     rw [show P - (P - fval s) = fval s by grind] at a1
     have a2 := ab_add (P - fval s) (fval s)
     rw [show P - fval s + fval s = P by grind] at a2
     have : ab (ab P / 2 - fval a) ≤ ab (P - fval s) / 2 := ab_le.2 ⟨by grind, by grind⟩
     grind
   have t1 : ab (ab P / 2 - fval g - fval x) ≤ ab (ab P / 2 - fval a) + ab (fval a - fval g - fval x) := by
     have b := ab_add (ab P / 2 - fval a) (fval a - fval g - fval x)
     rwa [show ab P / 2 - fval a + (fval a - fval g - fval x) = ab P / 2 - fval g - fval x by grind] at b
   have t2 : ab (fval x) ≤ ab (fval a - fval g) + ab (fval a - fval g - fval x) := by
     have := ab_sub (fval a - fval g) (fval a - fval g - fval x)
     rwa [show fval a - fval g - (fval a - fval g - fval x) = fval x by grind] at this
   have t3 := ab_sub (fval a) (fval g)
   have s0 := ab_nonneg (fval s)
   rw [ab_pos' (show 0 ≤ fval a by grind)] at t3
   have t4 := (ab_self (fval hz + ab (fval g) - fval zz)).1
   have u0 := ab_nonneg (fval hz + ab (fval g) - fval zz)
   generalize ab (ab P / 2 - fval g - fval x) = g1 at *
   generalize ab (ab P / 2 - fval a) = g2 at *
   generalize ab (P - fval s) = g3 at *
   generalize ab (fval a - fval g - fval x) = g4 at *
   generalize ab (fval hz + ab (fval g) - fval zz) = g5 at *
   generalize ab (fval a - fval g) = g6 at *
   generalize ab (fval x) = g7 at *
   generalize ab (fval s) = g8 at *
   generalize ab (fval g) = g9 at *
   clear k rx rz hv ev ez ex mx mzz kk hm e2 b1 b2 lg vg vs
   generalize fval a = g10 at *
   generalize fval z = g11 at *
   generalize fval zz = g12 at *
   generalize fval hz = g13 at *
   grind

theorem sq_prod_err {p q x y L : Rat} (h1 : 9223372036854775808 * ab (p - x) ≤ 4098 * ab x) (h2 : 9223372036854775808 * ab (q - y) ≤ 4098 * ab y) (h3 : 9007199254740992 * ab (x * y - L) ≤ ab L) :
   9223372036854775808 * ab (p * q - L) ≤ 9222 * ab L := by
 have a0 := ab_nonneg x
 have b0 := ab_nonneg y
 have f0 := ab_nonneg (q - y)
 have d0 := ab_nonneg q
 have hd : ab q ≤ ab y + ab (q - y) := by
   have := ab_add y (q - y)
   rwa [show y + (q - y) = q by grind] at this
 have t1 : ab (p * q - x * y) ≤ ab (p - x) * ab q + ab x * ab (q - y) := by
   have := ab_add ((p - x) * q) (x * (q - y))
   rw [ab_mul, ab_mul, show (p - x) * q + x * (q - y) = p * q - x * y by grind] at this
   exact this
 have t2 : ab (p * q - L) ≤ ab (p * q - x * y) + ab (x * y - L) := by
   have := ab_add (p * q - x * y) (x * y - L)
   rwa [show p * q - x * y + (x * y - L) = p * q - L by grind] at this
 have t3 : ab (x * y) ≤ ab L + ab (x * y - L) := by
   have := ab_add L (x * y - L)
   rwa [show L + (x * y - L) = x * y by grind] at this
 rw [ab_mul] at t3
 have m1 := Rat.mul_le_mul_of_nonneg_right h1 d0
 have m2 := Rat.mul_le_mul_of_nonneg_left hd a0
 have m3 := Rat.mul_le_mul_of_nonneg_left h2 a0
 have m4 := Rat.mul_nonneg a0 b0
 have m5 := Rat.mul_nonneg a0 f0
 have l0 := ab_nonneg L
 generalize ab (p * q - L) = g1 at *
 generalize ab (p * q - x * y) = g2 at *
 generalize ab (x * y - L) = g3 at *
 generalize ab (p - x) = e at *
 generalize ab (q - y) = f at *
 generalize ab x = a at *
 generalize ab y = b at *
 generalize ab q = d at *
 generalize ab L = l at *
 have n1 : 9223372036854775808 * (e * d) ≤ 4098 * (a * d) := by grind
 have n2 : a * d ≤ a * b + a * f := by grind
 have n3 : 9223372036854775808 * (a * f) ≤ 4098 * (a * b) := by grind
 clear m1 m2 m3
 generalize e * d = z1 at *
 generalize a * d = z2 at *
 generalize a * b = z3 at *
 generalize a * f = z4 at *
 grind

theorem times_err {g L f b u : Rat} (h1 : 9223372036854775808 * ab (L - f) ≤ 9222 * ab f) (h2 : 9007199254740992 * ab (g * f - b) ≤ ab b + u) (u0 : 0 ≤ u) :
   9223372036854775808 * ab (g * L - b) ≤ 10248 * ab b + 1026 * u := by
 have a0 := ab_nonneg g
 have t1 : ab (g * L - b) ≤ ab g * ab (L - f) + ab (g * f - b) := by
   have := ab_add (g * (L - f)) (g * f - b)
   rw [ab_mul, show g * (L - f) + (g * f - b) = g * L - b by grind] at this
   exact this
 have t2 : ab g * ab f ≤ ab b + ab (g * f - b) := by
   have := ab_add b (g * f - b)
   rwa [show b + (g * f - b) = g * f by grind, ab_mul] at this
 have m1 := Rat.mul_le_mul_of_nonneg_left h1 a0
 have c0 := ab_nonneg b
 generalize ab (g * L - b) = g1 at *
 generalize ab (g * f - b) = g2 at *
 generalize ab (L - f) = e at *
 generalize ab f = f' at *
 generalize ab g = g' at *
 generalize ab b = b' at *
 have n1 : 9223372036854775808 * (g' * e) ≤ 9222 * (g' * f') := by grind
 clear m1
 generalize g' * e = z1 at *
 generalize g' * f' = z2 at *
 grind

theorem square_err {P s z ss zq : Rat} (h1 : 9223372036854775808 * ab (P - s) ≤ 4098 * z) (h2 : 1125899906842624 * ab s ≤ 1125899906842625 * z) (z0 : 0 ≤ z) (h3 : 9007199254740992 * ab (s * s - ss) ≤ ab ss) (h4 : 9007199254740992 * ab (z * z - zq) ≤ ab zq) (q0 : 0 ≤ zq) :
   9223372036854775808 * ab (P * P - ss) ≤ 9226 * zq ∧ 281474976710656 * ab ss ≤ 281474976710657 * zq := by
 rw [ab_pos' q0] at h4
 have t1 : ab (P * P - s * s) ≤ ab (P - s) * (ab (P - s) + 2 * ab s) := by
   have e : P * P - s * s = (P - s) * ((P - s) + 2 * s) := by grind
   rw [e, ab_mul]
   have := ab_add (P - s) (2 * s)
   rw [ab_mul, show ab 2 = 2 by unfold ab; grind] at this
   exact Rat.mul_le_mul_of_nonneg_left this (ab_nonneg _)
 have t2 : ab (P * P - ss) ≤ ab (P * P - s * s) + ab (s * s - ss) := by
   have := ab_add (P * P - s * s) (s * s - ss)
   rwa [show P * P - s * s + (s * s - ss) = P * P - ss by grind] at this
 have t3 : ab ss ≤ ab (s * s) + ab (s * s - ss) := by
   have := ab_sub (s * s) (s * s - ss)
   rwa [show s * s - (s * s - ss) = ss by grind] at this
 rw [ab_mul] at t3
 have t4 := (ab_self (z * z - zq)).1
 have a0 := ab_nonneg (P - s)
 have b0 := ab_nonneg s
 have q1 := ab_nonneg (z * z - zq)
 generalize ab (P * P - ss) = g1 at *
 generalize ab (P * P - s * s) = g2 at *
 generalize ab (s * s - ss) = g3 at *
 generalize ab (z * z - zq) = g4 at *
 generalize ab (P - s) = e at *
 generalize ab s = a at *
 generalize ab ss = ssa at *
 -- e is little beside z; a is no more than z, nearly
 have m1 : 1125899906842624 * (a * a) ≤ 1125899906842625 * (z * a) := by
   have := Rat.mul_le_mul_of_nonneg_right h2 b0
   grind
 have m2 : 1125899906842624 * (z * a) ≤ 1125899906842625 * (z * z) := by
   have := Rat.mul_le_mul_of_nonneg_left h2 z0
   grind
 have m3 : 9223372036854775808 * (e * a) ≤ 4098 * (z * a) := by
   have := Rat.mul_le_mul_of_nonneg_right h1 b0
   grind
 have m4 : 9223372036854775808 * (e * e) ≤ 4098 * (z * e) := by
   have := Rat.mul_le_mul_of_nonneg_right h1 a0
   grind
 have m5 : 9223372036854775808 * (z * e) ≤ 4098 * (z * z) := by
   have := Rat.mul_le_mul_of_nonneg_left h1 z0
   grind
 have t1' : g2 ≤ e * e + 2 * (e * a) := by grind
 clear t1 h1 h2
 have n1 := Rat.mul_nonneg z0 z0
 generalize a * a = z1 at *
 generalize z * a = z2 at *
 generalize z * z = z3 at *
 generalize e * a = z4 at *
 generalize e * e = z5 at *
 generalize z * e = z6 at *
 constructor <;> grind

theorem cosine_err {E1 E2 ss zq b x w u : Rat} (h1 : 9223372036854775808 * ab (E1 - ss) ≤ 9226 * zq) (h1' : 281474976710656 * ab ss ≤ 281474976710657 * zq) (h2 : 9223372036854775808 * ab (E2 - b) ≤ 10248 * ab b + 1026 * u) (h3 : 9007199254740992 * ab (ss - b - x) ≤ ab x) (h4 : 9007199254740992 * ab (zq + ab b - w) ≤ ab w) (q0 : 0 ≤ zq) (w0 : 0 ≤ w) (hu : 1024 * u ≤ zq) :
   9223372036854775808 * ab (E1 - E2 - x) ≤ 16384 * w := by
 rw [ab_pos' w0] at h4
 have t1 : ab (E1 - E2 - x) ≤ ab (E1 - ss) + ab (E2 - b) + ab (ss - b - x) := by
   have a := ab_sub (E1 - ss) (E2 - b)
   have c := ab_add (E1 - ss - (E2 - b)) (ss - b - x)
   rw [show E1 - ss - (E2 - b) + (ss - b - x) = E1 - E2 - x by grind] at c
   grind
 have t2 : ab x ≤ ab (ss - b) + ab (ss - b - x) := by
   have := ab_sub (ss - b) (ss - b - x)
   rwa [show ss - b - (ss - b - x) = x by grind] at this
 have t3 := ab_sub ss b
 have t4 := (ab_self (zq + ab b - w)).1
 have q1 := ab_nonneg (zq + ab b - w)
 have b0 := ab_nonneg b
 generalize ab (E1 - E2 - x) = g1 at *
 generalize ab (E1 - ss) = g2 at *
 generalize ab (E2 - b) = g3 at *
 generalize ab (ss - b - x) = g4 at *
 generalize ab (zq + ab b - w) = g5 at *
 generalize ab (ss - b) = g6 at *
 generalize ab x = g7 at *
 generalize ab ss = g8 at *
 generalize ab b = g9 at *
 grind

end Go.Proofs.YtocnkgfoffpbfaaGreatDoor
