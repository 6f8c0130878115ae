/- Own texts, put together: Cb Gd Ge Gf Cc Cd. -/
import Derived.Test.YtocnkgfoffpbfaaGreatDoorQ4
import Derived.Test.YtocnkgfoffpbfaaGreatDoorQ24
namespace Go.Proofs.YtocnkgfoffpbfaaGreatDoor
/- Circles: the floats that Fast reckons. -/
section
open Go.RowKit
theorem RN.nonneg {q x : Rat} {t : Nat} (h : RN q x) (hm : M (U t) q) (hq : 0 ≤ q) : 0 ≤ x := by
 have h := h.rel hm
 have a := ab_self (q - x)
 apply Classical.byContradiction
 intro hn
 have hz' : ab x = -x := by rw [ab, if_pos (by grind)]
 rw [hz'] at h
 grind
structure TermW (T : Rat) (W S : Prop) (t p : Nat) : Prop where
 ft : Fin64 t
 fp : Fin64 p
 et : 9223372036854775808 * ab (T - fval t) ≤ 9224 * fval p
 at' : 1125899906842624 * ab (fval t) ≤ 1125899906842625 * fval p
 p0 : 0 ≤ fval p
 mt : M (U 674) (fval t)
 mp : M (U 674) (fval p)
 lt : ab (fval t) ≤ U 1481
 lp : ab (fval p) ≤ U 1481
 wh : W → (fval p < 9007199254740992 → fval t = T ∧ ab (fval t) ≤ fval p) ∧ M 1 (fval t) ∧ M 1 (fval p)
 sm : S → ab (fval p) ≤ U 1120
theorem low49 : fval 4386506037058863104 = U 1025 := by
 have := fval_rung 973 4503599627370496 (by omega) (Or.inr (by omega)) (by omega)
 have h := U_52 973
 rw [show (4386506037058863104 : Nat) = 973 * 4503599627370496 + 4503599627370496 from rfl, this]
 exact h.symm
theorem F_less49 {z : Rat} {t : Nat} (hz : F z) (hm : M (U t) z) (ht : 104 ≤ t) : F (U 1025 * z) := by
 obtain ⟨S, m, e, m1, m2⟩ := hz
 rcases Nat.lt_or_ge S 49 with h | h
 · have hb : ab z < U t := by
     have hu := U_pos S
     have h1 := F.abs e m1 m2
     have h2 : 9007199254740992 * U S = U (S + 53) := by rw [U_add]; rfl
     have h3 := U_lt_iff.2 (show S + 53 < t by omega)
     exact ab_lt.2 ⟨by grind, by grind⟩
   have z0 : z = 0 := by
     apply Classical.byContradiction
     intro h0
     have := hm.ge (U_pos t) h0
     grind
   rw [z0, Rat.mul_zero]
   exact F_zero
 · refine ⟨S - 49, m, ?_, m1, m2⟩
   have := U_mulX' (s := 1025) (t := S) (r := S - 49) (by omega)
   rw [e, ← this]
   grind
end

/- Lengths and angles in floats: what is rounded off. -/
section
theorem RN.rel2 {q x : Rat} (h : RN q x) : 9007199254740992 * ab (q - x) ≤ ab x + U 52 := by
 obtain ⟨T, k, R⟩ := h
 have hu := U_pos T
 have h1 := R.h1
 have h2 := R.h2
 have hx := R.hx
 have hd : 2 * ab (q - x) ≤ U T := by
   have : ab (q - x) ≤ U T / 2 := ab_le.2 ⟨by grind, by grind⟩
   grind
 have h52 := U_52 0
 have a0 := ab_nonneg x
 have hk : 4503599627370496 * U T ≤ ab x + U 52 := by
   rcases R.h3 with h | h | h
   · subst h
     rw [show (52 : Nat) = 0 + 52 from rfl, h52]; grind
   · have h5 := U_pos 52
     have : (4503599627370495 : Int) < k := by
       apply cast_lt hu
       rw [← hx, show ((4503599627370495 : Int) : Rat) = 4503599627370495 from rfl]
       grind
     have h3 : (4503599627370496 : Int) ≤ k := by omega
     have h4 : ((4503599627370496 : Int) : Rat) * U T ≤ (k : Rat) * U T := Rat.mul_le_mul_of_nonneg_right (Rat.intCast_le_intCast.2 h3) (Rat.le_of_lt hu)
     rw [← hx, show ((4503599627370496 : Int) : Rat) = 4503599627370496 from rfl] at h4
     have := le_ab.2 (Or.inl h4)
     grind
   · have h5 := U_pos 52
     have : k < (-4503599627370495 : Int) := by
       apply cast_lt hu
       rw [← hx, show ((-4503599627370495 : Int) : Rat) = -4503599627370495 from rfl]
       grind
     have h3 : k ≤ (-4503599627370496 : Int) := by omega
     have h4 : (k : Rat) * U T ≤ ((-4503599627370496 : Int) : Rat) * U T := Rat.mul_le_mul_of_nonneg_right (Rat.intCast_le_intCast.2 h3) (Rat.le_of_lt hu)
     rw [← hx, show ((-4503599627370496 : Int) : Rat) = -4503599627370496 from rfl] at h4
     have := le_ab.2 (Or.inr (by grind : 4503599627370496 * U T ≤ -x))
     grind
 grind
structure WayW (p : Rat) (d : Nat) : Prop where
 f : Fin64 d
 w : d < 18446744073709551616
 r : RN p (fval d)
 m : M (U 974) p
 l : ab p ≤ U 1175
theorem way_word {a b : Nat} (ha : Crd a) (hb : Crd b) : ∃ d, floatBits .sub .f64 b a = some d ∧ WayW (fval b - fval a) d := by
 obtain ⟨d, e, f, l, r, m, b⟩ := diff_word ha hb
 exact ⟨d, e, f, l, r, m, b⟩
theorem WayW.flip {p : Rat} {d : Nat} (h : WayW p d) : WayW (-p) (fflip d) :=
 ⟨by have := frung_flip h.w; unfold Fin64; rw [this]; exact h.f, flip_lt h.w, by
   rw [fval_flip h.w h.f]
   obtain ⟨T, k, R⟩ := h.r
   exact ⟨T, -k, R.neg⟩, h.m.neg, by rw [ab_neg]; exact h.l⟩
def ProdE (u0 u1 v0 v1 s z : Nat) : Prop := ∃ l0 l1 s1 z1, floatBits .mul .f64 u0 v0 = some l0 ∧ floatBits .mul .f64 u1 v1 = some l1 ∧ floatBits .add .f64 0 l0 = some s1 ∧ floatBits .add .f64 0 (frung l0) = some z1 ∧ floatBits .add .f64 s1 l1 = some s ∧ floatBits .add .f64 z1 (frung l1) = some z ∧ l0 < 18446744073709551616 ∧ l1 < 18446744073709551616
structure ProdW (P : Rat) (s z : Nat) : Prop where
 fs : Fin64 s
 fz : Fin64 z
 ws : s < 18446744073709551616
 wz : z < 18446744073709551616
 err : 9223372036854775808 * ab (P - fval s) ≤ 4098 * fval z
 z0 : 0 ≤ fval z
 le : 1125899906842624 * ab (fval s) ≤ 1125899906842625 * fval z
 ms : M (U 874) (fval s)
 mz : M (U 874) (fval z)
 ls : ab (fval s) ≤ U 1277
 lz : ab (fval z) ≤ U 1277
theorem add_zero_word {l : Nat} (fl : Fin64 l) (hl : ab (fval l) ≤ U 1276) : ∃ s, floatBits .add .f64 0 l = some s ∧ Fin64 s ∧ fval s = fval l := by
 have e0 : fval 0 + fval l = fval l := by rw [fval0]; grind
 obtain ⟨s, e, f, _, r⟩ := add_bits fin0 fl (by rw [e0]; exact lim_U hl (by omega))
 rw [e0] at r
 exact ⟨s, e, f, r.rn.exact (word_F fl)⟩
theorem sum_le {A B l r s z : Rat} (h1 : 9223372036854775808 * ab (A - l) ≤ 3073 * ab l) (h2 : 9223372036854775808 * ab (B - r) ≤ 3073 * ab r) (h3 : 9007199254740992 * ab (l + r - s) ≤ ab s) (h4 : 9007199254740992 * ab (ab l + ab r - z) ≤ ab z) (z0 : 0 ≤ z) :
   9223372036854775808 * ab (A + B - s) ≤ 4098 * z ∧ 1125899906842624 * ab s ≤ 1125899906842625 * z := by
 rw [ab_pos' z0] at h4
 have t1 : ab (A + B - s) ≤ ab (A - l) + ab (B - r) + ab (l + r - s) := by
   have a := ab_add (A - l) (B - r)
   have b := ab_add (A - l + (B - r)) (l + r - s)
   rw [show A - l + (B - r) + (l + r - s) = A + B - s by grind] at b
   grind
 have t2 : ab s ≤ ab (l + r) + ab (l + r - s) := by
   have := ab_sub (l + r) (l + r - s)
   rwa [show l + r - (l + r - s) = s by grind] at this
 have t3 := ab_add l r
 have t4 := (ab_self (ab l + ab r - z)).1
 have a0 := ab_nonneg l
 have b0 := ab_nonneg r
 have g0 := ab_nonneg (ab l + ab r - z)
 generalize ab (A + B - s) = g1 at *
 generalize ab (A - l) = g2 at *
 generalize ab (B - r) = g3 at *
 generalize ab (l + r - s) = g4 at *
 generalize ab (ab l + ab r - z) = g5 at *
 generalize ab (l + r) = g6 at *
 generalize ab l = g7 at *
 generalize ab r = g8 at *
 generalize ab s = g9 at *
 constructor <;> grind
theorem prod2_word {p0 p1 q0 q1 : Rat} {u0 u1 v0 v1 : Nat} (h1 : WayW p0 u0) (h2 : WayW p1 u1) (h3 : WayW q0 v0) (h4 : WayW q1 v1) :
   ∃ s z, ProdE u0 u1 v0 v1 s z ∧ ProdW (p0 * q0 + p1 * q1) s z ∧ (p0 * q0 = p0 * p0 → p1 * q1 = p1 * p1 → u0 = v0 → u1 = v1 → 0 ≤ fval s ∧ 9223372036854775808 * ab (p0 * p0 + p1 * p1 - fval s) ≤ 4098 * fval s) := by
 obtain ⟨l0, e0, f0, w0, n0, m0, b0, k0⟩ := prod_word h1.f h3.f h1.r h3.r h1.m h3.m h1.l h3.l
 obtain ⟨l1, e1, f1, w1, n1, m1, b1, k1⟩ := prod_word h2.f h4.f h2.r h4.r h2.m h4.m h2.l h4.l
 obtain ⟨s1, es1, fs1, vs1⟩ := add_zero_word f0 b0
 have va := ab_fval l0 f0
 have vb := ab_fval l1 f1
 have aa : ∀ x : Rat, ab (ab x) = ab x := fun x => ab_pos' (ab_nonneg x)
 obtain ⟨z1, ez1, fz1, vz1⟩ := add_zero_word (l := frung l0) (fin_small f0) (by rw [va, aa]; exact b0)
 rw [va] at vz1
 have bs : ab (fval s1 + fval l1) ≤ U 1277 := by
   have := ab_add (fval s1) (fval l1)
   have h := U_two' 1276
   rw [vs1] at this ⊢
   grind
 have bz : ab (fval z1 + fval (frung l1)) ≤ U 1277 := by
   rw [vz1, vb]
   have h := U_two' 1276
   have a := ab_nonneg (fval l0)
   have b := ab_nonneg (fval l1)
   rw [ab_pos' (by grind)]
   grind
 obtain ⟨s, es, fs, ws, rs⟩ := add_bits fs1 f1 (lim_U bs (by omega))
 obtain ⟨z, ez, fz, wz, rz⟩ := add_bits fz1 (fin_small f1 : Fin64 (frung l1)) (lim_U bz (by omega))
 have lz := rz.rn.le bz
 have ls := rs.rn.le bs
 rw [vs1] at rs
 rw [vz1, vb] at rz
 have mz : M (U 874) (ab (fval l0) + ab (fval l1)) := m0.ab.add m1.ab
 have ms : M (U 874) (fval l0 + fval l1) := m0.add m1
 have z0 := rz.rn.nonneg mz (by have a := ab_nonneg (fval l0); have b := ab_nonneg (fval l1); grind)
 obtain ⟨E1, E2⟩ := sum_le k0 k1 (rs.rn.rel ms) (rz.rn.rel mz) z0
 refine ⟨s, z, ⟨l0, l1, s1, z1, e0, e1, es1, ez1, es, ez, w0, w1⟩, ⟨fs, fz, ws, wz, E1, z0, E2, rs.rn.mm ms, rz.rn.mm mz, ls, lz⟩, ?_⟩
 intro c1 c2 d1 d2
 subst d1 d2
 have sqn : ∀ {Z z : Rat}, RN Z z → M (U 974) Z → M (U 874) (z * z) := fun r m => by
   have h := r.mm m
   have := h.mul h
   rwa [U_mulX' (s := 974) (t := 974) (r := 874) (by omega)] at this
 have x0 := n0.nonneg (sqn h1.r h1.m) (sq_nonneg _)
 have y0 := n1.nonneg (sqn h2.r h2.m) (sq_nonneg _)
 have q0 := rs.rn.nonneg ms (by grind)
 rw [c1] at k0
 rw [c2] at k1
 exact ⟨q0, sq_err k0 k1 x0 y0 (rs.rn.rel ms) q0⟩
theorem tell {E x z : Rat} (h : 9223372036854775808 * ab (E - x) ≤ 16384 * z) (hc : U 1025 * z < ab x) : sgq x = sgq E := by
 have hu : U 1123 * U 1025 = 1 := by
   rw [U_mulX' (s := 1123) (t := 1025) (r := 1074) (by omega)]; exact U1074
 have hu2 : U 1123 = 562949953421312 := by
   have := U_add 1074 49
   rw [U1074] at this
   rw [show (1123 : Nat) = 1074 + 49 from rfl, this]
   show ((562949953421312 : Nat) : Rat) * 1 = _
   rw [Rat.mul_one]; rfl
 have h5 : z < 562949953421312 * ab x := by
   have := Rat.mul_lt_mul_of_pos_left hc (U_pos 1123)
   rw [← Rat.mul_assoc, hu, Rat.one_mul, hu2] at this
   exact this
 have k : ab (E - x) < ab x := by grind
 have a := ab_self (E - x)
 apply sgq_three
 unfold ab at k
 split at k <;> split at k <;> grind
theorem tell_word {x z : Nat} (fx : Fin64 x) (fz : Fin64 z) (hz : 0 ≤ fval z) : ∃ v, floatBits .mul .f64 4386506037058863104 z = some v ∧ Fin64 v ∧ v < 18446744073709551616 ∧ ((∃ t, 104 ≤ t ∧ M (U t) (fval z)) → (FloatKind.f64.format.order (frung x) v == some .gt) = decide (U 1025 * fval z < ab (fval x))) := by
 have hC : Fin64 4386506037058863104 := by unfold Fin64 frung; omega
 obtain ⟨v, ev, rv⟩ := mul_full hC fz
 rw [low49] at rv
 have hlim : ab (U 1025 * fval z) < 18014398509481983 * p2 970 := by
   have h1 := (fval_bd fz).1
   have h2 : U 1025 * fval z ≤ U 1025 * p2 1024 := Rat.mul_le_mul_of_nonneg_left (Rat.le_of_lt h1) (Rat.le_of_lt (U_pos _))
   have h3 : U 1025 * p2 1024 = p2 975 := by unfold U; rw [← p2_add]; rfl
   have h4 : p2 975 = 32 * p2 970 := by rw [show (975 : Int) = ((5 : Nat) : Int) + 970 by omega, p2_add, p2_nat]; rfl
   have h5 := p2_pos 970
   rw [ab_pos' (Rat.mul_nonneg (Rat.le_of_lt (U_pos _)) hz)]
   rw [h3, h4] at h2
   grind
 obtain ⟨wv, fv, rr⟩ := rv.fin hlim
 refine ⟨v, ev, fv, wv, ?_⟩
 rintro ⟨t, ht, hm⟩
 have vv : fval v = U 1025 * fval z := rr.rn.exact (F_less49 (word_F fz) hm ht)
 rw [order_val (fin_small fx) fv, ab_fval x fx, vv]
 by_cases h : U 1025 * fval z < ab (fval x)
 · rw [if_neg (by grind), if_neg (by grind), decide_eq_true h]; rfl
 · rw [decide_eq_false h]
   split
   · rfl
   · split
     · rfl
     · grind
theorem cmp_word {P Q : Rat} {l r zl zr : Nat} (hl : ProdW P l zl) (hr : ProdW Q r zr) (l0 : 0 ≤ fval l) (r0 : 0 ≤ fval r) (kl : 9223372036854775808 * ab (P - fval l) ≤ 4098 * fval l) (kr : 9223372036854775808 * ab (Q - fval r) ≤ 4098 * fval r) :
   ∃ x z v, floatBits .sub .f64 l r = some x ∧ floatBits .add .f64 l r = some z ∧ floatBits .mul .f64 4386506037058863104 z = some v ∧ Fin64 x ∧ x < 18446744073709551616 ∧ ((FloatKind.f64.format.order (frung x) v == some .gt) = true → sgq (fval x) = sgq (P - Q)) := by
 have h2 := U_two' 1277
 have bx : ab (fval l - fval r) ≤ U 1278 := by
   have := ab_sub (fval l) (fval r)
   have := hl.ls
   have := hr.ls
   grind
 have bz : ab (fval l + fval r) ≤ U 1278 := by
   have := ab_add (fval l) (fval r)
   have := hl.ls
   have := hr.ls
   grind
 obtain ⟨x, ex, fx, wx, rx⟩ := sub_bits hl.fs hr.fs (lim_U bx (by omega))
 obtain ⟨z, ez, fz, wz, rz⟩ := add_bits hl.fs hr.fs (lim_U bz (by omega))
 have z0 := rz.rn.nonneg (hl.ms.add hr.ms) (by grind)
 obtain ⟨v, ev, _, _, hv⟩ := tell_word fx fz z0
 refine ⟨x, z, v, ex, ez, ev, fx, wx, fun h => ?_⟩
 rw [hv ⟨874, by omega, rz.rn.mm (hl.ms.add hr.ms)⟩] at h
 refine tell ?_ (of_decide_eq_true h)
 have k1 := rx.rn.rel (hl.ms.sub hr.ms)
 have k2 := rz.rn.rel (hl.ms.add hr.ms)
 rw [ab_pos' z0] at k2
 have t1 : ab (P - Q - fval x) ≤ ab (P - fval l) + ab (Q - fval r) + ab (fval l - fval r - fval x) := by
   have a := ab_sub (P - fval l) (Q - fval r)
   have b := ab_add (P - fval l - (Q - fval r)) (fval l - fval r - fval x)
   rw [show P - fval l - (Q - fval r) + (fval l - fval r - fval x) = P - Q - fval x by grind] at b
   grind
 have t2 : ab (fval x) ≤ ab (fval l - fval r) + ab (fval l - fval r - fval x) := by
   have := ab_sub (fval l - fval r) (fval l - fval r - fval x)
   rwa [show fval l - fval r - (fval l - fval r - fval x) = fval x by grind] at this
 have t3 := ab_sub (fval l) (fval r)
 rw [ab_pos' l0, ab_pos' r0] at t3
 have t4 := (ab_self (fval l + fval r - fval z)).1
 generalize ab (P - Q - fval x) = g1 at *
 generalize ab (P - fval l) = g2 at *
 generalize ab (Q - fval r) = g3 at *
 generalize ab (fval l - fval r - fval x) = g4 at *
 generalize ab (fval l + fval r - fval z) = g5 at *
 generalize ab (fval l - fval r) = g6 at *
 generalize ab (fval x) = g7 at *
 generalize fval l = g8 at *
 generalize fval r = g9 at *
 generalize fval z = g10 at *
 grind
theorem dot_word {P : Rat} {s z : Nat} (h : ProdW P s z) : ∃ v, floatBits .mul .f64 4386506037058863104 z = some v ∧ ((FloatKind.f64.format.order (frung s) v == some .gt) = true → sgq (fval s) = sgq P) := by
 obtain ⟨v, ev, _, _, hv⟩ := tell_word h.fs h.fz h.z0
 refine ⟨v, ev, fun k => ?_⟩
 rw [hv ⟨874, by omega, h.mz⟩] at k
 refine tell ?_ (of_decide_eq_true k)
 have := h.err
 have := h.z0
 grind
end

/- Areas and cosines in floats: what is rounded off. -/
section
theorem fval_top : fval 9218868437227405311 = 18014398509481982 * p2 970 := by
 rw [(fval_pos_lt (r := 9218868437227405311) (by omega)).1, show fmag 9218868437227405311 = 9007199254740991 by decide, show fpl 9218868437227405311 = 1 + 970 by decide, p2_add, p2_one]
 rw [show ((9007199254740991 : Nat) : Rat) = 9007199254740991 from rfl]
 grind
theorem fval_le_top {g : Nat} (h : Fin64 g) : ab (fval g) ≤ 18014398509481982 * p2 970 := by
 rw [← ab_fval g h, ← fval_top]
 exact fval_le_max h
theorem U_small {p : Nat} (h : p ≤ 2043) : U p ≤ p2 970 / 2 := by
 have h1 : U p ≤ p2 969 := by unfold U; exact p2_mono (by omega)
 have h2 : p2 970 = 2 * p2 969 := by rw [show (970 : Int) = 1 + 969 by omega, p2_add, p2_one]
 rw [h2]
 grind
theorem sum_lim {a g : Rat} (ha : ab a ≤ U 2000) (hg : ab g ≤ 18014398509481982 * p2 970) : ab (a - g) < 18014398509481983 * p2 970 ∧ ab (a + g) < 18014398509481983 * p2 970 := by
 have h1 := U_small (p := 2000) (by omega)
 have h2 := p2_pos 970
 have h3 := ab_sub a g
 have h4 := ab_add a g
 constructor <;> grind
theorem F_half {z : Rat} {t : Nat} (hz : F z) (hm : M (U t) z) (ht : 104 ≤ t) : F (z * p2 (-1)) := by
 obtain ⟨S, m, e, m1, m2⟩ := hz
 rcases Nat.lt_or_ge S 1 with h | h
 · have hb : ab z < U t := by
     have hu := U_pos S
     have h1 := F.abs e m1 m2
     have h2 : 9007199254740992 * U S = U (S + 53) := by rw [U_add]; rfl
     have h3 := U_lt_iff.2 (show S + 53 < t by omega)
     exact ab_lt.2 ⟨by grind, by grind⟩
   have z0 : z = 0 := by
     apply Classical.byContradiction
     intro h0
     have := hm.ge (U_pos t) h0
     grind
   rw [z0, Rat.zero_mul]
   exact F_zero
 · refine ⟨S - 1, m, ?_, m1, m2⟩
   have : U S * p2 (-1) = U (S - 1) := by
     unfold U
     rw [← p2_add]
     congr 1
     omega
   rw [e, ← this]
   grind
theorem p2_half (z : Rat) : 2 * (z * p2 (-1)) = z := by
 have : p2 (-1) * 2 = 1 := by rw [← p2_one, ← p2_add]; exact p2_zero
 have h : 2 * (z * p2 (-1)) = z * (p2 (-1) * 2) := by grind
 rw [h, this, Rat.mul_one]
theorem half_is {a : Nat} (ha : Fin64 a) (hm : M (U 874) (fval a)) (hl : ab (fval a) ≤ U 1277) : ∃ r, floatBits .quo .f64 a 4611686018427387904 = some r ∧ Fin64 r ∧ r < 18446744073709551616 ∧ 2 * fval r = fval a := by
 obtain ⟨r, e, h⟩ := half_word ha
 have hh := p2_half (fval a)
 have hlim : ab (fval a * p2 (-1)) < 18014398509481983 * p2 970 := by
   have h1 := U_small (p := 1277) (by omega)
   have h2 := p2_pos 970
   have h3 : ab (fval a) = 2 * ab (fval a * p2 (-1)) := by
     have : ab (2 * (fval a * p2 (-1))) = ab 2 * ab (fval a * p2 (-1)) := ab_mul _ _
     rw [hh, show ab 2 = 2 by unfold ab; grind] at this
     exact this
   have h4 := ab_nonneg (fval a * p2 (-1))
   grind
 obtain ⟨w, f, rv⟩ := h.fin hlim
 have := rv.rn.exact (F_half (word_F ha) hm (by omega))
 exact ⟨r, e, f, w, by rw [this]; exact hh⟩
theorem RN.same {q x : Rat} (h : RN q x) (hm : M (U 0) q) : sgq x = sgq q := by
 have k := h.rel hm
 have a := ab_self (q - x)
 apply sgq_three
 unfold ab at k
 split at k <;> split at k <;> grind
theorem M0 {b : Nat} (h : Fin64 b) : M (U 0) (fval b) := F.mult0 (word_F h)
theorem area_word {P : Rat} {s z g : Nat} (h : ProdW P s z) (hg : Fin64 g) :
   ∃ a hz x zz v, floatBits .quo .f64 (frung s) 4611686018427387904 = some a ∧ floatBits .quo .f64 z 4611686018427387904 = some hz ∧ floatBits .sub .f64 a g = some x ∧ floatBits .add .f64 hz (frung g) = some zz ∧ floatBits .mul .f64 4386506037058863104 zz = some v ∧ Fin64 x ∧ x < 18446744073709551616 ∧ ((FloatKind.f64.format.order (frung x) v == some .gt) = true → sgq (fval x) = sgq (ab P - 2 * fval g)) := by
 have vs := ab_fval s h.fs
 have aa : ∀ x : Rat, ab (ab x) = ab x := fun x => ab_pos' (ab_nonneg x)
 obtain ⟨a, ea, fa, wa, va⟩ := half_is (a := frung s) (fin_small h.fs) (by rw [vs]; exact h.ms.ab) (by rw [vs, aa]; exact h.ls)
 rw [vs] at va
 obtain ⟨hz, ehz, fhz, whz, vhz⟩ := half_is h.fz h.mz h.lz
 have vg := ab_fval g hg
 have lg := fval_le_top hg
 have b1 : ab (fval a) ≤ U 2000 := by
   have h1 := h.ls
   have h2 := U_mono (show 1277 ≤ 2000 by omega)
   have h3 := ab_nonneg (fval s)
   rw [ab_pos' (by grind)]
   grind
 have b2 : ab (fval hz) ≤ U 2000 := by
   have h1 := h.lz
   have h2 := U_mono (show 1277 ≤ 2000 by omega)
   have h3 := h.z0
   rw [ab_pos' h3] at h1
   rw [ab_pos' (by grind)]
   grind
 obtain ⟨x, ex, rx⟩ := sub_full fa hg
 obtain ⟨wx, fx, rx⟩ := rx.fin (sum_lim b1 lg).1
 obtain ⟨zz, ez, rz⟩ := add_full fhz (fin_small hg : Fin64 (frung g))
 rw [vg] at rz
 obtain ⟨wz, fzz, rz⟩ := rz.fin (sum_lim b2 (by rw [aa]; exact lg)).2
 have hz0 := h.z0
 have g0 := ab_nonneg (fval g)
 have mzz : M (U 0) (fval hz + ab (fval g)) := (M0 fhz).add (M0 hg).ab
 have zz0 := rz.rn.nonneg mzz (by grind)
 obtain ⟨v, ev, _, _, hv⟩ := tell_word fx fzz zz0
 refine ⟨a, hz, x, zz, v, ea, ehz, ex, ez, ev, fx, wx, fun k => ?_⟩
 have mx : M (U 0) (fval a - fval g) := (M0 fa).sub (M0 hg)
 have e2 : sgq (ab P - 2 * fval g) = sgq (ab P / 2 - fval g) := by
   apply sgq_three
   grind
 rw [e2]
 by_cases hzero : fval z = 0
 · -- nothing is rounded off
   have k1 := h.err
   have k2 := h.le
   rw [hzero] at k1 k2
   have c1 := ab_zero (x := P - fval s) (by have := ab_nonneg (P - fval s); grind)
   have c2 := ab_zero (x := fval s) (by have := ab_nonneg (fval s); grind)
   have c3 : P = 0 := by grind
   rw [c3, show ab 0 = 0 by unfold ab; grind]
   rw [rx.rn.same mx]
   rw [c2, show ab 0 = 0 by unfold ab; grind] at va
   have ea : fval a = 0 := by grind
   have e3 : (0 : Rat) / 2 - fval g = 0 - fval g := by grind
   rw [ea, e3]
 · have kk : U 873 ≤ fval zz := by
     have h1 := h.mz.ge (U_pos 874) hzero
     rw [ab_pos' hz0] at h1
     have h2 := U_succ 873
     have h3 := rz.rn.rel mzz
     rw [ab_pos' zz0] at h3
     have h4 := (ab_self (fval hz + ab (fval g) - fval zz)).1
     have h5 := U_pos 873
     have h6 := U_succ 872
     -- rounding keeps what is not below a power of two
     obtain ⟨T, kT, R⟩ := rz.rn
     have F8 : F (U 873) := ⟨873, 1, by rw [one_rat]; grind, by omega, by omega⟩
     apply Classical.byContradiction
     intro hn
     have hb := R.best F8 (c := fval hz + ab (fval g) - U 873) (by grind) (by grind)
     grind
   have hm : M (U 821) (fval zz) := by
     have := (word_F fzz).mult (K := 873) (by rw [ab_pos' zz0]; exact kk)
     exact this
   rw [hv ⟨821, by omega, hm⟩] at k
   refine tell ?_ (of_decide_eq_true k)
   have k1 := rx.rn.rel mx
   have k2 := rz.rn.rel mzz
   rw [ab_pos' zz0] at k2
   have k3 := h.err
   have k4 := h.le
   have t0 : ab (ab P / 2 - fval a) * 2 ≤ ab (P - fval s) := by
     have a1 := ab_sub P (P - fval s)
     rw [show P - (P - fval s) = fval s by grind] at a1
     have a2 := ab_add (P - fval s) (fval s)
     rw [show P - fval s + fval s = P by grind] at a2
     have : ab (ab P / 2 - fval a) ≤ ab (P - fval s) / 2 := ab_le.2 ⟨by grind, by grind⟩
     grind
   have t1 : ab (ab P / 2 - fval g - fval x) ≤ ab (ab P / 2 - fval a) + ab (fval a - fval g - fval x) := by
     have b := ab_add (ab P / 2 - fval a) (fval a - fval g - fval x)
     rwa [show ab P / 2 - fval a + (fval a - fval g - fval x) = ab P / 2 - fval g - fval x by grind] at b
   have t2 : ab (fval x) ≤ ab (fval a - fval g) + ab (fval a - fval g - fval x) := by
     have := ab_sub (fval a - fval g) (fval a - fval g - fval x)
     rwa [show fval a - fval g - (fval a - fval g - fval x) = fval x by grind] at this
   have t3 := ab_sub (fval a) (fval g)
   have s0 := ab_nonneg (fval s)
   rw [ab_pos' (show 0 ≤ fval a by grind)] at t3
   have t4 := (ab_self (fval hz + ab (fval g) - fval zz)).1
   have u0 := ab_nonneg (fval hz + ab (fval g) - fval zz)
   generalize ab (ab P / 2 - fval g - fval x) = g1 at *
   generalize ab (ab P / 2 - fval a) = g2 at *
   generalize ab (P - fval s) = g3 at *
   generalize ab (fval a - fval g - fval x) = g4 at *
   generalize ab (fval hz + ab (fval g) - fval zz) = g5 at *
   generalize ab (fval a - fval g) = g6 at *
   generalize ab (fval x) = g7 at *
   generalize ab (fval s) = g8 at *
   generalize ab (fval g) = g9 at *
   clear k rx rz hv ev ez ex mx mzz kk hm e2 b1 b2 lg vg vs
   generalize fval a = g10 at *
   generalize fval z = g11 at *
   generalize fval zz = g12 at *
   generalize fval hz = g13 at *
   grind
theorem sq_prod_err {p q x y L : Rat} (h1 : 9223372036854775808 * ab (p - x) ≤ 4098 * ab x) (h2 : 9223372036854775808 * ab (q - y) ≤ 4098 * ab y) (h3 : 9007199254740992 * ab (x * y - L) ≤ ab L) :
   9223372036854775808 * ab (p * q - L) ≤ 9222 * ab L := by
 have a0 := ab_nonneg x
 have b0 := ab_nonneg y
 have f0 := ab_nonneg (q - y)
 have d0 := ab_nonneg q
 have hd : ab q ≤ ab y + ab (q - y) := by
   have := ab_add y (q - y)
   rwa [show y + (q - y) = q by grind] at this
 have t1 : ab (p * q - x * y) ≤ ab (p - x) * ab q + ab x * ab (q - y) := by
   have := ab_add ((p - x) * q) (x * (q - y))
   rw [ab_mul, ab_mul, show (p - x) * q + x * (q - y) = p * q - x * y by grind] at this
   exact this
 have t2 : ab (p * q - L) ≤ ab (p * q - x * y) + ab (x * y - L) := by
   have := ab_add (p * q - x * y) (x * y - L)
   rwa [show p * q - x * y + (x * y - L) = p * q - L by grind] at this
 have t3 : ab (x * y) ≤ ab L + ab (x * y - L) := by
   have := ab_add L (x * y - L)
   rwa [show L + (x * y - L) = x * y by grind] at this
 rw [ab_mul] at t3
 have m1 := Rat.mul_le_mul_of_nonneg_right h1 d0
 have m2 := Rat.mul_le_mul_of_nonneg_left hd a0
 have m3 := Rat.mul_le_mul_of_nonneg_left h2 a0
 have m4 := Rat.mul_nonneg a0 b0
 have m5 := Rat.mul_nonneg a0 f0
 have l0 := ab_nonneg L
 generalize ab (p * q - L) = g1 at *
 generalize ab (p * q - x * y) = g2 at *
 generalize ab (x * y - L) = g3 at *
 generalize ab (p - x) = e at *
 generalize ab (q - y) = f at *
 generalize ab x = a at *
 generalize ab y = b at *
 generalize ab q = d at *
 generalize ab L = l at *
 have n1 : 9223372036854775808 * (e * d) ≤ 4098 * (a * d) := by grind
 have n2 : a * d ≤ a * b + a * f := by grind
 have n3 : 9223372036854775808 * (a * f) ≤ 4098 * (a * b) := by grind
 clear m1 m2 m3
 generalize e * d = z1 at *
 generalize a * d = z2 at *
 generalize a * b = z3 at *
 generalize a * f = z4 at *
 grind
theorem times_err {g L f b u : Rat} (h1 : 9223372036854775808 * ab (L - f) ≤ 9222 * ab f) (h2 : 9007199254740992 * ab (g * f - b) ≤ ab b + u) (u0 : 0 ≤ u) :
   9223372036854775808 * ab (g * L - b) ≤ 10248 * ab b + 1026 * u := by
 have a0 := ab_nonneg g
 have t1 : ab (g * L - b) ≤ ab g * ab (L - f) + ab (g * f - b) := by
   have := ab_add (g * (L - f)) (g * f - b)
   rw [ab_mul, show g * (L - f) + (g * f - b) = g * L - b by grind] at this
   exact this
 have t2 : ab g * ab f ≤ ab b + ab (g * f - b) := by
   have := ab_add b (g * f - b)
   rwa [show b + (g * f - b) = g * f by grind, ab_mul] at this
 have m1 := Rat.mul_le_mul_of_nonneg_left h1 a0
 have c0 := ab_nonneg b
 generalize ab (g * L - b) = g1 at *
 generalize ab (g * f - b) = g2 at *
 generalize ab (L - f) = e at *
 generalize ab f = f' at *
 generalize ab g = g' at *
 generalize ab b = b' at *
 have n1 : 9223372036854775808 * (g' * e) ≤ 9222 * (g' * f') := by grind
 clear m1
 generalize g' * e = z1 at *
 generalize g' * f' = z2 at *
 grind
theorem square_err {P s z ss zq : Rat} (h1 : 9223372036854775808 * ab (P - s) ≤ 4098 * z) (h2 : 1125899906842624 * ab s ≤ 1125899906842625 * z) (z0 : 0 ≤ z) (h3 : 9007199254740992 * ab (s * s - ss) ≤ ab ss) (h4 : 9007199254740992 * ab (z * z - zq) ≤ ab zq) (q0 : 0 ≤ zq) :
   9223372036854775808 * ab (P * P - ss) ≤ 9226 * zq ∧ 281474976710656 * ab ss ≤ 281474976710657 * zq := by
 rw [ab_pos' q0] at h4
 have t1 : ab (P * P - s * s) ≤ ab (P - s) * (ab (P - s) + 2 * ab s) := by
   have e : P * P - s * s = (P - s) * ((P - s) + 2 * s) := by grind
   rw [e, ab_mul]
   have := ab_add (P - s) (2 * s)
   rw [ab_mul, show ab 2 = 2 by unfold ab; grind] at this
   exact Rat.mul_le_mul_of_nonneg_left this (ab_nonneg _)
 have t2 : ab (P * P - ss) ≤ ab (P * P - s * s) + ab (s * s - ss) := by
   have := ab_add (P * P - s * s) (s * s - ss)
   rwa [show P * P - s * s + (s * s - ss) = P * P - ss by grind] at this
 have t3 : ab ss ≤ ab (s * s) + ab (s * s - ss) := by
   have := ab_sub (s * s) (s * s - ss)
   rwa [show s * s - (s * s - ss) = ss by grind] at this
 rw [ab_mul] at t3
 have t4 := (ab_self (z * z - zq)).1
 have a0 := ab_nonneg (P - s)
 have b0 := ab_nonneg s
 have q1 := ab_nonneg (z * z - zq)
 generalize ab (P * P - ss) = g1 at *
 generalize ab (P * P - s * s) = g2 at *
 generalize ab (s * s - ss) = g3 at *
 generalize ab (z * z - zq) = g4 at *
 generalize ab (P - s) = e at *
 generalize ab s = a at *
 generalize ab ss = ssa at *
 -- e is little beside z; a is no more than z, nearly
 have m1 : 1125899906842624 * (a * a) ≤ 1125899906842625 * (z * a) := by
   have := Rat.mul_le_mul_of_nonneg_right h2 b0
   grind
 have m2 : 1125899906842624 * (z * a) ≤ 1125899906842625 * (z * z) := by
   have := Rat.mul_le_mul_of_nonneg_left h2 z0
   grind
 have m3 : 9223372036854775808 * (e * a) ≤ 4098 * (z * a) := by
   have := Rat.mul_le_mul_of_nonneg_right h1 b0
   grind
 have m4 : 9223372036854775808 * (e * e) ≤ 4098 * (z * e) := by
   have := Rat.mul_le_mul_of_nonneg_right h1 a0
   grind
 have m5 : 9223372036854775808 * (z * e) ≤ 4098 * (z * z) := by
   have := Rat.mul_le_mul_of_nonneg_left h1 z0
   grind
 have t1' : g2 ≤ e * e + 2 * (e * a) := by grind
 clear t1 h1 h2
 have n1 := Rat.mul_nonneg z0 z0
 generalize a * a = z1 at *
 generalize z * a = z2 at *
 generalize z * z = z3 at *
 generalize e * a = z4 at *
 generalize e * e = z5 at *
 generalize z * e = z6 at *
 constructor <;> grind
theorem cosine_err {E1 E2 ss zq b x w u : Rat} (h1 : 9223372036854775808 * ab (E1 - ss) ≤ 9226 * zq) (h1' : 281474976710656 * ab ss ≤ 281474976710657 * zq) (h2 : 9223372036854775808 * ab (E2 - b) ≤ 10248 * ab b + 1026 * u) (h3 : 9007199254740992 * ab (ss - b - x) ≤ ab x) (h4 : 9007199254740992 * ab (zq + ab b - w) ≤ ab w) (q0 : 0 ≤ zq) (w0 : 0 ≤ w) (hu : 1024 * u ≤ zq) :
   9223372036854775808 * ab (E1 - E2 - x) ≤ 16384 * w := by
 rw [ab_pos' w0] at h4
 have t1 : ab (E1 - E2 - x) ≤ ab (E1 - ss) + ab (E2 - b) + ab (ss - b - x) := by
   have a := ab_sub (E1 - ss) (E2 - b)
   have c := ab_add (E1 - ss - (E2 - b)) (ss - b - x)
   rw [show E1 - ss - (E2 - b) + (ss - b - x) = E1 - E2 - x by grind] at c
   grind
 have t2 : ab x ≤ ab (ss - b) + ab (ss - b - x) := by
   have := ab_sub (ss - b) (ss - b - x)
   rwa [show ss - b - (ss - b - x) = x by grind] at this
 have t3 := ab_sub ss b
 have t4 := (ab_self (zq + ab b - w)).1
 have q1 := ab_nonneg (zq + ab b - w)
 have b0 := ab_nonneg b
 generalize ab (E1 - E2 - x) = g1 at *
 generalize ab (E1 - ss) = g2 at *
 generalize ab (E2 - b) = g3 at *
 generalize ab (ss - b - x) = g4 at *
 generalize ab (zq + ab b - w) = g5 at *
 generalize ab (ss - b) = g6 at *
 generalize ab x = g7 at *
 generalize ab ss = g8 at *
 generalize ab b = g9 at *
 grind
end

/- Lengths and angles in floats: the functions. -/
section
open Go.RowKit Go.Shelf
attribute [local go_sem ↓] Go.wp_at_zero Go.wp_at_succ
attribute [local go_sem] run_store_float
set_option maxHeartbeats 1000000 in
theorem told_no (x z v : Nat) (w : World) (hx : x < 18446744073709551616) (hv : floatBits .mul .f64 4386506037058863104 z = some v) (ho : (FloatKind.f64.format.order (frung x) v == some .gt) = false) :
   Calls Tryz.prog 27 #[.float .f64 x, .float .f64 z] w fun e w' => e = .returned (.tuple #[.int .i64 0, .bool false]) ∧ w' = w := by
 have r1 : ∀ w, (binOp .mul 22 (.float .f64 4386506037058863104) (.float .f64 z)).run Tryz.prog w = .ok (.float .f64 v) w := fun w => run_float_arith w .mul _ .f64 _ _ _ hv
 have HA : Hid (∀ w, Calls Tryz.prog 42 #[.float .f64 x] w fun e w' => e = .returned (.float .f64 (frung x)) ∧ w' = w) := fun w => abs_any x w hx
 generalize frung x = fx at *
 clear hv hx
 go_enter Tryz.func27, Tryz.ntmps27
 go_wp2_with fail
 refine (HA.out _).mono ?_
 rintro e wx ⟨rfl, hbx⟩
 subst hbx
 go_wp2
 go_ret2
 exact ⟨rfl, rfl⟩
set_option maxHeartbeats 1000000 in
theorem told_yes (x z v : Nat) (w : World) (hx : x < 18446744073709551616) (fx : Fin64 x) (hv : floatBits .mul .f64 4386506037058863104 z = some v) (ho : (FloatKind.f64.format.order (frung x) v == some .gt) = true) :
   Calls Tryz.prog 27 #[.float .f64 x, .float .f64 z] w fun e w' => e = .returned (.tuple #[.int .i64 (sgq (fval x)), .bool true]) ∧ w' = w := by
 have r1 : ∀ w, (binOp .mul 22 (.float .f64 4386506037058863104) (.float .f64 z)).run Tryz.prog w = .ok (.float .f64 v) w := fun w => run_float_arith w .mul _ .f64 _ _ _ hv
 have HA : Hid (∀ w, Calls Tryz.prog 42 #[.float .f64 x] w fun e w' => e = .returned (.float .f64 (frung x)) ∧ w' = w) := fun w => abs_any x w hx
 have HC : Hid (∀ w, Calls Tryz.prog 67 #[.float .f64 x, .float .f64 0] w fun e w' => e = .returned (.int .i64 (sgq (fval x))) ∧ w' = w) := fun w => compare_zero x w fx
 generalize frung x = fx' at *
 generalize sgq (fval x) = sg at *
 clear hv hx fx
 go_enter Tryz.func27, Tryz.ntmps27
 go_wp2_with fail
 refine (HA.out _).mono ?_
 rintro e wx ⟨rfl, hbx⟩
 subst hbx
 go_wp2_with fail
 refine (HC.out _).mono ?_
 rintro e wx ⟨rfl, hbx⟩
 subst hbx
 go_wp2
 go_ret2
 exact ⟨rfl, rfl⟩
set_option maxRecDepth 100000 in
set_option maxHeartbeats 2000000 in
theorem nearWay_is (ax ay bx by' x y : Nat) (w : World) (h1 : floatBits .sub .f64 bx ax = some x) (h2 : floatBits .sub .f64 by' ay = some y) :
   Calls Tryz.prog 35 #[pv ax ay, pv bx by'] w fun e w' => e = .returned (.agg #[.float .f64 x, .float .f64 y]) ∧ Below w.heap.size w w' := by
 have r1 : ∀ w, (binOp .sub 22 (.float .f64 bx) (.float .f64 ax)).run Tryz.prog w = .ok (.float .f64 x) w := fun w => run_float_arith w .sub _ .f64 _ _ _ h1
 have r2 : ∀ w, (binOp .sub 22 (.float .f64 by') (.float .f64 ay)).run Tryz.prog w = .ok (.float .f64 y) w := fun w => run_float_arith w .sub _ .f64 _ _ _ h2
 clear h1 h2
 go_enter Tryz.func35, Tryz.ntmps35
 go_wp2
 refine bodyPost_ret (v := .agg #[.float .f64 x, .float .f64 y]) (by simp [results, Tryz.results35, go_sem]) rfl ?_
 exact ⟨rfl, (((Below.refl _ w).alloc (Nat.le_refl _) _).alloc (by simp) _).alloc (by simp; omega) _⟩
set_option maxRecDepth 100000 in
set_option maxHeartbeats 2000000 in
theorem nearAcross_is (x y : Nat) (w : World) (hx : x < 18446744073709551616) :
   Calls Tryz.prog 41 #[.agg #[.float .f64 x, .float .f64 y]] w fun e w' => e = .returned (.agg #[.float .f64 y, .float .f64 (fflip x)]) ∧ Below w.heap.size w w' := by
 have r1 := run_negF x hx
 go_enter Tryz.func41, Tryz.ntmps41
 go_wp2
 refine bodyPost_ret (v := .agg #[.float .f64 y, .float .f64 (fflip x)]) (by simp [results, Tryz.results41, go_sem]) rfl ?_
 exact ⟨rfl, ((Below.refl _ w).alloc (Nat.le_refl _) _).alloc (by simp) _⟩
set_option maxRecDepth 100000 in
set_option maxHeartbeats 4000000 in
theorem nearProduct_is (u0 u1 v0 v1 s z : Nat) (w : World) (h : ProdE u0 u1 v0 v1 s z) :
   Calls Tryz.prog 34 #[.agg #[.float .f64 u0, .float .f64 u1], .agg #[.float .f64 v0, .float .f64 v1]] w fun e w' => e = .returned (.tuple #[.float .f64 s, .float .f64 z]) ∧ Below w.heap.size w w' := by
 obtain ⟨l0, l1, s1, z1, e1, e2, e3, e4, e5, e6, w0, w1⟩ := h
 have HA0 : Hid (∀ w, Calls Tryz.prog 42 #[.float .f64 l0] w fun e w' => e = .returned (.float .f64 (frung l0)) ∧ w' = w) := fun w => abs_any l0 w w0
 have HA1 : Hid (∀ w, Calls Tryz.prog 42 #[.float .f64 l1] w fun e w' => e = .returned (.float .f64 (frung l1)) ∧ w' = w) := fun w => abs_any l1 w w1
 generalize frung l0 = f0 at *
 generalize frung l1 = f1 at *
 have r1 : ∀ w, (binOp .mul 22 (.float .f64 u0) (.float .f64 v0)).run Tryz.prog w = .ok (.float .f64 l0) w := fun w => run_float_arith w .mul _ .f64 _ _ _ e1
 have r2 : ∀ w, (binOp .mul 22 (.float .f64 u1) (.float .f64 v1)).run Tryz.prog w = .ok (.float .f64 l1) w := fun w => run_float_arith w .mul _ .f64 _ _ _ e2
 have r3 : ∀ w, (binOp .add 22 (.float .f64 0) (.float .f64 l0)).run Tryz.prog w = .ok (.float .f64 s1) w := fun w => run_float_arith w .add _ .f64 _ _ _ e3
 have r4 : ∀ w, (binOp .add 22 (.float .f64 0) (.float .f64 f0)).run Tryz.prog w = .ok (.float .f64 z1) w := fun w => run_float_arith w .add _ .f64 _ _ _ e4
 have r5 : ∀ w, (binOp .add 22 (.float .f64 s1) (.float .f64 l1)).run Tryz.prog w = .ok (.float .f64 s) w := fun w => run_float_arith w .add _ .f64 _ _ _ e5
 have r6 : ∀ w, (binOp .add 22 (.float .f64 z1) (.float .f64 f1)).run Tryz.prog w = .ok (.float .f64 z) w := fun w => run_float_arith w .add _ .f64 _ _ _ e6
 have ix0 : ∀ w, (Instr.index 62 (.agg #[.float .f64 u0, .float .f64 u1]) (.int .i64 0)).run Tryz.prog w = .ok (.float .f64 u0) w := fun _ => by kernel_rfl
 have ix1 : ∀ w, (Instr.index 62 (.agg #[.float .f64 u0, .float .f64 u1]) (.int .i64 1)).run Tryz.prog w = .ok (.float .f64 u1) w := fun _ => by kernel_rfl
 clear e1 e2 e3 e4 e5 e6 w0 w1
 go_enter Tryz.func34, Tryz.ntmps34
 go_wp2_with fail
 go_loopw [4, 5, 10] (fun s' z' i wr => ((i = .int .i64 0 ∧ s' = .float .f64 0 ∧ z' = .float .f64 0) ∨ (i = .int .i64 1 ∧ s' = .float .f64 s1 ∧ z' = .float .f64 z1) ∨ (i = .int .i64 2 ∧ s' = .float .f64 s ∧ z' = .float .f64 z)) ∧ wr = (w.alloc (.cells #[.float .f64 u0, .float .f64 u1] 62)).alloc (.cells #[.float .f64 v0, .float .f64 v1] 62)) (fun _ _ i _ => 2 - (intOf i).toNat)
 case atStart => exact ⟨Or.inl ⟨rfl, rfl, rfl⟩, rfl⟩
 case round =>
   obtain ⟨hcase, rfl⟩ := hrel
   rcases hcase with ⟨rfl, rfl, rfl⟩ | ⟨rfl, rfl, rfl⟩ | ⟨rfl, rfl, rfl⟩
   · go_wp2_with fail
     refine (HA0.out _).mono ?_
     rintro e wx ⟨rfl, hbx⟩
     subst hbx
     go_wp2
     exact ⟨⟨Or.inr (Or.inl ⟨rfl, rfl, rfl⟩), trivial⟩, by simp [intOf]⟩
   · go_wp2_with fail
     refine (HA1.out _).mono ?_
     rintro e wx ⟨rfl, hbx⟩
     subst hbx
     go_wp2
     exact ⟨⟨Or.inr (Or.inr ⟨rfl, rfl, rfl⟩), trivial⟩, by simp [intOf]⟩
   · go_wp2
     go_ret2
     exact ⟨rfl, ((Below.refl _ w).alloc (Nat.le_refl _) _).alloc (by simp) _⟩
set_option maxRecDepth 100000 in
set_option maxHeartbeats 2000000 in
theorem nearSquare_is (ax ay bx by' x y s z : Nat) (w : World) (h1 : floatBits .sub .f64 bx ax = some x) (h2 : floatBits .sub .f64 by' ay = some y) (h : ProdE x y x y s z) :
   Calls Tryz.prog 26 #[pv ax ay, pv bx by'] w fun e w' => e = .returned (.float .f64 s) ∧ Below w.heap.size w w' := by
 have HB0 : Hid (Below w.heap.size w ((w.alloc (.cells #[.float .f64 ax, .float .f64 ay] 24)).alloc (.cells #[.float .f64 bx, .float .f64 by'] 24))) := ((Below.refl _ w).alloc (Nat.le_refl _) _).alloc (by simp) _
 have HN : Hid (floatBits .sub .f64 bx ax = some x ∧ floatBits .sub .f64 by' ay = some y ∧ ProdE x y x y s z) := ⟨h1, h2, h⟩
 clear h1 h2 h
 go_enter Tryz.func26, Tryz.ntmps26
 go_wp2_with fail
 refine (nearWay_is ax ay bx by' x y _ HN.out.1 HN.out.2.1).mono ?_
 rintro e w1 ⟨rfl, hb1⟩
 have HB1 : Hid (Below w.heap.size w w1) := below_step HB0.out hb1
 clear hb1
 go_wp2_with fail
 refine (nearProduct_is x y x y s z _ HN.out.2.2).mono ?_
 rintro e w2 ⟨rfl, hb2⟩
 have HB2 : Hid (Below w.heap.size w w2) := below_step (HB1.out.alloc HB1.out.size _) hb2
 clear hb2
 go_wp2
 go_ret
 exact ⟨rfl, HB2.out⟩
set_option maxHeartbeats 1000000 in
theorem finite_any (g : Nat) (w : World) (hg : g < 18446744073709551616) :
   Calls Tryz.prog 40 #[.float .f64 g] w fun e w' => (∃ t, e = .returned (.bool t) ∧ (t = true ↔ Fin64 g)) ∧ w' = w := by
 have HA : Hid (∀ w, Calls Tryz.prog 42 #[.float .f64 g] w fun e w' => e = .returned (.float .f64 (frung g)) ∧ w' = w) := fun w => abs_any g w hg
 have hl := leq_word (r := frung g) (c := 9218868437227405311) (by unfold frung; omega) (by omega)
 obtain ⟨t, ht⟩ : ∃ t, decide (frung g ≤ 9218868437227405311) = t := ⟨_, rfl⟩
 have HK : Hid (t = true ↔ Fin64 g) := by
   rw [← ht]
   unfold Fin64
   constructor
   · intro h; have := of_decide_eq_true h; omega
   · intro h; exact decide_eq_true (by omega)
 rw [ht] at hl
 clear ht hg
 generalize frung g = fg at *
 go_enter Tryz.func40, Tryz.ntmps40
 go_wp2_with fail
 refine (HA.out _).mono ?_
 rintro e wx ⟨rfl, hbx⟩
 subst hbx
 go_wp2
 go_ret
 exact ⟨⟨t, rfl, HK.out⟩, rfl⟩
def nm0 (b : Nat) : Nat := if frung b = 0 then 0 else b
theorem nm0_lt {b : Nat} (h : b < 18446744073709551616) : nm0 b < 18446744073709551616 := by unfold nm0; split <;> omega
set_option maxHeartbeats 1000000 in
theorem noMinus0_any (b : Nat) (w : World) :
   Calls Tryz.prog 87 #[.float .f64 b] w fun e w' => e = .returned (.float .f64 (nm0 b)) ∧ w' = w := by
 have h := eql_zero2 b
 unfold nm0
 by_cases hz : frung b = 0
 · rw [decide_eq_true hz] at h
   rw [if_pos hz]
   go_enter Tryz.func87, Tryz.ntmps87
   go_wp2
   go_ret
   exact ⟨rfl, rfl⟩
 · rw [decide_eq_false hz] at h
   rw [if_neg hz]
   go_enter Tryz.func87, Tryz.ntmps87
   go_wp2
   go_ret
   exact ⟨rfl, rfl⟩
theorem has1 (x y : Nat) (w : World) (hx : x < 18446744073709551616) (hy : y < 18446744073709551616) :
   Calls Tryz.prog 25 #[.slice (some ⟨w.heap.size, 0, none⟩) 1 1] (w.alloc (.cells #[.float .f64 x, .float .f64 y] 24)) fun e w' => (∃ t, e = .returned (.bool t) ∧ (t = true ↔ Pt x y)) ∧ Below w.heap.size w w' := by
 have hb : Below w.heap.size w (w.alloc (.cells #[.float .f64 x, .float .f64 y] 24)) := (Below.refl _ w).alloc (Nat.le_refl _) _
 refine (has_walk w.heap.size 1 1 (fun _ => x) (fun _ => y) _ (fun k hk => ?_) (fun k => ⟨hx, hy⟩) (by omega)).mono ?_
 · obtain rfl : k = 0 := by omega
   exact ⟨by go_simp, by go_simp⟩
 · rintro e w' ⟨⟨t, rfl, ht⟩, hb'⟩
   refine ⟨⟨t, rfl, ?_⟩, below_step hb hb'⟩
   rw [ht]
   exact ⟨fun h => h 0 (by omega), fun h j hj => h⟩
theorem has2 (ax ay bx by' : Nat) (w : World) (ha : ax < 18446744073709551616 ∧ ay < 18446744073709551616) (hc : bx < 18446744073709551616 ∧ by' < 18446744073709551616) :
   Calls Tryz.prog 25 #[.slice (some ⟨w.heap.size, 0, none⟩) 2 2] (w.alloc (.cells #[.float .f64 ax, .float .f64 ay, .float .f64 bx, .float .f64 by'] 24)) fun e w' => (∃ t, e = .returned (.bool t) ∧ (t = true ↔ Pt ax ay ∧ Pt bx by')) ∧ Below w.heap.size w w' := by
 have hb : Below w.heap.size w (w.alloc (.cells #[.float .f64 ax, .float .f64 ay, .float .f64 bx, .float .f64 by'] 24)) := (Below.refl _ w).alloc (Nat.le_refl _) _
 refine (has_walk w.heap.size 2 2 (fun k => if k = 0 then ax else bx) (fun k => if k = 0 then ay else by') _ (fun k hk => ?_) (fun k => ?_) (by omega)).mono ?_
 · have : k = 0 ∨ k = 1 := by omega
   rcases this with rfl | rfl <;> exact ⟨by go_simp, by go_simp⟩
 · constructor
   · show (if k = 0 then ax else bx) < _
     split
     · exact ha.1
     · exact hc.1
   · show (if k = 0 then ay else by') < _
     split
     · exact ha.2
     · exact hc.2
 · rintro e w' ⟨⟨t, rfl, ht⟩, hb'⟩
   refine ⟨⟨t, rfl, ?_⟩, below_step hb hb'⟩
   rw [ht]
   exact ⟨fun h => ⟨h 0 (by omega), h 1 (by omega)⟩, fun h j hj => by
     have : j = 0 ∨ j = 1 := by omega
     rcases this with rfl | rfl
     · exact h.1
     · exact h.2⟩
theorem has1' (x y : Nat) (W : World) (k : Nat) (hk : W.heap.size = k) (hx : x < 18446744073709551616) (hy : y < 18446744073709551616) :
   Calls Tryz.prog 25 #[.slice (some ⟨k, 0, none⟩) 1 1] (W.alloc (.cells #[.float .f64 x, .float .f64 y] 24)) fun e w' => (∃ t, e = .returned (.bool t) ∧ (t = true ↔ Pt x y)) ∧ Below W.heap.size W w' := by
 subst hk; exact has1 x y W hx hy
theorem has2' (ax ay bx by' : Nat) (W : World) (k : Nat) (hk : W.heap.size = k) (ha : ax < 18446744073709551616 ∧ ay < 18446744073709551616) (hc : bx < 18446744073709551616 ∧ by' < 18446744073709551616) :
   Calls Tryz.prog 25 #[.slice (some ⟨k, 0, none⟩) 2 2] (W.alloc (.cells #[.float .f64 ax, .float .f64 ay, .float .f64 bx, .float .f64 by'] 24)) fun e w' => (∃ t, e = .returned (.bool t) ∧ (t = true ↔ Pt ax ay ∧ Pt bx by')) ∧ Below W.heap.size W w' := by
 subst hk; exact has2 ax ay bx by' W ha hc
def StR (x y u v : Nat) (t : Bool) : Prop := (t = true ∧ Pt (nm0 x) (nm0 y) ∧ u = nm0 x ∧ v = nm0 y) ∨ (t = false ∧ ¬ Pt (nm0 x) (nm0 y) ∧ u = 0 ∧ v = 0)
set_option maxRecDepth 100000 in
set_option maxHeartbeats 2000000 in
theorem standing_any (x y : Nat) (w : World) (hx : x < 18446744073709551616) (hy : y < 18446744073709551616) :
   Calls Tryz.prog 54 #[.float .f64 x, .float .f64 y] w fun e w' => (∃ u v t, e = .returned (.tuple #[pv u v, .bool t]) ∧ StR x y u v t) ∧ Below w.heap.size w w' := by
 have HX : Hid (∀ w, Calls Tryz.prog 87 #[.float .f64 x] w fun e w' => e = .returned (.float .f64 (nm0 x)) ∧ w' = w) := noMinus0_any x
 have HY : Hid (∀ w, Calls Tryz.prog 87 #[.float .f64 y] w fun e w' => e = .returned (.float .f64 (nm0 y)) ∧ w' = w) := noMinus0_any y
 have HW : Hid (nm0 x < 18446744073709551616 ∧ nm0 y < 18446744073709551616) := ⟨nm0_lt hx, nm0_lt hy⟩
 unfold StR
 generalize nm0 x = x' at *
 generalize nm0 y = y' at *
 clear hx hy
 go_enter Tryz.func54, Tryz.ntmps54
 go_wp2_with fail
 refine (HX.out _).mono ?_
 rintro e wx ⟨rfl, hbx⟩
 subst hbx
 go_wp2_with fail
 refine (HY.out _).mono ?_
 rintro e wx ⟨rfl, hbx⟩
 subst hbx
 go_wp2_with fail
 refine (has1' x' y' _ _ (by simp) HW.out.1 HW.out.2).mono ?_
 rintro e w1 ⟨⟨t, rfl, ht⟩, hb1⟩
 have HC : Hid (CB w1 w.heap.size #[.float .f64 0, .float .f64 0] 24) := CB.later (CB.later (CB.new w _ _) ((Below.refl _ _).alloc (Nat.le_refl _) _)) hb1
 have HB : Hid (Below w.heap.size w w1) := below_step (((Below.refl _ w).alloc (Nat.le_refl _) _).alloc (by simp) _) hb1
 have x0 : w1.cell? ⟨w.heap.size + 1, 0, none⟩ = some (.float .f64 x') := box_cell hb1 (by go_simp)
 have x1 : w1.cell? ⟨w.heap.size + 1, 1, none⟩ = some (.float .f64 y') := box_cell hb1 (by go_simp)
 have HT : Hid (t = true ↔ Pt x' y') := ht
 have f0 := HC.out.frozen 0
 have f1 := HC.out.frozen 1
 have k0 := HC.out.cell 0 (by decide)
 have k1 := HC.out.cell 1 (by decide)
 clear hb1 ht
 cases t
 · go_wp2
   have Y := HC.out.set2 (.float .f64 0) (.float .f64 0)
   have y0 := Y.cell 0 (by simp)
   have y1 := Y.cell 1 (by simp)
   refine bodyPost_ret (v := .tuple #[.agg #[.float .f64 0, .float .f64 0], .bool false]) (by simp [results, Tryz.results54, go_sem, y0, y1]) rfl ?_
   exact ⟨⟨0, 0, false, rfl, Or.inr ⟨rfl, fun h => Bool.noConfusion (HT.out.2 h), rfl, rfl⟩⟩, below_set2 HB.out (Nat.le_refl _) _ _⟩
 · go_wp2
   have Y := HC.out.set2 (.float .f64 x') (.float .f64 y')
   have y0 := Y.cell 0 (by simp)
   have y1 := Y.cell 1 (by simp)
   refine bodyPost_ret (v := .tuple #[.agg #[.float .f64 x', .float .f64 y'], .bool true]) (by simp [results, Tryz.results54, go_sem, y0, y1]) rfl ?_
   exact ⟨⟨x', y', true, rfl, Or.inl ⟨rfl, HT.out.1 (by simp), rfl, rfl⟩⟩, below_set2 HB.out (Nat.le_refl _) _ _⟩
def StepE (t a b x : Nat) : Prop := ∃ d s, floatBits .sub .f64 b a = some d ∧ floatBits .mul .f64 t d = some s ∧ floatBits .add .f64 a s = some x
set_option maxRecDepth 100000 in
set_option maxHeartbeats 2000000 in
theorem along_is (g t a b x : Nat) (w : World) (hg : w.cell? ⟨g, 0, none⟩ = some (.float .f64 t)) (h : StepE t a b x) :
   Calls Tryz.prog 62 #[.float .f64 a, .float .f64 b, .pointer (some ⟨g, 0, none⟩)] w fun e w' => e = .returned (.float .f64 x) ∧ w' = w := by
 obtain ⟨d, s, e1, e2, e3⟩ := h
 have r1 : ∀ w, (binOp .sub 22 (.float .f64 b) (.float .f64 a)).run Tryz.prog w = .ok (.float .f64 d) w := fun w => run_float_arith w .sub _ .f64 _ _ _ e1
 have r2 : ∀ w, (binOp .mul 22 (.float .f64 t) (.float .f64 d)).run Tryz.prog w = .ok (.float .f64 s) w := fun w => run_float_arith w .mul _ .f64 _ _ _ e2
 have r3 : ∀ w, (binOp .add 22 (.float .f64 a) (.float .f64 s)).run Tryz.prog w = .ok (.float .f64 x) w := fun w => run_float_arith w .add _ .f64 _ _ _ e3
 clear e1 e2 e3
 go_enter Tryz.func62, Tryz.ntmps62
 go_wp2
 go_ret
 exact ⟨rfl, rfl⟩
end

/- Circles: nearRow, whole, and which four points may be. -/
section
open Go.RowKit Go.Shelf
attribute [local go_sem ↓] Go.wp_at_zero Go.wp_at_succ
attribute [local go_sem] run_store_float
def P4 (ax ay bx by' cx cy dx dy : Nat) : Prop := P3 ax ay bx by' cx cy ∧ Pt dx dy
def W8 (ax ay bx by' cx cy dx dy : Nat) : Prop := W6 ax ay bx by' cx cy ∧ dx < 18446744073709551616 ∧ dy < 18446744073709551616
def at4 (a b c d k : Nat) : Nat := if k = 0 then a else if k = 1 then b else if k = 2 then c else d
theorem at4_word {a b c d : Nat} (ha : a < 18446744073709551616) (hb : b < 18446744073709551616) (hc : c < 18446744073709551616) (hd : d < 18446744073709551616) (k : Nat) : at4 a b c d k < 18446744073709551616 := by
 unfold at4
 split
 · exact ha
 · split
   · exact hb
   · split
     · exact hc
     · exact hd
theorem four {P : Nat → Prop} (h0 : P 0) (h1 : P 1) (h2 : P 2) (h3 : P 3) : ∀ k, k < 4 → P k := by
 intro k hk
 have : k = 0 ∨ k = 1 ∨ k = 2 ∨ k = 3 := by omega
 rcases this with rfl | rfl | rfl | rfl
 · exact h0
 · exact h1
 · exact h2
 · exact h3
theorem has4 (ax ay bx by' cx cy dx dy : Nat) (w : World) (hw : W8 ax ay bx by' cx cy dx dy) :
   Calls Tryz.prog 25 #[.slice (some ⟨w.heap.size, 0, none⟩) 4 4] (w.alloc (.cells #[.float .f64 ax, .float .f64 ay, .float .f64 bx, .float .f64 by', .float .f64 cx, .float .f64 cy, .float .f64 dx, .float .f64 dy] 24)) fun e w' => (∃ t, e = .returned (.bool t) ∧ (t = true ↔ P4 ax ay bx by' cx cy dx dy)) ∧ Below w.heap.size w w' := by
 have hb : Below w.heap.size w (w.alloc (.cells #[.float .f64 ax, .float .f64 ay, .float .f64 bx, .float .f64 by', .float .f64 cx, .float .f64 cy, .float .f64 dx, .float .f64 dy] 24)) := (Below.refl _ w).alloc (Nat.le_refl _) _
 refine (has_walk w.heap.size 4 4 (at4 ax bx cx dx) (at4 ay by' cy dy) _ (four ⟨by go_simp; rfl, by go_simp; rfl⟩ ⟨by go_simp; rfl, by go_simp; rfl⟩ ⟨by go_simp; rfl, by go_simp; rfl⟩ ⟨by go_simp; rfl, by go_simp; rfl⟩) (fun k => ⟨at4_word hw.1.1.1 hw.1.2.1.1 hw.1.2.2.1 hw.2.1 k, at4_word hw.1.1.2 hw.1.2.1.2 hw.1.2.2.2 hw.2.2 k⟩) (by omega)).mono ?_
 rintro e w' ⟨⟨t, rfl, ht⟩, hb'⟩
 refine ⟨⟨t, rfl, ?_⟩, below_step hb hb'⟩
 rw [ht]
 exact ⟨fun h => ⟨⟨h 0 (by omega), h 1 (by omega), h 2 (by omega)⟩, h 3 (by omega)⟩, fun h => four h.1.1 h.1.2.1 h.1.2.2 h.2⟩
end

/- Circles: Fast. -/
section
open Go.RowKit Go.Shelf
attribute [local go_sem ↓] Go.wp_at_zero Go.wp_at_succ
attribute [local go_sem] run_store_float
structure B4 (w W : World) (ax ay bx by' cx cy dx dy : Nat) : Prop where
 a0 : W.cell? ⟨w.heap.size, 0, none⟩ = some (.float .f64 ax)
 a1 : W.cell? ⟨w.heap.size, 1, none⟩ = some (.float .f64 ay)
 b0 : W.cell? ⟨w.heap.size + 1, 0, none⟩ = some (.float .f64 bx)
 b1 : W.cell? ⟨w.heap.size + 1, 1, none⟩ = some (.float .f64 by')
 c0 : W.cell? ⟨w.heap.size + 1 + 1, 0, none⟩ = some (.float .f64 cx)
 c1 : W.cell? ⟨w.heap.size + 1 + 1, 1, none⟩ = some (.float .f64 cy)
 d0 : W.cell? ⟨w.heap.size + 1 + 1 + 1, 0, none⟩ = some (.float .f64 dx)
 d1 : W.cell? ⟨w.heap.size + 1 + 1 + 1, 1, none⟩ = some (.float .f64 dy)
 bel : Below w.heap.size w W
theorem B4.later {w W W' : World} {ax ay bx by' cx cy dx dy : Nat} (h : B4 w W ax ay bx by' cx cy dx dy) (hb : Below W.heap.size W W') : B4 w W' ax ay bx by' cx cy dx dy :=
 ⟨box_cell hb h.a0, box_cell hb h.a1, box_cell hb h.b0, box_cell hb h.b1, box_cell hb h.c0, box_cell hb h.c1, box_cell hb h.d0, box_cell hb h.d1, below_step h.bel hb⟩
theorem B4.start (w : World) (ax ay bx by' cx cy dx dy : Nat) : B4 w ((((w.alloc (.cells #[.float .f64 ax, .float .f64 ay] 24)).alloc (.cells #[.float .f64 bx, .float .f64 by'] 24)).alloc (.cells #[.float .f64 cx, .float .f64 cy] 24)).alloc (.cells #[.float .f64 dx, .float .f64 dy] 24)) ax ay bx by' cx cy dx dy :=
 ⟨by go_simp, by go_simp, by go_simp, by go_simp, by go_simp, by go_simp, by go_simp, by go_simp, ((((Below.refl _ w).alloc (Nat.le_refl _) _).alloc (by simp) _).alloc (by simp; omega) _).alloc (by simp; omega) _⟩
theorem B4.drew {w W : World} {ax ay bx by' cx cy dx dy : Nat} (h : B4 w W ax ay bx by' cx cy dx dy) : B4 w W.drew ax ay bx by' cx cy dx dy := ⟨h.a0, h.a1, h.b0, h.b1, h.c0, h.c1, h.d0, h.d1, h.bel.drew⟩
theorem has4' (ax ay bx by' cx cy dx dy : Nat) (w : World) (hw : W8 ax ay bx by' cx cy dx dy) :
   Calls Tryz.prog 25 #[.slice (some ⟨w.heap.size + 1 + 1 + 1 + 1, 0, none⟩) 4 4] (((((w.alloc (.cells #[.float .f64 ax, .float .f64 ay] 24)).alloc (.cells #[.float .f64 bx, .float .f64 by'] 24)).alloc (.cells #[.float .f64 cx, .float .f64 cy] 24)).alloc (.cells #[.float .f64 dx, .float .f64 dy] 24)).alloc (.cells #[.float .f64 ax, .float .f64 ay, .float .f64 bx, .float .f64 by', .float .f64 cx, .float .f64 cy, .float .f64 dx, .float .f64 dy] 24)) fun e w' => (∃ t, e = .returned (.bool t) ∧ (t = true ↔ P4 ax ay bx by' cx cy dx dy)) ∧ B4 w w' ax ay bx by' cx cy dx dy := by
 have h := has4 ax ay bx by' cx cy dx dy ((((w.alloc (.cells #[.float .f64 ax, .float .f64 ay] 24)).alloc (.cells #[.float .f64 bx, .float .f64 by'] 24)).alloc (.cells #[.float .f64 cx, .float .f64 cy] 24)).alloc (.cells #[.float .f64 dx, .float .f64 dy] 24)) hw
 have e : ((((w.alloc (.cells #[.float .f64 ax, .float .f64 ay] 24)).alloc (.cells #[.float .f64 bx, .float .f64 by'] 24)).alloc (.cells #[.float .f64 cx, .float .f64 cy] 24)).alloc (.cells #[.float .f64 dx, .float .f64 dy] 24)).heap.size = w.heap.size + 1 + 1 + 1 + 1 := by simp
 have hs := B4.start w ax ay bx by' cx cy dx dy
 generalize ((((w.alloc (.cells #[.float .f64 ax, .float .f64 ay] 24)).alloc (.cells #[.float .f64 bx, .float .f64 by'] 24)).alloc (.cells #[.float .f64 cx, .float .f64 cy] 24)).alloc (.cells #[.float .f64 dx, .float .f64 dy] 24)) = W at *
 rw [← e]
 exact h.mono fun e' w' ⟨h1, h2⟩ => ⟨h1, hs.later h2⟩
theorem TermW.imp {T : Rat} {W W' S S' : Prop} {t p : Nat} (h : TermW T W S t p) (h1 : W' → W) (h2 : S' → S) : TermW T W' S' t p :=
 ⟨h.ft, h.fp, h.et, h.at', h.p0, h.mt, h.mp, h.lt, h.lp, fun k => h.wh (h1 k), fun k => h.sm (h2 k)⟩
def Wh (ax ay bx by' cx cy dx dy : Nat) : Prop := (M 1 (fval ax) ∧ M 1 (fval ay)) ∧ (M 1 (fval bx) ∧ M 1 (fval by')) ∧ (M 1 (fval cx) ∧ M 1 (fval cy)) ∧ M 1 (fval dx) ∧ M 1 (fval dy)
def Sm8 (ax ay bx by' cx cy dx dy : Nat) : Prop := (Sm ax ∧ Sm ay) ∧ (Sm bx ∧ Sm by') ∧ (Sm cx ∧ Sm cy) ∧ Sm dx ∧ Sm dy
theorem Sm.m1 {x : Nat} (h : Sm x) : M 1 (fval x) := by
 obtain ⟨n, e, _⟩ := h
 exact M_one.2 ⟨n, e⟩
theorem Sm8.wh {ax ay bx by' cx cy dx dy : Nat} (h : Sm8 ax ay bx by' cx cy dx dy) : Wh ax ay bx by' cx cy dx dy := ⟨⟨h.1.1.m1, h.1.2.m1⟩, ⟨h.2.1.1.m1, h.2.1.2.m1⟩, ⟨h.2.2.1.1.m1, h.2.2.1.2.m1⟩, h.2.2.2.1.m1, h.2.2.2.2.m1⟩
end
end Go.Proofs.YtocnkgfoffpbfaaGreatDoor
