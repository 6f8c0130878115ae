/- Own texts, put together: Oe Ca Cb Gc Ga Gd Cc Cd Gb Of Og. -/
import Derived.Test.YtocnkgfoffpbfaaGreatDoorQ3
import Derived.Test.YtocnkgfoffpbfaaGreatDoorQ26
import Derived.Test.YtocnkgfoffpbfaaGreatDoorQ32
/- Package orient: Fast. -/
namespace Go.Proofs.YtocnkgfoffpbfaaGreatDoor
open Go.RowKit Go.Shelf
attribute [local go_sem ↓] Go.wp_at_zero Go.wp_at_succ
attribute [local go_sem] run_store_float

abbrev pv (x y : Nat) : Value := .agg #[.float .f64 x, .float .f64 y]
def P3 (ax ay bx by' cx cy : Nat) : Prop := Pt ax ay ∧ Pt bx by' ∧ Pt cx cy
def W6 (ax ay bx by' cx cy : Nat) : Prop := (ax < 18446744073709551616 ∧ ay < 18446744073709551616) ∧ (bx < 18446744073709551616 ∧ by' < 18446744073709551616) ∧ cx < 18446744073709551616 ∧ cy < 18446744073709551616

theorem has3 (ax ay bx by' cx cy : Nat) (w : World) (hw : W6 ax ay bx by' cx cy) :
   Calls Tryz.prog 25 #[.slice (some ⟨w.heap.size, 0, none⟩) 3 3] (w.alloc (.cells #[.float .f64 ax, .float .f64 ay, .float .f64 bx, .float .f64 by', .float .f64 cx, .float .f64 cy] 24)) fun e w' => (∃ t, e = .returned (.bool t) ∧ (t = true ↔ P3 ax ay bx by' cx cy)) ∧ Below w.heap.size w w' := by
 have hb : Below w.heap.size w (w.alloc (.cells #[.float .f64 ax, .float .f64 ay, .float .f64 bx, .float .f64 by', .float .f64 cx, .float .f64 cy] 24)) := (Below.refl _ w).alloc (Nat.le_refl _) _
 refine (has_walk w.heap.size 3 3 (fun k => if k = 0 then ax else if k = 1 then bx else cx) (fun k => if k = 0 then ay else if k = 1 then by' else cy) _ (fun k hk => ?_) (fun k => ?_) (by omega)).mono ?_
 · have : k = 0 ∨ k = 1 ∨ k = 2 := by omega
   rcases this with rfl | rfl | rfl <;> exact ⟨by go_simp, by go_simp⟩
 · constructor
   · show (if k = 0 then ax else if k = 1 then bx else cx) < _
     split
     · exact hw.1.1
     · split
       · exact hw.2.1.1
       · exact hw.2.2.1
   · show (if k = 0 then ay else if k = 1 then by' else cy) < _
     split
     · exact hw.1.2
     · split
       · exact hw.2.1.2
       · exact hw.2.2.2
 · rintro e w' ⟨⟨t, rfl, ht⟩, hb'⟩
   refine ⟨⟨t, rfl, ?_⟩, below_step hb hb'⟩
   rw [ht]
   exact ⟨fun h => ⟨h 0 (by omega), h 1 (by omega), h 2 (by omega)⟩, fun h j hj => by
     have : j = 0 ∨ j = 1 ∨ j = 2 := by omega
     rcases this with rfl | rfl | rfl
     · exact h.1
     · exact h.2.1
     · exact h.2.2⟩

structure B3 (w W : World) (ax ay bx by' cx cy : Nat) : Prop where
 a0 : W.cell? ⟨w.heap.size, 0, none⟩ = some (.float .f64 ax)
 a1 : W.cell? ⟨w.heap.size, 1, none⟩ = some (.float .f64 ay)
 b0 : W.cell? ⟨w.heap.size + 1, 0, none⟩ = some (.float .f64 bx)
 b1 : W.cell? ⟨w.heap.size + 1, 1, none⟩ = some (.float .f64 by')
 c0 : W.cell? ⟨w.heap.size + 1 + 1, 0, none⟩ = some (.float .f64 cx)
 c1 : W.cell? ⟨w.heap.size + 1 + 1, 1, none⟩ = some (.float .f64 cy)
 bel : Below w.heap.size w W
theorem B3.later {w W W' : World} {ax ay bx by' cx cy : Nat} (h : B3 w W ax ay bx by' cx cy) (hb : Below W.heap.size W W') : B3 w W' ax ay bx by' cx cy :=
 ⟨box_cell hb h.a0, box_cell hb h.a1, box_cell hb h.b0, box_cell hb h.b1, box_cell hb h.c0, box_cell hb h.c1, below_step h.bel hb⟩
theorem B3.start (w : World) (ax ay bx by' cx cy : Nat) : B3 w (((w.alloc (.cells #[.float .f64 ax, .float .f64 ay] 24)).alloc (.cells #[.float .f64 bx, .float .f64 by'] 24)).alloc (.cells #[.float .f64 cx, .float .f64 cy] 24)) ax ay bx by' cx cy :=
 ⟨by go_simp, by go_simp, by go_simp, by go_simp, by go_simp, by go_simp, (((Below.refl _ w).alloc (Nat.le_refl _) _).alloc (by simp) _).alloc (by simp; omega) _⟩
theorem has3' (ax ay bx by' cx cy px py qx qy rx ry : Nat) (w : World) (hw : W6 ax ay bx by' cx cy) :
   Calls Tryz.prog 25 #[.slice (some ⟨w.heap.size + 1 + 1 + 1, 0, none⟩) 3 3] ((((w.alloc (.cells #[.float .f64 px, .float .f64 py] 24)).alloc (.cells #[.float .f64 qx, .float .f64 qy] 24)).alloc (.cells #[.float .f64 rx, .float .f64 ry] 24)).alloc (.cells #[.float .f64 ax, .float .f64 ay, .float .f64 bx, .float .f64 by', .float .f64 cx, .float .f64 cy] 24)) fun e w' => (∃ t, e = .returned (.bool t) ∧ (t = true ↔ P3 ax ay bx by' cx cy)) ∧ B3 w w' px py qx qy rx ry := by
 have h := has3 ax ay bx by' cx cy (((w.alloc (.cells #[.float .f64 px, .float .f64 py] 24)).alloc (.cells #[.float .f64 qx, .float .f64 qy] 24)).alloc (.cells #[.float .f64 rx, .float .f64 ry] 24)) hw
 have e : (((w.alloc (.cells #[.float .f64 px, .float .f64 py] 24)).alloc (.cells #[.float .f64 qx, .float .f64 qy] 24)).alloc (.cells #[.float .f64 rx, .float .f64 ry] 24)).heap.size = w.heap.size + 1 + 1 + 1 := by simp
 have hs := B3.start w px py qx qy rx ry
 generalize ((w.alloc (.cells #[.float .f64 px, .float .f64 py] 24)).alloc (.cells #[.float .f64 qx, .float .f64 qy] 24)).alloc (.cells #[.float .f64 rx, .float .f64 ry] 24) = W at *
 rw [← e]
 exact h.mono fun e' w' ⟨h1, h2⟩ => ⟨h1, hs.later h2⟩

def FastR (ax ay bx by' cx cy : Nat) (z : Int) (t : Bool) : Prop :=
 (t = true → P3 ax ay bx by' cx cy ∧ z = sgq (S3 ax ay bx by' cx cy)) ∧ (t = false → z = 0) ∧ (P3 ax ay bx by' cx cy → Sm ax → Sm ay → Sm bx → Sm by' → Sm cx → Sm cy → S3 ax ay bx by' cx cy ≠ 0 → t = true)

set_option maxRecDepth 100000 in
set_option maxHeartbeats 4000000 in
theorem fast_any (ax ay bx by' cx cy : Nat) (w : World) (hw : W6 ax ay bx by' cx cy) :
   Calls Tryz.prog 64 #[pv ax ay, pv bx by', pv cx cy] w fun e w' => (∃ z t, e = .returned (.tuple #[.int .i64 z, .bool t]) ∧ FastR ax ay bx by' cx cy z t) ∧ Below w.heap.size w w' := by
 have HW : Hid (W6 ax ay bx by' cx cy) := hw
 clear hw
 go_enter Tryz.func64, Tryz.ntmps64
 go_wp2_with fail
 refine (has3' ax ay bx by' cx cy ax ay bx by' cx cy w HW.out).mono ?_
 rintro e w1 ⟨⟨t, rfl, ht⟩, hB⟩
 have HB : Hid (Below w.heap.size w w1) := hB.bel
 have HT : Hid (t = true ↔ P3 ax ay bx by' cx cy) := ht
 clear ht
 cases t
 · clear hB
   go_wp2
   go_ret2
   exact ⟨⟨0, false, rfl, fun h => Bool.noConfusion h, fun _ => rfl, fun h => Bool.noConfusion (HT.out.2 h)⟩, HB.out⟩
 · have HP : Hid (P3 ax ay bx by' cx cy) := HT.out.1 rfl
   obtain ⟨u0, u1, u2, u3, u4, u5, _⟩ := hB
   obtain ⟨d1, d2, l, d3, d4, r, s, z, v, e1, e2, el, e3, e4, er, es, ez, ev, wl, wr, ws, fs, hsg, hkn⟩ := fast_words HP.out.1.1 HP.out.1.2 HP.out.2.1.1 HP.out.2.1.2 HP.out.2.2.1 HP.out.2.2.2
   have r1 : ∀ w, (binOp .sub 22 (.float .f64 bx) (.float .f64 ax)).run Tryz.prog w = .ok (.float .f64 d1) w := fun w => run_float_arith w .sub _ .f64 _ _ _ e1
   have r2 : ∀ w, (binOp .sub 22 (.float .f64 cy) (.float .f64 ay)).run Tryz.prog w = .ok (.float .f64 d2) w := fun w => run_float_arith w .sub _ .f64 _ _ _ e2
   have r3 : ∀ w, (binOp .mul 22 (.float .f64 d1) (.float .f64 d2)).run Tryz.prog w = .ok (.float .f64 l) w := fun w => run_float_arith w .mul _ .f64 _ _ _ el
   have r4 : ∀ w, (binOp .sub 22 (.float .f64 by') (.float .f64 ay)).run Tryz.prog w = .ok (.float .f64 d3) w := fun w => run_float_arith w .sub _ .f64 _ _ _ e3
   have r5 : ∀ w, (binOp .sub 22 (.float .f64 cx) (.float .f64 ax)).run Tryz.prog w = .ok (.float .f64 d4) w := fun w => run_float_arith w .sub _ .f64 _ _ _ e4
   have r6 : ∀ w, (binOp .mul 22 (.float .f64 d3) (.float .f64 d4)).run Tryz.prog w = .ok (.float .f64 r) w := fun w => run_float_arith w .mul _ .f64 _ _ _ er
   have r7 : ∀ w, (binOp .sub 22 (.float .f64 l) (.float .f64 r)).run Tryz.prog w = .ok (.float .f64 s) w := fun w => run_float_arith w .sub _ .f64 _ _ _ es
   have r8 : ∀ w, (binOp .add 22 (.float .f64 (frung l)) (.float .f64 (frung r))).run Tryz.prog w = .ok (.float .f64 z) w := fun w => run_float_arith w .add _ .f64 _ _ _ ez
   have r9 : ∀ w, (binOp .mul 22 (.float .f64 4377498837804122112) (.float .f64 z)).run Tryz.prog w = .ok (.float .f64 v) w := fun w => run_float_arith w .mul _ .f64 _ _ _ ev
   have HL : Hid (∀ w, Calls Tryz.prog 42 #[.float .f64 l] w fun e w' => e = .returned (.float .f64 (frung l)) ∧ w' = w) := fun w => abs_any l w wl
   have HR : Hid (∀ w, Calls Tryz.prog 42 #[.float .f64 r] w fun e w' => e = .returned (.float .f64 (frung r)) ∧ w' = w) := fun w => abs_any r w wr
   have HS : Hid (∀ w, Calls Tryz.prog 42 #[.float .f64 s] w fun e w' => e = .returned (.float .f64 (frung s)) ∧ w' = w) := fun w => abs_any s w ws
   have HC : Hid (∀ w, Calls Tryz.prog 67 #[.float .f64 s, .float .f64 0] w fun e w' => e = .returned (.int .i64 (sgq (fval s))) ∧ w' = w) := fun w => compare_zero s w fs
   obtain ⟨tb, htb⟩ : ∃ tb, (FloatKind.f64.format.order (frung s) v == some .lt) = tb := ⟨_, rfl⟩
   have HSG : Hid (tb = false → sgq (fval s) = sgq (S3 ax ay bx by' cx cy)) := by rw [← htb]; exact hsg
   have HKN : Hid (Sm ax → Sm ay → Sm bx → Sm by' → Sm cx → Sm cy → S3 ax ay bx by' cx cy ≠ 0 → tb = false) := by rw [← htb]; exact hkn
   clear e1 e2 el e3 e4 er es ez ev wl wr ws fs hsg hkn HT
   generalize frung l = fl at *
   generalize frung r = fr at *
   generalize frung s = fs at *
   generalize sgq (fval s) = sg at *
   go_wp2_with fail
   refine (HL.out _).mono ?_
   rintro e w2 ⟨rfl, rfl⟩
   go_wp2_with fail
   refine (HR.out _).mono ?_
   rintro e w2 ⟨rfl, rfl⟩
   go_wp2_with fail
   refine (HS.out _).mono ?_
   rintro e w2 ⟨rfl, rfl⟩
   cases tb
   · go_wp2_with fail
     refine (HC.out _).mono ?_
     rintro e w2 ⟨rfl, rfl⟩
     go_wp2
     go_ret2
     exact ⟨⟨sg, true, rfl, fun _ => ⟨HP.out, HSG.out (by simp)⟩, fun h => Bool.noConfusion h, fun _ _ _ _ _ _ _ _ => rfl⟩, HB.out⟩
   · go_wp2
     go_ret2
     exact ⟨⟨0, false, rfl, fun h => Bool.noConfusion h, fun _ => rfl, fun _ a1 a2 a3 a4 a5 a6 a7 => (HKN.out a1 a2 a3 a4 a5 a6 a7).symm⟩, HB.out⟩

end Go.Proofs.YtocnkgfoffpbfaaGreatDoor

/- Circles: what floats tell of a sum of four points: plain facts. -/
namespace Go.Proofs.YtocnkgfoffpbfaaGreatDoor

theorem U1074 : U 1074 = 1 := by unfold U; exact p2_zero
theorem ab_pos' {x : Rat} (h : 0 ≤ x) : ab x = x := by unfold ab; rw [if_neg (by grind)]

theorem sq_err {A B xx yy z : Rat} (h1 : 9223372036854775808 * ab (A - xx) ≤ 3073 * ab xx) (h2 : 9223372036854775808 * ab (B - yy) ≤ 3073 * ab yy) (x0 : 0 ≤ xx) (y0 : 0 ≤ yy) (h3 : 9007199254740992 * ab (xx + yy - z) ≤ ab z) (z0 : 0 ≤ z) :
   9223372036854775808 * ab (A + B - z) ≤ 4098 * z := by
 rw [ab_pos' x0] at h1
 rw [ab_pos' y0] at h2
 rw [ab_pos' z0] at h3
 have t1 : ab (A + B - z) ≤ ab (A - xx) + ab (B - yy) + ab (xx + yy - z) := by
   have a := ab_add (A - xx) (B - yy)
   have b := ab_add (A - xx + (B - yy)) (xx + yy - z)
   rw [show A - xx + (B - yy) + (xx + yy - z) = A + B - z by grind] at b
   grind
 have t2 := (ab_self (xx + yy - z)).1
 generalize ab (A + B - z) = g1 at *
 generalize ab (A - xx) = g2 at *
 generalize ab (B - yy) = g3 at *
 generalize ab (xx + yy - z) = g4 at *
 grind

theorem RN.m1 {q x : Rat} (h : RN q x) (hm : M 1 q) : M 1 x := by
 have := h.mm (t := 1074) (by rw [U1074]; exact hm)
 rwa [U1074] at this
theorem M1.mul {x y : Rat} (h1 : M 1 x) (h2 : M 1 y) : M 1 (x * y) := by
 have := M.mul h1 h2
 rwa [Rat.mul_one] at this
theorem Ex.mult {l : List Rat} {t : Nat} (h : Ex l) (hm : M (U t) l.sum) : ∀ x ∈ l, M (U t) x := by
 induction l with
 | nil => intro x hx; cases hx
 | cons x r ih =>
   obtain ⟨hp, h0⟩ := h
   rw [List.pairwise_cons] at hp
   rw [List.sum_cons] at hm
   have er : Ex r := ⟨hp.2, fun y hy => h0 y (by simp [hy])⟩
   have mx : M (U t) x := by
     by_cases hne : r = []
     · subst hne
       rw [List.sum_nil] at hm
       rwa [show x + 0 = x by grind] at hm
     · obtain ⟨s, h1, h2⟩ := lo_list hp.1 hne
       have mr := M.sum h2
       rcases Nat.le_total t s with e | e
       · have := hm.sub (mr.down e)
         rwa [show x + r.sum - r.sum = x by grind] at this
       · have := (hm.down e).sub mr
         rw [show x + r.sum - r.sum = x by grind] at this
         have := this.ge (U_pos s) (h0 x (by simp))
         grind
   intro y hy
   rcases List.mem_cons.1 hy with rfl | hy
   · exact mx
   · have := hm.sub mx
     rw [show x + r.sum - x = r.sum by grind] at this
     exact ih er this y hy

end Go.Proofs.YtocnkgfoffpbfaaGreatDoor

/- Circles: the floats that Fast reckons. -/
namespace Go.Proofs.YtocnkgfoffpbfaaGreatDoor
open Go.RowKit

theorem RN.nonneg {q x : Rat} {t : Nat} (h : RN q x) (hm : M (U t) q) (hq : 0 ≤ q) : 0 ≤ x := by
 have h := h.rel hm
 have a := ab_self (q - x)
 apply Classical.byContradiction
 intro hn
 have hz' : ab x = -x := by rw [ab, if_pos (by grind)]
 rw [hz'] at h
 grind

structure TermW (T : Rat) (W S : Prop) (t p : Nat) : Prop where
 ft : Fin64 t
 fp : Fin64 p
 et : 9223372036854775808 * ab (T - fval t) ≤ 9224 * fval p
 at' : 1125899906842624 * ab (fval t) ≤ 1125899906842625 * fval p
 p0 : 0 ≤ fval p
 mt : M (U 674) (fval t)
 mp : M (U 674) (fval p)
 lt : ab (fval t) ≤ U 1481
 lp : ab (fval p) ≤ U 1481
 wh : W → (fval p < 9007199254740992 → fval t = T ∧ ab (fval t) ≤ fval p) ∧ M 1 (fval t) ∧ M 1 (fval p)
 sm : S → ab (fval p) ≤ U 1120

theorem low49 : fval 4386506037058863104 = U 1025 := by
 have := fval_rung 973 4503599627370496 (by omega) (Or.inr (by omega)) (by omega)
 have h := U_52 973
 rw [show (4386506037058863104 : Nat) = 973 * 4503599627370496 + 4503599627370496 from rfl, this]
 exact h.symm
theorem F_less49 {z : Rat} {t : Nat} (hz : F z) (hm : M (U t) z) (ht : 104 ≤ t) : F (U 1025 * z) := by
 obtain ⟨S, m, e, m1, m2⟩ := hz
 rcases Nat.lt_or_ge S 49 with h | h
 · have hb : ab z < U t := by
     have hu := U_pos S
     have h1 := F.abs e m1 m2
     have h2 : 9007199254740992 * U S = U (S + 53) := by rw [U_add]; rfl
     have h3 := U_lt_iff.2 (show S + 53 < t by omega)
     exact ab_lt.2 ⟨by grind, by grind⟩
   have z0 : z = 0 := by
     apply Classical.byContradiction
     intro h0
     have := hm.ge (U_pos t) h0
     grind
   rw [z0, Rat.mul_zero]
   exact F_zero
 · refine ⟨S - 49, m, ?_, m1, m2⟩
   have := U_mulX' (s := 1025) (t := S) (r := S - 49) (by omega)
   rw [e, ← this]
   grind

end Go.Proofs.YtocnkgfoffpbfaaGreatDoor

/- Floats at full range: what is too great is infinite; quotients. -/
namespace Go.Proofs.YtocnkgfoffpbfaaGreatDoor

theorem near_word (s : Bool) (m : Nat) (place : Int) : ∃ r, Ieee.double.write (.number s m place) = Ieee.double.word s r ∧ Near ((m : Nat) * p2 place) r := by
 show ∃ r, Ieee.double.nearest s m place = Ieee.double.word s r ∧ _
 by_cases hm : m = 0
 · subst hm
   exact ⟨0, by unfold Ieee.Format.nearest; rw [if_pos rfl], Or.inl ⟨by rw [show ((0 : Nat) : Rat) = 0 from rfl]; grind, rfl⟩⟩
 · exact nearest_near s m place hm

def RW (q : Rat) (b : Nat) : Prop := ∃ r, (0 ≤ q ∧ Near q r ∧ b = r) ∨ (q ≤ 0 ∧ Near (-q) r ∧ b = 9223372036854775808 + r)

theorem near_top {q : Rat} {r : Nat} (h : Near q r) (hr : ¬ r < 9218868437227405312) : 0 < q := by
 have h0 := (near_nonneg h).1
 apply Classical.byContradiction
 intro hq
 have e : q = 0 := by grind
 subst e
 have := near_zero h
 omega

theorem RW.cases {q : Rat} {b : Nat} (h : RW q b) : b < 18446744073709551616 ∧ ((Fin64 b ∧ RV q (fval b)) ∨ (b = 9218868437227405312 ∧ 0 < q) ∨ (b = 18442240474082181120 ∧ q < 0)) := by
 obtain ⟨r, h⟩ := h
 rcases h with ⟨h0, hn, rfl⟩ | ⟨h0, hn, rfl⟩
 · have hr := (near_nonneg hn).2
   rcases Nat.lt_or_ge b 9218868437227405312 with h | h
   · exact ⟨by omega, Or.inl ⟨by unfold Fin64 frung; omega, b, h, Or.inl ⟨h0, hn, rfl⟩⟩⟩
   · exact ⟨by omega, Or.inr (Or.inl ⟨by omega, near_top hn (by omega)⟩)⟩
 · have hr := (near_nonneg hn).2
   rcases Nat.lt_or_ge r 9218868437227405312 with h | h
   · exact ⟨by omega, Or.inl ⟨by unfold Fin64 frung; omega, r, h, Or.inr ⟨h0, hn, fval_word h⟩⟩⟩
   · exact ⟨by omega, Or.inr (Or.inr ⟨by omega, by have := near_top hn (by omega); grind⟩)⟩

theorem write_rw (s : Bool) (m : Nat) (place : Int) : ∃ b, Ieee.double.write (.number s m place) = b ∧ RW (sgn1 s * ((m : Nat) * p2 place)) b := by
 obtain ⟨r, e, hn⟩ := near_word s m place
 have h0 := (near_nonneg hn).1
 refine ⟨_, e, r, ?_⟩
 unfold sgn1
 cases s
 · left
   rw [if_neg (by decide), Rat.one_mul]
   exact ⟨h0, hn, rfl⟩
 · right
   rw [if_pos rfl]
   generalize ((m : Nat) : Rat) * p2 place = z at *
   exact ⟨by grind, by rwa [show -(-1 * z) = z by grind], by rw [Ieee.Format.word, d_sw]; rfl⟩

theorem sum_full (s t : Bool) (m n : Nat) (i j : Int) :
   ∃ r, ((Ieee.Datum.number s m i).sum (Ieee.Datum.number t n j)).map Ieee.double.write = some r ∧ RW (sgn1 s * (((m : Nat) : Rat) * p2 i) + sgn1 t * (((n : Nat) : Rat) * p2 j)) r := by
 unfold Ieee.Datum.sum
 simp only [Option.map_some]
 obtain ⟨base, hbase⟩ : ∃ b : Int, b = min i j := ⟨_, rfl⟩
 rw [← hbase]
 have e1 := signed_p2 s m (i - base).toNat base
 have e2 := signed_p2 t n (j - base).toNat base
 rw [show base + (((i - base).toNat : Nat) : Int) = i by omega] at e1
 rw [show base + (((j - base).toNat : Nat) : Int) = j by omega] at e2
 obtain ⟨total, ht⟩ : ∃ z : Int, z = Ieee.signed s m (i - base).toNat + Ieee.signed t n (j - base).toNat := ⟨_, rfl⟩
 rw [← ht]
 have eq : sgn1 s * ((m : Nat) * p2 i) + sgn1 t * ((n : Nat) * p2 j) = (total : Rat) * p2 base := by
   rw [← e1, ← e2, ht, Rat.intCast_add]; grind
 rw [eq]
 have ha := abs_total total (p2 base)
 have hp := p2_pos base
 obtain ⟨sg, hsg⟩ : ∃ b : Bool, b = (if total = 0 then s && t else decide (total < 0)) := ⟨_, rfl⟩
 rw [← hsg]
 obtain ⟨r, hr, hv⟩ := write_rw sg total.natAbs base
 refine ⟨r, by rw [hr], ?_⟩
 have : sgn1 sg * (((total.natAbs : Nat) : Rat) * p2 base) = (total : Rat) * p2 base := by
   by_cases h0 : total = 0
   · subst h0
     rw [show ((Int.natAbs 0 : Nat) : Rat) = 0 from rfl, show ((0 : Int) : Rat) = 0 from rfl]; grind
   · rw [if_neg h0] at hsg
     rw [ha, hsg]
     unfold sgn1
     by_cases h : total < 0
     · rw [if_pos h, if_pos (by simpa using h)]; grind
     · rw [if_neg h, if_neg (by simpa using h)]; grind
 rwa [this] at hv

theorem add_full {a b : Nat} (ha : Fin64 a) (hb : Fin64 b) : ∃ r, floatBits .add .f64 a b = some r ∧ RW (fval a + fval b) r := by
 show ∃ r, ((Ieee.double.read a).sum (Ieee.double.read b)).map Ieee.double.write = some r ∧ _
 rw [read_fin ha, read_fin hb]
 exact sum_full _ _ _ _ _ _

theorem sub_full {a b : Nat} (ha : Fin64 a) (hb : Fin64 b) : ∃ r, floatBits .sub .f64 a b = some r ∧ RW (fval a - fval b) r := by
 show ∃ r, ((Ieee.double.read a).sum (Ieee.double.read b).opposite).map Ieee.double.write = some r ∧ _
 rw [read_fin ha, read_fin hb]
 have e : fval a - fval b = sgn1 (fneg a) * ((fmag (frung a) : Nat) * p2 (fpl (frung a))) + sgn1 (!fneg b) * ((fmag (frung b) : Nat) * p2 (fpl (frung b))) := by
   rw [fval_eq a, fval_eq b]
   generalize ((fmag (frung b) : Nat) : Rat) * p2 (fpl (frung b)) = z
   cases fneg b <;> simp [sgn1] <;> grind
 rw [e]
 exact sum_full _ _ _ _ _ _

theorem mul_full {a b : Nat} (ha : Fin64 a) (hb : Fin64 b) : ∃ r, floatBits .mul .f64 a b = some r ∧ RW (fval a * fval b) r := by
 show ∃ r, ((Ieee.double.read a).product (Ieee.double.read b)).map Ieee.double.write = some r ∧ _
 rw [read_fin ha, read_fin hb]
 unfold Ieee.Datum.product
 simp only [Option.map_some]
 have e : fval a * fval b = sgn1 (fneg a ^^ fneg b) * (((fmag (frung a) * fmag (frung b) : Nat) : Rat) * p2 (fpl (frung a) + fpl (frung b))) := by
   rw [fval_eq a, fval_eq b, p2_add, Rat.natCast_mul]
   generalize ((fmag (frung a) : Nat) : Rat) = m
   generalize ((fmag (frung b) : Nat) : Rat) = n
   generalize p2 (fpl (frung a)) = u
   generalize p2 (fpl (frung b)) = v
   cases fneg a <;> cases fneg b <;> simp [sgn1] <;> grind
 rw [e]
 obtain ⟨r, hr, h⟩ := write_rw (fneg a ^^ fneg b) (fmag (frung a) * fmag (frung b)) (fpl (frung a) + fpl (frung b))
 exact ⟨r, by rw [hr], h⟩

theorem near_fin {q : Rat} {r : Nat} (h : Near q r) (hq : q < 18014398509481983 * p2 970) : r < 9218868437227405312 := by
 rcases h with ⟨rfl, rfl⟩ | ⟨_, T, k, hl, hh, e⟩
 · omega
 · have hb := kept_bounds hl hh
   have hT : T ≤ 2045 := by
     rcases hl.1 with h | h
     · omega
     · have e1 : ((9007199254740992 : Int) : Rat) * p2 ((T : Int) - 1075) = p2 ((T : Int) - 1022) := by
         rw [show (T : Int) - 1022 = ((T : Int) - 1075) + ((53 : Nat) : Int) by omega, p2_add, p2_nat, Rat.mul_comm]; rfl
       rw [e1] at h
       have e2 : (18014398509481983 : Rat) * p2 970 ≤ p2 1024 := by
         have h1 : p2 1024 = 18014398509481984 * p2 970 := by
           rw [show (1024 : Int) = ((54 : Nat) : Int) + 970 by omega, p2_add, p2_nat]; rfl
         have := p2_pos 970
         rw [h1]
         grind
       have := p2_lt_iff.1 (lt_of_le_lt h (lt_of_lt_le hq e2))
       omega
   rcases Nat.lt_or_ge T 2045 with h | h
   · omega
   · obtain rfl : T = 2045 := by omega
     have s1 := hh.1
     rw [show ((2045 : Nat) : Int) - 1075 = 970 from rfl] at s1
     have s2 : ((2 * (k : Int) - 1 : Int) : Rat) * p2 970 < ((18014398509481983 : Int) : Rat) * p2 970 := lt_of_le_lt s1 hq
     have s3 := int_lt (p2_pos 970) s2
     omega

theorem RW.fin {q : Rat} {b : Nat} (h : RW q b) (hq : ab q < 18014398509481983 * p2 970) : b < 18446744073709551616 ∧ Fin64 b ∧ RV q (fval b) := by
 have hl := ab_lt.1 hq
 obtain ⟨r, h⟩ := h
 rcases h with ⟨h0, hn, rfl⟩ | ⟨h0, hn, rfl⟩
 · have := near_fin hn hl.1
   exact ⟨by omega, by unfold Fin64 frung; omega, b, this, Or.inl ⟨h0, hn, rfl⟩⟩
 · have := near_fin hn hl.2
   exact ⟨by omega, by unfold Fin64 frung; omega, r, this, Or.inr ⟨h0, hn, fval_word this⟩⟩

theorem div_word {a b : Nat} (ha : Fin64 a) (hb : Fin64 b) (h0 : fval b ≠ 0) : ∃ r q, floatBits .quo .f64 a b = some r ∧ RW q r ∧ ab q * ab (fval b) ≤ 2 * ab (fval a) := by
 show ∃ r q, ((Ieee.double.read a).quotient 54 (Ieee.double.read b)).map Ieee.double.write = some r ∧ _
 rw [read_fin ha, read_fin hb]
 have hn0 : fmag (frung b) ≠ 0 := by
   intro h
   apply h0
   rw [fval_eq b, h]
   rw [show ((0 : Nat) : Rat) = 0 from rfl]; grind
 have va : ab (fval a) = ((fmag (frung a) : Nat) : Rat) * p2 (fpl (frung a)) := by
   rw [fval_eq a]
   have h1 : (0 : Rat) ≤ ((fmag (frung a) : Nat) : Rat) * p2 (fpl (frung a)) := Rat.mul_nonneg Rat.natCast_nonneg (Rat.le_of_lt (p2_pos _))
   generalize ((fmag (frung a) : Nat) : Rat) * p2 (fpl (frung a)) = z at *
   unfold sgn1 ab
   cases fneg a <;> simp <;> grind
 have vb : ab (fval b) = ((fmag (frung b) : Nat) : Rat) * p2 (fpl (frung b)) := by
   rw [fval_eq b]
   have h1 : (0 : Rat) ≤ ((fmag (frung b) : Nat) : Rat) * p2 (fpl (frung b)) := Rat.mul_nonneg Rat.natCast_nonneg (Rat.le_of_lt (p2_pos _))
   generalize ((fmag (frung b) : Nat) : Rat) * p2 (fpl (frung b)) = z at *
   unfold sgn1 ab
   cases fneg b <;> simp <;> grind
 rw [va, vb]
 unfold Ieee.Datum.quotient
 simp only [if_neg hn0, Option.map_some]
 generalize hm : fmag (frung a) = m at *
 generalize hn : fmag (frung b) = n at *
 generalize fpl (frung a) = i at *
 generalize fpl (frung b) = j at *
 obtain ⟨more, hmore⟩ : ∃ k, k = 54 + n.log2 - m.log2 := ⟨_, rfl⟩
 rw [← hmore]
 obtain ⟨D, hD⟩ : ∃ D, D = m <<< more := ⟨_, rfl⟩
 rw [← hD]
 obtain ⟨Q, hQ⟩ : ∃ Q, Q = 2 * (D / n) + (D % n != 0).toNat := ⟨_, rfl⟩
 rw [← hQ]
 obtain ⟨r, hr, hrw⟩ := write_rw (fneg a ^^ fneg b) Q (i - j - more - 1)
 refine ⟨r, _, by rw [hr], hrw, ?_⟩
 have hpl := p2_pos (i - j - more - 1)
 have hq0 : (0 : Rat) ≤ ((Q : Nat) : Rat) * p2 (i - j - more - 1) := Rat.mul_nonneg Rat.natCast_nonneg (Rat.le_of_lt hpl)
 have hab : ab (sgn1 (fneg a ^^ fneg b) * (((Q : Nat) : Rat) * p2 (i - j - more - 1))) = ((Q : Nat) : Rat) * p2 (i - j - more - 1) := by
   generalize ((Q : Nat) : Rat) * p2 (i - j - more - 1) = z at *
   unfold sgn1 ab
   cases (fneg a ^^ fneg b) <;> simp <;> grind
 rw [hab]
 have key : Q * n ≤ 4 * D := by
   have h1 := Nat.div_add_mod D n
   have h2 := Nat.mod_lt D (Nat.pos_of_ne_zero hn0)
   rw [Nat.shiftLeft_eq] at hD
   by_cases hz : D % n = 0
   · rw [hz] at hQ
     simp at hQ
     rw [hQ, Nat.mul_assoc, Nat.mul_comm (D / n)]
     omega
   · have hm0 : m ≠ 0 := by
       intro h; subst h; simp at hD; subst hD; simp at hz
     have l1 : 2 ^ m.log2 ≤ m := Nat.log2_self_le hm0
     have l2 : n < 2 ^ (n.log2 + 1) := Nat.lt_log2_self
     have l3 : 2 ^ (n.log2 + 1) ≤ 2 ^ (m.log2 + more) := Nat.pow_le_pow_right (by omega) (by omega)
     rw [Nat.pow_add 2 m.log2 more] at l3
     have l4 : 2 ^ m.log2 * 2 ^ more ≤ m * 2 ^ more := Nat.mul_le_mul_right _ l1
     have l5 : n ≤ D := by omega
     have hQ2 : Q ≤ 2 * (D / n) + 1 := by
       rw [hQ]
       have : (D % n != 0).toNat ≤ 1 := by cases (D % n != 0) <;> decide
       omega
     have l6 : Q * n ≤ (2 * (D / n) + 1) * n := Nat.mul_le_mul_right _ hQ2
     rw [Nat.add_mul, Nat.mul_assoc, Nat.mul_comm (D / n), Nat.one_mul] at l6
     omega
 have k2 : ((Q : Nat) : Rat) * ((n : Nat) : Rat) ≤ 4 * (((m : Nat) : Rat) * ((2 ^ more : Nat) : Rat)) := by
   have := Rat.natCast_le_natCast.2 key
   rw [hD, Nat.shiftLeft_eq, Rat.natCast_mul, Rat.natCast_mul, Rat.natCast_mul] at this
   exact this
 have k3 : p2 i * 2 = ((2 ^ more : Nat) : Rat) * (p2 (i - j - more - 1) * p2 j) * 4 := by
   rw [← p2_nat, ← p2_add, ← p2_add]
   have : p2 i = p2 ((more : Int) + (i - j - more - 1 + j)) * 2 := by
     rw [← p2_one, ← p2_add]
     congr 1
     omega
   rw [this]
   grind
 have hj := p2_pos j
 have k4 := Rat.mul_le_mul_of_nonneg_right k2 (Rat.le_of_lt (Rat.mul_pos hpl hj))
 have g1 : ((Q : Nat) : Rat) * p2 (i - j - more - 1) * (((n : Nat) : Rat) * p2 j) = ((Q : Nat) : Rat) * ((n : Nat) : Rat) * (p2 (i - j - more - 1) * p2 j) := by grind
 have g2 : 4 * (((m : Nat) : Rat) * ((2 ^ more : Nat) : Rat)) * (p2 (i - j - more - 1) * p2 j) = ((m : Nat) : Rat) * (((2 ^ more : Nat) : Rat) * (p2 (i - j - more - 1) * p2 j) * 4) := by grind
 rw [g2, ← k3] at k4
 rw [g1]
 grind

theorem half_word {a : Nat} (ha : Fin64 a) : ∃ r, floatBits .quo .f64 a 4611686018427387904 = some r ∧ RW (fval a * p2 (-1)) r := by
 show ∃ r, ((Ieee.double.read a).quotient 54 (Ieee.double.read 4611686018427387904)).map Ieee.double.write = some r ∧ _
 rw [read_fin ha, show Ieee.double.read 4611686018427387904 = .number false 4503599627370496 (-51) by decide]
 unfold Ieee.Datum.quotient
 simp only [if_neg (show ¬ (4503599627370496 : Nat) = 0 by decide), Option.map_some]
 have el : Nat.log2 4503599627370496 = 52 := by decide
 rw [el, fval_eq a]
 have hm := fmag_lt (frung a)
 generalize fmag (frung a) = m at *
 generalize fpl (frung a) = i at *
 have hlog : m.log2 ≤ 52 := by
   rcases Nat.eq_zero_or_pos m with h | h
   · subst h; decide
   · have := (Nat.log2_lt (by omega : m ≠ 0)).2 (show m < 2 ^ 53 by omega)
     omega
 obtain ⟨k, hk⟩ : ∃ k, 54 + 52 - m.log2 = 52 + k := ⟨54 - m.log2, by omega⟩
 rw [hk]
 have eD : m <<< (52 + k) = m * 2 ^ k * 4503599627370496 := by
   rw [Nat.shiftLeft_eq, Nat.pow_add, show 2 ^ 52 = 4503599627370496 by decide, Nat.mul_assoc, Nat.mul_comm (2 ^ k)]
 rw [eD, Nat.mul_div_cancel _ (by decide : 0 < 4503599627370496), Nat.mul_mod_left]
 simp only [bne_self_eq_false, Bool.toNat_false, Nat.add_zero]
 obtain ⟨r, hr, h⟩ := write_rw (fneg a ^^ false) (2 * (m * 2 ^ k)) (i - -51 - ((52 + k : Nat) : Int) - 1)
 refine ⟨r, by rw [hr], ?_⟩
 have e : sgn1 (fneg a ^^ false) * (((2 * (m * 2 ^ k) : Nat) : Rat) * p2 (i - -51 - ((52 + k : Nat) : Int) - 1)) = sgn1 (fneg a) * ((m : Nat) * p2 i) * p2 (-1) := by
   rw [Bool.xor_false, Rat.natCast_mul, Rat.natCast_mul, ← p2_nat]
   have : p2 i * p2 (-1) = 2 * (p2 (k : Int) * p2 (i - -51 - ((52 + k : Nat) : Int) - 1)) := by
     rw [← p2_add, ← p2_add, ← p2_one, ← p2_add]
     congr 1
     omega
   rw [show ((2 : Nat) : Rat) = 2 from rfl]
   have h2 : sgn1 (fneg a) * ((m : Nat) * p2 i) * p2 (-1) = sgn1 (fneg a) * ((m : Nat) * (p2 i * p2 (-1))) := by grind
   rw [h2, this]
   grind
 rwa [e] at h

end Go.Proofs.YtocnkgfoffpbfaaGreatDoor

/- Lengths, angles, middles: plain facts. -/
namespace Go.Proofs.YtocnkgfoffpbfaaGreatDoor

def dotR (ax ay bx by' px py : Rat) : Rat := (ax - px) * (bx - px) + (ay - py) * (by' - py)
def lenR (ax ay bx by' : Rat) : Rat := (bx - ax) * (bx - ax) + (by' - ay) * (by' - ay)
def turnR (ax ay bx by' cx cy : Rat) : Rat := (bx - ax) * (cy - ay) - (by' - ay) * (cx - ax)

theorem sq_nonneg (x : Rat) : 0 ≤ x * x := by
 rcases (by grind : 0 ≤ x ∨ x ≤ 0) with h | h
 · exact Rat.mul_nonneg h h
 · have := Rat.mul_nonneg (show 0 ≤ -x by grind) (show 0 ≤ -x by grind)
   rwa [show -x * -x = x * x by grind] at this
theorem sq_zero {x : Rat} (h : x * x = 0) : x = 0 := by
 rcases Rat.mul_eq_zero.1 h with h | h <;> exact h
theorem sq_sum_pos {x y : Rat} (h : ¬ (x = 0 ∧ y = 0)) : 0 < x * x + y * y := by
 have a := sq_nonneg x
 have b := sq_nonneg y
 apply Classical.byContradiction
 intro hn
 exact h ⟨sq_zero (by grind), sq_zero (by grind)⟩

theorem three_int : ∀ (n : Nat) (a b : Int), a.natAbs = n → a * a = 3 * (b * b) → a = 0 := by
 intro n
 induction n using Nat.strongRecOn with
 | ind n ih =>
   intro a b ha h
   apply Classical.byContradiction
   intro h0
   have m3 : a % 3 = 0 := by
     have : a * a % 3 = 0 := by rw [h]; omega
     have c : a % 3 = 0 ∨ a % 3 = 1 ∨ a % 3 = 2 := by omega
     rcases c with c | c | c
     · exact c
     · rw [Int.mul_emod, c] at this; omega
     · rw [Int.mul_emod, c] at this; omega
   obtain ⟨c, rfl⟩ : ∃ c, a = 3 * c := ⟨a / 3, by omega⟩
   have h2 : b * b = 3 * (c * c) := by
     have : 3 * c * (3 * c) = 9 * (c * c) := by grind
     omega
   have m4 : b % 3 = 0 := by
     have : b * b % 3 = 0 := by rw [h2]; omega
     have e : b % 3 = 0 ∨ b % 3 = 1 ∨ b % 3 = 2 := by omega
     rcases e with e | e | e
     · exact e
     · rw [Int.mul_emod, e] at this; omega
     · rw [Int.mul_emod, e] at this; omega
   obtain ⟨d, rfl⟩ : ∃ d, b = 3 * d := ⟨b / 3, by omega⟩
   have h3 : c * c = 3 * (d * d) := by
     have : 3 * d * (3 * d) = 9 * (d * d) := by grind
     omega
   have := ih c.natAbs (by omega) c d rfl h3
   omega
theorem mul_den (x : Rat) : x * ((x.den : Nat) : Rat) = (x.num : Rat) := by
 rw [Rat.mul_def']
 show mkRat (x.num * ((x.den : Nat) : Int)) (x.den * 1) = _
 have e : mkRat (x.num * ((x.den : Nat) : Int)) (1 * x.den) = mkRat x.num 1 := Rat.mkRat_mul_right x.den_nz
 rw [Nat.one_mul] at e
 rw [Nat.mul_one, e, Rat.mkRat_eq_div]
 have k := Rat.div_mul_cancel (a := (x.num : Rat)) (b := ((1 : Nat) : Rat)) (by decide)
 rwa [show ((1 : Nat) : Rat) = 1 from rfl, Rat.mul_one] at k
theorem three_rat {x y : Rat} (h : x * x = 3 * (y * y)) : x = 0 := by
 have ex := mul_den x
 have ey := mul_den y
 have key : ((x.num * (y.den : Int) * (x.num * (y.den : Int)) : Int) : Rat) = ((3 * (y.num * (x.den : Int) * (y.num * (x.den : Int))) : Int) : Rat) := by
   rw [Rat.intCast_mul, Rat.intCast_mul, Rat.intCast_mul, Rat.intCast_mul, Rat.intCast_mul, ← ex, ← ey]
   show x * ((x.den : Nat) : Rat) * ((y.den : Nat) : Rat) * (x * ((x.den : Nat) : Rat) * ((y.den : Nat) : Rat)) = 3 * (y * ((y.den : Nat) : Rat) * ((x.den : Nat) : Rat) * (y * ((y.den : Nat) : Rat) * ((x.den : Nat) : Rat)))
   have : x * ((x.den : Nat) : Rat) * ((y.den : Nat) : Rat) * (x * ((x.den : Nat) : Rat) * ((y.den : Nat) : Rat)) = x * x * (((x.den : Nat) : Rat) * ((y.den : Nat) : Rat) * (((x.den : Nat) : Rat) * ((y.den : Nat) : Rat))) := by grind
   rw [this, h]
   grind
 have h2 := Rat.intCast_inj.1 key
 have h3 := three_int _ _ _ rfl h2
 have h4 : x.num = 0 := by
   rcases Int.mul_eq_zero.1 h3 with h | h
   · exact h
   · have := y.den_nz; omega
 exact Rat.num_eq_zero.1 h4

theorem sharp_side {al be ga : Rat} (h1 : 0 < al) (h2 : al ≤ be) (h3 : al ≤ ga) (hne : ¬ (be = al ∧ ga = al)) : be * ga < (be + ga - al) * (be + ga - al) ∧ 0 < be + ga - al := by
 obtain ⟨s, hs⟩ : ∃ s, be = al + s := ⟨be - al, by grind⟩
 obtain ⟨t, ht⟩ : ∃ t, ga = al + t := ⟨ga - al, by grind⟩
 subst hs ht
 have s0 : 0 ≤ s := by grind
 have t0 : 0 ≤ t := by grind
 have a1 := Rat.mul_nonneg s0 t0
 have a2 := sq_nonneg s
 have a3 := sq_nonneg t
 have e : (al + s + (al + t) - al) * (al + s + (al + t) - al) - (al + s) * (al + t) = al * (s + t) + s * s + t * t + s * t := by grind
 have p : 0 < al * (s + t) := by
   refine Rat.mul_pos h1 ?_
   apply Classical.byContradiction
   intro hn
   exact hne ⟨by grind, by grind⟩
 exact ⟨by grind, by grind⟩

theorem dots {ax ay bx by' cx cy : Rat} (h : turnR ax ay bx by' cx cy ≠ 0) : 0 < lenR ax ay bx by' ∧ 0 < lenR ax ay cx cy ∧ 0 < lenR bx by' cx cy ∧
   dotR bx by' cx cy ax ay + dotR ax ay cx cy bx by' = lenR ax ay bx by' ∧ dotR bx by' cx cy ax ay + dotR ax ay bx by' cx cy = lenR ax ay cx cy ∧ dotR ax ay cx cy bx by' + dotR ax ay bx by' cx cy = lenR bx by' cx cy := by
 refine ⟨sq_sum_pos (fun e => h ?_), sq_sum_pos (fun e => h ?_), sq_sum_pos (fun e => h ?_), by unfold dotR lenR; grind, by unfold dotR lenR; grind, by unfold dotR lenR; grind⟩
 · unfold turnR; rw [e.1, e.2]; grind
 · unfold turnR; rw [e.1, e.2]; grind
 · unfold turnR
   have e1 : cx = bx := by grind
   have e2 : cy = by' := by grind
   rw [e1, e2]; grind

theorem two_sharp {ax ay bx by' cx cy : Rat} (h : turnR ax ay bx by' cx cy ≠ 0) :
   (0 < dotR bx by' cx cy ax ay ∧ 0 < dotR ax ay cx cy bx by') ∨ (0 < dotR bx by' cx cy ax ay ∧ 0 < dotR ax ay bx by' cx cy) ∨ (0 < dotR ax ay cx cy bx by' ∧ 0 < dotR ax ay bx by' cx cy) := by
 obtain ⟨h1, h2, h3, e1, e2, e3⟩ := dots h
 grind

def Sh (d p q : Rat) : Prop := 0 < d ∧ p * q < 4 * (d * d)
theorem one_sharp {ax ay bx by' cx cy : Rat} (h : turnR ax ay bx by' cx cy ≠ 0) :
   Sh (dotR bx by' cx cy ax ay) (lenR ax ay bx by') (lenR ax ay cx cy) ∨ Sh (dotR ax ay cx cy bx by') (lenR ax ay bx by') (lenR bx by' cx cy) ∨ Sh (dotR ax ay bx by' cx cy) (lenR ax ay cx cy) (lenR bx by' cx cy) := by
 obtain ⟨h1, h2, h3, e1, e2, e3⟩ := dots h
 -- no triangle of alike sides
 have hne : ¬ (lenR ax ay bx by' = lenR ax ay cx cy ∧ lenR ax ay cx cy = lenR bx by' cx cy) := by
   rintro ⟨k1, k2⟩
   have eA : dotR bx by' cx cy ax ay * 2 = lenR ax ay bx by' := by grind
   have id : turnR ax ay bx by' cx cy * turnR ax ay bx by' cx cy + dotR bx by' cx cy ax ay * dotR bx by' cx cy ax ay = lenR ax ay bx by' * lenR ax ay cx cy := by
     unfold turnR dotR lenR; grind
   rw [← k1] at id
   have : 2 * turnR ax ay bx by' cx cy * (2 * turnR ax ay bx by' cx cy) = 3 * (lenR ax ay bx by' * lenR ax ay bx by') := by
     have k : 4 * (dotR bx by' cx cy ax ay * dotR bx by' cx cy ax ay) = lenR ax ay bx by' * lenR ax ay bx by' := by rw [← eA]; grind
     grind
   have := three_rat this
   exact h (by grind)
 generalize lenR ax ay bx by' = ga at *
 generalize lenR ax ay cx cy = be at *
 generalize lenR bx by' cx cy = al at *
 generalize dotR bx by' cx cy ax ay = A at *
 generalize dotR ax ay cx cy bx by' = B at *
 generalize dotR ax ay bx by' cx cy = C at *
 have q4 : ∀ d s : Rat, d * 2 = s → 4 * (d * d) = s * s := fun d s e => by rw [← e]; grind
 have cases3 : (al ≤ be ∧ al ≤ ga) ∨ (be ≤ al ∧ be ≤ ga) ∨ (ga ≤ al ∧ ga ≤ be) := by grind
 rcases cases3 with ⟨c1, c2⟩ | ⟨c1, c2⟩ | ⟨c1, c2⟩
 · left
   obtain ⟨s1, s2⟩ := sharp_side h3 c1 c2 (fun e => hne ⟨by grind, by grind⟩)
   have := q4 A (be + ga - al) (by grind)
   exact ⟨by grind, by rw [this]; grind⟩
 · right; left
   obtain ⟨s1, s2⟩ := sharp_side h2 c1 c2 (fun e => hne ⟨by grind, by grind⟩)
   have := q4 B (al + ga - be) (by grind)
   exact ⟨by grind, by rw [this]; grind⟩
 · right; right
   obtain ⟨s1, s2⟩ := sharp_side h1 c1 c2 (fun e => hne ⟨by grind, by grind⟩)
   have := q4 C (al + be - ga) (by grind)
   exact ⟨by grind, by rw [this]; grind⟩

def midX (ax ay bx by' cx cy : Rat) : Rat := (cy - ay) * lenR ax ay bx by' - (by' - ay) * lenR ax ay cx cy + 2 * turnR ax ay bx by' cx cy * ax
def midY (ax ay bx by' cx cy : Rat) : Rat := (bx - ax) * lenR ax ay cx cy - (cx - ax) * lenR ax ay bx by' + 2 * turnR ax ay bx by' cx cy * ay
end Go.Proofs.YtocnkgfoffpbfaaGreatDoor

/- Lengths and angles in floats: what is rounded off. -/
namespace Go.Proofs.YtocnkgfoffpbfaaGreatDoor

theorem RN.rel2 {q x : Rat} (h : RN q x) : 9007199254740992 * ab (q - x) ≤ ab x + U 52 := by
 obtain ⟨T, k, R⟩ := h
 have hu := U_pos T
 have h1 := R.h1
 have h2 := R.h2
 have hx := R.hx
 have hd : 2 * ab (q - x) ≤ U T := by
   have : ab (q - x) ≤ U T / 2 := ab_le.2 ⟨by grind, by grind⟩
   grind
 have h52 := U_52 0
 have a0 := ab_nonneg x
 have hk : 4503599627370496 * U T ≤ ab x + U 52 := by
   rcases R.h3 with h | h | h
   · subst h
     rw [show (52 : Nat) = 0 + 52 from rfl, h52]; grind
   · have h5 := U_pos 52
     have : (4503599627370495 : Int) < k := by
       apply cast_lt hu
       rw [← hx, show ((4503599627370495 : Int) : Rat) = 4503599627370495 from rfl]
       grind
     have h3 : (4503599627370496 : Int) ≤ k := by omega
     have h4 : ((4503599627370496 : Int) : Rat) * U T ≤ (k : Rat) * U T := Rat.mul_le_mul_of_nonneg_right (Rat.intCast_le_intCast.2 h3) (Rat.le_of_lt hu)
     rw [← hx, show ((4503599627370496 : Int) : Rat) = 4503599627370496 from rfl] at h4
     have := le_ab.2 (Or.inl h4)
     grind
   · have h5 := U_pos 52
     have : k < (-4503599627370495 : Int) := by
       apply cast_lt hu
       rw [← hx, show ((-4503599627370495 : Int) : Rat) = -4503599627370495 from rfl]
       grind
     have h3 : k ≤ (-4503599627370496 : Int) := by omega
     have h4 : (k : Rat) * U T ≤ ((-4503599627370496 : Int) : Rat) * U T := Rat.mul_le_mul_of_nonneg_right (Rat.intCast_le_intCast.2 h3) (Rat.le_of_lt hu)
     rw [← hx, show ((-4503599627370496 : Int) : Rat) = -4503599627370496 from rfl] at h4
     have := le_ab.2 (Or.inr (by grind : 4503599627370496 * U T ≤ -x))
     grind
 grind

structure WayW (p : Rat) (d : Nat) : Prop where
 f : Fin64 d
 w : d < 18446744073709551616
 r : RN p (fval d)
 m : M (U 974) p
 l : ab p ≤ U 1175

theorem way_word {a b : Nat} (ha : Crd a) (hb : Crd b) : ∃ d, floatBits .sub .f64 b a = some d ∧ WayW (fval b - fval a) d := by
 obtain ⟨d, e, f, l, r, m, b⟩ := diff_word ha hb
 exact ⟨d, e, f, l, r, m, b⟩
theorem WayW.flip {p : Rat} {d : Nat} (h : WayW p d) : WayW (-p) (fflip d) :=
 ⟨by have := frung_flip h.w; unfold Fin64; rw [this]; exact h.f, flip_lt h.w, by
   rw [fval_flip h.w h.f]
   obtain ⟨T, k, R⟩ := h.r
   exact ⟨T, -k, R.neg⟩, h.m.neg, by rw [ab_neg]; exact h.l⟩

def ProdE (u0 u1 v0 v1 s z : Nat) : Prop := ∃ l0 l1 s1 z1, floatBits .mul .f64 u0 v0 = some l0 ∧ floatBits .mul .f64 u1 v1 = some l1 ∧ floatBits .add .f64 0 l0 = some s1 ∧ floatBits .add .f64 0 (frung l0) = some z1 ∧ floatBits .add .f64 s1 l1 = some s ∧ floatBits .add .f64 z1 (frung l1) = some z ∧ l0 < 18446744073709551616 ∧ l1 < 18446744073709551616

structure ProdW (P : Rat) (s z : Nat) : Prop where
 fs : Fin64 s
 fz : Fin64 z
 ws : s < 18446744073709551616
 wz : z < 18446744073709551616
 err : 9223372036854775808 * ab (P - fval s) ≤ 4098 * fval z
 z0 : 0 ≤ fval z
 le : 1125899906842624 * ab (fval s) ≤ 1125899906842625 * fval z
 ms : M (U 874) (fval s)
 mz : M (U 874) (fval z)
 ls : ab (fval s) ≤ U 1277
 lz : ab (fval z) ≤ U 1277

theorem add_zero_word {l : Nat} (fl : Fin64 l) (hl : ab (fval l) ≤ U 1276) : ∃ s, floatBits .add .f64 0 l = some s ∧ Fin64 s ∧ fval s = fval l := by
 have e0 : fval 0 + fval l = fval l := by rw [fval0]; grind
 obtain ⟨s, e, f, _, r⟩ := add_bits fin0 fl (by rw [e0]; exact lim_U hl (by omega))
 rw [e0] at r
 exact ⟨s, e, f, r.rn.exact (word_F fl)⟩

theorem sum_le {A B l r s z : Rat} (h1 : 9223372036854775808 * ab (A - l) ≤ 3073 * ab l) (h2 : 9223372036854775808 * ab (B - r) ≤ 3073 * ab r) (h3 : 9007199254740992 * ab (l + r - s) ≤ ab s) (h4 : 9007199254740992 * ab (ab l + ab r - z) ≤ ab z) (z0 : 0 ≤ z) :
   9223372036854775808 * ab (A + B - s) ≤ 4098 * z ∧ 1125899906842624 * ab s ≤ 1125899906842625 * z := by
 rw [ab_pos' z0] at h4
 have t1 : ab (A + B - s) ≤ ab (A - l) + ab (B - r) + ab (l + r - s) := by
   have a := ab_add (A - l) (B - r)
   have b := ab_add (A - l + (B - r)) (l + r - s)
   rw [show A - l + (B - r) + (l + r - s) = A + B - s by grind] at b
   grind
 have t2 : ab s ≤ ab (l + r) + ab (l + r - s) := by
   have := ab_sub (l + r) (l + r - s)
   rwa [show l + r - (l + r - s) = s by grind] at this
 have t3 := ab_add l r
 have t4 := (ab_self (ab l + ab r - z)).1
 have a0 := ab_nonneg l
 have b0 := ab_nonneg r
 have g0 := ab_nonneg (ab l + ab r - z)
 generalize ab (A + B - s) = g1 at *
 generalize ab (A - l) = g2 at *
 generalize ab (B - r) = g3 at *
 generalize ab (l + r - s) = g4 at *
 generalize ab (ab l + ab r - z) = g5 at *
 generalize ab (l + r) = g6 at *
 generalize ab l = g7 at *
 generalize ab r = g8 at *
 generalize ab s = g9 at *
 constructor <;> grind

theorem prod2_word {p0 p1 q0 q1 : Rat} {u0 u1 v0 v1 : Nat} (h1 : WayW p0 u0) (h2 : WayW p1 u1) (h3 : WayW q0 v0) (h4 : WayW q1 v1) :
   ∃ s z, ProdE u0 u1 v0 v1 s z ∧ ProdW (p0 * q0 + p1 * q1) s z ∧ (p0 * q0 = p0 * p0 → p1 * q1 = p1 * p1 → u0 = v0 → u1 = v1 → 0 ≤ fval s ∧ 9223372036854775808 * ab (p0 * p0 + p1 * p1 - fval s) ≤ 4098 * fval s) := by
 obtain ⟨l0, e0, f0, w0, n0, m0, b0, k0⟩ := prod_word h1.f h3.f h1.r h3.r h1.m h3.m h1.l h3.l
 obtain ⟨l1, e1, f1, w1, n1, m1, b1, k1⟩ := prod_word h2.f h4.f h2.r h4.r h2.m h4.m h2.l h4.l
 obtain ⟨s1, es1, fs1, vs1⟩ := add_zero_word f0 b0
 have va := ab_fval l0 f0
 have vb := ab_fval l1 f1
 have aa : ∀ x : Rat, ab (ab x) = ab x := fun x => ab_pos' (ab_nonneg x)
 obtain ⟨z1, ez1, fz1, vz1⟩ := add_zero_word (l := frung l0) (fin_small f0) (by rw [va, aa]; exact b0)
 rw [va] at vz1
 have bs : ab (fval s1 + fval l1) ≤ U 1277 := by
   have := ab_add (fval s1) (fval l1)
   have h := U_two' 1276
   rw [vs1] at this ⊢
   grind
 have bz : ab (fval z1 + fval (frung l1)) ≤ U 1277 := by
   rw [vz1, vb]
   have h := U_two' 1276
   have a := ab_nonneg (fval l0)
   have b := ab_nonneg (fval l1)
   rw [ab_pos' (by grind)]
   grind
 obtain ⟨s, es, fs, ws, rs⟩ := add_bits fs1 f1 (lim_U bs (by omega))
 obtain ⟨z, ez, fz, wz, rz⟩ := add_bits fz1 (fin_small f1 : Fin64 (frung l1)) (lim_U bz (by omega))
 have lz := rz.rn.le bz
 have ls := rs.rn.le bs
 rw [vs1] at rs
 rw [vz1, vb] at rz
 have mz : M (U 874) (ab (fval l0) + ab (fval l1)) := m0.ab.add m1.ab
 have ms : M (U 874) (fval l0 + fval l1) := m0.add m1
 have z0 := rz.rn.nonneg mz (by have a := ab_nonneg (fval l0); have b := ab_nonneg (fval l1); grind)
 obtain ⟨E1, E2⟩ := sum_le k0 k1 (rs.rn.rel ms) (rz.rn.rel mz) z0
 refine ⟨s, z, ⟨l0, l1, s1, z1, e0, e1, es1, ez1, es, ez, w0, w1⟩, ⟨fs, fz, ws, wz, E1, z0, E2, rs.rn.mm ms, rz.rn.mm mz, ls, lz⟩, ?_⟩
 intro c1 c2 d1 d2
 subst d1 d2
 have sqn : ∀ {Z z : Rat}, RN Z z → M (U 974) Z → M (U 874) (z * z) := fun r m => by
   have h := r.mm m
   have := h.mul h
   rwa [U_mulX' (s := 974) (t := 974) (r := 874) (by omega)] at this
 have x0 := n0.nonneg (sqn h1.r h1.m) (sq_nonneg _)
 have y0 := n1.nonneg (sqn h2.r h2.m) (sq_nonneg _)
 have q0 := rs.rn.nonneg ms (by grind)
 rw [c1] at k0
 rw [c2] at k1
 exact ⟨q0, sq_err k0 k1 x0 y0 (rs.rn.rel ms) q0⟩

theorem tell {E x z : Rat} (h : 9223372036854775808 * ab (E - x) ≤ 16384 * z) (hc : U 1025 * z < ab x) : sgq x = sgq E := by
 have hu : U 1123 * U 1025 = 1 := by
   rw [U_mulX' (s := 1123) (t := 1025) (r := 1074) (by omega)]; exact U1074
 have hu2 : U 1123 = 562949953421312 := by
   have := U_add 1074 49
   rw [U1074] at this
   rw [show (1123 : Nat) = 1074 + 49 from rfl, this]
   show ((562949953421312 : Nat) : Rat) * 1 = _
   rw [Rat.mul_one]; rfl
 have h5 : z < 562949953421312 * ab x := by
   have := Rat.mul_lt_mul_of_pos_left hc (U_pos 1123)
   rw [← Rat.mul_assoc, hu, Rat.one_mul, hu2] at this
   exact this
 have k : ab (E - x) < ab x := by grind
 have a := ab_self (E - x)
 apply sgq_three
 unfold ab at k
 split at k <;> split at k <;> grind

theorem tell_word {x z : Nat} (fx : Fin64 x) (fz : Fin64 z) (hz : 0 ≤ fval z) : ∃ v, floatBits .mul .f64 4386506037058863104 z = some v ∧ Fin64 v ∧ v < 18446744073709551616 ∧ ((∃ t, 104 ≤ t ∧ M (U t) (fval z)) → (FloatKind.f64.format.order (frung x) v == some .gt) = decide (U 1025 * fval z < ab (fval x))) := by
 have hC : Fin64 4386506037058863104 := by unfold Fin64 frung; omega
 obtain ⟨v, ev, rv⟩ := mul_full hC fz
 rw [low49] at rv
 have hlim : ab (U 1025 * fval z) < 18014398509481983 * p2 970 := by
   have h1 := (fval_bd fz).1
   have h2 : U 1025 * fval z ≤ U 1025 * p2 1024 := Rat.mul_le_mul_of_nonneg_left (Rat.le_of_lt h1) (Rat.le_of_lt (U_pos _))
   have h3 : U 1025 * p2 1024 = p2 975 := by unfold U; rw [← p2_add]; rfl
   have h4 : p2 975 = 32 * p2 970 := by rw [show (975 : Int) = ((5 : Nat) : Int) + 970 by omega, p2_add, p2_nat]; rfl
   have h5 := p2_pos 970
   rw [ab_pos' (Rat.mul_nonneg (Rat.le_of_lt (U_pos _)) hz)]
   rw [h3, h4] at h2
   grind
 obtain ⟨wv, fv, rr⟩ := rv.fin hlim
 refine ⟨v, ev, fv, wv, ?_⟩
 rintro ⟨t, ht, hm⟩
 have vv : fval v = U 1025 * fval z := rr.rn.exact (F_less49 (word_F fz) hm ht)
 rw [order_val (fin_small fx) fv, ab_fval x fx, vv]
 by_cases h : U 1025 * fval z < ab (fval x)
 · rw [if_neg (by grind), if_neg (by grind), decide_eq_true h]; rfl
 · rw [decide_eq_false h]
   split
   · rfl
   · split
     · rfl
     · grind

theorem cmp_word {P Q : Rat} {l r zl zr : Nat} (hl : ProdW P l zl) (hr : ProdW Q r zr) (l0 : 0 ≤ fval l) (r0 : 0 ≤ fval r) (kl : 9223372036854775808 * ab (P - fval l) ≤ 4098 * fval l) (kr : 9223372036854775808 * ab (Q - fval r) ≤ 4098 * fval r) :
   ∃ x z v, floatBits .sub .f64 l r = some x ∧ floatBits .add .f64 l r = some z ∧ floatBits .mul .f64 4386506037058863104 z = some v ∧ Fin64 x ∧ x < 18446744073709551616 ∧ ((FloatKind.f64.format.order (frung x) v == some .gt) = true → sgq (fval x) = sgq (P - Q)) := by
 have h2 := U_two' 1277
 have bx : ab (fval l - fval r) ≤ U 1278 := by
   have := ab_sub (fval l) (fval r)
   have := hl.ls
   have := hr.ls
   grind
 have bz : ab (fval l + fval r) ≤ U 1278 := by
   have := ab_add (fval l) (fval r)
   have := hl.ls
   have := hr.ls
   grind
 obtain ⟨x, ex, fx, wx, rx⟩ := sub_bits hl.fs hr.fs (lim_U bx (by omega))
 obtain ⟨z, ez, fz, wz, rz⟩ := add_bits hl.fs hr.fs (lim_U bz (by omega))
 have z0 := rz.rn.nonneg (hl.ms.add hr.ms) (by grind)
 obtain ⟨v, ev, _, _, hv⟩ := tell_word fx fz z0
 refine ⟨x, z, v, ex, ez, ev, fx, wx, fun h => ?_⟩
 rw [hv ⟨874, by omega, rz.rn.mm (hl.ms.add hr.ms)⟩] at h
 refine tell ?_ (of_decide_eq_true h)
 have k1 := rx.rn.rel (hl.ms.sub hr.ms)
 have k2 := rz.rn.rel (hl.ms.add hr.ms)
 rw [ab_pos' z0] at k2
 have t1 : ab (P - Q - fval x) ≤ ab (P - fval l) + ab (Q - fval r) + ab (fval l - fval r - fval x) := by
   have a := ab_sub (P - fval l) (Q - fval r)
   have b := ab_add (P - fval l - (Q - fval r)) (fval l - fval r - fval x)
   rw [show P - fval l - (Q - fval r) + (fval l - fval r - fval x) = P - Q - fval x by grind] at b
   grind
 have t2 : ab (fval x) ≤ ab (fval l - fval r) + ab (fval l - fval r - fval x) := by
   have := ab_sub (fval l - fval r) (fval l - fval r - fval x)
   rwa [show fval l - fval r - (fval l - fval r - fval x) = fval x by grind] at this
 have t3 := ab_sub (fval l) (fval r)
 rw [ab_pos' l0, ab_pos' r0] at t3
 have t4 := (ab_self (fval l + fval r - fval z)).1
 generalize ab (P - Q - fval x) = g1 at *
 generalize ab (P - fval l) = g2 at *
 generalize ab (Q - fval r) = g3 at *
 generalize ab (fval l - fval r - fval x) = g4 at *
 generalize ab (fval l + fval r - fval z) = g5 at *
 generalize ab (fval l - fval r) = g6 at *
 generalize ab (fval x) = g7 at *
 generalize fval l = g8 at *
 generalize fval r = g9 at *
 generalize fval z = g10 at *
 grind

theorem dot_word {P : Rat} {s z : Nat} (h : ProdW P s z) : ∃ v, floatBits .mul .f64 4386506037058863104 z = some v ∧ ((FloatKind.f64.format.order (frung s) v == some .gt) = true → sgq (fval s) = sgq P) := by
 obtain ⟨v, ev, _, _, hv⟩ := tell_word h.fs h.fz h.z0
 refine ⟨v, ev, fun k => ?_⟩
 rw [hv ⟨874, by omega, h.mz⟩] at k
 refine tell ?_ (of_decide_eq_true k)
 have := h.err
 have := h.z0
 grind

end Go.Proofs.YtocnkgfoffpbfaaGreatDoor

/- Circles: nearRow, whole, and which four points may be. -/
namespace Go.Proofs.YtocnkgfoffpbfaaGreatDoor
open Go.RowKit Go.Shelf
attribute [local go_sem ↓] Go.wp_at_zero Go.wp_at_succ
attribute [local go_sem] run_store_float

def P4 (ax ay bx by' cx cy dx dy : Nat) : Prop := P3 ax ay bx by' cx cy ∧ Pt dx dy
def W8 (ax ay bx by' cx cy dx dy : Nat) : Prop := W6 ax ay bx by' cx cy ∧ dx < 18446744073709551616 ∧ dy < 18446744073709551616

def at4 (a b c d k : Nat) : Nat := if k = 0 then a else if k = 1 then b else if k = 2 then c else d
theorem at4_word {a b c d : Nat} (ha : a < 18446744073709551616) (hb : b < 18446744073709551616) (hc : c < 18446744073709551616) (hd : d < 18446744073709551616) (k : Nat) : at4 a b c d k < 18446744073709551616 := by
 unfold at4
 split
 · exact ha
 · split
   · exact hb
   · split
     · exact hc
     · exact hd
theorem four {P : Nat → Prop} (h0 : P 0) (h1 : P 1) (h2 : P 2) (h3 : P 3) : ∀ k, k < 4 → P k := by
 intro k hk
 have : k = 0 ∨ k = 1 ∨ k = 2 ∨ k = 3 := by omega
 rcases this with rfl | rfl | rfl | rfl
 · exact h0
 · exact h1
 · exact h2
 · exact h3

theorem has4 (ax ay bx by' cx cy dx dy : Nat) (w : World) (hw : W8 ax ay bx by' cx cy dx dy) :
   Calls Tryz.prog 25 #[.slice (some ⟨w.heap.size, 0, none⟩) 4 4] (w.alloc (.cells #[.float .f64 ax, .float .f64 ay, .float .f64 bx, .float .f64 by', .float .f64 cx, .float .f64 cy, .float .f64 dx, .float .f64 dy] 24)) fun e w' => (∃ t, e = .returned (.bool t) ∧ (t = true ↔ P4 ax ay bx by' cx cy dx dy)) ∧ Below w.heap.size w w' := by
 have hb : Below w.heap.size w (w.alloc (.cells #[.float .f64 ax, .float .f64 ay, .float .f64 bx, .float .f64 by', .float .f64 cx, .float .f64 cy, .float .f64 dx, .float .f64 dy] 24)) := (Below.refl _ w).alloc (Nat.le_refl _) _
 refine (has_walk w.heap.size 4 4 (at4 ax bx cx dx) (at4 ay by' cy dy) _ (four ⟨by go_simp; rfl, by go_simp; rfl⟩ ⟨by go_simp; rfl, by go_simp; rfl⟩ ⟨by go_simp; rfl, by go_simp; rfl⟩ ⟨by go_simp; rfl, by go_simp; rfl⟩) (fun k => ⟨at4_word hw.1.1.1 hw.1.2.1.1 hw.1.2.2.1 hw.2.1 k, at4_word hw.1.1.2 hw.1.2.1.2 hw.1.2.2.2 hw.2.2 k⟩) (by omega)).mono ?_
 rintro e w' ⟨⟨t, rfl, ht⟩, hb'⟩
 refine ⟨⟨t, rfl, ?_⟩, below_step hb hb'⟩
 rw [ht]
 exact ⟨fun h => ⟨⟨h 0 (by omega), h 1 (by omega), h 2 (by omega)⟩, h 3 (by omega)⟩, fun h => four h.1.1 h.1.2.1 h.1.2.2 h.2⟩

end Go.Proofs.YtocnkgfoffpbfaaGreatDoor

/- Circles: Fast. -/
namespace Go.Proofs.YtocnkgfoffpbfaaGreatDoor
open Go.RowKit Go.Shelf
attribute [local go_sem ↓] Go.wp_at_zero Go.wp_at_succ
attribute [local go_sem] run_store_float

structure B4 (w W : World) (ax ay bx by' cx cy dx dy : Nat) : Prop where
 a0 : W.cell? ⟨w.heap.size, 0, none⟩ = some (.float .f64 ax)
 a1 : W.cell? ⟨w.heap.size, 1, none⟩ = some (.float .f64 ay)
 b0 : W.cell? ⟨w.heap.size + 1, 0, none⟩ = some (.float .f64 bx)
 b1 : W.cell? ⟨w.heap.size + 1, 1, none⟩ = some (.float .f64 by')
 c0 : W.cell? ⟨w.heap.size + 1 + 1, 0, none⟩ = some (.float .f64 cx)
 c1 : W.cell? ⟨w.heap.size + 1 + 1, 1, none⟩ = some (.float .f64 cy)
 d0 : W.cell? ⟨w.heap.size + 1 + 1 + 1, 0, none⟩ = some (.float .f64 dx)
 d1 : W.cell? ⟨w.heap.size + 1 + 1 + 1, 1, none⟩ = some (.float .f64 dy)
 bel : Below w.heap.size w W
theorem B4.later {w W W' : World} {ax ay bx by' cx cy dx dy : Nat} (h : B4 w W ax ay bx by' cx cy dx dy) (hb : Below W.heap.size W W') : B4 w W' ax ay bx by' cx cy dx dy :=
 ⟨box_cell hb h.a0, box_cell hb h.a1, box_cell hb h.b0, box_cell hb h.b1, box_cell hb h.c0, box_cell hb h.c1, box_cell hb h.d0, box_cell hb h.d1, below_step h.bel hb⟩
theorem B4.start (w : World) (ax ay bx by' cx cy dx dy : Nat) : B4 w ((((w.alloc (.cells #[.float .f64 ax, .float .f64 ay] 24)).alloc (.cells #[.float .f64 bx, .float .f64 by'] 24)).alloc (.cells #[.float .f64 cx, .float .f64 cy] 24)).alloc (.cells #[.float .f64 dx, .float .f64 dy] 24)) ax ay bx by' cx cy dx dy :=
 ⟨by go_simp, by go_simp, by go_simp, by go_simp, by go_simp, by go_simp, by go_simp, by go_simp, ((((Below.refl _ w).alloc (Nat.le_refl _) _).alloc (by simp) _).alloc (by simp; omega) _).alloc (by simp; omega) _⟩
theorem B4.drew {w W : World} {ax ay bx by' cx cy dx dy : Nat} (h : B4 w W ax ay bx by' cx cy dx dy) : B4 w W.drew ax ay bx by' cx cy dx dy := ⟨h.a0, h.a1, h.b0, h.b1, h.c0, h.c1, h.d0, h.d1, h.bel.drew⟩
theorem has4' (ax ay bx by' cx cy dx dy : Nat) (w : World) (hw : W8 ax ay bx by' cx cy dx dy) :
   Calls Tryz.prog 25 #[.slice (some ⟨w.heap.size + 1 + 1 + 1 + 1, 0, none⟩) 4 4] (((((w.alloc (.cells #[.float .f64 ax, .float .f64 ay] 24)).alloc (.cells #[.float .f64 bx, .float .f64 by'] 24)).alloc (.cells #[.float .f64 cx, .float .f64 cy] 24)).alloc (.cells #[.float .f64 dx, .float .f64 dy] 24)).alloc (.cells #[.float .f64 ax, .float .f64 ay, .float .f64 bx, .float .f64 by', .float .f64 cx, .float .f64 cy, .float .f64 dx, .float .f64 dy] 24)) fun e w' => (∃ t, e = .returned (.bool t) ∧ (t = true ↔ P4 ax ay bx by' cx cy dx dy)) ∧ B4 w w' ax ay bx by' cx cy dx dy := by
 have h := has4 ax ay bx by' cx cy dx dy ((((w.alloc (.cells #[.float .f64 ax, .float .f64 ay] 24)).alloc (.cells #[.float .f64 bx, .float .f64 by'] 24)).alloc (.cells #[.float .f64 cx, .float .f64 cy] 24)).alloc (.cells #[.float .f64 dx, .float .f64 dy] 24)) hw
 have e : ((((w.alloc (.cells #[.float .f64 ax, .float .f64 ay] 24)).alloc (.cells #[.float .f64 bx, .float .f64 by'] 24)).alloc (.cells #[.float .f64 cx, .float .f64 cy] 24)).alloc (.cells #[.float .f64 dx, .float .f64 dy] 24)).heap.size = w.heap.size + 1 + 1 + 1 + 1 := by simp
 have hs := B4.start w ax ay bx by' cx cy dx dy
 generalize ((((w.alloc (.cells #[.float .f64 ax, .float .f64 ay] 24)).alloc (.cells #[.float .f64 bx, .float .f64 by'] 24)).alloc (.cells #[.float .f64 cx, .float .f64 cy] 24)).alloc (.cells #[.float .f64 dx, .float .f64 dy] 24)) = W at *
 rw [← e]
 exact h.mono fun e' w' ⟨h1, h2⟩ => ⟨h1, hs.later h2⟩

theorem TermW.imp {T : Rat} {W W' S S' : Prop} {t p : Nat} (h : TermW T W S t p) (h1 : W' → W) (h2 : S' → S) : TermW T W' S' t p :=
 ⟨h.ft, h.fp, h.et, h.at', h.p0, h.mt, h.mp, h.lt, h.lp, fun k => h.wh (h1 k), fun k => h.sm (h2 k)⟩

def Wh (ax ay bx by' cx cy dx dy : Nat) : Prop := (M 1 (fval ax) ∧ M 1 (fval ay)) ∧ (M 1 (fval bx) ∧ M 1 (fval by')) ∧ (M 1 (fval cx) ∧ M 1 (fval cy)) ∧ M 1 (fval dx) ∧ M 1 (fval dy)
def Sm8 (ax ay bx by' cx cy dx dy : Nat) : Prop := (Sm ax ∧ Sm ay) ∧ (Sm bx ∧ Sm by') ∧ (Sm cx ∧ Sm cy) ∧ Sm dx ∧ Sm dy
theorem Sm.m1 {x : Nat} (h : Sm x) : M 1 (fval x) := by
 obtain ⟨n, e, _⟩ := h
 exact M_one.2 ⟨n, e⟩
theorem Sm8.wh {ax ay bx by' cx cy dx dy : Nat} (h : Sm8 ax ay bx by' cx cy dx dy) : Wh ax ay bx by' cx cy dx dy := ⟨⟨h.1.1.m1, h.1.2.m1⟩, ⟨h.2.1.1.m1, h.2.1.2.m1⟩, ⟨h.2.2.1.1.m1, h.2.2.1.2.m1⟩, h.2.2.2.1.m1, h.2.2.2.2.m1⟩

end Go.Proofs.YtocnkgfoffpbfaaGreatDoor

/- The float nearest to a number that is not below 0: plain facts. -/
namespace Go.Proofs.YtocnkgfoffpbfaaGreatDoor

def upv (r : Nat) : Rat := if r + 1 < 9218868437227405312 then fval (r + 1) else p2 1024
structure NQ (q : Rat) (r : Nat) : Prop where
 fin : r < 9218868437227405312
 lo : r ≠ 0 → fval (r - 1) + fval r ≤ 2 * q ∧ (fval (r - 1) + fval r = 2 * q → r % 2 = 0)
 hi : 2 * q ≤ fval r + upv r ∧ (2 * q = fval r + upv r → r % 2 = 0)

theorem up_lt {r : Nat} (h : r < 9218868437227405312) : fval r < upv r := by
 unfold upv
 split
 · rename_i h1
   exact fval_lt (by omega) h1
 · obtain rfl : r = 9218868437227405311 := by omega
   have e := (fval_pos_lt (r := 9218868437227405311) (by omega)).1
   rw [e, show fmag 9218868437227405311 = 9007199254740991 by decide, show fpl 9218868437227405311 = 971 by decide]
   have h2 : p2 1024 = 9007199254740992 * p2 971 := by
     rw [show (1024 : Int) = ((53 : Nat) : Int) + 971 by omega, p2_add, p2_nat]; rfl
   have h3 := p2_pos 971
   rw [h2, show ((9007199254740991 : Nat) : Rat) = 9007199254740991 from rfl]
   grind

theorem NQ.one_lt {q : Rat} {r s : Nat} (h1 : NQ q r) (h2 : NQ q s) (h : r < s) : False := by
 have hs := h2.fin
 have e : upv r = fval (r + 1) := by unfold upv; rw [if_pos (by omega)]
 obtain ⟨a1, a2⟩ := h1.hi
 obtain ⟨b1, b2⟩ := h2.lo (by omega)
 rw [e] at a1 a2
 rcases Nat.lt_or_ge (r + 1) s with h3 | h3
 · have c1 := fval_lt (r := r) (s := s - 1) (by omega) (by omega)
   have c2 := fval_lt (r := r + 1) (s := s) h3 hs
   grind
 · obtain rfl : s = r + 1 := by omega
   rw [show r + 1 - 1 = r by omega] at b1 b2
   have d1 := a2 (by grind)
   have d2 := b2 (by grind)
   omega
theorem NQ.one {q : Rat} {r s : Nat} (h1 : NQ q r) (h2 : NQ q s) : r = s := by
 rcases Nat.lt_trichotomy r s with h | h | h
 · exact (h1.one_lt h2 h).elim
 · exact h
 · exact (h2.one_lt h1 h).elim

theorem NQ.exact {r : Nat} (hr : r < 9218868437227405312) : NQ (fval r) r := by
 have u := up_lt hr
 refine ⟨hr, fun h0 => ?_, by grind, fun k => by exfalso; grind⟩
 have := fval_lt (r := r - 1) (s := r) (by omega) hr
 exact ⟨by grind, fun k => by exfalso; grind⟩

end Go.Proofs.YtocnkgfoffpbfaaGreatDoor

/- Package orient: grown, differences as lists. -/
namespace Go.Proofs.YtocnkgfoffpbfaaGreatDoor
open Go.RowKit Go.Shelf
attribute [local go_sem ↓] Go.wp_at_zero Go.wp_at_succ
attribute [local go_sem] run_store_float

def pl (y x : Nat) (k : Nat) : List Nat := if k = 0 then [] else if k = 1 then gw [] y else gw (gw [] y) x
theorem pl_next (y x k : Nat) (hk : k < 2) : pl y x (k + 1) = gw (pl y x k) (if k = 0 then y else x) := by
 have : k = 0 ∨ k = 1 := by omega
 rcases this with rfl | rfl <;> rfl
theorem pl_len (y x k : Nat) : (pl y x k).length ≤ 2 := by
 unfold pl gw
 split
 · simp
 · split
   · split <;> simp
   · split
     · split <;> simp
     · split <;> simp

set_option maxRecDepth 100000 in
set_option maxHeartbeats 2000000 in
theorem grown2_any (g c y x : Nat) (w : World) (h1 : w.cell? ⟨g, 0, none⟩ = some (.float .f64 y)) (h2 : w.cell? ⟨g, 1, none⟩ = some (.float .f64 x)) (hy : y < 18446744073709551616) (hx : x < 18446744073709551616) :
   Calls Tryz.prog 96 #[.slice (some ⟨g, 0, none⟩) 2 c] w fun e w' => (∃ v, e = .returned v ∧ Fr w' w.heap.size v (gw (gw [] y) x)) ∧ Below w.heap.size w w' := by
 have HC : Hid (∀ k, k < 2 → w.cell? ⟨g, k, none⟩ = some (.float .f64 (if k = 0 then y else x))) := fun k hk => by
   have : k = 0 ∨ k = 1 := by omega
   rcases this with rfl | rfl
   · exact h1
   · exact h2
 have HW : Hid (y < 18446744073709551616 ∧ x < 18446744073709551616) := ⟨hy, hx⟩
 clear h1 h2 hy hx
 obtain ⟨i0, hi0, hz0, hz1, hz2⟩ := info_parts infoF
 go_enter Tryz.func96, Tryz.ntmps96
 go_wp2
 go_loopw [3, 8] (fun l i wr => ∃ (k : Nat) (v : Value), k ≤ 2 ∧ i = .int .i64 (k : Nat) ∧ v = l ∧ Hid (Fr wr w.heap.size v (pl y x k) ∧ Below w.heap.size w wr)) (fun _ i _ => 2 - (intOf i).toNat)
 case atStart => exact ⟨0, _, Nat.zero_le _, rfl, rfl, Fr.nil _ _, Below.refl _ _⟩
 case round =>
   obtain ⟨k, v, hk, rfl, rfl, hB⟩ := hrel
   by_cases hlt : k < 2
   · have hlt' : (k : Int) < 2 := by omega
     have hk0 : (0 : Int) ≤ (k : Int) := by omega
     have c1 := box_cell hB.out.2 (HC.out k hlt)
     obtain ⟨z, hz⟩ : ∃ z : Nat, Hid ((if k = 0 then y else x) = z) := ⟨_, rfl⟩
     rw [hz.out] at c1
     have HZ : Hid (z < 18446744073709551616) := by
       rw [← hz.out]
       show (if k = 0 then y else x) < _
       split
       · exact HW.out.1
       · exact HW.out.2
     have q := eql_zero2 z
     by_cases h0 : frung z = 0
     · rw [decide_eq_true h0] at q
       have q' : FloatKind.f64.format.order z 0 = some .eq := by simpa using q
       have HG : Hid (pl y x (k + 1) = pl y x k) := by
         show pl y x (k + 1) = _
         rw [pl_next y x k hlt, hz.out]; unfold gw; rw [if_pos h0]
       clear h0 q
       go_wp2
       exact ⟨⟨k + 1, v, by omega, by go_num, rfl, by rw [HG.out]; exact hB.out⟩, by simp [intOf]; omega⟩
     · rw [decide_eq_false h0] at q
       have HG : Hid (pl y x (k + 1) = pl y x k ++ [z]) := by
         show pl y x (k + 1) = _
         rw [pl_next y x k hlt, hz.out]; unfold gw; rw [if_neg h0]
       have q2 : (FloatKind.f64.format.order z 0 != some .eq) = true := by rw [bne, q]; rfl
       clear h0 q
       go_wp2_with (at_builtin; refine wpList_append_own _ rfl _ _ _ rfl w.heap.size 22 i0 _ 1 8 undF hi0 hz0 hz1 hz2 rfl (by omega) v (pl y x k).length (f64s (pl y x k)) rfl (hB.out.1.own.alloc _) ⟨wr.heap.size, 0, none⟩ 1 1 [.float .f64 z] rfl rfl (World.news_of_block (cs := #[.float .f64 z]) (t := 22) (fr := (0, 0)) (heap_alloc_new wr _)) (by simp [Value.oneCell']) (by unfold maxLen; have := pl_len y x k; omega) (by have := pl_len y x k; omega) (by have := hB.out.2.size; simp; omega) ?_; intro v' w1 hown hgrow hnil)
       have hsz := hB.out.2.size
       refine ⟨⟨k + 1, v', by omega, by go_num, rfl, ?_, ?_⟩, by simp [intOf]; omega⟩
       · rw [HG.out]
         refine ⟨?_, ?_⟩
         · rw [List.length_append]
           simpa [f64s] using hown
         · intro b hb
           rcases List.mem_append.1 hb with hb | hb
           · exact hB.out.1.word b hb
           · rw [List.mem_singleton.1 hb]; exact HZ.out
       · exact (hB.out.2.alloc hsz _).grown hgrow (by simp; omega) (fun k hk => (hB.out.1.own.lt k hk).1)
   · obtain rfl : k = 2 := by omega
     go_wp2
     go_ret
     exact ⟨⟨v, rfl, hB.out.1⟩, hB.out.2⟩

end Go.Proofs.YtocnkgfoffpbfaaGreatDoor

/- Package orient: exactSign, Sign. -/
namespace Go.Proofs.YtocnkgfoffpbfaaGreatDoor
open Go.RowKit Go.Shelf
attribute [local go_sem ↓] Go.wp_at_zero Go.wp_at_succ
attribute [local go_sem] run_store_float

structure DL (q : Rat) (bs : List Nat) : Prop where
 may : MayS bs
 sum : (vals bs).sum = q

theorem safe_word {b : Nat} (hf : Fin64 b) (h1 : U 974 ≤ ab (fval b)) (h2 : ab (fval b) ≤ U 1175) : 2580562586483294208 ≤ frung b ∧ frung b ≤ 6633802251116740608 := by
 rw [← ab_fval b hf] at h1 h2
 have f : frung b < 9218868437227405312 := hf
 constructor
 · rcases Nat.lt_or_ge (frung b) 2580562586483294208 with e | e
   · exfalso
     have h3 := fval_lt e (by omega)
     rw [safe_low] at h3
     have h4 := U_lt_iff.2 (show 624 < 974 by omega)
     grind
   · exact e
 · rcases Nat.lt_or_ge 6633802251116740608 (frung b) with e | e
   · exfalso
     have h3 := fval_lt e f
     rw [safe_top, show p2 450 = U 1524 from rfl] at h3
     have h4 := U_lt_iff.2 (show 1175 < 1524 by omega)
     grind
   · exact e

theorem frung_val {b : Nat} : frung b = 0 ↔ fval b = 0 := by
 rw [← fval_zero_iff]

theorem diff_list {a b x y : Nat} (ha : Crd a) (hb : Crd b) (h : Pair (TameW b a) (fval b - fval a) x y) : DL (fval b - fval a) (gw (gw [] y) x) := by
 have hd : TameW b a := ⟨by have := hb.1; omega, by have := ha.1; omega⟩
 obtain ⟨fx, fy, wx, wy, h⟩ := h
 obtain ⟨hr, he⟩ : RV (fval b - fval a) (fval x) ∧ fval x + fval y = fval b - fval a := by
   rcases h with ⟨_, h1, h2⟩ | ⟨h1, _⟩
   · exact ⟨h1, h2⟩
   · exact absurd hd h1
 have hm : M (U 974) (fval b - fval a) := hb.2.sub ha.2
 have hl : ab (fval b - fval a) ≤ U 1175 := by
   have := ab_sub (fval b) (fval a)
   have h1 := crd_ab ha.1
   have h2 := crd_ab hb.1
   have h3 := U_two' 1174
   grind
 have mx := hr.rn.mm hm
 have my : M (U 974) (fval y) := by
   have := hm.sub mx
   rwa [show fval b - fval a - fval x = fval y by grind] at this
 have lx := hr.rn.le hl
 have rel := hr.rn.rel hm
 rw [show fval b - fval a - fval x = fval y by grind] at rel
 have ly : ab (fval y) ≤ U 1175 := by have := ab_nonneg (fval y); grind
 have lo := hr.rn.lo he
 have u := U_pos 974
 have sx : fval x ≠ 0 → 2580562586483294208 ≤ frung x ∧ frung x ≤ 6633802251116740608 := fun h0 => safe_word fx (mx.ge u h0) lx
 have sy : fval y ≠ 0 → 2580562586483294208 ≤ frung y ∧ frung y ≤ 6633802251116740608 := fun h0 => safe_word fy (my.ge u h0) ly
 by_cases x0 : fval x = 0
 · have y0 : fval y = 0 := by
     rw [x0, show ab 0 = 0 by unfold ab; grind] at rel
     exact ab_zero (by have := ab_nonneg (fval y); grind)
   have e : gw (gw [] y) x = [] := by
     unfold gw
     rw [if_pos (frung_val.2 x0), if_pos (frung_val.2 y0)]
   rw [e]
   exact ⟨⟨by simp, fun i hi => by simp at hi⟩, by rw [← he, x0, y0]; show (0 : Rat) = 0 + 0; grind⟩
 · by_cases y0 : fval y = 0
   · have e : gw (gw [] y) x = [x] := by
       unfold gw
       rw [if_neg (fun h => x0 (frung_val.1 h)), if_pos (frung_val.2 y0)]; rfl
     rw [e]
     refine ⟨up_may ⟨by simp [vals], by simp [vals]; exact x0⟩ (by simp) (by simp; exact sx x0), ?_⟩
     rw [← he, y0]
     show fval x + 0 = _
     grind
   · have e : gw (gw [] y) x = [y, x] := by
       unfold gw
       rw [if_neg (fun h => x0 (frung_val.1 h)), if_neg (fun h => y0 (frung_val.1 h))]; rfl
     rw [e]
     refine ⟨up_may ⟨by simp [vals]; exact lo, by simp [vals]; exact ⟨y0, x0⟩⟩ (by simp) (by simp; exact ⟨sy y0, sx x0⟩), ?_⟩
     rw [← he]
     show fval y + (fval x + 0) = _
     grind

set_option maxRecDepth 100000 in
set_option maxHeartbeats 2000000 in
theorem from_any (ba ax ay px py : Nat) (w : World) (h0 : w.cell? ⟨ba, 0, none⟩ = some (.float .f64 ax)) (h1 : w.cell? ⟨ba, 1, none⟩ = some (.float .f64 ay)) (wa : ax < 18446744073709551616 ∧ ay < 18446744073709551616) (wp : px < 18446744073709551616 ∧ py < 18446744073709551616) (ha : Pt ax ay) (hp : Pt px py) :
   Calls Tryz.prog 94 #[pv px py, .pointer (some ⟨ba, 0, none⟩)] w fun e w' => (∃ v1 v2 l1 l2, e = .returned (.tuple #[v1, v2]) ∧ Fr w' w.heap.size v1 l1 ∧ Fr w' w.heap.size v2 l2 ∧ DL (fval px - fval ax) l1 ∧ DL (fval py - fval ay) l2) ∧ Below w.heap.size w w' := by
 have HA : Hid (w.cell? ⟨ba, 0, none⟩ = some (.float .f64 ax) ∧ w.cell? ⟨ba, 1, none⟩ = some (.float .f64 ay)) := ⟨h0, h1⟩
 have HW : Hid ((ax < 18446744073709551616 ∧ ay < 18446744073709551616) ∧ px < 18446744073709551616 ∧ py < 18446744073709551616) := ⟨wa, wp⟩
 have HP : Hid (Pt ax ay ∧ Pt px py) := ⟨ha, hp⟩
 have hbA : Hid (Below w.heap.size w (w.alloc (.cells #[.float .f64 px, .float .f64 py] 24))) := (Below.refl _ w).alloc (Nat.le_refl _) _
 have c0 := box_cell hbA.out h0
 have c1 := box_cell hbA.out h1
 clear h0 h1 wa wp ha hp
 go_enter Tryz.func94, Tryz.ntmps94
 go_wp2_with fail
 refine (diff_pair px ax _ HW.out.2.1 HW.out.1.1).mono ?_
 rintro e w1 ⟨⟨x1, y1, rfl, hp1⟩, hb1⟩
 have c1' := box_cell hb1 c1
 have d1 : w1.cell? ⟨w.heap.size, 1, none⟩ = some (.float .f64 py) := box_cell hb1 (by go_simp)
 have HB1 : Hid (Below w.heap.size w w1) := below_step hbA.out hb1
 have H1 : Hid (Pair (TameW px ax) (fval px - fval ax) x1 y1) := hp1
 clear hp1 hb1 c0 c1 hbA
 go_wp2_with fail
 refine (diff_pair py ay _ HW.out.2.2 HW.out.1.2).mono ?_
 rintro e w2 ⟨⟨x2, y2, rfl, hp2⟩, hb2⟩
 have HB2 : Hid (Below w.heap.size w w2) := below_step HB1.out hb2
 have H2 : Hid (Pair (TameW py ay) (fval py - fval ay) x2 y2) := hp2
 clear hp2 hb2 c1' d1
 go_wp2_with fail
 refine (grown2_any w2.heap.size 2 y1 x1 _ (by go_simp) (by go_simp) H1.out.2.2.2.1 H1.out.2.2.1).mono ?_
 rintro e w3 ⟨⟨v1, rfl, hF1⟩, hb3⟩
 have HB3 : Hid (Below w.heap.size w w3) := below_step (HB2.out.alloc HB2.out.size _) hb3
 have HF1 : Hid (Fr w3 w.heap.size v1 (gw (gw [] y1) x1)) := hF1.mono (by have := HB2.out.size; simp; omega)
 clear hF1 hb3
 go_wp2_with fail
 refine (grown2_any w3.heap.size 2 y2 x2 _ (by go_simp) (by go_simp) H2.out.2.2.2.1 H2.out.2.2.1).mono ?_
 rintro e w4 ⟨⟨v2, rfl, hF2⟩, hb4⟩
 have HB4 : Hid (Below w.heap.size w w4) := below_step (HB3.out.alloc HB3.out.size _) hb4
 have HF2 : Hid (Fr w4 w.heap.size v2 (gw (gw [] y2) x2)) := hF2.mono (by have := HB3.out.size; simp; omega)
 have HF1' : Hid (Fr w4 w.heap.size v1 (gw (gw [] y1) x1)) := HF1.out.later (below_step ((Below.refl _ w3).alloc (Nat.le_refl _) _) hb4)
 clear hF2 hb4 HF1
 go_wp2
 go_ret2
 exact ⟨⟨v1, v2, _, _, rfl, HF1'.out, HF2.out, diff_list HP.out.1.1 HP.out.2.1 H1.out, diff_list HP.out.1.2 HP.out.2.2 H2.out⟩, HB4.out⟩

set_option maxRecDepth 100000 in
set_option maxHeartbeats 2000000 in
theorem exact_any' (ax ay bx by' cx cy : Nat) (w : World) (hw : W6 ax ay bx by' cx cy) (hp : P3 ax ay bx by' cx cy) :
   Calls Tryz.prog 65 #[pv ax ay, pv bx by', pv cx cy] w fun e w' => e = .returned (.int .i64 (sgq (S3 ax ay bx by' cx cy))) ∧ Below w.heap.size w w' := by
 have HW : Hid (W6 ax ay bx by' cx cy) := hw
 have HP : Hid (P3 ax ay bx by' cx cy) := hp
 clear hw hp
 have hS := B3.start w ax ay bx by' cx cy
 have HS : Hid (B3 w (((w.alloc (.cells #[.float .f64 ax, .float .f64 ay] 24)).alloc (.cells #[.float .f64 bx, .float .f64 by'] 24)).alloc (.cells #[.float .f64 cx, .float .f64 cy] 24)) ax ay bx by' cx cy) := hS
 clear hS
 go_enter Tryz.func65, Tryz.ntmps65
 go_wp2_with fail
 refine (from_any w.heap.size ax ay bx by' _ HS.out.a0 HS.out.a1 HW.out.1 HW.out.2.1 HP.out.1 HP.out.2.1).mono ?_
 rintro e w1 ⟨⟨v1, v2, l1, l2, rfl, hF1, hF2, hd1, hd2⟩, hb1⟩
 have H1 : Hid (B3 w w1 ax ay bx by' cx cy) := HS.out.later hb1
 have HL1 : Hid (Fs w1 v1 l1 ∧ Fs w1 v2 l2 ∧ DL (fval bx - fval ax) l1 ∧ DL (fval by' - fval ay) l2) := ⟨hF1.fs, hF2.fs, hd1, hd2⟩
 have c0 := H1.out.c0
 have c1 := H1.out.c1
 clear hF1 hF2 hd1 hd2 hb1
 go_wp2_with fail
 refine (from_any w.heap.size ax ay cx cy _ H1.out.a0 H1.out.a1 HW.out.1 HW.out.2.2 HP.out.1 HP.out.2.2).mono ?_
 rintro e w2 ⟨⟨v3, v4, l3, l4, rfl, hF3, hF4, hd3, hd4⟩, hb2⟩
 have HL2 : Hid (Fs w2 v3 l3 ∧ Fs w2 v4 l4 ∧ DL (fval cx - fval ax) l3 ∧ DL (fval cy - fval ay) l4 ∧ Fs w2 v1 l1 ∧ Fs w2 v2 l2 ∧ Below w.heap.size w w2) := ⟨hF3.fs, hF4.fs, hd3, hd4, HL1.out.1.later hb2, HL1.out.2.1.later hb2, below_step H1.out.bel hb2⟩
 clear hF3 hF4 hd3 hd4 hb2 c0 c1
 go_wp2_with fail
 refine (mulE_any v1 v4 l1 l4 _ HL2.out.2.2.2.2.1 HL2.out.2.1).mono ?_
 rintro e w3 ⟨⟨v5, b5, t5, rfl, hF5, k1, k2, _⟩, hb3⟩
 obtain rfl := k1.2 ⟨HL1.out.2.2.1.may, HL2.out.2.2.2.1.may⟩
 have HL3 : Hid (Fs w3 v5 b5 ∧ SumS ((vals l1).sum * (vals l4).sum) b5 ∧ Fs w3 v2 l2 ∧ Fs w3 v3 l3 ∧ Below w.heap.size w w3) := ⟨hF5.fs, k2 rfl, HL2.out.2.2.2.2.2.1.later hb3, HL2.out.1.later hb3, below_step HL2.out.2.2.2.2.2.2 hb3⟩
 clear hF5 k1 k2 hb3
 go_wp2_with fail
 refine (mulE_any v2 v3 l2 l3 _ HL3.out.2.2.1 HL3.out.2.2.2.1).mono ?_
 rintro e w4 ⟨⟨v6, b6, t6, rfl, hF6, k1, k2, _⟩, hb4⟩
 obtain rfl := k1.2 ⟨HL1.out.2.2.2.may, HL2.out.2.2.1.may⟩
 have HL4 : Hid (Fs w4 v6 b6 ∧ SumS ((vals l2).sum * (vals l3).sum) b6 ∧ Fs w4 v5 b5 ∧ Below w.heap.size w w4) := ⟨hF6.fs, k2 rfl, HL3.out.1.later hb4, below_step HL3.out.2.2.2.2 hb4⟩
 clear hF6 k1 k2 hb4
 go_wp2_with fail
 refine (cmpE_any v5 v6 b5 b6 _ HL4.out.2.2.1 HL4.out.1).mono ?_
 rintro e w5 ⟨⟨z, rfl, hz, _⟩, hb5⟩
 have HZ : Hid (z = sgq (S3 ax ay bx by' cx cy)) := by
   show z = _
   rw [hz HL3.out.2.1.may HL4.out.2.1.may, HL3.out.2.1.sum, HL4.out.2.1.sum, HL1.out.2.2.1.sum, HL1.out.2.2.2.sum, HL2.out.2.2.1.sum, HL2.out.2.2.2.1.sum]
   rfl
 have HB5 : Hid (Below w.heap.size w w5) := below_step HL4.out.2.2.2 hb5
 clear hz hb5
 go_wp2
 go_ret
 exact ⟨by rw [HZ.out]; rfl, HB5.out⟩

noncomputable def sg3 (ax ay bx by' cx cy : Nat) : Int := @ite _ (P3 ax ay bx by' cx cy) (Classical.propDecidable _) (sgq (S3 ax ay bx by' cx cy)) 0
theorem sg3_yes {ax ay bx by' cx cy : Nat} (h : P3 ax ay bx by' cx cy) : sg3 ax ay bx by' cx cy = sgq (S3 ax ay bx by' cx cy) := by unfold sg3; rw [if_pos h]
theorem sg3_no {ax ay bx by' cx cy : Nat} (h : ¬ P3 ax ay bx by' cx cy) : sg3 ax ay bx by' cx cy = 0 := by unfold sg3; rw [if_neg h]

set_option maxRecDepth 100000 in
set_option maxHeartbeats 2000000 in
theorem sign3_any (ax ay bx by' cx cy : Nat) (w : World) (hw : W6 ax ay bx by' cx cy) :
   Calls Tryz.prog 23 #[pv ax ay, pv bx by', pv cx cy] w fun e w' => e = .returned (.int .i64 (sg3 ax ay bx by' cx cy)) ∧ Below w.heap.size w w' := by
 have HW : Hid (W6 ax ay bx by' cx cy) := hw
 clear hw
 have hS := B3.start w ax ay bx by' cx cy
 have HS : Hid (B3 w (((w.alloc (.cells #[.float .f64 ax, .float .f64 ay] 24)).alloc (.cells #[.float .f64 bx, .float .f64 by'] 24)).alloc (.cells #[.float .f64 cx, .float .f64 cy] 24)) ax ay bx by' cx cy) := hS
 clear hS
 go_enter Tryz.func23, Tryz.ntmps23
 go_wp2_with fail
 refine (fast_any ax ay bx by' cx cy _ HW.out).mono ?_
 rintro e w1 ⟨⟨z, t, rfl, hz⟩, hb1⟩
 have H1 : Hid (B3 w w1 ax ay bx by' cx cy) := HS.out.later hb1
 have HZ : Hid (FastR ax ay bx by' cx cy z t) := hz
 clear hz hb1 HS
 obtain ⟨u0, u1, u2, u3, u4, u5, _⟩ := H1.out
 cases t
 · go_wp2_with fail
   refine (has3 ax ay bx by' cx cy _ HW.out).mono ?_
   rintro e w2 ⟨⟨t, rfl, ht⟩, hb2⟩
   have H2 : Hid (B3 w w2 ax ay bx by' cx cy) := H1.out.later hb2
   have HT : Hid (t = true ↔ P3 ax ay bx by' cx cy) := ht
   clear ht hb2 u0 u1 u2 u3 u4 u5
   cases t
   · go_wp2
     go_ret
     exact ⟨by rw [sg3_no (fun h => Bool.noConfusion (HT.out.2 h))]; rfl, H2.out.bel⟩
   · have HP : Hid (P3 ax ay bx by' cx cy) := HT.out.1 rfl
     obtain ⟨u0, u1, u2, u3, u4, u5, _⟩ := H2.out
     go_wp2_with fail
     refine (exact_any' ax ay bx by' cx cy _ HW.out HP.out).mono ?_
     rintro e w3 ⟨rfl, hb3⟩
     have H3 : Hid (Below w.heap.size w w3) := below_step H2.out.bel hb3
     clear hb3
     go_wp2
     go_ret
     exact ⟨by rw [sg3_yes HP.out]; rfl, H3.out⟩
 · go_wp2
   go_ret
   exact ⟨by rw [sg3_yes (HZ.out.1 rfl).1, (HZ.out.1 rfl).2]; rfl, H1.out.bel⟩

end Go.Proofs.YtocnkgfoffpbfaaGreatDoor
