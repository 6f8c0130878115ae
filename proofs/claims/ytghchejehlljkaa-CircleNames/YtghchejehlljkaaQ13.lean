/- Own texts, put together: Cd. -/
import Derived.Test.YtghchejehlljkaaQ12
/- Circles: Fast. -/
namespace Go.Proofs.Ytghchejehlljkaa
open Go.RowKit Go.Shelf
attribute [local go_sem ↓] Go.wp_at_zero Go.wp_at_succ
attribute [local go_sem] run_store_float

/-- Four points in boxes of the call's own. -/
structure B4 (w W : World) (ax ay bx by' cx cy dx dy : Nat) : Prop where
  a0 : W.cell? ⟨w.heap.size, 0, none⟩ = some (.float .f64 ax)
  a1 : W.cell? ⟨w.heap.size, 1, none⟩ = some (.float .f64 ay)
  b0 : W.cell? ⟨w.heap.size + 1, 0, none⟩ = some (.float .f64 bx)
  b1 : W.cell? ⟨w.heap.size + 1, 1, none⟩ = some (.float .f64 by')
  c0 : W.cell? ⟨w.heap.size + 1 + 1, 0, none⟩ = some (.float .f64 cx)
  c1 : W.cell? ⟨w.heap.size + 1 + 1, 1, none⟩ = some (.float .f64 cy)
  d0 : W.cell? ⟨w.heap.size + 1 + 1 + 1, 0, none⟩ = some (.float .f64 dx)
  d1 : W.cell? ⟨w.heap.size + 1 + 1 + 1, 1, none⟩ = some (.float .f64 dy)
  bel : Below w.heap.size w W
theorem B4.later {w W W' : World} {ax ay bx by' cx cy dx dy : Nat} (h : B4 w W ax ay bx by' cx cy dx dy) (hb : Below W.heap.size W W') : B4 w W' ax ay bx by' cx cy dx dy :=
  ⟨box_cell hb h.a0, box_cell hb h.a1, box_cell hb h.b0, box_cell hb h.b1, box_cell hb h.c0, box_cell hb h.c1, box_cell hb h.d0, box_cell hb h.d1, below_step h.bel hb⟩
theorem B4.start (w : World) (ax ay bx by' cx cy dx dy : Nat) : B4 w ((((w.alloc (.cells #[.float .f64 ax, .float .f64 ay] 24)).alloc (.cells #[.float .f64 bx, .float .f64 by'] 24)).alloc (.cells #[.float .f64 cx, .float .f64 cy] 24)).alloc (.cells #[.float .f64 dx, .float .f64 dy] 24)) ax ay bx by' cx cy dx dy :=
  ⟨by go_simp, by go_simp, by go_simp, by go_simp, by go_simp, by go_simp, by go_simp, by go_simp, ((((Below.refl _ w).alloc (Nat.le_refl _) _).alloc (by simp) _).alloc (by simp; omega) _).alloc (by simp; omega) _⟩
theorem B4.drew {w W : World} {ax ay bx by' cx cy dx dy : Nat} (h : B4 w W ax ay bx by' cx cy dx dy) : B4 w W.drew ax ay bx by' cx cy dx dy := ⟨h.a0, h.a1, h.b0, h.b1, h.c0, h.c1, h.d0, h.d1, h.bel.drew⟩
theorem has4' (ax ay bx by' cx cy dx dy : Nat) (w : World) (hw : W8 ax ay bx by' cx cy dx dy) :
    Calls Try.prog 22 #[.slice (some ⟨w.heap.size + 1 + 1 + 1 + 1, 0, none⟩) 4 4] (((((w.alloc (.cells #[.float .f64 ax, .float .f64 ay] 24)).alloc (.cells #[.float .f64 bx, .float .f64 by'] 24)).alloc (.cells #[.float .f64 cx, .float .f64 cy] 24)).alloc (.cells #[.float .f64 dx, .float .f64 dy] 24)).alloc (.cells #[.float .f64 ax, .float .f64 ay, .float .f64 bx, .float .f64 by', .float .f64 cx, .float .f64 cy, .float .f64 dx, .float .f64 dy] 24)) fun e w' => (∃ t, e = .returned (.bool t) ∧ (t = true ↔ P4 ax ay bx by' cx cy dx dy)) ∧ B4 w w' ax ay bx by' cx cy dx dy := by
  have h := has4 ax ay bx by' cx cy dx dy ((((w.alloc (.cells #[.float .f64 ax, .float .f64 ay] 24)).alloc (.cells #[.float .f64 bx, .float .f64 by'] 24)).alloc (.cells #[.float .f64 cx, .float .f64 cy] 24)).alloc (.cells #[.float .f64 dx, .float .f64 dy] 24)) hw
  have e : ((((w.alloc (.cells #[.float .f64 ax, .float .f64 ay] 24)).alloc (.cells #[.float .f64 bx, .float .f64 by'] 24)).alloc (.cells #[.float .f64 cx, .float .f64 cy] 24)).alloc (.cells #[.float .f64 dx, .float .f64 dy] 24)).heap.size = w.heap.size + 1 + 1 + 1 + 1 := by simp
  have hs := B4.start w ax ay bx by' cx cy dx dy
  generalize ((((w.alloc (.cells #[.float .f64 ax, .float .f64 ay] 24)).alloc (.cells #[.float .f64 bx, .float .f64 by'] 24)).alloc (.cells #[.float .f64 cx, .float .f64 cy] 24)).alloc (.cells #[.float .f64 dx, .float .f64 dy] 24)) = W at *
  rw [← e]
  exact h.mono fun e' w' ⟨h1, h2⟩ => ⟨h1, hs.later h2⟩

theorem TermW.imp {T : Rat} {W W' S S' : Prop} {t p : Nat} (h : TermW T W S t p) (h1 : W' → W) (h2 : S' → S) : TermW T W' S' t p :=
  ⟨h.ft, h.fp, h.et, h.at', h.p0, h.mt, h.mp, h.lt, h.lp, fun k => h.wh (h1 k), fun k => h.sm (h2 k)⟩

/-- All coordinates are whole numbers. -/
def Wh (ax ay bx by' cx cy dx dy : Nat) : Prop := (M 1 (fval ax) ∧ M 1 (fval ay)) ∧ (M 1 (fval bx) ∧ M 1 (fval by')) ∧ (M 1 (fval cx) ∧ M 1 (fval cy)) ∧ M 1 (fval dx) ∧ M 1 (fval dy)
/-- All coordinates are small whole numbers. -/
def Sm8 (ax ay bx by' cx cy dx dy : Nat) : Prop := (Sm ax ∧ Sm ay) ∧ (Sm bx ∧ Sm by') ∧ (Sm cx ∧ Sm cy) ∧ Sm dx ∧ Sm dy
theorem Sm.m1 {x : Nat} (h : Sm x) : M 1 (fval x) := by
  obtain ⟨n, e, _⟩ := h
  exact M_one.2 ⟨n, e⟩
theorem Sm.diff {x y : Nat} (h1 : Sm x) (h2 : Sm y) : ab (fval x - fval y) ≤ U 1085 := by
  obtain ⟨n, e1, a1, b1⟩ := h1
  obtain ⟨m, e2, a2, b2⟩ := h2
  have := ab_int (n := n - m) (k := 2048) (by omega) (by omega)
  rw [e1, e2]
  rw [Rat.intCast_sub] at this
  have u : U 1085 = 2048 := by
    have := U_add 1074 11
    rw [U1074] at this
    rw [show (1085 : Nat) = 1074 + 11 from rfl, this]
    show ((2048 : Nat) : Rat) * 1 = _
    rw [Rat.mul_one]; rfl
  rw [u]
  exact this
theorem Sm8.wh {ax ay bx by' cx cy dx dy : Nat} (h : Sm8 ax ay bx by' cx cy dx dy) : Wh ax ay bx by' cx cy dx dy := ⟨⟨h.1.1.m1, h.1.2.m1⟩, ⟨h.2.1.1.m1, h.2.1.2.m1⟩, ⟨h.2.2.1.1.m1, h.2.2.1.2.m1⟩, h.2.2.2.1.m1, h.2.2.2.2.m1⟩

/-- The floats of one of the three products. -/
def TermE (q0 x1 y1 x2 y2 l r d m t p : Nat) : Prop := (floatBits .mul .f64 x1 y2 = some l ∧ floatBits .mul .f64 y1 x2 = some r) ∧ floatBits .sub .f64 l r = some d ∧ floatBits .mul .f64 q0 d = some t ∧ floatBits .add .f64 (frung l) (frung r) = some m ∧ floatBits .mul .f64 q0 m = some p ∧ l < 18446744073709551616 ∧ r < 18446744073709551616

theorem cfast_words {ax ay bx by' cx cy dx dy : Nat} (h : P4 ax ay bx by' cx cy dx dy) :
    ∃ x0 y0 q0 x1 y1 q1 x2 y2 q2 l0 r0 d0 m0 t0 p0 l1 r1 d1 m1 t1 p1 l2 r2 d2 m2 t2 p2 s1 z1 s2 z2 s3 z3 v,
      RowE ax ay dx dy x0 y0 q0 ∧ RowE bx by' dx dy x1 y1 q1 ∧ RowE cx cy dx dy x2 y2 q2 ∧
      TermE q0 x1 y1 x2 y2 l0 r0 d0 m0 t0 p0 ∧ TermE q1 x2 y2 x0 y0 l1 r1 d1 m1 t1 p1 ∧ TermE q2 x0 y0 x1 y1 l2 r2 d2 m2 t2 p2 ∧
      (floatBits .add .f64 0 t0 = some s1 ∧ floatBits .add .f64 0 p0 = some z1 ∧ floatBits .add .f64 s1 t1 = some s2 ∧ floatBits .add .f64 z1 p1 = some z2 ∧ floatBits .add .f64 s2 t2 = some s3 ∧ floatBits .add .f64 z2 p2 = some z3 ∧ floatBits .mul .f64 4386506037058863104 z3 = some v) ∧ s3 < 18446744073709551616 ∧ Fin64 s3 ∧
      ((FloatKind.f64.format.order (frung s3) v == some .lt) = false → sgq (fval s3) = sgq (S4 ax ay bx by' cx cy dx dy)) ∧
      ((FloatKind.f64.format.order z3 4845873199050653696 == some .lt) = true → Wh ax ay bx by' cx cy dx dy → sgq (fval s3) = sgq (S4 ax ay bx by' cx cy dx dy)) ∧
      (Sm8 ax ay bx by' cx cy dx dy → (FloatKind.f64.format.order z3 4845873199050653696 == some .lt) = true) := by
  obtain ⟨x0, y0, xx0, yy0, q0, a1, a2, a3, a4, a5, A⟩ := row_word h.1.1.1 h.1.1.2 h.2.1 h.2.2
  obtain ⟨x1, y1, xx1, yy1, q1, b1, b2, b3, b4, b5, B⟩ := row_word h.1.2.1.1 h.1.2.1.2 h.2.1 h.2.2
  obtain ⟨x2, y2, xx2, yy2, q2, c1, c2, c3, c4, c5, C⟩ := row_word h.1.2.2.1 h.1.2.2.2 h.2.1 h.2.2
  obtain ⟨l0, r0, d0, m0, t0, p0, e1, e2, e3, e4, e5, e6, e7, e8, T0⟩ := term_word A B C
  obtain ⟨l1, r1, d1, m1, t1, p1, f1, f2, f3, f4, f5, f6, f7, f8, T1⟩ := term_word B C A
  obtain ⟨l2, r2, d2, m2, t2, p2, g1, g2, g3, g4, g5, g6, g7, g8, T2⟩ := term_word C A B
  have k0 := T0.imp (W' := Wh ax ay bx by' cx cy dx dy) (S' := Sm8 ax ay bx by' cx cy dx dy) (fun k => ⟨k.1.1.sub k.2.2.2.1, k.1.2.sub k.2.2.2.2, k.2.1.1.sub k.2.2.2.1, k.2.1.2.sub k.2.2.2.2, k.2.2.1.1.sub k.2.2.2.1, k.2.2.1.2.sub k.2.2.2.2⟩) (fun k => ⟨k.1.1.diff k.2.2.2.1, k.1.2.diff k.2.2.2.2, k.2.1.1.diff k.2.2.2.1, k.2.1.2.diff k.2.2.2.2, k.2.2.1.1.diff k.2.2.2.1, k.2.2.1.2.diff k.2.2.2.2⟩)
  have k1 := T1.imp (W' := Wh ax ay bx by' cx cy dx dy) (S' := Sm8 ax ay bx by' cx cy dx dy) (fun k => ⟨k.2.1.1.sub k.2.2.2.1, k.2.1.2.sub k.2.2.2.2, k.2.2.1.1.sub k.2.2.2.1, k.2.2.1.2.sub k.2.2.2.2, k.1.1.sub k.2.2.2.1, k.1.2.sub k.2.2.2.2⟩) (fun k => ⟨k.2.1.1.diff k.2.2.2.1, k.2.1.2.diff k.2.2.2.2, k.2.2.1.1.diff k.2.2.2.1, k.2.2.1.2.diff k.2.2.2.2, k.1.1.diff k.2.2.2.1, k.1.2.diff k.2.2.2.2⟩)
  have k2 := T2.imp (W' := Wh ax ay bx by' cx cy dx dy) (S' := Sm8 ax ay bx by' cx cy dx dy) (fun k => ⟨k.2.2.1.1.sub k.2.2.2.1, k.2.2.1.2.sub k.2.2.2.2, k.1.1.sub k.2.2.2.1, k.1.2.sub k.2.2.2.2, k.2.1.1.sub k.2.2.2.1, k.2.1.2.sub k.2.2.2.2⟩) (fun k => ⟨k.2.2.1.1.diff k.2.2.2.1, k.2.2.1.2.diff k.2.2.2.2, k.1.1.diff k.2.2.2.1, k.1.2.diff k.2.2.2.2, k.2.1.1.diff k.2.2.2.1, k.2.1.2.diff k.2.2.2.2⟩)
  obtain ⟨s1, z1, s2, z2, s3, z3, v, h1, h2, h3, h4, h5, h6, h7, w3, f3', u1, u2, u3⟩ := sums_word k0 k1 k2
  exact ⟨x0, y0, q0, x1, y1, q1, x2, y2, q2, l0, r0, d0, m0, t0, p0, l1, r1, d1, m1, t1, p1, l2, r2, d2, m2, t2, p2, s1, z1, s2, z2, s3, z3, v, ⟨_, _, a1, a2, a3, a4, a5⟩, ⟨_, _, b1, b2, b3, b4, b5⟩, ⟨_, _, c1, c2, c3, c4, c5⟩, ⟨⟨e1, e2⟩, e3, e4, e5, e6, e7, e8⟩, ⟨⟨f1, f2⟩, f3, f4, f5, f6, f7, f8⟩, ⟨⟨g1, g2⟩, g3, g4, g5, g6, g7, g8⟩, ⟨h1, h2, h3, h4, h5, h6, h7⟩, w3, f3', u1, u2, u3⟩

/-- What Fast answers. -/
def CFastR (ax ay bx by' cx cy dx dy : Nat) (z : Int) (t : Bool) : Prop :=
  (t = true → P4 ax ay bx by' cx cy dx dy ∧ z = sgq (S4 ax ay bx by' cx cy dx dy)) ∧ (t = false → z = 0) ∧ (P4 ax ay bx by' cx cy dx dy → Sm8 ax ay bx by' cx cy dx dy → t = true)

/-- The points, and the rows. -/
def FR (w W : World) (ax ay bx by' cx cy dx dy b : Nat) (rows : Array Value) : Prop := B4 w W ax ay bx by' cx cy dx dy ∧ CB W b rows 49
theorem FR.drew {w W : World} {ax ay bx by' cx cy dx dy b : Nat} {rows : Array Value} (h : FR w W ax ay bx by' cx cy dx dy b rows) : FR w W.drew ax ay bx by' cx cy dx dy b rows := ⟨h.1.drew, h.2.drew⟩
theorem FR.later {w W W' : World} {ax ay bx by' cx cy dx dy b : Nat} {rows : Array Value} (h : FR w W ax ay bx by' cx cy dx dy b rows) (hb : Below W.heap.size W W') : FR w W' ax ay bx by' cx cy dx dy b rows := ⟨h.1.later hb, h.2.later hb⟩

/-- Whole coordinates, in a row of the call's own. -/
theorem whole4 (ax ay bx by' cx cy dx dy : Nat) (w : World) (hp : P4 ax ay bx by' cx cy dx dy) :
    Calls Try.prog 30 #[.slice (some ⟨w.heap.size, 0, none⟩) 4 4] (w.alloc (.cells #[.float .f64 ax, .float .f64 ay, .float .f64 bx, .float .f64 by', .float .f64 cx, .float .f64 cy, .float .f64 dx, .float .f64 dy] 24)) fun e w' => (∃ t, e = .returned (.bool t) ∧ (t = true ↔ Wh ax ay bx by' cx cy dx dy)) ∧ Below w.heap.size w w' := by
  have hb : Below w.heap.size w (w.alloc (.cells #[.float .f64 ax, .float .f64 ay, .float .f64 bx, .float .f64 by', .float .f64 cx, .float .f64 cy, .float .f64 dx, .float .f64 dy] 24)) := (Below.refl _ w).alloc (Nat.le_refl _) _
  refine (whole_walk w.heap.size 4 4 (at4 ax bx cx dx) (at4 ay by' cy dy) _ (four ⟨by go_simp; rfl, by go_simp; rfl⟩ ⟨by go_simp; rfl, by go_simp; rfl⟩ ⟨by go_simp; rfl, by go_simp; rfl⟩ ⟨by go_simp; rfl, by go_simp; rfl⟩) (four hp.1.1 hp.1.2.1 hp.1.2.2 hp.2) (by omega)).mono ?_
  rintro e w' ⟨⟨t, rfl, ht⟩, hb'⟩
  refine ⟨⟨t, rfl, ?_⟩, below_step hb hb'⟩
  rw [ht]
  exact ⟨fun h => ⟨h 0 (by omega), h 1 (by omega), h 2 (by omega), h 3 (by omega)⟩, fun h => four h.1 h.2.1 h.2.2.1 h.2.2.2⟩

set_option maxRecDepth 100000 in
set_option maxHeartbeats 8000000 in
theorem cfast_any (ax ay bx by' cx cy dx dy : Nat) (w : World) (hw : W8 ax ay bx by' cx cy dx dy) :
    Calls Try.prog 14 #[pv ax ay, pv bx by', pv cx cy, pv dx dy] w fun e w' => (∃ z t, e = .returned (.tuple #[.int .i64 z, .bool t]) ∧ CFastR ax ay bx by' cx cy dx dy z t) ∧ Below w.heap.size w w' := by
  have HW : Hid (W8 ax ay bx by' cx cy dx dy) := hw
  clear hw
  go_enter Try.func14, Try.ntmps14
  go_wp2_with fail
  refine (has4' ax ay bx by' cx cy dx dy w HW.out).mono ?_
  rintro e w1 ⟨⟨t, rfl, ht⟩, hB⟩
  have HB1 : Hid (Below w.heap.size w w1) := hB.bel
  have HT : Hid (t = true ↔ P4 ax ay bx by' cx cy dx dy) := ht
  clear ht
  cases t
  · clear hB
    go_wp2
    go_ret2
    exact ⟨⟨0, false, rfl, fun h => Bool.noConfusion h, fun _ => rfl, fun h => Bool.noConfusion (HT.out.2 h)⟩, HB1.out⟩
  · have HP : Hid (P4 ax ay bx by' cx cy dx dy) := HT.out.1 rfl
    obtain ⟨za0, za1, zb0, zb1, zc0, zc1, zd0, zd1, _⟩ := hB
    obtain ⟨x0, y0, q0, x1, y1, q1, x2, y2, q2, l0, r0, d0, m0, t0, p0, l1, r1, d1, m1, t1, p1, l2, r2, d2, m2, t2, p2, s1, z1, s2, z2, s3, z3, v, hr0, hr1, hr2, ht0, ht1, ht2, hz, ws, fs, hsg, hsw, hkn⟩ := cfast_words HP.out
    have HR0 : Hid (RowE ax ay dx dy x0 y0 q0) := hr0
    have HR1 : Hid (RowE bx by' dx dy x1 y1 q1) := hr1
    have HR2 : Hid (RowE cx cy dx dy x2 y2 q2) := hr2
    have HT0 : Hid (TermE q0 x1 y1 x2 y2 l0 r0 d0 m0 t0 p0) := ht0
    have HT1 : Hid (TermE q1 x2 y2 x0 y0 l1 r1 d1 m1 t1 p1) := ht1
    have HT2 : Hid (TermE q2 x0 y0 x1 y1 l2 r2 d2 m2 t2 p2) := ht2
    have HZ : Hid (floatBits .add .f64 0 t0 = some s1 ∧ floatBits .add .f64 0 p0 = some z1 ∧ floatBits .add .f64 s1 t1 = some s2 ∧ floatBits .add .f64 z1 p1 = some z2 ∧ floatBits .add .f64 s2 t2 = some s3 ∧ floatBits .add .f64 z2 p2 = some z3 ∧ floatBits .mul .f64 4386506037058863104 z3 = some v) := hz
    have HC : Hid (∀ w, Calls Try.prog 31 #[.float .f64 s3, .float .f64 0] w fun e w' => e = .returned (.int .i64 (sgq (fval s3))) ∧ w' = w) := fun w => compare_zero s3 w fs
    have HAs : Hid (∀ w, Calls Try.prog 29 #[.float .f64 s3] w fun e w' => e = .returned (.float .f64 (frung s3)) ∧ w' = w) := fun w => abs_any s3 w ws
    obtain ⟨fl0, hfl0⟩ : ∃ f, Hid (frung l0 = f) := ⟨_, rfl⟩
    have HAl0 : Hid (∀ w, Calls Try.prog 29 #[.float .f64 l0] w fun e w' => e = .returned (.float .f64 fl0) ∧ w' = w) := fun w => by rw [← hfl0.out]; exact abs_any l0 w HT0.out.2.2.2.2.2.1
    obtain ⟨fr0, hfr0⟩ : ∃ f, Hid (frung r0 = f) := ⟨_, rfl⟩
    have HAr0 : Hid (∀ w, Calls Try.prog 29 #[.float .f64 r0] w fun e w' => e = .returned (.float .f64 fr0) ∧ w' = w) := fun w => by rw [← hfr0.out]; exact abs_any r0 w HT0.out.2.2.2.2.2.2
    obtain ⟨fl1, hfl1⟩ : ∃ f, Hid (frung l1 = f) := ⟨_, rfl⟩
    have HAl1 : Hid (∀ w, Calls Try.prog 29 #[.float .f64 l1] w fun e w' => e = .returned (.float .f64 fl1) ∧ w' = w) := fun w => by rw [← hfl1.out]; exact abs_any l1 w HT1.out.2.2.2.2.2.1
    obtain ⟨fr1, hfr1⟩ : ∃ f, Hid (frung r1 = f) := ⟨_, rfl⟩
    have HAr1 : Hid (∀ w, Calls Try.prog 29 #[.float .f64 r1] w fun e w' => e = .returned (.float .f64 fr1) ∧ w' = w) := fun w => by rw [← hfr1.out]; exact abs_any r1 w HT1.out.2.2.2.2.2.2
    obtain ⟨fl2, hfl2⟩ : ∃ f, Hid (frung l2 = f) := ⟨_, rfl⟩
    have HAl2 : Hid (∀ w, Calls Try.prog 29 #[.float .f64 l2] w fun e w' => e = .returned (.float .f64 fl2) ∧ w' = w) := fun w => by rw [← hfl2.out]; exact abs_any l2 w HT2.out.2.2.2.2.2.1
    obtain ⟨fr2, hfr2⟩ : ∃ f, Hid (frung r2 = f) := ⟨_, rfl⟩
    have HAr2 : Hid (∀ w, Calls Try.prog 29 #[.float .f64 r2] w fun e w' => e = .returned (.float .f64 fr2) ∧ w' = w) := fun w => by rw [← hfr2.out]; exact abs_any r2 w HT2.out.2.2.2.2.2.2
    obtain ⟨tb, htb⟩ : ∃ tb, (FloatKind.f64.format.order (frung s3) v == some .lt) = tb := ⟨_, rfl⟩
    obtain ⟨tb2, htb2⟩ : ∃ tb, (FloatKind.f64.format.order z3 4845873199050653696 == some .lt) = tb := ⟨_, rfl⟩
    have HSG : Hid (tb = false → sgq (fval s3) = sgq (S4 ax ay bx by' cx cy dx dy)) := by rw [← htb]; exact hsg
    have HSW : Hid (tb2 = true → Wh ax ay bx by' cx cy dx dy → sgq (fval s3) = sgq (S4 ax ay bx by' cx cy dx dy)) := by rw [← htb2]; exact hsw
    have HKN : Hid (Sm8 ax ay bx by' cx cy dx dy → tb2 = true) := by rw [← htb2]; exact hkn
    clear hr0 hr1 hr2 ht0 ht1 ht2 hz ws fs hsg hsw hkn HT
    generalize frung s3 = fs at *
    generalize sgq (fval s3) = sg at *
    go_wp2_with fail
    refine wp_region_held_drew (S := (fun W => W.cell? ⟨w.heap.size, 0, none⟩ = some (.float .f64 ax) ∧ W.cell? ⟨w.heap.size, 1, none⟩ = some (.float .f64 ay) ∧ W.cell? ⟨w.heap.size + 1, 0, none⟩ = some (.float .f64 bx) ∧ W.cell? ⟨w.heap.size + 1, 1, none⟩ = some (.float .f64 by') ∧ W.cell? ⟨w.heap.size + 1 + 1, 0, none⟩ = some (.float .f64 cx) ∧ W.cell? ⟨w.heap.size + 1 + 1, 1, none⟩ = some (.float .f64 cy) ∧ W.cell? ⟨w.heap.size + 1 + 1 + 1, 0, none⟩ = some (.float .f64 dx) ∧ W.cell? ⟨w.heap.size + 1 + 1 + 1, 1, none⟩ = some (.float .f64 dy) ∧ Below w.heap.size w W)) (by kernel_rfl) ⟨za0, za1, zb0, zb1, zc0, zc1, zd0, zd1, HB1.out.drew⟩ (fun hS => ?_)
    refine take_at (i := 0) (d := some 26) (v := .agg #[.float .f64 ax, .float .f64 ay]) (by kernel_rfl) (by kernel_rfl) (by kernel_rfl) (by kernel_rfl) (fun _ _ _ h => h) ?_ hS ?_
    · intro o ho
      simp only [List.getElem?_toArray, List.getElem?_cons_zero, Option.some.injEq] at ho
      subst ho
      refine Or.inl ⟨by rfl, ?_⟩
      intro w hSw
      (try dsimp only at hSw)
      go_simp
    simp only [Act.put, List.setIfInBounds_toArray, List.set_cons_zero, List.set_cons_succ]
    refine take_at (i := 1) (d := some 27) (v := .agg #[.float .f64 dx, .float .f64 dy]) (by kernel_rfl) (by kernel_rfl) (by kernel_rfl) (by kernel_rfl) (fun _ _ _ h => h) ?_ hS ?_
    · intro o ho
      simp only [List.getElem?_toArray, List.getElem?_cons_succ, List.getElem?_cons_zero, Option.some.injEq] at ho
      subst ho
      refine Or.inl ⟨by rfl, ?_⟩
      intro w hSw
      (try dsimp only at hSw)
      go_simp
    simp only [Act.put, List.setIfInBounds_toArray, List.set_cons_zero, List.set_cons_succ]
    refine take_at (i := 3) (d := some 29) (v := .agg #[.float .f64 bx, .float .f64 by']) (by kernel_rfl) (by kernel_rfl) (by kernel_rfl) (by kernel_rfl) (fun _ _ _ h => h) ?_ hS ?_
    · intro o ho
      simp only [List.getElem?_toArray, List.getElem?_cons_succ, List.getElem?_cons_zero, Option.some.injEq] at ho
      subst ho
      refine Or.inl ⟨by rfl, ?_⟩
      intro w hSw
      (try dsimp only at hSw)
      go_simp
    simp only [Act.put, List.setIfInBounds_toArray, List.set_cons_zero, List.set_cons_succ]
    refine take_at (i := 4) (d := some 30) (v := .agg #[.float .f64 dx, .float .f64 dy]) (by kernel_rfl) (by kernel_rfl) (by kernel_rfl) (by kernel_rfl) (fun _ _ _ h => h) ?_ hS ?_
    · intro o ho
      simp only [List.getElem?_toArray, List.getElem?_cons_succ, List.getElem?_cons_zero, Option.some.injEq] at ho
      subst ho
      refine Or.inl ⟨by rfl, ?_⟩
      intro w hSw
      (try dsimp only at hSw)
      go_simp
    simp only [Act.put, List.setIfInBounds_toArray, List.set_cons_zero, List.set_cons_succ]
    refine take_at (i := 6) (d := some 32) (v := .agg #[.float .f64 cx, .float .f64 cy]) (by kernel_rfl) (by kernel_rfl) (by kernel_rfl) (by kernel_rfl) (fun _ _ _ h => h) ?_ hS ?_
    · intro o ho
      simp only [List.getElem?_toArray, List.getElem?_cons_succ, List.getElem?_cons_zero, Option.some.injEq] at ho
      subst ho
      refine Or.inl ⟨by rfl, ?_⟩
      intro w hSw
      (try dsimp only at hSw)
      go_simp
    simp only [Act.put, List.setIfInBounds_toArray, List.set_cons_zero, List.set_cons_succ]
    refine take_at (i := 7) (d := some 33) (v := .agg #[.float .f64 dx, .float .f64 dy]) (by kernel_rfl) (by kernel_rfl) (by kernel_rfl) (by kernel_rfl) (fun _ _ _ h => h) ?_ hS ?_
    · intro o ho
      simp only [List.getElem?_toArray, List.getElem?_cons_succ, List.getElem?_cons_zero, Option.some.injEq] at ho
      subst ho
      refine Or.inl ⟨by rfl, ?_⟩
      intro w hSw
      (try dsimp only at hSw)
      go_simp
    simp only [Act.put, List.setIfInBounds_toArray, List.set_cons_zero, List.set_cons_succ]
    clear za0 za1 zb0 zb1 zc0 zc1 zd0 zd1
    refine draw1 (f := 1) (n := 4) (al := 10) (fun k => if k = 0 then 2 else if k = 1 then 5 else if k = 2 then 8 else 9) (fun (x : Bool) (k : Nat) => #[true, true, decide (1 ≤ k), true, true, decide (2 ≤ k), true, true, decide (3 ≤ k), decide (4 ≤ k), x, false]) (fun (x : Bool) (k : Nat) (a : Act) (W : World) => ∃ (v10 c1 c2 c3 c4 : Value) (b : Nat), a = { tmps := #[.agg #[.float .f64 ax, .float .f64 ay], .agg #[.float .f64 bx, .float .f64 by'], .agg #[.float .f64 cx, .float .f64 cy], .agg #[.float .f64 dx, .float .f64 dy], .pointer (some ⟨w.heap.size, 0, none⟩), .pointer (some ⟨w.heap.size + 1, 0, none⟩), .pointer (some ⟨w.heap.size + 1 + 1, 0, none⟩), .pointer (some ⟨w.heap.size + 1 + 1 + 1, 0, none⟩), .int .i64 0, .bool false, v10, undef, undef, undef, undef, undef, undef, undef, undef, .agg #[.float .f64 ax, .float .f64 ay], .agg #[.float .f64 bx, .float .f64 by'], .agg #[.float .f64 cx, .float .f64 cy], .agg #[.float .f64 dx, .float .f64 dy], .slice (some ⟨w.heap.size + 1 + 1 + 1 + 1, 0, none⟩) 4 4, .bool true, .bool false, .agg #[.float .f64 ax, .float .f64 ay], .agg #[.float .f64 dx, .float .f64 dy], c1, .agg #[.float .f64 bx, .float .f64 by'], .agg #[.float .f64 dx, .float .f64 dy], c2, .agg #[.float .f64 cx, .float .f64 cy], .agg #[.float .f64 dx, .float .f64 dy], c3, c4, undef, undef, undef, undef, undef, undef, undef, undef, undef, undef, undef, undef, undef, undef, undef, undef, undef, undef, undef, undef, undef, undef, undef, undef, undef, undef, undef, undef, undef, undef, undef, undef, undef, undef, undef, undef, undef, undef, undef, undef, undef, undef, undef, undef, undef, undef, undef, undef, undef, undef, undef, undef, undef, undef, undef, undef, undef, undef, undef, undef, undef, undef, undef, undef, undef, undef, undef, undef, undef, undef], defers := [] } ∧ (W.cell? ⟨w.heap.size, 0, none⟩ = some (.float .f64 ax) ∧ W.cell? ⟨w.heap.size, 1, none⟩ = some (.float .f64 ay) ∧ W.cell? ⟨w.heap.size + 1, 0, none⟩ = some (.float .f64 bx) ∧ W.cell? ⟨w.heap.size + 1, 1, none⟩ = some (.float .f64 by') ∧ W.cell? ⟨w.heap.size + 1 + 1, 0, none⟩ = some (.float .f64 cx) ∧ W.cell? ⟨w.heap.size + 1 + 1, 1, none⟩ = some (.float .f64 cy) ∧ W.cell? ⟨w.heap.size + 1 + 1 + 1, 0, none⟩ = some (.float .f64 dx) ∧ W.cell? ⟨w.heap.size + 1 + 1 + 1, 1, none⟩ = some (.float .f64 dy) ∧ Below w.heap.size w W) ∧ (x = true → v10 = .pointer (some ⟨b, 0, none⟩) ∧ CB W b #[.float .f64 0, .float .f64 0, .float .f64 0, .float .f64 0, .float .f64 0, .float .f64 0, .float .f64 0, .float .f64 0, .float .f64 0] 49 ∧ w.heap.size + 1 + 1 + 1 < b) ∧ (1 ≤ k → c1 = (.agg #[.float .f64 x0, .float .f64 y0, .float .f64 q0])) ∧ (2 ≤ k → c2 = (.agg #[.float .f64 x1, .float .f64 y1, .float .f64 q1])) ∧ (3 ≤ k → c3 = (.agg #[.float .f64 x2, .float .f64 y2, .float .f64 q2])) ∧ (4 ≤ k → c4 = (.agg #[.float .f64 x0, .float .f64 y0, .float .f64 q0, .float .f64 x1, .float .f64 y1, .float .f64 q1, .float .f64 x2, .float .f64 y2, .float .f64 q2]))) ?_ ?_ ?_ ?_ ?_ ?_ 5 false 0 _ _ (by omega) (by decide) ?_
    · intro x k hk hx
      have h5 : k = 0 ∨ k = 1 ∨ k = 2 ∨ k = 3 ∨ k = 4 := by omega
      rcases h5 with rfl | rfl | rfl | rfl | rfl <;> cases x <;> first | exact absurd (hx rfl) (by decide) | (show _ = _; kernel_rfl)
    · intro x k hk
      have h5 : k = 0 ∨ k = 1 ∨ k = 2 ∨ k = 3 := by omega
      rcases h5 with rfl | rfl | rfl | rfl <;> cases x <;> rfl
    · intro k hk
      have h5 : k = 0 ∨ k = 1 ∨ k = 2 ∨ k = 3 ∨ k = 4 := by omega
      rcases h5 with rfl | rfl | rfl | rfl | rfl <;> rfl
    · intro x k hk
      have h5 : k = 0 ∨ k = 1 ∨ k = 2 ∨ k = 3 := by omega
      rcases h5 with rfl | rfl | rfl | rfl
      · refine ⟨_, rfl, ?_⟩
        intro a W hI K' hK
        obtain ⟨v10, c1, c2, c3, c4, b, rfl, hS, hv, k1, k2, k3, k4⟩ := hI
        go_simp
        go_wp2_with fail
        refine (nearRow_is ax ay dx dy x0 y0 q0 _ HR0.out).mono ?_
        rintro e wx ⟨rfl, hb⟩
        have hS2 : wx.cell? ⟨w.heap.size, 0, none⟩ = some (.float .f64 ax) ∧ wx.cell? ⟨w.heap.size, 1, none⟩ = some (.float .f64 ay) ∧ wx.cell? ⟨w.heap.size + 1, 0, none⟩ = some (.float .f64 bx) ∧ wx.cell? ⟨w.heap.size + 1, 1, none⟩ = some (.float .f64 by') ∧ wx.cell? ⟨w.heap.size + 1 + 1, 0, none⟩ = some (.float .f64 cx) ∧ wx.cell? ⟨w.heap.size + 1 + 1, 1, none⟩ = some (.float .f64 cy) ∧ wx.cell? ⟨w.heap.size + 1 + 1 + 1, 0, none⟩ = some (.float .f64 dx) ∧ wx.cell? ⟨w.heap.size + 1 + 1 + 1, 1, none⟩ = some (.float .f64 dy) ∧ Below w.heap.size w wx := ⟨box_cell hb hS.1, box_cell hb hS.2.1, box_cell hb hS.2.2.1, box_cell hb hS.2.2.2.1, box_cell hb hS.2.2.2.2.1, box_cell hb hS.2.2.2.2.2.1, box_cell hb hS.2.2.2.2.2.2.1, box_cell hb hS.2.2.2.2.2.2.2.1, below_step hS.2.2.2.2.2.2.2.2 hb⟩
        go_wp2_with fail
        exact hK.out _ _ hS2 ⟨v10, _, c2, c3, c4, b, rfl, hS2, fun h => ⟨(hv h).1, (hv h).2.1.later hb, (hv h).2.2⟩, fun _ => rfl, fun h => by omega, fun h => by omega, fun h => by omega⟩
      · refine ⟨_, rfl, ?_⟩
        intro a W hI K' hK
        obtain ⟨v10, c1, c2, c3, c4, b, rfl, hS, hv, k1, k2, k3, k4⟩ := hI
        obtain rfl := k1 (by omega)
        go_simp
        go_wp2_with fail
        refine (nearRow_is bx by' dx dy x1 y1 q1 _ HR1.out).mono ?_
        rintro e wx ⟨rfl, hb⟩
        have hS2 : wx.cell? ⟨w.heap.size, 0, none⟩ = some (.float .f64 ax) ∧ wx.cell? ⟨w.heap.size, 1, none⟩ = some (.float .f64 ay) ∧ wx.cell? ⟨w.heap.size + 1, 0, none⟩ = some (.float .f64 bx) ∧ wx.cell? ⟨w.heap.size + 1, 1, none⟩ = some (.float .f64 by') ∧ wx.cell? ⟨w.heap.size + 1 + 1, 0, none⟩ = some (.float .f64 cx) ∧ wx.cell? ⟨w.heap.size + 1 + 1, 1, none⟩ = some (.float .f64 cy) ∧ wx.cell? ⟨w.heap.size + 1 + 1 + 1, 0, none⟩ = some (.float .f64 dx) ∧ wx.cell? ⟨w.heap.size + 1 + 1 + 1, 1, none⟩ = some (.float .f64 dy) ∧ Below w.heap.size w wx := ⟨box_cell hb hS.1, box_cell hb hS.2.1, box_cell hb hS.2.2.1, box_cell hb hS.2.2.2.1, box_cell hb hS.2.2.2.2.1, box_cell hb hS.2.2.2.2.2.1, box_cell hb hS.2.2.2.2.2.2.1, box_cell hb hS.2.2.2.2.2.2.2.1, below_step hS.2.2.2.2.2.2.2.2 hb⟩
        go_wp2_with fail
        exact hK.out _ _ hS2 ⟨v10, _, _, c3, c4, b, rfl, hS2, fun h => ⟨(hv h).1, (hv h).2.1.later hb, (hv h).2.2⟩, fun _ => rfl, fun _ => rfl, fun h => by omega, fun h => by omega⟩
      · refine ⟨_, rfl, ?_⟩
        intro a W hI K' hK
        obtain ⟨v10, c1, c2, c3, c4, b, rfl, hS, hv, k1, k2, k3, k4⟩ := hI
        obtain rfl := k1 (by omega)
        obtain rfl := k2 (by omega)
        go_simp
        go_wp2_with fail
        refine (nearRow_is cx cy dx dy x2 y2 q2 _ HR2.out).mono ?_
        rintro e wx ⟨rfl, hb⟩
        have hS2 : wx.cell? ⟨w.heap.size, 0, none⟩ = some (.float .f64 ax) ∧ wx.cell? ⟨w.heap.size, 1, none⟩ = some (.float .f64 ay) ∧ wx.cell? ⟨w.heap.size + 1, 0, none⟩ = some (.float .f64 bx) ∧ wx.cell? ⟨w.heap.size + 1, 1, none⟩ = some (.float .f64 by') ∧ wx.cell? ⟨w.heap.size + 1 + 1, 0, none⟩ = some (.float .f64 cx) ∧ wx.cell? ⟨w.heap.size + 1 + 1, 1, none⟩ = some (.float .f64 cy) ∧ wx.cell? ⟨w.heap.size + 1 + 1 + 1, 0, none⟩ = some (.float .f64 dx) ∧ wx.cell? ⟨w.heap.size + 1 + 1 + 1, 1, none⟩ = some (.float .f64 dy) ∧ Below w.heap.size w wx := ⟨box_cell hb hS.1, box_cell hb hS.2.1, box_cell hb hS.2.2.1, box_cell hb hS.2.2.2.1, box_cell hb hS.2.2.2.2.1, box_cell hb hS.2.2.2.2.2.1, box_cell hb hS.2.2.2.2.2.2.1, box_cell hb hS.2.2.2.2.2.2.2.1, below_step hS.2.2.2.2.2.2.2.2 hb⟩
        go_wp2_with fail
        exact hK.out _ _ hS2 ⟨v10, _, _, _, c4, b, rfl, hS2, fun h => ⟨(hv h).1, (hv h).2.1.later hb, (hv h).2.2⟩, fun _ => rfl, fun _ => rfl, fun _ => rfl, fun h => by omega⟩
      · refine ⟨_, rfl, ?_⟩
        intro a W hI K' hK
        obtain ⟨v10, c1, c2, c3, c4, b, rfl, hS, hv, k1, k2, k3, k4⟩ := hI
        obtain rfl := k1 (by omega)
        obtain rfl := k2 (by omega)
        obtain rfl := k3 (by omega)
        go_simp
        go_wp2_with fail
        exact hK.out _ _ hS ⟨v10, _, _, _, _, b, rfl, hS, hv, fun _ => rfl, fun _ => rfl, fun _ => rfl, fun _ => rfl⟩
    · intro k hk
      refine ⟨_, rfl, ?_⟩
      intro a W hI K' hK
      obtain ⟨v10, c1, c2, c3, c4, b, rfl, hS, hv, k1, k2, k3, k4⟩ := hI
      have hb : Below W.heap.size W (W.alloc (.cells #[.float .f64 0, .float .f64 0, .float .f64 0, .float .f64 0, .float .f64 0, .float .f64 0, .float .f64 0, .float .f64 0, .float .f64 0] 49)) := (Below.refl _ W).alloc (Nat.le_refl _) _
      have hlt2 : w.heap.size + 1 + 1 + 1 < W.heap.size := World.block_lt_of_cell? _ _ hS.2.2.2.2.2.2.1
      have hS2 : (W.alloc (.cells #[.float .f64 0, .float .f64 0, .float .f64 0, .float .f64 0, .float .f64 0, .float .f64 0, .float .f64 0, .float .f64 0, .float .f64 0] 49)).cell? ⟨w.heap.size, 0, none⟩ = some (.float .f64 ax) ∧ (W.alloc (.cells #[.float .f64 0, .float .f64 0, .float .f64 0, .float .f64 0, .float .f64 0, .float .f64 0, .float .f64 0, .float .f64 0, .float .f64 0] 49)).cell? ⟨w.heap.size, 1, none⟩ = some (.float .f64 ay) ∧ (W.alloc (.cells #[.float .f64 0, .float .f64 0, .float .f64 0, .float .f64 0, .float .f64 0, .float .f64 0, .float .f64 0, .float .f64 0, .float .f64 0] 49)).cell? ⟨w.heap.size + 1, 0, none⟩ = some (.float .f64 bx) ∧ (W.alloc (.cells #[.float .f64 0, .float .f64 0, .float .f64 0, .float .f64 0, .float .f64 0, .float .f64 0, .float .f64 0, .float .f64 0, .float .f64 0] 49)).cell? ⟨w.heap.size + 1, 1, none⟩ = some (.float .f64 by') ∧ (W.alloc (.cells #[.float .f64 0, .float .f64 0, .float .f64 0, .float .f64 0, .float .f64 0, .float .f64 0, .float .f64 0, .float .f64 0, .float .f64 0] 49)).cell? ⟨w.heap.size + 1 + 1, 0, none⟩ = some (.float .f64 cx) ∧ (W.alloc (.cells #[.float .f64 0, .float .f64 0, .float .f64 0, .float .f64 0, .float .f64 0, .float .f64 0, .float .f64 0, .float .f64 0, .float .f64 0] 49)).cell? ⟨w.heap.size + 1 + 1, 1, none⟩ = some (.float .f64 cy) ∧ (W.alloc (.cells #[.float .f64 0, .float .f64 0, .float .f64 0, .float .f64 0, .float .f64 0, .float .f64 0, .float .f64 0, .float .f64 0, .float .f64 0] 49)).cell? ⟨w.heap.size + 1 + 1 + 1, 0, none⟩ = some (.float .f64 dx) ∧ (W.alloc (.cells #[.float .f64 0, .float .f64 0, .float .f64 0, .float .f64 0, .float .f64 0, .float .f64 0, .float .f64 0, .float .f64 0, .float .f64 0] 49)).cell? ⟨w.heap.size + 1 + 1 + 1, 1, none⟩ = some (.float .f64 dy) ∧ Below w.heap.size w (W.alloc (.cells #[.float .f64 0, .float .f64 0, .float .f64 0, .float .f64 0, .float .f64 0, .float .f64 0, .float .f64 0, .float .f64 0, .float .f64 0] 49)) := ⟨box_cell hb hS.1, box_cell hb hS.2.1, box_cell hb hS.2.2.1, box_cell hb hS.2.2.2.1, box_cell hb hS.2.2.2.2.1, box_cell hb hS.2.2.2.2.2.1, box_cell hb hS.2.2.2.2.2.2.1, box_cell hb hS.2.2.2.2.2.2.2.1, below_step hS.2.2.2.2.2.2.2.2 hb⟩
      go_simp
      go_wp2_with fail
      exact hK.out _ _ hS2 ⟨_, c1, c2, c3, c4, W.heap.size, rfl, hS2, fun _ => ⟨rfl, CB.new W _ _, hlt2⟩, k1, k2, k3, k4⟩
    · intro a W hI
      obtain ⟨v10, c1, c2, c3, c4, b, rfl, hS, hv, k1, k2, k3, k4⟩ := hI
      obtain ⟨rfl, hc, hl⟩ := hv rfl
      obtain rfl := k1 (by omega)
      obtain rfl := k2 (by omega)
      obtain rfl := k3 (by omega)
      obtain rfl := k4 (by omega)
      clear k1 k2 k3 k4
      have f0 := hc.frozen 0
      have f1 := hc.frozen 1
      have f2 := hc.frozen 2
      have f3 := hc.frozen 3
      have f4 := hc.frozen 4
      have f5 := hc.frozen 5
      have f6 := hc.frozen 6
      have f7 := hc.frozen 7
      have f8 := hc.frozen 8
      have g0 := hc.cell 0 (by decide)
      have g1 := hc.cell 1 (by decide)
      have g2 := hc.cell 2 (by decide)
      have g3 := hc.cell 3 (by decide)
      have g4 := hc.cell 4 (by decide)
      have g5 := hc.cell 5 (by decide)
      have g6 := hc.cell 6 (by decide)
      have g7 := hc.cell 7 (by decide)
      have g8 := hc.cell 8 (by decide)
      have hS2 : (((((((((W.setCell ⟨b, 0, none⟩ (.float .f64 x0)).setCell ⟨b, 1, none⟩ (.float .f64 y0)).setCell ⟨b, 2, none⟩ (.float .f64 q0)).setCell ⟨b, 3, none⟩ (.float .f64 x1)).setCell ⟨b, 4, none⟩ (.float .f64 y1)).setCell ⟨b, 5, none⟩ (.float .f64 q1)).setCell ⟨b, 6, none⟩ (.float .f64 x2)).setCell ⟨b, 7, none⟩ (.float .f64 y2)).setCell ⟨b, 8, none⟩ (.float .f64 q2)).cell? ⟨w.heap.size, 0, none⟩ = some (.float .f64 ax) ∧ (((((((((W.setCell ⟨b, 0, none⟩ (.float .f64 x0)).setCell ⟨b, 1, none⟩ (.float .f64 y0)).setCell ⟨b, 2, none⟩ (.float .f64 q0)).setCell ⟨b, 3, none⟩ (.float .f64 x1)).setCell ⟨b, 4, none⟩ (.float .f64 y1)).setCell ⟨b, 5, none⟩ (.float .f64 q1)).setCell ⟨b, 6, none⟩ (.float .f64 x2)).setCell ⟨b, 7, none⟩ (.float .f64 y2)).setCell ⟨b, 8, none⟩ (.float .f64 q2)).cell? ⟨w.heap.size, 1, none⟩ = some (.float .f64 ay) ∧ (((((((((W.setCell ⟨b, 0, none⟩ (.float .f64 x0)).setCell ⟨b, 1, none⟩ (.float .f64 y0)).setCell ⟨b, 2, none⟩ (.float .f64 q0)).setCell ⟨b, 3, none⟩ (.float .f64 x1)).setCell ⟨b, 4, none⟩ (.float .f64 y1)).setCell ⟨b, 5, none⟩ (.float .f64 q1)).setCell ⟨b, 6, none⟩ (.float .f64 x2)).setCell ⟨b, 7, none⟩ (.float .f64 y2)).setCell ⟨b, 8, none⟩ (.float .f64 q2)).cell? ⟨w.heap.size + 1, 0, none⟩ = some (.float .f64 bx) ∧ (((((((((W.setCell ⟨b, 0, none⟩ (.float .f64 x0)).setCell ⟨b, 1, none⟩ (.float .f64 y0)).setCell ⟨b, 2, none⟩ (.float .f64 q0)).setCell ⟨b, 3, none⟩ (.float .f64 x1)).setCell ⟨b, 4, none⟩ (.float .f64 y1)).setCell ⟨b, 5, none⟩ (.float .f64 q1)).setCell ⟨b, 6, none⟩ (.float .f64 x2)).setCell ⟨b, 7, none⟩ (.float .f64 y2)).setCell ⟨b, 8, none⟩ (.float .f64 q2)).cell? ⟨w.heap.size + 1, 1, none⟩ = some (.float .f64 by') ∧ (((((((((W.setCell ⟨b, 0, none⟩ (.float .f64 x0)).setCell ⟨b, 1, none⟩ (.float .f64 y0)).setCell ⟨b, 2, none⟩ (.float .f64 q0)).setCell ⟨b, 3, none⟩ (.float .f64 x1)).setCell ⟨b, 4, none⟩ (.float .f64 y1)).setCell ⟨b, 5, none⟩ (.float .f64 q1)).setCell ⟨b, 6, none⟩ (.float .f64 x2)).setCell ⟨b, 7, none⟩ (.float .f64 y2)).setCell ⟨b, 8, none⟩ (.float .f64 q2)).cell? ⟨w.heap.size + 1 + 1, 0, none⟩ = some (.float .f64 cx) ∧ (((((((((W.setCell ⟨b, 0, none⟩ (.float .f64 x0)).setCell ⟨b, 1, none⟩ (.float .f64 y0)).setCell ⟨b, 2, none⟩ (.float .f64 q0)).setCell ⟨b, 3, none⟩ (.float .f64 x1)).setCell ⟨b, 4, none⟩ (.float .f64 y1)).setCell ⟨b, 5, none⟩ (.float .f64 q1)).setCell ⟨b, 6, none⟩ (.float .f64 x2)).setCell ⟨b, 7, none⟩ (.float .f64 y2)).setCell ⟨b, 8, none⟩ (.float .f64 q2)).cell? ⟨w.heap.size + 1 + 1, 1, none⟩ = some (.float .f64 cy) ∧ (((((((((W.setCell ⟨b, 0, none⟩ (.float .f64 x0)).setCell ⟨b, 1, none⟩ (.float .f64 y0)).setCell ⟨b, 2, none⟩ (.float .f64 q0)).setCell ⟨b, 3, none⟩ (.float .f64 x1)).setCell ⟨b, 4, none⟩ (.float .f64 y1)).setCell ⟨b, 5, none⟩ (.float .f64 q1)).setCell ⟨b, 6, none⟩ (.float .f64 x2)).setCell ⟨b, 7, none⟩ (.float .f64 y2)).setCell ⟨b, 8, none⟩ (.float .f64 q2)).cell? ⟨w.heap.size + 1 + 1 + 1, 0, none⟩ = some (.float .f64 dx) ∧ (((((((((W.setCell ⟨b, 0, none⟩ (.float .f64 x0)).setCell ⟨b, 1, none⟩ (.float .f64 y0)).setCell ⟨b, 2, none⟩ (.float .f64 q0)).setCell ⟨b, 3, none⟩ (.float .f64 x1)).setCell ⟨b, 4, none⟩ (.float .f64 y1)).setCell ⟨b, 5, none⟩ (.float .f64 q1)).setCell ⟨b, 6, none⟩ (.float .f64 x2)).setCell ⟨b, 7, none⟩ (.float .f64 y2)).setCell ⟨b, 8, none⟩ (.float .f64 q2)).cell? ⟨w.heap.size + 1 + 1 + 1, 1, none⟩ = some (.float .f64 dy) ∧ Below w.heap.size w (((((((((W.setCell ⟨b, 0, none⟩ (.float .f64 x0)).setCell ⟨b, 1, none⟩ (.float .f64 y0)).setCell ⟨b, 2, none⟩ (.float .f64 q0)).setCell ⟨b, 3, none⟩ (.float .f64 x1)).setCell ⟨b, 4, none⟩ (.float .f64 y1)).setCell ⟨b, 5, none⟩ (.float .f64 q1)).setCell ⟨b, 6, none⟩ (.float .f64 x2)).setCell ⟨b, 7, none⟩ (.float .f64 y2)).setCell ⟨b, 8, none⟩ (.float .f64 q2)) := ⟨cell_set9 hS.1 (Nat.ne_of_lt (by omega : w.heap.size < b)) (.float .f64 x0) (.float .f64 y0) (.float .f64 q0) (.float .f64 x1) (.float .f64 y1) (.float .f64 q1) (.float .f64 x2) (.float .f64 y2) (.float .f64 q2), cell_set9 hS.2.1 (Nat.ne_of_lt (by omega : w.heap.size < b)) (.float .f64 x0) (.float .f64 y0) (.float .f64 q0) (.float .f64 x1) (.float .f64 y1) (.float .f64 q1) (.float .f64 x2) (.float .f64 y2) (.float .f64 q2), cell_set9 hS.2.2.1 (Nat.ne_of_lt (by omega : w.heap.size + 1 < b)) (.float .f64 x0) (.float .f64 y0) (.float .f64 q0) (.float .f64 x1) (.float .f64 y1) (.float .f64 q1) (.float .f64 x2) (.float .f64 y2) (.float .f64 q2), cell_set9 hS.2.2.2.1 (Nat.ne_of_lt (by omega : w.heap.size + 1 < b)) (.float .f64 x0) (.float .f64 y0) (.float .f64 q0) (.float .f64 x1) (.float .f64 y1) (.float .f64 q1) (.float .f64 x2) (.float .f64 y2) (.float .f64 q2), cell_set9 hS.2.2.2.2.1 (Nat.ne_of_lt (by omega : w.heap.size + 1 + 1 < b)) (.float .f64 x0) (.float .f64 y0) (.float .f64 q0) (.float .f64 x1) (.float .f64 y1) (.float .f64 q1) (.float .f64 x2) (.float .f64 y2) (.float .f64 q2), cell_set9 hS.2.2.2.2.2.1 (Nat.ne_of_lt (by omega : w.heap.size + 1 + 1 < b)) (.float .f64 x0) (.float .f64 y0) (.float .f64 q0) (.float .f64 x1) (.float .f64 y1) (.float .f64 q1) (.float .f64 x2) (.float .f64 y2) (.float .f64 q2), cell_set9 hS.2.2.2.2.2.2.1 (Nat.ne_of_lt (by omega : w.heap.size + 1 + 1 + 1 < b)) (.float .f64 x0) (.float .f64 y0) (.float .f64 q0) (.float .f64 x1) (.float .f64 y1) (.float .f64 q1) (.float .f64 x2) (.float .f64 y2) (.float .f64 q2), cell_set9 hS.2.2.2.2.2.2.2.1 (Nat.ne_of_lt (by omega : w.heap.size + 1 + 1 + 1 < b)) (.float .f64 x0) (.float .f64 y0) (.float .f64 q0) (.float .f64 x1) (.float .f64 y1) (.float .f64 q1) (.float .f64 x2) (.float .f64 y2) (.float .f64 q2), below_set9 hS.2.2.2.2.2.2.2.2 (by omega) (.float .f64 x0) (.float .f64 y0) (.float .f64 q0) (.float .f64 x1) (.float .f64 y1) (.float .f64 q1) (.float .f64 x2) (.float .f64 y2) (.float .f64 q2)⟩
      have hc2 := hc.set9 (.float .f64 x0) (.float .f64 y0) (.float .f64 q0) (.float .f64 x1) (.float .f64 y1) (.float .f64 q1) (.float .f64 x2) (.float .f64 y2) (.float .f64 q2)
      refine call_at 11 (by kernel_rfl) (by kernel_rfl) ?_
      intro o ho
      simp only [List.getElem?_toArray, List.getElem?_cons_succ, List.getElem?_cons_zero, Option.some.injEq] at ho
      subst ho
      intro KF hK
      go_simp
      go_wp2_with fail
      refine hK.out _ _ hS2 ?_
      intro _
      clear hK KF f0 g0 f1 g1 f2 g2 f3 g3 f4 g4 f5 g5 f6 g6 f7 g7 f8 g8
      try simp only [List.setIfInBounds_toArray, List.set_cons_zero, List.set_cons_succ]
      refine wpAnyH_done (by kernel_rfl) ?_ _
      have HF : Hid (FR w (((((((((W.setCell ⟨b, 0, none⟩ (.float .f64 x0)).setCell ⟨b, 1, none⟩ (.float .f64 y0)).setCell ⟨b, 2, none⟩ (.float .f64 q0)).setCell ⟨b, 3, none⟩ (.float .f64 x1)).setCell ⟨b, 4, none⟩ (.float .f64 y1)).setCell ⟨b, 5, none⟩ (.float .f64 q1)).setCell ⟨b, 6, none⟩ (.float .f64 x2)).setCell ⟨b, 7, none⟩ (.float .f64 y2)).setCell ⟨b, 8, none⟩ (.float .f64 q2)) ax ay bx by' cx cy dx dy b #[.float .f64 x0, .float .f64 y0, .float .f64 q0, .float .f64 x1, .float .f64 y1, .float .f64 q1, .float .f64 x2, .float .f64 y2, .float .f64 q2]) := ⟨⟨hS2.1, hS2.2.1, hS2.2.2.1, hS2.2.2.2.1, hS2.2.2.2.2.1, hS2.2.2.2.2.2.1, hS2.2.2.2.2.2.2.1, hS2.2.2.2.2.2.2.2.1, hS2.2.2.2.2.2.2.2.2⟩, hc2⟩
      clear hS hS2 hc hc2 hl
      generalize (((((((((W.setCell ⟨b, 0, none⟩ (.float .f64 x0)).setCell ⟨b, 1, none⟩ (.float .f64 y0)).setCell ⟨b, 2, none⟩ (.float .f64 q0)).setCell ⟨b, 3, none⟩ (.float .f64 x1)).setCell ⟨b, 4, none⟩ (.float .f64 y1)).setCell ⟨b, 5, none⟩ (.float .f64 q1)).setCell ⟨b, 6, none⟩ (.float .f64 x2)).setCell ⟨b, 7, none⟩ (.float .f64 y2)).setCell ⟨b, 8, none⟩ (.float .f64 q2)) = W0 at *
      have el0 : ∀ w, (binOp .mul 22 (.float .f64 x1) (.float .f64 y2)).run Try.prog w = .ok (.float .f64 l0) w := fun w => run_float_arith w .mul _ .f64 _ _ _ HT0.out.1.1
      have er0 : ∀ w, (binOp .mul 22 (.float .f64 y1) (.float .f64 x2)).run Try.prog w = .ok (.float .f64 r0) w := fun w => run_float_arith w .mul _ .f64 _ _ _ HT0.out.1.2
      have ed0 : ∀ w, (binOp .sub 22 (.float .f64 l0) (.float .f64 r0)).run Try.prog w = .ok (.float .f64 d0) w := fun w => run_float_arith w .sub _ .f64 _ _ _ HT0.out.2.1
      have et0 : ∀ w, (binOp .mul 22 (.float .f64 q0) (.float .f64 d0)).run Try.prog w = .ok (.float .f64 t0) w := fun w => run_float_arith w .mul _ .f64 _ _ _ HT0.out.2.2.1
      have em0 : ∀ w, (binOp .add 22 (.float .f64 fl0) (.float .f64 fr0)).run Try.prog w = .ok (.float .f64 m0) w := fun w => run_float_arith w .add _ .f64 _ _ _ (by rw [← hfl0.out, ← hfr0.out]; exact HT0.out.2.2.2.1)
      have ep0 : ∀ w, (binOp .mul 22 (.float .f64 q0) (.float .f64 m0)).run Try.prog w = .ok (.float .f64 p0) w := fun w => run_float_arith w .mul _ .f64 _ _ _ HT0.out.2.2.2.2.1
      have el1 : ∀ w, (binOp .mul 22 (.float .f64 x2) (.float .f64 y0)).run Try.prog w = .ok (.float .f64 l1) w := fun w => run_float_arith w .mul _ .f64 _ _ _ HT1.out.1.1
      have er1 : ∀ w, (binOp .mul 22 (.float .f64 y2) (.float .f64 x0)).run Try.prog w = .ok (.float .f64 r1) w := fun w => run_float_arith w .mul _ .f64 _ _ _ HT1.out.1.2
      have ed1 : ∀ w, (binOp .sub 22 (.float .f64 l1) (.float .f64 r1)).run Try.prog w = .ok (.float .f64 d1) w := fun w => run_float_arith w .sub _ .f64 _ _ _ HT1.out.2.1
      have et1 : ∀ w, (binOp .mul 22 (.float .f64 q1) (.float .f64 d1)).run Try.prog w = .ok (.float .f64 t1) w := fun w => run_float_arith w .mul _ .f64 _ _ _ HT1.out.2.2.1
      have em1 : ∀ w, (binOp .add 22 (.float .f64 fl1) (.float .f64 fr1)).run Try.prog w = .ok (.float .f64 m1) w := fun w => run_float_arith w .add _ .f64 _ _ _ (by rw [← hfl1.out, ← hfr1.out]; exact HT1.out.2.2.2.1)
      have ep1 : ∀ w, (binOp .mul 22 (.float .f64 q1) (.float .f64 m1)).run Try.prog w = .ok (.float .f64 p1) w := fun w => run_float_arith w .mul _ .f64 _ _ _ HT1.out.2.2.2.2.1
      have el2 : ∀ w, (binOp .mul 22 (.float .f64 x0) (.float .f64 y1)).run Try.prog w = .ok (.float .f64 l2) w := fun w => run_float_arith w .mul _ .f64 _ _ _ HT2.out.1.1
      have er2 : ∀ w, (binOp .mul 22 (.float .f64 y0) (.float .f64 x1)).run Try.prog w = .ok (.float .f64 r2) w := fun w => run_float_arith w .mul _ .f64 _ _ _ HT2.out.1.2
      have ed2 : ∀ w, (binOp .sub 22 (.float .f64 l2) (.float .f64 r2)).run Try.prog w = .ok (.float .f64 d2) w := fun w => run_float_arith w .sub _ .f64 _ _ _ HT2.out.2.1
      have et2 : ∀ w, (binOp .mul 22 (.float .f64 q2) (.float .f64 d2)).run Try.prog w = .ok (.float .f64 t2) w := fun w => run_float_arith w .mul _ .f64 _ _ _ HT2.out.2.2.1
      have em2 : ∀ w, (binOp .add 22 (.float .f64 fl2) (.float .f64 fr2)).run Try.prog w = .ok (.float .f64 m2) w := fun w => run_float_arith w .add _ .f64 _ _ _ (by rw [← hfl2.out, ← hfr2.out]; exact HT2.out.2.2.2.1)
      have ep2 : ∀ w, (binOp .mul 22 (.float .f64 q2) (.float .f64 m2)).run Try.prog w = .ok (.float .f64 p2) w := fun w => run_float_arith w .mul _ .f64 _ _ _ HT2.out.2.2.2.2.1
      have es1 : ∀ w, (binOp .add 22 (.float .f64 0) (.float .f64 t0)).run Try.prog w = .ok (.float .f64 s1) w := fun w => run_float_arith w .add _ .f64 _ _ _ HZ.out.1
      have ez1 : ∀ w, (binOp .add 22 (.float .f64 0) (.float .f64 p0)).run Try.prog w = .ok (.float .f64 z1) w := fun w => run_float_arith w .add _ .f64 _ _ _ HZ.out.2.1
      have es2 : ∀ w, (binOp .add 22 (.float .f64 s1) (.float .f64 t1)).run Try.prog w = .ok (.float .f64 s2) w := fun w => run_float_arith w .add _ .f64 _ _ _ HZ.out.2.2.1
      have ez2 : ∀ w, (binOp .add 22 (.float .f64 z1) (.float .f64 p1)).run Try.prog w = .ok (.float .f64 z2) w := fun w => run_float_arith w .add _ .f64 _ _ _ HZ.out.2.2.2.1
      have es3 : ∀ w, (binOp .add 22 (.float .f64 s2) (.float .f64 t2)).run Try.prog w = .ok (.float .f64 s3) w := fun w => run_float_arith w .add _ .f64 _ _ _ HZ.out.2.2.2.2.1
      have ez3 : ∀ w, (binOp .add 22 (.float .f64 z2) (.float .f64 p2)).run Try.prog w = .ok (.float .f64 z3) w := fun w => run_float_arith w .add _ .f64 _ _ _ HZ.out.2.2.2.2.2.1
      have ev : ∀ w, (binOp .mul 22 (.float .f64 4386506037058863104) (.float .f64 z3)).run Try.prog w = .ok (.float .f64 v) w := fun w => run_float_arith w .mul _ .f64 _ _ _ HZ.out.2.2.2.2.2.2
      have ix0 : ∀ w, (Instr.index 49 (.agg #[.float .f64 x0, .float .f64 y0, .float .f64 q0, .float .f64 x1, .float .f64 y1, .float .f64 q1, .float .f64 x2, .float .f64 y2, .float .f64 q2]) (.int .i64 0)).run Try.prog w = .ok (.agg #[.float .f64 x0, .float .f64 y0, .float .f64 q0]) w := fun _ => by kernel_rfl
      have ix1 : ∀ w, (Instr.index 49 (.agg #[.float .f64 x0, .float .f64 y0, .float .f64 q0, .float .f64 x1, .float .f64 y1, .float .f64 q1, .float .f64 x2, .float .f64 y2, .float .f64 q2]) (.int .i64 1)).run Try.prog w = .ok (.agg #[.float .f64 x1, .float .f64 y1, .float .f64 q1]) w := fun _ => by kernel_rfl
      have ix2 : ∀ w, (Instr.index 49 (.agg #[.float .f64 x0, .float .f64 y0, .float .f64 q0, .float .f64 x1, .float .f64 y1, .float .f64 q1, .float .f64 x2, .float .f64 y2, .float .f64 q2]) (.int .i64 2)).run Try.prog w = .ok (.agg #[.float .f64 x2, .float .f64 y2, .float .f64 q2]) w := fun _ => by kernel_rfl
      have wp0 : IntKind.i64.wrap 0 = 0 := by decide
      have wp1 : IntKind.i64.wrap 1 = 1 := by decide
      have wp2 : IntKind.i64.wrap 2 = 2 := by decide
      have wp3 : IntKind.i64.wrap 3 = 3 := by decide
      have wp4 : IntKind.i64.wrap 4 = 4 := by decide
      have wp5 : IntKind.i64.wrap 5 = 5 := by decide
      obtain ⟨g0, g1, g2, g3, g4, g5, g6, g7, g8⟩ := HF.out.2.cells9
      go_wp2_with fail
      go_loopw [11, 12, 37] (fun s z i wr => ((i = .int .i64 0 ∧ s = .float .f64 0 ∧ z = .float .f64 0) ∨ (i = .int .i64 1 ∧ s = .float .f64 s1 ∧ z = .float .f64 z1) ∨ (i = .int .i64 2 ∧ s = .float .f64 s2 ∧ z = .float .f64 z2) ∨ (i = .int .i64 3 ∧ s = .float .f64 s3 ∧ z = .float .f64 z3)) ∧ Hid (FR w wr ax ay bx by' cx cy dx dy b #[.float .f64 x0, .float .f64 y0, .float .f64 q0, .float .f64 x1, .float .f64 y1, .float .f64 q1, .float .f64 x2, .float .f64 y2, .float .f64 q2])) (fun _ _ i _ => 3 - (intOf i).toNat)
      case atStart => exact ⟨Or.inl ⟨rfl, rfl, rfl⟩, HF.out⟩
      case round =>
        obtain ⟨hcase, hB⟩ := hrel
        rcases hcase with ⟨rfl, rfl, rfl⟩ | ⟨rfl, rfl, rfl⟩ | ⟨rfl, rfl, rfl⟩ | ⟨rfl, rfl, rfl⟩
        · obtain ⟨W1, hW1⟩ : ∃ W1, W1 = (wr.alloc (.cells #[.float .f64 x0, .float .f64 y0, .float .f64 q0] 47)) := ⟨_, rfl⟩
          have hb1 : Below wr.heap.size wr W1 := by rw [hW1]; exact (Below.refl _ wr).alloc (Nat.le_refl _) _
          have hF1 := hB.out.later hb1
          have hq : W1.cell? ⟨wr.heap.size, 2, none⟩ = some (.float .f64 q0) := by rw [hW1]; go_simp
          obtain ⟨g0, g1, g2, g3, g4, g5, g6, g7, g8⟩ := hB.out.2.cells9
          go_wp2_with fail
          rw [← hW1]
          clear hW1 hb1 
          refine wp_region_held_drew (S := (fun W => W.cell? ⟨b, 0, none⟩ = some (.float .f64 x0) ∧ W.cell? ⟨b, 1, none⟩ = some (.float .f64 y0) ∧ W.cell? ⟨b, 2, none⟩ = some (.float .f64 q0) ∧ W.cell? ⟨b, 3, none⟩ = some (.float .f64 x1) ∧ W.cell? ⟨b, 4, none⟩ = some (.float .f64 y1) ∧ W.cell? ⟨b, 5, none⟩ = some (.float .f64 q1) ∧ W.cell? ⟨b, 6, none⟩ = some (.float .f64 x2) ∧ W.cell? ⟨b, 7, none⟩ = some (.float .f64 y2) ∧ W.cell? ⟨b, 8, none⟩ = some (.float .f64 q2) ∧ W.cell? ⟨wr.heap.size, 2, none⟩ = some (.float .f64 q0) ∧ FR w W ax ay bx by' cx cy dx dy b #[.float .f64 x0, .float .f64 y0, .float .f64 q0, .float .f64 x1, .float .f64 y1, .float .f64 q1, .float .f64 x2, .float .f64 y2, .float .f64 q2])) (by kernel_rfl) ⟨hF1.2.cells9.1, hF1.2.cells9.2.1, hF1.2.cells9.2.2.1, hF1.2.cells9.2.2.2.1, hF1.2.cells9.2.2.2.2.1, hF1.2.cells9.2.2.2.2.2.1, hF1.2.cells9.2.2.2.2.2.2.1, hF1.2.cells9.2.2.2.2.2.2.2.1, hF1.2.cells9.2.2.2.2.2.2.2.2, hq, hF1.drew⟩ (fun hS => ?_)
          refine take_at (i := 0) (d := some 41) (v := .int .i64 0) (by kernel_rfl) (by kernel_rfl) (by kernel_rfl) (by kernel_rfl) (fun _ _ _ h => h) ?_ hS ?_
          · intro o ho
            simp only [List.getElem?_toArray, List.getElem?_cons_zero, Option.some.injEq] at ho
            subst ho
            refine Or.inl ⟨by rfl, ?_⟩
            intro w hSw
            (try dsimp only at hSw)
            go_simp
          simp only [Act.put, List.setIfInBounds_toArray, List.set_cons_zero, List.set_cons_succ]
          refine take_at (i := 1) (d := some 42) (v := .int .i64 1) (by kernel_rfl) (by kernel_rfl) (by kernel_rfl) (by kernel_rfl) (fun _ _ _ h => h) ?_ hS ?_
          · intro o ho
            simp only [List.getElem?_toArray, List.getElem?_cons_succ, List.getElem?_cons_zero, Option.some.injEq] at ho
            subst ho
            refine Or.inl ⟨by rfl, ?_⟩
            intro w hSw
            (try dsimp only at hSw)
            go_simp
          simp only [Act.put, List.setIfInBounds_toArray, List.set_cons_zero, List.set_cons_succ]
          refine take_at (i := 2) (d := some 43) (v := .int .i64 1) (by kernel_rfl) (by kernel_rfl) (by kernel_rfl) (by kernel_rfl) (fun _ _ _ h => h) ?_ hS ?_
          · intro o ho
            simp only [List.getElem?_toArray, List.getElem?_cons_succ, List.getElem?_cons_zero, Option.some.injEq] at ho
            subst ho
            refine Or.inl ⟨by rfl, ?_⟩
            intro w hSw
            (try dsimp only at hSw)
            go_simp
          simp only [Act.put, List.setIfInBounds_toArray, List.set_cons_zero, List.set_cons_succ]
          refine take_at (i := 3) (d := some 44) (v := .pointer (some ⟨b, 3, none⟩)) (by kernel_rfl) (by kernel_rfl) (by kernel_rfl) (by kernel_rfl) (fun _ _ _ h => h) ?_ hS ?_
          · intro o ho
            simp only [List.getElem?_toArray, List.getElem?_cons_succ, List.getElem?_cons_zero, Option.some.injEq] at ho
            subst ho
            refine Or.inl ⟨by rfl, ?_⟩
            intro w hSw
            (try dsimp only at hSw)
            go_simp
          simp only [Act.put, List.setIfInBounds_toArray, List.set_cons_zero, List.set_cons_succ]
          refine take_at (i := 4) (d := some 45) (v := .int .i64 0) (by kernel_rfl) (by kernel_rfl) (by kernel_rfl) (by kernel_rfl) (fun _ _ _ h => h) ?_ hS ?_
          · intro o ho
            simp only [List.getElem?_toArray, List.getElem?_cons_succ, List.getElem?_cons_zero, Option.some.injEq] at ho
            subst ho
            refine Or.inl ⟨by rfl, ?_⟩
            intro w hSw
            (try dsimp only at hSw)
            go_simp
          simp only [Act.put, List.setIfInBounds_toArray, List.set_cons_zero, List.set_cons_succ]
          refine take_at (i := 5) (d := some 46) (v := .int .i64 2) (by kernel_rfl) (by kernel_rfl) (by kernel_rfl) (by kernel_rfl) (fun _ _ _ h => h) ?_ hS ?_
          · intro o ho
            simp only [List.getElem?_toArray, List.getElem?_cons_succ, List.getElem?_cons_zero, Option.some.injEq] at ho
            subst ho
            refine Or.inl ⟨by rfl, ?_⟩
            intro w hSw
            (try dsimp only at hSw)
            go_simp
          simp only [Act.put, List.setIfInBounds_toArray, List.set_cons_zero, List.set_cons_succ]
          refine take_at (i := 6) (d := some 47) (v := .int .i64 2) (by kernel_rfl) (by kernel_rfl) (by kernel_rfl) (by kernel_rfl) (fun _ _ _ h => h) ?_ hS ?_
          · intro o ho
            simp only [List.getElem?_toArray, List.getElem?_cons_succ, List.getElem?_cons_zero, Option.some.injEq] at ho
            subst ho
            refine Or.inl ⟨by rfl, ?_⟩
            intro w hSw
            (try dsimp only at hSw)
            go_simp
          simp only [Act.put, List.setIfInBounds_toArray, List.set_cons_zero, List.set_cons_succ]
          refine take_at (i := 7) (d := some 48) (v := .pointer (some ⟨b, 6, none⟩)) (by kernel_rfl) (by kernel_rfl) (by kernel_rfl) (by kernel_rfl) (fun _ _ _ h => h) ?_ hS ?_
          · intro o ho
            simp only [List.getElem?_toArray, List.getElem?_cons_succ, List.getElem?_cons_zero, Option.some.injEq] at ho
            subst ho
            refine Or.inl ⟨by rfl, ?_⟩
            intro w hSw
            (try dsimp only at hSw)
            go_simp
          simp only [Act.put, List.setIfInBounds_toArray, List.set_cons_zero, List.set_cons_succ]
          refine take_at (i := 8) (d := some 15) (v := .pointer (some ⟨b, 3, none⟩)) (by kernel_rfl) (by kernel_rfl) (by kernel_rfl) (by kernel_rfl) (fun _ _ _ h => h) ?_ hS ?_
          · intro o ho
            simp only [List.getElem?_toArray, List.getElem?_cons_succ, List.getElem?_cons_zero, Option.some.injEq] at ho
            subst ho
            refine Or.inl ⟨by rfl, ?_⟩
            intro w hSw
            (try dsimp only at hSw)
            go_simp
          simp only [Act.put, List.setIfInBounds_toArray, List.set_cons_zero, List.set_cons_succ]
          refine take_at (i := 9) (d := some 16) (v := .pointer (some ⟨b, 6, none⟩)) (by kernel_rfl) (by kernel_rfl) (by kernel_rfl) (by kernel_rfl) (fun _ _ _ h => h) ?_ hS ?_
          · intro o ho
            simp only [List.getElem?_toArray, List.getElem?_cons_succ, List.getElem?_cons_zero, Option.some.injEq] at ho
            subst ho
            refine Or.inl ⟨by rfl, ?_⟩
            intro w hSw
            (try dsimp only at hSw)
            go_simp
          simp only [Act.put, List.setIfInBounds_toArray, List.set_cons_zero, List.set_cons_succ]
          refine wpAnyH_done (by kernel_rfl) ?_ _
          clear hq hF1
          go_wp2_with fail
          refine wp_region_held_drew (S := (fun W => W.cell? ⟨b, 0, none⟩ = some (.float .f64 x0) ∧ W.cell? ⟨b, 1, none⟩ = some (.float .f64 y0) ∧ W.cell? ⟨b, 2, none⟩ = some (.float .f64 q0) ∧ W.cell? ⟨b, 3, none⟩ = some (.float .f64 x1) ∧ W.cell? ⟨b, 4, none⟩ = some (.float .f64 y1) ∧ W.cell? ⟨b, 5, none⟩ = some (.float .f64 q1) ∧ W.cell? ⟨b, 6, none⟩ = some (.float .f64 x2) ∧ W.cell? ⟨b, 7, none⟩ = some (.float .f64 y2) ∧ W.cell? ⟨b, 8, none⟩ = some (.float .f64 q2) ∧ W.cell? ⟨wr.heap.size, 2, none⟩ = some (.float .f64 q0) ∧ FR w W ax ay bx by' cx cy dx dy b #[.float .f64 x0, .float .f64 y0, .float .f64 q0, .float .f64 x1, .float .f64 y1, .float .f64 q1, .float .f64 x2, .float .f64 y2, .float .f64 q2])) (by kernel_rfl) ⟨hS.1, hS.2.1, hS.2.2.1, hS.2.2.2.1, hS.2.2.2.2.1, hS.2.2.2.2.2.1, hS.2.2.2.2.2.2.1, hS.2.2.2.2.2.2.2.1, hS.2.2.2.2.2.2.2.2.1, hS.2.2.2.2.2.2.2.2.2.1, hS.2.2.2.2.2.2.2.2.2.2.drew⟩ (fun hS => ?_)
          refine take_at (i := 0) (d := some 49) (v := .pointer (some ⟨b, 3, none⟩)) (by kernel_rfl) (by kernel_rfl) (by kernel_rfl) (by kernel_rfl) (fun _ _ _ h => h) ?_ hS ?_
          · intro o ho
            simp only [List.getElem?_toArray, List.getElem?_cons_zero, Option.some.injEq] at ho
            subst ho
            refine Or.inl ⟨by rfl, ?_⟩
            intro w hSw
            (try dsimp only at hSw)
            go_simp
          simp only [Act.put, List.setIfInBounds_toArray, List.set_cons_zero, List.set_cons_succ]
          refine take_at (i := 1) (d := some 50) (v := .pointer (some ⟨b, 3, none⟩)) (by kernel_rfl) (by kernel_rfl) (by kernel_rfl) (by kernel_rfl) (fun _ _ _ h => h) ?_ hS ?_
          · intro o ho
            simp only [List.getElem?_toArray, List.getElem?_cons_succ, List.getElem?_cons_zero, Option.some.injEq] at ho
            subst ho
            refine Or.inl ⟨by rfl, ?_⟩
            intro w hSw
            (try dsimp only at hSw)
            go_simp
          simp only [Act.put, List.setIfInBounds_toArray, List.set_cons_zero, List.set_cons_succ]
          refine take_at (i := 2) (d := some 51) (v := .pointer (some ⟨b, 3, none⟩)) (by kernel_rfl) (by kernel_rfl) (by kernel_rfl) (by kernel_rfl) (fun _ _ _ h => h) ?_ hS ?_
          · intro o ho
            simp only [List.getElem?_toArray, List.getElem?_cons_succ, List.getElem?_cons_zero, Option.some.injEq] at ho
            subst ho
            refine Or.inl ⟨by rfl, ?_⟩
            intro w hSw
            (try dsimp only at hSw)
            go_simp
          simp only [Act.put, List.setIfInBounds_toArray, List.set_cons_zero, List.set_cons_succ]
          refine take_at (i := 3) (d := some 52) (v := .float .f64 x1) (by kernel_rfl) (by kernel_rfl) (by kernel_rfl) (by kernel_rfl) (fun _ _ _ h => h) ?_ hS ?_
          · intro o ho
            simp only [List.getElem?_toArray, List.getElem?_cons_succ, List.getElem?_cons_zero, Option.some.injEq] at ho
            subst ho
            refine Or.inl ⟨by rfl, ?_⟩
            intro w hSw
            (try dsimp only at hSw)
            go_simp
          simp only [Act.put, List.setIfInBounds_toArray, List.set_cons_zero, List.set_cons_succ]
          refine take_at (i := 4) (d := some 53) (v := .pointer (some ⟨b, 6, none⟩)) (by kernel_rfl) (by kernel_rfl) (by kernel_rfl) (by kernel_rfl) (fun _ _ _ h => h) ?_ hS ?_
          · intro o ho
            simp only [List.getElem?_toArray, List.getElem?_cons_succ, List.getElem?_cons_zero, Option.some.injEq] at ho
            subst ho
            refine Or.inl ⟨by rfl, ?_⟩
            intro w hSw
            (try dsimp only at hSw)
            go_simp
          simp only [Act.put, List.setIfInBounds_toArray, List.set_cons_zero, List.set_cons_succ]
          refine take_at (i := 5) (d := some 54) (v := .pointer (some ⟨b, 6, none⟩)) (by kernel_rfl) (by kernel_rfl) (by kernel_rfl) (by kernel_rfl) (fun _ _ _ h => h) ?_ hS ?_
          · intro o ho
            simp only [List.getElem?_toArray, List.getElem?_cons_succ, List.getElem?_cons_zero, Option.some.injEq] at ho
            subst ho
            refine Or.inl ⟨by rfl, ?_⟩
            intro w hSw
            (try dsimp only at hSw)
            go_simp
          simp only [Act.put, List.setIfInBounds_toArray, List.set_cons_zero, List.set_cons_succ]
          refine take_at (i := 6) (d := some 55) (v := .pointer (some ⟨b, 7, none⟩)) (by kernel_rfl) (by kernel_rfl) (by kernel_rfl) (by kernel_rfl) (fun _ _ _ h => h) ?_ hS ?_
          · intro o ho
            simp only [List.getElem?_toArray, List.getElem?_cons_succ, List.getElem?_cons_zero, Option.some.injEq] at ho
            subst ho
            refine Or.inl ⟨by rfl, ?_⟩
            intro w hSw
            (try dsimp only at hSw)
            go_simp
          simp only [Act.put, List.setIfInBounds_toArray, List.set_cons_zero, List.set_cons_succ]
          refine take_at (i := 7) (d := some 56) (v := .float .f64 y2) (by kernel_rfl) (by kernel_rfl) (by kernel_rfl) (by kernel_rfl) (fun _ _ _ h => h) ?_ hS ?_
          · intro o ho
            simp only [List.getElem?_toArray, List.getElem?_cons_succ, List.getElem?_cons_zero, Option.some.injEq] at ho
            subst ho
            refine Or.inl ⟨by rfl, ?_⟩
            intro w hSw
            (try dsimp only at hSw)
            go_simp
          simp only [Act.put, List.setIfInBounds_toArray, List.set_cons_zero, List.set_cons_succ]
          refine take_at (i := 8) (d := some 57) (v := .float .f64 l0) (by kernel_rfl) (by kernel_rfl) (by kernel_rfl) (by kernel_rfl) (fun _ _ _ h => h) ?_ hS ?_
          · intro o ho
            simp only [List.getElem?_toArray, List.getElem?_cons_succ, List.getElem?_cons_zero, Option.some.injEq] at ho
            subst ho
            refine Or.inl ⟨by rfl, ?_⟩
            intro w hSw
            (try dsimp only at hSw)
            go_simp
          simp only [Act.put, List.setIfInBounds_toArray, List.set_cons_zero, List.set_cons_succ]
          refine take_at (i := 9) (d := some 17) (v := .float .f64 l0) (by kernel_rfl) (by kernel_rfl) (by kernel_rfl) (by kernel_rfl) (fun _ _ _ h => h) ?_ hS ?_
          · intro o ho
            simp only [List.getElem?_toArray, List.getElem?_cons_succ, List.getElem?_cons_zero, Option.some.injEq] at ho
            subst ho
            refine Or.inl ⟨by rfl, ?_⟩
            intro w hSw
            (try dsimp only at hSw)
            go_simp
          simp only [Act.put, List.setIfInBounds_toArray, List.set_cons_zero, List.set_cons_succ]
          refine wpAnyH_done (by kernel_rfl) ?_ _
          go_wp2_with fail
          refine wp_region_held_drew (S := (fun W => W.cell? ⟨b, 0, none⟩ = some (.float .f64 x0) ∧ W.cell? ⟨b, 1, none⟩ = some (.float .f64 y0) ∧ W.cell? ⟨b, 2, none⟩ = some (.float .f64 q0) ∧ W.cell? ⟨b, 3, none⟩ = some (.float .f64 x1) ∧ W.cell? ⟨b, 4, none⟩ = some (.float .f64 y1) ∧ W.cell? ⟨b, 5, none⟩ = some (.float .f64 q1) ∧ W.cell? ⟨b, 6, none⟩ = some (.float .f64 x2) ∧ W.cell? ⟨b, 7, none⟩ = some (.float .f64 y2) ∧ W.cell? ⟨b, 8, none⟩ = some (.float .f64 q2) ∧ W.cell? ⟨wr.heap.size, 2, none⟩ = some (.float .f64 q0) ∧ FR w W ax ay bx by' cx cy dx dy b #[.float .f64 x0, .float .f64 y0, .float .f64 q0, .float .f64 x1, .float .f64 y1, .float .f64 q1, .float .f64 x2, .float .f64 y2, .float .f64 q2])) (by kernel_rfl) ⟨hS.1, hS.2.1, hS.2.2.1, hS.2.2.2.1, hS.2.2.2.2.1, hS.2.2.2.2.2.1, hS.2.2.2.2.2.2.1, hS.2.2.2.2.2.2.2.1, hS.2.2.2.2.2.2.2.2.1, hS.2.2.2.2.2.2.2.2.2.1, hS.2.2.2.2.2.2.2.2.2.2.drew⟩ (fun hS => ?_)
          refine take_at (i := 0) (d := some 58) (v := .pointer (some ⟨b, 3, none⟩)) (by kernel_rfl) (by kernel_rfl) (by kernel_rfl) (by kernel_rfl) (fun _ _ _ h => h) ?_ hS ?_
          · intro o ho
            simp only [List.getElem?_toArray, List.getElem?_cons_zero, Option.some.injEq] at ho
            subst ho
            refine Or.inl ⟨by rfl, ?_⟩
            intro w hSw
            (try dsimp only at hSw)
            go_simp
          simp only [Act.put, List.setIfInBounds_toArray, List.set_cons_zero, List.set_cons_succ]
          refine take_at (i := 1) (d := some 59) (v := .pointer (some ⟨b, 3, none⟩)) (by kernel_rfl) (by kernel_rfl) (by kernel_rfl) (by kernel_rfl) (fun _ _ _ h => h) ?_ hS ?_
          · intro o ho
            simp only [List.getElem?_toArray, List.getElem?_cons_succ, List.getElem?_cons_zero, Option.some.injEq] at ho
            subst ho
            refine Or.inl ⟨by rfl, ?_⟩
            intro w hSw
            (try dsimp only at hSw)
            go_simp
          simp only [Act.put, List.setIfInBounds_toArray, List.set_cons_zero, List.set_cons_succ]
          refine take_at (i := 2) (d := some 60) (v := .pointer (some ⟨b, 4, none⟩)) (by kernel_rfl) (by kernel_rfl) (by kernel_rfl) (by kernel_rfl) (fun _ _ _ h => h) ?_ hS ?_
          · intro o ho
            simp only [List.getElem?_toArray, List.getElem?_cons_succ, List.getElem?_cons_zero, Option.some.injEq] at ho
            subst ho
            refine Or.inl ⟨by rfl, ?_⟩
            intro w hSw
            (try dsimp only at hSw)
            go_simp
          simp only [Act.put, List.setIfInBounds_toArray, List.set_cons_zero, List.set_cons_succ]
          refine take_at (i := 3) (d := some 61) (v := .float .f64 y1) (by kernel_rfl) (by kernel_rfl) (by kernel_rfl) (by kernel_rfl) (fun _ _ _ h => h) ?_ hS ?_
          · intro o ho
            simp only [List.getElem?_toArray, List.getElem?_cons_succ, List.getElem?_cons_zero, Option.some.injEq] at ho
            subst ho
            refine Or.inl ⟨by rfl, ?_⟩
            intro w hSw
            (try dsimp only at hSw)
            go_simp
          simp only [Act.put, List.setIfInBounds_toArray, List.set_cons_zero, List.set_cons_succ]
          refine take_at (i := 4) (d := some 62) (v := .pointer (some ⟨b, 6, none⟩)) (by kernel_rfl) (by kernel_rfl) (by kernel_rfl) (by kernel_rfl) (fun _ _ _ h => h) ?_ hS ?_
          · intro o ho
            simp only [List.getElem?_toArray, List.getElem?_cons_succ, List.getElem?_cons_zero, Option.some.injEq] at ho
            subst ho
            refine Or.inl ⟨by rfl, ?_⟩
            intro w hSw
            (try dsimp only at hSw)
            go_simp
          simp only [Act.put, List.setIfInBounds_toArray, List.set_cons_zero, List.set_cons_succ]
          refine take_at (i := 5) (d := some 63) (v := .pointer (some ⟨b, 6, none⟩)) (by kernel_rfl) (by kernel_rfl) (by kernel_rfl) (by kernel_rfl) (fun _ _ _ h => h) ?_ hS ?_
          · intro o ho
            simp only [List.getElem?_toArray, List.getElem?_cons_succ, List.getElem?_cons_zero, Option.some.injEq] at ho
            subst ho
            refine Or.inl ⟨by rfl, ?_⟩
            intro w hSw
            (try dsimp only at hSw)
            go_simp
          simp only [Act.put, List.setIfInBounds_toArray, List.set_cons_zero, List.set_cons_succ]
          refine take_at (i := 6) (d := some 64) (v := .pointer (some ⟨b, 6, none⟩)) (by kernel_rfl) (by kernel_rfl) (by kernel_rfl) (by kernel_rfl) (fun _ _ _ h => h) ?_ hS ?_
          · intro o ho
            simp only [List.getElem?_toArray, List.getElem?_cons_succ, List.getElem?_cons_zero, Option.some.injEq] at ho
            subst ho
            refine Or.inl ⟨by rfl, ?_⟩
            intro w hSw
            (try dsimp only at hSw)
            go_simp
          simp only [Act.put, List.setIfInBounds_toArray, List.set_cons_zero, List.set_cons_succ]
          refine take_at (i := 7) (d := some 65) (v := .float .f64 x2) (by kernel_rfl) (by kernel_rfl) (by kernel_rfl) (by kernel_rfl) (fun _ _ _ h => h) ?_ hS ?_
          · intro o ho
            simp only [List.getElem?_toArray, List.getElem?_cons_succ, List.getElem?_cons_zero, Option.some.injEq] at ho
            subst ho
            refine Or.inl ⟨by rfl, ?_⟩
            intro w hSw
            (try dsimp only at hSw)
            go_simp
          simp only [Act.put, List.setIfInBounds_toArray, List.set_cons_zero, List.set_cons_succ]
          refine take_at (i := 8) (d := some 66) (v := .float .f64 r0) (by kernel_rfl) (by kernel_rfl) (by kernel_rfl) (by kernel_rfl) (fun _ _ _ h => h) ?_ hS ?_
          · intro o ho
            simp only [List.getElem?_toArray, List.getElem?_cons_succ, List.getElem?_cons_zero, Option.some.injEq] at ho
            subst ho
            refine Or.inl ⟨by rfl, ?_⟩
            intro w hSw
            (try dsimp only at hSw)
            go_simp
          simp only [Act.put, List.setIfInBounds_toArray, List.set_cons_zero, List.set_cons_succ]
          refine take_at (i := 9) (d := some 18) (v := .float .f64 r0) (by kernel_rfl) (by kernel_rfl) (by kernel_rfl) (by kernel_rfl) (fun _ _ _ h => h) ?_ hS ?_
          · intro o ho
            simp only [List.getElem?_toArray, List.getElem?_cons_succ, List.getElem?_cons_zero, Option.some.injEq] at ho
            subst ho
            refine Or.inl ⟨by rfl, ?_⟩
            intro w hSw
            (try dsimp only at hSw)
            go_simp
          simp only [Act.put, List.setIfInBounds_toArray, List.set_cons_zero, List.set_cons_succ]
          refine wpAnyH_done (by kernel_rfl) ?_ _
          have hq := hS.2.2.2.2.2.2.2.2.2.1
          have HS : Hid (((fun W => W.cell? ⟨b, 0, none⟩ = some (.float .f64 x0) ∧ W.cell? ⟨b, 1, none⟩ = some (.float .f64 y0) ∧ W.cell? ⟨b, 2, none⟩ = some (.float .f64 q0) ∧ W.cell? ⟨b, 3, none⟩ = some (.float .f64 x1) ∧ W.cell? ⟨b, 4, none⟩ = some (.float .f64 y1) ∧ W.cell? ⟨b, 5, none⟩ = some (.float .f64 q1) ∧ W.cell? ⟨b, 6, none⟩ = some (.float .f64 x2) ∧ W.cell? ⟨b, 7, none⟩ = some (.float .f64 y2) ∧ W.cell? ⟨b, 8, none⟩ = some (.float .f64 q2) ∧ W.cell? ⟨wr.heap.size, 2, none⟩ = some (.float .f64 q0) ∧ FR w W ax ay bx by' cx cy dx dy b #[.float .f64 x0, .float .f64 y0, .float .f64 q0, .float .f64 x1, .float .f64 y1, .float .f64 q1, .float .f64 x2, .float .f64 y2, .float .f64 q2])) _) := hS
          clear hS
          go_wp2_with fail
          refine wp_region_held_drew (S := (fun W => W.cell? ⟨b, 0, none⟩ = some (.float .f64 x0) ∧ W.cell? ⟨b, 1, none⟩ = some (.float .f64 y0) ∧ W.cell? ⟨b, 2, none⟩ = some (.float .f64 q0) ∧ W.cell? ⟨b, 3, none⟩ = some (.float .f64 x1) ∧ W.cell? ⟨b, 4, none⟩ = some (.float .f64 y1) ∧ W.cell? ⟨b, 5, none⟩ = some (.float .f64 q1) ∧ W.cell? ⟨b, 6, none⟩ = some (.float .f64 x2) ∧ W.cell? ⟨b, 7, none⟩ = some (.float .f64 y2) ∧ W.cell? ⟨b, 8, none⟩ = some (.float .f64 q2) ∧ W.cell? ⟨wr.heap.size, 2, none⟩ = some (.float .f64 q0) ∧ FR w W ax ay bx by' cx cy dx dy b #[.float .f64 x0, .float .f64 y0, .float .f64 q0, .float .f64 x1, .float .f64 y1, .float .f64 q1, .float .f64 x2, .float .f64 y2, .float .f64 q2])) (by kernel_rfl) ⟨HS.out.1, HS.out.2.1, HS.out.2.2.1, HS.out.2.2.2.1, HS.out.2.2.2.2.1, HS.out.2.2.2.2.2.1, HS.out.2.2.2.2.2.2.1, HS.out.2.2.2.2.2.2.2.1, HS.out.2.2.2.2.2.2.2.2.1, HS.out.2.2.2.2.2.2.2.2.2.1, HS.out.2.2.2.2.2.2.2.2.2.2.drew⟩ (fun hS => ?_)
          refine take_at (i := 0) (d := some 75) (v := .float .f64 0) (by kernel_rfl) (by kernel_rfl) (by kernel_rfl) (by kernel_rfl) (fun _ _ _ h => h) ?_ hS ?_
          · intro o ho
            simp only [List.getElem?_toArray, List.getElem?_cons_zero, Option.some.injEq] at ho
            subst ho
            refine Or.inl ⟨by rfl, ?_⟩
            intro w hSw
            (try dsimp only at hSw)
            go_simp
          simp only [Act.put, List.setIfInBounds_toArray, List.set_cons_zero, List.set_cons_succ]
          refine take_at (i := 1) (d := some 76) (v := .pointer (some ⟨wr.heap.size, 2, none⟩)) (by kernel_rfl) (by kernel_rfl) (by kernel_rfl) (by kernel_rfl) (fun _ _ _ h => h) ?_ hS ?_
          · intro o ho
            simp only [List.getElem?_toArray, List.getElem?_cons_succ, List.getElem?_cons_zero, Option.some.injEq] at ho
            subst ho
            refine Or.inl ⟨by rfl, ?_⟩
            intro w hSw
            (try dsimp only at hSw)
            go_simp
          simp only [Act.put, List.setIfInBounds_toArray, List.set_cons_zero, List.set_cons_succ]
          refine take_at (i := 2) (d := some 77) (v := .float .f64 q0) (by kernel_rfl) (by kernel_rfl) (by kernel_rfl) (by kernel_rfl) (fun _ _ _ h => h) ?_ hS ?_
          · intro o ho
            simp only [List.getElem?_toArray, List.getElem?_cons_succ, List.getElem?_cons_zero, Option.some.injEq] at ho
            subst ho
            refine Or.inl ⟨by rfl, ?_⟩
            intro w hSw
            (try dsimp only at hSw)
            go_simp
          simp only [Act.put, List.setIfInBounds_toArray, List.set_cons_zero, List.set_cons_succ]
          refine take_at (i := 3) (d := some 78) (v := .float .f64 l0) (by kernel_rfl) (by kernel_rfl) (by kernel_rfl) (by kernel_rfl) (fun _ _ _ h => h) ?_ hS ?_
          · intro o ho
            simp only [List.getElem?_toArray, List.getElem?_cons_succ, List.getElem?_cons_zero, Option.some.injEq] at ho
            subst ho
            refine Or.inl ⟨by rfl, ?_⟩
            intro w hSw
            (try dsimp only at hSw)
            go_simp
          simp only [Act.put, List.setIfInBounds_toArray, List.set_cons_zero, List.set_cons_succ]
          refine take_at (i := 5) (d := some 80) (v := .float .f64 r0) (by kernel_rfl) (by kernel_rfl) (by kernel_rfl) (by kernel_rfl) (fun _ _ _ h => h) ?_ hS ?_
          · intro o ho
            simp only [List.getElem?_toArray, List.getElem?_cons_succ, List.getElem?_cons_zero, Option.some.injEq] at ho
            subst ho
            refine Or.inl ⟨by rfl, ?_⟩
            intro w hSw
            (try dsimp only at hSw)
            go_simp
          simp only [Act.put, List.setIfInBounds_toArray, List.set_cons_zero, List.set_cons_succ]
          refine call_at 4 (by kernel_rfl) (by kernel_rfl) ?_
          intro o ho
          simp only [List.getElem?_toArray, List.getElem?_cons_succ, List.getElem?_cons_zero, Option.some.injEq] at ho
          subst ho
          intro KF hK
          go_simp
          refine (HAl0.out _).mono ?_
          rintro e wx ⟨rfl, hbx⟩
          subst hbx
          have hbx := True.intro
          go_wp2_with fail
          refine hK.out _ _ hS ?_
          clear hS hbx
          intro hS
          clear hK KF
          try simp only [Act.put, List.setIfInBounds_toArray, List.set_cons_zero, List.set_cons_succ]
          refine call_at 6 (by kernel_rfl) (by kernel_rfl) ?_
          intro o ho
          simp only [List.getElem?_toArray, List.getElem?_cons_succ, List.getElem?_cons_zero, Option.some.injEq] at ho
          subst ho
          intro KF hK
          go_simp
          refine (HAr0.out _).mono ?_
          rintro e wx ⟨rfl, hbx⟩
          subst hbx
          have hbx := True.intro
          go_wp2_with fail
          refine hK.out _ _ hS ?_
          clear hS hbx
          intro hS
          clear hK KF
          try simp only [Act.put, List.setIfInBounds_toArray, List.set_cons_zero, List.set_cons_succ]
          refine take_at (i := 7) (d := some 82) (v := .float .f64 m0) (by kernel_rfl) (by kernel_rfl) (by kernel_rfl) (by kernel_rfl) (fun _ _ _ h => h) ?_ hS ?_
          · intro o ho
            simp only [List.getElem?_toArray, List.getElem?_cons_succ, List.getElem?_cons_zero, Option.some.injEq] at ho
            subst ho
            refine Or.inl ⟨by rfl, ?_⟩
            intro w hSw
            (try dsimp only at hSw)
            go_simp
          simp only [Act.put, List.setIfInBounds_toArray, List.set_cons_zero, List.set_cons_succ]
          refine take_at (i := 8) (d := some 83) (v := .float .f64 p0) (by kernel_rfl) (by kernel_rfl) (by kernel_rfl) (by kernel_rfl) (fun _ _ _ h => h) ?_ hS ?_
          · intro o ho
            simp only [List.getElem?_toArray, List.getElem?_cons_succ, List.getElem?_cons_zero, Option.some.injEq] at ho
            subst ho
            refine Or.inl ⟨by rfl, ?_⟩
            intro w hSw
            (try dsimp only at hSw)
            go_simp
          simp only [Act.put, List.setIfInBounds_toArray, List.set_cons_zero, List.set_cons_succ]
          refine take_at (i := 9) (d := some 84) (v := .float .f64 z1) (by kernel_rfl) (by kernel_rfl) (by kernel_rfl) (by kernel_rfl) (fun _ _ _ h => h) ?_ hS ?_
          · intro o ho
            simp only [List.getElem?_toArray, List.getElem?_cons_succ, List.getElem?_cons_zero, Option.some.injEq] at ho
            subst ho
            refine Or.inl ⟨by rfl, ?_⟩
            intro w hSw
            (try dsimp only at hSw)
            go_simp
          simp only [Act.put, List.setIfInBounds_toArray, List.set_cons_zero, List.set_cons_succ]
          refine take_at (i := 10) (d := some 12) (v := .float .f64 z1) (by kernel_rfl) (by kernel_rfl) (by kernel_rfl) (by kernel_rfl) (fun _ _ _ h => h) ?_ hS ?_
          · intro o ho
            simp only [List.getElem?_toArray, List.getElem?_cons_succ, List.getElem?_cons_zero, Option.some.injEq] at ho
            subst ho
            refine Or.inl ⟨by rfl, ?_⟩
            intro w hSw
            (try dsimp only at hSw)
            go_simp
          simp only [Act.put, List.setIfInBounds_toArray, List.set_cons_zero, List.set_cons_succ]
          refine wpAnyH_done (by kernel_rfl) ?_ _
          have HE : Hid (FR w _ ax ay bx by' cx cy dx dy b #[.float .f64 x0, .float .f64 y0, .float .f64 q0, .float .f64 x1, .float .f64 y1, .float .f64 q1, .float .f64 x2, .float .f64 y2, .float .f64 q2]) := hS.2.2.2.2.2.2.2.2.2.2
          clear hS HS hq
          go_wp2
          exact ⟨⟨Or.inr (Or.inl ⟨by go_num, rfl, rfl⟩), HE.out⟩, by simp [intOf]⟩
        · obtain ⟨W1, hW1⟩ : ∃ W1, W1 = (wr.alloc (.cells #[.float .f64 x1, .float .f64 y1, .float .f64 q1] 47)) := ⟨_, rfl⟩
          have hb1 : Below wr.heap.size wr W1 := by rw [hW1]; exact (Below.refl _ wr).alloc (Nat.le_refl _) _
          have hF1 := hB.out.later hb1
          have hq : W1.cell? ⟨wr.heap.size, 2, none⟩ = some (.float .f64 q1) := by rw [hW1]; go_simp
          obtain ⟨g0, g1, g2, g3, g4, g5, g6, g7, g8⟩ := hB.out.2.cells9
          go_wp2_with fail
          rw [← hW1]
          clear hW1 hb1 
          refine wp_region_held_drew (S := (fun W => W.cell? ⟨b, 0, none⟩ = some (.float .f64 x0) ∧ W.cell? ⟨b, 1, none⟩ = some (.float .f64 y0) ∧ W.cell? ⟨b, 2, none⟩ = some (.float .f64 q0) ∧ W.cell? ⟨b, 3, none⟩ = some (.float .f64 x1) ∧ W.cell? ⟨b, 4, none⟩ = some (.float .f64 y1) ∧ W.cell? ⟨b, 5, none⟩ = some (.float .f64 q1) ∧ W.cell? ⟨b, 6, none⟩ = some (.float .f64 x2) ∧ W.cell? ⟨b, 7, none⟩ = some (.float .f64 y2) ∧ W.cell? ⟨b, 8, none⟩ = some (.float .f64 q2) ∧ W.cell? ⟨wr.heap.size, 2, none⟩ = some (.float .f64 q1) ∧ FR w W ax ay bx by' cx cy dx dy b #[.float .f64 x0, .float .f64 y0, .float .f64 q0, .float .f64 x1, .float .f64 y1, .float .f64 q1, .float .f64 x2, .float .f64 y2, .float .f64 q2])) (by kernel_rfl) ⟨hF1.2.cells9.1, hF1.2.cells9.2.1, hF1.2.cells9.2.2.1, hF1.2.cells9.2.2.2.1, hF1.2.cells9.2.2.2.2.1, hF1.2.cells9.2.2.2.2.2.1, hF1.2.cells9.2.2.2.2.2.2.1, hF1.2.cells9.2.2.2.2.2.2.2.1, hF1.2.cells9.2.2.2.2.2.2.2.2, hq, hF1.drew⟩ (fun hS => ?_)
          refine take_at (i := 0) (d := some 41) (v := .int .i64 1) (by kernel_rfl) (by kernel_rfl) (by kernel_rfl) (by kernel_rfl) (fun _ _ _ h => h) ?_ hS ?_
          · intro o ho
            simp only [List.getElem?_toArray, List.getElem?_cons_zero, Option.some.injEq] at ho
            subst ho
            refine Or.inl ⟨by rfl, ?_⟩
            intro w hSw
            (try dsimp only at hSw)
            go_simp
          simp only [Act.put, List.setIfInBounds_toArray, List.set_cons_zero, List.set_cons_succ]
          refine take_at (i := 1) (d := some 42) (v := .int .i64 2) (by kernel_rfl) (by kernel_rfl) (by kernel_rfl) (by kernel_rfl) (fun _ _ _ h => h) ?_ hS ?_
          · intro o ho
            simp only [List.getElem?_toArray, List.getElem?_cons_succ, List.getElem?_cons_zero, Option.some.injEq] at ho
            subst ho
            refine Or.inl ⟨by rfl, ?_⟩
            intro w hSw
            (try dsimp only at hSw)
            go_simp
          simp only [Act.put, List.setIfInBounds_toArray, List.set_cons_zero, List.set_cons_succ]
          refine take_at (i := 2) (d := some 43) (v := .int .i64 2) (by kernel_rfl) (by kernel_rfl) (by kernel_rfl) (by kernel_rfl) (fun _ _ _ h => h) ?_ hS ?_
          · intro o ho
            simp only [List.getElem?_toArray, List.getElem?_cons_succ, List.getElem?_cons_zero, Option.some.injEq] at ho
            subst ho
            refine Or.inl ⟨by rfl, ?_⟩
            intro w hSw
            (try dsimp only at hSw)
            go_simp
          simp only [Act.put, List.setIfInBounds_toArray, List.set_cons_zero, List.set_cons_succ]
          refine take_at (i := 3) (d := some 44) (v := .pointer (some ⟨b, 6, none⟩)) (by kernel_rfl) (by kernel_rfl) (by kernel_rfl) (by kernel_rfl) (fun _ _ _ h => h) ?_ hS ?_
          · intro o ho
            simp only [List.getElem?_toArray, List.getElem?_cons_succ, List.getElem?_cons_zero, Option.some.injEq] at ho
            subst ho
            refine Or.inl ⟨by rfl, ?_⟩
            intro w hSw
            (try dsimp only at hSw)
            go_simp
          simp only [Act.put, List.setIfInBounds_toArray, List.set_cons_zero, List.set_cons_succ]
          refine take_at (i := 4) (d := some 45) (v := .int .i64 1) (by kernel_rfl) (by kernel_rfl) (by kernel_rfl) (by kernel_rfl) (fun _ _ _ h => h) ?_ hS ?_
          · intro o ho
            simp only [List.getElem?_toArray, List.getElem?_cons_succ, List.getElem?_cons_zero, Option.some.injEq] at ho
            subst ho
            refine Or.inl ⟨by rfl, ?_⟩
            intro w hSw
            (try dsimp only at hSw)
            go_simp
          simp only [Act.put, List.setIfInBounds_toArray, List.set_cons_zero, List.set_cons_succ]
          refine take_at (i := 5) (d := some 46) (v := .int .i64 3) (by kernel_rfl) (by kernel_rfl) (by kernel_rfl) (by kernel_rfl) (fun _ _ _ h => h) ?_ hS ?_
          · intro o ho
            simp only [List.getElem?_toArray, List.getElem?_cons_succ, List.getElem?_cons_zero, Option.some.injEq] at ho
            subst ho
            refine Or.inl ⟨by rfl, ?_⟩
            intro w hSw
            (try dsimp only at hSw)
            go_simp
          simp only [Act.put, List.setIfInBounds_toArray, List.set_cons_zero, List.set_cons_succ]
          refine take_at (i := 6) (d := some 47) (v := .int .i64 0) (by kernel_rfl) (by kernel_rfl) (by kernel_rfl) (by kernel_rfl) (fun _ _ _ h => h) ?_ hS ?_
          · intro o ho
            simp only [List.getElem?_toArray, List.getElem?_cons_succ, List.getElem?_cons_zero, Option.some.injEq] at ho
            subst ho
            refine Or.inl ⟨by rfl, ?_⟩
            intro w hSw
            (try dsimp only at hSw)
            go_simp
          simp only [Act.put, List.setIfInBounds_toArray, List.set_cons_zero, List.set_cons_succ]
          refine take_at (i := 7) (d := some 48) (v := .pointer (some ⟨b, 0, none⟩)) (by kernel_rfl) (by kernel_rfl) (by kernel_rfl) (by kernel_rfl) (fun _ _ _ h => h) ?_ hS ?_
          · intro o ho
            simp only [List.getElem?_toArray, List.getElem?_cons_succ, List.getElem?_cons_zero, Option.some.injEq] at ho
            subst ho
            refine Or.inl ⟨by rfl, ?_⟩
            intro w hSw
            (try dsimp only at hSw)
            go_simp
          simp only [Act.put, List.setIfInBounds_toArray, List.set_cons_zero, List.set_cons_succ]
          refine take_at (i := 8) (d := some 15) (v := .pointer (some ⟨b, 6, none⟩)) (by kernel_rfl) (by kernel_rfl) (by kernel_rfl) (by kernel_rfl) (fun _ _ _ h => h) ?_ hS ?_
          · intro o ho
            simp only [List.getElem?_toArray, List.getElem?_cons_succ, List.getElem?_cons_zero, Option.some.injEq] at ho
            subst ho
            refine Or.inl ⟨by rfl, ?_⟩
            intro w hSw
            (try dsimp only at hSw)
            go_simp
          simp only [Act.put, List.setIfInBounds_toArray, List.set_cons_zero, List.set_cons_succ]
          refine take_at (i := 9) (d := some 16) (v := .pointer (some ⟨b, 0, none⟩)) (by kernel_rfl) (by kernel_rfl) (by kernel_rfl) (by kernel_rfl) (fun _ _ _ h => h) ?_ hS ?_
          · intro o ho
            simp only [List.getElem?_toArray, List.getElem?_cons_succ, List.getElem?_cons_zero, Option.some.injEq] at ho
            subst ho
            refine Or.inl ⟨by rfl, ?_⟩
            intro w hSw
            (try dsimp only at hSw)
            go_simp
          simp only [Act.put, List.setIfInBounds_toArray, List.set_cons_zero, List.set_cons_succ]
          refine wpAnyH_done (by kernel_rfl) ?_ _
          clear hq hF1
          go_wp2_with fail
          refine wp_region_held_drew (S := (fun W => W.cell? ⟨b, 0, none⟩ = some (.float .f64 x0) ∧ W.cell? ⟨b, 1, none⟩ = some (.float .f64 y0) ∧ W.cell? ⟨b, 2, none⟩ = some (.float .f64 q0) ∧ W.cell? ⟨b, 3, none⟩ = some (.float .f64 x1) ∧ W.cell? ⟨b, 4, none⟩ = some (.float .f64 y1) ∧ W.cell? ⟨b, 5, none⟩ = some (.float .f64 q1) ∧ W.cell? ⟨b, 6, none⟩ = some (.float .f64 x2) ∧ W.cell? ⟨b, 7, none⟩ = some (.float .f64 y2) ∧ W.cell? ⟨b, 8, none⟩ = some (.float .f64 q2) ∧ W.cell? ⟨wr.heap.size, 2, none⟩ = some (.float .f64 q1) ∧ FR w W ax ay bx by' cx cy dx dy b #[.float .f64 x0, .float .f64 y0, .float .f64 q0, .float .f64 x1, .float .f64 y1, .float .f64 q1, .float .f64 x2, .float .f64 y2, .float .f64 q2])) (by kernel_rfl) ⟨hS.1, hS.2.1, hS.2.2.1, hS.2.2.2.1, hS.2.2.2.2.1, hS.2.2.2.2.2.1, hS.2.2.2.2.2.2.1, hS.2.2.2.2.2.2.2.1, hS.2.2.2.2.2.2.2.2.1, hS.2.2.2.2.2.2.2.2.2.1, hS.2.2.2.2.2.2.2.2.2.2.drew⟩ (fun hS => ?_)
          refine take_at (i := 0) (d := some 49) (v := .pointer (some ⟨b, 6, none⟩)) (by kernel_rfl) (by kernel_rfl) (by kernel_rfl) (by kernel_rfl) (fun _ _ _ h => h) ?_ hS ?_
          · intro o ho
            simp only [List.getElem?_toArray, List.getElem?_cons_zero, Option.some.injEq] at ho
            subst ho
            refine Or.inl ⟨by rfl, ?_⟩
            intro w hSw
            (try dsimp only at hSw)
            go_simp
          simp only [Act.put, List.setIfInBounds_toArray, List.set_cons_zero, List.set_cons_succ]
          refine take_at (i := 1) (d := some 50) (v := .pointer (some ⟨b, 6, none⟩)) (by kernel_rfl) (by kernel_rfl) (by kernel_rfl) (by kernel_rfl) (fun _ _ _ h => h) ?_ hS ?_
          · intro o ho
            simp only [List.getElem?_toArray, List.getElem?_cons_succ, List.getElem?_cons_zero, Option.some.injEq] at ho
            subst ho
            refine Or.inl ⟨by rfl, ?_⟩
            intro w hSw
            (try dsimp only at hSw)
            go_simp
          simp only [Act.put, List.setIfInBounds_toArray, List.set_cons_zero, List.set_cons_succ]
          refine take_at (i := 2) (d := some 51) (v := .pointer (some ⟨b, 6, none⟩)) (by kernel_rfl) (by kernel_rfl) (by kernel_rfl) (by kernel_rfl) (fun _ _ _ h => h) ?_ hS ?_
          · intro o ho
            simp only [List.getElem?_toArray, List.getElem?_cons_succ, List.getElem?_cons_zero, Option.some.injEq] at ho
            subst ho
            refine Or.inl ⟨by rfl, ?_⟩
            intro w hSw
            (try dsimp only at hSw)
            go_simp
          simp only [Act.put, List.setIfInBounds_toArray, List.set_cons_zero, List.set_cons_succ]
          refine take_at (i := 3) (d := some 52) (v := .float .f64 x2) (by kernel_rfl) (by kernel_rfl) (by kernel_rfl) (by kernel_rfl) (fun _ _ _ h => h) ?_ hS ?_
          · intro o ho
            simp only [List.getElem?_toArray, List.getElem?_cons_succ, List.getElem?_cons_zero, Option.some.injEq] at ho
            subst ho
            refine Or.inl ⟨by rfl, ?_⟩
            intro w hSw
            (try dsimp only at hSw)
            go_simp
          simp only [Act.put, List.setIfInBounds_toArray, List.set_cons_zero, List.set_cons_succ]
          refine take_at (i := 4) (d := some 53) (v := .pointer (some ⟨b, 0, none⟩)) (by kernel_rfl) (by kernel_rfl) (by kernel_rfl) (by kernel_rfl) (fun _ _ _ h => h) ?_ hS ?_
          · intro o ho
            simp only [List.getElem?_toArray, List.getElem?_cons_succ, List.getElem?_cons_zero, Option.some.injEq] at ho
            subst ho
            refine Or.inl ⟨by rfl, ?_⟩
            intro w hSw
            (try dsimp only at hSw)
            go_simp
          simp only [Act.put, List.setIfInBounds_toArray, List.set_cons_zero, List.set_cons_succ]
          refine take_at (i := 5) (d := some 54) (v := .pointer (some ⟨b, 0, none⟩)) (by kernel_rfl) (by kernel_rfl) (by kernel_rfl) (by kernel_rfl) (fun _ _ _ h => h) ?_ hS ?_
          · intro o ho
            simp only [List.getElem?_toArray, List.getElem?_cons_succ, List.getElem?_cons_zero, Option.some.injEq] at ho
            subst ho
            refine Or.inl ⟨by rfl, ?_⟩
            intro w hSw
            (try dsimp only at hSw)
            go_simp
          simp only [Act.put, List.setIfInBounds_toArray, List.set_cons_zero, List.set_cons_succ]
          refine take_at (i := 6) (d := some 55) (v := .pointer (some ⟨b, 1, none⟩)) (by kernel_rfl) (by kernel_rfl) (by kernel_rfl) (by kernel_rfl) (fun _ _ _ h => h) ?_ hS ?_
          · intro o ho
            simp only [List.getElem?_toArray, List.getElem?_cons_succ, List.getElem?_cons_zero, Option.some.injEq] at ho
            subst ho
            refine Or.inl ⟨by rfl, ?_⟩
            intro w hSw
            (try dsimp only at hSw)
            go_simp
          simp only [Act.put, List.setIfInBounds_toArray, List.set_cons_zero, List.set_cons_succ]
          refine take_at (i := 7) (d := some 56) (v := .float .f64 y0) (by kernel_rfl) (by kernel_rfl) (by kernel_rfl) (by kernel_rfl) (fun _ _ _ h => h) ?_ hS ?_
          · intro o ho
            simp only [List.getElem?_toArray, List.getElem?_cons_succ, List.getElem?_cons_zero, Option.some.injEq] at ho
            subst ho
            refine Or.inl ⟨by rfl, ?_⟩
            intro w hSw
            (try dsimp only at hSw)
            go_simp
          simp only [Act.put, List.setIfInBounds_toArray, List.set_cons_zero, List.set_cons_succ]
          refine take_at (i := 8) (d := some 57) (v := .float .f64 l1) (by kernel_rfl) (by kernel_rfl) (by kernel_rfl) (by kernel_rfl) (fun _ _ _ h => h) ?_ hS ?_
          · intro o ho
            simp only [List.getElem?_toArray, List.getElem?_cons_succ, List.getElem?_cons_zero, Option.some.injEq] at ho
            subst ho
            refine Or.inl ⟨by rfl, ?_⟩
            intro w hSw
            (try dsimp only at hSw)
            go_simp
          simp only [Act.put, List.setIfInBounds_toArray, List.set_cons_zero, List.set_cons_succ]
          refine take_at (i := 9) (d := some 17) (v := .float .f64 l1) (by kernel_rfl) (by kernel_rfl) (by kernel_rfl) (by kernel_rfl) (fun _ _ _ h => h) ?_ hS ?_
          · intro o ho
            simp only [List.getElem?_toArray, List.getElem?_cons_succ, List.getElem?_cons_zero, Option.some.injEq] at ho
            subst ho
            refine Or.inl ⟨by rfl, ?_⟩
            intro w hSw
            (try dsimp only at hSw)
            go_simp
          simp only [Act.put, List.setIfInBounds_toArray, List.set_cons_zero, List.set_cons_succ]
          refine wpAnyH_done (by kernel_rfl) ?_ _
          go_wp2_with fail
          refine wp_region_held_drew (S := (fun W => W.cell? ⟨b, 0, none⟩ = some (.float .f64 x0) ∧ W.cell? ⟨b, 1, none⟩ = some (.float .f64 y0) ∧ W.cell? ⟨b, 2, none⟩ = some (.float .f64 q0) ∧ W.cell? ⟨b, 3, none⟩ = some (.float .f64 x1) ∧ W.cell? ⟨b, 4, none⟩ = some (.float .f64 y1) ∧ W.cell? ⟨b, 5, none⟩ = some (.float .f64 q1) ∧ W.cell? ⟨b, 6, none⟩ = some (.float .f64 x2) ∧ W.cell? ⟨b, 7, none⟩ = some (.float .f64 y2) ∧ W.cell? ⟨b, 8, none⟩ = some (.float .f64 q2) ∧ W.cell? ⟨wr.heap.size, 2, none⟩ = some (.float .f64 q1) ∧ FR w W ax ay bx by' cx cy dx dy b #[.float .f64 x0, .float .f64 y0, .float .f64 q0, .float .f64 x1, .float .f64 y1, .float .f64 q1, .float .f64 x2, .float .f64 y2, .float .f64 q2])) (by kernel_rfl) ⟨hS.1, hS.2.1, hS.2.2.1, hS.2.2.2.1, hS.2.2.2.2.1, hS.2.2.2.2.2.1, hS.2.2.2.2.2.2.1, hS.2.2.2.2.2.2.2.1, hS.2.2.2.2.2.2.2.2.1, hS.2.2.2.2.2.2.2.2.2.1, hS.2.2.2.2.2.2.2.2.2.2.drew⟩ (fun hS => ?_)
          refine take_at (i := 0) (d := some 58) (v := .pointer (some ⟨b, 6, none⟩)) (by kernel_rfl) (by kernel_rfl) (by kernel_rfl) (by kernel_rfl) (fun _ _ _ h => h) ?_ hS ?_
          · intro o ho
            simp only [List.getElem?_toArray, List.getElem?_cons_zero, Option.some.injEq] at ho
            subst ho
            refine Or.inl ⟨by rfl, ?_⟩
            intro w hSw
            (try dsimp only at hSw)
            go_simp
          simp only [Act.put, List.setIfInBounds_toArray, List.set_cons_zero, List.set_cons_succ]
          refine take_at (i := 1) (d := some 59) (v := .pointer (some ⟨b, 6, none⟩)) (by kernel_rfl) (by kernel_rfl) (by kernel_rfl) (by kernel_rfl) (fun _ _ _ h => h) ?_ hS ?_
          · intro o ho
            simp only [List.getElem?_toArray, List.getElem?_cons_succ, List.getElem?_cons_zero, Option.some.injEq] at ho
            subst ho
            refine Or.inl ⟨by rfl, ?_⟩
            intro w hSw
            (try dsimp only at hSw)
            go_simp
          simp only [Act.put, List.setIfInBounds_toArray, List.set_cons_zero, List.set_cons_succ]
          refine take_at (i := 2) (d := some 60) (v := .pointer (some ⟨b, 7, none⟩)) (by kernel_rfl) (by kernel_rfl) (by kernel_rfl) (by kernel_rfl) (fun _ _ _ h => h) ?_ hS ?_
          · intro o ho
            simp only [List.getElem?_toArray, List.getElem?_cons_succ, List.getElem?_cons_zero, Option.some.injEq] at ho
            subst ho
            refine Or.inl ⟨by rfl, ?_⟩
            intro w hSw
            (try dsimp only at hSw)
            go_simp
          simp only [Act.put, List.setIfInBounds_toArray, List.set_cons_zero, List.set_cons_succ]
          refine take_at (i := 3) (d := some 61) (v := .float .f64 y2) (by kernel_rfl) (by kernel_rfl) (by kernel_rfl) (by kernel_rfl) (fun _ _ _ h => h) ?_ hS ?_
          · intro o ho
            simp only [List.getElem?_toArray, List.getElem?_cons_succ, List.getElem?_cons_zero, Option.some.injEq] at ho
            subst ho
            refine Or.inl ⟨by rfl, ?_⟩
            intro w hSw
            (try dsimp only at hSw)
            go_simp
          simp only [Act.put, List.setIfInBounds_toArray, List.set_cons_zero, List.set_cons_succ]
          refine take_at (i := 4) (d := some 62) (v := .pointer (some ⟨b, 0, none⟩)) (by kernel_rfl) (by kernel_rfl) (by kernel_rfl) (by kernel_rfl) (fun _ _ _ h => h) ?_ hS ?_
          · intro o ho
            simp only [List.getElem?_toArray, List.getElem?_cons_succ, List.getElem?_cons_zero, Option.some.injEq] at ho
            subst ho
            refine Or.inl ⟨by rfl, ?_⟩
            intro w hSw
            (try dsimp only at hSw)
            go_simp
          simp only [Act.put, List.setIfInBounds_toArray, List.set_cons_zero, List.set_cons_succ]
          refine take_at (i := 5) (d := some 63) (v := .pointer (some ⟨b, 0, none⟩)) (by kernel_rfl) (by kernel_rfl) (by kernel_rfl) (by kernel_rfl) (fun _ _ _ h => h) ?_ hS ?_
          · intro o ho
            simp only [List.getElem?_toArray, List.getElem?_cons_succ, List.getElem?_cons_zero, Option.some.injEq] at ho
            subst ho
            refine Or.inl ⟨by rfl, ?_⟩
            intro w hSw
            (try dsimp only at hSw)
            go_simp
          simp only [Act.put, List.setIfInBounds_toArray, List.set_cons_zero, List.set_cons_succ]
          refine take_at (i := 6) (d := some 64) (v := .pointer (some ⟨b, 0, none⟩)) (by kernel_rfl) (by kernel_rfl) (by kernel_rfl) (by kernel_rfl) (fun _ _ _ h => h) ?_ hS ?_
          · intro o ho
            simp only [List.getElem?_toArray, List.getElem?_cons_succ, List.getElem?_cons_zero, Option.some.injEq] at ho
            subst ho
            refine Or.inl ⟨by rfl, ?_⟩
            intro w hSw
            (try dsimp only at hSw)
            go_simp
          simp only [Act.put, List.setIfInBounds_toArray, List.set_cons_zero, List.set_cons_succ]
          refine take_at (i := 7) (d := some 65) (v := .float .f64 x0) (by kernel_rfl) (by kernel_rfl) (by kernel_rfl) (by kernel_rfl) (fun _ _ _ h => h) ?_ hS ?_
          · intro o ho
            simp only [List.getElem?_toArray, List.getElem?_cons_succ, List.getElem?_cons_zero, Option.some.injEq] at ho
            subst ho
            refine Or.inl ⟨by rfl, ?_⟩
            intro w hSw
            (try dsimp only at hSw)
            go_simp
          simp only [Act.put, List.setIfInBounds_toArray, List.set_cons_zero, List.set_cons_succ]
          refine take_at (i := 8) (d := some 66) (v := .float .f64 r1) (by kernel_rfl) (by kernel_rfl) (by kernel_rfl) (by kernel_rfl) (fun _ _ _ h => h) ?_ hS ?_
          · intro o ho
            simp only [List.getElem?_toArray, List.getElem?_cons_succ, List.getElem?_cons_zero, Option.some.injEq] at ho
            subst ho
            refine Or.inl ⟨by rfl, ?_⟩
            intro w hSw
            (try dsimp only at hSw)
            go_simp
          simp only [Act.put, List.setIfInBounds_toArray, List.set_cons_zero, List.set_cons_succ]
          refine take_at (i := 9) (d := some 18) (v := .float .f64 r1) (by kernel_rfl) (by kernel_rfl) (by kernel_rfl) (by kernel_rfl) (fun _ _ _ h => h) ?_ hS ?_
          · intro o ho
            simp only [List.getElem?_toArray, List.getElem?_cons_succ, List.getElem?_cons_zero, Option.some.injEq] at ho
            subst ho
            refine Or.inl ⟨by rfl, ?_⟩
            intro w hSw
            (try dsimp only at hSw)
            go_simp
          simp only [Act.put, List.setIfInBounds_toArray, List.set_cons_zero, List.set_cons_succ]
          refine wpAnyH_done (by kernel_rfl) ?_ _
          have hq := hS.2.2.2.2.2.2.2.2.2.1
          have HS : Hid (((fun W => W.cell? ⟨b, 0, none⟩ = some (.float .f64 x0) ∧ W.cell? ⟨b, 1, none⟩ = some (.float .f64 y0) ∧ W.cell? ⟨b, 2, none⟩ = some (.float .f64 q0) ∧ W.cell? ⟨b, 3, none⟩ = some (.float .f64 x1) ∧ W.cell? ⟨b, 4, none⟩ = some (.float .f64 y1) ∧ W.cell? ⟨b, 5, none⟩ = some (.float .f64 q1) ∧ W.cell? ⟨b, 6, none⟩ = some (.float .f64 x2) ∧ W.cell? ⟨b, 7, none⟩ = some (.float .f64 y2) ∧ W.cell? ⟨b, 8, none⟩ = some (.float .f64 q2) ∧ W.cell? ⟨wr.heap.size, 2, none⟩ = some (.float .f64 q1) ∧ FR w W ax ay bx by' cx cy dx dy b #[.float .f64 x0, .float .f64 y0, .float .f64 q0, .float .f64 x1, .float .f64 y1, .float .f64 q1, .float .f64 x2, .float .f64 y2, .float .f64 q2])) _) := hS
          clear hS
          go_wp2_with fail
          refine wp_region_held_drew (S := (fun W => W.cell? ⟨b, 0, none⟩ = some (.float .f64 x0) ∧ W.cell? ⟨b, 1, none⟩ = some (.float .f64 y0) ∧ W.cell? ⟨b, 2, none⟩ = some (.float .f64 q0) ∧ W.cell? ⟨b, 3, none⟩ = some (.float .f64 x1) ∧ W.cell? ⟨b, 4, none⟩ = some (.float .f64 y1) ∧ W.cell? ⟨b, 5, none⟩ = some (.float .f64 q1) ∧ W.cell? ⟨b, 6, none⟩ = some (.float .f64 x2) ∧ W.cell? ⟨b, 7, none⟩ = some (.float .f64 y2) ∧ W.cell? ⟨b, 8, none⟩ = some (.float .f64 q2) ∧ W.cell? ⟨wr.heap.size, 2, none⟩ = some (.float .f64 q1) ∧ FR w W ax ay bx by' cx cy dx dy b #[.float .f64 x0, .float .f64 y0, .float .f64 q0, .float .f64 x1, .float .f64 y1, .float .f64 q1, .float .f64 x2, .float .f64 y2, .float .f64 q2])) (by kernel_rfl) ⟨HS.out.1, HS.out.2.1, HS.out.2.2.1, HS.out.2.2.2.1, HS.out.2.2.2.2.1, HS.out.2.2.2.2.2.1, HS.out.2.2.2.2.2.2.1, HS.out.2.2.2.2.2.2.2.1, HS.out.2.2.2.2.2.2.2.2.1, HS.out.2.2.2.2.2.2.2.2.2.1, HS.out.2.2.2.2.2.2.2.2.2.2.drew⟩ (fun hS => ?_)
          refine take_at (i := 0) (d := some 75) (v := .float .f64 z1) (by kernel_rfl) (by kernel_rfl) (by kernel_rfl) (by kernel_rfl) (fun _ _ _ h => h) ?_ hS ?_
          · intro o ho
            simp only [List.getElem?_toArray, List.getElem?_cons_zero, Option.some.injEq] at ho
            subst ho
            refine Or.inl ⟨by rfl, ?_⟩
            intro w hSw
            (try dsimp only at hSw)
            go_simp
          simp only [Act.put, List.setIfInBounds_toArray, List.set_cons_zero, List.set_cons_succ]
          refine take_at (i := 1) (d := some 76) (v := .pointer (some ⟨wr.heap.size, 2, none⟩)) (by kernel_rfl) (by kernel_rfl) (by kernel_rfl) (by kernel_rfl) (fun _ _ _ h => h) ?_ hS ?_
          · intro o ho
            simp only [List.getElem?_toArray, List.getElem?_cons_succ, List.getElem?_cons_zero, Option.some.injEq] at ho
            subst ho
            refine Or.inl ⟨by rfl, ?_⟩
            intro w hSw
            (try dsimp only at hSw)
            go_simp
          simp only [Act.put, List.setIfInBounds_toArray, List.set_cons_zero, List.set_cons_succ]
          refine take_at (i := 2) (d := some 77) (v := .float .f64 q1) (by kernel_rfl) (by kernel_rfl) (by kernel_rfl) (by kernel_rfl) (fun _ _ _ h => h) ?_ hS ?_
          · intro o ho
            simp only [List.getElem?_toArray, List.getElem?_cons_succ, List.getElem?_cons_zero, Option.some.injEq] at ho
            subst ho
            refine Or.inl ⟨by rfl, ?_⟩
            intro w hSw
            (try dsimp only at hSw)
            go_simp
          simp only [Act.put, List.setIfInBounds_toArray, List.set_cons_zero, List.set_cons_succ]
          refine take_at (i := 3) (d := some 78) (v := .float .f64 l1) (by kernel_rfl) (by kernel_rfl) (by kernel_rfl) (by kernel_rfl) (fun _ _ _ h => h) ?_ hS ?_
          · intro o ho
            simp only [List.getElem?_toArray, List.getElem?_cons_succ, List.getElem?_cons_zero, Option.some.injEq] at ho
            subst ho
            refine Or.inl ⟨by rfl, ?_⟩
            intro w hSw
            (try dsimp only at hSw)
            go_simp
          simp only [Act.put, List.setIfInBounds_toArray, List.set_cons_zero, List.set_cons_succ]
          refine take_at (i := 5) (d := some 80) (v := .float .f64 r1) (by kernel_rfl) (by kernel_rfl) (by kernel_rfl) (by kernel_rfl) (fun _ _ _ h => h) ?_ hS ?_
          · intro o ho
            simp only [List.getElem?_toArray, List.getElem?_cons_succ, List.getElem?_cons_zero, Option.some.injEq] at ho
            subst ho
            refine Or.inl ⟨by rfl, ?_⟩
            intro w hSw
            (try dsimp only at hSw)
            go_simp
          simp only [Act.put, List.setIfInBounds_toArray, List.set_cons_zero, List.set_cons_succ]
          refine call_at 4 (by kernel_rfl) (by kernel_rfl) ?_
          intro o ho
          simp only [List.getElem?_toArray, List.getElem?_cons_succ, List.getElem?_cons_zero, Option.some.injEq] at ho
          subst ho
          intro KF hK
          go_simp
          refine (HAl1.out _).mono ?_
          rintro e wx ⟨rfl, hbx⟩
          subst hbx
          have hbx := True.intro
          go_wp2_with fail
          refine hK.out _ _ hS ?_
          clear hS hbx
          intro hS
          clear hK KF
          try simp only [Act.put, List.setIfInBounds_toArray, List.set_cons_zero, List.set_cons_succ]
          refine call_at 6 (by kernel_rfl) (by kernel_rfl) ?_
          intro o ho
          simp only [List.getElem?_toArray, List.getElem?_cons_succ, List.getElem?_cons_zero, Option.some.injEq] at ho
          subst ho
          intro KF hK
          go_simp
          refine (HAr1.out _).mono ?_
          rintro e wx ⟨rfl, hbx⟩
          subst hbx
          have hbx := True.intro
          go_wp2_with fail
          refine hK.out _ _ hS ?_
          clear hS hbx
          intro hS
          clear hK KF
          try simp only [Act.put, List.setIfInBounds_toArray, List.set_cons_zero, List.set_cons_succ]
          refine take_at (i := 7) (d := some 82) (v := .float .f64 m1) (by kernel_rfl) (by kernel_rfl) (by kernel_rfl) (by kernel_rfl) (fun _ _ _ h => h) ?_ hS ?_
          · intro o ho
            simp only [List.getElem?_toArray, List.getElem?_cons_succ, List.getElem?_cons_zero, Option.some.injEq] at ho
            subst ho
            refine Or.inl ⟨by rfl, ?_⟩
            intro w hSw
            (try dsimp only at hSw)
            go_simp
          simp only [Act.put, List.setIfInBounds_toArray, List.set_cons_zero, List.set_cons_succ]
          refine take_at (i := 8) (d := some 83) (v := .float .f64 p1) (by kernel_rfl) (by kernel_rfl) (by kernel_rfl) (by kernel_rfl) (fun _ _ _ h => h) ?_ hS ?_
          · intro o ho
            simp only [List.getElem?_toArray, List.getElem?_cons_succ, List.getElem?_cons_zero, Option.some.injEq] at ho
            subst ho
            refine Or.inl ⟨by rfl, ?_⟩
            intro w hSw
            (try dsimp only at hSw)
            go_simp
          simp only [Act.put, List.setIfInBounds_toArray, List.set_cons_zero, List.set_cons_succ]
          refine take_at (i := 9) (d := some 84) (v := .float .f64 z2) (by kernel_rfl) (by kernel_rfl) (by kernel_rfl) (by kernel_rfl) (fun _ _ _ h => h) ?_ hS ?_
          · intro o ho
            simp only [List.getElem?_toArray, List.getElem?_cons_succ, List.getElem?_cons_zero, Option.some.injEq] at ho
            subst ho
            refine Or.inl ⟨by rfl, ?_⟩
            intro w hSw
            (try dsimp only at hSw)
            go_simp
          simp only [Act.put, List.setIfInBounds_toArray, List.set_cons_zero, List.set_cons_succ]
          refine take_at (i := 10) (d := some 12) (v := .float .f64 z2) (by kernel_rfl) (by kernel_rfl) (by kernel_rfl) (by kernel_rfl) (fun _ _ _ h => h) ?_ hS ?_
          · intro o ho
            simp only [List.getElem?_toArray, List.getElem?_cons_succ, List.getElem?_cons_zero, Option.some.injEq] at ho
            subst ho
            refine Or.inl ⟨by rfl, ?_⟩
            intro w hSw
            (try dsimp only at hSw)
            go_simp
          simp only [Act.put, List.setIfInBounds_toArray, List.set_cons_zero, List.set_cons_succ]
          refine wpAnyH_done (by kernel_rfl) ?_ _
          have HE : Hid (FR w _ ax ay bx by' cx cy dx dy b #[.float .f64 x0, .float .f64 y0, .float .f64 q0, .float .f64 x1, .float .f64 y1, .float .f64 q1, .float .f64 x2, .float .f64 y2, .float .f64 q2]) := hS.2.2.2.2.2.2.2.2.2.2
          clear hS HS hq
          go_wp2
          exact ⟨⟨Or.inr (Or.inr (Or.inl ⟨by go_num, rfl, rfl⟩)), HE.out⟩, by simp [intOf]⟩
        · obtain ⟨W1, hW1⟩ : ∃ W1, W1 = (wr.alloc (.cells #[.float .f64 x2, .float .f64 y2, .float .f64 q2] 47)) := ⟨_, rfl⟩
          have hb1 : Below wr.heap.size wr W1 := by rw [hW1]; exact (Below.refl _ wr).alloc (Nat.le_refl _) _
          have hF1 := hB.out.later hb1
          have hq : W1.cell? ⟨wr.heap.size, 2, none⟩ = some (.float .f64 q2) := by rw [hW1]; go_simp
          obtain ⟨g0, g1, g2, g3, g4, g5, g6, g7, g8⟩ := hB.out.2.cells9
          go_wp2_with fail
          rw [← hW1]
          clear hW1 hb1 
          refine wp_region_held_drew (S := (fun W => W.cell? ⟨b, 0, none⟩ = some (.float .f64 x0) ∧ W.cell? ⟨b, 1, none⟩ = some (.float .f64 y0) ∧ W.cell? ⟨b, 2, none⟩ = some (.float .f64 q0) ∧ W.cell? ⟨b, 3, none⟩ = some (.float .f64 x1) ∧ W.cell? ⟨b, 4, none⟩ = some (.float .f64 y1) ∧ W.cell? ⟨b, 5, none⟩ = some (.float .f64 q1) ∧ W.cell? ⟨b, 6, none⟩ = some (.float .f64 x2) ∧ W.cell? ⟨b, 7, none⟩ = some (.float .f64 y2) ∧ W.cell? ⟨b, 8, none⟩ = some (.float .f64 q2) ∧ W.cell? ⟨wr.heap.size, 2, none⟩ = some (.float .f64 q2) ∧ FR w W ax ay bx by' cx cy dx dy b #[.float .f64 x0, .float .f64 y0, .float .f64 q0, .float .f64 x1, .float .f64 y1, .float .f64 q1, .float .f64 x2, .float .f64 y2, .float .f64 q2])) (by kernel_rfl) ⟨hF1.2.cells9.1, hF1.2.cells9.2.1, hF1.2.cells9.2.2.1, hF1.2.cells9.2.2.2.1, hF1.2.cells9.2.2.2.2.1, hF1.2.cells9.2.2.2.2.2.1, hF1.2.cells9.2.2.2.2.2.2.1, hF1.2.cells9.2.2.2.2.2.2.2.1, hF1.2.cells9.2.2.2.2.2.2.2.2, hq, hF1.drew⟩ (fun hS => ?_)
          refine take_at (i := 0) (d := some 41) (v := .int .i64 2) (by kernel_rfl) (by kernel_rfl) (by kernel_rfl) (by kernel_rfl) (fun _ _ _ h => h) ?_ hS ?_
          · intro o ho
            simp only [List.getElem?_toArray, List.getElem?_cons_zero, Option.some.injEq] at ho
            subst ho
            refine Or.inl ⟨by rfl, ?_⟩
            intro w hSw
            (try dsimp only at hSw)
            go_simp
          simp only [Act.put, List.setIfInBounds_toArray, List.set_cons_zero, List.set_cons_succ]
          refine take_at (i := 1) (d := some 42) (v := .int .i64 3) (by kernel_rfl) (by kernel_rfl) (by kernel_rfl) (by kernel_rfl) (fun _ _ _ h => h) ?_ hS ?_
          · intro o ho
            simp only [List.getElem?_toArray, List.getElem?_cons_succ, List.getElem?_cons_zero, Option.some.injEq] at ho
            subst ho
            refine Or.inl ⟨by rfl, ?_⟩
            intro w hSw
            (try dsimp only at hSw)
            go_simp
          simp only [Act.put, List.setIfInBounds_toArray, List.set_cons_zero, List.set_cons_succ]
          refine take_at (i := 2) (d := some 43) (v := .int .i64 0) (by kernel_rfl) (by kernel_rfl) (by kernel_rfl) (by kernel_rfl) (fun _ _ _ h => h) ?_ hS ?_
          · intro o ho
            simp only [List.getElem?_toArray, List.getElem?_cons_succ, List.getElem?_cons_zero, Option.some.injEq] at ho
            subst ho
            refine Or.inl ⟨by rfl, ?_⟩
            intro w hSw
            (try dsimp only at hSw)
            go_simp
          simp only [Act.put, List.setIfInBounds_toArray, List.set_cons_zero, List.set_cons_succ]
          refine take_at (i := 3) (d := some 44) (v := .pointer (some ⟨b, 0, none⟩)) (by kernel_rfl) (by kernel_rfl) (by kernel_rfl) (by kernel_rfl) (fun _ _ _ h => h) ?_ hS ?_
          · intro o ho
            simp only [List.getElem?_toArray, List.getElem?_cons_succ, List.getElem?_cons_zero, Option.some.injEq] at ho
            subst ho
            refine Or.inl ⟨by rfl, ?_⟩
            intro w hSw
            (try dsimp only at hSw)
            go_simp
          simp only [Act.put, List.setIfInBounds_toArray, List.set_cons_zero, List.set_cons_succ]
          refine take_at (i := 4) (d := some 45) (v := .int .i64 2) (by kernel_rfl) (by kernel_rfl) (by kernel_rfl) (by kernel_rfl) (fun _ _ _ h => h) ?_ hS ?_
          · intro o ho
            simp only [List.getElem?_toArray, List.getElem?_cons_succ, List.getElem?_cons_zero, Option.some.injEq] at ho
            subst ho
            refine Or.inl ⟨by rfl, ?_⟩
            intro w hSw
            (try dsimp only at hSw)
            go_simp
          simp only [Act.put, List.setIfInBounds_toArray, List.set_cons_zero, List.set_cons_succ]
          refine take_at (i := 5) (d := some 46) (v := .int .i64 4) (by kernel_rfl) (by kernel_rfl) (by kernel_rfl) (by kernel_rfl) (fun _ _ _ h => h) ?_ hS ?_
          · intro o ho
            simp only [List.getElem?_toArray, List.getElem?_cons_succ, List.getElem?_cons_zero, Option.some.injEq] at ho
            subst ho
            refine Or.inl ⟨by rfl, ?_⟩
            intro w hSw
            (try dsimp only at hSw)
            go_simp
          simp only [Act.put, List.setIfInBounds_toArray, List.set_cons_zero, List.set_cons_succ]
          refine take_at (i := 6) (d := some 47) (v := .int .i64 1) (by kernel_rfl) (by kernel_rfl) (by kernel_rfl) (by kernel_rfl) (fun _ _ _ h => h) ?_ hS ?_
          · intro o ho
            simp only [List.getElem?_toArray, List.getElem?_cons_succ, List.getElem?_cons_zero, Option.some.injEq] at ho
            subst ho
            refine Or.inl ⟨by rfl, ?_⟩
            intro w hSw
            (try dsimp only at hSw)
            go_simp
          simp only [Act.put, List.setIfInBounds_toArray, List.set_cons_zero, List.set_cons_succ]
          refine take_at (i := 7) (d := some 48) (v := .pointer (some ⟨b, 3, none⟩)) (by kernel_rfl) (by kernel_rfl) (by kernel_rfl) (by kernel_rfl) (fun _ _ _ h => h) ?_ hS ?_
          · intro o ho
            simp only [List.getElem?_toArray, List.getElem?_cons_succ, List.getElem?_cons_zero, Option.some.injEq] at ho
            subst ho
            refine Or.inl ⟨by rfl, ?_⟩
            intro w hSw
            (try dsimp only at hSw)
            go_simp
          simp only [Act.put, List.setIfInBounds_toArray, List.set_cons_zero, List.set_cons_succ]
          refine take_at (i := 8) (d := some 15) (v := .pointer (some ⟨b, 0, none⟩)) (by kernel_rfl) (by kernel_rfl) (by kernel_rfl) (by kernel_rfl) (fun _ _ _ h => h) ?_ hS ?_
          · intro o ho
            simp only [List.getElem?_toArray, List.getElem?_cons_succ, List.getElem?_cons_zero, Option.some.injEq] at ho
            subst ho
            refine Or.inl ⟨by rfl, ?_⟩
            intro w hSw
            (try dsimp only at hSw)
            go_simp
          simp only [Act.put, List.setIfInBounds_toArray, List.set_cons_zero, List.set_cons_succ]
          refine take_at (i := 9) (d := some 16) (v := .pointer (some ⟨b, 3, none⟩)) (by kernel_rfl) (by kernel_rfl) (by kernel_rfl) (by kernel_rfl) (fun _ _ _ h => h) ?_ hS ?_
          · intro o ho
            simp only [List.getElem?_toArray, List.getElem?_cons_succ, List.getElem?_cons_zero, Option.some.injEq] at ho
            subst ho
            refine Or.inl ⟨by rfl, ?_⟩
            intro w hSw
            (try dsimp only at hSw)
            go_simp
          simp only [Act.put, List.setIfInBounds_toArray, List.set_cons_zero, List.set_cons_succ]
          refine wpAnyH_done (by kernel_rfl) ?_ _
          clear hq hF1
          go_wp2_with fail
          refine wp_region_held_drew (S := (fun W => W.cell? ⟨b, 0, none⟩ = some (.float .f64 x0) ∧ W.cell? ⟨b, 1, none⟩ = some (.float .f64 y0) ∧ W.cell? ⟨b, 2, none⟩ = some (.float .f64 q0) ∧ W.cell? ⟨b, 3, none⟩ = some (.float .f64 x1) ∧ W.cell? ⟨b, 4, none⟩ = some (.float .f64 y1) ∧ W.cell? ⟨b, 5, none⟩ = some (.float .f64 q1) ∧ W.cell? ⟨b, 6, none⟩ = some (.float .f64 x2) ∧ W.cell? ⟨b, 7, none⟩ = some (.float .f64 y2) ∧ W.cell? ⟨b, 8, none⟩ = some (.float .f64 q2) ∧ W.cell? ⟨wr.heap.size, 2, none⟩ = some (.float .f64 q2) ∧ FR w W ax ay bx by' cx cy dx dy b #[.float .f64 x0, .float .f64 y0, .float .f64 q0, .float .f64 x1, .float .f64 y1, .float .f64 q1, .float .f64 x2, .float .f64 y2, .float .f64 q2])) (by kernel_rfl) ⟨hS.1, hS.2.1, hS.2.2.1, hS.2.2.2.1, hS.2.2.2.2.1, hS.2.2.2.2.2.1, hS.2.2.2.2.2.2.1, hS.2.2.2.2.2.2.2.1, hS.2.2.2.2.2.2.2.2.1, hS.2.2.2.2.2.2.2.2.2.1, hS.2.2.2.2.2.2.2.2.2.2.drew⟩ (fun hS => ?_)
          refine take_at (i := 0) (d := some 49) (v := .pointer (some ⟨b, 0, none⟩)) (by kernel_rfl) (by kernel_rfl) (by kernel_rfl) (by kernel_rfl) (fun _ _ _ h => h) ?_ hS ?_
          · intro o ho
            simp only [List.getElem?_toArray, List.getElem?_cons_zero, Option.some.injEq] at ho
            subst ho
            refine Or.inl ⟨by rfl, ?_⟩
            intro w hSw
            (try dsimp only at hSw)
            go_simp
          simp only [Act.put, List.setIfInBounds_toArray, List.set_cons_zero, List.set_cons_succ]
          refine take_at (i := 1) (d := some 50) (v := .pointer (some ⟨b, 0, none⟩)) (by kernel_rfl) (by kernel_rfl) (by kernel_rfl) (by kernel_rfl) (fun _ _ _ h => h) ?_ hS ?_
          · intro o ho
            simp only [List.getElem?_toArray, List.getElem?_cons_succ, List.getElem?_cons_zero, Option.some.injEq] at ho
            subst ho
            refine Or.inl ⟨by rfl, ?_⟩
            intro w hSw
            (try dsimp only at hSw)
            go_simp
          simp only [Act.put, List.setIfInBounds_toArray, List.set_cons_zero, List.set_cons_succ]
          refine take_at (i := 2) (d := some 51) (v := .pointer (some ⟨b, 0, none⟩)) (by kernel_rfl) (by kernel_rfl) (by kernel_rfl) (by kernel_rfl) (fun _ _ _ h => h) ?_ hS ?_
          · intro o ho
            simp only [List.getElem?_toArray, List.getElem?_cons_succ, List.getElem?_cons_zero, Option.some.injEq] at ho
            subst ho
            refine Or.inl ⟨by rfl, ?_⟩
            intro w hSw
            (try dsimp only at hSw)
            go_simp
          simp only [Act.put, List.setIfInBounds_toArray, List.set_cons_zero, List.set_cons_succ]
          refine take_at (i := 3) (d := some 52) (v := .float .f64 x0) (by kernel_rfl) (by kernel_rfl) (by kernel_rfl) (by kernel_rfl) (fun _ _ _ h => h) ?_ hS ?_
          · intro o ho
            simp only [List.getElem?_toArray, List.getElem?_cons_succ, List.getElem?_cons_zero, Option.some.injEq] at ho
            subst ho
            refine Or.inl ⟨by rfl, ?_⟩
            intro w hSw
            (try dsimp only at hSw)
            go_simp
          simp only [Act.put, List.setIfInBounds_toArray, List.set_cons_zero, List.set_cons_succ]
          refine take_at (i := 4) (d := some 53) (v := .pointer (some ⟨b, 3, none⟩)) (by kernel_rfl) (by kernel_rfl) (by kernel_rfl) (by kernel_rfl) (fun _ _ _ h => h) ?_ hS ?_
          · intro o ho
            simp only [List.getElem?_toArray, List.getElem?_cons_succ, List.getElem?_cons_zero, Option.some.injEq] at ho
            subst ho
            refine Or.inl ⟨by rfl, ?_⟩
            intro w hSw
            (try dsimp only at hSw)
            go_simp
          simp only [Act.put, List.setIfInBounds_toArray, List.set_cons_zero, List.set_cons_succ]
          refine take_at (i := 5) (d := some 54) (v := .pointer (some ⟨b, 3, none⟩)) (by kernel_rfl) (by kernel_rfl) (by kernel_rfl) (by kernel_rfl) (fun _ _ _ h => h) ?_ hS ?_
          · intro o ho
            simp only [List.getElem?_toArray, List.getElem?_cons_succ, List.getElem?_cons_zero, Option.some.injEq] at ho
            subst ho
            refine Or.inl ⟨by rfl, ?_⟩
            intro w hSw
            (try dsimp only at hSw)
            go_simp
          simp only [Act.put, List.setIfInBounds_toArray, List.set_cons_zero, List.set_cons_succ]
          refine take_at (i := 6) (d := some 55) (v := .pointer (some ⟨b, 4, none⟩)) (by kernel_rfl) (by kernel_rfl) (by kernel_rfl) (by kernel_rfl) (fun _ _ _ h => h) ?_ hS ?_
          · intro o ho
            simp only [List.getElem?_toArray, List.getElem?_cons_succ, List.getElem?_cons_zero, Option.some.injEq] at ho
            subst ho
            refine Or.inl ⟨by rfl, ?_⟩
            intro w hSw
            (try dsimp only at hSw)
            go_simp
          simp only [Act.put, List.setIfInBounds_toArray, List.set_cons_zero, List.set_cons_succ]
          refine take_at (i := 7) (d := some 56) (v := .float .f64 y1) (by kernel_rfl) (by kernel_rfl) (by kernel_rfl) (by kernel_rfl) (fun _ _ _ h => h) ?_ hS ?_
          · intro o ho
            simp only [List.getElem?_toArray, List.getElem?_cons_succ, List.getElem?_cons_zero, Option.some.injEq] at ho
            subst ho
            refine Or.inl ⟨by rfl, ?_⟩
            intro w hSw
            (try dsimp only at hSw)
            go_simp
          simp only [Act.put, List.setIfInBounds_toArray, List.set_cons_zero, List.set_cons_succ]
          refine take_at (i := 8) (d := some 57) (v := .float .f64 l2) (by kernel_rfl) (by kernel_rfl) (by kernel_rfl) (by kernel_rfl) (fun _ _ _ h => h) ?_ hS ?_
          · intro o ho
            simp only [List.getElem?_toArray, List.getElem?_cons_succ, List.getElem?_cons_zero, Option.some.injEq] at ho
            subst ho
            refine Or.inl ⟨by rfl, ?_⟩
            intro w hSw
            (try dsimp only at hSw)
            go_simp
          simp only [Act.put, List.setIfInBounds_toArray, List.set_cons_zero, List.set_cons_succ]
          refine take_at (i := 9) (d := some 17) (v := .float .f64 l2) (by kernel_rfl) (by kernel_rfl) (by kernel_rfl) (by kernel_rfl) (fun _ _ _ h => h) ?_ hS ?_
          · intro o ho
            simp only [List.getElem?_toArray, List.getElem?_cons_succ, List.getElem?_cons_zero, Option.some.injEq] at ho
            subst ho
            refine Or.inl ⟨by rfl, ?_⟩
            intro w hSw
            (try dsimp only at hSw)
            go_simp
          simp only [Act.put, List.setIfInBounds_toArray, List.set_cons_zero, List.set_cons_succ]
          refine wpAnyH_done (by kernel_rfl) ?_ _
          go_wp2_with fail
          refine wp_region_held_drew (S := (fun W => W.cell? ⟨b, 0, none⟩ = some (.float .f64 x0) ∧ W.cell? ⟨b, 1, none⟩ = some (.float .f64 y0) ∧ W.cell? ⟨b, 2, none⟩ = some (.float .f64 q0) ∧ W.cell? ⟨b, 3, none⟩ = some (.float .f64 x1) ∧ W.cell? ⟨b, 4, none⟩ = some (.float .f64 y1) ∧ W.cell? ⟨b, 5, none⟩ = some (.float .f64 q1) ∧ W.cell? ⟨b, 6, none⟩ = some (.float .f64 x2) ∧ W.cell? ⟨b, 7, none⟩ = some (.float .f64 y2) ∧ W.cell? ⟨b, 8, none⟩ = some (.float .f64 q2) ∧ W.cell? ⟨wr.heap.size, 2, none⟩ = some (.float .f64 q2) ∧ FR w W ax ay bx by' cx cy dx dy b #[.float .f64 x0, .float .f64 y0, .float .f64 q0, .float .f64 x1, .float .f64 y1, .float .f64 q1, .float .f64 x2, .float .f64 y2, .float .f64 q2])) (by kernel_rfl) ⟨hS.1, hS.2.1, hS.2.2.1, hS.2.2.2.1, hS.2.2.2.2.1, hS.2.2.2.2.2.1, hS.2.2.2.2.2.2.1, hS.2.2.2.2.2.2.2.1, hS.2.2.2.2.2.2.2.2.1, hS.2.2.2.2.2.2.2.2.2.1, hS.2.2.2.2.2.2.2.2.2.2.drew⟩ (fun hS => ?_)
          refine take_at (i := 0) (d := some 58) (v := .pointer (some ⟨b, 0, none⟩)) (by kernel_rfl) (by kernel_rfl) (by kernel_rfl) (by kernel_rfl) (fun _ _ _ h => h) ?_ hS ?_
          · intro o ho
            simp only [List.getElem?_toArray, List.getElem?_cons_zero, Option.some.injEq] at ho
            subst ho
            refine Or.inl ⟨by rfl, ?_⟩
            intro w hSw
            (try dsimp only at hSw)
            go_simp
          simp only [Act.put, List.setIfInBounds_toArray, List.set_cons_zero, List.set_cons_succ]
          refine take_at (i := 1) (d := some 59) (v := .pointer (some ⟨b, 0, none⟩)) (by kernel_rfl) (by kernel_rfl) (by kernel_rfl) (by kernel_rfl) (fun _ _ _ h => h) ?_ hS ?_
          · intro o ho
            simp only [List.getElem?_toArray, List.getElem?_cons_succ, List.getElem?_cons_zero, Option.some.injEq] at ho
            subst ho
            refine Or.inl ⟨by rfl, ?_⟩
            intro w hSw
            (try dsimp only at hSw)
            go_simp
          simp only [Act.put, List.setIfInBounds_toArray, List.set_cons_zero, List.set_cons_succ]
          refine take_at (i := 2) (d := some 60) (v := .pointer (some ⟨b, 1, none⟩)) (by kernel_rfl) (by kernel_rfl) (by kernel_rfl) (by kernel_rfl) (fun _ _ _ h => h) ?_ hS ?_
          · intro o ho
            simp only [List.getElem?_toArray, List.getElem?_cons_succ, List.getElem?_cons_zero, Option.some.injEq] at ho
            subst ho
            refine Or.inl ⟨by rfl, ?_⟩
            intro w hSw
            (try dsimp only at hSw)
            go_simp
          simp only [Act.put, List.setIfInBounds_toArray, List.set_cons_zero, List.set_cons_succ]
          refine take_at (i := 3) (d := some 61) (v := .float .f64 y0) (by kernel_rfl) (by kernel_rfl) (by kernel_rfl) (by kernel_rfl) (fun _ _ _ h => h) ?_ hS ?_
          · intro o ho
            simp only [List.getElem?_toArray, List.getElem?_cons_succ, List.getElem?_cons_zero, Option.some.injEq] at ho
            subst ho
            refine Or.inl ⟨by rfl, ?_⟩
            intro w hSw
            (try dsimp only at hSw)
            go_simp
          simp only [Act.put, List.setIfInBounds_toArray, List.set_cons_zero, List.set_cons_succ]
          refine take_at (i := 4) (d := some 62) (v := .pointer (some ⟨b, 3, none⟩)) (by kernel_rfl) (by kernel_rfl) (by kernel_rfl) (by kernel_rfl) (fun _ _ _ h => h) ?_ hS ?_
          · intro o ho
            simp only [List.getElem?_toArray, List.getElem?_cons_succ, List.getElem?_cons_zero, Option.some.injEq] at ho
            subst ho
            refine Or.inl ⟨by rfl, ?_⟩
            intro w hSw
            (try dsimp only at hSw)
            go_simp
          simp only [Act.put, List.setIfInBounds_toArray, List.set_cons_zero, List.set_cons_succ]
          refine take_at (i := 5) (d := some 63) (v := .pointer (some ⟨b, 3, none⟩)) (by kernel_rfl) (by kernel_rfl) (by kernel_rfl) (by kernel_rfl) (fun _ _ _ h => h) ?_ hS ?_
          · intro o ho
            simp only [List.getElem?_toArray, List.getElem?_cons_succ, List.getElem?_cons_zero, Option.some.injEq] at ho
            subst ho
            refine Or.inl ⟨by rfl, ?_⟩
            intro w hSw
            (try dsimp only at hSw)
            go_simp
          simp only [Act.put, List.setIfInBounds_toArray, List.set_cons_zero, List.set_cons_succ]
          refine take_at (i := 6) (d := some 64) (v := .pointer (some ⟨b, 3, none⟩)) (by kernel_rfl) (by kernel_rfl) (by kernel_rfl) (by kernel_rfl) (fun _ _ _ h => h) ?_ hS ?_
          · intro o ho
            simp only [List.getElem?_toArray, List.getElem?_cons_succ, List.getElem?_cons_zero, Option.some.injEq] at ho
            subst ho
            refine Or.inl ⟨by rfl, ?_⟩
            intro w hSw
            (try dsimp only at hSw)
            go_simp
          simp only [Act.put, List.setIfInBounds_toArray, List.set_cons_zero, List.set_cons_succ]
          refine take_at (i := 7) (d := some 65) (v := .float .f64 x1) (by kernel_rfl) (by kernel_rfl) (by kernel_rfl) (by kernel_rfl) (fun _ _ _ h => h) ?_ hS ?_
          · intro o ho
            simp only [List.getElem?_toArray, List.getElem?_cons_succ, List.getElem?_cons_zero, Option.some.injEq] at ho
            subst ho
            refine Or.inl ⟨by rfl, ?_⟩
            intro w hSw
            (try dsimp only at hSw)
            go_simp
          simp only [Act.put, List.setIfInBounds_toArray, List.set_cons_zero, List.set_cons_succ]
          refine take_at (i := 8) (d := some 66) (v := .float .f64 r2) (by kernel_rfl) (by kernel_rfl) (by kernel_rfl) (by kernel_rfl) (fun _ _ _ h => h) ?_ hS ?_
          · intro o ho
            simp only [List.getElem?_toArray, List.getElem?_cons_succ, List.getElem?_cons_zero, Option.some.injEq] at ho
            subst ho
            refine Or.inl ⟨by rfl, ?_⟩
            intro w hSw
            (try dsimp only at hSw)
            go_simp
          simp only [Act.put, List.setIfInBounds_toArray, List.set_cons_zero, List.set_cons_succ]
          refine take_at (i := 9) (d := some 18) (v := .float .f64 r2) (by kernel_rfl) (by kernel_rfl) (by kernel_rfl) (by kernel_rfl) (fun _ _ _ h => h) ?_ hS ?_
          · intro o ho
            simp only [List.getElem?_toArray, List.getElem?_cons_succ, List.getElem?_cons_zero, Option.some.injEq] at ho
            subst ho
            refine Or.inl ⟨by rfl, ?_⟩
            intro w hSw
            (try dsimp only at hSw)
            go_simp
          simp only [Act.put, List.setIfInBounds_toArray, List.set_cons_zero, List.set_cons_succ]
          refine wpAnyH_done (by kernel_rfl) ?_ _
          have hq := hS.2.2.2.2.2.2.2.2.2.1
          have HS : Hid (((fun W => W.cell? ⟨b, 0, none⟩ = some (.float .f64 x0) ∧ W.cell? ⟨b, 1, none⟩ = some (.float .f64 y0) ∧ W.cell? ⟨b, 2, none⟩ = some (.float .f64 q0) ∧ W.cell? ⟨b, 3, none⟩ = some (.float .f64 x1) ∧ W.cell? ⟨b, 4, none⟩ = some (.float .f64 y1) ∧ W.cell? ⟨b, 5, none⟩ = some (.float .f64 q1) ∧ W.cell? ⟨b, 6, none⟩ = some (.float .f64 x2) ∧ W.cell? ⟨b, 7, none⟩ = some (.float .f64 y2) ∧ W.cell? ⟨b, 8, none⟩ = some (.float .f64 q2) ∧ W.cell? ⟨wr.heap.size, 2, none⟩ = some (.float .f64 q2) ∧ FR w W ax ay bx by' cx cy dx dy b #[.float .f64 x0, .float .f64 y0, .float .f64 q0, .float .f64 x1, .float .f64 y1, .float .f64 q1, .float .f64 x2, .float .f64 y2, .float .f64 q2])) _) := hS
          clear hS
          go_wp2_with fail
          refine wp_region_held_drew (S := (fun W => W.cell? ⟨b, 0, none⟩ = some (.float .f64 x0) ∧ W.cell? ⟨b, 1, none⟩ = some (.float .f64 y0) ∧ W.cell? ⟨b, 2, none⟩ = some (.float .f64 q0) ∧ W.cell? ⟨b, 3, none⟩ = some (.float .f64 x1) ∧ W.cell? ⟨b, 4, none⟩ = some (.float .f64 y1) ∧ W.cell? ⟨b, 5, none⟩ = some (.float .f64 q1) ∧ W.cell? ⟨b, 6, none⟩ = some (.float .f64 x2) ∧ W.cell? ⟨b, 7, none⟩ = some (.float .f64 y2) ∧ W.cell? ⟨b, 8, none⟩ = some (.float .f64 q2) ∧ W.cell? ⟨wr.heap.size, 2, none⟩ = some (.float .f64 q2) ∧ FR w W ax ay bx by' cx cy dx dy b #[.float .f64 x0, .float .f64 y0, .float .f64 q0, .float .f64 x1, .float .f64 y1, .float .f64 q1, .float .f64 x2, .float .f64 y2, .float .f64 q2])) (by kernel_rfl) ⟨HS.out.1, HS.out.2.1, HS.out.2.2.1, HS.out.2.2.2.1, HS.out.2.2.2.2.1, HS.out.2.2.2.2.2.1, HS.out.2.2.2.2.2.2.1, HS.out.2.2.2.2.2.2.2.1, HS.out.2.2.2.2.2.2.2.2.1, HS.out.2.2.2.2.2.2.2.2.2.1, HS.out.2.2.2.2.2.2.2.2.2.2.drew⟩ (fun hS => ?_)
          refine take_at (i := 0) (d := some 75) (v := .float .f64 z2) (by kernel_rfl) (by kernel_rfl) (by kernel_rfl) (by kernel_rfl) (fun _ _ _ h => h) ?_ hS ?_
          · intro o ho
            simp only [List.getElem?_toArray, List.getElem?_cons_zero, Option.some.injEq] at ho
            subst ho
            refine Or.inl ⟨by rfl, ?_⟩
            intro w hSw
            (try dsimp only at hSw)
            go_simp
          simp only [Act.put, List.setIfInBounds_toArray, List.set_cons_zero, List.set_cons_succ]
          refine take_at (i := 1) (d := some 76) (v := .pointer (some ⟨wr.heap.size, 2, none⟩)) (by kernel_rfl) (by kernel_rfl) (by kernel_rfl) (by kernel_rfl) (fun _ _ _ h => h) ?_ hS ?_
          · intro o ho
            simp only [List.getElem?_toArray, List.getElem?_cons_succ, List.getElem?_cons_zero, Option.some.injEq] at ho
            subst ho
            refine Or.inl ⟨by rfl, ?_⟩
            intro w hSw
            (try dsimp only at hSw)
            go_simp
          simp only [Act.put, List.setIfInBounds_toArray, List.set_cons_zero, List.set_cons_succ]
          refine take_at (i := 2) (d := some 77) (v := .float .f64 q2) (by kernel_rfl) (by kernel_rfl) (by kernel_rfl) (by kernel_rfl) (fun _ _ _ h => h) ?_ hS ?_
          · intro o ho
            simp only [List.getElem?_toArray, List.getElem?_cons_succ, List.getElem?_cons_zero, Option.some.injEq] at ho
            subst ho
            refine Or.inl ⟨by rfl, ?_⟩
            intro w hSw
            (try dsimp only at hSw)
            go_simp
          simp only [Act.put, List.setIfInBounds_toArray, List.set_cons_zero, List.set_cons_succ]
          refine take_at (i := 3) (d := some 78) (v := .float .f64 l2) (by kernel_rfl) (by kernel_rfl) (by kernel_rfl) (by kernel_rfl) (fun _ _ _ h => h) ?_ hS ?_
          · intro o ho
            simp only [List.getElem?_toArray, List.getElem?_cons_succ, List.getElem?_cons_zero, Option.some.injEq] at ho
            subst ho
            refine Or.inl ⟨by rfl, ?_⟩
            intro w hSw
            (try dsimp only at hSw)
            go_simp
          simp only [Act.put, List.setIfInBounds_toArray, List.set_cons_zero, List.set_cons_succ]
          refine take_at (i := 5) (d := some 80) (v := .float .f64 r2) (by kernel_rfl) (by kernel_rfl) (by kernel_rfl) (by kernel_rfl) (fun _ _ _ h => h) ?_ hS ?_
          · intro o ho
            simp only [List.getElem?_toArray, List.getElem?_cons_succ, List.getElem?_cons_zero, Option.some.injEq] at ho
            subst ho
            refine Or.inl ⟨by rfl, ?_⟩
            intro w hSw
            (try dsimp only at hSw)
            go_simp
          simp only [Act.put, List.setIfInBounds_toArray, List.set_cons_zero, List.set_cons_succ]
          refine call_at 4 (by kernel_rfl) (by kernel_rfl) ?_
          intro o ho
          simp only [List.getElem?_toArray, List.getElem?_cons_succ, List.getElem?_cons_zero, Option.some.injEq] at ho
          subst ho
          intro KF hK
          go_simp
          refine (HAl2.out _).mono ?_
          rintro e wx ⟨rfl, hbx⟩
          subst hbx
          have hbx := True.intro
          go_wp2_with fail
          refine hK.out _ _ hS ?_
          clear hS hbx
          intro hS
          clear hK KF
          try simp only [Act.put, List.setIfInBounds_toArray, List.set_cons_zero, List.set_cons_succ]
          refine call_at 6 (by kernel_rfl) (by kernel_rfl) ?_
          intro o ho
          simp only [List.getElem?_toArray, List.getElem?_cons_succ, List.getElem?_cons_zero, Option.some.injEq] at ho
          subst ho
          intro KF hK
          go_simp
          refine (HAr2.out _).mono ?_
          rintro e wx ⟨rfl, hbx⟩
          subst hbx
          have hbx := True.intro
          go_wp2_with fail
          refine hK.out _ _ hS ?_
          clear hS hbx
          intro hS
          clear hK KF
          try simp only [Act.put, List.setIfInBounds_toArray, List.set_cons_zero, List.set_cons_succ]
          refine take_at (i := 7) (d := some 82) (v := .float .f64 m2) (by kernel_rfl) (by kernel_rfl) (by kernel_rfl) (by kernel_rfl) (fun _ _ _ h => h) ?_ hS ?_
          · intro o ho
            simp only [List.getElem?_toArray, List.getElem?_cons_succ, List.getElem?_cons_zero, Option.some.injEq] at ho
            subst ho
            refine Or.inl ⟨by rfl, ?_⟩
            intro w hSw
            (try dsimp only at hSw)
            go_simp
          simp only [Act.put, List.setIfInBounds_toArray, List.set_cons_zero, List.set_cons_succ]
          refine take_at (i := 8) (d := some 83) (v := .float .f64 p2) (by kernel_rfl) (by kernel_rfl) (by kernel_rfl) (by kernel_rfl) (fun _ _ _ h => h) ?_ hS ?_
          · intro o ho
            simp only [List.getElem?_toArray, List.getElem?_cons_succ, List.getElem?_cons_zero, Option.some.injEq] at ho
            subst ho
            refine Or.inl ⟨by rfl, ?_⟩
            intro w hSw
            (try dsimp only at hSw)
            go_simp
          simp only [Act.put, List.setIfInBounds_toArray, List.set_cons_zero, List.set_cons_succ]
          refine take_at (i := 9) (d := some 84) (v := .float .f64 z3) (by kernel_rfl) (by kernel_rfl) (by kernel_rfl) (by kernel_rfl) (fun _ _ _ h => h) ?_ hS ?_
          · intro o ho
            simp only [List.getElem?_toArray, List.getElem?_cons_succ, List.getElem?_cons_zero, Option.some.injEq] at ho
            subst ho
            refine Or.inl ⟨by rfl, ?_⟩
            intro w hSw
            (try dsimp only at hSw)
            go_simp
          simp only [Act.put, List.setIfInBounds_toArray, List.set_cons_zero, List.set_cons_succ]
          refine take_at (i := 10) (d := some 12) (v := .float .f64 z3) (by kernel_rfl) (by kernel_rfl) (by kernel_rfl) (by kernel_rfl) (fun _ _ _ h => h) ?_ hS ?_
          · intro o ho
            simp only [List.getElem?_toArray, List.getElem?_cons_succ, List.getElem?_cons_zero, Option.some.injEq] at ho
            subst ho
            refine Or.inl ⟨by rfl, ?_⟩
            intro w hSw
            (try dsimp only at hSw)
            go_simp
          simp only [Act.put, List.setIfInBounds_toArray, List.set_cons_zero, List.set_cons_succ]
          refine wpAnyH_done (by kernel_rfl) ?_ _
          have HE : Hid (FR w _ ax ay bx by' cx cy dx dy b #[.float .f64 x0, .float .f64 y0, .float .f64 q0, .float .f64 x1, .float .f64 y1, .float .f64 q1, .float .f64 x2, .float .f64 y2, .float .f64 q2]) := hS.2.2.2.2.2.2.2.2.2.2
          clear hS HS hq
          go_wp2
          exact ⟨⟨Or.inr (Or.inr (Or.inr (⟨by go_num, rfl, rfl⟩))), HE.out⟩, by simp [intOf]⟩
        · clear el0 er0 ed0 et0 em0 ep0 el1 er1 ed1 et1 em1 ep1 el2 er2 ed2 et2 em2 ep2 es1 ez1 es2 ez2 es3 ez3
          have ha0 := hB.out.1.a0
          have ha1 := hB.out.1.a1
          have hb0 := hB.out.1.b0
          have hb1 := hB.out.1.b1
          have hc0 := hB.out.1.c0
          have hc1 := hB.out.1.c1
          have hd0 := hB.out.1.d0
          have hd1 := hB.out.1.d1
          go_wp2_with fail
          refine (HAs.out _).mono ?_
          rintro e wx ⟨rfl, hbx⟩
          subst hbx
          cases tb
          · go_wp2_with fail
            refine (HC.out _).mono ?_
            rintro e wx ⟨rfl, hbx⟩
            subst hbx
            go_wp2
            go_ret2
            exact ⟨⟨sg, true, rfl, fun _ => ⟨HP.out, HSG.out (by simp)⟩, fun h => Bool.noConfusion h, fun _ _ => rfl⟩, hB.out.1.bel⟩
          · cases tb2
            · go_wp2
              go_ret2
              exact ⟨⟨0, false, rfl, fun h => Bool.noConfusion h, fun _ => rfl, fun _ h => by have := HKN.out h; simp at this⟩, hB.out.1.bel⟩
            · go_wp2_with fail
              refine (whole4 ax ay bx by' cx cy dx dy _ HP.out).mono ?_
              rintro e w3 ⟨⟨t, rfl, ht⟩, hb3⟩
              have HB3 : Hid (Below w.heap.size w w3) := below_step hB.out.1.bel hb3
              have HT3 : Hid (t = true ↔ Wh ax ay bx by' cx cy dx dy) := ht
              clear ht hb3 ha0 ha1 hb0 hb1 hc0 hc1 hd0 hd1
              cases t
              · go_wp2
                go_ret2
                exact ⟨⟨0, false, rfl, fun h => Bool.noConfusion h, fun _ => rfl, fun _ h => by have := HT3.out.2 h.wh; simp at this⟩, HB3.out⟩
              · go_wp2_with fail
                refine (HC.out _).mono ?_
                rintro e wx ⟨rfl, hbx⟩
                subst hbx
                go_wp2
                go_ret2
                exact ⟨⟨sg, true, rfl, fun _ => ⟨HP.out, HSW.out (by simp) (HT3.out.1 (by simp))⟩, fun h => Bool.noConfusion h, fun _ _ => rfl⟩, HB3.out⟩
    · exact ⟨undef, undef, undef, undef, undef, 0, rfl, hS, fun h => Bool.noConfusion h, fun h => by omega, fun h => by omega, fun h => by omega, fun h => by omega⟩

end Go.Proofs.Ytghchejehlljkaa
