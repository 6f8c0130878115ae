/- Own texts, put together: Cg. -/
import Derived.Test.YtghchejehlljkaaQ14
/- Circles: exactSign. -/
namespace Go.Proofs.Ytghchejehlljkaa
open Go.RowKit Go.Shelf
attribute [local go_sem ↓] Go.wp_at_zero Go.wp_at_succ
attribute [local go_sem] run_store_float
theorem run_store_fn (P : Program) (w : World) (a : Addr) (m : Mode) (f : Fn) (x y : Array Value) : (store a (.func f x y) m).run P w = stored P w a (.func f x y) m := run_store P w a _ m rfl
attribute [local go_sem] run_store_fn

theorem NL.mono {t N N' : Nat} {q : Rat} {bs : List Nat} (h : NL t N q bs) (hN : N ≤ N') : NL t N' q bs := ⟨h.may, h.sum, h.m, Rat.le_trans h.l (U_mono hN)⟩
theorem RowL.shape {W : World} {X Y : Rat} {s1 s2 s3 : Value} (h : RowL W X Y s1 s2 s3) : ∃ a1 n1 c1 a2 n2 c2 a3 n3 c3, s1 = .slice a1 n1 c1 ∧ s2 = .slice a2 n2 c2 ∧ s3 = .slice a3 n3 c3 := by
  obtain ⟨l1, l2, l3, h1, _⟩ := h
  obtain ⟨a1, n1, c1, e1⟩ := h1.1.shape
  obtain ⟨a2, n2, c2, e2⟩ := h1.2.1.shape
  obtain ⟨a3, n3, c3, e3⟩ := h1.2.2.shape
  exact ⟨a1, n1, c1, a2, n2, c2, a3, n3, c3, e1, e2, e3⟩
theorem B4.moved {w W W' : World} {ax ay bx by' cx cy dx dy g : Nat} (h : B4 w W ax ay bx by' cx cy dx dy) (hm : Moved W W' g) (hg : w.heap.size + 1 + 1 + 1 < g) : B4 w W' ax ay bx by' cx cy dx dy :=
  ⟨hm.cell _ _ _ (by omega) h.a0, hm.cell _ _ _ (by omega) h.a1, hm.cell _ _ _ (by omega) h.b0, hm.cell _ _ _ (by omega) h.b1, hm.cell _ _ _ (by omega) h.c0, hm.cell _ _ _ (by omega) h.c1, hm.cell _ _ _ (by omega) h.d0, hm.cell _ _ _ (by omega) h.d1, hm.bel _ _ (by omega) h.bel⟩

/-- What lies in memory while the rows are multiplied. -/
structure LW (w W : World) (ax ay bx by' cx cy dx dy b : Nat) (s0 s1 s2 s3 s4 s5 s6 s7 s8 : Value) (l0 l1 l2 l3 l4 l5 l6 l7 l8 : List Nat) : Prop where
  pts : B4 w W ax ay bx by' cx cy dx dy
  cw : CW (w.heap.size + 1 + 1 + 1) (w.heap.size + 1 + 1 + 1 + 1 + 1) (w.heap.size + 1 + 1 + 1 + 1 + 1 + 1) (w.heap.size + 1 + 1 + 1 + 1) dx dy W
  rows : CB W b #[s0, s1, s2, s3, s4, s5, s6, s7, s8] 66
  f0 : Fs W s0 l0
  f1 : Fs W s1 l1
  f2 : Fs W s2 l2
  f3 : Fs W s3 l3
  f4 : Fs W s4 l4
  f5 : Fs W s5 l5
  f6 : Fs W s6 l6
  f7 : Fs W s7 l7
  f8 : Fs W s8 l8
theorem LW.later {w W W' : World} {ax ay bx by' cx cy dx dy b : Nat} {s0 s1 s2 s3 s4 s5 s6 s7 s8 : Value} {l0 l1 l2 l3 l4 l5 l6 l7 l8 : List Nat} (h : LW w W ax ay bx by' cx cy dx dy b s0 s1 s2 s3 s4 s5 s6 s7 s8 l0 l1 l2 l3 l4 l5 l6 l7 l8) (hb : Below W.heap.size W W') : LW w W' ax ay bx by' cx cy dx dy b s0 s1 s2 s3 s4 s5 s6 s7 s8 l0 l1 l2 l3 l4 l5 l6 l7 l8 :=
  ⟨h.pts.later hb, h.cw.later hb, h.rows.later hb, h.f0.later hb, h.f1.later hb, h.f2.later hb, h.f3.later hb, h.f4.later hb, h.f5.later hb, h.f6.later hb, h.f7.later hb, h.f8.later hb⟩
theorem LW.drew {w W : World} {ax ay bx by' cx cy dx dy b : Nat} {s0 s1 s2 s3 s4 s5 s6 s7 s8 : Value} {l0 l1 l2 l3 l4 l5 l6 l7 l8 : List Nat} (h : LW w W ax ay bx by' cx cy dx dy b s0 s1 s2 s3 s4 s5 s6 s7 s8 l0 l1 l2 l3 l4 l5 l6 l7 l8) : LW w W.drew ax ay bx by' cx cy dx dy b s0 s1 s2 s3 s4 s5 s6 s7 s8 l0 l1 l2 l3 l4 l5 l6 l7 l8 :=
  ⟨h.pts.drew, h.cw.drew, h.rows.drew, h.f0.drew, h.f1.drew, h.f2.drew, h.f3.drew, h.f4.drew, h.f5.drew, h.f6.drew, h.f7.drew, h.f8.drew⟩
theorem LW.moved {w W W' : World} {ax ay bx by' cx cy dx dy b g : Nat} {s0 s1 s2 s3 s4 s5 s6 s7 s8 : Value} {l0 l1 l2 l3 l4 l5 l6 l7 l8 : List Nat} (h : LW w W ax ay bx by' cx cy dx dy b s0 s1 s2 s3 s4 s5 s6 s7 s8 l0 l1 l2 l3 l4 l5 l6 l7 l8) (hm : Moved W W' g) (hn : ∀ i x, W.cell? ⟨g, i, none⟩ ≠ some (.float .f64 x)) (hg : w.heap.size + 1 + 1 + 1 + 1 + 1 + 1 < g) (hb : b ≠ g) : LW w W' ax ay bx by' cx cy dx dy b s0 s1 s2 s3 s4 s5 s6 s7 s8 l0 l1 l2 l3 l4 l5 l6 l7 l8 :=
  ⟨h.pts.moved hm (by omega), h.cw.moved hm (by omega) (by omega) (by omega) (by omega), hm.box _ _ _ hb h.rows, fs_moved h.f0 hm hn, fs_moved h.f1 hm hn, fs_moved h.f2 hm hn, fs_moved h.f3 hm hn, fs_moved h.f4 hm hn, fs_moved h.f5 hm hn, fs_moved h.f6 hm hn, fs_moved h.f7 hm hn, fs_moved h.f8 hm hn⟩

/-- A row, as a value. -/
def RowV (W : World) (X Y : Rat) (c : Value) : Prop := ∃ s1 s2 s3, c = .agg #[s1, s2, s3] ∧ RowL W X Y s1 s2 s3
theorem RowV.later {W W' : World} {X Y : Rat} {c : Value} (h : RowV W X Y c) (hb : Below W.heap.size W W') : RowV W' X Y c := by
  obtain ⟨s1, s2, s3, e, h⟩ := h
  exact ⟨s1, s2, s3, e, h.later hb⟩
/-- All three rows, as a value. -/
def Rows9 (W : World) (X0 Y0 X1 Y1 X2 Y2 : Rat) (c : Value) : Prop := ∃ s0 s1 s2 s3 s4 s5 s6 s7 s8, c = .agg #[s0, s1, s2, s3, s4, s5, s6, s7, s8] ∧ RowL W X0 Y0 s0 s1 s2 ∧ RowL W X1 Y1 s3 s4 s5 ∧ RowL W X2 Y2 s6 s7 s8
theorem Rows9.later {W W' : World} {X0 Y0 X1 Y1 X2 Y2 : Rat} {c : Value} (h : Rows9 W X0 Y0 X1 Y1 X2 Y2 c) (hb : Below W.heap.size W W') : Rows9 W' X0 Y0 X1 Y1 X2 Y2 c := by
  obtain ⟨s0, s1, s2, s3, s4, s5, s6, s7, s8, e, h0, h1, h2⟩ := h
  exact ⟨s0, s1, s2, s3, s4, s5, s6, s7, s8, e, h0.later hb, h1.later hb, h2.later hb⟩
/-- The points, and what the closures need. -/
def RX (w W : World) (dx dy : Nat) : Prop := CW (w.heap.size + 1 + 1 + 1) (w.heap.size + 1 + 1 + 1 + 1 + 1) (w.heap.size + 1 + 1 + 1 + 1 + 1 + 1) (w.heap.size + 1 + 1 + 1 + 1) dx dy W ∧ Below w.heap.size w W
theorem RX.later {w W W' : World} {dx dy : Nat} (h : RX w W dx dy) (hb : Below W.heap.size W W') : RX w W' dx dy := ⟨h.1.later hb, below_step h.2 hb⟩
theorem RX.drew {w W : World} {dx dy : Nat} (h : RX w W dx dy) : RX w W.drew dx dy := ⟨h.1.drew, h.2.drew⟩

set_option maxRecDepth 100000 in
set_option maxHeartbeats 8000000 in
theorem cexact_any (ax ay bx by' cx cy dx dy : Nat) (w : World) (hw : W8 ax ay bx by' cx cy dx dy) (hp : P4 ax ay bx by' cx cy dx dy) :
    Calls Try.prog 23 #[pv ax ay, pv bx by', pv cx cy, pv dx dy] w fun e w' => e = .returned (.int .i64 (sgq (S4 ax ay bx by' cx cy dx dy))) ∧ Below w.heap.size w w' := by
  have HW : Hid (W8 ax ay bx by' cx cy dx dy) := hw
  have HP : Hid (P4 ax ay bx by' cx cy dx dy) := hp
  clear hw hp
  go_enter Try.func23, Try.ntmps23
  go_wp2_with fail
  have hS0 := B4.start w ax ay bx by' cx cy dx dy
  obtain ⟨W4, hW4⟩ : ∃ W4, W4 = ((((w.alloc (.cells #[.float .f64 ax, .float .f64 ay] 24)).alloc (.cells #[.float .f64 bx, .float .f64 by'] 24)).alloc (.cells #[.float .f64 cx, .float .f64 cy] 24)).alloc (.cells #[.float .f64 dx, .float .f64 dy] 24)) := ⟨_, rfl⟩
  have hsz : W4.heap.size = w.heap.size + 1 + 1 + 1 + 1 := by rw [hW4]; simp
  rw [← hW4] at hS0 ⊢
  clear hW4
  obtain ⟨W0, hW0⟩ : ∃ W0, W0 = ((W4.alloc (.cells #[.bool true] 4)).alloc (.cells #[.func (Fn.func 40) #[] #[.pointer (some ⟨w.heap.size + 1 + 1 + 1 + 1, 0, none⟩)]] 62)).alloc (.cells #[.func (Fn.func 42) #[] #[.pointer (some ⟨w.heap.size + 1 + 1 + 1 + 1, 0, none⟩)]] 62) := ⟨_, rfl⟩
  have hb0 : Below W4.heap.size W4 W0 := by
    rw [hW0]
    exact (((Below.refl _ W4).alloc (Nat.le_refl _) _).alloc (by simp) _).alloc (by simp; omega) _
  have hB0 := hS0.later hb0
  have hC0 : CW (w.heap.size + 1 + 1 + 1) (w.heap.size + 1 + 1 + 1 + 1 + 1) (w.heap.size + 1 + 1 + 1 + 1 + 1 + 1) (w.heap.size + 1 + 1 + 1 + 1) dx dy W0 := by
    refine ⟨hB0.d0, hB0.d1, ?_, ?_, ?_⟩
    · rw [hW0, ← hsz]; go_simp
    · rw [hW0, ← hsz]; go_simp
    · have := (CB.new W4 #[.bool true] 4).later (W' := W0) (by rw [hW0]; exact ((Below.refl _ _).alloc (Nat.le_refl _) _).alloc (by simp) _)
      rwa [hsz] at this
  have HB0 : Hid (RX w W0 dx dy) := ⟨hC0, hB0.bel⟩
  obtain ⟨za0, za1, zb0, zb1, zc0, zc1, zd0, zd1, _⟩ := hB0
  try rw [hsz]
  rw [← hW0]
  clear hW0 hb0 hS0 hC0 hsz
  refine wp_region_held_drew (S := (fun W => W.cell? ⟨w.heap.size, 0, none⟩ = some (.float .f64 ax) ∧ W.cell? ⟨w.heap.size, 1, none⟩ = some (.float .f64 ay) ∧ W.cell? ⟨w.heap.size + 1, 0, none⟩ = some (.float .f64 bx) ∧ W.cell? ⟨w.heap.size + 1, 1, none⟩ = some (.float .f64 by') ∧ W.cell? ⟨w.heap.size + 1 + 1, 0, none⟩ = some (.float .f64 cx) ∧ W.cell? ⟨w.heap.size + 1 + 1, 1, none⟩ = some (.float .f64 cy) ∧ W.cell? ⟨w.heap.size + 1 + 1 + 1, 0, none⟩ = some (.float .f64 dx) ∧ W.cell? ⟨w.heap.size + 1 + 1 + 1, 1, none⟩ = some (.float .f64 dy) ∧ RX w W dx dy)) (by kernel_rfl) ⟨za0, za1, zb0, zb1, zc0, zc1, zd0, zd1, HB0.out.drew⟩ (fun hS => ?_)
  refine take_at (i := 0) (d := some 23) (v := .func (Fn.func 44) #[] #[.pointer (some ⟨w.heap.size + 1 + 1 + 1, 0, none⟩), .pointer (some ⟨w.heap.size + 1 + 1 + 1 + 1 + 1, 0, none⟩), .pointer (some ⟨w.heap.size + 1 + 1 + 1 + 1 + 1 + 1, 0, none⟩)]) (by kernel_rfl) (by kernel_rfl) (by kernel_rfl) (by kernel_rfl) (fun _ _ _ h => h) ?_ hS ?_
  · intro o ho
    simp only [List.getElem?_toArray, List.getElem?_cons_zero, Option.some.injEq] at ho
    subst ho
    refine Or.inl ⟨by rfl, ?_⟩
    intro w hSw
    (try dsimp only at hSw)
    go_simp
  simp only [Act.put, List.setIfInBounds_toArray, List.set_cons_zero, List.set_cons_succ]
  refine take_at (i := 1) (d := some 24) (v := .agg #[.float .f64 ax, .float .f64 ay]) (by kernel_rfl) (by kernel_rfl) (by kernel_rfl) (by kernel_rfl) (fun _ _ _ h => h) ?_ hS ?_
  · intro o ho
    simp only [List.getElem?_toArray, List.getElem?_cons_succ, List.getElem?_cons_zero, Option.some.injEq] at ho
    subst ho
    refine Or.inl ⟨by rfl, ?_⟩
    intro w hSw
    (try dsimp only at hSw)
    go_simp
  simp only [Act.put, List.setIfInBounds_toArray, List.set_cons_zero, List.set_cons_succ]
  refine take_at (i := 3) (d := some 26) (v := .func (Fn.func 44) #[] #[.pointer (some ⟨w.heap.size + 1 + 1 + 1, 0, none⟩), .pointer (some ⟨w.heap.size + 1 + 1 + 1 + 1 + 1, 0, none⟩), .pointer (some ⟨w.heap.size + 1 + 1 + 1 + 1 + 1 + 1, 0, none⟩)]) (by kernel_rfl) (by kernel_rfl) (by kernel_rfl) (by kernel_rfl) (fun _ _ _ h => h) ?_ hS ?_
  · intro o ho
    simp only [List.getElem?_toArray, List.getElem?_cons_succ, List.getElem?_cons_zero, Option.some.injEq] at ho
    subst ho
    refine Or.inl ⟨by rfl, ?_⟩
    intro w hSw
    (try dsimp only at hSw)
    go_simp
  simp only [Act.put, List.setIfInBounds_toArray, List.set_cons_zero, List.set_cons_succ]
  refine take_at (i := 4) (d := some 27) (v := .agg #[.float .f64 bx, .float .f64 by']) (by kernel_rfl) (by kernel_rfl) (by kernel_rfl) (by kernel_rfl) (fun _ _ _ h => h) ?_ hS ?_
  · intro o ho
    simp only [List.getElem?_toArray, List.getElem?_cons_succ, List.getElem?_cons_zero, Option.some.injEq] at ho
    subst ho
    refine Or.inl ⟨by rfl, ?_⟩
    intro w hSw
    (try dsimp only at hSw)
    go_simp
  simp only [Act.put, List.setIfInBounds_toArray, List.set_cons_zero, List.set_cons_succ]
  refine take_at (i := 6) (d := some 29) (v := .func (Fn.func 44) #[] #[.pointer (some ⟨w.heap.size + 1 + 1 + 1, 0, none⟩), .pointer (some ⟨w.heap.size + 1 + 1 + 1 + 1 + 1, 0, none⟩), .pointer (some ⟨w.heap.size + 1 + 1 + 1 + 1 + 1 + 1, 0, none⟩)]) (by kernel_rfl) (by kernel_rfl) (by kernel_rfl) (by kernel_rfl) (fun _ _ _ h => h) ?_ hS ?_
  · intro o ho
    simp only [List.getElem?_toArray, List.getElem?_cons_succ, List.getElem?_cons_zero, Option.some.injEq] at ho
    subst ho
    refine Or.inl ⟨by rfl, ?_⟩
    intro w hSw
    (try dsimp only at hSw)
    go_simp
  simp only [Act.put, List.setIfInBounds_toArray, List.set_cons_zero, List.set_cons_succ]
  refine take_at (i := 7) (d := some 30) (v := .agg #[.float .f64 cx, .float .f64 cy]) (by kernel_rfl) (by kernel_rfl) (by kernel_rfl) (by kernel_rfl) (fun _ _ _ h => h) ?_ hS ?_
  · intro o ho
    simp only [List.getElem?_toArray, List.getElem?_cons_succ, List.getElem?_cons_zero, Option.some.injEq] at ho
    subst ho
    refine Or.inl ⟨by rfl, ?_⟩
    intro w hSw
    (try dsimp only at hSw)
    go_simp
  simp only [Act.put, List.setIfInBounds_toArray, List.set_cons_zero, List.set_cons_succ]
  clear za0 za1 zb0 zb1 zc0 zc1 zd0 zd1
  refine draw1 (f := 1) (n := 4) (al := 10) (fun k => if k = 0 then 2 else if k = 1 then 5 else if k = 2 then 8 else 9) (fun (x : Bool) (k : Nat) => #[true, true, decide (1 ≤ k), true, true, decide (2 ≤ k), true, true, decide (3 ≤ k), decide (4 ≤ k), x, false]) (fun (x : Bool) (k : Nat) (a : Act) (W : World) => ∃ (v13 c1 c2 c3 c4 : Value) (b : Nat), a = { tmps := #[.agg #[.float .f64 ax, .float .f64 ay], .agg #[.float .f64 bx, .float .f64 by'], .agg #[.float .f64 cx, .float .f64 cy], .agg #[.float .f64 dx, .float .f64 dy], .pointer (some ⟨w.heap.size, 0, none⟩), .pointer (some ⟨w.heap.size + 1, 0, none⟩), .pointer (some ⟨w.heap.size + 1 + 1, 0, none⟩), .pointer (some ⟨w.heap.size + 1 + 1 + 1, 0, none⟩), .int .i64 0, .pointer (some ⟨w.heap.size + 1 + 1 + 1 + 1, 0, none⟩), .pointer (some ⟨w.heap.size + 1 + 1 + 1 + 1 + 1, 0, none⟩), .pointer (some ⟨w.heap.size + 1 + 1 + 1 + 1 + 1 + 1, 0, none⟩), .func (Fn.func 44) #[] #[.pointer (some ⟨w.heap.size + 1 + 1 + 1, 0, none⟩), .pointer (some ⟨w.heap.size + 1 + 1 + 1 + 1 + 1, 0, none⟩), .pointer (some ⟨w.heap.size + 1 + 1 + 1 + 1 + 1 + 1, 0, none⟩)], v13, undef, undef, undef, undef, undef, undef, .func (Fn.func 40) #[] #[.pointer (some ⟨w.heap.size + 1 + 1 + 1 + 1, 0, none⟩)], .func (Fn.func 42) #[] #[.pointer (some ⟨w.heap.size + 1 + 1 + 1 + 1, 0, none⟩)], .func (Fn.func 44) #[] #[.pointer (some ⟨w.heap.size + 1 + 1 + 1, 0, none⟩), .pointer (some ⟨w.heap.size + 1 + 1 + 1 + 1 + 1, 0, none⟩), .pointer (some ⟨w.heap.size + 1 + 1 + 1 + 1 + 1 + 1, 0, none⟩)], .func (Fn.func 44) #[] #[.pointer (some ⟨w.heap.size + 1 + 1 + 1, 0, none⟩), .pointer (some ⟨w.heap.size + 1 + 1 + 1 + 1 + 1, 0, none⟩), .pointer (some ⟨w.heap.size + 1 + 1 + 1 + 1 + 1 + 1, 0, none⟩)], .agg #[.float .f64 ax, .float .f64 ay], c1, .func (Fn.func 44) #[] #[.pointer (some ⟨w.heap.size + 1 + 1 + 1, 0, none⟩), .pointer (some ⟨w.heap.size + 1 + 1 + 1 + 1 + 1, 0, none⟩), .pointer (some ⟨w.heap.size + 1 + 1 + 1 + 1 + 1 + 1, 0, none⟩)], .agg #[.float .f64 bx, .float .f64 by'], c2, .func (Fn.func 44) #[] #[.pointer (some ⟨w.heap.size + 1 + 1 + 1, 0, none⟩), .pointer (some ⟨w.heap.size + 1 + 1 + 1 + 1 + 1, 0, none⟩), .pointer (some ⟨w.heap.size + 1 + 1 + 1 + 1 + 1 + 1, 0, none⟩)], .agg #[.float .f64 cx, .float .f64 cy], c3, c4, undef, undef, undef, undef, undef, undef, undef, undef, undef, undef, undef, undef, undef, undef, undef, undef, undef, undef, undef, undef, undef, undef, undef, undef, undef, undef, undef, undef, undef, undef, undef, undef, undef, undef, undef, undef, undef, undef, undef, undef, undef, undef, undef], defers := [] } ∧ (W.cell? ⟨w.heap.size, 0, none⟩ = some (.float .f64 ax) ∧ W.cell? ⟨w.heap.size, 1, none⟩ = some (.float .f64 ay) ∧ W.cell? ⟨w.heap.size + 1, 0, none⟩ = some (.float .f64 bx) ∧ W.cell? ⟨w.heap.size + 1, 1, none⟩ = some (.float .f64 by') ∧ W.cell? ⟨w.heap.size + 1 + 1, 0, none⟩ = some (.float .f64 cx) ∧ W.cell? ⟨w.heap.size + 1 + 1, 1, none⟩ = some (.float .f64 cy) ∧ W.cell? ⟨w.heap.size + 1 + 1 + 1, 0, none⟩ = some (.float .f64 dx) ∧ W.cell? ⟨w.heap.size + 1 + 1 + 1, 1, none⟩ = some (.float .f64 dy) ∧ RX w W dx dy) ∧ (x = true → v13 = .pointer (some ⟨b, 0, none⟩) ∧ CB W b #[.slice none 0 0, .slice none 0 0, .slice none 0 0, .slice none 0 0, .slice none 0 0, .slice none 0 0, .slice none 0 0, .slice none 0 0, .slice none 0 0] 66 ∧ w.heap.size + 1 + 1 + 1 + 1 + 1 + 1 < b) ∧ (1 ≤ k → RowV W (fval ax - fval dx) (fval ay - fval dy) c1) ∧ (2 ≤ k → RowV W (fval bx - fval dx) (fval by' - fval dy) c2) ∧ (3 ≤ k → RowV W (fval cx - fval dx) (fval cy - fval dy) c3) ∧ (4 ≤ k → Rows9 W (fval ax - fval dx) (fval ay - fval dy) (fval bx - fval dx) (fval by' - fval dy) (fval cx - fval dx) (fval cy - fval dy) c4)) ?_ ?_ ?_ ?_ ?_ ?_ 5 false 0 _ _ (by omega) (by decide) ?_
  · intro x k hk hx
    have h5 : k = 0 ∨ k = 1 ∨ k = 2 ∨ k = 3 ∨ k = 4 := by omega
    rcases h5 with rfl | rfl | rfl | rfl | rfl <;> cases x <;> first | exact absurd (hx rfl) (by decide) | (show _ = _; kernel_rfl)
  · intro x k hk
    have h5 : k = 0 ∨ k = 1 ∨ k = 2 ∨ k = 3 := by omega
    rcases h5 with rfl | rfl | rfl | rfl <;> cases x <;> rfl
  · intro k hk
    have h5 : k = 0 ∨ k = 1 ∨ k = 2 ∨ k = 3 ∨ k = 4 := by omega
    rcases h5 with rfl | rfl | rfl | rfl | rfl <;> rfl
  · intro x k hk
    have h5 : k = 0 ∨ k = 1 ∨ k = 2 ∨ k = 3 := by omega
    rcases h5 with rfl | rfl | rfl | rfl
    · refine ⟨_, rfl, ?_⟩
      intro a W hI K' hK
      obtain ⟨v13, c1, c2, c3, c4, b, rfl, hS, hv, k1, k2, k3, k4⟩ := hI
      go_simp
      go_wp2_with fail
      refine (rowOf_any (w.heap.size + 1 + 1 + 1) (w.heap.size + 1 + 1 + 1 + 1 + 1) (w.heap.size + 1 + 1 + 1 + 1 + 1 + 1) (w.heap.size + 1 + 1 + 1 + 1) ax ay dx dy _ hS.2.2.2.2.2.2.2.2.1 HW.out.1.1 HW.out.2 HP.out.1.1 HP.out.2).mono ?_
      rintro e wx ⟨⟨s1, s2, s3, rfl, hR⟩, hb⟩
      have hS2 : wx.cell? ⟨w.heap.size, 0, none⟩ = some (.float .f64 ax) ∧ wx.cell? ⟨w.heap.size, 1, none⟩ = some (.float .f64 ay) ∧ wx.cell? ⟨w.heap.size + 1, 0, none⟩ = some (.float .f64 bx) ∧ wx.cell? ⟨w.heap.size + 1, 1, none⟩ = some (.float .f64 by') ∧ wx.cell? ⟨w.heap.size + 1 + 1, 0, none⟩ = some (.float .f64 cx) ∧ wx.cell? ⟨w.heap.size + 1 + 1, 1, none⟩ = some (.float .f64 cy) ∧ wx.cell? ⟨w.heap.size + 1 + 1 + 1, 0, none⟩ = some (.float .f64 dx) ∧ wx.cell? ⟨w.heap.size + 1 + 1 + 1, 1, none⟩ = some (.float .f64 dy) ∧ RX w wx dx dy := ⟨box_cell hb hS.1, box_cell hb hS.2.1, box_cell hb hS.2.2.1, box_cell hb hS.2.2.2.1, box_cell hb hS.2.2.2.2.1, box_cell hb hS.2.2.2.2.2.1, box_cell hb hS.2.2.2.2.2.2.1, box_cell hb hS.2.2.2.2.2.2.2.1, hS.2.2.2.2.2.2.2.2.later hb⟩
      go_wp2_with fail
      exact hK.out _ _ hS2 ⟨v13, _, c2, c3, c4, b, rfl, hS2, fun h => ⟨(hv h).1, (hv h).2.1.later hb, (hv h).2.2⟩, fun _ => ⟨s1, s2, s3, rfl, hR⟩, fun h => by omega, fun h => by omega, fun h => by omega⟩
    · refine ⟨_, rfl, ?_⟩
      intro a W hI K' hK
      obtain ⟨v13, c1, c2, c3, c4, b, rfl, hS, hv, k1, k2, k3, k4⟩ := hI
      go_simp
      go_wp2_with fail
      refine (rowOf_any (w.heap.size + 1 + 1 + 1) (w.heap.size + 1 + 1 + 1 + 1 + 1) (w.heap.size + 1 + 1 + 1 + 1 + 1 + 1) (w.heap.size + 1 + 1 + 1 + 1) bx by' dx dy _ hS.2.2.2.2.2.2.2.2.1 HW.out.1.2.1 HW.out.2 HP.out.1.2.1 HP.out.2).mono ?_
      rintro e wx ⟨⟨s1, s2, s3, rfl, hR⟩, hb⟩
      have hS2 : wx.cell? ⟨w.heap.size, 0, none⟩ = some (.float .f64 ax) ∧ wx.cell? ⟨w.heap.size, 1, none⟩ = some (.float .f64 ay) ∧ wx.cell? ⟨w.heap.size + 1, 0, none⟩ = some (.float .f64 bx) ∧ wx.cell? ⟨w.heap.size + 1, 1, none⟩ = some (.float .f64 by') ∧ wx.cell? ⟨w.heap.size + 1 + 1, 0, none⟩ = some (.float .f64 cx) ∧ wx.cell? ⟨w.heap.size + 1 + 1, 1, none⟩ = some (.float .f64 cy) ∧ wx.cell? ⟨w.heap.size + 1 + 1 + 1, 0, none⟩ = some (.float .f64 dx) ∧ wx.cell? ⟨w.heap.size + 1 + 1 + 1, 1, none⟩ = some (.float .f64 dy) ∧ RX w wx dx dy := ⟨box_cell hb hS.1, box_cell hb hS.2.1, box_cell hb hS.2.2.1, box_cell hb hS.2.2.2.1, box_cell hb hS.2.2.2.2.1, box_cell hb hS.2.2.2.2.2.1, box_cell hb hS.2.2.2.2.2.2.1, box_cell hb hS.2.2.2.2.2.2.2.1, hS.2.2.2.2.2.2.2.2.later hb⟩
      go_wp2_with fail
      exact hK.out _ _ hS2 ⟨v13, c1, _, c3, c4, b, rfl, hS2, fun h => ⟨(hv h).1, (hv h).2.1.later hb, (hv h).2.2⟩, fun h => (k1 (by omega)).later hb, fun _ => ⟨s1, s2, s3, rfl, hR⟩, fun h => by omega, fun h => by omega⟩
    · refine ⟨_, rfl, ?_⟩
      intro a W hI K' hK
      obtain ⟨v13, c1, c2, c3, c4, b, rfl, hS, hv, k1, k2, k3, k4⟩ := hI
      go_simp
      go_wp2_with fail
      refine (rowOf_any (w.heap.size + 1 + 1 + 1) (w.heap.size + 1 + 1 + 1 + 1 + 1) (w.heap.size + 1 + 1 + 1 + 1 + 1 + 1) (w.heap.size + 1 + 1 + 1 + 1) cx cy dx dy _ hS.2.2.2.2.2.2.2.2.1 HW.out.1.2.2 HW.out.2 HP.out.1.2.2 HP.out.2).mono ?_
      rintro e wx ⟨⟨s1, s2, s3, rfl, hR⟩, hb⟩
      have hS2 : wx.cell? ⟨w.heap.size, 0, none⟩ = some (.float .f64 ax) ∧ wx.cell? ⟨w.heap.size, 1, none⟩ = some (.float .f64 ay) ∧ wx.cell? ⟨w.heap.size + 1, 0, none⟩ = some (.float .f64 bx) ∧ wx.cell? ⟨w.heap.size + 1, 1, none⟩ = some (.float .f64 by') ∧ wx.cell? ⟨w.heap.size + 1 + 1, 0, none⟩ = some (.float .f64 cx) ∧ wx.cell? ⟨w.heap.size + 1 + 1, 1, none⟩ = some (.float .f64 cy) ∧ wx.cell? ⟨w.heap.size + 1 + 1 + 1, 0, none⟩ = some (.float .f64 dx) ∧ wx.cell? ⟨w.heap.size + 1 + 1 + 1, 1, none⟩ = some (.float .f64 dy) ∧ RX w wx dx dy := ⟨box_cell hb hS.1, box_cell hb hS.2.1, box_cell hb hS.2.2.1, box_cell hb hS.2.2.2.1, box_cell hb hS.2.2.2.2.1, box_cell hb hS.2.2.2.2.2.1, box_cell hb hS.2.2.2.2.2.2.1, box_cell hb hS.2.2.2.2.2.2.2.1, hS.2.2.2.2.2.2.2.2.later hb⟩
      go_wp2_with fail
      exact hK.out _ _ hS2 ⟨v13, c1, c2, _, c4, b, rfl, hS2, fun h => ⟨(hv h).1, (hv h).2.1.later hb, (hv h).2.2⟩, fun h => (k1 (by omega)).later hb, fun h => (k2 (by omega)).later hb, fun _ => ⟨s1, s2, s3, rfl, hR⟩, fun h => by omega⟩
    · refine ⟨_, rfl, ?_⟩
      intro a W hI K' hK
      obtain ⟨v13, c1, c2, c3, c4, b, rfl, hS, hv, k1, k2, k3, k4⟩ := hI
      obtain ⟨s0, s1, s2, rfl, hR0⟩ := k1 (by omega)
      obtain ⟨a10, n10, c10, a11, n11, c11, a12, n12, c12, rfl, rfl, rfl⟩ := hR0.shape
      obtain ⟨s3, s4, s5, rfl, hR1⟩ := k2 (by omega)
      obtain ⟨a13, n13, c13, a14, n14, c14, a15, n15, c15, rfl, rfl, rfl⟩ := hR1.shape
      obtain ⟨s6, s7, s8, rfl, hR2⟩ := k3 (by omega)
      obtain ⟨a16, n16, c16, a17, n17, c17, a18, n18, c18, rfl, rfl, rfl⟩ := hR2.shape
      go_simp
      go_wp2_with fail
      exact hK.out _ _ hS ⟨v13, _, _, _, _, b, rfl, hS, hv, fun _ => ⟨_, _, _, rfl, hR0⟩, fun _ => ⟨_, _, _, rfl, hR1⟩, fun _ => ⟨_, _, _, rfl, hR2⟩, fun _ => ⟨_, _, _, _, _, _, _, _, _, rfl, hR0, hR1, hR2⟩⟩
  · intro k hk
    refine ⟨_, rfl, ?_⟩
    intro a W hI K' hK
    obtain ⟨v13, c1, c2, c3, c4, b, rfl, hS, hv, k1, k2, k3, k4⟩ := hI
    have hb : Below W.heap.size W (W.alloc (.cells #[.slice none 0 0, .slice none 0 0, .slice none 0 0, .slice none 0 0, .slice none 0 0, .slice none 0 0, .slice none 0 0, .slice none 0 0, .slice none 0 0] 66)) := (Below.refl _ W).alloc (Nat.le_refl _) _
    have hlt2 : w.heap.size + 1 + 1 + 1 + 1 + 1 + 1 < W.heap.size := World.block_lt_of_cell? _ _ hS.2.2.2.2.2.2.2.2.1.fm
    have hS2 : (W.alloc (.cells #[.slice none 0 0, .slice none 0 0, .slice none 0 0, .slice none 0 0, .slice none 0 0, .slice none 0 0, .slice none 0 0, .slice none 0 0, .slice none 0 0] 66)).cell? ⟨w.heap.size, 0, none⟩ = some (.float .f64 ax) ∧ (W.alloc (.cells #[.slice none 0 0, .slice none 0 0, .slice none 0 0, .slice none 0 0, .slice none 0 0, .slice none 0 0, .slice none 0 0, .slice none 0 0, .slice none 0 0] 66)).cell? ⟨w.heap.size, 1, none⟩ = some (.float .f64 ay) ∧ (W.alloc (.cells #[.slice none 0 0, .slice none 0 0, .slice none 0 0, .slice none 0 0, .slice none 0 0, .slice none 0 0, .slice none 0 0, .slice none 0 0, .slice none 0 0] 66)).cell? ⟨w.heap.size + 1, 0, none⟩ = some (.float .f64 bx) ∧ (W.alloc (.cells #[.slice none 0 0, .slice none 0 0, .slice none 0 0, .slice none 0 0, .slice none 0 0, .slice none 0 0, .slice none 0 0, .slice none 0 0, .slice none 0 0] 66)).cell? ⟨w.heap.size + 1, 1, none⟩ = some (.float .f64 by') ∧ (W.alloc (.cells #[.slice none 0 0, .slice none 0 0, .slice none 0 0, .slice none 0 0, .slice none 0 0, .slice none 0 0, .slice none 0 0, .slice none 0 0, .slice none 0 0] 66)).cell? ⟨w.heap.size + 1 + 1, 0, none⟩ = some (.float .f64 cx) ∧ (W.alloc (.cells #[.slice none 0 0, .slice none 0 0, .slice none 0 0, .slice none 0 0, .slice none 0 0, .slice none 0 0, .slice none 0 0, .slice none 0 0, .slice none 0 0] 66)).cell? ⟨w.heap.size + 1 + 1, 1, none⟩ = some (.float .f64 cy) ∧ (W.alloc (.cells #[.slice none 0 0, .slice none 0 0, .slice none 0 0, .slice none 0 0, .slice none 0 0, .slice none 0 0, .slice none 0 0, .slice none 0 0, .slice none 0 0] 66)).cell? ⟨w.heap.size + 1 + 1 + 1, 0, none⟩ = some (.float .f64 dx) ∧ (W.alloc (.cells #[.slice none 0 0, .slice none 0 0, .slice none 0 0, .slice none 0 0, .slice none 0 0, .slice none 0 0, .slice none 0 0, .slice none 0 0, .slice none 0 0] 66)).cell? ⟨w.heap.size + 1 + 1 + 1, 1, none⟩ = some (.float .f64 dy) ∧ RX w (W.alloc (.cells #[.slice none 0 0, .slice none 0 0, .slice none 0 0, .slice none 0 0, .slice none 0 0, .slice none 0 0, .slice none 0 0, .slice none 0 0, .slice none 0 0] 66)) dx dy := ⟨box_cell hb hS.1, box_cell hb hS.2.1, box_cell hb hS.2.2.1, box_cell hb hS.2.2.2.1, box_cell hb hS.2.2.2.2.1, box_cell hb hS.2.2.2.2.2.1, box_cell hb hS.2.2.2.2.2.2.1, box_cell hb hS.2.2.2.2.2.2.2.1, hS.2.2.2.2.2.2.2.2.later hb⟩
    go_simp
    go_wp2_with fail
    exact hK.out _ _ hS2 ⟨_, c1, c2, c3, c4, W.heap.size, rfl, hS2, fun _ => ⟨rfl, CB.new W _ _, hlt2⟩, fun h => (k1 h).later hb, fun h => (k2 h).later hb, fun h => (k3 h).later hb, fun h => (k4 h).later hb⟩
  · intro a W hI
    obtain ⟨v13, d1, d2, d3, d4, b, rfl, hS, hv, k1, k2, k3, k4⟩ := hI
    obtain ⟨rfl, hc, hl⟩ := hv rfl
    obtain ⟨s0, s1, s2, s3, s4, s5, s6, s7, s8, rfl, hR0, hR1, hR2⟩ := k4 (by omega)
    obtain ⟨a0, n0, c0, a1, n1, c1, a2, n2, c2, rfl, rfl, rfl⟩ := hR0.shape
    obtain ⟨a3, n3, c3, a4, n4, c4, a5, n5, c5, rfl, rfl, rfl⟩ := hR1.shape
    obtain ⟨a6, n6, c6, a7, n7, c7, a8, n8, c8, rfl, rfl, rfl⟩ := hR2.shape
    clear k1 k2 k3 k4
    have hm := moved9 W b (.slice a0 n0 c0) (.slice a1 n1 c1) (.slice a2 n2 c2) (.slice a3 n3 c3) (.slice a4 n4 c4) (.slice a5 n5 c5) (.slice a6 n6 c6) (.slice a7 n7 c7) (.slice a8 n8 c8)
    have hn := hc.nofloat (by simp)
    have hR0 := hR0.moved hm hn
    have hR1 := hR1.moved hm hn
    have hR2 := hR2.moved hm hn
    have f0 := hc.frozen 0
    have f1 := hc.frozen 1
    have f2 := hc.frozen 2
    have f3 := hc.frozen 3
    have f4 := hc.frozen 4
    have f5 := hc.frozen 5
    have f6 := hc.frozen 6
    have f7 := hc.frozen 7
    have f8 := hc.frozen 8
    obtain ⟨g0, g1, g2, g3, g4, g5, g6, g7, g8⟩ := hc.cells9
    have hB2 : B4 w (((((((((W.setCell ⟨b, 0, none⟩ (.slice a0 n0 c0)).setCell ⟨b, 1, none⟩ (.slice a1 n1 c1)).setCell ⟨b, 2, none⟩ (.slice a2 n2 c2)).setCell ⟨b, 3, none⟩ (.slice a3 n3 c3)).setCell ⟨b, 4, none⟩ (.slice a4 n4 c4)).setCell ⟨b, 5, none⟩ (.slice a5 n5 c5)).setCell ⟨b, 6, none⟩ (.slice a6 n6 c6)).setCell ⟨b, 7, none⟩ (.slice a7 n7 c7)).setCell ⟨b, 8, none⟩ (.slice a8 n8 c8)) ax ay bx by' cx cy dx dy := B4.moved ⟨hS.1, hS.2.1, hS.2.2.1, hS.2.2.2.1, hS.2.2.2.2.1, hS.2.2.2.2.2.1, hS.2.2.2.2.2.2.1, hS.2.2.2.2.2.2.2.1, hS.2.2.2.2.2.2.2.2.2⟩ hm (by omega)
    have hC2 : CW (w.heap.size + 1 + 1 + 1) (w.heap.size + 1 + 1 + 1 + 1 + 1) (w.heap.size + 1 + 1 + 1 + 1 + 1 + 1) (w.heap.size + 1 + 1 + 1 + 1) dx dy (((((((((W.setCell ⟨b, 0, none⟩ (.slice a0 n0 c0)).setCell ⟨b, 1, none⟩ (.slice a1 n1 c1)).setCell ⟨b, 2, none⟩ (.slice a2 n2 c2)).setCell ⟨b, 3, none⟩ (.slice a3 n3 c3)).setCell ⟨b, 4, none⟩ (.slice a4 n4 c4)).setCell ⟨b, 5, none⟩ (.slice a5 n5 c5)).setCell ⟨b, 6, none⟩ (.slice a6 n6 c6)).setCell ⟨b, 7, none⟩ (.slice a7 n7 c7)).setCell ⟨b, 8, none⟩ (.slice a8 n8 c8)) := hS.2.2.2.2.2.2.2.2.1.moved hm (by omega) (by omega) (by omega) (by omega)
    have hc2 := hc.set9 (.slice a0 n0 c0) (.slice a1 n1 c1) (.slice a2 n2 c2) (.slice a3 n3 c3) (.slice a4 n4 c4) (.slice a5 n5 c5) (.slice a6 n6 c6) (.slice a7 n7 c7) (.slice a8 n8 c8)
    have hS2 : (((((((((W.setCell ⟨b, 0, none⟩ (.slice a0 n0 c0)).setCell ⟨b, 1, none⟩ (.slice a1 n1 c1)).setCell ⟨b, 2, none⟩ (.slice a2 n2 c2)).setCell ⟨b, 3, none⟩ (.slice a3 n3 c3)).setCell ⟨b, 4, none⟩ (.slice a4 n4 c4)).setCell ⟨b, 5, none⟩ (.slice a5 n5 c5)).setCell ⟨b, 6, none⟩ (.slice a6 n6 c6)).setCell ⟨b, 7, none⟩ (.slice a7 n7 c7)).setCell ⟨b, 8, none⟩ (.slice a8 n8 c8)).cell? ⟨w.heap.size, 0, none⟩ = some (.float .f64 ax) ∧ (((((((((W.setCell ⟨b, 0, none⟩ (.slice a0 n0 c0)).setCell ⟨b, 1, none⟩ (.slice a1 n1 c1)).setCell ⟨b, 2, none⟩ (.slice a2 n2 c2)).setCell ⟨b, 3, none⟩ (.slice a3 n3 c3)).setCell ⟨b, 4, none⟩ (.slice a4 n4 c4)).setCell ⟨b, 5, none⟩ (.slice a5 n5 c5)).setCell ⟨b, 6, none⟩ (.slice a6 n6 c6)).setCell ⟨b, 7, none⟩ (.slice a7 n7 c7)).setCell ⟨b, 8, none⟩ (.slice a8 n8 c8)).cell? ⟨w.heap.size, 1, none⟩ = some (.float .f64 ay) ∧ (((((((((W.setCell ⟨b, 0, none⟩ (.slice a0 n0 c0)).setCell ⟨b, 1, none⟩ (.slice a1 n1 c1)).setCell ⟨b, 2, none⟩ (.slice a2 n2 c2)).setCell ⟨b, 3, none⟩ (.slice a3 n3 c3)).setCell ⟨b, 4, none⟩ (.slice a4 n4 c4)).setCell ⟨b, 5, none⟩ (.slice a5 n5 c5)).setCell ⟨b, 6, none⟩ (.slice a6 n6 c6)).setCell ⟨b, 7, none⟩ (.slice a7 n7 c7)).setCell ⟨b, 8, none⟩ (.slice a8 n8 c8)).cell? ⟨w.heap.size + 1, 0, none⟩ = some (.float .f64 bx) ∧ (((((((((W.setCell ⟨b, 0, none⟩ (.slice a0 n0 c0)).setCell ⟨b, 1, none⟩ (.slice a1 n1 c1)).setCell ⟨b, 2, none⟩ (.slice a2 n2 c2)).setCell ⟨b, 3, none⟩ (.slice a3 n3 c3)).setCell ⟨b, 4, none⟩ (.slice a4 n4 c4)).setCell ⟨b, 5, none⟩ (.slice a5 n5 c5)).setCell ⟨b, 6, none⟩ (.slice a6 n6 c6)).setCell ⟨b, 7, none⟩ (.slice a7 n7 c7)).setCell ⟨b, 8, none⟩ (.slice a8 n8 c8)).cell? ⟨w.heap.size + 1, 1, none⟩ = some (.float .f64 by') ∧ (((((((((W.setCell ⟨b, 0, none⟩ (.slice a0 n0 c0)).setCell ⟨b, 1, none⟩ (.slice a1 n1 c1)).setCell ⟨b, 2, none⟩ (.slice a2 n2 c2)).setCell ⟨b, 3, none⟩ (.slice a3 n3 c3)).setCell ⟨b, 4, none⟩ (.slice a4 n4 c4)).setCell ⟨b, 5, none⟩ (.slice a5 n5 c5)).setCell ⟨b, 6, none⟩ (.slice a6 n6 c6)).setCell ⟨b, 7, none⟩ (.slice a7 n7 c7)).setCell ⟨b, 8, none⟩ (.slice a8 n8 c8)).cell? ⟨w.heap.size + 1 + 1, 0, none⟩ = some (.float .f64 cx) ∧ (((((((((W.setCell ⟨b, 0, none⟩ (.slice a0 n0 c0)).setCell ⟨b, 1, none⟩ (.slice a1 n1 c1)).setCell ⟨b, 2, none⟩ (.slice a2 n2 c2)).setCell ⟨b, 3, none⟩ (.slice a3 n3 c3)).setCell ⟨b, 4, none⟩ (.slice a4 n4 c4)).setCell ⟨b, 5, none⟩ (.slice a5 n5 c5)).setCell ⟨b, 6, none⟩ (.slice a6 n6 c6)).setCell ⟨b, 7, none⟩ (.slice a7 n7 c7)).setCell ⟨b, 8, none⟩ (.slice a8 n8 c8)).cell? ⟨w.heap.size + 1 + 1, 1, none⟩ = some (.float .f64 cy) ∧ (((((((((W.setCell ⟨b, 0, none⟩ (.slice a0 n0 c0)).setCell ⟨b, 1, none⟩ (.slice a1 n1 c1)).setCell ⟨b, 2, none⟩ (.slice a2 n2 c2)).setCell ⟨b, 3, none⟩ (.slice a3 n3 c3)).setCell ⟨b, 4, none⟩ (.slice a4 n4 c4)).setCell ⟨b, 5, none⟩ (.slice a5 n5 c5)).setCell ⟨b, 6, none⟩ (.slice a6 n6 c6)).setCell ⟨b, 7, none⟩ (.slice a7 n7 c7)).setCell ⟨b, 8, none⟩ (.slice a8 n8 c8)).cell? ⟨w.heap.size + 1 + 1 + 1, 0, none⟩ = some (.float .f64 dx) ∧ (((((((((W.setCell ⟨b, 0, none⟩ (.slice a0 n0 c0)).setCell ⟨b, 1, none⟩ (.slice a1 n1 c1)).setCell ⟨b, 2, none⟩ (.slice a2 n2 c2)).setCell ⟨b, 3, none⟩ (.slice a3 n3 c3)).setCell ⟨b, 4, none⟩ (.slice a4 n4 c4)).setCell ⟨b, 5, none⟩ (.slice a5 n5 c5)).setCell ⟨b, 6, none⟩ (.slice a6 n6 c6)).setCell ⟨b, 7, none⟩ (.slice a7 n7 c7)).setCell ⟨b, 8, none⟩ (.slice a8 n8 c8)).cell? ⟨w.heap.size + 1 + 1 + 1, 1, none⟩ = some (.float .f64 dy) ∧ RX w (((((((((W.setCell ⟨b, 0, none⟩ (.slice a0 n0 c0)).setCell ⟨b, 1, none⟩ (.slice a1 n1 c1)).setCell ⟨b, 2, none⟩ (.slice a2 n2 c2)).setCell ⟨b, 3, none⟩ (.slice a3 n3 c3)).setCell ⟨b, 4, none⟩ (.slice a4 n4 c4)).setCell ⟨b, 5, none⟩ (.slice a5 n5 c5)).setCell ⟨b, 6, none⟩ (.slice a6 n6 c6)).setCell ⟨b, 7, none⟩ (.slice a7 n7 c7)).setCell ⟨b, 8, none⟩ (.slice a8 n8 c8)) dx dy := ⟨hB2.a0, hB2.a1, hB2.b0, hB2.b1, hB2.c0, hB2.c1, hB2.d0, hB2.d1, hC2, hB2.bel⟩
    refine call_at 11 (by kernel_rfl) (by kernel_rfl) ?_
    intro o ho
    simp only [List.getElem?_toArray, List.getElem?_cons_succ, List.getElem?_cons_zero, Option.some.injEq] at ho
    subst ho
    intro KF hK
    go_simp
    go_wp2_with fail
    refine hK.out _ _ hS2 ?_
    intro _
    clear hK KF f0 g0 f1 g1 f2 g2 f3 g3 f4 g4 f5 g5 f6 g6 f7 g7 f8 g8 hm hn hS2 hS hc
    try simp only [List.setIfInBounds_toArray, List.set_cons_zero, List.set_cons_succ]
    refine wpAnyH_done (by kernel_rfl) ?_ _
    generalize (((((((((W.setCell ⟨b, 0, none⟩ (.slice a0 n0 c0)).setCell ⟨b, 1, none⟩ (.slice a1 n1 c1)).setCell ⟨b, 2, none⟩ (.slice a2 n2 c2)).setCell ⟨b, 3, none⟩ (.slice a3 n3 c3)).setCell ⟨b, 4, none⟩ (.slice a4 n4 c4)).setCell ⟨b, 5, none⟩ (.slice a5 n5 c5)).setCell ⟨b, 6, none⟩ (.slice a6 n6 c6)).setCell ⟨b, 7, none⟩ (.slice a7 n7 c7)).setCell ⟨b, 8, none⟩ (.slice a8 n8 c8)) = W0 at *
    obtain ⟨l0, l1, l2, ⟨f0, f1, f2⟩, N0⟩ := hR0
    obtain ⟨l3, l4, l5, ⟨f3, f4, f5⟩, N1⟩ := hR1
    obtain ⟨l6, l7, l8, ⟨f6, f7, f8⟩, N2⟩ := hR2
    have HLW : Hid (LW w W0 ax ay bx by' cx cy dx dy b (.slice a0 n0 c0) (.slice a1 n1 c1) (.slice a2 n2 c2) (.slice a3 n3 c3) (.slice a4 n4 c4) (.slice a5 n5 c5) (.slice a6 n6 c6) (.slice a7 n7 c7) (.slice a8 n8 c8) l0 l1 l2 l3 l4 l5 l6 l7 l8) := ⟨hB2, hC2, hc2, f0, f1, f2, f3, f4, f5, f6, f7, f8⟩
    have HL : Hid (w.heap.size + 1 + 1 + 1 + 1 + 1 + 1 < b) := hl
    obtain ⟨X0, hX0⟩ : ∃ X, (fval ax - fval dx) = X := ⟨_, rfl⟩
    obtain ⟨Y0, hY0⟩ : ∃ X, (fval ay - fval dy) = X := ⟨_, rfl⟩
    obtain ⟨X1, hX1⟩ : ∃ X, (fval bx - fval dx) = X := ⟨_, rfl⟩
    obtain ⟨Y1, hY1⟩ : ∃ X, (fval by' - fval dy) = X := ⟨_, rfl⟩
    obtain ⟨X2, hX2⟩ : ∃ X, (fval cx - fval dx) = X := ⟨_, rfl⟩
    obtain ⟨Y2, hY2⟩ : ∃ X, (fval cy - fval dy) = X := ⟨_, rfl⟩
    have HS4 : Hid (S4 ax ay bx by' cx cy dx dy = det3 X0 Y0 X1 Y1 X2 Y2) := by
      show S4 ax ay bx by' cx cy dx dy = _
      unfold S4
      rw [hX0, hY0, hX1, hY1, hX2, hY2]
    rw [hX0, hY0] at N0
    rw [hX1, hY1] at N1
    rw [hX2, hY2] at N2
    have HN0 : Hid (NL 974 1175 X0 l0 ∧ NL 974 1175 Y0 l1 ∧ NL 874 1277 (X0 * X0 + Y0 * Y0) l2) := N0
    have HN1 : Hid (NL 974 1175 X1 l3 ∧ NL 974 1175 Y1 l4 ∧ NL 874 1277 (X1 * X1 + Y1 * Y1) l5) := N1
    have HN2 : Hid (NL 974 1175 X2 l6 ∧ NL 974 1175 Y2 l7 ∧ NL 874 1277 (X2 * X2 + Y2 * Y2) l8) := N2
    clear hB2 hC2 hc2 f0 f1 f2 f3 f4 f5 f6 f7 f8 hl N0 N1 N2 hX0 hY0 hX1 hY1 hX2 hY2
    have ix0 : ∀ w, (Instr.index 66 (.agg #[.slice a0 n0 c0, .slice a1 n1 c1, .slice a2 n2 c2, .slice a3 n3 c3, .slice a4 n4 c4, .slice a5 n5 c5, .slice a6 n6 c6, .slice a7 n7 c7, .slice a8 n8 c8]) (.int .i64 0)).run Try.prog w = .ok (.agg #[.slice a0 n0 c0, .slice a1 n1 c1, .slice a2 n2 c2]) w := fun _ => by kernel_rfl
    have ix1 : ∀ w, (Instr.index 66 (.agg #[.slice a0 n0 c0, .slice a1 n1 c1, .slice a2 n2 c2, .slice a3 n3 c3, .slice a4 n4 c4, .slice a5 n5 c5, .slice a6 n6 c6, .slice a7 n7 c7, .slice a8 n8 c8]) (.int .i64 1)).run Try.prog w = .ok (.agg #[.slice a3 n3 c3, .slice a4 n4 c4, .slice a5 n5 c5]) w := fun _ => by kernel_rfl
    have ix2 : ∀ w, (Instr.index 66 (.agg #[.slice a0 n0 c0, .slice a1 n1 c1, .slice a2 n2 c2, .slice a3 n3 c3, .slice a4 n4 c4, .slice a5 n5 c5, .slice a6 n6 c6, .slice a7 n7 c7, .slice a8 n8 c8]) (.int .i64 2)).run Try.prog w = .ok (.agg #[.slice a6 n6 c6, .slice a7 n7 c7, .slice a8 n8 c8]) w := fun _ => by kernel_rfl
    have wp0 : IntKind.i64.wrap 0 = 0 := by decide
    have wp1 : IntKind.i64.wrap 1 = 1 := by decide
    have wp2 : IntKind.i64.wrap 2 = 2 := by decide
    have wp3 : IntKind.i64.wrap 3 = 3 := by decide
    have wp4 : IntKind.i64.wrap 4 = 4 := by decide
    have wp5 : IntKind.i64.wrap 5 = 5 := by decide
    obtain ⟨g0, g1, g2, g3, g4, g5, g6, g7, g8⟩ := HLW.out.rows.cells9
    go_wp2_with fail
    go_loopw [14, 34] (fun s i wr => ((i = .int .i64 0 ∧ (∃ a n c, s = .slice a n c ∧ Hid (∃ l, Fs wr (.slice a n c) l ∧ NL 674 1480 0 l))) ∨ (i = .int .i64 1 ∧ (∃ a n c, s = .slice a n c ∧ Hid (∃ l, Fs wr (.slice a n c) l ∧ NL 674 1481 (0 + ((X0 * X0 + Y0 * Y0) * (X1 * Y2 + -(Y1 * X2)))) l))) ∨ (i = .int .i64 2 ∧ (∃ a n c, s = .slice a n c ∧ Hid (∃ l, Fs wr (.slice a n c) l ∧ NL 674 1482 ((0 + ((X0 * X0 + Y0 * Y0) * (X1 * Y2 + -(Y1 * X2)))) + ((X1 * X1 + Y1 * Y1) * (X2 * Y0 + -(Y2 * X0)))) l))) ∨ (i = .int .i64 3 ∧ (∃ a n c, s = .slice a n c ∧ Hid (∃ l, Fs wr (.slice a n c) l ∧ NL 674 1483 (((0 + ((X0 * X0 + Y0 * Y0) * (X1 * Y2 + -(Y1 * X2)))) + ((X1 * X1 + Y1 * Y1) * (X2 * Y0 + -(Y2 * X0)))) + ((X2 * X2 + Y2 * Y2) * (X0 * Y1 + -(Y0 * X1)))) l)))) ∧ Hid (LW w wr ax ay bx by' cx cy dx dy b (.slice a0 n0 c0) (.slice a1 n1 c1) (.slice a2 n2 c2) (.slice a3 n3 c3) (.slice a4 n4 c4) (.slice a5 n5 c5) (.slice a6 n6 c6) (.slice a7 n7 c7) (.slice a8 n8 c8) l0 l1 l2 l3 l4 l5 l6 l7 l8)) (fun _ i _ => 3 - (intOf i).toNat)
    case atStart => exact ⟨Or.inl ⟨rfl, _, _, _, rfl, [], (Fr.nil _ 0).fs, NL.nil _ _⟩, HLW.out⟩
    case round =>
      obtain ⟨hcase, hB⟩ := hrel
      rcases hcase with ⟨rfl, a, n, c, rfl, hsum⟩ | ⟨rfl, a, n, c, rfl, hsum⟩ | ⟨rfl, a, n, c, rfl, hsum⟩ | ⟨rfl, a, n, c, rfl, hsum⟩
      · obtain ⟨ls, hFs, hNs⟩ := hsum.out
        have HNs : Hid (NL 674 1480 0 ls) := hNs
        obtain ⟨W1, hW1⟩ : ∃ W1, W1 = (wr.alloc (.cells #[.slice a0 n0 c0, .slice a1 n1 c1, .slice a2 n2 c2] 63)) := ⟨_, rfl⟩
        have hb1 : Below wr.heap.size wr W1 := by rw [hW1]; exact (Below.refl _ wr).alloc (Nat.le_refl _) _
        have hF1 := hB.out.later hb1
        have hFs1 := hFs.later hb1
        have hq : W1.cell? ⟨wr.heap.size, 2, none⟩ = some (.slice a2 n2 c2) := by rw [hW1]; go_simp
        have HLb : Hid (b < wr.heap.size ∧ w.heap.size + 1 + 1 + 1 + 1 + 1 + 1 < wr.heap.size) := ⟨hB.out.rows.lt, World.block_lt_of_cell? _ _ hB.out.cw.fm⟩
        obtain ⟨g0, g1, g2, g3, g4, g5, g6, g7, g8⟩ := hB.out.rows.cells9
        go_wp2_with fail
        rw [← hW1]
        clear hW1 hb1 hsum hFs hNs g0 g1 g2 g3 g4 g5 g6 g7 g8
        refine wp_region_held_drew (S := (fun W => W.cell? ⟨b, 0, none⟩ = some (.slice a0 n0 c0) ∧ W.cell? ⟨b, 1, none⟩ = some (.slice a1 n1 c1) ∧ W.cell? ⟨b, 2, none⟩ = some (.slice a2 n2 c2) ∧ W.cell? ⟨b, 3, none⟩ = some (.slice a3 n3 c3) ∧ W.cell? ⟨b, 4, none⟩ = some (.slice a4 n4 c4) ∧ W.cell? ⟨b, 5, none⟩ = some (.slice a5 n5 c5) ∧ W.cell? ⟨b, 6, none⟩ = some (.slice a6 n6 c6) ∧ W.cell? ⟨b, 7, none⟩ = some (.slice a7 n7 c7) ∧ W.cell? ⟨b, 8, none⟩ = some (.slice a8 n8 c8) ∧ W.cell? ⟨wr.heap.size, 2, none⟩ = some (.slice a2 n2 c2) ∧ (LW w W ax ay bx by' cx cy dx dy b (.slice a0 n0 c0) (.slice a1 n1 c1) (.slice a2 n2 c2) (.slice a3 n3 c3) (.slice a4 n4 c4) (.slice a5 n5 c5) (.slice a6 n6 c6) (.slice a7 n7 c7) (.slice a8 n8 c8) l0 l1 l2 l3 l4 l5 l6 l7 l8) ∧ Fs W (.slice a n c) ls)) (by kernel_rfl) ⟨hF1.rows.cells9.1, hF1.rows.cells9.2.1, hF1.rows.cells9.2.2.1, hF1.rows.cells9.2.2.2.1, hF1.rows.cells9.2.2.2.2.1, hF1.rows.cells9.2.2.2.2.2.1, hF1.rows.cells9.2.2.2.2.2.2.1, hF1.rows.cells9.2.2.2.2.2.2.2.1, hF1.rows.cells9.2.2.2.2.2.2.2.2, hq, hF1.drew, hFs1.drew⟩ (fun hS => ?_)
        refine take_at (i := 0) (d := some 38) (v := .int .i64 0) (by kernel_rfl) (by kernel_rfl) (by kernel_rfl) (by kernel_rfl) (fun _ _ _ h => h) ?_ hS ?_
        · intro o ho
          simp only [List.getElem?_toArray, List.getElem?_cons_zero, Option.some.injEq] at ho
          subst ho
          refine Or.inl ⟨by rfl, ?_⟩
          intro w hSw
          (try dsimp only at hSw)
          go_simp
        simp only [Act.put, List.setIfInBounds_toArray, List.set_cons_zero, List.set_cons_succ]
        refine take_at (i := 1) (d := some 39) (v := .int .i64 1) (by kernel_rfl) (by kernel_rfl) (by kernel_rfl) (by kernel_rfl) (fun _ _ _ h => h) ?_ hS ?_
        · intro o ho
          simp only [List.getElem?_toArray, List.getElem?_cons_succ, List.getElem?_cons_zero, Option.some.injEq] at ho
          subst ho
          refine Or.inl ⟨by rfl, ?_⟩
          intro w hSw
          (try dsimp only at hSw)
          go_simp
        simp only [Act.put, List.setIfInBounds_toArray, List.set_cons_zero, List.set_cons_succ]
        refine take_at (i := 2) (d := some 40) (v := .int .i64 1) (by kernel_rfl) (by kernel_rfl) (by kernel_rfl) (by kernel_rfl) (fun _ _ _ h => h) ?_ hS ?_
        · intro o ho
          simp only [List.getElem?_toArray, List.getElem?_cons_succ, List.getElem?_cons_zero, Option.some.injEq] at ho
          subst ho
          refine Or.inl ⟨by rfl, ?_⟩
          intro w hSw
          (try dsimp only at hSw)
          go_simp
        simp only [Act.put, List.setIfInBounds_toArray, List.set_cons_zero, List.set_cons_succ]
        refine take_at (i := 3) (d := some 41) (v := .pointer (some ⟨b, 3, none⟩)) (by kernel_rfl) (by kernel_rfl) (by kernel_rfl) (by kernel_rfl) (fun _ _ _ h => h) ?_ hS ?_
        · intro o ho
          simp only [List.getElem?_toArray, List.getElem?_cons_succ, List.getElem?_cons_zero, Option.some.injEq] at ho
          subst ho
          refine Or.inl ⟨by rfl, ?_⟩
          intro w hSw
          (try dsimp only at hSw)
          go_simp
        simp only [Act.put, List.setIfInBounds_toArray, List.set_cons_zero, List.set_cons_succ]
        refine take_at (i := 4) (d := some 42) (v := .agg #[.slice a3 n3 c3, .slice a4 n4 c4, .slice a5 n5 c5]) (by kernel_rfl) (by kernel_rfl) (by kernel_rfl) (by kernel_rfl) (fun _ _ _ h => h) ?_ hS ?_
        · intro o ho
          simp only [List.getElem?_toArray, List.getElem?_cons_succ, List.getElem?_cons_zero, Option.some.injEq] at ho
          subst ho
          refine Or.inl ⟨by rfl, ?_⟩
          intro w hSw
          (try dsimp only at hSw)
          go_simp
        simp only [Act.put, List.setIfInBounds_toArray, List.set_cons_zero, List.set_cons_succ]
        refine take_at (i := 5) (d := some 43) (v := .int .i64 0) (by kernel_rfl) (by kernel_rfl) (by kernel_rfl) (by kernel_rfl) (fun _ _ _ h => h) ?_ hS ?_
        · intro o ho
          simp only [List.getElem?_toArray, List.getElem?_cons_succ, List.getElem?_cons_zero, Option.some.injEq] at ho
          subst ho
          refine Or.inl ⟨by rfl, ?_⟩
          intro w hSw
          (try dsimp only at hSw)
          go_simp
        simp only [Act.put, List.setIfInBounds_toArray, List.set_cons_zero, List.set_cons_succ]
        refine take_at (i := 6) (d := some 44) (v := .int .i64 2) (by kernel_rfl) (by kernel_rfl) (by kernel_rfl) (by kernel_rfl) (fun _ _ _ h => h) ?_ hS ?_
        · intro o ho
          simp only [List.getElem?_toArray, List.getElem?_cons_succ, List.getElem?_cons_zero, Option.some.injEq] at ho
          subst ho
          refine Or.inl ⟨by rfl, ?_⟩
          intro w hSw
          (try dsimp only at hSw)
          go_simp
        simp only [Act.put, List.setIfInBounds_toArray, List.set_cons_zero, List.set_cons_succ]
        refine take_at (i := 7) (d := some 45) (v := .int .i64 2) (by kernel_rfl) (by kernel_rfl) (by kernel_rfl) (by kernel_rfl) (fun _ _ _ h => h) ?_ hS ?_
        · intro o ho
          simp only [List.getElem?_toArray, List.getElem?_cons_succ, List.getElem?_cons_zero, Option.some.injEq] at ho
          subst ho
          refine Or.inl ⟨by rfl, ?_⟩
          intro w hSw
          (try dsimp only at hSw)
          go_simp
        simp only [Act.put, List.setIfInBounds_toArray, List.set_cons_zero, List.set_cons_succ]
        refine take_at (i := 8) (d := some 46) (v := .pointer (some ⟨b, 6, none⟩)) (by kernel_rfl) (by kernel_rfl) (by kernel_rfl) (by kernel_rfl) (fun _ _ _ h => h) ?_ hS ?_
        · intro o ho
          simp only [List.getElem?_toArray, List.getElem?_cons_succ, List.getElem?_cons_zero, Option.some.injEq] at ho
          subst ho
          refine Or.inl ⟨by rfl, ?_⟩
          intro w hSw
          (try dsimp only at hSw)
          go_simp
        simp only [Act.put, List.setIfInBounds_toArray, List.set_cons_zero, List.set_cons_succ]
        refine take_at (i := 9) (d := some 47) (v := .agg #[.slice a6 n6 c6, .slice a7 n7 c7, .slice a8 n8 c8]) (by kernel_rfl) (by kernel_rfl) (by kernel_rfl) (by kernel_rfl) (fun _ _ _ h => h) ?_ hS ?_
        · intro o ho
          simp only [List.getElem?_toArray, List.getElem?_cons_succ, List.getElem?_cons_zero, Option.some.injEq] at ho
          subst ho
          refine Or.inl ⟨by rfl, ?_⟩
          intro w hSw
          (try dsimp only at hSw)
          go_simp
        simp only [Act.put, List.setIfInBounds_toArray, List.set_cons_zero, List.set_cons_succ]
        clear hq hF1 hFs1
        refine draw1 (f := 2) (n := 1) (al := 11) (fun _ => 10) (fun (x : Bool) (k : Nat) => #[true, true, true, true, true, true, true, true, true, true, decide (1 ≤ k), x, false, false]) (fun (x : Bool) (k : Nat) (aa : Act) (W : World) => ∃ (v17 v18 : Value) (b1 b2 : Nat), aa = { tmps := #[.agg #[.float .f64 ax, .float .f64 ay], .agg #[.float .f64 bx, .float .f64 by'], .agg #[.float .f64 cx, .float .f64 cy], .agg #[.float .f64 dx, .float .f64 dy], .pointer (some ⟨w.heap.size, 0, none⟩), .pointer (some ⟨w.heap.size + 1, 0, none⟩), .pointer (some ⟨w.heap.size + 1 + 1, 0, none⟩), .pointer (some ⟨w.heap.size + 1 + 1 + 1, 0, none⟩), .int .i64 0, .pointer (some ⟨w.heap.size + 1 + 1 + 1 + 1, 0, none⟩), .pointer (some ⟨w.heap.size + 1 + 1 + 1 + 1 + 1, 0, none⟩), .pointer (some ⟨w.heap.size + 1 + 1 + 1 + 1 + 1 + 1, 0, none⟩), .func (Fn.func 44) #[] #[.pointer (some ⟨w.heap.size + 1 + 1 + 1, 0, none⟩), .pointer (some ⟨w.heap.size + 1 + 1 + 1 + 1 + 1, 0, none⟩), .pointer (some ⟨w.heap.size + 1 + 1 + 1 + 1 + 1 + 1, 0, none⟩)], .pointer (some ⟨b, 0, none⟩), .slice a n c, .int .i64 0, .pointer (some ⟨wr.heap.size, 0, none⟩), v17, v18, u19, .func (Fn.func 40) #[] #[.pointer (some ⟨w.heap.size + 1 + 1 + 1 + 1, 0, none⟩)], .func (Fn.func 42) #[] #[.pointer (some ⟨w.heap.size + 1 + 1 + 1 + 1, 0, none⟩)], .func (Fn.func 44) #[] #[.pointer (some ⟨w.heap.size + 1 + 1 + 1, 0, none⟩), .pointer (some ⟨w.heap.size + 1 + 1 + 1 + 1 + 1, 0, none⟩), .pointer (some ⟨w.heap.size + 1 + 1 + 1 + 1 + 1 + 1, 0, none⟩)], .func (Fn.func 44) #[] #[.pointer (some ⟨w.heap.size + 1 + 1 + 1, 0, none⟩), .pointer (some ⟨w.heap.size + 1 + 1 + 1 + 1 + 1, 0, none⟩), .pointer (some ⟨w.heap.size + 1 + 1 + 1 + 1 + 1 + 1, 0, none⟩)], .agg #[.float .f64 ax, .float .f64 ay], d1, .func (Fn.func 44) #[] #[.pointer (some ⟨w.heap.size + 1 + 1 + 1, 0, none⟩), .pointer (some ⟨w.heap.size + 1 + 1 + 1 + 1 + 1, 0, none⟩), .pointer (some ⟨w.heap.size + 1 + 1 + 1 + 1 + 1 + 1, 0, none⟩)], .agg #[.float .f64 bx, .float .f64 by'], d2, .func (Fn.func 44) #[] #[.pointer (some ⟨w.heap.size + 1 + 1 + 1, 0, none⟩), .pointer (some ⟨w.heap.size + 1 + 1 + 1 + 1 + 1, 0, none⟩), .pointer (some ⟨w.heap.size + 1 + 1 + 1 + 1 + 1 + 1, 0, none⟩)], .agg #[.float .f64 cx, .float .f64 cy], d3, .agg #[.slice a0 n0 c0, .slice a1 n1 c1, .slice a2 n2 c2, .slice a3 n3 c3, .slice a4 n4 c4, .slice a5 n5 c5, .slice a6 n6 c6, .slice a7 n7 c7, .slice a8 n8 c8], .agg #[.slice a0 n0 c0, .slice a1 n1 c1, .slice a2 n2 c2, .slice a3 n3 c3, .slice a4 n4 c4, .slice a5 n5 c5, .slice a6 n6 c6, .slice a7 n7 c7, .slice a8 n8 c8], .int .i64 0, .bool true, .int .i64 0, .agg #[.slice a0 n0 c0, .slice a1 n1 c1, .slice a2 n2 c2], .int .i64 0, .int .i64 1, .int .i64 1, .pointer (some ⟨b, 3, none⟩), .agg #[.slice a3 n3 c3, .slice a4 n4 c4, .slice a5 n5 c5], .int .i64 0, .int .i64 2, .int .i64 2, .pointer (some ⟨b, 6, none⟩), .agg #[.slice a6 n6 c6, .slice a7 n7 c7, .slice a8 n8 c8], u48, u49, u50, u51, u52, u53, u54, u55, u56, u57, u58, u59, u60, u61, u62, u63, u64, u65, u66, u67, u68, u69, u70, u71, undef, undef, undef, undef], defers := [] } ∧ (W.cell? ⟨b, 0, none⟩ = some (.slice a0 n0 c0) ∧ W.cell? ⟨b, 1, none⟩ = some (.slice a1 n1 c1) ∧ W.cell? ⟨b, 2, none⟩ = some (.slice a2 n2 c2) ∧ W.cell? ⟨b, 3, none⟩ = some (.slice a3 n3 c3) ∧ W.cell? ⟨b, 4, none⟩ = some (.slice a4 n4 c4) ∧ W.cell? ⟨b, 5, none⟩ = some (.slice a5 n5 c5) ∧ W.cell? ⟨b, 6, none⟩ = some (.slice a6 n6 c6) ∧ W.cell? ⟨b, 7, none⟩ = some (.slice a7 n7 c7) ∧ W.cell? ⟨b, 8, none⟩ = some (.slice a8 n8 c8) ∧ W.cell? ⟨wr.heap.size, 2, none⟩ = some (.slice a2 n2 c2) ∧ (LW w W ax ay bx by' cx cy dx dy b (.slice a0 n0 c0) (.slice a1 n1 c1) (.slice a2 n2 c2) (.slice a3 n3 c3) (.slice a4 n4 c4) (.slice a5 n5 c5) (.slice a6 n6 c6) (.slice a7 n7 c7) (.slice a8 n8 c8) l0 l1 l2 l3 l4 l5 l6 l7 l8) ∧ Fs W (.slice a n c) ls) ∧ (1 ≤ k → v17 = .pointer (some ⟨b1, 0, none⟩) ∧ CB W b1 #[.slice none 0 0, .slice none 0 0, .slice none 0 0] 63 ∧ wr.heap.size < b1) ∧ (x = true → v18 = .pointer (some ⟨b2, 0, none⟩) ∧ CB W b2 #[.slice none 0 0, .slice none 0 0, .slice none 0 0] 63 ∧ wr.heap.size < b2) ∧ (1 ≤ k → x = true → b1 ≠ b2)) ?_ ?_ ?_ ?_ ?_ ?_ 2 false 0 _ _ (by omega) (by decide) ?_
        · intro x k hk hx
          have h5 : k = 0 ∨ k = 1 := by omega
          rcases h5 with rfl | rfl <;> cases x <;> first | exact absurd (hx rfl) (by decide) | (show _ = _; kernel_rfl)
        · intro x k hk
          obtain rfl : k = 0 := by omega
          cases x <;> rfl
        · intro k hk
          have h5 : k = 0 ∨ k = 1 := by omega
          rcases h5 with rfl | rfl <;> rfl
        · intro x k hk
          obtain rfl : k = 0 := by omega
          refine ⟨_, rfl, ?_⟩
          intro aa W hI K' hK
          obtain ⟨v17, v18, b1, b2, rfl, hS, h1, h2, h12⟩ := hI
          have hb : Below W.heap.size W (W.alloc (.cells #[.slice none 0 0, .slice none 0 0, .slice none 0 0] 63)) := (Below.refl _ W).alloc (Nat.le_refl _) _
          have hlt2 : wr.heap.size < W.heap.size := World.block_lt_of_cell? _ _ hS.2.2.2.2.2.2.2.2.2.1
          have hS2 : (W.alloc (.cells #[.slice none 0 0, .slice none 0 0, .slice none 0 0] 63)).cell? ⟨b, 0, none⟩ = some (.slice a0 n0 c0) ∧ (W.alloc (.cells #[.slice none 0 0, .slice none 0 0, .slice none 0 0] 63)).cell? ⟨b, 1, none⟩ = some (.slice a1 n1 c1) ∧ (W.alloc (.cells #[.slice none 0 0, .slice none 0 0, .slice none 0 0] 63)).cell? ⟨b, 2, none⟩ = some (.slice a2 n2 c2) ∧ (W.alloc (.cells #[.slice none 0 0, .slice none 0 0, .slice none 0 0] 63)).cell? ⟨b, 3, none⟩ = some (.slice a3 n3 c3) ∧ (W.alloc (.cells #[.slice none 0 0, .slice none 0 0, .slice none 0 0] 63)).cell? ⟨b, 4, none⟩ = some (.slice a4 n4 c4) ∧ (W.alloc (.cells #[.slice none 0 0, .slice none 0 0, .slice none 0 0] 63)).cell? ⟨b, 5, none⟩ = some (.slice a5 n5 c5) ∧ (W.alloc (.cells #[.slice none 0 0, .slice none 0 0, .slice none 0 0] 63)).cell? ⟨b, 6, none⟩ = some (.slice a6 n6 c6) ∧ (W.alloc (.cells #[.slice none 0 0, .slice none 0 0, .slice none 0 0] 63)).cell? ⟨b, 7, none⟩ = some (.slice a7 n7 c7) ∧ (W.alloc (.cells #[.slice none 0 0, .slice none 0 0, .slice none 0 0] 63)).cell? ⟨b, 8, none⟩ = some (.slice a8 n8 c8) ∧ (W.alloc (.cells #[.slice none 0 0, .slice none 0 0, .slice none 0 0] 63)).cell? ⟨wr.heap.size, 2, none⟩ = some (.slice a2 n2 c2) ∧ (LW w (W.alloc (.cells #[.slice none 0 0, .slice none 0 0, .slice none 0 0] 63)) ax ay bx by' cx cy dx dy b (.slice a0 n0 c0) (.slice a1 n1 c1) (.slice a2 n2 c2) (.slice a3 n3 c3) (.slice a4 n4 c4) (.slice a5 n5 c5) (.slice a6 n6 c6) (.slice a7 n7 c7) (.slice a8 n8 c8) l0 l1 l2 l3 l4 l5 l6 l7 l8) ∧ Fs (W.alloc (.cells #[.slice none 0 0, .slice none 0 0, .slice none 0 0] 63)) (.slice a n c) ls := ⟨box_cell hb hS.1, box_cell hb hS.2.1, box_cell hb hS.2.2.1, box_cell hb hS.2.2.2.1, box_cell hb hS.2.2.2.2.1, box_cell hb hS.2.2.2.2.2.1, box_cell hb hS.2.2.2.2.2.2.1, box_cell hb hS.2.2.2.2.2.2.2.1, box_cell hb hS.2.2.2.2.2.2.2.2.1, box_cell hb hS.2.2.2.2.2.2.2.2.2.1, hS.2.2.2.2.2.2.2.2.2.2.1.later hb, hS.2.2.2.2.2.2.2.2.2.2.2.later hb⟩
          go_simp
          go_wp2_with fail
          exact hK.out _ _ hS2 ⟨_, v18, W.heap.size, b2, rfl, hS2, fun _ => ⟨rfl, CB.new W _ _, hlt2⟩, fun h => ⟨(h2 h).1, (h2 h).2.1.later hb, (h2 h).2.2⟩, fun _ h => Nat.ne_of_gt (h2 h).2.1.lt⟩
        · intro k hk
          refine ⟨_, rfl, ?_⟩
          intro aa W hI K' hK
          obtain ⟨v17, v18, b1, b2, rfl, hS, h1, h2, h12⟩ := hI
          have hb : Below W.heap.size W (W.alloc (.cells #[.slice none 0 0, .slice none 0 0, .slice none 0 0] 63)) := (Below.refl _ W).alloc (Nat.le_refl _) _
          have hlt2 : wr.heap.size < W.heap.size := World.block_lt_of_cell? _ _ hS.2.2.2.2.2.2.2.2.2.1
          have hS2 : (W.alloc (.cells #[.slice none 0 0, .slice none 0 0, .slice none 0 0] 63)).cell? ⟨b, 0, none⟩ = some (.slice a0 n0 c0) ∧ (W.alloc (.cells #[.slice none 0 0, .slice none 0 0, .slice none 0 0] 63)).cell? ⟨b, 1, none⟩ = some (.slice a1 n1 c1) ∧ (W.alloc (.cells #[.slice none 0 0, .slice none 0 0, .slice none 0 0] 63)).cell? ⟨b, 2, none⟩ = some (.slice a2 n2 c2) ∧ (W.alloc (.cells #[.slice none 0 0, .slice none 0 0, .slice none 0 0] 63)).cell? ⟨b, 3, none⟩ = some (.slice a3 n3 c3) ∧ (W.alloc (.cells #[.slice none 0 0, .slice none 0 0, .slice none 0 0] 63)).cell? ⟨b, 4, none⟩ = some (.slice a4 n4 c4) ∧ (W.alloc (.cells #[.slice none 0 0, .slice none 0 0, .slice none 0 0] 63)).cell? ⟨b, 5, none⟩ = some (.slice a5 n5 c5) ∧ (W.alloc (.cells #[.slice none 0 0, .slice none 0 0, .slice none 0 0] 63)).cell? ⟨b, 6, none⟩ = some (.slice a6 n6 c6) ∧ (W.alloc (.cells #[.slice none 0 0, .slice none 0 0, .slice none 0 0] 63)).cell? ⟨b, 7, none⟩ = some (.slice a7 n7 c7) ∧ (W.alloc (.cells #[.slice none 0 0, .slice none 0 0, .slice none 0 0] 63)).cell? ⟨b, 8, none⟩ = some (.slice a8 n8 c8) ∧ (W.alloc (.cells #[.slice none 0 0, .slice none 0 0, .slice none 0 0] 63)).cell? ⟨wr.heap.size, 2, none⟩ = some (.slice a2 n2 c2) ∧ (LW w (W.alloc (.cells #[.slice none 0 0, .slice none 0 0, .slice none 0 0] 63)) ax ay bx by' cx cy dx dy b (.slice a0 n0 c0) (.slice a1 n1 c1) (.slice a2 n2 c2) (.slice a3 n3 c3) (.slice a4 n4 c4) (.slice a5 n5 c5) (.slice a6 n6 c6) (.slice a7 n7 c7) (.slice a8 n8 c8) l0 l1 l2 l3 l4 l5 l6 l7 l8) ∧ Fs (W.alloc (.cells #[.slice none 0 0, .slice none 0 0, .slice none 0 0] 63)) (.slice a n c) ls := ⟨box_cell hb hS.1, box_cell hb hS.2.1, box_cell hb hS.2.2.1, box_cell hb hS.2.2.2.1, box_cell hb hS.2.2.2.2.1, box_cell hb hS.2.2.2.2.2.1, box_cell hb hS.2.2.2.2.2.2.1, box_cell hb hS.2.2.2.2.2.2.2.1, box_cell hb hS.2.2.2.2.2.2.2.2.1, box_cell hb hS.2.2.2.2.2.2.2.2.2.1, hS.2.2.2.2.2.2.2.2.2.2.1.later hb, hS.2.2.2.2.2.2.2.2.2.2.2.later hb⟩
          go_simp
          go_wp2_with fail
          exact hK.out _ _ hS2 ⟨v17, _, b1, W.heap.size, rfl, hS2, fun h => ⟨(h1 h).1, (h1 h).2.1.later hb, (h1 h).2.2⟩, fun _ => ⟨rfl, CB.new W _ _, hlt2⟩, fun h _ => Nat.ne_of_lt (h1 h).2.1.lt⟩
        · intro aa W hI
          obtain ⟨v17, v18, b1, b2, rfl, hS, h1, h2, h12⟩ := hI
          obtain ⟨rfl, hc1, l1'⟩ := h1 (by omega)
          obtain ⟨rfl, hc2, l2'⟩ := h2 rfl
          have hne := h12 (by omega) rfl
          clear h1 h2 h12
          have hm := moved3 W b1 (.slice a3 n3 c3) (.slice a4 n4 c4) (.slice a5 n5 c5)
          have hn := hc1.nofloat (by simp)
          have hLW := LW.moved hS.2.2.2.2.2.2.2.2.2.2.1 hm hn (by have := HLb.out; omega) (by have := HLb.out; omega)
          have hFS := fs_moved hS.2.2.2.2.2.2.2.2.2.2.2 hm hn
          have hq2 := hm.cell _ _ _ (by omega) hS.2.2.2.2.2.2.2.2.2.1
          have hS2 : (((W.setCell ⟨b1, 0, none⟩ (.slice a3 n3 c3)).setCell ⟨b1, 1, none⟩ (.slice a4 n4 c4)).setCell ⟨b1, 2, none⟩ (.slice a5 n5 c5)).cell? ⟨b, 0, none⟩ = some (.slice a0 n0 c0) ∧ (((W.setCell ⟨b1, 0, none⟩ (.slice a3 n3 c3)).setCell ⟨b1, 1, none⟩ (.slice a4 n4 c4)).setCell ⟨b1, 2, none⟩ (.slice a5 n5 c5)).cell? ⟨b, 1, none⟩ = some (.slice a1 n1 c1) ∧ (((W.setCell ⟨b1, 0, none⟩ (.slice a3 n3 c3)).setCell ⟨b1, 1, none⟩ (.slice a4 n4 c4)).setCell ⟨b1, 2, none⟩ (.slice a5 n5 c5)).cell? ⟨b, 2, none⟩ = some (.slice a2 n2 c2) ∧ (((W.setCell ⟨b1, 0, none⟩ (.slice a3 n3 c3)).setCell ⟨b1, 1, none⟩ (.slice a4 n4 c4)).setCell ⟨b1, 2, none⟩ (.slice a5 n5 c5)).cell? ⟨b, 3, none⟩ = some (.slice a3 n3 c3) ∧ (((W.setCell ⟨b1, 0, none⟩ (.slice a3 n3 c3)).setCell ⟨b1, 1, none⟩ (.slice a4 n4 c4)).setCell ⟨b1, 2, none⟩ (.slice a5 n5 c5)).cell? ⟨b, 4, none⟩ = some (.slice a4 n4 c4) ∧ (((W.setCell ⟨b1, 0, none⟩ (.slice a3 n3 c3)).setCell ⟨b1, 1, none⟩ (.slice a4 n4 c4)).setCell ⟨b1, 2, none⟩ (.slice a5 n5 c5)).cell? ⟨b, 5, none⟩ = some (.slice a5 n5 c5) ∧ (((W.setCell ⟨b1, 0, none⟩ (.slice a3 n3 c3)).setCell ⟨b1, 1, none⟩ (.slice a4 n4 c4)).setCell ⟨b1, 2, none⟩ (.slice a5 n5 c5)).cell? ⟨b, 6, none⟩ = some (.slice a6 n6 c6) ∧ (((W.setCell ⟨b1, 0, none⟩ (.slice a3 n3 c3)).setCell ⟨b1, 1, none⟩ (.slice a4 n4 c4)).setCell ⟨b1, 2, none⟩ (.slice a5 n5 c5)).cell? ⟨b, 7, none⟩ = some (.slice a7 n7 c7) ∧ (((W.setCell ⟨b1, 0, none⟩ (.slice a3 n3 c3)).setCell ⟨b1, 1, none⟩ (.slice a4 n4 c4)).setCell ⟨b1, 2, none⟩ (.slice a5 n5 c5)).cell? ⟨b, 8, none⟩ = some (.slice a8 n8 c8) ∧ (((W.setCell ⟨b1, 0, none⟩ (.slice a3 n3 c3)).setCell ⟨b1, 1, none⟩ (.slice a4 n4 c4)).setCell ⟨b1, 2, none⟩ (.slice a5 n5 c5)).cell? ⟨wr.heap.size, 2, none⟩ = some (.slice a2 n2 c2) ∧ (LW w (((W.setCell ⟨b1, 0, none⟩ (.slice a3 n3 c3)).setCell ⟨b1, 1, none⟩ (.slice a4 n4 c4)).setCell ⟨b1, 2, none⟩ (.slice a5 n5 c5)) ax ay bx by' cx cy dx dy b (.slice a0 n0 c0) (.slice a1 n1 c1) (.slice a2 n2 c2) (.slice a3 n3 c3) (.slice a4 n4 c4) (.slice a5 n5 c5) (.slice a6 n6 c6) (.slice a7 n7 c7) (.slice a8 n8 c8) l0 l1 l2 l3 l4 l5 l6 l7 l8) ∧ Fs (((W.setCell ⟨b1, 0, none⟩ (.slice a3 n3 c3)).setCell ⟨b1, 1, none⟩ (.slice a4 n4 c4)).setCell ⟨b1, 2, none⟩ (.slice a5 n5 c5)) (.slice a n c) ls := ⟨hLW.rows.cells9.1, hLW.rows.cells9.2.1, hLW.rows.cells9.2.2.1, hLW.rows.cells9.2.2.2.1, hLW.rows.cells9.2.2.2.2.1, hLW.rows.cells9.2.2.2.2.2.1, hLW.rows.cells9.2.2.2.2.2.2.1, hLW.rows.cells9.2.2.2.2.2.2.2.1, hLW.rows.cells9.2.2.2.2.2.2.2.2, hq2, hLW, hFS⟩
          have f0 := hc1.frozen 0
          have f1 := hc1.frozen 1
          have f2 := hc1.frozen 2
          obtain ⟨g0, g1, g2⟩ := hc1.cells3
          have hc1' := hc1.set3 (.slice a3 n3 c3) (.slice a4 n4 c4) (.slice a5 n5 c5)
          have hc2' := hm.box _ _ _ hne.symm hc2
          refine call_at 12 (by kernel_rfl) (by kernel_rfl) ?_
          intro o ho
          simp only [List.getElem?_toArray, List.getElem?_cons_succ, List.getElem?_cons_zero, Option.some.injEq] at ho
          subst ho
          intro KF hK
          go_simp
          go_wp2_with fail
          refine hK.out _ _ hS2 ?_
          clear hS
          intro hS
          clear hK KF f0 f1 f2 g0 g1 g2 hm hn hS2 hLW hFS hq2
          try simp only [List.setIfInBounds_toArray, List.set_cons_zero, List.set_cons_succ]
          generalize (((W.setCell ⟨b1, 0, none⟩ (.slice a3 n3 c3)).setCell ⟨b1, 1, none⟩ (.slice a4 n4 c4)).setCell ⟨b1, 2, none⟩ (.slice a5 n5 c5)) = W2 at *
          have hm := moved3 W2 b2 (.slice a6 n6 c6) (.slice a7 n7 c7) (.slice a8 n8 c8)
          have hn := hc2'.nofloat (by simp)
          have hLW := LW.moved hS.2.2.2.2.2.2.2.2.2.2.1 hm hn (by have := HLb.out; omega) (by have := HLb.out; omega)
          have hFS := fs_moved hS.2.2.2.2.2.2.2.2.2.2.2 hm hn
          have hq2 := hm.cell _ _ _ (by omega) hS.2.2.2.2.2.2.2.2.2.1
          have hS2 : (((W2.setCell ⟨b2, 0, none⟩ (.slice a6 n6 c6)).setCell ⟨b2, 1, none⟩ (.slice a7 n7 c7)).setCell ⟨b2, 2, none⟩ (.slice a8 n8 c8)).cell? ⟨b, 0, none⟩ = some (.slice a0 n0 c0) ∧ (((W2.setCell ⟨b2, 0, none⟩ (.slice a6 n6 c6)).setCell ⟨b2, 1, none⟩ (.slice a7 n7 c7)).setCell ⟨b2, 2, none⟩ (.slice a8 n8 c8)).cell? ⟨b, 1, none⟩ = some (.slice a1 n1 c1) ∧ (((W2.setCell ⟨b2, 0, none⟩ (.slice a6 n6 c6)).setCell ⟨b2, 1, none⟩ (.slice a7 n7 c7)).setCell ⟨b2, 2, none⟩ (.slice a8 n8 c8)).cell? ⟨b, 2, none⟩ = some (.slice a2 n2 c2) ∧ (((W2.setCell ⟨b2, 0, none⟩ (.slice a6 n6 c6)).setCell ⟨b2, 1, none⟩ (.slice a7 n7 c7)).setCell ⟨b2, 2, none⟩ (.slice a8 n8 c8)).cell? ⟨b, 3, none⟩ = some (.slice a3 n3 c3) ∧ (((W2.setCell ⟨b2, 0, none⟩ (.slice a6 n6 c6)).setCell ⟨b2, 1, none⟩ (.slice a7 n7 c7)).setCell ⟨b2, 2, none⟩ (.slice a8 n8 c8)).cell? ⟨b, 4, none⟩ = some (.slice a4 n4 c4) ∧ (((W2.setCell ⟨b2, 0, none⟩ (.slice a6 n6 c6)).setCell ⟨b2, 1, none⟩ (.slice a7 n7 c7)).setCell ⟨b2, 2, none⟩ (.slice a8 n8 c8)).cell? ⟨b, 5, none⟩ = some (.slice a5 n5 c5) ∧ (((W2.setCell ⟨b2, 0, none⟩ (.slice a6 n6 c6)).setCell ⟨b2, 1, none⟩ (.slice a7 n7 c7)).setCell ⟨b2, 2, none⟩ (.slice a8 n8 c8)).cell? ⟨b, 6, none⟩ = some (.slice a6 n6 c6) ∧ (((W2.setCell ⟨b2, 0, none⟩ (.slice a6 n6 c6)).setCell ⟨b2, 1, none⟩ (.slice a7 n7 c7)).setCell ⟨b2, 2, none⟩ (.slice a8 n8 c8)).cell? ⟨b, 7, none⟩ = some (.slice a7 n7 c7) ∧ (((W2.setCell ⟨b2, 0, none⟩ (.slice a6 n6 c6)).setCell ⟨b2, 1, none⟩ (.slice a7 n7 c7)).setCell ⟨b2, 2, none⟩ (.slice a8 n8 c8)).cell? ⟨b, 8, none⟩ = some (.slice a8 n8 c8) ∧ (((W2.setCell ⟨b2, 0, none⟩ (.slice a6 n6 c6)).setCell ⟨b2, 1, none⟩ (.slice a7 n7 c7)).setCell ⟨b2, 2, none⟩ (.slice a8 n8 c8)).cell? ⟨wr.heap.size, 2, none⟩ = some (.slice a2 n2 c2) ∧ (LW w (((W2.setCell ⟨b2, 0, none⟩ (.slice a6 n6 c6)).setCell ⟨b2, 1, none⟩ (.slice a7 n7 c7)).setCell ⟨b2, 2, none⟩ (.slice a8 n8 c8)) ax ay bx by' cx cy dx dy b (.slice a0 n0 c0) (.slice a1 n1 c1) (.slice a2 n2 c2) (.slice a3 n3 c3) (.slice a4 n4 c4) (.slice a5 n5 c5) (.slice a6 n6 c6) (.slice a7 n7 c7) (.slice a8 n8 c8) l0 l1 l2 l3 l4 l5 l6 l7 l8) ∧ Fs (((W2.setCell ⟨b2, 0, none⟩ (.slice a6 n6 c6)).setCell ⟨b2, 1, none⟩ (.slice a7 n7 c7)).setCell ⟨b2, 2, none⟩ (.slice a8 n8 c8)) (.slice a n c) ls := ⟨hLW.rows.cells9.1, hLW.rows.cells9.2.1, hLW.rows.cells9.2.2.1, hLW.rows.cells9.2.2.2.1, hLW.rows.cells9.2.2.2.2.1, hLW.rows.cells9.2.2.2.2.2.1, hLW.rows.cells9.2.2.2.2.2.2.1, hLW.rows.cells9.2.2.2.2.2.2.2.1, hLW.rows.cells9.2.2.2.2.2.2.2.2, hq2, hLW, hFS⟩
          have f0 := hc2'.frozen 0
          have f1 := hc2'.frozen 1
          have f2 := hc2'.frozen 2
          obtain ⟨g0, g1, g2⟩ := hc2'.cells3
          have hc2'' := hc2'.set3 (.slice a6 n6 c6) (.slice a7 n7 c7) (.slice a8 n8 c8)
          have hc1'' := hm.box _ _ _ hne hc1'
          refine call_at 13 (by kernel_rfl) (by kernel_rfl) ?_
          intro o ho
          simp only [List.getElem?_toArray, List.getElem?_cons_succ, List.getElem?_cons_zero, Option.some.injEq] at ho
          subst ho
          intro KF hK
          go_simp
          go_wp2_with fail
          refine hK.out _ _ hS2 ?_
          clear hS
          intro hS
          clear hK KF f0 f1 f2 g0 g1 g2 hm hn hS2 hLW hFS hq2
          try simp only [List.setIfInBounds_toArray, List.set_cons_zero, List.set_cons_succ]
          generalize (((W2.setCell ⟨b2, 0, none⟩ (.slice a6 n6 c6)).setCell ⟨b2, 1, none⟩ (.slice a7 n7 c7)).setCell ⟨b2, 2, none⟩ (.slice a8 n8 c8)) = W3 at *
          refine wpAnyH_done (by kernel_rfl) ?_ _
          obtain ⟨i0, i1, i2⟩ := hc1''.cells3
          obtain ⟨j0, j1, j2⟩ := hc2''.cells3
          have hq := hS.2.2.2.2.2.2.2.2.2.1
          have hLW := hS.2.2.2.2.2.2.2.2.2.2.1
          have hFS := hS.2.2.2.2.2.2.2.2.2.2.2
          clear hS hc1 hc2 hc1' hc2' hc1'' hc2'' l1' l2' hne
          go_wp2_with fail
          refine wp_region_held_drew (S := (fun W => W.cell? ⟨b1, 0, none⟩ = some (.slice a3 n3 c3) ∧ W.cell? ⟨b1, 1, none⟩ = some (.slice a4 n4 c4) ∧ W.cell? ⟨b1, 2, none⟩ = some (.slice a5 n5 c5) ∧ W.cell? ⟨b2, 0, none⟩ = some (.slice a6 n6 c6) ∧ W.cell? ⟨b2, 1, none⟩ = some (.slice a7 n7 c7) ∧ W.cell? ⟨b2, 2, none⟩ = some (.slice a8 n8 c8) ∧ W.cell? ⟨wr.heap.size, 2, none⟩ = some (.slice a2 n2 c2) ∧ W.cell? ⟨w.heap.size + 1 + 1 + 1 + 1 + 1, 0, none⟩ = some (.func (Fn.func 40) #[] #[.pointer (some ⟨w.heap.size + 1 + 1 + 1 + 1, 0, none⟩)]) ∧ W.cell? ⟨w.heap.size + 1 + 1 + 1 + 1 + 1 + 1, 0, none⟩ = some (.func (Fn.func 42) #[] #[.pointer (some ⟨w.heap.size + 1 + 1 + 1 + 1, 0, none⟩)]) ∧ (LW w W ax ay bx by' cx cy dx dy b (.slice a0 n0 c0) (.slice a1 n1 c1) (.slice a2 n2 c2) (.slice a3 n3 c3) (.slice a4 n4 c4) (.slice a5 n5 c5) (.slice a6 n6 c6) (.slice a7 n7 c7) (.slice a8 n8 c8) l0 l1 l2 l3 l4 l5 l6 l7 l8) ∧ Fs W (.slice a n c) ls)) (by kernel_rfl) ⟨i0, i1, i2, j0, j1, j2, hq, hLW.cw.fa, hLW.cw.fm, hLW.drew, hFS.drew⟩ (fun hS => ?_)
          refine take_at (i := 0) (d := some 48) (v := .func (Fn.func 40) #[] #[.pointer (some ⟨w.heap.size + 1 + 1 + 1 + 1, 0, none⟩)]) (by kernel_rfl) (by kernel_rfl) (by kernel_rfl) (by kernel_rfl) (fun _ _ _ h => h) ?_ hS ?_
          · intro o ho
            simp only [List.getElem?_toArray, List.getElem?_cons_zero, Option.some.injEq] at ho
            subst ho
            refine Or.inl ⟨by rfl, ?_⟩
            intro w hSw
            (try dsimp only at hSw)
            go_simp
          simp only [Act.put, List.setIfInBounds_toArray, List.set_cons_zero, List.set_cons_succ]
          refine take_at (i := 1) (d := some 49) (v := .func (Fn.func 42) #[] #[.pointer (some ⟨w.heap.size + 1 + 1 + 1 + 1, 0, none⟩)]) (by kernel_rfl) (by kernel_rfl) (by kernel_rfl) (by kernel_rfl) (fun _ _ _ h => h) ?_ hS ?_
          · intro o ho
            simp only [List.getElem?_toArray, List.getElem?_cons_succ, List.getElem?_cons_zero, Option.some.injEq] at ho
            subst ho
            refine Or.inl ⟨by rfl, ?_⟩
            intro w hSw
            (try dsimp only at hSw)
            go_simp
          simp only [Act.put, List.setIfInBounds_toArray, List.set_cons_zero, List.set_cons_succ]
          refine take_at (i := 2) (d := some 50) (v := .pointer (some ⟨b1, 0, none⟩)) (by kernel_rfl) (by kernel_rfl) (by kernel_rfl) (by kernel_rfl) (fun _ _ _ h => h) ?_ hS ?_
          · intro o ho
            simp only [List.getElem?_toArray, List.getElem?_cons_succ, List.getElem?_cons_zero, Option.some.injEq] at ho
            subst ho
            refine Or.inl ⟨by rfl, ?_⟩
            intro w hSw
            (try dsimp only at hSw)
            go_simp
          simp only [Act.put, List.setIfInBounds_toArray, List.set_cons_zero, List.set_cons_succ]
          refine take_at (i := 3) (d := some 51) (v := .slice a3 n3 c3) (by kernel_rfl) (by kernel_rfl) (by kernel_rfl) (by kernel_rfl) (fun _ _ _ h => h) ?_ hS ?_
          · intro o ho
            simp only [List.getElem?_toArray, List.getElem?_cons_succ, List.getElem?_cons_zero, Option.some.injEq] at ho
            subst ho
            refine Or.inl ⟨by rfl, ?_⟩
            intro w hSw
            (try dsimp only at hSw)
            go_simp
          simp only [Act.put, List.setIfInBounds_toArray, List.set_cons_zero, List.set_cons_succ]
          refine take_at (i := 4) (d := some 52) (v := .pointer (some ⟨b2, 1, none⟩)) (by kernel_rfl) (by kernel_rfl) (by kernel_rfl) (by kernel_rfl) (fun _ _ _ h => h) ?_ hS ?_
          · intro o ho
            simp only [List.getElem?_toArray, List.getElem?_cons_succ, List.getElem?_cons_zero, Option.some.injEq] at ho
            subst ho
            refine Or.inl ⟨by rfl, ?_⟩
            intro w hSw
            (try dsimp only at hSw)
            go_simp
          simp only [Act.put, List.setIfInBounds_toArray, List.set_cons_zero, List.set_cons_succ]
          refine take_at (i := 5) (d := some 53) (v := .slice a7 n7 c7) (by kernel_rfl) (by kernel_rfl) (by kernel_rfl) (by kernel_rfl) (fun _ _ _ h => h) ?_ hS ?_
          · intro o ho
            simp only [List.getElem?_toArray, List.getElem?_cons_succ, List.getElem?_cons_zero, Option.some.injEq] at ho
            subst ho
            refine Or.inl ⟨by rfl, ?_⟩
            intro w hSw
            (try dsimp only at hSw)
            go_simp
          simp only [Act.put, List.setIfInBounds_toArray, List.set_cons_zero, List.set_cons_succ]
          refine take_at (i := 7) (d := some 55) (v := .func (Fn.func 42) #[] #[.pointer (some ⟨w.heap.size + 1 + 1 + 1 + 1, 0, none⟩)]) (by kernel_rfl) (by kernel_rfl) (by kernel_rfl) (by kernel_rfl) (fun _ _ _ h => h) ?_ hS ?_
          · intro o ho
            simp only [List.getElem?_toArray, List.getElem?_cons_succ, List.getElem?_cons_zero, Option.some.injEq] at ho
            subst ho
            refine Or.inl ⟨by rfl, ?_⟩
            intro w hSw
            (try dsimp only at hSw)
            go_simp
          simp only [Act.put, List.setIfInBounds_toArray, List.set_cons_zero, List.set_cons_succ]
          refine take_at (i := 8) (d := some 56) (v := .pointer (some ⟨b1, 1, none⟩)) (by kernel_rfl) (by kernel_rfl) (by kernel_rfl) (by kernel_rfl) (fun _ _ _ h => h) ?_ hS ?_
          · intro o ho
            simp only [List.getElem?_toArray, List.getElem?_cons_succ, List.getElem?_cons_zero, Option.some.injEq] at ho
            subst ho
            refine Or.inl ⟨by rfl, ?_⟩
            intro w hSw
            (try dsimp only at hSw)
            go_simp
          simp only [Act.put, List.setIfInBounds_toArray, List.set_cons_zero, List.set_cons_succ]
          refine take_at (i := 9) (d := some 57) (v := .slice a4 n4 c4) (by kernel_rfl) (by kernel_rfl) (by kernel_rfl) (by kernel_rfl) (fun _ _ _ h => h) ?_ hS ?_
          · intro o ho
            simp only [List.getElem?_toArray, List.getElem?_cons_succ, List.getElem?_cons_zero, Option.some.injEq] at ho
            subst ho
            refine Or.inl ⟨by rfl, ?_⟩
            intro w hSw
            (try dsimp only at hSw)
            go_simp
          simp only [Act.put, List.setIfInBounds_toArray, List.set_cons_zero, List.set_cons_succ]
          refine take_at (i := 10) (d := some 58) (v := .pointer (some ⟨b2, 0, none⟩)) (by kernel_rfl) (by kernel_rfl) (by kernel_rfl) (by kernel_rfl) (fun _ _ _ h => h) ?_ hS ?_
          · intro o ho
            simp only [List.getElem?_toArray, List.getElem?_cons_succ, List.getElem?_cons_zero, Option.some.injEq] at ho
            subst ho
            refine Or.inl ⟨by rfl, ?_⟩
            intro w hSw
            (try dsimp only at hSw)
            go_simp
          simp only [Act.put, List.setIfInBounds_toArray, List.set_cons_zero, List.set_cons_succ]
          refine take_at (i := 11) (d := some 59) (v := .slice a6 n6 c6) (by kernel_rfl) (by kernel_rfl) (by kernel_rfl) (by kernel_rfl) (fun _ _ _ h => h) ?_ hS ?_
          · intro o ho
            simp only [List.getElem?_toArray, List.getElem?_cons_succ, List.getElem?_cons_zero, Option.some.injEq] at ho
            subst ho
            refine Or.inl ⟨by rfl, ?_⟩
            intro w hSw
            (try dsimp only at hSw)
            go_simp
          simp only [Act.put, List.setIfInBounds_toArray, List.set_cons_zero, List.set_cons_succ]
          refine call_at 6 (by kernel_rfl) (by kernel_rfl) ?_
          intro o ho
          simp only [List.getElem?_toArray, List.getElem?_cons_succ, List.getElem?_cons_zero, Option.some.injEq] at ho
          subst ho
          intro KF hK
          go_simp
          refine (mulN_any 974 1175 974 1175 874 1276 (w.heap.size + 1 + 1 + 1 + 1) (.slice a3 n3 c3) (.slice a7 n7 c7) X1 Y2 l3 l7 _ hS.2.2.2.2.2.2.2.2.2.1.cw.ok hS.2.2.2.2.2.2.2.2.2.1.f3 hS.2.2.2.2.2.2.2.2.2.1.f7 HN1.out.1 HN2.out.2.1 (by omega) (by omega) (by omega) (by omega)).mono ?_
          rintro e wx ⟨⟨v1, p1, rfl, hG1, hM1⟩, hbx⟩
          go_wp2_with fail
          refine hK.out _ _ ⟨box_cell hbx hS.1, box_cell hbx hS.2.1, box_cell hbx hS.2.2.1, box_cell hbx hS.2.2.2.1, box_cell hbx hS.2.2.2.2.1, box_cell hbx hS.2.2.2.2.2.1, box_cell hbx hS.2.2.2.2.2.2.1, box_cell hbx hS.2.2.2.2.2.2.2.1, box_cell hbx hS.2.2.2.2.2.2.2.2.1, hS.2.2.2.2.2.2.2.2.2.1.later hbx, hS.2.2.2.2.2.2.2.2.2.2.later hbx⟩ ?_
          clear hS hbx
          intro hS
          clear hK KF
          try simp only [Act.put, List.setIfInBounds_toArray, List.set_cons_zero, List.set_cons_succ]
          refine call_at 12 (by kernel_rfl) (by kernel_rfl) ?_
          intro o ho
          simp only [List.getElem?_toArray, List.getElem?_cons_succ, List.getElem?_cons_zero, Option.some.injEq] at ho
          subst ho
          intro KF hK
          go_simp
          refine (mulN_any 974 1175 974 1175 874 1276 (w.heap.size + 1 + 1 + 1 + 1) (.slice a4 n4 c4) (.slice a6 n6 c6) Y1 X2 l4 l6 _ hS.2.2.2.2.2.2.2.2.2.1.cw.ok hS.2.2.2.2.2.2.2.2.2.1.f4 hS.2.2.2.2.2.2.2.2.2.1.f6 HN1.out.2.1 HN2.out.1 (by omega) (by omega) (by omega) (by omega)).mono ?_
          rintro e wx ⟨⟨v2, p2, rfl, hG2, hM2⟩, hbx⟩
          have hG1 := hG1.later hbx
          go_wp2_with fail
          refine hK.out _ _ ⟨box_cell hbx hS.1, box_cell hbx hS.2.1, box_cell hbx hS.2.2.1, box_cell hbx hS.2.2.2.1, box_cell hbx hS.2.2.2.2.1, box_cell hbx hS.2.2.2.2.2.1, box_cell hbx hS.2.2.2.2.2.2.1, box_cell hbx hS.2.2.2.2.2.2.2.1, box_cell hbx hS.2.2.2.2.2.2.2.2.1, hS.2.2.2.2.2.2.2.2.2.1.later hbx, hS.2.2.2.2.2.2.2.2.2.2.later hbx⟩ ?_
          clear hS hbx
          intro hS
          clear hK KF
          try simp only [Act.put, List.setIfInBounds_toArray, List.set_cons_zero, List.set_cons_succ]
          refine call_at 13 (by kernel_rfl) (by kernel_rfl) ?_
          intro o ho
          simp only [List.getElem?_toArray, List.getElem?_cons_succ, List.getElem?_cons_zero, Option.some.injEq] at ho
          subst ho
          intro KF hK
          go_simp
          refine (negN_any 874 1276 v2 (Y1 * X2) p2 _ hG2 hM2).mono ?_
          rintro e wx ⟨⟨v3, p3, rfl, hG3, hM3⟩, hbx⟩
          have hG1 := hG1.later hbx
          go_wp2_with fail
          refine hK.out _ _ ⟨box_cell hbx hS.1, box_cell hbx hS.2.1, box_cell hbx hS.2.2.1, box_cell hbx hS.2.2.2.1, box_cell hbx hS.2.2.2.2.1, box_cell hbx hS.2.2.2.2.2.1, box_cell hbx hS.2.2.2.2.2.2.1, box_cell hbx hS.2.2.2.2.2.2.2.1, box_cell hbx hS.2.2.2.2.2.2.2.2.1, hS.2.2.2.2.2.2.2.2.2.1.later hbx, hS.2.2.2.2.2.2.2.2.2.2.later hbx⟩ ?_
          clear hS hbx
          intro hS
          clear hK KF
          try simp only [Act.put, List.setIfInBounds_toArray, List.set_cons_zero, List.set_cons_succ]
          refine call_at 14 (by kernel_rfl) (by kernel_rfl) ?_
          intro o ho
          simp only [List.getElem?_toArray, List.getElem?_cons_succ, List.getElem?_cons_zero, Option.some.injEq] at ho
          subst ho
          intro KF hK
          go_simp
          refine (addN_any 874 1276 (w.heap.size + 1 + 1 + 1 + 1) v1 v3 (X1 * Y2) (-(Y1 * X2)) p1 p3 _ hS.2.2.2.2.2.2.2.2.2.1.cw.ok hG1 hG3 hM1 hM3 (by omega) (by omega)).mono ?_
          rintro e wx ⟨⟨v4, p4, rfl, hG4, hM4⟩, hbx⟩
          go_wp2_with fail
          refine hK.out _ _ ⟨box_cell hbx hS.1, box_cell hbx hS.2.1, box_cell hbx hS.2.2.1, box_cell hbx hS.2.2.2.1, box_cell hbx hS.2.2.2.2.1, box_cell hbx hS.2.2.2.2.2.1, box_cell hbx hS.2.2.2.2.2.2.1, box_cell hbx hS.2.2.2.2.2.2.2.1, box_cell hbx hS.2.2.2.2.2.2.2.2.1, hS.2.2.2.2.2.2.2.2.2.1.later hbx, hS.2.2.2.2.2.2.2.2.2.2.later hbx⟩ ?_
          clear hS hbx
          intro hS
          clear hK KF
          try simp only [Act.put, List.setIfInBounds_toArray, List.set_cons_zero, List.set_cons_succ]
          refine take_at (i := 15) (d := some 19) (v := v4) (by kernel_rfl) (by kernel_rfl) (by kernel_rfl) (by kernel_rfl) (fun _ _ _ h => h) ?_ hS ?_
          · intro o ho
            simp only [List.getElem?_toArray, List.getElem?_cons_succ, List.getElem?_cons_zero, Option.some.injEq] at ho
            subst ho
            refine Or.inl ⟨by rfl, ?_⟩
            intro w hSw
            (try dsimp only at hSw)
            go_simp
          simp only [Act.put, List.setIfInBounds_toArray, List.set_cons_zero, List.set_cons_succ]
          refine wpAnyH_done (by kernel_rfl) ?_ _
          clear hG1 hG2 hG3 hM1 hM2 hM3 hq hLW hFS i0 i1 i2 j0 j1 j2
          have hG4 := hG4.drew
          go_wp2_with fail
          refine wp_region_held_drew (S := (fun W => W.cell? ⟨b1, 0, none⟩ = some (.slice a3 n3 c3) ∧ W.cell? ⟨b1, 1, none⟩ = some (.slice a4 n4 c4) ∧ W.cell? ⟨b1, 2, none⟩ = some (.slice a5 n5 c5) ∧ W.cell? ⟨b2, 0, none⟩ = some (.slice a6 n6 c6) ∧ W.cell? ⟨b2, 1, none⟩ = some (.slice a7 n7 c7) ∧ W.cell? ⟨b2, 2, none⟩ = some (.slice a8 n8 c8) ∧ W.cell? ⟨wr.heap.size, 2, none⟩ = some (.slice a2 n2 c2) ∧ W.cell? ⟨w.heap.size + 1 + 1 + 1 + 1 + 1, 0, none⟩ = some (.func (Fn.func 40) #[] #[.pointer (some ⟨w.heap.size + 1 + 1 + 1 + 1, 0, none⟩)]) ∧ W.cell? ⟨w.heap.size + 1 + 1 + 1 + 1 + 1 + 1, 0, none⟩ = some (.func (Fn.func 42) #[] #[.pointer (some ⟨w.heap.size + 1 + 1 + 1 + 1, 0, none⟩)]) ∧ (LW w W ax ay bx by' cx cy dx dy b (.slice a0 n0 c0) (.slice a1 n1 c1) (.slice a2 n2 c2) (.slice a3 n3 c3) (.slice a4 n4 c4) (.slice a5 n5 c5) (.slice a6 n6 c6) (.slice a7 n7 c7) (.slice a8 n8 c8) l0 l1 l2 l3 l4 l5 l6 l7 l8) ∧ Fs W (.slice a n c) ls)) (by kernel_rfl) ⟨hS.1, hS.2.1, hS.2.2.1, hS.2.2.2.1, hS.2.2.2.2.1, hS.2.2.2.2.2.1, hS.2.2.2.2.2.2.1, hS.2.2.2.2.2.2.2.1, hS.2.2.2.2.2.2.2.2.1, hS.2.2.2.2.2.2.2.2.2.1.drew, hS.2.2.2.2.2.2.2.2.2.2.drew⟩ (fun hS => ?_)
          refine take_at (i := 0) (d := some 63) (v := .func (Fn.func 40) #[] #[.pointer (some ⟨w.heap.size + 1 + 1 + 1 + 1, 0, none⟩)]) (by kernel_rfl) (by kernel_rfl) (by kernel_rfl) (by kernel_rfl) (fun _ _ _ h => h) ?_ hS ?_
          · intro o ho
            simp only [List.getElem?_toArray, List.getElem?_cons_zero, Option.some.injEq] at ho
            subst ho
            refine Or.inl ⟨by rfl, ?_⟩
            intro w hSw
            (try dsimp only at hSw)
            go_simp
          simp only [Act.put, List.setIfInBounds_toArray, List.set_cons_zero, List.set_cons_succ]
          refine take_at (i := 1) (d := some 64) (v := .slice a n c) (by kernel_rfl) (by kernel_rfl) (by kernel_rfl) (by kernel_rfl) (fun _ _ _ h => h) ?_ hS ?_
          · intro o ho
            simp only [List.getElem?_toArray, List.getElem?_cons_succ, List.getElem?_cons_zero, Option.some.injEq] at ho
            subst ho
            refine Or.inl ⟨by rfl, ?_⟩
            intro w hSw
            (try dsimp only at hSw)
            go_simp
          simp only [Act.put, List.setIfInBounds_toArray, List.set_cons_zero, List.set_cons_succ]
          refine take_at (i := 2) (d := some 65) (v := .func (Fn.func 42) #[] #[.pointer (some ⟨w.heap.size + 1 + 1 + 1 + 1, 0, none⟩)]) (by kernel_rfl) (by kernel_rfl) (by kernel_rfl) (by kernel_rfl) (fun _ _ _ h => h) ?_ hS ?_
          · intro o ho
            simp only [List.getElem?_toArray, List.getElem?_cons_succ, List.getElem?_cons_zero, Option.some.injEq] at ho
            subst ho
            refine Or.inl ⟨by rfl, ?_⟩
            intro w hSw
            (try dsimp only at hSw)
            go_simp
          simp only [Act.put, List.setIfInBounds_toArray, List.set_cons_zero, List.set_cons_succ]
          refine take_at (i := 3) (d := some 66) (v := .pointer (some ⟨wr.heap.size, 2, none⟩)) (by kernel_rfl) (by kernel_rfl) (by kernel_rfl) (by kernel_rfl) (fun _ _ _ h => h) ?_ hS ?_
          · intro o ho
            simp only [List.getElem?_toArray, List.getElem?_cons_succ, List.getElem?_cons_zero, Option.some.injEq] at ho
            subst ho
            refine Or.inl ⟨by rfl, ?_⟩
            intro w hSw
            (try dsimp only at hSw)
            go_simp
          simp only [Act.put, List.setIfInBounds_toArray, List.set_cons_zero, List.set_cons_succ]
          refine take_at (i := 4) (d := some 67) (v := .slice a2 n2 c2) (by kernel_rfl) (by kernel_rfl) (by kernel_rfl) (by kernel_rfl) (fun _ _ _ h => h) ?_ hS ?_
          · intro o ho
            simp only [List.getElem?_toArray, List.getElem?_cons_succ, List.getElem?_cons_zero, Option.some.injEq] at ho
            subst ho
            refine Or.inl ⟨by rfl, ?_⟩
            intro w hSw
            (try dsimp only at hSw)
            go_simp
          simp only [Act.put, List.setIfInBounds_toArray, List.set_cons_zero, List.set_cons_succ]
          refine take_at (i := 5) (d := some 68) (v := v4) (by kernel_rfl) (by kernel_rfl) (by kernel_rfl) (by kernel_rfl) (fun _ _ _ h => h) ?_ hS ?_
          · intro o ho
            simp only [List.getElem?_toArray, List.getElem?_cons_succ, List.getElem?_cons_zero, Option.some.injEq] at ho
            subst ho
            refine Or.inl ⟨by rfl, ?_⟩
            intro w hSw
            (try dsimp only at hSw)
            go_simp
          simp only [Act.put, List.setIfInBounds_toArray, List.set_cons_zero, List.set_cons_succ]
          refine call_at 6 (by kernel_rfl) (by kernel_rfl) ?_
          intro o ho
          simp only [List.getElem?_toArray, List.getElem?_cons_succ, List.getElem?_cons_zero, Option.some.injEq] at ho
          subst ho
          intro KF hK
          go_simp
          refine (mulN_any 874 1277 874 1277 674 1480 (w.heap.size + 1 + 1 + 1 + 1) (.slice a2 n2 c2) v4 (X0 * X0 + Y0 * Y0) ((X1 * Y2) + -(Y1 * X2)) l2 p4 _ hS.2.2.2.2.2.2.2.2.2.1.cw.ok hS.2.2.2.2.2.2.2.2.2.1.f2 hG4 HN0.out.2.2 hM4 (by omega) (by omega) (by omega) (by omega)).mono ?_
          rintro e wx ⟨⟨v5, p5, rfl, hG5, hM5⟩, hbx⟩
          go_wp2_with fail
          refine hK.out _ _ ⟨box_cell hbx hS.1, box_cell hbx hS.2.1, box_cell hbx hS.2.2.1, box_cell hbx hS.2.2.2.1, box_cell hbx hS.2.2.2.2.1, box_cell hbx hS.2.2.2.2.2.1, box_cell hbx hS.2.2.2.2.2.2.1, box_cell hbx hS.2.2.2.2.2.2.2.1, box_cell hbx hS.2.2.2.2.2.2.2.2.1, hS.2.2.2.2.2.2.2.2.2.1.later hbx, hS.2.2.2.2.2.2.2.2.2.2.later hbx⟩ ?_
          clear hS hbx
          intro hS
          clear hK KF
          try simp only [Act.put, List.setIfInBounds_toArray, List.set_cons_zero, List.set_cons_succ]
          refine call_at 7 (by kernel_rfl) (by kernel_rfl) ?_
          intro o ho
          simp only [List.getElem?_toArray, List.getElem?_cons_succ, List.getElem?_cons_zero, Option.some.injEq] at ho
          subst ho
          intro KF hK
          go_simp
          refine (addN_any 674 1480 (w.heap.size + 1 + 1 + 1 + 1) (.slice a n c) v5 0 ((X0 * X0 + Y0 * Y0) * (X1 * Y2 + -(Y1 * X2))) ls p5 _ hS.2.2.2.2.2.2.2.2.2.1.cw.ok hS.2.2.2.2.2.2.2.2.2.2 hG5 HNs.out (hM5.mono (by omega)) (by omega) (by omega)).mono ?_
          rintro e wx ⟨⟨v6, p6, rfl, hG6, hM6⟩, hbx⟩
          obtain ⟨a7', n7', c7', rfl⟩ := hG6.shape
          go_wp2_with fail
          refine hK.out _ _ ⟨box_cell hbx hS.1, box_cell hbx hS.2.1, box_cell hbx hS.2.2.1, box_cell hbx hS.2.2.2.1, box_cell hbx hS.2.2.2.2.1, box_cell hbx hS.2.2.2.2.2.1, box_cell hbx hS.2.2.2.2.2.2.1, box_cell hbx hS.2.2.2.2.2.2.2.1, box_cell hbx hS.2.2.2.2.2.2.2.2.1, hS.2.2.2.2.2.2.2.2.2.1.later hbx, hS.2.2.2.2.2.2.2.2.2.2.later hbx⟩ ?_
          clear hS hbx
          intro hS
          clear hK KF
          try simp only [Act.put, List.setIfInBounds_toArray, List.set_cons_zero, List.set_cons_succ]
          refine take_at (i := 8) (d := some 14) (v := .slice a7' n7' c7') (by kernel_rfl) (by kernel_rfl) (by kernel_rfl) (by kernel_rfl) (fun _ _ _ h => h) ?_ hS ?_
          · intro o ho
            simp only [List.getElem?_toArray, List.getElem?_cons_succ, List.getElem?_cons_zero, Option.some.injEq] at ho
            subst ho
            refine Or.inl ⟨by rfl, ?_⟩
            intro w hSw
            (try dsimp only at hSw)
            go_simp
          simp only [Act.put, List.setIfInBounds_toArray, List.set_cons_zero, List.set_cons_succ]
          refine wpAnyH_done (by kernel_rfl) ?_ _
          have HE : Hid (LW w _ ax ay bx by' cx cy dx dy b (.slice a0 n0 c0) (.slice a1 n1 c1) (.slice a2 n2 c2) (.slice a3 n3 c3) (.slice a4 n4 c4) (.slice a5 n5 c5) (.slice a6 n6 c6) (.slice a7 n7 c7) (.slice a8 n8 c8) l0 l1 l2 l3 l4 l5 l6 l7 l8) := hS.2.2.2.2.2.2.2.2.2.1
          have HG : Hid (∃ l, Fs _ (.slice a7' n7' c7') l ∧ NL 674 1481 (0 + ((X0 * X0 + Y0 * Y0) * (X1 * Y2 + -(Y1 * X2)))) l) := ⟨p6, hG6, hM6⟩
          clear hS hG4 hG5 hG6 hM4 hM5 hM6
          go_wp2
          first
          | exact ⟨⟨Or.inr (Or.inl ⟨by go_num, _, _, _, rfl, HG⟩), HE⟩, by simp [intOf]⟩
          | (refine ⟨?_, by simp [intOf]⟩; (repeat apply Exists.intro); exact ⟨⟨Or.inr (Or.inl ⟨by go_num, _, _, _, rfl, HG⟩), HE⟩, rfl⟩)
        · exact ⟨_, _, 0, 0, rfl, hS, fun h => by omega, fun h => Bool.noConfusion h, fun h => by omega⟩
      · obtain ⟨ls, hFs, hNs⟩ := hsum.out
        have HNs : Hid (NL 674 1481 (0 + ((X0 * X0 + Y0 * Y0) * (X1 * Y2 + -(Y1 * X2)))) ls) := hNs
        obtain ⟨W1, hW1⟩ : ∃ W1, W1 = (wr.alloc (.cells #[.slice a3 n3 c3, .slice a4 n4 c4, .slice a5 n5 c5] 63)) := ⟨_, rfl⟩
        have hb1 : Below wr.heap.size wr W1 := by rw [hW1]; exact (Below.refl _ wr).alloc (Nat.le_refl _) _
        have hF1 := hB.out.later hb1
        have hFs1 := hFs.later hb1
        have hq : W1.cell? ⟨wr.heap.size, 2, none⟩ = some (.slice a5 n5 c5) := by rw [hW1]; go_simp
        have HLb : Hid (b < wr.heap.size ∧ w.heap.size + 1 + 1 + 1 + 1 + 1 + 1 < wr.heap.size) := ⟨hB.out.rows.lt, World.block_lt_of_cell? _ _ hB.out.cw.fm⟩
        obtain ⟨g0, g1, g2, g3, g4, g5, g6, g7, g8⟩ := hB.out.rows.cells9
        go_wp2_with fail
        rw [← hW1]
        clear hW1 hb1 hsum hFs hNs g0 g1 g2 g3 g4 g5 g6 g7 g8
        refine wp_region_held_drew (S := (fun W => W.cell? ⟨b, 0, none⟩ = some (.slice a0 n0 c0) ∧ W.cell? ⟨b, 1, none⟩ = some (.slice a1 n1 c1) ∧ W.cell? ⟨b, 2, none⟩ = some (.slice a2 n2 c2) ∧ W.cell? ⟨b, 3, none⟩ = some (.slice a3 n3 c3) ∧ W.cell? ⟨b, 4, none⟩ = some (.slice a4 n4 c4) ∧ W.cell? ⟨b, 5, none⟩ = some (.slice a5 n5 c5) ∧ W.cell? ⟨b, 6, none⟩ = some (.slice a6 n6 c6) ∧ W.cell? ⟨b, 7, none⟩ = some (.slice a7 n7 c7) ∧ W.cell? ⟨b, 8, none⟩ = some (.slice a8 n8 c8) ∧ W.cell? ⟨wr.heap.size, 2, none⟩ = some (.slice a5 n5 c5) ∧ (LW w W ax ay bx by' cx cy dx dy b (.slice a0 n0 c0) (.slice a1 n1 c1) (.slice a2 n2 c2) (.slice a3 n3 c3) (.slice a4 n4 c4) (.slice a5 n5 c5) (.slice a6 n6 c6) (.slice a7 n7 c7) (.slice a8 n8 c8) l0 l1 l2 l3 l4 l5 l6 l7 l8) ∧ Fs W (.slice a n c) ls)) (by kernel_rfl) ⟨hF1.rows.cells9.1, hF1.rows.cells9.2.1, hF1.rows.cells9.2.2.1, hF1.rows.cells9.2.2.2.1, hF1.rows.cells9.2.2.2.2.1, hF1.rows.cells9.2.2.2.2.2.1, hF1.rows.cells9.2.2.2.2.2.2.1, hF1.rows.cells9.2.2.2.2.2.2.2.1, hF1.rows.cells9.2.2.2.2.2.2.2.2, hq, hF1.drew, hFs1.drew⟩ (fun hS => ?_)
        refine take_at (i := 0) (d := some 38) (v := .int .i64 1) (by kernel_rfl) (by kernel_rfl) (by kernel_rfl) (by kernel_rfl) (fun _ _ _ h => h) ?_ hS ?_
        · intro o ho
          simp only [List.getElem?_toArray, List.getElem?_cons_zero, Option.some.injEq] at ho
          subst ho
          refine Or.inl ⟨by rfl, ?_⟩
          intro w hSw
          (try dsimp only at hSw)
          go_simp
        simp only [Act.put, List.setIfInBounds_toArray, List.set_cons_zero, List.set_cons_succ]
        refine take_at (i := 1) (d := some 39) (v := .int .i64 2) (by kernel_rfl) (by kernel_rfl) (by kernel_rfl) (by kernel_rfl) (fun _ _ _ h => h) ?_ hS ?_
        · intro o ho
          simp only [List.getElem?_toArray, List.getElem?_cons_succ, List.getElem?_cons_zero, Option.some.injEq] at ho
          subst ho
          refine Or.inl ⟨by rfl, ?_⟩
          intro w hSw
          (try dsimp only at hSw)
          go_simp
        simp only [Act.put, List.setIfInBounds_toArray, List.set_cons_zero, List.set_cons_succ]
        refine take_at (i := 2) (d := some 40) (v := .int .i64 2) (by kernel_rfl) (by kernel_rfl) (by kernel_rfl) (by kernel_rfl) (fun _ _ _ h => h) ?_ hS ?_
        · intro o ho
          simp only [List.getElem?_toArray, List.getElem?_cons_succ, List.getElem?_cons_zero, Option.some.injEq] at ho
          subst ho
          refine Or.inl ⟨by rfl, ?_⟩
          intro w hSw
          (try dsimp only at hSw)
          go_simp
        simp only [Act.put, List.setIfInBounds_toArray, List.set_cons_zero, List.set_cons_succ]
        refine take_at (i := 3) (d := some 41) (v := .pointer (some ⟨b, 6, none⟩)) (by kernel_rfl) (by kernel_rfl) (by kernel_rfl) (by kernel_rfl) (fun _ _ _ h => h) ?_ hS ?_
        · intro o ho
          simp only [List.getElem?_toArray, List.getElem?_cons_succ, List.getElem?_cons_zero, Option.some.injEq] at ho
          subst ho
          refine Or.inl ⟨by rfl, ?_⟩
          intro w hSw
          (try dsimp only at hSw)
          go_simp
        simp only [Act.put, List.setIfInBounds_toArray, List.set_cons_zero, List.set_cons_succ]
        refine take_at (i := 4) (d := some 42) (v := .agg #[.slice a6 n6 c6, .slice a7 n7 c7, .slice a8 n8 c8]) (by kernel_rfl) (by kernel_rfl) (by kernel_rfl) (by kernel_rfl) (fun _ _ _ h => h) ?_ hS ?_
        · intro o ho
          simp only [List.getElem?_toArray, List.getElem?_cons_succ, List.getElem?_cons_zero, Option.some.injEq] at ho
          subst ho
          refine Or.inl ⟨by rfl, ?_⟩
          intro w hSw
          (try dsimp only at hSw)
          go_simp
        simp only [Act.put, List.setIfInBounds_toArray, List.set_cons_zero, List.set_cons_succ]
        refine take_at (i := 5) (d := some 43) (v := .int .i64 1) (by kernel_rfl) (by kernel_rfl) (by kernel_rfl) (by kernel_rfl) (fun _ _ _ h => h) ?_ hS ?_
        · intro o ho
          simp only [List.getElem?_toArray, List.getElem?_cons_succ, List.getElem?_cons_zero, Option.some.injEq] at ho
          subst ho
          refine Or.inl ⟨by rfl, ?_⟩
          intro w hSw
          (try dsimp only at hSw)
          go_simp
        simp only [Act.put, List.setIfInBounds_toArray, List.set_cons_zero, List.set_cons_succ]
        refine take_at (i := 6) (d := some 44) (v := .int .i64 3) (by kernel_rfl) (by kernel_rfl) (by kernel_rfl) (by kernel_rfl) (fun _ _ _ h => h) ?_ hS ?_
        · intro o ho
          simp only [List.getElem?_toArray, List.getElem?_cons_succ, List.getElem?_cons_zero, Option.some.injEq] at ho
          subst ho
          refine Or.inl ⟨by rfl, ?_⟩
          intro w hSw
          (try dsimp only at hSw)
          go_simp
        simp only [Act.put, List.setIfInBounds_toArray, List.set_cons_zero, List.set_cons_succ]
        refine take_at (i := 7) (d := some 45) (v := .int .i64 0) (by kernel_rfl) (by kernel_rfl) (by kernel_rfl) (by kernel_rfl) (fun _ _ _ h => h) ?_ hS ?_
        · intro o ho
          simp only [List.getElem?_toArray, List.getElem?_cons_succ, List.getElem?_cons_zero, Option.some.injEq] at ho
          subst ho
          refine Or.inl ⟨by rfl, ?_⟩
          intro w hSw
          (try dsimp only at hSw)
          go_simp
        simp only [Act.put, List.setIfInBounds_toArray, List.set_cons_zero, List.set_cons_succ]
        refine take_at (i := 8) (d := some 46) (v := .pointer (some ⟨b, 0, none⟩)) (by kernel_rfl) (by kernel_rfl) (by kernel_rfl) (by kernel_rfl) (fun _ _ _ h => h) ?_ hS ?_
        · intro o ho
          simp only [List.getElem?_toArray, List.getElem?_cons_succ, List.getElem?_cons_zero, Option.some.injEq] at ho
          subst ho
          refine Or.inl ⟨by rfl, ?_⟩
          intro w hSw
          (try dsimp only at hSw)
          go_simp
        simp only [Act.put, List.setIfInBounds_toArray, List.set_cons_zero, List.set_cons_succ]
        refine take_at (i := 9) (d := some 47) (v := .agg #[.slice a0 n0 c0, .slice a1 n1 c1, .slice a2 n2 c2]) (by kernel_rfl) (by kernel_rfl) (by kernel_rfl) (by kernel_rfl) (fun _ _ _ h => h) ?_ hS ?_
        · intro o ho
          simp only [List.getElem?_toArray, List.getElem?_cons_succ, List.getElem?_cons_zero, Option.some.injEq] at ho
          subst ho
          refine Or.inl ⟨by rfl, ?_⟩
          intro w hSw
          (try dsimp only at hSw)
          go_simp
        simp only [Act.put, List.setIfInBounds_toArray, List.set_cons_zero, List.set_cons_succ]
        clear hq hF1 hFs1
        refine draw1 (f := 2) (n := 1) (al := 11) (fun _ => 10) (fun (x : Bool) (k : Nat) => #[true, true, true, true, true, true, true, true, true, true, decide (1 ≤ k), x, false, false]) (fun (x : Bool) (k : Nat) (aa : Act) (W : World) => ∃ (v17 v18 : Value) (b1 b2 : Nat), aa = { tmps := #[.agg #[.float .f64 ax, .float .f64 ay], .agg #[.float .f64 bx, .float .f64 by'], .agg #[.float .f64 cx, .float .f64 cy], .agg #[.float .f64 dx, .float .f64 dy], .pointer (some ⟨w.heap.size, 0, none⟩), .pointer (some ⟨w.heap.size + 1, 0, none⟩), .pointer (some ⟨w.heap.size + 1 + 1, 0, none⟩), .pointer (some ⟨w.heap.size + 1 + 1 + 1, 0, none⟩), .int .i64 0, .pointer (some ⟨w.heap.size + 1 + 1 + 1 + 1, 0, none⟩), .pointer (some ⟨w.heap.size + 1 + 1 + 1 + 1 + 1, 0, none⟩), .pointer (some ⟨w.heap.size + 1 + 1 + 1 + 1 + 1 + 1, 0, none⟩), .func (Fn.func 44) #[] #[.pointer (some ⟨w.heap.size + 1 + 1 + 1, 0, none⟩), .pointer (some ⟨w.heap.size + 1 + 1 + 1 + 1 + 1, 0, none⟩), .pointer (some ⟨w.heap.size + 1 + 1 + 1 + 1 + 1 + 1, 0, none⟩)], .pointer (some ⟨b, 0, none⟩), .slice a n c, .int .i64 1, .pointer (some ⟨wr.heap.size, 0, none⟩), v17, v18, u19, .func (Fn.func 40) #[] #[.pointer (some ⟨w.heap.size + 1 + 1 + 1 + 1, 0, none⟩)], .func (Fn.func 42) #[] #[.pointer (some ⟨w.heap.size + 1 + 1 + 1 + 1, 0, none⟩)], .func (Fn.func 44) #[] #[.pointer (some ⟨w.heap.size + 1 + 1 + 1, 0, none⟩), .pointer (some ⟨w.heap.size + 1 + 1 + 1 + 1 + 1, 0, none⟩), .pointer (some ⟨w.heap.size + 1 + 1 + 1 + 1 + 1 + 1, 0, none⟩)], .func (Fn.func 44) #[] #[.pointer (some ⟨w.heap.size + 1 + 1 + 1, 0, none⟩), .pointer (some ⟨w.heap.size + 1 + 1 + 1 + 1 + 1, 0, none⟩), .pointer (some ⟨w.heap.size + 1 + 1 + 1 + 1 + 1 + 1, 0, none⟩)], .agg #[.float .f64 ax, .float .f64 ay], d1, .func (Fn.func 44) #[] #[.pointer (some ⟨w.heap.size + 1 + 1 + 1, 0, none⟩), .pointer (some ⟨w.heap.size + 1 + 1 + 1 + 1 + 1, 0, none⟩), .pointer (some ⟨w.heap.size + 1 + 1 + 1 + 1 + 1 + 1, 0, none⟩)], .agg #[.float .f64 bx, .float .f64 by'], d2, .func (Fn.func 44) #[] #[.pointer (some ⟨w.heap.size + 1 + 1 + 1, 0, none⟩), .pointer (some ⟨w.heap.size + 1 + 1 + 1 + 1 + 1, 0, none⟩), .pointer (some ⟨w.heap.size + 1 + 1 + 1 + 1 + 1 + 1, 0, none⟩)], .agg #[.float .f64 cx, .float .f64 cy], d3, .agg #[.slice a0 n0 c0, .slice a1 n1 c1, .slice a2 n2 c2, .slice a3 n3 c3, .slice a4 n4 c4, .slice a5 n5 c5, .slice a6 n6 c6, .slice a7 n7 c7, .slice a8 n8 c8], .agg #[.slice a0 n0 c0, .slice a1 n1 c1, .slice a2 n2 c2, .slice a3 n3 c3, .slice a4 n4 c4, .slice a5 n5 c5, .slice a6 n6 c6, .slice a7 n7 c7, .slice a8 n8 c8], .int .i64 1, .bool true, .int .i64 1, .agg #[.slice a3 n3 c3, .slice a4 n4 c4, .slice a5 n5 c5], .int .i64 1, .int .i64 2, .int .i64 2, .pointer (some ⟨b, 6, none⟩), .agg #[.slice a6 n6 c6, .slice a7 n7 c7, .slice a8 n8 c8], .int .i64 1, .int .i64 3, .int .i64 0, .pointer (some ⟨b, 0, none⟩), .agg #[.slice a0 n0 c0, .slice a1 n1 c1, .slice a2 n2 c2], u48, u49, u50, u51, u52, u53, u54, u55, u56, u57, u58, u59, u60, u61, u62, u63, u64, u65, u66, u67, u68, u69, u70, u71, undef, undef, undef, undef], defers := [] } ∧ (W.cell? ⟨b, 0, none⟩ = some (.slice a0 n0 c0) ∧ W.cell? ⟨b, 1, none⟩ = some (.slice a1 n1 c1) ∧ W.cell? ⟨b, 2, none⟩ = some (.slice a2 n2 c2) ∧ W.cell? ⟨b, 3, none⟩ = some (.slice a3 n3 c3) ∧ W.cell? ⟨b, 4, none⟩ = some (.slice a4 n4 c4) ∧ W.cell? ⟨b, 5, none⟩ = some (.slice a5 n5 c5) ∧ W.cell? ⟨b, 6, none⟩ = some (.slice a6 n6 c6) ∧ W.cell? ⟨b, 7, none⟩ = some (.slice a7 n7 c7) ∧ W.cell? ⟨b, 8, none⟩ = some (.slice a8 n8 c8) ∧ W.cell? ⟨wr.heap.size, 2, none⟩ = some (.slice a5 n5 c5) ∧ (LW w W ax ay bx by' cx cy dx dy b (.slice a0 n0 c0) (.slice a1 n1 c1) (.slice a2 n2 c2) (.slice a3 n3 c3) (.slice a4 n4 c4) (.slice a5 n5 c5) (.slice a6 n6 c6) (.slice a7 n7 c7) (.slice a8 n8 c8) l0 l1 l2 l3 l4 l5 l6 l7 l8) ∧ Fs W (.slice a n c) ls) ∧ (1 ≤ k → v17 = .pointer (some ⟨b1, 0, none⟩) ∧ CB W b1 #[.slice none 0 0, .slice none 0 0, .slice none 0 0] 63 ∧ wr.heap.size < b1) ∧ (x = true → v18 = .pointer (some ⟨b2, 0, none⟩) ∧ CB W b2 #[.slice none 0 0, .slice none 0 0, .slice none 0 0] 63 ∧ wr.heap.size < b2) ∧ (1 ≤ k → x = true → b1 ≠ b2)) ?_ ?_ ?_ ?_ ?_ ?_ 2 false 0 _ _ (by omega) (by decide) ?_
        · intro x k hk hx
          have h5 : k = 0 ∨ k = 1 := by omega
          rcases h5 with rfl | rfl <;> cases x <;> first | exact absurd (hx rfl) (by decide) | (show _ = _; kernel_rfl)
        · intro x k hk
          obtain rfl : k = 0 := by omega
          cases x <;> rfl
        · intro k hk
          have h5 : k = 0 ∨ k = 1 := by omega
          rcases h5 with rfl | rfl <;> rfl
        · intro x k hk
          obtain rfl : k = 0 := by omega
          refine ⟨_, rfl, ?_⟩
          intro aa W hI K' hK
          obtain ⟨v17, v18, b1, b2, rfl, hS, h1, h2, h12⟩ := hI
          have hb : Below W.heap.size W (W.alloc (.cells #[.slice none 0 0, .slice none 0 0, .slice none 0 0] 63)) := (Below.refl _ W).alloc (Nat.le_refl _) _
          have hlt2 : wr.heap.size < W.heap.size := World.block_lt_of_cell? _ _ hS.2.2.2.2.2.2.2.2.2.1
          have hS2 : (W.alloc (.cells #[.slice none 0 0, .slice none 0 0, .slice none 0 0] 63)).cell? ⟨b, 0, none⟩ = some (.slice a0 n0 c0) ∧ (W.alloc (.cells #[.slice none 0 0, .slice none 0 0, .slice none 0 0] 63)).cell? ⟨b, 1, none⟩ = some (.slice a1 n1 c1) ∧ (W.alloc (.cells #[.slice none 0 0, .slice none 0 0, .slice none 0 0] 63)).cell? ⟨b, 2, none⟩ = some (.slice a2 n2 c2) ∧ (W.alloc (.cells #[.slice none 0 0, .slice none 0 0, .slice none 0 0] 63)).cell? ⟨b, 3, none⟩ = some (.slice a3 n3 c3) ∧ (W.alloc (.cells #[.slice none 0 0, .slice none 0 0, .slice none 0 0] 63)).cell? ⟨b, 4, none⟩ = some (.slice a4 n4 c4) ∧ (W.alloc (.cells #[.slice none 0 0, .slice none 0 0, .slice none 0 0] 63)).cell? ⟨b, 5, none⟩ = some (.slice a5 n5 c5) ∧ (W.alloc (.cells #[.slice none 0 0, .slice none 0 0, .slice none 0 0] 63)).cell? ⟨b, 6, none⟩ = some (.slice a6 n6 c6) ∧ (W.alloc (.cells #[.slice none 0 0, .slice none 0 0, .slice none 0 0] 63)).cell? ⟨b, 7, none⟩ = some (.slice a7 n7 c7) ∧ (W.alloc (.cells #[.slice none 0 0, .slice none 0 0, .slice none 0 0] 63)).cell? ⟨b, 8, none⟩ = some (.slice a8 n8 c8) ∧ (W.alloc (.cells #[.slice none 0 0, .slice none 0 0, .slice none 0 0] 63)).cell? ⟨wr.heap.size, 2, none⟩ = some (.slice a5 n5 c5) ∧ (LW w (W.alloc (.cells #[.slice none 0 0, .slice none 0 0, .slice none 0 0] 63)) ax ay bx by' cx cy dx dy b (.slice a0 n0 c0) (.slice a1 n1 c1) (.slice a2 n2 c2) (.slice a3 n3 c3) (.slice a4 n4 c4) (.slice a5 n5 c5) (.slice a6 n6 c6) (.slice a7 n7 c7) (.slice a8 n8 c8) l0 l1 l2 l3 l4 l5 l6 l7 l8) ∧ Fs (W.alloc (.cells #[.slice none 0 0, .slice none 0 0, .slice none 0 0] 63)) (.slice a n c) ls := ⟨box_cell hb hS.1, box_cell hb hS.2.1, box_cell hb hS.2.2.1, box_cell hb hS.2.2.2.1, box_cell hb hS.2.2.2.2.1, box_cell hb hS.2.2.2.2.2.1, box_cell hb hS.2.2.2.2.2.2.1, box_cell hb hS.2.2.2.2.2.2.2.1, box_cell hb hS.2.2.2.2.2.2.2.2.1, box_cell hb hS.2.2.2.2.2.2.2.2.2.1, hS.2.2.2.2.2.2.2.2.2.2.1.later hb, hS.2.2.2.2.2.2.2.2.2.2.2.later hb⟩
          go_simp
          go_wp2_with fail
          exact hK.out _ _ hS2 ⟨_, v18, W.heap.size, b2, rfl, hS2, fun _ => ⟨rfl, CB.new W _ _, hlt2⟩, fun h => ⟨(h2 h).1, (h2 h).2.1.later hb, (h2 h).2.2⟩, fun _ h => Nat.ne_of_gt (h2 h).2.1.lt⟩
        · intro k hk
          refine ⟨_, rfl, ?_⟩
          intro aa W hI K' hK
          obtain ⟨v17, v18, b1, b2, rfl, hS, h1, h2, h12⟩ := hI
          have hb : Below W.heap.size W (W.alloc (.cells #[.slice none 0 0, .slice none 0 0, .slice none 0 0] 63)) := (Below.refl _ W).alloc (Nat.le_refl _) _
          have hlt2 : wr.heap.size < W.heap.size := World.block_lt_of_cell? _ _ hS.2.2.2.2.2.2.2.2.2.1
          have hS2 : (W.alloc (.cells #[.slice none 0 0, .slice none 0 0, .slice none 0 0] 63)).cell? ⟨b, 0, none⟩ = some (.slice a0 n0 c0) ∧ (W.alloc (.cells #[.slice none 0 0, .slice none 0 0, .slice none 0 0] 63)).cell? ⟨b, 1, none⟩ = some (.slice a1 n1 c1) ∧ (W.alloc (.cells #[.slice none 0 0, .slice none 0 0, .slice none 0 0] 63)).cell? ⟨b, 2, none⟩ = some (.slice a2 n2 c2) ∧ (W.alloc (.cells #[.slice none 0 0, .slice none 0 0, .slice none 0 0] 63)).cell? ⟨b, 3, none⟩ = some (.slice a3 n3 c3) ∧ (W.alloc (.cells #[.slice none 0 0, .slice none 0 0, .slice none 0 0] 63)).cell? ⟨b, 4, none⟩ = some (.slice a4 n4 c4) ∧ (W.alloc (.cells #[.slice none 0 0, .slice none 0 0, .slice none 0 0] 63)).cell? ⟨b, 5, none⟩ = some (.slice a5 n5 c5) ∧ (W.alloc (.cells #[.slice none 0 0, .slice none 0 0, .slice none 0 0] 63)).cell? ⟨b, 6, none⟩ = some (.slice a6 n6 c6) ∧ (W.alloc (.cells #[.slice none 0 0, .slice none 0 0, .slice none 0 0] 63)).cell? ⟨b, 7, none⟩ = some (.slice a7 n7 c7) ∧ (W.alloc (.cells #[.slice none 0 0, .slice none 0 0, .slice none 0 0] 63)).cell? ⟨b, 8, none⟩ = some (.slice a8 n8 c8) ∧ (W.alloc (.cells #[.slice none 0 0, .slice none 0 0, .slice none 0 0] 63)).cell? ⟨wr.heap.size, 2, none⟩ = some (.slice a5 n5 c5) ∧ (LW w (W.alloc (.cells #[.slice none 0 0, .slice none 0 0, .slice none 0 0] 63)) ax ay bx by' cx cy dx dy b (.slice a0 n0 c0) (.slice a1 n1 c1) (.slice a2 n2 c2) (.slice a3 n3 c3) (.slice a4 n4 c4) (.slice a5 n5 c5) (.slice a6 n6 c6) (.slice a7 n7 c7) (.slice a8 n8 c8) l0 l1 l2 l3 l4 l5 l6 l7 l8) ∧ Fs (W.alloc (.cells #[.slice none 0 0, .slice none 0 0, .slice none 0 0] 63)) (.slice a n c) ls := ⟨box_cell hb hS.1, box_cell hb hS.2.1, box_cell hb hS.2.2.1, box_cell hb hS.2.2.2.1, box_cell hb hS.2.2.2.2.1, box_cell hb hS.2.2.2.2.2.1, box_cell hb hS.2.2.2.2.2.2.1, box_cell hb hS.2.2.2.2.2.2.2.1, box_cell hb hS.2.2.2.2.2.2.2.2.1, box_cell hb hS.2.2.2.2.2.2.2.2.2.1, hS.2.2.2.2.2.2.2.2.2.2.1.later hb, hS.2.2.2.2.2.2.2.2.2.2.2.later hb⟩
          go_simp
          go_wp2_with fail
          exact hK.out _ _ hS2 ⟨v17, _, b1, W.heap.size, rfl, hS2, fun h => ⟨(h1 h).1, (h1 h).2.1.later hb, (h1 h).2.2⟩, fun _ => ⟨rfl, CB.new W _ _, hlt2⟩, fun h _ => Nat.ne_of_lt (h1 h).2.1.lt⟩
        · intro aa W hI
          obtain ⟨v17, v18, b1, b2, rfl, hS, h1, h2, h12⟩ := hI
          obtain ⟨rfl, hc1, l1'⟩ := h1 (by omega)
          obtain ⟨rfl, hc2, l2'⟩ := h2 rfl
          have hne := h12 (by omega) rfl
          clear h1 h2 h12
          have hm := moved3 W b1 (.slice a6 n6 c6) (.slice a7 n7 c7) (.slice a8 n8 c8)
          have hn := hc1.nofloat (by simp)
          have hLW := LW.moved hS.2.2.2.2.2.2.2.2.2.2.1 hm hn (by have := HLb.out; omega) (by have := HLb.out; omega)
          have hFS := fs_moved hS.2.2.2.2.2.2.2.2.2.2.2 hm hn
          have hq2 := hm.cell _ _ _ (by omega) hS.2.2.2.2.2.2.2.2.2.1
          have hS2 : (((W.setCell ⟨b1, 0, none⟩ (.slice a6 n6 c6)).setCell ⟨b1, 1, none⟩ (.slice a7 n7 c7)).setCell ⟨b1, 2, none⟩ (.slice a8 n8 c8)).cell? ⟨b, 0, none⟩ = some (.slice a0 n0 c0) ∧ (((W.setCell ⟨b1, 0, none⟩ (.slice a6 n6 c6)).setCell ⟨b1, 1, none⟩ (.slice a7 n7 c7)).setCell ⟨b1, 2, none⟩ (.slice a8 n8 c8)).cell? ⟨b, 1, none⟩ = some (.slice a1 n1 c1) ∧ (((W.setCell ⟨b1, 0, none⟩ (.slice a6 n6 c6)).setCell ⟨b1, 1, none⟩ (.slice a7 n7 c7)).setCell ⟨b1, 2, none⟩ (.slice a8 n8 c8)).cell? ⟨b, 2, none⟩ = some (.slice a2 n2 c2) ∧ (((W.setCell ⟨b1, 0, none⟩ (.slice a6 n6 c6)).setCell ⟨b1, 1, none⟩ (.slice a7 n7 c7)).setCell ⟨b1, 2, none⟩ (.slice a8 n8 c8)).cell? ⟨b, 3, none⟩ = some (.slice a3 n3 c3) ∧ (((W.setCell ⟨b1, 0, none⟩ (.slice a6 n6 c6)).setCell ⟨b1, 1, none⟩ (.slice a7 n7 c7)).setCell ⟨b1, 2, none⟩ (.slice a8 n8 c8)).cell? ⟨b, 4, none⟩ = some (.slice a4 n4 c4) ∧ (((W.setCell ⟨b1, 0, none⟩ (.slice a6 n6 c6)).setCell ⟨b1, 1, none⟩ (.slice a7 n7 c7)).setCell ⟨b1, 2, none⟩ (.slice a8 n8 c8)).cell? ⟨b, 5, none⟩ = some (.slice a5 n5 c5) ∧ (((W.setCell ⟨b1, 0, none⟩ (.slice a6 n6 c6)).setCell ⟨b1, 1, none⟩ (.slice a7 n7 c7)).setCell ⟨b1, 2, none⟩ (.slice a8 n8 c8)).cell? ⟨b, 6, none⟩ = some (.slice a6 n6 c6) ∧ (((W.setCell ⟨b1, 0, none⟩ (.slice a6 n6 c6)).setCell ⟨b1, 1, none⟩ (.slice a7 n7 c7)).setCell ⟨b1, 2, none⟩ (.slice a8 n8 c8)).cell? ⟨b, 7, none⟩ = some (.slice a7 n7 c7) ∧ (((W.setCell ⟨b1, 0, none⟩ (.slice a6 n6 c6)).setCell ⟨b1, 1, none⟩ (.slice a7 n7 c7)).setCell ⟨b1, 2, none⟩ (.slice a8 n8 c8)).cell? ⟨b, 8, none⟩ = some (.slice a8 n8 c8) ∧ (((W.setCell ⟨b1, 0, none⟩ (.slice a6 n6 c6)).setCell ⟨b1, 1, none⟩ (.slice a7 n7 c7)).setCell ⟨b1, 2, none⟩ (.slice a8 n8 c8)).cell? ⟨wr.heap.size, 2, none⟩ = some (.slice a5 n5 c5) ∧ (LW w (((W.setCell ⟨b1, 0, none⟩ (.slice a6 n6 c6)).setCell ⟨b1, 1, none⟩ (.slice a7 n7 c7)).setCell ⟨b1, 2, none⟩ (.slice a8 n8 c8)) ax ay bx by' cx cy dx dy b (.slice a0 n0 c0) (.slice a1 n1 c1) (.slice a2 n2 c2) (.slice a3 n3 c3) (.slice a4 n4 c4) (.slice a5 n5 c5) (.slice a6 n6 c6) (.slice a7 n7 c7) (.slice a8 n8 c8) l0 l1 l2 l3 l4 l5 l6 l7 l8) ∧ Fs (((W.setCell ⟨b1, 0, none⟩ (.slice a6 n6 c6)).setCell ⟨b1, 1, none⟩ (.slice a7 n7 c7)).setCell ⟨b1, 2, none⟩ (.slice a8 n8 c8)) (.slice a n c) ls := ⟨hLW.rows.cells9.1, hLW.rows.cells9.2.1, hLW.rows.cells9.2.2.1, hLW.rows.cells9.2.2.2.1, hLW.rows.cells9.2.2.2.2.1, hLW.rows.cells9.2.2.2.2.2.1, hLW.rows.cells9.2.2.2.2.2.2.1, hLW.rows.cells9.2.2.2.2.2.2.2.1, hLW.rows.cells9.2.2.2.2.2.2.2.2, hq2, hLW, hFS⟩
          have f0 := hc1.frozen 0
          have f1 := hc1.frozen 1
          have f2 := hc1.frozen 2
          obtain ⟨g0, g1, g2⟩ := hc1.cells3
          have hc1' := hc1.set3 (.slice a6 n6 c6) (.slice a7 n7 c7) (.slice a8 n8 c8)
          have hc2' := hm.box _ _ _ hne.symm hc2
          refine call_at 12 (by kernel_rfl) (by kernel_rfl) ?_
          intro o ho
          simp only [List.getElem?_toArray, List.getElem?_cons_succ, List.getElem?_cons_zero, Option.some.injEq] at ho
          subst ho
          intro KF hK
          go_simp
          go_wp2_with fail
          refine hK.out _ _ hS2 ?_
          clear hS
          intro hS
          clear hK KF f0 f1 f2 g0 g1 g2 hm hn hS2 hLW hFS hq2
          try simp only [List.setIfInBounds_toArray, List.set_cons_zero, List.set_cons_succ]
          generalize (((W.setCell ⟨b1, 0, none⟩ (.slice a6 n6 c6)).setCell ⟨b1, 1, none⟩ (.slice a7 n7 c7)).setCell ⟨b1, 2, none⟩ (.slice a8 n8 c8)) = W2 at *
          have hm := moved3 W2 b2 (.slice a0 n0 c0) (.slice a1 n1 c1) (.slice a2 n2 c2)
          have hn := hc2'.nofloat (by simp)
          have hLW := LW.moved hS.2.2.2.2.2.2.2.2.2.2.1 hm hn (by have := HLb.out; omega) (by have := HLb.out; omega)
          have hFS := fs_moved hS.2.2.2.2.2.2.2.2.2.2.2 hm hn
          have hq2 := hm.cell _ _ _ (by omega) hS.2.2.2.2.2.2.2.2.2.1
          have hS2 : (((W2.setCell ⟨b2, 0, none⟩ (.slice a0 n0 c0)).setCell ⟨b2, 1, none⟩ (.slice a1 n1 c1)).setCell ⟨b2, 2, none⟩ (.slice a2 n2 c2)).cell? ⟨b, 0, none⟩ = some (.slice a0 n0 c0) ∧ (((W2.setCell ⟨b2, 0, none⟩ (.slice a0 n0 c0)).setCell ⟨b2, 1, none⟩ (.slice a1 n1 c1)).setCell ⟨b2, 2, none⟩ (.slice a2 n2 c2)).cell? ⟨b, 1, none⟩ = some (.slice a1 n1 c1) ∧ (((W2.setCell ⟨b2, 0, none⟩ (.slice a0 n0 c0)).setCell ⟨b2, 1, none⟩ (.slice a1 n1 c1)).setCell ⟨b2, 2, none⟩ (.slice a2 n2 c2)).cell? ⟨b, 2, none⟩ = some (.slice a2 n2 c2) ∧ (((W2.setCell ⟨b2, 0, none⟩ (.slice a0 n0 c0)).setCell ⟨b2, 1, none⟩ (.slice a1 n1 c1)).setCell ⟨b2, 2, none⟩ (.slice a2 n2 c2)).cell? ⟨b, 3, none⟩ = some (.slice a3 n3 c3) ∧ (((W2.setCell ⟨b2, 0, none⟩ (.slice a0 n0 c0)).setCell ⟨b2, 1, none⟩ (.slice a1 n1 c1)).setCell ⟨b2, 2, none⟩ (.slice a2 n2 c2)).cell? ⟨b, 4, none⟩ = some (.slice a4 n4 c4) ∧ (((W2.setCell ⟨b2, 0, none⟩ (.slice a0 n0 c0)).setCell ⟨b2, 1, none⟩ (.slice a1 n1 c1)).setCell ⟨b2, 2, none⟩ (.slice a2 n2 c2)).cell? ⟨b, 5, none⟩ = some (.slice a5 n5 c5) ∧ (((W2.setCell ⟨b2, 0, none⟩ (.slice a0 n0 c0)).setCell ⟨b2, 1, none⟩ (.slice a1 n1 c1)).setCell ⟨b2, 2, none⟩ (.slice a2 n2 c2)).cell? ⟨b, 6, none⟩ = some (.slice a6 n6 c6) ∧ (((W2.setCell ⟨b2, 0, none⟩ (.slice a0 n0 c0)).setCell ⟨b2, 1, none⟩ (.slice a1 n1 c1)).setCell ⟨b2, 2, none⟩ (.slice a2 n2 c2)).cell? ⟨b, 7, none⟩ = some (.slice a7 n7 c7) ∧ (((W2.setCell ⟨b2, 0, none⟩ (.slice a0 n0 c0)).setCell ⟨b2, 1, none⟩ (.slice a1 n1 c1)).setCell ⟨b2, 2, none⟩ (.slice a2 n2 c2)).cell? ⟨b, 8, none⟩ = some (.slice a8 n8 c8) ∧ (((W2.setCell ⟨b2, 0, none⟩ (.slice a0 n0 c0)).setCell ⟨b2, 1, none⟩ (.slice a1 n1 c1)).setCell ⟨b2, 2, none⟩ (.slice a2 n2 c2)).cell? ⟨wr.heap.size, 2, none⟩ = some (.slice a5 n5 c5) ∧ (LW w (((W2.setCell ⟨b2, 0, none⟩ (.slice a0 n0 c0)).setCell ⟨b2, 1, none⟩ (.slice a1 n1 c1)).setCell ⟨b2, 2, none⟩ (.slice a2 n2 c2)) ax ay bx by' cx cy dx dy b (.slice a0 n0 c0) (.slice a1 n1 c1) (.slice a2 n2 c2) (.slice a3 n3 c3) (.slice a4 n4 c4) (.slice a5 n5 c5) (.slice a6 n6 c6) (.slice a7 n7 c7) (.slice a8 n8 c8) l0 l1 l2 l3 l4 l5 l6 l7 l8) ∧ Fs (((W2.setCell ⟨b2, 0, none⟩ (.slice a0 n0 c0)).setCell ⟨b2, 1, none⟩ (.slice a1 n1 c1)).setCell ⟨b2, 2, none⟩ (.slice a2 n2 c2)) (.slice a n c) ls := ⟨hLW.rows.cells9.1, hLW.rows.cells9.2.1, hLW.rows.cells9.2.2.1, hLW.rows.cells9.2.2.2.1, hLW.rows.cells9.2.2.2.2.1, hLW.rows.cells9.2.2.2.2.2.1, hLW.rows.cells9.2.2.2.2.2.2.1, hLW.rows.cells9.2.2.2.2.2.2.2.1, hLW.rows.cells9.2.2.2.2.2.2.2.2, hq2, hLW, hFS⟩
          have f0 := hc2'.frozen 0
          have f1 := hc2'.frozen 1
          have f2 := hc2'.frozen 2
          obtain ⟨g0, g1, g2⟩ := hc2'.cells3
          have hc2'' := hc2'.set3 (.slice a0 n0 c0) (.slice a1 n1 c1) (.slice a2 n2 c2)
          have hc1'' := hm.box _ _ _ hne hc1'
          refine call_at 13 (by kernel_rfl) (by kernel_rfl) ?_
          intro o ho
          simp only [List.getElem?_toArray, List.getElem?_cons_succ, List.getElem?_cons_zero, Option.some.injEq] at ho
          subst ho
          intro KF hK
          go_simp
          go_wp2_with fail
          refine hK.out _ _ hS2 ?_
          clear hS
          intro hS
          clear hK KF f0 f1 f2 g0 g1 g2 hm hn hS2 hLW hFS hq2
          try simp only [List.setIfInBounds_toArray, List.set_cons_zero, List.set_cons_succ]
          generalize (((W2.setCell ⟨b2, 0, none⟩ (.slice a0 n0 c0)).setCell ⟨b2, 1, none⟩ (.slice a1 n1 c1)).setCell ⟨b2, 2, none⟩ (.slice a2 n2 c2)) = W3 at *
          refine wpAnyH_done (by kernel_rfl) ?_ _
          obtain ⟨i0, i1, i2⟩ := hc1''.cells3
          obtain ⟨j0, j1, j2⟩ := hc2''.cells3
          have hq := hS.2.2.2.2.2.2.2.2.2.1
          have hLW := hS.2.2.2.2.2.2.2.2.2.2.1
          have hFS := hS.2.2.2.2.2.2.2.2.2.2.2
          clear hS hc1 hc2 hc1' hc2' hc1'' hc2'' l1' l2' hne
          go_wp2_with fail
          refine wp_region_held_drew (S := (fun W => W.cell? ⟨b1, 0, none⟩ = some (.slice a6 n6 c6) ∧ W.cell? ⟨b1, 1, none⟩ = some (.slice a7 n7 c7) ∧ W.cell? ⟨b1, 2, none⟩ = some (.slice a8 n8 c8) ∧ W.cell? ⟨b2, 0, none⟩ = some (.slice a0 n0 c0) ∧ W.cell? ⟨b2, 1, none⟩ = some (.slice a1 n1 c1) ∧ W.cell? ⟨b2, 2, none⟩ = some (.slice a2 n2 c2) ∧ W.cell? ⟨wr.heap.size, 2, none⟩ = some (.slice a5 n5 c5) ∧ W.cell? ⟨w.heap.size + 1 + 1 + 1 + 1 + 1, 0, none⟩ = some (.func (Fn.func 40) #[] #[.pointer (some ⟨w.heap.size + 1 + 1 + 1 + 1, 0, none⟩)]) ∧ W.cell? ⟨w.heap.size + 1 + 1 + 1 + 1 + 1 + 1, 0, none⟩ = some (.func (Fn.func 42) #[] #[.pointer (some ⟨w.heap.size + 1 + 1 + 1 + 1, 0, none⟩)]) ∧ (LW w W ax ay bx by' cx cy dx dy b (.slice a0 n0 c0) (.slice a1 n1 c1) (.slice a2 n2 c2) (.slice a3 n3 c3) (.slice a4 n4 c4) (.slice a5 n5 c5) (.slice a6 n6 c6) (.slice a7 n7 c7) (.slice a8 n8 c8) l0 l1 l2 l3 l4 l5 l6 l7 l8) ∧ Fs W (.slice a n c) ls)) (by kernel_rfl) ⟨i0, i1, i2, j0, j1, j2, hq, hLW.cw.fa, hLW.cw.fm, hLW.drew, hFS.drew⟩ (fun hS => ?_)
          refine take_at (i := 0) (d := some 48) (v := .func (Fn.func 40) #[] #[.pointer (some ⟨w.heap.size + 1 + 1 + 1 + 1, 0, none⟩)]) (by kernel_rfl) (by kernel_rfl) (by kernel_rfl) (by kernel_rfl) (fun _ _ _ h => h) ?_ hS ?_
          · intro o ho
            simp only [List.getElem?_toArray, List.getElem?_cons_zero, Option.some.injEq] at ho
            subst ho
            refine Or.inl ⟨by rfl, ?_⟩
            intro w hSw
            (try dsimp only at hSw)
            go_simp
          simp only [Act.put, List.setIfInBounds_toArray, List.set_cons_zero, List.set_cons_succ]
          refine take_at (i := 1) (d := some 49) (v := .func (Fn.func 42) #[] #[.pointer (some ⟨w.heap.size + 1 + 1 + 1 + 1, 0, none⟩)]) (by kernel_rfl) (by kernel_rfl) (by kernel_rfl) (by kernel_rfl) (fun _ _ _ h => h) ?_ hS ?_
          · intro o ho
            simp only [List.getElem?_toArray, List.getElem?_cons_succ, List.getElem?_cons_zero, Option.some.injEq] at ho
            subst ho
            refine Or.inl ⟨by rfl, ?_⟩
            intro w hSw
            (try dsimp only at hSw)
            go_simp
          simp only [Act.put, List.setIfInBounds_toArray, List.set_cons_zero, List.set_cons_succ]
          refine take_at (i := 2) (d := some 50) (v := .pointer (some ⟨b1, 0, none⟩)) (by kernel_rfl) (by kernel_rfl) (by kernel_rfl) (by kernel_rfl) (fun _ _ _ h => h) ?_ hS ?_
          · intro o ho
            simp only [List.getElem?_toArray, List.getElem?_cons_succ, List.getElem?_cons_zero, Option.some.injEq] at ho
            subst ho
            refine Or.inl ⟨by rfl, ?_⟩
            intro w hSw
            (try dsimp only at hSw)
            go_simp
          simp only [Act.put, List.setIfInBounds_toArray, List.set_cons_zero, List.set_cons_succ]
          refine take_at (i := 3) (d := some 51) (v := .slice a6 n6 c6) (by kernel_rfl) (by kernel_rfl) (by kernel_rfl) (by kernel_rfl) (fun _ _ _ h => h) ?_ hS ?_
          · intro o ho
            simp only [List.getElem?_toArray, List.getElem?_cons_succ, List.getElem?_cons_zero, Option.some.injEq] at ho
            subst ho
            refine Or.inl ⟨by rfl, ?_⟩
            intro w hSw
            (try dsimp only at hSw)
            go_simp
          simp only [Act.put, List.setIfInBounds_toArray, List.set_cons_zero, List.set_cons_succ]
          refine take_at (i := 4) (d := some 52) (v := .pointer (some ⟨b2, 1, none⟩)) (by kernel_rfl) (by kernel_rfl) (by kernel_rfl) (by kernel_rfl) (fun _ _ _ h => h) ?_ hS ?_
          · intro o ho
            simp only [List.getElem?_toArray, List.getElem?_cons_succ, List.getElem?_cons_zero, Option.some.injEq] at ho
            subst ho
            refine Or.inl ⟨by rfl, ?_⟩
            intro w hSw
            (try dsimp only at hSw)
            go_simp
          simp only [Act.put, List.setIfInBounds_toArray, List.set_cons_zero, List.set_cons_succ]
          refine take_at (i := 5) (d := some 53) (v := .slice a1 n1 c1) (by kernel_rfl) (by kernel_rfl) (by kernel_rfl) (by kernel_rfl) (fun _ _ _ h => h) ?_ hS ?_
          · intro o ho
            simp only [List.getElem?_toArray, List.getElem?_cons_succ, List.getElem?_cons_zero, Option.some.injEq] at ho
            subst ho
            refine Or.inl ⟨by rfl, ?_⟩
            intro w hSw
            (try dsimp only at hSw)
            go_simp
          simp only [Act.put, List.setIfInBounds_toArray, List.set_cons_zero, List.set_cons_succ]
          refine take_at (i := 7) (d := some 55) (v := .func (Fn.func 42) #[] #[.pointer (some ⟨w.heap.size + 1 + 1 + 1 + 1, 0, none⟩)]) (by kernel_rfl) (by kernel_rfl) (by kernel_rfl) (by kernel_rfl) (fun _ _ _ h => h) ?_ hS ?_
          · intro o ho
            simp only [List.getElem?_toArray, List.getElem?_cons_succ, List.getElem?_cons_zero, Option.some.injEq] at ho
            subst ho
            refine Or.inl ⟨by rfl, ?_⟩
            intro w hSw
            (try dsimp only at hSw)
            go_simp
          simp only [Act.put, List.setIfInBounds_toArray, List.set_cons_zero, List.set_cons_succ]
          refine take_at (i := 8) (d := some 56) (v := .pointer (some ⟨b1, 1, none⟩)) (by kernel_rfl) (by kernel_rfl) (by kernel_rfl) (by kernel_rfl) (fun _ _ _ h => h) ?_ hS ?_
          · intro o ho
            simp only [List.getElem?_toArray, List.getElem?_cons_succ, List.getElem?_cons_zero, Option.some.injEq] at ho
            subst ho
            refine Or.inl ⟨by rfl, ?_⟩
            intro w hSw
            (try dsimp only at hSw)
            go_simp
          simp only [Act.put, List.setIfInBounds_toArray, List.set_cons_zero, List.set_cons_succ]
          refine take_at (i := 9) (d := some 57) (v := .slice a7 n7 c7) (by kernel_rfl) (by kernel_rfl) (by kernel_rfl) (by kernel_rfl) (fun _ _ _ h => h) ?_ hS ?_
          · intro o ho
            simp only [List.getElem?_toArray, List.getElem?_cons_succ, List.getElem?_cons_zero, Option.some.injEq] at ho
            subst ho
            refine Or.inl ⟨by rfl, ?_⟩
            intro w hSw
            (try dsimp only at hSw)
            go_simp
          simp only [Act.put, List.setIfInBounds_toArray, List.set_cons_zero, List.set_cons_succ]
          refine take_at (i := 10) (d := some 58) (v := .pointer (some ⟨b2, 0, none⟩)) (by kernel_rfl) (by kernel_rfl) (by kernel_rfl) (by kernel_rfl) (fun _ _ _ h => h) ?_ hS ?_
          · intro o ho
            simp only [List.getElem?_toArray, List.getElem?_cons_succ, List.getElem?_cons_zero, Option.some.injEq] at ho
            subst ho
            refine Or.inl ⟨by rfl, ?_⟩
            intro w hSw
            (try dsimp only at hSw)
            go_simp
          simp only [Act.put, List.setIfInBounds_toArray, List.set_cons_zero, List.set_cons_succ]
          refine take_at (i := 11) (d := some 59) (v := .slice a0 n0 c0) (by kernel_rfl) (by kernel_rfl) (by kernel_rfl) (by kernel_rfl) (fun _ _ _ h => h) ?_ hS ?_
          · intro o ho
            simp only [List.getElem?_toArray, List.getElem?_cons_succ, List.getElem?_cons_zero, Option.some.injEq] at ho
            subst ho
            refine Or.inl ⟨by rfl, ?_⟩
            intro w hSw
            (try dsimp only at hSw)
            go_simp
          simp only [Act.put, List.setIfInBounds_toArray, List.set_cons_zero, List.set_cons_succ]
          refine call_at 6 (by kernel_rfl) (by kernel_rfl) ?_
          intro o ho
          simp only [List.getElem?_toArray, List.getElem?_cons_succ, List.getElem?_cons_zero, Option.some.injEq] at ho
          subst ho
          intro KF hK
          go_simp
          refine (mulN_any 974 1175 974 1175 874 1276 (w.heap.size + 1 + 1 + 1 + 1) (.slice a6 n6 c6) (.slice a1 n1 c1) X2 Y0 l6 l1 _ hS.2.2.2.2.2.2.2.2.2.1.cw.ok hS.2.2.2.2.2.2.2.2.2.1.f6 hS.2.2.2.2.2.2.2.2.2.1.f1 HN2.out.1 HN0.out.2.1 (by omega) (by omega) (by omega) (by omega)).mono ?_
          rintro e wx ⟨⟨v1, p1, rfl, hG1, hM1⟩, hbx⟩
          go_wp2_with fail
          refine hK.out _ _ ⟨box_cell hbx hS.1, box_cell hbx hS.2.1, box_cell hbx hS.2.2.1, box_cell hbx hS.2.2.2.1, box_cell hbx hS.2.2.2.2.1, box_cell hbx hS.2.2.2.2.2.1, box_cell hbx hS.2.2.2.2.2.2.1, box_cell hbx hS.2.2.2.2.2.2.2.1, box_cell hbx hS.2.2.2.2.2.2.2.2.1, hS.2.2.2.2.2.2.2.2.2.1.later hbx, hS.2.2.2.2.2.2.2.2.2.2.later hbx⟩ ?_
          clear hS hbx
          intro hS
          clear hK KF
          try simp only [Act.put, List.setIfInBounds_toArray, List.set_cons_zero, List.set_cons_succ]
          refine call_at 12 (by kernel_rfl) (by kernel_rfl) ?_
          intro o ho
          simp only [List.getElem?_toArray, List.getElem?_cons_succ, List.getElem?_cons_zero, Option.some.injEq] at ho
          subst ho
          intro KF hK
          go_simp
          refine (mulN_any 974 1175 974 1175 874 1276 (w.heap.size + 1 + 1 + 1 + 1) (.slice a7 n7 c7) (.slice a0 n0 c0) Y2 X0 l7 l0 _ hS.2.2.2.2.2.2.2.2.2.1.cw.ok hS.2.2.2.2.2.2.2.2.2.1.f7 hS.2.2.2.2.2.2.2.2.2.1.f0 HN2.out.2.1 HN0.out.1 (by omega) (by omega) (by omega) (by omega)).mono ?_
          rintro e wx ⟨⟨v2, p2, rfl, hG2, hM2⟩, hbx⟩
          have hG1 := hG1.later hbx
          go_wp2_with fail
          refine hK.out _ _ ⟨box_cell hbx hS.1, box_cell hbx hS.2.1, box_cell hbx hS.2.2.1, box_cell hbx hS.2.2.2.1, box_cell hbx hS.2.2.2.2.1, box_cell hbx hS.2.2.2.2.2.1, box_cell hbx hS.2.2.2.2.2.2.1, box_cell hbx hS.2.2.2.2.2.2.2.1, box_cell hbx hS.2.2.2.2.2.2.2.2.1, hS.2.2.2.2.2.2.2.2.2.1.later hbx, hS.2.2.2.2.2.2.2.2.2.2.later hbx⟩ ?_
          clear hS hbx
          intro hS
          clear hK KF
          try simp only [Act.put, List.setIfInBounds_toArray, List.set_cons_zero, List.set_cons_succ]
          refine call_at 13 (by kernel_rfl) (by kernel_rfl) ?_
          intro o ho
          simp only [List.getElem?_toArray, List.getElem?_cons_succ, List.getElem?_cons_zero, Option.some.injEq] at ho
          subst ho
          intro KF hK
          go_simp
          refine (negN_any 874 1276 v2 (Y2 * X0) p2 _ hG2 hM2).mono ?_
          rintro e wx ⟨⟨v3, p3, rfl, hG3, hM3⟩, hbx⟩
          have hG1 := hG1.later hbx
          go_wp2_with fail
          refine hK.out _ _ ⟨box_cell hbx hS.1, box_cell hbx hS.2.1, box_cell hbx hS.2.2.1, box_cell hbx hS.2.2.2.1, box_cell hbx hS.2.2.2.2.1, box_cell hbx hS.2.2.2.2.2.1, box_cell hbx hS.2.2.2.2.2.2.1, box_cell hbx hS.2.2.2.2.2.2.2.1, box_cell hbx hS.2.2.2.2.2.2.2.2.1, hS.2.2.2.2.2.2.2.2.2.1.later hbx, hS.2.2.2.2.2.2.2.2.2.2.later hbx⟩ ?_
          clear hS hbx
          intro hS
          clear hK KF
          try simp only [Act.put, List.setIfInBounds_toArray, List.set_cons_zero, List.set_cons_succ]
          refine call_at 14 (by kernel_rfl) (by kernel_rfl) ?_
          intro o ho
          simp only [List.getElem?_toArray, List.getElem?_cons_succ, List.getElem?_cons_zero, Option.some.injEq] at ho
          subst ho
          intro KF hK
          go_simp
          refine (addN_any 874 1276 (w.heap.size + 1 + 1 + 1 + 1) v1 v3 (X2 * Y0) (-(Y2 * X0)) p1 p3 _ hS.2.2.2.2.2.2.2.2.2.1.cw.ok hG1 hG3 hM1 hM3 (by omega) (by omega)).mono ?_
          rintro e wx ⟨⟨v4, p4, rfl, hG4, hM4⟩, hbx⟩
          go_wp2_with fail
          refine hK.out _ _ ⟨box_cell hbx hS.1, box_cell hbx hS.2.1, box_cell hbx hS.2.2.1, box_cell hbx hS.2.2.2.1, box_cell hbx hS.2.2.2.2.1, box_cell hbx hS.2.2.2.2.2.1, box_cell hbx hS.2.2.2.2.2.2.1, box_cell hbx hS.2.2.2.2.2.2.2.1, box_cell hbx hS.2.2.2.2.2.2.2.2.1, hS.2.2.2.2.2.2.2.2.2.1.later hbx, hS.2.2.2.2.2.2.2.2.2.2.later hbx⟩ ?_
          clear hS hbx
          intro hS
          clear hK KF
          try simp only [Act.put, List.setIfInBounds_toArray, List.set_cons_zero, List.set_cons_succ]
          refine take_at (i := 15) (d := some 19) (v := v4) (by kernel_rfl) (by kernel_rfl) (by kernel_rfl) (by kernel_rfl) (fun _ _ _ h => h) ?_ hS ?_
          · intro o ho
            simp only [List.getElem?_toArray, List.getElem?_cons_succ, List.getElem?_cons_zero, Option.some.injEq] at ho
            subst ho
            refine Or.inl ⟨by rfl, ?_⟩
            intro w hSw
            (try dsimp only at hSw)
            go_simp
          simp only [Act.put, List.setIfInBounds_toArray, List.set_cons_zero, List.set_cons_succ]
          refine wpAnyH_done (by kernel_rfl) ?_ _
          clear hG1 hG2 hG3 hM1 hM2 hM3 hq hLW hFS i0 i1 i2 j0 j1 j2
          have hG4 := hG4.drew
          go_wp2_with fail
          refine wp_region_held_drew (S := (fun W => W.cell? ⟨b1, 0, none⟩ = some (.slice a6 n6 c6) ∧ W.cell? ⟨b1, 1, none⟩ = some (.slice a7 n7 c7) ∧ W.cell? ⟨b1, 2, none⟩ = some (.slice a8 n8 c8) ∧ W.cell? ⟨b2, 0, none⟩ = some (.slice a0 n0 c0) ∧ W.cell? ⟨b2, 1, none⟩ = some (.slice a1 n1 c1) ∧ W.cell? ⟨b2, 2, none⟩ = some (.slice a2 n2 c2) ∧ W.cell? ⟨wr.heap.size, 2, none⟩ = some (.slice a5 n5 c5) ∧ W.cell? ⟨w.heap.size + 1 + 1 + 1 + 1 + 1, 0, none⟩ = some (.func (Fn.func 40) #[] #[.pointer (some ⟨w.heap.size + 1 + 1 + 1 + 1, 0, none⟩)]) ∧ W.cell? ⟨w.heap.size + 1 + 1 + 1 + 1 + 1 + 1, 0, none⟩ = some (.func (Fn.func 42) #[] #[.pointer (some ⟨w.heap.size + 1 + 1 + 1 + 1, 0, none⟩)]) ∧ (LW w W ax ay bx by' cx cy dx dy b (.slice a0 n0 c0) (.slice a1 n1 c1) (.slice a2 n2 c2) (.slice a3 n3 c3) (.slice a4 n4 c4) (.slice a5 n5 c5) (.slice a6 n6 c6) (.slice a7 n7 c7) (.slice a8 n8 c8) l0 l1 l2 l3 l4 l5 l6 l7 l8) ∧ Fs W (.slice a n c) ls)) (by kernel_rfl) ⟨hS.1, hS.2.1, hS.2.2.1, hS.2.2.2.1, hS.2.2.2.2.1, hS.2.2.2.2.2.1, hS.2.2.2.2.2.2.1, hS.2.2.2.2.2.2.2.1, hS.2.2.2.2.2.2.2.2.1, hS.2.2.2.2.2.2.2.2.2.1.drew, hS.2.2.2.2.2.2.2.2.2.2.drew⟩ (fun hS => ?_)
          refine take_at (i := 0) (d := some 63) (v := .func (Fn.func 40) #[] #[.pointer (some ⟨w.heap.size + 1 + 1 + 1 + 1, 0, none⟩)]) (by kernel_rfl) (by kernel_rfl) (by kernel_rfl) (by kernel_rfl) (fun _ _ _ h => h) ?_ hS ?_
          · intro o ho
            simp only [List.getElem?_toArray, List.getElem?_cons_zero, Option.some.injEq] at ho
            subst ho
            refine Or.inl ⟨by rfl, ?_⟩
            intro w hSw
            (try dsimp only at hSw)
            go_simp
          simp only [Act.put, List.setIfInBounds_toArray, List.set_cons_zero, List.set_cons_succ]
          refine take_at (i := 1) (d := some 64) (v := .slice a n c) (by kernel_rfl) (by kernel_rfl) (by kernel_rfl) (by kernel_rfl) (fun _ _ _ h => h) ?_ hS ?_
          · intro o ho
            simp only [List.getElem?_toArray, List.getElem?_cons_succ, List.getElem?_cons_zero, Option.some.injEq] at ho
            subst ho
            refine Or.inl ⟨by rfl, ?_⟩
            intro w hSw
            (try dsimp only at hSw)
            go_simp
          simp only [Act.put, List.setIfInBounds_toArray, List.set_cons_zero, List.set_cons_succ]
          refine take_at (i := 2) (d := some 65) (v := .func (Fn.func 42) #[] #[.pointer (some ⟨w.heap.size + 1 + 1 + 1 + 1, 0, none⟩)]) (by kernel_rfl) (by kernel_rfl) (by kernel_rfl) (by kernel_rfl) (fun _ _ _ h => h) ?_ hS ?_
          · intro o ho
            simp only [List.getElem?_toArray, List.getElem?_cons_succ, List.getElem?_cons_zero, Option.some.injEq] at ho
            subst ho
            refine Or.inl ⟨by rfl, ?_⟩
            intro w hSw
            (try dsimp only at hSw)
            go_simp
          simp only [Act.put, List.setIfInBounds_toArray, List.set_cons_zero, List.set_cons_succ]
          refine take_at (i := 3) (d := some 66) (v := .pointer (some ⟨wr.heap.size, 2, none⟩)) (by kernel_rfl) (by kernel_rfl) (by kernel_rfl) (by kernel_rfl) (fun _ _ _ h => h) ?_ hS ?_
          · intro o ho
            simp only [List.getElem?_toArray, List.getElem?_cons_succ, List.getElem?_cons_zero, Option.some.injEq] at ho
            subst ho
            refine Or.inl ⟨by rfl, ?_⟩
            intro w hSw
            (try dsimp only at hSw)
            go_simp
          simp only [Act.put, List.setIfInBounds_toArray, List.set_cons_zero, List.set_cons_succ]
          refine take_at (i := 4) (d := some 67) (v := .slice a5 n5 c5) (by kernel_rfl) (by kernel_rfl) (by kernel_rfl) (by kernel_rfl) (fun _ _ _ h => h) ?_ hS ?_
          · intro o ho
            simp only [List.getElem?_toArray, List.getElem?_cons_succ, List.getElem?_cons_zero, Option.some.injEq] at ho
            subst ho
            refine Or.inl ⟨by rfl, ?_⟩
            intro w hSw
            (try dsimp only at hSw)
            go_simp
          simp only [Act.put, List.setIfInBounds_toArray, List.set_cons_zero, List.set_cons_succ]
          refine take_at (i := 5) (d := some 68) (v := v4) (by kernel_rfl) (by kernel_rfl) (by kernel_rfl) (by kernel_rfl) (fun _ _ _ h => h) ?_ hS ?_
          · intro o ho
            simp only [List.getElem?_toArray, List.getElem?_cons_succ, List.getElem?_cons_zero, Option.some.injEq] at ho
            subst ho
            refine Or.inl ⟨by rfl, ?_⟩
            intro w hSw
            (try dsimp only at hSw)
            go_simp
          simp only [Act.put, List.setIfInBounds_toArray, List.set_cons_zero, List.set_cons_succ]
          refine call_at 6 (by kernel_rfl) (by kernel_rfl) ?_
          intro o ho
          simp only [List.getElem?_toArray, List.getElem?_cons_succ, List.getElem?_cons_zero, Option.some.injEq] at ho
          subst ho
          intro KF hK
          go_simp
          refine (mulN_any 874 1277 874 1277 674 1480 (w.heap.size + 1 + 1 + 1 + 1) (.slice a5 n5 c5) v4 (X1 * X1 + Y1 * Y1) ((X2 * Y0) + -(Y2 * X0)) l5 p4 _ hS.2.2.2.2.2.2.2.2.2.1.cw.ok hS.2.2.2.2.2.2.2.2.2.1.f5 hG4 HN1.out.2.2 hM4 (by omega) (by omega) (by omega) (by omega)).mono ?_
          rintro e wx ⟨⟨v5, p5, rfl, hG5, hM5⟩, hbx⟩
          go_wp2_with fail
          refine hK.out _ _ ⟨box_cell hbx hS.1, box_cell hbx hS.2.1, box_cell hbx hS.2.2.1, box_cell hbx hS.2.2.2.1, box_cell hbx hS.2.2.2.2.1, box_cell hbx hS.2.2.2.2.2.1, box_cell hbx hS.2.2.2.2.2.2.1, box_cell hbx hS.2.2.2.2.2.2.2.1, box_cell hbx hS.2.2.2.2.2.2.2.2.1, hS.2.2.2.2.2.2.2.2.2.1.later hbx, hS.2.2.2.2.2.2.2.2.2.2.later hbx⟩ ?_
          clear hS hbx
          intro hS
          clear hK KF
          try simp only [Act.put, List.setIfInBounds_toArray, List.set_cons_zero, List.set_cons_succ]
          refine call_at 7 (by kernel_rfl) (by kernel_rfl) ?_
          intro o ho
          simp only [List.getElem?_toArray, List.getElem?_cons_succ, List.getElem?_cons_zero, Option.some.injEq] at ho
          subst ho
          intro KF hK
          go_simp
          refine (addN_any 674 1481 (w.heap.size + 1 + 1 + 1 + 1) (.slice a n c) v5 (0 + ((X0 * X0 + Y0 * Y0) * (X1 * Y2 + -(Y1 * X2)))) ((X1 * X1 + Y1 * Y1) * (X2 * Y0 + -(Y2 * X0))) ls p5 _ hS.2.2.2.2.2.2.2.2.2.1.cw.ok hS.2.2.2.2.2.2.2.2.2.2 hG5 HNs.out (hM5.mono (by omega)) (by omega) (by omega)).mono ?_
          rintro e wx ⟨⟨v6, p6, rfl, hG6, hM6⟩, hbx⟩
          obtain ⟨a7', n7', c7', rfl⟩ := hG6.shape
          go_wp2_with fail
          refine hK.out _ _ ⟨box_cell hbx hS.1, box_cell hbx hS.2.1, box_cell hbx hS.2.2.1, box_cell hbx hS.2.2.2.1, box_cell hbx hS.2.2.2.2.1, box_cell hbx hS.2.2.2.2.2.1, box_cell hbx hS.2.2.2.2.2.2.1, box_cell hbx hS.2.2.2.2.2.2.2.1, box_cell hbx hS.2.2.2.2.2.2.2.2.1, hS.2.2.2.2.2.2.2.2.2.1.later hbx, hS.2.2.2.2.2.2.2.2.2.2.later hbx⟩ ?_
          clear hS hbx
          intro hS
          clear hK KF
          try simp only [Act.put, List.setIfInBounds_toArray, List.set_cons_zero, List.set_cons_succ]
          refine take_at (i := 8) (d := some 14) (v := .slice a7' n7' c7') (by kernel_rfl) (by kernel_rfl) (by kernel_rfl) (by kernel_rfl) (fun _ _ _ h => h) ?_ hS ?_
          · intro o ho
            simp only [List.getElem?_toArray, List.getElem?_cons_succ, List.getElem?_cons_zero, Option.some.injEq] at ho
            subst ho
            refine Or.inl ⟨by rfl, ?_⟩
            intro w hSw
            (try dsimp only at hSw)
            go_simp
          simp only [Act.put, List.setIfInBounds_toArray, List.set_cons_zero, List.set_cons_succ]
          refine wpAnyH_done (by kernel_rfl) ?_ _
          have HE : Hid (LW w _ ax ay bx by' cx cy dx dy b (.slice a0 n0 c0) (.slice a1 n1 c1) (.slice a2 n2 c2) (.slice a3 n3 c3) (.slice a4 n4 c4) (.slice a5 n5 c5) (.slice a6 n6 c6) (.slice a7 n7 c7) (.slice a8 n8 c8) l0 l1 l2 l3 l4 l5 l6 l7 l8) := hS.2.2.2.2.2.2.2.2.2.1
          have HG : Hid (∃ l, Fs _ (.slice a7' n7' c7') l ∧ NL 674 1482 ((0 + ((X0 * X0 + Y0 * Y0) * (X1 * Y2 + -(Y1 * X2)))) + ((X1 * X1 + Y1 * Y1) * (X2 * Y0 + -(Y2 * X0)))) l) := ⟨p6, hG6, hM6⟩
          clear hS hG4 hG5 hG6 hM4 hM5 hM6
          go_wp2
          first
          | exact ⟨⟨Or.inr (Or.inr (Or.inl ⟨by go_num, _, _, _, rfl, HG⟩)), HE⟩, by simp [intOf]⟩
          | (refine ⟨?_, by simp [intOf]⟩; (repeat apply Exists.intro); exact ⟨⟨Or.inr (Or.inr (Or.inl ⟨by go_num, _, _, _, rfl, HG⟩)), HE⟩, rfl⟩)
        · exact ⟨_, _, 0, 0, rfl, hS, fun h => by omega, fun h => Bool.noConfusion h, fun h => by omega⟩
      · obtain ⟨ls, hFs, hNs⟩ := hsum.out
        have HNs : Hid (NL 674 1482 ((0 + ((X0 * X0 + Y0 * Y0) * (X1 * Y2 + -(Y1 * X2)))) + ((X1 * X1 + Y1 * Y1) * (X2 * Y0 + -(Y2 * X0)))) ls) := hNs
        obtain ⟨W1, hW1⟩ : ∃ W1, W1 = (wr.alloc (.cells #[.slice a6 n6 c6, .slice a7 n7 c7, .slice a8 n8 c8] 63)) := ⟨_, rfl⟩
        have hb1 : Below wr.heap.size wr W1 := by rw [hW1]; exact (Below.refl _ wr).alloc (Nat.le_refl _) _
        have hF1 := hB.out.later hb1
        have hFs1 := hFs.later hb1
        have hq : W1.cell? ⟨wr.heap.size, 2, none⟩ = some (.slice a8 n8 c8) := by rw [hW1]; go_simp
        have HLb : Hid (b < wr.heap.size ∧ w.heap.size + 1 + 1 + 1 + 1 + 1 + 1 < wr.heap.size) := ⟨hB.out.rows.lt, World.block_lt_of_cell? _ _ hB.out.cw.fm⟩
        obtain ⟨g0, g1, g2, g3, g4, g5, g6, g7, g8⟩ := hB.out.rows.cells9
        go_wp2_with fail
        rw [← hW1]
        clear hW1 hb1 hsum hFs hNs g0 g1 g2 g3 g4 g5 g6 g7 g8
        refine wp_region_held_drew (S := (fun W => W.cell? ⟨b, 0, none⟩ = some (.slice a0 n0 c0) ∧ W.cell? ⟨b, 1, none⟩ = some (.slice a1 n1 c1) ∧ W.cell? ⟨b, 2, none⟩ = some (.slice a2 n2 c2) ∧ W.cell? ⟨b, 3, none⟩ = some (.slice a3 n3 c3) ∧ W.cell? ⟨b, 4, none⟩ = some (.slice a4 n4 c4) ∧ W.cell? ⟨b, 5, none⟩ = some (.slice a5 n5 c5) ∧ W.cell? ⟨b, 6, none⟩ = some (.slice a6 n6 c6) ∧ W.cell? ⟨b, 7, none⟩ = some (.slice a7 n7 c7) ∧ W.cell? ⟨b, 8, none⟩ = some (.slice a8 n8 c8) ∧ W.cell? ⟨wr.heap.size, 2, none⟩ = some (.slice a8 n8 c8) ∧ (LW w W ax ay bx by' cx cy dx dy b (.slice a0 n0 c0) (.slice a1 n1 c1) (.slice a2 n2 c2) (.slice a3 n3 c3) (.slice a4 n4 c4) (.slice a5 n5 c5) (.slice a6 n6 c6) (.slice a7 n7 c7) (.slice a8 n8 c8) l0 l1 l2 l3 l4 l5 l6 l7 l8) ∧ Fs W (.slice a n c) ls)) (by kernel_rfl) ⟨hF1.rows.cells9.1, hF1.rows.cells9.2.1, hF1.rows.cells9.2.2.1, hF1.rows.cells9.2.2.2.1, hF1.rows.cells9.2.2.2.2.1, hF1.rows.cells9.2.2.2.2.2.1, hF1.rows.cells9.2.2.2.2.2.2.1, hF1.rows.cells9.2.2.2.2.2.2.2.1, hF1.rows.cells9.2.2.2.2.2.2.2.2, hq, hF1.drew, hFs1.drew⟩ (fun hS => ?_)
        refine take_at (i := 0) (d := some 38) (v := .int .i64 2) (by kernel_rfl) (by kernel_rfl) (by kernel_rfl) (by kernel_rfl) (fun _ _ _ h => h) ?_ hS ?_
        · intro o ho
          simp only [List.getElem?_toArray, List.getElem?_cons_zero, Option.some.injEq] at ho
          subst ho
          refine Or.inl ⟨by rfl, ?_⟩
          intro w hSw
          (try dsimp only at hSw)
          go_simp
        simp only [Act.put, List.setIfInBounds_toArray, List.set_cons_zero, List.set_cons_succ]
        refine take_at (i := 1) (d := some 39) (v := .int .i64 3) (by kernel_rfl) (by kernel_rfl) (by kernel_rfl) (by kernel_rfl) (fun _ _ _ h => h) ?_ hS ?_
        · intro o ho
          simp only [List.getElem?_toArray, List.getElem?_cons_succ, List.getElem?_cons_zero, Option.some.injEq] at ho
          subst ho
          refine Or.inl ⟨by rfl, ?_⟩
          intro w hSw
          (try dsimp only at hSw)
          go_simp
        simp only [Act.put, List.setIfInBounds_toArray, List.set_cons_zero, List.set_cons_succ]
        refine take_at (i := 2) (d := some 40) (v := .int .i64 0) (by kernel_rfl) (by kernel_rfl) (by kernel_rfl) (by kernel_rfl) (fun _ _ _ h => h) ?_ hS ?_
        · intro o ho
          simp only [List.getElem?_toArray, List.getElem?_cons_succ, List.getElem?_cons_zero, Option.some.injEq] at ho
          subst ho
          refine Or.inl ⟨by rfl, ?_⟩
          intro w hSw
          (try dsimp only at hSw)
          go_simp
        simp only [Act.put, List.setIfInBounds_toArray, List.set_cons_zero, List.set_cons_succ]
        refine take_at (i := 3) (d := some 41) (v := .pointer (some ⟨b, 0, none⟩)) (by kernel_rfl) (by kernel_rfl) (by kernel_rfl) (by kernel_rfl) (fun _ _ _ h => h) ?_ hS ?_
        · intro o ho
          simp only [List.getElem?_toArray, List.getElem?_cons_succ, List.getElem?_cons_zero, Option.some.injEq] at ho
          subst ho
          refine Or.inl ⟨by rfl, ?_⟩
          intro w hSw
          (try dsimp only at hSw)
          go_simp
        simp only [Act.put, List.setIfInBounds_toArray, List.set_cons_zero, List.set_cons_succ]
        refine take_at (i := 4) (d := some 42) (v := .agg #[.slice a0 n0 c0, .slice a1 n1 c1, .slice a2 n2 c2]) (by kernel_rfl) (by kernel_rfl) (by kernel_rfl) (by kernel_rfl) (fun _ _ _ h => h) ?_ hS ?_
        · intro o ho
          simp only [List.getElem?_toArray, List.getElem?_cons_succ, List.getElem?_cons_zero, Option.some.injEq] at ho
          subst ho
          refine Or.inl ⟨by rfl, ?_⟩
          intro w hSw
          (try dsimp only at hSw)
          go_simp
        simp only [Act.put, List.setIfInBounds_toArray, List.set_cons_zero, List.set_cons_succ]
        refine take_at (i := 5) (d := some 43) (v := .int .i64 2) (by kernel_rfl) (by kernel_rfl) (by kernel_rfl) (by kernel_rfl) (fun _ _ _ h => h) ?_ hS ?_
        · intro o ho
          simp only [List.getElem?_toArray, List.getElem?_cons_succ, List.getElem?_cons_zero, Option.some.injEq] at ho
          subst ho
          refine Or.inl ⟨by rfl, ?_⟩
          intro w hSw
          (try dsimp only at hSw)
          go_simp
        simp only [Act.put, List.setIfInBounds_toArray, List.set_cons_zero, List.set_cons_succ]
        refine take_at (i := 6) (d := some 44) (v := .int .i64 4) (by kernel_rfl) (by kernel_rfl) (by kernel_rfl) (by kernel_rfl) (fun _ _ _ h => h) ?_ hS ?_
        · intro o ho
          simp only [List.getElem?_toArray, List.getElem?_cons_succ, List.getElem?_cons_zero, Option.some.injEq] at ho
          subst ho
          refine Or.inl ⟨by rfl, ?_⟩
          intro w hSw
          (try dsimp only at hSw)
          go_simp
        simp only [Act.put, List.setIfInBounds_toArray, List.set_cons_zero, List.set_cons_succ]
        refine take_at (i := 7) (d := some 45) (v := .int .i64 1) (by kernel_rfl) (by kernel_rfl) (by kernel_rfl) (by kernel_rfl) (fun _ _ _ h => h) ?_ hS ?_
        · intro o ho
          simp only [List.getElem?_toArray, List.getElem?_cons_succ, List.getElem?_cons_zero, Option.some.injEq] at ho
          subst ho
          refine Or.inl ⟨by rfl, ?_⟩
          intro w hSw
          (try dsimp only at hSw)
          go_simp
        simp only [Act.put, List.setIfInBounds_toArray, List.set_cons_zero, List.set_cons_succ]
        refine take_at (i := 8) (d := some 46) (v := .pointer (some ⟨b, 3, none⟩)) (by kernel_rfl) (by kernel_rfl) (by kernel_rfl) (by kernel_rfl) (fun _ _ _ h => h) ?_ hS ?_
        · intro o ho
          simp only [List.getElem?_toArray, List.getElem?_cons_succ, List.getElem?_cons_zero, Option.some.injEq] at ho
          subst ho
          refine Or.inl ⟨by rfl, ?_⟩
          intro w hSw
          (try dsimp only at hSw)
          go_simp
        simp only [Act.put, List.setIfInBounds_toArray, List.set_cons_zero, List.set_cons_succ]
        refine take_at (i := 9) (d := some 47) (v := .agg #[.slice a3 n3 c3, .slice a4 n4 c4, .slice a5 n5 c5]) (by kernel_rfl) (by kernel_rfl) (by kernel_rfl) (by kernel_rfl) (fun _ _ _ h => h) ?_ hS ?_
        · intro o ho
          simp only [List.getElem?_toArray, List.getElem?_cons_succ, List.getElem?_cons_zero, Option.some.injEq] at ho
          subst ho
          refine Or.inl ⟨by rfl, ?_⟩
          intro w hSw
          (try dsimp only at hSw)
          go_simp
        simp only [Act.put, List.setIfInBounds_toArray, List.set_cons_zero, List.set_cons_succ]
        clear hq hF1 hFs1
        refine draw1 (f := 2) (n := 1) (al := 11) (fun _ => 10) (fun (x : Bool) (k : Nat) => #[true, true, true, true, true, true, true, true, true, true, decide (1 ≤ k), x, false, false]) (fun (x : Bool) (k : Nat) (aa : Act) (W : World) => ∃ (v17 v18 : Value) (b1 b2 : Nat), aa = { tmps := #[.agg #[.float .f64 ax, .float .f64 ay], .agg #[.float .f64 bx, .float .f64 by'], .agg #[.float .f64 cx, .float .f64 cy], .agg #[.float .f64 dx, .float .f64 dy], .pointer (some ⟨w.heap.size, 0, none⟩), .pointer (some ⟨w.heap.size + 1, 0, none⟩), .pointer (some ⟨w.heap.size + 1 + 1, 0, none⟩), .pointer (some ⟨w.heap.size + 1 + 1 + 1, 0, none⟩), .int .i64 0, .pointer (some ⟨w.heap.size + 1 + 1 + 1 + 1, 0, none⟩), .pointer (some ⟨w.heap.size + 1 + 1 + 1 + 1 + 1, 0, none⟩), .pointer (some ⟨w.heap.size + 1 + 1 + 1 + 1 + 1 + 1, 0, none⟩), .func (Fn.func 44) #[] #[.pointer (some ⟨w.heap.size + 1 + 1 + 1, 0, none⟩), .pointer (some ⟨w.heap.size + 1 + 1 + 1 + 1 + 1, 0, none⟩), .pointer (some ⟨w.heap.size + 1 + 1 + 1 + 1 + 1 + 1, 0, none⟩)], .pointer (some ⟨b, 0, none⟩), .slice a n c, .int .i64 2, .pointer (some ⟨wr.heap.size, 0, none⟩), v17, v18, u19, .func (Fn.func 40) #[] #[.pointer (some ⟨w.heap.size + 1 + 1 + 1 + 1, 0, none⟩)], .func (Fn.func 42) #[] #[.pointer (some ⟨w.heap.size + 1 + 1 + 1 + 1, 0, none⟩)], .func (Fn.func 44) #[] #[.pointer (some ⟨w.heap.size + 1 + 1 + 1, 0, none⟩), .pointer (some ⟨w.heap.size + 1 + 1 + 1 + 1 + 1, 0, none⟩), .pointer (some ⟨w.heap.size + 1 + 1 + 1 + 1 + 1 + 1, 0, none⟩)], .func (Fn.func 44) #[] #[.pointer (some ⟨w.heap.size + 1 + 1 + 1, 0, none⟩), .pointer (some ⟨w.heap.size + 1 + 1 + 1 + 1 + 1, 0, none⟩), .pointer (some ⟨w.heap.size + 1 + 1 + 1 + 1 + 1 + 1, 0, none⟩)], .agg #[.float .f64 ax, .float .f64 ay], d1, .func (Fn.func 44) #[] #[.pointer (some ⟨w.heap.size + 1 + 1 + 1, 0, none⟩), .pointer (some ⟨w.heap.size + 1 + 1 + 1 + 1 + 1, 0, none⟩), .pointer (some ⟨w.heap.size + 1 + 1 + 1 + 1 + 1 + 1, 0, none⟩)], .agg #[.float .f64 bx, .float .f64 by'], d2, .func (Fn.func 44) #[] #[.pointer (some ⟨w.heap.size + 1 + 1 + 1, 0, none⟩), .pointer (some ⟨w.heap.size + 1 + 1 + 1 + 1 + 1, 0, none⟩), .pointer (some ⟨w.heap.size + 1 + 1 + 1 + 1 + 1 + 1, 0, none⟩)], .agg #[.float .f64 cx, .float .f64 cy], d3, .agg #[.slice a0 n0 c0, .slice a1 n1 c1, .slice a2 n2 c2, .slice a3 n3 c3, .slice a4 n4 c4, .slice a5 n5 c5, .slice a6 n6 c6, .slice a7 n7 c7, .slice a8 n8 c8], .agg #[.slice a0 n0 c0, .slice a1 n1 c1, .slice a2 n2 c2, .slice a3 n3 c3, .slice a4 n4 c4, .slice a5 n5 c5, .slice a6 n6 c6, .slice a7 n7 c7, .slice a8 n8 c8], .int .i64 2, .bool true, .int .i64 2, .agg #[.slice a6 n6 c6, .slice a7 n7 c7, .slice a8 n8 c8], .int .i64 2, .int .i64 3, .int .i64 0, .pointer (some ⟨b, 0, none⟩), .agg #[.slice a0 n0 c0, .slice a1 n1 c1, .slice a2 n2 c2], .int .i64 2, .int .i64 4, .int .i64 1, .pointer (some ⟨b, 3, none⟩), .agg #[.slice a3 n3 c3, .slice a4 n4 c4, .slice a5 n5 c5], u48, u49, u50, u51, u52, u53, u54, u55, u56, u57, u58, u59, u60, u61, u62, u63, u64, u65, u66, u67, u68, u69, u70, u71, undef, undef, undef, undef], defers := [] } ∧ (W.cell? ⟨b, 0, none⟩ = some (.slice a0 n0 c0) ∧ W.cell? ⟨b, 1, none⟩ = some (.slice a1 n1 c1) ∧ W.cell? ⟨b, 2, none⟩ = some (.slice a2 n2 c2) ∧ W.cell? ⟨b, 3, none⟩ = some (.slice a3 n3 c3) ∧ W.cell? ⟨b, 4, none⟩ = some (.slice a4 n4 c4) ∧ W.cell? ⟨b, 5, none⟩ = some (.slice a5 n5 c5) ∧ W.cell? ⟨b, 6, none⟩ = some (.slice a6 n6 c6) ∧ W.cell? ⟨b, 7, none⟩ = some (.slice a7 n7 c7) ∧ W.cell? ⟨b, 8, none⟩ = some (.slice a8 n8 c8) ∧ W.cell? ⟨wr.heap.size, 2, none⟩ = some (.slice a8 n8 c8) ∧ (LW w W ax ay bx by' cx cy dx dy b (.slice a0 n0 c0) (.slice a1 n1 c1) (.slice a2 n2 c2) (.slice a3 n3 c3) (.slice a4 n4 c4) (.slice a5 n5 c5) (.slice a6 n6 c6) (.slice a7 n7 c7) (.slice a8 n8 c8) l0 l1 l2 l3 l4 l5 l6 l7 l8) ∧ Fs W (.slice a n c) ls) ∧ (1 ≤ k → v17 = .pointer (some ⟨b1, 0, none⟩) ∧ CB W b1 #[.slice none 0 0, .slice none 0 0, .slice none 0 0] 63 ∧ wr.heap.size < b1) ∧ (x = true → v18 = .pointer (some ⟨b2, 0, none⟩) ∧ CB W b2 #[.slice none 0 0, .slice none 0 0, .slice none 0 0] 63 ∧ wr.heap.size < b2) ∧ (1 ≤ k → x = true → b1 ≠ b2)) ?_ ?_ ?_ ?_ ?_ ?_ 2 false 0 _ _ (by omega) (by decide) ?_
        · intro x k hk hx
          have h5 : k = 0 ∨ k = 1 := by omega
          rcases h5 with rfl | rfl <;> cases x <;> first | exact absurd (hx rfl) (by decide) | (show _ = _; kernel_rfl)
        · intro x k hk
          obtain rfl : k = 0 := by omega
          cases x <;> rfl
        · intro k hk
          have h5 : k = 0 ∨ k = 1 := by omega
          rcases h5 with rfl | rfl <;> rfl
        · intro x k hk
          obtain rfl : k = 0 := by omega
          refine ⟨_, rfl, ?_⟩
          intro aa W hI K' hK
          obtain ⟨v17, v18, b1, b2, rfl, hS, h1, h2, h12⟩ := hI
          have hb : Below W.heap.size W (W.alloc (.cells #[.slice none 0 0, .slice none 0 0, .slice none 0 0] 63)) := (Below.refl _ W).alloc (Nat.le_refl _) _
          have hlt2 : wr.heap.size < W.heap.size := World.block_lt_of_cell? _ _ hS.2.2.2.2.2.2.2.2.2.1
          have hS2 : (W.alloc (.cells #[.slice none 0 0, .slice none 0 0, .slice none 0 0] 63)).cell? ⟨b, 0, none⟩ = some (.slice a0 n0 c0) ∧ (W.alloc (.cells #[.slice none 0 0, .slice none 0 0, .slice none 0 0] 63)).cell? ⟨b, 1, none⟩ = some (.slice a1 n1 c1) ∧ (W.alloc (.cells #[.slice none 0 0, .slice none 0 0, .slice none 0 0] 63)).cell? ⟨b, 2, none⟩ = some (.slice a2 n2 c2) ∧ (W.alloc (.cells #[.slice none 0 0, .slice none 0 0, .slice none 0 0] 63)).cell? ⟨b, 3, none⟩ = some (.slice a3 n3 c3) ∧ (W.alloc (.cells #[.slice none 0 0, .slice none 0 0, .slice none 0 0] 63)).cell? ⟨b, 4, none⟩ = some (.slice a4 n4 c4) ∧ (W.alloc (.cells #[.slice none 0 0, .slice none 0 0, .slice none 0 0] 63)).cell? ⟨b, 5, none⟩ = some (.slice a5 n5 c5) ∧ (W.alloc (.cells #[.slice none 0 0, .slice none 0 0, .slice none 0 0] 63)).cell? ⟨b, 6, none⟩ = some (.slice a6 n6 c6) ∧ (W.alloc (.cells #[.slice none 0 0, .slice none 0 0, .slice none 0 0] 63)).cell? ⟨b, 7, none⟩ = some (.slice a7 n7 c7) ∧ (W.alloc (.cells #[.slice none 0 0, .slice none 0 0, .slice none 0 0] 63)).cell? ⟨b, 8, none⟩ = some (.slice a8 n8 c8) ∧ (W.alloc (.cells #[.slice none 0 0, .slice none 0 0, .slice none 0 0] 63)).cell? ⟨wr.heap.size, 2, none⟩ = some (.slice a8 n8 c8) ∧ (LW w (W.alloc (.cells #[.slice none 0 0, .slice none 0 0, .slice none 0 0] 63)) ax ay bx by' cx cy dx dy b (.slice a0 n0 c0) (.slice a1 n1 c1) (.slice a2 n2 c2) (.slice a3 n3 c3) (.slice a4 n4 c4) (.slice a5 n5 c5) (.slice a6 n6 c6) (.slice a7 n7 c7) (.slice a8 n8 c8) l0 l1 l2 l3 l4 l5 l6 l7 l8) ∧ Fs (W.alloc (.cells #[.slice none 0 0, .slice none 0 0, .slice none 0 0] 63)) (.slice a n c) ls := ⟨box_cell hb hS.1, box_cell hb hS.2.1, box_cell hb hS.2.2.1, box_cell hb hS.2.2.2.1, box_cell hb hS.2.2.2.2.1, box_cell hb hS.2.2.2.2.2.1, box_cell hb hS.2.2.2.2.2.2.1, box_cell hb hS.2.2.2.2.2.2.2.1, box_cell hb hS.2.2.2.2.2.2.2.2.1, box_cell hb hS.2.2.2.2.2.2.2.2.2.1, hS.2.2.2.2.2.2.2.2.2.2.1.later hb, hS.2.2.2.2.2.2.2.2.2.2.2.later hb⟩
          go_simp
          go_wp2_with fail
          exact hK.out _ _ hS2 ⟨_, v18, W.heap.size, b2, rfl, hS2, fun _ => ⟨rfl, CB.new W _ _, hlt2⟩, fun h => ⟨(h2 h).1, (h2 h).2.1.later hb, (h2 h).2.2⟩, fun _ h => Nat.ne_of_gt (h2 h).2.1.lt⟩
        · intro k hk
          refine ⟨_, rfl, ?_⟩
          intro aa W hI K' hK
          obtain ⟨v17, v18, b1, b2, rfl, hS, h1, h2, h12⟩ := hI
          have hb : Below W.heap.size W (W.alloc (.cells #[.slice none 0 0, .slice none 0 0, .slice none 0 0] 63)) := (Below.refl _ W).alloc (Nat.le_refl _) _
          have hlt2 : wr.heap.size < W.heap.size := World.block_lt_of_cell? _ _ hS.2.2.2.2.2.2.2.2.2.1
          have hS2 : (W.alloc (.cells #[.slice none 0 0, .slice none 0 0, .slice none 0 0] 63)).cell? ⟨b, 0, none⟩ = some (.slice a0 n0 c0) ∧ (W.alloc (.cells #[.slice none 0 0, .slice none 0 0, .slice none 0 0] 63)).cell? ⟨b, 1, none⟩ = some (.slice a1 n1 c1) ∧ (W.alloc (.cells #[.slice none 0 0, .slice none 0 0, .slice none 0 0] 63)).cell? ⟨b, 2, none⟩ = some (.slice a2 n2 c2) ∧ (W.alloc (.cells #[.slice none 0 0, .slice none 0 0, .slice none 0 0] 63)).cell? ⟨b, 3, none⟩ = some (.slice a3 n3 c3) ∧ (W.alloc (.cells #[.slice none 0 0, .slice none 0 0, .slice none 0 0] 63)).cell? ⟨b, 4, none⟩ = some (.slice a4 n4 c4) ∧ (W.alloc (.cells #[.slice none 0 0, .slice none 0 0, .slice none 0 0] 63)).cell? ⟨b, 5, none⟩ = some (.slice a5 n5 c5) ∧ (W.alloc (.cells #[.slice none 0 0, .slice none 0 0, .slice none 0 0] 63)).cell? ⟨b, 6, none⟩ = some (.slice a6 n6 c6) ∧ (W.alloc (.cells #[.slice none 0 0, .slice none 0 0, .slice none 0 0] 63)).cell? ⟨b, 7, none⟩ = some (.slice a7 n7 c7) ∧ (W.alloc (.cells #[.slice none 0 0, .slice none 0 0, .slice none 0 0] 63)).cell? ⟨b, 8, none⟩ = some (.slice a8 n8 c8) ∧ (W.alloc (.cells #[.slice none 0 0, .slice none 0 0, .slice none 0 0] 63)).cell? ⟨wr.heap.size, 2, none⟩ = some (.slice a8 n8 c8) ∧ (LW w (W.alloc (.cells #[.slice none 0 0, .slice none 0 0, .slice none 0 0] 63)) ax ay bx by' cx cy dx dy b (.slice a0 n0 c0) (.slice a1 n1 c1) (.slice a2 n2 c2) (.slice a3 n3 c3) (.slice a4 n4 c4) (.slice a5 n5 c5) (.slice a6 n6 c6) (.slice a7 n7 c7) (.slice a8 n8 c8) l0 l1 l2 l3 l4 l5 l6 l7 l8) ∧ Fs (W.alloc (.cells #[.slice none 0 0, .slice none 0 0, .slice none 0 0] 63)) (.slice a n c) ls := ⟨box_cell hb hS.1, box_cell hb hS.2.1, box_cell hb hS.2.2.1, box_cell hb hS.2.2.2.1, box_cell hb hS.2.2.2.2.1, box_cell hb hS.2.2.2.2.2.1, box_cell hb hS.2.2.2.2.2.2.1, box_cell hb hS.2.2.2.2.2.2.2.1, box_cell hb hS.2.2.2.2.2.2.2.2.1, box_cell hb hS.2.2.2.2.2.2.2.2.2.1, hS.2.2.2.2.2.2.2.2.2.2.1.later hb, hS.2.2.2.2.2.2.2.2.2.2.2.later hb⟩
          go_simp
          go_wp2_with fail
          exact hK.out _ _ hS2 ⟨v17, _, b1, W.heap.size, rfl, hS2, fun h => ⟨(h1 h).1, (h1 h).2.1.later hb, (h1 h).2.2⟩, fun _ => ⟨rfl, CB.new W _ _, hlt2⟩, fun h _ => Nat.ne_of_lt (h1 h).2.1.lt⟩
        · intro aa W hI
          obtain ⟨v17, v18, b1, b2, rfl, hS, h1, h2, h12⟩ := hI
          obtain ⟨rfl, hc1, l1'⟩ := h1 (by omega)
          obtain ⟨rfl, hc2, l2'⟩ := h2 rfl
          have hne := h12 (by omega) rfl
          clear h1 h2 h12
          have hm := moved3 W b1 (.slice a0 n0 c0) (.slice a1 n1 c1) (.slice a2 n2 c2)
          have hn := hc1.nofloat (by simp)
          have hLW := LW.moved hS.2.2.2.2.2.2.2.2.2.2.1 hm hn (by have := HLb.out; omega) (by have := HLb.out; omega)
          have hFS := fs_moved hS.2.2.2.2.2.2.2.2.2.2.2 hm hn
          have hq2 := hm.cell _ _ _ (by omega) hS.2.2.2.2.2.2.2.2.2.1
          have hS2 : (((W.setCell ⟨b1, 0, none⟩ (.slice a0 n0 c0)).setCell ⟨b1, 1, none⟩ (.slice a1 n1 c1)).setCell ⟨b1, 2, none⟩ (.slice a2 n2 c2)).cell? ⟨b, 0, none⟩ = some (.slice a0 n0 c0) ∧ (((W.setCell ⟨b1, 0, none⟩ (.slice a0 n0 c0)).setCell ⟨b1, 1, none⟩ (.slice a1 n1 c1)).setCell ⟨b1, 2, none⟩ (.slice a2 n2 c2)).cell? ⟨b, 1, none⟩ = some (.slice a1 n1 c1) ∧ (((W.setCell ⟨b1, 0, none⟩ (.slice a0 n0 c0)).setCell ⟨b1, 1, none⟩ (.slice a1 n1 c1)).setCell ⟨b1, 2, none⟩ (.slice a2 n2 c2)).cell? ⟨b, 2, none⟩ = some (.slice a2 n2 c2) ∧ (((W.setCell ⟨b1, 0, none⟩ (.slice a0 n0 c0)).setCell ⟨b1, 1, none⟩ (.slice a1 n1 c1)).setCell ⟨b1, 2, none⟩ (.slice a2 n2 c2)).cell? ⟨b, 3, none⟩ = some (.slice a3 n3 c3) ∧ (((W.setCell ⟨b1, 0, none⟩ (.slice a0 n0 c0)).setCell ⟨b1, 1, none⟩ (.slice a1 n1 c1)).setCell ⟨b1, 2, none⟩ (.slice a2 n2 c2)).cell? ⟨b, 4, none⟩ = some (.slice a4 n4 c4) ∧ (((W.setCell ⟨b1, 0, none⟩ (.slice a0 n0 c0)).setCell ⟨b1, 1, none⟩ (.slice a1 n1 c1)).setCell ⟨b1, 2, none⟩ (.slice a2 n2 c2)).cell? ⟨b, 5, none⟩ = some (.slice a5 n5 c5) ∧ (((W.setCell ⟨b1, 0, none⟩ (.slice a0 n0 c0)).setCell ⟨b1, 1, none⟩ (.slice a1 n1 c1)).setCell ⟨b1, 2, none⟩ (.slice a2 n2 c2)).cell? ⟨b, 6, none⟩ = some (.slice a6 n6 c6) ∧ (((W.setCell ⟨b1, 0, none⟩ (.slice a0 n0 c0)).setCell ⟨b1, 1, none⟩ (.slice a1 n1 c1)).setCell ⟨b1, 2, none⟩ (.slice a2 n2 c2)).cell? ⟨b, 7, none⟩ = some (.slice a7 n7 c7) ∧ (((W.setCell ⟨b1, 0, none⟩ (.slice a0 n0 c0)).setCell ⟨b1, 1, none⟩ (.slice a1 n1 c1)).setCell ⟨b1, 2, none⟩ (.slice a2 n2 c2)).cell? ⟨b, 8, none⟩ = some (.slice a8 n8 c8) ∧ (((W.setCell ⟨b1, 0, none⟩ (.slice a0 n0 c0)).setCell ⟨b1, 1, none⟩ (.slice a1 n1 c1)).setCell ⟨b1, 2, none⟩ (.slice a2 n2 c2)).cell? ⟨wr.heap.size, 2, none⟩ = some (.slice a8 n8 c8) ∧ (LW w (((W.setCell ⟨b1, 0, none⟩ (.slice a0 n0 c0)).setCell ⟨b1, 1, none⟩ (.slice a1 n1 c1)).setCell ⟨b1, 2, none⟩ (.slice a2 n2 c2)) ax ay bx by' cx cy dx dy b (.slice a0 n0 c0) (.slice a1 n1 c1) (.slice a2 n2 c2) (.slice a3 n3 c3) (.slice a4 n4 c4) (.slice a5 n5 c5) (.slice a6 n6 c6) (.slice a7 n7 c7) (.slice a8 n8 c8) l0 l1 l2 l3 l4 l5 l6 l7 l8) ∧ Fs (((W.setCell ⟨b1, 0, none⟩ (.slice a0 n0 c0)).setCell ⟨b1, 1, none⟩ (.slice a1 n1 c1)).setCell ⟨b1, 2, none⟩ (.slice a2 n2 c2)) (.slice a n c) ls := ⟨hLW.rows.cells9.1, hLW.rows.cells9.2.1, hLW.rows.cells9.2.2.1, hLW.rows.cells9.2.2.2.1, hLW.rows.cells9.2.2.2.2.1, hLW.rows.cells9.2.2.2.2.2.1, hLW.rows.cells9.2.2.2.2.2.2.1, hLW.rows.cells9.2.2.2.2.2.2.2.1, hLW.rows.cells9.2.2.2.2.2.2.2.2, hq2, hLW, hFS⟩
          have f0 := hc1.frozen 0
          have f1 := hc1.frozen 1
          have f2 := hc1.frozen 2
          obtain ⟨g0, g1, g2⟩ := hc1.cells3
          have hc1' := hc1.set3 (.slice a0 n0 c0) (.slice a1 n1 c1) (.slice a2 n2 c2)
          have hc2' := hm.box _ _ _ hne.symm hc2
          refine call_at 12 (by kernel_rfl) (by kernel_rfl) ?_
          intro o ho
          simp only [List.getElem?_toArray, List.getElem?_cons_succ, List.getElem?_cons_zero, Option.some.injEq] at ho
          subst ho
          intro KF hK
          go_simp
          go_wp2_with fail
          refine hK.out _ _ hS2 ?_
          clear hS
          intro hS
          clear hK KF f0 f1 f2 g0 g1 g2 hm hn hS2 hLW hFS hq2
          try simp only [List.setIfInBounds_toArray, List.set_cons_zero, List.set_cons_succ]
          generalize (((W.setCell ⟨b1, 0, none⟩ (.slice a0 n0 c0)).setCell ⟨b1, 1, none⟩ (.slice a1 n1 c1)).setCell ⟨b1, 2, none⟩ (.slice a2 n2 c2)) = W2 at *
          have hm := moved3 W2 b2 (.slice a3 n3 c3) (.slice a4 n4 c4) (.slice a5 n5 c5)
          have hn := hc2'.nofloat (by simp)
          have hLW := LW.moved hS.2.2.2.2.2.2.2.2.2.2.1 hm hn (by have := HLb.out; omega) (by have := HLb.out; omega)
          have hFS := fs_moved hS.2.2.2.2.2.2.2.2.2.2.2 hm hn
          have hq2 := hm.cell _ _ _ (by omega) hS.2.2.2.2.2.2.2.2.2.1
          have hS2 : (((W2.setCell ⟨b2, 0, none⟩ (.slice a3 n3 c3)).setCell ⟨b2, 1, none⟩ (.slice a4 n4 c4)).setCell ⟨b2, 2, none⟩ (.slice a5 n5 c5)).cell? ⟨b, 0, none⟩ = some (.slice a0 n0 c0) ∧ (((W2.setCell ⟨b2, 0, none⟩ (.slice a3 n3 c3)).setCell ⟨b2, 1, none⟩ (.slice a4 n4 c4)).setCell ⟨b2, 2, none⟩ (.slice a5 n5 c5)).cell? ⟨b, 1, none⟩ = some (.slice a1 n1 c1) ∧ (((W2.setCell ⟨b2, 0, none⟩ (.slice a3 n3 c3)).setCell ⟨b2, 1, none⟩ (.slice a4 n4 c4)).setCell ⟨b2, 2, none⟩ (.slice a5 n5 c5)).cell? ⟨b, 2, none⟩ = some (.slice a2 n2 c2) ∧ (((W2.setCell ⟨b2, 0, none⟩ (.slice a3 n3 c3)).setCell ⟨b2, 1, none⟩ (.slice a4 n4 c4)).setCell ⟨b2, 2, none⟩ (.slice a5 n5 c5)).cell? ⟨b, 3, none⟩ = some (.slice a3 n3 c3) ∧ (((W2.setCell ⟨b2, 0, none⟩ (.slice a3 n3 c3)).setCell ⟨b2, 1, none⟩ (.slice a4 n4 c4)).setCell ⟨b2, 2, none⟩ (.slice a5 n5 c5)).cell? ⟨b, 4, none⟩ = some (.slice a4 n4 c4) ∧ (((W2.setCell ⟨b2, 0, none⟩ (.slice a3 n3 c3)).setCell ⟨b2, 1, none⟩ (.slice a4 n4 c4)).setCell ⟨b2, 2, none⟩ (.slice a5 n5 c5)).cell? ⟨b, 5, none⟩ = some (.slice a5 n5 c5) ∧ (((W2.setCell ⟨b2, 0, none⟩ (.slice a3 n3 c3)).setCell ⟨b2, 1, none⟩ (.slice a4 n4 c4)).setCell ⟨b2, 2, none⟩ (.slice a5 n5 c5)).cell? ⟨b, 6, none⟩ = some (.slice a6 n6 c6) ∧ (((W2.setCell ⟨b2, 0, none⟩ (.slice a3 n3 c3)).setCell ⟨b2, 1, none⟩ (.slice a4 n4 c4)).setCell ⟨b2, 2, none⟩ (.slice a5 n5 c5)).cell? ⟨b, 7, none⟩ = some (.slice a7 n7 c7) ∧ (((W2.setCell ⟨b2, 0, none⟩ (.slice a3 n3 c3)).setCell ⟨b2, 1, none⟩ (.slice a4 n4 c4)).setCell ⟨b2, 2, none⟩ (.slice a5 n5 c5)).cell? ⟨b, 8, none⟩ = some (.slice a8 n8 c8) ∧ (((W2.setCell ⟨b2, 0, none⟩ (.slice a3 n3 c3)).setCell ⟨b2, 1, none⟩ (.slice a4 n4 c4)).setCell ⟨b2, 2, none⟩ (.slice a5 n5 c5)).cell? ⟨wr.heap.size, 2, none⟩ = some (.slice a8 n8 c8) ∧ (LW w (((W2.setCell ⟨b2, 0, none⟩ (.slice a3 n3 c3)).setCell ⟨b2, 1, none⟩ (.slice a4 n4 c4)).setCell ⟨b2, 2, none⟩ (.slice a5 n5 c5)) ax ay bx by' cx cy dx dy b (.slice a0 n0 c0) (.slice a1 n1 c1) (.slice a2 n2 c2) (.slice a3 n3 c3) (.slice a4 n4 c4) (.slice a5 n5 c5) (.slice a6 n6 c6) (.slice a7 n7 c7) (.slice a8 n8 c8) l0 l1 l2 l3 l4 l5 l6 l7 l8) ∧ Fs (((W2.setCell ⟨b2, 0, none⟩ (.slice a3 n3 c3)).setCell ⟨b2, 1, none⟩ (.slice a4 n4 c4)).setCell ⟨b2, 2, none⟩ (.slice a5 n5 c5)) (.slice a n c) ls := ⟨hLW.rows.cells9.1, hLW.rows.cells9.2.1, hLW.rows.cells9.2.2.1, hLW.rows.cells9.2.2.2.1, hLW.rows.cells9.2.2.2.2.1, hLW.rows.cells9.2.2.2.2.2.1, hLW.rows.cells9.2.2.2.2.2.2.1, hLW.rows.cells9.2.2.2.2.2.2.2.1, hLW.rows.cells9.2.2.2.2.2.2.2.2, hq2, hLW, hFS⟩
          have f0 := hc2'.frozen 0
          have f1 := hc2'.frozen 1
          have f2 := hc2'.frozen 2
          obtain ⟨g0, g1, g2⟩ := hc2'.cells3
          have hc2'' := hc2'.set3 (.slice a3 n3 c3) (.slice a4 n4 c4) (.slice a5 n5 c5)
          have hc1'' := hm.box _ _ _ hne hc1'
          refine call_at 13 (by kernel_rfl) (by kernel_rfl) ?_
          intro o ho
          simp only [List.getElem?_toArray, List.getElem?_cons_succ, List.getElem?_cons_zero, Option.some.injEq] at ho
          subst ho
          intro KF hK
          go_simp
          go_wp2_with fail
          refine hK.out _ _ hS2 ?_
          clear hS
          intro hS
          clear hK KF f0 f1 f2 g0 g1 g2 hm hn hS2 hLW hFS hq2
          try simp only [List.setIfInBounds_toArray, List.set_cons_zero, List.set_cons_succ]
          generalize (((W2.setCell ⟨b2, 0, none⟩ (.slice a3 n3 c3)).setCell ⟨b2, 1, none⟩ (.slice a4 n4 c4)).setCell ⟨b2, 2, none⟩ (.slice a5 n5 c5)) = W3 at *
          refine wpAnyH_done (by kernel_rfl) ?_ _
          obtain ⟨i0, i1, i2⟩ := hc1''.cells3
          obtain ⟨j0, j1, j2⟩ := hc2''.cells3
          have hq := hS.2.2.2.2.2.2.2.2.2.1
          have hLW := hS.2.2.2.2.2.2.2.2.2.2.1
          have hFS := hS.2.2.2.2.2.2.2.2.2.2.2
          clear hS hc1 hc2 hc1' hc2' hc1'' hc2'' l1' l2' hne
          go_wp2_with fail
          refine wp_region_held_drew (S := (fun W => W.cell? ⟨b1, 0, none⟩ = some (.slice a0 n0 c0) ∧ W.cell? ⟨b1, 1, none⟩ = some (.slice a1 n1 c1) ∧ W.cell? ⟨b1, 2, none⟩ = some (.slice a2 n2 c2) ∧ W.cell? ⟨b2, 0, none⟩ = some (.slice a3 n3 c3) ∧ W.cell? ⟨b2, 1, none⟩ = some (.slice a4 n4 c4) ∧ W.cell? ⟨b2, 2, none⟩ = some (.slice a5 n5 c5) ∧ W.cell? ⟨wr.heap.size, 2, none⟩ = some (.slice a8 n8 c8) ∧ W.cell? ⟨w.heap.size + 1 + 1 + 1 + 1 + 1, 0, none⟩ = some (.func (Fn.func 40) #[] #[.pointer (some ⟨w.heap.size + 1 + 1 + 1 + 1, 0, none⟩)]) ∧ W.cell? ⟨w.heap.size + 1 + 1 + 1 + 1 + 1 + 1, 0, none⟩ = some (.func (Fn.func 42) #[] #[.pointer (some ⟨w.heap.size + 1 + 1 + 1 + 1, 0, none⟩)]) ∧ (LW w W ax ay bx by' cx cy dx dy b (.slice a0 n0 c0) (.slice a1 n1 c1) (.slice a2 n2 c2) (.slice a3 n3 c3) (.slice a4 n4 c4) (.slice a5 n5 c5) (.slice a6 n6 c6) (.slice a7 n7 c7) (.slice a8 n8 c8) l0 l1 l2 l3 l4 l5 l6 l7 l8) ∧ Fs W (.slice a n c) ls)) (by kernel_rfl) ⟨i0, i1, i2, j0, j1, j2, hq, hLW.cw.fa, hLW.cw.fm, hLW.drew, hFS.drew⟩ (fun hS => ?_)
          refine take_at (i := 0) (d := some 48) (v := .func (Fn.func 40) #[] #[.pointer (some ⟨w.heap.size + 1 + 1 + 1 + 1, 0, none⟩)]) (by kernel_rfl) (by kernel_rfl) (by kernel_rfl) (by kernel_rfl) (fun _ _ _ h => h) ?_ hS ?_
          · intro o ho
            simp only [List.getElem?_toArray, List.getElem?_cons_zero, Option.some.injEq] at ho
            subst ho
            refine Or.inl ⟨by rfl, ?_⟩
            intro w hSw
            (try dsimp only at hSw)
            go_simp
          simp only [Act.put, List.setIfInBounds_toArray, List.set_cons_zero, List.set_cons_succ]
          refine take_at (i := 1) (d := some 49) (v := .func (Fn.func 42) #[] #[.pointer (some ⟨w.heap.size + 1 + 1 + 1 + 1, 0, none⟩)]) (by kernel_rfl) (by kernel_rfl) (by kernel_rfl) (by kernel_rfl) (fun _ _ _ h => h) ?_ hS ?_
          · intro o ho
            simp only [List.getElem?_toArray, List.getElem?_cons_succ, List.getElem?_cons_zero, Option.some.injEq] at ho
            subst ho
            refine Or.inl ⟨by rfl, ?_⟩
            intro w hSw
            (try dsimp only at hSw)
            go_simp
          simp only [Act.put, List.setIfInBounds_toArray, List.set_cons_zero, List.set_cons_succ]
          refine take_at (i := 2) (d := some 50) (v := .pointer (some ⟨b1, 0, none⟩)) (by kernel_rfl) (by kernel_rfl) (by kernel_rfl) (by kernel_rfl) (fun _ _ _ h => h) ?_ hS ?_
          · intro o ho
            simp only [List.getElem?_toArray, List.getElem?_cons_succ, List.getElem?_cons_zero, Option.some.injEq] at ho
            subst ho
            refine Or.inl ⟨by rfl, ?_⟩
            intro w hSw
            (try dsimp only at hSw)
            go_simp
          simp only [Act.put, List.setIfInBounds_toArray, List.set_cons_zero, List.set_cons_succ]
          refine take_at (i := 3) (d := some 51) (v := .slice a0 n0 c0) (by kernel_rfl) (by kernel_rfl) (by kernel_rfl) (by kernel_rfl) (fun _ _ _ h => h) ?_ hS ?_
          · intro o ho
            simp only [List.getElem?_toArray, List.getElem?_cons_succ, List.getElem?_cons_zero, Option.some.injEq] at ho
            subst ho
            refine Or.inl ⟨by rfl, ?_⟩
            intro w hSw
            (try dsimp only at hSw)
            go_simp
          simp only [Act.put, List.setIfInBounds_toArray, List.set_cons_zero, List.set_cons_succ]
          refine take_at (i := 4) (d := some 52) (v := .pointer (some ⟨b2, 1, none⟩)) (by kernel_rfl) (by kernel_rfl) (by kernel_rfl) (by kernel_rfl) (fun _ _ _ h => h) ?_ hS ?_
          · intro o ho
            simp only [List.getElem?_toArray, List.getElem?_cons_succ, List.getElem?_cons_zero, Option.some.injEq] at ho
            subst ho
            refine Or.inl ⟨by rfl, ?_⟩
            intro w hSw
            (try dsimp only at hSw)
            go_simp
          simp only [Act.put, List.setIfInBounds_toArray, List.set_cons_zero, List.set_cons_succ]
          refine take_at (i := 5) (d := some 53) (v := .slice a4 n4 c4) (by kernel_rfl) (by kernel_rfl) (by kernel_rfl) (by kernel_rfl) (fun _ _ _ h => h) ?_ hS ?_
          · intro o ho
            simp only [List.getElem?_toArray, List.getElem?_cons_succ, List.getElem?_cons_zero, Option.some.injEq] at ho
            subst ho
            refine Or.inl ⟨by rfl, ?_⟩
            intro w hSw
            (try dsimp only at hSw)
            go_simp
          simp only [Act.put, List.setIfInBounds_toArray, List.set_cons_zero, List.set_cons_succ]
          refine take_at (i := 7) (d := some 55) (v := .func (Fn.func 42) #[] #[.pointer (some ⟨w.heap.size + 1 + 1 + 1 + 1, 0, none⟩)]) (by kernel_rfl) (by kernel_rfl) (by kernel_rfl) (by kernel_rfl) (fun _ _ _ h => h) ?_ hS ?_
          · intro o ho
            simp only [List.getElem?_toArray, List.getElem?_cons_succ, List.getElem?_cons_zero, Option.some.injEq] at ho
            subst ho
            refine Or.inl ⟨by rfl, ?_⟩
            intro w hSw
            (try dsimp only at hSw)
            go_simp
          simp only [Act.put, List.setIfInBounds_toArray, List.set_cons_zero, List.set_cons_succ]
          refine take_at (i := 8) (d := some 56) (v := .pointer (some ⟨b1, 1, none⟩)) (by kernel_rfl) (by kernel_rfl) (by kernel_rfl) (by kernel_rfl) (fun _ _ _ h => h) ?_ hS ?_
          · intro o ho
            simp only [List.getElem?_toArray, List.getElem?_cons_succ, List.getElem?_cons_zero, Option.some.injEq] at ho
            subst ho
            refine Or.inl ⟨by rfl, ?_⟩
            intro w hSw
            (try dsimp only at hSw)
            go_simp
          simp only [Act.put, List.setIfInBounds_toArray, List.set_cons_zero, List.set_cons_succ]
          refine take_at (i := 9) (d := some 57) (v := .slice a1 n1 c1) (by kernel_rfl) (by kernel_rfl) (by kernel_rfl) (by kernel_rfl) (fun _ _ _ h => h) ?_ hS ?_
          · intro o ho
            simp only [List.getElem?_toArray, List.getElem?_cons_succ, List.getElem?_cons_zero, Option.some.injEq] at ho
            subst ho
            refine Or.inl ⟨by rfl, ?_⟩
            intro w hSw
            (try dsimp only at hSw)
            go_simp
          simp only [Act.put, List.setIfInBounds_toArray, List.set_cons_zero, List.set_cons_succ]
          refine take_at (i := 10) (d := some 58) (v := .pointer (some ⟨b2, 0, none⟩)) (by kernel_rfl) (by kernel_rfl) (by kernel_rfl) (by kernel_rfl) (fun _ _ _ h => h) ?_ hS ?_
          · intro o ho
            simp only [List.getElem?_toArray, List.getElem?_cons_succ, List.getElem?_cons_zero, Option.some.injEq] at ho
            subst ho
            refine Or.inl ⟨by rfl, ?_⟩
            intro w hSw
            (try dsimp only at hSw)
            go_simp
          simp only [Act.put, List.setIfInBounds_toArray, List.set_cons_zero, List.set_cons_succ]
          refine take_at (i := 11) (d := some 59) (v := .slice a3 n3 c3) (by kernel_rfl) (by kernel_rfl) (by kernel_rfl) (by kernel_rfl) (fun _ _ _ h => h) ?_ hS ?_
          · intro o ho
            simp only [List.getElem?_toArray, List.getElem?_cons_succ, List.getElem?_cons_zero, Option.some.injEq] at ho
            subst ho
            refine Or.inl ⟨by rfl, ?_⟩
            intro w hSw
            (try dsimp only at hSw)
            go_simp
          simp only [Act.put, List.setIfInBounds_toArray, List.set_cons_zero, List.set_cons_succ]
          refine call_at 6 (by kernel_rfl) (by kernel_rfl) ?_
          intro o ho
          simp only [List.getElem?_toArray, List.getElem?_cons_succ, List.getElem?_cons_zero, Option.some.injEq] at ho
          subst ho
          intro KF hK
          go_simp
          refine (mulN_any 974 1175 974 1175 874 1276 (w.heap.size + 1 + 1 + 1 + 1) (.slice a0 n0 c0) (.slice a4 n4 c4) X0 Y1 l0 l4 _ hS.2.2.2.2.2.2.2.2.2.1.cw.ok hS.2.2.2.2.2.2.2.2.2.1.f0 hS.2.2.2.2.2.2.2.2.2.1.f4 HN0.out.1 HN1.out.2.1 (by omega) (by omega) (by omega) (by omega)).mono ?_
          rintro e wx ⟨⟨v1, p1, rfl, hG1, hM1⟩, hbx⟩
          go_wp2_with fail
          refine hK.out _ _ ⟨box_cell hbx hS.1, box_cell hbx hS.2.1, box_cell hbx hS.2.2.1, box_cell hbx hS.2.2.2.1, box_cell hbx hS.2.2.2.2.1, box_cell hbx hS.2.2.2.2.2.1, box_cell hbx hS.2.2.2.2.2.2.1, box_cell hbx hS.2.2.2.2.2.2.2.1, box_cell hbx hS.2.2.2.2.2.2.2.2.1, hS.2.2.2.2.2.2.2.2.2.1.later hbx, hS.2.2.2.2.2.2.2.2.2.2.later hbx⟩ ?_
          clear hS hbx
          intro hS
          clear hK KF
          try simp only [Act.put, List.setIfInBounds_toArray, List.set_cons_zero, List.set_cons_succ]
          refine call_at 12 (by kernel_rfl) (by kernel_rfl) ?_
          intro o ho
          simp only [List.getElem?_toArray, List.getElem?_cons_succ, List.getElem?_cons_zero, Option.some.injEq] at ho
          subst ho
          intro KF hK
          go_simp
          refine (mulN_any 974 1175 974 1175 874 1276 (w.heap.size + 1 + 1 + 1 + 1) (.slice a1 n1 c1) (.slice a3 n3 c3) Y0 X1 l1 l3 _ hS.2.2.2.2.2.2.2.2.2.1.cw.ok hS.2.2.2.2.2.2.2.2.2.1.f1 hS.2.2.2.2.2.2.2.2.2.1.f3 HN0.out.2.1 HN1.out.1 (by omega) (by omega) (by omega) (by omega)).mono ?_
          rintro e wx ⟨⟨v2, p2, rfl, hG2, hM2⟩, hbx⟩
          have hG1 := hG1.later hbx
          go_wp2_with fail
          refine hK.out _ _ ⟨box_cell hbx hS.1, box_cell hbx hS.2.1, box_cell hbx hS.2.2.1, box_cell hbx hS.2.2.2.1, box_cell hbx hS.2.2.2.2.1, box_cell hbx hS.2.2.2.2.2.1, box_cell hbx hS.2.2.2.2.2.2.1, box_cell hbx hS.2.2.2.2.2.2.2.1, box_cell hbx hS.2.2.2.2.2.2.2.2.1, hS.2.2.2.2.2.2.2.2.2.1.later hbx, hS.2.2.2.2.2.2.2.2.2.2.later hbx⟩ ?_
          clear hS hbx
          intro hS
          clear hK KF
          try simp only [Act.put, List.setIfInBounds_toArray, List.set_cons_zero, List.set_cons_succ]
          refine call_at 13 (by kernel_rfl) (by kernel_rfl) ?_
          intro o ho
          simp only [List.getElem?_toArray, List.getElem?_cons_succ, List.getElem?_cons_zero, Option.some.injEq] at ho
          subst ho
          intro KF hK
          go_simp
          refine (negN_any 874 1276 v2 (Y0 * X1) p2 _ hG2 hM2).mono ?_
          rintro e wx ⟨⟨v3, p3, rfl, hG3, hM3⟩, hbx⟩
          have hG1 := hG1.later hbx
          go_wp2_with fail
          refine hK.out _ _ ⟨box_cell hbx hS.1, box_cell hbx hS.2.1, box_cell hbx hS.2.2.1, box_cell hbx hS.2.2.2.1, box_cell hbx hS.2.2.2.2.1, box_cell hbx hS.2.2.2.2.2.1, box_cell hbx hS.2.2.2.2.2.2.1, box_cell hbx hS.2.2.2.2.2.2.2.1, box_cell hbx hS.2.2.2.2.2.2.2.2.1, hS.2.2.2.2.2.2.2.2.2.1.later hbx, hS.2.2.2.2.2.2.2.2.2.2.later hbx⟩ ?_
          clear hS hbx
          intro hS
          clear hK KF
          try simp only [Act.put, List.setIfInBounds_toArray, List.set_cons_zero, List.set_cons_succ]
          refine call_at 14 (by kernel_rfl) (by kernel_rfl) ?_
          intro o ho
          simp only [List.getElem?_toArray, List.getElem?_cons_succ, List.getElem?_cons_zero, Option.some.injEq] at ho
          subst ho
          intro KF hK
          go_simp
          refine (addN_any 874 1276 (w.heap.size + 1 + 1 + 1 + 1) v1 v3 (X0 * Y1) (-(Y0 * X1)) p1 p3 _ hS.2.2.2.2.2.2.2.2.2.1.cw.ok hG1 hG3 hM1 hM3 (by omega) (by omega)).mono ?_
          rintro e wx ⟨⟨v4, p4, rfl, hG4, hM4⟩, hbx⟩
          go_wp2_with fail
          refine hK.out _ _ ⟨box_cell hbx hS.1, box_cell hbx hS.2.1, box_cell hbx hS.2.2.1, box_cell hbx hS.2.2.2.1, box_cell hbx hS.2.2.2.2.1, box_cell hbx hS.2.2.2.2.2.1, box_cell hbx hS.2.2.2.2.2.2.1, box_cell hbx hS.2.2.2.2.2.2.2.1, box_cell hbx hS.2.2.2.2.2.2.2.2.1, hS.2.2.2.2.2.2.2.2.2.1.later hbx, hS.2.2.2.2.2.2.2.2.2.2.later hbx⟩ ?_
          clear hS hbx
          intro hS
          clear hK KF
          try simp only [Act.put, List.setIfInBounds_toArray, List.set_cons_zero, List.set_cons_succ]
          refine take_at (i := 15) (d := some 19) (v := v4) (by kernel_rfl) (by kernel_rfl) (by kernel_rfl) (by kernel_rfl) (fun _ _ _ h => h) ?_ hS ?_
          · intro o ho
            simp only [List.getElem?_toArray, List.getElem?_cons_succ, List.getElem?_cons_zero, Option.some.injEq] at ho
            subst ho
            refine Or.inl ⟨by rfl, ?_⟩
            intro w hSw
            (try dsimp only at hSw)
            go_simp
          simp only [Act.put, List.setIfInBounds_toArray, List.set_cons_zero, List.set_cons_succ]
          refine wpAnyH_done (by kernel_rfl) ?_ _
          clear hG1 hG2 hG3 hM1 hM2 hM3 hq hLW hFS i0 i1 i2 j0 j1 j2
          have hG4 := hG4.drew
          go_wp2_with fail
          refine wp_region_held_drew (S := (fun W => W.cell? ⟨b1, 0, none⟩ = some (.slice a0 n0 c0) ∧ W.cell? ⟨b1, 1, none⟩ = some (.slice a1 n1 c1) ∧ W.cell? ⟨b1, 2, none⟩ = some (.slice a2 n2 c2) ∧ W.cell? ⟨b2, 0, none⟩ = some (.slice a3 n3 c3) ∧ W.cell? ⟨b2, 1, none⟩ = some (.slice a4 n4 c4) ∧ W.cell? ⟨b2, 2, none⟩ = some (.slice a5 n5 c5) ∧ W.cell? ⟨wr.heap.size, 2, none⟩ = some (.slice a8 n8 c8) ∧ W.cell? ⟨w.heap.size + 1 + 1 + 1 + 1 + 1, 0, none⟩ = some (.func (Fn.func 40) #[] #[.pointer (some ⟨w.heap.size + 1 + 1 + 1 + 1, 0, none⟩)]) ∧ W.cell? ⟨w.heap.size + 1 + 1 + 1 + 1 + 1 + 1, 0, none⟩ = some (.func (Fn.func 42) #[] #[.pointer (some ⟨w.heap.size + 1 + 1 + 1 + 1, 0, none⟩)]) ∧ (LW w W ax ay bx by' cx cy dx dy b (.slice a0 n0 c0) (.slice a1 n1 c1) (.slice a2 n2 c2) (.slice a3 n3 c3) (.slice a4 n4 c4) (.slice a5 n5 c5) (.slice a6 n6 c6) (.slice a7 n7 c7) (.slice a8 n8 c8) l0 l1 l2 l3 l4 l5 l6 l7 l8) ∧ Fs W (.slice a n c) ls)) (by kernel_rfl) ⟨hS.1, hS.2.1, hS.2.2.1, hS.2.2.2.1, hS.2.2.2.2.1, hS.2.2.2.2.2.1, hS.2.2.2.2.2.2.1, hS.2.2.2.2.2.2.2.1, hS.2.2.2.2.2.2.2.2.1, hS.2.2.2.2.2.2.2.2.2.1.drew, hS.2.2.2.2.2.2.2.2.2.2.drew⟩ (fun hS => ?_)
          refine take_at (i := 0) (d := some 63) (v := .func (Fn.func 40) #[] #[.pointer (some ⟨w.heap.size + 1 + 1 + 1 + 1, 0, none⟩)]) (by kernel_rfl) (by kernel_rfl) (by kernel_rfl) (by kernel_rfl) (fun _ _ _ h => h) ?_ hS ?_
          · intro o ho
            simp only [List.getElem?_toArray, List.getElem?_cons_zero, Option.some.injEq] at ho
            subst ho
            refine Or.inl ⟨by rfl, ?_⟩
            intro w hSw
            (try dsimp only at hSw)
            go_simp
          simp only [Act.put, List.setIfInBounds_toArray, List.set_cons_zero, List.set_cons_succ]
          refine take_at (i := 1) (d := some 64) (v := .slice a n c) (by kernel_rfl) (by kernel_rfl) (by kernel_rfl) (by kernel_rfl) (fun _ _ _ h => h) ?_ hS ?_
          · intro o ho
            simp only [List.getElem?_toArray, List.getElem?_cons_succ, List.getElem?_cons_zero, Option.some.injEq] at ho
            subst ho
            refine Or.inl ⟨by rfl, ?_⟩
            intro w hSw
            (try dsimp only at hSw)
            go_simp
          simp only [Act.put, List.setIfInBounds_toArray, List.set_cons_zero, List.set_cons_succ]
          refine take_at (i := 2) (d := some 65) (v := .func (Fn.func 42) #[] #[.pointer (some ⟨w.heap.size + 1 + 1 + 1 + 1, 0, none⟩)]) (by kernel_rfl) (by kernel_rfl) (by kernel_rfl) (by kernel_rfl) (fun _ _ _ h => h) ?_ hS ?_
          · intro o ho
            simp only [List.getElem?_toArray, List.getElem?_cons_succ, List.getElem?_cons_zero, Option.some.injEq] at ho
            subst ho
            refine Or.inl ⟨by rfl, ?_⟩
            intro w hSw
            (try dsimp only at hSw)
            go_simp
          simp only [Act.put, List.setIfInBounds_toArray, List.set_cons_zero, List.set_cons_succ]
          refine take_at (i := 3) (d := some 66) (v := .pointer (some ⟨wr.heap.size, 2, none⟩)) (by kernel_rfl) (by kernel_rfl) (by kernel_rfl) (by kernel_rfl) (fun _ _ _ h => h) ?_ hS ?_
          · intro o ho
            simp only [List.getElem?_toArray, List.getElem?_cons_succ, List.getElem?_cons_zero, Option.some.injEq] at ho
            subst ho
            refine Or.inl ⟨by rfl, ?_⟩
            intro w hSw
            (try dsimp only at hSw)
            go_simp
          simp only [Act.put, List.setIfInBounds_toArray, List.set_cons_zero, List.set_cons_succ]
          refine take_at (i := 4) (d := some 67) (v := .slice a8 n8 c8) (by kernel_rfl) (by kernel_rfl) (by kernel_rfl) (by kernel_rfl) (fun _ _ _ h => h) ?_ hS ?_
          · intro o ho
            simp only [List.getElem?_toArray, List.getElem?_cons_succ, List.getElem?_cons_zero, Option.some.injEq] at ho
            subst ho
            refine Or.inl ⟨by rfl, ?_⟩
            intro w hSw
            (try dsimp only at hSw)
            go_simp
          simp only [Act.put, List.setIfInBounds_toArray, List.set_cons_zero, List.set_cons_succ]
          refine take_at (i := 5) (d := some 68) (v := v4) (by kernel_rfl) (by kernel_rfl) (by kernel_rfl) (by kernel_rfl) (fun _ _ _ h => h) ?_ hS ?_
          · intro o ho
            simp only [List.getElem?_toArray, List.getElem?_cons_succ, List.getElem?_cons_zero, Option.some.injEq] at ho
            subst ho
            refine Or.inl ⟨by rfl, ?_⟩
            intro w hSw
            (try dsimp only at hSw)
            go_simp
          simp only [Act.put, List.setIfInBounds_toArray, List.set_cons_zero, List.set_cons_succ]
          refine call_at 6 (by kernel_rfl) (by kernel_rfl) ?_
          intro o ho
          simp only [List.getElem?_toArray, List.getElem?_cons_succ, List.getElem?_cons_zero, Option.some.injEq] at ho
          subst ho
          intro KF hK
          go_simp
          refine (mulN_any 874 1277 874 1277 674 1480 (w.heap.size + 1 + 1 + 1 + 1) (.slice a8 n8 c8) v4 (X2 * X2 + Y2 * Y2) ((X0 * Y1) + -(Y0 * X1)) l8 p4 _ hS.2.2.2.2.2.2.2.2.2.1.cw.ok hS.2.2.2.2.2.2.2.2.2.1.f8 hG4 HN2.out.2.2 hM4 (by omega) (by omega) (by omega) (by omega)).mono ?_
          rintro e wx ⟨⟨v5, p5, rfl, hG5, hM5⟩, hbx⟩
          go_wp2_with fail
          refine hK.out _ _ ⟨box_cell hbx hS.1, box_cell hbx hS.2.1, box_cell hbx hS.2.2.1, box_cell hbx hS.2.2.2.1, box_cell hbx hS.2.2.2.2.1, box_cell hbx hS.2.2.2.2.2.1, box_cell hbx hS.2.2.2.2.2.2.1, box_cell hbx hS.2.2.2.2.2.2.2.1, box_cell hbx hS.2.2.2.2.2.2.2.2.1, hS.2.2.2.2.2.2.2.2.2.1.later hbx, hS.2.2.2.2.2.2.2.2.2.2.later hbx⟩ ?_
          clear hS hbx
          intro hS
          clear hK KF
          try simp only [Act.put, List.setIfInBounds_toArray, List.set_cons_zero, List.set_cons_succ]
          refine call_at 7 (by kernel_rfl) (by kernel_rfl) ?_
          intro o ho
          simp only [List.getElem?_toArray, List.getElem?_cons_succ, List.getElem?_cons_zero, Option.some.injEq] at ho
          subst ho
          intro KF hK
          go_simp
          refine (addN_any 674 1482 (w.heap.size + 1 + 1 + 1 + 1) (.slice a n c) v5 ((0 + ((X0 * X0 + Y0 * Y0) * (X1 * Y2 + -(Y1 * X2)))) + ((X1 * X1 + Y1 * Y1) * (X2 * Y0 + -(Y2 * X0)))) ((X2 * X2 + Y2 * Y2) * (X0 * Y1 + -(Y0 * X1))) ls p5 _ hS.2.2.2.2.2.2.2.2.2.1.cw.ok hS.2.2.2.2.2.2.2.2.2.2 hG5 HNs.out (hM5.mono (by omega)) (by omega) (by omega)).mono ?_
          rintro e wx ⟨⟨v6, p6, rfl, hG6, hM6⟩, hbx⟩
          obtain ⟨a7', n7', c7', rfl⟩ := hG6.shape
          go_wp2_with fail
          refine hK.out _ _ ⟨box_cell hbx hS.1, box_cell hbx hS.2.1, box_cell hbx hS.2.2.1, box_cell hbx hS.2.2.2.1, box_cell hbx hS.2.2.2.2.1, box_cell hbx hS.2.2.2.2.2.1, box_cell hbx hS.2.2.2.2.2.2.1, box_cell hbx hS.2.2.2.2.2.2.2.1, box_cell hbx hS.2.2.2.2.2.2.2.2.1, hS.2.2.2.2.2.2.2.2.2.1.later hbx, hS.2.2.2.2.2.2.2.2.2.2.later hbx⟩ ?_
          clear hS hbx
          intro hS
          clear hK KF
          try simp only [Act.put, List.setIfInBounds_toArray, List.set_cons_zero, List.set_cons_succ]
          refine take_at (i := 8) (d := some 14) (v := .slice a7' n7' c7') (by kernel_rfl) (by kernel_rfl) (by kernel_rfl) (by kernel_rfl) (fun _ _ _ h => h) ?_ hS ?_
          · intro o ho
            simp only [List.getElem?_toArray, List.getElem?_cons_succ, List.getElem?_cons_zero, Option.some.injEq] at ho
            subst ho
            refine Or.inl ⟨by rfl, ?_⟩
            intro w hSw
            (try dsimp only at hSw)
            go_simp
          simp only [Act.put, List.setIfInBounds_toArray, List.set_cons_zero, List.set_cons_succ]
          refine wpAnyH_done (by kernel_rfl) ?_ _
          have HE : Hid (LW w _ ax ay bx by' cx cy dx dy b (.slice a0 n0 c0) (.slice a1 n1 c1) (.slice a2 n2 c2) (.slice a3 n3 c3) (.slice a4 n4 c4) (.slice a5 n5 c5) (.slice a6 n6 c6) (.slice a7 n7 c7) (.slice a8 n8 c8) l0 l1 l2 l3 l4 l5 l6 l7 l8) := hS.2.2.2.2.2.2.2.2.2.1
          have HG : Hid (∃ l, Fs _ (.slice a7' n7' c7') l ∧ NL 674 1483 (((0 + ((X0 * X0 + Y0 * Y0) * (X1 * Y2 + -(Y1 * X2)))) + ((X1 * X1 + Y1 * Y1) * (X2 * Y0 + -(Y2 * X0)))) + ((X2 * X2 + Y2 * Y2) * (X0 * Y1 + -(Y0 * X1)))) l) := ⟨p6, hG6, hM6⟩
          clear hS hG4 hG5 hG6 hM4 hM5 hM6
          go_wp2
          first
          | exact ⟨⟨Or.inr (Or.inr (Or.inr (⟨by go_num, _, _, _, rfl, HG⟩))), HE⟩, by simp [intOf]⟩
          | (refine ⟨?_, by simp [intOf]⟩; (repeat apply Exists.intro); exact ⟨⟨Or.inr (Or.inr (Or.inr (⟨by go_num, _, _, _, rfl, HG⟩))), HE⟩, rfl⟩)
        · exact ⟨_, _, 0, 0, rfl, hS, fun h => by omega, fun h => Bool.noConfusion h, fun h => by omega⟩
      · obtain ⟨ls, hFs, hNs⟩ := hsum.out
        have HNs : Hid (Fs wr (.slice a n c) ls ∧ NL 674 1483 (((0 + ((X0 * X0 + Y0 * Y0) * (X1 * Y2 + -(Y1 * X2)))) + ((X1 * X1 + Y1 * Y1) * (X2 * Y0 + -(Y2 * X0)))) + ((X2 * X2 + Y2 * Y2) * (X0 * Y1 + -(Y0 * X1)))) ls) := ⟨hFs, hNs⟩
        have hok : wr.cell? ⟨w.heap.size + 1 + 1 + 1 + 1, 0, none⟩ = some (.bool true) := hB.out.cw.ok.cell 0 (by simp)
        clear hFs hNs hsum
        go_wp2_with fail
        refine (signE_any (.slice a n c) ls _ HNs.out.1).mono ?_
        rintro e wx ⟨⟨z, rfl, hz, _⟩, hbx⟩
        subst hbx
        have HZ : Hid (z = sgq (S4 ax ay bx by' cx cy dx dy)) := by
          show z = _
          rw [hz HNs.out.2.c, HNs.out.2.sum, HS4.out]
          congr 1
          unfold det3
          grind
        clear hz
        go_wp2
        go_ret
        exact ⟨by rw [HZ.out]; rfl, hB.out.pts.bel⟩
  · exact ⟨undef, undef, undef, undef, undef, 0, rfl, hS, fun h => Bool.noConfusion h, fun h => by omega, fun h => by omega, fun h => by omega, fun h => by omega⟩

end Go.Proofs.Ytghchejehlljkaa
