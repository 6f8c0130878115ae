/- Own texts, put together: Aj Ak Al. -/
import Derived.Test.YtgpbfhennineiaaQ3
import Derived.Test.YtgpbfhennineiaaQ27
import Derived.Test.YtgpbfhennineiaaQ28
namespace Go.Proofs.Ytgpbfhennineiaa
/- Package admit: Flat. -/
section
open Go.RowKit Go.Shelf Go.Sort Go.Lib
attribute [local go_sem ↓] Go.wp_at_zero Go.wp_at_succ
attribute [local go_sem] run_store_float
theorem keepF {w W W' : World} {q1 q2 q3 q4 q5 q6 q7 q8 : Addr} {x1 x2 x3 x4 x5 x6 x7 x8 : Value} (h : W.cell? q1 = some x1 ∧ W.cell? q2 = some x2 ∧ W.cell? q3 = some x3 ∧ W.cell? q4 = some x4 ∧ W.cell? q5 = some x5 ∧ W.cell? q6 = some x6 ∧ W.cell? q7 = some x7 ∧ W.cell? q8 = some x8 ∧ Below w.heap.size w W) (hb : Below W.heap.size W W') : W'.cell? q1 = some x1 ∧ W'.cell? q2 = some x2 ∧ W'.cell? q3 = some x3 ∧ W'.cell? q4 = some x4 ∧ W'.cell? q5 = some x5 ∧ W'.cell? q6 = some x6 ∧ W'.cell? q7 = some x7 ∧ W'.cell? q8 = some x8 ∧ Below w.heap.size w W' :=
 ⟨box_cell hb h.1, box_cell hb h.2.1, box_cell hb h.2.2.1, box_cell hb h.2.2.2.1, box_cell hb h.2.2.2.2.1, box_cell hb h.2.2.2.2.2.1, box_cell hb h.2.2.2.2.2.2.1, box_cell hb h.2.2.2.2.2.2.2.1, below_step h.2.2.2.2.2.2.2.2 hb⟩
set_option maxRecDepth 100000 in
set_option maxHeartbeats 2000000 in
theorem flat1_any (B g off n c x y x0 y0 : Nat) (hn : 0 < n) (w : World) (h0 : w.cell? ⟨B, 0, none⟩ = some (.slice (some ⟨g, off, none⟩) n c)) (h1 : w.cell? ⟨g, off, none⟩ = some (.float .f64 x0)) (h2 : w.cell? ⟨g, off + 1, none⟩ = some (.float .f64 y0)) :
   Calls Try.prog 29 #[pv x y, .pointer (some ⟨B, 0, none⟩)] w fun e w' => e = .returned (.bool (!eqW (x, y) (x0, y0))) ∧ Below w.heap.size w w' := by
 have mixed : Try.prog.follows .mixedOrders = true := by kernel_rfl
 have hG : Try.prog.eqGuardType Try.prog.depth 28 = false := by kernel_rfl
 have e1 : ∀ W, (binOp .neq 28 (pv x y) (pv x0 y0)).run Try.prog W = .ok (.bool (!eqW (x, y) (x0, y0))) W := fun W => by rw [run_neq_struct, eqPt, Result.andThen_ok]
 have hn' : (0 : Int) < (n : Int) := by omega
 have hn0 : ¬ n = 0 := by omega
 obtain ⟨t, ht⟩ : ∃ t, (!eqW (x, y) (x0, y0)) = t := ⟨_, rfl⟩
 rw [ht] at e1
 rw [ht]
 clear ht
 have a0 : (w.alloc (.cells #[.float .f64 x, .float .f64 y] 28)).cell? ⟨w.heap.size, 0, none⟩ = some (.float .f64 x) := by go_simp
 have a1 : (w.alloc (.cells #[.float .f64 x, .float .f64 y] 28)).cell? ⟨w.heap.size, 1, none⟩ = some (.float .f64 y) := by go_simp
 obtain ⟨w1, hw1⟩ : ∃ w1, w.alloc (.cells #[.float .f64 x, .float .f64 y] 28) = w1 := ⟨_, rfl⟩
 rw [hw1] at a0 a1
 have HB1 : Hid (Below w.heap.size w w1) := by rw [← hw1]; exact (Below.refl _ w).alloc (Nat.le_refl _) _
 have b0 := cell_grown (World.block_lt_of_cell? _ _ a0) a0
 have b1 := cell_grown (World.block_lt_of_cell? _ _ a1) a1
 have k0 := box_cell HB1.out h0
 have k1 := box_cell HB1.out h1
 have k2 := box_cell HB1.out h2
 have b2 := cell_grown (World.block_lt_of_cell? _ _ k0) k0
 have b3 := cell_grown (World.block_lt_of_cell? _ _ k1) k1
 have b4 := cell_grown (World.block_lt_of_cell? _ _ k2) k2
 clear h0 h1 h2 a0 a1 k0 k1 k2
 go_enter Try.func29, Try.ntmps29
 go_wp2_with fail
 go_quiet_grown (fail)
 have HD : Hid (Below w.heap.size w (grow (w1.drewN nq) osq)) := HB1.out.trans ((GrW.below ⟨nq, osq, rfl⟩).mono HB1.out.size)
 clear b0 b1 b2 b3 b4
 go_wp2
 go_ret
 exact ⟨rfl, HD.out⟩
set_option maxRecDepth 100000 in
set_option maxHeartbeats 2000000 in
theorem flat2_any (B S g off n c k x y x0 y0 xk yk : Nat) (hk : k < n) (w : World) (h0 : w.cell? ⟨B, 0, none⟩ = some (.slice (some ⟨g, off, none⟩) n c)) (h1 : w.cell? ⟨g, off, none⟩ = some (.float .f64 x0)) (h2 : w.cell? ⟨g, off + 1, none⟩ = some (.float .f64 y0))
   (h3 : w.cell? ⟨S, 0, none⟩ = some (.int .i64 (k : Int))) (h4 : w.cell? ⟨g, off + k * 2, none⟩ = some (.float .f64 xk)) (h5 : w.cell? ⟨g, off + k * 2 + 1, none⟩ = some (.float .f64 yk)) (hw : W6 x0 y0 xk yk x y) :
   Calls Try.prog 31 #[pv x y, .pointer (some ⟨B, 0, none⟩), .pointer (some ⟨S, 0, none⟩)] w fun e w' => e = .returned (.bool (decide (sg3 x0 y0 xk yk x y ≠ 0))) ∧ Below w.heap.size w w' := by
 have HW : Hid (W6 x0 y0 xk yk x y) := hw
 clear hw
 obtain ⟨z, hz⟩ : ∃ z, Hid (sg3 x0 y0 xk yk x y = z) := ⟨_, rfl⟩
 rw [hz.out]
 have hn' : (0 : Int) < (n : Int) := by omega
 have hn0 : ¬ n = 0 := by omega
 have lk : (k : Int) < (n : Int) := by omega
 have lk0 : (0 : Int) ≤ (k : Int) := by omega
 have HB1 : Hid (Below w.heap.size w (w.alloc (.cells #[.float .f64 x, .float .f64 y] 28))) := (Below.refl _ w).alloc (Nat.le_refl _) _
 have d0 := box_cell HB1.out.drew h0
 have d1 := box_cell HB1.out.drew h1
 have d2 := box_cell HB1.out.drew h2
 have d3 := box_cell HB1.out.drew h3
 have d4 := box_cell HB1.out.drew h4
 have d5 := box_cell HB1.out.drew h5
 have d6 : (w.alloc (.cells #[.float .f64 x, .float .f64 y] 28)).drew.cell? ⟨w.heap.size, 0, none⟩ = some (.float .f64 x) := by go_simp
 have d7 : (w.alloc (.cells #[.float .f64 x, .float .f64 y] 28)).drew.cell? ⟨w.heap.size, 1, none⟩ = some (.float .f64 y) := by go_simp
 clear h0 h1 h2 h3 h4 h5
 by_cases hz0 : z = 0
 · subst hz0
   have ed : decide ((0 : Int) ≠ 0) = false := rfl
   rw [ed]
   clear ed
   go_enter Try.func31, Try.ntmps31
   go_wp2_with fail
   refine wp_region_held_drew (S := (fun W => W.cell? ⟨B, 0, none⟩ = some (.slice (some ⟨g, off, none⟩) n c) ∧ W.cell? ⟨g, off, none⟩ = some (.float .f64 x0) ∧ W.cell? ⟨g, off + 1, none⟩ = some (.float .f64 y0) ∧ W.cell? ⟨S, 0, none⟩ = some (.int .i64 (k : Int)) ∧ W.cell? ⟨g, off + k * 2, none⟩ = some (.float .f64 xk) ∧ W.cell? ⟨g, off + k * 2 + 1, none⟩ = some (.float .f64 yk) ∧ W.cell? ⟨w.heap.size, 0, none⟩ = some (.float .f64 x) ∧ W.cell? ⟨w.heap.size, 1, none⟩ = some (.float .f64 y) ∧ Below w.heap.size w W)) (by kernel_rfl) ⟨d0, d1, d2, d3, d4, d5, d6, d7, HB1.out.drew⟩ (fun hS => ?_)
   refine takA (i := 0) (d := some 5) (v := .slice (some ⟨g, off, none⟩) n c) hS ?_
   simp only [AP]
   refine takA (i := 1) (d := some 6) (v := .pointer (some ⟨g, off, none⟩)) hS ?_
   simp only [AP]
   refine takA (i := 2) (d := some 7) (v := .agg #[.float .f64 x0, .float .f64 y0]) hS ?_
   simp only [AP]
   refine takA (i := 3) (d := some 8) (v := .slice (some ⟨g, off, none⟩) n c) hS ?_
   simp only [AP]
   refine takA (i := 4) (d := some 9) (v := .int .i64 (k : Int)) hS ?_
   simp only [AP]
   refine takA (i := 5) (d := some 10) (v := .pointer (some ⟨g, off + k * 2, none⟩)) hS ?_
   simp only [AP]
   refine takA (i := 6) (d := some 11) (v := .agg #[.float .f64 xk, .float .f64 yk]) hS ?_
   simp only [AP]
   refine takA (i := 7) (d := some 12) (v := .agg #[.float .f64 x, .float .f64 y]) hS ?_
   simp only [AP]
   refine calA 8 fun KF hK => ?_
   go_simp
   refine (sign3_any x0 y0 xk yk x y _ HW.out).mono ?_
   rintro e wx ⟨rfl, hbx⟩
   rw [hz.out]
   go_wp2_with fail
   refine hK.out _ _ (keepF hS hbx) ?_
   clear hS hbx
   intro hS
   clear hK KF
   try simp only [AP]
   refine takA (i := 9) (d := some 14) (v := .bool false) hS ?_
   simp only [AP]
   refine takA (i := 10) (d := some 4) (v := .bool false) hS ?_
   simp only [AP]
   refine wpAnyH_done (by kernel_rfl) ?_ _
   have HD : Hid (Below w.heap.size w _) := hS.2.2.2.2.2.2.2.2
   clear hS
   go_wp2
   go_ret
   exact ⟨rfl, HD.out⟩
 · have ed : decide (z ≠ 0) = true := decide_eq_true hz0
   rw [ed]
   clear ed
   go_enter Try.func31, Try.ntmps31
   go_wp2_with fail
   refine wp_region_held_drew (S := (fun W => W.cell? ⟨B, 0, none⟩ = some (.slice (some ⟨g, off, none⟩) n c) ∧ W.cell? ⟨g, off, none⟩ = some (.float .f64 x0) ∧ W.cell? ⟨g, off + 1, none⟩ = some (.float .f64 y0) ∧ W.cell? ⟨S, 0, none⟩ = some (.int .i64 (k : Int)) ∧ W.cell? ⟨g, off + k * 2, none⟩ = some (.float .f64 xk) ∧ W.cell? ⟨g, off + k * 2 + 1, none⟩ = some (.float .f64 yk) ∧ W.cell? ⟨w.heap.size, 0, none⟩ = some (.float .f64 x) ∧ W.cell? ⟨w.heap.size, 1, none⟩ = some (.float .f64 y) ∧ Below w.heap.size w W)) (by kernel_rfl) ⟨d0, d1, d2, d3, d4, d5, d6, d7, HB1.out.drew⟩ (fun hS => ?_)
   refine takA (i := 0) (d := some 5) (v := .slice (some ⟨g, off, none⟩) n c) hS ?_
   simp only [AP]
   refine takA (i := 1) (d := some 6) (v := .pointer (some ⟨g, off, none⟩)) hS ?_
   simp only [AP]
   refine takA (i := 2) (d := some 7) (v := .agg #[.float .f64 x0, .float .f64 y0]) hS ?_
   simp only [AP]
   refine takA (i := 3) (d := some 8) (v := .slice (some ⟨g, off, none⟩) n c) hS ?_
   simp only [AP]
   refine takA (i := 4) (d := some 9) (v := .int .i64 (k : Int)) hS ?_
   simp only [AP]
   refine takA (i := 5) (d := some 10) (v := .pointer (some ⟨g, off + k * 2, none⟩)) hS ?_
   simp only [AP]
   refine takA (i := 6) (d := some 11) (v := .agg #[.float .f64 xk, .float .f64 yk]) hS ?_
   simp only [AP]
   refine takA (i := 7) (d := some 12) (v := .agg #[.float .f64 x, .float .f64 y]) hS ?_
   simp only [AP]
   refine calA 8 fun KF hK => ?_
   go_simp
   refine (sign3_any x0 y0 xk yk x y _ HW.out).mono ?_
   rintro e wx ⟨rfl, hbx⟩
   rw [hz.out]
   go_wp2_with fail
   refine hK.out _ _ (keepF hS hbx) ?_
   clear hS hbx
   intro hS
   clear hK KF
   try simp only [AP]
   refine takA (i := 9) (d := some 14) (v := .bool true) hS ?_
   simp only [AP]
   refine takA (i := 10) (d := some 4) (v := .bool true) hS ?_
   simp only [AP]
   refine wpAnyH_done (by kernel_rfl) ?_ _
   have HD : Hid (Below w.heap.size w _) := hS.2.2.2.2.2.2.2.2
   clear hS
   go_wp2
   go_ret
   exact ⟨rfl, HD.out⟩
end

/- Package admit: Flat, whole. -/
section
open Go.RowKit Go.Shelf Go.Sort Go.Lib
attribute [local go_sem ↓] Go.wp_at_zero Go.wp_at_succ
attribute [local go_sem] run_store_float
theorem least_of {P : Nat → Prop} (k : Nat) : P k → ∃ m, m ≤ k ∧ P m ∧ ∀ j, j < m → ¬ P j := by
 induction k using Nat.strongRecOn with
 | ind k ih =>
   intro h
   by_cases e : ∃ j, j < k ∧ P j
   · obtain ⟨j, hj, hp⟩ := e
     obtain ⟨m, h1, h2, h3⟩ := ih j hj hp
     exact ⟨m, by omega, h2, h3⟩
   · exact ⟨k, Nat.le_refl _, h, fun j hj hp => e ⟨j, hj, hp⟩⟩
abbrev PW := {p : Nat × Nat // WdP p}
instance : Inhabited PW := ⟨⟨(0, 0), by unfold WdP; decide⟩⟩
def encP (x : PW) : List Value := [.float .f64 x.1.1, .float .f64 x.1.2]
def zsP (f : Nat → Nat × Nat) (hw : ∀ k, WdP (f k)) (k m : Nat) : List PW := (List.range m).map fun j => ⟨f (k + j), hw _⟩
theorem zsP_len (f : Nat → Nat × Nat) (hw : ∀ k, WdP (f k)) (k m : Nat) : (zsP f hw k m).length = m := by simp [zsP]
theorem zsP_at (f : Nat → Nat × Nat) (hw : ∀ k, WdP (f k)) (k m j : Nat) (hj : j < m) : (zsP f hw k m)[j]! = ⟨f (k + j), hw _⟩ := by
 rw [getElem!_pos _ j (by rw [zsP_len]; exact hj)]
 simp [zsP]
theorem encP_cells {w : World} {g off : Nat} {f : Nat → Nat × Nat} (hw : ∀ k, WdP (f k)) (k m : Nat) (hc : ∀ j, j < k + m → w.cell? ⟨g, off + j * 2, none⟩ = some (.float .f64 (f j).1) ∧ w.cell? ⟨g, off + j * 2 + 1, none⟩ = some (.float .f64 (f j).2)) :
   ∀ j, j < (zsP f hw k m).length → ∀ i v, (encP (zsP f hw k m)[j]!)[i]? = some v → w.cell? ⟨g, off + k * 2 + j * 2 + i, none⟩ = some v := by
 intro j hj i v hi
 rw [zsP_len] at hj
 rw [zsP_at f hw k m j hj] at hi
 have h := hc (k + j) (by omega)
 rw [show off + (k + j) * 2 = off + k * 2 + j * 2 by omega] at h
 match i, hi with
 | 0, hi => simp [encP] at hi; rw [← hi]; exact h.1
 | 1, hi => simp [encP] at hi; rw [← hi]; exact h.2
 | i + 2, hi => simp [encP] at hi
theorem index0_any (a : Option Addr) (c : Nat) (v : Value) (w : World) : Calls Try.prog 28 #[.slice a 0 c, v] w fun e w' => e = .returned (.int .i64 (-1)) ∧ w' = w := by
 go_enter Try.func28, Try.ntmps28
 go_wp2
 refine wp_loop_rounds 1 ?_
 rw [rounds_succ]
 go_wp2
 go_ret
 exact ⟨rfl, rfl⟩
theorem index_any (f : Nat → Nat × Nat) (B g off n c : Nat) (hn : 0 < n) (hn2 : n ≤ 1048576) (w : World) (h : Cl w B g off n c f) (hw : ∀ k, WdP (f k)) :
   Calls Try.prog 28 #[.slice (some ⟨g, off, none⟩) n c, .func (.func 29) #[] #[.pointer (some ⟨B, 0, none⟩)]] w fun e w' =>
     ((∃ k : Nat, k < n ∧ e = .returned (.int .i64 (k : Int)) ∧ ¬ alike (f 0) (f k) ∧ ∀ j, j < k → alike (f 0) (f j)) ∨ (e = .returned (.int .i64 (-1)) ∧ ∀ j, j < n → alike (f 0) (f j))) ∧ Below w.heap.size w w' := by
 have hp0 := h.pt 0 hn
 simp only [Nat.zero_mul, Nat.add_zero] at hp0
 have hg : g < w.heap.size := World.block_lt_of_cell? _ _ hp0.1
 have eg : ∀ args w, (callFunc 29 args).run Try.prog w = .ok (.enter 29 args) w := enters_of Try.func29 (by kernel_rfl) rfl
 have hp : PredBelow Try.prog 29 #[.pointer (some ⟨B, 0, none⟩)] (fun x : PW => .agg (encP x).toArray) (fun x => !eqW x.1 (f 0)) w := fun W x hb =>
   (flat1_any B g off n c x.1.1 x.1.2 (f 0).1 (f 0).2 hn W (box_cell hb h.box) (box_cell hb hp0.1) (box_cell hb hp0.2)).mono fun e w' ⟨h1, h2⟩ => ⟨h1, below_step hb h2⟩
 have hS := AnyQ.slices_IndexFunc Try.indexL 2 Try.isAgg28 Try.sizeOf28 encP (fun _ => rfl) (fun x => !eqW x.1 (f 0)) 29 #[.pointer (some ⟨B, 0, none⟩)] eg g off n c (zsP f hw 0 n) w hp (by rw [zsP_len]; exact Nat.le_refl _) (by omega) hg
   (fun j hj i v hi => by have := encP_cells (w := w) (g := g) (off := off) hw 0 n (fun j hj => h.pt j (by omega)) j hj i v hi; simpa using this)
 change Calls Try.prog 28 _ _ _ at hS
 have ek : ∀ j, j < n → ((!eqW (zsP f hw 0 n)[j]!.1 (f 0)) = true ↔ ¬ alike (f 0) (f j)) := by
   intro j hj
   rw [zsP_at f hw 0 n j hj, Nat.zero_add, eqW_is (h.fin j hj) (h.fin 0 hn)]
   have : alike (f j) (f 0) ↔ alike (f 0) (f j) := ⟨alike_symm', alike_symm'⟩
   simp [this]
 refine hS.mono ?_
 rintro e w' ⟨rfl, hb⟩
 refine ⟨?_, hb⟩
 by_cases hex : ∃ k, k < n ∧ ¬ alike (f 0) (f k)
 · obtain ⟨k, hk, hk2⟩ := hex
   obtain ⟨m, h1, h2, h3⟩ := least_of (P := fun k => ¬ alike (f 0) (f k)) k hk2
   have hm : m < n := by omega
   refine Or.inl ⟨m, hm, ?_, h2, fun j hj => Classical.byContradiction fun hh => h3 j hj hh⟩
   rw [Lib.idxBy_hit (fun _ y => !eqW y.1 (f 0)) (zsP f hw 0 n) n m default hm (by rw [zsP_len]; exact Nat.le_refl _) ((ek m hm).2 h2) (fun j hj => by
     rw [← Bool.not_eq_true]
     exact fun hh => h3 j hj ((ek j (by omega)).1 hh))]
 · refine Or.inr ⟨?_, fun j hj => Classical.byContradiction fun hh => hex ⟨j, hj, hh⟩⟩
   rw [Lib.idxBy_miss (fun _ y => !eqW y.1 (f 0)) (zsP f hw 0 n) n default (fun j hj => by
     rw [← Bool.not_eq_true]
     exact fun hh => hex ⟨j, hj, (ek j hj).1 hh⟩)]
theorem W6.of {p q r : Nat × Nat} (hp : WdP p) (hq : WdP q) (hr : WdP r) : W6 p.1 p.2 q.1 q.2 r.1 r.2 := ⟨hp, hq, hr⟩
theorem contains_any (f : Nat → Nat × Nat) (B S g off n c k : Nat) (hk : k < n) (hn2 : n ≤ 1048576) (w : World) (h : Cl w B g off n c f) (hs : w.cell? ⟨S, 0, none⟩ = some (.int .i64 (k : Int))) (hw : ∀ k, WdP (f k)) (hm : ∀ j, j < n → PtP (f j)) :
   Calls Try.prog 30 #[.slice (some ⟨g, off + k * 2, none⟩) (n - k) (c - k), .func (.func 31) #[] #[.pointer (some ⟨B, 0, none⟩), .pointer (some ⟨S, 0, none⟩)]] w fun e w' =>
     (∃ t, e = .returned (.bool t) ∧ (t = false ↔ ∀ j, k ≤ j → j < n → S3p (f 0) (f k) (f j) = 0)) ∧ Below w.heap.size w w' := by
 have hp0 := h.pt 0 (by omega)
 simp only [Nat.zero_mul, Nat.add_zero] at hp0
 have hpk := h.pt k hk
 have hg : g < w.heap.size := World.block_lt_of_cell? _ _ hp0.1
 have eg : ∀ args w, (callFunc 31 args).run Try.prog w = .ok (.enter 31 args) w := enters_of Try.func31 (by kernel_rfl) rfl
 have hp : PredBelow Try.prog 31 #[.pointer (some ⟨B, 0, none⟩), .pointer (some ⟨S, 0, none⟩)] (fun x : PW => .agg (encP x).toArray) (fun x => decide (sg3 (f 0).1 (f 0).2 (f k).1 (f k).2 x.1.1 x.1.2 ≠ 0)) w := fun W x hb =>
   (flat2_any B S g off n c k x.1.1 x.1.2 (f 0).1 (f 0).2 (f k).1 (f k).2 hk W (box_cell hb h.box) (box_cell hb hp0.1) (box_cell hb hp0.2) (box_cell hb hs) (box_cell hb hpk.1) (box_cell hb hpk.2) (W6.of (hw 0) (hw k) x.2)).mono fun e w' ⟨h1, h2⟩ => ⟨h1, below_step hb h2⟩
 have hS := AnyQ.slices_ContainsFunc Try.containsL 2 Try.isAgg28 Try.sizeOf28 encP (fun _ => rfl) (fun x => decide (sg3 (f 0).1 (f 0).2 (f k).1 (f k).2 x.1.1 x.1.2 ≠ 0)) 31 #[.pointer (some ⟨B, 0, none⟩), .pointer (some ⟨S, 0, none⟩)] eg g (off + k * 2) (n - k) (c - k) (zsP f hw k (n - k)) w hp (by rw [zsP_len]; exact Nat.le_refl _) (by omega) hg
   (fun j hj i v hi => encP_cells (w := w) (g := g) (off := off) hw k (n - k) (fun j hj => h.pt j (by omega)) j hj i v hi)
 change Calls Try.prog 30 _ _ _ at hS
 refine hS.mono ?_
 rintro e w' ⟨rfl, hb⟩
 refine ⟨⟨_, rfl, ?_⟩, hb⟩
 rw [List.take_of_length_le (by rw [zsP_len]; exact Nat.le_refl _), List.any_eq_false]
 constructor
 · intro hh j hj hjn
   have h1 := hh ⟨f j, hw j⟩ (by
     unfold zsP
     rw [List.mem_map]
     exact ⟨j - k, by rw [List.mem_range]; omega, by congr 2; omega⟩)
   simp only [ne_eq, decide_not, Bool.not_eq_true', decide_eq_false_iff_not, Classical.not_not] at h1
   rw [sg3_yes ⟨hm 0 (by omega), hm k hk, hm j hjn⟩, sgq_zero] at h1
   exact h1
 · intro hh x hx
   unfold zsP at hx
   rw [List.mem_map] at hx
   obtain ⟨i, hi, rfl⟩ := hx
   rw [List.mem_range] at hi
   have h1 := hh (k + i) (by omega) (by omega)
   have h2 : sg3 (f 0).1 (f 0).2 (f k).1 (f k).2 (f (k + i)).1 (f (k + i)).2 = 0 := by
     rw [sg3_yes ⟨hm 0 (by omega), hm k hk, hm (k + i) (by omega)⟩, sgq_zero]; exact h1
   simp [h2]
set_option maxRecDepth 100000 in
set_option maxHeartbeats 4000000 in
theorem flat_any (s : Value) (n : Nat) (f : Nat → Nat × Nat) (w : World) (h : Ps w s n f) : Calls Try.prog 16 #[s] w fun e w' => (∃ t, e = .returned (.bool t) ∧ (t = true ↔ MayL n f ∧ FlatP f n)) ∧ Below w.heap.size w w' := by
 have HF : Hid (Ps w s n f) := h
 obtain ⟨a, c, rfl, hc, hm⟩ := h.shape
 clear h
 have HB0 : Hid (Below w.heap.size w (w.alloc (.cells #[.slice a n c] 30))) := (Below.refl _ w).alloc (Nat.le_refl _) _
 have HF0 : Hid (Ps (w.alloc (.cells #[.slice a n c] 30)) (.slice a n c) n f) := HF.out.later HB0.out
 have HX0 : Hid ((w.alloc (.cells #[.slice a n c] 30)).cell? ⟨w.heap.size, 0, none⟩ = some (.slice a n c)) := by show _ = _; go_simp
 go_enter Try.func16, Try.ntmps16
 go_wp2_with fail
 refine (allMay_any _ n f _ HF0.out).mono ?_
 rintro e w1 ⟨⟨t, rfl, ht⟩, hb⟩
 have HB : Hid (Below w.heap.size w w1) := below_step HB0.out hb
 have HT : Hid (t = true ↔ MayL n f) := ht
 have hx1 := box_cell hb HX0.out
 clear hb ht HF0 HX0 HB0
 cases t
 · go_wp2
   go_ret
   exact ⟨⟨false, rfl, fun h => Bool.noConfusion h, fun h => Bool.noConfusion (HT.out.2 h.1)⟩, HB.out⟩
 · have HM : Hid (MayL n f) := HT.out.1 rfl
   have HX1 : Hid (w1.cell? ⟨w.heap.size, 0, none⟩ = some (.slice a n c)) := hx1
   clear HT
   have HI : Hid (Calls Try.prog 28 #[.slice a n c, .func (.func 29) #[] #[.pointer (some ⟨w.heap.size, 0, none⟩)]] w1 fun e w' =>
     ((∃ k : Nat, k < n ∧ e = .returned (.int .i64 (k : Int)) ∧ ¬ alike (f 0) (f k) ∧ ∀ j, j < k → alike (f 0) (f j)) ∨ (e = .returned (.int .i64 (-1)) ∧ ∀ j, j < n → alike (f 0) (f j))) ∧ Below w1.heap.size w1 w') := by
     by_cases h0 : n = 0
     · subst h0
       exact (index0_any a c _ w1).mono fun e w' ⟨h1, h2⟩ => by subst h2; exact ⟨Or.inr ⟨h1, fun j hj => absurd hj (Nat.not_lt_zero _)⟩, Below.refl _ _⟩
     · obtain ⟨g, off, rfl, hg, hcell⟩ := HF.out.some (Nat.pos_of_ne_zero h0)
       exact index_any f w.heap.size g off n c (Nat.pos_of_ne_zero h0) HM.out.1 w1 ⟨HX1.out, fun k hk => ⟨box_cell HB.out (hcell k hk).1, box_cell HB.out (hcell k hk).2⟩, fun k hk => HM.out.fin k hk⟩ HF.out.word
   go_wp2_with fail
   refine HI.out.mono ?_
   rintro e w2 ⟨h2, hb2⟩
   have HB2 : Hid (Below w.heap.size w w2) := HB.out.trans (hb2.mono HB.out.size)
   have hx2 := box_cell hb2 HX1.out
   clear hb2 HI hx1
   rcases h2 with ⟨k, hk, rfl, hun, hal⟩ | ⟨rfl, hal⟩
   · have HK : Hid (¬ alike (f 0) (f k) ∧ ∀ j, j < k → alike (f 0) (f j)) := ⟨hun, hal⟩
     obtain ⟨g, off, rfl, hg, hcell⟩ := HF.out.some (by omega)
     have HC : Hid (Cl w2 w.heap.size g off n c f) := ⟨hx2, fun k hk => ⟨box_cell HB2.out (hcell k hk).1, box_cell HB2.out (hcell k hk).2⟩, fun k hk => HM.out.fin k hk⟩
     have HX2 : Hid (w.heap.size < w2.heap.size) := World.block_lt_of_cell? _ _ hx2
     have hk0 : ¬ (k : Int) < 0 := by omega
     have hk1 : (k : Int) ≤ (n : Int) := by omega
     have hk2 : (0 : Int) ≤ (k : Int) := by omega
     have hk3 : ¬ c - k = 0 := by omega
     have HB3 : Hid (Below w2.heap.size w2 (w2.alloc (.cells #[.int .i64 (k : Int)] 3))) := (Below.refl _ w2).alloc (Nat.le_refl _) _
     have hs3 : (w2.alloc (.cells #[.int .i64 (k : Int)] 3)).cell? ⟨w2.heap.size, 0, none⟩ = some (.int .i64 (k : Int)) := by go_simp
     have HS : Hid (Calls Try.prog 30 #[.slice (some ⟨g, off + k * 2, none⟩) (n - k) (c - k), .func (.func 31) #[] #[.pointer (some ⟨w.heap.size, 0, none⟩), .pointer (some ⟨w2.heap.size, 0, none⟩)]] (w2.alloc (.cells #[.int .i64 (k : Int)] 3)) fun e w' =>
         (∃ t, e = .returned (.bool t) ∧ (t = false ↔ ∀ j, k ≤ j → j < n → S3p (f 0) (f k) (f j) = 0)) ∧ Below (w2.alloc (.cells #[.int .i64 (k : Int)] 3)).heap.size (w2.alloc (.cells #[.int .i64 (k : Int)] 3)) w') :=
       contains_any f w.heap.size w2.heap.size g off n c k hk HM.out.1 _ (HC.out.later HB3.out) hs3 HF.out.word HM.out.2
     have hx3 := box_cell HB3.out hx2
     clear hun hal hcell hx2
     have hne : w.heap.size ≠ w2.heap.size := by have := HX2.out; omega
     go_wp2_with fail
     refine HS.out.mono ?_
     rintro e w3 ⟨⟨t, rfl, ht⟩, hb3⟩
     have HT : Hid (t = false ↔ ∀ j, k ≤ j → j < n → S3p (f 0) (f k) (f j) = 0) := ht
     have HB4 : Hid (Below w.heap.size w w3) := (HB2.out.trans (HB3.out.mono HB2.out.size)).trans (hb3.mono (by simp; have := HX2.out; omega))
     clear ht hb3 HS
     go_wp2
     go_ret
     refine ⟨⟨!t, rfl, ?_⟩, HB4.out⟩
     rw [Bool.not_eq_true', HT.out, flat_line (t := 0) (s := k) (by omega) hk HK.out.1]
     constructor
     · intro h1
       refine ⟨HM.out, fun j hj => ?_⟩
       by_cases e : j < k
       · exact line_alike (HK.out.2 j e)
       · exact h1 j (by omega) hj
     · intro h1 j _ hj
       exact h1.2 j hj
   · have HA : Hid (∀ j, j < n → alike (f 0) (f j)) := hal
     clear hal
     go_wp2
     go_ret
     exact ⟨⟨true, rfl, fun _ => ⟨HM.out, flat_alike HA.out⟩, fun _ => rfl⟩, (HB2.out.alloc HB2.out.size _)⟩
end

/- The statements' helper of package admit: works; and Cmp. -/
section
open Go.RowKit Go.Shelf Go.Sort Go.Lib
attribute [local go_sem ↓] Go.wp_at_zero Go.wp_at_succ
attribute [local go_sem] run_store_float
instance (f : Nat → Nat × Nat) (i j : Nat) : Decidable (ltO f i j) := by unfold ltO; exact inferInstance
instance (p q r : Nat × Nat) : Decidable (S3p p q r = 0) := inferInstance
def fL (l : List (Nat × Nat)) (k : Nat) : Nat × Nat := l.getD k (0, 0)
theorem fL_word {l : List (Nat × Nat)} (h : ∀ p ∈ l, WdP p) (k : Nat) : WdP (fL l k) := by
 unfold fL
 by_cases hk : k < l.length
 · simp only [List.getD, hk, List.getElem?_eq_getElem, Option.getD_some]
   exact h _ (List.getElem_mem hk)
 · simp only [List.getD, List.getElem?_eq_none (Nat.le_of_not_lt hk), Option.getD_none]
   unfold WdP; decide
instance (p : Nat × Nat) : Decidable (WdP p) := by unfold WdP; exact inferInstance
instance (p : Nat × Nat) : Decidable (PtP p) := inferInstance
def l4 : List (Nat × Nat) := [(4607182418800017408, 0), (0, 0), (4607182418800017408, 0), (0, 13830554455654793216)]
def l3 : List (Nat × Nat) := [(0, 0), (4607182418800017408, 4607182418800017408), (4611686018427387904, 4611686018427387904)]
theorem l4_may : MayL 4 (fL l4) := ⟨by omega, by decide +kernel⟩
theorem l4_ord : Ord (fL l4) 4 [3, 1, 0, 2] := ⟨by decide, by decide +kernel⟩
theorem l4_tw : tw (fL l4) 0 = 0 ∧ tw (fL l4) 1 = 1 ∧ tw (fL l4) 2 = 0 ∧ tw (fL l4) 3 = 3 := by decide +kernel
theorem l4_un : [3, 1, 0, 2].filter (fun i => decide (tw (fL l4) i = i)) = [3, 1, 0] := by decide +kernel
theorem l4_flat : ¬ FlatP (fL l4) 4 := fun h => absurd (h 0 1 3 (by omega) (by omega) (by omega)) (by decide +kernel)
theorem l3_may : MayL 3 (fL l3) := ⟨by omega, by decide +kernel⟩
theorem l3_flat : FlatP (fL l3) 3 := (flat_line (t := 0) (s := 1) (by omega) (by omega) (by decide +kernel)).2 (by decide +kernel)
set_option maxRecDepth 100000 in
theorem cmp7_any (p q : Nat × Nat) (w : World) (hp : WdP p) (hq : WdP q) : Calls Try.prog 18 #[pv p.1 p.2, pv q.1 q.2] w fun e w' => e = .returned (.int .i64 (if PtP p ∧ PtP q then hold p q else 0)) ∧ Below w.heap.size w w' := by
 obtain ⟨px, py⟩ := p
 obtain ⟨qx, qy⟩ := q
 have HW : Hid (WdP (px, py) ∧ WdP (qx, qy)) := ⟨hp, hq⟩
 clear hp hq
 obtain ⟨z, hz⟩ : ∃ z, Hid ((if PtP (px, py) ∧ PtP (qx, qy) then hold (px, py) (qx, qy) else 0) = z) := ⟨_, rfl⟩
 rw [hz.out]
 have HB0 : Hid (Below w.heap.size w ((w.alloc (.cells #[.float .f64 px, .float .f64 py] 28)).alloc (.cells #[.float .f64 qx, .float .f64 qy] 28))) := ((Below.refl _ w).alloc (Nat.le_refl _) _).alloc (by simp) _
 have hh := has2 px py qx qy ((w.alloc (.cells #[.float .f64 px, .float .f64 py] 28)).alloc (.cells #[.float .f64 qx, .float .f64 qy] 28)) HW.out.1 HW.out.2
 have e1 : ((w.alloc (.cells #[.float .f64 px, .float .f64 py] 28)).alloc (.cells #[.float .f64 qx, .float .f64 qy] 28)).heap.size = w.heap.size + 1 + 1 := by simp
 rw [e1] at hh
 have HH : Hid (Calls Try.prog 26 #[.slice (some ⟨w.heap.size + 1 + 1, 0, none⟩) 2 2] (((w.alloc (.cells #[.float .f64 px, .float .f64 py] 28)).alloc (.cells #[.float .f64 qx, .float .f64 qy] 28)).alloc (.cells #[.float .f64 px, .float .f64 py, .float .f64 qx, .float .f64 qy] 28)) fun e w' => (∃ t, e = .returned (.bool t) ∧ (t = true ↔ Pt px py ∧ Pt qx qy)) ∧ Below (w.heap.size + 1 + 1) ((w.alloc (.cells #[.float .f64 px, .float .f64 py] 28)).alloc (.cells #[.float .f64 qx, .float .f64 qy] 28)) w') := hh
 have d1 : ((w.alloc (.cells #[.float .f64 px, .float .f64 py] 28)).alloc (.cells #[.float .f64 qx, .float .f64 qy] 28)).cell? ⟨w.heap.size, 0, none⟩ = some (.float .f64 px) := by go_simp
 have d2 : ((w.alloc (.cells #[.float .f64 px, .float .f64 py] 28)).alloc (.cells #[.float .f64 qx, .float .f64 qy] 28)).cell? ⟨w.heap.size, 1, none⟩ = some (.float .f64 py) := by go_simp
 have d3 : ((w.alloc (.cells #[.float .f64 px, .float .f64 py] 28)).alloc (.cells #[.float .f64 qx, .float .f64 qy] 28)).cell? ⟨w.heap.size + 1, 0, none⟩ = some (.float .f64 qx) := by go_simp
 have d4 : ((w.alloc (.cells #[.float .f64 px, .float .f64 py] 28)).alloc (.cells #[.float .f64 qx, .float .f64 qy] 28)).cell? ⟨w.heap.size + 1, 1, none⟩ = some (.float .f64 qy) := by go_simp
 have HD : Hid (Hid (((w.alloc (.cells #[.float .f64 px, .float .f64 py] 28)).alloc (.cells #[.float .f64 qx, .float .f64 qy] 28)).heap.size = w.heap.size + 1 + 1) ∧ ((w.alloc (.cells #[.float .f64 px, .float .f64 py] 28)).alloc (.cells #[.float .f64 qx, .float .f64 qy] 28)).cell? ⟨w.heap.size, 0, none⟩ = some (.float .f64 px) ∧ ((w.alloc (.cells #[.float .f64 px, .float .f64 py] 28)).alloc (.cells #[.float .f64 qx, .float .f64 qy] 28)).cell? ⟨w.heap.size, 1, none⟩ = some (.float .f64 py) ∧ ((w.alloc (.cells #[.float .f64 px, .float .f64 py] 28)).alloc (.cells #[.float .f64 qx, .float .f64 qy] 28)).cell? ⟨w.heap.size + 1, 0, none⟩ = some (.float .f64 qx) ∧ ((w.alloc (.cells #[.float .f64 px, .float .f64 py] 28)).alloc (.cells #[.float .f64 qx, .float .f64 qy] 28)).cell? ⟨w.heap.size + 1, 1, none⟩ = some (.float .f64 qy)) := ⟨e1, d1, d2, d3, d4⟩
 clear hh e1 d1 d2 d3 d4
 go_enter Try.func18, Try.ntmps18
 go_wp2_with fail
 refine HH.out.mono ?_
 rintro e w1 ⟨⟨t, rfl, ht⟩, hb⟩
 have HT : Hid (t = true ↔ Pt px py ∧ Pt qx qy) := ht
 have hb' := hb
 rw [← HD.out.1.out] at hb'
 have HB1 : Hid (Below w.heap.size w w1) := below_step HB0.out hb'
 have c1 := box_cell hb' HD.out.2.1
 have c2 := box_cell hb' HD.out.2.2.1
 have c3 := box_cell hb' HD.out.2.2.2.1
 have c4 := box_cell hb' HD.out.2.2.2.2
 clear ht hb hb' HD HH HB0
 cases t
 · have HN : Hid (¬ (PtP (px, py) ∧ PtP (qx, qy))) := fun h => Bool.noConfusion (HT.out.2 h)
   go_wp2
   go_ret
   exact ⟨by rw [← hz.out, if_neg HN.out]; rfl, HB1.out⟩
 · have HN : Hid (PtP (px, py) ∧ PtP (qx, qy)) := HT.out.1 rfl
   go_wp2_with fail
   refine (held_any px py qx qy (crd_fin' HN.out.1) (crd_fin' HN.out.2) _).mono ?_
   rintro e w2 ⟨rfl, hg⟩
   have HB2 : Hid (Below w.heap.size w w2) := below_step HB1.out hg.below
   clear hg
   go_wp2
   go_ret
   exact ⟨by rw [← hz.out, if_pos HN.out]; rfl, HB2.out⟩
theorem psOf4 {w : World} {g x0 y0 x1 y1 x2 y2 x3 y3 : Nat} (hg : g < w.heap.size) (h0 : w.cell? ⟨g, 0, none⟩ = some (.float .f64 x0)) (h1 : w.cell? ⟨g, 1, none⟩ = some (.float .f64 y0)) (h2 : w.cell? ⟨g, 2, none⟩ = some (.float .f64 x1)) (h3 : w.cell? ⟨g, 3, none⟩ = some (.float .f64 y1)) (h4 : w.cell? ⟨g, 4, none⟩ = some (.float .f64 x2)) (h5 : w.cell? ⟨g, 5, none⟩ = some (.float .f64 y2)) (h6 : w.cell? ⟨g, 6, none⟩ = some (.float .f64 x3)) (h7 : w.cell? ⟨g, 7, none⟩ = some (.float .f64 y3))
   (hw : ∀ p ∈ [(x0, y0), (x1, y1), (x2, y2), (x3, y3)], WdP p) : Ps w (.slice (some ⟨g, 0, none⟩) 4 4) 4 (fL [(x0, y0), (x1, y1), (x2, y2), (x3, y3)]) :=
 ⟨⟨some ⟨g, 0, none⟩, 4, rfl, by omega, by omega, Or.inr ⟨g, 0, rfl, hg, fun k hk => by
   have : k = 0 ∨ k = 1 ∨ k = 2 ∨ k = 3 := by omega
   rcases this with rfl | rfl | rfl | rfl
   · exact ⟨h0, h1⟩
   · exact ⟨h2, h3⟩
   · exact ⟨h4, h5⟩
   · exact ⟨h6, h7⟩⟩⟩, fL_word hw⟩
theorem psOf3 {w : World} {g x0 y0 x1 y1 x2 y2 : Nat} (hg : g < w.heap.size) (h0 : w.cell? ⟨g, 0, none⟩ = some (.float .f64 x0)) (h1 : w.cell? ⟨g, 1, none⟩ = some (.float .f64 y0)) (h2 : w.cell? ⟨g, 2, none⟩ = some (.float .f64 x1)) (h3 : w.cell? ⟨g, 3, none⟩ = some (.float .f64 y1)) (h4 : w.cell? ⟨g, 4, none⟩ = some (.float .f64 x2)) (h5 : w.cell? ⟨g, 5, none⟩ = some (.float .f64 y2))
   (hw : ∀ p ∈ [(x0, y0), (x1, y1), (x2, y2)], WdP p) : Ps w (.slice (some ⟨g, 0, none⟩) 3 3) 3 (fL [(x0, y0), (x1, y1), (x2, y2)]) :=
 ⟨⟨some ⟨g, 0, none⟩, 3, rfl, by omega, by omega, Or.inr ⟨g, 0, rfl, hg, fun k hk => by
   have : k = 0 ∨ k = 1 ∨ k = 2 := by omega
   rcases this with rfl | rfl | rfl
   · exact ⟨h0, h1⟩
   · exact ⟨h2, h3⟩
   · exact ⟨h4, h5⟩⟩⟩, fL_word hw⟩
theorem psNew4 (w : World) (x0 y0 x1 y1 x2 y2 x3 y3 : Nat) (hw : ∀ p ∈ [(x0, y0), (x1, y1), (x2, y2), (x3, y3)], WdP p) : Ps (w.alloc (.cells #[.float .f64 x0, .float .f64 y0, .float .f64 x1, .float .f64 y1, .float .f64 x2, .float .f64 y2, .float .f64 x3, .float .f64 y3] 28)) (.slice (some ⟨w.heap.size, 0, none⟩) 4 4) 4 (fL [(x0, y0), (x1, y1), (x2, y2), (x3, y3)]) :=
 psOf4 (by simp) (by go_simp) (by go_simp) (by go_simp) (by go_simp) (by go_simp) (by go_simp) (by go_simp) (by go_simp) hw
theorem psNew3 (w : World) (x0 y0 x1 y1 x2 y2 : Nat) (hw : ∀ p ∈ [(x0, y0), (x1, y1), (x2, y2)], WdP p) : Ps (w.alloc (.cells #[.float .f64 x0, .float .f64 y0, .float .f64 x1, .float .f64 y1, .float .f64 x2, .float .f64 y2] 28)) (.slice (some ⟨w.heap.size, 0, none⟩) 3 3) 3 (fL [(x0, y0), (x1, y1), (x2, y2)]) :=
 psOf3 (by simp) (by go_simp) (by go_simp) (by go_simp) (by go_simp) (by go_simp) (by go_simp) hw
set_option maxRecDepth 100000 in
set_option maxHeartbeats 4000000 in
theorem works7_any (w : World) : Calls Try.prog 8 #[] w fun e w' => e = .returned (.bool true) ∧ Below w.heap.size w w' := by
 obtain ⟨w0, hw0⟩ : ∃ w0, w.alloc (.cells #[.float .f64 4607182418800017408, .float .f64 0, .float .f64 0, .float .f64 0, .float .f64 4607182418800017408, .float .f64 0, .float .f64 0, .float .f64 13830554455654793216] 28) = w0 := ⟨_, rfl⟩
 have HB0 : Hid (Below w.heap.size w w0) := by rw [← hw0]; exact (Below.refl _ w).alloc (Nat.le_refl _) _
 have HP0 : Hid (Ps w0 (.slice (some ⟨w.heap.size, 0, none⟩) 4 4) 4 (fL l4)) := by
   rw [← hw0]
   exact psNew4 _ _ _ _ _ _ _ _ _ (by decide)
 go_enter Try.func8, Try.ntmps8
 go_wp2_with fail
 refine (order_any _ 4 (fL l4) w0 HP0.out).mono ?_
 rintro e w1 ⟨h1, hb1⟩
 have HB1 : Hid (Below w.heap.size w w1) := below_step HB0.out hb1
 have HP1 : Hid (Ps w1 (.slice (some ⟨w.heap.size, 0, none⟩) 4 4) 4 (fL l4)) := HP0.out.later hb1
 rcases h1 with ⟨hn, _⟩ | ⟨_, g, os, rfl, _, ho, hi⟩
 · exact absurd l4_may hn
 obtain rfl := (ho.uniq l4_ord)
 have HO : Hid (IRow w1 g 4 (fun k => ([3, 1, 0, 2].getD k 0 : Nat))) := hi
 clear hb1 ho hi hw0 HP0 HB0
 go_wp2_with fail
 refine (twins_any _ 4 (fL l4) _ HP1.out).mono ?_
 rintro e w2 ⟨h2, hb2⟩
 have HB2 : Hid (Below w.heap.size w w2) := below_step HB1.out hb2
 have HP2 : Hid (Ps w2 (.slice (some ⟨w.heap.size, 0, none⟩) 4 4) 4 (fL l4)) := HP1.out.later hb2
 have HO2 : Hid (IRow w2 g 4 (fun k => ([3, 1, 0, 2].getD k 0 : Nat))) := HO.out.later hb2
 rcases h2 with ⟨hn, _⟩ | ⟨_, g2, rfl, _, hi⟩
 · exact absurd l4_may hn
 have HT : Hid (IRow w2 g2 4 (fun k => (tw (fL l4) k : Nat))) := hi
 clear hb2 hi HO HP1 HB1
 go_wp2_with fail
 refine (unlike_any _ 4 (fL l4) _ HP2.out).mono ?_
 rintro e w3 ⟨h3, hb3⟩
 have HB3 : Hid (Below w.heap.size w w3) := below_step HB2.out hb3
 have HP3 : Hid (Ps w3 (.slice (some ⟨w.heap.size, 0, none⟩) 4 4) 4 (fL l4)) := HP2.out.later hb3
 have HO3 : Hid (IRow w3 g 4 (fun k => ([3, 1, 0, 2].getD k 0 : Nat))) := HO2.out.later hb3
 have HT3 : Hid (IRow w3 g2 4 (fun k => (tw (fL l4) k : Nat))) := HT.out.later hb3
 rcases h3 with ⟨hn, _⟩ | ⟨_, g3, os, us, rfl, _, ho, hu, hi⟩
 · exact absurd l4_may hn
 obtain rfl := (ho.uniq l4_ord)
 rw [l4_un] at hu
 subst hu
 have HU : Hid (IRow w3 g3 3 (fun k => ([3, 1, 0].getD k 0 : Nat))) := hi
 clear hb3 ho hi HO2 HT HP2 HB2
 have o0 : w3.cell? ⟨g, 0, none⟩ = some (.int .i64 3) := (HO3.out.cell 0 (by omega)).1
 have o1 : w3.cell? ⟨g, 1, none⟩ = some (.int .i64 1) := (HO3.out.cell 1 (by omega)).1
 have o2 : w3.cell? ⟨g, 2, none⟩ = some (.int .i64 0) := (HO3.out.cell 2 (by omega)).1
 have o3 : w3.cell? ⟨g, 3, none⟩ = some (.int .i64 2) := (HO3.out.cell 3 (by omega)).1
 have t2 := (HT3.out.cell 2 (by omega)).1
 have t3 := (HT3.out.cell 3 (by omega)).1
 have u2 : w3.cell? ⟨g3, 2, none⟩ = some (.int .i64 0) := (HU.out.cell 2 (by omega)).1
 rw [l4_tw.2.2.1] at t2
 rw [l4_tw.2.2.2] at t3
 go_wp2_with fail
 refine (flat_any _ 4 (fL l4) _ HP3.out).mono ?_
 rintro e w4 ⟨⟨t, rfl, ht⟩, hb4⟩
 have HB4 : Hid (Below w.heap.size w w4) := below_step HB3.out hb4
 obtain rfl : t = false := by
   cases t
   · rfl
   · exact absurd (ht.1 rfl).2 l4_flat
 clear ht hb4 HO3 HT3 HU HP3 HB3 o0 o1 o2 o3 t2 t3 u2
 obtain ⟨w5, hw5⟩ : ∃ w5, w4.alloc (.cells #[.float .f64 0, .float .f64 0, .float .f64 4607182418800017408, .float .f64 4607182418800017408, .float .f64 4611686018427387904, .float .f64 4611686018427387904] 28) = w5 := ⟨_, rfl⟩
 have HB5 : Hid (Below w.heap.size w w5) := by rw [← hw5]; exact HB4.out.alloc HB4.out.size _
 have HP5 : Hid (Ps w5 (.slice (some ⟨w4.heap.size, 0, none⟩) 3 3) 3 (fL l3)) := by
   rw [← hw5]
   exact psNew3 _ _ _ _ _ _ _ (by decide)
 go_wp2_with fail
 refine (flat_any _ 3 (fL l3) w5 HP5.out).mono ?_
 rintro e w6 ⟨⟨t, rfl, ht⟩, hb6⟩
 have HB6 : Hid (Below w.heap.size w w6) := below_step HB5.out hb6
 obtain rfl : t = true := ht.2 ⟨l3_may, l3_flat⟩
 clear ht hb6 hw5 HB5 HP5
 go_wp2
 go_ret
 exact ⟨rfl, HB6.out⟩
end
end Go.Proofs.Ytgpbfhennineiaa
