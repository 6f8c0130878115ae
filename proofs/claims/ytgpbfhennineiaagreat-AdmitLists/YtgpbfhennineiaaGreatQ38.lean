/- Own texts, put together: Aj Ak Al Am Ao Ap Da Db. -/
import Derived.Test.YtgpbfhennineiaaGreatQ4
import Derived.Test.YtgpbfhennineiaaGreatQ30
import Derived.Test.YtgpbfhennineiaaGreatQ32
import Derived.Test.YtgpbfhennineiaaGreatQ35
import Derived.Test.YtgpbfhennineiaaGreatQ37
import Derived.Laws.AppendOwn
import Derived.Laws.OwnMore
import Derived.Deep.AppendLies
namespace Go.Proofs.YtgpbfhennineiaaGreat
/- Package admit: Flat. -/
section
open Go.RowKit Go.Shelf Go.Sort Go.Lib
attribute [local go_sem ↓] Go.wp_at_zero Go.wp_at_succ
attribute [local go_sem] run_store_float
theorem keepF {w W W' : World} {q1 q2 q3 q4 q5 q6 q7 q8 : Addr} {x1 x2 x3 x4 x5 x6 x7 x8 : Value} (h : W.cell? q1 = some x1 ∧ W.cell? q2 = some x2 ∧ W.cell? q3 = some x3 ∧ W.cell? q4 = some x4 ∧ W.cell? q5 = some x5 ∧ W.cell? q6 = some x6 ∧ W.cell? q7 = some x7 ∧ W.cell? q8 = some x8 ∧ Below w.heap.size w W) (hb : Below W.heap.size W W') : W'.cell? q1 = some x1 ∧ W'.cell? q2 = some x2 ∧ W'.cell? q3 = some x3 ∧ W'.cell? q4 = some x4 ∧ W'.cell? q5 = some x5 ∧ W'.cell? q6 = some x6 ∧ W'.cell? q7 = some x7 ∧ W'.cell? q8 = some x8 ∧ Below w.heap.size w W' :=
 ⟨box_cell hb h.1, box_cell hb h.2.1, box_cell hb h.2.2.1, box_cell hb h.2.2.2.1, box_cell hb h.2.2.2.2.1, box_cell hb h.2.2.2.2.2.1, box_cell hb h.2.2.2.2.2.2.1, box_cell hb h.2.2.2.2.2.2.2.1, below_step h.2.2.2.2.2.2.2.2 hb⟩
set_option maxRecDepth 100000 in
set_option maxHeartbeats 2000000 in
theorem flat1_any (B g off n c x y x0 y0 : Nat) (hn : 0 < n) (w : World) (h0 : w.cell? ⟨B, 0, none⟩ = some (.slice (some ⟨g, off, none⟩) n c)) (h1 : w.cell? ⟨g, off, none⟩ = some (.float .f64 x0)) (h2 : w.cell? ⟨g, off + 1, none⟩ = some (.float .f64 y0)) :
   Calls Tryz.prog 26 #[pv x y, .pointer (some ⟨B, 0, none⟩)] w fun e w' => e = .returned (.bool (!eqW (x, y) (x0, y0))) ∧ Below w.heap.size w w' := by
 have mixed : Tryz.prog.follows .mixedOrders = true := by kernel_rfl
 have hG : Tryz.prog.eqGuardType Tryz.prog.depth 32 = false := by kernel_rfl
 have e1 : ∀ W, (binOp .neq 32 (pv x y) (pv x0 y0)).run Tryz.prog W = .ok (.bool (!eqW (x, y) (x0, y0))) W := fun W => by rw [run_neq_struct, eqPt, Result.andThen_ok]
 have hn' : (0 : Int) < (n : Int) := by omega
 have hn0 : ¬ n = 0 := by omega
 obtain ⟨t, ht⟩ : ∃ t, (!eqW (x, y) (x0, y0)) = t := ⟨_, rfl⟩
 rw [ht] at e1
 rw [ht]
 clear ht
 have a0 : (w.alloc (.cells #[.float .f64 x, .float .f64 y] 32)).cell? ⟨w.heap.size, 0, none⟩ = some (.float .f64 x) := by go_simp
 have a1 : (w.alloc (.cells #[.float .f64 x, .float .f64 y] 32)).cell? ⟨w.heap.size, 1, none⟩ = some (.float .f64 y) := by go_simp
 obtain ⟨w1, hw1⟩ : ∃ w1, w.alloc (.cells #[.float .f64 x, .float .f64 y] 32) = w1 := ⟨_, rfl⟩
 rw [hw1] at a0 a1
 have HB1 : Hid (Below w.heap.size w w1) := by rw [← hw1]; exact (Below.refl _ w).alloc (Nat.le_refl _) _
 have b0 := cell_grown (World.block_lt_of_cell? _ _ a0) a0
 have b1 := cell_grown (World.block_lt_of_cell? _ _ a1) a1
 have k0 := box_cell HB1.out h0
 have k1 := box_cell HB1.out h1
 have k2 := box_cell HB1.out h2
 have b2 := cell_grown (World.block_lt_of_cell? _ _ k0) k0
 have b3 := cell_grown (World.block_lt_of_cell? _ _ k1) k1
 have b4 := cell_grown (World.block_lt_of_cell? _ _ k2) k2
 clear h0 h1 h2 a0 a1 k0 k1 k2
 go_enter Tryz.func26, Tryz.ntmps26
 go_wp2_with fail
 go_quiet_grown (fail)
 have HD : Hid (Below w.heap.size w (grow (w1.drewN nq) osq)) := HB1.out.trans ((GrW.below ⟨nq, osq, rfl⟩).mono HB1.out.size)
 clear b0 b1 b2 b3 b4
 go_wp2
 go_ret
 exact ⟨rfl, HD.out⟩
set_option maxRecDepth 100000 in
set_option maxHeartbeats 2000000 in
theorem flat2_any (B S g off n c k x y x0 y0 xk yk : Nat) (hk : k < n) (w : World) (h0 : w.cell? ⟨B, 0, none⟩ = some (.slice (some ⟨g, off, none⟩) n c)) (h1 : w.cell? ⟨g, off, none⟩ = some (.float .f64 x0)) (h2 : w.cell? ⟨g, off + 1, none⟩ = some (.float .f64 y0))
   (h3 : w.cell? ⟨S, 0, none⟩ = some (.int .i64 (k : Int))) (h4 : w.cell? ⟨g, off + k * 2, none⟩ = some (.float .f64 xk)) (h5 : w.cell? ⟨g, off + k * 2 + 1, none⟩ = some (.float .f64 yk)) (hw : W6 x0 y0 xk yk x y) :
   Calls Tryz.prog 28 #[pv x y, .pointer (some ⟨B, 0, none⟩), .pointer (some ⟨S, 0, none⟩)] w fun e w' => e = .returned (.bool (decide (sg3 x0 y0 xk yk x y ≠ 0))) ∧ Below w.heap.size w w' := by
 have HW : Hid (W6 x0 y0 xk yk x y) := hw
 clear hw
 obtain ⟨z, hz⟩ : ∃ z, Hid (sg3 x0 y0 xk yk x y = z) := ⟨_, rfl⟩
 rw [hz.out]
 have hn' : (0 : Int) < (n : Int) := by omega
 have hn0 : ¬ n = 0 := by omega
 have lk : (k : Int) < (n : Int) := by omega
 have lk0 : (0 : Int) ≤ (k : Int) := by omega
 have HB1 : Hid (Below w.heap.size w (w.alloc (.cells #[.float .f64 x, .float .f64 y] 32))) := (Below.refl _ w).alloc (Nat.le_refl _) _
 have d0 := box_cell HB1.out.drew h0
 have d1 := box_cell HB1.out.drew h1
 have d2 := box_cell HB1.out.drew h2
 have d3 := box_cell HB1.out.drew h3
 have d4 := box_cell HB1.out.drew h4
 have d5 := box_cell HB1.out.drew h5
 have d6 : (w.alloc (.cells #[.float .f64 x, .float .f64 y] 32)).drew.cell? ⟨w.heap.size, 0, none⟩ = some (.float .f64 x) := by go_simp
 have d7 : (w.alloc (.cells #[.float .f64 x, .float .f64 y] 32)).drew.cell? ⟨w.heap.size, 1, none⟩ = some (.float .f64 y) := by go_simp
 clear h0 h1 h2 h3 h4 h5
 by_cases hz0 : z = 0
 · subst hz0
   have ed : decide ((0 : Int) ≠ 0) = false := rfl
   rw [ed]
   clear ed
   go_enter Tryz.func28, Tryz.ntmps28
   go_wp2_with fail
   refine wp_region_held_drew (S := (fun W => W.cell? ⟨B, 0, none⟩ = some (.slice (some ⟨g, off, none⟩) n c) ∧ W.cell? ⟨g, off, none⟩ = some (.float .f64 x0) ∧ W.cell? ⟨g, off + 1, none⟩ = some (.float .f64 y0) ∧ W.cell? ⟨S, 0, none⟩ = some (.int .i64 (k : Int)) ∧ W.cell? ⟨g, off + k * 2, none⟩ = some (.float .f64 xk) ∧ W.cell? ⟨g, off + k * 2 + 1, none⟩ = some (.float .f64 yk) ∧ W.cell? ⟨w.heap.size, 0, none⟩ = some (.float .f64 x) ∧ W.cell? ⟨w.heap.size, 1, none⟩ = some (.float .f64 y) ∧ Below w.heap.size w W)) (by kernel_rfl) ⟨d0, d1, d2, d3, d4, d5, d6, d7, HB1.out.drew⟩ (fun hS => ?_)
   refine takA (i := 0) (d := some 5) (v := .slice (some ⟨g, off, none⟩) n c) hS ?_
   simp only [AP]
   refine takA (i := 1) (d := some 6) (v := .pointer (some ⟨g, off, none⟩)) hS ?_
   simp only [AP]
   refine takA (i := 2) (d := some 7) (v := .agg #[.float .f64 x0, .float .f64 y0]) hS ?_
   simp only [AP]
   refine takA (i := 3) (d := some 8) (v := .slice (some ⟨g, off, none⟩) n c) hS ?_
   simp only [AP]
   refine takA (i := 4) (d := some 9) (v := .int .i64 (k : Int)) hS ?_
   simp only [AP]
   refine takA (i := 5) (d := some 10) (v := .pointer (some ⟨g, off + k * 2, none⟩)) hS ?_
   simp only [AP]
   refine takA (i := 6) (d := some 11) (v := .agg #[.float .f64 xk, .float .f64 yk]) hS ?_
   simp only [AP]
   refine takA (i := 7) (d := some 12) (v := .agg #[.float .f64 x, .float .f64 y]) hS ?_
   simp only [AP]
   refine calA 8 fun KF hK => ?_
   go_simp
   refine (sign3_any x0 y0 xk yk x y _ HW.out).mono ?_
   rintro e wx ⟨rfl, hbx⟩
   rw [hz.out]
   go_wp2_with fail
   refine hK.out _ _ (keepF hS hbx) ?_
   clear hS hbx
   intro hS
   clear hK KF
   try simp only [AP]
   refine takA (i := 9) (d := some 14) (v := .bool false) hS ?_
   simp only [AP]
   refine takA (i := 10) (d := some 4) (v := .bool false) hS ?_
   simp only [AP]
   refine wpAnyH_done (by kernel_rfl) ?_ _
   have HD : Hid (Below w.heap.size w _) := hS.2.2.2.2.2.2.2.2
   clear hS
   go_wp2
   go_ret
   exact ⟨rfl, HD.out⟩
 · have ed : decide (z ≠ 0) = true := decide_eq_true hz0
   rw [ed]
   clear ed
   go_enter Tryz.func28, Tryz.ntmps28
   go_wp2_with fail
   refine wp_region_held_drew (S := (fun W => W.cell? ⟨B, 0, none⟩ = some (.slice (some ⟨g, off, none⟩) n c) ∧ W.cell? ⟨g, off, none⟩ = some (.float .f64 x0) ∧ W.cell? ⟨g, off + 1, none⟩ = some (.float .f64 y0) ∧ W.cell? ⟨S, 0, none⟩ = some (.int .i64 (k : Int)) ∧ W.cell? ⟨g, off + k * 2, none⟩ = some (.float .f64 xk) ∧ W.cell? ⟨g, off + k * 2 + 1, none⟩ = some (.float .f64 yk) ∧ W.cell? ⟨w.heap.size, 0, none⟩ = some (.float .f64 x) ∧ W.cell? ⟨w.heap.size, 1, none⟩ = some (.float .f64 y) ∧ Below w.heap.size w W)) (by kernel_rfl) ⟨d0, d1, d2, d3, d4, d5, d6, d7, HB1.out.drew⟩ (fun hS => ?_)
   refine takA (i := 0) (d := some 5) (v := .slice (some ⟨g, off, none⟩) n c) hS ?_
   simp only [AP]
   refine takA (i := 1) (d := some 6) (v := .pointer (some ⟨g, off, none⟩)) hS ?_
   simp only [AP]
   refine takA (i := 2) (d := some 7) (v := .agg #[.float .f64 x0, .float .f64 y0]) hS ?_
   simp only [AP]
   refine takA (i := 3) (d := some 8) (v := .slice (some ⟨g, off, none⟩) n c) hS ?_
   simp only [AP]
   refine takA (i := 4) (d := some 9) (v := .int .i64 (k : Int)) hS ?_
   simp only [AP]
   refine takA (i := 5) (d := some 10) (v := .pointer (some ⟨g, off + k * 2, none⟩)) hS ?_
   simp only [AP]
   refine takA (i := 6) (d := some 11) (v := .agg #[.float .f64 xk, .float .f64 yk]) hS ?_
   simp only [AP]
   refine takA (i := 7) (d := some 12) (v := .agg #[.float .f64 x, .float .f64 y]) hS ?_
   simp only [AP]
   refine calA 8 fun KF hK => ?_
   go_simp
   refine (sign3_any x0 y0 xk yk x y _ HW.out).mono ?_
   rintro e wx ⟨rfl, hbx⟩
   rw [hz.out]
   go_wp2_with fail
   refine hK.out _ _ (keepF hS hbx) ?_
   clear hS hbx
   intro hS
   clear hK KF
   try simp only [AP]
   refine takA (i := 9) (d := some 14) (v := .bool true) hS ?_
   simp only [AP]
   refine takA (i := 10) (d := some 4) (v := .bool true) hS ?_
   simp only [AP]
   refine wpAnyH_done (by kernel_rfl) ?_ _
   have HD : Hid (Below w.heap.size w _) := hS.2.2.2.2.2.2.2.2
   clear hS
   go_wp2
   go_ret
   exact ⟨rfl, HD.out⟩
end

/- Package admit: Flat, whole. -/
section
open Go.RowKit Go.Shelf Go.Sort Go.Lib
attribute [local go_sem ↓] Go.wp_at_zero Go.wp_at_succ
attribute [local go_sem] run_store_float
theorem least_of {P : Nat → Prop} (k : Nat) : P k → ∃ m, m ≤ k ∧ P m ∧ ∀ j, j < m → ¬ P j := by
 induction k using Nat.strongRecOn with
 | ind k ih =>
   intro h
   by_cases e : ∃ j, j < k ∧ P j
   · obtain ⟨j, hj, hp⟩ := e
     obtain ⟨m, h1, h2, h3⟩ := ih j hj hp
     exact ⟨m, by omega, h2, h3⟩
   · exact ⟨k, Nat.le_refl _, h, fun j hj hp => e ⟨j, hj, hp⟩⟩
abbrev PW := {p : Nat × Nat // WdP p}
instance : Inhabited PW := ⟨⟨(0, 0), by unfold WdP; decide⟩⟩
def encP (x : PW) : List Value := [.float .f64 x.1.1, .float .f64 x.1.2]
def zsP (f : Nat → Nat × Nat) (hw : ∀ k, WdP (f k)) (k m : Nat) : List PW := (List.range m).map fun j => ⟨f (k + j), hw _⟩
theorem zsP_len (f : Nat → Nat × Nat) (hw : ∀ k, WdP (f k)) (k m : Nat) : (zsP f hw k m).length = m := by simp [zsP]
theorem zsP_at (f : Nat → Nat × Nat) (hw : ∀ k, WdP (f k)) (k m j : Nat) (hj : j < m) : (zsP f hw k m)[j]! = ⟨f (k + j), hw _⟩ := by
 rw [getElem!_pos _ j (by rw [zsP_len]; exact hj)]
 simp [zsP]
theorem encP_cells {w : World} {g off : Nat} {f : Nat → Nat × Nat} (hw : ∀ k, WdP (f k)) (k m : Nat) (hc : ∀ j, j < k + m → w.cell? ⟨g, off + j * 2, none⟩ = some (.float .f64 (f j).1) ∧ w.cell? ⟨g, off + j * 2 + 1, none⟩ = some (.float .f64 (f j).2)) :
   ∀ j, j < (zsP f hw k m).length → ∀ i v, (encP (zsP f hw k m)[j]!)[i]? = some v → w.cell? ⟨g, off + k * 2 + j * 2 + i, none⟩ = some v := by
 intro j hj i v hi
 rw [zsP_len] at hj
 rw [zsP_at f hw k m j hj] at hi
 have h := hc (k + j) (by omega)
 rw [show off + (k + j) * 2 = off + k * 2 + j * 2 by omega] at h
 match i, hi with
 | 0, hi => simp [encP] at hi; rw [← hi]; exact h.1
 | 1, hi => simp [encP] at hi; rw [← hi]; exact h.2
 | i + 2, hi => simp [encP] at hi
theorem index0_any (a : Option Addr) (c : Nat) (v : Value) (w : World) : Calls Tryz.prog 25 #[.slice a 0 c, v] w fun e w' => e = .returned (.int .i64 (-1)) ∧ w' = w := by
 go_enter Tryz.func25, Tryz.ntmps25
 go_wp2
 refine wp_loop_rounds 1 ?_
 rw [rounds_succ]
 go_wp2
 go_ret
 exact ⟨rfl, rfl⟩
theorem index_any (f : Nat → Nat × Nat) (B g off n c : Nat) (hn : 0 < n) (hn2 : n ≤ 1048576) (w : World) (h : Cl w B g off n c f) (hw : ∀ k, WdP (f k)) :
   Calls Tryz.prog 25 #[.slice (some ⟨g, off, none⟩) n c, .func (.func 26) #[] #[.pointer (some ⟨B, 0, none⟩)]] w fun e w' =>
     ((∃ k : Nat, k < n ∧ e = .returned (.int .i64 (k : Int)) ∧ ¬ alike (f 0) (f k) ∧ ∀ j, j < k → alike (f 0) (f j)) ∨ (e = .returned (.int .i64 (-1)) ∧ ∀ j, j < n → alike (f 0) (f j))) ∧ Below w.heap.size w w' := by
 have hp0 := h.pt 0 hn
 simp only [Nat.zero_mul, Nat.add_zero] at hp0
 have hg : g < w.heap.size := World.block_lt_of_cell? _ _ hp0.1
 have eg : ∀ args w, (callFunc 26 args).run Tryz.prog w = .ok (.enter 26 args) w := enters_of Tryz.func26 (by kernel_rfl) rfl
 have hp : PredBelow Tryz.prog 26 #[.pointer (some ⟨B, 0, none⟩)] (fun x : PW => .agg (encP x).toArray) (fun x => !eqW x.1 (f 0)) w := fun W x hb =>
   (flat1_any B g off n c x.1.1 x.1.2 (f 0).1 (f 0).2 hn W (box_cell hb h.box) (box_cell hb hp0.1) (box_cell hb hp0.2)).mono fun e w' ⟨h1, h2⟩ => ⟨h1, below_step hb h2⟩
 have hS := AnyQ.slices_IndexFunc Tryz.indexL 2 Tryz.isAgg32 Tryz.sizeOf32 encP (fun _ => rfl) (fun x => !eqW x.1 (f 0)) 26 #[.pointer (some ⟨B, 0, none⟩)] eg g off n c (zsP f hw 0 n) w hp (by rw [zsP_len]; exact Nat.le_refl _) (by omega) hg
   (fun j hj i v hi => by have := encP_cells (w := w) (g := g) (off := off) hw 0 n (fun j hj => h.pt j (by omega)) j hj i v hi; simpa using this)
 change Calls Tryz.prog 25 _ _ _ at hS
 have ek : ∀ j, j < n → ((!eqW (zsP f hw 0 n)[j]!.1 (f 0)) = true ↔ ¬ alike (f 0) (f j)) := by
   intro j hj
   rw [zsP_at f hw 0 n j hj, Nat.zero_add, eqW_is (h.fin j hj) (h.fin 0 hn)]
   have : alike (f j) (f 0) ↔ alike (f 0) (f j) := ⟨alike_symm', alike_symm'⟩
   simp [this]
 refine hS.mono ?_
 rintro e w' ⟨rfl, hb⟩
 refine ⟨?_, hb⟩
 by_cases hex : ∃ k, k < n ∧ ¬ alike (f 0) (f k)
 · obtain ⟨k, hk, hk2⟩ := hex
   obtain ⟨m, h1, h2, h3⟩ := least_of (P := fun k => ¬ alike (f 0) (f k)) k hk2
   have hm : m < n := by omega
   refine Or.inl ⟨m, hm, ?_, h2, fun j hj => Classical.byContradiction fun hh => h3 j hj hh⟩
   rw [Lib.idxBy_hit (fun _ y => !eqW y.1 (f 0)) (zsP f hw 0 n) n m default hm (by rw [zsP_len]; exact Nat.le_refl _) ((ek m hm).2 h2) (fun j hj => by
     rw [← Bool.not_eq_true]
     exact fun hh => h3 j hj ((ek j (by omega)).1 hh))]
 · refine Or.inr ⟨?_, fun j hj => Classical.byContradiction fun hh => hex ⟨j, hj, hh⟩⟩
   rw [Lib.idxBy_miss (fun _ y => !eqW y.1 (f 0)) (zsP f hw 0 n) n default (fun j hj => by
     rw [← Bool.not_eq_true]
     exact fun hh => hex ⟨j, hj, (ek j hj).1 hh⟩)]
theorem W6.of {p q r : Nat × Nat} (hp : WdP p) (hq : WdP q) (hr : WdP r) : W6 p.1 p.2 q.1 q.2 r.1 r.2 := ⟨hp, hq, hr⟩
theorem contains_any (f : Nat → Nat × Nat) (B S g off n c k : Nat) (hk : k < n) (hn2 : n ≤ 1048576) (w : World) (h : Cl w B g off n c f) (hs : w.cell? ⟨S, 0, none⟩ = some (.int .i64 (k : Int))) (hw : ∀ k, WdP (f k)) (hm : ∀ j, j < n → PtP (f j)) :
   Calls Tryz.prog 27 #[.slice (some ⟨g, off + k * 2, none⟩) (n - k) (c - k), .func (.func 28) #[] #[.pointer (some ⟨B, 0, none⟩), .pointer (some ⟨S, 0, none⟩)]] w fun e w' =>
     (∃ t, e = .returned (.bool t) ∧ (t = false ↔ ∀ j, k ≤ j → j < n → S3p (f 0) (f k) (f j) = 0)) ∧ Below w.heap.size w w' := by
 have hp0 := h.pt 0 (by omega)
 simp only [Nat.zero_mul, Nat.add_zero] at hp0
 have hpk := h.pt k hk
 have hg : g < w.heap.size := World.block_lt_of_cell? _ _ hp0.1
 have eg : ∀ args w, (callFunc 28 args).run Tryz.prog w = .ok (.enter 28 args) w := enters_of Tryz.func28 (by kernel_rfl) rfl
 have hp : PredBelow Tryz.prog 28 #[.pointer (some ⟨B, 0, none⟩), .pointer (some ⟨S, 0, none⟩)] (fun x : PW => .agg (encP x).toArray) (fun x => decide (sg3 (f 0).1 (f 0).2 (f k).1 (f k).2 x.1.1 x.1.2 ≠ 0)) w := fun W x hb =>
   (flat2_any B S g off n c k x.1.1 x.1.2 (f 0).1 (f 0).2 (f k).1 (f k).2 hk W (box_cell hb h.box) (box_cell hb hp0.1) (box_cell hb hp0.2) (box_cell hb hs) (box_cell hb hpk.1) (box_cell hb hpk.2) (W6.of (hw 0) (hw k) x.2)).mono fun e w' ⟨h1, h2⟩ => ⟨h1, below_step hb h2⟩
 have hS := AnyQ.slices_ContainsFunc Tryz.containsL 2 Tryz.isAgg32 Tryz.sizeOf32 encP (fun _ => rfl) (fun x => decide (sg3 (f 0).1 (f 0).2 (f k).1 (f k).2 x.1.1 x.1.2 ≠ 0)) 28 #[.pointer (some ⟨B, 0, none⟩), .pointer (some ⟨S, 0, none⟩)] eg g (off + k * 2) (n - k) (c - k) (zsP f hw k (n - k)) w hp (by rw [zsP_len]; exact Nat.le_refl _) (by omega) hg
   (fun j hj i v hi => encP_cells (w := w) (g := g) (off := off) hw k (n - k) (fun j hj => h.pt j (by omega)) j hj i v hi)
 change Calls Tryz.prog 27 _ _ _ at hS
 refine hS.mono ?_
 rintro e w' ⟨rfl, hb⟩
 refine ⟨⟨_, rfl, ?_⟩, hb⟩
 rw [List.take_of_length_le (by rw [zsP_len]; exact Nat.le_refl _), List.any_eq_false]
 constructor
 · intro hh j hj hjn
   have h1 := hh ⟨f j, hw j⟩ (by
     unfold zsP
     rw [List.mem_map]
     exact ⟨j - k, by rw [List.mem_range]; omega, by congr 2; omega⟩)
   simp only [ne_eq, decide_not, Bool.not_eq_true', decide_eq_false_iff_not, Classical.not_not] at h1
   rw [sg3_yes ⟨hm 0 (by omega), hm k hk, hm j hjn⟩, sgq_zero] at h1
   exact h1
 · intro hh x hx
   unfold zsP at hx
   rw [List.mem_map] at hx
   obtain ⟨i, hi, rfl⟩ := hx
   rw [List.mem_range] at hi
   have h1 := hh (k + i) (by omega) (by omega)
   have h2 : sg3 (f 0).1 (f 0).2 (f k).1 (f k).2 (f (k + i)).1 (f (k + i)).2 = 0 := by
     rw [sg3_yes ⟨hm 0 (by omega), hm k hk, hm (k + i) (by omega)⟩, sgq_zero]; exact h1
   simp [h2]
set_option maxRecDepth 100000 in
set_option maxHeartbeats 4000000 in
theorem flat_any (s : Value) (n : Nat) (f : Nat → Nat × Nat) (w : World) (h : Ps w s n f) : Calls Tryz.prog 9 #[s] w fun e w' => (∃ t, e = .returned (.bool t) ∧ (t = true ↔ MayL n f ∧ FlatP f n)) ∧ Below w.heap.size w w' := by
 have HF : Hid (Ps w s n f) := h
 obtain ⟨a, c, rfl, hc, hm⟩ := h.shape
 clear h
 have HB0 : Hid (Below w.heap.size w (w.alloc (.cells #[.slice a n c] 22))) := (Below.refl _ w).alloc (Nat.le_refl _) _
 have HF0 : Hid (Ps (w.alloc (.cells #[.slice a n c] 22)) (.slice a n c) n f) := HF.out.later HB0.out
 have HX0 : Hid ((w.alloc (.cells #[.slice a n c] 22)).cell? ⟨w.heap.size, 0, none⟩ = some (.slice a n c)) := by show _ = _; go_simp
 go_enter Tryz.func9, Tryz.ntmps9
 go_wp2_with fail
 refine (allMay_any _ n f _ HF0.out).mono ?_
 rintro e w1 ⟨⟨t, rfl, ht⟩, hb⟩
 have HB : Hid (Below w.heap.size w w1) := below_step HB0.out hb
 have HT : Hid (t = true ↔ MayL n f) := ht
 have hx1 := box_cell hb HX0.out
 clear hb ht HF0 HX0 HB0
 cases t
 · go_wp2
   go_ret
   exact ⟨⟨false, rfl, fun h => Bool.noConfusion h, fun h => Bool.noConfusion (HT.out.2 h.1)⟩, HB.out⟩
 · have HM : Hid (MayL n f) := HT.out.1 rfl
   have HX1 : Hid (w1.cell? ⟨w.heap.size, 0, none⟩ = some (.slice a n c)) := hx1
   clear HT
   have HI : Hid (Calls Tryz.prog 25 #[.slice a n c, .func (.func 26) #[] #[.pointer (some ⟨w.heap.size, 0, none⟩)]] w1 fun e w' =>
     ((∃ k : Nat, k < n ∧ e = .returned (.int .i64 (k : Int)) ∧ ¬ alike (f 0) (f k) ∧ ∀ j, j < k → alike (f 0) (f j)) ∨ (e = .returned (.int .i64 (-1)) ∧ ∀ j, j < n → alike (f 0) (f j))) ∧ Below w1.heap.size w1 w') := by
     by_cases h0 : n = 0
     · subst h0
       exact (index0_any a c _ w1).mono fun e w' ⟨h1, h2⟩ => by subst h2; exact ⟨Or.inr ⟨h1, fun j hj => absurd hj (Nat.not_lt_zero _)⟩, Below.refl _ _⟩
     · obtain ⟨g, off, rfl, hg, hcell⟩ := HF.out.some (Nat.pos_of_ne_zero h0)
       exact index_any f w.heap.size g off n c (Nat.pos_of_ne_zero h0) HM.out.1 w1 ⟨HX1.out, fun k hk => ⟨box_cell HB.out (hcell k hk).1, box_cell HB.out (hcell k hk).2⟩, fun k hk => HM.out.fin k hk⟩ HF.out.word
   go_wp2_with fail
   refine HI.out.mono ?_
   rintro e w2 ⟨h2, hb2⟩
   have HB2 : Hid (Below w.heap.size w w2) := HB.out.trans (hb2.mono HB.out.size)
   have hx2 := box_cell hb2 HX1.out
   clear hb2 HI hx1
   rcases h2 with ⟨k, hk, rfl, hun, hal⟩ | ⟨rfl, hal⟩
   · have HK : Hid (¬ alike (f 0) (f k) ∧ ∀ j, j < k → alike (f 0) (f j)) := ⟨hun, hal⟩
     obtain ⟨g, off, rfl, hg, hcell⟩ := HF.out.some (by omega)
     have HC : Hid (Cl w2 w.heap.size g off n c f) := ⟨hx2, fun k hk => ⟨box_cell HB2.out (hcell k hk).1, box_cell HB2.out (hcell k hk).2⟩, fun k hk => HM.out.fin k hk⟩
     have HX2 : Hid (w.heap.size < w2.heap.size) := World.block_lt_of_cell? _ _ hx2
     have hk0 : ¬ (k : Int) < 0 := by omega
     have hk1 : (k : Int) ≤ (n : Int) := by omega
     have hk2 : (0 : Int) ≤ (k : Int) := by omega
     have hk3 : ¬ c - k = 0 := by omega
     have HB3 : Hid (Below w2.heap.size w2 (w2.alloc (.cells #[.int .i64 (k : Int)] 3))) := (Below.refl _ w2).alloc (Nat.le_refl _) _
     have hs3 : (w2.alloc (.cells #[.int .i64 (k : Int)] 3)).cell? ⟨w2.heap.size, 0, none⟩ = some (.int .i64 (k : Int)) := by go_simp
     have HS : Hid (Calls Tryz.prog 27 #[.slice (some ⟨g, off + k * 2, none⟩) (n - k) (c - k), .func (.func 28) #[] #[.pointer (some ⟨w.heap.size, 0, none⟩), .pointer (some ⟨w2.heap.size, 0, none⟩)]] (w2.alloc (.cells #[.int .i64 (k : Int)] 3)) fun e w' =>
         (∃ t, e = .returned (.bool t) ∧ (t = false ↔ ∀ j, k ≤ j → j < n → S3p (f 0) (f k) (f j) = 0)) ∧ Below (w2.alloc (.cells #[.int .i64 (k : Int)] 3)).heap.size (w2.alloc (.cells #[.int .i64 (k : Int)] 3)) w') :=
       contains_any f w.heap.size w2.heap.size g off n c k hk HM.out.1 _ (HC.out.later HB3.out) hs3 HF.out.word HM.out.2
     have hx3 := box_cell HB3.out hx2
     clear hun hal hcell hx2
     have hne : w.heap.size ≠ w2.heap.size := by have := HX2.out; omega
     go_wp2_with fail
     refine HS.out.mono ?_
     rintro e w3 ⟨⟨t, rfl, ht⟩, hb3⟩
     have HT : Hid (t = false ↔ ∀ j, k ≤ j → j < n → S3p (f 0) (f k) (f j) = 0) := ht
     have HB4 : Hid (Below w.heap.size w w3) := (HB2.out.trans (HB3.out.mono HB2.out.size)).trans (hb3.mono (by simp; have := HX2.out; omega))
     clear ht hb3 HS
     go_wp2
     go_ret
     refine ⟨⟨!t, rfl, ?_⟩, HB4.out⟩
     rw [Bool.not_eq_true', HT.out, flat_line (t := 0) (s := k) (by omega) hk HK.out.1]
     constructor
     · intro h1
       refine ⟨HM.out, fun j hj => ?_⟩
       by_cases e : j < k
       · exact line_alike (HK.out.2 j e)
       · exact h1 j (by omega) hj
     · intro h1 j _ hj
       exact h1.2 j hj
   · have HA : Hid (∀ j, j < n → alike (f 0) (f j)) := hal
     clear hal
     go_wp2
     go_ret
     exact ⟨⟨true, rfl, fun _ => ⟨HM.out, flat_alike HA.out⟩, fun _ => rfl⟩, (HB2.out.alloc HB2.out.size _)⟩
end

/- The statements' helper of package admit: works; and Cmp. -/
section
open Go.RowKit Go.Shelf Go.Sort Go.Lib
attribute [local go_sem ↓] Go.wp_at_zero Go.wp_at_succ
attribute [local go_sem] run_store_float
instance (f : Nat → Nat × Nat) (i j : Nat) : Decidable (ltO f i j) := by unfold ltO; exact inferInstance
instance (p q r : Nat × Nat) : Decidable (S3p p q r = 0) := inferInstance
instance (p : Nat × Nat) : Decidable (WdP p) := by unfold WdP; exact inferInstance
instance (p : Nat × Nat) : Decidable (PtP p) := inferInstance
def l4 : List (Nat × Nat) := [(4607182418800017408, 0), (0, 0), (4607182418800017408, 0), (0, 13830554455654793216)]
def l3 : List (Nat × Nat) := [(0, 0), (4607182418800017408, 4607182418800017408), (4611686018427387904, 4611686018427387904)]
end

/- AdmitPoints. -/
section
open Go.RowKit Go.Shelf Go.Sort Go.Lib
attribute [local go_sem ↓] Go.wp_at_zero Go.wp_at_succ
attribute [local go_sem] run_store_float
set_option maxRecDepth 100000 in
set_option maxHeartbeats 2000000 in
theorem holdR_any (p q : Nat × Nat) (fp : Fin64 p.1 ∧ Fin64 p.2) (fq : Fin64 q.1 ∧ Fin64 q.2) (w : World) : Calls Tryz.prog 30 #[pv p.1 p.2, pv q.1 q.2] w fun e w' => e = .returned (.int .i64 (hold p q)) ∧ Below w.heap.size w w' := by
 obtain ⟨px, py⟩ := p
 obtain ⟨qx, qy⟩ := q
 obtain ⟨z, hz⟩ : ∃ z, hold (px, py) (qx, qy) = z := ⟨_, rfl⟩
 have HB : Hid (Below w.heap.size w ((w.alloc (.cells #[.float .f64 px, .float .f64 py] 32)).alloc (.cells #[.float .f64 qx, .float .f64 qy] 32))) := ((Below.refl _ w).alloc (Nat.le_refl _) _).alloc (by simp) _
 have key : (FloatKind.f64.format.order px qx = some .lt ∧ z = -1) ∨ (FloatKind.f64.format.order px qx = some .gt ∧ z = 1) ∨ (FloatKind.f64.format.order px qx = some .eq ∧ FloatKind.f64.format.order py qy = some .lt ∧ z = -1) ∨ (FloatKind.f64.format.order px qx = some .eq ∧ FloatKind.f64.format.order py qy = some .gt ∧ z = 1) ∨ (FloatKind.f64.format.order px qx = some .eq ∧ FloatKind.f64.format.order py qy = some .eq ∧ z = 0) := by
   rw [← hz]
   unfold hold
   by_cases h1 : fval px < fval qx
   · exact Or.inl ⟨order_ltF fp.1 fq.1 h1, by rw [if_pos h1]⟩
   · by_cases h2 : fval qx < fval px
     · exact Or.inr (Or.inl ⟨order_gtF fp.1 fq.1 h2, by rw [if_neg h1, if_pos h2]⟩)
     · have h0 := order_eqF fp.1 fq.1 (show fval px = fval qx by grind)
       by_cases h3 : fval py < fval qy
       · exact Or.inr (Or.inr (Or.inl ⟨h0, order_ltF fp.2 fq.2 h3, by rw [if_neg h1, if_neg h2, if_pos h3]⟩))
       · by_cases h4 : fval qy < fval py
         · exact Or.inr (Or.inr (Or.inr (Or.inl ⟨h0, order_gtF fp.2 fq.2 h4, by rw [if_neg h1, if_neg h2, if_neg h3, if_pos h4]⟩)))
         · exact Or.inr (Or.inr (Or.inr (Or.inr ⟨h0, order_eqF fp.2 fq.2 (show fval py = fval qy by grind), by rw [if_neg h1, if_neg h2, if_neg h3, if_neg h4]⟩)))
 rw [hz]
 clear fp fq hz
 rcases key with ⟨o1, rfl⟩ | ⟨o1, rfl⟩ | ⟨o1, o2, rfl⟩ | ⟨o1, o2, rfl⟩ | ⟨o1, o2, rfl⟩
 all_goals
   go_enter Tryz.func30, Tryz.ntmps30
   go_wp2
   go_ret
   exact ⟨rfl, HB.out⟩
end

/- AdmitTurned: what is plain; a list that is put together point by point. -/
section
open Go.RowKit Go.Shelf Go.Sort Go.Lib
attribute [local go_sem ↓] Go.wp_at_zero Go.wp_at_succ
attribute [local go_sem] run_store_float
def fT (f : Nat → Nat × Nat) (n r i : Nat) : Nat × Nat := f ((i + r) % n)
def pcs (f : Nat → Nat × Nat) (n : Nat) : List Value := (List.range n).flatMap fun k => [.float .f64 (f k).1, .float .f64 (f k).2]
theorem pcs_succ (f : Nat → Nat × Nat) (n : Nat) : pcs f (n + 1) = pcs f n ++ [.float .f64 (f n).1, .float .f64 (f n).2] := by
 unfold pcs; rw [List.range_succ]; simp
theorem pcs_len (f : Nat → Nat × Nat) (n : Nat) : (pcs f n).length = n * 2 := by
 induction n with
 | zero => rfl
 | succ n ih => rw [pcs_succ, List.length_append, ih]; simp; omega
theorem pcs_at (f : Nat → Nat × Nat) (n k : Nat) (hk : k < n) : (pcs f n)[k * 2]? = some (.float .f64 (f k).1) ∧ (pcs f n)[k * 2 + 1]? = some (.float .f64 (f k).2) := by
 induction n with
 | zero => omega
 | succ n ih =>
   rw [pcs_succ]
   have hl := pcs_len f n
   by_cases e : k = n
   · subst e
     rw [List.getElem?_append_right (by omega), List.getElem?_append_right (by omega), hl]
     constructor <;> simp
   · rw [List.getElem?_append_left (by omega), List.getElem?_append_left (by omega)]
     exact ih (by omega)
theorem ps_own {w : World} {base n : Nat} {v : Value} {f : Nat → Nat × Nat} (h : w.ownsRow base 32 2 v n (pcs f n)) (hn : n ≤ 1048576) (hw : ∀ k, WdP (f k)) : Ps w v n f := by
 obtain ⟨_, h1⟩ := h
 rcases h1 with ⟨rfl, rfl⟩ | ⟨g, cap, cur, rfl, _, hb, hc, hm, hs, ht⟩
 · exact ⟨⟨none, 0, rfl, by omega, by omega, Or.inl rfl⟩, hw⟩
 · refine ⟨⟨some ⟨g, 0, none⟩, cap, rfl, hc, by unfold maxLen at hm; omega, Or.inr ⟨g, 0, rfl, ?_, fun k hk => ?_⟩⟩, hw⟩
   · rcases Nat.lt_or_ge g w.heap.size with e | e
     · exact e
     · rw [Array.getElem?_eq_none e] at hb; cases hb
   · have hp := pcs_at f n k hk
     rw [← ht] at hp
     rw [List.getElem?_take_of_lt (by omega), List.getElem?_take_of_lt (by omega)] at hp
     simp only [World.cell?, hb]
     rw [Nat.zero_add]
     exact ⟨by simpa using hp.1, by simpa using hp.2⟩
end

/- AdmitFlat. -/
section
open Go.RowKit Go.Shelf Go.Sort Go.Lib
attribute [local go_sem ↓] Go.wp_at_zero Go.wp_at_succ
attribute [local go_sem] run_store_float
end

/- The document's side of layer 7: All, Ints. -/
section
open Go.RowKit Go.Shelf Go.Sort Go.Lib
attribute [local go_sem ↓] Go.wp_at_zero Go.wp_at_succ
attribute [local go_sem] run_store_float
set_option maxRecDepth 100000 in
set_option maxHeartbeats 2000000 in
theorem refAll_any (s : Value) (n : Nat) (f : Nat → Nat × Nat) (w : World) (h : Ps w s n f) : Calls Tryz.prog 5 #[s] w fun e w' => (∃ z r, e = .returned (.tuple #[.int .i64 z, .int .i64 r]) ∧ AllR n f z r) ∧ Below w.heap.size w w' := by
 obtain ⟨a, c, rfl, hc, hm⟩ := h.shape
 have HF : Hid (Ps w (.slice a n c) n f) := h
 clear h
 by_cases hbig : 1048576 < n
 · have hbig' : (1048576 : Int) < (n : Int) := by omega
   have HB : Hid (1048576 < n) := hbig
   clear hbig
   go_enter Tryz.func5, Tryz.ntmps5
   go_wp2
   go_ret2
   exact ⟨⟨0, 3, rfl, Or.inl ⟨HB.out, rfl, rfl⟩⟩, Below.refl _ _⟩
 · have hbig' : ¬ (1048576 : Int) < (n : Int) := by omega
   have hle : n ≤ 1048576 := by omega
   clear hbig
   go_enter Tryz.func5, Tryz.ntmps5
   go_wp2
   go_loopw [4] (fun i wr => ∃ k : Nat, k ≤ n ∧ i = .int .i64 (k : Nat) ∧ Hid (Below w.heap.size w wr ∧ ∀ j, j < k → PtP (f j))) (fun i _ => n - (intOf i).toNat)
   case atStart => exact ⟨0, Nat.zero_le _, rfl, Below.refl _ _, fun j hj => by omega⟩
   case round =>
     obtain ⟨k, hk, rfl, hB⟩ := hrel
     by_cases hlt : k < n
     · have hlt' : (k : Int) < (n : Int) := by omega
       have hk0 : (0 : Int) ≤ (k : Int) := by omega
       obtain ⟨g, off, rfl, hg, hcell⟩ := HF.out.some (by omega)
       have c1 := box_cell hB.out.1 (hcell k hlt).1
       have c2 := box_cell hB.out.1 (hcell k hlt).2
       obtain ⟨x, hx⟩ : ∃ x : Nat, Hid ((f k).1 = x) := ⟨_, rfl⟩
       obtain ⟨y, hy⟩ : ∃ y : Nat, Hid ((f k).2 = y) := ⟨_, rfl⟩
       rw [hx.out] at c1
       rw [hy.out] at c2
       have HX : Hid (WdP (x, y)) := by rw [← hx.out, ← hy.out]; exact HF.out.word k
       have HP : Hid (PtP (f k) ↔ Pt x y) := by rw [← hx.out, ← hy.out]; exact Iff.rfl
       clear hcell hx hy
       go_wp2_with fail
       refine (may_any x y _ HX.out).mono ?_
       rintro e w1 ⟨⟨t, rfl, ht⟩, hb1⟩
       have HB1 : Hid (Below w.heap.size w w1) := below_step hB.out.1 hb1
       have HT : Hid (t = true ↔ Pt x y) := ht
       clear ht hb1 c1 c2
       cases t
       · go_wp2
         go_ret2
         exact ⟨⟨k, 10, rfl, Or.inr (Or.inr ⟨hle, k, hlt, fun h => Bool.noConfusion (HT.out.2 (HP.out.1 h)), hB.out.2, rfl, rfl⟩)⟩, HB1.out⟩
       · have HQ : Hid (Pt x y) := HT.out.1 rfl
         go_wp2
         refine ⟨⟨k + 1, by omega, by go_num, HB1.out, fun j hj => ?_⟩, by simp [intOf]; omega⟩
         by_cases e : j = k
         · rw [e]; exact HP.out.2 HQ.out
         · exact hB.out.2 j (by omega)
     · obtain rfl : n = k := by omega
       have hltb : decide ((n : Int) < (n : Int)) = false := decide_eq_false (by omega)
       go_wp2
       go_ret2
       exact ⟨⟨0, 0, rfl, Or.inr (Or.inl ⟨hle, hB.out.2, rfl, rfl⟩)⟩, hB.out.1⟩
def Iz (w : World) (s : Value) (zs : List Nat) : Prop := ∃ a c, s = .slice a zs.length c ∧ (zs = [] ∨ ∃ g, a = some ⟨g, 0, none⟩ ∧ ∀ k, k < zs.length → w.cell? ⟨g, k, none⟩ = some (.int .i64 (zs.getD k 0 : Nat)))
theorem Iz.later {w w' : World} {s : Value} {zs : List Nat} (h : Iz w s zs) (hb : Below w.heap.size w w') : Iz w' s zs := by
 obtain ⟨a, c, e, h⟩ := h
 refine ⟨a, c, e, ?_⟩
 rcases h with h | ⟨g, ha, h⟩
 · exact Or.inl h
 · exact Or.inr ⟨g, ha, fun k hk => box_cell hb (h k hk)⟩
theorem Iz.row {w : World} {g n c : Nat} {zs : List Nat} (hl : zs.length = n) (h : IRow w g n (fun k => (zs.getD k 0 : Nat))) : Iz w (.slice (some ⟨g, 0, none⟩) n c) zs := by
 subst hl
 exact ⟨some ⟨g, 0, none⟩, c, rfl, Or.inr ⟨g, rfl, fun k hk => (h.cell k hk).1⟩⟩
theorem Iz.nil (w : World) : Iz w (.slice none 0 0) [] := ⟨none, 0, rfl, Or.inl rfl⟩
set_option maxRecDepth 100000 in
set_option maxHeartbeats 2000000 in
theorem ints_any (s1 s2 : Value) (zs : List Nat) (w : World) (h1 : Iz w s1 zs) (h2 : Iz w s2 zs) (hn : zs.length ≤ 1048576) : Calls Tryz.prog 10 #[s1, s2] w fun e w' => e = .returned (.bool true) ∧ Below w.heap.size w w' := by
 obtain ⟨a1, c1, rfl, k1⟩ := h1
 obtain ⟨a2, c2, rfl, k2⟩ := h2
 obtain ⟨n, hl⟩ : ∃ n, zs.length = n := ⟨_, rfl⟩
 have HK : Hid ((zs = [] ∨ ∃ g, a1 = some ⟨g, 0, none⟩ ∧ ∀ k, k < n → w.cell? ⟨g, k, none⟩ = some (.int .i64 (zs.getD k 0 : Nat))) ∧ (zs = [] ∨ ∃ g, a2 = some ⟨g, 0, none⟩ ∧ ∀ k, k < n → w.cell? ⟨g, k, none⟩ = some (.int .i64 (zs.getD k 0 : Nat)))) := by
   rw [← hl]; exact ⟨k1, k2⟩
 rw [hl] at hn
 rw [hl]
 have HL : Hid (zs.length = n) := hl
 clear k1 k2 hl
 go_enter Tryz.func10, Tryz.ntmps10
 go_wp2
 go_loopw [5] (fun s5 wr => ∃ i : Nat, i ≤ n ∧ s5 = .int .i64 (i : Nat) ∧ Hid (Below w.heap.size w wr)) (fun s5 _ => n - (intOf s5).toNat)
 case atStart => exact ⟨0, Nat.zero_le _, rfl, Below.refl _ _⟩
 case round =>
   obtain ⟨i, hi, rfl, hB⟩ := hrel
   by_cases hlt : i < n
   · have hlt' : (i : Int) < (n : Int) := by omega
     have hi0 : (0 : Int) ≤ (i : Int) := by omega
     have hne : zs ≠ [] := by intro h; have := HL.out; rw [h] at this; simp at this; omega
     obtain ⟨g1, rfl, q1⟩ := HK.out.1.resolve_left hne
     obtain ⟨g2, rfl, q2⟩ := HK.out.2.resolve_left hne
     have a1 := box_cell hB.out (q1 i hlt)
     have a2 := box_cell hB.out (q2 i hlt)
     obtain ⟨x, hx⟩ : ∃ x, zs.getD i 0 = x := ⟨_, rfl⟩
     rw [hx] at a1 a2
     clear q1 q2 hne hx
     go_wp2_with fail
     refine wp_region_held_drew (S := (fun W => W.cell? ⟨g1, i, none⟩ = some (.int .i64 (x : Int)) ∧ W.cell? ⟨g2, i, none⟩ = some (.int .i64 (x : Int)) ∧ Below wr.heap.size wr W)) (by kernel_rfl) ⟨a1, a2, (Below.refl _ _).drew⟩ (fun hS => ?_)
     refine takA (i := 0) (d := some 17) (v := .slice (some ⟨g1, 0, none⟩) n c1) hS ?_
     simp only [AP]
     refine takA (i := 1) (d := some 18) (v := .int .i64 (i : Int)) hS ?_
     simp only [AP]
     refine takA (i := 2) (d := some 19) (v := .pointer (some ⟨g1, i, none⟩)) hS ?_
     simp only [AP]
     refine takA (i := 3) (d := some 20) (v := .int .i64 (x : Int)) hS ?_
     simp only [AP]
     refine takA (i := 4) (d := some 21) (v := .slice (some ⟨g2, 0, none⟩) n c2) hS ?_
     simp only [AP]
     refine takA (i := 5) (d := some 22) (v := .int .i64 (i : Int)) hS ?_
     simp only [AP]
     refine takA (i := 6) (d := some 23) (v := .pointer (some ⟨g2, i, none⟩)) hS ?_
     simp only [AP]
     refine takA (i := 7) (d := some 24) (v := .int .i64 (x : Int)) hS ?_
     simp only [AP]
     refine takA (i := 8) (d := some 25) (v := .bool false) hS ?_
     simp only [AP]
     refine wpAnyH_done (by kernel_rfl) ?_ _
     have HB2 : Hid (Below wr.heap.size wr _) := hS.2.2
     clear hS
     go_wp2
     exact ⟨⟨i + 1, by omega, by go_num, below_step hB.out HB2.out⟩, by simp [intOf]; omega⟩
   · obtain rfl : n = i := by omega
     have hltb : decide ((n : Int) < (n : Int)) = false := decide_eq_false (by omega)
     go_wp2
     go_ret
     exact ⟨rfl, hB.out⟩
end

/- The document's side of layer 7: Twins, Flat. -/
section
open Go.RowKit Go.Shelf Go.Sort Go.Lib
attribute [local go_sem ↓] Go.wp_at_zero Go.wp_at_succ
attribute [local go_sem] run_store_float
theorem own_later {w w' : World} {base e size n : Nat} {v : Value} {xs : List Value} (h : w.ownsRow base e size v n xs) (hb : Below w.heap.size w w') : w'.ownsRow base e size v n xs := by
 obtain ⟨hl, h⟩ := h
 refine ⟨hl, ?_⟩
 rcases h with h | ⟨g, cap, cur, e1, h1, h2, h3⟩
 · exact Or.inl h
 · refine Or.inr ⟨g, cap, cur, e1, h1, ?_, h3⟩
   have hg : g < w.heap.size := by
     rcases Nat.lt_or_ge g w.heap.size with e | e
     · exact e
     · rw [Array.getElem?_eq_none e] at h2; cases h2
   rw [hb.block g hg]; exact h2
def ics (zs : List Nat) : List Value := zs.map fun z => .int .i64 (z : Nat)
theorem ics_at {zs : List Nat} {k : Nat} (hk : k < zs.length) : (ics zs)[k]? = some (.int .i64 (zs.getD k 0 : Nat)) := by
 unfold ics
 simp [List.getElem?_map, List.getElem?_eq_getElem hk, List.getD]
theorem iz_own {w : World} {base n : Nat} {v : Value} {zs : List Nat} (hn : zs.length = n) (h : w.ownsRow base 3 1 v n (ics zs)) : Iz w v zs := by
 subst hn
 have hh := h
 obtain ⟨hl, h⟩ := h
 rcases h with ⟨rfl, h⟩ | ⟨g, cap, cur, rfl, h1, h2, h3⟩
 · refine ⟨none, 0, by rw [h], Or.inl (List.length_eq_zero_iff.1 h)⟩
 · refine ⟨some ⟨g, 0, none⟩, cap, rfl, Or.inr ⟨g, rfl, fun k hk => ?_⟩⟩
   have := hh.cells (g := g) rfl k _ (ics_at hk)
   rw [← this]; unfold Addr.add; split
   · rename_i e; rw [e]
   · simp
def tws (f : Nat → Nat × Nat) (n : Nat) : List Nat := (List.range n).map (tw f)
theorem tws_len (f : Nat → Nat × Nat) (n : Nat) : (tws f n).length = n := by simp [tws]
theorem tws_succ (f : Nat → Nat × Nat) (n : Nat) : ics (tws f (n + 1)) = ics (tws f n) ++ [.int .i64 (tw f n : Nat)] := by simp [tws, ics, List.range_succ]
theorem tws_at (f : Nat → Nat × Nat) {n k : Nat} (hk : k < n) : (tws f n).getD k 0 = tw f k := by simp [tws, List.getD, hk]
set_option maxRecDepth 100000 in
set_option maxHeartbeats 4000000 in
theorem refTwins_any (s : Value) (n : Nat) (f : Nat → Nat × Nat) (w : World) (h : Ps w s n f) (hM : MayL n f) : Calls Tryz.prog 12 #[s] w fun e w' => (∃ v, e = .returned v ∧ w'.ownsRow w.heap.size 3 1 v n (ics (tws f n))) ∧ Below w.heap.size w w' := by
 obtain ⟨a, c, rfl, hc, hm⟩ := h.shape
 have HF : Hid (Ps w (.slice a n c) n f) := h
 have HM : Hid (MayL n f) := hM
 have hn : n ≤ 1048576 := hM.1
 clear h hM
 obtain ⟨i0, hif, hz0, hz1, hz2⟩ := info_parts (show (Tryz.prog.info? 3).map (fun i => (i.zero, i.size, i.bytes)) = some (some (.int .i64 0), 1, 8) by kernel_rfl)
 go_enter Tryz.func12, Tryz.ntmps12
 go_wp2
 go_loopw [3, 4] (fun s3 s4 wr => ∃ i : Nat, i ≤ n ∧ s4 = .int .i64 (i : Nat) ∧ Hid (wr.ownsRow w.heap.size 3 1 s3 i (ics (tws f i)) ∧ Below w.heap.size w wr)) (fun _ s4 _ => n - (intOf s4).toNat)
 case atStart => exact ⟨0, Nat.zero_le _, rfl, World.ownsRow_nil _ _ _ _, Below.refl _ _⟩
 case round =>
   obtain ⟨i, hi, rfl, hI⟩ := hrel
   by_cases hlt : i < n
   · have hlt' : (i : Int) < (n : Int) := by omega
     have hi0 : (0 : Int) ≤ (i : Int) := by omega
     obtain ⟨g, off, rfl, hg, hcell⟩ := HF.out.some (by omega)
     obtain ⟨t, ht⟩ : ∃ t, Hid (tw f i = t) := ⟨_, rfl⟩
     have hT := tw_is (f := f) i
     rw [ht.out] at hT
     have hti : t ≤ i := hT.le
     have HT : Hid (IsTw f i t) := hT
     clear hT
     go_wp2
     go_loopw [5] (fun s5 wq => ∃ k : Nat, k ≤ t ∧ s5 = .int .i64 (k : Nat) ∧ Hid (wq.ownsRow w.heap.size 3 1 u3 i (ics (tws f i)) ∧ Below w.heap.size w wq)) (fun s5 _ => n - (intOf s5).toNat)
     case atStart => exact ⟨0, Nat.zero_le _, rfl, hI.out⟩
     case round =>
       obtain ⟨k, hk, rfl, hK⟩ := hrel
       have hkn : (k : Int) < (n : Int) := by omega
       have hk0 : (0 : Int) ≤ (k : Int) := by omega
       have b1 := box_cell hK.out.2 (hcell k (by omega)).1
       have b2 := box_cell hK.out.2 (hcell k (by omega)).2
       have b3 := box_cell hK.out.2 (hcell i hlt).1
       have b4 := box_cell hK.out.2 (hcell i hlt).2
       by_cases hkt : k = t
       · have HIK : Hid ((Fin64 (f k).1 ∧ Fin64 (f k).2) ∧ (Fin64 (f i).1 ∧ Fin64 (f i).2) ∧ hold (f k) (f i) = 0) := ⟨HM.out.fin k (by omega), HM.out.fin i hlt, hold_zero.2 (by rw [hkt]; exact HT.out.al)⟩
         have HKT : Hid (k = t) := hkt
         clear hcell hkt
         go_wp2_with fail
         refine wp_region_held_drew (S := (fun W => W.cell? ⟨g, off + k * 2, none⟩ = some (.float .f64 (f k).1) ∧ W.cell? ⟨g, off + k * 2 + 1, none⟩ = some (.float .f64 (f k).2) ∧ W.cell? ⟨g, off + i * 2, none⟩ = some (.float .f64 (f i).1) ∧ W.cell? ⟨g, off + i * 2 + 1, none⟩ = some (.float .f64 (f i).2) ∧ Below wr.heap.size wr W)) (by kernel_rfl) ⟨b1, b2, b3, b4, (Below.refl _ _).drew⟩ (fun hS => ?_)
         refine takA (i := 0) (d := some 12) (v := .slice (some ⟨g, off, none⟩) n c) hS ?_
         simp only [AP]
         refine takA (i := 1) (d := some 13) (v := .int .i64 (k : Int)) hS ?_
         simp only [AP]
         refine takA (i := 2) (d := some 14) (v := .pointer (some ⟨g, off + k * 2, none⟩)) hS ?_
         simp only [AP]
         refine takA (i := 3) (d := some 15) (v := .agg #[.float .f64 (f k).1, .float .f64 (f k).2]) hS ?_
         simp only [AP]
         refine takA (i := 4) (d := some 16) (v := .slice (some ⟨g, off, none⟩) n c) hS ?_
         simp only [AP]
         refine takA (i := 5) (d := some 17) (v := .int .i64 (i : Int)) hS ?_
         simp only [AP]
         refine takA (i := 6) (d := some 18) (v := .pointer (some ⟨g, off + i * 2, none⟩)) hS ?_
         simp only [AP]
         refine takA (i := 7) (d := some 19) (v := .agg #[.float .f64 (f i).1, .float .f64 (f i).2]) hS ?_
         simp only [AP]
         refine calA 8 fun KF hK => ?_
         go_simp
         refine (holdR_any (f k) (f i) HIK.out.1 HIK.out.2.1 _).mono ?_
         rintro e wx ⟨rfl, hbx⟩
         rw [HIK.out.2.2]
         go_wp2_with fail
         refine hK.out _ _ (kp4 hbx hS) ?_
         clear hS hbx
         intro hS
         clear hK KF
         try simp only [AP]
         refine takA (i := 9) (d := some 21) (v := .bool false) hS ?_
         simp only [AP]
         refine wpAnyH_done (by kernel_rfl) ?_ _
         have HB2 : Hid (Below wr.heap.size wr _) := hS.2.2.2.2
         clear hS b1 b2 b3 b4
         have HR := own_later hK.out.1 HB2.out
         have HBx := below_step hK.out.2 HB2.out
         have HBH : Hid (Below w.heap.size w wx) := HBx
         have hbase : w.heap.size ≤ wx.heap.size := HBx.size
         clear HBx HB2 hK
         go_wp2_with (at_builtin; (refine wpList_append_own _ rfl _ _ _ rfl w.heap.size 3 i0 _ 1 8 Tryz.underlying26 hif hz0 hz1 hz2 rfl (by omega) _ i _ rfl (HR.alloc _) ⟨wx.heap.size, 0, none⟩ 1 1 [.int .i64 (k : Nat)] rfl rfl (World.news_of_block (cs := #[.int .i64 (k : Nat)]) (t := 3) (fr := (0, 0)) (heap_new wx _)) (by simp [Value.oneCell']) (by unfold maxLen; omega) (by omega) (by simp; omega) ?_); intro v' w1 hown1 hgrow hnil)
         refine ⟨⟨i + 1, by omega, by go_num, ?_, ?_⟩, by simp [intOf]; omega⟩
         · rw [tws_succ, ht.out, ← HKT.out]
           exact hown1
         · exact (HBH.out.alloc HBH.out.size _).grown hgrow (by simp; omega) (fun k hk => (HR.lt k hk).1)
       · obtain ⟨cz, hcz⟩ : ∃ cz, hold (f k) (f i) = cz := ⟨_, rfl⟩
         have hcz0 : ¬ cz = 0 := fun h => HT.out.least k (by omega) (hold_zero.1 (by rw [hcz, h]))
         have hcz1 : (cz == 0) = false := by simp [hcz0]
         have hcz2 : (cz != 0) = true := by simp [hcz0]
         have HIK : Hid ((Fin64 (f k).1 ∧ Fin64 (f k).2) ∧ (Fin64 (f i).1 ∧ Fin64 (f i).2) ∧ hold (f k) (f i) = cz) := ⟨HM.out.fin k (by omega), HM.out.fin i hlt, hcz⟩
         clear hcell hcz
         go_wp2_with fail
         refine wp_region_held_drew (S := (fun W => W.cell? ⟨g, off + k * 2, none⟩ = some (.float .f64 (f k).1) ∧ W.cell? ⟨g, off + k * 2 + 1, none⟩ = some (.float .f64 (f k).2) ∧ W.cell? ⟨g, off + i * 2, none⟩ = some (.float .f64 (f i).1) ∧ W.cell? ⟨g, off + i * 2 + 1, none⟩ = some (.float .f64 (f i).2) ∧ Below wr.heap.size wr W)) (by kernel_rfl) ⟨b1, b2, b3, b4, (Below.refl _ _).drew⟩ (fun hS => ?_)
         refine takA (i := 0) (d := some 12) (v := .slice (some ⟨g, off, none⟩) n c) hS ?_
         simp only [AP]
         refine takA (i := 1) (d := some 13) (v := .int .i64 (k : Int)) hS ?_
         simp only [AP]
         refine takA (i := 2) (d := some 14) (v := .pointer (some ⟨g, off + k * 2, none⟩)) hS ?_
         simp only [AP]
         refine takA (i := 3) (d := some 15) (v := .agg #[.float .f64 (f k).1, .float .f64 (f k).2]) hS ?_
         simp only [AP]
         refine takA (i := 4) (d := some 16) (v := .slice (some ⟨g, off, none⟩) n c) hS ?_
         simp only [AP]
         refine takA (i := 5) (d := some 17) (v := .int .i64 (i : Int)) hS ?_
         simp only [AP]
         refine takA (i := 6) (d := some 18) (v := .pointer (some ⟨g, off + i * 2, none⟩)) hS ?_
         simp only [AP]
         refine takA (i := 7) (d := some 19) (v := .agg #[.float .f64 (f i).1, .float .f64 (f i).2]) hS ?_
         simp only [AP]
         refine calA 8 fun KF hK => ?_
         go_simp
         refine (holdR_any (f k) (f i) HIK.out.1 HIK.out.2.1 _).mono ?_
         rintro e wx ⟨rfl, hbx⟩
         rw [HIK.out.2.2]
         go_wp2_with fail
         refine hK.out _ _ (kp4 hbx hS) ?_
         clear hS hbx
         intro hS
         clear hK KF
         try simp only [AP]
         refine takA (i := 9) (d := some 21) (v := .bool true) hS ?_
         simp only [AP]
         refine wpAnyH_done (by kernel_rfl) ?_ _
         have HB2 : Hid (Below wr.heap.size wr _) := hS.2.2.2.2
         clear hS b1 b2 b3 b4
         go_wp2
         exact ⟨⟨k + 1, by omega, by go_num, own_later hK.out.1 HB2.out, below_step hK.out.2 HB2.out⟩, by simp [intOf]; omega⟩
   · obtain rfl : n = i := by omega
     have hltb : decide ((n : Int) < (n : Int)) = false := decide_eq_false (by omega)
     go_wp2
     go_ret
     exact ⟨⟨_, rfl, hI.out.1⟩, hI.out.2⟩
end
end Go.Proofs.YtgpbfhennineiaaGreat
