import Derived.Test.YtgpbfhennineiaaQ31
/- AdmitFlat. -/
namespace Go.Proofs.Ytgpbfhennineiaa
open Go.RowKit Go.Shelf Go.Sort Go.Lib
attribute [local go_sem ↓] Go.wp_at_zero Go.wp_at_succ
attribute [local go_sem] run_store_float

theorem kp9 {w W W' : World} {p0 p1 p2 p3 p4 p5 p6 p7 p8 : Addr} {x0 x1 x2 x3 x4 x5 x6 x7 x8 : Value} (hb : Below W.heap.size W W') (h : W.cell? p0 = some x0 ∧ W.cell? p1 = some x1 ∧ W.cell? p2 = some x2 ∧ W.cell? p3 = some x3 ∧ W.cell? p4 = some x4 ∧ W.cell? p5 = some x5 ∧ W.cell? p6 = some x6 ∧ W.cell? p7 = some x7 ∧ W.cell? p8 = some x8 ∧ Below w.heap.size w W) : W'.cell? p0 = some x0 ∧ W'.cell? p1 = some x1 ∧ W'.cell? p2 = some x2 ∧ W'.cell? p3 = some x3 ∧ W'.cell? p4 = some x4 ∧ W'.cell? p5 = some x5 ∧ W'.cell? p6 = some x6 ∧ W'.cell? p7 = some x7 ∧ W'.cell? p8 = some x8 ∧ Below w.heap.size w W' := by
  obtain ⟨a0, a1, a2, a3, a4, a5, a6, a7, a8, z⟩ := h
  exact ⟨box_cell hb a0, box_cell hb a1, box_cell hb a2, box_cell hb a3, box_cell hb a4, box_cell hb a5, box_cell hb a6, box_cell hb a7, box_cell hb a8, below_step z hb⟩
theorem pcs_one (f : Nat → Nat × Nat) (n : Nat) : ∀ u ∈ pcs f n, u.oneCell' = true := by
 intro u hu
 unfold pcs at hu
 rw [List.mem_flatMap] at hu
 obtain ⟨k, _, hk⟩ := hu
 simp at hk
 rcases hk with rfl | rfl <;> rfl
theorem pcs_congr {f f' : Nat → Nat × Nat} {n : Nat} (h : ∀ j, j < n → f j = f' j) : pcs f n = pcs f' n := by
 induction n with
 | zero => rfl
 | succ n ih => rw [pcs_succ, pcs_succ, ih (fun j hj => h j (by omega)), h n (by omega)]
theorem pcs_cells {w : World} {g off n : Nat} {f : Nat → Nat × Nat} (h : ∀ j, j < n → w.cell? ⟨g, off + j * 2, none⟩ = some (.float .f64 (f j).1) ∧ w.cell? ⟨g, off + j * 2 + 1, none⟩ = some (.float .f64 (f j).2)) :
   ∀ j u, (pcs f n)[j]? = some u → w.cell? ((⟨g, off, none⟩ : Addr).add j) = some u := by
 intro j u hu
 have hj : j < n * 2 := by
   rcases Nat.lt_or_ge j (pcs f n).length with e | e
   · rwa [pcs_len] at e
   · rw [List.getElem?_eq_none e] at hu; cases hu
 have hk : j / 2 < n := by omega
 have h1 := pcs_at f n (j / 2) hk
 have h2 := h (j / 2) hk
 rw [Addr.add_lit]
 rcases Nat.mod_two_eq_zero_or_one j with e | e
 · have e1 : j / 2 * 2 = j := by omega
   rw [e1] at h1 h2
   rw [h1.1] at hu
   rw [← hu]; exact h2.1
 · have e1 : j / 2 * 2 + 1 = j := by omega
   rw [Nat.add_assoc] at h2
   rw [e1] at h1 h2
   rw [h1.2] at hu
   rw [← hu]; exact h2.2
theorem rest_cells {w : World} {g off n k : Nat} {ad : Addr} {f : Nat → Nat × Nat} (ha : n - (k + 1) = 0 ∨ ad = ⟨g, off + (k + 1) * 2, none⟩) (h : ∀ j, j < n → w.cell? ⟨g, off + j * 2, none⟩ = some (.float .f64 (f j).1) ∧ w.cell? ⟨g, off + j * 2 + 1, none⟩ = some (.float .f64 (f j).2)) :
   ∀ j u, (pcs (fun j => f (k + 1 + j)) (n - (k + 1)))[j]? = some u → w.cell? (ad.add j) = some u := by
 rcases ha with e | rfl
 · rw [e]
   intro j u hu
   simp [pcs] at hu
 · refine pcs_cells (fun j hj => ?_)
   rw [show off + (k + 1) * 2 + j * 2 = off + (k + 1 + j) * 2 by omega]
   exact h (k + 1 + j) (by omega)
def fO (f : Nat → Nat × Nat) (k j : Nat) : Nat × Nat := if j < k then f j else f (j + 1)
theorem pcs_out (f : Nat → Nat × Nat) (k m : Nat) : pcs (fO f k) (k + m) = pcs f k ++ pcs (fun j => f (k + 1 + j)) m := by
 induction m with
 | zero =>
   rw [Nat.add_zero, show pcs (fun j => f (k + 1 + j)) 0 = [] from rfl, List.append_nil]
   exact pcs_congr (fun j hj => by unfold fO; rw [if_pos hj])
 | succ m ih =>
   rw [← Nat.add_assoc, pcs_succ, pcs_succ, ih, List.append_assoc]
   have e : fO f k (k + m) = f (k + 1 + m) := by unfold fO; rw [if_neg (by omega)]; congr 1; omega
   rw [e]
theorem fO_may {f : Nat → Nat × Nat} {n k : Nat} (h : MayL n f) (hn : 0 < n) : MayL (n - 1) (fO f k) := ⟨by have := h.1; omega, fun j hj => by unfold fO; split <;> exact h.2 _ (by omega)⟩
theorem fO_flat {f : Nat → Nat × Nat} {n k : Nat} (h : FlatP f n) : FlatP (fO f k) (n - 1) := by
 have key : ∀ j, j < n - 1 → ∃ i, i < n ∧ fO f k j = f i := by
   intro j hj
   unfold fO
   by_cases e : j < k
   · exact ⟨j, by omega, by rw [if_pos e]⟩
   · exact ⟨j + 1, by omega, by rw [if_neg e]⟩
 intro i j l hi hj hl
 obtain ⟨i', h1, e1⟩ := key i hi
 obtain ⟨j', h2, e2⟩ := key j hj
 obtain ⟨l', h3, e3⟩ := key l hl
 rw [e1, e2, e3]
 exact h i' j' l' h1 h2 h3
theorem un_lt {f : Nat → Nat × Nat} {n : Nat} {os us : List Nat} (ho : Ord f n os) (hu : us = os.filter fun i => decide (tw f i = i)) {j : Nat} (hj : j < us.length) : us.getD j 0 < n := by
 have h1 : us.getD j 0 = us[j] := by simp [List.getD, hj]
 rw [h1]
 have h2 : us[j] ∈ os.filter fun i => decide (tw f i = i) := by
   have := List.getElem_mem hj
   generalize us[j] = x at this ⊢
   rwa [hu] at this
 exact ho.mem.1 (List.mem_filter.1 h2).1
def OnT (f : Nat → Nat × Nat) (us : List Nat) (i : Nat) (b : Bool) : Prop := b = true ↔ ∀ j, 2 ≤ j → j < i → j < us.length → S3p (f (us.getD 0 0)) (f (us.getD 1 0)) (f (us.getD j 0)) = 0
theorem on_yes {f : Nat → Nat × Nat} {us : List Nat} {i : Nat} (h : OnT f us i true) (hz : S3p (f (us.getD 0 0)) (f (us.getD 1 0)) (f (us.getD i 0)) = 0) : OnT f us (i + 1) true := by
 refine ⟨fun _ j h1 h2 h3 => ?_, fun _ => rfl⟩
 by_cases e : j = i
 · rw [e]; exact hz
 · exact h.1 rfl j h1 (by omega) h3
theorem on_not {f : Nat → Nat × Nat} {us : List Nat} {i : Nat} (hi : i < us.length) (h2 : 2 ≤ i) (hz : ¬ S3p (f (us.getD 0 0)) (f (us.getD 1 0)) (f (us.getD i 0)) = 0) : OnT f us (i + 1) false :=
 ⟨fun h => Bool.noConfusion h, fun h => absurd (h i h2 (by omega) hi) hz⟩
theorem on_still {f : Nat → Nat × Nat} {us : List Nat} {i : Nat} (h : OnT f us i false) : OnT f us (i + 1) false :=
 ⟨fun h => Bool.noConfusion h, fun h' => h.2 (fun j h1 h2 h3 => h' j h1 (by omega) h3)⟩
theorem S3p_third {p q r s : Nat × Nat} (h : alike r s) : S3p p q r = S3p p q s := by
 unfold S3p S3; rw [h.1, h.2]
theorem on_flat {f : Nat → Nat × Nat} {n : Nat} {os us : List Nat} (ho : Ord f n os) (hu : us = os.filter fun i => decide (tw f i = i)) {b : Bool} {i : Nat} (hi : us.length ≤ i) (h : OnT f us i b) : b = true ↔ FlatP f n := by
 have hmem : ∀ u, u ∈ us ↔ u < n ∧ tw f u = u := by
   intro u
   rw [hu, List.mem_filter, ho.mem]; simp
 have hnd : us.Nodup := by
   rw [hu]
   exact List.Nodup.sublist List.filter_sublist (by rw [ho.perm.nodup_iff]; exact List.nodup_range)
 have htw : ∀ k, k < n → tw f k ∈ us := fun k hk => (hmem _).2 ⟨Nat.lt_of_le_of_lt (tw_is k).le hk, tw_tw k⟩
 have hg : ∀ j (hj : j < us.length), us.getD j 0 = us[j] := fun j hj => by simp [List.getD, hj]
 unfold OnT at h
 rw [h]
 by_cases h2 : us.length < 2
 · constructor
   · intro _
     intro a b' c ha hb hc
     have e : ∀ x y, x ∈ us → y ∈ us → x = y := by
       intro x y hx hy
       match us, h2, hx, hy with
       | [z], _, hx, hy => simp at hx hy; rw [hx, hy]
     have e1 := e _ _ (htw a ha) (htw b' hb)
     have e2 := e _ _ (htw a ha) (htw c hc)
     have a1 := (tw_iff (f := f) a b').1 e1
     have a2 := (tw_iff (f := f) a c).1 e2
     exact line_alike a2
   · intro _ j h1 _ h3
     omega
 · have l0 : 0 < us.length := by omega
   have l1 : 1 < us.length := by omega
   have m0 := (hmem _).1 (List.getElem_mem l0)
   have m1 := (hmem _).1 (List.getElem_mem l1)
   have hne : us[0] ≠ us[1] := List.pairwise_iff_getElem.1 hnd 0 1 l0 l1 (by omega)
   have hun : ¬ alike (f us[0]) (f us[1]) := fun ha => hne (by rw [← m0.2, ← m1.2]; exact (tw_iff _ _).2 ha)
   rw [hg 0 l0, hg 1 l1, flat_line m0.1 m1.1 hun]
   constructor
   · intro hh k hk
     have hk1 := htw k hk
     obtain ⟨j, hj, ej⟩ := List.getElem_of_mem hk1
     rw [← S3p_third (tw_is (f := f) k).al, ← ej]
     by_cases e0 : j = 0
     · subst e0; unfold S3p S3; grind
     · by_cases e1 : j = 1
       · subst e1; unfold S3p S3; grind
       · have := hh j (by omega) (by omega) hj
         rwa [hg j hj] at this
   · intro hh j _ _ h3
     rw [hg j h3]
     exact hh _ ((hmem _).1 (List.getElem_mem h3)).1

set_option maxRecDepth 100000 in
set_option maxHeartbeats 8000000 in
theorem flat7_law (s : Value) (n : Nat) (f : Nat → Nat × Nat) (by7 : Int) (w : World) (h : Ps w s n f) : Calls Try.prog 7 #[s, .int .i64 by7] w fun e w' => e = .returned (.bool true) ∧ Below w.heap.size w w' := by
 have HF : Hid (Ps w s n f) := h
 obtain ⟨a, c, rfl, hc, hm⟩ := h.shape
 clear h
 go_enter Try.func7, Try.ntmps7
 go_wp2_with fail
 refine (all_any _ n f w HF.out).mono ?_
 rintro e w1 ⟨⟨z, r, rfl, hr⟩, hb⟩
 have HR : Hid (r = 0 ↔ MayL n f) := hr.ok
 have HB : Hid (Below w.heap.size w w1) := hb
 clear hr hb
 go_wp2_with fail
 refine (works7_any _).mono ?_
 rintro e w2 ⟨rfl, hb⟩
 have HB : Hid (Below w.heap.size w w2) := below_step HB.out hb
 clear hb
 by_cases hbad : 200 < n ∨ n = 0 ∨ ¬ r = 0
 · have key : (200 : Int) < (n : Int) ∨ (¬ (200 : Int) < (n : Int) ∧ n = 0) ∨ (¬ (200 : Int) < (n : Int) ∧ ¬ (n : Int) = 0 ∧ ((n : Int) == 0) = false ∧ (r == 0) = false ∧ (r != 0) = true ∧ ¬ r = 0) := by
     by_cases h1 : 200 < n
     · exact Or.inl (by omega)
     · by_cases h2 : n = 0
       · exact Or.inr (Or.inl ⟨by omega, h2⟩)
       · have h3 : ¬ r = 0 := by rcases hbad with h | h | h <;> first | omega | exact h
         exact Or.inr (Or.inr ⟨by omega, by omega, by simp; omega, by simp [h3], by simp [h3], h3⟩)
   clear hbad
   rcases key with q1 | ⟨q1, rfl⟩ | ⟨q1, q2, q3, q4, q5, q6⟩
   all_goals
     go_wp2_with fail
     refine (works7_any _).mono ?_
     rintro e w3 ⟨rfl, hb⟩
     have HB : Hid (Below w.heap.size w w3) := below_step HB.out hb
     clear hb
     go_wp2
     go_ret
     exact ⟨rfl, HB.out⟩
 · have hn : n ≤ 200 := by omega
   have hpos : 0 < n := by omega
   have hr0 : r = 0 := Classical.byContradiction fun h => hbad (Or.inr (Or.inr h))
   have HM : Hid (MayL n f) := HR.out.1 hr0
   subst hr0
   clear HR hbad
   have hbig' : ¬ (200 : Int) < (n : Int) := by omega
   have hn0 : ¬ (n : Int) = 0 := by omega
   have hn1 : ((n : Int) == 0) = false := by simp; omega
   have hn2 : ¬ n = 0 := by omega
   obtain ⟨i0, hif, hz0, hz1, hz2⟩ := info_parts (show (Try.prog.info? 28).map (fun i => (i.zero, i.size, i.bytes)) = some (some (.agg #[.float .f64 0, .float .f64 0]), 2, 16) by kernel_rfl)
   obtain ⟨g, off, rfl, hg, hcell⟩ := HF.out.some hpos
   obtain ⟨k, hrr, hkn⟩ := turn_by by7 n hpos hn
   have hrr1 := hrr.1
   have HCL : Hid (∀ k, k < n → w.cell? ⟨g, off + k * 2, none⟩ = some (.float .f64 (f k).1) ∧ w.cell? ⟨g, off + k * 2 + 1, none⟩ = some (.float .f64 (f k).2)) := hcell
   clear hcell hrr
   have hk0 : (0 : Int) ≤ (k : Int) := by omega
   have hk1 : (k : Int) ≤ (c : Int) := by omega
   have hk2 : (k : Int) + 1 ≤ (n : Int) := by omega
   have hk3 : (0 : Int) ≤ (k : Int) + 1 := by omega
   have hk4 : ¬ c = 0 := by omega
   have hkw : IntKind.i64.wrap ((k : Int) + 1) = (k : Int) + 1 := by rw [IntKind.wrap_i64]; omega
   go_wp2_with fail
   refine (flat_any _ n f _ (HF.out.later HB.out)).mono ?_
   rintro e w3 ⟨⟨t, rfl, ht⟩, hb3⟩
   have HT : Hid (t = true ↔ MayL n f ∧ FlatP f n) := ht
   have HB3 : Hid (Below w.heap.size w w3) := below_step HB.out hb3
   clear ht hb3 HB
   obtain ⟨ad, hao, HAD⟩ : ∃ ad : Addr, (if c = k + 1 then some (⟨g, off, none⟩ : Addr) else some ⟨g, off + (k + 1) * 2, none⟩) = some ad ∧ Hid (n - (k + 1) = 0 ∨ ad = ⟨g, off + (k + 1) * 2, none⟩) := by
     by_cases e : c = k + 1
     · exact ⟨_, by rw [if_pos e], Or.inl (by omega)⟩
     · exact ⟨_, by rw [if_neg e], Or.inr rfl⟩
   go_wp2_with fail
   refine wp_region_held_drew (S := (fun W => Below w3.heap.size w3 W)) (by kernel_rfl) ((Below.refl _ _).drew) (fun hS => ?_)
   refine takA (i := 1) (d := some 45) (v := .slice (some ⟨g, off, none⟩) n c) hS ?_
   simp only [AP]
   refine takA (i := 2) (d := some 46) (v := .int .i64 (k : Int)) hS ?_
   simp only [AP]
   refine takA (i := 3) (d := some 47) (v := .slice (some ⟨g, off, none⟩) k c) hS ?_
   simp only [AP]
   refine takA (i := 5) (d := some 49) (v := .slice (some ⟨g, off, none⟩) n c) hS ?_
   simp only [AP]
   refine takA (i := 6) (d := some 50) (v := .int .i64 (k : Int)) hS ?_
   simp only [AP]
   refine takA (i := 7) (d := some 51) (v := .int .i64 ((k : Int) + 1 : Int)) hS ?_
   simp only [AP]
   refine takA (i := 8) (d := some 52) (v := .slice (some ad) (n - (k + 1)) (c - (k + 1))) hS ?_
   simp only [AP]
   refine calA 0 fun KF hK => ?_
   go_simp
   go_wp2_with fail
   obtain ⟨W1, hW1⟩ : ∃ W1, (w3.alloc (.cells #[] 28)).drew = W1 := ⟨_, rfl⟩
   have HW1 : Hid (W1.ownsRow w3.heap.size 28 2 (.slice (some ⟨w3.heap.size, 0, none⟩) 0 0) 0 []) := by
     rw [← hW1]; exact World.ownsRow_lit w3 #[] 0 (Nat.le_refl _) (by unfold maxLen; omega) rfl
   have HS1 : Hid (Below w3.heap.size w3 W1) := by rw [← hW1]; exact ((Below.refl _ w3).alloc (Nat.le_refl _) _).drew
   rw [hW1]
   refine hK.out _ _ HS1.out ?_
   clear hS
   intro hS
   clear hK KF
   try simp only [AP]
   clear hW1
   refine calA 4 fun KF hK => ?_
   rw [if_pos (by rfl)]
   refine wp_append_own _ _ _ _ rfl w3.heap.size 28 i0 _ 2 16 Try.underlying30 hif hz0 hz1 hz2 rfl (by omega) _ 0 [] rfl HW1.out ⟨g, off, none⟩ k c (pcs f k) rfl (pcs_len f k) (pcs_cells (fun j hj => ⟨box_cell (below_step HB3.out hS) (HCL.out j (by omega)).1, box_cell (below_step HB3.out hS) (HCL.out j (by omega)).2⟩)) (pcs_one f k) (by unfold maxLen; omega) (by omega) hS.size ?_
   intro v1 W2 hown1 hgrow1 _
   have HS2 : Hid (Below w3.heap.size w3 W2) := hS.grown hgrow1 hS.size (fun q hq => (HW1.out.lt q hq).1)
   rw [List.nil_append, Nat.zero_add] at hown1
   have HW2 : Hid (W2.ownsRow w3.heap.size 28 2 v1 k (pcs f k)) := hown1
   clear hown1 hgrow1
   refine hK.out _ _ HS2.out ?_
   clear hS
   intro hS
   clear hK KF
   try simp only [AP]
   refine calA 9 fun KF hK => ?_
   rw [if_pos (by rfl)]
   refine wp_append_own _ _ _ _ rfl w3.heap.size 28 i0 _ 2 16 Try.underlying30 hif hz0 hz1 hz2 rfl (by omega) v1 k (pcs f k) rfl HW2.out ad (n - (k + 1)) (c - (k + 1)) (pcs (fun j => f (k + 1 + j)) (n - (k + 1))) rfl (pcs_len _ _) (rest_cells HAD.out (fun j hj => ⟨box_cell (below_step HB3.out hS) (HCL.out j hj).1, box_cell (below_step HB3.out hS) (HCL.out j hj).2⟩)) (pcs_one _ _) (by unfold maxLen; omega) (by omega) hS.size ?_
   intro v2 W3 hown1 hgrow1 _
   have HS3 : Hid (Below w3.heap.size w3 W3) := hS.grown hgrow1 hS.size (fun q hq => (HW2.out.lt q hq).1)
   have HW3 : Hid (W3.ownsRow w3.heap.size 28 2 v2 (n - 1) (pcs (fO f k) (n - 1))) := by
     rw [← pcs_out f k (n - (k + 1))] at hown1
     rw [show k + (n - (k + 1)) = n - 1 by omega] at hown1
     exact hown1
   clear hown1 hgrow1
   refine hK.out _ _ HS3.out ?_
   clear hS
   intro hS
   clear hK KF
   try simp only [AP]
   refine takA (i := 10) (d := some 9) (v := v2) hS ?_
   simp only [AP]
   refine wpAnyH_done (by kernel_rfl) ?_ _
   clear hS
   clear hao hrr1 hk0 hk1 hk2 hk3 hk4 hkw
   have HB4 : Hid (Below w.heap.size w W3) := below_step HB3.out HS3.out
   have HPS : Hid (Ps W3 v2 (n - 1) (fO f k)) := ps_own HW3.out (by omega) (fun j => by unfold fO; split <;> exact HF.out.word _)
   clear HB3 HS3 HW3
   have key : (t = true ∧ Hid (∀ b : Bool, (b = true ↔ FlatP f n) → b = true) ∧ FlatP f n) ∨ (t = false ∧ Hid (∀ b : Bool, (b = true ↔ FlatP f n) → b = false)) := by
     cases t with
     | true => exact Or.inl ⟨rfl, fun b hb => hb.2 (HT.out.1 rfl).2, (HT.out.1 rfl).2⟩
     | false => exact Or.inr ⟨rfl, fun b hb => by
         cases b with
         | false => rfl
         | true => exact absurd (HT.out.2 ⟨HM.out, hb.1 rfl⟩) (by decide)⟩
   clear HT
   rcases key with ⟨rfl, HTF, hfl⟩ | ⟨rfl, HTF⟩
   case' inl =>
     have HFL : Hid (FlatP f n) := hfl
     clear hfl
     go_wp2_with fail
     refine (flat_any _ (n - 1) (fO f k) _ HPS.out).mono ?_
     rintro e W4 ⟨⟨t2, rfl, ht2⟩, hb5⟩
     obtain rfl : t2 = true := ht2.2 ⟨fO_may HM.out hpos, fO_flat HFL.out⟩
     have HB5 : Hid (Below w.heap.size w W4) := below_step HB4.out hb5
     clear ht2 hb5 HPS HB4 HFL
     go_wp2_with fail
   case' inr =>
     go_wp2_with fail
     obtain ⟨W4, hW4⟩ : ∃ W4, W3 = W4 := ⟨_, rfl⟩
     subst hW4
     have HB5 : Hid (Below w.heap.size w W3) := HB4.out
     clear HPS HB4
   all_goals
     refine (unlike_any _ n f _ (HF.out.later HB5.out)).mono ?_
     rintro e w6 ⟨h6, hb6⟩
     rcases h6 with ⟨hh, _⟩ | ⟨_, R1, os, us, rfl, _, ho, hus, hi1⟩
     · exact absurd HM.out hh
     have HB6 : Hid (Below w.heap.size w w6) := below_step HB5.out hb6
     have HO : Hid (Ord f n os ∧ us = os.filter (fun i => decide (tw f i = i))) := ⟨ho, hus⟩
     obtain ⟨L, hL⟩ : ∃ L, us.length = L := ⟨_, rfl⟩
     rw [hL] at hi1
     rw [hL]
     have HL : Hid (us.length = L) := hL
     have hLn : L ≤ n := by rw [← hL, hus]; exact Nat.le_trans (List.length_filter_le _ _) (by rw [ho.len]; exact Nat.le_refl _)
     have HI : Hid (IRow w6 R1 L (fun k => (us.getD k 0 : Nat))) := hi1
     clear hb6 HB5 ho hus hi1 hL
     go_wp2
     go_loopw [11, 12] (fun s11 s12 wr => ∃ (i : Nat) (b : Bool), 2 ≤ i ∧ s12 = .int .i64 (i : Nat) ∧ s11 = .bool b ∧ Hid (OnT f us i b ∧ IRow wr R1 L (fun k => (us.getD k 0 : Nat)) ∧ Below w.heap.size w wr)) (fun _ s12 _ => L - (intOf s12).toNat)
     case atStart => exact ⟨2, true, by omega, rfl, rfl, ⟨fun _ j h1 h2 _ => by omega, fun _ => rfl⟩, HI.out, HB6.out⟩
     case round =>
       clear HI HB6
       obtain ⟨i, b, hi2, rfl, rfl, hK⟩ := hrel
       by_cases hlt : i < L
       · have hlt' : (i : Int) < (L : Int) := by omega
         have hi0 : (0 : Int) ≤ (i : Int) := by omega
         have hL0 : ¬ L = 0 := by omega
         have hL1 : 1 < L := by omega
         have hL2 : (0 : Int) < (L : Int) := by omega
         have hL3 : (1 : Int) < (L : Int) := by omega
         have hmem : ∀ j, j < L → us.getD j 0 < n := fun j hj => un_lt HO.out.1 HO.out.2 (by rw [HL.out]; exact hj)
         obtain ⟨u0, hu0⟩ : ∃ x, Hid (us.getD 0 0 = x) := ⟨_, rfl⟩
         obtain ⟨u1, hu1⟩ : ∃ x, Hid (us.getD 1 0 = x) := ⟨_, rfl⟩
         obtain ⟨ui, hui⟩ : ∃ x, Hid (us.getD i 0 = x) := ⟨_, rfl⟩
         have n0 : u0 < n := by rw [← hu0.out]; exact hmem 0 (by omega)
         have n1 : u1 < n := by rw [← hu1.out]; exact hmem 1 (by omega)
         have ni : ui < n := by rw [← hui.out]; exact hmem i hlt
         have n0' : (u0 : Int) < (n : Int) := by omega
         have n1' : (u1 : Int) < (n : Int) := by omega
         have ni' : (ui : Int) < (n : Int) := by omega
         have p0 : (0 : Int) ≤ (u0 : Int) := by omega
         have p1 : (0 : Int) ≤ (u1 : Int) := by omega
         have pi' : (0 : Int) ≤ (ui : Int) := by omega
         have a0 := (hK.out.2.1.cell 0 (by omega)).1
         have a1 := (hK.out.2.1.cell 1 (by omega)).1
         have a2 := (hK.out.2.1.cell i hlt).1
         rw [hu0.out] at a0
         rw [hu1.out] at a1
         rw [hui.out] at a2
         have b0 := box_cell hK.out.2.2 (HCL.out u0 n0).1
         have b1 := box_cell hK.out.2.2 (HCL.out u0 n0).2
         have b2 := box_cell hK.out.2.2 (HCL.out u1 n1).1
         have b3 := box_cell hK.out.2.2 (HCL.out u1 n1).2
         have b4 := box_cell hK.out.2.2 (HCL.out ui ni).1
         have b5 := box_cell hK.out.2.2 (HCL.out ui ni).2
         have hW6 : W6 (f u0).1 (f u0).2 (f u1).1 (f u1).2 (f ui).1 (f ui).2 := W6.of (HF.out.word _) (HF.out.word _) (HF.out.word _)
         have hsg : sg3 (f u0).1 (f u0).2 (f u1).1 (f u1).2 (f ui).1 (f ui).2 = sgq (S3p (f u0) (f u1) (f ui)) := sg3_yes ⟨HM.out.2 u0 n0, HM.out.2 u1 n1, HM.out.2 ui ni⟩
         clear hmem
         cases b with
         | false =>
           clear hW6 hsg
           go_wp2_with fail
           refine wp_region_held_drew (S := (fun W => W.cell? ⟨R1, 0, none⟩ = some (.int .i64 (u0 : Int)) ∧ W.cell? ⟨R1, 1, none⟩ = some (.int .i64 (u1 : Int)) ∧ W.cell? ⟨R1, i, none⟩ = some (.int .i64 (ui : Int)) ∧ W.cell? ⟨g, off + u0 * 2, none⟩ = some (.float .f64 (f u0).1) ∧ W.cell? ⟨g, off + u0 * 2 + 1, none⟩ = some (.float .f64 (f u0).2) ∧ W.cell? ⟨g, off + u1 * 2, none⟩ = some (.float .f64 (f u1).1) ∧ W.cell? ⟨g, off + u1 * 2 + 1, none⟩ = some (.float .f64 (f u1).2) ∧ W.cell? ⟨g, off + ui * 2, none⟩ = some (.float .f64 (f ui).1) ∧ W.cell? ⟨g, off + ui * 2 + 1, none⟩ = some (.float .f64 (f ui).2) ∧ Below wr.heap.size wr W)) (by kernel_rfl) ⟨a0, a1, a2, b0, b1, b2, b3, b4, b5, (Below.refl _ _).drew⟩ (fun hS => ?_)
           refine takA (i := 0) (d := some 68) (v := .bool false) hS ?_
           simp only [AP]
           refine takA (i := 1) (d := some 69) (v := .bool false) hS ?_
           simp only [AP]
           refine skip_at 2 (d := some 70) (by kernel_rfl) (by kernel_rfl) (by kernel_rfl) (by kernel_rfl) (fun _ _ _ h => h) (by rfl) hS ?_
           simp only [AP]
           refine skip_at 3 (d := some 71) (by kernel_rfl) (by kernel_rfl) (by kernel_rfl) (by kernel_rfl) (fun _ _ _ h => h) (by rfl) hS ?_
           simp only [AP]
           refine skip_at 4 (d := some 72) (by kernel_rfl) (by kernel_rfl) (by kernel_rfl) (by kernel_rfl) (fun _ _ _ h => h) (by rfl) hS ?_
           simp only [AP]
           refine skip_at 5 (d := some 73) (by kernel_rfl) (by kernel_rfl) (by kernel_rfl) (by kernel_rfl) (fun _ _ _ h => h) (by rfl) hS ?_
           simp only [AP]
           refine skip_at 6 (d := some 74) (by kernel_rfl) (by kernel_rfl) (by kernel_rfl) (by kernel_rfl) (fun _ _ _ h => h) (by rfl) hS ?_
           simp only [AP]
           refine skip_at 7 (d := some 75) (by kernel_rfl) (by kernel_rfl) (by kernel_rfl) (by kernel_rfl) (fun _ _ _ h => h) (by rfl) hS ?_
           simp only [AP]
           refine skip_at 8 (d := some 76) (by kernel_rfl) (by kernel_rfl) (by kernel_rfl) (by kernel_rfl) (fun _ _ _ h => h) (by rfl) hS ?_
           simp only [AP]
           refine skip_at 9 (d := some 77) (by kernel_rfl) (by kernel_rfl) (by kernel_rfl) (by kernel_rfl) (fun _ _ _ h => h) (by rfl) hS ?_
           simp only [AP]
           refine skip_at 10 (d := some 78) (by kernel_rfl) (by kernel_rfl) (by kernel_rfl) (by kernel_rfl) (fun _ _ _ h => h) (by rfl) hS ?_
           simp only [AP]
           refine skip_at 11 (d := some 79) (by kernel_rfl) (by kernel_rfl) (by kernel_rfl) (by kernel_rfl) (fun _ _ _ h => h) (by rfl) hS ?_
           simp only [AP]
           refine skip_at 12 (d := some 80) (by kernel_rfl) (by kernel_rfl) (by kernel_rfl) (by kernel_rfl) (fun _ _ _ h => h) (by rfl) hS ?_
           simp only [AP]
           refine skip_at 13 (d := some 81) (by kernel_rfl) (by kernel_rfl) (by kernel_rfl) (by kernel_rfl) (fun _ _ _ h => h) (by rfl) hS ?_
           simp only [AP]
           refine skip_at 14 (d := some 82) (by kernel_rfl) (by kernel_rfl) (by kernel_rfl) (by kernel_rfl) (fun _ _ _ h => h) (by rfl) hS ?_
           simp only [AP]
           refine skip_at 15 (d := some 83) (by kernel_rfl) (by kernel_rfl) (by kernel_rfl) (by kernel_rfl) (fun _ _ _ h => h) (by rfl) hS ?_
           simp only [AP]
           refine skip_at 16 (d := some 84) (by kernel_rfl) (by kernel_rfl) (by kernel_rfl) (by kernel_rfl) (fun _ _ _ h => h) (by rfl) hS ?_
           simp only [AP]
           refine skip_at 17 (d := some 85) (by kernel_rfl) (by kernel_rfl) (by kernel_rfl) (by kernel_rfl) (fun _ _ _ h => h) (by rfl) hS ?_
           simp only [AP]
           refine skip_at 18 (d := some 86) (by kernel_rfl) (by kernel_rfl) (by kernel_rfl) (by kernel_rfl) (fun _ _ _ h => h) (by rfl) hS ?_
           simp only [AP]
           refine skip_at 19 (d := some 87) (by kernel_rfl) (by kernel_rfl) (by kernel_rfl) (by kernel_rfl) (fun _ _ _ h => h) (by rfl) hS ?_
           simp only [AP]
           refine skip_at 20 (d := some 88) (by kernel_rfl) (by kernel_rfl) (by kernel_rfl) (by kernel_rfl) (fun _ _ _ h => h) (by rfl) hS ?_
           simp only [AP]
           refine skip_at 21 (d := some 89) (by kernel_rfl) (by kernel_rfl) (by kernel_rfl) (by kernel_rfl) (fun _ _ _ h => h) (by rfl) hS ?_
           simp only [AP]
           refine skip_at 22 (d := some 90) (by kernel_rfl) (by kernel_rfl) (by kernel_rfl) (by kernel_rfl) (fun _ _ _ h => h) (by rfl) hS ?_
           simp only [AP]
           refine takA (i := 23) (d := some 91) (v := .bool false) hS ?_
           simp only [AP]
           refine takA (i := 24) (d := some 11) (v := .bool false) hS ?_
           simp only [AP]
           refine wpAnyH_done (by kernel_rfl) ?_ _
           have HB2 : Hid (Below wr.heap.size wr _) := hS.2.2.2.2.2.2.2.2.2
           clear hS
           go_wp2
           refine ⟨⟨i + 1, false, by omega, by go_num, rfl, ?_, hK.out.2.1.later HB2.out, below_step hK.out.2.2 HB2.out⟩, by simp [intOf]; omega⟩
           exact on_still hK.out.1
         | true =>
           by_cases hz : S3p (f u0) (f u1) (f ui) = 0
           · have HU : Hid (W6 (f u0).1 (f u0).2 (f u1).1 (f u1).2 (f ui).1 (f ui).2 ∧ sg3 (f u0).1 (f u0).2 (f u1).1 (f u1).2 (f ui).1 (f ui).2 = 0) := ⟨hW6, by rw [hsg, sgq_zero]; exact hz⟩
             have HZ : Hid (S3p (f (us.getD 0 0)) (f (us.getD 1 0)) (f (us.getD i 0)) = 0) := by rw [hu0.out, hu1.out, hui.out]; exact hz
             clear hW6 hsg hz
             go_wp2_with fail
             refine wp_region_held_drew (S := (fun W => W.cell? ⟨R1, 0, none⟩ = some (.int .i64 (u0 : Int)) ∧ W.cell? ⟨R1, 1, none⟩ = some (.int .i64 (u1 : Int)) ∧ W.cell? ⟨R1, i, none⟩ = some (.int .i64 (ui : Int)) ∧ W.cell? ⟨g, off + u0 * 2, none⟩ = some (.float .f64 (f u0).1) ∧ W.cell? ⟨g, off + u0 * 2 + 1, none⟩ = some (.float .f64 (f u0).2) ∧ W.cell? ⟨g, off + u1 * 2, none⟩ = some (.float .f64 (f u1).1) ∧ W.cell? ⟨g, off + u1 * 2 + 1, none⟩ = some (.float .f64 (f u1).2) ∧ W.cell? ⟨g, off + ui * 2, none⟩ = some (.float .f64 (f ui).1) ∧ W.cell? ⟨g, off + ui * 2 + 1, none⟩ = some (.float .f64 (f ui).2) ∧ Below wr.heap.size wr W)) (by kernel_rfl) ⟨a0, a1, a2, b0, b1, b2, b3, b4, b5, (Below.refl _ _).drew⟩ (fun hS => ?_)
             refine takA (i := 0) (d := some 68) (v := .bool true) hS ?_
             simp only [AP]
             refine takA (i := 1) (d := some 69) (v := .bool true) hS ?_
             simp only [AP]
             refine takA (i := 2) (d := some 70) (v := .slice (some ⟨g, off, none⟩) n c) hS ?_
             simp only [AP]
             refine takA (i := 3) (d := some 71) (v := .slice (some ⟨R1, 0, none⟩) L n) hS ?_
             simp only [AP]
             refine takA (i := 4) (d := some 72) (v := .pointer (some ⟨R1, 0, none⟩)) hS ?_
             simp only [AP]
             refine takA (i := 5) (d := some 73) (v := .int .i64 (u0 : Int)) hS ?_
             simp only [AP]
             refine takA (i := 6) (d := some 74) (v := .pointer (some ⟨g, off + u0 * 2, none⟩)) hS ?_
             simp only [AP]
             refine takA (i := 7) (d := some 75) (v := .agg #[.float .f64 (f u0).1, .float .f64 (f u0).2]) hS ?_
             simp only [AP]
             refine takA (i := 8) (d := some 76) (v := .slice (some ⟨g, off, none⟩) n c) hS ?_
             simp only [AP]
             refine takA (i := 9) (d := some 77) (v := .slice (some ⟨R1, 0, none⟩) L n) hS ?_
             simp only [AP]
             refine takA (i := 10) (d := some 78) (v := .pointer (some ⟨R1, 1, none⟩)) hS ?_
             simp only [AP]
             refine takA (i := 11) (d := some 79) (v := .int .i64 (u1 : Int)) hS ?_
             simp only [AP]
             refine takA (i := 12) (d := some 80) (v := .pointer (some ⟨g, off + u1 * 2, none⟩)) hS ?_
             simp only [AP]
             refine takA (i := 13) (d := some 81) (v := .agg #[.float .f64 (f u1).1, .float .f64 (f u1).2]) hS ?_
             simp only [AP]
             refine takA (i := 14) (d := some 82) (v := .slice (some ⟨g, off, none⟩) n c) hS ?_
             simp only [AP]
             refine takA (i := 15) (d := some 83) (v := .slice (some ⟨R1, 0, none⟩) L n) hS ?_
             simp only [AP]
             refine takA (i := 16) (d := some 84) (v := .int .i64 (i : Int)) hS ?_
             simp only [AP]
             refine takA (i := 17) (d := some 85) (v := .pointer (some ⟨R1, i, none⟩)) hS ?_
             simp only [AP]
             refine takA (i := 18) (d := some 86) (v := .int .i64 (ui : Int)) hS ?_
             simp only [AP]
             refine takA (i := 19) (d := some 87) (v := .pointer (some ⟨g, off + ui * 2, none⟩)) hS ?_
             simp only [AP]
             refine takA (i := 20) (d := some 88) (v := .agg #[.float .f64 (f ui).1, .float .f64 (f ui).2]) hS ?_
             simp only [AP]
             refine calA 21 fun KF hK => ?_
             go_simp
             refine (sign3_any (f u0).1 (f u0).2 (f u1).1 (f u1).2 (f ui).1 (f ui).2 _ HU.out.1).mono ?_
             rintro e wx ⟨rfl, hbx⟩
             rw [HU.out.2]
             go_wp2_with fail
             refine hK.out _ _ (kp9 hbx hS) ?_
             clear hS hbx
             intro hS
             clear hK KF
             try simp only [AP]
             refine takA (i := 22) (d := some 90) (v := .bool true) hS ?_
             simp only [AP]
             refine takA (i := 23) (d := some 91) (v := .bool true) hS ?_
             simp only [AP]
             refine takA (i := 24) (d := some 11) (v := .bool true) hS ?_
             simp only [AP]
             refine wpAnyH_done (by kernel_rfl) ?_ _
             have HB2 : Hid (Below wr.heap.size wr _) := hS.2.2.2.2.2.2.2.2.2
             clear hS
             go_wp2
             refine ⟨⟨i + 1, true, by omega, by go_num, rfl, ?_, hK.out.2.1.later HB2.out, below_step hK.out.2.2 HB2.out⟩, by simp [intOf]; omega⟩
             exact on_yes hK.out.1 HZ.out
           · obtain ⟨zz, hzz⟩ : ∃ zz, sg3 (f u0).1 (f u0).2 (f u1).1 (f u1).2 (f ui).1 (f ui).2 = zz := ⟨_, rfl⟩
             have hz1' : ¬ zz = 0 := by rw [← hzz, hsg, sgq_zero]; exact hz
             have hz2' : (zz == 0) = false := by simp [hz1']
             have HU : Hid (W6 (f u0).1 (f u0).2 (f u1).1 (f u1).2 (f ui).1 (f ui).2 ∧ sg3 (f u0).1 (f u0).2 (f u1).1 (f u1).2 (f ui).1 (f ui).2 = zz) := ⟨hW6, hzz⟩
             have HZ : Hid (¬ S3p (f (us.getD 0 0)) (f (us.getD 1 0)) (f (us.getD i 0)) = 0) := by rw [hu0.out, hu1.out, hui.out]; exact hz
             clear hW6 hsg hz hzz
             go_wp2_with fail
             refine wp_region_held_drew (S := (fun W => W.cell? ⟨R1, 0, none⟩ = some (.int .i64 (u0 : Int)) ∧ W.cell? ⟨R1, 1, none⟩ = some (.int .i64 (u1 : Int)) ∧ W.cell? ⟨R1, i, none⟩ = some (.int .i64 (ui : Int)) ∧ W.cell? ⟨g, off + u0 * 2, none⟩ = some (.float .f64 (f u0).1) ∧ W.cell? ⟨g, off + u0 * 2 + 1, none⟩ = some (.float .f64 (f u0).2) ∧ W.cell? ⟨g, off + u1 * 2, none⟩ = some (.float .f64 (f u1).1) ∧ W.cell? ⟨g, off + u1 * 2 + 1, none⟩ = some (.float .f64 (f u1).2) ∧ W.cell? ⟨g, off + ui * 2, none⟩ = some (.float .f64 (f ui).1) ∧ W.cell? ⟨g, off + ui * 2 + 1, none⟩ = some (.float .f64 (f ui).2) ∧ Below wr.heap.size wr W)) (by kernel_rfl) ⟨a0, a1, a2, b0, b1, b2, b3, b4, b5, (Below.refl _ _).drew⟩ (fun hS => ?_)
             refine takA (i := 0) (d := some 68) (v := .bool true) hS ?_
             simp only [AP]
             refine takA (i := 1) (d := some 69) (v := .bool true) hS ?_
             simp only [AP]
             refine takA (i := 2) (d := some 70) (v := .slice (some ⟨g, off, none⟩) n c) hS ?_
             simp only [AP]
             refine takA (i := 3) (d := some 71) (v := .slice (some ⟨R1, 0, none⟩) L n) hS ?_
             simp only [AP]
             refine takA (i := 4) (d := some 72) (v := .pointer (some ⟨R1, 0, none⟩)) hS ?_
             simp only [AP]
             refine takA (i := 5) (d := some 73) (v := .int .i64 (u0 : Int)) hS ?_
             simp only [AP]
             refine takA (i := 6) (d := some 74) (v := .pointer (some ⟨g, off + u0 * 2, none⟩)) hS ?_
             simp only [AP]
             refine takA (i := 7) (d := some 75) (v := .agg #[.float .f64 (f u0).1, .float .f64 (f u0).2]) hS ?_
             simp only [AP]
             refine takA (i := 8) (d := some 76) (v := .slice (some ⟨g, off, none⟩) n c) hS ?_
             simp only [AP]
             refine takA (i := 9) (d := some 77) (v := .slice (some ⟨R1, 0, none⟩) L n) hS ?_
             simp only [AP]
             refine takA (i := 10) (d := some 78) (v := .pointer (some ⟨R1, 1, none⟩)) hS ?_
             simp only [AP]
             refine takA (i := 11) (d := some 79) (v := .int .i64 (u1 : Int)) hS ?_
             simp only [AP]
             refine takA (i := 12) (d := some 80) (v := .pointer (some ⟨g, off + u1 * 2, none⟩)) hS ?_
             simp only [AP]
             refine takA (i := 13) (d := some 81) (v := .agg #[.float .f64 (f u1).1, .float .f64 (f u1).2]) hS ?_
             simp only [AP]
             refine takA (i := 14) (d := some 82) (v := .slice (some ⟨g, off, none⟩) n c) hS ?_
             simp only [AP]
             refine takA (i := 15) (d := some 83) (v := .slice (some ⟨R1, 0, none⟩) L n) hS ?_
             simp only [AP]
             refine takA (i := 16) (d := some 84) (v := .int .i64 (i : Int)) hS ?_
             simp only [AP]
             refine takA (i := 17) (d := some 85) (v := .pointer (some ⟨R1, i, none⟩)) hS ?_
             simp only [AP]
             refine takA (i := 18) (d := some 86) (v := .int .i64 (ui : Int)) hS ?_
             simp only [AP]
             refine takA (i := 19) (d := some 87) (v := .pointer (some ⟨g, off + ui * 2, none⟩)) hS ?_
             simp only [AP]
             refine takA (i := 20) (d := some 88) (v := .agg #[.float .f64 (f ui).1, .float .f64 (f ui).2]) hS ?_
             simp only [AP]
             refine calA 21 fun KF hK => ?_
             go_simp
             refine (sign3_any (f u0).1 (f u0).2 (f u1).1 (f u1).2 (f ui).1 (f ui).2 _ HU.out.1).mono ?_
             rintro e wx ⟨rfl, hbx⟩
             rw [HU.out.2]
             go_wp2_with fail
             refine hK.out _ _ (kp9 hbx hS) ?_
             clear hS hbx
             intro hS
             clear hK KF
             try simp only [AP]
             refine takA (i := 22) (d := some 90) (v := .bool false) hS ?_
             simp only [AP]
             refine takA (i := 23) (d := some 91) (v := .bool false) hS ?_
             simp only [AP]
             refine takA (i := 24) (d := some 11) (v := .bool false) hS ?_
             simp only [AP]
             refine wpAnyH_done (by kernel_rfl) ?_ _
             have HB2 : Hid (Below wr.heap.size wr _) := hS.2.2.2.2.2.2.2.2.2
             clear hS
             go_wp2
             refine ⟨⟨i + 1, false, by omega, by go_num, rfl, ?_, hK.out.2.1.later HB2.out, below_step hK.out.2.2 HB2.out⟩, by simp [intOf]; omega⟩
             exact on_not (by rw [HL.out]; exact hlt) hi2 HZ.out
       · have hlt1 : ¬ (i : Int) < (L : Int) := by omega
         have HBW : Hid (Below w.heap.size w wr) := hK.out.2.2
         have hb := HTF.out b (on_flat HO.out.1 HO.out.2 (by rw [HL.out]; omega) hK.out.1)
         clear HTF hK
         subst hb
         go_wp2
         go_ret
         exact ⟨rfl, HBW.out⟩

end Go.Proofs.Ytgpbfhennineiaa
