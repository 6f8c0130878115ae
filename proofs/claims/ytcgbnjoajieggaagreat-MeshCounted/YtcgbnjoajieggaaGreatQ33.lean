/- Own texts, put together: Oh Aa Ab Ac Oi Oj Ad Ae Ss. -/
import Derived.Test.YtcgbnjoajieggaaGreatQ3
import Derived.Test.YtcgbnjoajieggaaGreatQ4
import Derived.Test.YtcgbnjoajieggaaGreatQ24
import Derived.Test.YtcgbnjoajieggaaGreatQ31
import Derived.Sort.Grow
import Derived.Laws.StructEq
import Derived.ProofKit
import Derived.OpenShut
import Derived.Laws.Cover2
import Derived.ChangeOld
import Derived.Below
import Derived.Carry
import Derived.Deep.SlicePairs
namespace Go.Proofs.YtcgbnjoajieggaaGreat
/- Package orient: On, Cross. -/
section
open Go.RowKit Go.Shelf
attribute [local go_sem ↓] Go.wp_at_zero Go.wp_at_succ
attribute [local go_sem] run_store_float
def Btw (a b x : Rat) : Prop := (a ≤ x ∧ x ≤ b) ∨ (b ≤ x ∧ x ≤ a)
def OnP (ax ay bx by' px py : Nat) : Prop := P3 ax ay bx by' px py ∧ Btw (fval ax) (fval bx) (fval px) ∧ Btw (fval ay) (fval by') (fval py) ∧ S3 ax ay bx by' px py = 0
end

/- Points in their order, twins, what is unlike, flat lists: plain facts. -/
section
def hold (p q : Nat × Nat) : Int := if fval p.1 < fval q.1 then -1 else if fval q.1 < fval p.1 then 1 else if fval p.2 < fval q.2 then -1 else if fval q.2 < fval p.2 then 1 else 0
def alike (p q : Nat × Nat) : Prop := fval p.1 = fval q.1 ∧ fval p.2 = fval q.2
instance (p q : Nat × Nat) : Decidable (alike p q) := by unfold alike; exact inferInstance
variable (f : Nat → Nat × Nat)
def ltO (i j : Nat) : Prop := hold (f i) (f j) < 0 ∨ (hold (f i) (f j) = 0 ∧ i < j)
variable {f}
variable (f)
structure Ord (n : Nat) (os : List Nat) : Prop where
 perm : os.Perm (List.range n)
 pw : os.Pairwise (ltO f)
variable {f}
theorem Ord.len {n : Nat} {a : List Nat} (h : Ord f n a) : a.length = n := by rw [h.perm.length_eq, List.length_range]
theorem Ord.mem {n : Nat} {a : List Nat} (h : Ord f n a) {i : Nat} : i ∈ a ↔ i < n := by rw [h.perm.mem_iff, List.mem_range]
theorem Ord.lt {n : Nat} {a : List Nat} (h : Ord f n a) {k : Nat} (hk : k < a.length) : a[k] < n := h.mem.1 (List.getElem_mem hk)
end

/- Package admit: which points and lists may be. -/
section
open Go.RowKit Go.Shelf
attribute [local go_sem ↓] Go.wp_at_zero Go.wp_at_succ
attribute [local go_sem] run_store_float
abbrev PtP (p : Nat × Nat) : Prop := Pt p.1 p.2
structure Ps (w : World) (s : Value) (n : Nat) (f : Nat → Nat × Nat) : Prop where
 form : ∃ a c, s = .slice a n c ∧ n ≤ c ∧ c ≤ 9223372036854775807 ∧ (n = 0 ∨ ∃ g off, a = some ⟨g, off, none⟩ ∧ g < w.heap.size ∧ ∀ k, k < n → w.cell? ⟨g, off + k * 2, none⟩ = some (.float .f64 (f k).1) ∧ w.cell? ⟨g, off + k * 2 + 1, none⟩ = some (.float .f64 (f k).2))
 word : ∀ k, WdP (f k)
theorem Ps.later {w w' : World} {s : Value} {n : Nat} {f : Nat → Nat × Nat} (h : Ps w s n f) (hb : Below w.heap.size w w') : Ps w' s n f := by
 obtain ⟨⟨a, c, hs, hc, hm, hf⟩, h2⟩ := h
 refine ⟨⟨a, c, hs, hc, hm, ?_⟩, h2⟩
 rcases hf with hf | ⟨g, off, ha, hg, hf⟩
 · exact Or.inl hf
 · exact Or.inr ⟨g, off, ha, Nat.lt_of_lt_of_le hg hb.size, fun k hk => ⟨box_cell hb (hf k hk).1, box_cell hb (hf k hk).2⟩⟩
theorem Ps.shape {w : World} {s : Value} {n : Nat} {f : Nat → Nat × Nat} (h : Ps w s n f) : ∃ a c, s = .slice a n c ∧ n ≤ c ∧ c ≤ 9223372036854775807 := by
 obtain ⟨⟨a, c, h, hc, hm, _⟩, _⟩ := h
 exact ⟨a, c, h, hc, hm⟩
theorem Ps.some {w : World} {n c : Nat} {a : Option Addr} {f : Nat → Nat × Nat} (h : Ps w (.slice a n c) n f) (hn : 0 < n) : ∃ g off, a = some ⟨g, off, none⟩ ∧ g < w.heap.size ∧ ∀ k, k < n → w.cell? ⟨g, off + k * 2, none⟩ = some (.float .f64 (f k).1) ∧ w.cell? ⟨g, off + k * 2 + 1, none⟩ = some (.float .f64 (f k).2) := by
 obtain ⟨⟨a', c', e, hc, hm, hf⟩, _⟩ := h
 cases e
 rcases hf with hf | hf
 · omega
 · exact hf
def AllR (n : Nat) (f : Nat → Nat × Nat) (z e : Int) : Prop :=
 (1048576 < n ∧ z = 0 ∧ e = 3) ∨ (n ≤ 1048576 ∧ (∀ k, k < n → PtP (f k)) ∧ z = 0 ∧ e = 0) ∨ (n ≤ 1048576 ∧ ∃ k : Nat, k < n ∧ ¬ PtP (f k) ∧ (∀ j, j < k → PtP (f j)) ∧ z = (k : Nat) ∧ e = 10)
def MayL (n : Nat) (f : Nat → Nat × Nat) : Prop := n ≤ 1048576 ∧ ∀ k, k < n → PtP (f k)
theorem AllR.ok {n : Nat} {f : Nat → Nat × Nat} {z e : Int} (h : AllR n f z e) : e = 0 ↔ MayL n f := by
 rcases h with ⟨h1, rfl, rfl⟩ | ⟨h1, h2, rfl, rfl⟩ | ⟨h1, k, hk, h2, _, rfl, rfl⟩
 · exact ⟨fun h => by omega, fun h => by have := h.1; omega⟩
 · exact ⟨fun _ => ⟨h1, h2⟩, fun _ => rfl⟩
 · exact ⟨fun h => by omega, fun h => absurd (h.2 k hk) h2⟩
set_option maxRecDepth 100000 in
set_option maxHeartbeats 2000000 in
theorem all_any (s : Value) (n : Nat) (f : Nat → Nat × Nat) (w : World) (h : Ps w s n f) : Calls Tryz.prog 42 #[s] w fun e w' => (∃ z r, e = .returned (.tuple #[.int .i64 z, .int .i64 r]) ∧ AllR n f z r) ∧ Below w.heap.size w w' := by
 obtain ⟨a, c, rfl, hc, hm⟩ := h.shape
 have HF : Hid (Ps w (.slice a n c) n f) := h
 clear h
 by_cases hbig : 1048576 < n
 · have hbig' : (1048576 : Int) < (n : Int) := by omega
   have HB : Hid (1048576 < n) := hbig
   clear hbig
   go_enter Tryz.func42, Tryz.ntmps42
   go_wp2
   go_ret2
   exact ⟨⟨0, 3, rfl, Or.inl ⟨HB.out, rfl, rfl⟩⟩, Below.refl _ _⟩
 · have hbig' : ¬ (1048576 : Int) < (n : Int) := by omega
   have hle : n ≤ 1048576 := by omega
   clear hbig
   go_enter Tryz.func42, Tryz.ntmps42
   go_wp2
   go_loopw [11] (fun i wr => ∃ k : Nat, k ≤ n ∧ i = .int .i64 (k : Nat) ∧ Hid (Below w.heap.size w wr ∧ ∀ j, j < k → PtP (f j))) (fun i _ => n - (intOf i).toNat)
   case atStart => exact ⟨0, Nat.zero_le _, rfl, Below.refl _ _, fun j hj => by omega⟩
   case round =>
     obtain ⟨k, hk, rfl, hB⟩ := hrel
     by_cases hlt : k < n
     · have hlt' : (k : Int) < (n : Int) := by omega
       have hk0 : (0 : Int) ≤ (k : Int) := by omega
       obtain ⟨g, off, rfl, hg, hcell⟩ := HF.out.some (by omega)
       have c1 := box_cell hB.out.1 (hcell k hlt).1
       have c2 := box_cell hB.out.1 (hcell k hlt).2
       obtain ⟨x, hx⟩ : ∃ x : Nat, Hid ((f k).1 = x) := ⟨_, rfl⟩
       obtain ⟨y, hy⟩ : ∃ y : Nat, Hid ((f k).2 = y) := ⟨_, rfl⟩
       rw [hx.out] at c1
       rw [hy.out] at c2
       have HX : Hid (WdP (x, y)) := by rw [← hx.out, ← hy.out]; exact HF.out.word k
       have HP : Hid (PtP (f k) ↔ Pt x y) := by rw [← hx.out, ← hy.out]; exact Iff.rfl
       have HS : Hid (g < wr.heap.size) := Nat.lt_of_lt_of_le hg hB.out.1.size
       clear hcell hx hy
       go_wp2_with fail
       refine (may1_any x y _ HX.out).mono ?_
       rintro e w1 ⟨⟨t, rfl, ht⟩, hb1⟩
       have HB1 : Hid (Below w.heap.size w w1) := below_step (hB.out.1.alloc hB.out.1.size _) hb1
       have HT : Hid (t = true ↔ Pt x y) := ht
       clear ht hb1 c1 c2
       cases t
       · go_wp2
         go_ret2
         exact ⟨⟨k, 10, rfl, Or.inr (Or.inr ⟨hle, k, hlt, fun h => Bool.noConfusion (HT.out.2 (HP.out.1 h)), hB.out.2, rfl, rfl⟩)⟩, HB1.out⟩
       · have HQ : Hid (Pt x y) := HT.out.1 rfl
         go_wp2
         refine ⟨⟨k + 1, by omega, by go_num, HB1.out, fun j hj => ?_⟩, by simp [intOf]; omega⟩
         by_cases e : j = k
         · rw [e]; exact HP.out.2 HQ.out
         · exact hB.out.2 j (by omega)
     · obtain rfl : k = n := by omega
       have hltb : decide ((k : Int) < (k : Int)) = false := decide_eq_false (by omega)
       go_wp2
       go_ret2
       exact ⟨⟨0, 0, rfl, Or.inr (Or.inl ⟨hle, hB.out.2, rfl, rfl⟩)⟩, hB.out.1⟩
end

/- Package admit: two points held against each other. -/
section
open Go.RowKit Go.Shelf Go.Sort
attribute [local go_sem ↓] Go.wp_at_zero Go.wp_at_succ
attribute [local go_sem] run_store_float
def GrW (w W : World) : Prop := ∃ q os, W = grow (w.drewN q) os
theorem GrW.refl (w : World) : GrW w w := ⟨0, #[], by rw [grow_empty]; rfl⟩
theorem GrW.alloc {w W : World} (h : GrW w W) (o : Obj) : GrW w (W.alloc o) := by
 obtain ⟨q, os, rfl⟩ := h
 exact ⟨q, os ++ #[o], by rw [alloc_eq_grow, grow_grow]⟩
theorem GrW.drew {w W : World} (h : GrW w W) : GrW w W.drew := by
 obtain ⟨q, os, rfl⟩ := h
 exact ⟨q + 1, os, rfl⟩
theorem GrW.trans {w W V : World} (h : GrW w W) (h' : GrW W V) : GrW w V := by
 obtain ⟨q, os, rfl⟩ := h
 obtain ⟨q', os', rfl⟩ := h'
 refine ⟨q + q', os ++ os', ?_⟩
 show grow (grow ((w.drewN q).drewN q') os) os' = _
 rw [grow_grow]
 congr 1
 simp [World.drewN, Nat.add_assoc]
theorem GrW.below {w W : World} (h : GrW w W) : Below w.heap.size w W := by
 obtain ⟨q, os, rfl⟩ := h
 refine ⟨rfl, rfl, rfl, by simp [grow, World.drewN], fun k hk => ?_⟩
 show (w.heap ++ os)[k]? = _
 rw [Array.getElem?_append_left hk]
end

/- Package orient: Cross. -/
section
open Go.RowKit Go.Shelf
end

/- Which points may be, by reckoning. -/
section
theorem den_one {q : Rat} : q.den = 1 ↔ ∃ k : Int, q = (k : Rat) := by
 constructor
 · intro h
   refine ⟨q.num, ?_⟩
   apply Rat.ext
   · simp
   · simp [h]
 · rintro ⟨k, rfl⟩
   simp
theorem crd_iff (x : Nat) : Crd x ↔ frung x ≤ 5057542381537067008 ∧ (fval x * U 1174).den = 1 := by
 unfold Crd
 rw [den_one, ← M_one, steps_one]
instance (x : Nat) : Decidable (Crd x) := decidable_of_iff _ (crd_iff x).symm
instance (x y : Nat) : Decidable (Pt x y) := by unfold Pt; exact inferInstance
instance (ax ay bx by' cx cy : Nat) : Decidable (P3 ax ay bx by' cx cy) := by unfold P3; exact inferInstance
instance (a b x : Rat) : Decidable (Btw a b x) := by unfold Btw; exact inferInstance
instance (ax ay bx by' cx cy : Nat) : Decidable (OnP ax ay bx by' cx cy) := by unfold OnP; exact inferInstance
theorem sg3_is {ax ay bx by' cx cy : Nat} {z : Int} (h : P3 ax ay bx by' cx cy ∧ sgq (S3 ax ay bx by' cx cy) = z) : sg3 ax ay bx by' cx cy = z := by rw [sg3_yes h.1]; exact h.2
end

/- Points held equal, and a map from points. -/
section
open Go.RowKit Go.Shelf Go.Sort
structure Mp (w : World) (B : Nat) (f : Nat → Nat × Nat) (L : List Nat) : Prop where
 obj : ∃ es clock, w.heap[B]? = some (.map es clock) ∧ es.toList.map (fun e => (e.key, e.val)) = L.map (fun j => (pv (f j).1 (f j).2, Value.int .i64 (j : Nat)))
end

/- Package admit: Twins. -/
section
open Go.RowKit Go.Shelf Go.Sort
attribute [local go_sem ↓] Go.wp_at_zero Go.wp_at_succ
attribute [local go_sem] run_store_float
structure IRow (W : World) (g n : Nat) (c : Nat → Int) : Prop where
 lt : g < W.heap.size
 cell : ∀ k, k < n → W.cell? ⟨g, k, none⟩ = some (.int .i64 (c k)) ∧ W.frozen? ⟨g, k, none⟩ = false
theorem cell_of_block {W W' : World} {g : Nat} (h : W'.heap[g]? = W.heap[g]?) (k : Nat) : W'.cell? ⟨g, k, none⟩ = W.cell? ⟨g, k, none⟩ ∧ W'.frozen? ⟨g, k, none⟩ = W.frozen? ⟨g, k, none⟩ := by
 simp only [World.cell?, World.frozen?, h]; exact ⟨trivial, trivial⟩
theorem IRow.block {W W' : World} {g n : Nat} {c : Nat → Int} (h : IRow W g n c) (hb : W'.heap[g]? = W.heap[g]?) (hs : W.heap.size ≤ W'.heap.size) : IRow W' g n c :=
 ⟨Nat.lt_of_lt_of_le h.lt hs, fun k hk => by rw [(cell_of_block hb k).1, (cell_of_block hb k).2]; exact h.cell k hk⟩
theorem IRow.later {W W' : World} {g n : Nat} {c : Nat → Int} (h : IRow W g n c) (hb : Below W.heap.size W W') : IRow W' g n c := h.block (hb.block g h.lt) hb.size
theorem IRow.drew {W : World} {g n : Nat} {c : Nat → Int} (h : IRow W g n c) : IRow W.drew g n c := ⟨h.lt, h.cell⟩
theorem IRow.alloc {W : World} {g n : Nat} {c : Nat → Int} (h : IRow W g n c) (o : Obj) : IRow (W.alloc o) g n c := h.later ((Below.refl _ W).alloc (Nat.le_refl _) _)
theorem IRow.congr {W : World} {g n : Nat} {c c' : Nat → Int} (h : IRow W g n c) (e : ∀ k, k < n → c k = c' k) : IRow W g n c' := ⟨h.lt, fun k hk => by rw [← e k hk]; exact h.cell k hk⟩
theorem size_setCell' (W : World) (a : Addr) (v : Value) : (W.setCell a v).heap.size = W.heap.size := by simp [World.setCell]
theorem IRow.set {W : World} {g n : Nat} {c : Nat → Int} (h : IRow W g n c) (i : Nat) (hi : i < n) (x : Int) : IRow (W.setCell ⟨g, i, none⟩ (.int .i64 x)) g n (fun k => if k = i then x else c k) := by
 refine ⟨by rw [size_setCell']; exact h.lt, fun k hk => ⟨?_, ?_⟩⟩
 · by_cases e : k = i
   · subst e
     rw [World.cell?_setCell_same _ _ _ (h.cell k hk).1, if_pos rfl]
   · rw [World.cell?_setCell_other _ _ _ _ (fun h => e (by cases h; rfl)), if_neg e]
     exact (h.cell k hk).1
 · rw [World.frozen?_setCell]; exact (h.cell k hk).2
theorem IRow.other {W : World} {g n : Nat} {c : Nat → Int} (h : IRow W g n c) (a : Addr) (ha : g ≠ a.block) (v : Value) : IRow (W.setCell a v) g n c := h.block (Below.heap_setCell _ a v g ha) (by rw [size_setCell']; exact Nat.le_refl _)
theorem Mp.block {W W' : World} {B : Nat} {f : Nat → Nat × Nat} {L : List Nat} (h : Mp W B f L) (hb : W'.heap[B]? = W.heap[B]?) : Mp W' B f L := ⟨by rw [hb]; exact h.obj⟩
theorem Mp.lt {W : World} {B : Nat} {f : Nat → Nat × Nat} {L : List Nat} (h : Mp W B f L) : B < W.heap.size := by
 obtain ⟨es, c, h, _⟩ := h.obj
 rcases Nat.lt_or_ge B W.heap.size with e | e
 · exact e
 · rw [Array.getElem?_eq_none e] at h; cases h
theorem crd_fin' {p : Nat × Nat} (h : PtP p) : Fin64 p.1 ∧ Fin64 p.2 := ⟨crd_fin h.1.1, crd_fin h.2.1⟩
theorem MayL.fin {n : Nat} {f : Nat → Nat × Nat} (h : MayL n f) (k : Nat) (hk : k < n) : Fin64 (f k).1 ∧ Fin64 (f k).2 := crd_fin' (h.2 k hk)
set_option maxRecDepth 100000 in
theorem makeInt (n : Nat) (hn : n ≤ 1048576) (W : World) : (Instr.makeSlice 43 (.int .i64 (n : Int)) (.int .i64 (n : Int))).run Tryz.prog W = .ok (.slice (some ⟨W.heap.size, 0, none⟩) n n) (W.alloc (.cells (Array.replicate n (Value.int .i64 0)) 3)) := by
 obtain ⟨i0, hi0, hz0, hz1, hz2⟩ := info_parts (show (Tryz.prog.info? 3).map (fun i => (i.zero, i.size, i.bytes)) = some (some (.int .i64 0), 1, 8) by kernel_rfl)
 have h := run_make (P := Tryz.prog) W 43 3 i0 _ Tryz.underlying43 hi0 hz0 .i64 .i64 n n (by omega) (Int.le_refl _) (by rw [hz2]; omega) (by omega)
 rw [h]
 simp only [Int.toNat_natCast]
 congr 3
 apply Array.toList_inj.1
 rw [hz1, Nat.mul_one, show (Value.int IntKind.i64 0).cells = #[Value.int IntKind.i64 0] from rfl, toList_madeCells_one]
 simp
theorem IRow.made (n : Nat) (W : World) : IRow (W.alloc (.cells (Array.replicate n (Value.int .i64 0)) 3)) W.heap.size n (fun _ => 0) :=
 ⟨by simp, fun k hk => ⟨by simp [hk], by simp⟩⟩
end

/- A slice of points that is handed in, opened. -/
section
open Go.ChangeShapes Go.WideShapes Go.ChangeAt Go.RowKit Go.Deep
theorem uFloat7 : Tryz.prog.underlying 33 = some (.float .f64) := by kernel_rfl
theorem uSl7 : Tryz.prog.underlying 27 = some (.slice 36) := by kernel_rfl
theorem float_of_trod7 {H : Type} {enc : TypeId × Value → H} {P : Program} {w : World} {base m : Nat} {sp : Nat → Bool} {held : Bool} {e : TypeId} {c : Value} {x : DataW H × List MemPlace}
   (he : P.underlying e = some (.float .f64)) (h : DataW.trod enc P w base sp held m e [c] = some x) : ∃ b, c = .float .f64 b ∧ b < 18446744073709551616 := by
 cases m with
 | zero => simp [DataW.trod] at h
 | succ m =>
   unfold DataW.trod at h
   rw [he] at h
   cases c with
   | float k b =>
     simp only [] at h
     split at h
     · rename_i hk
       obtain ⟨rfl, hw⟩ := hk
       exact ⟨b, rfl, by simpa [Lit.wf, FloatKind.has] using hw⟩
     · cases h
   | _ => simp at h
set_option maxRecDepth 100000 in
theorem open_ps {H : Type} {enc : TypeId × Value → H} {W : World} {b0 : Nat} {r : Reach} {v : Value} {d : DataW H} {ps : List MemPlace} (hval : Value.okWide Tryz.prog W r b0 27 v) (h : DataW.Trod enc Tryz.prog W 0 (fun _ => true) true 27 v d ps) :
   ∃ n f, Ps W v n f := by
 obtain ⟨a, len, cap, rfl⟩ := okWide_slice uSl7 hval
 obtain ⟨fuel, hf⟩ := h
 rcases open_slice_pairs uSl7 Tryz.underlying36 (by kernel_rfl) rfl rfl (by kernel_rfl) (by kernel_rfl) hf with ⟨hcs, _⟩ | ⟨a', len', cap', m, nn, V0, V1, D0, D1, P0, P1, hcs, _, hl, hm, hmm, _, hx⟩
 · simp [Value.cells] at hcs
   obtain ⟨rfl, rfl, rfl⟩ := hcs
   exact ⟨0, fun _ => (0, 0), ⟨none, 0, rfl, by simp, by omega, Or.inl rfl⟩, fun _ => by unfold WdP; decide⟩
 · simp [Value.cells] at hcs
   obtain ⟨rfl, rfl, rfl⟩ := hcs
   simp only [if_true] at hmm
   have key : ∀ i, i < len → ∃ p : Nat × Nat, (V0 i = .float .f64 p.1 ∧ V1 i = .float .f64 p.2) ∧ WdP p := fun i hi => by
     obtain ⟨x, e1, h1⟩ := float_of_trod7 uFloat7 (hx i (by omega)).2.2.1
     obtain ⟨y, e2, h2⟩ := float_of_trod7 uFloat7 (hx i (by omega)).2.2.2
     exact ⟨(x, y), ⟨e1, e2⟩, h1, h2⟩
   obtain ⟨q, hq⟩ := choose_lt key
   refine ⟨len, fun k => if k < len then q k else (0, 0), ⟨some a', cap, rfl, by omega, by unfold maxLen at hm; omega, ?_⟩, fun k => ?_⟩
   · by_cases h0 : len = 0
     · exact Or.inl h0
     · right
       obtain ⟨b, off, spot⟩ := a'
       have hspot : spot = none := by simpa [Addr.add] using World.cell?_spot (hx 0 (by omega)).1
       subst hspot
       have h1 := fun k (hk : k < len) => (hx k (by omega)).1
       have h2 := fun k (hk : k < len) => (hx k (by omega)).2.1
       refine ⟨b, off, rfl, World.block_lt_of_cell? _ _ (h1 0 (by omega)), fun k hk => ?_⟩
       rw [if_pos hk]
       have e1 := h1 k hk
       have e2 := h2 k hk
       rw [(hq k hk).1.1, Addr.add_lit] at e1
       rw [(hq k hk).1.2, Addr.add_lit] at e2
       exact ⟨e1, by rw [Nat.add_assoc]; exact e2⟩
   · by_cases hk : k < len
     · rw [if_pos hk]; exact (hq k hk).2
     · rw [if_neg hk]; unfold WdP; decide
end
end Go.Proofs.YtcgbnjoajieggaaGreat
