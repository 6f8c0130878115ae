/- Own texts, put together: Ad Ae Af Ag Ah Ai. -/
import Derived.Test.YtgpbfhennineiaaGreatQ3
import Derived.Test.YtgpbfhennineiaaGreatQ4
import Derived.Test.YtgpbfhennineiaaGreatQ24
import Derived.Test.YtgpbfhennineiaaGreatQ34
import Derived.Laws.StructEq
import Derived.Shelf.SlSortCmp.QuietGrown
import Derived.Lib.SliceRun
namespace Go.Proofs.YtgpbfhennineiaaGreat
/- Points held equal, and a map from points. -/
section
open Go.RowKit Go.Shelf Go.Sort
def eqW (p q : Nat × Nat) : Bool := (FloatKind.f64.format.order p.1 q.1 == some .eq) && (FloatKind.f64.format.order p.2 q.2 == some .eq)
theorem eqFl (x y : Nat) (w : World) (n : Nat) : (Op.equalIn (n + 1) 30 (.float .f64 x) (.float .f64 y)).run Tryz.prog w = .ok (FloatKind.f64.format.order x y == some .eq) w := by
 simp [Op.equalIn, run_underlying Tryz.underlying30, Op.floatEq]
theorem eqPt (x y x' y' : Nat) (w : World) : (Op.equalIn 10000 32 (pv x y) (pv x' y')).run Tryz.prog w = .ok (eqW (x, y) (x', y')) w := by
 have hf : Tryz.prog.underlying 32 = some (.struct (Tryz.prog.fieldsOf 32)) := by kernel_rfl
 have hp : Tryz.prog.stoodInHeld 32 = false := by kernel_rfl
 rw [run_equalIn_agg w 9999 32 _ _ hf hp]
 unfold Program.fieldsOf eqW
 rw [Tryz.underlying32]
 have e1 := eqFl x x' 
 have e2 := eqFl y y'
 go_simp
 by_cases h1 : FloatKind.f64.format.order x x' = some .eq
 · by_cases h2 : FloatKind.f64.format.order y y' = some .eq <;> simp [h1, h2]
 · simp [h1]
theorem run_find (p : Nat × Nat) (f : Nat → Nat × Nat) (w : World) (es : List MapEntry) : ∀ (L : List Nat) (i : Nat), es.map (fun e => (e.key, e.val)) = L.map (fun j => (pv (f j).1 (f j).2, Value.int .i64 (j : Nat))) →
   ∃ r, (Instr.findAsking 32 (pv p.1 p.2) es i).run Tryz.prog w = .ok r w ∧ r.map (·.2) = (L.find? fun j => eqW p (f j)).map fun j => Value.int .i64 (j : Nat) := by
 induction es with
 | nil =>
   intro L i h
   cases L with
   | nil => exact ⟨none, by simp [Instr.findAsking], rfl⟩
   | cons a L => simp at h
 | cons e es ih =>
   intro L i h
   cases L with
   | nil => simp at h
   | cons j L =>
     simp only [List.map_cons, List.cons.injEq, Prod.mk.injEq] at h
     obtain ⟨⟨hk, hv⟩, hr⟩ := h
     obtain ⟨r, h1, h2⟩ := ih L (i + 1) hr
     have he := eqPt p.1 p.2 (f j).1 (f j).2 w
     cases hq : eqW p (f j) with
     | true =>
       refine ⟨some (i, e.val), ?_, ?_⟩
       · rw [hq] at he
         simp only [Instr.findAsking, Op.equal, Op.maxDepth, hk, Sem.run_bind, he, Result.andThen_ok]
         simp
       · rw [List.find?_cons, hq, hv]; rfl
     | false =>
       refine ⟨r, ?_, ?_⟩
       · rw [hq] at he
         simp only [Instr.findAsking, Op.equal, Op.maxDepth, hk, Sem.run_bind, he, Result.andThen_ok]
         simp [h1]
       · rw [List.find?_cons, hq]; exact h2
theorem checkFl (b : Bool) (n x : Nat) (w : World) : (Instr.checkKey b (n + 1) 30 (.float .f64 x)).run Tryz.prog w = .ok () w := by
 rw [Instr.checkKey]
 simp only [Sem.run_bind, run_underlying Tryz.underlying30, Result.andThen_ok]
 rfl
theorem checkPt (b : Bool) (n x y : Nat) (w : World) : (Instr.checkKey b (n + 2) 32 (pv x y)).run Tryz.prog w = .ok () w := by
 rw [Instr.checkKey]
 simp only [Sem.run_bind, run_underlying Tryz.underlying32, Result.andThen_ok]
 have e1 := checkFl b n x
 have e2 := checkFl b n y
 go_simp
 done
structure Mp (w : World) (B : Nat) (f : Nat → Nat × Nat) (L : List Nat) : Prop where
 obj : ∃ es clock, w.heap[B]? = some (.map es clock) ∧ es.toList.map (fun e => (e.key, e.val)) = L.map (fun j => (pv (f j).1 (f j).2, Value.int .i64 (j : Nat)))
theorem get_map {w : World} {r : Nat} {es : Array MapEntry} {clock : Nat} (h : w.heap[r]? = some (.map es clock)) : (getObj r).run Tryz.prog w = .ok (.map es clock) w := by simp [getObj, Sem.run, h]
theorem set_map {w : World} {r : Nat} {es : Array MapEntry} {clock : Nat} (o : Obj) (h : w.heap[r]? = some (.map es clock)) : (setObj r o).run Tryz.prog w = .ok () { w with heap := w.heap.setIfInBounds r o } := by simp [setObj, Sem.run, h]
theorem Mp.find {w : World} {f : Nat → Nat × Nat} {L : List Nat} {es : List MapEntry} (h : es.map (fun e => (e.key, e.val)) = L.map (fun j => (pv (f j).1 (f j).2, Value.int .i64 (j : Nat)))) (p : Nat × Nat) :
   ∃ r, (Instr.findKey 32 (pv p.1 p.2) es).run Tryz.prog w = .ok r w ∧ r.map (·.2) = (L.find? fun j => eqW p (f j)).map fun j => Value.int .i64 (j : Nat) := by
 obtain ⟨r, h1, h2⟩ := run_find p f w es L 0 h
 cases es with
 | nil =>
   cases L with
   | nil => exact ⟨none, by simp [Instr.findKey, Instr.findNow, run_underlying Tryz.underlying32], rfl⟩
   | cons a L => simp at h
 | cons e es =>
   refine ⟨r, ?_, h2⟩
   cases L with
   | nil => simp at h
   | cons j L =>
     simp only [Instr.findKey, Sem.run_bind, run_underlying Tryz.underlying32, Result.andThen_ok]
     simp only [Instr.findNow, Instr.sameNow]
     exact h1
theorem Mp.lookup {w : World} {B : Nat} {f : Nat → Nat × Nat} {L : List Nat} (h : Mp w B f L) (p : Nat × Nat) : (Instr.lookup 38 (.map (some B)) (pv p.1 p.2) true).run Tryz.prog w = .ok (.tuple #[.int .i64 (((L.find? fun j => eqW p (f j)).getD 0 : Nat) : Int), .bool (L.find? fun j => eqW p (f j)).isSome]) w := by
 obtain ⟨es, clock, h1, h2⟩ := h.obj
 obtain ⟨r, h3, h4⟩ := Mp.find (w := w) h2 p
 have hz : (zeroValue 3).run Tryz.prog w = .ok (.int .i64 0) w := Tryz.zeroValue3 w
 have hg : (getObj B).run Tryz.prog w = .ok (.map es clock) w := get_map h1
 have hc := checkPt es.isEmpty 9998 p.1 p.2 w
 simp only [Instr.lookup, Sem.run_bind, run_underlying Tryz.underlying38, Result.andThen_ok, hg]
 simp only [Sem.run_pure, Result.andThen_ok]
 rw [show (10000 : Nat) = 9998 + 2 from rfl, hc]
 simp only [Result.andThen_ok, h3]
 cases hf : L.find? fun j => eqW p (f j) with
 | none =>
   rw [hf] at h4
   cases r with
   | none => simp [hz]
   | some x => simp at h4
 | some j =>
   rw [hf] at h4
   cases r with
   | none => simp at h4
   | some x =>
     obtain ⟨i, v⟩ := x
     simp at h4
     subst h4
     simp
theorem Mp.update {w : World} {B : Nat} {f : Nat → Nat × Nat} {L : List Nat} (h : Mp w B f L) (k : Nat) (hk : (L.find? fun j => eqW (f k) (f j)) = none) : ∃ w', (Instr.mapUpdate 38 (.map (some B)) (pv (f k).1 (f k).2) (.int .i64 (k : Nat))).run Tryz.prog w = .ok () w' ∧ Mp w' B f (L ++ [k]) ∧ (∀ b, b ≠ B → w'.heap[b]? = w.heap[b]?) ∧ w'.heap.size = w.heap.size ∧ w'.os = w.os ∧ w'.tape = w.tape ∧ w'.output = w.output := by
 obtain ⟨es, clock, h1, h2⟩ := h.obj
 obtain ⟨r, h3, h4⟩ := Mp.find (w := w) h2 (f k)
 have hg : (getObj B).run Tryz.prog w = .ok (.map es clock) w := get_map h1
 have hc := checkPt false 9998 (f k).1 (f k).2 w
 have hr : r = none := by
   rw [hk] at h4
   cases r with
   | none => rfl
   | some x => simp at h4
 subst hr
 have hs := set_map (.map (es.push { key := pv (f k).1 (f k).2, val := .int .i64 (k : Nat), born := clock }) (clock + 1)) h1
 have hB : B < w.heap.size := by
   rcases Nat.lt_or_ge B w.heap.size with e | e
   · exact e
   · rw [Array.getElem?_eq_none e] at h1; cases h1
 refine ⟨{ w with heap := w.heap.setIfInBounds B (.map (es.push { key := pv (f k).1 (f k).2, val := .int .i64 (k : Nat), born := clock }) (clock + 1)) }, ?_, ⟨es.push { key := pv (f k).1 (f k).2, val := .int .i64 (k : Nat), born := clock }, clock + 1, ?_, ?_⟩, ?_, ?_, rfl, rfl, rfl⟩
 · simp only [Instr.mapUpdate, Sem.run_bind, run_underlying Tryz.underlying38, Result.andThen_ok, hg]
   rw [show (10000 : Nat) = 9998 + 2 from rfl, hc]
   simp only [Result.andThen_ok, h3]
   exact hs
 · show (w.heap.setIfInBounds B _)[B]? = _
   rw [Array.getElem?_setIfInBounds_self_of_lt hB]
 · simp [h2]
 · intro b hb
   show (w.heap.setIfInBounds B _)[b]? = _
   rw [Array.getElem?_setIfInBounds_ne (Ne.symm hb)]
 · simp
end

/- Package admit: Twins. -/
section
open Go.RowKit Go.Shelf Go.Sort
attribute [local go_sem ↓] Go.wp_at_zero Go.wp_at_succ
attribute [local go_sem] run_store_float
structure IRow (W : World) (g n : Nat) (c : Nat → Int) : Prop where
 lt : g < W.heap.size
 cell : ∀ k, k < n → W.cell? ⟨g, k, none⟩ = some (.int .i64 (c k)) ∧ W.frozen? ⟨g, k, none⟩ = false
theorem cell_of_block {W W' : World} {g : Nat} (h : W'.heap[g]? = W.heap[g]?) (k : Nat) : W'.cell? ⟨g, k, none⟩ = W.cell? ⟨g, k, none⟩ ∧ W'.frozen? ⟨g, k, none⟩ = W.frozen? ⟨g, k, none⟩ := by
 simp only [World.cell?, World.frozen?, h]; exact ⟨trivial, trivial⟩
theorem IRow.block {W W' : World} {g n : Nat} {c : Nat → Int} (h : IRow W g n c) (hb : W'.heap[g]? = W.heap[g]?) (hs : W.heap.size ≤ W'.heap.size) : IRow W' g n c :=
 ⟨Nat.lt_of_lt_of_le h.lt hs, fun k hk => by rw [(cell_of_block hb k).1, (cell_of_block hb k).2]; exact h.cell k hk⟩
theorem IRow.later {W W' : World} {g n : Nat} {c : Nat → Int} (h : IRow W g n c) (hb : Below W.heap.size W W') : IRow W' g n c := h.block (hb.block g h.lt) hb.size
theorem IRow.drew {W : World} {g n : Nat} {c : Nat → Int} (h : IRow W g n c) : IRow W.drew g n c := ⟨h.lt, h.cell⟩
theorem IRow.alloc {W : World} {g n : Nat} {c : Nat → Int} (h : IRow W g n c) (o : Obj) : IRow (W.alloc o) g n c := h.later ((Below.refl _ W).alloc (Nat.le_refl _) _)
theorem IRow.congr {W : World} {g n : Nat} {c c' : Nat → Int} (h : IRow W g n c) (e : ∀ k, k < n → c k = c' k) : IRow W g n c' := ⟨h.lt, fun k hk => by rw [← e k hk]; exact h.cell k hk⟩
theorem size_setCell' (W : World) (a : Addr) (v : Value) : (W.setCell a v).heap.size = W.heap.size := by simp [World.setCell]
theorem IRow.set {W : World} {g n : Nat} {c : Nat → Int} (h : IRow W g n c) (i : Nat) (hi : i < n) (x : Int) : IRow (W.setCell ⟨g, i, none⟩ (.int .i64 x)) g n (fun k => if k = i then x else c k) := by
 refine ⟨by rw [size_setCell']; exact h.lt, fun k hk => ⟨?_, ?_⟩⟩
 · by_cases e : k = i
   · subst e
     rw [World.cell?_setCell_same _ _ _ (h.cell k hk).1, if_pos rfl]
   · rw [World.cell?_setCell_other _ _ _ _ (fun h => e (by cases h; rfl)), if_neg e]
     exact (h.cell k hk).1
 · rw [World.frozen?_setCell]; exact (h.cell k hk).2
theorem IRow.other {W : World} {g n : Nat} {c : Nat → Int} (h : IRow W g n c) (a : Addr) (ha : g ≠ a.block) (v : Value) : IRow (W.setCell a v) g n c := h.block (Below.heap_setCell _ a v g ha) (by rw [size_setCell']; exact Nat.le_refl _)
theorem Mp.block {W W' : World} {B : Nat} {f : Nat → Nat × Nat} {L : List Nat} (h : Mp W B f L) (hb : W'.heap[B]? = W.heap[B]?) : Mp W' B f L := ⟨by rw [hb]; exact h.obj⟩
theorem Mp.lt {W : World} {B : Nat} {f : Nat → Nat × Nat} {L : List Nat} (h : Mp W B f L) : B < W.heap.size := by
 obtain ⟨es, c, h, _⟩ := h.obj
 rcases Nat.lt_or_ge B W.heap.size with e | e
 · exact e
 · rw [Array.getElem?_eq_none e] at h; cases h
theorem eqW_is {p q : Nat × Nat} (hp : Fin64 p.1 ∧ Fin64 p.2) (hq : Fin64 q.1 ∧ Fin64 q.2) : eqW p q = decide (alike p q) := by
 unfold eqW alike
 have key : ∀ {a b : Nat}, Fin64 a → Fin64 b → (FloatKind.f64.format.order a b == some .eq) = decide (fval a = fval b) := by
   intro a b ha hb
   rw [order_val ha hb]
   by_cases h1 : fval a < fval b
   · have h2 : ¬ fval a = fval b := by grind
     simp [h1, h2]
   · by_cases h2 : fval a = fval b <;> simp [h1, h2]
 rw [key hp.1 hq.1, key hp.2 hq.2]
 by_cases h1 : fval p.1 = fval q.1 <;> by_cases h2 : fval p.2 = fval q.2 <;> simp [h1, h2]
def owns (f : Nat → Nat × Nat) (k : Nat) : List Nat := (List.range k).filter fun j => decide (tw f j = j)
theorem owns_succ (f : Nat → Nat × Nat) (k : Nat) : owns f (k + 1) = if tw f k = k then owns f k ++ [k] else owns f k := by
 unfold owns
 rw [List.range_succ, List.filter_append]
 by_cases h : tw f k = k <;> simp [h]
theorem find_owns {f : Nat → Nat × Nat} {k : Nat} (hf : ∀ j, j ≤ k → Fin64 (f j).1 ∧ Fin64 (f j).2) : ((owns f k).find? fun j => eqW (f k) (f j)) = if tw f k = k then none else some (tw f k) := by
 unfold owns
 rw [List.find?_filter]
 have hT := tw_is (f := f) k
 by_cases h : tw f k = k
 · rw [if_pos h, List.find?_range_eq_none]
   intro j hj
   rw [eqW_is (hf k (Nat.le_refl _)) (hf j (by omega))]
   have := tw_own.1 h j hj
   have h2 : ¬ alike (f k) (f j) := fun h => this (alike_symm' h)
   simp [h2]
 · rw [if_neg h, List.find?_range_eq_some]
   have hlt : tw f k < k := by have := hT.le; omega
   refine ⟨?_, by simpa using hlt, fun j hj => ?_⟩
   · rw [eqW_is (hf k (Nat.le_refl _)) (hf _ hT.le)]
     simp [tw_tw, alike_symm' hT.al]
   · rw [eqW_is (hf k (Nat.le_refl _)) (hf j (by omega))]
     have := hT.least j hj
     have h2 : ¬ alike (f k) (f j) := fun h => this (alike_symm' h)
     simp [h2]
theorem crd_fin' {p : Nat × Nat} (h : PtP p) : Fin64 p.1 ∧ Fin64 p.2 := ⟨crd_fin h.1.1, crd_fin h.2.1⟩
theorem MayL.fin {n : Nat} {f : Nat → Nat × Nat} (h : MayL n f) (k : Nat) (hk : k < n) : Fin64 (f k).1 ∧ Fin64 (f k).2 := crd_fin' (h.2 k hk)
set_option maxRecDepth 100000 in
theorem makeInt (n : Nat) (hn : n ≤ 1048576) (W : World) : (Instr.makeSlice 26 (.int .i64 (n : Int)) (.int .i64 (n : Int))).run Tryz.prog W = .ok (.slice (some ⟨W.heap.size, 0, none⟩) n n) (W.alloc (.cells (Array.replicate n (Value.int .i64 0)) 3)) := by
 obtain ⟨i0, hi0, hz0, hz1, hz2⟩ := info_parts (show (Tryz.prog.info? 3).map (fun i => (i.zero, i.size, i.bytes)) = some (some (.int .i64 0), 1, 8) by kernel_rfl)
 have h := run_make (P := Tryz.prog) W 26 3 i0 _ Tryz.underlying26 hi0 hz0 .i64 .i64 n n (by omega) (Int.le_refl _) (by rw [hz2]; omega) (by omega)
 rw [h]
 simp only [Int.toNat_natCast]
 congr 3
 apply Array.toList_inj.1
 rw [hz1, Nat.mul_one, show (Value.int IntKind.i64 0).cells = #[Value.int IntKind.i64 0] from rfl, toList_madeCells_one]
 simp
theorem IRow.made (n : Nat) (W : World) : IRow (W.alloc (.cells (Array.replicate n (Value.int .i64 0)) 3)) W.heap.size n (fun _ => 0) :=
 ⟨by simp, fun k hk => ⟨by simp [hk], by simp⟩⟩
theorem makeMapP (v : Value) (k : Int) (hv : v = .int .i64 k) (W : World) : (Instr.makeMap 38 (some v)).run Tryz.prog W = .ok (.map (some W.heap.size)) (W.alloc (.map #[] 0)) := by
 subst hv
 simp [Instr.makeMap, run_underlying Tryz.underlying38, asInt, asIntOf]
theorem heap_new (W : World) (o : Obj) : (W.alloc o).heap[W.heap.size]? = some o := by
 show (W.heap.push o)[W.heap.size]? = some o
 simp
theorem below_of {w W W' : World} {B : Nat} (h : Below w.heap.size w W) (hB : w.heap.size ≤ B) (ho : ∀ b, b ≠ B → W'.heap[b]? = W.heap[b]?) (hs : W'.heap.size = W.heap.size) (e1 : W'.os = W.os) (e2 : W'.tape = W.tape) (e3 : W'.output = W.output) : Below w.heap.size w W' :=
 ⟨e1.trans h.os, e2.trans h.tape, e3.trans h.output, by rw [hs]; exact h.size, fun k hk => (ho k (by omega)).trans (h.block k hk)⟩
set_option maxRecDepth 100000 in
set_option maxHeartbeats 4000000 in
theorem twins_any (s : Value) (n : Nat) (f : Nat → Nat × Nat) (w : World) (h : Ps w s n f) : Calls Tryz.prog 7 #[s] w fun e w' =>
   ((¬ MayL n f ∧ e = .returned (.slice none 0 0)) ∨ (MayL n f ∧ ∃ g, e = .returned (.slice (some ⟨g, 0, none⟩) n n) ∧ w.heap.size ≤ g ∧ IRow w' g n (fun k => (tw f k : Nat)))) ∧ Below w.heap.size w w' := by
 have HF : Hid (Ps w s n f) := h
 obtain ⟨a, c, rfl, hc, hm⟩ := h.shape
 clear h
 have mk := fun W => makeMapP (.int .i64 (n : Int)) n rfl W
 go_enter Tryz.func7, Tryz.ntmps7
 go_wp2_with fail
 refine (allMay_any _ n f w HF.out).mono ?_
 rintro e w1 ⟨⟨t, rfl, ht⟩, hb⟩
 have HB : Hid (Below w.heap.size w w1) := hb
 have HT : Hid (t = true ↔ MayL n f) := ht
 clear hb ht
 cases t
 · go_wp2
   go_ret
   exact ⟨Or.inl ⟨fun h => Bool.noConfusion (HT.out.2 h), rfl⟩, HB.out⟩
 · have HM : Hid (MayL n f) := HT.out.1 rfl
   have hn : n ≤ 1048576 := HM.out.1
   have mi := makeInt n hn
   clear HT
   go_wp2
   obtain ⟨w2, hw2⟩ : ∃ w2, (w1.alloc (.cells (Array.replicate n (Value.int .i64 0)) 3)).alloc (.map #[] 0) = w2 := ⟨_, rfl⟩
   have HS : Hid (w.heap.size ≤ w1.heap.size) := HB.out.size
   have e1 : (w1.alloc (.cells (Array.replicate n (Value.int .i64 0)) 3)).heap.size = w1.heap.size + 1 := by simp
   have I0 : Hid (IRow w2 w1.heap.size n (fun _ => 0)) := by rw [← hw2]; exact (IRow.made n w1).alloc _
   have M0 : Hid (Mp w2 (w1.heap.size + 1) f []) := by
     rw [← hw2]
     exact ⟨⟨#[], 0, by rw [← e1]; exact heap_new _ _, rfl⟩⟩
   have B0 : Hid (Below w.heap.size w w2) := by rw [← hw2]; exact (HB.out.alloc HB.out.size _).alloc (by simp; have := HS.out; omega) _
   go_loopw [20] (fun i wr => ∃ k : Nat, k ≤ n ∧ i = .int .i64 (k : Nat) ∧ Hid (IRow wr w1.heap.size n (fun j => if j < k then (tw f j : Nat) else 0) ∧ Mp wr (w1.heap.size + 1) f (owns f k) ∧ Below w.heap.size w wr)) (fun i _ => n - (intOf i).toNat)
   case atStart =>
     refine ⟨0, Nat.zero_le _, rfl, ?_⟩
     rw [hw2]
     exact ⟨I0.out.congr (fun k _ => by simp), M0.out, B0.out⟩
   case round =>
     obtain ⟨k, hk, rfl, hB⟩ := hrel
     by_cases hlt : k < n
     · have hlt' : (k : Int) < (n : Int) := by omega
       have hk0 : (0 : Int) ≤ (k : Int) := by omega
       obtain ⟨g, off, rfl, hg, hcell⟩ := HF.out.some (by omega)
       have c1 := box_cell hB.out.2.2 (hcell k hlt).1
       have c2 := box_cell hB.out.2.2 (hcell k hlt).2
       obtain ⟨x, hx⟩ : ∃ x : Nat, Hid ((f k).1 = x) := ⟨_, rfl⟩
       obtain ⟨y, hy⟩ : ∃ y : Nat, Hid ((f k).2 = y) := ⟨_, rfl⟩
       rw [hx.out] at c1
       rw [hy.out] at c2
       have hbA : Below wr.heap.size wr (wr.alloc (.cells #[.float .f64 x, .float .f64 y] 32)) := (Below.refl _ wr).alloc (Nat.le_refl _) _
       have ML : Hid (Mp (wr.alloc (.cells #[.float .f64 x, .float .f64 y] 32)) (w1.heap.size + 1) f (owns f k)) := hB.out.2.1.block (hbA.block _ hB.out.2.1.lt)
       have IL : Hid (IRow (wr.alloc (.cells #[.float .f64 x, .float .f64 y] 32)) w1.heap.size n (fun j => if j < k then (tw f j : Nat) else 0)) := hB.out.1.alloc _
       have BL : Hid (Below w.heap.size w (wr.alloc (.cells #[.float .f64 x, .float .f64 y] 32))) := hB.out.2.2.alloc hB.out.2.2.size _
       have FO := find_owns (f := f) (k := k) (fun j hj => HM.out.fin j (by omega))
       have lk := ML.out.lookup (f k)
       by_cases ht : tw f k = k
       · rw [FO, if_pos ht, hx.out, hy.out] at lk
         simp only [Option.getD_none, Option.isSome_none] at lk
         obtain ⟨w', up, um, uo, us, u1, u2, u3⟩ := ML.out.update k (by rw [FO, if_pos ht])
         rw [hx.out, hy.out] at up
         have IU : Hid (IRow w' w1.heap.size n (fun j => if j < k then (tw f j : Nat) else 0)) := IL.out.block (uo _ (by omega)) (by rw [us]; exact Nat.le_refl _)
         obtain ⟨ci, cf⟩ := IU.out.cell k hlt
         have UM : Hid (Mp w' (w1.heap.size + 1) f (owns f k ++ [k])) := um
         have UB : Hid (Below w.heap.size w w') := below_of BL.out (by have := HS.out; omega) uo us u1 u2 u3
         have HTW : Hid (tw f k = k) := ht
         clear hbA hcell hx hy FO um uo us u1 u2 u3 ht
         go_wp2
         refine ⟨⟨k + 1, by omega, by go_num, ?_, ?_, ?_⟩, by simp [intOf]; omega⟩
         · refine (IU.out.set k hlt k).congr (fun j hj => ?_)
           by_cases e : j = k
           · rw [if_pos e, if_pos (by omega), e, HTW.out]
           · rw [if_neg e]
             by_cases e2 : j < k
             · rw [if_pos e2, if_pos (by omega)]
             · rw [if_neg e2, if_neg (by omega)]
         · rw [owns_succ, if_pos HTW.out]
           exact UM.out.block (Below.heap_setCell _ _ _ _ (by simp))
         · exact UB.out.setCell (by simp; exact HS.out) _
       · rw [FO, if_neg ht, hx.out, hy.out] at lk
         simp only [Option.getD_some, Option.isSome_some] at lk
         obtain ⟨ci, cf⟩ := IL.out.cell k hlt
         have HTW : Hid (tw f k ≠ k) := ht
         obtain ⟨m, hm'⟩ : ∃ m, Hid (tw f k = m) := ⟨_, rfl⟩
         rw [hm'.out] at lk
         clear hbA hcell hx hy FO ht
         go_wp2
         refine ⟨⟨k + 1, by omega, by go_num, ?_, ?_, ?_⟩, by simp [intOf]; omega⟩
         · refine (IL.out.set k hlt m).congr (fun j hj => ?_)
           by_cases e : j = k
           · rw [if_pos e, if_pos (by omega), e, hm'.out]
           · rw [if_neg e]
             by_cases e2 : j < k
             · rw [if_pos e2, if_pos (by omega)]
             · rw [if_neg e2, if_neg (by omega)]
         · rw [owns_succ, if_neg HTW.out]
           exact ML.out.block (Below.heap_setCell _ _ _ _ (by simp))
         · exact BL.out.setCell (by simp; exact HS.out) _
     · obtain rfl : k = n := by omega
       have hltb : decide ((k : Int) < (k : Int)) = false := decide_eq_false (by omega)
       go_wp2
       go_ret
       exact ⟨Or.inr ⟨HM.out, w1.heap.size, rfl, HS.out, hB.out.1.congr (fun j hj => by rw [if_pos hj])⟩, hB.out.2.2⟩
end

/- Package admit: Order. -/
section
open Go.RowKit Go.Shelf Go.Sort Go.Lib
attribute [local go_sem ↓] Go.wp_at_zero Go.wp_at_succ
attribute [local go_sem] run_store_float
section
variable {f : Nat → Nat × Nat}
def cfF (f : Nat → Nat × Nat) (n : Nat) (x y : Fin n) : Int := cfO f x.val y.val
theorem ltF (n : Nat) (x y : Fin n) : ltOf (cfF f n) x y = true ↔ ltO f x.val y.val := by
 unfold ltOf cfF
 rw [decide_eq_true_iff, cfO_neg]
theorem ltF' (n : Nat) (x y : Fin n) : ltOf (cfF f n) x y = false ↔ ¬ ltO f x.val y.val := by rw [← ltF, Bool.not_eq_true]
theorem totF {n : Nat} (x y : Fin n) (h1 : ltOf (cfF f n) x y = false) (h2 : ltOf (cfF f n) y x = false) : x = y := by
 rw [ltF'] at h1 h2
 apply Fin.ext
 apply Classical.byContradiction
 intro h
 rcases ltO_total (f := f) h with h | h
 · exact h1 h
 · exact h2 h
theorem swoF (n : Nat) : Sort.SWO (ltOf (cfF f n)) where
 irrefl x := by rw [ltF']; exact ltO_irrefl _
 trans x y z h1 h2 := by rw [ltF] at *; exact ltO_trans h1 h2
 ntrans x y z h1 h2 := by
   rw [ltF'] at *
   intro h
   by_cases e : x.val = y.val
   · rw [e] at h; exact h2 h
   · rcases ltO_total (f := f) e with e | e
     · exact h1 e
     · exact h2 (ltO_trans e h)
theorem sorted_ord {n : Nat} (d : List (Fin n)) (hd : d.map Fin.val = List.range n) : Ord f n ((d.mergeSort fun x y => !(ltOf (cfF f n)) y x).map Fin.val) where
 perm := by
   rw [← hd]
   exact (List.mergeSort_perm d _).map _
 pw := by
   have h1 := List.pairwise_mergeSort (le := fun x y => !(ltOf (cfF f n)) y x) (fun a b c h1 h2 => by
     rw [Bool.not_eq_true', ltF'] at *
     intro h
     by_cases e : a.val = b.val
     · rw [e] at h; exact h2 h
     · rcases ltO_total (f := f) e with e | e
       · exact h2 (ltO_trans h e)
       · exact h1 e) (fun a b => by
     rw [Bool.or_eq_true, Bool.not_eq_true', Bool.not_eq_true', ltF', ltF']
     apply Classical.byContradiction
     intro h
     exact ltO_asymm (f := f) (i := a.val) (j := b.val) (Classical.byContradiction fun h' => h (Or.inr h')) (Classical.byContradiction fun h' => h (Or.inl h'))) d
   have hn : (d.mergeSort fun x y => !(ltOf (cfF f n)) y x).Nodup := by
     rw [(List.mergeSort_perm d _).nodup_iff]
     have : (d.map Fin.val).Nodup := by rw [hd]; exact List.nodup_range
     exact List.Pairwise.of_map _ (fun a b h e => h (by rw [e])) this
   rw [List.pairwise_map]
   refine (List.Pairwise.and h1 hn).imp fun {a b} h => ?_
   rw [Bool.not_eq_true', ltF'] at h
   rcases ltO_total (f := f) (i := a.val) (j := b.val) (fun e => h.2 (Fin.ext e)) with e | e
   · exact e
   · exact absurd e h.1
end
theorem keepG5 {w W W' : World} {q1 q2 q3 q4 q5 : Addr} {x1 x2 x3 x4 x5 : Value} (h : W.cell? q1 = some x1 ∧ W.cell? q2 = some x2 ∧ W.cell? q3 = some x3 ∧ W.cell? q4 = some x4 ∧ W.cell? q5 = some x5 ∧ GrW w W) (hg : GrW W W') : W'.cell? q1 = some x1 ∧ W'.cell? q2 = some x2 ∧ W'.cell? q3 = some x3 ∧ W'.cell? q4 = some x4 ∧ W'.cell? q5 = some x5 ∧ GrW w W' :=
 have hb := hg.below
 ⟨box_cell hb h.1, box_cell hb h.2.1, box_cell hb h.2.2.1, box_cell hb h.2.2.2.1, box_cell hb h.2.2.2.2.1, h.2.2.2.2.2.trans hg⟩
theorem cfO_is (f : Nat → Nat × Nat) (i j : Nat) : cfO f i j = orI (hold (f i) (f j)) (Lib.compareInt i j) := by
 unfold cfO orI Lib.compareInt
 by_cases h : hold (f i) (f j) = 0
 · by_cases h1 : i < j
   · have h1' : (i : Int) < (j : Int) := by omega
     simp [h, h1]
   · by_cases h2 : j < i
     · simp [h, h1, h2]
     · simp [h, h1, h2]
 · simp [h]
set_option maxRecDepth 100000 in
set_option maxHeartbeats 2000000 in
theorem ordC_any (f : Nat → Nat × Nat) (B g off n c i j : Nat) (hi : i < n) (hj : j < n) (w : World) (h0 : w.cell? ⟨B, 0, none⟩ = some (.slice (some ⟨g, off, none⟩) n c))
   (hc : ∀ k, k < n → w.cell? ⟨g, off + k * 2, none⟩ = some (.float .f64 (f k).1) ∧ w.cell? ⟨g, off + k * 2 + 1, none⟩ = some (.float .f64 (f k).2)) (hf : ∀ k, k < n → Fin64 (f k).1 ∧ Fin64 (f k).2) :
   Calls Tryz.prog 19 #[.int .i64 (i : Int), .int .i64 (j : Int), .pointer (some ⟨B, 0, none⟩)] w fun e w' => e = .returned (.int .i64 (cfO f i j)) ∧ GrW w w' := by
 obtain ⟨h1, h2⟩ := hc i hi
 obtain ⟨h3, h4⟩ := hc j hj
 have HF : Hid ((Fin64 (f i).1 ∧ Fin64 (f i).2) ∧ Fin64 (f j).1 ∧ Fin64 (f j).2) := ⟨hf i hi, hf j hj⟩
 rw [cfO_is]
 obtain ⟨z1, hz1⟩ : ∃ z, Hid (hold (f i) (f j) = z) := ⟨_, rfl⟩
 obtain ⟨z2, hz2⟩ : ∃ z, Hid (Lib.compareInt i j = z) := ⟨_, rfl⟩
 rw [hz1.out, hz2.out]
 clear hc hf
 have li : (i : Int) < (n : Int) := by omega
 have lj : (j : Int) < (n : Int) := by omega
 have li0 : (0 : Int) ≤ (i : Int) := by omega
 have lj0 : (0 : Int) ≤ (j : Int) := by omega
 generalize f i = pi at *
 generalize f j = pj at *
 obtain ⟨xi, yi⟩ := pi
 obtain ⟨xj, yj⟩ := pj
 dsimp only at h1 h2 h3 h4 HF
 go_enter Tryz.func19, Tryz.ntmps19
 go_wp2_with fail
 refine wp_region_held_drew (S := (fun W => W.cell? ⟨B, 0, none⟩ = some (.slice (some ⟨g, off, none⟩) n c) ∧ W.cell? ⟨g, off + i * 2, none⟩ = some (.float .f64 xi) ∧ W.cell? ⟨g, off + i * 2 + 1, none⟩ = some (.float .f64 yi) ∧ W.cell? ⟨g, off + j * 2, none⟩ = some (.float .f64 xj) ∧ W.cell? ⟨g, off + j * 2 + 1, none⟩ = some (.float .f64 yj) ∧ GrW w W)) (by kernel_rfl) ⟨h0, h1, h2, h3, h4, (GrW.refl w).drew⟩ (fun hS => ?_)
 refine takA (i := 0) (d := some 6) (v := .slice (some ⟨g, off, none⟩) n c) hS ?_
 simp only [AP]
 refine takA (i := 1) (d := some 7) (v := .int .i64 (i : Int)) hS ?_
 simp only [AP]
 refine takA (i := 2) (d := some 8) (v := .pointer (some ⟨g, off + i * 2, none⟩)) hS ?_
 simp only [AP]
 refine takA (i := 3) (d := some 9) (v := .agg #[.float .f64 xi, .float .f64 yi]) hS ?_
 simp only [AP]
 refine takA (i := 4) (d := some 10) (v := .slice (some ⟨g, off, none⟩) n c) hS ?_
 simp only [AP]
 refine takA (i := 5) (d := some 11) (v := .int .i64 (j : Int)) hS ?_
 simp only [AP]
 refine takA (i := 6) (d := some 12) (v := .pointer (some ⟨g, off + j * 2, none⟩)) hS ?_
 simp only [AP]
 refine takA (i := 7) (d := some 13) (v := .agg #[.float .f64 xj, .float .f64 yj]) hS ?_
 simp only [AP]
 refine takA (i := 9) (d := some 15) (v := .int .i64 (i : Int)) hS ?_
 simp only [AP]
 refine takA (i := 10) (d := some 16) (v := .int .i64 (j : Int)) hS ?_
 simp only [AP]
 refine calA 8 fun KF hK => ?_
 go_simp
 refine (held_any xi yi xj yj HF.out.1 HF.out.2 _).mono ?_
 rintro e wx ⟨rfl, hbx⟩
 rw [hz1.out]
 go_wp2_with fail
 refine hK.out _ _ (keepG5 hS hbx) ?_
 clear hS hbx
 intro hS
 clear hK KF
 try simp only [AP]
 refine calA 11 fun KF hK => ?_
 go_simp
 refine (Tryz.cmp_Compare_int i j _).mono ?_
 rintro e wx ⟨rfl, hbx⟩
 subst hbx
 rw [hz2.out]
 have hbx := True.intro
 go_wp2_with fail
 refine hK.out _ _ hS ?_
 clear hS hbx
 intro hS
 clear hK KF
 try simp only [AP]
 refine calA 12 fun KF hK => ?_
 go_simp
 have hbx := True.intro
 go_wp2_with fail
 refine hK.out _ _ (keepG5 hS ((GrW.refl _).alloc _)) ?_
 clear hS hbx
 intro hS
 clear hK KF
 try simp only [AP]
 refine calA 13 fun KF hK => ?_
 go_simp
 refine (or2_any _ z1 z2 _ (by go_simp) (by go_simp)).mono ?_
 rintro e wx ⟨rfl, hbx⟩
 subst hbx
 have hbx := True.intro
 go_wp2_with fail
 refine hK.out _ _ hS ?_
 clear hS hbx
 intro hS
 clear hK KF
 try simp only [AP]
 refine takA (i := 14) (d := some 5) (v := .int .i64 (orI z1 z2)) hS ?_
 simp only [AP]
 refine wpAnyH_done (by kernel_rfl) ?_ _
 have HD : Hid (GrW w _) := hS.2.2.2.2.2
 clear hS
 go_wp2
 go_ret
 exact ⟨rfl, HD.out⟩
end

/- Package admit: Order, whole. -/
section
open Go.RowKit Go.Shelf Go.Sort Go.Lib
attribute [local go_sem ↓] Go.wp_at_zero Go.wp_at_succ
attribute [local go_sem] run_store_float
structure But (W W' : World) (g : Nat) : Prop where
 os : W'.os = W.os
 tape : W'.tape = W.tape
 output : W'.output = W.output
 size : W.heap.size ≤ W'.heap.size
 block : ∀ k, k < W.heap.size → k ≠ g → W'.heap[k]? = W.heap[k]?
theorem But.below {w W W' : World} {g : Nat} (h : Below w.heap.size w W) (hb : But W W' g) (hg : w.heap.size ≤ g) : Below w.heap.size w W' :=
 ⟨hb.os.trans h.os, hb.tape.trans h.tape, hb.output.trans h.output, Nat.le_trans h.size hb.size, fun k hk => (hb.block k (Nat.lt_of_lt_of_le hk h.size) (by omega)).trans (h.block k hk)⟩
theorem But.cell {W W' : World} {g b k : Nat} {v : Value} (h : But W W' g) (hb : b < W.heap.size) (hn : b ≠ g) (hc : W.cell? ⟨b, k, none⟩ = some v) : W'.cell? ⟨b, k, none⟩ = some v := by
 rw [(cell_of_block (h.block b hb hn) k).1]; exact hc
def encF (n : Nat) (i : Fin n) : Value := .int .i64 (i.val : Int)
theorem but_sort {n : Nat} [Inhabited (Fin n)] (W : World) (R m : Nat) (dk : Array (Fin n)) (os : Array Obj) : But W (sortWorld (encF n) W R 0 m dk os) R := by
 refine ⟨rfl, rfl, rfl, ?_, fun k hk hn => ?_⟩
 · simp [sortWorld, grow, putRow, mapBlock, Sort.ahead]
 · show (((W.heap.modify R _) ++ os))[k]? = _
   rw [Array.getElem?_append_left (by simpa using hk), Array.getElem?_modify]
   rw [if_neg (Ne.symm hn)]
def numsF (n : Nat) : Array (Fin n) := Array.ofFn fun i => i
theorem numsF_size (n : Nat) : (numsF n).size = n := by simp [numsF]
theorem numsF_map (n : Nat) : (numsF n).toList.map Fin.val = List.range n := by
 apply List.ext_getElem
 · simp [numsF]
 · intro i h1 h2
   simp [numsF]
set_option maxHeartbeats 1000000 in
theorem sort_any (f : Nat → Nat × Nat) (B g off n c R : Nat) (hn : n ≤ 1048576) (W : World) (hR : IRow W R n (fun k => (k : Nat))) (h0 : W.cell? ⟨B, 0, none⟩ = some (.slice (some ⟨g, off, none⟩) n c))
   (hc : ∀ k, k < n → W.cell? ⟨g, off + k * 2, none⟩ = some (.float .f64 (f k).1) ∧ W.cell? ⟨g, off + k * 2 + 1, none⟩ = some (.float .f64 (f k).2)) (hf : ∀ k, k < n → Fin64 (f k).1 ∧ Fin64 (f k).2)
   (hB : B < W.heap.size ∧ B ≠ R) (hg : g < W.heap.size ∧ g ≠ R) (hpos : 0 < n) :
   Calls Tryz.prog 18 #[.slice (some ⟨R, 0, none⟩) n n, .func (.func 19) #[] #[.pointer (some ⟨B, 0, none⟩)]] W fun e w' => e = .returned (.tuple #[]) ∧ But W w' R ∧ ∃ os, Ord f n os ∧ IRow w' R n (fun k => (os.getD k 0 : Nat)) := by
 haveI : Inhabited (Fin n) := ⟨⟨0, hpos⟩⟩
 have hH : Holds (encF n) W R 0 (numsF n) := by
   intro j hj
   rw [numsF_size] at hj
   have := hR.cell j hj
   rw [Nat.zero_add]
   refine ⟨?_, this.2⟩
   rw [this.1]
   simp [encF, numsF, hj]
 have hcmp : CmpLays1 Tryz.prog 19 #[.pointer (some ⟨B, 0, none⟩)] (encF n) (cfF f n) R 0 (numsF n).size W := by
   intro m os dk _ x y
   have hb := but_sort W R m dk os
   have := ordC_any f B g off n c x.val y.val x.isLt y.isLt (sortWorld (encF n) W R 0 m dk os) (hb.cell hB.1 hB.2 h0) (fun k hk => ⟨hb.cell hg.1 hg.2 (hc k hk).1, hb.cell hg.1 hg.2 (hc k hk).2⟩) hf
   exact this
 have eg : ∀ args w, (callFunc 19 args).run Tryz.prog w = .ok (.enter 19 args) w := enters_of Tryz.func19 (by kernel_rfl) rfl
 have hS := Any.slices_SortFunc_total Tryz.sortL (encF n) (fun _ => rfl) (cfF f n) (swoF n) 19 #[.pointer (some ⟨B, 0, none⟩)] R 0 n (numsF n) W eg hcmp hH hR.lt (by rw [numsF_size]; omega) totF
 rw [numsF_size] at hS
 refine hS.mono ?_
 rintro e w' ⟨rfl, m, os, rfl⟩
 refine ⟨rfl, but_sort W R m _ os, ((numsF n).toList.mergeSort fun x y => !(ltOf (cfF f n)) y x).map Fin.val, sorted_ord _ (numsF_map n), ?_⟩
 have hl : ((numsF n).toList.mergeSort fun x y => !(ltOf (cfF f n)) y x).length = n := by
   rw [(List.mergeSort_perm _ _).length_eq]; simp [numsF]
 generalize ((numsF n).toList.mergeSort fun x y => !(ltOf (cfF f n)) y x) = L at *
 have hsw : _root_.Go.Proofs.SW (encF n) W R 0 L.toArray (sortWorld (encF n) W R 0 m L.toArray os) := ⟨m, os, rfl⟩
 have hh := hsw.holds hR.lt hH (by rw [numsF_size]; simpa using hl)
 refine ⟨Nat.lt_of_lt_of_le hR.lt (but_sort W R m _ os).size, fun k hk => ?_⟩
 have h2 := hh k (by simpa [hl] using hk)
 rw [Nat.zero_add] at h2
 refine ⟨?_, h2.2⟩
 rw [h2.1]
 have hk' : k < L.length := by omega
 simp [encF, List.getD, hk']
set_option maxRecDepth 100000 in
set_option maxHeartbeats 4000000 in
theorem order_any (s : Value) (n : Nat) (f : Nat → Nat × Nat) (w : World) (h : Ps w s n f) : Calls Tryz.prog 6 #[s] w fun e w' =>
   ((¬ MayL n f ∧ e = .returned (.slice none 0 0)) ∨ (MayL n f ∧ ∃ g os, e = .returned (.slice (some ⟨g, 0, none⟩) n n) ∧ w.heap.size ≤ g ∧ Ord f n os ∧ IRow w' g n (fun k => (os.getD k 0 : Nat)))) ∧ Below w.heap.size w w' := by
 have HF : Hid (Ps w s n f) := h
 obtain ⟨a, c, rfl, hc, hm⟩ := h.shape
 clear h
 have HB0 : Hid (Below w.heap.size w (w.alloc (.cells #[.slice a n c] 22))) := (Below.refl _ w).alloc (Nat.le_refl _) _
 have HF0 : Hid (Ps (w.alloc (.cells #[.slice a n c] 22)) (.slice a n c) n f) := HF.out.later HB0.out
 have hx0 : (w.alloc (.cells #[.slice a n c] 22)).cell? ⟨w.heap.size, 0, none⟩ = some (.slice a n c) := by go_simp
 have HX0 : Hid ((w.alloc (.cells #[.slice a n c] 22)).cell? ⟨w.heap.size, 0, none⟩ = some (.slice a n c)) := hx0
 have HZ0 : Hid (w.heap.size < (w.alloc (.cells #[.slice a n c] 22)).heap.size) := by show _ < _; simp
 clear hx0
 go_enter Tryz.func6, Tryz.ntmps6
 go_wp2_with fail
 refine (allMay_any _ n f _ HF0.out).mono ?_
 rintro e w1 ⟨⟨t, rfl, ht⟩, hb⟩
 have HB : Hid (Below w.heap.size w w1) := below_step HB0.out hb
 have HT : Hid (t = true ↔ MayL n f) := ht
 have hx1 := box_cell hb HX0.out
 have HZ : Hid (w.heap.size < w1.heap.size) := Nat.lt_of_lt_of_le HZ0.out hb.size
 clear hb ht HF0 HX0 HZ0 HB0
 cases t
 · go_wp2
   go_ret
   exact ⟨Or.inl ⟨fun h => Bool.noConfusion (HT.out.2 h), rfl⟩, HB.out⟩
 · have HM : Hid (MayL n f) := HT.out.1 rfl
   have hn : n ≤ 1048576 := HM.out.1
   have mi := makeInt n hn
   have HX1 : Hid (w1.cell? ⟨w.heap.size, 0, none⟩ = some (.slice a n c)) := hx1
   clear HT
   go_wp2
   obtain ⟨w2, hw2⟩ : ∃ w2, w1.alloc (.cells (Array.replicate n (Value.int .i64 0)) 3) = w2 := ⟨_, rfl⟩
   have I0 : Hid (IRow w2 w1.heap.size n (fun _ => 0)) := by rw [← hw2]; exact IRow.made n w1
   have B0 : Hid (Below w1.heap.size w1 w2) := by rw [← hw2]; exact (Below.refl _ w1).alloc (Nat.le_refl _) _
   go_loopw [13] (fun i wr => ∃ k : Nat, k ≤ n ∧ i = .int .i64 (k : Nat) ∧ Hid (IRow wr w1.heap.size n (fun j => if j < k then (j : Nat) else 0) ∧ Below w1.heap.size w1 wr)) (fun i _ => n - (intOf i).toNat)
   case atStart =>
     refine ⟨0, Nat.zero_le _, rfl, ?_⟩
     rw [hw2]
     exact ⟨I0.out.congr (fun k _ => by simp), B0.out⟩
   case round =>
     obtain ⟨k, hk, rfl, hB⟩ := hrel
     by_cases hlt : k < n
     · have hlt' : (k : Int) < (n : Int) := by omega
       have hk0 : (0 : Int) ≤ (k : Int) := by omega
       obtain ⟨ci, cf⟩ := hB.out.1.cell k hlt
       clear hx1
       go_wp2
       refine ⟨⟨k + 1, by omega, by go_num, ?_, ?_⟩, by simp [intOf]; omega⟩
       · refine (hB.out.1.set k hlt k).congr (fun j hj => ?_)
         by_cases e : j = k
         · rw [if_pos e, if_pos (by omega), e]
         · rw [if_neg e]
           by_cases e2 : j < k
           · rw [if_pos e2, if_pos (by omega)]
           · rw [if_neg e2, if_neg (by omega)]
       · exact hB.out.2.setCell (Nat.le_refl _) _
     · obtain rfl : k = n := by omega
       have hltb : decide ((k : Int) < (k : Int)) = false := decide_eq_false (by omega)
       have HI : Hid (IRow wr w1.heap.size k (fun j => (j : Nat))) := hB.out.1.congr (fun j hj => by rw [if_pos hj])
       have hx2 := box_cell hB.out.2 HX1.out
       have HX2 : Hid (wr.cell? ⟨w.heap.size, 0, none⟩ = some (.slice a k c)) := hx2
       have HBW : Hid (Below w.heap.size w wr) := HB.out.trans (hB.out.2.mono HB.out.size)
       clear hx1 hx2
       by_cases hk0 : k = 0
       · subst hk0
         have hS := fun W => AnyF.slices_SortFunc_none (P := Tryz.prog) (ρ := Tryz.sortL_ren) { Tryz.sortL with } (some ⟨w1.heap.size, 0, none⟩) 0 (.func (.func 19) #[] #[.pointer (some ⟨w.heap.size, 0, none⟩)]) W
         change ∀ W, Calls Tryz.prog 18 _ _ _ at hS
         have HSS : Hid (∀ W, Calls Tryz.prog 18 #[.slice (some ⟨w1.heap.size, 0, none⟩) 0 0, .func (.func 19) #[] #[.pointer (some ⟨w.heap.size, 0, none⟩)]] W fun e w' => e = .returned (.tuple #[]) ∧ w' = W) := hS
         clear hS
         go_wp2_with fail
         refine (HSS.out _).mono ?_
         rintro e w3 ⟨rfl, rfl⟩
         go_wp2
         go_ret
         refine ⟨Or.inr ⟨HM.out, w1.heap.size, [], rfl, Nat.le_of_lt HZ.out, ⟨by simp, List.Pairwise.nil⟩, HI.out.lt, fun j hj => absurd hj (Nat.not_lt_zero _)⟩, HBW.out⟩
       · obtain ⟨g, off, rfl, hg, hcell⟩ := HF.out.some (Nat.pos_of_ne_zero hk0)
         have HS : Hid (Calls Tryz.prog 18 #[.slice (some ⟨w1.heap.size, 0, none⟩) k k, .func (.func 19) #[] #[.pointer (some ⟨w.heap.size, 0, none⟩)]] wr fun e w' => e = .returned (.tuple #[]) ∧ But wr w' w1.heap.size ∧ ∃ os, Ord f k os ∧ IRow w' w1.heap.size k (fun j => (os.getD j 0 : Nat))) :=
           sort_any f w.heap.size g off k c w1.heap.size hn wr HI.out HX2.out (fun j hj => ⟨box_cell HBW.out (hcell j hj).1, box_cell HBW.out (hcell j hj).2⟩) (fun j hj => HM.out.fin j hj)
             ⟨Nat.lt_of_lt_of_le HZ.out hB.out.2.size, by have := HZ.out; omega⟩ ⟨Nat.lt_of_lt_of_le hg HBW.out.size, by have := HZ.out; omega⟩ (Nat.pos_of_ne_zero hk0)
         clear hcell
         go_wp2_with fail
         refine HS.out.mono ?_
         rintro e w3 ⟨rfl, hbut, os, ho, hi⟩
         have HO : Hid (But wr w3 w1.heap.size ∧ Ord f k os ∧ IRow w3 w1.heap.size k (fun j => (os.getD j 0 : Nat))) := ⟨hbut, ho, hi⟩
         clear hbut ho hi
         go_wp2
         go_ret
         exact ⟨Or.inr ⟨HM.out, w1.heap.size, os, rfl, Nat.le_of_lt HZ.out, HO.out.2.1, HO.out.2.2⟩, HO.out.1.below HBW.out (Nat.le_of_lt HZ.out)⟩
end

/- Package admit: what is unlike: slices.CompactFunc at numbers of points. -/
section
open Go.RowKit Go.Shelf Go.Sort Go.Lib
attribute [local go_sem ↓] Go.wp_at_zero Go.wp_at_succ
attribute [local go_sem] run_store_float
theorem cptA_snoc (eq : Nat → Nat → Bool) (l : List Nat) : ∀ (x y : Nat), cptA eq x (l ++ [y]) = cptA eq x l ++ (if eq y (l.getLastD x) then [] else [y]) := by
 induction l with
 | nil => intro x y; by_cases h : eq y x = true <;> simp [cptA, h]
 | cons a l ih =>
   intro x y
   rw [List.cons_append, cptA, cptA, ih a y, List.getLastD_cons]
   by_cases h : eq a x = true <;> simp [h]
theorem getLastD_take (r : List Nat) : ∀ (k x : Nat), k ≤ r.length → (r.take k).getLastD x = (x :: r).getD k 0 := by
 induction r with
 | nil => intro k x h; obtain rfl : k = 0 := by simpa using h
          rfl
 | cons a r ih =>
   intro k x h
   cases k with
   | zero => rfl
   | succ k =>
     rw [List.take_succ_cons, List.getLastD_cons, ih k a (by simpa using h)]
     rfl
theorem cpt_step {eq : Nat → Nat → Bool} {os : List Nat} {k : Nat} (hk : k + 1 < os.length) : cpt eq (os.take (k + 1 + 1)) = cpt eq (os.take (k + 1)) ++ (if eq (os.getD (k + 1) 0) (os.getD k 0) then [] else [os.getD (k + 1) 0]) := by
 cases os with
 | nil => simp at hk
 | cons x r =>
   have h1 : k < r.length := by simpa using hk
   have e : (x :: r).take (k + 1 + 1) = x :: (r.take k ++ [r[k]]) := by
     rw [List.take_succ_cons, List.take_succ_eq_append_getElem h1]
   have e1 : (x :: r).take (k + 1) = x :: r.take k := by rw [List.take_succ_cons]
   rw [e, e1, cpt, cpt, cptA_snoc]
   have e2 : (x :: r).getD (k + 1) 0 = r[k] := by simp [List.getD, h1]
   rw [e2, getLastD_take r k x (by omega)]
   simp
theorem cpt_len (eq : Nat → Nat → Bool) (os : List Nat) : (cpt eq os).length ≤ os.length := by
 have key : ∀ (l : List Nat) (x : Nat), (cptA eq x l).length ≤ l.length := by
   intro l
   induction l with
   | nil => intro x; simp [cptA]
   | cons a l ih => intro x; rw [cptA]; have := ih a; split <;> simp <;> omega
 cases os with
 | nil => simp [cpt]
 | cons x r => rw [cpt]; have := key r x; simp; omega
theorem cpt_one (eq : Nat → Nat → Bool) (os : List Nat) (h : os.length < 2) : cpt eq os = os := by
 match os, h with
 | [], _ => rfl
 | [x], _ => rfl
structure Cl (W : World) (B g off n c : Nat) (f : Nat → Nat × Nat) : Prop where
 box : W.cell? ⟨B, 0, none⟩ = some (.slice (some ⟨g, off, none⟩) n c)
 pt : ∀ k, k < n → W.cell? ⟨g, off + k * 2, none⟩ = some (.float .f64 (f k).1) ∧ W.cell? ⟨g, off + k * 2 + 1, none⟩ = some (.float .f64 (f k).2)
 fin : ∀ k, k < n → Fin64 (f k).1 ∧ Fin64 (f k).2
theorem Cl.later {W W' : World} {B g off n c : Nat} {f : Nat → Nat × Nat} (h : Cl W B g off n c f) (hb : Below W.heap.size W W') : Cl W' B g off n c f :=
 ⟨box_cell hb h.box, fun k hk => ⟨box_cell hb (h.pt k hk).1, box_cell hb (h.pt k hk).2⟩, h.fin⟩
theorem Cl.but {W W' : World} {B g off n c R : Nat} {f : Nat → Nat × Nat} (h : Cl W B g off n c f) (hb : But W W' R) (h1 : B ≠ R) (h2 : g ≠ R) : Cl W' B g off n c f :=
 ⟨hb.cell (World.block_lt_of_cell? _ _ h.box) h1 h.box, fun k hk => ⟨hb.cell (World.block_lt_of_cell? _ _ (h.pt k hk).1) h2 (h.pt k hk).1, hb.cell (World.block_lt_of_cell? _ _ (h.pt k hk).2) h2 (h.pt k hk).2⟩, h.fin⟩
theorem But.refl (W : World) (g : Nat) : But W W g := ⟨rfl, rfl, rfl, Nat.le_refl _, fun _ _ _ => rfl⟩
theorem But.trans {W V U : World} {g : Nat} (h : But W V g) (h' : But V U g) : But W U g :=
 ⟨h'.os.trans h.os, h'.tape.trans h.tape, h'.output.trans h.output, Nat.le_trans h.size h'.size, fun k hk hn => (h'.block k (Nat.lt_of_lt_of_le hk h.size) hn).trans (h.block k hk hn)⟩
theorem But.of {W V : World} (h : Below W.heap.size W V) (g : Nat) : But W V g := ⟨h.os, h.tape, h.output, h.size, fun k hk _ => h.block k hk⟩
theorem But.setCell (W : World) (g i : Nat) (v : Value) : But W (W.setCell ⟨g, i, none⟩ v) g :=
 ⟨rfl, rfl, rfl, by rw [size_setCell']; exact Nat.le_refl _, fun k _ hn => Below.heap_setCell _ ⟨g, i, none⟩ v k hn⟩
theorem But.setCells (g : Nat) (vs : List Value) : ∀ (i : Nat) (W : World), But W (W.setCells g i vs) g := by
 induction vs with
 | nil => intro i W; exact But.refl W g
 | cons v vs ih => intro i W; exact (But.setCell W g i v).trans (ih (i + 1) _)
theorem run_eqlPt (p q : Nat × Nat) (hp : Fin64 p.1 ∧ Fin64 p.2) (hq : Fin64 q.1 ∧ Fin64 q.2) (W : World) : (binOp .eql 32 (pv p.1 p.2) (pv q.1 q.2)).run Tryz.prog W = .ok (.bool (decide (alike p q))) W := by
 rw [run_eql_struct, eqPt, Result.andThen_ok, ← eqW_is hp hq]
theorem run_neqPt (p q : Nat × Nat) (hp : Fin64 p.1 ∧ Fin64 p.2) (hq : Fin64 q.1 ∧ Fin64 q.2) (W : World) : (binOp .neq 32 (pv p.1 p.2) (pv q.1 q.2)).run Tryz.prog W = .ok (.bool (!decide (alike p q))) W := by
 rw [run_neq_struct, eqPt, Result.andThen_ok, ← eqW_is hp hq]
set_option maxRecDepth 100000 in
set_option maxHeartbeats 2000000 in
theorem unC_any (f : Nat → Nat × Nat) (B g off n c i j : Nat) (hi : i < n) (hj : j < n) (w : World) (h : Cl w B g off n c f) :
   Calls Tryz.prog 24 #[.int .i64 (i : Int), .int .i64 (j : Int), .pointer (some ⟨B, 0, none⟩)] w fun e w' => e = .returned (.bool (akO f i j)) ∧ GrW w w' := by
 have mixed : Tryz.prog.follows .mixedOrders = true := by kernel_rfl
 have hG : Tryz.prog.eqGuardType Tryz.prog.depth 32 = false := by kernel_rfl
 have e1 := run_eqlPt (f i) (f j) (h.fin i hi) (h.fin j hj)
 have b0 := cell_grown (World.block_lt_of_cell? _ _ h.box) h.box
 have b1 := cell_grown (World.block_lt_of_cell? _ _ (h.pt i hi).1) (h.pt i hi).1
 have b2 := cell_grown (World.block_lt_of_cell? _ _ (h.pt i hi).2) (h.pt i hi).2
 have b3 := cell_grown (World.block_lt_of_cell? _ _ (h.pt j hj).1) (h.pt j hj).1
 have b4 := cell_grown (World.block_lt_of_cell? _ _ (h.pt j hj).2) (h.pt j hj).2
 unfold akO
 obtain ⟨t, ht⟩ : ∃ t, decide (alike (f i) (f j)) = t := ⟨_, rfl⟩
 rw [ht] at e1
 rw [ht]
 have li : (i : Int) < (n : Int) := by omega
 have lj : (j : Int) < (n : Int) := by omega
 have li0 : (0 : Int) ≤ (i : Int) := by omega
 have lj0 : (0 : Int) ≤ (j : Int) := by omega
 clear h ht
 generalize f i = pi at *
 generalize f j = pj at *
 obtain ⟨xi, yi⟩ := pi
 obtain ⟨xj, yj⟩ := pj
 dsimp only at b1 b2 b3 b4 e1
 go_enter Tryz.func24, Tryz.ntmps24
 go_wp2_with fail
 go_quiet_grown (fail)
 have HD : Hid (GrW w (grow (w.drewN nq) osq)) := ⟨nq, osq, rfl⟩
 clear b0 b1 b2 b3 b4
 go_wp2
 go_ret
 exact ⟨rfl, HD.out⟩
end

/- Package admit: slices.CompactFunc, Unlike. -/
section
open Go.RowKit Go.Shelf Go.Sort Go.Lib
attribute [local go_sem ↓] Go.wp_at_zero Go.wp_at_succ
attribute [local go_sem] run_store_float
theorem compact1_any (R n : Nat) (v : Value) (hn : n < 2) (w : World) : Calls Tryz.prog 23 #[.slice (some ⟨R, 0, none⟩) n n, v] w fun e w' => e = .returned (.slice (some ⟨R, 0, none⟩) n n) ∧ w' = w := by
 have hn' : (n : Int) < 2 := by omega
 go_enter Tryz.func23, Tryz.ntmps23
 go_wp2
 go_ret
 exact ⟨rfl, rfl⟩
structure CInv (f : Nat → Nat × Nat) (os : List Nat) (n m kk : Nat) (c : Nat → Int) : Prop where
 hi : ∀ j, m ≤ j + 1 → j < n → c j = (os.getD j 0 : Nat)
 len : kk = (cpt (akO f) (os.take m)).length
 lo : ∀ j, j < kk → c j = ((cpt (akO f) (os.take m)).getD j 0 : Nat)
theorem CInv.skip {f : Nat → Nat × Nat} {os : List Nat} {n m kk : Nat} {c : Nat → Int} (h : CInv f os n (m + 1) kk c) (hm : m + 1 < os.length) (he : akO f (os.getD (m + 1) 0) (os.getD m 0) = true) : CInv f os n (m + 1 + 1) kk c := by
 have e := cpt_step (eq := akO f) hm
 rw [he, if_pos rfl, List.append_nil] at e
 exact ⟨fun j h1 h2 => h.hi j (by omega) h2, by rw [e]; exact h.len, by rw [e]; exact h.lo⟩
theorem CInv.keep {f : Nat → Nat × Nat} {os : List Nat} {n m kk : Nat} {c : Nat → Int} (h : CInv f os n (m + 1) kk c) (hm : m + 1 < os.length) (hk : kk ≤ m) (he : akO f (os.getD (m + 1) 0) (os.getD m 0) = false) :
   CInv f os n (m + 1 + 1) (kk + 1) (fun j => if j = kk then (os.getD (m + 1) 0 : Nat) else c j) := by
 have e := cpt_step (eq := akO f) hm
 rw [he, if_neg (by decide)] at e
 refine ⟨fun j h1 h2 => ?_, by rw [e, List.length_append, ← h.len]; rfl, fun j hj => ?_⟩
 · show (if j = kk then _ else c j) = _
   rw [if_neg (by omega)]; exact h.hi j (by omega) h2
 · show (if j = kk then _ else c j) = _
   rw [e]
   have hl := h.len
   by_cases ej : j = kk
   · rw [if_pos ej, ej, hl]; simp [List.getD]
   · rw [if_neg ej, h.lo j (by omega)]
     have hj' : j < (cpt (akO f) (os.take (m + 1))).length := by omega
     simp [List.getD, List.getElem?_append_left hj']
theorem CInv.lt {f : Nat → Nat × Nat} {os : List Nat} {n m kk : Nat} {c : Nat → Int} (h : CInv f os n m kk c) : kk ≤ m := by
 rw [h.len]
 have := cpt_len (akO f) (os.take m)
 simp at this; omega
set_option maxRecDepth 100000 in
set_option maxHeartbeats 4000000 in
theorem compact_any (f : Nat → Nat × Nat) (B g off n c R : Nat) (os : List Nat) (hn : n ≤ 1048576) (h2 : 2 ≤ n) (hl : os.length = n) (hos : ∀ k, os.getD k 0 < n) (w : World) (hR : IRow w R n (fun k => (os.getD k 0 : Nat))) (hC : Cl w B g off n c f) (hB : B ≠ R) (hg : g ≠ R) :
   Calls Tryz.prog 23 #[.slice (some ⟨R, 0, none⟩) n n, .func (.func 24) #[] #[.pointer (some ⟨B, 0, none⟩)]] w fun e w' =>
     e = .returned (.slice (some ⟨R, 0, none⟩) (cpt (akO f) os).length n) ∧ IRow w' R (cpt (akO f) os).length (fun k => ((cpt (akO f) os).getD k 0 : Nat)) ∧ But w w' R := by
 have mixed : Tryz.prog.follows .mixedOrders = true := by kernel_rfl
 have eg : ∀ args w, (callFunc 24 args).run Tryz.prog w = .ok (.enter 24 args) w := enters_of Tryz.func24 (by kernel_rfl) rfl
 have HO : Hid (os.length = n ∧ ∀ k, os.getD k 0 < n) := ⟨hl, hos⟩
 have HN : Hid (B ≠ R ∧ g ≠ R) := ⟨hB, hg⟩
 have HS : Hid (IRow w R n (fun k => (os.getD k 0 : Nat)) ∧ Cl w B g off n c f) := ⟨hR, hC⟩
 have hn2 : ¬ (n : Int) < 2 := by omega
 clear hl hos hR hC hB hg
 go_enter Tryz.func23, Tryz.ntmps23
 go_wp2
 go_loopw [5] (fun i wr => ∃ k : Nat, 1 ≤ k ∧ k ≤ n ∧ i = .int .i64 (k : Nat) ∧ Hid (IRow wr R n (fun k => (os.getD k 0 : Nat)) ∧ Cl wr B g off n c f ∧ But w wr R ∧ cpt (akO f) (os.take k) = os.take k)) (fun i _ => n - (intOf i).toNat)
 case atStart =>
   exact ⟨1, by omega, by omega, rfl, HS.out.1, HS.out.2, But.refl _ _, cpt_one _ _ (by simp; omega)⟩
 case round =>
   obtain ⟨k, hk1, hk, rfl, hI⟩ := hrel
   by_cases hlt : k < n
   · have hlt' : (k : Int) < (n : Int) := by omega
     have hk0 : (0 : Int) ≤ (k : Int) := by omega
     obtain ⟨x, hx⟩ : ∃ x, Hid (os.getD k 0 = x) := ⟨_, rfl⟩
     obtain ⟨y, hy⟩ : ∃ x, Hid (os.getD (k - 1) 0 = x) := ⟨_, rfl⟩
     have c1 := hI.out.1.cell k hlt
     have c0 := hI.out.1.cell (k - 1) (by omega)
     rw [hx.out] at c1
     rw [hy.out] at c0
     have l1 := cell_grown hI.out.1.lt c1.1
     have l0 := cell_grown hI.out.1.lt c0.1
     have hcl : ∀ n' os', Calls Tryz.prog 24 #[.int .i64 (x : Int), .int .i64 (y : Int), .pointer (some ⟨B, 0, none⟩)] (grow (wr.drewN n') os') fun e w' => e = .returned (.bool (akO f x y)) ∧ ∃ q os'', w' = grow ((grow (wr.drewN n') os').drewN q) os'' :=
       fun n' os' => unC_any f B g off n c x y (by rw [← hx.out]; exact HO.out.2 _) (by rw [← hy.out]; exact HO.out.2 _) _ (hI.out.2.1.later (GrW.below ⟨n', os', rfl⟩))
     have p1 : (1 : Int) ≤ (k : Int) := by omega
     have p2' : (k : Int) - 1 < (n : Int) := by omega
     have p3 : IntKind.i64.wrap ((k : Int) - 1) = (k : Int) - 1 := by rw [IntKind.wrap_i64]; omega
     cases hq : akO f x y with
     | true =>
       rw [hq] at hcl
       have HQ : Hid (akO f (os.getD k 0) (os.getD (k - 1) 0) = true) := by rw [hx.out, hy.out]; exact hq
       clear hq
       go_wp2_with fail
       go_quiet_grown (first | (go_at_fn 24; refine Calls.grown_of (hcl _ _)))
       have HG : Hid (GrW wr (grow (wr.drewN nq) osq)) := ⟨nq, osq, rfl⟩
       have HI1 : Hid (IRow (grow (wr.drewN nq) osq) R n (fun k => (os.getD k 0 : Nat)) ∧ Cl (grow (wr.drewN nq) osq) B g off n c f ∧ But w (grow (wr.drewN nq) osq) R) := ⟨hI.out.1.later HG.out.below, hI.out.2.1.later HG.out.below, hI.out.2.2.1.trans (But.of HG.out.below R)⟩
       clear l0 l1 hcl c0 c1 HG
       generalize grow (wr.drewN nq) osq = w1 at *
       obtain ⟨L, hL⟩ : ∃ L, n - k = L := ⟨_, rfl⟩
       have HL : Hid (k + L = n) := by show k + L = n; omega
       clear p1 p2' p3 hx hy
       go_wp2
       go_loopw [5, 7] (fun s5 s7 wr => ∃ (kk k2 : Nat) (cc : Nat → Int), s5 = .int .i64 (kk : Nat) ∧ s7 = .int .i64 (k2 : Nat) ∧ 1 ≤ k2 ∧ k2 ≤ L ∧ kk < n ∧ Hid (IRow wr R n cc ∧ Cl wr B g off n c f ∧ But w wr R ∧ CInv f os n (k + k2) kk cc ∧ kk + 1 ≤ k + k2)) (fun _ s7 _ => L - (intOf s7).toNat)
       case atStart =>
         refine ⟨k, 1, fun j => (os.getD j 0 : Nat), rfl, rfl, by omega, by omega, hlt, HI1.out.1, HI1.out.2.1, HI1.out.2.2, ?_, by omega⟩
         obtain ⟨m, rfl⟩ : ∃ m, k = m + 1 := ⟨k - 1, by omega⟩
         have hQ := HQ.out
         rw [Nat.add_sub_cancel] at hQ
         have e0 : (os.take (m + 1)).length = m + 1 := by rw [List.length_take, HO.out.1]; omega
         refine CInv.skip (m := m) ⟨fun j _ _ => rfl, ?_, fun j hj => ?_⟩ (by rw [HO.out.1]; omega) hQ
         · rw [hI.out.2.2.2, e0]
         · rw [hI.out.2.2.2]
           simp [List.getD, hj]
       case round =>
         obtain ⟨kk, k2, cc, rfl, rfl, hk2, hle, hkn, hJ⟩ := hrel
         have hL' := HL.out
         by_cases hlt2 : k2 < L
         · have q1 : (k2 : Int) < (L : Int) := by omega
           have q2 : (1 : Int) ≤ (k2 : Int) := by omega
           have q3 : (k2 : Int) - 1 < (L : Int) := by omega
           have q4 : IntKind.i64.wrap ((k2 : Int) - 1) = (k2 : Int) - 1 := by rw [IntKind.wrap_i64]; omega
           have q5 : (0 : Int) ≤ (k2 : Int) := by omega
           have q6 : (kk : Int) < (n : Int) := by omega
           have q7 : (0 : Int) ≤ (kk : Int) := by omega
           obtain ⟨x, hx⟩ : ∃ x, Hid (os.getD (k + k2) 0 = x) := ⟨_, rfl⟩
           obtain ⟨y, hy⟩ : ∃ x, Hid (os.getD (k + (k2 - 1)) 0 = x) := ⟨_, rfl⟩
           have c1 := hJ.out.1.cell (k + k2) (by omega)
           have c0 := hJ.out.1.cell (k + (k2 - 1)) (by omega)
           rw [hJ.out.2.2.2.1.hi (k + k2) (by omega) (by omega), hx.out] at c1
           rw [hJ.out.2.2.2.1.hi (k + (k2 - 1)) (by omega) (by omega), hy.out] at c0
           have l1 := cell_grown hJ.out.1.lt c1.1
           have l0 := cell_grown hJ.out.1.lt c0.1
           have hcl : ∀ n' os', Calls Tryz.prog 24 #[.int .i64 (x : Int), .int .i64 (y : Int), .pointer (some ⟨B, 0, none⟩)] (grow (wr.drewN n') os') fun e w' => e = .returned (.bool (akO f x y)) ∧ ∃ q os'', w' = grow ((grow (wr.drewN n') os').drewN q) os'' :=
             fun n' os' => unC_any f B g off n c x y (by rw [← hx.out]; exact HO.out.2 _) (by rw [← hy.out]; exact HO.out.2 _) _ (hJ.out.2.1.later (GrW.below ⟨n', os', rfl⟩))
           clear hL'
           cases hq : akO f x y with
           | true =>
             rw [hq] at hcl
             have HQ2 : Hid (akO f (os.getD (k + k2) 0) (os.getD (k + (k2 - 1)) 0) = true) := by rw [hx.out, hy.out]; exact hq
             clear hq
             go_wp2_with fail
             go_quiet_grown (first | (go_at_fn 24; refine Calls.grown_of (hcl _ _)))
             have HG : Hid (GrW wr (grow (wr.drewN nq) osq)) := ⟨nq, osq, rfl⟩
             have HJ1 : Hid (IRow (grow (wr.drewN nq) osq) R n cc ∧ Cl (grow (wr.drewN nq) osq) B g off n c f ∧ But w (grow (wr.drewN nq) osq) R) := ⟨hJ.out.1.later HG.out.below, hJ.out.2.1.later HG.out.below, hJ.out.2.2.1.trans (But.of HG.out.below R)⟩
             clear l0 l1 hcl c0 c1 HG hx hy
             generalize grow (wr.drewN nq) osq = w2 at *
             go_wp2
             refine ⟨⟨kk, k2 + 1, cc, rfl, by go_num, by omega, by omega, hkn, HJ1.out.1, HJ1.out.2.1, HJ1.out.2.2, ?_, by have := hJ.out.2.2.2.2; omega⟩, by simp [intOf]; omega⟩
             obtain ⟨m, rfl⟩ : ∃ m, k2 = m + 1 := ⟨k2 - 1, by omega⟩
             exact CInv.skip (m := k + m) hJ.out.2.2.2.1 (by rw [HO.out.1]; have := HL.out; omega) HQ2.out
           | false =>
             rw [hq] at hcl
             have HQ2 : Hid (akO f (os.getD (k + k2) 0) (os.getD (k + (k2 - 1)) 0) = false) := by rw [hx.out, hy.out]; exact hq
             clear hq
             go_wp2_with fail
             go_quiet_grown (first | (go_at_fn 24; refine Calls.grown_of (hcl _ _)))
             have HG : Hid (GrW wr (grow (wr.drewN nq) osq)) := ⟨nq, osq, rfl⟩
             have HJ1 : Hid (IRow (grow (wr.drewN nq) osq) R n cc ∧ Cl (grow (wr.drewN nq) osq) B g off n c f ∧ But w (grow (wr.drewN nq) osq) R) := ⟨hJ.out.1.later HG.out.below, hJ.out.2.1.later HG.out.below, hJ.out.2.2.1.trans (But.of HG.out.below R)⟩
             have d1 := l1 nq osq
             have dk := HJ1.out.1.cell kk hkn
             clear l0 l1 hcl c0 c1 HG hy
             generalize grow (wr.drewN nq) osq = w2 at *
             obtain ⟨dk1, dk2⟩ := dk
             go_wp2
             refine ⟨⟨kk + 1, k2 + 1, fun j => if j = kk then (x : Nat) else cc j, by go_num, by go_num, by omega, by omega, by have := hJ.out.2.2.2.2; have := HL.out; omega, HJ1.out.1.set kk hkn x, HJ1.out.2.1.but (But.setCell _ _ _ _) HN.out.1 HN.out.2, HJ1.out.2.2.trans (But.setCell _ _ _ _), ?_, by have := hJ.out.2.2.2.2; omega⟩, by simp [intOf]; omega⟩
             rw [← hx.out]
             obtain ⟨m, rfl⟩ : ∃ m, k2 = m + 1 := ⟨k2 - 1, by omega⟩
             exact CInv.keep (m := k + m) hJ.out.2.2.2.1 (by rw [HO.out.1]; have := HL.out; omega) (by have := hJ.out.2.2.2.2; omega) HQ2.out
         · obtain rfl : k2 = L := by omega
           have q1 : ¬ (k2 : Int) < (k2 : Int) := by omega
           have q6 : (kk : Int) ≤ (n : Int) := by omega
           have q7 : (0 : Int) ≤ (kk : Int) := by omega
           obtain ⟨M, hM⟩ : ∃ M, n - kk = M := ⟨_, rfl⟩
           have hcl : ∀ ty, (Builtin.clear_ #[26] ty #[.slice (some ⟨R, kk, none⟩) M M]).run Tryz.prog wr = .ok (.tuple #[]) (wr.setCells R kk (List.replicate M (.int .i64 0))) :=
             fun ty => Lib.run_clear_slice wr _ _ ty (.int .i64 0) Tryz.underlying26 Tryz.zeroValue3 rfl rfl R kk M M (by omega) (fun j hj => by rw [(hJ.out.1.cell (kk + j) (by omega)).1]; rfl) (fun j hj => (hJ.out.1.cell (kk + j) (by omega)).2)
           have HM : Hid (kk + M = n) := by show kk + M = n; omega
           go_wp2
           go_ret
           have eT : os.take (k + k2) = os := List.take_of_length_le (by rw [HO.out.1, HL.out]; omega)
           have hI2 := hJ.out.2.2.2.1
           have el := hI2.len
           have elo := hI2.lo
           rw [eT] at el elo
           rw [← el]
           refine ⟨rfl, ⟨?_, fun j hj => ⟨?_, ?_⟩⟩, hJ.out.2.2.1.trans (But.setCells R _ kk wr)⟩
           · exact Nat.lt_of_lt_of_le hJ.out.1.lt (But.setCells R _ kk wr).size
           · have e2 := elo j hj
             rw [World.cell?_setCells_out R _ _ _ _ (fun _ _ => Or.inl hj), (hJ.out.1.cell j (by omega)).1, e2]
             rfl
           · rw [World.frozen?_setCells]
             exact (hJ.out.1.cell j (by omega)).2
     | false =>
       rw [hq] at hcl
       have HQ : Hid (akO f (os.getD k 0) (os.getD (k - 1) 0) = false) := by rw [hx.out, hy.out]; exact hq
       clear hq
       go_wp2_with fail
       go_quiet_grown (first | (go_at_fn 24; refine Calls.grown_of (hcl _ _)))
       have HG : Hid (GrW wr (grow (wr.drewN nq) osq)) := ⟨nq, osq, rfl⟩
       have HI1 : Hid (IRow (grow (wr.drewN nq) osq) R n (fun k => (os.getD k 0 : Nat)) ∧ Cl (grow (wr.drewN nq) osq) B g off n c f ∧ But w (grow (wr.drewN nq) osq) R) := ⟨hI.out.1.later HG.out.below, hI.out.2.1.later HG.out.below, hI.out.2.2.1.trans (But.of HG.out.below R)⟩
       clear l0 l1 hcl c0 c1 HG
       generalize grow (wr.drewN nq) osq = w1 at *
       go_wp2
       refine ⟨⟨k + 1, by omega, by omega, by go_num, HI1.out.1, HI1.out.2.1, HI1.out.2.2, ?_⟩, by simp [intOf]; omega⟩
       obtain ⟨m, rfl⟩ : ∃ m, k = m + 1 := ⟨k - 1, by omega⟩
       have e := cpt_step (eq := akO f) (os := os) (k := m) (by rw [HO.out.1]; omega)
       have hQ := HQ.out
       rw [Nat.add_sub_cancel] at hQ
       rw [e, hQ, if_neg (by decide), hI.out.2.2.2, List.take_succ_eq_append_getElem (i := m + 1) (by rw [HO.out.1]; omega)]
       simp [List.getD, show m + 1 < os.length by rw [HO.out.1]; omega]
   · obtain rfl : k = n := by omega
     have hltb : decide ((k : Int) < (k : Int)) = false := decide_eq_false (by omega)
     have e : os.take k = os := List.take_of_length_le (by rw [HO.out.1]; omega)
     have HE : Hid (cpt (akO f) os = os ∧ os.length = k) := by
       have := hI.out.2.2.2
       rw [e] at this
       exact ⟨this, HO.out.1⟩
     clear e
     go_wp2
     go_ret
     rw [HE.out.1, HE.out.2]
     exact ⟨rfl, hI.out.1, hI.out.2.2.1⟩
set_option maxRecDepth 100000 in
set_option maxHeartbeats 2000000 in
theorem unlike_any (s : Value) (n : Nat) (f : Nat → Nat × Nat) (w : World) (h : Ps w s n f) : Calls Tryz.prog 8 #[s] w fun e w' =>
   ((¬ MayL n f ∧ e = .returned (.slice none 0 0)) ∨ (MayL n f ∧ ∃ g os us, e = .returned (.slice (some ⟨g, 0, none⟩) us.length n) ∧ w.heap.size ≤ g ∧ Ord f n os ∧ us = os.filter (fun i => decide (tw f i = i)) ∧ IRow w' g us.length (fun k => (us.getD k 0 : Nat)))) ∧ Below w.heap.size w w' := by
 have HF : Hid (Ps w s n f) := h
 obtain ⟨a, c, rfl, hc, hm⟩ := h.shape
 clear h
 have HB0 : Hid (Below w.heap.size w (w.alloc (.cells #[.slice a n c] 22))) := (Below.refl _ w).alloc (Nat.le_refl _) _
 have HF0 : Hid (Ps (w.alloc (.cells #[.slice a n c] 22)) (.slice a n c) n f) := HF.out.later HB0.out
 have HX0 : Hid ((w.alloc (.cells #[.slice a n c] 22)).cell? ⟨w.heap.size, 0, none⟩ = some (.slice a n c)) := by show _ = _; go_simp
 have HZ0 : Hid ((w.alloc (.cells #[.slice a n c] 22)).heap.size = w.heap.size + 1) := by show _ = _; simp
 go_enter Tryz.func8, Tryz.ntmps8
 go_wp2_with fail
 refine (order_any _ n f _ HF0.out).mono ?_
 rintro e w1 ⟨h1, hb⟩
 have HB : Hid (Below w.heap.size w w1) := below_step HB0.out hb
 have HX : Hid (w1.cell? ⟨w.heap.size, 0, none⟩ = some (.slice a n c)) := box_cell hb HX0.out
 clear hb HF0 HX0 HB0
 rcases h1 with ⟨hm', rfl⟩ | ⟨hm', R, os, rfl, hR, ho, hi⟩
 · have HM : Hid (¬ MayL n f) := hm'
   clear hm'
   have hS : Hid (Calls Tryz.prog 23 #[.slice none 0 0, .func (.func 24) #[] #[.pointer (some ⟨w.heap.size, 0, none⟩)]] w1 fun e w' => e = .returned (.slice none 0 0) ∧ w' = w1) := by
     show Calls _ _ _ _ _
     go_enter Tryz.func23, Tryz.ntmps23
     go_wp2
     go_ret
     exact ⟨rfl, rfl⟩
   go_wp2_with fail
   refine hS.out.mono ?_
   rintro e w2 ⟨rfl, rfl⟩
   go_wp2
   go_ret
   exact ⟨Or.inl ⟨HM.out, rfl⟩, HB.out⟩
 · have HM : Hid (MayL n f) := hm'
   have HO : Hid (Ord f n os ∧ IRow w1 R n (fun k => (os.getD k 0 : Nat)) ∧ w.heap.size + 1 ≤ R) := ⟨ho, hi, by rw [HZ0.out] at hR; exact hR⟩
   clear hm' hR ho hi
   have hS : Hid (Calls Tryz.prog 23 #[.slice (some ⟨R, 0, none⟩) n n, .func (.func 24) #[] #[.pointer (some ⟨w.heap.size, 0, none⟩)]] w1 fun e w' => e = .returned (.slice (some ⟨R, 0, none⟩) (cpt (akO f) os).length n) ∧ IRow w' R (cpt (akO f) os).length (fun k => ((cpt (akO f) os).getD k 0 : Nat)) ∧ But w1 w' R) := by
     by_cases h2 : n < 2
     · have e1 := cpt_one (akO f) os (by rw [HO.out.1.len]; exact h2)
       rw [e1, HO.out.1.len]
       exact (compact1_any R n _ h2 w1).mono fun e w' ⟨h1, h2⟩ => by subst h2; exact ⟨h1, HO.out.2.1, But.refl _ _⟩
     · obtain ⟨g, off, rfl, hg, hcell⟩ := HF.out.some (by omega)
       refine compact_any f w.heap.size g off n c R os HM.out.1 (by omega) HO.out.1.len (fun k => ?_) w1 HO.out.2.1 ⟨HX.out, fun k hk => ⟨box_cell HB.out (hcell k hk).1, box_cell HB.out (hcell k hk).2⟩, fun k hk => HM.out.fin k hk⟩ (by have := HO.out.2.2; omega) (by have := HO.out.2.2; omega)
       by_cases hk : k < os.length
       · have := HO.out.1.lt hk
         simpa [List.getD, hk] using this
       · simp [List.getD, List.getElem?_eq_none (Nat.le_of_not_lt hk)]; omega
   go_wp2_with fail
   refine hS.out.mono ?_
   rintro e w2 ⟨rfl, h1, h2⟩
   have H2 : Hid (IRow w2 R (cpt (akO f) os).length (fun k => ((cpt (akO f) os).getD k 0 : Nat)) ∧ But w1 w2 R) := ⟨h1, h2⟩
   clear h1 h2 hS
   go_wp2
   go_ret
   refine ⟨Or.inr ⟨HM.out, R, os, cpt (akO f) os, rfl, by have := HO.out.2.2; omega, HO.out.1, cpt_own HO.out.1, H2.out.1⟩, H2.out.2.below HB.out (by have := HO.out.2.2; omega)⟩
end
end Go.Proofs.YtgpbfhennineiaaGreat
