/- Own texts, put together: Efm Efn Efo Ega Ekm Ekn Egh Eko Egb Egd Egf Egg. -/
import Derived.Test.YtgfloegaoofbbaaDoorQ4
import Derived.Test.YtgfloegaoofbbaaDoorQ21
import Derived.Test.YtgfloegaoofbbaaDoorQ22
import Derived.Deep.AppendSrc
import Derived.ArgAppend
namespace Go.Proofs.YtgfloegaoofbbaaDoor
/- Package elefile: whether a file may be. -/
section
set_option maxRecDepth 100000
open Go.RowKit Go.Shelf Go.Lib
attribute [local go_sem] run_store_float
end

/- Package elefile: wordsOf. -/
section
set_option maxRecDepth 100000
open Go.RowKit Go.Shelf Go.Lib
attribute [local go_sem] run_store_float
structure Wy (w W : World) (F c k : Nat) (lv tv av : Value) : Prop where
 fb : CB W w.heap.size #[.int .i64 (F : Nat), .int .i64 (c : Nat), .int .i64 (k : Nat), lv] 30
 rb : CB W (w.heap.size + 1) #[tv, av] 38
 bel : Below w.heap.size w W
theorem Wy.later {w W W' : World} {F c k : Nat} {lv tv av : Value} (h : Wy w W F c k lv tv av) (hb : Below W.heap.size W W') : Wy w W' F c k lv tv av := ⟨h.fb.later hb, h.rb.later hb, h.bel.trans (hb.mono h.bel.size)⟩
theorem Wy.grown {w W W' : World} {F c k : Nat} {lv tv av : Value} {row : Option Nat} (h : Wy w W F c k lv tv av) (hg : W.grownBy W' row) (hr : ∀ b, row = some b → w.heap.size + 2 ≤ b) : Wy w W' F c k lv tv av := by
 have cb : ∀ {b t : Nat} {cs : Array Value}, CB W b cs t → b < w.heap.size + 2 → CB W' b cs t := fun hc hb => by
   unfold CB
   rw [hg.block _ hc.lt (fun e => by have := hr _ e.symm; omega)]; exact hc
 exact ⟨cb h.fb (by omega), cb h.rb (by omega), h.bel.grown hg h.bel.size (fun b hb => by have := hr b hb; omega)⟩
end

/- Package elefile: Write. -/
section
set_option maxRecDepth 100000
open Go.RowKit Go.Shelf Go.Lib
structure Py (w W : World) (F c k : Nat) (nv : Value) : Prop where
 f1 : CB W w.heap.size #[.int .i64 (F : Nat), .int .i64 (c : Nat), .int .i64 (k : Nat), nv] 30
 bel : Below w.heap.size w W
theorem Py.later {w W W' : World} {F c k : Nat} {nv : Value} (h : Py w W F c k nv) (hb : Below W.heap.size W W') : Py w W' F c k nv := ⟨h.f1.later hb, h.bel.trans (hb.mono h.bel.size)⟩
theorem Py.grown {w W W' : World} {F c k : Nat} {nv : Value} {row : Option Nat} (h : Py w W F c k nv) (hg : W.grownBy W' row) (hr : ∀ b, row = some b → w.heap.size < b) : Py w W' F c k nv := by
 refine ⟨?_, h.bel.grown hg h.bel.size (fun b hb => by have := hr b hb; omega)⟩
 unfold CB
 rw [hg.block _ h.f1.lt (fun e => by have := hr _ e.symm; omega)]; exact h.f1
theorem Py.all {w W : World} {F c k n nc : Nat} {na : Option Addr} (h : Py w W F c k (.slice na n nc)) : W.cell? ⟨w.heap.size, 0, none⟩ = some (.int .i64 (F : Nat)) ∧ W.cell? ⟨w.heap.size, 1, none⟩ = some (.int .i64 (c : Nat)) ∧ W.cell? ⟨w.heap.size, 2, none⟩ = some (.int .i64 (k : Nat)) ∧ W.cell? ⟨w.heap.size, 3, none⟩ = some (.slice na n nc) ∧ Py w W F c k (.slice na n nc) := by
 obtain ⟨k0, k1, k2, k3⟩ := h.f1.cells4E
 exact ⟨k0, k1, k2, k3, h⟩
end

/- The laws of layer 11: a file made anew: what of and to share. (gen_ega.py) -/
section
set_option maxRecDepth 100000
open Go.RowKit Go.Shelf Go.Lib
structure Eo (t : TypeId) (W : World) (B : Nat) (v : Value) (rs : List Rt) : Prop where
 own : W.ownsRow B t 2 v rs.length (rcs rs)
 sub : ∀ q ∈ rs, Co W B 3 q.2.1 (isV q.1.t) ∧ Co W B 39 q.2.2 (f64s q.1.a)
section
variable {t : TypeId} {W W' : World} {B : Nat} {v : Value} {rs : List Rt}
theorem Eo.nil (t : TypeId) (W : World) (B : Nat) : Eo t W B (.slice none 0 0) [] := ⟨World.ownsRow_nil _ _ _ _, fun q hq => by simp at hq⟩
theorem Eo.later (h : Eo t W B v rs) (hb : Below W.heap.size W W') : Eo t W' B v rs := ⟨own_later h.own hb, fun q hq => ⟨(h.sub q hq).1.later hb, (h.sub q hq).2.later hb⟩⟩
theorem Eo.base {B' : Nat} (h : Eo t W B v rs) (hb : B' ≤ B) : Eo t W B' v rs := ⟨own_base h.own hb, fun q hq => ⟨(h.sub q hq).1.base hb, (h.sub q hq).2.base hb⟩⟩
theorem Eo.ob {C : Nat} (h : Eo t W B v rs) (ho : Ob C W W') (hC : C < B) : Eo t W' B v rs := ⟨own_obE h.own ho hC, fun q hq => ⟨(h.sub q hq).1.ob ho hC, (h.sub q hq).2.ob ho hC⟩⟩
theorem Eo.grew {v' : Value} {q : Rt} (ht1 : 3 ≠ t) (ht2 : 39 ≠ t) (h : Eo t W B v rs) (hq : Co W B 3 q.2.1 (isV q.1.t) ∧ Co W B 39 q.2.2 (f64s q.1.a)) (hown : W'.ownsRow B t 2 v' (rs.length + 1) (rcs rs ++ [q.2.1, q.2.2])) (hg : W.grownBy W' v.ownBlock) : Eo t W' B v' (rs ++ [q]) := by
 refine ⟨by rw [List.length_append, rcs_app]; exact hown, fun s hs => ?_⟩
 have key : Co W B 3 s.2.1 (isV s.1.t) ∧ Co W B 39 s.2.2 (f64s s.1.a) := by
   rcases List.mem_append.1 hs with e | e
   · exact h.sub s e
   · rw [List.mem_singleton.1 e]; exact hq
 exact ⟨key.1.kept h.own ht1 hg, key.2.kept h.own ht2 hg⟩
theorem Eo.rv (h : Eo t W B v rs) (hr : ∀ q ∈ rs, (∀ n ∈ q.1.t, InR n) ∧ ∀ x ∈ q.1.a, x < 18446744073709551616) : Rv W v rs := by
 refine ⟨?_, fun p hp => ⟨(h.sub p hp).1.is (hr p hp).1, (h.sub p hp).2.fs (hr p hp).2⟩⟩
 have h0 := h.own
 rcases h.own.2 with ⟨h1, h2⟩ | ⟨g, cap, cur, rfl, _, h3, h4, h5, _⟩
 · have : rs = [] := List.length_eq_zero_iff.1 h2
   subst this
   exact ⟨none, 0, h1, by simp, by omega, Or.inl rfl⟩
 · refine ⟨_, cap, rfl, h4, by unfold maxLen at h5; omega, Or.inr ⟨g, 0, rfl, (World.ownsRow.lt h0 g rfl).2, fun k p hk => ?_⟩⟩
   have := rcs_at rs k p hk
   refine ⟨own_cellL h0 this.1, ?_⟩
   rw [Nat.add_assoc]; exact own_cellL h0 this.2
end
theorem Co.own {W : World} {B t n : Nat} {v : Value} {xs : List Value} (h : W.ownsRow B t 1 v n xs) : Co W B t v xs := by
 have hl : xs.length = n := by have := h.1; omega
 rcases h.2 with ⟨h1, h2⟩ | ⟨g, cap, cur, h1, h2, h3, h4, h5, h6, h7⟩
 · subst h1
   have : xs = [] := List.length_eq_zero_iff.1 (by omega)
   subst this
   exact Co.nil _ _ _
 · subst h1
   refine ⟨_, cap, by rw [hl], by omega, by unfold maxLen at h5; omega, Or.inr ⟨g, 0, cur, rfl, ⟨h2, by omega⟩, h3, fun i u hu => ?_⟩⟩
   rw [← h7, List.getElem?_take] at hu
   split at hu
   · rw [Nat.zero_add]; simpa using hu
   · cases hu
section
variable {a : Act} {W : World} {o : Oper} {K : Act → World → Prop} {Q : Exit → Act → World → Prop} {x y : Option Addr} {n m c d : Nat}
theorem op_copy {s u b : Nat} {t e : TypeId} {i : TypeInfo} {z : Value} {xs : List Value} (ht : Tryd.prog.underlying t = some (.slice e)) (hi : Tryd.prog.info? e = some i) (hz : i.zero = some z) (hsize : i.size = 1) (hby : i.bytes = 8) (hzs : z.cells.size = 1)
   (ho : o.op = .call { callee := .builtin .append, args := #[.tmp s, .tmp u], argTypes := #[t, t] }) (hs : a.eval (.tmp s) = .slice (some ⟨b, 0, none⟩) 0 0) (hx : a.eval (.tmp u) = .slice x n c) (hsrc : Src Tryd.prog 1 t (.slice x n c) n xs W) (hn : n ≤ 1000000)
   (h0 : n = 0 → K (a.put o.dst (.slice (some ⟨b, 0, none⟩) 0 0)) W) (h1 : 0 < n → ∀ v' W', W'.ownsRow W.heap.size e 1 v' n xs → Below W.heap.size W W' → K (a.put o.dst v') W') : Oper.wp Tryd.prog o a W K Q := by
 unfold Oper.wp execOp
 have hl := hsrc.newsLen
 simp only [ho, resolve, invoke, builtin, Sem.run_bind, Sem.run_pure, Result.andThen_ok, List.map_toArray, List.map_cons, List.map_nil, hs, hx]
 by_cases hn0 : n = 0
 · subst hn0
   have : xs = [] := List.length_eq_zero_iff.1 (by omega)
   subst this
   rw [run_append_room_src (P := Tryd.prog) W t t o.type e i ht hi b 0 0 0 (.slice x 0 c) 0 [] (by rw [hsize]; exact hsrc) (by omega) (fun j hj => by simp at hj) (fun j hj => by simp at hj)]
   exact h0 rfl
 · have hold : (Builtin.firstCells i.size 0 (.slice (some ⟨b, 0, none⟩) 0 0)).run Tryd.prog W.drew = .ok ([] : List Value).toArray W.drew := run_firstCells_some W.drew i.size 0 ⟨b, 0, none⟩ 0 0 [] (by simp) (by simp)
   have hg : 0 < 0 + n := by omega
   rw [run_append_grow_src (P := Tryd.prog) W t t o.type e i z ht hi hz (some ⟨b, 0, none⟩) 0 0 [] hold (.slice x n c) n xs (by rw [hsize]; exact hsrc) hg (by omega) (growslice_fits hg (by rw [hby]; omega))]
   have hge := grownCap_ge W (0 + n) 0 e
   have hm := grownCap_le_maxLen W (0 + n) 0 e (by unfold maxLen; omega)
   have hge' : n ≤ grownCap W n 0 e := by rw [Nat.zero_add] at hge; exact hge
   refine h1 (by omega) _ _ ⟨by omega, Or.inr ⟨W.heap.size, _, _, by rw [Nat.zero_add], Nat.le_refl _, heap_alloc_new W.drew _, hge', by rw [Nat.zero_add] at hm; exact hm, ?_, ?_⟩⟩ (((Below.refl _ W).drew).alloc (Nat.le_refl _) _)
   · simp only [Array.size_append, List.size_toArray, size_zeroCells, hzs, List.nil_append, hl]
     rw [Nat.zero_add] at hge ⊢
     omega
   · simp only [List.nil_append, Array.toList_append]
     rw [show n * 1 = xs.length by omega]
     exact List.take_left
theorem op_mv {e : Operand} (ho : o.op = .move e) (h : K (a.put o.dst (a.eval e)) W) : Oper.wp Tryd.prog o a W K Q := by
 unfold Oper.wp execOp
 rw [ho]
 exact h
end
theorem src_ints {W : World} {x : Option Addr} {n c : Nat} {ts : List Int} (h : Is W (.slice x n c) ts) : Src Tryd.prog 1 35 (.slice x n c) n (isV ts) W := by
 obtain ⟨⟨a, d, e, h1, h2, h3⟩, _⟩ := h
 cases e
 rcases h3 with rfl | ⟨g, off, rfl, hc⟩
 · cases x with
   | none => exact Src.ofNil W (e' := 3) (by kernel_rfl) c
   | some ad => exact Src.ofSlice W (e' := 3) (by kernel_rfl) ad 0 c [] (by simp) (by simp) (by simp)
 · refine Src.ofSlice W (e' := 3) (by kernel_rfl) _ _ _ _ (by simp [isV]) (fun j u hj => ?_) (fun u hu => by obtain ⟨b, _, rfl⟩ := List.mem_map.1 hu; rfl)
   obtain ⟨hlt, rfl⟩ := List.getElem?_eq_some_iff.1 hj
   have hj' : j < ts.length := by simpa [isV] using hlt
   rw [Addr.add_lit, hc j hj']
   simp [isV, List.getD, List.getElem?_eq_getElem hj']
theorem src_floats {W : World} {x : Option Addr} {n c : Nat} {ts : List Nat} (h : Fs W (.slice x n c) ts) : Src Tryd.prog 1 36 (.slice x n c) n (f64s ts) W := by
 obtain ⟨⟨a, d, e, h1, h2, h3⟩, _⟩ := h
 cases e
 rcases h3 with rfl | ⟨g, off, rfl, hc⟩
 · cases x with
   | none => exact Src.ofNil W (e' := 39) (by kernel_rfl) c
   | some ad => exact Src.ofSlice W (e' := 39) (by kernel_rfl) ad 0 c [] (by simp) (by simp) (by simp)
 · refine Src.ofSlice W (e' := 39) (by kernel_rfl) _ _ _ _ (by simp [f64s]) (fun j u hj => ?_) (fun u hu => by obtain ⟨b, _, rfl⟩ := List.mem_map.1 hu; rfl)
   obtain ⟨hlt, rfl⟩ := List.getElem?_eq_some_iff.1 hj
   have hj' : j < ts.length := by simpa [f64s] using hlt
   rw [Addr.add_lit, hc j hj']
   simp [f64s, List.getD, List.getElem?_eq_getElem hj']
theorem makeE {W : World} {B t : Nat} (hB : B ≤ W.heap.size) : (W.alloc (.cells #[] t)).ownsRow B t 1 (.slice (some ⟨W.heap.size, 0, none⟩) 0 0) 0 [] := own_base (World.ownsRow_made W (e := t) (size := 1) #[] 0 (Nat.le_refl _) (Nat.zero_le _) rfl) hB
theorem bAlE (W : World) (o : Obj) : Below W.heap.size W (W.alloc o) := (Below.refl _ _).alloc (Nat.le_refl _) _
end

/- The law ElefileReads: what it writes over: rows of one-cell values, their capacity within their blocks; only blocks of one type, from B on, are touched. -/
section
set_option maxRecDepth 100000
open Go.RowKit Go.Shelf Go.Lib
def Wt (W : World) (B t : Nat) (v : Value) (n : Nat) : Prop :=
 ∃ a c, v = .slice a n c ∧ n ≤ c ∧ c ≤ 9223372036854775807 ∧ ((n = 0 ∧ c = 0 ∧ (a = none ∨ ∃ b, a = some b)) ∨ ∃ g off cur, a = some ⟨g, off, none⟩ ∧ (B ≤ g ∧ off + c ≤ cur.size) ∧ CB W g cur t)
theorem Wt.of_co {W : World} {B t : Nat} {v : Value} {xs : List Value} (h : Co W B t v xs) : Wt W B t v xs.length := by
 obtain ⟨a, c, h1, h2, h3, h4⟩ := h
 refine ⟨a, c, h1, h2, h3, ?_⟩
 rcases h4 with ⟨h4, h5⟩ | ⟨g, off, cur, h5, h6, h7, _⟩
 · refine Or.inl ⟨by rw [h4]; rfl, h5, ?_⟩
   cases a with
   | none => exact Or.inl rfl
   | some b => exact Or.inr ⟨b, rfl⟩
 · exact Or.inr ⟨g, off, cur, h5, h6, h7⟩
theorem Wt.base {W : World} {B B' t n : Nat} {v : Value} (h : Wt W B t v n) (hb : B' ≤ B) : Wt W B' t v n := by
 obtain ⟨a, c, h1, h2, h3, h4⟩ := h
 refine ⟨a, c, h1, h2, h3, ?_⟩
 rcases h4 with h4 | ⟨g, off, cur, h5, h6, h7⟩
 · exact Or.inl h4
 · exact Or.inr ⟨g, off, cur, h5, by omega, h7⟩
theorem Wt.at {W : World} {B t n : Nat} {v : Value} (h : Wt W B t v n) : ∃ a c, v = .slice a n c ∧ n ≤ c ∧ c ≤ 9223372036854775807 ∧ (0 < n → ∃ g off, a = some ⟨g, off, none⟩ ∧ B ≤ g ∧ g < W.heap.size ∧ ∀ k, k < n → (∃ u, W.cell? ⟨g, off + k, none⟩ = some u) ∧ W.frozen? ⟨g, off + k, none⟩ = false) := by
 obtain ⟨a, c, h1, h2, h3, h4⟩ := h
 refine ⟨a, c, h1, h2, h3, fun h0 => ?_⟩
 rcases h4 with h4 | ⟨g, off, cur, h5, h6, h7⟩
 · omega
 · exact ⟨g, off, h5, h6.1, h7.lt, fun k hk => ⟨⟨_, h7.cell (off + k) (by omega)⟩, h7.frozen _⟩⟩
structure Tch (B t : Nat) (W W' : World) : Prop where
 os : W'.os = W.os
 tape : W'.tape = W.tape
 output : W'.output = W.output
 size : W.heap.size ≤ W'.heap.size
 keep : ∀ k, k < B → k < W.heap.size → W'.heap[k]? = W.heap[k]?
 other : ∀ b cs tt, CB W b cs tt → tt ≠ t → CB W' b cs tt
 same : ∀ b cs, CB W b cs t → ∃ cs', cs'.size = cs.size ∧ CB W' b cs' t
theorem Tch.refl (B t : Nat) (W : World) : Tch B t W W := ⟨rfl, rfl, rfl, Nat.le_refl _, fun _ _ _ => rfl, fun _ _ _ h _ => h, fun _ cs h => ⟨cs, rfl, h⟩⟩
theorem Tch.trans {B t : Nat} {W V U : World} (h : Tch B t W V) (g : Tch B t V U) : Tch B t W U :=
 ⟨g.os.trans h.os, g.tape.trans h.tape, g.output.trans h.output, Nat.le_trans h.size g.size, fun k h1 h2 => (g.keep k h1 (Nat.lt_of_lt_of_le h2 h.size)).trans (h.keep k h1 h2), fun b cs tt hb hn => g.other b cs tt (h.other b cs tt hb hn) hn, fun b cs hb => by
   obtain ⟨c1, e1, h1⟩ := h.same b cs hb
   obtain ⟨c2, e2, h2⟩ := g.same b c1 h1
   exact ⟨c2, e2.trans e1, h2⟩⟩
theorem Tch.later {B t : Nat} {W W' : World} (h : Below W.heap.size W W') : Tch B t W W' :=
 ⟨h.os, h.tape, h.output, h.size, fun k _ hk => h.block k hk, fun _ _ _ hc _ => hc.later h, fun _ cs hc => ⟨cs, rfl, hc.later h⟩⟩
theorem Tch.set {B t g : Nat} {W : World} {cur : Array Value} (h : CB W g cur t) (hB : B ≤ g) (i : Nat) (u : Value) : Tch B t W (W.setCell ⟨g, i, none⟩ u) := by
 have ho := Ob.set g i W u
 refine ⟨ho.os, ho.tape, ho.output, by simp [World.setCell], fun k h1 h2 => ho.block k h2 (by omega), fun b cs tt hb hn => ?_, fun b cs hb => ?_⟩
 · refine hb.other (fun e => hn ?_) u
   subst e
   unfold CB at h hb
   rw [h] at hb
   have := Option.some.inj hb
   injection this with _ e2 _
   exact e2.symm
 · by_cases e : b = g
   · subst e
     exact ⟨_, by simp, hb.set i u⟩
   · exact ⟨cs, rfl, hb.other e u⟩
theorem Tch.below {B C t : Nat} {w W W' : World} (h : Tch B t W W') (hb : Below C w W) (hC : C ≤ B) (hs : C ≤ w.heap.size) : Below C w W' :=
 ⟨h.os.trans hb.os, h.tape.trans hb.tape, h.output.trans hb.output, Nat.le_trans hb.size h.size, fun k hk => (h.keep k (by omega) (Nat.lt_of_lt_of_le hk (Nat.le_trans hs hb.size))).trans (hb.block k hk)⟩
theorem Wt.tch {W W' : World} {B B' t t' n : Nat} {v : Value} (h : Wt W B' t' v n) (hT : Tch B t W W') : Wt W' B' t' v n := by
 obtain ⟨a, c, h1, h2, h3, h4⟩ := h
 refine ⟨a, c, h1, h2, h3, ?_⟩
 rcases h4 with h4 | ⟨g, off, cur, h5, h6, h7⟩
 · exact Or.inl h4
 · by_cases e : t' = t
   · subst e
     obtain ⟨c2, e2, g2⟩ := hT.same g cur h7
     exact Or.inr ⟨g, off, c2, h5, by omega, g2⟩
   · exact Or.inr ⟨g, off, cur, h5, h6, hT.other g cur t' h7 e⟩
theorem Wt.set {W : World} {B t n g off k : Nat} {v : Value} {c : Nat} (h : Wt W B t v n) (e : v = .slice (some ⟨g, off, none⟩) n c) (hk : k < n) (u : Value) : Tch B t W (W.setCell ⟨g, off + k, none⟩ u) := by
 obtain ⟨a, c', h1, h2, h3, h4⟩ := h
 rw [e] at h1
 injection h1 with e1 e2 e3
 rcases h4 with h4 | ⟨g', off', cur, h5, h6, h7⟩
 · omega
 · rw [← e1] at h5
   have := Option.some.inj h5
   injection this with f1 f2 f3
   subst f1 f2
   exact Tch.set h7 h6.1 _ _
section
variable {P : Program} {o : Oper} {aa : Act} {w : World} {K : Act → World → Prop} {Q : Exit → Act → World → Prop}
theorem wp_append_wt (s x : Operand) (t : TypeId) (ho : o.op = .call { callee := .builtin .append, args := #[s, x], argTypes := #[t, t] })
   (e : TypeId) (i : TypeInfo) (z : Value) (bytes : Nat) (ht : P.underlying t = some (.slice e)) (hi : P.info? e = some i) (hz : i.zero = some z) (hsize : i.size = 1) (hby : i.bytes = bytes) (hzs : z.cells.size = 1)
   (v : Value) (n B : Nat) (hs : aa.eval s = v) (hv : Wt w B e v n) (hB : B ≤ w.heap.size) (X c : Nat) (u : Value) (hx : aa.eval x = .slice (some ⟨X, 0, none⟩) 1 c) (hu : w.cell? ⟨X, 0, none⟩ = some u) (h1 : u.oneCell' = true)
   (h63 : n + 1 ≤ maxLen) (hbytes : (n + 1) * bytes ≤ 140737488355328)
   (h : ∀ v' w', Wt w' B e v' (n + 1) → Tch B e w w' → K (aa.put o.dst v') w') : Oper.wp P o aa w K Q := by
 have hnews : ∀ (j : Nat) (y : Value), [u][j]? = some y → w.cell? ((⟨X, 0, none⟩ : Addr).add j) = some y := by
   intro j y hj
   have hj0 : j = 0 := by
     have := (List.getElem?_eq_some_iff.1 hj).1
     simp at this; omega
   subst hj0
   have : u = y := by simpa using hj
   rw [← this, Addr.add_lit]; simpa using hu
 have h1' : ∀ y ∈ [u], y.oneCell' = true := fun y hy => by rw [List.mem_singleton.1 hy]; exact h1
 have grown : ∀ v' w' (ys : List Value), w'.ownsRow w.heap.size e 1 v' (n + 1) ys → w.grownBy w' none → K (aa.put o.dst v') w' := by
   intro v' w' ys h2 h3
   have hb : Below w.heap.size w w' := ⟨h3.os, h3.tape, h3.output, h3.size, fun k hk => h3.block k hk (by simp)⟩
   refine h v' w' ?_ (Tch.later hb)
   have := Wt.of_co (Co.own h2)
   have hl := h2.1
   rw [show ys.length = n + 1 by omega] at this
   exact this.base hB
 obtain ⟨a, cap, hv1, hv2, hv3, hv4⟩ := hv
 rw [hv1] at hs
 rcases hv4 with ⟨hn0, hc0, ha⟩ | ⟨g, off, cur, ha, hg, hcb⟩
 · subst hn0 hc0
   rcases ha with rfl | ⟨b, rfl⟩
   · obtain ⟨v', w', hr, h2, h3, _⟩ := run_append_own (P := P) w w.heap.size t o.type e i z 1 bytes ht hi hz hsize hby hzs (by decide) (.slice none 0 0) 0 [] (World.ownsRow_nil w _ e 1) ⟨X, 0, none⟩ 1 c [u] rfl hnews h1' h63 hbytes (Nat.le_refl _)
     unfold Oper.wp execOp
     simp only [ho, resolve, invoke, builtin, Sem.run_bind, Sem.run_pure, Result.andThen_ok, List.map_toArray, List.map_cons, List.map_nil, hs, hx, hr]
     exact grown v' w' _ h2 h3
   · obtain ⟨v', w', hr, h2, h3⟩ := run_append_arg_grows (P := P) w t o.type e i z 1 bytes ht hi hz hsize hby hzs (by decide) b 0 0 [] rfl (fun j y hj => by simp at hj) ⟨X, 0, none⟩ 1 c [u] rfl hnews (by omega) h63 hbytes
     unfold Oper.wp execOp
     simp only [ho, resolve, invoke, builtin, Sem.run_bind, Sem.run_pure, Result.andThen_ok, List.map_toArray, List.map_cons, List.map_nil, hs, hx, hr]
     exact grown v' w' _ h2 h3
 · subst ha
   by_cases hroom : n + 1 ≤ cap
   · have hr := run_append_room_cells (P := P) w t o.type e i ht hi g off n cap ⟨X, 0, none⟩ 1 c [u] (by rw [hsize]; rfl) hnews h1' hroom (fun j hj => by
         have hj0 : j = 0 := by simp at hj; omega
         subst hj0
         rw [hsize, hcb.cell _ (by omega)]; rfl) (fun j _ => hcb.frozen _)
     unfold Oper.wp execOp
     simp only [ho, resolve, invoke, builtin, Sem.run_bind, Sem.run_pure, Result.andThen_ok, List.map_toArray, List.map_cons, List.map_nil, hs, hx, hr]
     have hw : w.setCells g (off + n * i.size) [u] = w.setCell ⟨g, off + n, none⟩ u := by rw [hsize, Nat.mul_one]; rfl
     rw [hw]
     have hT := Tch.set hcb hg.1 (off + n) u
     refine h _ _ ?_ hT
     exact ⟨_, cap, rfl, hroom, hv3, Or.inr ⟨g, off, _, rfl, ⟨hg.1, by rw [Array.set!_eq_setIfInBounds, Array.size_setIfInBounds]; exact hg.2⟩, hcb.set _ _⟩⟩
   · have hlen : ((cur.toList.drop off).take n).length = n := by rw [List.length_take, List.length_drop, Array.length_toList]; omega
     obtain ⟨v', w', hr, h2, h3⟩ := run_append_arg_grows (P := P) w t o.type e i z 1 bytes ht hi hz hsize hby hzs (by decide) ⟨g, off, none⟩ n cap ((cur.toList.drop off).take n) (by omega) (fun j y hj => by
         have hjn := (List.getElem?_eq_some_iff.1 hj).1
         rw [hlen] at hjn
         rw [List.getElem?_take_of_lt hjn, List.getElem?_drop, Array.getElem?_toList] at hj
         obtain ⟨q1, q2⟩ := Array.getElem?_eq_some_iff.1 hj
         rw [Addr.add_lit, hcb.cell _ q1, q2]) ⟨X, 0, none⟩ 1 c [u] rfl hnews (by omega) h63 hbytes
     unfold Oper.wp execOp
     simp only [ho, resolve, invoke, builtin, Sem.run_bind, Sem.run_pure, Result.andThen_ok, List.map_toArray, List.map_cons, List.map_nil, hs, hx, hr]
     exact grown v' w' _ h2 h3
end
end

/- The law ElefileReads: a file handed back, while its triangles are written over. -/
section
set_option maxRecDepth 100000
open Go.RowKit Go.Shelf Go.Lib
abbrev Tq := Value × Nat × Value × Nat
structure Spo (w W : World) (b g M cap : Nat) (f c k : Int) (vs : List Tq) : Prop where
 bel : Below w.heap.size w W
 box : CB W b #[.int .i64 f, .int .i64 c, .int .i64 k, .slice (some ⟨g, 0, none⟩) vs.length cap] 30
 row : ∃ cells, CB W g cells 38 ∧ ∀ (i : Nat) (q : Tq), vs[i]? = some q → cells[i * 2]? = some q.1 ∧ cells[i * 2 + 1]? = some q.2.2.1
 gB : w.heap.size ≤ g
 sub : ∀ q ∈ vs, Wt W w.heap.size 3 q.1 q.2.1 ∧ Wt W w.heap.size 39 q.2.2.1 q.2.2.2 ∧ q.2.1 ≤ M ∧ q.2.2.2 ≤ M
theorem Spo.tch {w W W' : World} {b g M cap t : Nat} {f c k : Int} {vs : List Tq} (h : Spo w W b g M cap f c k vs) (hT : Tch w.heap.size t W W') (h1 : 30 ≠ t) (h2 : 38 ≠ t) : Spo w W' b g M cap f c k vs := by
 obtain ⟨cells, r1, r2⟩ := h.row
 exact ⟨hT.below h.bel (Nat.le_refl _) (Nat.le_refl _), hT.other _ _ _ h.box h1, ⟨cells, hT.other _ _ _ r1 h2, r2⟩, h.gB, fun q hq => ⟨(h.sub q hq).1.tch hT, (h.sub q hq).2.1.tch hT, (h.sub q hq).2.2⟩⟩
theorem Spo.later {w W W' : World} {b g M cap : Nat} {f c k : Int} {vs : List Tq} (h : Spo w W b g M cap f c k vs) (hb : Below W.heap.size W W') : Spo w W' b g M cap f c k vs := h.tch (t := 3) (Tch.later hb) (by decide) (by decide)
theorem Spo.ga {w W : World} {b g M cap : Nat} {f c k : Int} {vs : List Tq} (h : Spo w W b g M cap f c k vs) {i : Nat} {q : Tq} (hq : vs[i]? = some q) :
   (W.cell? ⟨g, i * 2, none⟩ = some q.1 ∧ W.cell? ⟨g, i * 2 + 1, none⟩ = some q.2.2.1) ∧ W.frozen? ⟨g, i * 2, none⟩ = false ∧ W.frozen? ⟨g, i * 2 + 1, none⟩ = false := by
 obtain ⟨cells, r1, r2⟩ := h.row
 obtain ⟨r3, r4⟩ := r2 i q hq
 obtain ⟨a1, a2⟩ := Array.getElem?_eq_some_iff.1 r3
 obtain ⟨b1, b2⟩ := Array.getElem?_eq_some_iff.1 r4
 exact ⟨⟨by rw [r1.cell _ a1, a2], by rw [r1.cell _ b1, b2]⟩, r1.frozen _, r1.frozen _⟩
theorem Spo.setT {w W : World} {b g M cap : Nat} {f c k : Int} {vs : List Tq} (h : Spo w W b g M cap f c k vs) {i : Nat} {q : Tq} (hq : vs[i]? = some q) {v' : Value} {n' : Nat} (hv : Wt W w.heap.size 3 v' n') (hn : n' ≤ M) :
   Spo w (W.setCell ⟨g, i * 2, none⟩ v') b g M cap f c k (vs.set i (v', n', q.2.2)) := by
 obtain ⟨cells, r1, r2⟩ := h.row
 have hT : Tch w.heap.size 38 W (W.setCell ⟨g, i * 2, none⟩ v') := Tch.set r1 h.gB _ _
 have hi := (List.getElem?_eq_some_iff.1 hq).1
 refine ⟨hT.below h.bel (Nat.le_refl _) (Nat.le_refl _), by rw [List.length_set]; exact hT.other _ _ _ h.box (by decide), ⟨_, r1.set (i * 2) v', fun j p hp => ?_⟩, h.gB, fun p hp => ?_⟩
 · rw [List.getElem?_set] at hp
   by_cases e : i = j
   · subst e
     rw [if_pos rfl, if_pos hi] at hp
     obtain ⟨r3, r4⟩ := r2 i q hq
     have h3 := (Array.getElem?_eq_some_iff.1 r3).1
     have := Option.some.inj hp
     subst this
     refine ⟨?_, ?_⟩
     · rw [Array.set!_eq_setIfInBounds, Array.getElem?_setIfInBounds, if_pos rfl, if_pos h3]
     · rw [Array.set!_eq_setIfInBounds, Array.getElem?_setIfInBounds, if_neg (by omega)]; exact r4
   · rw [if_neg e] at hp
     obtain ⟨r3, r4⟩ := r2 j p hp
     rw [Array.set!_eq_setIfInBounds]
     exact ⟨by rw [Array.getElem?_setIfInBounds, if_neg (by omega)]; exact r3, by rw [Array.getElem?_setIfInBounds, if_neg (by omega)]; exact r4⟩
 · rcases List.mem_or_eq_of_mem_set hp with hp | rfl
   · exact ⟨(h.sub p hp).1.tch hT, (h.sub p hp).2.1.tch hT, (h.sub p hp).2.2⟩
   · have := h.sub q (List.mem_of_getElem? hq)
     exact ⟨hv.tch hT, this.2.1.tch hT, hn, this.2.2.2⟩
theorem Spo.setA {w W : World} {b g M cap : Nat} {f c k : Int} {vs : List Tq} (h : Spo w W b g M cap f c k vs) {i : Nat} {q : Tq} (hq : vs[i]? = some q) {v' : Value} {n' : Nat} (hv : Wt W w.heap.size 39 v' n') (hn : n' ≤ M) :
   Spo w (W.setCell ⟨g, i * 2 + 1, none⟩ v') b g M cap f c k (vs.set i (q.1, q.2.1, v', n')) := by
 obtain ⟨cells, r1, r2⟩ := h.row
 have hT : Tch w.heap.size 38 W (W.setCell ⟨g, i * 2 + 1, none⟩ v') := Tch.set r1 h.gB _ _
 have hi := (List.getElem?_eq_some_iff.1 hq).1
 refine ⟨hT.below h.bel (Nat.le_refl _) (Nat.le_refl _), by rw [List.length_set]; exact hT.other _ _ _ h.box (by decide), ⟨_, r1.set (i * 2 + 1) v', fun j p hp => ?_⟩, h.gB, fun p hp => ?_⟩
 · rw [List.getElem?_set] at hp
   by_cases e : i = j
   · subst e
     rw [if_pos rfl, if_pos hi] at hp
     obtain ⟨r3, r4⟩ := r2 i q hq
     have h4 := (Array.getElem?_eq_some_iff.1 r4).1
     have := Option.some.inj hp
     subst this
     refine ⟨?_, ?_⟩
     · rw [Array.set!_eq_setIfInBounds, Array.getElem?_setIfInBounds, if_neg (by omega)]; exact r3
     · rw [Array.set!_eq_setIfInBounds, Array.getElem?_setIfInBounds, if_pos rfl, if_pos h4]
   · rw [if_neg e] at hp
     obtain ⟨r3, r4⟩ := r2 j p hp
     rw [Array.set!_eq_setIfInBounds]
     exact ⟨by rw [Array.getElem?_setIfInBounds, if_neg (by omega)]; exact r3, by rw [Array.getElem?_setIfInBounds, if_neg (by omega)]; exact r4⟩
 · rcases List.mem_or_eq_of_mem_set hp with hp | rfl
   · exact ⟨(h.sub p hp).1.tch hT, (h.sub p hp).2.1.tch hT, (h.sub p hp).2.2⟩
   · have := h.sub q (List.mem_of_getElem? hq)
     exact ⟨this.1.tch hT, hv.tch hT, this.2.2.1, hn⟩
theorem Spo.tt {w W : World} {b g M cap : Nat} {f c k : Int} {vs : List Tq} (h : Spo w W b g M cap f c k vs) {i : Nat} {q : Tq} (hq : vs[i]? = some q) {ta : Option Addr} {n tc : Nat} (e : q.1 = .slice ta n tc) {m : Nat} (hm : m < n) :
   ∃ gt off, ta = some ⟨gt, off, none⟩ ∧ (∃ u, W.cell? ⟨gt, off + m, none⟩ = some u) ∧ W.frozen? ⟨gt, off + m, none⟩ = false ∧ ∀ u, Spo w (W.setCell ⟨gt, off + m, none⟩ u) b g M cap f c k vs := by
 have hw := (h.sub q (List.mem_of_getElem? hq)).1
 obtain ⟨a, c', h1, h2, h3, h4⟩ := hw.at
 have h1' := h1
 rw [e] at h1'
 injection h1' with e1 e2 e3
 obtain ⟨gt, off, e4, _, _, h5⟩ := h4 (by omega)
 refine ⟨gt, off, by rw [e1, e4], (h5 m (by omega)).1, (h5 m (by omega)).2, fun u => h.tch (hw.set (by rw [h1, e4]) (by omega) u) (by decide) (by decide)⟩
theorem Spo.aa {w W : World} {b g M cap : Nat} {f c k : Int} {vs : List Tq} (h : Spo w W b g M cap f c k vs) {i : Nat} {q : Tq} (hq : vs[i]? = some q) {ta : Option Addr} {n tc : Nat} (e : q.2.2.1 = .slice ta n tc) {m : Nat} (hm : m < n) :
   ∃ gt off, ta = some ⟨gt, off, none⟩ ∧ (∃ u, W.cell? ⟨gt, off + m, none⟩ = some u) ∧ W.frozen? ⟨gt, off + m, none⟩ = false ∧ ∀ u, Spo w (W.setCell ⟨gt, off + m, none⟩ u) b g M cap f c k vs := by
 have hw := (h.sub q (List.mem_of_getElem? hq)).2.1
 obtain ⟨a, c', h1, h2, h3, h4⟩ := hw.at
 have h1' := h1
 rw [e] at h1'
 injection h1' with e1 e2 e3
 obtain ⟨gt, off, e4, _, _, h5⟩ := h4 (by omega)
 refine ⟨gt, off, by rw [e1, e4], (h5 m (by omega)).1, (h5 m (by omega)).2, fun u => h.tch (hw.set (by rw [h1, e4]) (by omega) u) (by decide) (by decide)⟩
def tqs (rs : List Rt) : List Tq := rs.map fun q => (q.2.1, q.1.t.length, q.2.2, q.1.a.length)
theorem Spo.start {w V W : World} {M g cap : Nat} {f c k : Int} {rs : List Rt} (hb : Below w.heap.size w V) (he : Er V w.heap.size (.slice (some ⟨g, 0, none⟩) rs.length cap) rs) (hM : ∀ q ∈ rs, q.1.t.length ≤ M ∧ q.1.a.length ≤ M) (e : V.alloc (.cells #[.int .i64 f, .int .i64 c, .int .i64 k, .slice (some ⟨g, 0, none⟩) rs.length cap] 30) = W) :
   Spo w W V.heap.size g M cap f c k (tqs rs) := by
 have hl : Below V.heap.size V W := by rw [← e]; exact (Below.refl _ _).alloc (Nat.le_refl _) _
 have hw := own_later he.own hl
 have hr : ∃ cells, CB W g cells 38 ∧ w.heap.size ≤ g ∧ cells.toList.take (rs.length * 2) = rcs rs := by
   rcases hw.2 with ⟨h1, _⟩ | ⟨g', cap', cur, h1, h2, h3, _, _, _, h7⟩
   · cases h1
   · injection h1 with e1 e2 e3
     have := Option.some.inj e1
     injection this with f1 f2 f3
     subst f1
     exact ⟨cur, h3, h2, h7⟩
 obtain ⟨cells, r1, r2, r3⟩ := hr
 have hln : (tqs rs).length = rs.length := by unfold tqs; rw [List.length_map]
 refine ⟨hb.trans (hl.mono hb.size), by rw [← e, hln]; exact CB.new _ _ _, ⟨cells, r1, fun i q hq => ?_⟩, r2, fun q hq => ?_⟩
 · unfold tqs at hq
   rw [List.getElem?_map, Option.map_eq_some_iff] at hq
   obtain ⟨p, hp, rfl⟩ := hq
   obtain ⟨h1, h2⟩ := rcs_at rs i p hp
   rw [← r3] at h1 h2
   have key : ∀ (j : Nat) (x : Value), (cells.toList.take (rs.length * 2))[j]? = some x → cells[j]? = some x := by
     intro j x hx
     rw [List.getElem?_take] at hx
     split at hx
     · simpa using hx
     · cases hx
   exact ⟨key _ _ h1, key _ _ h2⟩
 · unfold tqs at hq
   obtain ⟨p, hp, rfl⟩ := List.mem_map.1 hq
   obtain ⟨h1, h2⟩ := he.sub p hp
   have h3 := (Wt.of_co h1).tch (t := 3) (Tch.later (B := 0) hl)
   have h4 := (Wt.of_co h2).tch (t := 3) (Tch.later (B := 0) hl)
   rw [show (isV p.1.t).length = p.1.t.length by simp [isV]] at h3
   rw [show (f64s p.1.a).length = p.1.a.length by simp [f64s]] at h4
   exact ⟨h3, h4, hM p hp⟩
end

/- The laws of layer 11: what is read is written, and is the same: plain. -/
section
set_option maxRecDepth 100000
open Go.RowKit Go.Shelf Go.Lib
theorem goE_inl {p : Pm} {f c k : Nat} : ∀ {L : List (Nat × List Bs)} {i : Nat} {e : Nat × Int}, goE p f c k i L = .inl e → e.2 ≠ 0 := by
 intro L
 induction L with
 | nil => intro i e h; cases h
 | cons a r ih =>
   intro i e h
   obtain ⟨no, ws⟩ := a
   rw [goE] at h
   by_cases h0 : rwE p f c k i ws = 0
   · rw [if_pos h0] at h
     cases hg : goE p f c k (i + 1) r with
     | inl x =>
       rw [hg] at h
       cases h
       exact ih hg
     | inr x => rw [hg] at h; cases h
   · rw [if_neg h0] at h
     cases h
     exact h0
theorem goE_rows {p : Pm} {f c k : Nat} : ∀ {L : List (Nat × List Bs)} {i : Nat} {rs : List Rw}, goE p f c k i L = .inr rs → ∀ r ∈ rs, ∃ ws j, rwE p f c k j ws = 0 ∧ r = rwV p f c ws := by
 intro L
 induction L with
 | nil => intro i rs h r hr; cases h; simp at hr
 | cons a r ih =>
   intro i rs h q hq
   obtain ⟨no, ws⟩ := a
   rw [goE] at h
   by_cases h0 : rwE p f c k i ws = 0
   · rw [if_pos h0] at h
     cases hg : goE p f c k (i + 1) r with
     | inl x => rw [hg] at h; cases h
     | inr x =>
       rw [hg] at h
       cases h
       rcases List.mem_cons.1 hq with rfl | hq
       · exact ⟨ws, i, h0, rfl⟩
       · exact ih hg q hq
   · rw [if_neg h0] at h; cases h
theorem rw_good {p : Pm} (hp : p.Ok) {f c k j : Nat} {ws : List Bs} (h : rwE p f c k j ws = 0) : amissE (c : Nat) (k : Nat) (rwV p f c ws) = false ∧ (∀ n ∈ (rwV p f c ws).t, InR n) ∧ ∀ x ∈ (rwV p f c ws).a, x < 18446744073709551616 := by
 unfold rwE at h
 split at h
 · rename_i n ns hi
   split at h
   · rename_i hc
     have hl := intsE_len hi
     rw [List.length_take, List.length_cons, hc.1] at hl
     have h0 := fst0_zero.1 h
     have ht : ∀ m ∈ ns.map (· - (f : Int)), 0 ≤ m ∧ m < 1048576 := fun m hm => by
       obtain ⟨n', hn', rfl⟩ := List.mem_map.1 hm
       have := h0 (corE f n') (List.mem_append_left _ (List.mem_map.2 ⟨n', hn', rfl⟩))
       unfold corE at this
       split at this
       · omega
       · cases this
     have ha : ∀ x ∈ (ws.drop (1 + c)).map (fun w => (p.rf w).1), Fin64 x ∧ x < 18446744073709551616 := fun x hx => by
       obtain ⟨w, hw, rfl⟩ := List.mem_map.1 hx
       exact rf_fin hp (h0 (p.rf w).2 (List.mem_append_right _ (List.mem_map.2 ⟨w, hw, rfl⟩)))
     have e1 : (rwV p f c ws).t = ns.map (· - (f : Int)) := by unfold rwV; rw [hi]; rfl
     have e2 : (rwV p f c ws).a = (ws.drop (1 + c)).map (fun w => (p.rf w).1) := rfl
     rw [amissE_no, e1, e2]
     refine ⟨⟨by simp; omega, fun m hm => ?_, by simp; omega, fun x hx => fin_endl (ha x hx).1⟩, fun m hm => ?_, fun x hx => (ha x hx).2⟩
     · have := ht m hm
       unfold strayE
       simp
       omega
     · have := ht m hm
       exact ⟨by omega, by omega⟩
   · cases h
 · cases h
theorem heP_some {ws : List Bs} {n c k : Nat} (h : heP ws = some (n, c, k)) : c = 3 ∨ c = 6 := by
 unfold heP at h
 split at h
 · split at h
   · split at h
     · rename_i hc
       cases h
       omega
     · cases h
   · cases h
 · cases h
theorem reV_parts {p : Pm} {t : Bs} (h : (reV p t).2.2 = 0) : ∃ (no : Nat) (ws : List Bs) (r : List (Nat × List Bs)) (n c k : Nat) (rs : List Rw), (rdV t).1 = (no, ws) :: r ∧ n ≤ 1048576 ∧ k ≤ 16 ∧ (c = 3 ∨ c = 6) ∧ goE p (fst1 r) c k 0 r = .inr rs ∧ r.length = n ∧ reV p t = (⟨(fst1 r : Nat), (c : Nat), (k : Nat), rs⟩, 0, 0) := by
 unfold reV at h ⊢
 by_cases h0 : (rdV t).2.2 = 0
 · rw [if_pos h0] at h ⊢
   cases hl : (rdV t).1 with
   | nil => rw [hl] at h; cases h
   | cons q r =>
     obtain ⟨no, ws⟩ := q
     rw [hl] at h
     simp only [] at h ⊢
     by_cases h1 : heE ws = 0
     · rw [if_pos h1] at h ⊢
       cases hp : heP ws with
       | none => rw [hp] at h; cases h
       | some q =>
         obtain ⟨n, c, k⟩ := q
         rw [hp] at h
         simp only [] at h ⊢
         have hb : n ≤ 1048576 ∧ k ≤ 16 := by
           unfold heE at h1
           rw [hp] at h1
           simp only [] at h1
           split at h1
           · assumption
           · cases h1
         unfold flV at h ⊢
         cases hg : goE p (fst1 r) c k 0 (r.take n) with
         | inl e =>
           rw [hg] at h
           exact absurd h (goE_inl hg)
         | inr rs =>
           rw [hg] at h
           simp only [] at h ⊢
           by_cases h2 : n < r.length
           · rw [if_pos h2] at h; cases h
           · rw [if_neg h2] at h ⊢
             by_cases h3 : r.length < n
             · rw [if_pos h3] at h; cases h
             · rw [if_neg h3]
               rw [List.take_of_length_le (by omega)] at hg
               exact ⟨no, ws, r, n, c, k, rs, rfl, hb.1, hb.2, heP_some hp, hg, by omega, rfl⟩
     · rw [if_neg h1] at h
       simp only [] at h
       exact absurd (by omega : heE ws = 0) h1
 · rw [if_neg h0] at h
   simp only [] at h
   exact absurd (by omega : (rdV t).2.2 = 0) h0
end

/- Plain: what Read tells of a text: its triangles are good and few; two readings are the same. -/
section
set_option maxRecDepth 100000
open Go.RowKit Go.Shelf Go.Lib
theorem reV_rows {p : Pm} (hp : p.Ok) (t : Bs) : ∀ r ∈ (reV p t).1.l, (∃ c k : Int, amissE c k r = false) ∧ (∀ n ∈ r.t, InR n) ∧ (∀ x ∈ r.a, x < 18446744073709551616) ∧ r.t.length ≤ 6 ∧ r.a.length ≤ 16 := by
 intro r hr
 by_cases h : (reV p t).2.2 = 0
 · obtain ⟨no, ws, L, n, c, k, rs, h1, h2, h3, h4, h5, h6, h7⟩ := reV_parts h
   rw [h7] at hr
   obtain ⟨ws', j, g1, rfl⟩ := goE_rows h5 r hr
   obtain ⟨g2, g3, g4⟩ := rw_good hp g1
   obtain ⟨a1, _, a3, _⟩ := amissE_no.1 g2
   exact ⟨⟨_, _, g2⟩, g3, g4, by omega, by omega⟩
 · rw [reV_bad h] at hr
   simp at hr
theorem reV_few {p : Pm} {t : Bs} (ht : t.length ≤ 20000) : (reV p t).1.l.length ≤ 10000 := by
 by_cases h : (reV p t).2.2 = 0
 · obtain ⟨no, ws, L, n, c, k, rs, h1, h2, h3, h4, h5, h6, h7⟩ := reV_parts h
   rw [h7]
   have := rd_len ht
   rw [h1, List.length_cons] at this
   show rs.length ≤ 10000
   rw [goE_len h5]
   omega
 · rw [reV_bad h]
   simp
theorem same_rts {rs ms : List Rt} (h : rs.map (·.1) = ms.map (·.1)) (hg : ∀ q ∈ rs, ∃ c k : Int, amissE c k q.1 = false) : rs.length = ms.length ∧ ∀ (i : Nat) (q r : Rt), rs[i]? = some q → ms[i]? = some r → q.1.t = r.1.t ∧ FEs q.1.a r.1.a := by
 refine ⟨by have := congrArg List.length h; simpa using this, fun i q r hq hr => ?_⟩
 have h1 : (rs.map (·.1))[i]? = some q.1 := by rw [List.getElem?_map, hq]; rfl
 have h2 : (ms.map (·.1))[i]? = some r.1 := by rw [List.getElem?_map, hr]; rfl
 rw [h, h2] at h1
 have e : r.1 = q.1 := by simpa using h1
 rw [e]
 refine ⟨rfl, rfl, fun j hj => ?_⟩
 obtain ⟨c, k, hm⟩ := hg q (List.mem_of_getElem? hq)
 have hx : q.1.a.getD j 0 ∈ q.1.a := by
   rw [List.getD_eq_getElem?_getD, List.getElem?_eq_getElem hj]
   exact List.getElem_mem hj
 have hf := endl_fin ((amissE_no.1 hm).2.2.2 _ hx)
 exact FE.of hf hf rfl
end

/- The laws of layer 11: of: a file made anew. (gen_ega.py) -/
section
set_option maxRecDepth 100000
open Go.RowKit Go.Shelf Go.Lib
attribute [local go_sem] run_store_float
section
variable {a : Act} {W : World} {o : Oper} {K : Act → World → Prop} {Q : Exit → Act → World → Prop} {x y : Option Addr} {n m c d : Nat}
theorem oof_fldD {t B : Nat} (ho : o.op = .fieldAddr 24 (.tmp t) 3) (hv : a.eval (.tmp t) = .pointer (some ⟨B, 0, none⟩)) (h : K (a.put o.dst (.pointer (some ⟨B, 3, none⟩))) W) : Oper.wp Tryd.prog o a W K Q := by
 unfold Oper.wp execOp
 rw [ho]
 simp only [hv]
 go_simp
 exact h
theorem oof_fldS {t B : Nat} (ho : o.op = .fieldAddr 30 (.tmp t) 3) (hv : a.eval (.tmp t) = .pointer (some ⟨B, 0, none⟩)) (h : K (a.put o.dst (.pointer (some ⟨B, 3, none⟩))) W) : Oper.wp Tryd.prog o a W K Q := by
 unfold Oper.wp execOp
 rw [ho]
 simp only [hv]
 go_simp
 exact h
theorem oof_fldT {t g f : Nat} (ho : o.op = .fieldAddr 38 (.tmp t) 0) (hv : a.eval (.tmp t) = .pointer (some ⟨g, f, none⟩)) (h : K (a.put o.dst (.pointer (some ⟨g, f, none⟩))) W) : Oper.wp Tryd.prog o a W K Q := by
 unfold Oper.wp execOp
 rw [ho]
 simp only [hv]
 go_simp
 exact h
theorem oof_fldA {t g f : Nat} (ho : o.op = .fieldAddr 38 (.tmp t) 1) (hv : a.eval (.tmp t) = .pointer (some ⟨g, f, none⟩)) (h : K (a.put o.dst (.pointer (some ⟨g, f + 1, none⟩))) W) : Oper.wp Tryd.prog o a W K Q := by
 unfold Oper.wp execOp
 rw [ho]
 simp only [hv]
 go_simp
 exact h
theorem oof_ldD {t B f : Nat} (ho : o.op = .load 22 (.tmp t)) (hv : a.eval (.tmp t) = .pointer (some ⟨B, f, none⟩)) (hc : W.cell? ⟨B, f, none⟩ = some (.slice x n c)) (h : K (a.put o.dst (.slice x n c)) W) : Oper.wp Tryd.prog o a W K Q := by
 unfold Oper.wp execOp
 rw [ho]
 simp only [hv]
 go_simp
 exact h
theorem oof_ldS {t B f : Nat} (ho : o.op = .load 28 (.tmp t)) (hv : a.eval (.tmp t) = .pointer (some ⟨B, f, none⟩)) (hc : W.cell? ⟨B, f, none⟩ = some (.slice x n c)) (h : K (a.put o.dst (.slice x n c)) W) : Oper.wp Tryd.prog o a W K Q := by
 unfold Oper.wp execOp
 rw [ho]
 simp only [hv]
 go_simp
 exact h
theorem oof_ldT {t B f : Nat} (ho : o.op = .load 35 (.tmp t)) (hv : a.eval (.tmp t) = .pointer (some ⟨B, f, none⟩)) (hc : W.cell? ⟨B, f, none⟩ = some (.slice x n c)) (h : K (a.put o.dst (.slice x n c)) W) : Oper.wp Tryd.prog o a W K Q := by
 unfold Oper.wp execOp
 rw [ho]
 simp only [hv]
 go_simp
 exact h
theorem oof_ldA {t B f : Nat} (ho : o.op = .load 36 (.tmp t)) (hv : a.eval (.tmp t) = .pointer (some ⟨B, f, none⟩)) (hc : W.cell? ⟨B, f, none⟩ = some (.slice x n c)) (h : K (a.put o.dst (.slice x n c)) W) : Oper.wp Tryd.prog o a W K Q := by
 unfold Oper.wp execOp
 rw [ho]
 simp only [hv]
 go_simp
 exact h
theorem oof_ix {t u g f i : Nat} (ho : o.op = .indexAddr 28 (.tmp t) (.tmp u)) (hv : a.eval (.tmp t) = .slice (some ⟨g, f, none⟩) n c) (hu : a.eval (.tmp u) = .int .i64 (i : Nat)) (hi : (i : Int) < (n : Int)) (hi0 : (0 : Int) ≤ (i : Int)) (h : K (a.put o.dst (.pointer (some ⟨g, f + i * 2, none⟩))) W) : Oper.wp Tryd.prog o a W K Q := by
 unfold Oper.wp execOp
 rw [ho]
 simp only [hv, hu]
 go_simp
 exact h
theorem oof_nilT (ho : o.op = .buildSlice 35 0 #[]) (h : K (a.put o.dst (.slice (some ⟨W.heap.size, 0, none⟩) 0 0)) (W.alloc (.cells #[] 3))) : Oper.wp Tryd.prog o a W K Q := by
 unfold Oper.wp execOp
 rw [ho]
 simp only [List.map_toArray, List.map_nil]
 go_simp
 exact h
theorem oof_nilA (ho : o.op = .buildSlice 36 0 #[]) (h : K (a.put o.dst (.slice (some ⟨W.heap.size, 0, none⟩) 0 0)) (W.alloc (.cells #[] 39))) : Oper.wp Tryd.prog o a W K Q := by
 unfold Oper.wp execOp
 rw [ho]
 simp only [List.map_toArray, List.map_nil]
 go_simp
 exact h
theorem oof_row {t u : Nat} (ho : o.op = .build 49 #[(0, .tmp t), (1, .tmp u)]) (hv : a.eval (.tmp t) = .slice x n c) (hu : a.eval (.tmp u) = .slice y m d) (h : K (a.put o.dst (.agg #[.slice x n c, .slice y m d])) W) : Oper.wp Tryd.prog o a W K Q := by
 unfold Oper.wp execOp
 rw [ho]
 simp only [List.map_toArray, List.map_cons, List.map_nil, hv, hu]
 go_simp
 exact h
theorem oof_one {t : Nat} (ho : o.op = .buildSlice 22 1 #[(0, .tmp t)]) (hv : a.eval (.tmp t) = .agg #[.slice x n c, .slice y m d]) (h : K (a.put o.dst (.slice (some ⟨W.heap.size, 0, none⟩) 1 1)) (W.alloc (.cells #[.slice x n c, .slice y m d] 49))) : Oper.wp Tryd.prog o a W K Q := by
 unfold Oper.wp execOp
 rw [ho]
 simp only [List.map_toArray, List.map_cons, List.map_nil, hv]
 go_simp
 exact h
end
structure Zof (w W : World) (f c k : Int) (lv gv : Value) (rs' : List Rt) : Prop where
 bel : Below w.heap.size w W
 fb : CB W w.heap.size #[.int .i64 f, .int .i64 c, .int .i64 k, lv] 30
 rb : CB W (w.heap.size + 1) fe4 24
 gb : CB W (w.heap.size + 2) #[.int .i64 f, .int .i64 c, .int .i64 k, gv] 24
 er : Eo 49 W (w.heap.size + 3) gv rs'
theorem Zof.later {w W W' : World} {f c k : Int} {lv gv : Value} {rs' : List Rt} (h : Zof w W f c k lv gv rs') (hb : Below W.heap.size W W') : Zof w W' f c k lv gv rs' := ⟨h.bel.trans (hb.mono h.bel.size), h.fb.later hb, h.rb.later hb, h.gb.later hb, h.er.later hb⟩
theorem Zof.append {w W W2 : World} {f c k : Int} {lv gv gv' : Value} {rs' : List Rt} {q : Rt} (h : Zof w W f c k lv gv rs') (hq : Co W (w.heap.size + 3) 3 q.2.1 (isV q.1.t) ∧ Co W (w.heap.size + 3) 39 q.2.2 (f64s q.1.a)) (hown : W2.ownsRow (w.heap.size + 3) 49 2 gv' (rs'.length + 1) (rcs rs' ++ [q.2.1, q.2.2])) (hg : W.grownBy W2 gv.ownBlock) :
   (W2.cell? ⟨w.heap.size + 2, 3, none⟩ = some gv ∧ W2.frozen? ⟨w.heap.size + 2, 3, none⟩ = false) ∧ Zof w (W2.setCell ⟨w.heap.size + 2, 3, none⟩ gv') f c k lv gv' (rs' ++ [q]) := by
 have cb : ∀ {b t : Nat} {cs : Array Value}, CB W b cs t → b < w.heap.size + 3 → CB W2 b cs t := fun hc hb => by
   unfold CB
   rw [hg.block _ hc.lt (fun e => by have := (h.er.own.lt _ e.symm).1; omega)]; exact hc
 have hfb := cb h.fb (by omega)
 have hrb := cb h.rb (by omega)
 have hgb := cb h.gb (by omega)
 have her := h.er.grew (by decide) (by decide) hq hown hg
 have ho := Ob.set (w.heap.size + 2) 3 W2 gv'
 have hb2 : Below w.heap.size w W2 := h.bel.grown hg h.bel.size (fun b hb => by have := (h.er.own.lt b hb).1; omega)
 exact ⟨⟨hgb.cell 3 (by simp), hgb.frozen 3⟩, hb2.setCell (by show w.heap.size ≤ w.heap.size + 2; omega) _, hfb.other (by omega) _, hrb.other (by omega) _, by have := hgb.set 3 gv'; simpa using this, her.ob ho (by omega)⟩
def Fof (Bf Bg B3 : Nat) (ga : Option Addr) (gn gc : Nat) (g off N nc i : Nat) (ta : Option Addr) (tl tc : Nat) (aa : Option Addr) (al ac : Nat) (ts : List Int) (ls : List Nat) (j : Nat) (v : Value) (W : World) : Prop := match j with
 | 0 => v = .pointer (some ⟨Bg, 3, none⟩)
 | 1 => v = .slice ga gn gc
 | 2 => (∃ b, v = .slice (some ⟨b, 0, none⟩) 0 0) ∧ W.ownsRow B3 3 1 v 0 []
 | 3 => v = .pointer (some ⟨Bf, 3, none⟩)
 | 4 => v = .slice (some ⟨g, off, none⟩) N nc
 | 5 => v = .int .i64 (i : Nat)
 | 6 => v = .pointer (some ⟨g, off + i * 2, none⟩)
 | 7 => v = .pointer (some ⟨g, off + i * 2, none⟩)
 | 8 => v = .slice ta tl tc
 | 9 => W.ownsRow B3 3 1 v tl (isV ts)
 | 10 => (∃ b, v = .slice (some ⟨b, 0, none⟩) 0 0) ∧ W.ownsRow B3 39 1 v 0 []
 | 11 => v = .pointer (some ⟨Bf, 3, none⟩)
 | 12 => v = .slice (some ⟨g, off, none⟩) N nc
 | 13 => v = .int .i64 (i : Nat)
 | 14 => v = .pointer (some ⟨g, off + i * 2, none⟩)
 | 15 => v = .pointer (some ⟨g, off + i * 2 + 1, none⟩)
 | 16 => v = .slice aa al ac
 | 17 => W.ownsRow B3 39 1 v al (f64s ls)
 | 18 => ∃ tv av, v = .agg #[tv, av] ∧ W.ownsRow B3 3 1 tv tl (isV ts) ∧ W.ownsRow B3 39 1 av al (f64s ls)
 | 19 => ∃ b tv av, v = .slice (some ⟨b, 0, none⟩) 1 1 ∧ CB W b #[tv, av] 49 ∧ W.ownsRow B3 3 1 tv tl (isV ts) ∧ W.ownsRow B3 39 1 av al (f64s ls)
 | _ => True
theorem Fof_stab {Bf Bg B3 : Nat} {ga : Option Addr} {gn gc : Nat} {g off N nc i : Nat} {ta : Option Addr} {tl tc : Nat} {aa : Option Addr} {al ac : Nat} {ts : List Int} {ls : List Nat} : ∀ j v w w', Fof Bf Bg B3 ga gn gc g off N nc i ta tl tc aa al ac ts ls j v w → Below w.heap.size w w' → Fof Bf Bg B3 ga gn gc g off N nc i ta tl tc aa al ac ts ls j v w' := by
 intro j v w w' h hb
 by_cases hj : j < 20
 · have hc : j = 0 ∨ j = 1 ∨ j = 2 ∨ j = 3 ∨ j = 4 ∨ j = 5 ∨ j = 6 ∨ j = 7 ∨ j = 8 ∨ j = 9 ∨ j = 10 ∨ j = 11 ∨ j = 12 ∨ j = 13 ∨ j = 14 ∨ j = 15 ∨ j = 16 ∨ j = 17 ∨ j = 18 ∨ j = 19 := by omega
   rcases hc with rfl | rfl | rfl | rfl | rfl | rfl | rfl | rfl | rfl | rfl | rfl | rfl | rfl | rfl | rfl | rfl | rfl | rfl | rfl | rfl
   · exact h
   · exact h
   · exact ⟨h.1, own_later h.2 hb⟩
   · exact h
   · exact h
   · exact h
   · exact h
   · exact h
   · exact h
   · exact own_later (show w.ownsRow B3 3 1 v tl (isV ts) from h) hb
   · exact ⟨h.1, own_later h.2 hb⟩
   · exact h
   · exact h
   · exact h
   · exact h
   · exact h
   · exact h
   · exact own_later (show w.ownsRow B3 39 1 v al (f64s ls) from h) hb
   · obtain ⟨tv, av, h1, h2, h3⟩ := h
     exact ⟨tv, av, h1, own_later h2 hb, own_later h3 hb⟩
   · obtain ⟨b, tv, av, h1, h2, h3, h4⟩ := h
     exact ⟨b, tv, av, h1, h2.later hb, own_later h3 hb, own_later h4 hb⟩
 · have e : ∀ j, ¬ j < 20 → ∀ v W, Fof Bf Bg B3 ga gn gc g off N nc i ta tl tc aa al ac ts ls j v W := fun j hj v W => by
     unfold Fof
     split <;> first | trivial | omega
   exact e j hj v w'
end

/- The laws of layer 11: of: a file made anew: the walk. (gen_ega.py) -/
section
set_option maxRecDepth 100000
open Go.RowKit Go.Shelf Go.Lib
attribute [local go_sem] run_store_float
theorem res_of (W : World) (B : Nat) (a b c d : Value) (tmps : Array Value) (h : CB W B #[a, b, c, d] 24)
   (t2 : tmps[2]? = some (.pointer (some ⟨B, 0, none⟩))) : (results Tryd.f7 tmps).run Tryd.prog W = .ok (.agg #[a, b, c, d]) W := by
 have c0 := h.cell 0 (by simp)
 have c1 := h.cell 1 (by simp)
 have c2 := h.cell 2 (by simp)
 have c3 := h.cell 3 (by simp)
 simp [results, Tryd.f7, go_sem, c0, c1, c2, c3, t2]
theorem j20_of (j : Nat) (hj : j < 20) : j = 0 ∨ j = 1 ∨ j = 2 ∨ j = 3 ∨ j = 4 ∨ j = 5 ∨ j = 6 ∨ j = 7 ∨ j = 8 ∨ j = 9 ∨ j = 10 ∨ j = 11 ∨ j = 12 ∨ j = 13 ∨ j = 14 ∨ j = 15 ∨ j = 16 ∨ j = 17 ∨ j = 18 ∨ j = 19 := by omega
set_option maxHeartbeats 16000000 in
theorem of11_any (f c k : Int) (v : Value) (rs : List Rt) (w : World) (hv : Rv w v rs) (hn : rs.length ≤ 100000) (hl : ∀ q ∈ rs, q.1.t.length ≤ 1000000 ∧ q.1.a.length ≤ 1000000) :
   Calls Tryd.prog 7 #[.agg #[.int .i64 f, .int .i64 c, .int .i64 k, v]] w fun e w' => ∃ a cap rs', e = .returned (.agg #[.int .i64 f, .int .i64 c, .int .i64 k, .slice a rs'.length cap]) ∧ Eo 49 w' w.heap.size (.slice a rs'.length cap) rs' ∧ rs'.map (·.1) = rs.map (·.1) ∧ Below w.heap.size w w' := by
 have HV := Lib.hid hv
 have HLn := Lib.hid hl
 obtain ⟨va, nc, rfl, h1, h2, h3⟩ := hv.form
 obtain ⟨N, hN⟩ : ∃ N, Hid (rs.length = N) := ⟨_, Lib.hid rfl⟩
 rw [hN.out] at h1 hn ⊢
 have HM := Lib.hid h3
 obtain ⟨j0, hj0, hj1, hj2, hj3⟩ := info_parts (show (Tryd.prog.info? 3).map (fun i => (i.zero, i.size, i.bytes)) = some (some (.int .i64 0), 1, 8) by kernel_rfl)
 obtain ⟨f0, hf0, hf1, hf2, hf3⟩ := info_parts (show (Tryd.prog.info? 39).map (fun i => (i.zero, i.size, i.bytes)) = some (some (.float .f64 0), 1, 8) by kernel_rfl)
 obtain ⟨i0, hi0, hz0, hz1, hz2⟩ := info_parts (show (Tryd.prog.info? 49).map (fun i => (i.zero, i.size, i.bytes)) = some (some (.agg rw2), 2, 48) by kernel_rfl)
 obtain ⟨W3, hW3⟩ : ∃ W3, Hid (((w.alloc (.cells #[.int .i64 f, .int .i64 c, .int .i64 k, .slice va N nc] 30)).alloc (.cells fe4 24)).alloc (.cells #[.int .i64 f, .int .i64 c, .int .i64 k, .slice none 0 0] 24) = W3) := ⟨_, Lib.hid rfl⟩
 have HZ : Hid (Zof w W3 f c k (.slice va N nc) (.slice none 0 0) []) := Lib.hid (by
   rw [← hW3.out]
   have c1 := CB.new w #[.int .i64 f, .int .i64 c, .int .i64 k, .slice va N nc] 30
   have c2 := CB.new (w.alloc (.cells #[.int .i64 f, .int .i64 c, .int .i64 k, .slice va N nc] 30)) fe4 24
   have c3 := CB.new ((w.alloc (.cells #[.int .i64 f, .int .i64 c, .int .i64 k, .slice va N nc] 30)).alloc (.cells fe4 24)) #[.int .i64 f, .int .i64 c, .int .i64 k, .slice none 0 0] 24
   rw [World.size_alloc] at c2 c3
   rw [World.size_alloc] at c3
   exact ⟨(((Below.refl _ w).alloc (Nat.le_refl _) _).alloc (by simp) _).alloc (by simp; omega) _, (c1.later (bAlE _ _)).later (bAlE _ _), c2.later (bAlE _ _), c3, Eo.nil _ _ _⟩)
 have hN' : (N : Int) ≤ 100000 := by omega
 clear hv hl h3
 go_enter Tryd.func7, Tryd.ntmps7
 go_wp2_with fail
 rw [hW3.out]
 clear hW3
 go_loopw [4] (fun s4 wr => ∃ (i : Nat) (gv : Value) (rs' : List Rt), s4 = .int .i64 (i : Nat) ∧ i ≤ N ∧ Hid (Zof w wr f c k (.slice va N nc) gv rs' ∧ rs'.map (·.1) = (rs.map (·.1)).take i ∧ rs'.length = i)) (fun s4 _ => N - (RowKit.intOf s4).toNat)
 case atStart => exact ⟨0, _, [], rfl, by omega, HZ.out, by simp, rfl⟩
 case round =>
   clear HZ
   obtain ⟨i, gv, rs', rfl, hi, hI⟩ := hrel
   have HZr := Lib.hid hI.out.1
   have HTk := Lib.hid hI.out.2.1
   have HLi := Lib.hid hI.out.2.2
   clear hI
   have k3 := HZr.out.fb.cell 3 (by simp)
   by_cases hlt : i < N
   · have hi1 : (i : Int) < (N : Int) := by omega
     have hi2 : (0 : Int) ≤ (i : Int) := by omega
     obtain ⟨q, hq⟩ : ∃ q, Hid (rs[i]? = some q) := ⟨_, Lib.hid (List.getElem?_eq_getElem (by rw [hN.out]; exact hlt))⟩
     have hqm := List.mem_of_getElem? hq.out
     obtain ⟨g, off, hga, hg, hcell⟩ := HM.out.resolve_left (fun e => by rw [e] at hqm; simp at hqm)
     subst hga
     obtain ⟨x0, x1⟩ := hcell i q hq.out
     obtain ⟨his, hfs⟩ := HV.out.sub q hqm
     have hql := HLn.out q hqm
     obtain ⟨⟨ts, ls⟩, tv, av⟩ := q
     try dsimp only at x0 x1 his hfs hql
     obtain ⟨ta, tc, rfl, _⟩ := his.form
     obtain ⟨aa, ac, rfl, _⟩ := hfs.form
     obtain ⟨tl, HTl⟩ : ∃ tl, Hid (ts.length = tl) := ⟨_, Lib.hid rfl⟩
     obtain ⟨al, HAl⟩ : ∃ al, Hid (ls.length = al) := ⟨_, Lib.hid rfl⟩
     rw [HTl.out] at x0 his hql
     rw [HAl.out] at x1 hfs hql
     have htl := hql.1
     have hal := hql.2
     have HX : Hid (∀ W, Below w.heap.size w W → W.cell? ⟨g, off + i * 2, none⟩ = some (.slice ta tl tc) ∧ W.cell? ⟨g, off + i * 2 + 1, none⟩ = some (.slice aa al ac) ∧ Is W (.slice ta tl tc) ts ∧ Fs W (.slice aa al ac) ls) := Lib.hid (fun W hW => ⟨cell_later hW hg x0, cell_later hW hg x1, his.later hW, hfs.later hW⟩)
     obtain ⟨ga, gc, hgv⟩ := own_sliceE HZr.out.er.own
     subst hgv
     clear hcell hqm x0 x1 his hfs hql
     go_wp2_with fail
     clear k3
     refine region_facts2 19 20 23 (fun W => Zof w W f c k (.slice (some ⟨g, off, none⟩) N nc) (.slice ga rs'.length gc) rs') (Fof (w.heap.size) (w.heap.size + 2) (w.heap.size + 3) ga rs'.length gc g off N nc i ta tl tc aa al ac ts ls) (by kernel_rfl) (by kernel_rfl) (by omega) (by kernel_rfl) (Nat.le_of_ble_eq_true (by kernel_rfl)) (HZr.out.later (Below.refl _ _).drew) Fof_stab ?_ ?_
     focus
       · intro Q' j o hj ho a W hG hout hd
         have hc := j20_of j hj
         clear hj
         rcases hc with rfl | rfl | rfl | rfl | rfl | rfl | rfl | rfl | rfl | rfl | rfl | rfl | rfl | rfl | rfl | rfl | rfl | rfl | rfl | rfl
         · replace ho := Option.some.inj (Eq.trans (Eq.symm ho) rfl)
           subst ho
           refine oof_fldD rfl ((hout 3 (by omega)).trans rfl) ⟨_, rfl, hG, Below.refl _ _, rfl⟩
         · replace ho := Option.some.inj (Eq.trans (Eq.symm ho) rfl)
           subst ho
           have d0 : Fof (w.heap.size) (w.heap.size + 2) (w.heap.size + 3) ga rs'.length gc g off N nc i ta tl tc aa al ac ts ls 0 (a.eval (.tmp 19)) W := hd ⟨0, .data⟩ (by simp) rfl
           refine oof_ldD rfl d0 (hG.gb.cell 3 (by simp)) ⟨_, rfl, hG, Below.refl _ _, rfl⟩
         · replace ho := Option.some.inj (Eq.trans (Eq.symm ho) rfl)
           subst ho
           refine oof_nilT rfl ⟨_, rfl, hG.later (bAlE _ _), bAlE _ _, ⟨_, rfl⟩, makeE (by have := hG.gb.lt; omega)⟩
         · replace ho := Option.some.inj (Eq.trans (Eq.symm ho) rfl)
           subst ho
           refine oof_fldS rfl ((hout 1 (by omega)).trans rfl) ⟨_, rfl, hG, Below.refl _ _, rfl⟩
         · replace ho := Option.some.inj (Eq.trans (Eq.symm ho) rfl)
           subst ho
           have d3 : Fof (w.heap.size) (w.heap.size + 2) (w.heap.size + 3) ga rs'.length gc g off N nc i ta tl tc aa al ac ts ls 3 (a.eval (.tmp 22)) W := hd ⟨3, .data⟩ (by simp) rfl
           refine oof_ldS rfl d3 (hG.fb.cell 3 (by simp)) ⟨_, rfl, hG, Below.refl _ _, rfl⟩
         · replace ho := Option.some.inj (Eq.trans (Eq.symm ho) rfl)
           subst ho
           refine op_mv rfl ⟨_, rfl, hG, Below.refl _ _, (hout 4 (by omega)).trans rfl⟩
         · replace ho := Option.some.inj (Eq.trans (Eq.symm ho) rfl)
           subst ho
           have d4 : Fof (w.heap.size) (w.heap.size + 2) (w.heap.size + 3) ga rs'.length gc g off N nc i ta tl tc aa al ac ts ls 4 (a.eval (.tmp 23)) W := hd ⟨4, .data⟩ (by simp) rfl
           have d5 : Fof (w.heap.size) (w.heap.size + 2) (w.heap.size + 3) ga rs'.length gc g off N nc i ta tl tc aa al ac ts ls 5 (a.eval (.tmp 24)) W := hd ⟨5, .data⟩ (by simp) rfl
           refine oof_ix rfl d4 d5 hi1 hi2 ⟨_, rfl, hG, Below.refl _ _, rfl⟩
         · replace ho := Option.some.inj (Eq.trans (Eq.symm ho) rfl)
           subst ho
           have d6 : Fof (w.heap.size) (w.heap.size + 2) (w.heap.size + 3) ga rs'.length gc g off N nc i ta tl tc aa al ac ts ls 6 (a.eval (.tmp 25)) W := hd ⟨6, .data⟩ (by simp) rfl
           refine oof_fldT rfl d6 ⟨_, rfl, hG, Below.refl _ _, rfl⟩
         · replace ho := Option.some.inj (Eq.trans (Eq.symm ho) rfl)
           subst ho
           have d7 : Fof (w.heap.size) (w.heap.size + 2) (w.heap.size + 3) ga rs'.length gc g off N nc i ta tl tc aa al ac ts ls 7 (a.eval (.tmp 26)) W := hd ⟨7, .data⟩ (by simp) rfl
           refine oof_ldT rfl d7 (HX.out W hG.bel).1 ⟨_, rfl, hG, Below.refl _ _, rfl⟩
         · replace ho := Option.some.inj (Eq.trans (Eq.symm ho) rfl)
           subst ho
           have d2 : Fof (w.heap.size) (w.heap.size + 2) (w.heap.size + 3) ga rs'.length gc g off N nc i ta tl tc aa al ac ts ls 2 (a.eval (.tmp 21)) W := hd ⟨2, .data⟩ (by simp) rfl
           have d8 : Fof (w.heap.size) (w.heap.size + 2) (w.heap.size + 3) ga rs'.length gc g off N nc i ta tl tc aa al ac ts ls 8 (a.eval (.tmp 27)) W := hd ⟨8, .data⟩ (by simp) rfl
           obtain ⟨⟨b, e2⟩, o2⟩ := d2
           refine op_copy Tryd.underlying35 hj0 hj1 hj2 hj3 (by decide) rfl e2 d8 (src_ints (HX.out W hG.bel).2.2.1) htl ?_ ?_
           · intro h0
             refine ⟨_, rfl, hG, Below.refl _ _, ?_⟩
             rw [e2] at o2
             show W.ownsRow _ 3 1 _ tl (isV ts)
             have hts : ts = [] := List.length_eq_zero_iff.1 (by rw [HTl.out]; exact h0)
             rw [h0, hts]
             exact o2
           · intro _ v' W' hown hb
             exact ⟨_, rfl, hG.later hb, hb, own_base hown (by have := hG.gb.lt; omega)⟩
         · replace ho := Option.some.inj (Eq.trans (Eq.symm ho) rfl)
           subst ho
           refine oof_nilA rfl ⟨_, rfl, hG.later (bAlE _ _), bAlE _ _, ⟨_, rfl⟩, makeE (by have := hG.gb.lt; omega)⟩
         · replace ho := Option.some.inj (Eq.trans (Eq.symm ho) rfl)
           subst ho
           refine oof_fldS rfl ((hout 1 (by omega)).trans rfl) ⟨_, rfl, hG, Below.refl _ _, rfl⟩
         · replace ho := Option.some.inj (Eq.trans (Eq.symm ho) rfl)
           subst ho
           have d11 : Fof (w.heap.size) (w.heap.size + 2) (w.heap.size + 3) ga rs'.length gc g off N nc i ta tl tc aa al ac ts ls 11 (a.eval (.tmp 30)) W := hd ⟨11, .data⟩ (by simp) rfl
           refine oof_ldS rfl d11 (hG.fb.cell 3 (by simp)) ⟨_, rfl, hG, Below.refl _ _, rfl⟩
         · replace ho := Option.some.inj (Eq.trans (Eq.symm ho) rfl)
           subst ho
           refine op_mv rfl ⟨_, rfl, hG, Below.refl _ _, (hout 4 (by omega)).trans rfl⟩
         · replace ho := Option.some.inj (Eq.trans (Eq.symm ho) rfl)
           subst ho
           have d12 : Fof (w.heap.size) (w.heap.size + 2) (w.heap.size + 3) ga rs'.length gc g off N nc i ta tl tc aa al ac ts ls 12 (a.eval (.tmp 31)) W := hd ⟨12, .data⟩ (by simp) rfl
           have d13 : Fof (w.heap.size) (w.heap.size + 2) (w.heap.size + 3) ga rs'.length gc g off N nc i ta tl tc aa al ac ts ls 13 (a.eval (.tmp 32)) W := hd ⟨13, .data⟩ (by simp) rfl
           refine oof_ix rfl d12 d13 hi1 hi2 ⟨_, rfl, hG, Below.refl _ _, rfl⟩
         · replace ho := Option.some.inj (Eq.trans (Eq.symm ho) rfl)
           subst ho
           have d14 : Fof (w.heap.size) (w.heap.size + 2) (w.heap.size + 3) ga rs'.length gc g off N nc i ta tl tc aa al ac ts ls 14 (a.eval (.tmp 33)) W := hd ⟨14, .data⟩ (by simp) rfl
           refine oof_fldA rfl d14 ⟨_, rfl, hG, Below.refl _ _, rfl⟩
         · replace ho := Option.some.inj (Eq.trans (Eq.symm ho) rfl)
           subst ho
           have d15 : Fof (w.heap.size) (w.heap.size + 2) (w.heap.size + 3) ga rs'.length gc g off N nc i ta tl tc aa al ac ts ls 15 (a.eval (.tmp 34)) W := hd ⟨15, .data⟩ (by simp) rfl
           refine oof_ldA rfl d15 (HX.out W hG.bel).2.1 ⟨_, rfl, hG, Below.refl _ _, rfl⟩
         · replace ho := Option.some.inj (Eq.trans (Eq.symm ho) rfl)
           subst ho
           have d10 : Fof (w.heap.size) (w.heap.size + 2) (w.heap.size + 3) ga rs'.length gc g off N nc i ta tl tc aa al ac ts ls 10 (a.eval (.tmp 29)) W := hd ⟨10, .data⟩ (by simp) rfl
           have d16 : Fof (w.heap.size) (w.heap.size + 2) (w.heap.size + 3) ga rs'.length gc g off N nc i ta tl tc aa al ac ts ls 16 (a.eval (.tmp 35)) W := hd ⟨16, .data⟩ (by simp) rfl
           obtain ⟨⟨b, e2⟩, o2⟩ := d10
           refine op_copy Tryd.underlying36 hf0 hf1 hf2 hf3 (by decide) rfl e2 d16 (src_floats (HX.out W hG.bel).2.2.2) hal ?_ ?_
           · intro h0
             refine ⟨_, rfl, hG, Below.refl _ _, ?_⟩
             rw [e2] at o2
             show W.ownsRow _ 39 1 _ al (f64s ls)
             have hts : ls = [] := List.length_eq_zero_iff.1 (by rw [HAl.out]; exact h0)
             rw [h0, hts]
             exact o2
           · intro _ v' W' hown hb
             exact ⟨_, rfl, hG.later hb, hb, own_base hown (by have := hG.gb.lt; omega)⟩
         · replace ho := Option.some.inj (Eq.trans (Eq.symm ho) rfl)
           subst ho
           have d9 : Fof (w.heap.size) (w.heap.size + 2) (w.heap.size + 3) ga rs'.length gc g off N nc i ta tl tc aa al ac ts ls 9 (a.eval (.tmp 28)) W := hd ⟨9, .data⟩ (by simp) rfl
           have d17 : Fof (w.heap.size) (w.heap.size + 2) (w.heap.size + 3) ga rs'.length gc g off N nc i ta tl tc aa al ac ts ls 17 (a.eval (.tmp 36)) W := hd ⟨17, .data⟩ (by simp) rfl
           obtain ⟨t1, t2, e9⟩ := own_sliceE (show W.ownsRow (w.heap.size + 3) 3 1 _ tl (isV ts) from d9)
           obtain ⟨t3, t4, e17⟩ := own_sliceE (show W.ownsRow (w.heap.size + 3) 39 1 _ al (f64s ls) from d17)
           refine oof_row rfl e9 e17 ⟨_, rfl, hG, Below.refl _ _, _, _, rfl, by rw [← e9]; exact d9, by rw [← e17]; exact d17⟩
         · replace ho := Option.some.inj (Eq.trans (Eq.symm ho) rfl)
           subst ho
           have d18 : Fof (w.heap.size) (w.heap.size + 2) (w.heap.size + 3) ga rs'.length gc g off N nc i ta tl tc aa al ac ts ls 18 (a.eval (.tmp 37)) W := hd ⟨18, .data⟩ (by simp) rfl
           obtain ⟨tv, av, e, ht, ha⟩ := d18
           obtain ⟨t1, t2, rfl⟩ := own_sliceE ht
           obtain ⟨t3, t4, rfl⟩ := own_sliceE ha
           refine oof_one rfl e ⟨_, rfl, hG.later (bAlE _ _), bAlE _ _, W.heap.size, _, _, rfl, CB.new W _ _, own_later ht (bAlE _ _), own_later ha (bAlE _ _)⟩
     · intro vs W hG hF
       have e1 : vs 1 = .slice ga rs'.length gc := hF 1 (by omega)
       obtain ⟨b, tv, av, e19, hcb, hot, hoa⟩ : ∃ b tv av, vs 19 = .slice (some ⟨b, 0, none⟩) 1 1 ∧ CB W b #[tv, av] 49 ∧ W.ownsRow (w.heap.size + 3) 3 1 tv tl (isV ts) ∧ W.ownsRow (w.heap.size + 3) 39 1 av al (f64s ls) := hF 19 (by omega)
       have hnews : ∀ j u, [tv, av][j]? = some u → W.cell? ((⟨b, 0, none⟩ : Addr).add j) = some u := World.news_of_block (cs := #[tv, av]) (t := 49) (fr := (0, 0)) hcb
       obtain ⟨t1, t2, rfl⟩ := own_sliceE hot
       obtain ⟨t3, t4, rfl⟩ := own_sliceE hoa
       have HG := Lib.hid hG
       have HCo := Lib.hid (And.intro (Co.own hot) (Co.own hoa))
       have hlen : rs'.length ≤ 100000 := by have := HLi.out; omega
       clear hF hot hoa hG HZr
       generalize hA : actF _ 19 20 (fun _ => true) vs = A
       simp only [actF, fillL, Nat.reduceAdd, Nat.reduceSub, Nat.reduceLeDiff, Nat.reduceLT, if_true, if_false, and_true, and_false, and_self, e1, e19] at hA
       subst hA
       clear e1 e19
       refine wpAny_of_held (S := fun _ => True) _ _ _ _ ?_
       refine call_at (fuel := 2) 20 (by kernel_rfl) (by kernel_rfl) ?_
       intro o ho
       replace ho := Option.some.inj (Eq.trans (Eq.symm ho) rfl)
       subst ho
       intro KF hK
       rw [if_pos (by rfl)]
       refine wp_append_own _ _ _ rfl (w.heap.size + 3) 49 i0 (.agg rw2) 2 48 Tryd.underlying22 hi0 hz0 hz1 hz2 rfl (by omega) (.slice ga rs'.length gc) rs'.length (rcs rs') rfl HG.out.er.own ⟨b, 0, none⟩ 1 1 [.slice t1 tl t2, .slice t3 al t4] rfl rfl hnews (by simp [Value.oneCell']) (by unfold maxLen; omega) (by omega) (by have := HG.out.gb.lt; omega) ?_
       intro v3 W5 hown hgrow
       obtain ⟨va3, vc3, rfl⟩ := own_sliceE hown
       obtain ⟨⟨s1, s2⟩, hz5⟩ := HG.out.append (q := (⟨ts, ls⟩, .slice t1 tl t2, .slice t3 al t4)) HCo.out hown hgrow
       have HZ5 := Lib.hid hz5
       clear hz5 hown hgrow
       refine hK.out _ _ trivial ?_
       intro _
       clear hK KF
       try simp only [Act.put, List.setIfInBounds_toArray]
       refine call_at (fuel := 1) 21 (by kernel_rfl) (by kernel_rfl) ?_
       intro o ho
       replace ho := Option.some.inj (Eq.trans (Eq.symm ho) rfl)
       subst ho
       intro KF hK
       go_simp
       refine hK.out _ _ trivial ?_
       intro _
       clear hK KF
       try simp only [Act.put, List.setIfInBounds_toArray]
       refine call_at (fuel := 0) 22 (by kernel_rfl) (by kernel_rfl) ?_
       intro o ho
       replace ho := Option.some.inj (Eq.trans (Eq.symm ho) rfl)
       subst ho
       intro KF hK
       go_simp
       refine hK.out _ _ trivial ?_
       intro _
       clear hK KF
       try simp only [Act.put, List.setIfInBounds_toArray]
       refine wpAnyH_done (by kernel_rfl) ?_ _
       have HNx : Hid ((rs' ++ [((⟨ts, ls⟩ : Rw), Value.slice t1 tl t2, Value.slice t3 al t4)]).map (·.1) = (rs.map (·.1)).take (i + 1)) := Lib.hid (by
         have hd : (rs.map (·.1))[i]? = some (⟨ts, ls⟩ : Rw) := by rw [List.getElem?_map, hq.out]; rfl
         obtain ⟨g1, g2⟩ := List.getElem?_eq_some_iff.1 hd
         rw [List.take_succ_eq_append_getElem g1, g2, List.map_append, HTk.out]
         rfl)
       go_wp2
       exact ⟨⟨i + 1, _, rs' ++ [(⟨ts, ls⟩, .slice t1 tl t2, .slice t3 al t4)], by go_num, by omega, HZ5.out, HNx.out, by rw [List.length_append, HLi.out]; rfl⟩, by simp [RowKit.intOf]; omega⟩
   · obtain rfl : N = i := by omega
     obtain ⟨ga, gc, hgv⟩ := own_sliceE HZr.out.er.own
     subst hgv
     obtain ⟨m0, m1, m2, m3⟩ := HZr.out.gb.cells4E
     obtain ⟨n0, n1, n2, n3⟩ := HZr.out.rb.cells4E
     have u0 := HZr.out.rb.frozen 0
     have u1 := HZr.out.rb.frozen 1
     have u2 := HZr.out.rb.frozen 2
     have u3 := HZr.out.rb.frozen 3
     go_wp2
     refine bodyPost_ret (res_of _ (w.heap.size + 1) _ _ _ _ _ (set4E HZr.out.rb _ _ _ _) rfl) rfl ?_
     have ho := ((((Ob.set (w.heap.size + 1) 0 wr (.int .i64 f)).trans (Ob.set (w.heap.size + 1) 1 _ (.int .i64 c))).trans (Ob.set (w.heap.size + 1) 2 _ (.int .i64 k))).trans (Ob.set (w.heap.size + 1) 3 _ (.slice ga rs'.length gc)))
     refine ⟨ga, gc, rs', rfl, (HZr.out.er.ob ho (by omega)).base (by omega), ?_, ?_⟩
     · rw [HTk.out, List.take_of_length_le (by simp [hN.out])]
     · exact (((HZr.out.bel.setCell (p := ⟨w.heap.size + 1, 0, none⟩) (by show w.heap.size ≤ w.heap.size + 1; omega) _).setCell (p := ⟨w.heap.size + 1, 1, none⟩) (by show w.heap.size ≤ w.heap.size + 1; omega) _).setCell (p := ⟨w.heap.size + 1, 2, none⟩) (by show w.heap.size ≤ w.heap.size + 1; omega) _).setCell (p := ⟨w.heap.size + 1, 3, none⟩) (by show w.heap.size ≤ w.heap.size + 1; omega) _
end

/- The laws of layer 11: large, Floats. -/
section
set_option maxRecDepth 100000
open Go.RowKit Go.Shelf Go.Lib
attribute [local go_sem] run_store_float
set_option maxHeartbeats 4000000 in
theorem floats11_any (v u : Value) (xs ys : List Nat) (w : World) (ha : Fs w v xs) (hb : Fs w u ys) (hs : FEs xs ys) (hl : xs.length ≤ 1000000) :
   Calls Tryd.prog 14 #[v, u] w fun e w' => e = .returned (.bool true) ∧ Below w.heap.size w w' := by
 obtain ⟨hlen, hat⟩ := hs
 obtain ⟨⟨aa, ac, rfl, ha1, ha2, ha3⟩, _⟩ := ha
 obtain ⟨⟨ba, bc, rfl, hb1, hb2, hb3⟩, _⟩ := hb
 rw [← hlen] at hb1 hb3 ⊢
 obtain ⟨N, hN⟩ : ∃ N, Hid (xs.length = N) := ⟨_, Lib.hid rfl⟩
 rw [hN.out] at hl ⊢
 have hl' : (N : Int) ≤ 1000000 := by omega
 have Hlen := Lib.hid hlen
 have HAt := Lib.hid hat
 have HA3 := Lib.hid ha3
 have HB3 := Lib.hid hb3
 clear hat ha3 hb3 hlen ha1 hb1 ha2 hb2
 go_enter Tryd.func14, Tryd.ntmps14
 go_wp2_with fail
 go_loopw [5] (fun s5 wr => ∃ i : Nat, s5 = .int .i64 (i : Nat) ∧ i ≤ N ∧ Hid (Below w.heap.size w wr)) (fun s5 _ => N - (RowKit.intOf s5).toNat)
 case atStart => exact ⟨0, rfl, by omega, Lib.hid (Below.refl _ w)⟩
 case round =>
   obtain ⟨i, rfl, hi1, hBr⟩ := hrel
   by_cases hlt : i < N
   · have hlt' : (i : Int) < (N : Int) := by omega
     have hi0 : (0 : Int) ≤ (i : Int) := by omega
     have hqi : i < xs.length := by rw [hN.out]; exact hlt
     have hri : i < ys.length := by rw [← Hlen.out]; exact hqi
     obtain ⟨g, off, rfl, hca⟩ := HA3.out.resolve_left (fun e => by rw [e] at hqi; simp at hqi)
     obtain ⟨g2, off2, rfl, hcb⟩ := HB3.out.resolve_left (fun e => by rw [e] at hri; simp at hri)
     obtain ⟨W4, hW4⟩ : ∃ W4, wr.drew = W4 := ⟨_, rfl⟩
     have b4 : Below w.heap.size w W4 := by rw [← hW4]; exact hBr.out.drew
     have x0 := box_cell b4 (hca i hqi)
     have x1 := box_cell b4 (hcb i hqi)
     have hfe := HAt.out i hqi
     unfold FE at hfe
     generalize xs.getD i 0 = u at *
     generalize ys.getD i 0 = u2 at *
     have H4 := Lib.hid b4
     clear hca hcb HA3 HB3 HAt hqi hri b4
     go_wp2_with fail
     go_region
     all_goals
       go_wp2
       exact ⟨⟨i + 1, by go_num, by omega, H4⟩, by simp [RowKit.intOf]; omega⟩
   · obtain rfl : N = i := by omega
     go_wp2
     go_ret
     exact ⟨rfl, hBr.out⟩
end

/- The laws of layer 11: Same. -/
section
set_option maxRecDepth 100000
open Go.RowKit Go.Shelf Go.Lib
attribute [local go_sem] run_store_float
structure Sm11 (w W : World) (f c k : Int) (u v : Value) : Prop where
 bel : Below w.heap.size w W
 ba : CB W w.heap.size #[.int .i64 f, .int .i64 c, .int .i64 k, u] 24
 bb : CB W (w.heap.size + 1) #[.int .i64 f, .int .i64 c, .int .i64 k, v] 24
theorem Sm11.later {w W W' : World} {f c k : Int} {u v : Value} (h : Sm11 w W f c k u v) (hb : Below W.heap.size W W') : Sm11 w W' f c k u v := ⟨h.bel.trans (hb.mono h.bel.size), h.ba.later hb, h.bb.later hb⟩
set_option maxHeartbeats 8000000 in
theorem same11_any (f c k : Int) (v u : Value) (rs ms : List Rt) (w : World) (hv : Rv w v rs) (hu : Rv w u ms) (hlen : rs.length = ms.length) (hs : ∀ (i : Nat) (q r : Rt), rs[i]? = some q → ms[i]? = some r → q.1.t = r.1.t ∧ FEs q.1.a r.1.a) (hn : rs.length ≤ 1000000) (hl : ∀ q ∈ rs, q.1.t.length ≤ 1000000 ∧ q.1.a.length ≤ 1000000) :
   Calls Tryd.prog 6 #[.agg #[.int .i64 f, .int .i64 c, .int .i64 k, v], .agg #[.int .i64 f, .int .i64 c, .int .i64 k, u]] w fun e w' => e = .returned (.bool true) ∧ Below w.heap.size w w' := by
 obtain ⟨va, vc, rfl, v1, v2, v3⟩ := hv.form
 obtain ⟨ua, uc, rfl, u1, u2, u3⟩ := hu.form
 rw [← hlen] at u1 ⊢
 obtain ⟨N, hN⟩ : ∃ N, Hid (rs.length = N) := ⟨_, Lib.hid rfl⟩
 rw [hN.out] at hn v1 u1 ⊢
 have hN' : (N : Int) ≤ 1000000 := by omega
 obtain ⟨W, hW⟩ : ∃ W, (w.alloc (.cells #[.int .i64 f, .int .i64 c, .int .i64 k, .slice va N vc] 24)).alloc (.cells #[.int .i64 f, .int .i64 c, .int .i64 k, .slice ua N uc] 24) = W := ⟨_, rfl⟩
 have hZ : Sm11 w W f c k (.slice va N vc) (.slice ua N uc) := by
   rw [← hW]
   have c2 := CB.new (w.alloc (.cells #[.int .i64 f, .int .i64 c, .int .i64 k, .slice va N vc] 24)) #[.int .i64 f, .int .i64 c, .int .i64 k, .slice ua N uc] 24
   rw [World.size_alloc] at c2
   exact ⟨((Below.refl _ w).alloc (Nat.le_refl _) _).alloc (by simp) _, (CB.new w _ _).later (bAlE _ _), c2⟩
 obtain ⟨k0, k1, k2, k3⟩ := hZ.ba.cells4E
 obtain ⟨l0, l1, l2, l3⟩ := hZ.bb.cells4E
 have HZ := Lib.hid hZ
 have HV := Lib.hid hv
 have HU := Lib.hid hu
 have HS := Lib.hid hs
 have HL := Lib.hid hl
 have HV3 := Lib.hid v3
 have HU3 := Lib.hid u3
 have Hlen := Lib.hid hlen
 have e1 : (f == f) = true := by simp
 have e2 : (c == c) = true := by simp
 have e3 : (k == k) = true := by simp
 clear hv hu hs hl hlen v3 u3 hZ v1 u1 v2 u2
 go_enter Tryd.func6, Tryd.ntmps6
 go_wp2_with fail
 try rw [hW]
 clear hW k0 k1 k2 k3 l0 l1 l2 l3
 go_loopw [5] (fun s5 wr => ∃ i : Nat, s5 = .int .i64 (i : Nat) ∧ i ≤ N ∧ Hid (Sm11 w wr f c k (.slice va N vc) (.slice ua N uc))) (fun s5 _ => N - (RowKit.intOf s5).toNat)
 case atStart => exact ⟨0, rfl, by omega, HZ⟩
 case round =>
   clear HZ
   obtain ⟨i, rfl, hi1, hI⟩ := hrel
   have k3 := hI.out.ba.cell 3 (by simp)
   by_cases hlt : i < N
   · have hlt' : (i : Int) < (N : Int) := by omega
     have hi0 : (0 : Int) ≤ (i : Int) := by omega
     obtain ⟨q, hq⟩ : ∃ q, rs[i]? = some q := ⟨_, List.getElem?_eq_getElem (by rw [hN.out]; exact hlt)⟩
     obtain ⟨r, hr⟩ : ∃ r, ms[i]? = some r := ⟨_, List.getElem?_eq_getElem (by rw [← Hlen.out, hN.out]; exact hlt)⟩
     have hqm := List.mem_of_getElem? hq
     have hrm := List.mem_of_getElem? hr
     obtain ⟨g, off, hga, hg, hcq⟩ := HV3.out.resolve_left (fun e => by rw [e] at hqm; simp at hqm)
     obtain ⟨g2, off2, hgb, hg2, hcr⟩ := HU3.out.resolve_left (fun e => by rw [e] at hrm; simp at hrm)
     subst hga hgb
     obtain ⟨x0, x1⟩ := hcq i q hq
     obtain ⟨y0, y1⟩ := hcr i r hr
     obtain ⟨iq, fq⟩ := HV.out.sub q hqm
     obtain ⟨ir, fr⟩ := HU.out.sub r hrm
     have hql := HL.out q hqm
     obtain ⟨hst, hsf⟩ := HS.out i q r hq hr
     obtain ⟨⟨ts, ls⟩, tv, av⟩ := q
     obtain ⟨⟨ts2, ls2⟩, tv2, av2⟩ := r
     try dsimp only at x0 x1 y0 y1 iq fq ir fr hql hst hsf
     subst hst
     have hfl := Lib.hid (fun W hW => floats11_any av av2 ls ls2 W (fq.later hW) (fr.later hW) hsf hql.2 : ∀ W, Below w.heap.size w W → _)
     have HIq := Lib.hid iq
     have HIr := Lib.hid ir
     obtain ⟨ta, tc, rfl, _⟩ := iq.form
     obtain ⟨ta2, tc2, rfl, _⟩ := ir.form
     obtain ⟨aa, ac, rfl, _⟩ := fq.form
     obtain ⟨aa2, ac2, rfl, _⟩ := fr.form
     obtain ⟨tl, htl⟩ : ∃ tl, Hid (ts.length = tl) := ⟨_, Lib.hid rfl⟩
     obtain ⟨al, hal⟩ : ∃ al, Hid (ls.length = al) := ⟨_, Lib.hid rfl⟩
     obtain ⟨al2, hal2⟩ : ∃ al, Hid (ls2.length = al) := ⟨_, Lib.hid rfl⟩
     rw [htl.out] at x0 y0 HIq HIr hql
     rw [hal.out] at x1 hfl
     rw [hal2.out] at y1 hfl
     have htl' : (tl : Int) ≤ 1000000 := by omega
     have HC : Hid (∀ W, Sm11 w W f c k (.slice (some ⟨g, off, none⟩) N vc) (.slice (some ⟨g2, off2, none⟩) N uc) → W.cell? ⟨w.heap.size, 3, none⟩ = some (.slice (some ⟨g, off, none⟩) N vc) ∧ W.cell? ⟨w.heap.size + 1, 3, none⟩ = some (.slice (some ⟨g2, off2, none⟩) N uc) ∧ W.cell? ⟨g, off + i * 2, none⟩ = some (.slice ta tl tc) ∧ W.cell? ⟨g2, off2 + i * 2, none⟩ = some (.slice ta2 tl tc2) ∧ W.cell? ⟨g, off + i * 2 + 1, none⟩ = some (.slice aa al ac) ∧ W.cell? ⟨g2, off2 + i * 2 + 1, none⟩ = some (.slice aa2 al2 ac2) ∧ Sm11 w W f c k (.slice (some ⟨g, off, none⟩) N vc) (.slice (some ⟨g2, off2, none⟩) N uc)) := Lib.hid (fun W hW => ⟨hW.ba.cell 3 (by simp), hW.bb.cell 3 (by simp), cell_later hW.bel hg x0, cell_later hW.bel hg2 y0, cell_later hW.bel hg x1, cell_later hW.bel hg2 y1, hW⟩)
     obtain ⟨W4, hW4⟩ : ∃ W4, wr.drew = W4 := ⟨_, rfl⟩
     have z4 : Sm11 w W4 f c k (.slice (some ⟨g, off, none⟩) N vc) (.slice (some ⟨g2, off2, none⟩) N uc) := by rw [← hW4]; exact hI.out.later (Below.refl _ _).drew
     have HF : Hid (∀ W, Sm11 w W f c k (.slice (some ⟨g, off, none⟩) N vc) (.slice (some ⟨g2, off2, none⟩) N uc) → Calls Tryd.prog 14 #[.slice aa al ac, .slice aa2 al2 ac2] W fun e w' => e = .returned (.bool true) ∧ Below W.heap.size W w') := Lib.hid (fun W hW => hfl.out W hW.bel)
     have hst := HC.out W4 z4
     clear hcq hcr hqm hrm hq hr x0 x1 y0 y1 iq ir fq fr hql hsf z4 hI hfl
     go_wp2_with fail
     clear k3
     go_region_held3 (fun W => W.cell? ⟨w.heap.size, 3, none⟩ = some (.slice (some ⟨g, off, none⟩) N vc) ∧ W.cell? ⟨w.heap.size + 1, 3, none⟩ = some (.slice (some ⟨g2, off2, none⟩) N uc) ∧ W.cell? ⟨g, off + i * 2, none⟩ = some (.slice ta tl tc) ∧ W.cell? ⟨g2, off2 + i * 2, none⟩ = some (.slice ta2 tl tc2) ∧ W.cell? ⟨g, off + i * 2 + 1, none⟩ = some (.slice aa al ac) ∧ W.cell? ⟨g2, off2 + i * 2 + 1, none⟩ = some (.slice aa2 al2 ac2) ∧ Sm11 w W f c k (.slice (some ⟨g, off, none⟩) N vc) (.slice (some ⟨g2, off2, none⟩) N uc))
       (first
         | assumption
         | (rw [hW4]; exact hst)
         | exact hst
         | exact HC.out _ (hst.2.2.2.2.2.2.later (by assumption)))
       (first | (go_at_call 14; refine (HF.out _ hst.2.2.2.2.2.2).mono ?_; rintro e W5 ⟨rfl, hb5⟩))
     have HZ5 := Lib.hid (hst.2.2.2.2.2.2.later hb5)
     clear hst hb5 HF hW4
     go_wp2_with fail
     go_loopw [6] (fun s6 wr => ∃ j : Nat, s6 = .int .i64 (j : Nat) ∧ j ≤ tl ∧ Hid (Sm11 w wr f c k (.slice (some ⟨g, off, none⟩) N vc) (.slice (some ⟨g2, off2, none⟩) N uc))) (fun s6 _ => tl - (RowKit.intOf s6).toNat)
     case atStart => exact ⟨0, rfl, by omega, HZ5⟩
     case round =>
       clear HZ5
       obtain ⟨j, rfl, hj1, hJ⟩ := hrel
       obtain ⟨p0, p1, p2, p3, _⟩ := HC.out _ hJ.out
       by_cases hjt : j < tl
       · have hjt' : (j : Int) < (tl : Int) := by omega
         have hj0 : (0 : Int) ≤ (j : Int) := by omega
         have hjl : j < ts.length := by rw [htl.out]; exact hjt
         obtain ⟨⟨a5, c5, e5, _, _, h5⟩, _⟩ := HIq.out
         obtain rfl : ta = a5 := by injection e5
         obtain ⟨⟨a6, c6, e6, _, _, h6⟩, _⟩ := HIr.out
         obtain rfl : ta2 = a6 := by injection e6
         obtain ⟨g5, o5, rfl, hc5⟩ := h5.resolve_left (fun e => by rw [e] at hjl; simp at hjl)
         obtain ⟨g6, o6, rfl, hc6⟩ := h6.resolve_left (fun e => by rw [e] at hjl; simp at hjl)
         obtain ⟨W7, hW7⟩ : ∃ W7, wr.drew = W7 := ⟨_, rfl⟩
         have z7 : Sm11 w W7 f c k (.slice (some ⟨g, off, none⟩) N vc) (.slice (some ⟨g2, off2, none⟩) N uc) := by rw [← hW7]; exact hJ.out.later (Below.refl _ _).drew
         have q4 := box_cell z7.bel (hc5 j hjl)
         have q5 := box_cell z7.bel (hc6 j hjl)
         have hs7 := HC.out W7 z7
         generalize ts.getD j 0 = nn at *
         have e7 : (nn == nn) = true := by simp
         have HZ7 := Lib.hid z7
         have hst : W7.cell? ⟨g5, o5 + j, none⟩ = some (.int .i64 nn) ∧ W7.cell? ⟨g6, o6 + j, none⟩ = some (.int .i64 nn) ∧ W7.cell? ⟨w.heap.size, 3, none⟩ = some (.slice (some ⟨g, off, none⟩) N vc) ∧ W7.cell? ⟨w.heap.size + 1, 3, none⟩ = some (.slice (some ⟨g2, off2, none⟩) N uc) ∧ W7.cell? ⟨g, off + i * 2, none⟩ = some (.slice (some ⟨g5, o5, none⟩) tl tc) ∧ W7.cell? ⟨g2, off2 + i * 2, none⟩ = some (.slice (some ⟨g6, o6, none⟩) tl tc2) ∧ W7.cell? ⟨g, off + i * 2 + 1, none⟩ = some (.slice aa al ac) ∧ W7.cell? ⟨g2, off2 + i * 2 + 1, none⟩ = some (.slice aa2 al2 ac2) ∧ Sm11 w W7 f c k (.slice (some ⟨g, off, none⟩) N vc) (.slice (some ⟨g2, off2, none⟩) N uc) := ⟨q4, q5, hs7⟩
         clear hc5 hc6 hjl h5 h6 z7 q4 q5 hs7 e5 e6
         go_wp2_with fail
         clear p0 p1 p2 p3
         go_region_held3 (fun W => W.cell? ⟨g5, o5 + j, none⟩ = some (.int .i64 nn) ∧ W.cell? ⟨g6, o6 + j, none⟩ = some (.int .i64 nn) ∧ W.cell? ⟨w.heap.size, 3, none⟩ = some (.slice (some ⟨g, off, none⟩) N vc) ∧ W.cell? ⟨w.heap.size + 1, 3, none⟩ = some (.slice (some ⟨g2, off2, none⟩) N uc) ∧ W.cell? ⟨g, off + i * 2, none⟩ = some (.slice (some ⟨g5, o5, none⟩) tl tc) ∧ W.cell? ⟨g2, off2 + i * 2, none⟩ = some (.slice (some ⟨g6, o6, none⟩) tl tc2) ∧ W.cell? ⟨g, off + i * 2 + 1, none⟩ = some (.slice aa al ac) ∧ W.cell? ⟨g2, off2 + i * 2 + 1, none⟩ = some (.slice aa2 al2 ac2) ∧ Sm11 w W f c k (.slice (some ⟨g, off, none⟩) N vc) (.slice (some ⟨g2, off2, none⟩) N uc))
           (first
             | assumption
             | (rw [hW7]; exact hst)
             | exact hst)
           (fail)
         go_wp2
         exact ⟨⟨j + 1, by go_num, by omega, HZ7⟩, by simp [RowKit.intOf]; omega⟩
       · obtain rfl : tl = j := by omega
         go_wp2
         exact ⟨⟨i + 1, by go_num, by omega, hJ⟩, by simp [RowKit.intOf]; omega⟩
   · obtain rfl : N = i := by omega
     go_wp2
     go_ret
     exact ⟨rfl, hI.out.bel⟩
end
end Go.Proofs.YtgfloegaoofbbaaDoor
