/- Own texts, put together: Efe Eff Efg. -/
import Derived.Test.YtgoadpnoagaflaaGreatDoorQ35
import Derived.Test.YtgoadpnoagaflaaGreatDoorQ36
namespace Go.Proofs.YtgoadpnoagaflaaGreatDoor
/- Package elefile: floats. -/
section
set_option maxRecDepth 100000
open Go.RowKit Go.Shelf Go.Lib
attribute [local go_sem] run_store_float
def Co (W : World) (B t : Nat) (v : Value) (xs : List Value) : Prop :=
 ∃ a c, v = .slice a xs.length c ∧ xs.length ≤ c ∧ c ≤ 9223372036854775807 ∧ (xs = [] ∨ ∃ g off cur, a = some ⟨g, off, none⟩ ∧ B ≤ g ∧ CB W g cur t ∧ ∀ (i : Nat) (u : Value), xs[i]? = some u → cur[off + i]? = some u)
theorem Co.nil (W : World) (B t : Nat) : Co W B t (.slice none 0 0) [] := ⟨none, 0, rfl, by simp, by omega, Or.inl rfl⟩
theorem Co.later {W W' : World} {B t : Nat} {v : Value} {xs : List Value} (h : Co W B t v xs) (hb : Below W.heap.size W W') : Co W' B t v xs := by
 obtain ⟨a, c, h1, h2, h3, h4⟩ := h
 refine ⟨a, c, h1, h2, h3, ?_⟩
 rcases h4 with h4 | ⟨g, off, cur, h5, h6, h7, h8⟩
 · exact Or.inl h4
 · exact Or.inr ⟨g, off, cur, h5, h6, h7.later hb, h8⟩
theorem Co.base {W : World} {B B' t : Nat} {v : Value} {xs : List Value} (h : Co W B t v xs) (hb : B' ≤ B) : Co W B' t v xs := by
 obtain ⟨a, c, h1, h2, h3, h4⟩ := h
 refine ⟨a, c, h1, h2, h3, ?_⟩
 rcases h4 with h4 | ⟨g, off, cur, h5, h6, h7, h8⟩
 · exact Or.inl h4
 · exact Or.inr ⟨g, off, cur, h5, by omega, h7, h8⟩
theorem Co.ob {W W' : World} {B t C : Nat} {v : Value} {xs : List Value} (h : Co W B t v xs) (ho : Ob C W W') (hC : C < B) : Co W' B t v xs := by
 obtain ⟨a, c, h1, h2, h3, h4⟩ := h
 refine ⟨a, c, h1, h2, h3, ?_⟩
 rcases h4 with h4 | ⟨g, off, cur, h5, h6, h7, h8⟩
 · exact Or.inl h4
 · exact Or.inr ⟨g, off, cur, h5, h6, ho.cb h7 (by omega), h8⟩
theorem Co.of_own {W : World} {B t n c : Nat} {a : Option Addr} {xs : List Value} (h : W.ownsRow B t 1 (.slice a n c) n xs) : Co W B t (.slice a n n) xs ∧ n ≤ c := by
 have hl : xs.length = n := by have := h.1; omega
 rcases h.2 with ⟨h1, h2⟩ | ⟨g, cap, cur, h1, h2, h3, h4, h5, h6, h7⟩
 · cases h1
   have : xs = [] := List.length_eq_zero_iff.1 hl
   subst this
   exact ⟨Co.nil _ _ _, Nat.le_refl _⟩
 · cases h1
   refine ⟨⟨_, n, by rw [hl], by omega, by unfold maxLen at h5; omega, Or.inr ⟨g, 0, cur, rfl, h2, h3, fun i u hu => ?_⟩⟩, h4⟩
   rw [← h7, List.getElem?_take] at hu
   split at hu
   · rw [Nat.zero_add]; simpa using hu
   · cases hu
theorem makeF_ex (n : Nat) (hn : n ≤ 1000) : ∃ cs : Array Value, cs.size = n ∧ ∀ W : World, (Instr.makeSlice 40 (.int .i64 0) (.int .i64 (n : Int))).run Tryz.prog W = .ok (.slice (some ⟨W.heap.size, 0, none⟩) 0 n) (W.alloc (.cells cs 43)) := by
 obtain ⟨i0, hi0, hz0, hz1, hz2⟩ := info_parts infoF
 refine ⟨madeCells (.float .f64 0 : Value).cells n, size_madeCells _ _, fun W => ?_⟩
 have h := run_make (P := Tryz.prog) W 40 43 i0 _ undF hi0 hz0 .i64 .i64 0 (n : Int) (by omega) (by omega) (by rw [hz2]; omega) (by omega)
 rw [hz1, Nat.mul_one] at h
 exact h
theorem fst0_pre {l : List Int} {r : List Int} (h : fst0 l = 0) : fst0 (l ++ r) = fst0 r := by rw [fst0_app, if_pos h]
def FlR (p : Pm) (w w' : World) (ts : List Bs) (e : Ending) : Prop := Below w.heap.size w w' ∧
 ∃ v, e = .returned (.tuple #[v, .int .i64 (fst0 (ts.map fun x => (p.rf x).2))]) ∧ (fst0 (ts.map fun x => (p.rf x).2) = 0 → Co w' w.heap.size 43 v (f64s (ts.map fun x => (p.rf x).1))) ∧ (fst0 (ts.map fun x => (p.rf x).2) ≠ 0 → v = .slice none 0 0)
set_option maxHeartbeats 8000000 in
theorem floatsE_any {p : Pm} (hp : p.Ok) (v : Value) (ts : List Bs) (w : World) (hS : Sl w v ts) (hl : ∀ x ∈ ts, x.length ≤ 900000) (hn : ts.length ≤ 1000) (hT : Tab w) :
   Calls Tryz.prog 60 #[v] w fun e w' => FlR p w w' ts e := by
 obtain ⟨n, hnn⟩ : ∃ n, Hid (ts.length = n) := ⟨_, Lib.hid rfl⟩
 rw [hnn.out] at hn
 obtain ⟨cs, hcs, hmk⟩ := makeF_ex n hn
 obtain ⟨i0, hi0, hz0, hz1, hz2⟩ := info_parts infoF
 have HP := Lib.hid hp
 have HL := Lib.hid hl
 obtain ⟨W1, hW1⟩ : ∃ W1, w.alloc (.cells cs 43) = W1 := ⟨_, rfl⟩
 have b1 : Below w.heap.size w W1 := by rw [← hW1]; exact (Below.refl _ w).alloc (Nat.le_refl _) _
 have H1 : Hid (W1.ownsRow w.heap.size 43 1 (.slice (some ⟨w.heap.size, 0, none⟩) 0 n) 0 [] ∧ Below w.heap.size w W1) := Lib.hid ⟨by rw [← hW1]; exact own_room hcs (by omega), b1⟩
 have HSl := Lib.hid hS
 have HTb := Lib.hid hT
 obtain ⟨a, c, rfl, hc1, hc2, hm⟩ := hS.form
 have HM := Lib.hid hm
 rw [hnn.out] at hc1 ⊢
 have hn' : (n : Int) ≤ 1000 := by omega
 clear hS hl b1 hcs hp hT hm
 go_enter Tryz.func60, Tryz.ntmps60
 go_wp2_with fail
 try rw [hW1]
 clear hW1 hmk
 go_loopw [4, 14] (fun s4 s14 wr => ∃ (j : Nat) (nv : Value), s14 = .int .i64 (j : Nat) ∧ s4 = nv ∧ j ≤ n ∧ Hid (wr.ownsRow w.heap.size 43 1 nv j (f64s ((ts.take j).map fun x => (p.rf x).1)) ∧ fst0 ((ts.take j).map fun x => (p.rf x).2) = 0 ∧ Below w.heap.size w wr)) (fun _ s14 _ => n - (RowKit.intOf s14).toNat)
 case atStart => exact ⟨0, _, rfl, rfl, by omega, H1.out.1, rfl, H1.out.2⟩
 case round =>
   obtain ⟨j, nv, rfl, rfl, hj, hI⟩ := hrel
   by_cases hlt : j < n
   · have hlt' : (j : Int) < (n : Int) := by omega
     have hj0 : (0 : Int) ≤ (j : Int) := by omega
     have hjl : Hid (j < ts.length) := Lib.hid (by rw [hnn.out]; exact hlt)
     obtain ⟨x, hx⟩ : ∃ x, Hid (ts[j]? = some x) := ⟨_, Lib.hid (List.getElem?_eq_getElem hjl.out)⟩
     obtain ⟨g, off, hga, hg, hcell⟩ := HM.out.resolve_left (fun e => by have := hjl.out; rw [e] at this; simp at this)
     subst hga
     have q0 := cell_later hI.out.2.2 hg (hcell j x hx.out)
     have HTk : Hid (ts.take (j + 1) = ts.take j ++ [x]) := Lib.hid (by
       obtain ⟨g1, g2⟩ := List.getElem?_eq_some_iff.1 hx.out
       rw [List.take_succ_eq_append_getElem g1, g2])
     obtain ⟨y, er, hr⟩ : ∃ y e, Hid (p.rf x = (y, e)) := ⟨_, _, Lib.hid rfl⟩
     have HF := Lib.hid (float_is HP.out x (HL.out x (List.mem_of_getElem? hx.out)) wr (HTb.out.later hI.out.2.2))
     rw [hr.out] at HF
     have HY : Hid (y < 18446744073709551616) := Lib.hid (by have := (HP.out.rf x).word; rwa [hr.out] at this)
     have HI0 := Lib.hid hI.out
     clear hI hcell
     go_wp2_with fail
     refine HF.out.mono ?_
     rintro e W2 ⟨rfl, hb2⟩
     have H2 := Lib.hid (And.intro (own_later HI0.out.1 hb2) (HI0.out.2.2.trans (hb2.mono HI0.out.2.2.size)))
     clear hb2 q0 HF
     by_cases he : er = 0
     rotate_left
     · have he' : (er == 0) = false := by simpa using he
       have HE : Hid (fst0 (ts.map fun x => (p.rf x).2) = er) := Lib.hid (by
         rw [← List.take_append_drop (j + 1) ts, HTk.out, List.map_append, List.map_append, fst0_app, fst0_app, HI0.out.2.1]
         simp [fst0, hr.out, he])
       go_wp2
       go_ret2
       exact ⟨H2.out.2, _, by rw [HE.out]; rfl, fun h => absurd (HE.out.symm.trans h) he, fun _ => rfl⟩
     · subst he
       have hWs : Hid (w.heap.size ≤ W2.heap.size) := Lib.hid H2.out.2.size
       go_wp2_with (at_builtin; refine wpList_append_own _ rfl _ _ _ rfl w.heap.size 43 i0 _ 1 8 undF hi0 hz0 hz1 hz2 rfl (by omega) u4 j (f64s ((ts.take j).map fun x => (p.rf x).1)) rfl (World.ownsRow.alloc H2.out.1 _) ⟨W2.heap.size, 0, none⟩ 1 1 [.float .f64 y] rfl rfl (World.news_of_block (cs := #[.float .f64 y]) (t := 43) (fr := (0, 0)) (heap_alloc_new W2 _)) (by simp [Value.oneCell']) (by unfold maxLen; omega) (by omega) (by have := hWs.out; simp; omega) ?_; intro v' W4 hown hgrow _; have H4 := Lib.hid (And.intro hown (below_grew H2.out.2 H2.out.1 hgrow)); clear hown hgrow)
       refine ⟨⟨j + 1, _, by go_num, rfl, by omega, ?_, ?_, H4.out.2⟩, by simp [RowKit.intOf]; omega⟩
       · rw [HTk.out]
         have := H4.out.1
         simpa [f64s, hr.out] using this
       · rw [HTk.out, List.map_append, fst0_app, HI0.out.2.1]
         simp [fst0, hr.out]
   · obtain rfl : j = n := by omega
     obtain ⟨na, nc, rfl⟩ := own_sliceE hI.out.1
     have HI0 := Lib.hid hI.out
     have hco := Co.of_own hI.out.1
     have hnc1 : (j : Int) ≤ (nc : Int) := by omega
     have HCo := Lib.hid hco.1
     have HTk : Hid (ts.take j = ts) := Lib.hid (List.take_of_length_le (by rw [hnn.out]; omega))
     clear hI hco
     go_wp2
     all_goals
       go_ret2
       have h1 := HI0.out.2.1
       have h2 := HCo.out
       rw [HTk.out] at h1 h2
       exact ⟨HI0.out.2.2, _, by rw [h1]; rfl, fun _ => h2, fun h => absurd h1 h⟩
end

/- Package elefile: rowOf. -/
section
set_option maxRecDepth 100000
open Go.RowKit Go.Shelf Go.Lib
attribute [local go_sem] run_store_float
abbrev rw2 : Array Value := #[.slice none 0 0, .slice none 0 0]
theorem fst0_first {l r : List Int} {e : Int} (h : ∀ e ∈ l, e = 0) (he : e ≠ 0) : fst0 (l ++ e :: r) = e := by
 rw [fst0_app, if_pos (fst0_zero.2 h), fst0, if_neg he]
theorem rwE_no {p : Pm} {f c k i : Nat} {ws : List Bs} (h : ws.length < 1 + c ∨ intsE (ws.take (1 + c)) = none) : rwE p f c k i ws = 4 := by
 unfold rwE
 split
 · rename_i n ns hn
   rcases h with h | h
   · have := intsE_len hn
     rw [List.length_take, List.length_cons] at this
     rw [if_neg (by omega)]
   · rw [hn] at h; cases h
 · rfl
theorem rwE_len {p : Pm} {f c k i : Nat} {ws : List Bs} (h : ws.length ≠ 1 + c + k) : rwE p f c k i ws = 4 := by
 unfold rwE
 split
 · rw [if_neg (fun e => h e.1)]
 · rfl
theorem rwE_num {p : Pm} {f c k i : Nat} {ws : List Bs} {n : Int} {ns : List Int} (hi : intsE (ws.take (1 + c)) = some (n :: ns)) (h : n ≠ (f : Int) + (i : Int)) : rwE p f c k i ws = 4 := by
 unfold rwE
 rw [hi]
 simp only []
 rw [if_neg (fun e => h e.2)]
theorem rwE_is {p : Pm} {f c k i : Nat} {ws : List Bs} {n : Int} {ns : List Int} (hi : intsE (ws.take (1 + c)) = some (n :: ns)) (hl : ws.length = 1 + c + k) (h : n = (f : Int) + (i : Int)) : rwE p f c k i ws = fst0 (ns.map (corE f) ++ ((ws.drop (1 + c)).map fun w => (p.rf w).2)) := by
 unfold rwE
 rw [hi]
 simp only []
 rw [if_pos ⟨hl, h⟩]
theorem corE_no {f : Nat} {n : Int} (h : n < (f : Int) ∨ (f : Int) + 1048576 ≤ n) : corE f n = 11 := by unfold corE; rw [if_neg (by omega)]
theorem corE_ok {f : Nat} {n : Int} (h1 : (f : Int) ≤ n) (h2 : n < (f : Int) + 1048576) : corE f n = 0 := by unfold corE; rw [if_pos ⟨h1, h2⟩]
theorem CB.cells2E {W : World} {B t : Nat} {a b : Value} (h : CB W B #[a, b] t) : W.cell? ⟨B, 0, none⟩ = some a ∧ W.cell? ⟨B, 1, none⟩ = some b := ⟨h.cell 0 (by simp), h.cell 1 (by simp)⟩
def RoR (p : Pm) (w w' : World) (f c k i : Nat) (ws : List Bs) (e : Ending) : Prop := Below w.heap.size w w' ∧
 ∃ tv av, e = .returned (.tuple #[.agg #[tv, av], .int .i64 (rwE p f c k i ws)]) ∧ (rwE p f c k i ws = 0 → Co w' w.heap.size 3 tv (isV (rwV p f c ws).t) ∧ Co w' w.heap.size 43 av (f64s (rwV p f c ws).a)) ∧ (rwE p f c k i ws ≠ 0 → tv = .slice none 0 0 ∧ av = .slice none 0 0)
theorem RoR.bad {p : Pm} {w W : World} {f c k i : Nat} {ws : List Bs} {e : Int} (hb : Below w.heap.size w W) (he : rwE p f c k i ws = e) (h0 : e ≠ 0) : RoR p w W f c k i ws (.returned (.tuple #[.agg rw2, .int .i64 e])) :=
 ⟨hb, _, _, by rw [he], fun h => absurd (he ▸ h) h0, fun _ => ⟨rfl, rfl⟩⟩
theorem res_rowE (W : World) (B : Nat) (a b : Value) (n1 : Int) (tmps : Array Value) (h : CB W B #[a, b] 42)
   (t4 : tmps[4]? = some (.pointer (some ⟨B, 0, none⟩))) (t5 : tmps[5]? = some (.int .i64 n1)) : (results Tryz.f40 tmps).run Tryz.prog W = .ok (.tuple #[.agg #[a, b], .int .i64 n1]) W := by
 have c0 := h.cell 0 (by simp)
 have c1 := h.cell 1 (by simp)
 simp [results, Tryz.f40, go_sem, c0, c1, t4, t5]
structure Cn (w W : World) (g : Nat) (f c j : Nat) (ns : List Int) (fl : Array Value) (tv : Value) (ts : List Bs) : Prop where
 bel : Below w.heap.size w W
 fb : CB W w.heap.size fl 32
 rb : CB W (w.heap.size + 1) rw2 42
 row : ∃ cur, CB W g cur 3 ∧ (∀ (i : Nat) (n : Int), ns[i]? = some n → cur[1 + i]? = some (.int .i64 (if i < j then n - (f : Int) else n)))
 gw : w.heap.size + 1 < g
 tx : Sl W tv ts
theorem Cn.at {w W : World} {g f c j : Nat} {ns : List Int} {fl : Array Value} {tv : Value} {ts : List Bs} (h : Cn w W g f c j ns fl tv ts) {n : Int} (hn : ns[j]? = some n) : W.cell? ⟨g, 1 + j, none⟩ = some (.int .i64 n) ∧ W.frozen? ⟨g, 1 + j, none⟩ = false := by
 obtain ⟨cur, h1, h2⟩ := h.row
 have h3 := h2 j n hn
 rw [if_neg (by omega)] at h3
 obtain ⟨hl, he⟩ := Array.getElem?_eq_some_iff.1 h3
 exact ⟨by have := h1.cell (1 + j) hl; rw [this, he], h1.frozen _⟩
theorem Cn.step {w W : World} {g f c j : Nat} {ns : List Int} {fl : Array Value} {tv : Value} {ts : List Bs} (h : Cn w W g f c j ns fl tv ts) {n : Int} (hn : ns[j]? = some n) : Cn w (W.setCell ⟨g, 1 + j, none⟩ (.int .i64 (n - (f : Int)))) g f c (j + 1) ns fl tv ts := by
 obtain ⟨ha, _⟩ := h.at hn
 have hg := h.gw
 obtain ⟨cur, h1, h2⟩ := h.row
 refine ⟨h.bel.setCell (by show w.heap.size ≤ g; omega) _, h.fb.other (by omega) _, h.rb.other (by omega) _, ⟨_, h1.set (1 + j) _, fun i m hm => ?_⟩, hg, h.tx.set ha (by simp) _⟩
 have h3 := h2 i m hm
 obtain ⟨hl, he⟩ := Array.getElem?_eq_some_iff.1 h3
 by_cases e : i = j
 · subst e
   rw [hn] at hm
   cases hm
   rw [if_pos (by omega)]
   simp [hl]
 · rw [Array.set!_eq_setIfInBounds, Array.getElem?_setIfInBounds, if_neg (by omega), h3]
   congr 2
   by_cases h4 : i < j
   · rw [if_pos h4, if_pos (by omega)]
   · rw [if_neg h4, if_neg (by omega)]
theorem Cn.later {w W W' : World} {g f c j : Nat} {ns : List Int} {fl : Array Value} {tv : Value} {ts : List Bs} (h : Cn w W g f c j ns fl tv ts) (hb : Below W.heap.size W W') : Cn w W' g f c j ns fl tv ts := by
 obtain ⟨cur, h1, h2⟩ := h.row
 exact ⟨h.bel.trans (hb.mono h.bel.size), h.fb.later hb, h.rb.later hb, ⟨cur, h1.later hb, h2⟩, h.gw, h.tx.later hb⟩
theorem Cn.co {w W : World} {g f c j : Nat} {ns : List Int} {fl : Array Value} {tv : Value} {ts : List Bs} (h : Cn w W g f c j ns fl tv ts) (hj : ns.length ≤ j) (hc : ns.length = c) (hm : c ≤ 1000) : Co W w.heap.size 3 (.slice (some ⟨g, 1, none⟩) c c) (isV (ns.map (· - (f : Int)))) := by
 have hg := h.gw
 obtain ⟨cur, h1, h2⟩ := h.row
 refine ⟨_, c, by simp [isV, hc], by simp [isV, hc], by omega, Or.inr ⟨g, 1, cur, rfl, by omega, h1, fun i u hu => ?_⟩⟩
 unfold isV at hu
 rw [List.map_map, List.getElem?_map, Option.map_eq_some_iff] at hu
 obtain ⟨n, hn, rfl⟩ := hu
 have h3 := h2 i n hn
 have hi := (List.getElem?_eq_some_iff.1 hn).1
 rw [if_pos (by omega)] at h3
 exact h3
end

/- Package elefile: rowOf, its walk. -/
section
set_option maxRecDepth 100000
open Go.RowKit Go.Shelf Go.Lib
attribute [local go_sem] run_store_float
theorem Cn.coOb {w W W' : World} {g f c j : Nat} {ns : List Int} {fl : Array Value} {tv : Value} {ts : List Bs} (h : Cn w W g f c j ns fl tv ts) (ho : Ob (w.heap.size + 1) W W') (hj : ns.length ≤ j) (hc : ns.length = c) (hm : c ≤ 1000) : Co W' w.heap.size 3 (.slice (some ⟨g, 1, none⟩) c c) (isV (ns.map (· - (f : Int)))) := by
 have hg := h.gw
 obtain ⟨cur, h1, h2⟩ := h.row
 refine ⟨_, c, by simp [isV, hc], by simp [isV, hc], by omega, Or.inr ⟨g, 1, cur, rfl, by omega, ho.cb h1 (by omega), fun i u hu => ?_⟩⟩
 unfold isV at hu
 rw [List.map_map, List.getElem?_map, Option.map_eq_some_iff] at hu
 obtain ⟨n, hn, rfl⟩ := hu
 have h3 := h2 i n hn
 have hi := (List.getElem?_eq_some_iff.1 hn).1
 rw [if_pos (by omega)] at h3
 exact h3
set_option maxHeartbeats 16000000 in
theorem rowOfE_any {p : Pm} (hp : p.Ok) (v : Value) (ws : List Bs) (f c k i : Nat) (la : Option Addr) (lc : Nat) (w : World) (hS : Sl w v ws) (hK : Bk w.heap.size v) (hl : ∀ x ∈ ws, x.length ≤ 900000) (hf : f ≤ 1) (hc0 : 3 ≤ c) (hc : c ≤ 6) (hk : k ≤ 16) (hi : i ≤ 1048576) (hT : Tab w) :
   Calls Tryz.prog 40 #[v, .agg #[.int .i64 (f : Nat), .int .i64 (c : Nat), .int .i64 (k : Nat), .slice la i lc]] w fun e w' => RoR p w w' f c k i ws e := by
 have HP := Lib.hid hp
 obtain ⟨fl, hfl⟩ : ∃ fl : Array Value, fl = #[.int .i64 (f : Nat), .int .i64 (c : Nat), .int .i64 (k : Nat), .slice la i lc] := ⟨_, rfl⟩
 obtain ⟨W0, hW0⟩ : ∃ W0, (w.alloc (.cells #[.int .i64 (f : Nat), .int .i64 (c : Nat), .int .i64 (k : Nat), .slice la i lc] 32)).alloc (.cells rw2 42) = W0 := ⟨_, rfl⟩
 have b0 : Below w.heap.size w W0 := by rw [← hW0]; exact ((Below.refl _ w).alloc (Nat.le_refl _) _).alloc (by simp) _
 have z0 : W0.heap.size = w.heap.size + 2 := by rw [← hW0]; simp
 have q3 : CB W0 w.heap.size fl 32 := by rw [← hW0, hfl]; exact (CB.new w _ _).later ((Below.refl _ _).alloc (Nat.le_refl _) _)
 have q4 : CB W0 (w.heap.size + 1) rw2 42 := by
   rw [← hW0]
   have := CB.new (w.alloc (.cells #[.int .i64 (f : Nat), .int .i64 (c : Nat), .int .i64 (k : Nat), .slice la i lc] 32)) rw2 42
   rwa [World.size_alloc] at this
 have H1 := Lib.hid (oneByOne_any v ws W0 (hS.later b0) (fun b hb => by have := hK b hb; omega))
 have H0 := Lib.hid (And.intro q3 (And.intro q4 b0))
 have HL := Lib.hid hl
 have HTb := Lib.hid hT
 obtain ⟨va, vc, rfl, _⟩ := hS.form
 obtain ⟨c1, h1c⟩ : ∃ c1 : Nat, (1 : Int) + ((c : Nat) : Int) = ((c1 : Nat) : Int) := ⟨1 + c, by omega⟩
 have e1c : Hid (c1 = 1 + c) := Lib.hid (by omega)
 have hwr : IntKind.i64.wrap ((1 : Int) + ((c : Nat) : Int)) = ((c1 : Nat) : Int) := by rw [IntKind.wrap_i64]; omega
 have hc1' : (c1 : Int) ≤ 7 := by omega
 have hf' : (f : Int) ≤ 1 := by omega
 have hk' : (k : Int) ≤ 16 := by omega
 have hi' : (i : Int) ≤ 1048576 := by omega
 rw [z0] at H1
 have HFl := Lib.hid hfl
 clear hS hK hl hp hT b0 q3 q4 hfl h1c
 obtain ⟨n, hn⟩ : ∃ n, ws.length = n := ⟨_, rfl⟩
 have HN := Lib.hid hn
 rw [hn]
 rw [hn] at H1
 clear hn
 go_enter Tryz.func40, Tryz.ntmps40
 go_wp2_with fail
 try rw [hW0]
 clear hW0
 refine H1.out.mono ?_
 rintro e W1 ⟨rfl, hT1, hb1, hz1⟩
 have hb1' : Below W0.heap.size W0 W1 := by rw [z0]; exact hb1
 have HB1 : Hid (CB W1 w.heap.size fl 32 ∧ CB W1 (w.heap.size + 1) rw2 42 ∧ Below w.heap.size w W1) := Lib.hid ⟨H0.out.1.later hb1', H0.out.2.1.later hb1', H0.out.2.2.trans (hb1'.mono H0.out.2.2.size)⟩
 have HW := Lib.hid (wholes_any (w.heap.size + 2) ws c1 W1 hT1 HL.out (by omega))
 have cf := HB1.out.1
 rw [HFl.out] at cf
 obtain ⟨j0, j1, j2, j3⟩ := cf.cells4E
 clear hT1 hb1 hb1' H1 z0 cf H0
 go_wp2_with fail
 refine HW.out.mono ?_
 rintro e W2 ⟨nv, ok, rfl, hob2, hcase⟩
 have HB2 : Hid (CB W2 w.heap.size fl 32 ∧ CB W2 (w.heap.size + 1) rw2 42 ∧ Below w.heap.size w W2 ∧ W1.heap.size ≤ W2.heap.size) := Lib.hid ⟨hob2.cb HB1.out.1 (by omega), hob2.cb HB1.out.2.1 (by omega), HB1.out.2.2.trans (hob2.below (by omega) HB1.out.2.2.size), hob2.size⟩
 have HW1s : Hid (W1.heap.size = w.heap.size + 3) := Lib.hid (by rw [hz1])
 clear HW HB1 hob2 hz1 j0 j1 j2 j3
 have cf := HB2.out.1
 rw [HFl.out] at cf
 obtain ⟨j0, j1, j2, j3⟩ := cf.cells4E
 clear cf
 rcases hcase with ⟨rfl, nn, hle, hns, hown, hT2⟩ | ⟨rfl, rfl, hbad, ws', hT2, hsub⟩
 · have HTx := Lib.hid (texts_anyE (w.heap.size + 2) (ws.drop c1) k W2 hT2 (by omega))
   have hnl := intsE_len hns
   rw [List.length_take, Nat.min_eq_left hle] at hnl
   obtain ⟨n0, ns, rfl⟩ : ∃ n0 ns, nn = n0 :: ns := by
     rcases nn with _ | ⟨a, r⟩
     · simp at hnl; have := e1c.out; omega
     · exact ⟨a, r, rfl⟩
   have HNs := Lib.hid (And.intro hns (show ns.length = c by have := e1c.out; simp at hnl; omega))
   rw [e1c.out] at HNs
   obtain ⟨g, gc, hnv, hg1, hg2, hg3, hg4, hcell, _⟩ := own_cellE hown (by have := e1c.out; omega)
   have hgb : ∃ cur, CB W2 g cur 3 ∧ ∀ (i : Nat) (u : Value), (isV (n0 :: ns))[i]? = some u → cur[i]? = some u := by
     rcases hown.2 with ⟨h1, h2⟩ | ⟨g', cap, cur, h1, h2, h3, h4, h5, h6, h7⟩
     · have := e1c.out; omega
     · rw [hnv] at h1
       cases h1
       refine ⟨cur, h3, fun i u hu => ?_⟩
       rw [← h7, List.getElem?_take] at hu
       split at hu
       · simpa using hu
       · cases hu
   have HGb := Lib.hid hgb
   have HGw : Hid (w.heap.size + 2 < g) := Lib.hid (by have := HW1s.out; omega)
   have HGl := Lib.hid hg2
   subst hnv
   have HLe := Lib.hid hle
   have hg3' : (c1 : Int) ≤ (gc : Int) := by omega
   have hg4' : (gc : Int) ≤ 9223372036854775807 := by omega
   have hc1p : (0 : Int) < (c1 : Int) := by have := e1c.out; omega
   have hcn : Hid (∀ W', Ob (w.heap.size + 2) W2 W' → CB W' w.heap.size fl 32 ∧ CB W' (w.heap.size + 1) rw2 42 ∧ Below w.heap.size w W' ∧ W'.cell? ⟨g, 0, none⟩ = some (.int .i64 n0) ∧ ∃ cur, CB W' g cur 3 ∧ ∀ (i : Nat) (u : Value), (isV (n0 :: ns))[i]? = some u → cur[i]? = some u) := Lib.hid fun W' ho => by
     obtain ⟨cur, h1, h2⟩ := HGb.out
     refine ⟨ho.cb HB2.out.1 (by omega), ho.cb HB2.out.2.1 (by omega), HB2.out.2.2.1.trans (ho.below (by omega) HB2.out.2.2.1.size), ho.cell (hcell 0 _ rfl) (by have := HGw.out; omega), cur, ho.cb h1 (by have := HGw.out; omega), h2⟩
   clear hown hT2 hns hle hcell hgb hg1 hg2 hnl
   go_wp2_with fail
   refine HTx.out.mono ?_
   rintro e W3 ⟨tv, rfl, hob3, htx⟩
   have H3 := Lib.hid (hcn.out W3 hob3)
   have HTv := Lib.hid htx
   have HW3 : Hid (g < W3.heap.size) := Lib.hid (Nat.lt_of_lt_of_le HGl.out hob3.size)
   have HW23 : Hid (W2.heap.size ≤ W3.heap.size) := Lib.hid hob3.size
   clear HTx hob3 htx hcn HGb j0 j1 j2 j3
   obtain ⟨W4, hW4⟩ : ∃ W, W3.drew = W := ⟨_, rfl⟩
   have H4 : Hid (CB W4 w.heap.size fl 32 ∧ CB W4 (w.heap.size + 1) rw2 42 ∧ Below w.heap.size w W4) := Lib.hid (by rw [← hW4]; exact ⟨H3.out.1, H3.out.2.1, H3.out.2.2.1.drew⟩)
   have cf := H4.out.1
   rw [HFl.out] at cf
   obtain ⟨j0, j1, j2, j3⟩ := cf.cells4E
   have q0 : W4.cell? ⟨g, 0, none⟩ = some (.int .i64 n0) := by rw [← hW4]; exact H3.out.2.2.2.1
   obtain ⟨k0, k1⟩ := H4.out.2.1.cells2E
   have f0 := H4.out.2.1.frozen 0
   have f1 := H4.out.2.1.frozen 1
   clear cf
   have HBad : Hid (∀ e : Int, rwE p f c k i ws = e → e ≠ 0 → RoR p w ((W4.setCell ⟨w.heap.size + 1, 0, none⟩ (.slice none 0 0)).setCell ⟨w.heap.size + 1, 1, none⟩ (.slice none 0 0)) f c k i ws (.returned (.tuple #[.agg rw2, .int .i64 e]))) := Lib.hid fun e he h0 => RoR.bad ((H4.out.2.2.setCell (p := ⟨w.heap.size + 1, 0, none⟩) (by show w.heap.size ≤ w.heap.size + 1; omega) _).setCell (p := ⟨w.heap.size + 1, 1, none⟩) (by show w.heap.size ≤ w.heap.size + 1; omega) _) he h0
   by_cases hlen : ws.length = 1 + c + k
   rotate_left
   · have hd : decide ((ws.drop c1).length = k) = false := by
       rw [decide_eq_false_iff_not, List.length_drop]; have := e1c.out; have := HLe.out; omega
     rw [hd]
     have HE : Hid (rwE p f c k i ws = 4) := Lib.hid (rwE_len hlen)
     clear hd hlen
     go_wp2_with fail
     go_region
     all_goals
       go_wp2
       refine bodyPost_ret (res_rowE _ (w.heap.size + 1) _ _ 4 _ (H4.out.2.1.set2 _ _) rfl rfl) rfl ?_
       exact HBad.out 4 HE.out (by decide)
   have hd : decide ((ws.drop c1).length = k) = true := by
     rw [decide_eq_true_iff, List.length_drop]; have := e1c.out; omega
   rw [hd]
   have HTl : Hid ((ws.drop c1).length = k) := Lib.hid (of_decide_eq_true hd)
   have HLen := Lib.hid hlen
   clear hd hlen
   by_cases hnum : n0 = (f : Int) + (i : Int)
   rotate_left
   · have HE : Hid (rwE p f c k i ws = 4) := Lib.hid (rwE_num HNs.out.1 hnum)
     have hnum' : (n0 == (f : Int) + (i : Int)) = false := by simpa using hnum
     go_wp2_with fail
     go_region
     all_goals
       go_wp2
       refine bodyPost_ret (res_rowE _ (w.heap.size + 1) _ _ 4 _ (H4.out.2.1.set2 _ _) rfl rfl) rfl ?_
       exact HBad.out 4 HE.out (by decide)
   subst hnum
   have HE := Lib.hid (rwE_is (p := p) (k := k) HNs.out.1 HLen.out rfl)
   have HTs : Hid (Sl W4 tv (ws.drop c1)) := Lib.hid (by
     have h1 := HTv.out HTl.out
     have h2 : Sr W3 W2.heap.size tv (ws.drop c1) := by unfold Sr; rw [HTl.out]; exact h1
     have h3 := h2.sl (fun x hx => by have := HL.out x (List.mem_of_mem_drop hx); omega)
     rw [← hW4]; exact h3.later ((Below.refl _ W3).drew))
   have HC0 : Hid (Cn w W4 g f c 0 ns fl tv (ws.drop c1)) := Lib.hid ⟨H4.out.2.2, H4.out.1, H4.out.2.1, by
     obtain ⟨cur, g1, g2⟩ := H3.out.2.2.2.2
     refine ⟨cur, by rw [← hW4]; exact g1, fun a m hm => ?_⟩
     rw [if_neg (by omega)]
     refine g2 (1 + a) _ ?_
     rw [Nat.add_comm]
     simp [isV, hm], by have := HGw.out; omega, HTs.out⟩
   obtain ⟨ta, tc, htv⟩ : ∃ ta tc, tv = .slice ta k tc := by
     obtain ⟨a, c', e, _⟩ := HTs.out.form
     rw [HTl.out] at e
     exact ⟨a, c', e⟩
   subst htv
   have hcc : (c1 : Int) - 1 = (c : Int) := by have := e1c.out; omega
   go_wp2_with fail
   go_region
   clear q0
   go_wp2_with fail
   go_loopw [62] (fun s62 wr => ∃ j : Nat, s62 = .int .i64 (j : Nat) ∧ j ≤ c ∧ Hid (Cn w wr g f c j ns fl (.slice ta k tc) (ws.drop c1) ∧ ∀ e ∈ (ns.take j).map (corE f), e = 0)) (fun s62 _ => c - (RowKit.intOf s62).toNat)
   case atStart => exact ⟨0, rfl, by omega, by first | exact HC0.out | (rw [hW4]; exact HC0.out), fun e he => by simp at he⟩
   case round =>
     obtain ⟨j, rfl, hj, hI⟩ := hrel
     have cf := hI.out.1.fb
     rw [HFl.out] at cf
     clear j0 j1 j2 j3 k0 k1 f0 f1
     obtain ⟨j0, j1, j2, j3⟩ := cf.cells4E
     obtain ⟨k0, k1⟩ := hI.out.1.rb.cells2E
     have f0 := hI.out.1.rb.frozen 0
     have f1 := hI.out.1.rb.frozen 1
     clear cf
     by_cases hlt : j < c
     · have hlt' : (j : Int) < (c : Int) := by omega
       have hjj : (0 : Int) ≤ (j : Int) := by omega
       obtain ⟨m, hm⟩ : ∃ m, Hid (ns[j]? = some m) := ⟨_, Lib.hid (List.getElem?_eq_getElem (by rw [HNs.out.2]; exact hlt))⟩
       obtain ⟨x0, x1⟩ := hI.out.1.at hm.out
       have HTk : Hid (ns.take (j + 1) = ns.take j ++ [m]) := Lib.hid (by
         obtain ⟨g1, g2⟩ := List.getElem?_eq_some_iff.1 hm.out
         rw [List.take_succ_eq_append_getElem g1, g2])
       have HSt := Lib.hid (hI.out.1.step hm.out)
       have HI0 := Lib.hid hI.out
       clear hI
       by_cases hbad : m < (f : Int) ∨ (f : Int) + 1048576 ≤ m
       · have HE2 : Hid (rwE p f c k i ws = 11) := Lib.hid (by
           rw [HE.out, ← List.take_append_drop (j + 1) ns, HTk.out, List.map_append, List.map_append, List.append_assoc, List.append_assoc]
           show fst0 ((ns.take j).map (corE f) ++ corE f m :: _) = 11
           rw [corE_no hbad]
           exact fst0_first HI0.out.2 (by decide))
         by_cases hb1 : m < (f : Int)
         · go_wp2
           refine bodyPost_ret (res_rowE _ (w.heap.size + 1) _ _ 11 _ (HI0.out.1.rb.set2 _ _) rfl rfl) rfl ?_
           exact RoR.bad ((HI0.out.1.bel.setCell (p := ⟨w.heap.size + 1, 0, none⟩) (by show w.heap.size ≤ w.heap.size + 1; omega) _).setCell (p := ⟨w.heap.size + 1, 1, none⟩) (by show w.heap.size ≤ w.heap.size + 1; omega) _) HE2.out (by decide)
         · have hb2 : (f : Int) + 1048576 ≤ m := by omega
           go_wp2
           refine bodyPost_ret (res_rowE _ (w.heap.size + 1) _ _ 11 _ (HI0.out.1.rb.set2 _ _) rfl rfl) rfl ?_
           exact RoR.bad ((HI0.out.1.bel.setCell (p := ⟨w.heap.size + 1, 0, none⟩) (by show w.heap.size ≤ w.heap.size + 1; omega) _).setCell (p := ⟨w.heap.size + 1, 1, none⟩) (by show w.heap.size ≤ w.heap.size + 1; omega) _) HE2.out (by decide)
       · have hb1 : ¬ (m < (f : Int)) := fun h => hbad (Or.inl h)
         have hb2 : ¬ ((f : Int) + 1048576 ≤ m) := fun h => hbad (Or.inr h)
         have hb3 : (f : Int) ≤ m := by omega
         have hb4 : m < (f : Int) + 1048576 := by omega
         clear hbad
         go_wp2
         refine ⟨⟨j + 1, by go_num, by omega, HSt.out, ?_⟩, by simp [RowKit.intOf]; omega⟩
         intro e he
         rw [HTk.out, List.map_append] at he
         rcases List.mem_append.1 he with h | h
         · exact HI0.out.2 e h
         · rw [List.mem_singleton.1 h]; exact corE_ok hb3 hb4
     · obtain rfl : j = c := by omega
       have HI0 := Lib.hid hI.out
       have HFt := Lib.hid (floatsE_any HP.out _ (ws.drop c1) wr hI.out.1.tx (fun x hx => HL.out x (List.mem_of_mem_drop hx)) (by rw [HTl.out]; omega) (HTb.out.later hI.out.1.bel))
       have hlt' : ¬ ((j : Int) < (j : Int)) := by omega
       clear hI
       go_wp2_with fail
       refine HFt.out.mono ?_
       rintro e W7 ⟨hb7, av, rfl, hav, hav2⟩
       have C7 := HI0.out.1.later hb7
       have HC7 := Lib.hid C7
       have HCz : Hid (∀ e ∈ ns.map (corE f), e = 0) := Lib.hid (by have := HI0.out.2; rwa [List.take_of_length_le (by rw [HNs.out.2]; omega)] at this)
       have HE2 : Hid (rwE p f j k i ws = fst0 ((ws.drop c1).map fun x => (p.rf x).2)) := Lib.hid (by rw [HE.out, e1c.out, fst0_pre (fst0_zero.2 HCz.out)])
       have HAv := Lib.hid (And.intro hav hav2)
       obtain ⟨er, her⟩ : ∃ er, Hid (fst0 ((ws.drop c1).map fun x => (p.rf x).2) = er) := ⟨_, Lib.hid rfl⟩
       rw [her.out] at HE2 HAv ⊢
       clear k0 k1 f0 f1 j0 j1 j2 j3
       obtain ⟨k0, k1⟩ := C7.rb.cells2E
       have f0 := C7.rb.frozen 0
       have f1 := C7.rb.frozen 1
       clear C7 hav hav2 HFt
       by_cases her0 : er = 0
       rotate_left
       · have her1 : (er == 0) = false := by simpa using her0
         have her2 : (er != 0) = true := by simpa using her0
         go_wp2
         refine bodyPost_ret (res_rowE _ (w.heap.size + 1) _ _ er _ (HC7.out.rb.set2 _ _) rfl rfl) rfl ?_
         exact RoR.bad ((HC7.out.bel.setCell (p := ⟨w.heap.size + 1, 0, none⟩) (by show w.heap.size ≤ w.heap.size + 1; omega) _).setCell (p := ⟨w.heap.size + 1, 1, none⟩) (by show w.heap.size ≤ w.heap.size + 1; omega) _) HE2.out her0
       · subst her0
         have HCo := Lib.hid (HC7.out.co (by rw [HNs.out.2]; omega) HNs.out.2 (by omega))
         have HAo := Lib.hid (HAv.out.1 (by first | rfl | trivial))
         obtain ⟨aa, ac, hav3⟩ : ∃ aa ac, av = .slice aa (f64s ((ws.drop c1).map fun x => (p.rf x).1)).length ac := by
           obtain ⟨a, c', e, _⟩ := HAo.out
           exact ⟨a, c', e⟩
         obtain ⟨L, hL⟩ : ∃ L, (f64s ((ws.drop c1).map fun x => (p.rf x).1)).length = L := ⟨_, rfl⟩
         rw [hL] at hav3
         subst hav3
         have hcj : c1 - 1 = j := by have := e1c.out; omega
         have HCj := Lib.hid hcj
         clear hcj hL
         go_wp2
         refine bodyPost_ret (res_rowE _ (w.heap.size + 1) _ _ 0 _ (HC7.out.rb.set2 _ _) rfl rfl) rfl ?_
         have ho : Ob (w.heap.size + 1) W7 ((W7.setCell ⟨w.heap.size + 1, 0, none⟩ (.slice (some ⟨g, 1, none⟩) (c1 - 1) (c1 - 1))).setCell ⟨w.heap.size + 1, 1, none⟩ (.slice aa L ac)) := (Ob.set _ _ _ _).trans (Ob.set _ _ _ _)
         have hgw := HC7.out.gw
         have hwr2 : w.heap.size + 2 ≤ wr.heap.size := by have := HI0.out.1.rb.lt; omega
         refine ⟨HC7.out.bel.trans (ho.below (by omega) HC7.out.bel.size), _, _, by rw [HE2.out], fun _ => ⟨?_, ?_⟩, fun h => absurd HE2.out h⟩
         · have h1 := HCo.out.base (Nat.le_refl _)
           rw [HCj.out]
           have h2 : (rwV p f j ws).t = ns.map (· - (f : Int)) := by unfold rwV; rw [HNs.out.1]; rfl
           rw [h2]
           rw [HCj.out] at ho
           exact HC7.out.coOb ho (by rw [HNs.out.2]; omega) HNs.out.2 (by omega)
         · have h2 : (rwV p f j ws).a = (ws.drop c1).map fun x => (p.rf x).1 := by unfold rwV; rw [e1c.out]
           rw [h2]
           exact (HAo.out.ob ho (by omega)).base (by omega)
 · have HTx := Lib.hid (texts_anyE (w.heap.size + 2) ws' k W2 hT2 (by omega))
   have HE : Hid (rwE p f c k i ws = 4) := Lib.hid (rwE_no (by rw [← e1c.out]; exact hbad))
   clear hT2 hsub hbad
   go_wp2_with fail
   refine HTx.out.mono ?_
   rintro e W3 ⟨tv, rfl, hob3, _⟩
   obtain ⟨W4, hW4⟩ : ∃ W, W3.drew = W := ⟨_, rfl⟩
   have H4 : Hid (CB W4 (w.heap.size + 1) rw2 42 ∧ Below w.heap.size w W4) := Lib.hid (by rw [← hW4]; exact ⟨hob3.cb HB2.out.2.1 (by omega), (HB2.out.2.2.1.trans (hob3.below (by omega) HB2.out.2.2.1.size)).drew⟩)
   obtain ⟨dd, hdd⟩ : ∃ d, decide (ws'.length = k) = d := ⟨_, rfl⟩
   rw [hdd]
   obtain ⟨k0, k1⟩ := H4.out.1.cells2E
   have f0 := H4.out.1.frozen 0
   have f1 := H4.out.1.frozen 1
   clear HTx hob3 HB2 hdd j0 j1 j2 j3
   go_wp2_with fail
   go_region
   all_goals
     go_wp2
     refine bodyPost_ret (res_rowE _ (w.heap.size + 1) _ _ 4 _ (H4.out.1.set2 _ _) rfl rfl) rfl ?_
     exact RoR.bad ((H4.out.2.setCell (p := ⟨w.heap.size + 1, 0, none⟩) (by show w.heap.size ≤ w.heap.size + 1; omega) _).setCell (p := ⟨w.heap.size + 1, 1, none⟩) (by show w.heap.size ≤ w.heap.size + 1; omega) _) HE.out (by decide)
end
end Go.Proofs.YtgoadpnoagaflaaGreatDoor
