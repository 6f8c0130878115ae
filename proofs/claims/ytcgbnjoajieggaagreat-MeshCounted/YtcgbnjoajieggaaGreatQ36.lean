/- Own texts, put together: Mu. -/
import Derived.Test.YtcgbnjoajieggaaGreatQ3
import Derived.Test.YtcgbnjoajieggaaGreatQ34
import Derived.Carry
/- Package mesh: groundOf. (gen_mu.py) -/
namespace Go.Proofs.YtcgbnjoajieggaaGreat
open Go.RowKit Go.Shelf Go.Lib
attribute [local go_sem ↓] Go.wp_at_zero Go.wp_at_succ
attribute [local go_sem] run_store_float
set_option maxRecDepth 100000
def nilv : Value := .slice none 0 0
def Fg (B : Nat) (s : Value) (n : Nat) (f : Nat → Nat × Nat) : Nat → Value → World → Prop
 | 0, v, _ => v = s
 | 1, v, W => W.ownsRow B 36 2 v n (qcs (ptsF f n))
 | 2, v, _ => v = s
 | 3, v, _ => v = .int .i64 (n : Nat)
 | 4, v, W => W.ownsRow B 94 1 v n (List.replicate n nilv)
 | 5, v, W => ∃ b, v = .map (some b) ∧ B ≤ b ∧ b < W.heap.size ∧ W.heap[b]? = some (.map #[] 0)
 | 6, v, W => ∃ b, v = .map (some b) ∧ B ≤ b ∧ b < W.heap.size ∧ W.heap[b]? = some (.map #[] 0)
 | _, _, _ => True
theorem Fg_stab (B : Nat) (s : Value) (n : Nat) (f : Nat → Nat × Nat) (j : Nat) (v : Value) (W W' : World) (h : Fg B s n f j v W) (hb : Below W.heap.size W W') : Fg B s n f j v W' := by
 have o : ∀ {e k m : Nat} {u : Value} {xs : List Value}, W.ownsRow B e k u m xs → W'.ownsRow B e k u m xs := fun ho => own_same ho (fun g hg => hb.block g (ho.lt g hg).2)
 match j, h with
 | 0, h => exact h
 | 1, h => exact o h
 | 2, h => exact h
 | 3, h => exact h
 | 4, h => exact o h
 | 5, ⟨b, h1, h2, h3, h4⟩ => exact ⟨b, h1, h2, Nat.lt_of_lt_of_le h3 hb.size, (hb.block b h3).trans h4⟩
 | 6, ⟨b, h1, h2, h3, h4⟩ => exact ⟨b, h1, h2, Nat.lt_of_lt_of_le h3 hb.size, (hb.block b h3).trans h4⟩
 | _ + 7, _ => trivial
section
variable {aa : Act} {W : World} {o : Oper} {K : Act → World → Prop} {Q : Exit → Act → World → Prop}
theorem ok_stPt {t u B i : Nat} {x y a b : Nat} (ho : o.op = .store 36 (.tmp t) (.tmp u)) (hv : aa.eval (.tmp t) = .pointer (some ⟨B, i, none⟩)) (hu : aa.eval (.tmp u) = .agg #[.float .f64 x, .float .f64 y]) (hc : W.cell? ⟨B, i, none⟩ = some (.float .f64 a)) (hd : W.cell? ⟨B, i + 1, none⟩ = some (.float .f64 b)) (hf : W.frozen? ⟨B, i, none⟩ = false) (hg : W.frozen? ⟨B, i + 1, none⟩ = false)
   (h : K (aa.put o.dst undef) ((W.setCell ⟨B, i, none⟩ (.float .f64 x)).setCell ⟨B, i + 1, none⟩ (.float .f64 y))) : Oper.wp Tryz.prog o aa W K Q := by
 unfold Oper.wp execOp
 rw [ho]
 simp only [hv, hu]
 go_simp
 exact h
theorem og_move {e : Operand} (ho : o.op = .move e) (h : K (aa.put o.dst (aa.eval e)) W) : Oper.wp Tryz.prog o aa W K Q := by
 unfold Oper.wp execOp
 rw [ho]
 exact h
theorem og_clone {t : Nat} {y : TypeId} {s : Value} {n : Nat} {f : Nat → Nat × Nat} (ho : o.op = .call { callee := .value (.func 57), args := #[.tmp t], argTypes := #[y] }) (hv : aa.eval (.tmp t) = s) (hP : Ps W s n f) (hn : n ≤ 1048576)
   (h : ∀ v w', w'.ownsRow W.heap.size 36 2 v n (qcs (ptsF f n)) → Below W.heap.size W w' → K (aa.put o.dst v) w') : Oper.wp Tryz.prog o aa W K Q := by
 have hv' : aa.tmps[t]?.getD undef = s := by rw [← hv]; exact Array.getD_eq_getD_getElem?.symm
 unfold Oper.wp execOp
 rw [ho]
 go_simp
 refine (clone_pts s n f W hP hn).mono ?_
 rintro e w' ⟨v, rfl, h1, h2⟩
 exact h v w' h1 h2
theorem og_len {t : Nat} {a : Option Addr} {n c : Nat} (ho : o.op = .call { callee := .builtin .len, args := #[.tmp t], argTypes := #[27] }) (hv : aa.eval (.tmp t) = .slice a n c) (h : K (aa.put o.dst (.int .i64 (n : Nat))) W) : Oper.wp Tryz.prog o aa W K Q := by
 have hr : (Builtin.len_ #[27] o.type #[.slice a n c]).run Tryz.prog W = .ok (.int .i64 (n : Nat)) W := by simp [Builtin.len_, run_underlying Tryz.underlying27, goInt]
 unfold Oper.wp execOp
 simp only [ho, resolve, invoke, builtin, Sem.run_bind, Sem.run_pure, Result.andThen_ok, List.map_toArray, List.map_cons, List.map_nil, hv, hr]
 exact h
theorem og_row {t : Nat} {n : Nat} (hn : n ≤ 1048576) (ho : o.op = .makeSlice 84 (.tmp t) (.tmp t)) (hv : aa.eval (.tmp t) = .int .i64 (n : Nat))
   (h : ∀ v w', w'.ownsRow W.heap.size 94 1 v n (List.replicate n nilv) → Below W.heap.size W w' → K (aa.put o.dst v) w') : Oper.wp Tryz.prog o aa W K Q := by
 obtain ⟨i0, hi0, hz0, hz1, hz2⟩ := info_parts (show (Tryz.prog.info? 94).map (fun i => (i.zero, i.size, i.bytes)) = some (some (.slice none 0 0), 1, 24) by kernel_rfl)
 obtain ⟨w', hr, h1, h2⟩ := run_make_full (P := Tryz.prog) W W.heap.size 84 94 i0 (.slice none 0 0) 1 Tryz.underlying84 hi0 hz0 hz1 .i64 .i64 n (by rw [hz2]; omega) (by unfold maxLen; omega) (Nat.le_refl _)
 unfold Oper.wp execOp
 rw [ho]
 simp only [hv]
 simp only [Sem.run_bind, hr, Result.andThen_ok]
 have e : (madeCells (Value.slice none 0 0).cells (n * 1)).toList = List.replicate n nilv := by rw [Nat.mul_one]; exact toList_madeCells_one _ _
 rw [e] at h1
 exact h _ w' h1 (below_grown' h2 (fun g hg => by cases hg) (Nat.le_refl _))
theorem og_map (ho : o.op = .makeMap 85 none) (h : K (aa.put o.dst (.map (some W.heap.size))) (W.alloc (.map #[] 0))) : Oper.wp Tryz.prog o aa W K Q := by
 unfold Oper.wp execOp
 rw [ho]
 have hm := run_makeMap (P := Tryz.prog) 85 W
 simp only [Option.map_none, Sem.run_bind, hm, Result.andThen_ok]
 exact h
end
def plp (p : Nat × Nat) : Nat × Nat := (pz p.1, pz p.2)
theorem gtrans {W V U : World} {r : Option Nat} (h : W.grownBy V r) (g : V.grownBy U r) : W.grownBy U r :=
 ⟨g.os.trans h.os, g.tape.trans h.tape, g.output.trans h.output, Nat.le_trans h.size g.size, fun k hk hn => (g.block k (Nat.lt_of_lt_of_le hk h.size) hn).trans (h.block k hk hn)⟩
theorem below_grown0 {W V : World} (h : Below W.heap.size W V) : W.grownBy V none := ⟨h.os, h.tape, h.output, h.size, fun k hk _ => h.block k hk⟩
theorem gsome {W V : World} {r : Option Nat} (h : W.grownBy V none) : W.grownBy V r := ⟨h.os, h.tape, h.output, h.size, fun k hk _ => h.block k hk (by simp)⟩
theorem grown_bel {W V U : World} {r : Option Nat} (h : W.grownBy V r) (hb : Below V.heap.size V U) : W.grownBy U r := gtrans h (gsome (below_grown0 hb))
theorem set_other {W : World} {g B i j k : Nat} {u x y : Value} (hne : g ≠ B) (h : W.cell? ⟨g, k, none⟩ = some u) : ((W.setCell ⟨B, i, none⟩ x).setCell ⟨B, j, none⟩ y).cell? ⟨g, k, none⟩ = some u := by
 rw [World.cell?_of_block (heap_setCell_other _ ⟨B, j, none⟩ _ y (fun e => hne e)), World.cell?_of_block (heap_setCell_other W ⟨B, i, none⟩ _ x (fun e => hne e))]; exact h
theorem store_pt {W : World} {B g n cap i : Nat} {P : List (Nat × Nat)} (h : W.ownsRow B 36 2 (.slice (some ⟨g, 0, none⟩) n cap) n (qcs P)) (hi : i < n) (x y : Nat) {v : Value} (hv : v = .slice (some ⟨g, 0, none⟩) n cap) :
   ((W.setCell ⟨g, i * 2, none⟩ (.float .f64 x)).setCell ⟨g, i * 2 + 1, none⟩ (.float .f64 y)).ownsRow B 36 2 v n (qcs (P.set i (x, y))) ∧ W.grownBy ((W.setCell ⟨g, i * 2, none⟩ (.float .f64 x)).setCell ⟨g, i * 2 + 1, none⟩ (.float .f64 y)) (some g) := by
 subst hv
 have s1 := h.stored (i * 2) (.float .f64 x)
 have s2 := s1.1.stored (i * 2 + 1) (.float .f64 y)
 have hl : i < P.length := by have := h.1; rw [qcs_len] at this; omega
 have e : ((qcs P).set (i * 2) (.float .f64 x)).set (i * 2 + 1) (.float .f64 y) = qcs (P.set i (x, y)) := pairs_set (fun p : Nat × Nat => Value.float .f64 p.1) (fun p : Nat × Nat => Value.float .f64 p.2) P i (x, y) hl
 rw [e] at s2
 exact ⟨s2.1, gtrans s1.2 s2.2⟩
theorem pts_step (f : Nat → Nat × Nat) (n i : Nat) : (ptsF (fun k => if k < i then plp (f k) else f k) n).set i (plp (f i)) = ptsF (fun k => if k < i + 1 then plp (f k) else f k) n := by
 apply List.ext_getElem?
 intro k
 rw [List.getElem?_set, ptsF_len]
 by_cases hk : k < n
 · rw [ptsF_at _ hk]
   by_cases e : i = k
   · subst e
     rw [if_pos rfl, if_pos hk, ptsF_at _ hk, if_pos (by omega)]
   · rw [if_neg e]
     by_cases h1 : k < i
     · rw [if_pos h1, ptsF_at _ hk, if_pos (by omega)]
     · rw [if_neg h1, ptsF_at _ hk, if_neg (by omega)]
 · rw [List.getElem?_eq_none (l := ptsF _ n) (by rw [ptsF_len]; omega), List.getElem?_eq_none (l := ptsF (fun k => if k < i + 1 then plp (f k) else f k) n) (by rw [ptsF_len]; omega)]
   split
   · rw [if_neg (by omega)]
   · rfl
theorem j7_of (j : Nat) (h : j < 7) : j = 0 ∨ j = 1 ∨ j = 2 ∨ j = 3 ∨ j = 4 ∨ j = 5 ∨ j = 6 := by omega
theorem mapF_nil {W : World} {b : Nat} (h : W.heap[b]? = some (.map #[] 0)) : MapF W b (fun _ _ => none) 0 := ⟨#[], 0, [], h, rfl, List.nodup_nil, rfl, fun x y v => by simp⟩
theorem plc_rep (n : Nat) (a b : Int) : plc (List.replicate n []) a b = none := by
 rw [plc_none]
 rintro a' b' c _ _ ⟨fan, h1, h2⟩
 rw [List.getElem?_replicate] at h1
 split at h1
 · cases h1; cases h2
 · cases h1
theorem hw_rep {n a b c : Nat} : ¬ Hw (List.replicate n []) a b c := by
 rintro ⟨fan, h1, h2⟩
 rw [List.getElem?_replicate] at h1
 split at h1
 · cases h1; cases h2
 · cases h1
theorem cnt_rep (n : Nat) : cnt (List.replicate n []) = 0 := by
 unfold cnt
 rw [List.map_replicate]; simp
theorem own_base' {W : World} {B e s n : Nat} {v : Value} {xs : List Value} (h : W.ownsRow B e s v n xs) : W.ownsRow 0 e s v n xs := by
 refine ⟨h.1, ?_⟩
 rcases h.2 with h0 | ⟨g, cap, cur, h1, h2, h3⟩
 · exact Or.inl h0
 · exact Or.inr ⟨g, cap, cur, h1, Nat.zero_le _, h3⟩
theorem own_baseB {W : World} {B B' e s n : Nat} {v : Value} {xs : List Value} (h : W.ownsRow B e s v n xs) (hb : B' ≤ B) : W.ownsRow B' e s v n xs := by
 refine ⟨h.1, ?_⟩
 rcases h.2 with h0 | ⟨g, cap, cur, h1, h2, h3⟩
 · exact Or.inl h0
 · exact Or.inr ⟨g, cap, cur, h1, Nat.le_trans hb h2, h3⟩
theorem own_sl {W : World} {B e s n : Nat} {v : Value} {xs : List Value} (h : W.ownsRow B e s v n xs) : ∃ a c, v = .slice a n c := by
 rcases h.2 with ⟨rfl, h0⟩ | ⟨g, cap, cur, rfl, _⟩
 · exact ⟨none, 0, by rw [h0]⟩
 · exact ⟨_, cap, rfl⟩
theorem gd_new {W : World} {B gB pm fm n : Nat} {pv av : Value} {P : List (Nat × Nat)} (hn : P.length = n) (h20 : n ≤ 1048576) (hb : CB W gB #[pv, av, .map (some pm), .map (some fm)] 87) (hB : B ≤ gB) (hp : W.ownsRow B 36 2 pv n (qcs P)) (ha : W.ownsRow B 94 1 av n (List.replicate n nilv))
   (hm : W.heap[pm]? = some (.map #[] 0)) (hf : W.heap[fm]? = some (.map #[] 0)) (hmB : B ≤ pm ∧ B ≤ fm) (hne : pm ≠ fm) :
   Gd (fun k => B ≤ k ∧ k < W.heap.size) W ⟨gB, pv, av, pm, fm⟩ P (List.replicate n []) (fun _ _ => none) (List.replicate n nilv) where
 m := {
   box := hb
   pts := Or.inr ⟨by rw [hn]; exact own_base' hp, fun g hg => hp.lt g hg⟩
   row := by rw [List.length_replicate]; exact own_base' ha
   fans := fun i v hv => by
     rw [List.getElem?_replicate] at hv
     split at hv
     · cases hv
       have e : (List.replicate n ([] : List Wg)).getD i [] = [] := by
         rw [List.getD_eq_getElem?_getD, List.getElem?_replicate]; split <;> rfl
       rw [e]; exact World.ownsRow_nil _ _ _ _
     · cases hv
   apart := fun i j v u g hv hu hg _ => by
     rw [List.getElem?_replicate] at hv
     split at hv
     · cases hv; cases hg
     · cases hv
   map := by
     have e : plcI (List.replicate n []) = fun _ _ => none := by funext x y; unfold plcI; rw [plc_rep]; rfl
     rw [e, cnt_rep]; exact mapF_nil hm
   fmap := ⟨0, mapF_nil hf⟩
   mne := hne
   sB := ⟨hB, hb.lt⟩
   sP := ⟨hmB.1, (Array.getElem?_eq_some_iff.1 hm).1⟩
   sF := ⟨hmB.2, (Array.getElem?_eq_some_iff.1 hf).1⟩
   sA := fun g hg => ha.lt g hg
   sV := fun i v g hv hg => by
     rw [List.getElem?_replicate] at hv
     split at hv
     · cases hv; cases hg
     · cases hv }
 uq := fun a fan h => by
   rw [List.getElem?_replicate] at h
   split at h
   · cases h; exact List.nodup_nil
   · cases h
 len := by rw [List.length_replicate, hn]
 few := by omega
 nums := fun a b c h => absurd h hw_rep
set_option maxHeartbeats 4000000 in
theorem ground_any (s : Value) (n : Nat) (f : Nat → Nat × Nat) (W : World) (h : Ps W s n f) (h20 : n ≤ 1048576) :
   Calls Tryz.prog 43 #[s] W fun e w' => ∃ x, e = .returned (.pointer (some ⟨x.gB, 0, none⟩)) ∧ Gd (fun k => W.heap.size ≤ k ∧ k < w'.heap.size) w' x (ptsF (fun k => plp (f k)) n) (List.replicate n []) (fun _ _ => none) (List.replicate n nilv) ∧ Below W.heap.size W w' := by
 obtain ⟨sa, sc, rfl, hsc, hsm⟩ := h.shape
 have HP := Lib.hid h
 obtain ⟨B, hB⟩ : ∃ B, W.heap.size = B := ⟨_, rfl⟩
 rw [hB]
 clear h
 go_enter Tryz.func43, Tryz.ntmps43
 go_wp2_with fail
 refine region_facts3 6 7 10 (fun w => Below B W w ∧ Ps w (.slice sa n sc) n f) (Fg B (.slice sa n sc) n f) (fun j => j == 5 || j == 6) (by kernel_rfl) (by kernel_rfl) (by omega) (by kernel_rfl) (Nat.le_of_ble_eq_true (by kernel_rfl)) ⟨(Below.refl _ _).drew, HP.out.later (Below.refl _ _).drew⟩ (fun j v w w' h hb => Fg_stab _ _ _ _ j v w w' h hb) ?_ ?_
 focus
   · intro Q' j o hj ho a w hG hout hd
     have hBw : B ≤ w.heap.size := by have := hG.1.size; omega
     have hc := j7_of j hj
     clear hj
     rcases hc with rfl | rfl | rfl | rfl | rfl | rfl | rfl
     · replace ho := Option.some.inj (Eq.trans (Eq.symm ho) rfl)
       subst ho
       refine og_move rfl ⟨_, rfl, hG, Below.refl _ _, (hout 0 (by omega)).trans rfl, fun _ _ _ h => by simp at h⟩
     · replace ho := Option.some.inj (Eq.trans (Eq.symm ho) rfl)
       subst ho
       have d0 : Fg B (.slice sa n sc) n f 0 (a.eval (.tmp 6)) w := hd ⟨0, .data⟩ (by simp) rfl
       refine og_clone rfl d0 hG.2 h20 (fun v w' h1 h2 => ⟨v, rfl, ⟨hG.1.trans (h2.mono hBw), hG.2.later h2⟩, h2, ?_, fun _ _ _ h => by simp at h⟩)
       exact own_baseB h1 hBw
     · replace ho := Option.some.inj (Eq.trans (Eq.symm ho) rfl)
       subst ho
       refine og_move rfl ⟨_, rfl, hG, Below.refl _ _, (hout 0 (by omega)).trans rfl, fun _ _ _ h => by simp at h⟩
     · replace ho := Option.some.inj (Eq.trans (Eq.symm ho) rfl)
       subst ho
       have d2 : Fg B (.slice sa n sc) n f 2 (a.eval (.tmp 8)) w := hd ⟨2, .data⟩ (by simp) rfl
       refine og_len rfl d2 ⟨_, rfl, hG, Below.refl _ _, rfl, fun _ _ _ h => by simp at h⟩
     · replace ho := Option.some.inj (Eq.trans (Eq.symm ho) rfl)
       subst ho
       have d3 : Fg B (.slice sa n sc) n f 3 (a.eval (.tmp 9)) w := hd ⟨3, .data⟩ (by simp) rfl
       refine og_row h20 rfl d3 (fun v w' h1 h2 => ⟨v, rfl, ⟨hG.1.trans (h2.mono hBw), hG.2.later h2⟩, h2, ?_, fun _ _ _ h => by simp at h⟩)
       exact own_baseB h1 hBw
     · replace ho := Option.some.inj (Eq.trans (Eq.symm ho) rfl)
       subst ho
       have hb : Below w.heap.size w (w.alloc (.map #[] 0)) := (Below.refl _ _).alloc (Nat.le_refl _) _
       refine og_map rfl ⟨_, rfl, ⟨hG.1.trans (hb.mono hBw), hG.2.later hb⟩, hb, ⟨_, rfl, hBw, by simp, heap_alloc_new w _⟩, fun j' u hu _ hM => ?_⟩
       rcases (show j' = 5 ∨ j' = 6 by simpa using hM) with rfl | rfl
       · obtain ⟨b, rfl, _, hlt, _⟩ := hu
         intro e; injection e with e; injection e with e; omega
       · obtain ⟨b, rfl, _, hlt, _⟩ := hu
         intro e; injection e with e; injection e with e; omega
     · replace ho := Option.some.inj (Eq.trans (Eq.symm ho) rfl)
       subst ho
       have hb : Below w.heap.size w (w.alloc (.map #[] 0)) := (Below.refl _ _).alloc (Nat.le_refl _) _
       refine og_map rfl ⟨_, rfl, ⟨hG.1.trans (hb.mono hBw), hG.2.later hb⟩, hb, ⟨_, rfl, hBw, by simp, heap_alloc_new w _⟩, fun j' u hu _ hM => ?_⟩
       rcases (show j' = 5 ∨ j' = 6 by simpa using hM) with rfl | rfl
       · obtain ⟨b, rfl, _, hlt, _⟩ := hu
         intro e; injection e with e; injection e with e; omega
       · obtain ⟨b, rfl, _, hlt, _⟩ := hu
         intro e; injection e with e; injection e with e; omega
 intro vs w1 hG hF hD
 have f1 : w1.ownsRow B 36 2 (vs 1) n (qcs (ptsF f n)) := hF 1 (by omega)
 have f4 : w1.ownsRow B 94 1 (vs 4) n (List.replicate n nilv) := hF 4 (by omega)
 obtain ⟨pm, e5, hpm, _, hpo⟩ : Fg B (.slice sa n sc) n f 5 (vs 5) w1 := hF 5 (by omega)
 obtain ⟨fm, e6, hfm, _, hfo⟩ : Fg B (.slice sa n sc) n f 6 (vs 6) w1 := hF 6 (by omega)
 have hne : pm ≠ fm := fun e => hD 5 6 (by omega) (by omega) (by omega) rfl rfl (by rw [e5, e6, e])
 have e0 : vs 0 = .slice sa n sc := hF 0 (by omega)
 have e2 : vs 2 = .slice sa n sc := hF 2 (by omega)
 have e3 : vs 3 = .int .i64 (n : Nat) := hF 3 (by omega)
 obtain ⟨pa, pc, hpv⟩ := own_sl f1
 obtain ⟨ra, rc, hav⟩ := own_sl f4
 rw [hpv] at f1
 rw [hav] at f4
 have H1 := Lib.hid (And.intro f1 (And.intro f4 (And.intro hG (And.intro (And.intro hpm hfm) (And.intro hpo (And.intro hfo hne))))))
 clear f1 f4 hG hpm hfm hpo hfo hne hF hD
 generalize hA : actF _ 6 7 (fun _ => true) vs = A
 simp only [actF, fillL, Nat.reduceAdd, Nat.reduceSub, Nat.reduceLeDiff, Nat.reduceLT, if_true, if_false, and_true, and_false, and_self, e0, e2, e3, e5, e6, hpv, hav] at hA
 subst hA
 clear e0 e2 e3 e5 e6 hpv hav
 refine wpAny_of_held (S := fun _ => True) _ _ _ _ ?_
 refine call_at (fuel := 2) 7 (by kernel_rfl) (by kernel_rfl) ?_
 intro o ho
 replace ho := Option.some.inj (Eq.trans (Eq.symm ho) rfl)
 subst ho
 intro KF hK
 rw [if_pos (by rfl)]
 go_simp
 refine hK.out _ _ trivial ?_
 intro _
 clear hK KF
 try simp only [Act.put, List.setIfInBounds_toArray]
 refine call_at (fuel := 1) 8 (by kernel_rfl) (by kernel_rfl) ?_
 intro o ho
 replace ho := Option.some.inj (Eq.trans (Eq.symm ho) rfl)
 subst ho
 intro KF hK
 rw [if_pos (by rfl)]
 go_simp
 refine hK.out _ _ trivial ?_
 intro _
 clear hK KF
 try simp only [Act.put, List.setIfInBounds_toArray]
 refine call_at (fuel := 0) 9 (by kernel_rfl) (by kernel_rfl) ?_
 intro o ho
 replace ho := Option.some.inj (Eq.trans (Eq.symm ho) rfl)
 subst ho
 intro KF hK
 rw [if_pos (by rfl)]
 go_simp
 refine hK.out _ _ trivial ?_
 intro _
 clear hK KF
 try simp only [Act.put, List.setIfInBounds_toArray]
 refine wpAnyH_done (by kernel_rfl) ?_ _
 obtain ⟨gB, hgB⟩ : ∃ g, w1.heap.size = g := ⟨_, rfl⟩
 obtain ⟨W2, hW2⟩ : ∃ X, w1.alloc (.cells #[.slice pa n pc, .slice ra n rc, .map (some pm), .map (some fm)] 87) = X := ⟨_, rfl⟩
 rw [hW2]
 try rw [hgB]
 have b2 : Below w1.heap.size w1 W2 := by rw [← hW2]; exact (Below.refl _ _).alloc (Nat.le_refl _) _
 have kb : CB W2 gB #[.slice pa n pc, .slice ra n rc, .map (some pm), .map (some fm)] 87 := by rw [← hW2, ← hgB]; exact CB.new w1 _ _
 have hBw1 : B ≤ w1.heap.size := by have := H1.out.2.2.1.1.size; omega
 have HB2 := Lib.hid (H1.out.2.2.1.1.trans (b2.mono hBw1))
 have HK2 := Lib.hid kb
 have HR2 := Lib.hid (And.intro (own_same H1.out.1 (fun g hg => b2.block g (H1.out.1.lt g hg).2)) (own_same H1.out.2.1 (fun g hg => b2.block g (H1.out.2.1.lt g hg).2)))
 have HM2 := Lib.hid (And.intro ((b2.block pm (Array.getElem?_eq_some_iff.1 H1.out.2.2.2.2.1).1).trans H1.out.2.2.2.2.1) ((b2.block fm (Array.getElem?_eq_some_iff.1 H1.out.2.2.2.2.2.1).1).trans H1.out.2.2.2.2.2.1))
 have HN2 := Lib.hid (And.intro H1.out.2.2.2.1 H1.out.2.2.2.2.2.2)
 have HgB : Hid (B ≤ gB) := Lib.hid (by omega)
 clear b2 kb hBw1 H1 hW2 hgB
 go_wp2_with fail
 go_loopw [17] (fun s17 wr => ∃ i : Nat, i ≤ n ∧ s17 = .int .i64 (i : Nat) ∧ Hid (W2.grownBy wr (Value.slice pa n pc).ownBlock ∧ wr.ownsRow B 36 2 (.slice pa n pc) n (qcs (ptsF (fun k => if k < i then plp (f k) else f k) n)))) (fun s17 _ => n - (intOf s17).toNat)
 case atStart => exact ⟨0, Nat.zero_le _, rfl, Lib.hid ⟨⟨rfl, rfl, rfl, Nat.le_refl _, fun _ _ _ => rfl⟩, by have h := HR2.out.1; simpa using h⟩⟩
 case round =>
   obtain ⟨i, hi, rfl, hI⟩ := hrel
   have HBr := Lib.hid (HB2.out.trans (below_grown' hI.out.1 (fun g hg => (HR2.out.1.lt g hg).1) (by have := HB2.out.size; omega)))
   by_cases hlt : i < n
   · have hlt' : (i : Int) < (n : Int) := by omega
     have hlt2 : ¬ n ≤ i := by omega
     have hi0 : (0 : Int) ≤ (i : Int) := by omega
     obtain ⟨sg, so, rfl, hsg, hcell⟩ := HP.out.some (by omega)
     have c1 := cell_later (hB ▸ HBr.out) (hcell i hlt).1
     have c2 := cell_later (hB ▸ HBr.out) (hcell i hlt).2
     obtain ⟨x, hx⟩ : ∃ x, (f i).1 = x := ⟨_, rfl⟩
     obtain ⟨y, hy⟩ : ∃ y, (f i).2 = y := ⟨_, rfl⟩
     rw [hx] at c1
     rw [hy] at c2
     obtain ⟨pg, hpg, hpo⟩ : ∃ pg, pa = some ⟨pg, 0, none⟩ ∧ (Value.slice pa n pc).ownBlock = some pg := by
       rcases hI.out.2.2 with ⟨_, h0⟩ | ⟨g, cap, cur, e, _⟩
       · omega
       · injection e with e1 _ _
         exact ⟨g, e1, by rw [e1]; rfl⟩
     have HI := Lib.hid (hpo ▸ hI.out)
     have HO2 := Lib.hid (hpo ▸ (fun g hg => HR2.out.1.lt g hg) : ∀ g, some pg = some g → B ≤ g ∧ g < W2.heap.size)
     subst hpg
     have HXY : Hid (plp (f i) = (pz x, pz y)) := Lib.hid (by unfold plp; rw [hx, hy])
     have n1 : gB ≠ pg := fun e => own_cb HR2.out.1 HK2.out (by decide) (by rw [e]; rfl)
     have HGc : Hid (wr.cell? ⟨gB, 0, none⟩ = some (.slice (some ⟨pg, 0, none⟩) n pc)) := Lib.hid (by
       rw [World.cell?_of_block (HI.out.1.block gB HK2.out.lt (fun e => n1 (Option.some.inj e)))]; exact HK2.out.cell 0 (by simp))
     have kpx := HI.out.2.cellAt (i * 2) (by omega)
     have kpy := HI.out.2.cellAt (i * 2 + 1) (by omega)
     obtain ⟨qx, qy⟩ := qcs_at (ptsF_at (fun k => if k < i then plp (f k) else f k) hlt)
     rw [qx] at kpx
     rw [qy] at kpy
     have HKp := Lib.hid (And.intro kpx kpy)
     obtain ⟨x0, hx0⟩ : ∃ q, ((fun k => if k < i then plp (f k) else f k) i).1 = q := ⟨_, rfl⟩
     obtain ⟨y0, hy0⟩ : ∃ q, ((fun k => if k < i then plp (f k) else f k) i).2 = q := ⟨_, rfl⟩
     rw [hx0, hy0] at HKp
     have HpgW : Hid (pg < wr.heap.size) := Lib.hid (HI.out.2.lt pg rfl).2
     clear hcell hx hy hI hpo qx qy kpx kpy hx0 hy0
     go_wp2_with fail
     obtain ⟨Wb, hWb⟩ : ∃ X, wr.alloc (.cells #[.float .f64 x, .float .f64 y] 36) = X := ⟨_, rfl⟩
     try rw [hWb]
     have b4 : Below wr.heap.size wr Wb := by rw [← hWb]; exact (Below.refl _ _).alloc (Nat.le_refl _) _
     have kx : CB Wb wr.heap.size #[.float .f64 x, .float .f64 y] 36 := by rw [← hWb]; exact CB.new wr _ _
     obtain ⟨bx, hbx'⟩ : ∃ q, wr.heap.size = q := ⟨_, rfl⟩
     have HB4 := Lib.hid b4
     have n2 : bx ≠ pg := by have := HpgW.out; omega
     rw [hbx'] at kx
     have HS0 := Lib.hid (show Wb.drew.cell? ⟨gB, 0, none⟩ = some (.slice (some ⟨pg, 0, none⟩) n pc) ∧ Wb.drew.cell? ⟨bx, 0, none⟩ = some (.float .f64 x) ∧ Wb.drew.cell? ⟨bx, 1, none⟩ = some (.float .f64 y) ∧ Wb.grownBy Wb.drew (some pg) from ⟨(show Wb.cell? _ = _ from cell_later b4 HGc.out), kx.cell 0 (by simp), kx.cell 1 (by simp), ⟨rfl, rfl, rfl, Nat.le_refl _, fun _ _ _ => rfl⟩⟩)
     clear b4 kx hWb
     try rw [hbx']
     clear c1 c2
     refine wp_region_held_drew (S := (fun W => W.cell? ⟨gB, 0, none⟩ = some (.slice (some ⟨pg, 0, none⟩) n pc) ∧ W.cell? ⟨bx, 0, none⟩ = some (.float .f64 x) ∧ W.cell? ⟨bx, 1, none⟩ = some (.float .f64 y) ∧ Wb.grownBy W (some pg))) (by kernel_rfl) HS0.out (fun hS => ?_)
     refine take_at (i := 0) (d := some 22) (v := .pointer (some ⟨gB, 0, none⟩)) (by kernel_rfl) (by kernel_rfl) (by kernel_rfl) (by kernel_rfl) (fun _ _ _ h => h) ?_ hS ?_
     · intro o ho
       replace ho := Option.some.inj (Eq.trans (Eq.symm ho) rfl)
       subst ho
       refine Or.inl ⟨by rfl, ?_⟩
       intro w hSw
       obtain ⟨q1, q2, q3, _⟩ := hSw
       go_simp
     simp only [AP]
     refine take_at (i := 1) (d := some 23) (v := .pointer (some ⟨gB, 0, none⟩)) (by kernel_rfl) (by kernel_rfl) (by kernel_rfl) (by kernel_rfl) (fun _ _ _ h => h) ?_ hS ?_
     · intro o ho
       replace ho := Option.some.inj (Eq.trans (Eq.symm ho) rfl)
       subst ho
       refine Or.inl ⟨by rfl, ?_⟩
       intro w hSw
       obtain ⟨q1, q2, q3, _⟩ := hSw
       go_simp
     simp only [AP]
     refine take_at (i := 2) (d := some 24) (v := .pointer (some ⟨gB, 0, none⟩)) (by kernel_rfl) (by kernel_rfl) (by kernel_rfl) (by kernel_rfl) (fun _ _ _ h => h) ?_ hS ?_
     · intro o ho
       replace ho := Option.some.inj (Eq.trans (Eq.symm ho) rfl)
       subst ho
       refine Or.inl ⟨by rfl, ?_⟩
       intro w hSw
       obtain ⟨q1, q2, q3, _⟩ := hSw
       go_simp
     simp only [AP]
     refine take_at (i := 3) (d := some 25) (v := .slice (some ⟨pg, 0, none⟩) n pc) (by kernel_rfl) (by kernel_rfl) (by kernel_rfl) (by kernel_rfl) (fun _ _ _ h => h) ?_ hS ?_
     · intro o ho
       replace ho := Option.some.inj (Eq.trans (Eq.symm ho) rfl)
       subst ho
       refine Or.inl ⟨by rfl, ?_⟩
       intro w hSw
       obtain ⟨q1, q2, q3, _⟩ := hSw
       go_simp
     simp only [AP]
     refine take_at (i := 4) (d := some 26) (v := .int .i64 (i : Nat)) (by kernel_rfl) (by kernel_rfl) (by kernel_rfl) (by kernel_rfl) (fun _ _ _ h => h) ?_ hS ?_
     · intro o ho
       replace ho := Option.some.inj (Eq.trans (Eq.symm ho) rfl)
       subst ho
       refine Or.inl ⟨by rfl, ?_⟩
       intro w hSw
       obtain ⟨q1, q2, q3, _⟩ := hSw
       go_simp
     simp only [AP]
     refine take_at (i := 5) (d := some 27) (v := .agg #[.float .f64 x, .float .f64 y]) (by kernel_rfl) (by kernel_rfl) (by kernel_rfl) (by kernel_rfl) (fun _ _ _ h => h) ?_ hS ?_
     · intro o ho
       replace ho := Option.some.inj (Eq.trans (Eq.symm ho) rfl)
       subst ho
       refine Or.inl ⟨by rfl, ?_⟩
       intro w hSw
       obtain ⟨q1, q2, q3, _⟩ := hSw
       go_simp
     simp only [AP]
     refine calA 6 fun KF hK => ?_
     rw [if_pos (by rfl)]
     go_simp
     refine (plain_any x y _).mono ?_
     rintro e w4 ⟨rfl, hbx⟩
     go_wp2_with fail
     have HW4 := Lib.hid (And.intro (grown_bel hS.2.2.2 hbx) (And.intro HKp.out HpgW.out))
     refine hK.out _ _ ⟨box_cell hbx hS.1, box_cell hbx hS.2.1, box_cell hbx hS.2.2.1, grown_bel hS.2.2.2 hbx⟩ ?_
     have HBx := Lib.hid hbx
     clear hS hbx
     intro hS
     clear hK KF
     try simp only [AP]
     refine take_at (i := 7) (d := some 29) (v := .pointer (some ⟨pg, i * 2, none⟩)) (by kernel_rfl) (by kernel_rfl) (by kernel_rfl) (by kernel_rfl) (fun _ _ _ h => h) ?_ hS ?_
     · intro o ho
       replace ho := Option.some.inj (Eq.trans (Eq.symm ho) rfl)
       subst ho
       refine Or.inl ⟨by rfl, ?_⟩
       intro w hSw
       obtain ⟨q1, q2, q3, _⟩ := hSw
       go_simp
     simp only [AP]
     have HRw := Lib.hid (own_same (own_same HI.out.2 (fun g hg => HB4.out.block g (HI.out.2.lt g hg).2)) (fun g hg => HBx.out.block g (Nat.lt_of_lt_of_le (HI.out.2.lt g hg).2 HB4.out.size)))
     have k4 := HRw.out.cellAt (i * 2) (by omega)
     have k5 := HRw.out.cellAt (i * 2 + 1) (by omega)
     have z4 := HRw.out.frozenAt (i * 2)
     have z5 := HRw.out.frozenAt (i * 2 + 1)
     obtain ⟨qx, qy⟩ := qcs_at (ptsF_at (fun k => if k < i then plp (f k) else f k) hlt)
     rw [qx] at k4
     rw [qy] at k5
     have HEnd := Lib.hid (store_pt HRw.out hlt (pz x) (pz y) rfl)
     refine calA 8 fun KF hK => ?_
     rw [if_pos (by rfl)]
     refine ok_stPt rfl rfl rfl k4 k5 z4 z5 ?_
     refine hK.out _ _ ⟨set_other n1 hS.1, set_other n2 hS.2.1, set_other n2 hS.2.2.1, gtrans hS.2.2.2 HEnd.out.2⟩ ?_
     have HT := Lib.hid (And.intro HEnd.out.1 (gtrans (gtrans HI.out.1 (gsome (below_grown0 HB4.out))) (gtrans HW4.out.1 HEnd.out.2)))
     clear hS
     intro hS
     clear hK KF
     try simp only [Act.put]
     refine wpAnyH_done (by kernel_rfl) ?_ _
     clear hS k4 k5 z4 z5 qx qy
     go_wp2
     refine ⟨⟨i + 1, by omega, by go_num, Lib.hid ⟨HT.out.2, ?_⟩⟩, by simp [intOf]; omega⟩
     have h9 := HT.out.1
     rw [← HXY.out, pts_step] at h9
     exact h9
   · obtain rfl : i = n := by omega
     have e1 : ptsF (fun k => if k < i then plp (f k) else f k) i = ptsF (fun k => plp (f k)) i := by
       unfold ptsF
       exact List.map_congr_left (fun k hk => by rw [if_pos (List.mem_range.1 hk)])
     have HE := Lib.hid (e1 ▸ hI.out.2)
     have nb : ∀ {b t : Nat} {cs : Array Value}, CB W2 b cs t → 36 ≠ t → CB wr b cs t := fun hb ht => by
       unfold CB at hb ⊢
       rw [hI.out.1.block _ (CB.lt hb) (fun e => own_cb HR2.out.1 hb ht e.symm)]; exact hb
     have HG : Hid (Gd (fun k => B ≤ k ∧ k < wr.heap.size) wr ⟨gB, .slice pa i pc, .slice ra i rc, pm, fm⟩ (ptsF (fun k => plp (f k)) i) (List.replicate i []) (fun _ _ => none) (List.replicate i nilv)) := Lib.hid (gd_new (ptsF_len _ _) h20 (nb HK2.out (by decide)) HgB.out HE.out
       (own_same HR2.out.2 (fun g hg => hI.out.1.block g (HR2.out.2.lt g hg).2 (fun e => own_type HR2.out.2 HR2.out.1 (by decide) hg e.symm)))
       ((hI.out.1.block pm (Array.getElem?_eq_some_iff.1 HM2.out.1).1 (fun e => own_mp HR2.out.1 (mapF_nil HM2.out.1) e.symm)).trans HM2.out.1)
       ((hI.out.1.block fm (Array.getElem?_eq_some_iff.1 HM2.out.2).1 (fun e => own_mp HR2.out.1 (mapF_nil HM2.out.2) e.symm)).trans HM2.out.2) HN2.out.1 HN2.out.2)
     clear nb e1
     go_wp2
     go_ret
     exact ⟨⟨gB, .slice pa i pc, .slice ra i rc, pm, fm⟩, rfl, HG.out, HBr.out⟩
end Go.Proofs.YtcgbnjoajieggaaGreat
