/- Own texts, put together: Eka. -/
import Derived.Test.YtgfloegaoofbbaaDoorQ4
import Derived.Test.YtgfloegaoofbbaaDoorQ7
import Derived.Test.YtgfloegaoofbbaaDoorQ19
import Derived.Test.YtgfloegaoofbbaaDoorQ23
import Derived.Test.YtgfloegaoofbbaaDoorQ24
import Derived.Laws.Tables
/- The document's side of layer 11: Read: what its walk goes over. -/
namespace Go.Proofs.YtgfloegaoofbbaaDoor
set_option maxRecDepth 100000
open Go.RowKit Go.Shelf Go.Lib
def R11 (p : Pm) (w w' : World) (t : Bs) (e : Ending) : Prop := Below w.heap.size w w' ∧
 ∃ a cap rs f' c' k', e = .returned (.tuple #[.agg #[.int .i64 (f' : Nat), .int .i64 (c' : Nat), .int .i64 (k' : Nat), .slice a rs.length cap], .int .i64 ((reV p t).2.1 : Nat), .int .i64 (reV p t).2.2]) ∧ (reV p t).1 = ⟨(f' : Nat), (c' : Nat), (k' : Nat), rs.map (·.1)⟩ ∧ Eo 49 w' w.heap.size (.slice a rs.length cap) rs
theorem R11.bad {p : Pm} {w W : World} {t : Bs} {at' : Nat} {e : Int} (hb : Below w.heap.size w W) (h : reV p t = (fe0, at', e)) : R11 p w W t (.returned (.tuple #[.agg fe4, .int .i64 (at' : Nat), .int .i64 e])) := by
 unfold R11
 rw [h]
 exact ⟨hb, none, 0, [], 0, 0, 0, rfl, rfl, Eo.nil _ _ _⟩
theorem res_ref11 (W : World) (B : Nat) (a b c d : Value) (n1 n2 : Int) (tmps : Array Value) (h : CB W B #[a, b, c, d] 24)
   (t2 : tmps[2]? = some (.pointer (some ⟨B, 0, none⟩))) (t3 : tmps[3]? = some (.int .i64 n1)) (t4 : tmps[4]? = some (.int .i64 n2)) : (results Tryd.f4 tmps).run Tryd.prog W = .ok (.tuple #[.agg #[a, b, c, d], .int .i64 n1, .int .i64 n2]) W := by
 have c0 := h.cell 0 (by simp)
 have c1 := h.cell 1 (by simp)
 have c2 := h.cell 2 (by simp)
 have c3 := h.cell 3 (by simp)
 simp [results, Tryd.f4, go_sem, c0, c1, c2, c3, t2, t3, t4]
theorem set4_bel {w W : World} (h : Below w.heap.size w W) (a b c d : Value) : Below w.heap.size w ((((W.setCell ⟨w.heap.size, 0, none⟩ a).setCell ⟨w.heap.size, 1, none⟩ b).setCell ⟨w.heap.size, 2, none⟩ c).setCell ⟨w.heap.size, 3, none⟩ d) :=
 (((h.setCell (Nat.le_refl _) _).setCell (Nat.le_refl _) _).setCell (Nat.le_refl _) _).setCell (Nat.le_refl _) _
theorem refIntE (l : Bs) (w : World) (h : l.length ≤ 400) : Calls Tryd.prog 9 #[sv l] w fun e w' => e = .returned (intR (rdInt l)) ∧ Below w.heap.size w w' := by
 have := refInt8_any ⟨l.toArray⟩ w (by rw [Lib.size_eq]; simpa using (by omega : l.length ≤ 1000000))
 simpa using this
theorem refFloatE {p : Pm} (hp : p.Ok) (l : Bs) (w : World) (h : l.length ≤ 400) : Calls Tryd.prog 10 #[sv l] w fun e w' => e = .returned (.tuple #[.float .f64 (p.rf l).1, .int .i64 (p.rf l).2]) ∧ Below w.heap.size w w' :=
 refFloat_any ⟨l.toArray⟩ w (by rw [Lib.size_eq]; simpa using (by omega : l.length ≤ 5000)) _ _ (by simpa using hp.rf l)
def RdE (W : World) (t : Bs) (e : Ending) (w' : World) : Prop := ∃ a c ps, e = .returned (.tuple #[.slice a (rdV t).1.length c, .int .i64 ((rdV t).2.1 : Nat), .int .i64 ((rdV t).2.2 : Nat)]) ∧ Lr 46 w' W.heap.size (.slice a (rdV t).1.length c) ps ∧ tell ps = (rdV t).1 ∧ ps.length = (rdV t).1.length ∧ Below W.heap.size W w'
theorem readDE (s : ByteArray) (t : Bs) (W : World) (ht : s.data.toList = t) (hl : t.length ≤ 16777216) : Calls Tryd.prog 8 #[.string s] W fun e w' => RdE W t e w' := by
 refine (refRead_any s t W ht hl).mono ?_
 rintro e w' ⟨v, ps, rfl, h2, h3, h4⟩
 have hlen : ps.length = (rdV t).1.length := by rw [← h3]; simp [tell]
 obtain ⟨a, c, rfl, _, _, _⟩ := h2.form
 rw [hlen] at h2 ⊢
 exact ⟨a, c, ps, rfl, h2, h3, hlen, h4⟩
theorem intsE_snocR {ws : List Bs} {ns : List Int} {j : Nat} {x : Bs} {n : Int} (h : intsE (ws.take j) = some ns) (hx : ws[j]? = some x) (hn : rdInt x = some n) : intsE (ws.take (j + 1)) = some (ns ++ [n]) := by
 have : ∀ (l : List Bs) (ns : List Int), intsE l = some ns → intsE (l ++ [x]) = some (ns ++ [n]) := by
   intro l
   induction l with
   | nil => intro ns h; cases h; simp [intsE, hn]
   | cons a r ih =>
     intro ns h
     simp only [List.cons_append, intsE] at h ⊢
     cases ha : rdInt a with
     | none => rw [ha] at h; cases h
     | some m =>
       rw [ha] at h
       simp only [] at h ⊢
       cases hr : intsE r with
       | none => rw [hr] at h; cases h
       | some ms =>
         rw [hr] at h
         rw [ih ms hr]
         simp at h ⊢
         rw [← h]; rfl
 obtain ⟨hj, hxe⟩ := List.getElem?_eq_some_iff.1 hx
 rw [List.take_succ_eq_append_getElem hj, hxe]
 exact this _ _ h
theorem intsE_none {ws : List Bs} {j m : Nat} {x : Bs} (hx : ws[j]? = some x) (hn : rdInt x = none) (hm : j < m) : intsE (ws.take m) = none := by
 have : ∀ (l : List Bs), x ∈ l → intsE l = none := by
   intro l
   induction l with
   | nil => intro h; simp at h
   | cons a r ih =>
     intro h
     simp only [intsE]
     rcases List.mem_cons.1 h with rfl | h
     · rw [hn]
     · rw [ih h]
       cases rdInt a <;> rfl
 apply this
 obtain ⟨hj, hxe⟩ := List.getElem?_eq_some_iff.1 hx
 rw [← hxe]
 exact List.mem_take_iff_getElem.2 ⟨j, by omega, rfl⟩
theorem hd_bad {p : Pm} {t : Bs} {no : Nat} {ws : List Bs} {r : List (Nat × List Bs)} (h : (rdV t).2.2 = 0) (hl : (rdV t).1 = (no, ws) :: r) (he : heP ws = none) : reV p t = (fe0, no, 4) := by
 have e : heE ws = 4 := by unfold heE; rw [he]
 rw [re_head h hl (by rw [e]; decide), e]; rfl
structure Rz (w V W : World) (Bf : Nat) (f : Int) (c k : Nat) (lv : Value) (rs : List Rt) : Prop where
 bel : Below V.heap.size V W
 fb : CB W Bf #[.int .i64 f, .int .i64 (c : Nat), .int .i64 (k : Nat), lv] 24
 hV : V.heap.size ≤ Bf
 eo : Eo 49 W (Bf + 1) lv rs
theorem Rz.later {w V W W' : World} {Bf : Nat} {f : Int} {c k : Nat} {lv : Value} {rs : List Rt} (h : Rz w V W Bf f c k lv rs) (hb : Below W.heap.size W W') : Rz w V W' Bf f c k lv rs :=
 ⟨h.bel.trans (hb.mono h.bel.size), h.fb.later hb, h.hV, h.eo.later hb⟩
section
variable {a : Act} {W : World} {o : Oper} {K : Act → World → Prop} {Q : Exit → Act → World → Prop}
theorem ok_allocF (ho : o.op = .alloc 24) (h : K (a.put o.dst (.pointer (some ⟨W.heap.size, 0, none⟩))) (W.alloc (.cells fe4 24))) : Oper.wp Tryd.prog o a W K Q := by
 unfold Oper.wp execOp
 rw [ho]
 go_simp
 exact h
theorem ok_storeF {x y : Operand} {B : Nat} {a0 a1 a2 a3 b0 b1 b2 b3 : Value} (ho : o.op = .store 24 x y) (hx : a.eval x = .pointer (some ⟨B, 0, none⟩)) (hy : a.eval y = .agg #[b0, b1, b2, b3]) (hB : CB W B #[a0, a1, a2, a3] 24) (h1 : (#[b0, b1, b2, b3] : Array Value).all (·.oneCell') = true)
   (h : ∀ W', CB W' B #[b0, b1, b2, b3] 24 → Ob B W W' → K (a.put o.dst undef) W') : Oper.wp Tryd.prog o a W K Q :=
 wp_store_row 24 x y ho B #[b0, b1, b2, b3] hx hy 24 #[a0, a1, a2, a3] hB (by kernel_rfl) rfl h1
   (h _ (setRow_heap W B _ _ _ _ hB) ⟨rfl, rfl, rfl, by rw [setRow_size]; exact Nat.le_refl _, fun k _ hk => setRow_other W B k _ hk⟩)
end
theorem fst1_is {L : List (Nat × List Bs)} {nq c : Nat} {ws : List Bs} {m0 : Int} {nt : List Int} (hq : L[0]? = some (nq, ws)) (hi : intsE (ws.take (1 + c)) = some (m0 :: nt)) : (m0 = 0 ∨ m0 = 1) ↔ m0 = ((fst1 L : Nat) : Int) := by
 rcases L with _ | ⟨⟨n', ws'⟩, L'⟩
 · simp at hq
 · simp at hq
   obtain ⟨rfl, rfl⟩ := hq
   rcases ws' with _ | ⟨x, r⟩
   · simp [intsE] at hi
   · rw [Nat.add_comm 1 c, List.take_succ_cons] at hi
     simp only [intsE] at hi
     cases hx : rdInt x with
     | none => rw [hx] at hi; cases hi
     | some m =>
       rw [hx] at hi
       simp only [] at hi
       cases hr : intsE (r.take c) with
       | none => rw [hr] at hi; cases hi
       | some ms =>
         rw [hr] at hi
         simp at hi
         obtain ⟨rfl, _⟩ := hi
         have hxi := (rd_iff.1 hx).2
         have h1 : itoa 1 = [49] := (itoa_rd (l := [49]) (n := 1) (by decide)).2
         have h0 : itoa 0 = [48] := (itoa_rd (l := [48]) (n := 0) (by decide)).2
         show _ ↔ m = (((if (x :: r).getD 0 [] = [49] then 1 else 0 : Nat)) : Int)
         rw [List.getD_cons_zero]
         by_cases hm : m = 1
         · subst hm
           rw [h1] at hxi
           rw [if_pos hxi.symm]; simp
         · by_cases hm0 : m = 0
           · subst hm0
             rw [h0] at hxi
             rw [if_neg (by rw [← hxi]; decide)]; simp
           · have hne : ¬ x = [49] := fun e => hm (by
               rw [e] at hx
               have : rdInt [49] = some 1 := by decide
               rw [this] at hx
               exact (Option.some.inj hx).symm)
             rw [if_neg hne]
             constructor
             · rintro (e | e)
               · exact e
               · exact absurd e hm
             · intro e; exact Or.inl e
structure Rr (V W : World) (Br : Nat) (tv av : Value) (ts : List Int) (xs : List Nat) : Prop where
 bel : Below V.heap.size V W
 rb : CB W Br #[tv, av] 49
 hB : V.heap.size ≤ Br
 ot : W.ownsRow (Br + 1) 3 1 tv ts.length (isV ts)
 oa : W.ownsRow (Br + 1) 39 1 av xs.length (f64s xs)
theorem Rr.later {V W W' : World} {Br : Nat} {tv av : Value} {ts : List Int} {xs : List Nat} (h : Rr V W Br tv av ts xs) (hb : Below W.heap.size W W') : Rr V W' Br tv av ts xs :=
 ⟨h.bel.trans (hb.mono h.bel.size), h.rb.later hb, h.hB, own_later h.ot hb, own_later h.oa hb⟩
theorem Rr.growT {V W W' : World} {Br : Nat} {tv tv' av : Value} {ts : List Int} {xs : List Nat} {n : Int} (h : Rr V W Br tv av ts xs) (hown : W'.ownsRow (Br + 1) 3 1 tv' (ts.length + 1) (isV ts ++ [.int .i64 n])) (hg : W.grownBy W' tv.ownBlock) :
   (W'.cell? ⟨Br, 0, none⟩ = some tv ∧ W'.frozen? ⟨Br, 0, none⟩ = false) ∧ Rr V (W'.setCell ⟨Br, 0, none⟩ tv') Br tv' av (ts ++ [n]) xs := by
 have hB := h.hB
 have hb : Below V.heap.size V W' := h.bel.grown hg h.bel.size (fun b hb => by have := (World.ownsRow.lt h.ot b hb).1; omega)
 have hrb : CB W' Br #[tv, av] 49 := by
   unfold CB
   rw [hg.block _ h.rb.lt (fun e => by have := (World.ownsRow.lt h.ot _ e.symm).1; omega)]
   exact h.rb
 have ho := Ob.set Br 0 W' tv'
 refine ⟨⟨hrb.cell 0 (by simp), hrb.frozen 0⟩, ⟨hb.setCell (by show V.heap.size ≤ Br; omega) _, by have := hrb.set 0 tv'; simpa using this, hB, ?_, ?_⟩⟩
 · rw [List.length_append, isV_app]
   exact own_obE hown ho (by omega)
 · refine own_obE ?_ ho (by omega)
   refine World.ownsRow.kept h.oa hg ?_
   rcases h.oa.2 with ⟨h1, _⟩ | ⟨g, cap, cur, h1, h2, h3, h4⟩
   · left; rw [h1]; rfl
   · right
     rw [h1]
     intro e
     rcases h.ot.2 with ⟨k1, _⟩ | ⟨g', cap', cur', k1, k2, k3, k4⟩
     · rw [k1] at e; cases e
     · rw [k1] at e
       have e' : g = g' := by simpa [Value.ownBlock] using e
       subst e'
       rw [h3] at k3
       cases k3
theorem Rr.growA {V W W' : World} {Br : Nat} {tv av av' : Value} {ts : List Int} {xs : List Nat} {x : Nat} (h : Rr V W Br tv av ts xs) (hown : W'.ownsRow (Br + 1) 39 1 av' (xs.length + 1) (f64s xs ++ [.float .f64 x])) (hg : W.grownBy W' av.ownBlock) :
   (W'.cell? ⟨Br, 1, none⟩ = some av ∧ W'.frozen? ⟨Br, 1, none⟩ = false) ∧ Rr V (W'.setCell ⟨Br, 1, none⟩ av') Br tv av' ts (xs ++ [x]) := by
 have hB := h.hB
 have hb : Below V.heap.size V W' := h.bel.grown hg h.bel.size (fun b hb => by have := (World.ownsRow.lt h.oa b hb).1; omega)
 have hrb : CB W' Br #[tv, av] 49 := by
   unfold CB
   rw [hg.block _ h.rb.lt (fun e => by have := (World.ownsRow.lt h.oa _ e.symm).1; omega)]
   exact h.rb
 have ho := Ob.set Br 1 W' av'
 refine ⟨⟨hrb.cell 1 (by simp), hrb.frozen 1⟩, ⟨hb.setCell (by show V.heap.size ≤ Br; omega) _, by have := hrb.set 1 av'; simpa using this, hB, ?_, ?_⟩⟩
 · refine own_obE ?_ ho (by omega)
   refine World.ownsRow.kept h.ot hg ?_
   rcases h.ot.2 with ⟨h1, _⟩ | ⟨g, cap, cur, h1, h2, h3, h4⟩
   · left; rw [h1]; rfl
   · right
     rw [h1]
     intro e
     rcases h.oa.2 with ⟨k1, _⟩ | ⟨g', cap', cur', k1, k2, k3, k4⟩
     · rw [k1] at e; cases e
     · rw [k1] at e
       have e' : g = g' := by simpa [Value.ownBlock] using e
       subst e'
       rw [h3] at k3
       cases k3
 · rw [List.length_append]
   have := own_obE hown ho (by omega)
   simpa [f64s] using this
section
variable {a : Act} {W : World} {o : Oper} {K : Act → World → Prop} {Q : Exit → Act → World → Prop}
theorem ok_oneI {t : Nat} {n : Int} (ho : o.op = .buildSlice 35 1 #[(0, .tmp t)]) (hv : a.eval (.tmp t) = .int .i64 n) (h : K (a.put o.dst (.slice (some ⟨W.heap.size, 0, none⟩) 1 1)) (W.alloc (.cells #[.int .i64 n] 3))) : Oper.wp Tryd.prog o a W K Q := by
 unfold Oper.wp execOp
 rw [ho]
 simp only [List.map_toArray, List.map_cons, List.map_nil, hv]
 go_simp
 exact h
theorem ok_stI {t u B i : Nat} {x y : Option Addr} {n m c d : Nat} (ho : o.op = .store 35 (.tmp t) (.tmp u)) (hv : a.eval (.tmp t) = .pointer (some ⟨B, i, none⟩)) (hu : a.eval (.tmp u) = .slice x n c) (hc : W.cell? ⟨B, i, none⟩ = some (.slice y m d)) (hf : W.frozen? ⟨B, i, none⟩ = false) (h : K (a.put o.dst undef) (W.setCell ⟨B, i, none⟩ (.slice x n c))) : Oper.wp Tryd.prog o a W K Q := by
 unfold Oper.wp execOp
 rw [ho]
 simp only [hv, hu]
 go_simp
 exact h
end
section
variable {P : Program} {ops : Array Oper} {Q : Exit → Act → World → Prop} {md : Region.Mode} {S : World → Prop}
theorem two_at (i j : Nat) {fuel : Nat} {listed : Array Bool} {a : Act} {w : World} (hr : Region.ready md ops listed = [i, j])
   (hi : (ops[i]?).isSome = true) (hj : (ops[j]?).isSome = true)
   (h : ∀ o, ops[i]? = some o → ∀ K' : Act → World → Prop, Shut (∀ a w, S w → (S w → wpAnyH P md ops Q S fuel (listed.setIfInBounds i true) a w) → K' a w) → if Region.wanted o (yielded ops a.tmps) = true then Oper.wp P o a w K' Q else K' (a.put o.dst undef) w)
   (h2 : ∀ o, ops[j]? = some o → ∀ K' : Act → World → Prop, Shut (∀ a w, S w → (S w → wpAnyH P md ops Q S fuel (listed.setIfInBounds j true) a w) → K' a w) → if Region.wanted o (yielded ops a.tmps) = true then Oper.wp P o a w K' Q else K' (a.put o.dst undef) w) :
   wpAnyH P md ops Q S (fuel + 1) listed a w := by
 obtain ⟨o, ho⟩ := Option.isSome_iff_exists.1 hi
 obtain ⟨o2, ho2⟩ := Option.isSome_iff_exists.1 hj
 exact wpAnyH_ready hr (by simp) (AllReadyH.cons ho (h o ho) (AllReadyH.cons ho2 (h2 o2 ho2) AllReadyH.nil))
end
theorem split_at {α : Type} {l : List α} {m : Nat} {x : α} (h : l[m]? = some x) : l = l.take m ++ x :: l.drop (m + 1) := by
 obtain ⟨h1, h2⟩ := List.getElem?_eq_some_iff.1 h
 rw [← h2, ← List.drop_eq_getElem_cons h1, List.take_append_drop]
theorem cor_bad {p : Pm} {F f' c k jj m nws : Nat} {ws : List Bs} {m0 mv : Int} {nt : List Int} (hi : intsE (ws.take (1 + c)) = some (m0 :: nt)) (hn : ws.length = nws) (hl : nws = 1 + c + k) (h0 : m0 = ((f' : Nat) : Int) + (jj : Nat)) (hF : F = f') (hm : nt[m]? = some mv) (hz : ∀ x ∈ nt.take m, corE f' x = 0) (he : corE f' mv = 11) : rwE p F c k jj ws = 11 := by
 subst hF
 rw [rwE_is hi (by rw [hn, hl]) h0, split_at hm, List.map_append, List.map_cons, List.append_assoc, List.cons_append, he]
 exact fst0_first (fun e h => by
   obtain ⟨x, hx, rfl⟩ := List.mem_map.1 h
   exact hz x hx) (by decide)
theorem flt_bad {p : Pm} {F f' c k jj m nws : Nat} {ws : List Bs} {m0 e : Int} {nt : List Int} {x : Bs} (hi : intsE (ws.take (1 + c)) = some (m0 :: nt)) (hn : ws.length = nws) (hl : nws = 1 + c + k) (h0 : m0 = ((f' : Nat) : Int) + (jj : Nat)) (hF : F = f') (hz : ∀ x ∈ nt, corE f' x = 0) (hm : (ws.drop (1 + c))[m]? = some x) (hf : ∀ y ∈ (ws.drop (1 + c)).take m, (p.rf y).2 = 0) (he : (p.rf x).2 = e) (h9 : e ≠ 0) : rwE p F c k jj ws = e := by
 subst hF
 rw [rwE_is hi (by rw [hn, hl]) h0]
 have e1 : (ws.drop (1 + c)).map (fun w => (p.rf w).2) = ((ws.drop (1 + c)).take m).map (fun w => (p.rf w).2) ++ e :: ((ws.drop (1 + c)).drop (m + 1)).map (fun w => (p.rf w).2) := by
   conv => lhs; rw [split_at hm]
   rw [List.map_append, List.map_cons, he]
 rw [e1, ← List.append_assoc]
 exact fst0_first (fun e h => by
   rcases List.mem_append.1 h with h | h
   · obtain ⟨x, hx, rfl⟩ := List.mem_map.1 h
     exact hz x hx
   · obtain ⟨x, hx, rfl⟩ := List.mem_map.1 h
     exact hf x hx) h9
theorem fst0_zeroR : ∀ (l : List Int), (∀ e ∈ l, e = 0) → fst0 l = 0
 | [], _ => rfl
 | a :: r, h => by
   rw [fst0, if_pos (h a (by simp))]
   exact fst0_zeroR r (fun e he => h e (by simp [he]))
theorem row_ok {p : Pm} {F f' c k jj nws : Nat} {ws : List Bs} {m0 : Int} {nt : List Int} (hi : intsE (ws.take (1 + c)) = some (m0 :: nt)) (hn : ws.length = nws) (hl : nws = 1 + c + k) (h0 : m0 = ((f' : Nat) : Int) + (jj : Nat)) (hF : F = f') (hz : ∀ x ∈ nt, corE f' x = 0) (hf : ∀ y ∈ ws.drop (1 + c), (p.rf y).2 = 0) : rwE p F c k jj ws = 0 ∧ rwV p F c ws = ⟨nt.map (· - ((f' : Nat) : Int)), (ws.drop (1 + c)).map fun w => (p.rf w).1⟩ := by
 subst hF
 constructor
 · rw [rwE_is hi (by rw [hn, hl]) h0]
   refine fst0_zeroR _ (fun e h => ?_)
   rcases List.mem_append.1 h with h | h
   · obtain ⟨x, hx, rfl⟩ := List.mem_map.1 h
     exact hz x hx
   · obtain ⟨x, hx, rfl⟩ := List.mem_map.1 h
     exact hf x hx
 · unfold rwV
   rw [hi]
   rfl
theorem Rz.append {w V W W' : World} {Bf : Nat} {f : Int} {c k : Nat} {lv lv' : Value} {rs : List Rt} {q : Rt} (h : Rz w V W Bf f c k lv rs) (hq : Co W (Bf + 1) 3 q.2.1 (isV q.1.t) ∧ Co W (Bf + 1) 39 q.2.2 (f64s q.1.a)) (hown : W'.ownsRow (Bf + 1) 49 2 lv' (rs.length + 1) (rcs rs ++ [q.2.1, q.2.2])) (hg : W.grownBy W' lv.ownBlock) :
   (W'.cell? ⟨Bf, 3, none⟩ = some lv ∧ W'.frozen? ⟨Bf, 3, none⟩ = false) ∧ Rz w V (W'.setCell ⟨Bf, 3, none⟩ lv') Bf f c k lv' (rs ++ [q]) := by
 have hV := h.hV
 have hfb : CB W' Bf #[.int .i64 f, .int .i64 (c : Nat), .int .i64 (k : Nat), lv] 24 := by
   unfold CB
   rw [hg.block _ h.fb.lt (fun e => by have := (h.eo.own.lt _ e.symm).1; omega)]
   exact h.fb
 have her := h.eo.grew (by decide) (by decide) hq hown hg
 have ho := Ob.set Bf 3 W' lv'
 have hb : Below V.heap.size V W' := h.bel.grown hg h.bel.size (fun b hb => by have := (h.eo.own.lt b hb).1; omega)
 exact ⟨⟨hfb.cell 3 (by simp), hfb.frozen 3⟩, hb.setCell (by show V.heap.size ≤ Bf; omega) _, by have := hfb.set 3 lv'; simpa using this, hV, her.ob ho (by omega)⟩
end Go.Proofs.YtgfloegaoofbbaaDoor
