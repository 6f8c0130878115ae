/- Own texts, put together: Efh Efl. -/
import Derived.Test.YtgoadpnoagaflaaDoorQ35
import Derived.Test.YtgoadpnoagaflaaDoorQ38
namespace Go.Proofs.YtgoadpnoagaflaaDoor
/- Package elefile: triangles in memory; what filled tells. -/
section
set_option maxRecDepth 100000
open Go.RowKit Go.Shelf Go.Lib
abbrev Rt := Rw × Value × Value
def rcs (rs : List Rt) : List Value := rs.flatMap fun q => [q.2.1, q.2.2]
theorem rcs_app (rs : List Rt) (q : Rt) : rcs (rs ++ [q]) = rcs rs ++ [q.2.1, q.2.2] := by simp [rcs]
theorem rcs_at : ∀ (rs : List Rt) (k : Nat) (q : Rt), rs[k]? = some q → (rcs rs)[k * 2]? = some q.2.1 ∧ (rcs rs)[k * 2 + 1]? = some q.2.2 := by
 intro rs
 induction rs with
 | nil => intro k q h; simp at h
 | cons a r ih =>
   intro k q h
   have e : rcs (a :: r) = [a.2.1, a.2.2] ++ rcs r := rfl
   cases k with
   | zero =>
     obtain rfl : a = q := by simpa using h
     exact ⟨rfl, rfl⟩
   | succ k =>
     have := ih k q (by simpa using h)
     rw [e, show (k + 1) * 2 = k * 2 + 2 by omega]
     exact ⟨by simpa using this.1, by simpa using this.2⟩
theorem Co.kept {W W' : World} {B t base e size n : Nat} {v v2 : Value} {xs ys : List Value} (h : Co W B t v xs) (h2 : W.ownsRow base e size v2 n ys) (ht : t ≠ e) (hg : W.grownBy W' v2.ownBlock) : Co W' B t v xs := by
 obtain ⟨a, c, h1, h3, h4, h5⟩ := h
 refine ⟨a, c, h1, h3, h4, ?_⟩
 rcases h5 with h5 | ⟨g, off, cur, g1, g2, g3, g4⟩
 · exact Or.inl h5
 · refine Or.inr ⟨g, off, cur, g1, g2, ?_, g4⟩
   have hl := g3.lt
   unfold CB at g3 ⊢
   rw [hg.block g hl (fun e' => ?_)]
   · exact g3
   · rcases h2.2 with ⟨rfl, _⟩ | ⟨g5, cap2, cur2, rfl, _, hgb2, _⟩
     · simp [Value.ownBlock] at e'
     · obtain rfl : g = g5 := by simpa [Value.ownBlock] using e'
       rw [g3] at hgb2
       simp at hgb2
       exact ht hgb2.2
theorem Co.alloc {W : World} {B t : Nat} {v : Value} {xs : List Value} (h : Co W B t v xs) (o : Obj) : Co (W.alloc o) B t v xs := h.later ((Below.refl _ W).alloc (Nat.le_refl _) o)
structure Er (W : World) (B : Nat) (v : Value) (rs : List Rt) : Prop where
 own : W.ownsRow B 34 2 v rs.length (rcs rs)
 sub : ∀ q ∈ rs, Co W B 3 q.2.1 (isV q.1.t) ∧ Co W B 35 q.2.2 (f64s q.1.a)
theorem Er.nil {W : World} {B : Nat} {v : Value} (h : W.ownsRow B 34 2 v 0 []) : Er W B v [] := ⟨h, fun q hq => by simp at hq⟩
theorem Er.later {W W' : World} {B : Nat} {v : Value} {rs : List Rt} (h : Er W B v rs) (hb : Below W.heap.size W W') : Er W' B v rs := ⟨own_later h.own hb, fun q hq => ⟨(h.sub q hq).1.later hb, (h.sub q hq).2.later hb⟩⟩
theorem Er.base {W : World} {B B' : Nat} {v : Value} {rs : List Rt} (h : Er W B v rs) (hb : B' ≤ B) : Er W B' v rs := ⟨own_base h.own hb, fun q hq => ⟨(h.sub q hq).1.base hb, (h.sub q hq).2.base hb⟩⟩
theorem Er.ob {W W' : World} {B C : Nat} {v : Value} {rs : List Rt} (h : Er W B v rs) (ho : Ob C W W') (hC : C < B) : Er W' B v rs := ⟨own_obE h.own ho hC, fun q hq => ⟨(h.sub q hq).1.ob ho hC, (h.sub q hq).2.ob ho hC⟩⟩
theorem Er.grew {W W2 : World} {B : Nat} {v v' : Value} {rs : List Rt} {q : Rt} {tmp : Obj} (h : Er W B v rs) (hq : Co W B 3 q.2.1 (isV q.1.t) ∧ Co W B 35 q.2.2 (f64s q.1.a)) (hown : W2.ownsRow B 34 2 v' (rs.length + 1) (rcs rs ++ [q.2.1, q.2.2])) (hg : (W.alloc tmp).grownBy W2 v.ownBlock) : Er W2 B v' (rs ++ [q]) := by
 refine ⟨by rw [List.length_append, rcs_app]; exact hown, fun s hs => ?_⟩
 have key : Co W B 3 s.2.1 (isV s.1.t) ∧ Co W B 35 s.2.2 (f64s s.1.a) := by
   rcases List.mem_append.1 hs with e | e
   · exact h.sub s e
   · rw [List.mem_singleton.1 e]; exact hq
 exact ⟨(key.1.alloc tmp).kept (h.own.alloc tmp) (by decide) hg, (key.2.alloc tmp).kept (h.own.alloc tmp) (by decide) hg⟩
structure Fi (w W : World) (f c k : Nat) (lv : Value) (rs : List Rt) : Prop where
 bel : Below w.heap.size w W
 fb : CB W w.heap.size #[.int .i64 (f : Nat), .int .i64 (c : Nat), .int .i64 (k : Nat), lv] 28
 rb : CB W (w.heap.size + 1) fe4 28
 er : Er W (w.heap.size + 2) lv rs
theorem Fi.later {w W W' : World} {f c k : Nat} {lv : Value} {rs : List Rt} (h : Fi w W f c k lv rs) (hb : Below W.heap.size W W') : Fi w W' f c k lv rs := ⟨h.bel.trans (hb.mono h.bel.size), h.fb.later hb, h.rb.later hb, h.er.later hb⟩
theorem Fi.first {w W : World} {f c k : Nat} {lv : Value} {rs : List Rt} (h : Fi w W f c k lv rs) : Fi w (W.setCell ⟨w.heap.size, 0, none⟩ (.int .i64 1)) 1 c k lv rs := by
 have ho := Ob.set w.heap.size 0 W (.int .i64 1)
 exact ⟨h.bel.setCell (Nat.le_refl _) _, by have := h.fb.set 0 (.int .i64 1); simpa using this, h.rb.other (by omega) _, h.er.ob ho (by omega)⟩
theorem Fi.append {w W W2 : World} {f c k : Nat} {lv lv' : Value} {rs : List Rt} {q : Rt} {tmp : Obj} (h : Fi w W f c k lv rs) (hq : Co W (w.heap.size + 2) 3 q.2.1 (isV q.1.t) ∧ Co W (w.heap.size + 2) 35 q.2.2 (f64s q.1.a)) (hown : W2.ownsRow (w.heap.size + 2) 34 2 lv' (rs.length + 1) (rcs rs ++ [q.2.1, q.2.2])) (hg : (W.alloc tmp).grownBy W2 lv.ownBlock) :
   (W2.cell? ⟨w.heap.size, 3, none⟩ = some lv ∧ W2.frozen? ⟨w.heap.size, 3, none⟩ = false) ∧ Fi w (W2.setCell ⟨w.heap.size, 3, none⟩ lv') f c k lv' (rs ++ [q]) := by
 have hfb := h.fb.grewE h.er.own (by omega) hg
 have hrb := h.rb.grewE h.er.own (by omega) hg
 have her := h.er.grew hq hown hg
 have ho := Ob.set w.heap.size 3 W2 lv'
 have hob : Ob (w.heap.size + 1) w W2 := ⟨hg.os.trans h.bel.os, hg.tape.trans h.bel.tape, hg.output.trans h.bel.output, by have := hg.size; have := h.bel.size; simp at *; omega, fun b hb hn => by
   have hs := h.bel.size
   rw [hg.block b (by simp; omega) (fun e => by have := (h.er.own.lt b e.symm).1; omega), Below.heap_alloc _ _ _ (by omega)]
   exact h.bel.block b hb⟩
 exact ⟨⟨hfb.cell 3 (by simp), hfb.frozen 3⟩, (hob.below (by omega) (Nat.le_refl _)).setCell (Nat.le_refl _) _, by have := hfb.set 3 lv'; simpa using this, hrb.other (by omega) _, her.ob ho (by omega)⟩
def FiR (p : Pm) (w w' : World) (n c k : Nat) (L : List (Nat × List Bs)) (e : Ending) : Prop := Below w.heap.size w w' ∧
 ∃ a cap rs f' c' k', e = .returned (.tuple #[.agg #[.int .i64 (f' : Nat), .int .i64 (c' : Nat), .int .i64 (k' : Nat), .slice a rs.length cap], .int .i64 ((flV p n c k L).2.1 : Nat), .int .i64 (flV p n c k L).2.2]) ∧ (flV p n c k L).1 = ⟨(f' : Nat), (c' : Nat), (k' : Nat), rs.map (·.1)⟩ ∧ Er w' w.heap.size (.slice a rs.length cap) rs
theorem FiR.bad {p : Pm} {w W : World} {n c k at' : Nat} {L : List (Nat × List Bs)} {e : Int} (hb : Below w.heap.size w W) (h : flV p n c k L = (fe0, at', e)) : FiR p w W n c k L (.returned (.tuple #[.agg fe4, .int .i64 (at' : Nat), .int .i64 e])) := by
 unfold FiR
 rw [h]
 exact ⟨hb, none, 0, [], 0, 0, 0, rfl, rfl, Er.nil (World.ownsRow_nil _ _ _ _)⟩
end

/- Package elefile: numbers and triangles that are handed in; slices.ContainsFunc as the package asks it. -/
section
set_option maxRecDepth 100000
open Go.RowKit Go.Shelf Go.Lib
structure Is (W : World) (v : Value) (ns : List Int) : Prop where
 form : ∃ a c, v = .slice a ns.length c ∧ ns.length ≤ c ∧ c ≤ 9223372036854775807 ∧ (ns = [] ∨ ∃ g off, a = some ⟨g, off, none⟩ ∧ ∀ k, k < ns.length → W.cell? ⟨g, off + k, none⟩ = some (.int .i64 (ns.getD k 0)))
 rng : ∀ n ∈ ns, InR n
theorem Is.later {w w' : World} {s : Value} {bs : List Int} (h : Is w s bs) (hb : Below w.heap.size w w') : Is w' s bs := by
 obtain ⟨⟨a, c, hs, hc, hm, hf⟩, h2⟩ := h
 refine ⟨⟨a, c, hs, hc, hm, ?_⟩, h2⟩
 rcases hf with hf | ⟨g, off, ha, hf⟩
 · exact Or.inl hf
 · exact Or.inr ⟨g, off, ha, fun k hk => box_cell hb (hf k hk)⟩
theorem Co.is {W : World} {B t : Nat} {v : Value} {ns : List Int} (h : Co W B t v (isV ns)) (hr : ∀ n ∈ ns, InR n) : Is W v ns := by
 obtain ⟨a, c, h1, h2, h3, h4⟩ := h
 have hl : (isV ns).length = ns.length := by simp [isV]
 rw [hl] at h1 h2
 refine ⟨⟨a, c, h1, h2, h3, ?_⟩, hr⟩
 rcases h4 with h4 | ⟨g, off, cur, h5, h6, h7, h8⟩
 · exact Or.inl (List.length_eq_zero_iff.1 (by rw [← hl, h4]; rfl))
 · refine Or.inr ⟨g, off, h5, fun k hk => ?_⟩
   have h9 := h8 k (.int .i64 (ns.getD k 0)) (by simp [isV, List.getD, List.getElem?_eq_getElem hk])
   obtain ⟨hlt, he⟩ := Array.getElem?_eq_some_iff.1 h9
   rw [h7.cell (off + k) hlt, he]
theorem Co.fs {W : World} {B t : Nat} {v : Value} {ns : List Nat} (h : Co W B t v (f64s ns)) (hr : ∀ n ∈ ns, n < 18446744073709551616) : Fs W v ns := by
 obtain ⟨a, c, h1, h2, h3, h4⟩ := h
 have hl : (f64s ns).length = ns.length := by simp [f64s]
 rw [hl] at h1 h2
 refine ⟨⟨a, c, h1, h2, h3, ?_⟩, hr⟩
 rcases h4 with h4 | ⟨g, off, cur, h5, h6, h7, h8⟩
 · exact Or.inl (List.length_eq_zero_iff.1 (by rw [← hl, h4]; rfl))
 · refine Or.inr ⟨g, off, h5, fun k hk => ?_⟩
   have h9 := h8 k (.float .f64 (ns.getD k 0)) (by simp [f64s, List.getD, List.getElem?_eq_getElem hk])
   obtain ⟨hlt, he⟩ := Array.getElem?_eq_some_iff.1 h9
   rw [h7.cell (off + k) hlt, he]
structure Rv (W : World) (v : Value) (rs : List Rt) : Prop where
 form : ∃ a c, v = .slice a rs.length c ∧ rs.length ≤ c ∧ c ≤ 9223372036854775807 ∧ (rs = [] ∨ ∃ g off, a = some ⟨g, off, none⟩ ∧ g < W.heap.size ∧ ∀ k p, rs[k]? = some p → W.cell? ⟨g, off + k * 2, none⟩ = some p.2.1 ∧ W.cell? ⟨g, off + k * 2 + 1, none⟩ = some p.2.2)
 sub : ∀ p ∈ rs, Is W p.2.1 p.1.t ∧ Fs W p.2.2 p.1.a
theorem Rv.later {W W' : World} {v : Value} {ns : List Rt} (h : Rv W v ns) (hb : Below W.heap.size W W') : Rv W' v ns := by
 obtain ⟨⟨a, c, h1, h2, h3, h4⟩, h5⟩ := h
 refine ⟨⟨a, c, h1, h2, h3, ?_⟩, fun p hp => ⟨(h5 p hp).1.later hb, (h5 p hp).2.later hb⟩⟩
 rcases h4 with h4 | ⟨g, off, h6, h7, h8⟩
 · exact Or.inl h4
 · exact Or.inr ⟨g, off, h6, Nat.lt_of_lt_of_le h7 hb.size, fun k p hp => ⟨cell_later hb h7 (h8 k p hp).1, cell_later hb h7 (h8 k p hp).2⟩⟩
theorem Er.rv {W : World} {B : Nat} {v : Value} {rs : List Rt} (h : Er W B v rs) (hr : ∀ q ∈ rs, (∀ n ∈ q.1.t, InR n) ∧ ∀ x ∈ q.1.a, x < 18446744073709551616) : Rv W v rs := by
 refine ⟨?_, fun p hp => ⟨(h.sub p hp).1.is (hr p hp).1, (h.sub p hp).2.fs (hr p hp).2⟩⟩
 have h0 := h.own
 rcases h.own.2 with ⟨h1, h2⟩ | ⟨g, cap, cur, rfl, _, h3, h4, h5, _⟩
 · have : rs = [] := List.length_eq_zero_iff.1 h2
   subst this
   exact ⟨none, 0, h1, by simp, by omega, Or.inl rfl⟩
 · refine ⟨_, cap, rfl, h4, by unfold maxLen at h5; omega, Or.inr ⟨g, 0, rfl, (World.ownsRow.lt h0 g rfl).2, fun k p hk => ?_⟩⟩
   have := rcs_at rs k p hk
   refine ⟨own_cellL h0 this.1, ?_⟩
   rw [Nat.add_assoc]; exact own_cellL h0 this.2
theorem endlessE_any (x : Nat) (w : World) (lx : x < 18446744073709551616) : Calls Tryd.prog 43 #[.float .f64 x] w fun e w' => e = .returned (.bool (endl x)) ∧ w' = w := by
 have HN : Hid (∀ w, Calls Tryd.prog 74 #[.float .f64 x] w fun e w' => e = .returned (.bool (isnan x)) ∧ w' = w) := Lib.hid fun w => isNaN_any x w
 have HI : Hid (∀ w, Calls Tryd.prog 75 #[.float .f64 x, .int .i64 0] w fun e w' => e = .returned (.bool (isinf x)) ∧ w' = w) := Lib.hid fun w => isInf0_any x w lx
 unfold endl
 obtain ⟨b1, hb1⟩ : ∃ b, isnan x = b := ⟨_, rfl⟩
 obtain ⟨b2, hb2⟩ : ∃ b, isinf x = b := ⟨_, rfl⟩
 rw [hb1] at HN
 rw [hb2] at HI
 rw [hb1, hb2]
 clear hb1 hb2
 cases b1
 all_goals
   go_enter Tryd.func43, Tryd.ntmps43
   go_wp2_with (first
     | (go_at_call 74; refine (HN.out _).mono ?_; rintro e w' ⟨rfl, rfl⟩)
     | (go_at_call 75; refine (HI.out _).mono ?_; rintro e w' ⟨rfl, rfl⟩))
   go_ret
   exact ⟨rfl, rfl⟩
theorem strayE_any (n : Int) (w : World) : Calls Tryd.prog 41 #[.int .i64 n] w fun e w' => e = .returned (.bool (strayE n)) ∧ w' = w := by
 by_cases h : n < 0
 · have e : strayE n = true := by unfold strayE; simp [h]
   rw [e]
   go_enter Tryd.func41, Tryd.ntmps41
   go_wp2
   go_ret
   exact ⟨rfl, rfl⟩
 · have e : strayE n = decide (1048576 ≤ n) := by unfold strayE; simp [h]
   rw [e]
   go_enter Tryd.func41, Tryd.ntmps41
   go_wp2
   go_ret
   exact ⟨rfl, rfl⟩
set_option maxHeartbeats 4000000 in
theorem flE_idx {q : Nat → Bool} (v : Value) (ls : List Nat) (w : World) (hv : Fs w v ls) (hF : ∀ k (h : k < ls.length) W, Below w.heap.size w W → Calls Tryd.prog 43 (#[.float .f64 ls[k]] ++ #[]) W fun e w' => e = .returned (.bool (q ls[k])) ∧ Below w.heap.size w w') :
   Calls Tryd.prog 73 #[v, .func (.func 43) #[] #[]] w fun e w' => (∃ i : Int, e = .returned (.int .i64 i) ∧ -1 ≤ i ∧ decide (0 ≤ i) = ls.any q) ∧ Below w.heap.size w w' := by
 obtain ⟨a, c, rfl, hc1, hc2, hm⟩ := hv.form
 have HF := Lib.hid hF
 have HM := Lib.hid hm
 obtain ⟨N, hN⟩ : ∃ N, Hid (ls.length = N) := ⟨_, Lib.hid rfl⟩
 rw [hN.out] at hc1 ⊢
 have hN' : (N : Int) ≤ 9223372036854775807 := by omega
 clear hv hm hF
 go_enter Tryd.func73, Tryd.ntmps73
 go_wp2
 go_loopw [8] (fun s8 wr => ∃ k : Nat, k ≤ N ∧ s8 = .int .i64 (k : Nat) ∧ Hid ((ls.take k).any q = false ∧ Below w.heap.size w wr)) (fun s8 _ => N - (RowKit.intOf s8).toNat)
 case atStart => exact ⟨0, Nat.zero_le _, rfl, by simp, Below.refl _ _⟩
 case round =>
   obtain ⟨k, hk, rfl, hI⟩ := hrel
   by_cases hlt : k < N
   · have hk2 : k < ls.length := by rw [hN.out]; exact hlt
     have hlt' : (k : Int) < (N : Int) := by omega
     have hk0 : (0 : Int) ≤ (k : Int) := by omega
     have hg := HM.out.resolve_left (fun e => by rw [e] at hk2; simp at hk2)
     obtain ⟨g, off, rfl, hcell⟩ := hg
     have b1 : wr.cell? ⟨g, off + k, none⟩ = some (.float .f64 ls[k]) := by
       have h1 := hcell k hk2
       rw [List.getD_eq_getElem?_getD, List.getElem?_eq_getElem hk2] at h1
       exact box_cell hI.out.2 h1
     obtain ⟨b, hb⟩ : ∃ b, Hid (q ls[k] = b) := ⟨_, Lib.hid rfl⟩
     have HC : Hid (Calls Tryd.prog 43 (#[.float .f64 ls[k]] ++ #[]) wr fun e w' => e = .returned (.bool b) ∧ Below w.heap.size w w') := Lib.hid (by rw [← hb.out]; exact HF.out k hk2 wr hI.out.2)
     have HA : Hid ((ls.take (k + 1)).any q = b) := Lib.hid (by rw [any_take hk2, hI.out.1, hb.out]; rfl)
     clear hI
     generalize ls[k] = nd at *
     simp only [List.append_toArray, List.nil_append, List.cons_append] at HC
     cases b
     · go_wp2_with (first | (go_at_call 43; refine HC.out.mono ?_; rintro e W1 ⟨rfl, hb1⟩; have HB1 := Lib.hid hb1; clear hb1))
       refine ⟨⟨k + 1, by omega, by go_num, HA.out, HB1.out⟩, ?_⟩
       simp [RowKit.intOf]; omega
     · go_wp2_with (first | (go_at_call 43; refine HC.out.mono ?_; rintro e W1 ⟨rfl, hb1⟩; have HB1 := Lib.hid hb1; clear hb1))
       go_ret
       refine ⟨⟨(k : Nat), rfl, by omega, ?_⟩, HB1.out⟩
       rw [decide_eq_true (by omega)]
       symm
       rw [List.any_eq_true]
       obtain ⟨x, hx, hqx⟩ := List.any_eq_true.1 HA.out
       exact ⟨x, List.mem_of_mem_take hx, hqx⟩
   · obtain rfl : k = N := by omega
     have HE : Hid (ls.any q = false) := Lib.hid (by have := hI.out.1; rwa [List.take_of_length_le (by rw [hN.out]; omega)] at this)
     go_wp2
     go_ret
     exact ⟨⟨-1, rfl, by omega, by rw [HE.out]; decide⟩, hI.out.2⟩
theorem flE_has {q : Nat → Bool} (v : Value) (ls : List Nat) (w : World) (hv : Fs w v ls) (hF : ∀ k (h : k < ls.length) W, Below w.heap.size w W → Calls Tryd.prog 43 (#[.float .f64 ls[k]] ++ #[]) W fun e w' => e = .returned (.bool (q ls[k])) ∧ Below w.heap.size w w') :
   Calls Tryd.prog 42 #[v, .func (.func 43) #[] #[]] w fun e w' => e = .returned (.bool (ls.any q)) ∧ Below w.heap.size w w' := by
 obtain ⟨a, c, hvv, _, _, _⟩ := hv.form
 have H := Lib.hid (flE_idx v ls w hv hF)
 subst hvv
 obtain ⟨b, hb⟩ : ∃ b, Hid (ls.any q = b) := ⟨_, Lib.hid rfl⟩
 rw [hb.out] at H ⊢
 obtain ⟨N, hN⟩ : ∃ N, ls.length = N := ⟨_, rfl⟩
 rw [hN] at H ⊢
 clear hv hF hN
 go_enter Tryd.func42, Tryd.ntmps42
 go_wp2_with (first | (go_at_call 73; refine H.out.mono ?_; rintro e W1 ⟨⟨i, rfl, hi, hd⟩, hb1⟩; have HD := Lib.hid (And.intro hd hb1); clear hb1 hd))
 go_ret
 exact ⟨by rw [← HD.out.1]; rfl, HD.out.2⟩
set_option maxHeartbeats 4000000 in
theorem inE_idx {q : Int → Bool} (v : Value) (ls : List Int) (w : World) (hv : Is w v ls) (hF : ∀ k (h : k < ls.length) W, Below w.heap.size w W → Calls Tryd.prog 41 (#[.int .i64 ls[k]] ++ #[]) W fun e w' => e = .returned (.bool (q ls[k])) ∧ Below w.heap.size w w') :
   Calls Tryd.prog 72 #[v, .func (.func 41) #[] #[]] w fun e w' => (∃ i : Int, e = .returned (.int .i64 i) ∧ -1 ≤ i ∧ decide (0 ≤ i) = ls.any q) ∧ Below w.heap.size w w' := by
 obtain ⟨a, c, rfl, hc1, hc2, hm⟩ := hv.form
 have HF := Lib.hid hF
 have HM := Lib.hid hm
 obtain ⟨N, hN⟩ : ∃ N, Hid (ls.length = N) := ⟨_, Lib.hid rfl⟩
 rw [hN.out] at hc1 ⊢
 have hN' : (N : Int) ≤ 9223372036854775807 := by omega
 clear hv hm hF
 go_enter Tryd.func72, Tryd.ntmps72
 go_wp2
 go_loopw [8] (fun s8 wr => ∃ k : Nat, k ≤ N ∧ s8 = .int .i64 (k : Nat) ∧ Hid ((ls.take k).any q = false ∧ Below w.heap.size w wr)) (fun s8 _ => N - (RowKit.intOf s8).toNat)
 case atStart => exact ⟨0, Nat.zero_le _, rfl, by simp, Below.refl _ _⟩
 case round =>
   obtain ⟨k, hk, rfl, hI⟩ := hrel
   by_cases hlt : k < N
   · have hk2 : k < ls.length := by rw [hN.out]; exact hlt
     have hlt' : (k : Int) < (N : Int) := by omega
     have hk0 : (0 : Int) ≤ (k : Int) := by omega
     have hg := HM.out.resolve_left (fun e => by rw [e] at hk2; simp at hk2)
     obtain ⟨g, off, rfl, hcell⟩ := hg
     have b1 : wr.cell? ⟨g, off + k, none⟩ = some (.int .i64 ls[k]) := by
       have h1 := hcell k hk2
       rw [List.getD_eq_getElem?_getD, List.getElem?_eq_getElem hk2] at h1
       exact box_cell hI.out.2 h1
     obtain ⟨b, hb⟩ : ∃ b, Hid (q ls[k] = b) := ⟨_, Lib.hid rfl⟩
     have HC : Hid (Calls Tryd.prog 41 (#[.int .i64 ls[k]] ++ #[]) wr fun e w' => e = .returned (.bool b) ∧ Below w.heap.size w w') := Lib.hid (by rw [← hb.out]; exact HF.out k hk2 wr hI.out.2)
     have HA : Hid ((ls.take (k + 1)).any q = b) := Lib.hid (by rw [any_take hk2, hI.out.1, hb.out]; rfl)
     clear hI
     generalize ls[k] = nd at *
     simp only [List.append_toArray, List.nil_append, List.cons_append] at HC
     cases b
     · go_wp2_with (first | (go_at_call 41; refine HC.out.mono ?_; rintro e W1 ⟨rfl, hb1⟩; have HB1 := Lib.hid hb1; clear hb1))
       refine ⟨⟨k + 1, by omega, by go_num, HA.out, HB1.out⟩, ?_⟩
       simp [RowKit.intOf]; omega
     · go_wp2_with (first | (go_at_call 41; refine HC.out.mono ?_; rintro e W1 ⟨rfl, hb1⟩; have HB1 := Lib.hid hb1; clear hb1))
       go_ret
       refine ⟨⟨(k : Nat), rfl, by omega, ?_⟩, HB1.out⟩
       rw [decide_eq_true (by omega)]
       symm
       rw [List.any_eq_true]
       obtain ⟨x, hx, hqx⟩ := List.any_eq_true.1 HA.out
       exact ⟨x, List.mem_of_mem_take hx, hqx⟩
   · obtain rfl : k = N := by omega
     have HE : Hid (ls.any q = false) := Lib.hid (by have := hI.out.1; rwa [List.take_of_length_le (by rw [hN.out]; omega)] at this)
     go_wp2
     go_ret
     exact ⟨⟨-1, rfl, by omega, by rw [HE.out]; decide⟩, hI.out.2⟩
theorem inE_has {q : Int → Bool} (v : Value) (ls : List Int) (w : World) (hv : Is w v ls) (hF : ∀ k (h : k < ls.length) W, Below w.heap.size w W → Calls Tryd.prog 41 (#[.int .i64 ls[k]] ++ #[]) W fun e w' => e = .returned (.bool (q ls[k])) ∧ Below w.heap.size w w') :
   Calls Tryd.prog 40 #[v, .func (.func 41) #[] #[]] w fun e w' => e = .returned (.bool (ls.any q)) ∧ Below w.heap.size w w' := by
 obtain ⟨a, c, hvv, _, _, _⟩ := hv.form
 have H := Lib.hid (inE_idx v ls w hv hF)
 subst hvv
 obtain ⟨b, hb⟩ : ∃ b, Hid (ls.any q = b) := ⟨_, Lib.hid rfl⟩
 rw [hb.out] at H ⊢
 obtain ⟨N, hN⟩ : ∃ N, ls.length = N := ⟨_, rfl⟩
 rw [hN] at H ⊢
 clear hv hF hN
 go_enter Tryd.func40, Tryd.ntmps40
 go_wp2_with (first | (go_at_call 72; refine H.out.mono ?_; rintro e W1 ⟨⟨i, rfl, hi, hd⟩, hb1⟩; have HD := Lib.hid (And.intro hd hb1); clear hb1 hd))
 go_ret
 exact ⟨by rw [← HD.out.1]; rfl, HD.out.2⟩
set_option maxHeartbeats 4000000 in
theorem amE_idx {q : Rt → Bool} (Bf : Nat) (v : Value) (ns : List Rt) (w : World) (hv : Rv w v ns) (hF : ∀ k (h : k < ns.length) W, Below w.heap.size w W → Calls Tryd.prog 39 (#[.agg #[ns[k].2.1, ns[k].2.2]] ++ #[.pointer (some ⟨Bf, 0, none⟩)]) W fun e w' => e = .returned (.bool (q ns[k])) ∧ Below w.heap.size w w') :
   Calls Tryd.prog 76 #[v, .func (.func 39) #[] #[.pointer (some ⟨Bf, 0, none⟩)]] w fun e w' => (∃ i : Int, e = .returned (.int .i64 i) ∧ -1 ≤ i ∧ decide (0 ≤ i) = ns.any q) ∧ Below w.heap.size w w' := by
 obtain ⟨a, c, rfl, hc1, hc2, hm⟩ := hv.form
 have HF := Lib.hid hF
 have HM := Lib.hid hm
 obtain ⟨N, hN⟩ : ∃ N, Hid (ns.length = N) := ⟨_, Lib.hid rfl⟩
 rw [hN.out] at hc1 ⊢
 have hN' : (N : Int) ≤ 9223372036854775807 := by omega
 clear hv hm hF
 go_enter Tryd.func76, Tryd.ntmps76
 go_wp2
 go_loopw [8] (fun s8 wr => ∃ k : Nat, k ≤ N ∧ s8 = .int .i64 (k : Nat) ∧ Hid ((ns.take k).any q = false ∧ Below w.heap.size w wr)) (fun s8 _ => N - (RowKit.intOf s8).toNat)
 case atStart => exact ⟨0, Nat.zero_le _, rfl, by simp, Below.refl _ _⟩
 case round =>
   obtain ⟨k, hk, rfl, hI⟩ := hrel
   by_cases hlt : k < N
   · have hk2 : k < ns.length := by rw [hN.out]; exact hlt
     have hlt' : (k : Int) < (N : Int) := by omega
     have hk0 : (0 : Int) ≤ (k : Int) := by omega
     have hg := HM.out.resolve_left (fun e => by rw [e] at hk2; simp at hk2)
     obtain ⟨g, off, rfl, hgl, hcell⟩ := hg
     obtain ⟨p1, p2⟩ := hcell k ns[k] (List.getElem?_eq_getElem hk2)
     have b1 : wr.cell? ⟨g, off + k * 2, none⟩ = some ns[k].2.1 := cell_later hI.out.2 hgl p1
     have b2 : wr.cell? ⟨g, off + k * 2 + 1, none⟩ = some ns[k].2.2 := cell_later hI.out.2 hgl p2
     clear p1 p2 hcell
     obtain ⟨b, hb⟩ : ∃ b, Hid (q ns[k] = b) := ⟨_, Lib.hid rfl⟩
     have HC : Hid (Calls Tryd.prog 39 (#[.agg #[ns[k].2.1, ns[k].2.2]] ++ #[.pointer (some ⟨Bf, 0, none⟩)]) wr fun e w' => e = .returned (.bool b) ∧ Below w.heap.size w w') := Lib.hid (by rw [← hb.out]; exact HF.out k hk2 wr hI.out.2)
     have HA : Hid ((ns.take (k + 1)).any q = b) := Lib.hid (by rw [any_take hk2, hI.out.1, hb.out]; rfl)
     clear hI
     generalize ns[k] = nd at *
     simp only [List.append_toArray, List.nil_append, List.cons_append] at HC
     cases b
     · go_wp2_with (first | (go_at_call 39; refine HC.out.mono ?_; rintro e W1 ⟨rfl, hb1⟩; have HB1 := Lib.hid hb1; clear hb1))
       refine ⟨⟨k + 1, by omega, by go_num, HA.out, HB1.out⟩, ?_⟩
       simp [RowKit.intOf]; omega
     · go_wp2_with (first | (go_at_call 39; refine HC.out.mono ?_; rintro e W1 ⟨rfl, hb1⟩; have HB1 := Lib.hid hb1; clear hb1))
       go_ret
       refine ⟨⟨(k : Nat), rfl, by omega, ?_⟩, HB1.out⟩
       rw [decide_eq_true (by omega)]
       symm
       rw [List.any_eq_true]
       obtain ⟨x, hx, hqx⟩ := List.any_eq_true.1 HA.out
       exact ⟨x, List.mem_of_mem_take hx, hqx⟩
   · obtain rfl : k = N := by omega
     have HE : Hid (ns.any q = false) := Lib.hid (by have := hI.out.1; rwa [List.take_of_length_le (by rw [hN.out]; omega)] at this)
     go_wp2
     go_ret
     exact ⟨⟨-1, rfl, by omega, by rw [HE.out]; decide⟩, hI.out.2⟩
theorem amE_has {q : Rt → Bool} (Bf : Nat) (v : Value) (ns : List Rt) (w : World) (hv : Rv w v ns) (hF : ∀ k (h : k < ns.length) W, Below w.heap.size w W → Calls Tryd.prog 39 (#[.agg #[ns[k].2.1, ns[k].2.2]] ++ #[.pointer (some ⟨Bf, 0, none⟩)]) W fun e w' => e = .returned (.bool (q ns[k])) ∧ Below w.heap.size w w') :
   Calls Tryd.prog 44 #[v, .func (.func 39) #[] #[.pointer (some ⟨Bf, 0, none⟩)]] w fun e w' => e = .returned (.bool (ns.any q)) ∧ Below w.heap.size w w' := by
 obtain ⟨a, c, hvv, _, _, _⟩ := hv.form
 have H := Lib.hid (amE_idx Bf v ns w hv hF)
 subst hvv
 obtain ⟨b, hb⟩ : ∃ b, Hid (ns.any q = b) := ⟨_, Lib.hid rfl⟩
 rw [hb.out] at H ⊢
 obtain ⟨N, hN⟩ : ∃ N, ns.length = N := ⟨_, rfl⟩
 rw [hN] at H ⊢
 clear hv hF hN
 go_enter Tryd.func44, Tryd.ntmps44
 go_wp2_with (first | (go_at_call 76; refine H.out.mono ?_; rintro e W1 ⟨⟨i, rfl, hi, hd⟩, hb1⟩; have HD := Lib.hid (And.intro hd hb1); clear hb1 hd))
 go_ret
 exact ⟨by rw [← HD.out.1]; rfl, HD.out.2⟩
end
end Go.Proofs.YtgoadpnoagaflaaDoor
