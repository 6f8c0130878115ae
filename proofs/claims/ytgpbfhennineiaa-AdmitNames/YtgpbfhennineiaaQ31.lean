/- Own texts, put together: Ao. -/
import Derived.Test.YtgpbfhennineiaaQ3
import Derived.Test.YtgpbfhennineiaaQ25
import Derived.Test.YtgpbfhennineiaaQ29
import Derived.Laws.AppendOwn
import Derived.Laws.OwnMore
import Derived.Deep.AppendLies
/- AdmitTurned: what is plain; a list that is put together point by point. -/
namespace Go.Proofs.Ytgpbfhennineiaa
open Go.RowKit Go.Shelf Go.Sort Go.Lib
attribute [local go_sem ↓] Go.wp_at_zero Go.wp_at_succ
attribute [local go_sem] run_store_float
def vq (p : Nat × Nat) : Rat × Rat := (fval p.1, fval p.2)
theorem alike_vq {p q : Nat × Nat} : alike p q ↔ vq p = vq q := by unfold alike vq; simp
def leQ (a b : Rat × Rat) : Prop := a.1 < b.1 ∨ (a.1 = b.1 ∧ a.2 ≤ b.2)
theorem ltO_leQ {f : Nat → Nat × Nat} {i j : Nat} (h : ltO f i j) : leQ (vq (f i)) (vq (f j)) := by
 unfold leQ vq
 rcases h with h | ⟨h, _⟩
 · rw [hold_neg] at h
   rcases h with h | ⟨h1, h2⟩
   · exact Or.inl h
   · exact Or.inr ⟨h1, Rat.le_of_lt h2⟩
 · rw [hold_zero] at h
   exact Or.inr ⟨h.1, by rw [h.2]; exact Rat.le_refl⟩
theorem leQ_anti {a b : Rat × Rat} (h : leQ a b) (h' : leQ b a) : a = b := by
 obtain ⟨a1, a2⟩ := a
 obtain ⟨b1, b2⟩ := b
 unfold leQ at h h'
 dsimp only at h h'
 have e1 : a1 = b1 := by grind
 have e2 : a2 = b2 := by grind
 rw [e1, e2]
theorem ord_vals {f f' : Nat → Nat × Nat} {n : Nat} {os os' : List Nat} (h : Ord f n os) (h' : Ord f' n os') (hp : ((List.range n).map fun i => vq (f i)).Perm ((List.range n).map fun i => vq (f' i))) : os.map (fun i => vq (f i)) = os'.map (fun i => vq (f' i)) :=
 List.Perm.eq_of_pairwise (le := leQ) (fun _ _ _ _ h1 h2 => leQ_anti h1 h2) (List.pairwise_map.2 (h.pw.imp fun h => ltO_leQ h)) (List.pairwise_map.2 (h'.pw.imp fun h => ltO_leQ h)) ((h.perm.map _).trans (hp.trans (h'.perm.map _).symm))
theorem turn_mod {n r i : Nat} (hr : r < n) (hi : i < n) : (i + r) % n = if i + r < n then i + r else i + r - n := by
 split
 · exact Nat.mod_eq_of_lt (by assumption)
 · rw [Nat.mod_eq_sub_mod (by omega), Nat.mod_eq_of_lt (by omega)]
theorem turn_list {n r : Nat} (hr : r < n) : (List.range n).map (fun i => (i + r) % n) = (List.range n).drop r ++ (List.range n).take r := by
 apply List.ext_getElem
 · simp; omega
 · intro i h1 h2
   have hi : i < n := by simpa using h1
   simp only [List.getElem_map, List.getElem_range, turn_mod hr hi, List.getElem_append, List.length_drop, List.length_range, List.getElem_drop, List.getElem_take]
   by_cases h : i + r < n
   · rw [if_pos h, dif_pos (by omega)]; omega
   · rw [if_neg h, dif_neg (by omega)]; omega
theorem turn_perm {n r : Nat} (hr : r < n) : ((List.range n).map fun i => (i + r) % n).Perm (List.range n) := by
 rw [turn_list hr]
 have := List.perm_append_comm (l₁ := (List.range n).drop r) (l₂ := (List.range n).take r)
 rwa [List.take_append_drop] at this
def fT (f : Nat → Nat × Nat) (n r i : Nat) : Nat × Nat := f ((i + r) % n)
theorem turn_vals {f : Nat → Nat × Nat} {n r : Nat} (hr : r < n) : ((List.range n).map fun i => vq (f i)).Perm ((List.range n).map fun i => vq (fT f n r i)) := by
 have := (turn_perm hr).map (fun i => vq (f i))
 rw [List.map_map] at this
 exact this.symm
theorem turn_flat {f : Nat → Nat × Nat} {n r : Nat} (hr : r < n) : FlatP f n ↔ FlatP (fT f n r) n := by
 constructor
 · intro h i j k _ _ _
   exact h _ _ _ (Nat.mod_lt _ (by omega)) (Nat.mod_lt _ (by omega)) (Nat.mod_lt _ (by omega))
 · intro h
   have key : ∀ j, j < n → ∃ i, i < n ∧ (i + r) % n = j := by
     intro j hj
     by_cases e : r ≤ j
     · exact ⟨j - r, by omega, by rw [turn_mod hr (by omega), if_pos (by omega)]; omega⟩
     · exact ⟨j + n - r, by omega, by rw [turn_mod hr (by omega), if_neg (by omega)]; omega⟩
   intro i j k hi hj hk
   obtain ⟨i', hi', ei⟩ := key i hi
   obtain ⟨j', hj', ej⟩ := key j hj
   obtain ⟨k', hk', ek⟩ := key k hk
   have := h i' j' k' hi' hj' hk'
   unfold fT at this
   rwa [ei, ej, ek] at this
def cptQA : Rat × Rat → List (Rat × Rat) → Nat
 | _, [] => 0
 | p, x :: r => (if x = p then 0 else 1) + cptQA x r
def cptQ : List (Rat × Rat) → Nat
 | [] => 0
 | x :: r => 1 + cptQA x r
theorem cptQ_is (f : Nat → Nat × Nat) (os : List Nat) : (cpt (akO f) os).length = cptQ (os.map fun i => vq (f i)) := by
 have key : ∀ (l : List Nat) (p : Nat), (cptA (akO f) p l).length = cptQA (vq (f p)) (l.map fun i => vq (f i)) := by
   intro l
   induction l with
   | nil => intro p; rfl
   | cons a l ih =>
     intro p
     rw [cptA, List.map_cons, cptQA, ← ih a]
     unfold akO
     by_cases h : alike (f a) (f p)
     · rw [if_pos (alike_vq.1 h), if_pos (by simp [h])]; omega
     · rw [if_neg (fun e => h (alike_vq.2 e)), if_neg (by simp [h])]; simp; omega
 cases os with
 | nil => rfl
 | cons x r => rw [cpt, List.map_cons, cptQ, List.length_cons, key]; omega
theorem ord_lt' {f : Nat → Nat × Nat} {n : Nat} {os : List Nat} (h : Ord f n os) {i x : Nat} (hi : i < n) (hx : os.getD i 0 = x) : x < n := by
 have hl : i < os.length := by rw [h.len]; exact hi
 have := h.lt hl
 rw [← hx]; simpa [List.getD, hl] using this
theorem vals_at {f f' : Nat → Nat × Nat} {os om : List Nat} (h : os.map (fun i => vq (f i)) = om.map (fun i => vq (f' i))) {i x y : Nat} (h1 : i < os.length) (h2 : i < om.length) (hx : os.getD i 0 = x) (hy : om.getD i 0 = y) : vq (f x) = vq (f' y) := by
 have e : (os.map (fun i => vq (f i)))[i]? = (om.map (fun i => vq (f' i)))[i]? := by rw [h]
 rw [List.getElem?_map, List.getElem?_map, List.getElem?_eq_getElem h1, List.getElem?_eq_getElem h2] at e
 have ex : os[i] = x := by rw [← hx]; simp [List.getD, h1]
 have ey : om[i] = y := by rw [← hy]; simp [List.getD, h2]
 rw [ex, ey] at e
 simpa using e
theorem turn_by (b : Int) (n : Nat) (hn : 0 < n) (hn2 : n ≤ 200) : ∃ rr : Nat, (wrap64 ((IntKind.u64.wrap b).tmod (n : Int)) = (rr : Int) ∧ True) ∧ rr < n := by
 have h0 : (0 : Int) ≤ IntKind.u64.wrap b := wrap_u64_nonneg b
 rw [Int.tmod_eq_emod_of_nonneg h0]
 have h1 := Int.emod_nonneg (IntKind.u64.wrap b) (show (n : Int) ≠ 0 by omega)
 have h2 := Int.emod_lt_of_pos (IntKind.u64.wrap b) (show (0 : Int) < (n : Int) by omega)
 refine ⟨(IntKind.u64.wrap b % (n : Int)).toNat, ⟨?_, trivial⟩, by omega⟩
 unfold wrap64
 omega
theorem fT_may {f : Nat → Nat × Nat} {n r : Nat} (h : MayL n f) : MayL n (fT f n r) := ⟨h.1, fun k hk => h.2 _ (Nat.mod_lt _ (by omega))⟩
def pcs (f : Nat → Nat × Nat) (n : Nat) : List Value := (List.range n).flatMap fun k => [.float .f64 (f k).1, .float .f64 (f k).2]
theorem pcs_succ (f : Nat → Nat × Nat) (n : Nat) : pcs f (n + 1) = pcs f n ++ [.float .f64 (f n).1, .float .f64 (f n).2] := by
 unfold pcs; rw [List.range_succ]; simp
theorem pcs_len (f : Nat → Nat × Nat) (n : Nat) : (pcs f n).length = n * 2 := by
 induction n with
 | zero => rfl
 | succ n ih => rw [pcs_succ, List.length_append, ih]; simp; omega
theorem pcs_at (f : Nat → Nat × Nat) (n k : Nat) (hk : k < n) : (pcs f n)[k * 2]? = some (.float .f64 (f k).1) ∧ (pcs f n)[k * 2 + 1]? = some (.float .f64 (f k).2) := by
 induction n with
 | zero => omega
 | succ n ih =>
   rw [pcs_succ]
   have hl := pcs_len f n
   by_cases e : k = n
   · subst e
     rw [List.getElem?_append_right (by omega), List.getElem?_append_right (by omega), hl]
     constructor <;> simp
   · rw [List.getElem?_append_left (by omega), List.getElem?_append_left (by omega)]
     exact ih (by omega)
theorem ps_own {w : World} {base n : Nat} {v : Value} {f : Nat → Nat × Nat} (h : w.ownsRow base 28 2 v n (pcs f n)) (hn : n ≤ 1048576) (hw : ∀ k, WdP (f k)) : Ps w v n f := by
 obtain ⟨_, h1⟩ := h
 rcases h1 with ⟨rfl, rfl⟩ | ⟨g, cap, cur, rfl, _, hb, hc, hm, hs, ht⟩
 · exact ⟨⟨none, 0, rfl, by omega, by omega, Or.inl rfl⟩, hw⟩
 · refine ⟨⟨some ⟨g, 0, none⟩, cap, rfl, hc, by unfold maxLen at hm; omega, Or.inr ⟨g, 0, rfl, ?_, fun k hk => ?_⟩⟩, hw⟩
   · rcases Nat.lt_or_ge g w.heap.size with e | e
     · exact e
     · rw [Array.getElem?_eq_none e] at hb; cases hb
   · have hp := pcs_at f n k hk
     rw [← ht] at hp
     rw [List.getElem?_take_of_lt (by omega), List.getElem?_take_of_lt (by omega)] at hp
     simp only [World.cell?, hb]
     rw [Nat.zero_add]
     exact ⟨by simpa using hp.1, by simpa using hp.2⟩
theorem ps_gcap {w : World} {base n : Nat} {v : Value} {f : Nat → Nat × Nat} (h : w.ownsRow base 28 2 v n (pcs f n)) (hn : 0 < n) : ∃ g cap, v = .slice (some ⟨g, 0, none⟩) n cap ∧ base ≤ g ∧ g < w.heap.size := by
 obtain ⟨_, h1⟩ := h
 rcases h1 with ⟨rfl, rfl⟩ | ⟨g, cap, cur, rfl, hb0, hb, _⟩
 · omega
 · refine ⟨g, cap, rfl, hb0, ?_⟩
   rcases Nat.lt_or_ge g w.heap.size with e | e
   · exact e
   · rw [Array.getElem?_eq_none e] at hb; cases hb
set_option maxRecDepth 100000 in
set_option maxHeartbeats 8000000 in
theorem turned7_law (s : Value) (n : Nat) (f : Nat → Nat × Nat) (by7 : Int) (w : World) (h : Ps w s n f) : Calls Try.prog 6 #[s, .int .i64 by7] w fun e w' => e = .returned (.bool true) ∧ Below w.heap.size w w' := by
 have HF : Hid (Ps w s n f) := h
 obtain ⟨a, c, rfl, hc, hm⟩ := h.shape
 clear h
 go_enter Try.func6, Try.ntmps6
 go_wp2_with fail
 refine (all_any _ n f w HF.out).mono ?_
 rintro e w1 ⟨⟨z, r, rfl, hr⟩, hb⟩
 have HR : Hid (r = 0 ↔ MayL n f) := hr.ok
 have HB : Hid (Below w.heap.size w w1) := hb
 clear hr hb
 go_wp2_with fail
 refine (works7_any _).mono ?_
 rintro e w2 ⟨rfl, hb⟩
 have HB : Hid (Below w.heap.size w w2) := below_step HB.out hb
 clear hb
 by_cases hbad : 200 < n ∨ n = 0 ∨ ¬ r = 0
 · have key : (200 : Int) < (n : Int) ∨ (¬ (200 : Int) < (n : Int) ∧ n = 0) ∨ (¬ (200 : Int) < (n : Int) ∧ ¬ (n : Int) = 0 ∧ ((n : Int) == 0) = false ∧ (r == 0) = false ∧ (r != 0) = true ∧ ¬ r = 0) := by
     by_cases h1 : 200 < n
     · exact Or.inl (by omega)
     · by_cases h2 : n = 0
       · exact Or.inr (Or.inl ⟨by omega, h2⟩)
       · have h3 : ¬ r = 0 := by rcases hbad with h | h | h <;> first | omega | exact h
         exact Or.inr (Or.inr ⟨by omega, by omega, by simp; omega, by simp [h3], by simp [h3], h3⟩)
   clear hbad
   rcases key with q1 | ⟨q1, rfl⟩ | ⟨q1, q2, q3, q4, q5, q6⟩
   all_goals
     go_wp2_with fail
     refine (works7_any _).mono ?_
     rintro e w3 ⟨rfl, hb⟩
     have HB : Hid (Below w.heap.size w w3) := below_step HB.out hb
     clear hb
     go_wp2
     go_ret
     exact ⟨rfl, HB.out⟩
 · have hn : n ≤ 200 := by omega
   have hpos : 0 < n := by omega
   have hr0 : r = 0 := Classical.byContradiction fun h => hbad (Or.inr (Or.inr h))
   have HM : Hid (MayL n f) := HR.out.1 hr0
   subst hr0
   clear HR hbad
   have hbig' : ¬ (200 : Int) < (n : Int) := by omega
   have hn0 : ¬ (n : Int) = 0 := by omega
   have hn1 : ((n : Int) == 0) = false := by simp; omega
   have hn2 : ¬ n = 0 := by omega
   obtain ⟨i0, hif, hz0, hz1, hz2⟩ := info_parts (show (Try.prog.info? 28).map (fun i => (i.zero, i.size, i.bytes)) = some (some (.agg #[.float .f64 0, .float .f64 0]), 2, 16) by kernel_rfl)
   obtain ⟨g, off, rfl, hg, hcell⟩ := HF.out.some hpos
   obtain ⟨rr, hrr, hrn⟩ := turn_by by7 n hpos hn
   have hrr1 := hrr.1
   clear hrr
   have HRN : Hid (rr < n) := hrn
   have HCL : Hid (∀ k, k < n → w.cell? ⟨g, off + k * 2, none⟩ = some (.float .f64 (f k).1) ∧ w.cell? ⟨g, off + k * 2 + 1, none⟩ = some (.float .f64 (f k).2)) := hcell
   clear hcell
   go_wp2
   go_loopw [7, 8] (fun s7 s8 wr => ∃ i : Nat, i ≤ n ∧ s8 = .int .i64 (i : Nat) ∧ Hid (wr.ownsRow w.heap.size 28 2 s7 i (pcs (fT f n rr) i) ∧ Below w.heap.size w wr)) (fun _ s8 _ => n - (intOf s8).toNat)
   case atStart => exact ⟨0, Nat.zero_le _, rfl, World.ownsRow_nil _ _ _ _, HB.out⟩
   case round =>
     clear HB
     obtain ⟨i, hi, rfl, hI⟩ := hrel
     by_cases hlt : i < n
     · have hlt' : (i : Int) < (n : Int) := by omega
       have hi0 : (0 : Int) ≤ (i : Int) := by omega
       obtain ⟨q, hq⟩ : ∃ q : Nat, (i + rr) % n = q := ⟨_, rfl⟩
       have hqn : q < n := by rw [← hq]; exact Nat.mod_lt _ hpos
       have hqn' : (q : Int) < (n : Int) := by omega
       have hq0 : (0 : Int) ≤ (q : Int) := by omega
       have hqe : ((i : Int) + (rr : Int)).tmod (n : Int) = (q : Int) := by
         rw [← hq, Int.tmod_eq_emod_of_nonneg (by omega)]; simp
       have hqw : wrap64 ((i : Int) + (rr : Int)) = (i : Int) + (rr : Int) := by unfold wrap64; omega
       have hcx := hI.out.2
       have c1 := box_cell hcx (HCL.out q hqn).1
       have c2 := box_cell hcx (HCL.out q hqn).2
       have HQ : Hid ((i + rr) % n = q) := hq
       have hbase : w.heap.size ≤ wr.heap.size := hcx.size
       clear hq hcx hrn
       obtain ⟨x, hx⟩ : ∃ x, Hid ((f q).1 = x) := ⟨_, rfl⟩
       obtain ⟨y, hy⟩ : ∃ y, Hid ((f q).2 = y) := ⟨_, rfl⟩
       rw [hx.out] at c1
       rw [hy.out] at c2
       have HR := hI.out.1
       go_wp2_with (at_builtin; (refine wpList_append_own _ rfl _ _ _ rfl w.heap.size 28 i0 _ 2 16 Try.underlying30 hif hz0 hz1 hz2 rfl (by omega) _ i _ rfl (HR.alloc _) ⟨wr.heap.size, 0, none⟩ 1 1 [.float .f64 x, .float .f64 y] rfl rfl (World.news_of_block (cs := #[.float .f64 x, .float .f64 y]) (t := 28) (fr := (0, 0)) (heap_new wr _)) (by simp [Value.oneCell']) (by unfold maxLen; omega) (by omega) (by simp; omega) ?_); intro v' w1 hown1 hgrow hnil)
       refine ⟨⟨i + 1, by omega, by go_num, ?_, ?_⟩, by simp [intOf]; omega⟩
       · rw [pcs_succ]
         have e1 : fT f n rr i = (x, y) := by unfold fT; rw [HQ.out, ← hx.out, ← hy.out]
         rw [e1]
         exact hown1
       · exact (hI.out.2.alloc hI.out.2.size _).grown hgrow (by simp; omega) (fun k hk => (hI.out.1.lt k hk).1)
     · obtain rfl : n = i := by omega
       have hltb : decide ((n : Int) < (n : Int)) = false := decide_eq_false (by omega)
       obtain ⟨gm, cm, rfl, hgm, hgm2⟩ := ps_gcap hI.out.1 hpos
       have HPM : Hid (Ps wr (.slice (some ⟨gm, 0, none⟩) n cm) n (fT f n rr)) := ps_own hI.out.1 (by omega) (fun k => HF.out.word _)
       have HBW : Hid (Below w.heap.size w wr) := hI.out.2
       clear hgm hgm2 hI hrr1
       go_wp2_with fail
       refine (order_any _ n f _ (HF.out.later HBW.out)).mono ?_
       rintro e w3 ⟨h3, hb3⟩
       rcases h3 with ⟨hh, _⟩ | ⟨_, R1, os, rfl, _, ho, hi1⟩
       · exact absurd HM.out hh
       have HB3 : Hid (Below w.heap.size w w3) := below_step HBW.out hb3
       have HPM3 : Hid (Ps w3 (.slice (some ⟨gm, 0, none⟩) n cm) n (fT f n rr)) := HPM.out.later hb3
       have HO : Hid (Ord f n os ∧ IRow w3 R1 n (fun k => (os.getD k 0 : Nat))) := ⟨ho, hi1⟩
       clear hb3 ho hi1 HPM HBW
       go_wp2_with fail
       refine (order_any _ n (fT f n rr) _ HPM3.out).mono ?_
       rintro e w4 ⟨h4, hb4⟩
       rcases h4 with ⟨hh, _⟩ | ⟨_, R2, om, rfl, _, ho, hi1⟩
       · exact absurd (fT_may HM.out) hh
       have HB4 : Hid (Below w.heap.size w w4) := below_step HB3.out hb4
       have HPM4 : Hid (Ps w4 (.slice (some ⟨gm, 0, none⟩) n cm) n (fT f n rr)) := HPM3.out.later hb4
       have HO1 : Hid (IRow w4 R1 n (fun k => (os.getD k 0 : Nat))) := HO.out.2.later hb4
       have HO2 : Hid (Ord (fT f n rr) n om ∧ IRow w4 R2 n (fun k => (om.getD k 0 : Nat))) := ⟨ho, hi1⟩
       have HV : Hid (os.map (fun i => vq (f i)) = om.map (fun i => vq (fT f n rr i))) := ord_vals HO.out.1 ho (turn_vals HRN.out)
       have HOF : Hid (Ord f n os) := HO.out.1
       clear hb4 ho hi1 HPM3 HB3 HO
       obtain ⟨fm, hfm⟩ : ∃ fm, fT f n rr = fm := ⟨_, rfl⟩
       have HFM : Hid (fT f n rr = fm) := hfm
       rw [hfm] at HPM4 HO2 HV
       clear hfm
       go_wp2
       go_loopw [11] (fun s11 wr => ∃ i : Nat, i ≤ n ∧ s11 = .int .i64 (i : Nat) ∧ Hid (IRow wr R1 n (fun k => (os.getD k 0 : Nat)) ∧ IRow wr R2 n (fun k => (om.getD k 0 : Nat)) ∧ Ps wr (.slice (some ⟨gm, 0, none⟩) n cm) n fm ∧ Below w.heap.size w wr)) (fun s11 _ => n - (intOf s11).toNat)
       case atStart => exact ⟨0, Nat.zero_le _, rfl, HO1.out, HO2.out.2, HPM4.out, HB4.out⟩
       case round =>
         clear HO1 HB4 HPM4
         obtain ⟨i, hi, rfl, hK⟩ := hrel
         by_cases hlt : i < n
         · have hlt' : (i : Int) < (n : Int) := by omega
           have hi0 : (0 : Int) ≤ (i : Int) := by omega
           obtain ⟨x, hx⟩ : ∃ x, Hid (os.getD i 0 = x) := ⟨_, rfl⟩
           obtain ⟨y, hy⟩ : ∃ y, Hid (om.getD i 0 = y) := ⟨_, rfl⟩
           have hxn : x < n := ord_lt' HOF.out hlt hx.out
           have hyn : y < n := ord_lt' HO2.out.1 hlt hy.out
           have hxn' : (x : Int) < (n : Int) := by omega
           have hyn' : (y : Int) < (n : Int) := by omega
           have hx0 : (0 : Int) ≤ (x : Int) := by omega
           have hy0 : (0 : Int) ≤ (y : Int) := by omega
           have a1 := (hK.out.1.cell i hlt).1
           have a2 := (hK.out.2.1.cell i hlt).1
           rw [hx.out] at a1
           rw [hy.out] at a2
           have b1 := box_cell hK.out.2.2.2 (HCL.out x hxn).1
           have b2 := box_cell hK.out.2.2.2 (HCL.out x hxn).2
           obtain ⟨gm', o', e', _, hmc⟩ := hK.out.2.2.1.some hpos
           cases e'
           obtain ⟨b3, b4⟩ := hmc y hyn
           rw [Nat.zero_add] at b3 b4
           have hal : hold (f x) (fm y) = 0 := hold_zero.2 (alike_vq.2 (vals_at HV.out (by rw [HOF.out.len]; exact hlt) (by rw [HO2.out.1.len]; exact hlt) hx.out hy.out))
           have HXY : Hid (WdP (f x) ∧ WdP (fm y) ∧ (if PtP (f x) ∧ PtP (fm y) then hold (f x) (fm y) else 0) = 0) := ⟨HF.out.word x, hK.out.2.2.1.word y, by rw [hal]; simp⟩
           clear hal hmc
           go_wp2_with fail
           refine wp_region_held_drew (S := (fun W => W.cell? ⟨R1, i, none⟩ = some (.int .i64 (x : Int)) ∧ W.cell? ⟨R2, i, none⟩ = some (.int .i64 (y : Int)) ∧ W.cell? ⟨g, off + x * 2, none⟩ = some (.float .f64 (f x).1) ∧ W.cell? ⟨g, off + x * 2 + 1, none⟩ = some (.float .f64 (f x).2) ∧ W.cell? ⟨gm, y * 2, none⟩ = some (.float .f64 (fm y).1) ∧ W.cell? ⟨gm, y * 2 + 1, none⟩ = some (.float .f64 (fm y).2) ∧ Below wr.heap.size wr W)) (by kernel_rfl) ⟨a1, a2, b1, b2, b3, b4, (Below.refl _ _).drew⟩ (fun hS => ?_)
           refine takA (i := 0) (d := some 68) (v := .slice (some ⟨g, off, none⟩) n c) hS ?_
           simp only [AP]
           refine takA (i := 1) (d := some 69) (v := .slice (some ⟨R1, 0, none⟩) n n) hS ?_
           simp only [AP]
           refine takA (i := 2) (d := some 70) (v := .int .i64 (i : Int)) hS ?_
           simp only [AP]
           refine takA (i := 3) (d := some 71) (v := .pointer (some ⟨R1, i, none⟩)) hS ?_
           simp only [AP]
           refine takA (i := 4) (d := some 72) (v := .int .i64 (x : Int)) hS ?_
           simp only [AP]
           refine takA (i := 5) (d := some 73) (v := .pointer (some ⟨g, off + x * 2, none⟩)) hS ?_
           simp only [AP]
           refine takA (i := 6) (d := some 74) (v := .agg #[.float .f64 (f x).1, .float .f64 (f x).2]) hS ?_
           simp only [AP]
           refine takA (i := 7) (d := some 75) (v := .slice (some ⟨gm, 0, none⟩) n cm) hS ?_
           simp only [AP]
           refine takA (i := 8) (d := some 76) (v := .slice (some ⟨R2, 0, none⟩) n n) hS ?_
           simp only [AP]
           refine takA (i := 9) (d := some 77) (v := .int .i64 (i : Int)) hS ?_
           simp only [AP]
           refine takA (i := 10) (d := some 78) (v := .pointer (some ⟨R2, i, none⟩)) hS ?_
           simp only [AP]
           refine takA (i := 11) (d := some 79) (v := .int .i64 (y : Int)) hS ?_
           simp only [AP]
           refine takA (i := 12) (d := some 80) (v := .pointer (some ⟨gm, y * 2, none⟩)) hS ?_
           simp only [AP]
           refine takA (i := 13) (d := some 81) (v := .agg #[.float .f64 (fm y).1, .float .f64 (fm y).2]) hS ?_
           simp only [AP]
           refine calA 14 fun KF hK => ?_
           go_simp
           refine (cmp7_any (f x) (fm y) _ HXY.out.1 HXY.out.2.1).mono ?_
           rintro e wx ⟨rfl, hbx⟩
           rw [HXY.out.2.2]
           go_wp2_with fail
           refine hK.out _ _ (kp6 hbx hS) ?_
           clear hS hbx
           intro hS
           clear hK KF
           try simp only [AP]
           refine takA (i := 15) (d := some 83) (v := .bool false) hS ?_
           simp only [AP]
           refine wpAnyH_done (by kernel_rfl) ?_ _
           have HB2 : Hid (Below wr.heap.size wr _) := hS.2.2.2.2.2.2
           clear hS
           go_wp2
           exact ⟨⟨i + 1, by omega, by go_num, hK.out.1.later HB2.out, hK.out.2.1.later HB2.out, hK.out.2.2.1.later HB2.out, below_step hK.out.2.2.2 HB2.out⟩, by simp [intOf]; omega⟩
         · obtain rfl : n = i := by omega
           have hltb : decide ((n : Int) < (n : Int)) = false := decide_eq_false (by omega)
           go_wp2_with fail
           refine (flat_any _ n f _ (HF.out.later hK.out.2.2.2)).mono ?_
           rintro e w5 ⟨⟨t1, rfl, ht1⟩, hb5⟩
           have HT1 : Hid (t1 = true ↔ MayL n f ∧ FlatP f n) := ht1
           have HB5 : Hid (Below w.heap.size w w5) := below_step hK.out.2.2.2 hb5
           have HP5 : Hid (Ps w5 (.slice (some ⟨gm, 0, none⟩) n cm) n fm) := hK.out.2.2.1.later hb5
           clear ht1 hb5 hK
           go_wp2_with fail
           refine (flat_any _ n fm _ HP5.out).mono ?_
           rintro e w6 ⟨⟨t2, rfl, ht2⟩, hb6⟩
           obtain rfl : t1 = t2 := by
             have h1 := HT1.out
             have h2 := ht2
             rw [← HFM.out, ← turn_flat HRN.out] at h2
             have h3 : t1 = true ↔ t2 = true := by
               rw [h1, h2]
               exact ⟨fun h => ⟨fT_may h.1, h.2⟩, fun h => ⟨HM.out, h.2⟩⟩
             cases t1 <;> cases t2 <;> simp_all
           have HB6 : Hid (Below w.heap.size w w6) := below_step HB5.out hb6
           have HP6 : Hid (Ps w6 (.slice (some ⟨gm, 0, none⟩) n cm) n fm) := HP5.out.later hb6
           clear ht2 hb6 HB5 HP5
           have ett : (t1 == t1) = true := by simp
           go_wp2_with fail
           refine (unlike_any _ n f _ (HF.out.later HB6.out)).mono ?_
           rintro e w7 ⟨h7, hb7⟩
           rcases h7 with ⟨hh, _⟩ | ⟨_, R4, os', us, rfl, _, ho, hus, _⟩
           · exact absurd HM.out hh
           obtain ⟨L1, hL1⟩ : ∃ L1, us.length = L1 := ⟨_, rfl⟩
           have HL1 : Hid (L1 = cptQ (os.map fun i => vq (f i))) := by
             show L1 = _
             rw [← hL1, hus, ← cpt_own ho, cptQ_is, ho.uniq HOF.out]
           have HB7 : Hid (Below w.heap.size w w7) := below_step HB6.out hb7
           have HP7 : Hid (Ps w7 (.slice (some ⟨gm, 0, none⟩) n cm) n fm) := HP6.out.later hb7
           rw [hL1]
           clear ho hus hb7 hL1 HB6 HP6
           go_wp2_with fail
           refine (unlike_any _ n fm _ HP7.out).mono ?_
           rintro e w8 ⟨h8, hb8⟩
           rcases h8 with ⟨hh, _⟩ | ⟨_, R5, os2, us2, rfl, _, ho, hus, _⟩
           · exact absurd (by rw [← HFM.out]; exact fT_may HM.out) hh
           have hL2 : us2.length = L1 := by rw [HL1.out, hus, ← cpt_own ho, cptQ_is, ho.uniq HO2.out.1, HV.out]
           have HB8 : Hid (Below w.heap.size w w8) := below_step HB7.out hb8
           rw [hL2]
           clear ho hus hb8
           go_wp2
           go_ret
           exact ⟨rfl, HB8.out⟩
end Go.Proofs.Ytgpbfhennineiaa
