/- Own texts, put together: Xs Xt Xu Xv Xw Oc Od Oe Of Og Qm. -/
import Derived.Test.YtcgbnjoajieggaaGreatQ28
import Derived.Test.YtcgbnjoajieggaaGreatQ30
namespace Go.Proofs.YtcgbnjoajieggaaGreat
/- Package expand: a list squeezed, whatever it is; a list turned about. -/
section
open Go.RowKit Go.Shelf
attribute [local go_sem] run_store_float
set_option maxRecDepth 100000 in
set_option maxHeartbeats 1000000 in
theorem squeezed_none (a : Option Addr) (cap : Nat) (w : World) : Calls Tryz.prog 134 #[.slice a 0 cap] w fun e w' => e = .returned (.slice none 0 0) ∧ w' = w := by
 refine (callsIn_wide (n := 5)).1 ?_
 refine callsIn_of_wp_marks Tryz.func134 rfl trivial ?_ rfl
 simp only [Tryz.ntmps134, List.size_toArray, List.length_cons, List.length_nil, Nat.reduceAdd, Nat.reduceSub, Array.replicate_succ, Array.replicate_zero, List.push_toArray, List.append_toArray, List.nil_append, List.cons_append]
 gi_wp2
 exact ⟨_, results_tmp rfl _ _ _, rfl, rfl⟩
theorem squeezedL_any (top : Nat) (s : Value) (es : List Nat) (w : World) (ht : top ≤ 2074) (hs : Fs w s es) (hu : Up top es) (hl : es.length ≤ 1000) :
   Calls Tryz.prog 134 #[s] w fun e w' => (∃ v bs, e = .returned v ∧ Fr w' w.heap.size v bs ∧ SqL top es.length ((vals es).sum) bs) ∧ Below w.heap.size w w' := by
 rcases List.eq_nil_or_concat es with rfl | ⟨ds, c, rfl⟩
 · obtain ⟨a, cap, rfl⟩ := hs.none
   refine (squeezed_none a cap w).mono ?_
   rintro e w' ⟨rfl, rfl⟩
   exact ⟨⟨_, [], rfl, Fr.nil _ _, ⟨by simpa [vals] using Sq.nil top, by simp⟩⟩, Below.refl _ _⟩
 · rw [List.concat_eq_append] at *
   obtain ⟨⟨a, cap, e, h1, h2, h3⟩, hw⟩ := id hs
   rcases h3 with h3 | ⟨g, off, rfl, h3⟩
   · simp at h3
   · have hlen : (ds ++ [c]).length = ds.length + 1 := by simp
     rw [hlen] at e h3
     subst e
     rw [hlen]
     exact squeezed_walk top ds.length c cap g off ds w ht hs hu rfl (by rw [hlen] at hl; omega) (World.block_lt_of_cell? w ⟨g, off + 0, none⟩ (h3 0 (by omega))) h3
theorem squeezed_any (top : Nat) (s : Value) (es : List Nat) (w : World) (ht : top ≤ 2074) (hs : Fs w s es) (hu : Up top es) (hl : es.length ≤ 1000) :
   Calls Tryz.prog 134 #[s] w fun e w' => (∃ v bs, e = .returned v ∧ Fr w' w.heap.size v bs ∧ Sq top ((vals es).sum) bs) ∧ Below w.heap.size w w' := by
 refine (squeezedL_any top s es w ht hs hu hl).mono ?_
 rintro e w' ⟨⟨v, bs, h1, h2, h3⟩, h4⟩
 exact ⟨⟨v, bs, h1, h2, h3.1⟩, h4⟩
theorem fr_made {w w1 : World} {n : Nat} (h : w1.ownsRow w.heap.size 33 1 (.slice (some ⟨w.heap.size, 0, none⟩) n n) n (madeCells (Value.float .f64 0).cells (n * 1)).toList) : Fr w1 w.heap.size (.slice (some ⟨w.heap.size, 0, none⟩) n n) (List.replicate n 0) := by
 refine ⟨?_, fun b hb => by have := List.eq_of_mem_replicate hb; omega⟩
 rw [List.length_replicate]
 rw [Nat.mul_one, show (Value.float .f64 0).cells = #[Value.float .f64 0] from rfl, toList_madeCells_one] at h
 simpa [f64s] using h
set_option maxRecDepth 100000 in
set_option maxHeartbeats 4000000 in
theorem negE_walk (n cap : Nat) (a : Option Addr) (es : List Nat) (w : World) (hs : Fs w (.slice a n cap) es) (hn : es.length = n) (hl : n ≤ 1000) :
   Calls Tryz.prog 139 #[.slice a n cap] w fun e w' => (∃ v, e = .returned v ∧ Fr w' w.heap.size v (es.map fflip)) ∧ Below w.heap.size w w' := by
 have H : Hid (Fs w (.slice a n cap) es) := hs
 have HN : Hid (es.length = n) := hn
 have l1 : (n : Int) ≤ 1000 := by omega
 obtain ⟨i0, hi0, hz0, hz1, hz2⟩ := info_parts infoF
 clear hs hn hl
 go_enter Tryz.func139, Tryz.ntmps139
 go_wp2_with (at_make; refine wpList_make_full _ rfl _ _ _ rfl w.heap.size 33 i0 (.float .f64 0) 1 undF hi0 hz0 hz1 .i64 .i64 _ _ n rfl rfl (by omega) (by omega) (by rw [hz2]; omega) (by unfold maxLen; omega) (by simp) ?_; intro w1 hown hgrow; have HJ : Hid (Fr w1 w.heap.size (.slice (some ⟨w.heap.size, 0, none⟩) n n) (List.replicate n 0) ∧ Below w.heap.size w w1) := ⟨fr_made hown, (Below.refl _ _).grown hgrow (Nat.le_refl _) (by simp)⟩; clear hown hgrow)
 go_loopw [11] (fun i wr => ∃ (k : Nat) (ds : List Nat), k ≤ n ∧ i = .int .i64 (k : Nat) ∧ Hid (ds.length = n) ∧ Hid (Fr wr w.heap.size (.slice (some ⟨w.heap.size, 0, none⟩) n n) ds) ∧ Hid (Below w.heap.size w wr) ∧ Hid (∀ p, p < k → ds.getD p 0 = fflip (es.getD p 0))) (fun i _ => n - (intOf i).toNat)
 case atStart => exact ⟨0, List.replicate n 0, by omega, by simp, by show _ = _; simp, HJ.out.1, HJ.out.2, fun p hp => by omega⟩
 case round =>
   clear HJ
   obtain ⟨k, ds, hk, rfl, hd, hF, hB, hv⟩ := hrel
   by_cases hlt : k < n
   · have hlt' : (k : Int) < (n : Int) := by omega
     have hk0 : (0 : Int) ≤ (k : Int) := by omega
     obtain ⟨⟨a', c', e', _, _, hf⟩, hw⟩ := H.out
     cases e'
     rcases hf with hf | ⟨g, off, rfl, hf⟩
     · exfalso
       rw [hf] at hlt
       simp at hlt
     have hcell := box_cell hB.out (hf k hlt)
     obtain ⟨x, hx⟩ : ∃ x : Nat, Hid (es.getD k 0 = x) := ⟨_, rfl⟩
     rw [hx.out] at hcell
     have HX : Hid (x < 18446744073709551616) := by show x < _; rw [← hx.out]; exact getD_word hw k
     have hF' := hF.out
     have hd' := hd.out
     rw [← hd'] at hF'
     have c1 := hF'.cell k (by omega)
     have z1 := hF'.frozen k
     obtain ⟨y, hy⟩ : ∃ y : Nat, Hid (ds.getD k 0 = y) := ⟨_, rfl⟩
     rw [hy.out] at c1
     have nx := run_negF x HX.out
     clear hF' hd' hf hw
     go_wp2
     have hd' := hd.out
     have hF' := hF.out
     rw [← hd'] at hF'
     have hF2 := hF'.set (k := k) (flip_lt HX.out)
     have hlen : (ds.set k (fflip x)).length = es.length := by simp [hd']
     rw [hlen] at hF2
     rw [hd'] at hF2
     exact ⟨⟨k + 1, ds.set k (fflip x), by omega, by go_num, hlen, hF2, hB.out.setCell (p := ⟨w.heap.size, k, none⟩) (Nat.le_refl _) _, fun p hp => by
       by_cases q : p = k
       · subst q
         rw [hx.out]
         have : p < ds.length := by omega
         simp [List.getD, this]
       · have := hv.out p (by omega)
         rw [← this]
         simp [List.getD, Ne.symm q]⟩, by simp [intOf]; omega⟩
   · obtain rfl : k = n := by omega
     have hltb : decide ((k : Int) < (k : Int)) = false := decide_eq_false (by omega)
     go_wp2
     go_ret
     have e : ds = es.map fflip := by
       apply List.ext_getElem
       · simp [hd.out, HN.out]
       · intro p h1 h2
         have hp : p < es.length := by simpa using h2
         have := hv.out p (by rw [← HN.out]; exact hp)
         rw [show ds[p] = ds.getD p 0 by simp [List.getD, h1], this]
         simp [List.getD, hp]
     rw [← e]
     exact ⟨⟨_, rfl, hF.out⟩, hB.out⟩
theorem negE_any (s : Value) (es : List Nat) (w : World) (hs : Fs w s es) (hl : es.length ≤ 1000) : Calls Tryz.prog 139 #[s] w fun e w' => (∃ v, e = .returned v ∧ Fr w' w.heap.size v (es.map fflip)) ∧ Below w.heap.size w w' := by
 obtain ⟨⟨a, cap, rfl, _⟩, _⟩ := id hs
 exact negE_walk es.length cap a es w hs rfl hl
end

/- Package expand: which lists may be, and what follows of it. -/
section
open Go.RowKit Go.Shelf
theorem may_lo {lo hi : Nat} {bs : List Nat} (h : MayP lo hi bs) : ∀ d i, i + d + 1 < bs.length → Lo (fval (bs.getD i 0)) (fval (bs.getD (i + d + 1) 0)) := by
 intro d
 induction d with
 | zero => intro i hi; exact (h.2 (i + 1) hi).2.2.2 (by omega)
 | succ d ih =>
   intro i hi
   have h1 := ih i (by omega)
   have h2 := (h.2 (i + (d + 1) + 1) hi).2.2.2 (by omega)
   rw [show i + (d + 1) + 1 - 1 = i + d + 1 by omega] at h2
   exact h1.trans (fun e => (h.2 (i + d + 1) (by omega)).2.2.1 (fval_zero_iff.1 e)) h2
theorem mem_getD {bs : List Nat} {b : Nat} (h : b ∈ bs) : ∃ i, i < bs.length ∧ bs.getD i 0 = b := by
 obtain ⟨i, hi, e⟩ := List.mem_iff_getElem.1 h
 exact ⟨i, hi, by simp [List.getD, hi, e]⟩
theorem may_ex {lo hi : Nat} {bs : List Nat} (h : MayP lo hi bs) : Ex (vals bs) := by
 refine ⟨?_, fun x hx => ?_⟩
 · rw [List.pairwise_iff_getElem]
   intro i j hi hj hij
   have hj' : j < bs.length := by simpa [vals] using hj
   have := may_lo h (j - i - 1) i (by omega)
   rw [show i + (j - i - 1) + 1 = j by omega] at this
   have hi' : i < bs.length := by omega
   simpa [vals, List.getD, hi', hj'] using this
 · obtain ⟨b, hb, rfl⟩ := List.mem_map.1 hx
   obtain ⟨i, hi, rfl⟩ := mem_getD hb
   intro e
   exact (h.2 i hi).2.2.1 (fval_zero_iff.1 e)
theorem may_up {lo hi N : Nat} {bs : List Nat} (h : MayP lo hi bs) (hh : hi < 9218868437227405312) (hN : fval hi < U N) : Up N bs := by
 refine ⟨may_ex h, fun b hb => ?_, fun b hb => ?_⟩
 · obtain ⟨i, hik, rfl⟩ := mem_getD hb
   have := (h.2 i hik).2.1
   unfold Fin64
   omega
 · obtain ⟨i, hik, rfl⟩ := mem_getD hb
   have h1 := (h.2 i hik).2.1
   have f : Fin64 (bs.getD i 0) := by unfold Fin64; omega
   rw [← ab_fval _ f]
   rcases Nat.lt_or_ge (frung (bs.getD i 0)) hi with q | q
   · have := fval_lt q hh
     grind
   · rw [show frung (bs.getD i 0) = hi by omega]; exact hN
theorem up_may {lo hi : Nat} {bs : List Nat} (hx : Ex (vals bs)) (hl : bs.length ≤ 64) (hb : ∀ b ∈ bs, lo ≤ frung b ∧ frung b ≤ hi) : MayP lo hi bs := by
 refine ⟨hl, fun i hi => ?_⟩
 have hm : bs.getD i 0 ∈ bs := by
   rw [show bs.getD i 0 = bs[i] by simp [List.getD, hi]]; exact List.getElem_mem hi
 refine ⟨(hb _ hm).1, (hb _ hm).2, fun e => hx.2 (fval (bs.getD i 0)) (List.mem_map.2 ⟨_, hm, rfl⟩) (fval_zero_iff.2 e), fun h0 => ?_⟩
 have := (List.pairwise_iff_getElem.1 hx.1) (i - 1) i (by simp [vals]; omega) (by simp [vals]; omega) (by omega)
 have h1 : i - 1 < bs.length := by omega
 simpa [vals, List.getD, hi, h1] using this
theorem top990 : fval 9065746049896808448 = U 2064 := by
 rw [(fval_pos_lt (by omega)).1, show fmag 9065746049896808448 = 4503599627370496 by decide, show fpl 9065746049896808448 = 938 by decide]
 unfold U
 rw [show ((2064 : Nat) : Int) - 1074 = 938 + ((52 : Nat) : Int) by omega, p2_add, p2_nat, Rat.mul_comm]
theorem check_up {bs : List Nat} (h : MayP 0 9065746049896808448 bs) : Up 2065 bs := may_up h (by omega) (by rw [top990]; exact U_lt_iff.2 (by omega))
theorem safe_safe {bs : List Nat} (h : MayP 2580562586483294208 6633802251116740608 bs) : ∀ b ∈ bs, SafeB b := by
 intro b hb
 obtain ⟨i, hi, rfl⟩ := mem_getD hb
 exact ⟨(h.2 i hi).1, (h.2 i hi).2.1⟩
theorem word_le {b : Nat} (h : Fin64 b) (hl : ab (fval b) ≤ U 2064) : frung b ≤ 9065746049896808448 := by
 rcases Nat.lt_or_ge 9065746049896808448 (frung b) with h1 | h1
 · exfalso
   have := fval_lt h1 h
   rw [top990, ab_fval b h] at this
   grind
 · exact h1
theorem Ex.lead {l : List Rat} {c : Rat} (h : Ex (l ++ [c])) : ab l.sum < ab c := by
 have c0 : c ≠ 0 := h.2 c (by simp)
 by_cases e : l = []
 · subst e
   rw [List.sum_nil, show ab 0 = 0 by unfold ab; grind]
   exact ab_pos c0
 · obtain ⟨t, h1, h2⟩ := lo_many (fun d hd => (List.pairwise_append.1 h.1).2.2 d hd c (by simp)) e
   have h3 := h.left.bound (s := t) h1
   have h4 := h2.ge (U_pos t) c0
   grind
theorem sgq_lead {l : List Rat} {c : Rat} (h : Ex (l ++ [c])) : sgq ((l ++ [c]).sum) = sgq c := by
 have h1 := h.lead
 have c0 : c ≠ 0 := h.2 c (by simp)
 rw [List.sum_append, List.sum_cons, List.sum_nil, Rat.add_zero]
 unfold sgq
 unfold ab at h1
 by_cases hc : c < 0
 · rw [if_pos (by split at h1 <;> grind), if_pos hc]
 · rw [if_neg (by split at h1 <;> grind), if_neg (by split at h1 <;> grind), if_neg hc, if_neg c0]
theorem vals_last {bs : List Nat} (h : bs ≠ []) : ∃ ds, bs = ds ++ [lastW bs] := by
 rcases List.eq_nil_or_concat bs with rfl | ⟨ds, c, rfl⟩
 · exact absurd rfl h
 · exact ⟨ds, by rw [List.concat_eq_append]; simp [lastW, List.getD]⟩
theorem sgq_last {bs : List Nat} (h : Ex (vals bs)) : sgq (fval (lastW bs)) = sgq (vals bs).sum := by
 by_cases e : bs = []
 · subst e
   rw [show lastW [] = 0 from rfl, fval0]; rfl
 · obtain ⟨ds, hd⟩ := vals_last e
   have e2 : vals bs = vals ds ++ [fval (lastW bs)] := by
     conv => lhs; rw [hd]
     simp [vals]
   rw [e2] at h ⊢
   exact (sgq_lead h).symm
theorem Ex.le_last {l : List Rat} {c x : Rat} (h : Ex (l ++ [c])) (hx : x ∈ l ++ [c]) : ab x ≤ ab c := by
 rcases List.mem_append.1 hx with hx | hx
 · have := ((List.pairwise_append.1 h.1).2.2 x hx c (by simp)).lt (h.2 c (by simp))
   grind
 · rw [List.mem_singleton.1 hx]; exact Rat.le_refl
theorem Sq.up {top N : Nat} {S : Rat} {bs : List Nat} (h : Sq top S bs) (hS : ab S < U N) : Up (N + 1) bs := by
 refine ⟨h.ex, h.fin, fun b hb => ?_⟩
 have hne : bs ≠ [] := by intro e; rw [e] at hb; cases hb
 obtain ⟨ds, hd⟩ := vals_last hne
 have e2 : vals bs = vals ds ++ [fval (lastW bs)] := by
   conv => lhs; rw [hd]
   simp [vals]
 have hl := (h.lead (fval (lastW bs)) (by rw [e2]; simp)).1
 have hx : fval b ∈ vals bs := List.mem_map.2 ⟨b, hb, rfl⟩
 have hex := h.ex
 rw [e2] at hx hex
 have h1 := hex.le_last hx
 have h2 : ab (fval (lastW bs)) ≤ ab (fval (lastW bs) - S) + ab S := by
   have := ab_add (fval (lastW bs) - S) S
   rwa [show fval (lastW bs) - S + S = fval (lastW bs) by grind] at this
 have h3 := U_succ N
 have h4 := ab_nonneg (fval (lastW bs) - S)
 grind
theorem up_sum {N : Nat} {bs : List Nat} (h : Up N bs) : ab (vals bs).sum < U N := h.ex.bound (fun x hx => by obtain ⟨b, hb, rfl⟩ := List.mem_map.1 hx; exact h.lim b hb)
theorem Up.mono {N N' : Nat} {bs : List Nat} (h : Up N bs) (hN : N ≤ N') : Up N' bs := ⟨h.ex, h.fin, fun b hb => by have := h.lim b hb; have := U_mono hN; grind⟩
theorem up_nil (N : Nat) : Up N [] := ⟨⟨List.Pairwise.nil, by simp [vals]⟩, by simp, by simp⟩
theorem Sq.may {top N : Nat} {S : Rat} {bs : List Nat} (h : Sq top S bs) (hS : ab S < U N) (hN : N ≤ 2063) (ht : top ≤ 2074) : MayP 0 9065746049896808448 bs := by
 have u := h.up hS
 refine up_may h.ex (by have := h.cnt; omega) (fun b hb => ⟨Nat.zero_le _, word_le (h.fin b hb) ?_⟩)
 have := u.lim b hb
 have := U_mono (show N + 1 ≤ 2064 by omega)
 grind
end

/- Package expand: Sign, Near, Cmp, Of. -/
section
open Go.RowKit Go.Shelf
abbrev MayC (bs : List Nat) : Prop := MayP 0 9065746049896808448 bs
abbrev MayS (bs : List Nat) : Prop := MayP 2580562586483294208 6633802251116740608 bs
theorem last_fin {bs : List Nat} (h : ∀ b ∈ bs, Fin64 b) : Fin64 (lastW bs) := by
 by_cases e : bs = []
 · subst e; exact fin0
 · obtain ⟨ds, hd⟩ := vals_last e
   exact h _ (by rw [hd]; simp [lastW, List.getD])
theorem up_neg {N : Nat} {bs : List Nat} (h : Up N bs) (hw : ∀ b ∈ bs, b < 18446744073709551616) : Up N (bs.map fflip) ∧ (vals (bs.map fflip)).sum = -(vals bs).sum ∧ vals (bs.map fflip) = (vals bs).map (fun x => -x) := by
 have e : vals (bs.map fflip) = (vals bs).map (fun x => -x) := by
   simp only [vals, List.map_map]
   apply List.map_congr_left
   intro b hb
   exact fval_flip (hw b hb) (h.fin b hb)
 have hsum : ∀ l : List Rat, (l.map (fun x => -x)).sum = -l.sum := by
   intro l
   induction l with
   | nil => simp
   | cons a l ih => rw [List.map_cons, List.sum_cons, List.sum_cons, ih]; grind
 refine ⟨⟨?_, fun b hb => ?_, fun b hb => ?_⟩, by rw [e, hsum], e⟩
 · rw [e]
   refine ⟨?_, fun x hx => ?_⟩
   · rw [List.pairwise_map]
     refine h.ex.1.imp ?_
     rintro a b ⟨t, h1, h2⟩
     exact ⟨t, by rw [ab_neg]; exact h1, h2.neg⟩
   · obtain ⟨y, hy, rfl⟩ := List.mem_map.1 hx
     have := h.ex.2 y hy
     grind
 · obtain ⟨c, hc, rfl⟩ := List.mem_map.1 hb
   unfold Fin64
   rw [frung_flip (hw c hc)]
   exact h.fin c hc
 · obtain ⟨c, hc, rfl⟩ := List.mem_map.1 hb
   rw [fval_flip (hw c hc) (h.fin c hc), ab_neg]
   exact h.lim c hc
set_option maxRecDepth 100000 in
set_option maxHeartbeats 1000000 in
theorem cmpE_any (s s2 : Value) (es fs : List Nat) (w : World) (hs : Fs w s es) (hs2 : Fs w s2 fs) :
   Calls Tryz.prog 102 #[s, s2] w fun e w' => (∃ z : Int, e = .returned (.int .i64 z) ∧ (MayC es → MayC fs → z = sgq ((vals es).sum - (vals fs).sum)) ∧ (¬ (MayC es ∧ MayC fs) → z = 0)) ∧ Below w.heap.size w w' := by
 have H : Hid (Fs w s es) := hs
 have H2 : Hid (Fs w s2 fs) := hs2
 clear hs hs2
 go_enter Tryz.func102, Tryz.ntmps102
 go_wp2_with fail
 refine (check_any s es _ H.out).mono ?_
 rintro e w1 ⟨⟨t, rfl, ht⟩, hw1⟩
 obtain rfl := hw1.symm
 have HT : Hid (t = true ↔ MayC es) := ht
 clear ht
 cases t
 · go_wp2
   go_ret
   exact ⟨⟨0, rfl, fun h => absurd (HT.out.2 h) (by simp), fun _ => rfl⟩, Below.refl _ _⟩
 · have HM : Hid (MayC es) := HT.out.1 rfl
   go_wp2_with fail
   refine (check_any s2 fs _ H2.out).mono ?_
   rintro e w1 ⟨⟨t, rfl, ht⟩, hw1⟩
   obtain rfl := hw1.symm
   have HT2 : Hid (t = true ↔ MayC fs) := ht
   clear ht
   cases t
   · go_wp2
     go_ret
     exact ⟨⟨0, rfl, fun _ h => absurd (HT2.out.2 h) (by simp), fun _ => rfl⟩, Below.refl _ _⟩
   · have HM2 : Hid (MayC fs) := HT2.out.1 rfl
     go_wp2_with fail
     refine (negE_any s2 fs _ H2.out (by have := HM2.out.1; omega)).mono ?_
     rintro e w1 ⟨⟨v, rfl, hF⟩, hb⟩
     have HF : Hid (Fr w1 w.heap.size v (fs.map fflip) ∧ Below w.heap.size w w1) := ⟨hF, hb⟩
     clear hF hb
     go_wp2_with fail
     refine (joinedE_any 2065 s v es (fs.map fflip) _ (by omega) (H.out.later HF.out.2) HF.out.1.fs (check_up HM.out) (up_neg (check_up HM2.out) H2.out.word).1 (by have := HM.out.1; have := HM2.out.1; simp; omega)).mono ?_
     rintro e w2 ⟨⟨v2, bs, rfl, hF2, hu2, hs2, hl2⟩, hb2⟩
     have HF2 : Hid (Fr w2 w1.heap.size v2 bs ∧ Up 2068 bs ∧ (vals bs).sum = (vals es).sum - (vals fs).sum ∧ bs.length ≤ 1000 ∧ Below w.heap.size w w2) := by
       refine ⟨hF2, hu2, ?_, ?_, HF.out.2.trans (hb2.mono HF.out.2.size)⟩
       · rw [hs2, (up_neg (check_up HM2.out) H2.out.word).2.1]; grind
       · have := HM.out.1; have := HM2.out.1; simp at hl2; omega
     clear hF2 hu2 hs2 hl2 hb2
     go_wp2_with fail
     refine (signOf_any v2 bs _ HF2.out.1.fs (last_fin HF2.out.2.1.fin) (by have := HF2.out.2.2.2.1; omega)).mono ?_
     rintro e w3 ⟨rfl, rfl⟩
     go_wp2
     go_ret
     exact ⟨⟨_, rfl, fun _ _ => by rw [sgq_last HF2.out.2.1.ex, HF2.out.2.2.1], fun h => absurd ⟨HM.out, HM2.out⟩ h⟩, HF2.out.2.2.2.2⟩
end

/- Package expand: Sum, Add. -/
section
open Go.RowKit Go.Shelf
structure SumS (S : Rat) (bs : List Nat) : Prop where
 sum : (vals bs).sum = S
 up : Up 1984 bs
 cnt : bs.length ≤ 64
 may : MayC bs
 sq : ∃ top, Sq top S bs
theorem SumS.nil : SumS 0 [] := ⟨rfl, up_nil _, by simp, ⟨by simp, fun i hi => by simp at hi⟩, ⟨0, Sq.nil 0⟩⟩
theorem SumS.of {S : Rat} {bs : List Nat} {top : Nat} (h : Sq top S bs) (ht : top ≤ 2000) (hS : ab S < U 1983) : SumS S bs :=
 ⟨h.sum, h.up hS, by have := h.cnt; omega, h.may hS (by omega) (by omega), ⟨top, h⟩⟩
end

/- Package expand: Add, Mul, Scale. -/
section
open Go.RowKit Go.Shelf
def Ans (w w' : World) (e : Ending) (ok : Prop) (S : Rat) : Prop := (∃ v bs t, e = .returned (.tuple #[v, .bool t]) ∧ Fr w' w.heap.size v bs ∧ (t = true ↔ ok) ∧ (t = true → SumS S bs) ∧ (t = false → bs = [])) ∧ Below w.heap.size w w'
theorem scaled_any (s : Value) (es : List Nat) (b : Nat) (w : World) (hs : Fs w s es) (hm : MayS es) (hb : SafeB b) (hbw : b < 18446744073709551616) :
   Calls Tryz.prog 136 #[s, .float .f64 b] w fun e w' => (∃ v bs, e = .returned v ∧ Fr w' w.heap.size v bs ∧ Up 1977 bs ∧ (vals bs).sum = (vals es).sum * fval b ∧ bs.length ≤ 2 * es.length + 1) ∧ Below w.heap.size w w' := by
 obtain ⟨⟨a1, c1, rfl, _⟩, _⟩ := id hs
 exact scaled_walk es.length c1 b a1 es w hs (may_ex hm) (safe_safe hm) hb hbw rfl (by have := hm.1; omega)
theorem safe_up {bs : List Nat} (h : MayS bs) : Up 1525 bs := may_up h (by omega) (by rw [safe_top, show p2 450 = U 1524 from rfl]; exact U_lt_iff.2 (by omega))
theorem take_up {N : Nat} {bs : List Nat} (h : Up N bs) (j : Nat) : Up N (bs.take j) := by
 have hv : vals (bs.take j) = (vals bs).take j := by simp [vals, List.map_take]
 refine ⟨?_, fun b hb => h.fin b (List.mem_of_mem_take hb), fun b hb => h.lim b (List.mem_of_mem_take hb)⟩
 rw [hv]
 exact ⟨h.ex.1.sublist (List.take_sublist _ _), fun x hx => h.ex.2 x (List.mem_of_mem_take hx)⟩
theorem mul_lim {es fs : List Nat} (h1 : MayS es) (h2 : MayS fs) (j : Nat) : ab ((vals es).sum * (vals (fs.take j)).sum) < U 1983 := by
 have a := up_sum (safe_up h1)
 have b := up_sum (take_up (safe_up h2) j)
 have p := U_mulX' (s := 1525) (t := 1525) (r := 1976) (by omega)
 have q := U_lt_iff.2 (show 1976 < 1983 by omega)
 rw [ab_mul]
 have c1 := Rat.mul_le_mul_of_nonneg_right (Rat.le_of_lt a) (ab_nonneg (vals (fs.take j)).sum)
 have c2 := Rat.mul_le_mul_of_nonneg_left (Rat.le_of_lt b) (Rat.le_of_lt (U_pos 1525))
 grind
theorem take_step {fs : List Nat} {j : Nat} (h : j < fs.length) (E : Rat) : E * (vals (fs.take (j + 1))).sum = E * (vals (fs.take j)).sum + E * fval (fs.getD j 0) := by
 have e : fs.take (j + 1) = fs.take j ++ [fs.getD j 0] := by rw [List.take_add_one]; simp [List.getD, h]
 rw [e]
 simp only [vals, List.map_append, List.map_cons, List.map_nil, List.sum_append, List.sum_cons, List.sum_nil]
 grind
set_option maxRecDepth 100000 in
set_option maxHeartbeats 4000000 in
theorem mulE_walk (n m c1 c2 : Nat) (a1 a2 : Option Addr) (es fs : List Nat) (w : World) (hs : Fs w (.slice a1 n c1) es) (hs2 : Fs w (.slice a2 m c2) fs) (hn : es.length = n) (hm : fs.length = m) :
   Calls Tryz.prog 101 #[.slice a1 n c1, .slice a2 m c2] w fun e w' => Ans w w' e (MayS es ∧ MayS fs) ((vals es).sum * (vals fs).sum) := by
 have H : Hid (Fs w (.slice a1 n c1) es ∧ es.length = n) := ⟨hs, hn⟩
 have H2 : Hid (Fs w (.slice a2 m c2) fs ∧ fs.length = m) := ⟨hs2, hm⟩
 clear hs hs2 hn hm
 go_enter Tryz.func101, Tryz.ntmps101
 go_wp2_with fail
 refine (safeE_any _ es _ H.out.1).mono ?_
 rintro e w1 ⟨⟨t, rfl, ht⟩, hw1⟩
 obtain rfl := hw1.symm
 have HT : Hid (t = true ↔ MayS es) := ht
 clear ht
 cases t
 · have HN : Hid (¬ MayS es) := fun h => Bool.noConfusion (HT.out.2 h)
   clear HT
   go_wp2
   go_ret2
   exact ⟨⟨_, [], false, rfl, Fr.nil _ _, ⟨fun h => Bool.noConfusion h, fun h => absurd h.1 HN.out⟩, fun h => Bool.noConfusion h, fun _ => rfl⟩, Below.refl _ _⟩
 · have HM : Hid (MayS es) := HT.out.1 rfl
   clear HT
   go_wp2_with fail
   refine (safeE_any _ fs _ H2.out.1).mono ?_
   rintro e w1 ⟨⟨t, rfl, ht⟩, hw1⟩
   obtain rfl := hw1.symm
   have HT : Hid (t = true ↔ MayS fs) := ht
   clear ht
   cases t
   · have HN : Hid (¬ MayS fs) := fun h => Bool.noConfusion (HT.out.2 h)
     clear HT
     go_wp2
     go_ret2
     exact ⟨⟨_, [], false, rfl, Fr.nil _ _, ⟨fun h => Bool.noConfusion h, fun h => absurd h.2 HN.out⟩, fun h => Bool.noConfusion h, fun _ => rfl⟩, Below.refl _ _⟩
   · have HM2 : Hid (MayS fs) := HT.out.1 rfl
     clear HT
     have ln : (n : Int) ≤ 64 := by have := HM.out.1; have := H.out.2; omega
     have lm : (m : Int) ≤ 64 := by have := HM2.out.1; have := H2.out.2; omega
     by_cases hdec : n < m
     · go_wp2
       clear hdec
       go_loopw [26, 6] (fun i s wr => ∃ (j : Nat) (bs : List Nat), j ≤ n ∧ i = .int .i64 j ∧ Hid (Fr wr w.heap.size s bs ∧ SumS ((vals fs).sum * (vals (es.take j)).sum) bs ∧ Below w.heap.size w wr)) (fun i _ _ => n - (intOf i).toNat)
       case atStart => exact ⟨0, [], Nat.zero_le _, rfl, Fr.nil _ _, by rw [show (vals fs).sum * (vals (es.take 0)).sum = 0 by simp [vals]]; exact SumS.nil, Below.refl _ _⟩
       case round =>
         obtain ⟨j, bs, hj, rfl, hz⟩ := hrel
         by_cases hlt : j < n
         · have hl : (j : Int) < (n : Int) := by omega
           have hl0 : (0 : Int) ≤ (j : Int) := by omega
           obtain ⟨b, hbv⟩ : ∃ b : Nat, Hid (es.getD j 0 = b) := ⟨_, rfl⟩
           have hjf : j < es.length := by rw [H.out.2]; exact hlt
           obtain ⟨gg, off, ea, hcell⟩ : ∃ gg off, a1 = some ⟨gg, off, none⟩ ∧ wr.cell? ⟨gg, off + j, none⟩ = some (.float .f64 b) := by
             obtain ⟨⟨a', c', e', _, _, hf⟩, hw⟩ := id H.out.1
             rcases hf with hf | ⟨gg, off, ea, hf⟩
             · rw [hf] at hjf; simp at hjf
             · refine ⟨gg, off, ?_, by rw [← hbv.out]; exact box_cell hz.out.2.2 (hf j hjf)⟩
               rw [← ea]
               simpa using (Value.slice.inj e').1
           have HBS : Hid (SafeB b ∧ b < 18446744073709551616) := by
             have hmem : b ∈ es := by rw [← hbv.out, show es.getD j 0 = es[j] by simp [List.getD, hjf]]; exact List.getElem_mem hjf
             exact ⟨safe_safe HM.out b hmem, H.out.1.word b hmem⟩
           have HS : Hid (ab ((vals fs).sum * (vals (es.take (j + 1))).sum) < U 1983) := mul_lim HM2.out HM.out (j + 1)
           have HST : Hid ((vals fs).sum * (vals (es.take (j + 1))).sum = (vals fs).sum * (vals (es.take j)).sum + (vals fs).sum * fval b) := by rw [← hbv.out]; exact take_step hjf _
           subst ea
           clear hjf
           go_wp2_with fail
           refine (scaled_any _ fs b _ (H2.out.1.later hz.out.2.2) HM2.out HBS.out.1 HBS.out.2).mono ?_
           rintro e w2 ⟨⟨v2, cs, rfl, hF2, hu2, hs2, hl2⟩, hb2⟩
           have G2 : Hid (Fr w2 wr.heap.size v2 cs ∧ Up 1984 cs ∧ (vals cs).sum = (vals fs).sum * fval b ∧ cs.length ≤ 500 ∧ Below wr.heap.size wr w2) :=
             ⟨hF2, hu2.mono (by omega), hs2, by have := HM2.out.1; omega, hb2⟩
           clear hF2 hu2 hs2 hl2 hb2 hcell
           go_wp2_with fail
           refine (joinedE_any 1984 _ v2 bs cs _ (by omega) (hz.out.1.fs.later G2.out.2.2.2.2) G2.out.1.fs hz.out.2.1.up G2.out.2.1 (by have := hz.out.2.1.cnt; have := G2.out.2.2.2.1; omega)).mono ?_
           rintro e w3 ⟨⟨v3, ds, rfl, hF3, hu3, hs3, hl3⟩, hb3⟩
           have hbl : Below w.heap.size w w2 := hz.out.2.2.trans (G2.out.2.2.2.2.mono hz.out.2.2.size)
           have G3 : Hid (Fr w3 w2.heap.size v3 ds ∧ Up 1987 ds ∧ (vals ds).sum = (vals fs).sum * (vals (es.take (j + 1))).sum ∧ ds.length ≤ 1000 ∧ Below w.heap.size w w3) :=
             ⟨hF3, hu3, by rw [hs3, hz.out.2.1.sum, G2.out.2.2.1, HST.out], by have := hz.out.2.1.cnt; have := G2.out.2.2.2.1; omega, hbl.trans (hb3.mono hbl.size)⟩
           clear hF3 hu3 hs3 hl3 hb3 hbl
           go_wp2_with fail
           refine (squeezed_any 1987 v3 ds _ (by omega) G3.out.1.fs G3.out.2.1 G3.out.2.2.2.1).mono ?_
           rintro e w4 ⟨⟨v4, gs, rfl, hF4, hS4⟩, hb4⟩
           have G4 : Hid (Fr w4 w.heap.size v4 gs ∧ SumS ((vals fs).sum * (vals (es.take (j + 1))).sum) gs ∧ Below w.heap.size w w4) := by
             rw [G3.out.2.2.1] at hS4
             exact ⟨hF4.mono G3.out.2.2.2.2.size, SumS.of hS4 (by omega) HS.out, G3.out.2.2.2.2.trans (hb4.mono G3.out.2.2.2.2.size)⟩
           clear hF4 hS4 hb4
           go_wp2
           exact ⟨⟨j + 1, gs, by omega, by go_num, G4⟩, by simp [intOf]; omega⟩
         · obtain rfl : j = n := by omega
           have hltb : decide ((j : Int) < (j : Int)) = false := decide_eq_false (by omega)
           go_wp2
           go_ret2
           have hS := hz.out.2.1
           rw [← H.out.2, List.take_length] at hS
           exact ⟨⟨_, bs, true, rfl, hz.out.1, ⟨fun _ => ⟨HM.out, HM2.out⟩, fun _ => rfl⟩, fun _ => by rw [Rat.mul_comm]; exact hS, fun h => Bool.noConfusion h⟩, hz.out.2.2⟩
     · go_wp2
       clear hdec
       go_loopw [26, 6] (fun i s wr => ∃ (j : Nat) (bs : List Nat), j ≤ m ∧ i = .int .i64 j ∧ Hid (Fr wr w.heap.size s bs ∧ SumS ((vals es).sum * (vals (fs.take j)).sum) bs ∧ Below w.heap.size w wr)) (fun i _ _ => m - (intOf i).toNat)
       case atStart => exact ⟨0, [], Nat.zero_le _, rfl, Fr.nil _ _, by rw [show (vals es).sum * (vals (fs.take 0)).sum = 0 by simp [vals]]; exact SumS.nil, Below.refl _ _⟩
       case round =>
         obtain ⟨j, bs, hj, rfl, hz⟩ := hrel
         by_cases hlt : j < m
         · have hl : (j : Int) < (m : Int) := by omega
           have hl0 : (0 : Int) ≤ (j : Int) := by omega
           obtain ⟨b, hbv⟩ : ∃ b : Nat, Hid (fs.getD j 0 = b) := ⟨_, rfl⟩
           have hjf : j < fs.length := by rw [H2.out.2]; exact hlt
           obtain ⟨gg, off, ea, hcell⟩ : ∃ gg off, a2 = some ⟨gg, off, none⟩ ∧ wr.cell? ⟨gg, off + j, none⟩ = some (.float .f64 b) := by
             obtain ⟨⟨a', c', e', _, _, hf⟩, hw⟩ := id H2.out.1
             rcases hf with hf | ⟨gg, off, ea, hf⟩
             · rw [hf] at hjf; simp at hjf
             · refine ⟨gg, off, ?_, by rw [← hbv.out]; exact box_cell hz.out.2.2 (hf j hjf)⟩
               rw [← ea]
               simpa using (Value.slice.inj e').1
           have HBS : Hid (SafeB b ∧ b < 18446744073709551616) := by
             have hmem : b ∈ fs := by rw [← hbv.out, show fs.getD j 0 = fs[j] by simp [List.getD, hjf]]; exact List.getElem_mem hjf
             exact ⟨safe_safe HM2.out b hmem, H2.out.1.word b hmem⟩
           have HS : Hid (ab ((vals es).sum * (vals (fs.take (j + 1))).sum) < U 1983) := mul_lim HM.out HM2.out (j + 1)
           have HST : Hid ((vals es).sum * (vals (fs.take (j + 1))).sum = (vals es).sum * (vals (fs.take j)).sum + (vals es).sum * fval b) := by rw [← hbv.out]; exact take_step hjf _
           subst ea
           clear hjf
           go_wp2_with fail
           refine (scaled_any _ es b _ (H.out.1.later hz.out.2.2) HM.out HBS.out.1 HBS.out.2).mono ?_
           rintro e w2 ⟨⟨v2, cs, rfl, hF2, hu2, hs2, hl2⟩, hb2⟩
           have G2 : Hid (Fr w2 wr.heap.size v2 cs ∧ Up 1984 cs ∧ (vals cs).sum = (vals es).sum * fval b ∧ cs.length ≤ 500 ∧ Below wr.heap.size wr w2) :=
             ⟨hF2, hu2.mono (by omega), hs2, by have := HM.out.1; omega, hb2⟩
           clear hF2 hu2 hs2 hl2 hb2 hcell
           go_wp2_with fail
           refine (joinedE_any 1984 _ v2 bs cs _ (by omega) (hz.out.1.fs.later G2.out.2.2.2.2) G2.out.1.fs hz.out.2.1.up G2.out.2.1 (by have := hz.out.2.1.cnt; have := G2.out.2.2.2.1; omega)).mono ?_
           rintro e w3 ⟨⟨v3, ds, rfl, hF3, hu3, hs3, hl3⟩, hb3⟩
           have hbl : Below w.heap.size w w2 := hz.out.2.2.trans (G2.out.2.2.2.2.mono hz.out.2.2.size)
           have G3 : Hid (Fr w3 w2.heap.size v3 ds ∧ Up 1987 ds ∧ (vals ds).sum = (vals es).sum * (vals (fs.take (j + 1))).sum ∧ ds.length ≤ 1000 ∧ Below w.heap.size w w3) :=
             ⟨hF3, hu3, by rw [hs3, hz.out.2.1.sum, G2.out.2.2.1, HST.out], by have := hz.out.2.1.cnt; have := G2.out.2.2.2.1; omega, hbl.trans (hb3.mono hbl.size)⟩
           clear hF3 hu3 hs3 hl3 hb3 hbl
           go_wp2_with fail
           refine (squeezed_any 1987 v3 ds _ (by omega) G3.out.1.fs G3.out.2.1 G3.out.2.2.2.1).mono ?_
           rintro e w4 ⟨⟨v4, gs, rfl, hF4, hS4⟩, hb4⟩
           have G4 : Hid (Fr w4 w.heap.size v4 gs ∧ SumS ((vals es).sum * (vals (fs.take (j + 1))).sum) gs ∧ Below w.heap.size w w4) := by
             rw [G3.out.2.2.1] at hS4
             exact ⟨hF4.mono G3.out.2.2.2.2.size, SumS.of hS4 (by omega) HS.out, G3.out.2.2.2.2.trans (hb4.mono G3.out.2.2.2.2.size)⟩
           clear hF4 hS4 hb4
           go_wp2
           exact ⟨⟨j + 1, gs, by omega, by go_num, G4⟩, by simp [intOf]; omega⟩
         · obtain rfl : j = m := by omega
           have hltb : decide ((j : Int) < (j : Int)) = false := decide_eq_false (by omega)
           go_wp2
           go_ret2
           have hS := hz.out.2.1
           rw [← H2.out.2, List.take_length] at hS
           exact ⟨⟨_, bs, true, rfl, hz.out.1, ⟨fun _ => ⟨HM.out, HM2.out⟩, fun _ => rfl⟩, fun _ => by exact hS, fun h => Bool.noConfusion h⟩, hz.out.2.2⟩
theorem mulE_any (s s2 : Value) (es fs : List Nat) (w : World) (hs : Fs w s es) (hs2 : Fs w s2 fs) :
   Calls Tryz.prog 101 #[s, s2] w fun e w' => Ans w w' e (MayS es ∧ MayS fs) ((vals es).sum * (vals fs).sum) := by
 obtain ⟨⟨a1, c1, rfl, _⟩, _⟩ := id hs
 obtain ⟨⟨a2, c2, rfl, _⟩, _⟩ := id hs2
 exact mulE_walk es.length fs.length c1 c2 a1 a2 es fs w hs hs2 rfl rfl
end

/- Which points may be: grid.Has. -/
section
open Go.RowKit
attribute [local go_sem ↓] Go.wp_at_zero Go.wp_at_succ
attribute [local go_sem] run_store_float
def Pt (x y : Nat) : Prop := Crd x ∧ Crd y
set_option maxRecDepth 100000 in
set_option maxHeartbeats 4000000 in
theorem has_walk (g n c : Nat) (xs ys : Nat → Nat) (w : World) (hc : ∀ k, k < n → w.cell? ⟨g, k * 2, none⟩ = some (.float .f64 (xs k)) ∧ w.cell? ⟨g, k * 2 + 1, none⟩ = some (.float .f64 (ys k))) (hw : ∀ k, xs k < 18446744073709551616 ∧ ys k < 18446744073709551616) (hn : n ≤ 100) :
   Calls Tryz.prog 79 #[.slice (some ⟨g, 0, none⟩) n c] w fun e w' => (∃ t, e = .returned (.bool t) ∧ (t = true ↔ ∀ k, k < n → Pt (xs k) (ys k))) ∧ Below w.heap.size w w' := by
 have HC : Hid (∀ k, k < n → w.cell? ⟨g, k * 2, none⟩ = some (.float .f64 (xs k)) ∧ w.cell? ⟨g, k * 2 + 1, none⟩ = some (.float .f64 (ys k))) := hc
 have HW : Hid (∀ k, xs k < 18446744073709551616 ∧ ys k < 18446744073709551616) := hw
 have l1 : (n : Int) ≤ 100 := by omega
 clear hc hw hn
 go_enter Tryz.func79, Tryz.ntmps79
 go_wp2
 go_loopw [7] (fun i wr => ∃ k : Nat, k ≤ n ∧ i = .int .i64 (k : Nat) ∧ Hid (Below w.heap.size w wr ∧ ∀ j, j < k → Pt (xs j) (ys j))) (fun i _ => n - (intOf i).toNat)
 case atStart => exact ⟨0, Nat.zero_le _, rfl, Below.refl _ _, fun j hj => by omega⟩
 case round =>
   obtain ⟨k, hk, rfl, hB⟩ := hrel
   by_cases hlt : k < n
   · have hlt' : (k : Int) < (n : Int) := by omega
     have hk0 : (0 : Int) ≤ (k : Int) := by omega
     have c1 := box_cell hB.out.1 (HC.out k hlt).1
     have c2 := box_cell hB.out.1 (HC.out k hlt).2
     obtain ⟨x, hx⟩ : ∃ x : Nat, Hid (xs k = x) := ⟨_, rfl⟩
     obtain ⟨y, hy⟩ : ∃ y : Nat, Hid (ys k = y) := ⟨_, rfl⟩
     rw [hx.out] at c1
     rw [hy.out] at c2
     have HX : Hid (x < 18446744073709551616 ∧ y < 18446744073709551616) := by rw [← hx.out, ← hy.out]; exact HW.out k
     have HNO : Hid (¬ Pt x y → ¬ ∀ k, k < n → Pt (xs k) (ys k)) := fun h1 h2 => h1 (by rw [← hx.out, ← hy.out]; exact h2 k hlt)
     go_wp2_with fail
     refine (stands_any x _ HX.out.1).mono ?_
     rintro e w1 ⟨⟨t, rfl, ht⟩, hb1⟩
     have d2 : w1.cell? ⟨wr.heap.size, 1, none⟩ = some (.float .f64 y) := box_cell hb1 (by go_simp)
     have HB1 : Hid (Below w.heap.size w w1) := below_step (hB.out.1.alloc hB.out.1.size _) hb1
     have HT : Hid (t = true ↔ Crd x) := ht
     clear ht hb1 c1 c2
     cases t
     · have HN : Hid (¬ Crd x) := fun h => Bool.noConfusion (HT.out.2 h)
       go_wp2
       go_ret
       exact ⟨⟨false, rfl, fun h => Bool.noConfusion h, fun h => absurd h (HNO.out (fun h => HN.out h.1))⟩, HB1.out⟩
     · have HCX : Hid (Crd x) := HT.out.1 rfl
       go_wp2_with fail
       refine (stands_any y _ HX.out.2).mono ?_
       rintro e w2 ⟨⟨t, rfl, ht⟩, hb2⟩
       have HB2 : Hid (Below w.heap.size w w2) := below_step HB1.out hb2
       have HT2 : Hid (t = true ↔ Crd y) := ht
       clear ht hb2 d2
       cases t
       · have HN : Hid (¬ Crd y) := fun h => Bool.noConfusion (HT2.out.2 h)
         go_wp2
         go_ret
         exact ⟨⟨false, rfl, fun h => Bool.noConfusion h, fun h => absurd h (HNO.out (fun h => HN.out h.2))⟩, HB2.out⟩
       · have HCY : Hid (Crd y) := HT2.out.1 rfl
         go_wp2
         refine ⟨⟨k + 1, by omega, by go_num, HB2.out, fun j hj => ?_⟩, by simp [intOf]; omega⟩
         by_cases e : j = k
         · rw [e, hx.out, hy.out]; exact ⟨HCX.out, HCY.out⟩
         · exact hB.out.2 j (by omega)
   · obtain rfl : k = n := by omega
     have hltb : decide ((k : Int) < (k : Int)) = false := decide_eq_false (by omega)
     go_wp2
     go_ret
     exact ⟨⟨true, rfl, fun _ => hB.out.2, fun _ => rfl⟩, hB.out.1⟩
end

/- Signs that are told fast: the floats that are reckoned. -/
section
open Go.RowKit
def S3 (ax ay bx by' cx cy : Nat) : Rat := (fval bx - fval ax) * (fval cy - fval ay) - (fval by' - fval ay) * (fval cx - fval ax)
def Sm (x : Nat) : Prop := ∃ n : Int, fval x = (n : Rat) ∧ -1024 ≤ n ∧ n ≤ 1024
theorem sgq_three {s X : Rat} (h : (0 < s ∧ 0 < X) ∨ (s < 0 ∧ X < 0) ∨ (s = 0 ∧ X = 0)) : sgq s = sgq X := by
 unfold sgq
 rcases h with ⟨a, b⟩ | ⟨a, b⟩ | ⟨a, b⟩
 · rw [if_neg (by grind), if_neg (by grind), if_neg (by grind), if_neg (by grind)]
 · rw [if_pos a, if_pos b]
 · rw [a, b]
theorem RN.le {q x : Rat} {p : Nat} (h : RN q x) (hq : ab q ≤ U p) : ab x ≤ U p := by
 obtain ⟨_, _, R⟩ := h
 exact R.le_pow' hq
theorem lim_U {q : Rat} {p : Nat} (h : ab q ≤ U p) (hp : p ≤ 2000) : Lim q := by
 have h3 : U p < p2 1023 := by unfold U; exact p2_lt (by omega)
 have := ab_le.1 h
 exact ⟨by grind, by grind⟩
theorem ab_sub (x y : Rat) : ab (x - y) ≤ ab x + ab y := by
 have := ab_add x (-y)
 rwa [ab_neg, show x + -y = x - y by grind] at this
theorem U_two' (p : Nat) : U p + U p = U (p + 1) := by rw [U_succ]; grind
theorem mul_le_U {x y : Rat} {p q r : Nat} (h1 : ab x ≤ U p) (h2 : ab y ≤ U q) (e : r + 1074 = p + q) : ab (x * y) ≤ U r := by
 rw [ab_mul, ← U_mulX' e]
 have a := Rat.mul_le_mul_of_nonneg_right h1 (ab_nonneg y)
 have b := Rat.mul_le_mul_of_nonneg_left h2 (Rat.le_of_lt (U_pos p))
 exact Rat.le_trans a b
theorem M.ab {u x : Rat} (h : M u x) : M u (ab x) := by
 unfold Go.Proofs.YtcgbnjoajieggaaGreat.ab
 split
 · exact h.neg
 · exact h
theorem low51 : fval 4377498837804122112 = U 1023 := by
 have := fval_rung 971 4503599627370496 (by omega) (Or.inr (by omega)) (by omega)
 have h := U_52 971
 rw [show (4377498837804122112 : Nat) = 971 * 4503599627370496 + 4503599627370496 from rfl, this]
 exact h.symm
theorem word_F {b : Nat} (h : Fin64 b) : F (fval b) := by
 obtain ⟨S, m, c⟩ := fc_word h
 exact c.f
theorem diff_word {a b : Nat} (ha : Crd a) (hb : Crd b) : ∃ d, floatBits .sub .f64 b a = some d ∧ Fin64 d ∧ d < 18446744073709551616 ∧ RN (fval b - fval a) (fval d) ∧ M (U 974) (fval b - fval a) ∧ ab (fval b - fval a) ≤ U 1175 := by
 have hm : M (U 974) (fval b - fval a) := hb.2.sub ha.2
 have hl : ab (fval b - fval a) ≤ U 1175 := by
   have := ab_sub (fval b) (fval a)
   have h1 := crd_ab ha.1
   have h2 := crd_ab hb.1
   have h3 := U_two' 1174
   grind
 obtain ⟨d, e, f, l, r⟩ := sub_bits (crd_fin hb.1) (crd_fin ha.1) (lim_U hl (by omega))
 exact ⟨d, e, f, l, r.rn, hm, hl⟩
theorem prod_word {d e : Nat} {p q : Rat} (fd : Fin64 d) (fe : Fin64 e) (rd : RN p (fval d)) (re : RN q (fval e)) (md : M (U 974) p) (me : M (U 974) q) (ld : ab p ≤ U 1175) (le : ab q ≤ U 1175) :
   ∃ l, floatBits .mul .f64 d e = some l ∧ Fin64 l ∧ l < 18446744073709551616 ∧ RN (fval d * fval e) (fval l) ∧ M (U 874) (fval l) ∧ ab (fval l) ≤ U 1276 ∧ 9223372036854775808 * ab (p * q - fval l) ≤ 3073 * ab (fval l) := by
 have h1 := rd.mm md
 have h2 := re.mm me
 have hm : M (U 874) (fval d * fval e) := by
   have := h1.mul h2
   rwa [U_mulX' (s := 974) (t := 974) (r := 874) (by omega)] at this
 have hl : ab (fval d * fval e) ≤ U 1276 := mul_le_U (rd.le ld) (re.le le) (by omega)
 obtain ⟨l, e1, f, lw, r⟩ := mul_bits fd fe (lim_U hl (by omega))
 exact ⟨l, e1, f, lw, r.rn, r.rn.mm hm, r.rn.le hl, prod_err (rd.rel md) (re.rel me) (r.rn.rel hm)⟩
theorem RN.int {q x : Rat} (h : RN q x) (n : Int) (e : q = (n : Rat)) (h1 : -9007199254740992 ≤ n) (h2 : n ≤ 9007199254740992) : x = q := h.exact (by rw [e]; exact F_int n h1 h2)
theorem int_mul_bound {a b : Int} {k m : Int} (h1 : -k ≤ a) (h2 : a ≤ k) (h3 : -m ≤ b) (h4 : b ≤ m) : -(k * m) ≤ a * b ∧ a * b ≤ k * m := by
 have e1 : (0 : Int) ≤ (k - a) * (m - b) := Int.mul_nonneg (by omega) (by omega)
 have e2 : (0 : Int) ≤ (k + a) * (m + b) := Int.mul_nonneg (by omega) (by omega)
 have e3 : (0 : Int) ≤ (k - a) * (m + b) := Int.mul_nonneg (by omega) (by omega)
 have e4 : (0 : Int) ≤ (k + a) * (m - b) := Int.mul_nonneg (by omega) (by omega)
 rw [Int.sub_mul, Int.mul_sub, Int.mul_sub] at e1
 rw [Int.add_mul, Int.mul_add, Int.mul_add] at e2
 rw [Int.sub_mul, Int.mul_add, Int.mul_add] at e3
 rw [Int.add_mul, Int.mul_sub, Int.mul_sub] at e4
 generalize k * m = km at *
 generalize k * b = kb at *
 generalize a * m = am at *
 generalize a * b = ab at *
 omega
theorem ab_one {n : Int} (h : (n : Rat) ≠ 0) : 1 ≤ ab (n : Rat) := by
 have := M.ge (u := 1) (x := (n : Rat)) (by grind) ⟨n, by grind⟩ h
 exact this
theorem ab_int {n : Int} {k : Nat} (h1 : -(k : Int) ≤ n) (h2 : n ≤ (k : Int)) : ab (n : Rat) ≤ ((k : Nat) : Rat) := by
 apply ab_le.2
 have a : (n : Rat) ≤ ((k : Int) : Rat) := Rat.intCast_le_intCast.2 h2
 have b : ((-(k : Int) : Int) : Rat) ≤ (n : Rat) := Rat.intCast_le_intCast.2 h1
 rw [Rat.intCast_neg] at b
 have e : ((k : Int) : Rat) = ((k : Nat) : Rat) := rfl
 rw [e] at a b
 exact ⟨a, by grind⟩
set_option maxHeartbeats 1000000 in
theorem fast_words {ax ay bx by' cx cy : Nat} (h1 : Crd ax) (h2 : Crd ay) (h3 : Crd bx) (h4 : Crd by') (h5 : Crd cx) (h6 : Crd cy) :
   ∃ d1 d2 l d3 d4 r s z v, floatBits .sub .f64 bx ax = some d1 ∧ floatBits .sub .f64 cy ay = some d2 ∧ floatBits .mul .f64 d1 d2 = some l ∧ floatBits .sub .f64 by' ay = some d3 ∧ floatBits .sub .f64 cx ax = some d4 ∧ floatBits .mul .f64 d3 d4 = some r ∧ floatBits .sub .f64 l r = some s ∧ floatBits .add .f64 (frung l) (frung r) = some z ∧ floatBits .mul .f64 4377498837804122112 z = some v ∧
     l < 18446744073709551616 ∧ r < 18446744073709551616 ∧ s < 18446744073709551616 ∧ Fin64 s ∧
     ((FloatKind.f64.format.order (frung s) v == some .lt) = false → sgq (fval s) = sgq (S3 ax ay bx by' cx cy)) ∧
     (Sm ax → Sm ay → Sm bx → Sm by' → Sm cx → Sm cy → S3 ax ay bx by' cx cy ≠ 0 → (FloatKind.f64.format.order (frung s) v == some .lt) = false) := by
 obtain ⟨d1, e1, f1, _, n1, m1, l1⟩ := diff_word h1 h3
 obtain ⟨d2, e2, f2, _, n2, m2, l2⟩ := diff_word h2 h6
 obtain ⟨d3, e3, f3, _, n3, m3, l3⟩ := diff_word h2 h4
 obtain ⟨d4, e4, f4, _, n4, m4, l4⟩ := diff_word h1 h5
 obtain ⟨l, el, fl, wl, nl, ml, ll, pl⟩ := prod_word f1 f2 n1 n2 m1 m2 l1 l2
 obtain ⟨r, er, fr, wr, nr, mr, lr, pr⟩ := prod_word f3 f4 n3 n4 m3 m4 l3 l4
 have bs : ab (fval l - fval r) ≤ U 1277 := by
   have := ab_sub (fval l) (fval r)
   have h := U_two' 1276
   grind
 obtain ⟨s, es, fs, ws, rs⟩ := sub_bits fl fr (lim_U bs (by omega))
 have fl' : Fin64 (frung l) := fin_small fl
 have fr' : Fin64 (frung r) := fin_small fr
 have vl := ab_fval l fl
 have vr := ab_fval r fr
 have b0 : 0 ≤ ab (fval l) + ab (fval r) := by have := ab_nonneg (fval l); have := ab_nonneg (fval r); grind
 have bz : ab (ab (fval l) + ab (fval r)) ≤ U 1277 := by
   have h := U_two' 1276
   rw [show ab (ab (fval l) + ab (fval r)) = ab (fval l) + ab (fval r) by rw [ab, if_neg (by grind)]]
   grind
 obtain ⟨z, ez, fz, wz, rz⟩ := add_bits fl' fr' (by rw [vl, vr]; exact lim_U bz (by omega))
 rw [vl, vr] at rz
 have mz0 : M (U 874) (ab (fval l) + ab (fval r)) := ml.ab.add mr.ab
 have mz := rz.rn.mm mz0
 have lz := rz.rn.le bz
 have hC : Fin64 4377498837804122112 := by unfold Fin64 frung; omega
 have hv0 : ab (U 1023 * fval z) ≤ U 1226 := mul_le_U (p := 1023) (q := 1277) (by rw [ab, if_neg (by have := U_pos 1023; grind)]; exact Rat.le_refl) lz (by omega)
 obtain ⟨v, ev, fv, wv, rv⟩ := mul_bits hC fz (by rw [low51]; exact lim_U hv0 (by omega))
 rw [low51] at rv
 have vv : fval v = U 1023 * fval z := rv.rn.exact (F_less (word_F fz) mz (by omega))
 have hz0 : 0 ≤ fval z := by
   have h := rz.rn.rel mz0
   have a := ab_self (ab (fval l) + ab (fval r) - fval z)
   apply Classical.byContradiction
   intro hn
   have hz' : ab (fval z) = -fval z := by rw [ab, if_pos (by grind)]
   rw [hz'] at h
   grind
 have u0 := U_pos 1023
 have hu : U 1125 * U 1023 = 1 := by
   rw [U_mulX' (s := 1125) (t := 1023) (r := 1074) (by omega)]; unfold U; exact p2_zero
 have hu2 : U 1125 = 2251799813685248 := by
   have := U_add 1074 51
   rw [show U 1074 = 1 from by unfold U; exact p2_zero] at this
   rw [show (1125 : Nat) = 1074 + 51 from rfl, this]
   show ((2251799813685248 : Nat) : Rat) * 1 = _
   rw [Rat.mul_one]; rfl
 have key : (FloatKind.f64.format.order (frung s) v == some .lt) = decide (ab (fval s) < U 1023 * fval z) := by
   rw [order_val (fin_small fs) fv, ab_fval s fs, vv]
   by_cases h : ab (fval s) < U 1023 * fval z
   · rw [if_pos h, decide_eq_true h]; rfl
   · rw [if_neg h, decide_eq_false h]
     split <;> rfl
 refine ⟨d1, d2, l, d3, d4, r, s, z, v, e1, e2, el, e3, e4, er, es, ez, ev, wl, wr, ws, fs, ?_, ?_⟩
 · intro ht
   rw [key] at ht
   have ht' : U 1023 * fval z ≤ ab (fval s) := by
     have := of_decide_eq_false ht
     grind
   have h5' : fval z ≤ 2251799813685248 * ab (fval s) := by
     have := Rat.mul_le_mul_of_nonneg_left ht' (show (0 : Rat) ≤ U 1125 from Rat.le_of_lt (U_pos 1125))
     rw [← Rat.mul_assoc, hu, Rat.one_mul, hu2] at this
     exact this
   exact sgq_three (fast_sign pl pr (rs.rn.rel (ml.sub mr)) (rz.rn.rel mz0) hz0 h5')
 · rintro ⟨i1, v1, a1, b1⟩ ⟨i2, v2, a2, b2⟩ ⟨i3, v3, a3, b3⟩ ⟨i4, v4, a4, b4⟩ ⟨i5, v5, a5, b5⟩ ⟨i6, v6, a6, b6⟩ hne
   have x1 : fval d1 = ((i3 - i1 : Int) : Rat) := by rw [n1.int (i3 - i1) (by rw [v3, v1, Rat.intCast_sub]) (by omega) (by omega), v3, v1, Rat.intCast_sub]
   have x2 : fval d2 = ((i6 - i2 : Int) : Rat) := by rw [n2.int (i6 - i2) (by rw [v6, v2, Rat.intCast_sub]) (by omega) (by omega), v6, v2, Rat.intCast_sub]
   have x3 : fval d3 = ((i4 - i2 : Int) : Rat) := by rw [n3.int (i4 - i2) (by rw [v4, v2, Rat.intCast_sub]) (by omega) (by omega), v4, v2, Rat.intCast_sub]
   have x4 : fval d4 = ((i5 - i1 : Int) : Rat) := by rw [n4.int (i5 - i1) (by rw [v5, v1, Rat.intCast_sub]) (by omega) (by omega), v5, v1, Rat.intCast_sub]
   have y1 := int_mul_bound (a := i3 - i1) (b := i6 - i2) (k := 2048) (m := 2048) (by omega) (by omega) (by omega) (by omega)
   have y2 := int_mul_bound (a := i4 - i2) (b := i5 - i1) (k := 2048) (m := 2048) (by omega) (by omega) (by omega) (by omega)
   have xl : fval l = (((i3 - i1) * (i6 - i2) : Int) : Rat) := by rw [nl.int ((i3 - i1) * (i6 - i2)) (by rw [x1, x2, Rat.intCast_mul]) (by omega) (by omega), x1, x2, Rat.intCast_mul]
   have xr : fval r = (((i4 - i2) * (i5 - i1) : Int) : Rat) := by rw [nr.int ((i4 - i2) * (i5 - i1)) (by rw [x3, x4, Rat.intCast_mul]) (by omega) (by omega), x3, x4, Rat.intCast_mul]
   have eS : S3 ax ay bx by' cx cy = (((i3 - i1) * (i6 - i2) - (i4 - i2) * (i5 - i1) : Int) : Rat) := by
     unfold S3
     rw [v1, v2, v3, v4, v5, v6, Rat.intCast_sub, Rat.intCast_mul, Rat.intCast_mul, Rat.intCast_sub, Rat.intCast_sub, Rat.intCast_sub, Rat.intCast_sub]
   generalize (i3 - i1) * (i6 - i2) = A at *
   generalize (i4 - i2) * (i5 - i1) = B at *
   have xs : fval s = ((A - B : Int) : Rat) := by rw [rs.rn.int (A - B) (by rw [xl, xr, Rat.intCast_sub]) (by omega) (by omega), xl, xr, Rat.intCast_sub]
   rw [eS] at hne
   have s1 := ab_one hne
   have z1 : ab (fval l) + ab (fval r) ≤ U 1097 := by
     have c1 := ab_int (n := A) (k := 4194304) (by omega) (by omega)
     have c2 := ab_int (n := B) (k := 4194304) (by omega) (by omega)
     have : U 1097 = 8388608 := by
       have := U_add 1074 23
       rw [show U 1074 = 1 from by unfold U; exact p2_zero] at this
       rw [show (1097 : Nat) = 1074 + 23 from rfl, this]
       show ((8388608 : Nat) : Rat) * 1 = _
       rw [Rat.mul_one]; rfl
     rw [xl, xr, this]
     have k1 : ((4194304 : Nat) : Rat) = 4194304 := rfl
     rw [k1] at c1 c2
     grind
   have z2 : ab (ab (fval l) + ab (fval r)) ≤ U 1097 := by rw [ab, if_neg (by grind)]; exact z1
   have z3 := rz.rn.le z2
   have z4 : ab (U 1023 * fval z) ≤ U 1046 := mul_le_U (p := 1023) (q := 1097) (by rw [ab, if_neg (by grind)]; exact Rat.le_refl) z3 (by omega)
   have z5 : U 1046 < 1 := by
     have : U 1046 < U 1074 := U_lt_iff.2 (by omega)
     rwa [show U 1074 = 1 from by unfold U; exact p2_zero] at this
   have z6 := (ab_self (U 1023 * fval z)).1
   rw [key]
   apply decide_eq_false
   rw [xs]
   grind
end

/- Package orient: Fast. -/
section
open Go.RowKit Go.Shelf
attribute [local go_sem ↓] Go.wp_at_zero Go.wp_at_succ
attribute [local go_sem] run_store_float
abbrev pv (x y : Nat) : Value := .agg #[.float .f64 x, .float .f64 y]
def P3 (ax ay bx by' cx cy : Nat) : Prop := Pt ax ay ∧ Pt bx by' ∧ Pt cx cy
def W6 (ax ay bx by' cx cy : Nat) : Prop := (ax < 18446744073709551616 ∧ ay < 18446744073709551616) ∧ (bx < 18446744073709551616 ∧ by' < 18446744073709551616) ∧ cx < 18446744073709551616 ∧ cy < 18446744073709551616
theorem has3 (ax ay bx by' cx cy : Nat) (w : World) (hw : W6 ax ay bx by' cx cy) :
   Calls Tryz.prog 79 #[.slice (some ⟨w.heap.size, 0, none⟩) 3 3] (w.alloc (.cells #[.float .f64 ax, .float .f64 ay, .float .f64 bx, .float .f64 by', .float .f64 cx, .float .f64 cy] 36)) fun e w' => (∃ t, e = .returned (.bool t) ∧ (t = true ↔ P3 ax ay bx by' cx cy)) ∧ Below w.heap.size w w' := by
 have hb : Below w.heap.size w (w.alloc (.cells #[.float .f64 ax, .float .f64 ay, .float .f64 bx, .float .f64 by', .float .f64 cx, .float .f64 cy] 36)) := (Below.refl _ w).alloc (Nat.le_refl _) _
 refine (has_walk w.heap.size 3 3 (fun k => if k = 0 then ax else if k = 1 then bx else cx) (fun k => if k = 0 then ay else if k = 1 then by' else cy) _ (fun k hk => ?_) (fun k => ?_) (by omega)).mono ?_
 · have : k = 0 ∨ k = 1 ∨ k = 2 := by omega
   rcases this with rfl | rfl | rfl <;> exact ⟨by go_simp, by go_simp⟩
 · constructor
   · show (if k = 0 then ax else if k = 1 then bx else cx) < _
     split
     · exact hw.1.1
     · split
       · exact hw.2.1.1
       · exact hw.2.2.1
   · show (if k = 0 then ay else if k = 1 then by' else cy) < _
     split
     · exact hw.1.2
     · split
       · exact hw.2.1.2
       · exact hw.2.2.2
 · rintro e w' ⟨⟨t, rfl, ht⟩, hb'⟩
   refine ⟨⟨t, rfl, ?_⟩, below_step hb hb'⟩
   rw [ht]
   exact ⟨fun h => ⟨h 0 (by omega), h 1 (by omega), h 2 (by omega)⟩, fun h j hj => by
     have : j = 0 ∨ j = 1 ∨ j = 2 := by omega
     rcases this with rfl | rfl | rfl
     · exact h.1
     · exact h.2.1
     · exact h.2.2⟩
structure B3 (w W : World) (ax ay bx by' cx cy : Nat) : Prop where
 a0 : W.cell? ⟨w.heap.size, 0, none⟩ = some (.float .f64 ax)
 a1 : W.cell? ⟨w.heap.size, 1, none⟩ = some (.float .f64 ay)
 b0 : W.cell? ⟨w.heap.size + 1, 0, none⟩ = some (.float .f64 bx)
 b1 : W.cell? ⟨w.heap.size + 1, 1, none⟩ = some (.float .f64 by')
 c0 : W.cell? ⟨w.heap.size + 1 + 1, 0, none⟩ = some (.float .f64 cx)
 c1 : W.cell? ⟨w.heap.size + 1 + 1, 1, none⟩ = some (.float .f64 cy)
 bel : Below w.heap.size w W
theorem B3.later {w W W' : World} {ax ay bx by' cx cy : Nat} (h : B3 w W ax ay bx by' cx cy) (hb : Below W.heap.size W W') : B3 w W' ax ay bx by' cx cy :=
 ⟨box_cell hb h.a0, box_cell hb h.a1, box_cell hb h.b0, box_cell hb h.b1, box_cell hb h.c0, box_cell hb h.c1, below_step h.bel hb⟩
theorem B3.start (w : World) (ax ay bx by' cx cy : Nat) : B3 w (((w.alloc (.cells #[.float .f64 ax, .float .f64 ay] 36)).alloc (.cells #[.float .f64 bx, .float .f64 by'] 36)).alloc (.cells #[.float .f64 cx, .float .f64 cy] 36)) ax ay bx by' cx cy :=
 ⟨by go_simp, by go_simp, by go_simp, by go_simp, by go_simp, by go_simp, (((Below.refl _ w).alloc (Nat.le_refl _) _).alloc (by simp) _).alloc (by simp; omega) _⟩
theorem has3' (ax ay bx by' cx cy px py qx qy rx ry : Nat) (w : World) (hw : W6 ax ay bx by' cx cy) :
   Calls Tryz.prog 79 #[.slice (some ⟨w.heap.size + 1 + 1 + 1, 0, none⟩) 3 3] ((((w.alloc (.cells #[.float .f64 px, .float .f64 py] 36)).alloc (.cells #[.float .f64 qx, .float .f64 qy] 36)).alloc (.cells #[.float .f64 rx, .float .f64 ry] 36)).alloc (.cells #[.float .f64 ax, .float .f64 ay, .float .f64 bx, .float .f64 by', .float .f64 cx, .float .f64 cy] 36)) fun e w' => (∃ t, e = .returned (.bool t) ∧ (t = true ↔ P3 ax ay bx by' cx cy)) ∧ B3 w w' px py qx qy rx ry := by
 have h := has3 ax ay bx by' cx cy (((w.alloc (.cells #[.float .f64 px, .float .f64 py] 36)).alloc (.cells #[.float .f64 qx, .float .f64 qy] 36)).alloc (.cells #[.float .f64 rx, .float .f64 ry] 36)) hw
 have e : (((w.alloc (.cells #[.float .f64 px, .float .f64 py] 36)).alloc (.cells #[.float .f64 qx, .float .f64 qy] 36)).alloc (.cells #[.float .f64 rx, .float .f64 ry] 36)).heap.size = w.heap.size + 1 + 1 + 1 := by simp
 have hs := B3.start w px py qx qy rx ry
 generalize ((w.alloc (.cells #[.float .f64 px, .float .f64 py] 36)).alloc (.cells #[.float .f64 qx, .float .f64 qy] 36)).alloc (.cells #[.float .f64 rx, .float .f64 ry] 36) = W at *
 rw [← e]
 exact h.mono fun e' w' ⟨h1, h2⟩ => ⟨h1, hs.later h2⟩
def FastR (ax ay bx by' cx cy : Nat) (z : Int) (t : Bool) : Prop :=
 (t = true → P3 ax ay bx by' cx cy ∧ z = sgq (S3 ax ay bx by' cx cy)) ∧ (t = false → z = 0) ∧ (P3 ax ay bx by' cx cy → Sm ax → Sm ay → Sm bx → Sm by' → Sm cx → Sm cy → S3 ax ay bx by' cx cy ≠ 0 → t = true)
set_option maxRecDepth 100000 in
set_option maxHeartbeats 4000000 in
theorem fast_any (ax ay bx by' cx cy : Nat) (w : World) (hw : W6 ax ay bx by' cx cy) :
   Calls Tryz.prog 80 #[pv ax ay, pv bx by', pv cx cy] w fun e w' => (∃ z t, e = .returned (.tuple #[.int .i64 z, .bool t]) ∧ FastR ax ay bx by' cx cy z t) ∧ Below w.heap.size w w' := by
 have HW : Hid (W6 ax ay bx by' cx cy) := hw
 clear hw
 go_enter Tryz.func80, Tryz.ntmps80
 go_wp2_with fail
 refine (has3' ax ay bx by' cx cy ax ay bx by' cx cy w HW.out).mono ?_
 rintro e w1 ⟨⟨t, rfl, ht⟩, hB⟩
 have HB : Hid (Below w.heap.size w w1) := hB.bel
 have HT : Hid (t = true ↔ P3 ax ay bx by' cx cy) := ht
 clear ht
 cases t
 · clear hB
   go_wp2
   go_ret2
   exact ⟨⟨0, false, rfl, fun h => Bool.noConfusion h, fun _ => rfl, fun h => Bool.noConfusion (HT.out.2 h)⟩, HB.out⟩
 · have HP : Hid (P3 ax ay bx by' cx cy) := HT.out.1 rfl
   obtain ⟨u0, u1, u2, u3, u4, u5, _⟩ := hB
   obtain ⟨d1, d2, l, d3, d4, r, s, z, v, e1, e2, el, e3, e4, er, es, ez, ev, wl, wr, ws, fs, hsg, hkn⟩ := fast_words HP.out.1.1 HP.out.1.2 HP.out.2.1.1 HP.out.2.1.2 HP.out.2.2.1 HP.out.2.2.2
   have r1 : ∀ w, (binOp .sub 33 (.float .f64 bx) (.float .f64 ax)).run Tryz.prog w = .ok (.float .f64 d1) w := fun w => run_float_arith w .sub _ .f64 _ _ _ e1
   have r2 : ∀ w, (binOp .sub 33 (.float .f64 cy) (.float .f64 ay)).run Tryz.prog w = .ok (.float .f64 d2) w := fun w => run_float_arith w .sub _ .f64 _ _ _ e2
   have r3 : ∀ w, (binOp .mul 33 (.float .f64 d1) (.float .f64 d2)).run Tryz.prog w = .ok (.float .f64 l) w := fun w => run_float_arith w .mul _ .f64 _ _ _ el
   have r4 : ∀ w, (binOp .sub 33 (.float .f64 by') (.float .f64 ay)).run Tryz.prog w = .ok (.float .f64 d3) w := fun w => run_float_arith w .sub _ .f64 _ _ _ e3
   have r5 : ∀ w, (binOp .sub 33 (.float .f64 cx) (.float .f64 ax)).run Tryz.prog w = .ok (.float .f64 d4) w := fun w => run_float_arith w .sub _ .f64 _ _ _ e4
   have r6 : ∀ w, (binOp .mul 33 (.float .f64 d3) (.float .f64 d4)).run Tryz.prog w = .ok (.float .f64 r) w := fun w => run_float_arith w .mul _ .f64 _ _ _ er
   have r7 : ∀ w, (binOp .sub 33 (.float .f64 l) (.float .f64 r)).run Tryz.prog w = .ok (.float .f64 s) w := fun w => run_float_arith w .sub _ .f64 _ _ _ es
   have r8 : ∀ w, (binOp .add 33 (.float .f64 (frung l)) (.float .f64 (frung r))).run Tryz.prog w = .ok (.float .f64 z) w := fun w => run_float_arith w .add _ .f64 _ _ _ ez
   have r9 : ∀ w, (binOp .mul 33 (.float .f64 4377498837804122112) (.float .f64 z)).run Tryz.prog w = .ok (.float .f64 v) w := fun w => run_float_arith w .mul _ .f64 _ _ _ ev
   have HL : Hid (∀ w, Calls Tryz.prog 96 #[.float .f64 l] w fun e w' => e = .returned (.float .f64 (frung l)) ∧ w' = w) := fun w => abs_any l w wl
   have HR : Hid (∀ w, Calls Tryz.prog 96 #[.float .f64 r] w fun e w' => e = .returned (.float .f64 (frung r)) ∧ w' = w) := fun w => abs_any r w wr
   have HS : Hid (∀ w, Calls Tryz.prog 96 #[.float .f64 s] w fun e w' => e = .returned (.float .f64 (frung s)) ∧ w' = w) := fun w => abs_any s w ws
   have HC : Hid (∀ w, Calls Tryz.prog 97 #[.float .f64 s, .float .f64 0] w fun e w' => e = .returned (.int .i64 (sgq (fval s))) ∧ w' = w) := fun w => compare_zero s w fs
   obtain ⟨tb, htb⟩ : ∃ tb, (FloatKind.f64.format.order (frung s) v == some .lt) = tb := ⟨_, rfl⟩
   have HSG : Hid (tb = false → sgq (fval s) = sgq (S3 ax ay bx by' cx cy)) := by rw [← htb]; exact hsg
   have HKN : Hid (Sm ax → Sm ay → Sm bx → Sm by' → Sm cx → Sm cy → S3 ax ay bx by' cx cy ≠ 0 → tb = false) := by rw [← htb]; exact hkn
   clear e1 e2 el e3 e4 er es ez ev wl wr ws fs hsg hkn HT
   generalize frung l = fl at *
   generalize frung r = fr at *
   generalize frung s = fs at *
   generalize sgq (fval s) = sg at *
   go_wp2_with fail
   refine (HL.out _).mono ?_
   rintro e w2 ⟨rfl, rfl⟩
   go_wp2_with fail
   refine (HR.out _).mono ?_
   rintro e w2 ⟨rfl, rfl⟩
   go_wp2_with fail
   refine (HS.out _).mono ?_
   rintro e w2 ⟨rfl, rfl⟩
   cases tb
   · go_wp2_with fail
     refine (HC.out _).mono ?_
     rintro e w2 ⟨rfl, rfl⟩
     go_wp2
     go_ret2
     exact ⟨⟨sg, true, rfl, fun _ => ⟨HP.out, HSG.out (by simp)⟩, fun h => Bool.noConfusion h, fun _ _ _ _ _ _ _ _ => rfl⟩, HB.out⟩
   · go_wp2
     go_ret2
     exact ⟨⟨0, false, rfl, fun h => Bool.noConfusion h, fun _ => rfl, fun _ a1 a2 a3 a4 a5 a6 a7 => (HKN.out a1 a2 a3 a4 a5 a6 a7).symm⟩, HB.out⟩
end

/- Package orient: grown, differences as lists. -/
section
open Go.RowKit Go.Shelf
attribute [local go_sem ↓] Go.wp_at_zero Go.wp_at_succ
attribute [local go_sem] run_store_float
def pl (y x : Nat) (k : Nat) : List Nat := if k = 0 then [] else if k = 1 then gw [] y else gw (gw [] y) x
theorem pl_next (y x k : Nat) (hk : k < 2) : pl y x (k + 1) = gw (pl y x k) (if k = 0 then y else x) := by
 have : k = 0 ∨ k = 1 := by omega
 rcases this with rfl | rfl <;> rfl
theorem pl_len (y x k : Nat) : (pl y x k).length ≤ 2 := by
 unfold pl gw
 split
 · simp
 · split
   · split <;> simp
   · split
     · split <;> simp
     · split <;> simp
set_option maxRecDepth 100000 in
set_option maxHeartbeats 2000000 in
theorem grown2_any (g c y x : Nat) (w : World) (h1 : w.cell? ⟨g, 0, none⟩ = some (.float .f64 y)) (h2 : w.cell? ⟨g, 1, none⟩ = some (.float .f64 x)) (hy : y < 18446744073709551616) (hx : x < 18446744073709551616) :
   Calls Tryz.prog 100 #[.slice (some ⟨g, 0, none⟩) 2 c] w fun e w' => (∃ v, e = .returned v ∧ Fr w' w.heap.size v (gw (gw [] y) x)) ∧ Below w.heap.size w w' := by
 have HC : Hid (∀ k, k < 2 → w.cell? ⟨g, k, none⟩ = some (.float .f64 (if k = 0 then y else x))) := fun k hk => by
   have : k = 0 ∨ k = 1 := by omega
   rcases this with rfl | rfl
   · exact h1
   · exact h2
 have HW : Hid (y < 18446744073709551616 ∧ x < 18446744073709551616) := ⟨hy, hx⟩
 clear h1 h2 hy hx
 obtain ⟨i0, hi0, hz0, hz1, hz2⟩ := info_parts infoF
 go_enter Tryz.func100, Tryz.ntmps100
 go_wp2
 go_loopw [3, 8] (fun l i wr => ∃ (k : Nat) (v : Value), k ≤ 2 ∧ i = .int .i64 (k : Nat) ∧ v = l ∧ Hid (Fr wr w.heap.size v (pl y x k) ∧ Below w.heap.size w wr)) (fun _ i _ => 2 - (intOf i).toNat)
 case atStart => exact ⟨0, _, Nat.zero_le _, rfl, rfl, Fr.nil _ _, Below.refl _ _⟩
 case round =>
   obtain ⟨k, v, hk, rfl, rfl, hB⟩ := hrel
   by_cases hlt : k < 2
   · have hlt' : (k : Int) < 2 := by omega
     have hk0 : (0 : Int) ≤ (k : Int) := by omega
     have c1 := box_cell hB.out.2 (HC.out k hlt)
     obtain ⟨z, hz⟩ : ∃ z : Nat, Hid ((if k = 0 then y else x) = z) := ⟨_, rfl⟩
     rw [hz.out] at c1
     have HZ : Hid (z < 18446744073709551616) := by
       rw [← hz.out]
       show (if k = 0 then y else x) < _
       split
       · exact HW.out.1
       · exact HW.out.2
     have q := eql_zero2 z
     by_cases h0 : frung z = 0
     · rw [decide_eq_true h0] at q
       have q' : FloatKind.f64.format.order z 0 = some .eq := by simpa using q
       have HG : Hid (pl y x (k + 1) = pl y x k) := by
         show pl y x (k + 1) = _
         rw [pl_next y x k hlt, hz.out]; unfold gw; rw [if_pos h0]
       clear h0 q
       go_wp2
       exact ⟨⟨k + 1, v, by omega, by go_num, rfl, by rw [HG.out]; exact hB.out⟩, by simp [intOf]; omega⟩
     · rw [decide_eq_false h0] at q
       have HG : Hid (pl y x (k + 1) = pl y x k ++ [z]) := by
         show pl y x (k + 1) = _
         rw [pl_next y x k hlt, hz.out]; unfold gw; rw [if_neg h0]
       have q2 : (FloatKind.f64.format.order z 0 != some .eq) = true := by rw [bne, q]; rfl
       clear h0 q
       go_wp2_with (at_builtin; refine wpList_append_own _ rfl _ _ _ rfl w.heap.size 33 i0 _ 1 8 undF hi0 hz0 hz1 hz2 rfl (by omega) v (pl y x k).length (f64s (pl y x k)) rfl (hB.out.1.own.alloc _) ⟨wr.heap.size, 0, none⟩ 1 1 [.float .f64 z] rfl rfl (World.news_of_block (cs := #[.float .f64 z]) (t := 33) (fr := (0, 0)) (heap_alloc_new wr _)) (by simp [Value.oneCell']) (by unfold maxLen; have := pl_len y x k; omega) (by have := pl_len y x k; omega) (by have := hB.out.2.size; simp; omega) ?_; intro v' w1 hown hgrow hnil)
       have hsz := hB.out.2.size
       refine ⟨⟨k + 1, v', by omega, by go_num, rfl, ?_, ?_⟩, by simp [intOf]; omega⟩
       · rw [HG.out]
         refine ⟨?_, ?_⟩
         · rw [List.length_append]
           simpa [f64s] using hown
         · intro b hb
           rcases List.mem_append.1 hb with hb | hb
           · exact hB.out.1.word b hb
           · rw [List.mem_singleton.1 hb]; exact HZ.out
       · exact (hB.out.2.alloc hsz _).grown hgrow (by simp; omega) (fun k hk => (hB.out.1.own.lt k hk).1)
   · obtain rfl : k = 2 := by omega
     go_wp2
     go_ret
     exact ⟨⟨v, rfl, hB.out.1⟩, hB.out.2⟩
end

/- Package orient: exactSign, Sign. -/
section
open Go.RowKit Go.Shelf
attribute [local go_sem ↓] Go.wp_at_zero Go.wp_at_succ
attribute [local go_sem] run_store_float
structure DL (q : Rat) (bs : List Nat) : Prop where
 may : MayS bs
 sum : (vals bs).sum = q
theorem safe_word {b : Nat} (hf : Fin64 b) (h1 : U 974 ≤ ab (fval b)) (h2 : ab (fval b) ≤ U 1175) : 2580562586483294208 ≤ frung b ∧ frung b ≤ 6633802251116740608 := by
 rw [← ab_fval b hf] at h1 h2
 have f : frung b < 9218868437227405312 := hf
 constructor
 · rcases Nat.lt_or_ge (frung b) 2580562586483294208 with e | e
   · exfalso
     have h3 := fval_lt e (by omega)
     rw [safe_low] at h3
     have h4 := U_lt_iff.2 (show 624 < 974 by omega)
     grind
   · exact e
 · rcases Nat.lt_or_ge 6633802251116740608 (frung b) with e | e
   · exfalso
     have h3 := fval_lt e f
     rw [safe_top, show p2 450 = U 1524 from rfl] at h3
     have h4 := U_lt_iff.2 (show 1175 < 1524 by omega)
     grind
   · exact e
theorem frung_val {b : Nat} : frung b = 0 ↔ fval b = 0 := by
 rw [← fval_zero_iff]
theorem diff_list {a b x y : Nat} (ha : Crd a) (hb : Crd b) (h : Pair (TameW b a) (fval b - fval a) x y) : DL (fval b - fval a) (gw (gw [] y) x) := by
 have hd : TameW b a := ⟨by have := hb.1; omega, by have := ha.1; omega⟩
 obtain ⟨fx, fy, wx, wy, h⟩ := h
 obtain ⟨hr, he⟩ : RV (fval b - fval a) (fval x) ∧ fval x + fval y = fval b - fval a := by
   rcases h with ⟨_, h1, h2⟩ | ⟨h1, _⟩
   · exact ⟨h1, h2⟩
   · exact absurd hd h1
 have hm : M (U 974) (fval b - fval a) := hb.2.sub ha.2
 have hl : ab (fval b - fval a) ≤ U 1175 := by
   have := ab_sub (fval b) (fval a)
   have h1 := crd_ab ha.1
   have h2 := crd_ab hb.1
   have h3 := U_two' 1174
   grind
 have mx := hr.rn.mm hm
 have my : M (U 974) (fval y) := by
   have := hm.sub mx
   rwa [show fval b - fval a - fval x = fval y by grind] at this
 have lx := hr.rn.le hl
 have rel := hr.rn.rel hm
 rw [show fval b - fval a - fval x = fval y by grind] at rel
 have ly : ab (fval y) ≤ U 1175 := by have := ab_nonneg (fval y); grind
 have lo := hr.rn.lo he
 have u := U_pos 974
 have sx : fval x ≠ 0 → 2580562586483294208 ≤ frung x ∧ frung x ≤ 6633802251116740608 := fun h0 => safe_word fx (mx.ge u h0) lx
 have sy : fval y ≠ 0 → 2580562586483294208 ≤ frung y ∧ frung y ≤ 6633802251116740608 := fun h0 => safe_word fy (my.ge u h0) ly
 by_cases x0 : fval x = 0
 · have y0 : fval y = 0 := by
     rw [x0, show ab 0 = 0 by unfold ab; grind] at rel
     exact ab_zero (by have := ab_nonneg (fval y); grind)
   have e : gw (gw [] y) x = [] := by
     unfold gw
     rw [if_pos (frung_val.2 x0), if_pos (frung_val.2 y0)]
   rw [e]
   exact ⟨⟨by simp, fun i hi => by simp at hi⟩, by rw [← he, x0, y0]; show (0 : Rat) = 0 + 0; grind⟩
 · by_cases y0 : fval y = 0
   · have e : gw (gw [] y) x = [x] := by
       unfold gw
       rw [if_neg (fun h => x0 (frung_val.1 h)), if_pos (frung_val.2 y0)]; rfl
     rw [e]
     refine ⟨up_may ⟨by simp [vals], by simp [vals]; exact x0⟩ (by simp) (by simp; exact sx x0), ?_⟩
     rw [← he, y0]
     show fval x + 0 = _
     grind
   · have e : gw (gw [] y) x = [y, x] := by
       unfold gw
       rw [if_neg (fun h => x0 (frung_val.1 h)), if_neg (fun h => y0 (frung_val.1 h))]; rfl
     rw [e]
     refine ⟨up_may ⟨by simp [vals]; exact lo, by simp [vals]; exact ⟨y0, x0⟩⟩ (by simp) (by simp; exact ⟨sy y0, sx x0⟩), ?_⟩
     rw [← he]
     show fval y + (fval x + 0) = _
     grind
set_option maxRecDepth 100000 in
set_option maxHeartbeats 2000000 in
theorem from_any (ba ax ay px py : Nat) (w : World) (h0 : w.cell? ⟨ba, 0, none⟩ = some (.float .f64 ax)) (h1 : w.cell? ⟨ba, 1, none⟩ = some (.float .f64 ay)) (wa : ax < 18446744073709551616 ∧ ay < 18446744073709551616) (wp : px < 18446744073709551616 ∧ py < 18446744073709551616) (ha : Pt ax ay) (hp : Pt px py) :
   Calls Tryz.prog 98 #[pv px py, .pointer (some ⟨ba, 0, none⟩)] w fun e w' => (∃ v1 v2 l1 l2, e = .returned (.tuple #[v1, v2]) ∧ Fr w' w.heap.size v1 l1 ∧ Fr w' w.heap.size v2 l2 ∧ DL (fval px - fval ax) l1 ∧ DL (fval py - fval ay) l2) ∧ Below w.heap.size w w' := by
 have HA : Hid (w.cell? ⟨ba, 0, none⟩ = some (.float .f64 ax) ∧ w.cell? ⟨ba, 1, none⟩ = some (.float .f64 ay)) := ⟨h0, h1⟩
 have HW : Hid ((ax < 18446744073709551616 ∧ ay < 18446744073709551616) ∧ px < 18446744073709551616 ∧ py < 18446744073709551616) := ⟨wa, wp⟩
 have HP : Hid (Pt ax ay ∧ Pt px py) := ⟨ha, hp⟩
 have hbA : Hid (Below w.heap.size w (w.alloc (.cells #[.float .f64 px, .float .f64 py] 36))) := (Below.refl _ w).alloc (Nat.le_refl _) _
 have c0 := box_cell hbA.out h0
 have c1 := box_cell hbA.out h1
 clear h0 h1 wa wp ha hp
 go_enter Tryz.func98, Tryz.ntmps98
 go_wp2_with fail
 refine (diff_pair px ax _ HW.out.2.1 HW.out.1.1).mono ?_
 rintro e w1 ⟨⟨x1, y1, rfl, hp1⟩, hb1⟩
 have c1' := box_cell hb1 c1
 have d1 : w1.cell? ⟨w.heap.size, 1, none⟩ = some (.float .f64 py) := box_cell hb1 (by go_simp)
 have HB1 : Hid (Below w.heap.size w w1) := below_step hbA.out hb1
 have H1 : Hid (Pair (TameW px ax) (fval px - fval ax) x1 y1) := hp1
 clear hp1 hb1 c0 c1 hbA
 go_wp2_with fail
 refine (diff_pair py ay _ HW.out.2.2 HW.out.1.2).mono ?_
 rintro e w2 ⟨⟨x2, y2, rfl, hp2⟩, hb2⟩
 have HB2 : Hid (Below w.heap.size w w2) := below_step HB1.out hb2
 have H2 : Hid (Pair (TameW py ay) (fval py - fval ay) x2 y2) := hp2
 clear hp2 hb2 c1' d1
 go_wp2_with fail
 refine (grown2_any w2.heap.size 2 y1 x1 _ (by go_simp) (by go_simp) H1.out.2.2.2.1 H1.out.2.2.1).mono ?_
 rintro e w3 ⟨⟨v1, rfl, hF1⟩, hb3⟩
 have HB3 : Hid (Below w.heap.size w w3) := below_step (HB2.out.alloc HB2.out.size _) hb3
 have HF1 : Hid (Fr w3 w.heap.size v1 (gw (gw [] y1) x1)) := hF1.mono (by have := HB2.out.size; simp; omega)
 clear hF1 hb3
 go_wp2_with fail
 refine (grown2_any w3.heap.size 2 y2 x2 _ (by go_simp) (by go_simp) H2.out.2.2.2.1 H2.out.2.2.1).mono ?_
 rintro e w4 ⟨⟨v2, rfl, hF2⟩, hb4⟩
 have HB4 : Hid (Below w.heap.size w w4) := below_step (HB3.out.alloc HB3.out.size _) hb4
 have HF2 : Hid (Fr w4 w.heap.size v2 (gw (gw [] y2) x2)) := hF2.mono (by have := HB3.out.size; simp; omega)
 have HF1' : Hid (Fr w4 w.heap.size v1 (gw (gw [] y1) x1)) := HF1.out.later (below_step ((Below.refl _ w3).alloc (Nat.le_refl _) _) hb4)
 clear hF2 hb4 HF1
 go_wp2
 go_ret2
 exact ⟨⟨v1, v2, _, _, rfl, HF1'.out, HF2.out, diff_list HP.out.1.1 HP.out.2.1 H1.out, diff_list HP.out.1.2 HP.out.2.2 H2.out⟩, HB4.out⟩
set_option maxRecDepth 100000 in
set_option maxHeartbeats 2000000 in
theorem exact_any' (ax ay bx by' cx cy : Nat) (w : World) (hw : W6 ax ay bx by' cx cy) (hp : P3 ax ay bx by' cx cy) :
   Calls Tryz.prog 81 #[pv ax ay, pv bx by', pv cx cy] w fun e w' => e = .returned (.int .i64 (sgq (S3 ax ay bx by' cx cy))) ∧ Below w.heap.size w w' := by
 have HW : Hid (W6 ax ay bx by' cx cy) := hw
 have HP : Hid (P3 ax ay bx by' cx cy) := hp
 clear hw hp
 have hS := B3.start w ax ay bx by' cx cy
 have HS : Hid (B3 w (((w.alloc (.cells #[.float .f64 ax, .float .f64 ay] 36)).alloc (.cells #[.float .f64 bx, .float .f64 by'] 36)).alloc (.cells #[.float .f64 cx, .float .f64 cy] 36)) ax ay bx by' cx cy) := hS
 clear hS
 go_enter Tryz.func81, Tryz.ntmps81
 go_wp2_with fail
 refine (from_any w.heap.size ax ay bx by' _ HS.out.a0 HS.out.a1 HW.out.1 HW.out.2.1 HP.out.1 HP.out.2.1).mono ?_
 rintro e w1 ⟨⟨v1, v2, l1, l2, rfl, hF1, hF2, hd1, hd2⟩, hb1⟩
 have H1 : Hid (B3 w w1 ax ay bx by' cx cy) := HS.out.later hb1
 have HL1 : Hid (Fs w1 v1 l1 ∧ Fs w1 v2 l2 ∧ DL (fval bx - fval ax) l1 ∧ DL (fval by' - fval ay) l2) := ⟨hF1.fs, hF2.fs, hd1, hd2⟩
 have c0 := H1.out.c0
 have c1 := H1.out.c1
 clear hF1 hF2 hd1 hd2 hb1
 go_wp2_with fail
 refine (from_any w.heap.size ax ay cx cy _ H1.out.a0 H1.out.a1 HW.out.1 HW.out.2.2 HP.out.1 HP.out.2.2).mono ?_
 rintro e w2 ⟨⟨v3, v4, l3, l4, rfl, hF3, hF4, hd3, hd4⟩, hb2⟩
 have HL2 : Hid (Fs w2 v3 l3 ∧ Fs w2 v4 l4 ∧ DL (fval cx - fval ax) l3 ∧ DL (fval cy - fval ay) l4 ∧ Fs w2 v1 l1 ∧ Fs w2 v2 l2 ∧ Below w.heap.size w w2) := ⟨hF3.fs, hF4.fs, hd3, hd4, HL1.out.1.later hb2, HL1.out.2.1.later hb2, below_step H1.out.bel hb2⟩
 clear hF3 hF4 hd3 hd4 hb2 c0 c1
 go_wp2_with fail
 refine (mulE_any v1 v4 l1 l4 _ HL2.out.2.2.2.2.1 HL2.out.2.1).mono ?_
 rintro e w3 ⟨⟨v5, b5, t5, rfl, hF5, k1, k2, _⟩, hb3⟩
 obtain rfl := k1.2 ⟨HL1.out.2.2.1.may, HL2.out.2.2.2.1.may⟩
 have HL3 : Hid (Fs w3 v5 b5 ∧ SumS ((vals l1).sum * (vals l4).sum) b5 ∧ Fs w3 v2 l2 ∧ Fs w3 v3 l3 ∧ Below w.heap.size w w3) := ⟨hF5.fs, k2 rfl, HL2.out.2.2.2.2.2.1.later hb3, HL2.out.1.later hb3, below_step HL2.out.2.2.2.2.2.2 hb3⟩
 clear hF5 k1 k2 hb3
 go_wp2_with fail
 refine (mulE_any v2 v3 l2 l3 _ HL3.out.2.2.1 HL3.out.2.2.2.1).mono ?_
 rintro e w4 ⟨⟨v6, b6, t6, rfl, hF6, k1, k2, _⟩, hb4⟩
 obtain rfl := k1.2 ⟨HL1.out.2.2.2.may, HL2.out.2.2.1.may⟩
 have HL4 : Hid (Fs w4 v6 b6 ∧ SumS ((vals l2).sum * (vals l3).sum) b6 ∧ Fs w4 v5 b5 ∧ Below w.heap.size w w4) := ⟨hF6.fs, k2 rfl, HL3.out.1.later hb4, below_step HL3.out.2.2.2.2 hb4⟩
 clear hF6 k1 k2 hb4
 go_wp2_with fail
 refine (cmpE_any v5 v6 b5 b6 _ HL4.out.2.2.1 HL4.out.1).mono ?_
 rintro e w5 ⟨⟨z, rfl, hz, _⟩, hb5⟩
 have HZ : Hid (z = sgq (S3 ax ay bx by' cx cy)) := by
   show z = _
   rw [hz HL3.out.2.1.may HL4.out.2.1.may, HL3.out.2.1.sum, HL4.out.2.1.sum, HL1.out.2.2.1.sum, HL1.out.2.2.2.sum, HL2.out.2.2.1.sum, HL2.out.2.2.2.1.sum]
   rfl
 have HB5 : Hid (Below w.heap.size w w5) := below_step HL4.out.2.2.2 hb5
 clear hz hb5
 go_wp2
 go_ret
 exact ⟨by rw [HZ.out]; rfl, HB5.out⟩
noncomputable def sg3 (ax ay bx by' cx cy : Nat) : Int := @ite _ (P3 ax ay bx by' cx cy) (Classical.propDecidable _) (sgq (S3 ax ay bx by' cx cy)) 0
theorem sg3_yes {ax ay bx by' cx cy : Nat} (h : P3 ax ay bx by' cx cy) : sg3 ax ay bx by' cx cy = sgq (S3 ax ay bx by' cx cy) := by unfold sg3; rw [if_pos h]
theorem sg3_no {ax ay bx by' cx cy : Nat} (h : ¬ P3 ax ay bx by' cx cy) : sg3 ax ay bx by' cx cy = 0 := by unfold sg3; rw [if_neg h]
set_option maxRecDepth 100000 in
set_option maxHeartbeats 2000000 in
theorem sign3_any (ax ay bx by' cx cy : Nat) (w : World) (hw : W6 ax ay bx by' cx cy) :
   Calls Tryz.prog 49 #[pv ax ay, pv bx by', pv cx cy] w fun e w' => e = .returned (.int .i64 (sg3 ax ay bx by' cx cy)) ∧ Below w.heap.size w w' := by
 have HW : Hid (W6 ax ay bx by' cx cy) := hw
 clear hw
 have hS := B3.start w ax ay bx by' cx cy
 have HS : Hid (B3 w (((w.alloc (.cells #[.float .f64 ax, .float .f64 ay] 36)).alloc (.cells #[.float .f64 bx, .float .f64 by'] 36)).alloc (.cells #[.float .f64 cx, .float .f64 cy] 36)) ax ay bx by' cx cy) := hS
 clear hS
 go_enter Tryz.func49, Tryz.ntmps49
 go_wp2_with fail
 refine (fast_any ax ay bx by' cx cy _ HW.out).mono ?_
 rintro e w1 ⟨⟨z, t, rfl, hz⟩, hb1⟩
 have H1 : Hid (B3 w w1 ax ay bx by' cx cy) := HS.out.later hb1
 have HZ : Hid (FastR ax ay bx by' cx cy z t) := hz
 clear hz hb1 HS
 obtain ⟨u0, u1, u2, u3, u4, u5, _⟩ := H1.out
 cases t
 · go_wp2_with fail
   refine (has3 ax ay bx by' cx cy _ HW.out).mono ?_
   rintro e w2 ⟨⟨t, rfl, ht⟩, hb2⟩
   have H2 : Hid (B3 w w2 ax ay bx by' cx cy) := H1.out.later hb2
   have HT : Hid (t = true ↔ P3 ax ay bx by' cx cy) := ht
   clear ht hb2 u0 u1 u2 u3 u4 u5
   cases t
   · go_wp2
     go_ret
     exact ⟨by rw [sg3_no (fun h => Bool.noConfusion (HT.out.2 h))]; rfl, H2.out.bel⟩
   · have HP : Hid (P3 ax ay bx by' cx cy) := HT.out.1 rfl
     obtain ⟨u0, u1, u2, u3, u4, u5, _⟩ := H2.out
     go_wp2_with fail
     refine (exact_any' ax ay bx by' cx cy _ HW.out HP.out).mono ?_
     rintro e w3 ⟨rfl, hb3⟩
     have H3 : Hid (Below w.heap.size w w3) := below_step H2.out.bel hb3
     clear hb3
     go_wp2
     go_ret
     exact ⟨by rw [sg3_yes HP.out]; rfl, H3.out⟩
 · go_wp2
   go_ret
   exact ⟨by rw [sg3_yes (HZ.out.1 rfl).1, (HZ.out.1 rfl).2]; rfl, H1.out.bel⟩
end

/- Which points may be: admit.May. -/
section
open Go.RowKit Go.Shelf
attribute [local go_sem ↓] Go.wp_at_zero Go.wp_at_succ
attribute [local go_sem] run_store_float
def WdP (p : Nat × Nat) : Prop := p.1 < 18446744073709551616 ∧ p.2 < 18446744073709551616
theorem has1 (ax ay : Nat) (w : World) (hw : WdP (ax, ay)) :
   Calls Tryz.prog 79 #[.slice (some ⟨w.heap.size, 0, none⟩) 1 1] (w.alloc (.cells #[.float .f64 ax, .float .f64 ay] 36)) fun e w' => (∃ t, e = .returned (.bool t) ∧ (t = true ↔ Pt ax ay)) ∧ Below w.heap.size w w' := by
 have hb : Below w.heap.size w (w.alloc (.cells #[.float .f64 ax, .float .f64 ay] 36)) := (Below.refl _ w).alloc (Nat.le_refl _) _
 refine (has_walk w.heap.size 1 1 (fun _ => ax) (fun _ => ay) _ (fun k hk => ?_) (fun k => hw) (by omega)).mono ?_
 · obtain rfl : k = 0 := by omega
   exact ⟨by go_simp, by go_simp⟩
 · rintro e w' ⟨⟨t, rfl, ht⟩, hb'⟩
   refine ⟨⟨t, rfl, ?_⟩, below_step hb hb'⟩
   rw [ht]
   exact ⟨fun h => h 0 (by omega), fun h j hj => h⟩
set_option maxRecDepth 100000 in
theorem may1_any (x y : Nat) (w : World) (hw : WdP (x, y)) : Calls Tryz.prog 46 #[pv x y] w fun e w' => (∃ t, e = .returned (.bool t) ∧ (t = true ↔ Pt x y)) ∧ Below w.heap.size w w' := by
 have HW : Hid (WdP (x, y)) := hw
 clear hw
 go_enter Tryz.func46, Tryz.ntmps46
 go_wp2_with fail
 have hb : Below w.heap.size w (w.alloc (.cells #[.float .f64 x, .float .f64 y] 36)) := (Below.refl _ w).alloc (Nat.le_refl _) _
 have hh := has1 x y (w.alloc (.cells #[.float .f64 x, .float .f64 y] 36)) HW.out
 have e1 : (w.alloc (.cells #[.float .f64 x, .float .f64 y] 36)).heap.size = w.heap.size + 1 := by simp
 rw [e1] at hh
 refine hh.mono ?_
 rintro e w' ⟨⟨t, rfl, ht⟩, hb'⟩
 have HT : Hid (t = true ↔ Pt x y) := ht
 have HB : Hid (Below w.heap.size w w') := hb.trans (hb'.mono (by simp))
 clear ht hb hb' hh e1
 go_wp2
 go_ret
 exact ⟨⟨t, rfl, HT.out⟩, HB.out⟩
end
end Go.Proofs.YtcgbnjoajieggaaGreat
