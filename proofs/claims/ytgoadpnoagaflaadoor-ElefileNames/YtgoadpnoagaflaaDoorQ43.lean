/- Own texts, put together: Efl Efm. -/
import Derived.Test.YtgoadpnoagaflaaDoorQ38
import Derived.Test.YtgoadpnoagaflaaDoorQ41
namespace Go.Proofs.YtgoadpnoagaflaaDoor
/- Package elefile: numbers and triangles that are handed in; slices.ContainsFunc as the package asks it. -/
section
set_option maxRecDepth 100000
open Go.RowKit Go.Shelf Go.Lib
structure Is (W : World) (v : Value) (ns : List Int) : Prop where
 form : ∃ a c, v = .slice a ns.length c ∧ ns.length ≤ c ∧ c ≤ 9223372036854775807 ∧ (ns = [] ∨ ∃ g off, a = some ⟨g, off, none⟩ ∧ ∀ k, k < ns.length → W.cell? ⟨g, off + k, none⟩ = some (.int .i64 (ns.getD k 0)))
 rng : ∀ n ∈ ns, InR n
theorem Is.later {w w' : World} {s : Value} {bs : List Int} (h : Is w s bs) (hb : Below w.heap.size w w') : Is w' s bs := by
 obtain ⟨⟨a, c, hs, hc, hm, hf⟩, h2⟩ := h
 refine ⟨⟨a, c, hs, hc, hm, ?_⟩, h2⟩
 rcases hf with hf | ⟨g, off, ha, hf⟩
 · exact Or.inl hf
 · exact Or.inr ⟨g, off, ha, fun k hk => box_cell hb (hf k hk)⟩
theorem Co.is {W : World} {B t : Nat} {v : Value} {ns : List Int} (h : Co W B t v (isV ns)) (hr : ∀ n ∈ ns, InR n) : Is W v ns := by
 obtain ⟨a, c, h1, h2, h3, h4⟩ := h
 have hl : (isV ns).length = ns.length := by simp [isV]
 rw [hl] at h1 h2
 refine ⟨⟨a, c, h1, h2, h3, ?_⟩, hr⟩
 rcases h4 with h4 | ⟨g, off, cur, h5, h6, h7, h8⟩
 · exact Or.inl (List.length_eq_zero_iff.1 (by rw [← hl, h4]; rfl))
 · refine Or.inr ⟨g, off, h5, fun k hk => ?_⟩
   have h9 := h8 k (.int .i64 (ns.getD k 0)) (by simp [isV, List.getD, List.getElem?_eq_getElem hk])
   obtain ⟨hlt, he⟩ := Array.getElem?_eq_some_iff.1 h9
   rw [h7.cell (off + k) hlt, he]
theorem Co.fs {W : World} {B t : Nat} {v : Value} {ns : List Nat} (h : Co W B t v (f64s ns)) (hr : ∀ n ∈ ns, n < 18446744073709551616) : Fs W v ns := by
 obtain ⟨a, c, h1, h2, h3, h4⟩ := h
 have hl : (f64s ns).length = ns.length := by simp [f64s]
 rw [hl] at h1 h2
 refine ⟨⟨a, c, h1, h2, h3, ?_⟩, hr⟩
 rcases h4 with h4 | ⟨g, off, cur, h5, h6, h7, h8⟩
 · exact Or.inl (List.length_eq_zero_iff.1 (by rw [← hl, h4]; rfl))
 · refine Or.inr ⟨g, off, h5, fun k hk => ?_⟩
   have h9 := h8 k (.float .f64 (ns.getD k 0)) (by simp [f64s, List.getD, List.getElem?_eq_getElem hk])
   obtain ⟨hlt, he⟩ := Array.getElem?_eq_some_iff.1 h9
   rw [h7.cell (off + k) hlt, he]
structure Rv (W : World) (v : Value) (rs : List Rt) : Prop where
 form : ∃ a c, v = .slice a rs.length c ∧ rs.length ≤ c ∧ c ≤ 9223372036854775807 ∧ (rs = [] ∨ ∃ g off, a = some ⟨g, off, none⟩ ∧ g < W.heap.size ∧ ∀ k p, rs[k]? = some p → W.cell? ⟨g, off + k * 2, none⟩ = some p.2.1 ∧ W.cell? ⟨g, off + k * 2 + 1, none⟩ = some p.2.2)
 sub : ∀ p ∈ rs, Is W p.2.1 p.1.t ∧ Fs W p.2.2 p.1.a
theorem Rv.later {W W' : World} {v : Value} {ns : List Rt} (h : Rv W v ns) (hb : Below W.heap.size W W') : Rv W' v ns := by
 obtain ⟨⟨a, c, h1, h2, h3, h4⟩, h5⟩ := h
 refine ⟨⟨a, c, h1, h2, h3, ?_⟩, fun p hp => ⟨(h5 p hp).1.later hb, (h5 p hp).2.later hb⟩⟩
 rcases h4 with h4 | ⟨g, off, h6, h7, h8⟩
 · exact Or.inl h4
 · exact Or.inr ⟨g, off, h6, Nat.lt_of_lt_of_le h7 hb.size, fun k p hp => ⟨cell_later hb h7 (h8 k p hp).1, cell_later hb h7 (h8 k p hp).2⟩⟩
theorem Er.rv {W : World} {B : Nat} {v : Value} {rs : List Rt} (h : Er W B v rs) (hr : ∀ q ∈ rs, (∀ n ∈ q.1.t, InR n) ∧ ∀ x ∈ q.1.a, x < 18446744073709551616) : Rv W v rs := by
 refine ⟨?_, fun p hp => ⟨(h.sub p hp).1.is (hr p hp).1, (h.sub p hp).2.fs (hr p hp).2⟩⟩
 have h0 := h.own
 rcases h.own.2 with ⟨h1, h2⟩ | ⟨g, cap, cur, rfl, _, h3, h4, h5, _⟩
 · have : rs = [] := List.length_eq_zero_iff.1 h2
   subst this
   exact ⟨none, 0, h1, by simp, by omega, Or.inl rfl⟩
 · refine ⟨_, cap, rfl, h4, by unfold maxLen at h5; omega, Or.inr ⟨g, 0, rfl, (World.ownsRow.lt h0 g rfl).2, fun k p hk => ?_⟩⟩
   have := rcs_at rs k p hk
   refine ⟨own_cellL h0 this.1, ?_⟩
   rw [Nat.add_assoc]; exact own_cellL h0 this.2
theorem endlessE_any (x : Nat) (w : World) (lx : x < 18446744073709551616) : Calls Tryd.prog 43 #[.float .f64 x] w fun e w' => e = .returned (.bool (endl x)) ∧ w' = w := by
 have HN : Hid (∀ w, Calls Tryd.prog 74 #[.float .f64 x] w fun e w' => e = .returned (.bool (isnan x)) ∧ w' = w) := Lib.hid fun w => isNaN_any x w
 have HI : Hid (∀ w, Calls Tryd.prog 75 #[.float .f64 x, .int .i64 0] w fun e w' => e = .returned (.bool (isinf x)) ∧ w' = w) := Lib.hid fun w => isInf0_any x w lx
 unfold endl
 obtain ⟨b1, hb1⟩ : ∃ b, isnan x = b := ⟨_, rfl⟩
 obtain ⟨b2, hb2⟩ : ∃ b, isinf x = b := ⟨_, rfl⟩
 rw [hb1] at HN
 rw [hb2] at HI
 rw [hb1, hb2]
 clear hb1 hb2
 cases b1
 all_goals
   go_enter Tryd.func43, Tryd.ntmps43
   go_wp2_with (first
     | (go_at_call 74; refine (HN.out _).mono ?_; rintro e w' ⟨rfl, rfl⟩)
     | (go_at_call 75; refine (HI.out _).mono ?_; rintro e w' ⟨rfl, rfl⟩))
   go_ret
   exact ⟨rfl, rfl⟩
theorem strayE_any (n : Int) (w : World) : Calls Tryd.prog 41 #[.int .i64 n] w fun e w' => e = .returned (.bool (strayE n)) ∧ w' = w := by
 by_cases h : n < 0
 · have e : strayE n = true := by unfold strayE; simp [h]
   rw [e]
   go_enter Tryd.func41, Tryd.ntmps41
   go_wp2
   go_ret
   exact ⟨rfl, rfl⟩
 · have e : strayE n = decide (1048576 ≤ n) := by unfold strayE; simp [h]
   rw [e]
   go_enter Tryd.func41, Tryd.ntmps41
   go_wp2
   go_ret
   exact ⟨rfl, rfl⟩
set_option maxHeartbeats 4000000 in
theorem flE_idx {q : Nat → Bool} (v : Value) (ls : List Nat) (w : World) (hv : Fs w v ls) (hF : ∀ k (h : k < ls.length) W, Below w.heap.size w W → Calls Tryd.prog 43 (#[.float .f64 ls[k]] ++ #[]) W fun e w' => e = .returned (.bool (q ls[k])) ∧ Below w.heap.size w w') :
   Calls Tryd.prog 73 #[v, .func (.func 43) #[] #[]] w fun e w' => (∃ i : Int, e = .returned (.int .i64 i) ∧ -1 ≤ i ∧ decide (0 ≤ i) = ls.any q) ∧ Below w.heap.size w w' := by
 obtain ⟨a, c, rfl, hc1, hc2, hm⟩ := hv.form
 have HF := Lib.hid hF
 have HM := Lib.hid hm
 obtain ⟨N, hN⟩ : ∃ N, Hid (ls.length = N) := ⟨_, Lib.hid rfl⟩
 rw [hN.out] at hc1 ⊢
 have hN' : (N : Int) ≤ 9223372036854775807 := by omega
 clear hv hm hF
 go_enter Tryd.func73, Tryd.ntmps73
 go_wp2
 go_loopw [8] (fun s8 wr => ∃ k : Nat, k ≤ N ∧ s8 = .int .i64 (k : Nat) ∧ Hid ((ls.take k).any q = false ∧ Below w.heap.size w wr)) (fun s8 _ => N - (RowKit.intOf s8).toNat)
 case atStart => exact ⟨0, Nat.zero_le _, rfl, by simp, Below.refl _ _⟩
 case round =>
   obtain ⟨k, hk, rfl, hI⟩ := hrel
   by_cases hlt : k < N
   · have hk2 : k < ls.length := by rw [hN.out]; exact hlt
     have hlt' : (k : Int) < (N : Int) := by omega
     have hk0 : (0 : Int) ≤ (k : Int) := by omega
     have hg := HM.out.resolve_left (fun e => by rw [e] at hk2; simp at hk2)
     obtain ⟨g, off, rfl, hcell⟩ := hg
     have b1 : wr.cell? ⟨g, off + k, none⟩ = some (.float .f64 ls[k]) := by
       have h1 := hcell k hk2
       rw [List.getD_eq_getElem?_getD, List.getElem?_eq_getElem hk2] at h1
       exact box_cell hI.out.2 h1
     obtain ⟨b, hb⟩ : ∃ b, Hid (q ls[k] = b) := ⟨_, Lib.hid rfl⟩
     have HC : Hid (Calls Tryd.prog 43 (#[.float .f64 ls[k]] ++ #[]) wr fun e w' => e = .returned (.bool b) ∧ Below w.heap.size w w') := Lib.hid (by rw [← hb.out]; exact HF.out k hk2 wr hI.out.2)
     have HA : Hid ((ls.take (k + 1)).any q = b) := Lib.hid (by rw [any_take hk2, hI.out.1, hb.out]; rfl)
     clear hI
     generalize ls[k] = nd at *
     simp only [List.append_toArray, List.nil_append, List.cons_append] at HC
     cases b
     · go_wp2_with (first | (go_at_call 43; refine HC.out.mono ?_; rintro e W1 ⟨rfl, hb1⟩; have HB1 := Lib.hid hb1; clear hb1))
       refine ⟨⟨k + 1, by omega, by go_num, HA.out, HB1.out⟩, ?_⟩
       simp [RowKit.intOf]; omega
     · go_wp2_with (first | (go_at_call 43; refine HC.out.mono ?_; rintro e W1 ⟨rfl, hb1⟩; have HB1 := Lib.hid hb1; clear hb1))
       go_ret
       refine ⟨⟨(k : Nat), rfl, by omega, ?_⟩, HB1.out⟩
       rw [decide_eq_true (by omega)]
       symm
       rw [List.any_eq_true]
       obtain ⟨x, hx, hqx⟩ := List.any_eq_true.1 HA.out
       exact ⟨x, List.mem_of_mem_take hx, hqx⟩
   · obtain rfl : k = N := by omega
     have HE : Hid (ls.any q = false) := Lib.hid (by have := hI.out.1; rwa [List.take_of_length_le (by rw [hN.out]; omega)] at this)
     go_wp2
     go_ret
     exact ⟨⟨-1, rfl, by omega, by rw [HE.out]; decide⟩, hI.out.2⟩
theorem flE_has {q : Nat → Bool} (v : Value) (ls : List Nat) (w : World) (hv : Fs w v ls) (hF : ∀ k (h : k < ls.length) W, Below w.heap.size w W → Calls Tryd.prog 43 (#[.float .f64 ls[k]] ++ #[]) W fun e w' => e = .returned (.bool (q ls[k])) ∧ Below w.heap.size w w') :
   Calls Tryd.prog 42 #[v, .func (.func 43) #[] #[]] w fun e w' => e = .returned (.bool (ls.any q)) ∧ Below w.heap.size w w' := by
 obtain ⟨a, c, hvv, _, _, _⟩ := hv.form
 have H := Lib.hid (flE_idx v ls w hv hF)
 subst hvv
 obtain ⟨b, hb⟩ : ∃ b, Hid (ls.any q = b) := ⟨_, Lib.hid rfl⟩
 rw [hb.out] at H ⊢
 obtain ⟨N, hN⟩ : ∃ N, ls.length = N := ⟨_, rfl⟩
 rw [hN] at H ⊢
 clear hv hF hN
 go_enter Tryd.func42, Tryd.ntmps42
 go_wp2_with (first | (go_at_call 73; refine H.out.mono ?_; rintro e W1 ⟨⟨i, rfl, hi, hd⟩, hb1⟩; have HD := Lib.hid (And.intro hd hb1); clear hb1 hd))
 go_ret
 exact ⟨by rw [← HD.out.1]; rfl, HD.out.2⟩
set_option maxHeartbeats 4000000 in
theorem inE_idx {q : Int → Bool} (v : Value) (ls : List Int) (w : World) (hv : Is w v ls) (hF : ∀ k (h : k < ls.length) W, Below w.heap.size w W → Calls Tryd.prog 41 (#[.int .i64 ls[k]] ++ #[]) W fun e w' => e = .returned (.bool (q ls[k])) ∧ Below w.heap.size w w') :
   Calls Tryd.prog 72 #[v, .func (.func 41) #[] #[]] w fun e w' => (∃ i : Int, e = .returned (.int .i64 i) ∧ -1 ≤ i ∧ decide (0 ≤ i) = ls.any q) ∧ Below w.heap.size w w' := by
 obtain ⟨a, c, rfl, hc1, hc2, hm⟩ := hv.form
 have HF := Lib.hid hF
 have HM := Lib.hid hm
 obtain ⟨N, hN⟩ : ∃ N, Hid (ls.length = N) := ⟨_, Lib.hid rfl⟩
 rw [hN.out] at hc1 ⊢
 have hN' : (N : Int) ≤ 9223372036854775807 := by omega
 clear hv hm hF
 go_enter Tryd.func72, Tryd.ntmps72
 go_wp2
 go_loopw [8] (fun s8 wr => ∃ k : Nat, k ≤ N ∧ s8 = .int .i64 (k : Nat) ∧ Hid ((ls.take k).any q = false ∧ Below w.heap.size w wr)) (fun s8 _ => N - (RowKit.intOf s8).toNat)
 case atStart => exact ⟨0, Nat.zero_le _, rfl, by simp, Below.refl _ _⟩
 case round =>
   obtain ⟨k, hk, rfl, hI⟩ := hrel
   by_cases hlt : k < N
   · have hk2 : k < ls.length := by rw [hN.out]; exact hlt
     have hlt' : (k : Int) < (N : Int) := by omega
     have hk0 : (0 : Int) ≤ (k : Int) := by omega
     have hg := HM.out.resolve_left (fun e => by rw [e] at hk2; simp at hk2)
     obtain ⟨g, off, rfl, hcell⟩ := hg
     have b1 : wr.cell? ⟨g, off + k, none⟩ = some (.int .i64 ls[k]) := by
       have h1 := hcell k hk2
       rw [List.getD_eq_getElem?_getD, List.getElem?_eq_getElem hk2] at h1
       exact box_cell hI.out.2 h1
     obtain ⟨b, hb⟩ : ∃ b, Hid (q ls[k] = b) := ⟨_, Lib.hid rfl⟩
     have HC : Hid (Calls Tryd.prog 41 (#[.int .i64 ls[k]] ++ #[]) wr fun e w' => e = .returned (.bool b) ∧ Below w.heap.size w w') := Lib.hid (by rw [← hb.out]; exact HF.out k hk2 wr hI.out.2)
     have HA : Hid ((ls.take (k + 1)).any q = b) := Lib.hid (by rw [any_take hk2, hI.out.1, hb.out]; rfl)
     clear hI
     generalize ls[k] = nd at *
     simp only [List.append_toArray, List.nil_append, List.cons_append] at HC
     cases b
     · go_wp2_with (first | (go_at_call 41; refine HC.out.mono ?_; rintro e W1 ⟨rfl, hb1⟩; have HB1 := Lib.hid hb1; clear hb1))
       refine ⟨⟨k + 1, by omega, by go_num, HA.out, HB1.out⟩, ?_⟩
       simp [RowKit.intOf]; omega
     · go_wp2_with (first | (go_at_call 41; refine HC.out.mono ?_; rintro e W1 ⟨rfl, hb1⟩; have HB1 := Lib.hid hb1; clear hb1))
       go_ret
       refine ⟨⟨(k : Nat), rfl, by omega, ?_⟩, HB1.out⟩
       rw [decide_eq_true (by omega)]
       symm
       rw [List.any_eq_true]
       obtain ⟨x, hx, hqx⟩ := List.any_eq_true.1 HA.out
       exact ⟨x, List.mem_of_mem_take hx, hqx⟩
   · obtain rfl : k = N := by omega
     have HE : Hid (ls.any q = false) := Lib.hid (by have := hI.out.1; rwa [List.take_of_length_le (by rw [hN.out]; omega)] at this)
     go_wp2
     go_ret
     exact ⟨⟨-1, rfl, by omega, by rw [HE.out]; decide⟩, hI.out.2⟩
theorem inE_has {q : Int → Bool} (v : Value) (ls : List Int) (w : World) (hv : Is w v ls) (hF : ∀ k (h : k < ls.length) W, Below w.heap.size w W → Calls Tryd.prog 41 (#[.int .i64 ls[k]] ++ #[]) W fun e w' => e = .returned (.bool (q ls[k])) ∧ Below w.heap.size w w') :
   Calls Tryd.prog 40 #[v, .func (.func 41) #[] #[]] w fun e w' => e = .returned (.bool (ls.any q)) ∧ Below w.heap.size w w' := by
 obtain ⟨a, c, hvv, _, _, _⟩ := hv.form
 have H := Lib.hid (inE_idx v ls w hv hF)
 subst hvv
 obtain ⟨b, hb⟩ : ∃ b, Hid (ls.any q = b) := ⟨_, Lib.hid rfl⟩
 rw [hb.out] at H ⊢
 obtain ⟨N, hN⟩ : ∃ N, ls.length = N := ⟨_, rfl⟩
 rw [hN] at H ⊢
 clear hv hF hN
 go_enter Tryd.func40, Tryd.ntmps40
 go_wp2_with (first | (go_at_call 72; refine H.out.mono ?_; rintro e W1 ⟨⟨i, rfl, hi, hd⟩, hb1⟩; have HD := Lib.hid (And.intro hd hb1); clear hb1 hd))
 go_ret
 exact ⟨by rw [← HD.out.1]; rfl, HD.out.2⟩
set_option maxHeartbeats 4000000 in
theorem amE_idx {q : Rt → Bool} (Bf : Nat) (v : Value) (ns : List Rt) (w : World) (hv : Rv w v ns) (hF : ∀ k (h : k < ns.length) W, Below w.heap.size w W → Calls Tryd.prog 39 (#[.agg #[ns[k].2.1, ns[k].2.2]] ++ #[.pointer (some ⟨Bf, 0, none⟩)]) W fun e w' => e = .returned (.bool (q ns[k])) ∧ Below w.heap.size w w') :
   Calls Tryd.prog 76 #[v, .func (.func 39) #[] #[.pointer (some ⟨Bf, 0, none⟩)]] w fun e w' => (∃ i : Int, e = .returned (.int .i64 i) ∧ -1 ≤ i ∧ decide (0 ≤ i) = ns.any q) ∧ Below w.heap.size w w' := by
 obtain ⟨a, c, rfl, hc1, hc2, hm⟩ := hv.form
 have HF := Lib.hid hF
 have HM := Lib.hid hm
 obtain ⟨N, hN⟩ : ∃ N, Hid (ns.length = N) := ⟨_, Lib.hid rfl⟩
 rw [hN.out] at hc1 ⊢
 have hN' : (N : Int) ≤ 9223372036854775807 := by omega
 clear hv hm hF
 go_enter Tryd.func76, Tryd.ntmps76
 go_wp2
 go_loopw [8] (fun s8 wr => ∃ k : Nat, k ≤ N ∧ s8 = .int .i64 (k : Nat) ∧ Hid ((ns.take k).any q = false ∧ Below w.heap.size w wr)) (fun s8 _ => N - (RowKit.intOf s8).toNat)
 case atStart => exact ⟨0, Nat.zero_le _, rfl, by simp, Below.refl _ _⟩
 case round =>
   obtain ⟨k, hk, rfl, hI⟩ := hrel
   by_cases hlt : k < N
   · have hk2 : k < ns.length := by rw [hN.out]; exact hlt
     have hlt' : (k : Int) < (N : Int) := by omega
     have hk0 : (0 : Int) ≤ (k : Int) := by omega
     have hg := HM.out.resolve_left (fun e => by rw [e] at hk2; simp at hk2)
     obtain ⟨g, off, rfl, hgl, hcell⟩ := hg
     obtain ⟨p1, p2⟩ := hcell k ns[k] (List.getElem?_eq_getElem hk2)
     have b1 : wr.cell? ⟨g, off + k * 2, none⟩ = some ns[k].2.1 := cell_later hI.out.2 hgl p1
     have b2 : wr.cell? ⟨g, off + k * 2 + 1, none⟩ = some ns[k].2.2 := cell_later hI.out.2 hgl p2
     clear p1 p2 hcell
     obtain ⟨b, hb⟩ : ∃ b, Hid (q ns[k] = b) := ⟨_, Lib.hid rfl⟩
     have HC : Hid (Calls Tryd.prog 39 (#[.agg #[ns[k].2.1, ns[k].2.2]] ++ #[.pointer (some ⟨Bf, 0, none⟩)]) wr fun e w' => e = .returned (.bool b) ∧ Below w.heap.size w w') := Lib.hid (by rw [← hb.out]; exact HF.out k hk2 wr hI.out.2)
     have HA : Hid ((ns.take (k + 1)).any q = b) := Lib.hid (by rw [any_take hk2, hI.out.1, hb.out]; rfl)
     clear hI
     generalize ns[k] = nd at *
     simp only [List.append_toArray, List.nil_append, List.cons_append] at HC
     cases b
     · go_wp2_with (first | (go_at_call 39; refine HC.out.mono ?_; rintro e W1 ⟨rfl, hb1⟩; have HB1 := Lib.hid hb1; clear hb1))
       refine ⟨⟨k + 1, by omega, by go_num, HA.out, HB1.out⟩, ?_⟩
       simp [RowKit.intOf]; omega
     · go_wp2_with (first | (go_at_call 39; refine HC.out.mono ?_; rintro e W1 ⟨rfl, hb1⟩; have HB1 := Lib.hid hb1; clear hb1))
       go_ret
       refine ⟨⟨(k : Nat), rfl, by omega, ?_⟩, HB1.out⟩
       rw [decide_eq_true (by omega)]
       symm
       rw [List.any_eq_true]
       obtain ⟨x, hx, hqx⟩ := List.any_eq_true.1 HA.out
       exact ⟨x, List.mem_of_mem_take hx, hqx⟩
   · obtain rfl : k = N := by omega
     have HE : Hid (ns.any q = false) := Lib.hid (by have := hI.out.1; rwa [List.take_of_length_le (by rw [hN.out]; omega)] at this)
     go_wp2
     go_ret
     exact ⟨⟨-1, rfl, by omega, by rw [HE.out]; decide⟩, hI.out.2⟩
theorem amE_has {q : Rt → Bool} (Bf : Nat) (v : Value) (ns : List Rt) (w : World) (hv : Rv w v ns) (hF : ∀ k (h : k < ns.length) W, Below w.heap.size w W → Calls Tryd.prog 39 (#[.agg #[ns[k].2.1, ns[k].2.2]] ++ #[.pointer (some ⟨Bf, 0, none⟩)]) W fun e w' => e = .returned (.bool (q ns[k])) ∧ Below w.heap.size w w') :
   Calls Tryd.prog 44 #[v, .func (.func 39) #[] #[.pointer (some ⟨Bf, 0, none⟩)]] w fun e w' => e = .returned (.bool (ns.any q)) ∧ Below w.heap.size w w' := by
 obtain ⟨a, c, hvv, _, _, _⟩ := hv.form
 have H := Lib.hid (amE_idx Bf v ns w hv hF)
 subst hvv
 obtain ⟨b, hb⟩ : ∃ b, Hid (ns.any q = b) := ⟨_, Lib.hid rfl⟩
 rw [hb.out] at H ⊢
 obtain ⟨N, hN⟩ : ∃ N, ns.length = N := ⟨_, rfl⟩
 rw [hN] at H ⊢
 clear hv hF hN
 go_enter Tryd.func44, Tryd.ntmps44
 go_wp2_with (first | (go_at_call 76; refine H.out.mono ?_; rintro e W1 ⟨⟨i, rfl, hi, hd⟩, hb1⟩; have HD := Lib.hid (And.intro hd hb1); clear hb1 hd))
 go_ret
 exact ⟨by rw [← HD.out.1]; rfl, HD.out.2⟩
end

/- Package elefile: whether a file may be. -/
section
set_option maxRecDepth 100000
open Go.RowKit Go.Shelf Go.Lib
attribute [local go_sem] run_store_float
set_option maxHeartbeats 4000000 in
theorem amissE_any (Bf : Nat) (f c k : Int) (lv : Value) (q : Rt) (w : World) (hf : CB w Bf #[.int .i64 f, .int .i64 c, .int .i64 k, lv] 28) (ht : Is w q.2.1 q.1.t) (ha : Fs w q.2.2 q.1.a) :
   Calls Tryd.prog 39 #[.agg #[q.2.1, q.2.2], .pointer (some ⟨Bf, 0, none⟩)] w fun e w' => e = .returned (.bool (amissE c k q.1)) ∧ Below w.heap.size w w' := by
 obtain ⟨⟨ts, ls⟩, tv, av⟩ := q
 try dsimp only at ht ha ⊢
 obtain ⟨ta, tc, rfl, h1, h2, _⟩ := ht.form
 obtain ⟨aa, ac, rfl, h3, h4, _⟩ := ha.form
 obtain ⟨W1, hW1⟩ : ∃ W1, w.alloc (.cells #[.slice ta ts.length tc, .slice aa ls.length ac] 34) = W1 := ⟨_, rfl⟩
 have b1 : Below w.heap.size w W1 := by rw [← hW1]; exact (Below.refl _ w).alloc (Nat.le_refl _) _
 have cn : CB W1 w.heap.size #[.slice ta ts.length tc, .slice aa ls.length ac] 34 := by rw [← hW1]; exact CB.new w _ _
 have cf := hf.later b1
 have is1 := ht.later b1
 have fs1 := ha.later b1
 obtain ⟨bt, hbt⟩ : ∃ b, Hid (ts.any strayE = b) := ⟨_, Lib.hid rfl⟩
 obtain ⟨ba, hba⟩ : ∃ b, Hid (ls.any endl = b) := ⟨_, Lib.hid rfl⟩
 have HC : Hid (Calls Tryd.prog 40 #[.slice ta ts.length tc, .func (.func 41) #[] #[]] W1 fun e w' => e = .returned (.bool bt) ∧ Below W1.heap.size W1 w') := Lib.hid (by
   rw [← hbt.out]
   exact inE_has (q := strayE) _ ts W1 is1 (fun j hj W hW => by
     refine (strayE_any ts[j] W).mono ?_
     rintro e w' ⟨rfl, rfl⟩
     exact ⟨rfl, hW⟩))
 have HA : Hid (∀ W2, Below W1.heap.size W1 W2 → Calls Tryd.prog 42 #[.slice aa ls.length ac, .func (.func 43) #[] #[]] W2 fun e w' => e = .returned (.bool ba) ∧ Below W2.heap.size W2 w') := Lib.hid (fun W2 hb2 => by
   rw [← hba.out]
   exact flE_has (q := endl) _ ls W2 (fs1.later hb2) (fun j hj W hW => by
     refine (endlessE_any ls[j] W (fs1.word _ (List.getElem_mem hj))).mono ?_
     rintro e w' ⟨rfl, rfl⟩
     exact ⟨rfl, hW⟩))
 have HL : Hid (CB W1 w.heap.size #[.slice ta ts.length tc, .slice aa ls.length ac] 34 ∧ CB W1 Bf #[.int .i64 f, .int .i64 c, .int .i64 k, lv] 28 ∧ Below w.heap.size w W1) := Lib.hid ⟨cn, cf, b1⟩
 obtain ⟨j0, j1⟩ := cn.cells2E
 obtain ⟨k0, k1, k2, k3⟩ := cf.cells4E
 have ht' : (ts.length : Int) ≤ 9223372036854775807 := by omega
 have hl' : (ls.length : Int) ≤ 9223372036854775807 := by omega
 obtain ⟨m, hm⟩ : ∃ m, ts.length = m := ⟨_, rfl⟩
 obtain ⟨n, hn⟩ : ∃ n, ls.length = n := ⟨_, rfl⟩
 have HAm : Hid (amissE c k ⟨ts, ls⟩ = (decide ((m : Int) ≠ c) || bt || decide ((n : Int) ≠ k) || ba)) := Lib.hid (by unfold amissE; simp only [hn, hm, hbt.out, hba.out])
 rw [HAm.out]
 rw [hm] at HC HL j0 ht' hW1 ⊢
 rw [hn] at HA HL j1 hl' hW1 ⊢
 clear hf ht ha cn cf is1 fs1 b1 hn hm HAm hbt hba h1 h2 h3 h4
 by_cases hk : (m : Int) = c
 rotate_left
 · have hk1 : decide ((m : Int) ≠ c) = true := by simpa using hk
   rw [hk1]
   go_enter Tryd.func39, Tryd.ntmps39
   go_wp2
   go_ret
   exact ⟨rfl, HL.out.2.2⟩
 have hk1 : decide ((m : Int) ≠ c) = false := by simpa using hk
 rw [hk1]
 subst hk
 cases bt
 rotate_left
 · go_enter Tryd.func39, Tryd.ntmps39
   go_wp2_with (first | (go_at_call 40; refine HC.out.mono ?_; rintro e W2 ⟨rfl, hb2⟩; have HB2 := Lib.hid hb2; clear hb2))
   go_ret
   exact ⟨rfl, HL.out.2.2.trans (HB2.out.mono HL.out.2.2.size)⟩
 by_cases hk2 : (n : Int) = k
 rotate_left
 · have hk3 : decide ((n : Int) ≠ k) = true := by simpa using hk2
   rw [hk3]
   go_enter Tryd.func39, Tryd.ntmps39
   go_wp2_with (first | (go_at_call 40; refine HC.out.mono ?_; rintro e W2 ⟨rfl, hb2⟩; have HB2 := Lib.hid hb2; have i1 := (HL.out.1.later hb2).cell 1 (by simp); have l2 := (HL.out.2.1.later hb2).cell 2 (by simp); clear hb2))
   go_ret
   exact ⟨rfl, HL.out.2.2.trans (HB2.out.mono HL.out.2.2.size)⟩
 have hk3 : decide ((n : Int) ≠ k) = false := by simpa using hk2
 rw [hk3]
 subst hk2
 cases ba
 all_goals
   go_enter Tryd.func39, Tryd.ntmps39
   go_wp2_with (first
     | (go_at_call 40; refine HC.out.mono ?_; rintro e W2 ⟨rfl, hb2⟩; have HB2 := Lib.hid hb2; have i1 := (HL.out.1.later hb2).cell 1 (by simp); have l2 := (HL.out.2.1.later hb2).cell 2 (by simp); clear hb2)
     | (go_at_call 42; refine (HA.out _ HB2.out).mono ?_; rintro e W3 ⟨rfl, hb3⟩; have HB3 := Lib.hid hb3; clear hb3))
   go_ret
   exact ⟨rfl, HL.out.2.2.trans ((HB2.out.trans (HB3.out.mono HB2.out.size)).mono HL.out.2.2.size)⟩
set_option maxHeartbeats 8000000 in
theorem mayE_any (f c k : Int) (v : Value) (rs : List Rt) (w : World) (hv : Rv w v rs) :
   Calls Tryd.prog 20 #[.agg #[.int .i64 f, .int .i64 c, .int .i64 k, v]] w fun e w' => e = .returned (.bool (mayE ⟨f, c, k, rs.map (·.1)⟩)) ∧ Below w.heap.size w w' := by
 obtain ⟨aa, ac, rfl, h1, h2, _⟩ := hv.form
 obtain ⟨W1, hW1⟩ : ∃ W1, w.alloc (.cells #[.int .i64 f, .int .i64 c, .int .i64 k, .slice aa rs.length ac] 28) = W1 := ⟨_, rfl⟩
 have b1 : Below w.heap.size w W1 := by rw [← hW1]; exact (Below.refl _ w).alloc (Nat.le_refl _) _
 have cf : CB W1 w.heap.size #[.int .i64 f, .int .i64 c, .int .i64 k, .slice aa rs.length ac] 28 := by rw [← hW1]; exact CB.new w _ _
 have nv1 := hv.later b1
 have HA : Hid (Calls Tryd.prog 44 #[.slice aa rs.length ac, .func (.func 39) #[] #[.pointer (some ⟨w.heap.size, 0, none⟩)]] W1 fun e w' => e = .returned (.bool (rs.any fun q => amissE c k q.1)) ∧ Below W1.heap.size W1 w') := Lib.hid (amE_has (q := fun q => amissE c k q.1) w.heap.size _ rs W1 nv1 (fun j hj W hW => by
     refine (amissE_any w.heap.size f c k _ rs[j] W (cf.later hW) ((nv1.sub _ (List.getElem_mem hj)).1.later hW) ((nv1.sub _ (List.getElem_mem hj)).2.later hW)).mono ?_
     rintro e w' ⟨rfl, hb⟩
     exact ⟨rfl, hW.trans (hb.mono hW.size)⟩))
 have e1 : (rs.map (·.1)).any (amissE c k) = rs.any fun q => amissE c k q.1 := by simp [List.any_map, Function.comp_def]
 obtain ⟨bA, hbA⟩ : ∃ b, (rs.any fun q => amissE c k q.1) = b := ⟨_, rfl⟩
 rw [hbA] at HA
 obtain ⟨n, hn⟩ : ∃ n, rs.length = n := ⟨_, rfl⟩
 have HW : Hid (mayE ⟨f, c, k, rs.map (·.1)⟩ = ((decide (f = 0) || decide (f = 1)) && (decide (c = 3) || decide (c = 6)) && decide (0 ≤ k) && decide (k ≤ 16) && decide ((n : Int) ≤ 1048576) && !bA)) := Lib.hid (by
   unfold mayE
   simp only [e1, hbA, show (rs.map (·.1)).length = n by rw [← hn]; simp]
   congr 2
   by_cases h : n ≤ 1048576
   · rw [decide_eq_true h, decide_eq_true (by omega)]
   · rw [decide_eq_false h, decide_eq_false (by omega)])
 rw [HW.out]
 rw [hn] at HA hW1 cf ⊢
 have hl' : (n : Int) ≤ 9223372036854775807 := by omega
 have HL := Lib.hid b1
 obtain ⟨k0, k1, k2, k3⟩ := cf.cells4E
 clear hv nv1 cf b1 e1 hbA hn HW h1 h2
 by_cases hf : f = 0 ∨ f = 1
 rotate_left
 · have e1 : (decide (f = 0) || decide (f = 1)) = false := by simp; omega
   rw [e1]
   have g1 : ¬ f = 0 := fun e => hf (Or.inl e)
   have g2 : ¬ f = 1 := fun e => hf (Or.inr e)
   clear hf
   go_enter Tryd.func20, Tryd.ntmps20
   go_wp2
   go_ret
   exact ⟨rfl, HL.out⟩
 have e1 : (decide (f = 0) || decide (f = 1)) = true := by simpa using hf
 rw [e1, Bool.true_and]
 clear e1
 by_cases hc : c = 3 ∨ c = 6
 rotate_left
 · have e2 : (decide (c = 3) || decide (c = 6)) = false := by simp; omega
   rw [e2]
   have g1 : ¬ c = 3 := fun e => hc (Or.inl e)
   have g2 : ¬ c = 6 := fun e => hc (Or.inr e)
   clear hc
   rcases hf with rfl | rfl
   all_goals
     go_enter Tryd.func20, Tryd.ntmps20
     go_wp2
     go_ret
     exact ⟨rfl, HL.out⟩
 have e2 : (decide (c = 3) || decide (c = 6)) = true := by simpa using hc
 rw [e2, Bool.true_and]
 clear e2
 by_cases hk : 0 ≤ k
 rotate_left
 · rw [decide_eq_false hk]
   rcases hf with rfl | rfl
   all_goals
     rcases hc with rfl | rfl
     all_goals
       go_enter Tryd.func20, Tryd.ntmps20
       go_wp2
       go_ret
       exact ⟨rfl, HL.out⟩
 rw [decide_eq_true hk, Bool.true_and]
 by_cases hk2 : k ≤ 16
 rotate_left
 · rw [decide_eq_false hk2]
   rcases hf with rfl | rfl
   all_goals
     rcases hc with rfl | rfl
     all_goals
       go_enter Tryd.func20, Tryd.ntmps20
       go_wp2
       go_ret
       exact ⟨rfl, HL.out⟩
 rw [decide_eq_true hk2, Bool.true_and]
 by_cases hn : (n : Int) ≤ 1048576
 rotate_left
 · rw [decide_eq_false hn]
   rcases hf with rfl | rfl
   all_goals
     rcases hc with rfl | rfl
     all_goals
       go_enter Tryd.func20, Tryd.ntmps20
       go_wp2
       go_ret
       exact ⟨rfl, HL.out⟩
 rw [decide_eq_true hn, Bool.true_and]
 rcases hf with rfl | rfl
 all_goals
   rcases hc with rfl | rfl
   all_goals
     go_enter Tryd.func20, Tryd.ntmps20
     go_wp2_with (first | (go_at_call 44; refine HA.out.mono ?_; rintro e W2 ⟨rfl, hb2⟩; have HB2 := Lib.hid (HL.out.trans (hb2.mono HL.out.size)); clear hb2))
     go_ret
     exact ⟨rfl, HB2.out⟩
end
end Go.Proofs.YtgoadpnoagaflaaDoor
