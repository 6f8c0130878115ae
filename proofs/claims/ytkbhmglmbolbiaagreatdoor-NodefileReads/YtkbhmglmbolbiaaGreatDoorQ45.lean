/- Own texts, put together: Qp Qq Qs Qt Qu Qv Qza. -/
import Derived.Test.YtkbhmglmbolbiaaGreatDoorQ3
import Derived.Test.YtkbhmglmbolbiaaGreatDoorQ4
import Derived.Test.YtkbhmglmbolbiaaGreatDoorQ26
import Derived.Test.YtkbhmglmbolbiaaGreatDoorQ31
import Derived.Test.YtkbhmglmbolbiaaGreatDoorQ44
namespace Go.Proofs.YtkbhmglmbolbiaaGreatDoor
/- slices.ContainsFunc as package nodefile asks it. -/
section
set_option maxRecDepth 100000
open Go.RowKit Go.Shelf Go.Lib
def ndsO' (ns : List Nt) : List Nd := ns.map (·.1)
theorem any_take {α : Type} {q : α → Bool} {l : List α} {k : Nat} (h : k < l.length) : (l.take (k + 1)).any q = ((l.take k).any q || q l[k]) := by
 rw [List.take_succ_eq_append_getElem h, List.any_append]; simp
set_option maxHeartbeats 4000000 in
theorem fl_idx {q : Nat → Bool} (v : Value) (ls : List Nat) (w : World) (hv : Fs w v ls) (hF : ∀ k (h : k < ls.length) W, Below w.heap.size w W → Calls Tryz.prog 85 (#[.float .f64 ls[k]] ++ #[]) W fun e w' => e = .returned (.bool (q ls[k])) ∧ Below w.heap.size w w') :
   Calls Tryz.prog 109 #[v, .func (.func 85) #[] #[]] w fun e w' => (∃ i : Int, e = .returned (.int .i64 i) ∧ -1 ≤ i ∧ decide (0 ≤ i) = ls.any q) ∧ Below w.heap.size w w' := by
 obtain ⟨a, c, rfl, hc1, hc2, hm⟩ := hv.form
 have HF := Lib.hid hF
 have HM := Lib.hid hm
 obtain ⟨N, hN⟩ : ∃ N, Hid (ls.length = N) := ⟨_, Lib.hid rfl⟩
 rw [hN.out] at hc1 ⊢
 have hN' : (N : Int) ≤ 9223372036854775807 := by omega
 clear hv hm hF
 go_enter Tryz.func109, Tryz.ntmps109
 go_wp2
 go_loopw [8] (fun s8 wr => ∃ k : Nat, k ≤ N ∧ s8 = .int .i64 (k : Nat) ∧ Hid ((ls.take k).any q = false ∧ Below w.heap.size w wr)) (fun s8 _ => N - (RowKit.intOf s8).toNat)
 case atStart => exact ⟨0, Nat.zero_le _, rfl, by simp, Below.refl _ _⟩
 case round =>
   obtain ⟨k, hk, rfl, hI⟩ := hrel
   by_cases hlt : k < N
   · have hk2 : k < ls.length := by rw [hN.out]; exact hlt
     have hlt' : (k : Int) < (N : Int) := by omega
     have hk0 : (0 : Int) ≤ (k : Int) := by omega
     have hg := HM.out.resolve_left (fun e => by rw [e] at hk2; simp at hk2)
     obtain ⟨g, off, rfl, hcell⟩ := hg
     have b1 : wr.cell? ⟨g, off + k, none⟩ = some (.float .f64 ls[k]) := by
       have h1 := hcell k hk2
       rw [List.getD_eq_getElem?_getD, List.getElem?_eq_getElem hk2] at h1
       exact box_cell hI.out.2 h1
     obtain ⟨b, hb⟩ : ∃ b, Hid (q ls[k] = b) := ⟨_, Lib.hid rfl⟩
     have HC : Hid (Calls Tryz.prog 85 (#[.float .f64 ls[k]] ++ #[]) wr fun e w' => e = .returned (.bool b) ∧ Below w.heap.size w w') := Lib.hid (by rw [← hb.out]; exact HF.out k hk2 wr hI.out.2)
     have HA : Hid ((ls.take (k + 1)).any q = b) := Lib.hid (by rw [any_take hk2, hI.out.1, hb.out]; rfl)
     clear hI
     generalize ls[k] = nd at *
     simp only [List.append_toArray, List.nil_append, List.cons_append] at HC
     cases b
     · go_wp2_with (first | (go_at_call 85; refine HC.out.mono ?_; rintro e W1 ⟨rfl, hb1⟩; have HB1 := Lib.hid hb1; clear hb1))
       refine ⟨⟨k + 1, by omega, by go_num, HA.out, HB1.out⟩, ?_⟩
       simp [RowKit.intOf]; omega
     · go_wp2_with (first | (go_at_call 85; refine HC.out.mono ?_; rintro e W1 ⟨rfl, hb1⟩; have HB1 := Lib.hid hb1; clear hb1))
       go_ret
       refine ⟨⟨(k : Nat), rfl, by omega, ?_⟩, HB1.out⟩
       rw [decide_eq_true (by omega)]
       symm
       rw [List.any_eq_true]
       obtain ⟨x, hx, hqx⟩ := List.any_eq_true.1 HA.out
       exact ⟨x, List.mem_of_mem_take hx, hqx⟩
   · obtain rfl : k = N := by omega
     have HE : Hid (ls.any q = false) := Lib.hid (by have := hI.out.1; rwa [List.take_of_length_le (by rw [hN.out]; omega)] at this)
     go_wp2
     go_ret
     exact ⟨⟨-1, rfl, by omega, by rw [HE.out]; decide⟩, hI.out.2⟩
theorem fl_has {q : Nat → Bool} (v : Value) (ls : List Nat) (w : World) (hv : Fs w v ls) (hF : ∀ k (h : k < ls.length) W, Below w.heap.size w W → Calls Tryz.prog 85 (#[.float .f64 ls[k]] ++ #[]) W fun e w' => e = .returned (.bool (q ls[k])) ∧ Below w.heap.size w w') :
   Calls Tryz.prog 84 #[v, .func (.func 85) #[] #[]] w fun e w' => e = .returned (.bool (ls.any q)) ∧ Below w.heap.size w w' := by
 obtain ⟨a, c, hvv, _, _, _⟩ := hv.form
 have H := Lib.hid (fl_idx v ls w hv hF)
 subst hvv
 obtain ⟨b, hb⟩ : ∃ b, Hid (ls.any q = b) := ⟨_, Lib.hid rfl⟩
 rw [hb.out] at H ⊢
 obtain ⟨N, hN⟩ : ∃ N, ls.length = N := ⟨_, rfl⟩
 rw [hN] at H ⊢
 clear hv hF hN
 go_enter Tryz.func84, Tryz.ntmps84
 go_wp2_with (first | (go_at_call 109; refine H.out.mono ?_; rintro e W1 ⟨⟨i, rfl, hi, hd⟩, hb1⟩; have HD := Lib.hid (And.intro hd hb1); clear hb1 hd))
 go_ret
 exact ⟨by rw [← HD.out.1]; rfl, HD.out.2⟩
set_option maxHeartbeats 4000000 in
theorem amN_idx {q : Nt → Bool} (Bf : Nat) (v : Value) (ns : List Nt) (w : World) (hv : Nv w v ns) (hF : ∀ k (h : k < ns.length) W, Below w.heap.size w W → Calls Tryz.prog 83 (#[.agg #[.float .f64 ns[k].1.x, .float .f64 ns[k].1.y, ns[k].2, .int .i64 ns[k].1.m]] ++ #[.pointer (some ⟨Bf, 0, none⟩)]) W fun e w' => e = .returned (.bool (q ns[k])) ∧ Below w.heap.size w w') :
   Calls Tryz.prog 112 #[v, .func (.func 83) #[] #[.pointer (some ⟨Bf, 0, none⟩)]] w fun e w' => (∃ i : Int, e = .returned (.int .i64 i) ∧ -1 ≤ i ∧ decide (0 ≤ i) = ns.any q) ∧ Below w.heap.size w w' := by
 obtain ⟨a, c, rfl, hc1, hc2, hm⟩ := hv.form
 have HF := Lib.hid hF
 have HM := Lib.hid hm
 obtain ⟨N, hN⟩ : ∃ N, Hid (ns.length = N) := ⟨_, Lib.hid rfl⟩
 rw [hN.out] at hc1 ⊢
 have hN' : (N : Int) ≤ 9223372036854775807 := by omega
 clear hv hm hF
 go_enter Tryz.func112, Tryz.ntmps112
 go_wp2
 go_loopw [8] (fun s8 wr => ∃ k : Nat, k ≤ N ∧ s8 = .int .i64 (k : Nat) ∧ Hid ((ns.take k).any q = false ∧ Below w.heap.size w wr)) (fun s8 _ => N - (RowKit.intOf s8).toNat)
 case atStart => exact ⟨0, Nat.zero_le _, rfl, by simp, Below.refl _ _⟩
 case round =>
   obtain ⟨k, hk, rfl, hI⟩ := hrel
   by_cases hlt : k < N
   · have hk2 : k < ns.length := by rw [hN.out]; exact hlt
     have hlt' : (k : Int) < (N : Int) := by omega
     have hk0 : (0 : Int) ≤ (k : Int) := by omega
     have hg := HM.out.resolve_left (fun e => by rw [e] at hk2; simp at hk2)
     obtain ⟨g, off, rfl, hgl, hcell⟩ := hg
     obtain ⟨p1, p2, p3, p4⟩ := hcell k ns[k] (List.getElem?_eq_getElem hk2)
     have b1 : wr.cell? ⟨g, off + k * 4, none⟩ = some (.float .f64 ns[k].1.x) := cell_later hI.out.2 hgl p1
     have b2 : wr.cell? ⟨g, off + k * 4 + 1, none⟩ = some (.float .f64 ns[k].1.y) := cell_later hI.out.2 hgl p2
     have b3 : wr.cell? ⟨g, off + k * 4 + 2, none⟩ = some ns[k].2 := cell_later hI.out.2 hgl p3
     have b4 : wr.cell? ⟨g, off + k * 4 + 3, none⟩ = some (.int .i64 ns[k].1.m) := cell_later hI.out.2 hgl p4
     clear p1 p2 p3 p4 hcell
     obtain ⟨b, hb⟩ : ∃ b, Hid (q ns[k] = b) := ⟨_, Lib.hid rfl⟩
     have HC : Hid (Calls Tryz.prog 83 (#[.agg #[.float .f64 ns[k].1.x, .float .f64 ns[k].1.y, ns[k].2, .int .i64 ns[k].1.m]] ++ #[.pointer (some ⟨Bf, 0, none⟩)]) wr fun e w' => e = .returned (.bool b) ∧ Below w.heap.size w w') := Lib.hid (by rw [← hb.out]; exact HF.out k hk2 wr hI.out.2)
     have HA : Hid ((ns.take (k + 1)).any q = b) := Lib.hid (by rw [any_take hk2, hI.out.1, hb.out]; rfl)
     clear hI
     generalize ns[k] = nd at *
     simp only [List.append_toArray, List.nil_append, List.cons_append] at HC
     cases b
     · go_wp2_with (first | (go_at_call 83; refine HC.out.mono ?_; rintro e W1 ⟨rfl, hb1⟩; have HB1 := Lib.hid hb1; clear hb1))
       refine ⟨⟨k + 1, by omega, by go_num, HA.out, HB1.out⟩, ?_⟩
       simp [RowKit.intOf]; omega
     · go_wp2_with (first | (go_at_call 83; refine HC.out.mono ?_; rintro e W1 ⟨rfl, hb1⟩; have HB1 := Lib.hid hb1; clear hb1))
       go_ret
       refine ⟨⟨(k : Nat), rfl, by omega, ?_⟩, HB1.out⟩
       rw [decide_eq_true (by omega)]
       symm
       rw [List.any_eq_true]
       obtain ⟨x, hx, hqx⟩ := List.any_eq_true.1 HA.out
       exact ⟨x, List.mem_of_mem_take hx, hqx⟩
   · obtain rfl : k = N := by omega
     have HE : Hid (ns.any q = false) := Lib.hid (by have := hI.out.1; rwa [List.take_of_length_le (by rw [hN.out]; omega)] at this)
     go_wp2
     go_ret
     exact ⟨⟨-1, rfl, by omega, by rw [HE.out]; decide⟩, hI.out.2⟩
theorem amN_has {q : Nt → Bool} (Bf : Nat) (v : Value) (ns : List Nt) (w : World) (hv : Nv w v ns) (hF : ∀ k (h : k < ns.length) W, Below w.heap.size w W → Calls Tryz.prog 83 (#[.agg #[.float .f64 ns[k].1.x, .float .f64 ns[k].1.y, ns[k].2, .int .i64 ns[k].1.m]] ++ #[.pointer (some ⟨Bf, 0, none⟩)]) W fun e w' => e = .returned (.bool (q ns[k])) ∧ Below w.heap.size w w') :
   Calls Tryz.prog 86 #[v, .func (.func 83) #[] #[.pointer (some ⟨Bf, 0, none⟩)]] w fun e w' => e = .returned (.bool (ns.any q)) ∧ Below w.heap.size w w' := by
 obtain ⟨a, c, hvv, _, _, _⟩ := hv.form
 have H := Lib.hid (amN_idx Bf v ns w hv hF)
 subst hvv
 obtain ⟨b, hb⟩ : ∃ b, Hid (ns.any q = b) := ⟨_, Lib.hid rfl⟩
 rw [hb.out] at H ⊢
 obtain ⟨N, hN⟩ : ∃ N, ns.length = N := ⟨_, rfl⟩
 rw [hN] at H ⊢
 clear hv hF hN
 go_enter Tryz.func86, Tryz.ntmps86
 go_wp2_with (first | (go_at_call 112; refine H.out.mono ?_; rintro e W1 ⟨⟨i, rfl, hi, hd⟩, hb1⟩; have HD := Lib.hid (And.intro hd hb1); clear hb1 hd))
 go_ret
 exact ⟨by rw [← HD.out.1]; rfl, HD.out.2⟩
set_option maxHeartbeats 4000000 in
theorem asN_idx {q : Nt → Bool} (v : Value) (ns : List Nt) (w : World) (hv : Nv w v ns) (hF : ∀ k (h : k < ns.length) W, Below w.heap.size w W → Calls Tryz.prog 87 (#[.agg #[.float .f64 ns[k].1.x, .float .f64 ns[k].1.y, ns[k].2, .int .i64 ns[k].1.m]] ++ #[]) W fun e w' => e = .returned (.bool (q ns[k])) ∧ Below w.heap.size w w') :
   Calls Tryz.prog 112 #[v, .func (.func 87) #[] #[]] w fun e w' => (∃ i : Int, e = .returned (.int .i64 i) ∧ -1 ≤ i ∧ decide (0 ≤ i) = ns.any q) ∧ Below w.heap.size w w' := by
 obtain ⟨a, c, rfl, hc1, hc2, hm⟩ := hv.form
 have HF := Lib.hid hF
 have HM := Lib.hid hm
 obtain ⟨N, hN⟩ : ∃ N, Hid (ns.length = N) := ⟨_, Lib.hid rfl⟩
 rw [hN.out] at hc1 ⊢
 have hN' : (N : Int) ≤ 9223372036854775807 := by omega
 clear hv hm hF
 go_enter Tryz.func112, Tryz.ntmps112
 go_wp2
 go_loopw [8] (fun s8 wr => ∃ k : Nat, k ≤ N ∧ s8 = .int .i64 (k : Nat) ∧ Hid ((ns.take k).any q = false ∧ Below w.heap.size w wr)) (fun s8 _ => N - (RowKit.intOf s8).toNat)
 case atStart => exact ⟨0, Nat.zero_le _, rfl, by simp, Below.refl _ _⟩
 case round =>
   obtain ⟨k, hk, rfl, hI⟩ := hrel
   by_cases hlt : k < N
   · have hk2 : k < ns.length := by rw [hN.out]; exact hlt
     have hlt' : (k : Int) < (N : Int) := by omega
     have hk0 : (0 : Int) ≤ (k : Int) := by omega
     have hg := HM.out.resolve_left (fun e => by rw [e] at hk2; simp at hk2)
     obtain ⟨g, off, rfl, hgl, hcell⟩ := hg
     obtain ⟨p1, p2, p3, p4⟩ := hcell k ns[k] (List.getElem?_eq_getElem hk2)
     have b1 : wr.cell? ⟨g, off + k * 4, none⟩ = some (.float .f64 ns[k].1.x) := cell_later hI.out.2 hgl p1
     have b2 : wr.cell? ⟨g, off + k * 4 + 1, none⟩ = some (.float .f64 ns[k].1.y) := cell_later hI.out.2 hgl p2
     have b3 : wr.cell? ⟨g, off + k * 4 + 2, none⟩ = some ns[k].2 := cell_later hI.out.2 hgl p3
     have b4 : wr.cell? ⟨g, off + k * 4 + 3, none⟩ = some (.int .i64 ns[k].1.m) := cell_later hI.out.2 hgl p4
     clear p1 p2 p3 p4 hcell
     obtain ⟨b, hb⟩ : ∃ b, Hid (q ns[k] = b) := ⟨_, Lib.hid rfl⟩
     have HC : Hid (Calls Tryz.prog 87 (#[.agg #[.float .f64 ns[k].1.x, .float .f64 ns[k].1.y, ns[k].2, .int .i64 ns[k].1.m]] ++ #[]) wr fun e w' => e = .returned (.bool b) ∧ Below w.heap.size w w') := Lib.hid (by rw [← hb.out]; exact HF.out k hk2 wr hI.out.2)
     have HA : Hid ((ns.take (k + 1)).any q = b) := Lib.hid (by rw [any_take hk2, hI.out.1, hb.out]; rfl)
     clear hI
     generalize ns[k] = nd at *
     simp only [List.append_toArray, List.nil_append, List.cons_append] at HC
     cases b
     · go_wp2_with (first | (go_at_call 87; refine HC.out.mono ?_; rintro e W1 ⟨rfl, hb1⟩; have HB1 := Lib.hid hb1; clear hb1))
       refine ⟨⟨k + 1, by omega, by go_num, HA.out, HB1.out⟩, ?_⟩
       simp [RowKit.intOf]; omega
     · go_wp2_with (first | (go_at_call 87; refine HC.out.mono ?_; rintro e W1 ⟨rfl, hb1⟩; have HB1 := Lib.hid hb1; clear hb1))
       go_ret
       refine ⟨⟨(k : Nat), rfl, by omega, ?_⟩, HB1.out⟩
       rw [decide_eq_true (by omega)]
       symm
       rw [List.any_eq_true]
       obtain ⟨x, hx, hqx⟩ := List.any_eq_true.1 HA.out
       exact ⟨x, List.mem_of_mem_take hx, hqx⟩
   · obtain rfl : k = N := by omega
     have HE : Hid (ns.any q = false) := Lib.hid (by have := hI.out.1; rwa [List.take_of_length_le (by rw [hN.out]; omega)] at this)
     go_wp2
     go_ret
     exact ⟨⟨-1, rfl, by omega, by rw [HE.out]; decide⟩, hI.out.2⟩
theorem asN_has {q : Nt → Bool} (v : Value) (ns : List Nt) (w : World) (hv : Nv w v ns) (hF : ∀ k (h : k < ns.length) W, Below w.heap.size w W → Calls Tryz.prog 87 (#[.agg #[.float .f64 ns[k].1.x, .float .f64 ns[k].1.y, ns[k].2, .int .i64 ns[k].1.m]] ++ #[]) W fun e w' => e = .returned (.bool (q ns[k])) ∧ Below w.heap.size w w') :
   Calls Tryz.prog 86 #[v, .func (.func 87) #[] #[]] w fun e w' => e = .returned (.bool (ns.any q)) ∧ Below w.heap.size w w' := by
 obtain ⟨a, c, hvv, _, _, _⟩ := hv.form
 have H := Lib.hid (asN_idx v ns w hv hF)
 subst hvv
 obtain ⟨b, hb⟩ : ∃ b, Hid (ns.any q = b) := ⟨_, Lib.hid rfl⟩
 rw [hb.out] at H ⊢
 obtain ⟨N, hN⟩ : ∃ N, ns.length = N := ⟨_, rfl⟩
 rw [hN] at H ⊢
 clear hv hF hN
 go_enter Tryz.func86, Tryz.ntmps86
 go_wp2_with (first | (go_at_call 112; refine H.out.mono ?_; rintro e W1 ⟨⟨i, rfl, hi, hd⟩, hb1⟩; have HD := Lib.hid (And.intro hd hb1); clear hb1 hd))
 go_ret
 exact ⟨by rw [← HD.out.1]; rfl, HD.out.2⟩
end

/- Package nodefile: why a file may not be: wrongOf. -/
section
set_option maxRecDepth 100000
open Go.RowKit Go.Shelf Go.Lib
attribute [local go_sem] run_store_float
set_option maxHeartbeats 4000000 in
theorem amiss_any (Bf : Nat) (nv : Value) (z : Bool) (k : Int) (m : Bool) (q : Nd) (av : Value) (w : World) (hf : CB w Bf #[nv, .bool z, .int .i64 k, .bool m] 29) (ha : Fs w av q.a) :
   Calls Tryz.prog 83 #[.agg #[.float .f64 q.x, .float .f64 q.y, av, .int .i64 q.m], .pointer (some ⟨Bf, 0, none⟩)] w fun e w' => e = .returned (.bool (amiss k m q)) ∧ Below w.heap.size w w' := by
 obtain ⟨x, y, ls, mk⟩ := q
 try dsimp only at ha ⊢
 obtain ⟨aa, ac, rfl, h1, h2, _⟩ := ha.form
 obtain ⟨W1, hW1⟩ : ∃ W1, w.alloc (.cells #[.float .f64 x, .float .f64 y, .slice aa ls.length ac, .int .i64 mk] 53) = W1 := ⟨_, rfl⟩
 have b1 : Below w.heap.size w W1 := by rw [← hW1]; exact (Below.refl _ w).alloc (Nat.le_refl _) _
 have cn : CB W1 w.heap.size #[.float .f64 x, .float .f64 y, .slice aa ls.length ac, .int .i64 mk] 53 := by rw [← hW1]; exact CB.new w _ _
 have cf := hf.later b1
 have fs1 := ha.later b1
 obtain ⟨b, hb⟩ : ∃ b, Hid (ls.any endl = b) := ⟨_, Lib.hid rfl⟩
 have HC : Hid (Calls Tryz.prog 84 #[.slice aa ls.length ac, .func (.func 85) #[] #[]] W1 fun e w' => e = .returned (.bool b) ∧ Below W1.heap.size W1 w') := Lib.hid (by
   rw [← hb.out]
   exact fl_has (q := endl) _ ls W1 fs1 (fun j hj W hW => by
     refine (endless_any ls[j] W (fs1.word _ (List.getElem_mem hj))).mono ?_
     rintro e w' ⟨rfl, rfl⟩
     exact ⟨rfl, hW⟩))
 have HL : Hid (CB W1 w.heap.size #[.float .f64 x, .float .f64 y, .slice aa ls.length ac, .int .i64 mk] 53 ∧ CB W1 Bf #[nv, .bool z, .int .i64 k, .bool m] 29 ∧ Below w.heap.size w W1) := Lib.hid ⟨cn, cf, b1⟩
 obtain ⟨j0, j1, j2, j3⟩ := cn.cells4
 obtain ⟨k0, k1, k2, k3⟩ := cf.cells4
 have hl' : (ls.length : Int) ≤ 9223372036854775807 := by omega
 obtain ⟨n, hn⟩ : ∃ n, ls.length = n := ⟨_, rfl⟩
 have HAm : Hid (amiss k m ⟨x, y, ls, mk⟩ = (decide ((n : Int) ≠ k) || b || (decide (mk ≠ 0) && !m))) := Lib.hid (by unfold amiss; simp only [hn, hb.out])
 rw [HAm.out]
 rw [hn] at HC HL j2 hl' hW1 ⊢
 clear hf ha cn cf fs1 b1 hn HAm hb
 by_cases hk : (n : Int) = k
 · have hk1 : decide ((n : Int) ≠ k) = false := by simpa using hk
   rw [hk1]
   subst hk
   cases b
   · by_cases hm : mk = 0
     · subst hm
       go_enter Tryz.func83, Tryz.ntmps83
       go_wp2_with (first | (go_at_call 84; refine HC.out.mono ?_; rintro e W2 ⟨rfl, hb2⟩; have HB2 := Lib.hid hb2; have i3 := (HL.out.1.later hb2).cell 3 (by simp); clear hb2))
       go_ret
       exact ⟨rfl, HL.out.2.2.trans (HB2.out.mono HL.out.2.2.size)⟩
     · have hm1 : decide (mk ≠ 0) = true := by simpa using hm
       rw [hm1]
       go_enter Tryz.func83, Tryz.ntmps83
       go_wp2_with (first | (go_at_call 84; refine HC.out.mono ?_; rintro e W2 ⟨rfl, hb2⟩; have HB2 := Lib.hid hb2; have i3 := (HL.out.1.later hb2).cell 3 (by simp); have l3 := (HL.out.2.1.later hb2).cell 3 (by simp); clear hb2))
       go_ret
       have hm2 : (mk != 0) = true := by simpa using hm
       refine ⟨?_, HL.out.2.2.trans (HB2.out.mono HL.out.2.2.size)⟩
       show Ending.returned (Value.bool (mk != 0 && !m)) = _
       rw [hm2]
       cases m <;> rfl
   · go_enter Tryz.func83, Tryz.ntmps83
     go_wp2_with (first | (go_at_call 84; refine HC.out.mono ?_; rintro e W2 ⟨rfl, hb2⟩; have HB2 := Lib.hid hb2; clear hb2))
     go_ret
     exact ⟨rfl, HL.out.2.2.trans (HB2.out.mono HL.out.2.2.size)⟩
 · have hk1 : decide ((n : Int) ≠ k) = true := by simpa using hk
   rw [hk1]
   go_enter Tryz.func83, Tryz.ntmps83
   go_wp2
   go_ret
   exact ⟨rfl, HL.out.2.2⟩
set_option maxHeartbeats 8000000 in
theorem wrongOf_any {p : Pm} (hp : p.Ok) (v : Value) (ns : List Nt) (z : Bool) (k : Int) (m : Bool) (w : World) (hv : Nv w v ns) :
   Calls Tryz.prog 41 #[.agg #[v, .bool z, .int .i64 k, .bool m]] w fun e w' => e = .returned (.int .i64 (wrongN p ⟨ndsO' ns, z, k, m⟩)) ∧ Below w.heap.size w w' := by
 obtain ⟨aa, ac, rfl, h1, h2, _⟩ := hv.form
 obtain ⟨W1, hW1⟩ : ∃ W1, w.alloc (.cells #[.slice aa ns.length ac, .bool z, .int .i64 k, .bool m] 29) = W1 := ⟨_, rfl⟩
 have b1 : Below w.heap.size w W1 := by rw [← hW1]; exact (Below.refl _ w).alloc (Nat.le_refl _) _
 have cf : CB W1 w.heap.size #[.slice aa ns.length ac, .bool z, .int .i64 k, .bool m] 29 := by rw [← hW1]; exact CB.new w _ _
 have nv1 := hv.later b1
 have HA : Hid (Calls Tryz.prog 86 #[.slice aa ns.length ac, .func (.func 83) #[] #[.pointer (some ⟨w.heap.size, 0, none⟩)]] W1 fun e w' => e = .returned (.bool (ns.any fun q => amiss k m q.1)) ∧ Below W1.heap.size W1 w') := Lib.hid (amN_has (q := fun q => amiss k m q.1) w.heap.size _ ns W1 nv1 (fun j hj W hW => by
     refine (amiss_any w.heap.size _ z k m ns[j].1 ns[j].2 W (cf.later hW) ((nv1.sub _ (List.getElem_mem hj)).later hW)).mono ?_
     rintro e w' ⟨rfl, hb⟩
     exact ⟨rfl, hW.trans (hb.mono hW.size)⟩))
 have HB : Hid (∀ W2, Below W1.heap.size W1 W2 → Calls Tryz.prog 86 #[.slice aa ns.length ac, .func (.func 87) #[] #[]] W2 fun e w' => e = .returned (.bool (ns.any fun q => !p.pt q.1.x q.1.y)) ∧ Below W2.heap.size W2 w') := Lib.hid (fun W2 hb2 => asN_has (q := fun q => !p.pt q.1.x q.1.y) _ ns W2 (nv1.later hb2) (fun j hj W hW => by
     refine (astray_any hp ns[j].1 ns[j].2 W (nv1.wrd _ (List.getElem_mem hj))).mono ?_
     rintro e w' ⟨rfl, hb⟩
     exact ⟨rfl, hW.trans (hb.mono hW.size)⟩))
 have e1 : (ndsO' ns).any (amiss k m) = ns.any fun q => amiss k m q.1 := by simp [ndsO', List.any_map, Function.comp_def]
 have e2 : (ndsO' ns).any (fun q => !p.pt q.x q.y) = ns.any fun q => !p.pt q.1.x q.1.y := by simp [ndsO', List.any_map, Function.comp_def]
 obtain ⟨bA, hbA⟩ : ∃ b, (ns.any fun q => amiss k m q.1) = b := ⟨_, rfl⟩
 obtain ⟨bB, hbB⟩ : ∃ b, (ns.any fun q => !p.pt q.1.x q.1.y) = b := ⟨_, rfl⟩
 rw [hbA] at HA
 simp only [hbB] at HB
 obtain ⟨n, hn⟩ : ∃ n, ns.length = n := ⟨_, rfl⟩
 have HW : Hid (wrongN p ⟨ndsO' ns, z, k, m⟩ = if 1048576 < n then 3 else if k < 0 ∨ 16 < k ∨ (z = true ∧ n = 0) then 1 else if bA then 1 else if bB then 10 else 0) := Lib.hid (by
   unfold wrongN
   simp only [e1, e2, hbA, hbB, show (ndsO' ns).length = n by rw [← hn]; simp [ndsO']])
 rw [HW.out]
 rw [hn] at HA HB hW1 cf ⊢
 have hl' : (n : Int) ≤ 9223372036854775807 := by omega
 have HL : Hid (CB W1 w.heap.size #[.slice aa n ac, .bool z, .int .i64 k, .bool m] 29 ∧ Below w.heap.size w W1) := Lib.hid ⟨cf, b1⟩
 obtain ⟨k0, k1, k2, k3⟩ := cf.cells4
 clear hv nv1 cf b1 e1 e2 hbA hbB hn HW hp
 by_cases hbig : 1048576 < n
 · rw [if_pos hbig]
   have hbig' : (1048576 : Int) < (n : Int) := by omega
   go_enter Tryz.func41, Tryz.ntmps41
   go_wp2
   go_ret
   exact ⟨rfl, HL.out.2⟩
 rw [if_neg hbig]
 have hbig' : ¬ ((1048576 : Int) < (n : Int)) := by omega
 by_cases hneg : k < 0
 · rw [if_pos (Or.inl hneg)]
   go_enter Tryz.func41, Tryz.ntmps41
   go_wp2
   go_ret
   exact ⟨rfl, HL.out.2⟩
 by_cases hpos : 16 < k
 · rw [if_pos (Or.inr (Or.inl hpos))]
   go_enter Tryz.func41, Tryz.ntmps41
   go_wp2
   go_ret
   exact ⟨rfl, HL.out.2⟩
 by_cases hzn : z = true ∧ n = 0
 · rw [if_pos (Or.inr (Or.inr hzn))]
   obtain ⟨rfl, rfl⟩ := hzn
   go_enter Tryz.func41, Tryz.ntmps41
   go_wp2
   go_ret
   exact ⟨rfl, HL.out.2⟩
 rw [if_neg (by rintro (h | h | h); exact hneg h; exact hpos h; exact hzn h)]
 have hz2 : z = false ∨ (z = true ∧ ¬ n = 0) := by
   cases z
   · exact Or.inl rfl
   · exact Or.inr ⟨rfl, fun e => hzn ⟨rfl, e⟩⟩
 rcases hz2 with rfl | ⟨rfl, hn0⟩
 all_goals
   cases bA
   · cases bB
     all_goals
       go_enter Tryz.func41, Tryz.ntmps41
       go_wp2_with fail
       refine HA.out.mono ?_
       rintro e W2 ⟨rfl, hb2⟩
       have HB2 := Lib.hid hb2
       have l0 := (HL.out.1.later hb2).cell 0 (by simp)
       clear hb2
       go_wp2_with fail
       refine (HB.out _ HB2.out).mono ?_
       rintro e W3 ⟨rfl, hb3⟩
       have HB3 := Lib.hid hb3
       clear hb3
       go_wp2
       go_ret
       exact ⟨rfl, HL.out.2.trans ((HB2.out.trans (HB3.out.mono HB2.out.size)).mono HL.out.2.size)⟩
   · go_enter Tryz.func41, Tryz.ntmps41
     go_wp2_with fail
     refine HA.out.mono ?_
     rintro e W2 ⟨rfl, hb2⟩
     have HB2 := Lib.hid hb2
     clear hb2
     go_wp2
     go_ret
     exact ⟨rfl, HL.out.2.trans (HB2.out.mono HL.out.2.size)⟩
end

/- Package nodefile: how a node and a file are written: plain; rows with room. -/
section
set_option maxRecDepth 100000
open Go.RowKit Go.Shelf Go.Lib
def ndW (p : Pm) (z m : Bool) (i : Nat) (q : Nd) : List Bs := [itoa (if z then (i : Int) else (i : Int) + 1), p.tx q.x, p.tx q.y] ++ q.a.map p.tx ++ (if m then [itoa q.m] else [])
def ndsW (p : Pm) (z m : Bool) : Nat → List Nd → List (List Bs)
 | _, [] => []
 | i, q :: r => ndW p z m i q :: ndsW p z m (i + 1) r
theorem ndsW_snoc (p : Pm) (z m : Bool) : ∀ (l : List Nd) (i : Nat) (q : Nd), ndsW p z m i (l ++ [q]) = ndsW p z m i l ++ [ndW p z m (i + l.length) q] := by
 intro l
 induction l with
 | nil => intro i q; rfl
 | cons a r ih => intro i q; rw [List.cons_append, ndsW, ndsW, ih, List.length_cons, show i + 1 + r.length = i + (r.length + 1) by omega]; rfl
theorem ndsW_len (p : Pm) (z m : Bool) : ∀ (l : List Nd) (i : Nat), (ndsW p z m i l).length = l.length := by
 intro l
 induction l with
 | nil => intro i; rfl
 | cons a r ih => intro i; simp [ndsW, ih]
def flW (p : Pm) (f : Fd) : List (List Bs) := [itoa (f.ns.length : Nat), [50], itoa f.k, if f.m then [49] else [48]] :: ndsW p f.z f.m 0 f.ns
theorem makeS_ex (n : Nat) (hn : n ≤ 1000) : ∃ cs : Array Value, cs.size = n ∧ ∀ W : World, (Instr.makeSlice 54 (.int .i64 0) (.int .i64 (n : Int))).run Tryz.prog W = .ok (.slice (some ⟨W.heap.size, 0, none⟩) 0 n) (W.alloc (.cells cs 9)) := by
 obtain ⟨i0, hi0, hz0, hz1, hz2⟩ := info_parts (show (Tryz.prog.info? 9).map (fun i => (i.zero, i.size, i.bytes)) = some (some (.string ⟨#[]⟩), 1, 16) by kernel_rfl)
 refine ⟨madeCells (.string ⟨#[]⟩ : Value).cells n, size_madeCells _ _, fun W => ?_⟩
 have h := run_make (P := Tryz.prog) W 54 9 i0 _ Tryz.underlying54 hi0 hz0 .i64 .i64 0 (n : Int) (by omega) (by omega) (by rw [hz2]; omega) (by omega)
 rw [hz1, Nat.mul_one] at h
 exact h
theorem makeLL_ex (n : Nat) (hn : n ≤ 2000000) : ∃ cs : Array Value, cs.size = n ∧ ∀ W : World, (Instr.makeSlice 77 (.int .i64 0) (.int .i64 (n : Int))).run Tryz.prog W = .ok (.slice (some ⟨W.heap.size, 0, none⟩) 0 n) (W.alloc (.cells cs 54)) := by
 obtain ⟨i0, hi0, hz0, hz1, hz2⟩ := info_parts (show (Tryz.prog.info? 54).map (fun i => (i.zero, i.size, i.bytes)) = some (some (.slice none 0 0), 1, 24) by kernel_rfl)
 refine ⟨madeCells (.slice none 0 0 : Value).cells n, size_madeCells _ _, fun W => ?_⟩
 have h := run_make (P := Tryz.prog) W 77 54 i0 _ Tryz.underlying77 hi0 hz0 .i64 .i64 0 (n : Int) (by omega) (by omega) (by rw [hz2]; omega) (by omega)
 rw [hz1, Nat.mul_one] at h
 exact h
theorem own_room {W : World} {cs : Array Value} {n t : Nat} (h : cs.size = n) (hn : n ≤ 2000000) : (W.alloc (.cells cs t)).ownsRow W.heap.size t 1 (.slice (some ⟨W.heap.size, 0, none⟩) 0 n) 0 [] :=
 ⟨by simp, Or.inr ⟨W.heap.size, n, cs, rfl, Nat.le_refl _, heap_alloc_new W _, by omega, by unfold maxLen; omega, by omega, by simp⟩⟩
theorem bit_any (b : Bool) (w : World) : Calls Tryz.prog 43 #[.bool b] w fun e w' => e = .returned (sv (if b then [49] else [48])) ∧ w' = w := by
 cases b
 · go_enter Tryz.func43, Tryz.ntmps43
   go_wp2
   go_ret
   exact ⟨rfl, rfl⟩
 · go_enter Tryz.func43, Tryz.ntmps43
   go_wp2
   go_ret
   exact ⟨rfl, rfl⟩
theorem TextR.uniq {x : Nat} {l r : Bs} (h : TextR x l) (g : TextR x r) : l = r := by
 by_cases hx : Fin64 x
 · exact (h.same g hx).2 ⟨hx, rfl⟩
 · rcases h with ⟨_, rfl⟩ | ⟨h, _⟩
   · rcases g with ⟨_, rfl⟩ | ⟨g, _⟩
     · rfl
     · exact absurd g hx
   · exact absurd h hx
theorem text_is {p : Pm} (hp : p.Ok) (x : Nat) (lx : x < 18446744073709551616) (w : World) (hT : T8 w) : Calls Tryz.prog 89 #[.float .f64 x] w fun r w' => r = .returned (sv (p.tx x)) ∧ Below w.heap.size w w' := by
 obtain ⟨l, h1, h2⟩ := text_any x lx
 rw [TextR.uniq (hp.tx x lx) h1]
 exact h2 w hT
end

/- Package nodefile: wordsOf. -/
section
set_option maxRecDepth 100000
open Go.RowKit Go.Shelf Go.Lib
attribute [local go_sem] run_store_float
structure Wz (w W : World) (nv : Value) (z : Bool) (k : Nat) (m : Bool) (x y : Nat) (av : Value) (mk : Int) : Prop where
 f2 : CB W w.heap.size #[nv, .bool z, .int .i64 (k : Nat), .bool m] 29
 f5 : CB W (w.heap.size + 1) #[.float .f64 x, .float .f64 y, av, .int .i64 mk] 53
 bel : Below w.heap.size w W
theorem Wz.later {w W W' : World} {nv : Value} {z : Bool} {k : Nat} {m : Bool} {x y : Nat} {av : Value} {mk : Int} (h : Wz w W nv z k m x y av mk) (hb : Below W.heap.size W W') : Wz w W' nv z k m x y av mk := ⟨h.f2.later hb, h.f5.later hb, h.bel.trans (hb.mono h.bel.size)⟩
theorem Wz.grown {w W W' : World} {nv : Value} {z : Bool} {k : Nat} {m : Bool} {x y : Nat} {av : Value} {mk : Int} {row : Option Nat} (h : Wz w W nv z k m x y av mk) (hg : W.grownBy W' row) (hr : ∀ b, row = some b → w.heap.size + 2 ≤ b) : Wz w W' nv z k m x y av mk := by
 have cb : ∀ {b t : Nat} {cs : Array Value}, CB W b cs t → b < w.heap.size + 2 → CB W' b cs t := fun hc hb => by
   unfold CB
   rw [hg.block _ hc.lt (fun e => by have := hr _ e.symm; omega)]; exact hc
 exact ⟨cb h.f2 (by omega), cb h.f5 (by omega), h.bel.grown hg h.bel.size (fun b hb => by have := hr b hb; omega)⟩
theorem Wz.all {w W : World} {na : Option Addr} {n nc : Nat} {z : Bool} {k : Nat} {m : Bool} {x y : Nat} {av : Value} {mk : Int} (h : Wz w W (.slice na n nc) z k m x y av mk) : W.cell? ⟨w.heap.size, 0, none⟩ = some (.slice na n nc) ∧ W.cell? ⟨w.heap.size, 1, none⟩ = some (.bool z) ∧ W.cell? ⟨w.heap.size, 2, none⟩ = some (.int .i64 (k : Nat)) ∧ W.cell? ⟨w.heap.size, 3, none⟩ = some (.bool m) ∧ W.cell? ⟨w.heap.size + 1, 0, none⟩ = some (.float .f64 x) ∧ W.cell? ⟨w.heap.size + 1, 1, none⟩ = some (.float .f64 y) ∧ Wz w W (.slice na n nc) z k m x y av mk := by
 obtain ⟨k0, k1, k2, k3⟩ := h.f2.cells4
 obtain ⟨j0, j1, j2, j3⟩ := h.f5.cells4
 exact ⟨k0, k1, k2, k3, j0, j1, h⟩
theorem sr_size {W : World} {B j : Nat} {v : Value} {pre : List Bs} (h : Sr W B v pre) (hl : pre.length = 3 + j) : B < W.heap.size := by
 rcases h.2 with ⟨_, h2⟩ | ⟨g, cap, cur, rfl, h2, _⟩
 · omega
 · have := (World.ownsRow.lt h g rfl).2; omega
set_option maxHeartbeats 16000000 in
theorem wordsOf10_any {p : Pm} (hp : p.Ok) (v : Value) (ns : List Nt) (z : Bool) (k : Nat) (m : Bool) (i : Nat) (q : Nt) (w : World) (hv : Nv w v ns) (hi : ns[i]? = some q) (hk : k ≤ 16) (hi2 : i ≤ 2000000) (hql : q.1.a.length ≤ 16) (hT : T8 w) :
   Calls Tryz.prog 44 #[.agg #[v, .bool z, .int .i64 (k : Nat), .bool m], .int .i64 (i : Nat)] w fun e w' => (∃ rv, e = .returned rv ∧ Sr w' w.heap.size rv (ndW p z m i q.1)) ∧ Below w.heap.size w w' := by
 have HP := Lib.hid hp
 have HT8 := Lib.hid hT
 have hil : i < ns.length := (List.getElem?_eq_some_iff.1 hi).1
 have hqm := List.mem_of_getElem? hi
 have hwd := hv.wrd q hqm
 have hfs := hv.sub q hqm
 obtain ⟨na, nc, rfl, h1, h2, h3⟩ := hv.form
 obtain ⟨g, off, rfl, hg, hcell⟩ := h3.resolve_left (fun e => by rw [e] at hi; simp at hi)
 obtain ⟨p1, p2, p3, p4⟩ := hcell i q hi
 obtain ⟨⟨x, y, ls, mk⟩, av⟩ := q
 try dsimp only at p1 p2 p3 p4 hwd hfs hql ⊢
 obtain ⟨aa, ac, rfl, a1, a2, a3⟩ := hfs.form
 obtain ⟨N, hN⟩ : ∃ N, ns.length = N := ⟨_, rfl⟩
 obtain ⟨ql, hqle⟩ : ∃ ql, ls.length = ql := ⟨_, rfl⟩
 rw [hN] at h1 hil ⊢
 have HX := Lib.hid hwd.1
 have HY := Lib.hid hwd.2.1
 have HM := Lib.hid hwd.2.2
 have HFs := Lib.hid hfs
 rw [hqle] at p3
 obtain ⟨wd, hwdd⟩ : ∃ wd, Hid (wid k m = wd) := ⟨_, Lib.hid rfl⟩
 have hwd2 : wd ≤ 20 ∧ 3 ≤ wd := by rw [← hwdd.out]; unfold wid; split <;> omega
 obtain ⟨cs, hcs, hmk⟩ := makeS_ex wd (by omega)
 obtain ⟨nb, hnb⟩ : ∃ nb : Int, Hid ((if z then (i : Int) else (i : Int) + 1) = nb) := ⟨_, Lib.hid rfl⟩
 have HIn : Hid (InR nb) := Lib.hid (by rw [← hnb.out]; split <;> exact ⟨by omega, by omega⟩)
 have HWd : Hid (∀ W, Calls Tryz.prog 62 #[.agg #[.slice (some ⟨g, off, none⟩) N nc, .bool z, .int .i64 (k : Nat), .bool m]] W fun e w' => e = .returned (.int .i64 (wd : Nat)) ∧ w' = W.alloc (.cells #[.slice (some ⟨g, off, none⟩) N nc, .bool z, .int .i64 (k : Nat), .bool m] 29)) := Lib.hid fun W => by rw [← hwdd.out]; exact width_any _ z k m W hk
 have hi3 : (i : Int) < (N : Int) := by omega
 have hi4 : (0 : Int) ≤ (i : Int) := by omega
 have hi5 : (i : Int) ≤ 2000000 := by omega
 have hk' : (k : Int) ≤ 16 := by omega
 clear hv hcell h3 hp hT hwd hfs a1 a2 a3 hi hqm
 go_enter Tryz.func44, Tryz.ntmps44
 go_wp2_with fail
 refine (HWd.out _).mono ?_
 rintro e W0 ⟨rfl, rfl⟩
 go_wp2_with fail
 obtain ⟨W3, hW3⟩ : ∃ W3, (((w.alloc (.cells #[.slice (some ⟨g, off, none⟩) N nc, .bool z, .int .i64 (k : Nat), .bool m] 29)).alloc (.cells #[.float .f64 x, .float .f64 y, .slice aa ql ac, .int .i64 mk] 53)).alloc (.cells #[.slice (some ⟨g, off, none⟩) N nc, .bool z, .int .i64 (k : Nat), .bool m] 29)).alloc (.cells cs 9) = W3 := ⟨_, rfl⟩
 have hZ : Wz w W3 (.slice (some ⟨g, off, none⟩) N nc) z k m x y (.slice aa ql ac) mk := by
   rw [← hW3]
   have c1 := CB.new w #[.slice (some ⟨g, off, none⟩) N nc, .bool z, .int .i64 (k : Nat), .bool m] 29
   have c2 := CB.new (w.alloc (.cells #[.slice (some ⟨g, off, none⟩) N nc, .bool z, .int .i64 (k : Nat), .bool m] 29)) #[.float .f64 x, .float .f64 y, .slice aa ql ac, .int .i64 mk] 53
   have hz1 : Wz w ((w.alloc (.cells #[.slice (some ⟨g, off, none⟩) N nc, .bool z, .int .i64 (k : Nat), .bool m] 29)).alloc (.cells #[.float .f64 x, .float .f64 y, .slice aa ql ac, .int .i64 mk] 53)) (.slice (some ⟨g, off, none⟩) N nc) z k m x y (.slice aa ql ac) mk := ⟨c1.later ((Below.refl _ _).alloc (Nat.le_refl _) _), by rwa [World.size_alloc] at c2, ((Below.refl _ w).alloc (Nat.le_refl _) _).alloc (by simp) _⟩
   exact (hz1.later ((Below.refl _ _).alloc (Nat.le_refl _) _)).later ((Below.refl _ _).alloc (Nat.le_refl _) _)
 have hR : Sr W3.drew (w.heap.size + 3) (.slice (some ⟨w.heap.size + 1 + 1 + 1, 0, none⟩) 0 wd) [] := by
   rw [← hW3]
   have := own_room (W := ((w.alloc (.cells #[.slice (some ⟨g, off, none⟩) N nc, .bool z, .int .i64 (k : Nat), .bool m] 29)).alloc (.cells #[.float .f64 x, .float .f64 y, .slice aa ql ac, .int .i64 mk] 53)).alloc (.cells #[.slice (some ⟨g, off, none⟩) N nc, .bool z, .int .i64 (k : Nat), .bool m] 29)) (t := 9) hcs (by omega)
   simp only [World.size_alloc] at this
   exact this
 have hZ0 := hZ.later (Below.refl _ W3).drew
 try rw [hW3]
 obtain ⟨i0, hi0, hz0, hz1, hz2⟩ := info_parts (show (Tryz.prog.info? 9).map (fun i => (i.zero, i.size, i.bytes)) = some (some (.string ⟨#[]⟩), 1, 16) by kernel_rfl)
 clear hW3 hmk hcs p1 p2 p3 p4 hZ
 refine wp_region_held_drew (S := (fun W => W.cell? ⟨w.heap.size, 0, none⟩ = some (.slice (some ⟨g, off, none⟩) N nc) ∧ W.cell? ⟨w.heap.size, 1, none⟩ = some (.bool z) ∧ W.cell? ⟨w.heap.size, 2, none⟩ = some (.int .i64 (k : Nat)) ∧ W.cell? ⟨w.heap.size, 3, none⟩ = some (.bool m) ∧ W.cell? ⟨w.heap.size + 1, 0, none⟩ = some (.float .f64 x) ∧ W.cell? ⟨w.heap.size + 1, 1, none⟩ = some (.float .f64 y) ∧ Wz w W (.slice (some ⟨g, off, none⟩) N nc) z k m x y (.slice aa ql ac) mk)) (by kernel_rfl) hZ0.all (fun hS => ?_)
 refine takA (i := 0) (d := some 17) (v := .slice (some ⟨w.heap.size + 1 + 1 + 1, 0, none⟩) 0 wd) hS ?_
 simp only [AP]
 refine takA (i := 1) (d := some 18) (v := .agg #[.slice (some ⟨g, off, none⟩) N nc, .bool z, .int .i64 (k : Nat), .bool m]) hS ?_
 simp only [AP]
 refine takA (i := 2) (d := some 19) (v := .int .i64 (i : Nat)) hS ?_
 simp only [AP]
 refine takA (i := 5) (d := some 22) (v := .pointer (some ⟨w.heap.size + 1, 0, none⟩)) hS ?_
 simp only [AP]
 refine takA (i := 6) (d := some 23) (v := .pointer (some ⟨w.heap.size + 1, 0, none⟩)) hS ?_
 simp only [AP]
 refine takA (i := 7) (d := some 24) (v := .float .f64 x) hS ?_
 simp only [AP]
 refine takA (i := 9) (d := some 26) (v := .pointer (some ⟨w.heap.size + 1, 0, none⟩)) hS ?_
 simp only [AP]
 refine takA (i := 10) (d := some 27) (v := .pointer (some ⟨w.heap.size + 1, 1, none⟩)) hS ?_
 simp only [AP]
 refine takA (i := 11) (d := some 28) (v := .float .f64 y) hS ?_
 simp only [AP]
 refine calA 3 fun KF hK => ?_
 go_simp
 go_wp2_with fail
 refine (number_any (.slice (some ⟨g, off, none⟩) N nc) z (k : Nat) m (i : Nat) W3.drew (by omega) (by omega)).mono ?_
 rintro e W20 ⟨rfl, hw20⟩
 rw [hnb.out]
 have hbx : Below W3.drew.heap.size W3.drew W20 := by rw [hw20]; exact (Below.refl _ _).alloc (Nat.le_refl _) _
 clear hw20
 replace hR := hR.later hbx
 go_wp2_with fail
 refine hK.out _ _ ((hS.2.2.2.2.2.2.later hbx).all) ?_
 clear hS hbx
 intro hS
 clear hK KF
 try simp only [AP]
 refine calA 4 fun KF hK => ?_
 go_simp
 go_wp2_with fail
 refine (show_any nb HIn.out _ (HT8.out.later hS.2.2.2.2.2.2.bel)).mono ?_
 rintro e W21 ⟨rfl, hbx⟩
 replace hR := hR.later hbx
 go_wp2_with fail
 refine hK.out _ _ ((hS.2.2.2.2.2.2.later hbx).all) ?_
 clear hS hbx
 intro hS
 clear hK KF
 try simp only [AP]
 refine calA 8 fun KF hK => ?_
 go_simp
 go_wp2_with fail
 refine (text_is HP.out x HX.out _ (HT8.out.later hS.2.2.2.2.2.2.bel)).mono ?_
 rintro e W25 ⟨rfl, hbx⟩
 replace hR := hR.later hbx
 go_wp2_with fail
 refine hK.out _ _ ((hS.2.2.2.2.2.2.later hbx).all) ?_
 clear hS hbx
 intro hS
 clear hK KF
 try simp only [AP]
 refine calA 12 fun KF hK => ?_
 go_simp
 go_wp2_with fail
 refine (text_is HP.out y HY.out _ (HT8.out.later hS.2.2.2.2.2.2.bel)).mono ?_
 rintro e W29 ⟨rfl, hbx⟩
 replace hR := hR.later hbx
 go_wp2_with fail
 refine hK.out _ _ ((hS.2.2.2.2.2.2.later hbx).all) ?_
 clear hS hbx
 intro hS
 clear hK KF
 try simp only [AP]
 refine calA 13 fun KF hK => ?_
 go_simp
 have hbx : Below W29.heap.size W29 (W29.alloc (.cells #[sv (itoa nb), sv (p.tx x), sv (p.tx y)] 9)) := (Below.refl _ _).alloc (Nat.le_refl _) _
 have hR2 := World.ownsRow.alloc hR (.cells #[sv (itoa nb), sv (p.tx x), sv (p.tx y)] 9)
 go_wp2_with fail
 refine hK.out _ _ ((hS.2.2.2.2.2.2.later hbx).all) ?_
 clear hS hbx
 intro hS
 clear hK KF
 try simp only [AP]
 refine calA 14 fun KF hK => ?_
 rw [if_pos (by rfl)]
 refine wp_append_own _ _ _ rfl (w.heap.size + 3) 9 i0 _ 1 16 Tryz.underlying54 hi0 hz0 hz1 hz2 rfl (by omega) (.slice (some ⟨w.heap.size + 1 + 1 + 1, 0, none⟩) 0 wd) 0 [] rfl hR2 ⟨W29.heap.size, 0, none⟩ 3 3 [sv (itoa nb), sv (p.tx x), sv (p.tx y)] rfl rfl (World.news_of_block (cs := #[sv (itoa nb), sv (p.tx x), sv (p.tx y)]) (t := 9) (fr := (0, 0)) (heap_alloc_new W29 _)) (by simp [Value.oneCell']) (by unfold maxLen; omega) (by omega) (by have := hR.lt _ rfl; simp; omega) ?_
 intro v3 W31 hown hgrow
 have hz31 := hS.2.2.2.2.2.2.grown hgrow (by rintro b hb; cases hb; show w.heap.size + 2 ≤ w.heap.size + 1 + 1 + 1; omega)
 obtain ⟨va, vc, rfl⟩ := own_slice hown
 have hbx := True.intro
 refine hK.out _ _ hz31.all ?_
 clear hS hbx
 intro hS
 clear hK KF
 try simp only [AP]
 refine takA (i := 15) (d := some 6) (v := .slice va (0 + 3) vc) hS ?_
 simp only [AP]
 refine wpAnyH_done (by kernel_rfl) ?_ _
 have HZ := Lib.hid hS.2.2.2.2.2.2
 have HR : Hid (Sr W31 (w.heap.size + 3) (.slice va (0 + 3) vc) [itoa nb, p.tx x, p.tx y]) := Lib.hid hown
 have k52 : W31.cell? ⟨w.heap.size + 1, 2, none⟩ = some (.slice aa ql ac) := HZ.out.f5.cell 2 (by simp)
 have hql' : (ql : Int) ≤ 16 := by omega
 clear hS hown hgrow hR hR2 hZ0 hz31
 go_wp2_with fail
 clear k52
 go_loopw [6, 35] (fun s6 s35 wr => ∃ (j : Nat) (pre : List Bs), s35 = .int .i64 (j : Nat) ∧ j ≤ ql ∧ Hid (Wz w wr (.slice (some ⟨g, off, none⟩) N nc) z k m x y (.slice aa ql ac) mk ∧ Sr wr (w.heap.size + 3) s6 pre ∧ pre = [itoa nb, p.tx x, p.tx y] ++ (ls.take j).map p.tx)) (fun _ s35 _ => ql - (RowKit.intOf s35).toNat)
 case atStart => exact ⟨0, _, rfl, by omega, HZ.out, HR.out, by simp⟩
 case round =>
   obtain ⟨j, pre, rfl, hj, hI⟩ := hrel
   have hpl : Hid (pre.length = 3 + j) := Lib.hid (by rw [hI.out.2.2]; simp; omega)
   have HZr := Lib.hid hI.out.1
   have HRr := Lib.hid hI.out.2.1
   have HPr := Lib.hid hI.out.2.2
   clear hI
   by_cases hlt : j < ql
   · have hjl : j < ls.length := by rw [hqle]; exact hlt
     have hlt' : (j : Int) < (ql : Int) := by omega
     have hj0 : (0 : Int) ≤ (j : Int) := by omega
     obtain ⟨⟨a9, c9, e9, _, _, h9⟩, hw9⟩ := HFs.out
     obtain ⟨g2, off2, hga, hc9⟩ := h9.resolve_left (fun e => by rw [e] at hjl; simp at hjl)
     cases e9
     have HGA := Lib.hid hga
     clear hga
     have ix : ∀ w, (Instr.indexAt 51 (.slice aa ql ac) (.int .i64 (j : Nat))).run Tryz.prog w = .ok (.pointer (some ⟨g2, off2 + j, none⟩)) w := fun w => by rw [HGA.out]; go_simp
     obtain ⟨xv, hxv⟩ : ∃ xv, ls[j] = xv := ⟨_, rfl⟩
     have b1 : wr.cell? ⟨g2, off2 + j, none⟩ = some (.float .f64 xv) := by
       have h1 := hc9 j hjl
       rw [List.getD_eq_getElem?_getD, List.getElem?_eq_getElem hjl] at h1
       rw [← hxv]
       exact box_cell HZr.out.bel h1
     have HXv : Hid (xv < 18446744073709551616) := Lib.hid (by rw [← hxv]; exact hw9 _ (List.getElem_mem hjl))
     have HNx : Hid (pre ++ [p.tx xv] = [itoa nb, p.tx x, p.tx y] ++ (ls.take (j + 1)).map p.tx) := Lib.hid (by
       rw [HPr.out, List.take_succ_eq_append_getElem hjl, hxv, List.map_append, List.append_assoc]; rfl)
     clear hc9 h9 hw9 hxv
     go_wp2_with (first
       | (go_at_call 89; refine (text_is HP.out xv HXv.out _ (HT8.out.later HZr.out.bel)).mono ?_; rintro e W1 ⟨rfl, hb1⟩; have HZ1 := Lib.hid (HZr.out.later hb1); have HR1 := Lib.hid (HRr.out.later hb1); clear hb1)
       | (at_builtin; refine wpList_append_own _ rfl _ _ 54 rfl (w.heap.size + 3) 9 i0 (.string ⟨#[]⟩) 1 16 Tryz.underlying54 hi0 hz0 hz1 hz2 rfl (by decide) u6 pre.length (svs pre) rfl (World.ownsRow.alloc HR1.out _) ⟨W1.heap.size, 0, none⟩ 1 1 [sv (p.tx xv)] rfl rfl (cell_one_new _ _ _) (by simp [Value.oneCell']) (by unfold maxLen; have := hpl.out; omega) (by have := hpl.out; omega) (by have := HZ1.out.f5.lt; have := sr_size HR1.out hpl.out; simp; omega) ?_; intro v' W4 hown hgrow _; have HZ4 := Lib.hid ((HZ1.out.later ((Below.refl _ W1).alloc (Nat.le_refl _) _)).grown hgrow (fun b hb => by have := (World.ownsRow.lt HR1.out b hb).1; omega)); have HR4 : Hid (Sr W4 (w.heap.size + 3) v' (pre ++ [p.tx xv])) := Lib.hid (by unfold Sr; rw [List.length_append, svs, List.map_append]; exact hown); clear hown hgrow))
     go_roundw
     case rel =>
       refine ⟨_, _, _, _, _, _, _, _, _, _, _, _, ⟨j + 1, pre ++ [p.tx xv], ?_, by omega, HZ4.out, HR4.out, HNx.out⟩, rfl⟩
       go_num
     case measure => simp [RowKit.intOf]; omega
   · obtain rfl : j = ql := by omega
     rw [List.take_of_length_le (by omega)] at HPr
     have k23 := HZr.out.f2.cell 3 (by simp)
     have k53 := HZr.out.f5.cell 3 (by simp)
     cases m
     · have HW : Hid (ndW p z false i ⟨x, y, ls, mk⟩ = pre) := Lib.hid (by unfold ndW; rw [hnb.out, HPr.out]; simp)
       go_wp2
       go_ret
       exact ⟨⟨_, rfl, by rw [HW.out]; exact HRr.out.base (by omega)⟩, HZr.out.bel⟩
     · have HW : Hid (ndW p z true i ⟨x, y, ls, mk⟩ = pre ++ [itoa mk]) := Lib.hid (by unfold ndW; rw [hnb.out, HPr.out]; simp)
       go_wp2_with (first
         | (go_at_call 42; refine (show_any mk HM.out _ (HT8.out.later HZr.out.bel)).mono ?_; rintro e W1 ⟨rfl, hb1⟩; have HZ1 := Lib.hid (HZr.out.later hb1); have HR1 := Lib.hid (HRr.out.later hb1); clear hb1)
         | (at_builtin; refine wpList_append_own _ rfl _ _ 54 rfl (w.heap.size + 3) 9 i0 (.string ⟨#[]⟩) 1 16 Tryz.underlying54 hi0 hz0 hz1 hz2 rfl (by decide) u6 pre.length (svs pre) rfl (World.ownsRow.alloc HR1.out _) ⟨W1.heap.size, 0, none⟩ 1 1 [sv (itoa mk)] rfl rfl (cell_one_new _ _ _) (by simp [Value.oneCell']) (by unfold maxLen; have := hpl.out; omega) (by have := hpl.out; omega) (by have := HZ1.out.f5.lt; have := sr_size HR1.out hpl.out; simp; omega) ?_; intro v' W4 hown hgrow _; have HZ4 := Lib.hid ((HZ1.out.later ((Below.refl _ W1).alloc (Nat.le_refl _) _)).grown hgrow (fun b hb => by have := (World.ownsRow.lt HR1.out b hb).1; omega)); have HR4 : Hid (Sr W4 (w.heap.size + 3) v' (pre ++ [itoa mk])) := Lib.hid (by unfold Sr; rw [List.length_append, svs, List.map_append]; exact hown); clear hown hgrow))
       go_ret
       exact ⟨⟨_, rfl, by rw [HW.out]; exact HR4.out.base (by omega)⟩, HZ4.out.bel⟩
end

/- Package nodefile: Put, Write. -/
section
set_option maxRecDepth 100000
open Go.RowKit Go.Shelf Go.Lib
structure Pz (w W : World) (nv : Value) (z : Bool) (k : Nat) (m : Bool) : Prop where
 f1 : CB W w.heap.size #[nv, .bool z, .int .i64 (k : Nat), .bool m] 29
 bel : Below w.heap.size w W
theorem Pz.later {w W W' : World} {nv : Value} {z : Bool} {k : Nat} {m : Bool} (h : Pz w W nv z k m) (hb : Below W.heap.size W W') : Pz w W' nv z k m := ⟨h.f1.later hb, h.bel.trans (hb.mono h.bel.size)⟩
theorem Pz.grown {w W W' : World} {nv : Value} {z : Bool} {k : Nat} {m : Bool} {row : Option Nat} (h : Pz w W nv z k m) (hg : W.grownBy W' row) (hr : ∀ b, row = some b → w.heap.size < b) : Pz w W' nv z k m := by
 refine ⟨?_, h.bel.grown hg h.bel.size (fun b hb => by have := hr b hb; omega)⟩
 unfold CB
 rw [hg.block _ h.f1.lt (fun e => by have := hr _ e.symm; omega)]; exact h.f1
theorem Pz.all {w W : World} {na : Option Addr} {n nc : Nat} {z : Bool} {k : Nat} {m : Bool} (h : Pz w W (.slice na n nc) z k m) : W.cell? ⟨w.heap.size, 0, none⟩ = some (.slice na n nc) ∧ W.cell? ⟨w.heap.size, 1, none⟩ = some (.bool z) ∧ W.cell? ⟨w.heap.size, 2, none⟩ = some (.int .i64 (k : Nat)) ∧ W.cell? ⟨w.heap.size, 3, none⟩ = some (.bool m) ∧ Pz w W (.slice na n nc) z k m := by
 obtain ⟨k0, k1, k2, k3⟩ := h.f1.cells4
 exact ⟨k0, k1, k2, k3, h⟩
theorem Sr.keptL {W W' : World} {B : Nat} {v : Value} {ws : List Bs} {base size n : Nat} {v2 : Value} {xs : List Value} (h : Sr W B v ws) (h2 : W.ownsRow base 54 size v2 n xs) (hg : W.grownBy W' v2.ownBlock) : Sr W' B v ws := Sr.kept h h2 (by decide) hg
structure Orw (W : World) (B : Nat) (v : Value) (L : List Lv) : Prop where
 own : W.ownsRow B 54 1 v L.length (L.map (·.2))
 sub : ∀ q ∈ L, Sr W B q.2 q.1
theorem Orw.later {W W' : World} {B : Nat} {v : Value} {L : List Lv} (h : Orw W B v L) (hb : Below W.heap.size W W') : Orw W' B v L := ⟨own_later h.own hb, fun q hq => (h.sub q hq).later hb⟩
theorem Orw.base {W : World} {B B' : Nat} {v : Value} {L : List Lv} (h : Orw W B v L) (hb : B' ≤ B) : Orw W B' v L := ⟨own_base h.own hb, fun q hq => (h.sub q hq).base hb⟩
theorem Orw.grew {W W2 : World} {B : Nat} {v v' : Value} {L : List Lv} {q : Lv} {tmp : Obj} (h : Orw W B v L) (hq : Sr W B q.2 q.1) (hown : W2.ownsRow B 54 1 v' (L.length + 1) (L.map (·.2) ++ [q.2])) (hg : (W.alloc tmp).grownBy W2 v.ownBlock) : Orw W2 B v' (L ++ [q]) := by
 refine ⟨by rw [List.length_append, List.map_append]; exact hown, fun r hr => ?_⟩
 have hs : Sr W B r.2 r.1 := by
   rcases List.mem_append.1 hr with e | e
   · exact h.sub r e
   · rw [List.mem_singleton.1 e]; exact hq
 exact Sr.keptL (World.ownsRow.alloc hs tmp) (h.own.alloc tmp) hg
theorem Orw.ll {W : World} {B : Nat} {v : Value} {L : List Lv} (h : Orw W B v L) (hl : ∀ q ∈ L, ∀ x ∈ q.1, x.length ≤ 9223372036854775807) : Ll W v L := by
 refine ⟨?_, fun q hq => (h.sub q hq).sl (hl q hq)⟩
 have h0 := h.own
 rcases h.own.2 with ⟨h1, h2⟩ | ⟨g, cap, cur, rfl, _, h3, h4, h5, _⟩
 · have : L = [] := List.length_eq_zero_iff.1 h2
   subst this
   exact ⟨none, 0, h1, by simp, by omega, Or.inl rfl⟩
 · refine ⟨_, cap, rfl, h4, by unfold maxLen at h5; omega, Or.inr ⟨g, 0, rfl, (World.ownsRow.lt h0 g rfl).2, fun k q hk => ?_⟩⟩
   exact own_cellL h0 (by rw [List.getElem?_map, hk]; rfl)
def PutR (p : Pm) (w w' : World) (f : Fd) (e : Ending) : Prop := Below w.heap.size w w' ∧ ((wrongN p f ≠ 0 ∧ e = .returned (.tuple #[.slice none 0 0, .int .i64 (wrongN p f)])) ∨ (wrongN p f = 0 ∧ ∃ a c L, e = .returned (.tuple #[.slice a L.length c, .int .i64 0]) ∧ Orw w' w.heap.size (.slice a L.length c) L ∧ ls1 L = flW p f))
theorem wrong_zero {p : Pm} {f : Fd} (h : wrongN p f = 0) : f.ns.length ≤ 1048576 ∧ 0 ≤ f.k ∧ f.k ≤ 16 ∧ (f.z = true → f.ns.length ≠ 0) ∧ (∀ q ∈ f.ns, amiss f.k f.m q = false) ∧ ∀ q ∈ f.ns, p.pt q.x q.y = true := by
 unfold wrongN at h
 split at h
 · cases h
 split at h
 · cases h
 split at h
 · cases h
 split at h
 · cases h
 rename_i h1 h2 h3 h4
 refine ⟨by omega, by omega, by omega, fun hz hn => h2 (Or.inr (Or.inr ⟨hz, hn⟩)), fun q hq => ?_, fun q hq => ?_⟩
 · have : (f.ns.any (amiss f.k f.m)) = false := by simpa using h3
   rw [List.any_eq_false] at this
   simpa using this q hq
 · have : (f.ns.any fun q => !p.pt q.x q.y) = false := by simpa using h4
   rw [List.any_eq_false] at this
   simpa using this q hq
set_option maxHeartbeats 16000000 in
theorem put_any {p : Pm} (hp : p.Ok) (v : Value) (ns : List Nt) (z : Bool) (ki : Int) (m : Bool) (w : World) (hv : Nv w v ns) (hT : T8 w) :
   Calls Tryz.prog 25 #[.agg #[v, .bool z, .int .i64 ki, .bool m]] w fun e w' => PutR p w w' ⟨ndsO' ns, z, ki, m⟩ e := by
 have HP := Lib.hid hp
 have HT8 := Lib.hid hT
 have HV := Lib.hid hv
 obtain ⟨na, nc, rfl, h1, h2, _⟩ := hv.form
 obtain ⟨W1, hW1⟩ : ∃ W1, w.alloc (.cells #[.slice na ns.length nc, .bool z, .int .i64 ki, .bool m] 29) = W1 := ⟨_, rfl⟩
 have b1 : Below w.heap.size w W1 := by rw [← hW1]; exact (Below.refl _ w).alloc (Nat.le_refl _) _
 have cf : CB W1 w.heap.size #[.slice na ns.length nc, .bool z, .int .i64 ki, .bool m] 29 := by rw [← hW1]; exact CB.new w _ _
 have HW := Lib.hid (wrongOf_any hp _ ns z ki m W1 (hv.later b1))
 have HL : Hid (CB W1 w.heap.size #[.slice na ns.length nc, .bool z, .int .i64 ki, .bool m] 29 ∧ Below w.heap.size w W1) := Lib.hid ⟨cf, b1⟩
 obtain ⟨k0, k1, k2, k3⟩ := cf.cells4
 obtain ⟨n, hn⟩ : ∃ n, Hid (ns.length = n) := ⟨_, Lib.hid rfl⟩
 rw [hn.out] at HW HL hW1 k0 h1 ⊢
 obtain ⟨er, her⟩ : ∃ er, Hid (wrongN p ⟨ndsO' ns, z, ki, m⟩ = er) := ⟨_, Lib.hid rfl⟩
 rw [her.out] at HW
 unfold PutR
 rw [her.out]
 have hn63 : (n : Int) ≤ 9223372036854775807 := by omega
 clear hp hT hv cf b1
 go_enter Tryz.func25, Tryz.ntmps25
 go_wp2_with fail
 try rw [hW1]
 clear hW1 k0 k1 k2 k3
 refine HW.out.mono ?_
 rintro e W2 ⟨rfl, hb2⟩
 by_cases h0 : er = 0
 · subst h0
   obtain ⟨w1, w2, w3, w4, w5, w6⟩ := wrong_zero her.out
   try dsimp only at w1 w2 w3 w4 w5 w6
   obtain ⟨k, rfl⟩ : ∃ k : Nat, ki = (k : Nat) := ⟨ki.toNat, by omega⟩
   have hnl : n ≤ 1048576 := by rw [← hn.out]; simpa [ndsO'] using w1
   have HQl : Hid (∀ q ∈ ns, q.1.a.length = k) := Lib.hid (fun q hq => by
     have := w5 q.1 (List.mem_map.2 ⟨q, hq, rfl⟩)
     unfold amiss at this
     simp at this
     omega)
   have hZ2 : Pz w W2 (.slice na n nc) z k m := ⟨HL.out.1.later hb2, HL.out.2.trans (hb2.mono HL.out.2.size)⟩
   have hw2 : w.heap.size < W2.heap.size := hZ2.f1.lt
   obtain ⟨k0, k1, k2, k3⟩ := hZ2.f1.cells4
   obtain ⟨cs, hcs, hmk⟩ := makeLL_ex (n + 1) (by omega)
   have hmk' : ∀ W : World, (Instr.makeSlice 77 (.int .i64 0) (.int .i64 (1 + (n : Int)))).run Tryz.prog W = .ok (.slice (some ⟨W.heap.size, 0, none⟩) 0 (n + 1)) (W.alloc (.cells cs 54)) := fun W => by
     have := hmk W
     rwa [show ((n + 1 : Nat) : Int) = 1 + (n : Int) by omega] at this
   obtain ⟨bm, hbm⟩ : ∃ bm : Bs, Hid ((if m then [49] else [48]) = bm) := ⟨_, Lib.hid rfl⟩
   have HBit : Hid (∀ W, Calls Tryz.prog 43 #[.bool m] W fun e w' => e = .returned (sv bm) ∧ w' = W) := Lib.hid fun W => by rw [← hbm.out]; exact bit_any m W
   have hk16 : (k : Int) ≤ 16 := by omega
   have hn20 : (n : Int) ≤ 1048576 := by omega
   have HFl := Lib.hid her.out
   clear w1 w2 w3 w4 w5 w6 hb2 HW HL hmk
   go_wp2_with fail
   obtain ⟨W3, hW3⟩ : ∃ W3, W2.alloc (.cells cs 54) = W3 := ⟨_, rfl⟩
   have hZ0 : Pz w W3.drew (.slice na n nc) z k m := by
     rw [← hW3]; exact (hZ2.later ((Below.refl _ _).alloc (Nat.le_refl _) _)).later (Below.refl _ _).drew
   have hR : W3.drew.ownsRow W2.heap.size 54 1 (.slice (some ⟨W2.heap.size, 0, none⟩) 0 (n + 1)) 0 [] := by rw [← hW3]; exact own_room hcs (by omega)
   try rw [hW3]
   obtain ⟨i0, hi0, hz0, hz1, hz2⟩ := info_parts (show (Tryz.prog.info? 54).map (fun i => (i.zero, i.size, i.bytes)) = some (some (.slice none 0 0), 1, 24) by kernel_rfl)
   clear hW3 hmk' hcs hZ2 k0 k1 k2 k3
   refine wp_region_held_drew (S := (fun W => W.cell? ⟨w.heap.size, 0, none⟩ = some (.slice na n nc) ∧ W.cell? ⟨w.heap.size, 1, none⟩ = some (.bool z) ∧ W.cell? ⟨w.heap.size, 2, none⟩ = some (.int .i64 (k : Nat)) ∧ W.cell? ⟨w.heap.size, 3, none⟩ = some (.bool m) ∧ Pz w W (.slice na n nc) z k m)) (by kernel_rfl) hZ0.all (fun hS => ?_)
   refine takA (i := 0) (d := some 17) (v := .slice (some ⟨W2.heap.size, 0, none⟩) 0 (n + 1)) hS ?_
   simp only [AP]
   refine takA (i := 1) (d := some 18) (v := .pointer (some ⟨w.heap.size, 0, none⟩)) hS ?_
   simp only [AP]
   refine takA (i := 2) (d := some 19) (v := .slice na n nc) hS ?_
   simp only [AP]
   refine takA (i := 3) (d := some 20) (v := .int .i64 (n : Nat)) hS ?_
   simp only [AP]
   refine takA (i := 5) (d := some 22) (v := .pointer (some ⟨w.heap.size, 2, none⟩)) hS ?_
   simp only [AP]
   refine takA (i := 6) (d := some 23) (v := .int .i64 (k : Nat)) hS ?_
   simp only [AP]
   refine takA (i := 8) (d := some 25) (v := .pointer (some ⟨w.heap.size, 3, none⟩)) hS ?_
   simp only [AP]
   refine takA (i := 9) (d := some 26) (v := .bool m) hS ?_
   simp only [AP]
   refine calA 4 fun KF hK => ?_
   go_simp
   go_wp2_with fail
   refine (show_any (n : Nat) ⟨by omega, by omega⟩ _ (HT8.out.later hS.2.2.2.2.bel)).mono ?_
   rintro e W21 ⟨rfl, hbx⟩
   replace hR := own_later hR hbx
   go_wp2_with fail
   refine hK.out _ _ ((hS.2.2.2.2.later hbx).all) ?_
   clear hS hbx
   intro hS
   clear hK KF
   try simp only [AP]
   refine calA 7 fun KF hK => ?_
   go_simp
   go_wp2_with fail
   refine (show_any (k : Nat) ⟨by omega, by omega⟩ _ (HT8.out.later hS.2.2.2.2.bel)).mono ?_
   rintro e W24 ⟨rfl, hbx⟩
   replace hR := own_later hR hbx
   go_wp2_with fail
   refine hK.out _ _ ((hS.2.2.2.2.later hbx).all) ?_
   clear hS hbx
   intro hS
   clear hK KF
   try simp only [AP]
   refine calA 10 fun KF hK => ?_
   go_simp
   go_wp2_with fail
   refine (HBit.out _).mono ?_
   rintro e W27 ⟨rfl, hw27⟩
   subst hw27
   have hbx : Below W27.heap.size W27 W27 := Below.refl _ _
   go_wp2_with fail
   refine hK.out _ _ ((hS.2.2.2.2.later hbx).all) ?_
   clear hS hbx
   intro hS
   clear hK KF
   try simp only [AP]
   refine calA 11 fun KF hK => ?_
   go_simp
   have hw27 : Hid (W2.heap.size < W27.heap.size) := Lib.hid (World.ownsRow.lt hR W2.heap.size rfl).2
   have hbx : Below W27.heap.size W27 (W27.alloc (.cells #[sv (itoa (n : Nat)), .string ⟨#[50]⟩, sv (itoa (k : Nat)), sv bm] 9)) := (Below.refl _ _).alloc (Nat.le_refl _) _
   replace hR := own_later hR hbx
   have hF : Sr (W27.alloc (.cells #[sv (itoa (n : Nat)), .string ⟨#[50]⟩, sv (itoa (k : Nat)), sv bm] 9)) W27.heap.size (.slice (some ⟨W27.heap.size, 0, none⟩) 4 4) [itoa (n : Nat), [50], itoa (k : Nat), bm] := ⟨rfl, Or.inr ⟨W27.heap.size, 4, _, rfl, Nat.le_refl _, heap_alloc_new W27 _, by simp, by unfold maxLen; omega, rfl, rfl⟩⟩
   go_wp2_with fail
   refine hK.out _ _ ((hS.2.2.2.2.later hbx).all) ?_
   clear hS hbx
   intro hS
   clear hK KF
   try simp only [AP]
   refine calA 12 fun KF hK => ?_
   go_simp
   obtain ⟨W28, hW28⟩ : ∃ W28, W27.alloc (.cells #[sv (itoa (n : Nat)), .string ⟨#[50]⟩, sv (itoa (k : Nat)), sv bm] 9) = W28 := ⟨_, rfl⟩
   have hz28 : Hid (W28.heap.size = W27.heap.size + 1) := Lib.hid (by rw [← hW28]; simp)
   rw [hW28] at hR hF hS ⊢
   clear hW28
   have hbx : Below W28.heap.size W28 (W28.alloc (.cells #[.slice (some ⟨W27.heap.size, 0, none⟩) 4 4] 54)) := (Below.refl _ _).alloc (Nat.le_refl _) _
   have hR2 := World.ownsRow.alloc hR (.cells #[.slice (some ⟨W27.heap.size, 0, none⟩) 4 4] 54)
   go_wp2_with fail
   refine hK.out _ _ ((hS.2.2.2.2.later hbx).all) ?_
   clear hS hbx
   intro hS
   clear hK KF
   try simp only [AP]
   refine calA 13 fun KF hK => ?_
   rw [if_pos (by rfl)]
   refine wp_append_own _ _ _ rfl W2.heap.size 54 i0 _ 1 24 Tryz.underlying77 hi0 hz0 hz1 hz2 rfl (by omega) (.slice (some ⟨W2.heap.size, 0, none⟩) 0 (n + 1)) 0 [] rfl hR2 ⟨W27.heap.size + 1, 0, none⟩ 1 1 [.slice (some ⟨W27.heap.size, 0, none⟩) 4 4] rfl rfl (by have hnw := World.news_of_block (cs := #[.slice (some ⟨W27.heap.size, 0, none⟩) 4 4]) (t := 54) (fr := (0, 0)) (heap_alloc_new W28 (.cells #[.slice (some ⟨W27.heap.size, 0, none⟩) 4 4] 54)); rw [hz28.out] at hnw; exact hnw) (by simp [Value.oneCell']) (by unfold maxLen; omega) (by omega) (by have : W2.heap.size < W28.heap.size := (World.ownsRow.lt hR W2.heap.size rfl).2; simp; omega) ?_
   intro v3 W31 hown hgrow
   have hz31 := hS.2.2.2.2.grown hgrow (by rintro b hb; cases hb; exact hw2)
   have hF31 := Sr.keptL (Sr.later hF ((Below.refl _ W28).alloc (Nat.le_refl _) _)) hR2 hgrow
   obtain ⟨va, vc, rfl⟩ := own_slice hown
   have hbx := True.intro
   refine hK.out _ _ hz31.all ?_
   clear hS hbx
   intro hS
   clear hK KF
   try simp only [AP]
   refine takA (i := 14) (d := some 5) (v := .slice va (0 + 1) vc) hS ?_
   simp only [AP]
   refine wpAnyH_done (by kernel_rfl) ?_ _
   have HZ := Lib.hid hS.2.2.2.2
   have HO : Hid (Orw W31 W2.heap.size (.slice va (0 + 1) vc) [([itoa (n : Nat), [50], itoa (k : Nat), bm], .slice (some ⟨W27.heap.size, 0, none⟩) 4 4)]) := Lib.hid ⟨hown, fun q hq => by
     rw [List.mem_singleton.1 hq]; exact hF31.base (Nat.le_of_lt hw27.out)⟩
   have hw2' := Lib.hid hw2
   have k0 := HZ.out.f1.cell 0 (by simp)
   clear hS hown hgrow hR hR2 hF hF31 hz31 hZ0 hw27 hz28
   go_wp2_with fail
   clear k0
   go_loopw [5, 34] (fun s5 s34 wr => ∃ (j : Nat) (L : List Lv), s34 = .int .i64 (j : Nat) ∧ j ≤ n ∧ Hid (Pz w wr (.slice na n nc) z k m ∧ Orw wr W2.heap.size s5 L ∧ ls1 L = [itoa (n : Nat), [50], itoa (k : Nat), bm] :: ndsW p z m 0 ((ndsO' ns).take j) ∧ L.length = j + 1)) (fun _ s34 _ => n - (RowKit.intOf s34).toNat)
   case atStart => exact ⟨0, _, rfl, by omega, HZ.out, HO.out, by simp [ls1, ndsW], rfl⟩
   case round =>
     obtain ⟨j, L, rfl, hj, hI⟩ := hrel
     have HZr := Lib.hid hI.out.1
     have HOr := Lib.hid hI.out.2.1
     have HLr := Lib.hid hI.out.2.2.1
     have HLn := Lib.hid hI.out.2.2.2
     clear hI
     by_cases hlt : j < n
     · have hlt' : (j : Int) < (n : Int) := by omega
       have hjl : j < ns.length := by rw [hn.out]; exact hlt
       obtain ⟨q, hq⟩ : ∃ q, Hid (ns[j]? = some q) := ⟨_, Lib.hid (List.getElem?_eq_getElem hjl)⟩
       have HWo : Hid (Calls Tryz.prog 44 #[.agg #[.slice na n nc, .bool z, .int .i64 (k : Nat), .bool m], .int .i64 (j : Nat)] wr fun e w' => (∃ rv, e = .returned rv ∧ Sr w' wr.heap.size rv (ndW p z m j q.1)) ∧ Below wr.heap.size wr w') := Lib.hid (by
         have hv' := HV.out.later HZr.out.bel
         rw [hn.out] at hv'
         exact wordsOf10_any HP.out _ ns z k m j q wr hv' hq.out (by omega) (by omega) (by rw [HQl.out q (List.mem_of_getElem? hq.out)]; omega) (HT8.out.later HZr.out.bel))
       obtain ⟨k0, k1, k2, k3⟩ := HZr.out.f1.cells4
       have HNx : Hid ([itoa (n : Nat), [50], itoa (k : Nat), bm] :: ndsW p z m 0 ((ndsO' ns).take (j + 1)) = ([itoa (n : Nat), [50], itoa (k : Nat), bm] :: ndsW p z m 0 ((ndsO' ns).take j)) ++ [ndW p z m j q.1]) := Lib.hid (by
         have hjo : j < (ndsO' ns).length := by simpa [ndsO'] using hjl
         have e1 : (ndsO' ns)[j] = q.1 := by
           have h9 : (ndsO' ns)[j]? = some q.1 := by unfold ndsO'; rw [List.getElem?_map, hq.out]; rfl
           exact (List.getElem?_eq_some_iff.1 h9).2
         rw [List.take_succ_eq_append_getElem hjo, ndsW_snoc, e1, List.length_take, Nat.zero_add, Nat.min_eq_left (Nat.le_of_lt hjo)]
         rfl)
       have hwr : Hid (W2.heap.size < wr.heap.size) := Lib.hid (by
         rcases HOr.out.own.2 with ⟨_, h2⟩ | ⟨g, cap, cur, h1, h2, _⟩
         · have := HLn.out; omega
         · have h3 := (World.ownsRow.lt HOr.out.own g (by rw [h1]; rfl)).2; omega)
       go_wp2_with (first
         | (go_at_call 44; refine HWo.out.mono ?_; rintro e W4 ⟨⟨rv, rfl, hrv⟩, hb4⟩; obtain ⟨ra, rc, rfl⟩ := own_slice hrv; have HZ4 := Lib.hid (HZr.out.later hb4); have HO4 := Lib.hid (HOr.out.later hb4); have HRv := Lib.hid (hrv.base (Nat.le_of_lt hwr.out)); have hs4 : Hid (W2.heap.size < W4.heap.size) := Lib.hid (Nat.lt_of_lt_of_le hwr.out hb4.size); clear hrv hb4)
         | (at_builtin; refine wpList_append_own _ rfl _ _ 77 rfl W2.heap.size 54 i0 (.slice none 0 0) 1 24 Tryz.underlying77 hi0 hz0 hz1 hz2 rfl (by decide) u5 L.length (L.map (·.2)) rfl (World.ownsRow.alloc HO4.out.own _) ⟨W4.heap.size, 0, none⟩ 1 1 [.slice ra (ndW p z m j q.1).length rc] rfl rfl (World.news_of_block (cs := #[.slice ra (ndW p z m j q.1).length rc]) (t := 54) (fr := (0, 0)) (heap_alloc_new W4 _)) (by simp [Value.oneCell']) (by unfold maxLen; have := HLn.out; omega) (by have := HLn.out; omega) (by have := hs4.out; simp; omega) ?_; intro v' W5 hown hgrow _; have HZ5 := Lib.hid ((HZ4.out.later ((Below.refl _ W4).alloc (Nat.le_refl _) _)).grown hgrow (fun b hb => by have := (World.ownsRow.lt HO4.out.own b hb).1; have := hw2'.out; omega)); have HO5 := Lib.hid (HO4.out.grew (q := (ndW p z m j q.1, .slice ra (ndW p z m j q.1).length rc)) HRv.out hown hgrow); clear hown hgrow))
       go_roundw
       case rel =>
         first
           | exact ⟨j + 1, L ++ [(ndW p z m j q.1, .slice ra (ndW p z m j q.1).length rc)], by go_num, by omega, HZ5.out, HO5.out, by rw [HNx.out, ← HLr.out]; simp [ls1], by rw [List.length_append, HLn.out]; rfl⟩
           | (refine ⟨_, _, _, _, _, _, _, _, _, _, _, _, ⟨j + 1, L ++ [(ndW p z m j q.1, .slice ra (ndW p z m j q.1).length rc)], ?_, by omega, HZ5.out, HO5.out, by rw [HNx.out, ← HLr.out]; simp [ls1], by rw [List.length_append, HLn.out]; rfl⟩, rfl⟩; go_num)
       case measure => simp [RowKit.intOf]; omega
     · obtain rfl : j = n := by omega
       have HFin : Hid (ls1 L = flW p ⟨ndsO' ns, z, (k : Nat), m⟩) := Lib.hid (by
         rw [HLr.out, List.take_of_length_le (by simp [ndsO', hn.out])]
         unfold flW
         rw [show (⟨ndsO' ns, z, (k : Nat), m⟩ : Fd).ns.length = j by simp [ndsO', hn.out], ← hbm.out])
       obtain ⟨la, lc, hu5⟩ : ∃ la lc, Hid (u5 = .slice la L.length lc) := by
         obtain ⟨la, lc, e⟩ := own_slice HOr.out.own
         exact ⟨la, lc, Lib.hid e⟩
       go_wp2
       go_ret2
       exact ⟨HZr.out.bel, la, lc, L, by rw [← hu5.out]; rfl, by rw [← hu5.out]; exact HOr.out.base (Nat.le_of_lt hw2'.out), HFin.out⟩
 · have h0' : (er == 0) = false := by simpa using h0
   have HB := Lib.hid (HL.out.2.trans (hb2.mono HL.out.2.size))
   clear hb2 HW
   go_wp2
   go_ret2
   exact ⟨HB.out, Or.inl ⟨h0, rfl⟩⟩
end

/- Package nodefile: Write. -/
section
set_option maxRecDepth 100000
open Go.RowKit Go.Shelf Go.Lib
theorem itoa_short {n : Int} (h : InR n) : (itoa n).length ≤ 43 := by
 have := itoa_length_le n h.1 h.2
 omega
theorem tx_short {p : Pm} (hp : p.Ok) {x : Nat} (lx : x < 18446744073709551616) : (p.tx x).length ≤ 43 := by
 by_cases hx : Fin64 x
 · obtain ⟨n, e, _, _, h⟩ := (hp.tx x lx).tell hx
   exact h
 · rcases hp.tx x lx with ⟨_, h⟩ | ⟨h, _⟩
   · rw [h]; simp
   · exact absurd h hx
def wdA (q : Nd) : Prop := wdN q ∧ ∀ b ∈ q.a, b < 18446744073709551616
theorem ndW_short {p : Pm} (hp : p.Ok) {z m : Bool} {i : Nat} {q : Nd} (hq : wdA q) (hi : i ≤ 2000000) : ∀ x ∈ ndW p z m i q, x.length ≤ 43 := by
 intro x hx
 unfold ndW at hx
 simp only [List.cons_append, List.nil_append, List.mem_cons, List.mem_append, List.mem_map] at hx
 rcases hx with rfl | rfl | rfl | ⟨b, hb, rfl⟩ | hx
 · exact itoa_short (by split <;> exact ⟨by omega, by omega⟩)
 · exact tx_short hp hq.1.1
 · exact tx_short hp hq.1.2.1
 · exact tx_short hp (hq.2 b hb)
 · split at hx
   · rw [List.mem_singleton.1 hx]; exact itoa_short hq.1.2.2
   · simp at hx
theorem ndsW_at (p : Pm) (z m : Bool) : ∀ (l : List Nd) (i : Nat) (ws : List Bs), ws ∈ ndsW p z m i l → ∃ j q, j < l.length ∧ q ∈ l ∧ ws = ndW p z m (i + j) q := by
 intro l
 induction l with
 | nil => intro i ws h; simp [ndsW] at h
 | cons a r ih =>
   intro i ws h
   rw [ndsW] at h
   rcases List.mem_cons.1 h with rfl | h
   · exact ⟨0, a, by simp, by simp, by simp⟩
   · obtain ⟨j, q, h1, h2, h3⟩ := ih (i + 1) ws h
     exact ⟨j + 1, q, by simp; omega, by simp [h2], by rw [h3, show i + 1 + j = i + (j + 1) by omega]⟩
theorem flW_short {p : Pm} (hp : p.Ok) {f : Fd} (hq : ∀ q ∈ f.ns, wdA q) (hn : f.ns.length ≤ 1048576) (hk : InR f.k) : ∀ ws ∈ flW p f, ∀ x ∈ ws, x.length ≤ 43 := by
 intro ws hws x hx
 unfold flW at hws
 rcases List.mem_cons.1 hws with rfl | h
 · simp only [List.mem_cons, List.not_mem_nil, or_false] at hx
   rcases hx with rfl | rfl | rfl | rfl
   · exact itoa_short ⟨by omega, by omega⟩
   · simp
   · exact itoa_short hk
   · split <;> simp
 · obtain ⟨j, q, h1, h2, rfl⟩ := ndsW_at p _ _ _ _ _ h
   exact ndW_short hp (hq q h2) (by omega) x hx
theorem ndW_len (p : Pm) (z m : Bool) (i : Nat) (q : Nd) : (ndW p z m i q).length ≤ 4 + q.a.length := by
 unfold ndW
 simp
 split <;> simp <;> omega
def wrN (p : Pm) (f : Fd) : Bs × Int := if wrongN p f = 0 then ((wrV (flW p f)).1, ((wrV (flW p f)).2 : Nat)) else ([], wrongN p f)
theorem Nv.wa {W : World} {v : Value} {ns : List Nt} (h : Nv W v ns) : ∀ q ∈ ndsO' ns, wdA q := fun q hq => by
 obtain ⟨r, hr, rfl⟩ := List.mem_map.1 hq
 exact ⟨h.wrd r hr, (h.sub r hr).word⟩
set_option maxHeartbeats 4000000 in
theorem writeN_any {p : Pm} (hp : p.Ok) (v : Value) (ns : List Nt) (z : Bool) (k : Int) (m : Bool) (w : World) (hv : Nv w v ns) (hn : ns.length ≤ 200000) (hT : T8 w) :
   Calls Tryz.prog 14 #[.agg #[v, .bool z, .int .i64 k, .bool m]] w fun e w' => e = .returned (.tuple #[sv (wrN p ⟨ndsO' ns, z, k, m⟩).1, .int .i64 (wrN p ⟨ndsO' ns, z, k, m⟩).2]) ∧ Below w.heap.size w w' := by
 have HP := Lib.hid hp
 have HWa := Lib.hid hv.wa
 have HNl : Hid ((ndsO' ns).length ≤ 200000) := Lib.hid (by simpa [ndsO'] using hn)
 obtain ⟨na, nc, rfl, h1, h2, _⟩ := hv.form
 obtain ⟨W1, hW1⟩ : ∃ W1, w.alloc (.cells #[.slice na ns.length nc, .bool z, .int .i64 k, .bool m] 29) = W1 := ⟨_, rfl⟩
 have b1 : Below w.heap.size w W1 := by rw [← hW1]; exact (Below.refl _ w).alloc (Nat.le_refl _) _
 have cf : CB W1 w.heap.size #[.slice na ns.length nc, .bool z, .int .i64 k, .bool m] 29 := by rw [← hW1]; exact CB.new w _ _
 have HPu := Lib.hid (put_any hp _ ns z k m W1 (hv.later b1) (hT.later b1))
 have HB := Lib.hid b1
 obtain ⟨k0, k1, k2, k3⟩ := cf.cells4
 obtain ⟨f, hf⟩ : ∃ f, Hid ((⟨ndsO' ns, z, k, m⟩ : Fd) = f) := ⟨_, Lib.hid rfl⟩
 rw [hf.out] at HPu
 rw [hf.out]
 have HWa' : Hid (∀ q ∈ f.ns, wdA q) := Lib.hid (by rw [← hf.out]; exact HWa.out)
 have HNl' : Hid (f.ns.length ≤ 200000) := Lib.hid (by rw [← hf.out]; exact HNl.out)
 clear hp hv hT cf b1 HWa HNl
 unfold PutR at HPu
 go_enter Tryz.func14, Tryz.ntmps14
 go_wp2_with fail
 try rw [hW1]
 clear hW1 k0 k1 k2 k3
 refine HPu.out.mono ?_
 rintro e W2 ⟨hb2, ⟨h0, rfl⟩ | ⟨h0, a, c, L, rfl, hO, hL⟩⟩
 · have HR : Hid (wrN p f = ([], wrongN p f)) := Lib.hid (by unfold wrN; rw [if_neg h0])
   have HB2 := Lib.hid (HB.out.trans (hb2.mono HB.out.size))
   obtain ⟨er, her⟩ : ∃ er, wrongN p f = er := ⟨_, rfl⟩
   rw [her] at h0 HR ⊢
   have h0' : (er == 0) = false := by simpa using h0
   clear hb2
   go_wp2
   go_ret2
   exact ⟨by rw [HR.out]; rfl, HB2.out⟩
 · have HR : Hid (wrN p f = ((wrV (flW p f)).1, (((wrV (flW p f)).2 : Nat) : Int))) := Lib.hid (by unfold wrN; rw [if_pos h0])
   obtain ⟨w1, w2, w3, w4, w5, w6⟩ := wrong_zero h0
   have hsh := flW_short HP.out HWa'.out w1 ⟨by omega, by omega⟩
   have hll : Ll W2 (.slice a L.length c) L := hO.ll (fun q hq x hx => by
     have := hsh q.1 (by rw [← hL]; exact List.mem_map.2 ⟨q, hq, rfl⟩) x hx
     omega)
   have hmod : Mod L := by
     refine ⟨?_, fun q hq => ?_⟩
     · have : L.length = (flW p f).length := by rw [← hL]; simp [ls1]
       rw [this]
       unfold flW
       rw [List.length_cons, ndsW_len]
       have := HNl'.out
       omega
     · have hm : q.1 ∈ flW p f := by rw [← hL]; exact List.mem_map.2 ⟨q, hq, rfl⟩
       unfold flW at hm
       rcases List.mem_cons.1 hm with e | e
       · rw [e]; simp
       · obtain ⟨j, r, _, hr, e⟩ := ndsW_at p _ _ _ _ _ e
         rw [e]
         have h9 := ndW_len p f.z f.m (0 + j) r
         have h8 := w5 r hr
         unfold amiss at h8
         simp at h8
         omega
   have HWr : Hid (Calls Tryz.prog 26 #[.slice a L.length c] W2 fun e w' => e = .returned (.tuple #[sv (wrV (flW p f)).1, .int .i64 ((wrV (flW p f)).2 : Nat)]) ∧ Below W2.heap.size W2 w') := Lib.hid (by
     have := write_any _ L W2 hll hmod
     rwa [hL] at this)
   have HB2 := Lib.hid (HB.out.trans (hb2.mono HB.out.size))
   obtain ⟨tx, htx⟩ : ∃ tx, (wrV (flW p f)).1 = tx := ⟨_, rfl⟩
   obtain ⟨er, her⟩ : ∃ er, (wrV (flW p f)).2 = er := ⟨_, rfl⟩
   rw [htx, her] at HWr HR
   obtain ⟨n, hnn⟩ : ∃ n, L.length = n := ⟨_, rfl⟩
   rw [hnn] at HWr ⊢
   clear hb2 hll hmod hsh w1 w2 w3 w4 w5 w6 hO hL htx her
   go_wp2_with fail
   refine HWr.out.mono ?_
   rintro e W3 ⟨rfl, hb3⟩
   have HB3 := Lib.hid (HB2.out.trans (hb3.mono HB2.out.size))
   clear hb3
   go_wp2
   go_ret2
   exact ⟨by rw [HR.out]; rfl, HB3.out⟩
end

/- The laws of layer 10: files held against each other. -/
section
set_option maxRecDepth 100000
open Go.RowKit Go.Shelf Go.Lib
def FE (x y : Nat) : Prop := FloatKind.f64.format.order x y = some .eq
theorem FE.of {x y : Nat} (hx : Fin64 x) (hy : Fin64 y) (h : fval x = fval y) : FE x y := by
 unfold FE
 rw [order_val hx hy, if_neg (by rw [h]; exact Rat.lt_irrefl), if_pos h]
def FEs (a b : List Nat) : Prop := a.length = b.length ∧ ∀ i, i < a.length → FE (a.getD i 0) (b.getD i 0)
def SameN (a b : Nd) : Prop := FE a.x b.x ∧ FE a.y b.y ∧ a.m = b.m ∧ FEs a.a b.a
def nv4 (q : Nd) (av : Value) : Value := .agg #[.float .f64 q.x, .float .f64 q.y, av, .int .i64 q.m]
set_option maxHeartbeats 4000000 in
theorem sameNode_any (q r : Nd) (av bv : Value) (w : World) (ha : Fs w av q.a) (hb : Fs w bv r.a) (hs : SameN q r) (hl : q.a.length ≤ 1000000) :
   Calls Tryz.prog 27 #[nv4 q av, nv4 r bv] w fun e w' => e = .returned (.bool true) ∧ Below w.heap.size w w' := by
 obtain ⟨W, hW⟩ : ∃ W, (w.alloc (.cells #[.float .f64 q.x, .float .f64 q.y, av, .int .i64 q.m] 53)).alloc (.cells #[.float .f64 r.x, .float .f64 r.y, bv, .int .i64 r.m] 53) = W := ⟨_, rfl⟩
 have b1 : Below w.heap.size w (w.alloc (.cells #[.float .f64 q.x, .float .f64 q.y, av, .int .i64 q.m] 53)) := (Below.refl _ w).alloc (Nat.le_refl _) _
 have b2 : Below (w.alloc (.cells #[.float .f64 q.x, .float .f64 q.y, av, .int .i64 q.m] 53)).heap.size (w.alloc (.cells #[.float .f64 q.x, .float .f64 q.y, av, .int .i64 q.m] 53)) W := by rw [← hW]; exact (Below.refl _ _).alloc (Nat.le_refl _) _
 have bw : Below w.heap.size w W := b1.trans (b2.mono b1.size)
 have cA : CB W w.heap.size #[.float .f64 q.x, .float .f64 q.y, av, .int .i64 q.m] 53 := (CB.new w _ _).later b2
 have cB : CB W (w.heap.size + 1) #[.float .f64 r.x, .float .f64 r.y, bv, .int .i64 r.m] 53 := by
   have := CB.new (w.alloc (.cells #[.float .f64 q.x, .float .f64 q.y, av, .int .i64 q.m] 53)) #[.float .f64 r.x, .float .f64 r.y, bv, .int .i64 r.m] 53
   rw [hW, World.size_alloc] at this
   exact this
 have HA := Lib.hid (ha.later bw)
 have HB := Lib.hid (hb.later bw)
 have HBw := Lib.hid bw
 obtain ⟨qx, qy, qa, qm⟩ := q
 obtain ⟨rx, ry, ra, rm⟩ := r
 obtain ⟨hx, hy, hm, hlen, hat⟩ := hs
 try dsimp only at hx hy hm hlen hat HA HB hl cA cB hW ⊢
 subst hm
 unfold FE at hx hy
 obtain ⟨⟨aa, ac, rfl, ha1, ha2, ha3⟩, _⟩ := HA.out
 obtain ⟨⟨ba, bc, rfl, hb1, hb2, hb3⟩, _⟩ := HB.out
 rw [← hlen] at hb1 hb3
 obtain ⟨k0, k1, k2, k3⟩ := cA.cells4
 obtain ⟨j0, j1, j2, j3⟩ := cB.cells4
 obtain ⟨N, hN⟩ : ∃ N, qa.length = N := ⟨_, rfl⟩
 rw [← hlen, hN] at j2
 rw [← hlen, hN] at hW
 rw [hN] at k2 hl
 have hl' : (N : Int) ≤ 1000000 := by omega
 have HAt := Lib.hid hat
 have HA3 := Lib.hid ha3
 have HB3 := Lib.hid hb3
 have HN := Lib.hid hN
 have hlen' := hlen
 rw [hN] at hlen'
 unfold nv4
 rw [← hlen', hN]
 have Hn : Hid (qa.length = ra.length) := Lib.hid hlen
 clear ha hb b1 b2 bw cA cB HA HB hat ha3 hb3 hlen hlen' hN ha1 hb1 ha2 hb2
 go_enter Tryz.func27, Tryz.ntmps27
 go_wp2_with fail
 try rw [hW]
 clear hW
 go_loopw [5] (fun s5 wr => ∃ i : Nat, s5 = .int .i64 (i : Nat) ∧ i ≤ N ∧ wr.heap = W.heap ∧ Hid (Below w.heap.size w wr)) (fun s5 _ => N - (RowKit.intOf s5).toNat)
 case atStart => exact ⟨0, rfl, by omega, rfl, HBw⟩
 case round =>
   obtain ⟨i, rfl, hi1, hwh, hBr⟩ := hrel
   have eqc : ∀ ad, wr.cell? ad = W.cell? ad := fun ad => by unfold World.cell?; rw [hwh]
   rw [← eqc] at k2 j2
   by_cases hlt : i < N
   · have hlt' : (i : Int) < (N : Int) := by omega
     have hi0 : (0 : Int) ≤ (i : Int) := by omega
     have hqi : i < qa.length := by rw [HN.out]; exact hlt
     have hri : i < ra.length := by rw [← Hn.out]; exact hqi
     obtain ⟨g, off, rfl, hca⟩ := HA3.out.resolve_left (fun e => by rw [e] at hqi; simp at hqi)
     obtain ⟨g2, off2, rfl, hcb⟩ := HB3.out.resolve_left (fun e => by rw [e] at hri; simp at hri)
     have x0 := hca i hqi
     have x1 := hcb i hqi
     have hfe := HAt.out i hqi
     unfold FE at hfe
     rw [← eqc] at x0 x1
     generalize qa.getD i 0 = u at *
     generalize ra.getD i 0 = u2 at *
     clear hca hcb HA3 HB3 HAt hqi hri k0 k1 k3 j0 j1 j3 hx hy
     have k2' : wr.drew.cell? { block := w.heap.size, off := 2 } = some (Value.slice (some { block := g, off := off }) N ac) := k2
     have j2' : wr.drew.cell? { block := w.heap.size + 1, off := 2 } = some (Value.slice (some { block := g2, off := off2 }) N bc) := j2
     have x0' : wr.drew.cell? { block := g, off := off + i } = some (.float .f64 u) := x0
     have x1' : wr.drew.cell? { block := g2, off := off2 + i } = some (.float .f64 u2) := x1
     clear eqc
     go_wp2_with fail
     go_region
     all_goals
       go_wp2
       exact ⟨⟨i + 1, by go_num, by omega, hwh, Lib.hid hBr.out.drew⟩, by simp [RowKit.intOf]; omega⟩
   · obtain rfl : i = N := by omega
     clear eqc
     go_wp2
     go_ret
     exact ⟨rfl, hBr.out⟩
theorem nv_cells {W : World} {v : Value} {ns : List Nt} (h : Nv W v ns) : ∃ a c, v = .slice a ns.length c ∧ ∀ (i : Nat) (q : Nt), ns[i]? = some q → ∃ g off, a = some ⟨g, off, none⟩ ∧ g < W.heap.size ∧ W.cell? ⟨g, off + i * 4, none⟩ = some (.float .f64 q.1.x) ∧ W.cell? ⟨g, off + i * 4 + 1, none⟩ = some (.float .f64 q.1.y) ∧ W.cell? ⟨g, off + i * 4 + 2, none⟩ = some q.2 ∧ W.cell? ⟨g, off + i * 4 + 3, none⟩ = some (.int .i64 q.1.m) := by
 obtain ⟨a, c, rfl, _, _, h3⟩ := h.form
 refine ⟨a, c, rfl, fun i q hq => ?_⟩
 obtain ⟨g, off, rfl, hg, hc⟩ := h3.resolve_left (fun e => by rw [e] at hq; simp at hq)
 exact ⟨g, off, rfl, hg, hc i q hq⟩
set_option maxHeartbeats 8000000 in
theorem sameNodes_any (v u : Value) (ns ms : List Nt) (w : World) (hv : Nv w v ns) (hu : Nv w u ms) (hlen : ns.length = ms.length) (hs : ∀ (i : Nat) (q r : Nt), ns[i]? = some q → ms[i]? = some r → SameN q.1 r.1) (hn : ns.length ≤ 1000000) (hl : ∀ q ∈ ns, q.1.a.length ≤ 1000000) :
   Calls Tryz.prog 15 #[v, u] w fun e w' => e = .returned (.bool true) ∧ Below w.heap.size w w' := by
 have HV := Lib.hid hv
 have HU := Lib.hid hu
 have HS := Lib.hid hs
 have HL := Lib.hid hl
 obtain ⟨a, c, rfl, h1⟩ := nv_cells hv
 obtain ⟨b, d, rfl, h2⟩ := nv_cells hu
 rw [← hlen]
 have H1 := Lib.hid h1
 have H2 := Lib.hid h2
 have Hlen := Lib.hid hlen
 obtain ⟨N, hN⟩ : ∃ N, Hid (ns.length = N) := ⟨_, Lib.hid rfl⟩
 rw [hN.out] at hn ⊢
 have hn' : (N : Int) ≤ 1000000 := by omega
 clear hv hu hs hl h1 h2 hlen
 go_enter Tryz.func15, Tryz.ntmps15
 go_wp2_with fail
 go_loopw [5] (fun s5 wr => ∃ i : Nat, s5 = .int .i64 (i : Nat) ∧ i ≤ N ∧ Hid (Below w.heap.size w wr)) (fun s5 _ => N - (RowKit.intOf s5).toNat)
 case atStart => exact ⟨0, rfl, by omega, Lib.hid (Below.refl _ w)⟩
 case round =>
   obtain ⟨i, rfl, hi1, hBr⟩ := hrel
   by_cases hlt : i < N
   · have hlt' : (i : Int) < (N : Int) := by omega
     have hi0 : (0 : Int) ≤ (i : Int) := by omega
     obtain ⟨q, hq⟩ : ∃ q, ns[i]? = some q := ⟨_, List.getElem?_eq_getElem (by rw [hN.out]; exact hlt)⟩
     obtain ⟨r, hr⟩ : ∃ r, ms[i]? = some r := ⟨_, List.getElem?_eq_getElem (by rw [← Hlen.out, hN.out]; exact hlt)⟩
     obtain ⟨g, off, rfl, hg, x0, x1, x2, x3⟩ := H1.out i q hq
     obtain ⟨g2, off2, rfl, hg2, y0, y1, y2, y3⟩ := H2.out i r hr
     obtain ⟨W, hW⟩ : ∃ W, wr.drew = W := ⟨_, rfl⟩
     have bW : Below w.heap.size w W := by rw [← hW]; exact hBr.out.drew
     have x0 := cell_later bW hg x0
     have x1 := cell_later bW hg x1
     have x2 := cell_later bW hg x2
     have x3 := cell_later bW hg x3
     have y0 := cell_later bW hg2 y0
     have y1 := cell_later bW hg2 y1
     have y2 := cell_later bW hg2 y2
     have y3 := cell_later bW hg2 y3
     have hqm := List.mem_of_getElem? hq
     have hrm := List.mem_of_getElem? hr
     have HC := Lib.hid (sameNode_any q.1 r.1 q.2 r.2 W ((HV.out.sub q hqm).later bW) ((HU.out.sub r hrm).later bW) (HS.out i q r hq hr) (HL.out q hqm))
     unfold nv4 at HC
     have HB := Lib.hid bW
     clear bW hBr hq hr hqm hrm
     go_wp2_with fail
     go_region_with (go_at_call 27; refine HC.out.mono ?_; rintro e W2 ⟨rfl, hb2⟩; have HB2 := Lib.hid (HB.out.trans (hb2.mono HB.out.size)); clear hb2)
     all_goals
       go_wp2
       exact ⟨⟨i + 1, by go_num, by omega, HB2⟩, by simp [RowKit.intOf]; omega⟩
   · obtain rfl : i = N := by omega
     go_wp2
     go_ret
     exact ⟨rfl, hBr.out⟩
end
end Go.Proofs.YtkbhmglmbolbiaaGreatDoor
