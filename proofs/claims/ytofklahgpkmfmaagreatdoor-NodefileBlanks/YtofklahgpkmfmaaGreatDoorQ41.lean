/- Own texts, put together: Qp Qq. -/
import Derived.Test.YtofklahgpkmfmaaGreatDoorQ40
namespace Go.Proofs.YtofklahgpkmfmaaGreatDoor
/- slices.ContainsFunc as package nodefile asks it. -/
section
set_option maxRecDepth 100000
open Go.RowKit Go.Shelf Go.Lib
def ndsO' (ns : List Nt) : List Nd := ns.map (·.1)
theorem any_take {α : Type} {q : α → Bool} {l : List α} {k : Nat} (h : k < l.length) : (l.take (k + 1)).any q = ((l.take k).any q || q l[k]) := by
 rw [List.take_succ_eq_append_getElem h, List.any_append]; simp
set_option maxHeartbeats 4000000 in
theorem fl_idx {q : Nat → Bool} (v : Value) (ls : List Nat) (w : World) (hv : Fs w v ls) (hF : ∀ k (h : k < ls.length) W, Below w.heap.size w W → Calls Tryz.prog 68 (#[.float .f64 ls[k]] ++ #[]) W fun e w' => e = .returned (.bool (q ls[k])) ∧ Below w.heap.size w w') :
   Calls Tryz.prog 107 #[v, .func (.func 68) #[] #[]] w fun e w' => (∃ i : Int, e = .returned (.int .i64 i) ∧ -1 ≤ i ∧ decide (0 ≤ i) = ls.any q) ∧ Below w.heap.size w w' := by
 obtain ⟨a, c, rfl, hc1, hc2, hm⟩ := hv.form
 have HF := Lib.hid hF
 have HM := Lib.hid hm
 obtain ⟨N, hN⟩ : ∃ N, Hid (ls.length = N) := ⟨_, Lib.hid rfl⟩
 rw [hN.out] at hc1 ⊢
 have hN' : (N : Int) ≤ 9223372036854775807 := by omega
 clear hv hm hF
 go_enter Tryz.func107, Tryz.ntmps107
 go_wp2
 go_loopw [8] (fun s8 wr => ∃ k : Nat, k ≤ N ∧ s8 = .int .i64 (k : Nat) ∧ Hid ((ls.take k).any q = false ∧ Below w.heap.size w wr)) (fun s8 _ => N - (RowKit.intOf s8).toNat)
 case atStart => exact ⟨0, Nat.zero_le _, rfl, by simp, Below.refl _ _⟩
 case round =>
   obtain ⟨k, hk, rfl, hI⟩ := hrel
   by_cases hlt : k < N
   · have hk2 : k < ls.length := by rw [hN.out]; exact hlt
     have hlt' : (k : Int) < (N : Int) := by omega
     have hk0 : (0 : Int) ≤ (k : Int) := by omega
     have hg := HM.out.resolve_left (fun e => by rw [e] at hk2; simp at hk2)
     obtain ⟨g, off, rfl, hcell⟩ := hg
     have b1 : wr.cell? ⟨g, off + k, none⟩ = some (.float .f64 ls[k]) := by
       have h1 := hcell k hk2
       rw [List.getD_eq_getElem?_getD, List.getElem?_eq_getElem hk2] at h1
       exact box_cell hI.out.2 h1
     obtain ⟨b, hb⟩ : ∃ b, Hid (q ls[k] = b) := ⟨_, Lib.hid rfl⟩
     have HC : Hid (Calls Tryz.prog 68 (#[.float .f64 ls[k]] ++ #[]) wr fun e w' => e = .returned (.bool b) ∧ Below w.heap.size w w') := Lib.hid (by rw [← hb.out]; exact HF.out k hk2 wr hI.out.2)
     have HA : Hid ((ls.take (k + 1)).any q = b) := Lib.hid (by rw [any_take hk2, hI.out.1, hb.out]; rfl)
     clear hI
     generalize ls[k] = nd at *
     simp only [List.append_toArray, List.nil_append, List.cons_append] at HC
     cases b
     · go_wp2_with (first | (go_at_call 68; refine HC.out.mono ?_; rintro e W1 ⟨rfl, hb1⟩; have HB1 := Lib.hid hb1; clear hb1))
       refine ⟨⟨k + 1, by omega, by go_num, HA.out, HB1.out⟩, ?_⟩
       simp [RowKit.intOf]; omega
     · go_wp2_with (first | (go_at_call 68; refine HC.out.mono ?_; rintro e W1 ⟨rfl, hb1⟩; have HB1 := Lib.hid hb1; clear hb1))
       go_ret
       refine ⟨⟨(k : Nat), rfl, by omega, ?_⟩, HB1.out⟩
       rw [decide_eq_true (by omega)]
       symm
       rw [List.any_eq_true]
       obtain ⟨x, hx, hqx⟩ := List.any_eq_true.1 HA.out
       exact ⟨x, List.mem_of_mem_take hx, hqx⟩
   · obtain rfl : k = N := by omega
     have HE : Hid (ls.any q = false) := Lib.hid (by have := hI.out.1; rwa [List.take_of_length_le (by rw [hN.out]; omega)] at this)
     go_wp2
     go_ret
     exact ⟨⟨-1, rfl, by omega, by rw [HE.out]; decide⟩, hI.out.2⟩
theorem fl_has {q : Nat → Bool} (v : Value) (ls : List Nat) (w : World) (hv : Fs w v ls) (hF : ∀ k (h : k < ls.length) W, Below w.heap.size w W → Calls Tryz.prog 68 (#[.float .f64 ls[k]] ++ #[]) W fun e w' => e = .returned (.bool (q ls[k])) ∧ Below w.heap.size w w') :
   Calls Tryz.prog 67 #[v, .func (.func 68) #[] #[]] w fun e w' => e = .returned (.bool (ls.any q)) ∧ Below w.heap.size w w' := by
 obtain ⟨a, c, hvv, _, _, _⟩ := hv.form
 have H := Lib.hid (fl_idx v ls w hv hF)
 subst hvv
 obtain ⟨b, hb⟩ : ∃ b, Hid (ls.any q = b) := ⟨_, Lib.hid rfl⟩
 rw [hb.out] at H ⊢
 obtain ⟨N, hN⟩ : ∃ N, ls.length = N := ⟨_, rfl⟩
 rw [hN] at H ⊢
 clear hv hF hN
 go_enter Tryz.func67, Tryz.ntmps67
 go_wp2_with (first | (go_at_call 107; refine H.out.mono ?_; rintro e W1 ⟨⟨i, rfl, hi, hd⟩, hb1⟩; have HD := Lib.hid (And.intro hd hb1); clear hb1 hd))
 go_ret
 exact ⟨by rw [← HD.out.1]; rfl, HD.out.2⟩
set_option maxHeartbeats 4000000 in
theorem amN_idx {q : Nt → Bool} (Bf : Nat) (v : Value) (ns : List Nt) (w : World) (hv : Nv w v ns) (hF : ∀ k (h : k < ns.length) W, Below w.heap.size w W → Calls Tryz.prog 66 (#[.agg #[.float .f64 ns[k].1.x, .float .f64 ns[k].1.y, ns[k].2, .int .i64 ns[k].1.m]] ++ #[.pointer (some ⟨Bf, 0, none⟩)]) W fun e w' => e = .returned (.bool (q ns[k])) ∧ Below w.heap.size w w') :
   Calls Tryz.prog 110 #[v, .func (.func 66) #[] #[.pointer (some ⟨Bf, 0, none⟩)]] w fun e w' => (∃ i : Int, e = .returned (.int .i64 i) ∧ -1 ≤ i ∧ decide (0 ≤ i) = ns.any q) ∧ Below w.heap.size w w' := by
 obtain ⟨a, c, rfl, hc1, hc2, hm⟩ := hv.form
 have HF := Lib.hid hF
 have HM := Lib.hid hm
 obtain ⟨N, hN⟩ : ∃ N, Hid (ns.length = N) := ⟨_, Lib.hid rfl⟩
 rw [hN.out] at hc1 ⊢
 have hN' : (N : Int) ≤ 9223372036854775807 := by omega
 clear hv hm hF
 go_enter Tryz.func110, Tryz.ntmps110
 go_wp2
 go_loopw [8] (fun s8 wr => ∃ k : Nat, k ≤ N ∧ s8 = .int .i64 (k : Nat) ∧ Hid ((ns.take k).any q = false ∧ Below w.heap.size w wr)) (fun s8 _ => N - (RowKit.intOf s8).toNat)
 case atStart => exact ⟨0, Nat.zero_le _, rfl, by simp, Below.refl _ _⟩
 case round =>
   obtain ⟨k, hk, rfl, hI⟩ := hrel
   by_cases hlt : k < N
   · have hk2 : k < ns.length := by rw [hN.out]; exact hlt
     have hlt' : (k : Int) < (N : Int) := by omega
     have hk0 : (0 : Int) ≤ (k : Int) := by omega
     have hg := HM.out.resolve_left (fun e => by rw [e] at hk2; simp at hk2)
     obtain ⟨g, off, rfl, hgl, hcell⟩ := hg
     obtain ⟨p1, p2, p3, p4⟩ := hcell k ns[k] (List.getElem?_eq_getElem hk2)
     have b1 : wr.cell? ⟨g, off + k * 4, none⟩ = some (.float .f64 ns[k].1.x) := cell_later hI.out.2 hgl p1
     have b2 : wr.cell? ⟨g, off + k * 4 + 1, none⟩ = some (.float .f64 ns[k].1.y) := cell_later hI.out.2 hgl p2
     have b3 : wr.cell? ⟨g, off + k * 4 + 2, none⟩ = some ns[k].2 := cell_later hI.out.2 hgl p3
     have b4 : wr.cell? ⟨g, off + k * 4 + 3, none⟩ = some (.int .i64 ns[k].1.m) := cell_later hI.out.2 hgl p4
     clear p1 p2 p3 p4 hcell
     obtain ⟨b, hb⟩ : ∃ b, Hid (q ns[k] = b) := ⟨_, Lib.hid rfl⟩
     have HC : Hid (Calls Tryz.prog 66 (#[.agg #[.float .f64 ns[k].1.x, .float .f64 ns[k].1.y, ns[k].2, .int .i64 ns[k].1.m]] ++ #[.pointer (some ⟨Bf, 0, none⟩)]) wr fun e w' => e = .returned (.bool b) ∧ Below w.heap.size w w') := Lib.hid (by rw [← hb.out]; exact HF.out k hk2 wr hI.out.2)
     have HA : Hid ((ns.take (k + 1)).any q = b) := Lib.hid (by rw [any_take hk2, hI.out.1, hb.out]; rfl)
     clear hI
     generalize ns[k] = nd at *
     simp only [List.append_toArray, List.nil_append, List.cons_append] at HC
     cases b
     · go_wp2_with (first | (go_at_call 66; refine HC.out.mono ?_; rintro e W1 ⟨rfl, hb1⟩; have HB1 := Lib.hid hb1; clear hb1))
       refine ⟨⟨k + 1, by omega, by go_num, HA.out, HB1.out⟩, ?_⟩
       simp [RowKit.intOf]; omega
     · go_wp2_with (first | (go_at_call 66; refine HC.out.mono ?_; rintro e W1 ⟨rfl, hb1⟩; have HB1 := Lib.hid hb1; clear hb1))
       go_ret
       refine ⟨⟨(k : Nat), rfl, by omega, ?_⟩, HB1.out⟩
       rw [decide_eq_true (by omega)]
       symm
       rw [List.any_eq_true]
       obtain ⟨x, hx, hqx⟩ := List.any_eq_true.1 HA.out
       exact ⟨x, List.mem_of_mem_take hx, hqx⟩
   · obtain rfl : k = N := by omega
     have HE : Hid (ns.any q = false) := Lib.hid (by have := hI.out.1; rwa [List.take_of_length_le (by rw [hN.out]; omega)] at this)
     go_wp2
     go_ret
     exact ⟨⟨-1, rfl, by omega, by rw [HE.out]; decide⟩, hI.out.2⟩
theorem amN_has {q : Nt → Bool} (Bf : Nat) (v : Value) (ns : List Nt) (w : World) (hv : Nv w v ns) (hF : ∀ k (h : k < ns.length) W, Below w.heap.size w W → Calls Tryz.prog 66 (#[.agg #[.float .f64 ns[k].1.x, .float .f64 ns[k].1.y, ns[k].2, .int .i64 ns[k].1.m]] ++ #[.pointer (some ⟨Bf, 0, none⟩)]) W fun e w' => e = .returned (.bool (q ns[k])) ∧ Below w.heap.size w w') :
   Calls Tryz.prog 69 #[v, .func (.func 66) #[] #[.pointer (some ⟨Bf, 0, none⟩)]] w fun e w' => e = .returned (.bool (ns.any q)) ∧ Below w.heap.size w w' := by
 obtain ⟨a, c, hvv, _, _, _⟩ := hv.form
 have H := Lib.hid (amN_idx Bf v ns w hv hF)
 subst hvv
 obtain ⟨b, hb⟩ : ∃ b, Hid (ns.any q = b) := ⟨_, Lib.hid rfl⟩
 rw [hb.out] at H ⊢
 obtain ⟨N, hN⟩ : ∃ N, ns.length = N := ⟨_, rfl⟩
 rw [hN] at H ⊢
 clear hv hF hN
 go_enter Tryz.func69, Tryz.ntmps69
 go_wp2_with (first | (go_at_call 110; refine H.out.mono ?_; rintro e W1 ⟨⟨i, rfl, hi, hd⟩, hb1⟩; have HD := Lib.hid (And.intro hd hb1); clear hb1 hd))
 go_ret
 exact ⟨by rw [← HD.out.1]; rfl, HD.out.2⟩
set_option maxHeartbeats 4000000 in
theorem asN_idx {q : Nt → Bool} (v : Value) (ns : List Nt) (w : World) (hv : Nv w v ns) (hF : ∀ k (h : k < ns.length) W, Below w.heap.size w W → Calls Tryz.prog 70 (#[.agg #[.float .f64 ns[k].1.x, .float .f64 ns[k].1.y, ns[k].2, .int .i64 ns[k].1.m]] ++ #[]) W fun e w' => e = .returned (.bool (q ns[k])) ∧ Below w.heap.size w w') :
   Calls Tryz.prog 110 #[v, .func (.func 70) #[] #[]] w fun e w' => (∃ i : Int, e = .returned (.int .i64 i) ∧ -1 ≤ i ∧ decide (0 ≤ i) = ns.any q) ∧ Below w.heap.size w w' := by
 obtain ⟨a, c, rfl, hc1, hc2, hm⟩ := hv.form
 have HF := Lib.hid hF
 have HM := Lib.hid hm
 obtain ⟨N, hN⟩ : ∃ N, Hid (ns.length = N) := ⟨_, Lib.hid rfl⟩
 rw [hN.out] at hc1 ⊢
 have hN' : (N : Int) ≤ 9223372036854775807 := by omega
 clear hv hm hF
 go_enter Tryz.func110, Tryz.ntmps110
 go_wp2
 go_loopw [8] (fun s8 wr => ∃ k : Nat, k ≤ N ∧ s8 = .int .i64 (k : Nat) ∧ Hid ((ns.take k).any q = false ∧ Below w.heap.size w wr)) (fun s8 _ => N - (RowKit.intOf s8).toNat)
 case atStart => exact ⟨0, Nat.zero_le _, rfl, by simp, Below.refl _ _⟩
 case round =>
   obtain ⟨k, hk, rfl, hI⟩ := hrel
   by_cases hlt : k < N
   · have hk2 : k < ns.length := by rw [hN.out]; exact hlt
     have hlt' : (k : Int) < (N : Int) := by omega
     have hk0 : (0 : Int) ≤ (k : Int) := by omega
     have hg := HM.out.resolve_left (fun e => by rw [e] at hk2; simp at hk2)
     obtain ⟨g, off, rfl, hgl, hcell⟩ := hg
     obtain ⟨p1, p2, p3, p4⟩ := hcell k ns[k] (List.getElem?_eq_getElem hk2)
     have b1 : wr.cell? ⟨g, off + k * 4, none⟩ = some (.float .f64 ns[k].1.x) := cell_later hI.out.2 hgl p1
     have b2 : wr.cell? ⟨g, off + k * 4 + 1, none⟩ = some (.float .f64 ns[k].1.y) := cell_later hI.out.2 hgl p2
     have b3 : wr.cell? ⟨g, off + k * 4 + 2, none⟩ = some ns[k].2 := cell_later hI.out.2 hgl p3
     have b4 : wr.cell? ⟨g, off + k * 4 + 3, none⟩ = some (.int .i64 ns[k].1.m) := cell_later hI.out.2 hgl p4
     clear p1 p2 p3 p4 hcell
     obtain ⟨b, hb⟩ : ∃ b, Hid (q ns[k] = b) := ⟨_, Lib.hid rfl⟩
     have HC : Hid (Calls Tryz.prog 70 (#[.agg #[.float .f64 ns[k].1.x, .float .f64 ns[k].1.y, ns[k].2, .int .i64 ns[k].1.m]] ++ #[]) wr fun e w' => e = .returned (.bool b) ∧ Below w.heap.size w w') := Lib.hid (by rw [← hb.out]; exact HF.out k hk2 wr hI.out.2)
     have HA : Hid ((ns.take (k + 1)).any q = b) := Lib.hid (by rw [any_take hk2, hI.out.1, hb.out]; rfl)
     clear hI
     generalize ns[k] = nd at *
     simp only [List.append_toArray, List.nil_append, List.cons_append] at HC
     cases b
     · go_wp2_with (first | (go_at_call 70; refine HC.out.mono ?_; rintro e W1 ⟨rfl, hb1⟩; have HB1 := Lib.hid hb1; clear hb1))
       refine ⟨⟨k + 1, by omega, by go_num, HA.out, HB1.out⟩, ?_⟩
       simp [RowKit.intOf]; omega
     · go_wp2_with (first | (go_at_call 70; refine HC.out.mono ?_; rintro e W1 ⟨rfl, hb1⟩; have HB1 := Lib.hid hb1; clear hb1))
       go_ret
       refine ⟨⟨(k : Nat), rfl, by omega, ?_⟩, HB1.out⟩
       rw [decide_eq_true (by omega)]
       symm
       rw [List.any_eq_true]
       obtain ⟨x, hx, hqx⟩ := List.any_eq_true.1 HA.out
       exact ⟨x, List.mem_of_mem_take hx, hqx⟩
   · obtain rfl : k = N := by omega
     have HE : Hid (ns.any q = false) := Lib.hid (by have := hI.out.1; rwa [List.take_of_length_le (by rw [hN.out]; omega)] at this)
     go_wp2
     go_ret
     exact ⟨⟨-1, rfl, by omega, by rw [HE.out]; decide⟩, hI.out.2⟩
theorem asN_has {q : Nt → Bool} (v : Value) (ns : List Nt) (w : World) (hv : Nv w v ns) (hF : ∀ k (h : k < ns.length) W, Below w.heap.size w W → Calls Tryz.prog 70 (#[.agg #[.float .f64 ns[k].1.x, .float .f64 ns[k].1.y, ns[k].2, .int .i64 ns[k].1.m]] ++ #[]) W fun e w' => e = .returned (.bool (q ns[k])) ∧ Below w.heap.size w w') :
   Calls Tryz.prog 69 #[v, .func (.func 70) #[] #[]] w fun e w' => e = .returned (.bool (ns.any q)) ∧ Below w.heap.size w w' := by
 obtain ⟨a, c, hvv, _, _, _⟩ := hv.form
 have H := Lib.hid (asN_idx v ns w hv hF)
 subst hvv
 obtain ⟨b, hb⟩ : ∃ b, Hid (ns.any q = b) := ⟨_, Lib.hid rfl⟩
 rw [hb.out] at H ⊢
 obtain ⟨N, hN⟩ : ∃ N, ns.length = N := ⟨_, rfl⟩
 rw [hN] at H ⊢
 clear hv hF hN
 go_enter Tryz.func69, Tryz.ntmps69
 go_wp2_with (first | (go_at_call 110; refine H.out.mono ?_; rintro e W1 ⟨⟨i, rfl, hi, hd⟩, hb1⟩; have HD := Lib.hid (And.intro hd hb1); clear hb1 hd))
 go_ret
 exact ⟨by rw [← HD.out.1]; rfl, HD.out.2⟩
end

/- Package nodefile: why a file may not be: wrongOf. -/
section
set_option maxRecDepth 100000
open Go.RowKit Go.Shelf Go.Lib
attribute [local go_sem] run_store_float
set_option maxHeartbeats 4000000 in
theorem amiss_any (Bf : Nat) (nv : Value) (z : Bool) (k : Int) (m : Bool) (q : Nd) (av : Value) (w : World) (hf : CB w Bf #[nv, .bool z, .int .i64 k, .bool m] 29) (ha : Fs w av q.a) :
   Calls Tryz.prog 66 #[.agg #[.float .f64 q.x, .float .f64 q.y, av, .int .i64 q.m], .pointer (some ⟨Bf, 0, none⟩)] w fun e w' => e = .returned (.bool (amiss k m q)) ∧ Below w.heap.size w w' := by
 obtain ⟨x, y, ls, mk⟩ := q
 try dsimp only at ha ⊢
 obtain ⟨aa, ac, rfl, h1, h2, _⟩ := ha.form
 obtain ⟨W1, hW1⟩ : ∃ W1, w.alloc (.cells #[.float .f64 x, .float .f64 y, .slice aa ls.length ac, .int .i64 mk] 62) = W1 := ⟨_, rfl⟩
 have b1 : Below w.heap.size w W1 := by rw [← hW1]; exact (Below.refl _ w).alloc (Nat.le_refl _) _
 have cn : CB W1 w.heap.size #[.float .f64 x, .float .f64 y, .slice aa ls.length ac, .int .i64 mk] 62 := by rw [← hW1]; exact CB.new w _ _
 have cf := hf.later b1
 have fs1 := ha.later b1
 obtain ⟨b, hb⟩ : ∃ b, Hid (ls.any endl = b) := ⟨_, Lib.hid rfl⟩
 have HC : Hid (Calls Tryz.prog 67 #[.slice aa ls.length ac, .func (.func 68) #[] #[]] W1 fun e w' => e = .returned (.bool b) ∧ Below W1.heap.size W1 w') := Lib.hid (by
   rw [← hb.out]
   exact fl_has (q := endl) _ ls W1 fs1 (fun j hj W hW => by
     refine (endless_any ls[j] W (fs1.word _ (List.getElem_mem hj))).mono ?_
     rintro e w' ⟨rfl, rfl⟩
     exact ⟨rfl, hW⟩))
 have HL : Hid (CB W1 w.heap.size #[.float .f64 x, .float .f64 y, .slice aa ls.length ac, .int .i64 mk] 62 ∧ CB W1 Bf #[nv, .bool z, .int .i64 k, .bool m] 29 ∧ Below w.heap.size w W1) := Lib.hid ⟨cn, cf, b1⟩
 obtain ⟨j0, j1, j2, j3⟩ := cn.cells4
 obtain ⟨k0, k1, k2, k3⟩ := cf.cells4
 have hl' : (ls.length : Int) ≤ 9223372036854775807 := by omega
 obtain ⟨n, hn⟩ : ∃ n, ls.length = n := ⟨_, rfl⟩
 have HAm : Hid (amiss k m ⟨x, y, ls, mk⟩ = (decide ((n : Int) ≠ k) || b || (decide (mk ≠ 0) && !m))) := Lib.hid (by unfold amiss; simp only [hn, hb.out])
 rw [HAm.out]
 rw [hn] at HC HL j2 hl' hW1 ⊢
 clear hf ha cn cf fs1 b1 hn HAm hb
 by_cases hk : (n : Int) = k
 · have hk1 : decide ((n : Int) ≠ k) = false := by simpa using hk
   rw [hk1]
   subst hk
   cases b
   · by_cases hm : mk = 0
     · subst hm
       go_enter Tryz.func66, Tryz.ntmps66
       go_wp2_with (first | (go_at_call 67; refine HC.out.mono ?_; rintro e W2 ⟨rfl, hb2⟩; have HB2 := Lib.hid hb2; have i3 := (HL.out.1.later hb2).cell 3 (by simp); clear hb2))
       go_ret
       exact ⟨rfl, HL.out.2.2.trans (HB2.out.mono HL.out.2.2.size)⟩
     · have hm1 : decide (mk ≠ 0) = true := by simpa using hm
       rw [hm1]
       go_enter Tryz.func66, Tryz.ntmps66
       go_wp2_with (first | (go_at_call 67; refine HC.out.mono ?_; rintro e W2 ⟨rfl, hb2⟩; have HB2 := Lib.hid hb2; have i3 := (HL.out.1.later hb2).cell 3 (by simp); have l3 := (HL.out.2.1.later hb2).cell 3 (by simp); clear hb2))
       go_ret
       have hm2 : (mk != 0) = true := by simpa using hm
       refine ⟨?_, HL.out.2.2.trans (HB2.out.mono HL.out.2.2.size)⟩
       show Ending.returned (Value.bool (mk != 0 && !m)) = _
       rw [hm2]
       cases m <;> rfl
   · go_enter Tryz.func66, Tryz.ntmps66
     go_wp2_with (first | (go_at_call 67; refine HC.out.mono ?_; rintro e W2 ⟨rfl, hb2⟩; have HB2 := Lib.hid hb2; clear hb2))
     go_ret
     exact ⟨rfl, HL.out.2.2.trans (HB2.out.mono HL.out.2.2.size)⟩
 · have hk1 : decide ((n : Int) ≠ k) = true := by simpa using hk
   rw [hk1]
   go_enter Tryz.func66, Tryz.ntmps66
   go_wp2
   go_ret
   exact ⟨rfl, HL.out.2.2⟩
set_option maxHeartbeats 8000000 in
theorem wrongOf_any {p : Pm} (hp : p.Ok) (v : Value) (ns : List Nt) (z : Bool) (k : Int) (m : Bool) (w : World) (hv : Nv w v ns) :
   Calls Tryz.prog 38 #[.agg #[v, .bool z, .int .i64 k, .bool m]] w fun e w' => e = .returned (.int .i64 (wrongN p ⟨ndsO' ns, z, k, m⟩)) ∧ Below w.heap.size w w' := by
 obtain ⟨aa, ac, rfl, h1, h2, _⟩ := hv.form
 obtain ⟨W1, hW1⟩ : ∃ W1, w.alloc (.cells #[.slice aa ns.length ac, .bool z, .int .i64 k, .bool m] 29) = W1 := ⟨_, rfl⟩
 have b1 : Below w.heap.size w W1 := by rw [← hW1]; exact (Below.refl _ w).alloc (Nat.le_refl _) _
 have cf : CB W1 w.heap.size #[.slice aa ns.length ac, .bool z, .int .i64 k, .bool m] 29 := by rw [← hW1]; exact CB.new w _ _
 have nv1 := hv.later b1
 have HA : Hid (Calls Tryz.prog 69 #[.slice aa ns.length ac, .func (.func 66) #[] #[.pointer (some ⟨w.heap.size, 0, none⟩)]] W1 fun e w' => e = .returned (.bool (ns.any fun q => amiss k m q.1)) ∧ Below W1.heap.size W1 w') := Lib.hid (amN_has (q := fun q => amiss k m q.1) w.heap.size _ ns W1 nv1 (fun j hj W hW => by
     refine (amiss_any w.heap.size _ z k m ns[j].1 ns[j].2 W (cf.later hW) ((nv1.sub _ (List.getElem_mem hj)).later hW)).mono ?_
     rintro e w' ⟨rfl, hb⟩
     exact ⟨rfl, hW.trans (hb.mono hW.size)⟩))
 have HB : Hid (∀ W2, Below W1.heap.size W1 W2 → Calls Tryz.prog 69 #[.slice aa ns.length ac, .func (.func 70) #[] #[]] W2 fun e w' => e = .returned (.bool (ns.any fun q => !p.pt q.1.x q.1.y)) ∧ Below W2.heap.size W2 w') := Lib.hid (fun W2 hb2 => asN_has (q := fun q => !p.pt q.1.x q.1.y) _ ns W2 (nv1.later hb2) (fun j hj W hW => by
     refine (astray_any hp ns[j].1 ns[j].2 W (nv1.wrd _ (List.getElem_mem hj))).mono ?_
     rintro e w' ⟨rfl, hb⟩
     exact ⟨rfl, hW.trans (hb.mono hW.size)⟩))
 have e1 : (ndsO' ns).any (amiss k m) = ns.any fun q => amiss k m q.1 := by simp [ndsO', List.any_map, Function.comp_def]
 have e2 : (ndsO' ns).any (fun q => !p.pt q.x q.y) = ns.any fun q => !p.pt q.1.x q.1.y := by simp [ndsO', List.any_map, Function.comp_def]
 obtain ⟨bA, hbA⟩ : ∃ b, (ns.any fun q => amiss k m q.1) = b := ⟨_, rfl⟩
 obtain ⟨bB, hbB⟩ : ∃ b, (ns.any fun q => !p.pt q.1.x q.1.y) = b := ⟨_, rfl⟩
 rw [hbA] at HA
 simp only [hbB] at HB
 obtain ⟨n, hn⟩ : ∃ n, ns.length = n := ⟨_, rfl⟩
 have HW : Hid (wrongN p ⟨ndsO' ns, z, k, m⟩ = if 1048576 < n then 3 else if k < 0 ∨ 16 < k ∨ (z = true ∧ n = 0) then 1 else if bA then 1 else if bB then 10 else 0) := Lib.hid (by
   unfold wrongN
   simp only [e1, e2, hbA, hbB, show (ndsO' ns).length = n by rw [← hn]; simp [ndsO']])
 rw [HW.out]
 rw [hn] at HA HB hW1 cf ⊢
 have hl' : (n : Int) ≤ 9223372036854775807 := by omega
 have HL : Hid (CB W1 w.heap.size #[.slice aa n ac, .bool z, .int .i64 k, .bool m] 29 ∧ Below w.heap.size w W1) := Lib.hid ⟨cf, b1⟩
 obtain ⟨k0, k1, k2, k3⟩ := cf.cells4
 clear hv nv1 cf b1 e1 e2 hbA hbB hn HW hp
 by_cases hbig : 1048576 < n
 · rw [if_pos hbig]
   have hbig' : (1048576 : Int) < (n : Int) := by omega
   go_enter Tryz.func38, Tryz.ntmps38
   go_wp2
   go_ret
   exact ⟨rfl, HL.out.2⟩
 rw [if_neg hbig]
 have hbig' : ¬ ((1048576 : Int) < (n : Int)) := by omega
 by_cases hneg : k < 0
 · rw [if_pos (Or.inl hneg)]
   go_enter Tryz.func38, Tryz.ntmps38
   go_wp2
   go_ret
   exact ⟨rfl, HL.out.2⟩
 by_cases hpos : 16 < k
 · rw [if_pos (Or.inr (Or.inl hpos))]
   go_enter Tryz.func38, Tryz.ntmps38
   go_wp2
   go_ret
   exact ⟨rfl, HL.out.2⟩
 by_cases hzn : z = true ∧ n = 0
 · rw [if_pos (Or.inr (Or.inr hzn))]
   obtain ⟨rfl, rfl⟩ := hzn
   go_enter Tryz.func38, Tryz.ntmps38
   go_wp2
   go_ret
   exact ⟨rfl, HL.out.2⟩
 rw [if_neg (by rintro (h | h | h); exact hneg h; exact hpos h; exact hzn h)]
 have hz2 : z = false ∨ (z = true ∧ ¬ n = 0) := by
   cases z
   · exact Or.inl rfl
   · exact Or.inr ⟨rfl, fun e => hzn ⟨rfl, e⟩⟩
 rcases hz2 with rfl | ⟨rfl, hn0⟩
 all_goals
   cases bA
   · cases bB
     all_goals
       go_enter Tryz.func38, Tryz.ntmps38
       go_wp2_with fail
       refine HA.out.mono ?_
       rintro e W2 ⟨rfl, hb2⟩
       have HB2 := Lib.hid hb2
       have l0 := (HL.out.1.later hb2).cell 0 (by simp)
       clear hb2
       go_wp2_with fail
       refine (HB.out _ HB2.out).mono ?_
       rintro e W3 ⟨rfl, hb3⟩
       have HB3 := Lib.hid hb3
       clear hb3
       go_wp2
       go_ret
       exact ⟨rfl, HL.out.2.trans ((HB2.out.trans (HB3.out.mono HB2.out.size)).mono HL.out.2.size)⟩
   · go_enter Tryz.func38, Tryz.ntmps38
     go_wp2_with fail
     refine HA.out.mono ?_
     rintro e W2 ⟨rfl, hb2⟩
     have HB2 := Lib.hid hb2
     clear hb2
     go_wp2
     go_ret
     exact ⟨rfl, HL.out.2.trans (HB2.out.mono HL.out.2.size)⟩
end
end Go.Proofs.YtofklahgpkmfmaaGreatDoor
