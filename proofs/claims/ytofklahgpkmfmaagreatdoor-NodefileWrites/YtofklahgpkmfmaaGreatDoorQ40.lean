/- Own texts, put together: Qzb Qzd. -/
import Derived.Test.YtofklahgpkmfmaaGreatDoorQ35
import Derived.Test.YtofklahgpkmfmaaGreatDoorQ37
import Derived.Test.YtofklahgpkmfmaaGreatDoorQ38
namespace Go.Proofs.YtofklahgpkmfmaaGreatDoor
/- The laws of layer 10: what is handed in: large, Twin, given, back. -/
section
set_option maxRecDepth 100000
open Go.RowKit Go.Shelf Go.Lib
attribute [local go_sem] run_store_float
def sumA (ns : List Nt) : Nat := (ns.map fun q => q.1.a.length).sum
theorem sumA_take {ns : List Nt} {i : Nat} {q : Nt} (h : ns[i]? = some q) : sumA (ns.take (i + 1)) = sumA (ns.take i) + q.1.a.length := by
 obtain ⟨h1, h2⟩ := List.getElem?_eq_some_iff.1 h
 unfold sumA
 rw [List.take_succ_eq_append_getElem h1, h2]
 simp
theorem sumA_le {ns : List Nt} (h : ∀ q ∈ ns, q.1.a.length ≤ 140737488355328) : sumA ns ≤ ns.length * 140737488355328 := by
 unfold sumA
 induction ns with
 | nil => simp
 | cons a r ih =>
   have := ih (fun q hq => h q (by simp [hq]))
   have h1 := h a (by simp)
   simp only [List.map_cons, List.sum_cons, List.length_cons, Nat.succ_mul]
   omega
theorem sumA_le2 {ns : List Nt} (h : ∀ q ∈ ns, q.1.a.length ≤ 140737488355328) (hl : ns.length ≤ 200) : sumA ns ≤ 28147497671065600 :=
 Nat.le_trans (sumA_le h) (Nat.le_trans (Nat.mul_le_mul_right _ hl) (by decide))
theorem sumA_mem {ns : List Nt} {q : Nt} (h : q ∈ ns) : q.1.a.length ≤ sumA ns := by
 unfold sumA
 induction ns with
 | nil => simp at h
 | cons a r ih =>
   simp only [List.map_cons, List.sum_cons]
   rcases List.mem_cons.1 h with rfl | h
   · omega
   · have := ih h; omega
def LgR (ns : List Nt) (e : Ending) : Prop := ∃ b, e = .returned (.bool b) ∧ (b = false → ns.length ≤ 100 ∧ ∀ q ∈ ns, q.1.a.length ≤ 600)
set_option maxHeartbeats 4000000 in
theorem large10_any (v : Value) (ns : List Nt) (z : Bool) (k : Int) (m : Bool) (w : World) (hv : Nv w v ns) (hl : ∀ q ∈ ns, q.1.a.length ≤ 140737488355328) (hn : ns.length ≤ 140737488355328) :
   Calls Tryz.prog 18 #[.agg #[v, .bool z, .int .i64 k, .bool m]] w fun e w' => LgR ns e ∧ Below w.heap.size w w' := by
 obtain ⟨W, hW⟩ : ∃ W, w.alloc (.cells #[v, .bool z, .int .i64 k, .bool m] 25) = W := ⟨_, rfl⟩
 have bw : Below w.heap.size w W := by rw [← hW]; exact (Below.refl _ w).alloc (Nat.le_refl _) _
 have cf : CB W w.heap.size #[v, .bool z, .int .i64 k, .bool m] 25 := by rw [← hW]; exact CB.new w _ _
 have hv2 := hv.later bw
 obtain ⟨⟨a, c, rfl, h1, h2, h3⟩, hs, _⟩ := hv2
 obtain ⟨N, hN⟩ : ∃ N, Hid (ns.length = N) := ⟨_, Lib.hid rfl⟩
 rw [hN.out] at cf h1 hW hn
 have Hns : Hid (ns.length = N) := hN
 rw [hN.out]
 obtain ⟨k0, k1, k2, k3⟩ := cf.cells4
 have HBw := Lib.hid bw
 have HL := Lib.hid hl
 have H3 := Lib.hid h3
 have HS := Lib.hid hs
 have hN' : (N : Int) ≤ 140737488355328 := by omega
 clear hv hl h3 hs bw cf k1 k2 k3
 go_enter Tryz.func18, Tryz.ntmps18
 go_wp2_with fail
 try rw [hW]
 clear hW
 go_loopw [3, 4] (fun s3 s4 wr => ∃ i : Nat, s4 = .int .i64 (i : Nat) ∧ i ≤ N ∧ i ≤ 200 ∧ s3 = .int .i64 ((N + sumA (ns.take i) : Nat) : Int) ∧ wr = W) (fun s3 s4 _ => 200 - (RowKit.intOf s4).toNat)
 case atStart => exact ⟨0, rfl, by omega, by omega, by simp [sumA], rfl⟩
 case round =>
   obtain ⟨i, rfl, hi1, hi2, rfl, rfl⟩ := hrel
   have hsum : sumA (ns.take i) ≤ 28147497671065600 := sumA_le2 (fun q hq => HL.out q (List.mem_of_mem_take hq)) (by rw [List.length_take]; omega)
   obtain ⟨sm, hsm⟩ : ∃ sm, Hid (sumA (ns.take i) = sm) := ⟨_, Lib.hid rfl⟩
   rw [hsm.out] at hsum ⊢
   have hsum' : (sm : Int) ≤ 28147497671065600 := by omega
   by_cases hlt : i < N ∧ i < 200
   · have hlt' : (i : Int) < (N : Int) := by omega
     have hlt2 : (i : Int) < 200 := by omega
     have hi0 : (0 : Int) ≤ (i : Int) := by omega
     obtain ⟨q, hq⟩ : ∃ q, ns[i]? = some q := ⟨_, List.getElem?_eq_getElem (by rw [hN.out]; omega)⟩
     have hqm := List.mem_of_getElem? hq
     obtain ⟨g, off, rfl, hg, hcell⟩ := H3.out.resolve_left (fun e => by rw [e] at hqm; simp at hqm)
     obtain ⟨qa, qc, hqv, _⟩ := (HS.out q hqm).form
     have x2 := (hcell i q hq).2.2.1
     rw [hqv] at x2
     have hql := HL.out q hqm
     have HTk := Lib.hid (sumA_take hq)
     obtain ⟨ln, hln⟩ : ∃ ln, Hid (q.1.a.length = ln) := ⟨_, Lib.hid rfl⟩
     rw [hln.out] at x2 hql
     have hql' : (ln : Int) ≤ 140737488355328 := by omega
     clear hcell hqm hqv hq
     go_wp2
     refine ⟨⟨i + 1, by go_num, by omega, by omega, ?_, trivial⟩, by simp [RowKit.intOf]; omega⟩
     have e : (N : Int) + (sm : Int) + (ln : Int) = ((N + sumA (ns.take (i + 1)) : Nat) : Int) := by rw [HTk.out, hsm.out, hln.out]; omega
     rw [← e]
   · by_cases hN2 : i < N
     · have hi200 : i = 200 := by omega
       subst hi200
       have hlt' : ((200 : Nat) : Int) < (N : Int) := by omega
       have hN100 : (100 : Int) < (N : Int) := by omega
       go_wp2
       all_goals
         go_ret
         exact ⟨⟨true, rfl, fun h => by cases h⟩, HBw.out⟩
     · obtain rfl : i = N := by omega
       have HAll : Hid ((i : Int) + (sm : Int) ≤ 600 → i ≤ 100 → i ≤ 100 ∧ ∀ q ∈ ns, q.1.a.length ≤ 600) := Lib.hid (fun h1 h2 => ⟨h2, fun q hq => by
         have h3 := sumA_mem hq
         have h4 := hsm.out
         rw [List.take_of_length_le (by rw [hN.out]; exact Nat.le_refl _)] at h4
         omega⟩)
       by_cases hs : 600 < (i : Int) + (sm : Int)
       · go_wp2
         go_ret
         exact ⟨⟨true, rfl, fun h => by cases h⟩, HBw.out⟩
       · by_cases h100 : 100 < (i : Int)
         · go_wp2
           go_ret
           exact ⟨⟨true, rfl, fun h => by cases h⟩, HBw.out⟩
         · go_wp2
           go_ret
           have hh := HAll.out (by omega) (by omega)
           exact ⟨⟨false, rfl, fun _ => by rw [hN.out]; exact hh⟩, HBw.out⟩
set_option maxHeartbeats 8000000 in
theorem twin10_any (v : Value) (ns : List Nt) (w : World) (hv : Nv w v ns) (hn : ns.length ≤ 1000) (hl : ∀ q ∈ ns, q.1.a.length ≤ 1000 ∧ ∀ n c, q.2 = .slice none n c → n = 0 ∧ c = 0) :
   Calls Tryz.prog 35 #[v] w fun e w' => ∃ a c ns', e = .returned (.slice a ns'.length c) ∧ Nr w' w.heap.size (.slice a ns'.length c) ns' ∧ ndsO' ns' = ndsO' ns ∧ Below w.heap.size w w' := by
 obtain ⟨i0, hi0, hz0, hz1, hz2⟩ := info_parts (show (Tryz.prog.info? 62).map (fun i => (i.zero, i.size, i.bytes)) = some (some (.agg nz), 4, 48) by kernel_rfl)
 have HV := Lib.hid hv
 obtain ⟨⟨a, c, rfl, h1, h2, h3⟩, hs, hwd⟩ := hv
 obtain ⟨N, hN⟩ : ∃ N, Hid (ns.length = N) := ⟨_, Lib.hid rfl⟩
 rw [hN.out] at h1 hn ⊢
 have HL := Lib.hid hl
 have H3 := Lib.hid h3
 have HS := Lib.hid hs
 have HWd := Lib.hid hwd
 have hN' : (N : Int) ≤ 1000 := by omega
 clear hl h3 hs hwd
 go_enter Tryz.func35, Tryz.ntmps35
 go_wp2_with fail
 go_loopw [3, 4] (fun s3 s4 wr => ∃ (i : Nat) (ns' : List Nt), s4 = .int .i64 (i : Nat) ∧ i ≤ N ∧ Hid (Nr wr w.heap.size s3 ns' ∧ ndsO' ns' = (ndsO' ns).take i ∧ ns'.length = i ∧ Below w.heap.size w wr)) (fun s3 s4 _ => N - (RowKit.intOf s4).toNat)
 case atStart => exact ⟨0, [], rfl, by omega, Nr.nil (World.ownsRow_nil _ _ _ _), by simp [ndsO'], rfl, Below.refl _ w⟩
 case round =>
   obtain ⟨i, ns', rfl, hi1, hI⟩ := hrel
   by_cases hlt : i < N
   · have hlt' : (i : Int) < (N : Int) := by omega
     obtain ⟨q, hq⟩ : ∃ q, ns[i]? = some q := ⟨_, List.getElem?_eq_getElem (by rw [hN.out]; exact hlt)⟩
     have hqm := List.mem_of_getElem? hq
     obtain ⟨g, off, rfl, hg, hcell⟩ := H3.out.resolve_left (fun e => by rw [e] at hqm; simp at hqm)
     obtain ⟨x0, x1, x2, x3⟩ := hcell i q hq
     have hbr := hI.out.2.2.2
     have x0 := cell_later hbr hg x0
     have x1 := cell_later hbr hg x1
     have x2 := cell_later hbr hg x2
     have x3 := cell_later hbr hg x3
     have hfs := (HS.out q hqm).later hbr
     have hql := HL.out q hqm
     have hqw := HWd.out q hqm
     have Hq := Lib.hid hq
     obtain ⟨⟨qx, qy, qa, qm⟩, qv⟩ := q
     try dsimp only at x0 x1 x2 x3 hfs hql hqw
     obtain ⟨na, nc, hnv⟩ := hI.out.1.form
     subst hnv
     obtain ⟨va, vc, hqv, _⟩ := hfs.form
     subst hqv
     obtain ⟨vn, hvn⟩ : ∃ vn, Hid (qa.length = vn) := ⟨_, Lib.hid rfl⟩
     rw [hvn.out] at x2 hfs hql
     obtain ⟨W1, hW1⟩ : ∃ W1, wr.alloc (.cells #[.float .f64 qx, .float .f64 qy, .slice va vn vc, .int .i64 qm] 62) = W1 := ⟨_, rfl⟩
     have b1 : Below wr.heap.size wr W1 := by rw [← hW1]; exact (Below.refl _ _).alloc (Nat.le_refl _) _
     have z1 : W1.heap.size = wr.heap.size + 1 := by rw [← hW1]; simp
     have c1 : CB W1 wr.heap.size #[.float .f64 qx, .float .f64 qy, .slice va vn vc, .int .i64 qm] 62 := by rw [← hW1]; exact CB.new wr _ _
     obtain ⟨W2, hW2⟩ : ∃ W2, W1.alloc (.cells #[] 57) = W2 := ⟨_, rfl⟩
     have b2 : Below W1.heap.size W1 W2 := by rw [← hW2]; exact (Below.refl _ _).alloc (Nat.le_refl _) _
     have z2 : W2.heap.size = wr.heap.size + 1 + 1 := by rw [← hW2, World.size_alloc, z1]
     have c2 : CB W2 wr.heap.size #[.float .f64 qx, .float .f64 qy, .slice va vn vc, .int .i64 qm] 62 := c1.later b2
     have o2 : W2.ownsRow (wr.heap.size + 1) 57 1 (.slice (some ⟨wr.heap.size + 1, 0, none⟩) 0 0) 0 [] := by
       have := World.ownsRow_made W1 (e := 57) (size := 1) #[] 0 (Nat.le_refl _) (Nat.zero_le _) rfl
       rw [hW2, z1] at this
       exact this
     obtain ⟨k0, k1, k2, k3⟩ := c2.cells4
     have H2 := Lib.hid (And.intro b1 (And.intro b2 (And.intro c2 (And.intro (hfs.later (b1.trans (b2.mono b1.size))) o2))))
     clear hcell hqm hbr hq b1 b2 c1 c2 o2 hfs
     have HQl := Lib.hid hql
     have HQw := Lib.hid hqw
     clear hql hqw
     go_wp2_with (first
       | (at_builtin; refine wpList_copy _ rfl _ _ rfl (wr.heap.size + 1) (wr.heap.size + 1) rfl H2.out.2.2.2.2 _ qa rfl H2.out.2.2.2.1 HQl.out.2 (by rw [hvn.out]; exact HQl.out.1) (by omega) ?_; intro v' W3 hFr hb3; clear k0 k1 k2 k3 hW2 hW1; obtain ⟨pa, pc, hv'⟩ := own_slice hFr.own; subst hv'; have c3 : CB W3 wr.heap.size #[.float .f64 qx, .float .f64 qy, .slice va vn vc, .int .i64 qm] 62 := (by unfold CB; rw [hb3.block _ (by omega)]; exact H2.out.2.2.1); have k2 := c3.cell 2 (by simp); have f2 := c3.frozen 2; obtain ⟨W4, hW4⟩ : ∃ W4, W3.setCell ⟨wr.heap.size, 2, none⟩ (.slice pa qa.length pc) = W4 := ⟨_, rfl⟩; have c4 : CB W4 wr.heap.size #[.float .f64 qx, .float .f64 qy, .slice pa qa.length pc, .int .i64 qm] 62 := (by have := c3.set 2 (.slice pa qa.length pc); rw [hW4] at this; simpa using this); obtain ⟨j0, j1, j2, j3⟩ := c4.cells4; have H4 : Hid (Below wr.heap.size wr W4 ∧ Fr W4 w.heap.size (.slice pa qa.length pc) qa) := Lib.hid (by
           have hw := hI.out.2.2.2.size
           have hb : Below wr.heap.size wr W3 := (H2.out.1.trans (H2.out.2.1.mono H2.out.1.size)).trans (hb3.mono (by omega))
           rw [← hW4]
           exact ⟨hb.setCell (Nat.le_refl _) _, Fr.mono ⟨own_ob hFr.own (Ob.set wr.heap.size 2 W3 _) (by omega), hFr.word⟩ (by omega)⟩); clear c3 c4 hFr hb3)
       | (at_builtin; refine wpList_append_own _ rfl _ _ 23 rfl w.heap.size 62 i0 (.agg nz) 4 48 Tryz.underlying23 hi0 hz0 hz1 hz2 rfl (by decide) (.slice na ns'.length nc) ns'.length (ncs ns') rfl (World.ownsRow.alloc (hI.out.1.later H4.out.1).own _) ⟨W4.heap.size, 0, none⟩ 1 1 [.float .f64 qx, .float .f64 qy, .slice pa qa.length pc, .int .i64 qm] rfl rfl (World.news_of_block (cs := #[.float .f64 qx, .float .f64 qy, .slice pa qa.length pc, .int .i64 qm]) (t := 62) (fr := (0, 0)) (heap_alloc_new W4 _)) (by simp [Value.oneCell']) (by unfold maxLen; have := hI.out.2.2.1; omega) (by have := hI.out.2.2.1; omega) (by have := hI.out.2.2.2.size; have := H4.out.1.size; simp; omega) ?_; intro v'' W5 hown hgrow _; have H5 : Hid (Nr W5 w.heap.size v'' (ns' ++ [(⟨qx, qy, qa, qm⟩, .slice pa qa.length pc)]) ∧ Below w.heap.size w W5) := Lib.hid ⟨(hI.out.1.later H4.out.1).grew (p := (⟨qx, qy, qa, qm⟩, .slice pa qa.length pc)) H4.out.2 HQw.out hown hgrow, ((hI.out.2.2.2.trans (H4.out.1.mono hI.out.2.2.2.size)).alloc (by have := hI.out.2.2.2.size; have := H4.out.1.size; omega) _).grown hgrow (by have := hI.out.2.2.2.size; have := H4.out.1.size; simp; omega) (fun b hb => ((hI.out.1.later H4.out.1).own.lt b hb).1)⟩; clear hown hgrow))
     refine ⟨⟨i + 1, ns' ++ [(⟨qx, qy, qa, qm⟩, .slice pa qa.length pc)], by go_num, by omega, H5.out.1, ?_, by rw [List.length_append, hI.out.2.2.1]; rfl, H5.out.2⟩, by simp [RowKit.intOf]; omega⟩
     have hd : (ndsO' ns)[i]? = some ⟨qx, qy, qa, qm⟩ := by
       unfold ndsO'
       rw [List.getElem?_map, Hq.out]; rfl
     obtain ⟨g1, g2⟩ := List.getElem?_eq_some_iff.1 hd
     rw [List.take_succ_eq_append_getElem g1, g2, ← hI.out.2.1]
     simp [ndsO']
   · obtain rfl : i = N := by omega
     have HI := Lib.hid hI.out
     obtain ⟨na, nc, hnv⟩ := hI.out.1.form
     rw [hnv]
     go_wp2
     go_ret
     refine ⟨na, nc, ns', rfl, by rw [← hnv]; exact HI.out.1, ?_, HI.out.2.2.2⟩
     rw [HI.out.2.1, List.take_of_length_le (by simp [ndsO', hN.out])]
end

/- The laws of layer 10: given, back. -/
section
set_option maxRecDepth 100000
open Go.RowKit Go.Shelf Go.Lib
theorem res_given (W : World) (B : Nat) (a b c d : Value) (tmps : Array Value) (h : CB W B #[a, b, c, d] 29)
   (t2 : tmps[2]? = some (.pointer (some ⟨B, 0, none⟩))) : (results Tryz.f19 tmps).run Tryz.prog W = .ok (.agg #[a, b, c, d]) W := by
 have c0 := h.cell 0 (by simp)
 have c1 := h.cell 1 (by simp)
 have c2 := h.cell 2 (by simp)
 have c3 := h.cell 3 (by simp)
 simp [results, Tryz.f19, go_sem, c0, c1, c2, c3, t2]
set_option maxHeartbeats 8000000 in
theorem given10_any (v : Value) (ns : List Nt) (z : Bool) (k : Int) (m : Bool) (w : World) (hv : Nv w v ns) (hn : ns.length ≤ 1000) (hl : ∀ q ∈ ns, q.1.a.length ≤ 1000 ∧ ∀ n c, q.2 = .slice none n c → n = 0 ∧ c = 0) :
   Calls Tryz.prog 19 #[.agg #[v, .bool z, .int .i64 k, .bool m]] w fun e w' => ∃ a c ns', e = .returned (.agg #[.slice a ns'.length c, .bool z, .int .i64 k, .bool m]) ∧ Nv w' (.slice a ns'.length c) ns' ∧ ndsO' ns' = ndsO' ns ∧ Below w.heap.size w w' := by
 have HV := Lib.hid hv
 obtain ⟨va, vc, rfl, _, _, _⟩ := hv.form
 obtain ⟨N, hN⟩ : ∃ N, Hid (ns.length = N) := ⟨_, Lib.hid rfl⟩
 rw [hN.out]
 obtain ⟨W1, hW1⟩ : ∃ W1, w.alloc (.cells #[.slice va N vc, .bool z, .int .i64 k, .bool m] 25) = W1 := ⟨_, rfl⟩
 have b1 : Below w.heap.size w W1 := by rw [← hW1]; exact (Below.refl _ w).alloc (Nat.le_refl _) _
 have z1 : W1.heap.size = w.heap.size + 1 := by rw [← hW1]; simp
 have c1 : CB W1 w.heap.size #[.slice va N vc, .bool z, .int .i64 k, .bool m] 25 := by rw [← hW1]; exact CB.new w _ _
 obtain ⟨W2, hW2⟩ : ∃ W2, W1.alloc (.cells fz4 29) = W2 := ⟨_, rfl⟩
 have b2 : Below W1.heap.size W1 W2 := by rw [← hW2]; exact (Below.refl _ W1).alloc (Nat.le_refl _) _
 have z2 : W2.heap.size = w.heap.size + 2 := by rw [← hW2, World.size_alloc, z1]
 obtain ⟨W3, hW3⟩ : ∃ W3, W2.drew = W3 := ⟨_, rfl⟩
 have c2 : CB W3 (w.heap.size + 1) fz4 29 := by rw [← hW3, ← hW2, ← z1]; exact CB.new W1 _ _
 have b3 : Below W1.heap.size W1 W3 := by rw [← hW3]; exact b2.drew
 have d2 := c1.later b3
 have bw := b1.trans (b3.mono b1.size)
 obtain ⟨k0, k1, k2, k3⟩ := d2.cells4
 have HTw := Lib.hid (twin10_any (.slice va ns.length vc) ns W3 (hv.later bw) hn hl)
 rw [hN.out] at HTw
 have z3 : W3.heap.size = w.heap.size + 2 := by rw [← hW3]; exact z2
 have H2 := Lib.hid (And.intro c2 (And.intro d2 (And.intro bw z3)))
 clear b1 b2 b3 c1 c2 d2 bw hv hl hn z2 z3
 go_enter Tryz.func19, Tryz.ntmps19
 go_wp2_with fail
 go_region_held3 (fun W => W.cell? ⟨w.heap.size, 0, none⟩ = some (.slice va N vc) ∧ W.cell? ⟨w.heap.size, 1, none⟩ = some (.bool z) ∧ W.cell? ⟨w.heap.size, 2, none⟩ = some (.int .i64 k) ∧ W.cell? ⟨w.heap.size, 3, none⟩ = some (.bool m))
   (first
     | assumption
     | (rw [hW3]; exact ⟨k0, k1, k2, k3⟩)
     | exact ⟨k0, k1, k2, k3⟩
     | exact ⟨p0, p1, p2, p3⟩
     | exact ⟨by go_simp, by go_simp, by go_simp, by go_simp⟩)
   (first | (go_at_call 35; refine HTw.out.mono ?_; rintro e W4 ⟨a, c, ns', rfl, hr, hd, hb4⟩; have c4 := H2.out.1.later hb4; have d4 := H2.out.2.1.later hb4; obtain ⟨p0, p1, p2, p3⟩ := d4.cells4; obtain ⟨j0, j1, j2, j3⟩ := c4.cells4; have f0 := c4.frozen 0; have f1 := c4.frozen 1; have f2 := c4.frozen 2; have f3 := c4.frozen 3; have hst := (fun (w : World) (ad : Addr) (md : Mode) => run_store Tryz.prog w ad (.slice a ns'.length c) md (by rfl)); have H4 : Hid (CB W4 (w.heap.size + 1) fz4 29 ∧ Below w.heap.size w W4 ∧ Nr W4 (w.heap.size + 2) (.slice a ns'.length c) ns' ∧ ndsO' ns' = ndsO' ns) := Lib.hid ⟨c4, H2.out.2.2.1.trans (hb4.mono H2.out.2.2.1.size), by have := hr; rwa [H2.out.2.2.2] at this, hd⟩; clear c4 d4 hr hd hb4))
 clear hW1 hW2 hW3 k0 k1 k2 k3 HTw H2
 go_wp2
 refine bodyPost_ret (res_given _ (w.heap.size + 1) _ _ _ _ _ (set4 H4.out.1 _ _ _ _) rfl) rfl ?_
 refine ⟨a, c, ns', rfl, (H4.out.2.2.1.ob (ob_set4 _ _ _ _ _ _) (by omega)).nv, H4.out.2.2.2, (((H4.out.2.1.setCell (Nat.le_succ _) _).setCell (Nat.le_succ _) _).setCell (Nat.le_succ _) _).setCell (Nat.le_succ _) _⟩
end
end Go.Proofs.YtofklahgpkmfmaaGreatDoor
