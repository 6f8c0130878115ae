/- Own texts, put together: Efn Efo Ega Egf Egh Egb. -/
import Derived.Test.YtgoadpnoagaflaaDoorQ4
import Derived.Test.YtgoadpnoagaflaaDoorQ7
import Derived.Test.YtgoadpnoagaflaaDoorQ8
import Derived.Test.YtgoadpnoagaflaaDoorQ37
import Derived.Test.YtgoadpnoagaflaaDoorQ41
import Derived.Deep.AppendSrc
namespace Go.Proofs.YtgoadpnoagaflaaDoor
/- Package elefile: wordsOf. -/
section
set_option maxRecDepth 100000
open Go.RowKit Go.Shelf Go.Lib
attribute [local go_sem] run_store_float
structure Wy (w W : World) (F c k : Nat) (lv tv av : Value) : Prop where
 fb : CB W w.heap.size #[.int .i64 (F : Nat), .int .i64 (c : Nat), .int .i64 (k : Nat), lv] 28
 rb : CB W (w.heap.size + 1) #[tv, av] 34
 bel : Below w.heap.size w W
theorem Wy.later {w W W' : World} {F c k : Nat} {lv tv av : Value} (h : Wy w W F c k lv tv av) (hb : Below W.heap.size W W') : Wy w W' F c k lv tv av := ⟨h.fb.later hb, h.rb.later hb, h.bel.trans (hb.mono h.bel.size)⟩
theorem Wy.grown {w W W' : World} {F c k : Nat} {lv tv av : Value} {row : Option Nat} (h : Wy w W F c k lv tv av) (hg : W.grownBy W' row) (hr : ∀ b, row = some b → w.heap.size + 2 ≤ b) : Wy w W' F c k lv tv av := by
 have cb : ∀ {b t : Nat} {cs : Array Value}, CB W b cs t → b < w.heap.size + 2 → CB W' b cs t := fun hc hb => by
   unfold CB
   rw [hg.block _ hc.lt (fun e => by have := hr _ e.symm; omega)]; exact hc
 exact ⟨cb h.fb (by omega), cb h.rb (by omega), h.bel.grown hg h.bel.size (fun b hb => by have := hr b hb; omega)⟩
theorem srE_size {W : World} {B : Nat} {v : Value} {pre : List Bs} (h : Sr W B v pre) (hl : pre ≠ []) : B < W.heap.size := by
 rcases h.2 with ⟨_, h2⟩ | ⟨g, cap, cur, rfl, h2, _⟩
 · exact absurd (List.length_eq_zero_iff.1 h2) hl
 · have := (World.ownsRow.lt h g rfl).2; omega
set_option maxHeartbeats 16000000 in
theorem wordsOfE_any {p : Pm} (hp : p.Ok) (F c k : Nat) (v : Value) (rs : List Rt) (i : Nat) (q : Rt) (w : World) (hv : Rv w v rs) (hi : rs[i]? = some q) (hF : F ≤ 1) (hc : c ≤ 6) (hk : k ≤ 16) (hi2 : i ≤ 2000000) (htl : q.1.t.length ≤ 16) (hql : q.1.a.length ≤ 16) (hst : ∀ n ∈ q.1.t, 0 ≤ n ∧ n < 1048576) (hT : T8 w) :
   Calls Tryd.prog 22 #[.agg #[.int .i64 (F : Nat), .int .i64 (c : Nat), .int .i64 (k : Nat), v], .int .i64 (i : Nat)] w fun e w' => (∃ rv, e = .returned rv ∧ Sr w' w.heap.size rv (rwW p (F : Nat) i q.1)) ∧ Below w.heap.size w w' := by
 have HP := Lib.hid hp
 have HT8 := Lib.hid hT
 have hil : i < rs.length := (List.getElem?_eq_some_iff.1 hi).1
 have hqm := List.mem_of_getElem? hi
 obtain ⟨his, hfs⟩ := hv.sub q hqm
 obtain ⟨na, nc, rfl, h1, h2, h3⟩ := hv.form
 obtain ⟨g, off, rfl, hg, hcell⟩ := h3.resolve_left (fun e => by rw [e] at hi; simp at hi)
 obtain ⟨p1, p2⟩ := hcell i q hi
 obtain ⟨⟨ts, ls⟩, tv, av⟩ := q
 try dsimp only at p1 p2 his hfs htl hql hst ⊢
 obtain ⟨ta, tc, rfl, t1, t2, t3⟩ := his.form
 obtain ⟨aa, ac, rfl, a1, a2, a3⟩ := hfs.form
 obtain ⟨N, hN⟩ : ∃ N, rs.length = N := ⟨_, rfl⟩
 obtain ⟨tl, htle⟩ : ∃ tl, Hid (ts.length = tl) := ⟨_, Lib.hid rfl⟩
 obtain ⟨ql, hqle⟩ : ∃ ql, Hid (ls.length = ql) := ⟨_, Lib.hid rfl⟩
 rw [hN] at h1 hil ⊢
 have HIs := Lib.hid his
 have HFs := Lib.hid hfs
 have HSt := Lib.hid hst
 have HIm := Lib.hid t3
 have HFm := Lib.hid a3
 rw [htle.out] at p1 htl
 rw [hqle.out] at p2 hql
 obtain ⟨cs, hcs, hmk⟩ := makeS_ex (1 + c + k) (by omega)
 have hmk' : ∀ W : World, (Instr.makeSlice 56 (.int .i64 0) (.int .i64 (1 + (c : Int) + (k : Int)))).run Tryd.prog W = .ok (.slice (some ⟨W.heap.size, 0, none⟩) 0 (1 + c + k)) (W.alloc (.cells cs 9)) := fun W => by
   have := hmk W
   rwa [show ((1 + c + k : Nat) : Int) = 1 + (c : Int) + (k : Int) by omega] at this
 have hi3 : (i : Int) < (N : Int) := by omega
 have hi4 : (0 : Int) ≤ (i : Int) := by omega
 have hi5 : (i : Int) ≤ 2000000 := by omega
 have hk' : (k : Int) ≤ 16 := by omega
 have hc' : (c : Int) ≤ 6 := by omega
 have hF' : (F : Int) ≤ 1 := by omega
 have htl' : (tl : Int) ≤ 16 := by omega
 have hql' : (ql : Int) ≤ 16 := by omega
 obtain ⟨i0, hi0, hz0, hz1, hz2⟩ := info_parts (show (Tryd.prog.info? 9).map (fun i => (i.zero, i.size, i.bytes)) = some (some (.string ⟨#[]⟩), 1, 16) by kernel_rfl)
 obtain ⟨W3, hW3⟩ : ∃ W3, ((w.alloc (.cells #[.int .i64 (F : Nat), .int .i64 (c : Nat), .int .i64 (k : Nat), .slice (some ⟨g, off, none⟩) N nc] 28)).alloc (.cells #[.slice ta tl tc, .slice aa ql ac] 34)).alloc (.cells cs 9) = W3 := ⟨_, rfl⟩
 have hZ : Wy w W3 F c k (.slice (some ⟨g, off, none⟩) N nc) (.slice ta tl tc) (.slice aa ql ac) := by
   rw [← hW3]
   have c1 := CB.new w #[.int .i64 (F : Nat), .int .i64 (c : Nat), .int .i64 (k : Nat), .slice (some ⟨g, off, none⟩) N nc] 28
   have c2 := CB.new (w.alloc (.cells #[.int .i64 (F : Nat), .int .i64 (c : Nat), .int .i64 (k : Nat), .slice (some ⟨g, off, none⟩) N nc] 28)) #[.slice ta tl tc, .slice aa ql ac] 34
   have hz1 : Wy w ((w.alloc (.cells #[.int .i64 (F : Nat), .int .i64 (c : Nat), .int .i64 (k : Nat), .slice (some ⟨g, off, none⟩) N nc] 28)).alloc (.cells #[.slice ta tl tc, .slice aa ql ac] 34)) F c k (.slice (some ⟨g, off, none⟩) N nc) (.slice ta tl tc) (.slice aa ql ac) := ⟨c1.later ((Below.refl _ _).alloc (Nat.le_refl _) _), by rwa [World.size_alloc] at c2, ((Below.refl _ w).alloc (Nat.le_refl _) _).alloc (by simp) _⟩
   exact hz1.later ((Below.refl _ _).alloc (Nat.le_refl _) _)
 have hR : Sr W3 (w.heap.size + 2) (.slice (some ⟨w.heap.size + 1 + 1, 0, none⟩) 0 (1 + c + k)) [] := by
   rw [← hW3]
   have := own_room (W := (w.alloc (.cells #[.int .i64 (F : Nat), .int .i64 (c : Nat), .int .i64 (k : Nat), .slice (some ⟨g, off, none⟩) N nc] 28)).alloc (.cells #[.slice ta tl tc, .slice aa ql ac] 34)) (t := 9) hcs (by omega)
   simp only [World.size_alloc] at this
   exact this
 have HZ := Lib.hid hZ
 have HR0 := Lib.hid hR
 obtain ⟨y0, y1, y2, y3⟩ := hZ.fb.cells4E
 have HSh := Lib.hid (show_any ((F : Int) + (i : Int)) ⟨by omega, by omega⟩ W3 (hT.later hZ.bel))
 have hw3 : Hid (w.heap.size + 2 < W3.heap.size) := Lib.hid (by rw [← hW3]; simp)
 clear hv hcell h3 hp hT his hfs a1 a2 a3 t1 t2 t3 hi hqm hst hZ hR hmk hcs
 go_enter Tryd.func22, Tryd.ntmps22
 go_wp2_with fail
 try rw [hW3]
 clear hW3 hmk' p1 p2
 refine HSh.out.mono ?_
 rintro e W1 ⟨rfl, hb1⟩
 have HZ1 := Lib.hid (HZ.out.later hb1)
 have HR1 := Lib.hid (HR0.out.later hb1)
 have hw1 : Hid (w.heap.size + 2 < W1.heap.size) := Lib.hid (Nat.lt_of_lt_of_le hw3.out hb1.size)
 clear hb1 HZ HR0 HSh hw3 y0 y1 y2 y3
 go_wp2_with (at_builtin; refine wpList_append_own _ rfl _ _ 56 rfl (w.heap.size + 2) 9 i0 (.string ⟨#[]⟩) 1 16 Tryd.underlying56 hi0 hz0 hz1 hz2 rfl (by decide) (.slice (some ⟨w.heap.size + 1 + 1, 0, none⟩) 0 (1 + c + k)) 0 [] rfl (World.ownsRow.alloc HR1.out _) ⟨W1.heap.size, 0, none⟩ 1 1 [sv (itoa ((F : Int) + (i : Int)))] rfl rfl (cell_one_new _ _ _) (by simp [Value.oneCell']) (by unfold maxLen; omega) (by omega) (by have := hw1.out; simp; omega) ?_; intro v' W4 hown hgrow _; have HZ4 := Lib.hid ((HZ1.out.later ((Below.refl _ W1).alloc (Nat.le_refl _) _)).grown hgrow (fun b hb => by have := (World.ownsRow.lt HR1.out b hb).1; omega)); have HR4 : Hid (Sr W4 (w.heap.size + 2) v' [itoa ((F : Int) + (i : Int))]) := Lib.hid hown; have j0 := HZ4.out.rb.cells2E.1; clear hown hgrow)
 go_loopw [6, 34] (fun s6 s34 wr => ∃ (j : Nat) (pre : List Bs), s34 = .int .i64 (j : Nat) ∧ j ≤ tl ∧ Hid (Wy w wr F c k (.slice (some ⟨g, off, none⟩) N nc) (.slice ta tl tc) (.slice aa ql ac) ∧ Sr wr (w.heap.size + 2) s6 pre ∧ pre = itoa ((F : Int) + (i : Int)) :: (ts.take j).map (fun n => itoa ((F : Int) + n)))) (fun _ s34 _ => tl - (RowKit.intOf s34).toNat)
 case atStart => exact ⟨0, _, rfl, by omega, HZ4.out, HR4.out, by simp⟩
 case round =>
   clear HZ4 HR4 HZ1 HR1 j0 hw1
   obtain ⟨j, pre, rfl, hj, hI⟩ := hrel
   have hpl : Hid (pre.length = 1 + j ∧ pre ≠ []) := Lib.hid (by rw [hI.out.2.2]; simp [htle.out]; omega)
   have HZr := Lib.hid hI.out.1
   have HRr := Lib.hid hI.out.2.1
   have HPr := Lib.hid hI.out.2.2
   clear hI
   by_cases hlt : j < tl
   · have hjl : Hid (j < ts.length) := Lib.hid (by rw [htle.out]; exact hlt)
     have hlt' : (j : Int) < (tl : Int) := by omega
     have hj0 : (0 : Int) ≤ (j : Int) := by omega
     obtain ⟨g2, off2, hga, hc9⟩ := HIm.out.resolve_left (fun e => by have := hjl.out; rw [e] at this; simp at this)
     subst hga
     obtain ⟨n, hn⟩ : ∃ n, Hid (ts[j]? = some n) := ⟨_, Lib.hid (List.getElem?_eq_getElem hjl.out)⟩
     have b1 : wr.cell? ⟨g2, off2 + j, none⟩ = some (.int .i64 n) := by
       have h1 := hc9 j hjl.out
       rw [List.getD_eq_getElem?_getD, hn.out] at h1
       exact box_cell HZr.out.bel h1
     have hn1 := (HSt.out n (List.mem_of_getElem? hn.out)).1
     have hn2 := (HSt.out n (List.mem_of_getElem? hn.out)).2
     have HNx : Hid (pre ++ [itoa ((F : Int) + n)] = itoa ((F : Int) + (i : Int)) :: (ts.take (j + 1)).map (fun n => itoa ((F : Int) + n))) := Lib.hid (by
       obtain ⟨g1, g2⟩ := List.getElem?_eq_some_iff.1 hn.out
       rw [HPr.out, List.take_succ_eq_append_getElem g1, g2, List.map_append]; rfl)
     have HSh := Lib.hid (show_any ((F : Int) + n) ⟨by omega, by omega⟩ wr (HT8.out.later HZr.out.bel))
     obtain ⟨y0, y1, y2, y3⟩ := HZr.out.fb.cells4E
     clear hc9
     go_wp2_with (first
       | (go_at_call 21; refine HSh.out.mono ?_; rintro e W1 ⟨rfl, hb1⟩; have HZ1 := Lib.hid (HZr.out.later hb1); have HR1 := Lib.hid (HRr.out.later hb1); clear hb1)
       | (at_builtin; refine wpList_append_own _ rfl _ _ 56 rfl (w.heap.size + 2) 9 i0 (.string ⟨#[]⟩) 1 16 Tryd.underlying56 hi0 hz0 hz1 hz2 rfl (by decide) u6 pre.length (svs pre) rfl (World.ownsRow.alloc HR1.out _) ⟨W1.heap.size, 0, none⟩ 1 1 [sv (itoa ((F : Int) + n))] rfl rfl (cell_one_new _ _ _) (by simp [Value.oneCell']) (by unfold maxLen; have := hpl.out.1; omega) (by have := hpl.out.1; omega) (by have := srE_size HR1.out hpl.out.2; simp; omega) ?_; intro v' W4 hown hgrow _; have HZ4 := Lib.hid ((HZ1.out.later ((Below.refl _ W1).alloc (Nat.le_refl _) _)).grown hgrow (fun b hb => by have := (World.ownsRow.lt HR1.out b hb).1; omega)); have HR4 : Hid (Sr W4 (w.heap.size + 2) v' (pre ++ [itoa ((F : Int) + n)])) := Lib.hid (by unfold Sr; rw [List.length_append, svs, List.map_append]; exact hown); clear hown hgrow))
     first
       | exact ⟨⟨j + 1, pre ++ [itoa ((F : Int) + n)], by go_num, by omega, HZ4.out, HR4.out, HNx.out⟩, by simp [RowKit.intOf]; omega⟩
       | (go_roundw
          case rel =>
            refine ⟨_, _, _, _, _, _, _, _, _, _, _, _, ⟨j + 1, pre ++ [itoa ((F : Int) + n)], ?_, by omega, HZ4.out, HR4.out, HNx.out⟩, rfl⟩
            go_num
          case measure => simp [RowKit.intOf]; omega)
   · obtain rfl : tl = j := by omega
     rw [List.take_of_length_le (by rw [htle.out]; omega)] at HPr
     have j1 := HZr.out.rb.cells2E.2
     go_wp2_with fail
     clear j1
     go_loopw [6, 50] (fun s6 s50 wr => ∃ (j : Nat) (pre : List Bs), s50 = .int .i64 (j : Nat) ∧ j ≤ ql ∧ Hid (Wy w wr F c k (.slice (some ⟨g, off, none⟩) N nc) (.slice ta tl tc) (.slice aa ql ac) ∧ Sr wr (w.heap.size + 2) s6 pre ∧ pre = (itoa ((F : Int) + (i : Int)) :: ts.map (fun n => itoa ((F : Int) + n))) ++ (ls.take j).map p.tx)) (fun _ s50 _ => ql - (RowKit.intOf s50).toNat)
     case atStart => exact ⟨0, _, rfl, by omega, HZr.out, HRr.out, by rw [HPr.out]; simp⟩
     case round =>
       clear HZr HRr HPr hpl
       obtain ⟨j2, pre2, rfl, hj2, hI⟩ := hrel
       have hpl : Hid (pre2.length ≤ 100 ∧ pre2 ≠ []) := Lib.hid (by rw [hI.out.2.2]; simp [htle.out]; omega)
       have HZr := Lib.hid hI.out.1
       have HRr := Lib.hid hI.out.2.1
       have HPr := Lib.hid hI.out.2.2
       clear hI
       by_cases hlt2 : j2 < ql
       · have hjl : Hid (j2 < ls.length) := Lib.hid (by rw [hqle.out]; exact hlt2)
         have hlt' : (j2 : Int) < (ql : Int) := by omega
         have hj0 : (0 : Int) ≤ (j2 : Int) := by omega
         obtain ⟨g2, off2, hga, hc9⟩ := HFm.out.resolve_left (fun e => by have := hjl.out; rw [e] at this; simp at this)
         subst hga
         obtain ⟨xv, hn⟩ : ∃ n, Hid (ls[j2]? = some n) := ⟨_, Lib.hid (List.getElem?_eq_getElem hjl.out)⟩
         have b1 : wr.cell? ⟨g2, off2 + j2, none⟩ = some (.float .f64 xv) := by
           have h1 := hc9 j2 hjl.out
           rw [List.getD_eq_getElem?_getD, hn.out] at h1
           exact box_cell HZr.out.bel h1
         have HXv : Hid (xv < 18446744073709551616) := Lib.hid (HFs.out.word _ (List.mem_of_getElem? hn.out))
         have HNx : Hid (pre2 ++ [p.tx xv] = (itoa ((F : Int) + (i : Int)) :: ts.map (fun n => itoa ((F : Int) + n))) ++ (ls.take (j2 + 1)).map p.tx) := Lib.hid (by
           obtain ⟨g1, g2⟩ := List.getElem?_eq_some_iff.1 hn.out
           rw [HPr.out, List.take_succ_eq_append_getElem g1, g2, List.map_append, ← List.append_assoc]; rfl)
         have HTx := Lib.hid (text_is HP.out xv HXv.out wr (HT8.out.later HZr.out.bel))
         clear hc9
         go_wp2_with (first
           | (go_at_call 46; refine HTx.out.mono ?_; rintro e W1 ⟨rfl, hb1⟩; have HZ1 := Lib.hid (HZr.out.later hb1); have HR1 := Lib.hid (HRr.out.later hb1); clear hb1)
           | (at_builtin; refine wpList_append_own _ rfl _ _ 56 rfl (w.heap.size + 2) 9 i0 (.string ⟨#[]⟩) 1 16 Tryd.underlying56 hi0 hz0 hz1 hz2 rfl (by decide) u6 pre2.length (svs pre2) rfl (World.ownsRow.alloc HR1.out _) ⟨W1.heap.size, 0, none⟩ 1 1 [sv (p.tx xv)] rfl rfl (cell_one_new _ _ _) (by simp [Value.oneCell']) (by unfold maxLen; have := hpl.out.1; omega) (by have := hpl.out.1; omega) (by have := srE_size HR1.out hpl.out.2; simp; omega) ?_; intro v' W4 hown hgrow _; have HZ4 := Lib.hid ((HZ1.out.later ((Below.refl _ W1).alloc (Nat.le_refl _) _)).grown hgrow (fun b hb => by have := (World.ownsRow.lt HR1.out b hb).1; omega)); have HR4 : Hid (Sr W4 (w.heap.size + 2) v' (pre2 ++ [p.tx xv])) := Lib.hid (by unfold Sr; rw [List.length_append, svs, List.map_append]; exact hown); clear hown hgrow))
         first
           | exact ⟨⟨j2 + 1, pre2 ++ [p.tx xv], by go_num, by omega, HZ4.out, HR4.out, HNx.out⟩, by simp [RowKit.intOf]; omega⟩
           | (go_roundw
              case rel =>
                refine ⟨_, _, _, _, _, _, _, _, _, _, _, _, ⟨j2 + 1, pre2 ++ [p.tx xv], ?_, by omega, HZ4.out, HR4.out, HNx.out⟩, rfl⟩
                go_num
              case measure => simp [RowKit.intOf]; omega)
       · obtain rfl : ql = j2 := by omega
         rw [List.take_of_length_le (by rw [hqle.out]; omega)] at HPr
         have HW : Hid (rwW p (F : Nat) i ⟨ts, ls⟩ = pre2) := Lib.hid (by unfold rwW; rw [HPr.out]; rfl)
         go_wp2
         go_ret
         exact ⟨⟨_, rfl, by rw [HW.out]; exact HRr.out.base (by omega)⟩, HZr.out.bel⟩
end

/- Package elefile: Write. -/
section
set_option maxRecDepth 100000
open Go.RowKit Go.Shelf Go.Lib
structure Py (w W : World) (F c k : Nat) (nv : Value) : Prop where
 f1 : CB W w.heap.size #[.int .i64 (F : Nat), .int .i64 (c : Nat), .int .i64 (k : Nat), nv] 28
 bel : Below w.heap.size w W
theorem Py.later {w W W' : World} {F c k : Nat} {nv : Value} (h : Py w W F c k nv) (hb : Below W.heap.size W W') : Py w W' F c k nv := ⟨h.f1.later hb, h.bel.trans (hb.mono h.bel.size)⟩
theorem Py.grown {w W W' : World} {F c k : Nat} {nv : Value} {row : Option Nat} (h : Py w W F c k nv) (hg : W.grownBy W' row) (hr : ∀ b, row = some b → w.heap.size < b) : Py w W' F c k nv := by
 refine ⟨?_, h.bel.grown hg h.bel.size (fun b hb => by have := hr b hb; omega)⟩
 unfold CB
 rw [hg.block _ h.f1.lt (fun e => by have := hr _ e.symm; omega)]; exact h.f1
theorem Py.all {w W : World} {F c k n nc : Nat} {na : Option Addr} (h : Py w W F c k (.slice na n nc)) : W.cell? ⟨w.heap.size, 0, none⟩ = some (.int .i64 (F : Nat)) ∧ W.cell? ⟨w.heap.size, 1, none⟩ = some (.int .i64 (c : Nat)) ∧ W.cell? ⟨w.heap.size, 2, none⟩ = some (.int .i64 (k : Nat)) ∧ W.cell? ⟨w.heap.size, 3, none⟩ = some (.slice na n nc) ∧ Py w W F c k (.slice na n nc) := by
 obtain ⟨k0, k1, k2, k3⟩ := h.f1.cells4E
 exact ⟨k0, k1, k2, k3, h⟩
theorem rwW_short {p : Pm} (hp : p.Ok) {F i : Nat} {r : Rw} (hF : F ≤ 1) (ht : ∀ n ∈ r.t, strayE n = false) (ha : ∀ x ∈ r.a, x < 18446744073709551616) (hi : i ≤ 2000000) : ∀ x ∈ rwW p (F : Nat) i r, x.length ≤ 43 := by
 intro x hx
 unfold rwW at hx
 simp only [List.mem_cons, List.mem_append, List.mem_map] at hx
 rcases hx with rfl | ⟨n, hn, rfl⟩ | ⟨b, hb, rfl⟩
 · exact itoa_short ⟨by omega, by omega⟩
 · have := stray_no (ht n hn)
   exact itoa_short ⟨by omega, by omega⟩
 · exact tx_short hp (ha b hb)
theorem rwsW_at (p : Pm) (f : Int) : ∀ (l : List Rw) (i : Nat) (ws : List Bs), ws ∈ rwsW p f i l → ∃ j q, j < l.length ∧ q ∈ l ∧ ws = rwW p f (i + j) q := by
 intro l
 induction l with
 | nil => intro i ws h; simp [rwsW] at h
 | cons a r ih =>
   intro i ws h
   rw [rwsW] at h
   rcases List.mem_cons.1 h with rfl | h
   · exact ⟨0, a, by simp, by simp, by simp⟩
   · obtain ⟨j, q, h1, h2, h3⟩ := ih (i + 1) ws h
     exact ⟨j + 1, q, by simp; omega, by simp [h2], by rw [h3, show i + 1 + j = i + (j + 1) by omega]⟩
theorem feW_short {p : Pm} (hp : p.Ok) {f : Fe} (hm : mayE f = true) (hw : ∀ r ∈ f.l, ∀ x ∈ r.a, x < 18446744073709551616) : ∀ ws ∈ feW p f, (∀ x ∈ ws, x.length ≤ 43) ∧ ws.length ≤ 40 := by
 obtain ⟨F, c, k, e1, e2, e3, hF, hc, hk, hl, ha⟩ := mayE_parts hm
 intro ws hws
 unfold feW at hws
 rcases List.mem_cons.1 hws with rfl | h
 · refine ⟨fun x hx => ?_, by simp⟩
   simp only [List.mem_cons, List.not_mem_nil, or_false] at hx
   rcases hx with rfl | rfl | rfl
   · exact itoa_short ⟨by omega, by omega⟩
   · exact itoa_short (by rw [e2]; exact ⟨by omega, by omega⟩)
   · exact itoa_short (by rw [e3]; exact ⟨by omega, by omega⟩)
 · obtain ⟨j, q, h1, h2, rfl⟩ := rwsW_at p _ _ _ _ h
   obtain ⟨g1, g2, g3, g4⟩ := amissE_no.1 (ha q h2)
   rw [e1]
   refine ⟨rwW_short hp hF g2 (hw q h2) (by omega), ?_⟩
   unfold rwW
   simp
   omega
set_option maxHeartbeats 16000000 in
theorem writeE_any {p : Pm} (hp : p.Ok) (f c0 k0 : Int) (v : Value) (rs : List Rt) (w : World) (hv : Rv w v rs) (hnn : rs.length ≤ 200000) (hT : T8 w) :
   Calls Tryd.prog 9 #[.agg #[.int .i64 f, .int .i64 c0, .int .i64 k0, v]] w fun e w' => e = .returned (.tuple #[sv (wrE p ⟨f, c0, k0, rs.map (·.1)⟩).1, .int .i64 (wrE p ⟨f, c0, k0, rs.map (·.1)⟩).2]) ∧ Below w.heap.size w w' := by
 have HP := Lib.hid hp
 have HT8 := Lib.hid hT
 have HV := Lib.hid hv
 obtain ⟨na, nc, rfl, h1, h2, _⟩ := hv.form
 obtain ⟨W1, hW1⟩ : ∃ W1, w.alloc (.cells #[.int .i64 f, .int .i64 c0, .int .i64 k0, .slice na rs.length nc] 28) = W1 := ⟨_, rfl⟩
 have b1 : Below w.heap.size w W1 := by rw [← hW1]; exact (Below.refl _ w).alloc (Nat.le_refl _) _
 have cf : CB W1 w.heap.size #[.int .i64 f, .int .i64 c0, .int .i64 k0, .slice na rs.length nc] 28 := by rw [← hW1]; exact CB.new w _ _
 have HW := Lib.hid (mayE_any f c0 k0 _ rs W1 (hv.later b1))
 have HL : Hid (CB W1 w.heap.size #[.int .i64 f, .int .i64 c0, .int .i64 k0, .slice na rs.length nc] 28 ∧ Below w.heap.size w W1) := Lib.hid ⟨cf, b1⟩
 obtain ⟨k0', k1, k2, k3⟩ := cf.cells4E
 obtain ⟨n, hn⟩ : ∃ n, Hid (rs.length = n) := ⟨_, Lib.hid rfl⟩
 rw [hn.out] at HW HL hW1 k3 h1 hnn ⊢
 obtain ⟨er, her⟩ : ∃ er, Hid (mayE ⟨f, c0, k0, rs.map (·.1)⟩ = er) := ⟨_, Lib.hid rfl⟩
 rw [her.out] at HW
 have hn63 : (n : Int) ≤ 200000 := by omega
 clear hp hT hv cf b1
 go_enter Tryd.func9, Tryd.ntmps9
 go_wp2_with fail
 try rw [hW1]
 clear hW1 k0' k1 k2 k3
 refine HW.out.mono ?_
 rintro e W2 ⟨rfl, hb2⟩
 cases er
 · have HB := Lib.hid (HL.out.2.trans (hb2.mono HL.out.2.size))
   have HR : Hid (wrE p ⟨f, c0, k0, rs.map (·.1)⟩ = ([], 1)) := Lib.hid (by unfold wrE; rw [if_neg (by rw [her.out]; simp)])
   clear hb2 HW
   go_wp2
   go_ret2
   exact ⟨by rw [HR.out]; rfl, HB.out⟩
 · have HR : Hid (wrE p ⟨f, c0, k0, rs.map (·.1)⟩ = ((wrV (feW p ⟨f, c0, k0, rs.map (·.1)⟩)).1, (((wrV (feW p ⟨f, c0, k0, rs.map (·.1)⟩)).2 : Nat) : Int))) := Lib.hid (by unfold wrE; rw [if_pos her.out])
   have HSo := Lib.hid (feW_short HP.out her.out (fun r hr x hx => by
     obtain ⟨q, hq, rfl⟩ := List.mem_map.1 hr
     exact (HV.out.sub q hq).2.word x hx))
   obtain ⟨F, c, k, e1, e2, e3, hF1, hc, hk, hl, ha⟩ := mayE_parts her.out
   try dsimp only at e1 e2 e3 hl ha
   subst e1 e2 e3
   have HAm : Hid (∀ q ∈ rs, amissE (c : Nat) (k : Nat) q.1 = false) := Lib.hid (fun q hq => ha q.1 (List.mem_map.2 ⟨q, hq, rfl⟩))
   have hZ2 : Py w W2 F c k (.slice na n nc) := ⟨HL.out.1.later hb2, HL.out.2.trans (hb2.mono HL.out.2.size)⟩
   have hw2 : w.heap.size < W2.heap.size := hZ2.f1.lt
   obtain ⟨k0, k1, k2, k3⟩ := hZ2.f1.cells4E
   obtain ⟨cs, hcs, hmk⟩ := makeLL_ex (n + 1) (by omega)
   have hmk' : ∀ W : World, (Instr.makeSlice 63 (.int .i64 0) (.int .i64 (1 + (n : Int)))).run Tryd.prog W = .ok (.slice (some ⟨W.heap.size, 0, none⟩) 0 (n + 1)) (W.alloc (.cells cs 56)) := fun W => by
     have := hmk W
     rwa [show ((n + 1 : Nat) : Int) = 1 + (n : Int) by omega] at this
   have hc6 : c ≤ 6 := by omega
   have hk16 : (k : Int) ≤ 16 := by omega
   have hcc : (c : Int) ≤ 6 := by omega
   clear hl ha hb2 HW HL hmk hc
   go_wp2_with fail
   obtain ⟨W3, hW3⟩ : ∃ W3, W2.alloc (.cells cs 56) = W3 := ⟨_, rfl⟩
   have hZ0 : Py w W3.drew F c k (.slice na n nc) := by
     rw [← hW3]; exact (hZ2.later ((Below.refl _ _).alloc (Nat.le_refl _) _)).later (Below.refl _ _).drew
   have hR : W3.drew.ownsRow W2.heap.size 56 1 (.slice (some ⟨W2.heap.size, 0, none⟩) 0 (n + 1)) 0 [] := by rw [← hW3]; exact own_room hcs (by omega)
   try rw [hW3]
   obtain ⟨i0, hi0, hz0, hz1, hz2⟩ := info_parts (show (Tryd.prog.info? 56).map (fun i => (i.zero, i.size, i.bytes)) = some (some (.slice none 0 0), 1, 24) by kernel_rfl)
   clear hW3 hmk' hcs hZ2 k0 k1 k2 k3
   refine wp_region_held_drew (S := (fun W => W.cell? ⟨w.heap.size, 0, none⟩ = some (.int .i64 (F : Nat)) ∧ W.cell? ⟨w.heap.size, 1, none⟩ = some (.int .i64 (c : Nat)) ∧ W.cell? ⟨w.heap.size, 2, none⟩ = some (.int .i64 (k : Nat)) ∧ W.cell? ⟨w.heap.size, 3, none⟩ = some (.slice na n nc) ∧ Py w W F c k (.slice na n nc))) (by kernel_rfl) hZ0.all (fun hS => ?_)
   refine takA (i := 0) (d := some 14) (v := .slice (some ⟨W2.heap.size, 0, none⟩) 0 (n + 1)) hS ?_
   simp only [AP]
   refine takA (i := 1) (d := some 15) (v := .pointer (some ⟨w.heap.size, 3, none⟩)) hS ?_
   simp only [AP]
   refine takA (i := 2) (d := some 16) (v := .slice na n nc) hS ?_
   simp only [AP]
   refine takA (i := 3) (d := some 17) (v := .int .i64 (n : Nat)) hS ?_
   simp only [AP]
   refine takA (i := 5) (d := some 19) (v := .pointer (some ⟨w.heap.size, 1, none⟩)) hS ?_
   simp only [AP]
   refine takA (i := 6) (d := some 20) (v := .int .i64 (c : Nat)) hS ?_
   simp only [AP]
   refine takA (i := 8) (d := some 22) (v := .pointer (some ⟨w.heap.size, 2, none⟩)) hS ?_
   simp only [AP]
   refine takA (i := 9) (d := some 23) (v := .int .i64 (k : Nat)) hS ?_
   simp only [AP]
   refine calA 4 fun KF hK => ?_
   go_simp
   go_wp2_with fail
   refine (show_any (n : Nat) ⟨by omega, by omega⟩ _ (HT8.out.later hS.2.2.2.2.bel)).mono ?_
   rintro e W21 ⟨rfl, hbx⟩
   replace hR := own_later hR hbx
   go_wp2_with fail
   refine hK.out _ _ ((hS.2.2.2.2.later hbx).all) ?_
   clear hS hbx
   intro hS
   clear hK KF
   try simp only [AP]
   refine calA 7 fun KF hK => ?_
   go_simp
   go_wp2_with fail
   refine (show_any (c : Nat) ⟨by omega, by omega⟩ _ (HT8.out.later hS.2.2.2.2.bel)).mono ?_
   rintro e W24 ⟨rfl, hbx⟩
   replace hR := own_later hR hbx
   go_wp2_with fail
   refine hK.out _ _ ((hS.2.2.2.2.later hbx).all) ?_
   clear hS hbx
   intro hS
   clear hK KF
   try simp only [AP]
   refine calA 10 fun KF hK => ?_
   go_simp
   go_wp2_with fail
   refine (show_any (k : Nat) ⟨by omega, by omega⟩ _ (HT8.out.later hS.2.2.2.2.bel)).mono ?_
   rintro e W27 ⟨rfl, hbx⟩
   replace hR := own_later hR hbx
   go_wp2_with fail
   refine hK.out _ _ ((hS.2.2.2.2.later hbx).all) ?_
   clear hS hbx
   intro hS
   clear hK KF
   try simp only [AP]
   refine calA 11 fun KF hK => ?_
   go_simp
   have hw27 : Hid (W2.heap.size < W27.heap.size) := Lib.hid (World.ownsRow.lt hR W2.heap.size rfl).2
   have hbx : Below W27.heap.size W27 (W27.alloc (.cells #[sv (itoa (n : Nat)), sv (itoa (c : Nat)), sv (itoa (k : Nat))] 9)) := (Below.refl _ _).alloc (Nat.le_refl _) _
   replace hR := own_later hR hbx
   have hF : Sr (W27.alloc (.cells #[sv (itoa (n : Nat)), sv (itoa (c : Nat)), sv (itoa (k : Nat))] 9)) W27.heap.size (.slice (some ⟨W27.heap.size, 0, none⟩) 3 3) [itoa (n : Nat), itoa (c : Nat), itoa (k : Nat)] := ⟨rfl, Or.inr ⟨W27.heap.size, 3, _, rfl, Nat.le_refl _, heap_alloc_new W27 _, by simp, by unfold maxLen; omega, rfl, rfl⟩⟩
   go_wp2_with fail
   refine hK.out _ _ ((hS.2.2.2.2.later hbx).all) ?_
   clear hS hbx
   intro hS
   clear hK KF
   try simp only [AP]
   refine calA 12 fun KF hK => ?_
   go_simp
   obtain ⟨W28, hW28⟩ : ∃ W28, W27.alloc (.cells #[sv (itoa (n : Nat)), sv (itoa (c : Nat)), sv (itoa (k : Nat))] 9) = W28 := ⟨_, rfl⟩
   have hz28 : Hid (W28.heap.size = W27.heap.size + 1) := Lib.hid (by rw [← hW28]; simp)
   rw [hW28] at hR hF hS ⊢
   clear hW28
   have hbx : Below W28.heap.size W28 (W28.alloc (.cells #[.slice (some ⟨W27.heap.size, 0, none⟩) 3 3] 56)) := (Below.refl _ _).alloc (Nat.le_refl _) _
   have hR2 := World.ownsRow.alloc hR (.cells #[.slice (some ⟨W27.heap.size, 0, none⟩) 3 3] 56)
   go_wp2_with fail
   refine hK.out _ _ ((hS.2.2.2.2.later hbx).all) ?_
   clear hS hbx
   intro hS
   clear hK KF
   try simp only [AP]
   refine calA 13 fun KF hK => ?_
   rw [if_pos (by rfl)]
   refine wp_append_own _ _ _ rfl W2.heap.size 56 i0 _ 1 24 Tryd.underlying63 hi0 hz0 hz1 hz2 rfl (by omega) (.slice (some ⟨W2.heap.size, 0, none⟩) 0 (n + 1)) 0 [] rfl hR2 ⟨W27.heap.size + 1, 0, none⟩ 1 1 [.slice (some ⟨W27.heap.size, 0, none⟩) 3 3] rfl rfl (by have hnw := World.news_of_block (cs := #[.slice (some ⟨W27.heap.size, 0, none⟩) 3 3]) (t := 56) (fr := (0, 0)) (heap_alloc_new W28 (.cells #[.slice (some ⟨W27.heap.size, 0, none⟩) 3 3] 56)); rw [hz28.out] at hnw; exact hnw) (by simp [Value.oneCell']) (by unfold maxLen; omega) (by omega) (by have : W2.heap.size < W28.heap.size := (World.ownsRow.lt hR W2.heap.size rfl).2; simp; omega) ?_
   intro v3 W31 hown hgrow
   have hz31 := hS.2.2.2.2.grown hgrow (by rintro b hb; cases hb; exact hw2)
   have hF31 := Sr.keptL (Sr.later hF ((Below.refl _ W28).alloc (Nat.le_refl _) _)) hR2 hgrow
   obtain ⟨va, vc, rfl⟩ := own_sliceE hown
   have hbx := True.intro
   refine hK.out _ _ hz31.all ?_
   clear hS hbx
   intro hS
   clear hK KF
   try simp only [AP]
   refine takA (i := 14) (d := some 4) (v := .slice va (0 + 1) vc) hS ?_
   simp only [AP]
   refine wpAnyH_done (by kernel_rfl) ?_ _
   have HZ := Lib.hid hS.2.2.2.2
   have HO : Hid (Orw W31 W2.heap.size (.slice va (0 + 1) vc) [([itoa (n : Nat), itoa (c : Nat), itoa (k : Nat)], .slice (some ⟨W27.heap.size, 0, none⟩) 3 3)]) := Lib.hid ⟨hown, fun q hq => by
     rw [List.mem_singleton.1 hq]; exact hF31.base (Nat.le_of_lt hw27.out)⟩
   have hw2' := Lib.hid hw2
   have k3 := HZ.out.f1.cell 3 (by simp)
   clear hS hown hgrow hR hR2 hF hF31 hz31 hZ0 hw27 hz28
   go_wp2_with fail
   clear k3
   go_loopw [4, 31] (fun s5 s34 wr => ∃ (j : Nat) (L : List Lv), s34 = .int .i64 (j : Nat) ∧ j ≤ n ∧ Hid (Py w wr F c k (.slice na n nc) ∧ Orw wr W2.heap.size s5 L ∧ ls1 L = [itoa (n : Nat), itoa (c : Nat), itoa (k : Nat)] :: rwsW p (F : Nat) 0 ((rs.map (·.1)).take j) ∧ L.length = j + 1)) (fun _ s34 _ => n - (RowKit.intOf s34).toNat)
   case atStart => exact ⟨0, _, rfl, by omega, HZ.out, HO.out, by simp [ls1, rwsW], rfl⟩
   case round =>
     obtain ⟨j, L, rfl, hj, hI⟩ := hrel
     have HZr := Lib.hid hI.out.1
     have HOr := Lib.hid hI.out.2.1
     have HLr := Lib.hid hI.out.2.2.1
     have HLn := Lib.hid hI.out.2.2.2
     clear hI
     by_cases hlt : j < n
     · have hlt' : (j : Int) < (n : Int) := by omega
       have hjl : Hid (j < rs.length) := Lib.hid (by rw [hn.out]; exact hlt)
       obtain ⟨q, hq⟩ : ∃ q, Hid (rs[j]? = some q) := ⟨_, Lib.hid (List.getElem?_eq_getElem hjl.out)⟩
       have HWo : Hid (Calls Tryd.prog 22 #[.agg #[.int .i64 (F : Nat), .int .i64 (c : Nat), .int .i64 (k : Nat), .slice na n nc], .int .i64 (j : Nat)] wr fun e w' => (∃ rv, e = .returned rv ∧ Sr w' wr.heap.size rv (rwW p (F : Nat) j q.1)) ∧ Below wr.heap.size wr w') := Lib.hid (by
         have hv' := HV.out.later HZr.out.bel
         rw [hn.out] at hv'
         obtain ⟨g1, g2, g3, g4⟩ := amissE_no.1 (HAm.out q (List.mem_of_getElem? hq.out))
         exact wordsOfE_any HP.out F c k _ rs j q wr hv' hq.out hF1 hc6 (by omega) (by omega) (by omega) (by omega) (fun m hm => stray_no (g2 m hm)) (HT8.out.later HZr.out.bel))
       obtain ⟨k0, k1, k2, k3⟩ := HZr.out.f1.cells4E
       have HNx : Hid ([itoa (n : Nat), itoa (c : Nat), itoa (k : Nat)] :: rwsW p (F : Nat) 0 ((rs.map (·.1)).take (j + 1)) = ([itoa (n : Nat), itoa (c : Nat), itoa (k : Nat)] :: rwsW p (F : Nat) 0 ((rs.map (·.1)).take j)) ++ [rwW p (F : Nat) j q.1]) := Lib.hid (by
         have hjo : j < (rs.map (·.1)).length := by simpa using hjl.out
         have e1 : (rs.map (·.1))[j] = q.1 := by
           have h9 : (rs.map (·.1))[j]? = some q.1 := by rw [List.getElem?_map, hq.out]; rfl
           exact (List.getElem?_eq_some_iff.1 h9).2
         rw [List.take_succ_eq_append_getElem hjo, rwsW_snoc, e1, List.length_take, Nat.zero_add, Nat.min_eq_left (Nat.le_of_lt hjo)]
         rfl)
       have hwr : Hid (W2.heap.size < wr.heap.size) := Lib.hid (by
         rcases HOr.out.own.2 with ⟨_, h2⟩ | ⟨g, cap, cur, h1, h2, _⟩
         · have := HLn.out; omega
         · have h3 := (World.ownsRow.lt HOr.out.own g (by rw [h1]; rfl)).2; omega)
       go_wp2_with (first
         | (go_at_call 22; refine HWo.out.mono ?_; rintro e W4 ⟨⟨rv, rfl, hrv⟩, hb4⟩; obtain ⟨ra, rc, rfl⟩ := own_sliceE hrv; have HZ4 := Lib.hid (HZr.out.later hb4); have HO4 := Lib.hid (HOr.out.later hb4); have HRv := Lib.hid (hrv.base (Nat.le_of_lt hwr.out)); have hs4 : Hid (W2.heap.size < W4.heap.size) := Lib.hid (Nat.lt_of_lt_of_le hwr.out hb4.size); clear hrv hb4)
         | (at_builtin; refine wpList_append_own _ rfl _ _ 63 rfl W2.heap.size 56 i0 (.slice none 0 0) 1 24 Tryd.underlying63 hi0 hz0 hz1 hz2 rfl (by decide) u4 L.length (L.map (·.2)) rfl (World.ownsRow.alloc HO4.out.own _) ⟨W4.heap.size, 0, none⟩ 1 1 [.slice ra (rwW p (F : Nat) j q.1).length rc] rfl rfl (World.news_of_block (cs := #[.slice ra (rwW p (F : Nat) j q.1).length rc]) (t := 56) (fr := (0, 0)) (heap_alloc_new W4 _)) (by simp [Value.oneCell']) (by unfold maxLen; have := HLn.out; omega) (by have := HLn.out; omega) (by have := hs4.out; simp; omega) ?_; intro v' W5 hown hgrow _; have HZ5 := Lib.hid ((HZ4.out.later ((Below.refl _ W4).alloc (Nat.le_refl _) _)).grown hgrow (fun b hb => by have := (World.ownsRow.lt HO4.out.own b hb).1; have := hw2'.out; omega)); have HO5 := Lib.hid (HO4.out.grew (q := (rwW p (F : Nat) j q.1, .slice ra (rwW p (F : Nat) j q.1).length rc)) HRv.out hown hgrow); clear hown hgrow))
       first
         | exact ⟨⟨j + 1, L ++ [(rwW p (F : Nat) j q.1, .slice ra (rwW p (F : Nat) j q.1).length rc)], by go_num, by omega, HZ5.out, HO5.out, by rw [HNx.out, ← HLr.out]; simp [ls1], by rw [List.length_append, HLn.out]; rfl⟩, by simp [RowKit.intOf]; omega⟩
         | (go_roundw
            case rel =>
              first
                | exact ⟨j + 1, L ++ [(rwW p (F : Nat) j q.1, .slice ra (rwW p (F : Nat) j q.1).length rc)], by go_num, by omega, HZ5.out, HO5.out, by rw [HNx.out, ← HLr.out]; simp [ls1], by rw [List.length_append, HLn.out]; rfl⟩
                | (refine ⟨_, _, _, _, _, _, _, _, _, _, _, _, ⟨j + 1, L ++ [(rwW p (F : Nat) j q.1, .slice ra (rwW p (F : Nat) j q.1).length rc)], ?_, by omega, HZ5.out, HO5.out, by rw [HNx.out, ← HLr.out]; simp [ls1], by rw [List.length_append, HLn.out]; rfl⟩, rfl⟩; go_num)
            case measure => simp [RowKit.intOf]; omega)
     · obtain rfl : j = n := by omega
       have HFin : Hid (ls1 L = feW p ⟨(F : Nat), (c : Nat), (k : Nat), rs.map (·.1)⟩) := Lib.hid (by
         rw [HLr.out, List.take_of_length_le (by simp [hn.out])]
         unfold feW
         simp [hn.out])
       obtain ⟨la, lc, hu5⟩ : ∃ la lc, u4 = .slice la L.length lc := own_sliceE HOr.out.own
       subst hu5
       have hll : Ll wr (.slice la L.length lc) L := HOr.out.ll (fun q hq x hx => by
         have := (HSo.out q.1 (by rw [← HFin.out]; exact List.mem_map.2 ⟨q, hq, rfl⟩)).1 x hx
         omega)
       have hmod : Mod L := ⟨by have := HLn.out; omega, fun q hq => by
         have := (HSo.out q.1 (by rw [← HFin.out]; exact List.mem_map.2 ⟨q, hq, rfl⟩)).2
         omega⟩
       have HWr : Hid (Calls Tryd.prog 23 #[.slice la L.length lc] wr fun e w' => e = .returned (.tuple #[sv (wrV (feW p ⟨(F : Nat), (c : Nat), (k : Nat), rs.map (·.1)⟩)).1, .int .i64 ((wrV (feW p ⟨(F : Nat), (c : Nat), (k : Nat), rs.map (·.1)⟩)).2 : Nat)]) ∧ Below wr.heap.size wr w') := Lib.hid (by
         have := write_any _ L wr hll hmod
         rwa [HFin.out] at this)
       obtain ⟨tx, htx⟩ : ∃ tx, (wrV (feW p ⟨(F : Nat), (c : Nat), (k : Nat), rs.map (·.1)⟩)).1 = tx := ⟨_, rfl⟩
       obtain ⟨er, her'⟩ : ∃ er, (wrV (feW p ⟨(F : Nat), (c : Nat), (k : Nat), rs.map (·.1)⟩)).2 = er := ⟨_, rfl⟩
       rw [htx, her'] at HWr HR
       obtain ⟨m, hm⟩ : ∃ m, L.length = m := ⟨_, rfl⟩
       rw [hm] at HWr ⊢
       have HB := Lib.hid HZr.out.bel
       clear hll hmod htx her'
       go_wp2_with fail
       refine HWr.out.mono ?_
       rintro e W9 ⟨rfl, hb9⟩
       have HB9 := Lib.hid (HB.out.trans (hb9.mono HB.out.size))
       clear hb9
       go_wp2
       go_ret2
       exact ⟨by rw [HR.out]; rfl, HB9.out⟩
end

/- The laws of layer 11: a file made anew: what of and to share. (gen_ega.py) -/
section
set_option maxRecDepth 100000
open Go.RowKit Go.Shelf Go.Lib
structure Eo (t : TypeId) (W : World) (B : Nat) (v : Value) (rs : List Rt) : Prop where
 own : W.ownsRow B t 2 v rs.length (rcs rs)
 sub : ∀ q ∈ rs, Co W B 3 q.2.1 (isV q.1.t) ∧ Co W B 35 q.2.2 (f64s q.1.a)
section
variable {t : TypeId} {W W' : World} {B : Nat} {v : Value} {rs : List Rt}
theorem Eo.nil (t : TypeId) (W : World) (B : Nat) : Eo t W B (.slice none 0 0) [] := ⟨World.ownsRow_nil _ _ _ _, fun q hq => by simp at hq⟩
theorem Eo.later (h : Eo t W B v rs) (hb : Below W.heap.size W W') : Eo t W' B v rs := ⟨own_later h.own hb, fun q hq => ⟨(h.sub q hq).1.later hb, (h.sub q hq).2.later hb⟩⟩
theorem Eo.base {B' : Nat} (h : Eo t W B v rs) (hb : B' ≤ B) : Eo t W B' v rs := ⟨own_base h.own hb, fun q hq => ⟨(h.sub q hq).1.base hb, (h.sub q hq).2.base hb⟩⟩
theorem Eo.ob {C : Nat} (h : Eo t W B v rs) (ho : Ob C W W') (hC : C < B) : Eo t W' B v rs := ⟨own_obE h.own ho hC, fun q hq => ⟨(h.sub q hq).1.ob ho hC, (h.sub q hq).2.ob ho hC⟩⟩
theorem Eo.grew {v' : Value} {q : Rt} (ht1 : 3 ≠ t) (ht2 : 35 ≠ t) (h : Eo t W B v rs) (hq : Co W B 3 q.2.1 (isV q.1.t) ∧ Co W B 35 q.2.2 (f64s q.1.a)) (hown : W'.ownsRow B t 2 v' (rs.length + 1) (rcs rs ++ [q.2.1, q.2.2])) (hg : W.grownBy W' v.ownBlock) : Eo t W' B v' (rs ++ [q]) := by
 refine ⟨by rw [List.length_append, rcs_app]; exact hown, fun s hs => ?_⟩
 have key : Co W B 3 s.2.1 (isV s.1.t) ∧ Co W B 35 s.2.2 (f64s s.1.a) := by
   rcases List.mem_append.1 hs with e | e
   · exact h.sub s e
   · rw [List.mem_singleton.1 e]; exact hq
 exact ⟨key.1.kept h.own ht1 hg, key.2.kept h.own ht2 hg⟩
theorem Eo.rv (h : Eo t W B v rs) (hr : ∀ q ∈ rs, (∀ n ∈ q.1.t, InR n) ∧ ∀ x ∈ q.1.a, x < 18446744073709551616) : Rv W v rs := by
 refine ⟨?_, fun p hp => ⟨(h.sub p hp).1.is (hr p hp).1, (h.sub p hp).2.fs (hr p hp).2⟩⟩
 have h0 := h.own
 rcases h.own.2 with ⟨h1, h2⟩ | ⟨g, cap, cur, rfl, _, h3, h4, h5, _⟩
 · have : rs = [] := List.length_eq_zero_iff.1 h2
   subst this
   exact ⟨none, 0, h1, by simp, by omega, Or.inl rfl⟩
 · refine ⟨_, cap, rfl, h4, by unfold maxLen at h5; omega, Or.inr ⟨g, 0, rfl, (World.ownsRow.lt h0 g rfl).2, fun k p hk => ?_⟩⟩
   have := rcs_at rs k p hk
   refine ⟨own_cellL h0 this.1, ?_⟩
   rw [Nat.add_assoc]; exact own_cellL h0 this.2
end
theorem Co.own {W : World} {B t n : Nat} {v : Value} {xs : List Value} (h : W.ownsRow B t 1 v n xs) : Co W B t v xs := by
 have hl : xs.length = n := by have := h.1; omega
 rcases h.2 with ⟨h1, h2⟩ | ⟨g, cap, cur, h1, h2, h3, h4, h5, h6, h7⟩
 · subst h1
   have : xs = [] := List.length_eq_zero_iff.1 (by omega)
   subst this
   exact Co.nil _ _ _
 · subst h1
   refine ⟨_, cap, by rw [hl], by omega, by unfold maxLen at h5; omega, Or.inr ⟨g, 0, cur, rfl, h2, h3, fun i u hu => ?_⟩⟩
   rw [← h7, List.getElem?_take] at hu
   split at hu
   · rw [Nat.zero_add]; simpa using hu
   · cases hu
section
variable {a : Act} {W : World} {o : Oper} {K : Act → World → Prop} {Q : Exit → Act → World → Prop} {x y : Option Addr} {n m c d : Nat}
theorem op_copy {s u b : Nat} {t e : TypeId} {i : TypeInfo} {z : Value} {xs : List Value} (ht : Tryd.prog.underlying t = some (.slice e)) (hi : Tryd.prog.info? e = some i) (hz : i.zero = some z) (hsize : i.size = 1) (hby : i.bytes = 8) (hzs : z.cells.size = 1)
   (ho : o.op = .call { callee := .builtin .append, args := #[.tmp s, .tmp u], argTypes := #[t, t] }) (hs : a.eval (.tmp s) = .slice (some ⟨b, 0, none⟩) 0 0) (hx : a.eval (.tmp u) = .slice x n c) (hsrc : Src Tryd.prog 1 t (.slice x n c) n xs W) (hn : n ≤ 1000000)
   (h0 : n = 0 → K (a.put o.dst (.slice (some ⟨b, 0, none⟩) 0 0)) W) (h1 : 0 < n → ∀ v' W', W'.ownsRow W.heap.size e 1 v' n xs → Below W.heap.size W W' → K (a.put o.dst v') W') : Oper.wp Tryd.prog o a W K Q := by
 unfold Oper.wp execOp
 have hl := hsrc.newsLen
 simp only [ho, resolve, invoke, builtin, Sem.run_bind, Sem.run_pure, Result.andThen_ok, List.map_toArray, List.map_cons, List.map_nil, hs, hx]
 by_cases hn0 : n = 0
 · subst hn0
   have : xs = [] := List.length_eq_zero_iff.1 (by omega)
   subst this
   rw [run_append_room_src (P := Tryd.prog) W t t o.type e i ht hi b 0 0 0 (.slice x 0 c) 0 [] (by rw [hsize]; exact hsrc) (by omega) (fun j hj => by simp at hj) (fun j hj => by simp at hj)]
   exact h0 rfl
 · have hold : (Builtin.firstCells i.size 0 (.slice (some ⟨b, 0, none⟩) 0 0)).run Tryd.prog W.drew = .ok ([] : List Value).toArray W.drew := run_firstCells_some W.drew i.size 0 ⟨b, 0, none⟩ 0 0 [] (by simp) (by simp)
   have hg : 0 < 0 + n := by omega
   rw [run_append_grow_src (P := Tryd.prog) W t t o.type e i z ht hi hz (some ⟨b, 0, none⟩) 0 0 [] hold (.slice x n c) n xs (by rw [hsize]; exact hsrc) hg (by omega) (growslice_fits hg (by rw [hby]; omega))]
   have hge := grownCap_ge W (0 + n) 0 e
   have hm := grownCap_le_maxLen W (0 + n) 0 e (by unfold maxLen; omega)
   have hge' : n ≤ grownCap W n 0 e := by rw [Nat.zero_add] at hge; exact hge
   refine h1 (by omega) _ _ ⟨by omega, Or.inr ⟨W.heap.size, _, _, by rw [Nat.zero_add], Nat.le_refl _, heap_alloc_new W.drew _, hge', by rw [Nat.zero_add] at hm; exact hm, ?_, ?_⟩⟩ (((Below.refl _ W).drew).alloc (Nat.le_refl _) _)
   · simp only [Array.size_append, List.size_toArray, size_zeroCells, hzs, List.nil_append, hl]
     rw [Nat.zero_add] at hge ⊢
     omega
   · simp only [List.nil_append, Array.toList_append]
     rw [show n * 1 = xs.length by omega]
     exact List.take_left
theorem op_mv {e : Operand} (ho : o.op = .move e) (h : K (a.put o.dst (a.eval e)) W) : Oper.wp Tryd.prog o a W K Q := by
 unfold Oper.wp execOp
 rw [ho]
 exact h
end
theorem src_ints {W : World} {x : Option Addr} {n c : Nat} {ts : List Int} (h : Is W (.slice x n c) ts) : Src Tryd.prog 1 31 (.slice x n c) n (isV ts) W := by
 obtain ⟨⟨a, d, e, h1, h2, h3⟩, _⟩ := h
 cases e
 rcases h3 with rfl | ⟨g, off, rfl, hc⟩
 · cases x with
   | none => exact Src.ofNil W (e' := 3) (by kernel_rfl) c
   | some ad => exact Src.ofSlice W (e' := 3) (by kernel_rfl) ad 0 c [] (by simp) (by simp) (by simp)
 · refine Src.ofSlice W (e' := 3) (by kernel_rfl) _ _ _ _ (by simp [isV]) (fun j u hj => ?_) (fun u hu => by obtain ⟨b, _, rfl⟩ := List.mem_map.1 hu; rfl)
   obtain ⟨hlt, rfl⟩ := List.getElem?_eq_some_iff.1 hj
   have hj' : j < ts.length := by simpa [isV] using hlt
   rw [Addr.add_lit, hc j hj']
   simp [isV, List.getD, List.getElem?_eq_getElem hj']
theorem src_floats {W : World} {x : Option Addr} {n c : Nat} {ts : List Nat} (h : Fs W (.slice x n c) ts) : Src Tryd.prog 1 32 (.slice x n c) n (f64s ts) W := by
 obtain ⟨⟨a, d, e, h1, h2, h3⟩, _⟩ := h
 cases e
 rcases h3 with rfl | ⟨g, off, rfl, hc⟩
 · cases x with
   | none => exact Src.ofNil W (e' := 35) (by kernel_rfl) c
   | some ad => exact Src.ofSlice W (e' := 35) (by kernel_rfl) ad 0 c [] (by simp) (by simp) (by simp)
 · refine Src.ofSlice W (e' := 35) (by kernel_rfl) _ _ _ _ (by simp [f64s]) (fun j u hj => ?_) (fun u hu => by obtain ⟨b, _, rfl⟩ := List.mem_map.1 hu; rfl)
   obtain ⟨hlt, rfl⟩ := List.getElem?_eq_some_iff.1 hj
   have hj' : j < ts.length := by simpa [f64s] using hlt
   rw [Addr.add_lit, hc j hj']
   simp [f64s, List.getD, List.getElem?_eq_getElem hj']
theorem makeE {W : World} {B t : Nat} (hB : B ≤ W.heap.size) : (W.alloc (.cells #[] t)).ownsRow B t 1 (.slice (some ⟨W.heap.size, 0, none⟩) 0 0) 0 [] := own_base (World.ownsRow_made W (e := t) (size := 1) #[] 0 (Nat.le_refl _) (Nat.zero_le _) rfl) hB
theorem bAlE (W : World) (o : Obj) : Below W.heap.size W (W.alloc o) := (Below.refl _ _).alloc (Nat.le_refl _) _
end

/- The laws of layer 11: large, Floats. -/
section
set_option maxRecDepth 100000
open Go.RowKit Go.Shelf Go.Lib
attribute [local go_sem] run_store_float
def sumE (rs : List Rt) : Nat := (rs.map fun q => q.1.t.length + q.1.a.length).sum
theorem sumE_take {rs : List Rt} {i : Nat} {q : Rt} (h : rs[i]? = some q) : sumE (rs.take (i + 1)) = sumE (rs.take i) + (q.1.t.length + q.1.a.length) := by
 obtain ⟨h1, h2⟩ := List.getElem?_eq_some_iff.1 h
 unfold sumE
 rw [List.take_succ_eq_append_getElem h1, h2]
 simp
theorem sumE_mem {rs : List Rt} {q : Rt} (h : q ∈ rs) : q.1.t.length + q.1.a.length ≤ sumE rs := by
 unfold sumE
 induction rs with
 | nil => simp at h
 | cons a r ih =>
   simp only [List.map_cons, List.sum_cons]
   rcases List.mem_cons.1 h with rfl | h
   · omega
   · have := ih h; omega
def LgE (rs : List Rt) (e : Ending) : Prop := ∃ b, e = .returned (.bool b) ∧ (b = false → rs.length ≤ 3000 ∧ ∀ q ∈ rs, q.1.t.length ≤ 3000 ∧ q.1.a.length ≤ 3000)
set_option maxHeartbeats 4000000 in
theorem large11_any (f c k : Int) (v : Value) (rs : List Rt) (w : World) (hv : Rv w v rs) (hl : ∀ q ∈ rs, q.1.t.length ≤ 140737488355328 ∧ q.1.a.length ≤ 140737488355328) (hn : rs.length ≤ 140737488355328) :
   Calls Tryd.prog 13 #[.agg #[.int .i64 f, .int .i64 c, .int .i64 k, v]] w fun e w' => LgE rs e ∧ Below w.heap.size w w' := by
 obtain ⟨a, nc, rfl, h1, h2, h3⟩ := hv.form
 obtain ⟨N, hN⟩ : ∃ N, Hid (rs.length = N) := ⟨_, Lib.hid rfl⟩
 rw [hN.out] at h1 hn ⊢
 obtain ⟨W, hW⟩ : ∃ W, w.alloc (.cells #[.int .i64 f, .int .i64 c, .int .i64 k, .slice a N nc] 42) = W := ⟨_, rfl⟩
 have bw : Below w.heap.size w W := by rw [← hW]; exact (Below.refl _ w).alloc (Nat.le_refl _) _
 have cf : CB W w.heap.size #[.int .i64 f, .int .i64 c, .int .i64 k, .slice a N nc] 42 := by rw [← hW]; exact CB.new w _ _
 have k3 := cf.cell 3 (by simp)
 have HB := Lib.hid (And.intro cf bw)
 have HL := Lib.hid hl
 have H3 := Lib.hid h3
 have HS := Lib.hid hv.sub
 have hN' : (N : Int) ≤ 140737488355328 := by omega
 clear hv hl h3 bw cf
 go_enter Tryd.func13, Tryd.ntmps13
 go_wp2_with fail
 try rw [hW]
 clear hW k3
 go_loopw [3, 4] (fun s3 s4 wr => ∃ i : Nat, s4 = .int .i64 (i : Nat) ∧ i ≤ N ∧ N + sumE (rs.take i) ≤ 600000000000000 ∧ s3 = .int .i64 ((N + sumE (rs.take i) : Nat) : Int) ∧ Hid (CB wr w.heap.size #[.int .i64 f, .int .i64 c, .int .i64 k, .slice a N nc] 42 ∧ Below w.heap.size w wr)) (fun s3 s4 _ => N - (RowKit.intOf s4).toNat)
 case atStart => exact ⟨0, rfl, by omega, by simp [sumE]; omega, by simp [sumE], HB.out⟩
 case round =>
   obtain ⟨i, rfl, hi1, hsum, rfl, hI⟩ := hrel
   obtain ⟨sm, hsm⟩ : ∃ sm, Hid (N + sumE (rs.take i) = sm) := ⟨_, Lib.hid rfl⟩
   rw [hsm.out] at hsum ⊢
   have hsum' : (sm : Int) ≤ 600000000000000 := by omega
   have HI := Lib.hid hI.out
   have j3 := hI.out.1.cell 3 (by simp)
   clear hI
   by_cases hlt : i < N
   · have hlt' : (i : Int) < (N : Int) := by omega
     have hi0 : (0 : Int) ≤ (i : Int) := by omega
     by_cases hs : (sm : Int) < 3000
     · obtain ⟨q, hq⟩ : ∃ q, rs[i]? = some q := ⟨_, List.getElem?_eq_getElem (by rw [hN.out]; omega)⟩
       have hqm := List.mem_of_getElem? hq
       obtain ⟨g, off, rfl, hg, hcell⟩ := H3.out.resolve_left (fun e => by rw [e] at hqm; simp at hqm)
       obtain ⟨ta, tc, htv, _⟩ := (HS.out q hqm).1.form
       obtain ⟨aa, ac, hav, _⟩ := (HS.out q hqm).2.form
       obtain ⟨x0, x1⟩ := hcell i q hq
       rw [htv] at x0
       rw [hav] at x1
       have hql := HL.out q hqm
       have HTk := Lib.hid (sumE_take hq)
       obtain ⟨tl, htl⟩ : ∃ ln, Hid (q.1.t.length = ln) := ⟨_, Lib.hid rfl⟩
       obtain ⟨al, hal⟩ : ∃ ln, Hid (q.1.a.length = ln) := ⟨_, Lib.hid rfl⟩
       rw [htl.out] at x0 hql
       rw [hal.out] at x1 hql
       have hq1 : (tl : Int) ≤ 140737488355328 := by omega
       have hq2 : (al : Int) ≤ 140737488355328 := by omega
       obtain ⟨W4, hW4⟩ : ∃ W4, wr.drew = W4 := ⟨_, rfl⟩
       have b4 : Below w.heap.size w W4 := by rw [← hW4]; exact HI.out.2.drew
       have c4 : CB W4 w.heap.size #[.int .i64 f, .int .i64 c, .int .i64 k, .slice (some ⟨g, off, none⟩) N nc] 42 := by rw [← hW4]; exact HI.out.1
       have y3 := c4.cell 3 (by simp)
       have x0 := cell_later b4 hg x0
       have x1 := cell_later b4 hg x1
       have H4 := Lib.hid (And.intro c4 b4)
       clear hcell hqm htv hav hq b4 c4
       go_wp2_with fail
       go_region
       all_goals
         go_wp2
         have e : (sm : Int) + (tl : Int) + (al : Int) = ((N + sumE (rs.take (i + 1)) : Nat) : Int) := by rw [HTk.out, htl.out, hal.out]; have := hsm.out; omega
         refine ⟨⟨i + 1, by go_num, by omega, by omega, ?_, H4.out⟩, by simp [RowKit.intOf]; omega⟩
         rw [← e]
     · have hs' : (3000 : Int) ≤ (sm : Int) := by omega
       go_wp2
       go_ret
       exact ⟨⟨true, rfl, fun h => by cases h⟩, HI.out.2⟩
   · obtain rfl : N = i := by omega
     have HAll : Hid ((sm : Int) < 3000 → N ≤ 3000 ∧ ∀ q ∈ rs, q.1.t.length ≤ 3000 ∧ q.1.a.length ≤ 3000) := Lib.hid (fun h1 => by
       have h4 := hsm.out
       rw [List.take_of_length_le (by rw [hN.out]; exact Nat.le_refl _)] at h4
       refine ⟨by omega, fun q hq => ?_⟩
       have h3 := sumE_mem hq
       omega)
     by_cases hs : (3000 : Int) ≤ (sm : Int)
     · go_wp2
       go_ret
       exact ⟨⟨true, rfl, fun h => by cases h⟩, HI.out.2⟩
     · have hs' : ¬ (3000 : Int) ≤ (sm : Int) := hs
       go_wp2
       go_ret
       have hh := HAll.out (by omega)
       exact ⟨⟨false, rfl, fun _ => by rw [hN.out]; exact hh⟩, HI.out.2⟩
set_option maxHeartbeats 4000000 in
theorem floats11_any (v u : Value) (xs ys : List Nat) (w : World) (ha : Fs w v xs) (hb : Fs w u ys) (hs : FEs xs ys) (hl : xs.length ≤ 1000000) :
   Calls Tryd.prog 27 #[v, u] w fun e w' => e = .returned (.bool true) ∧ Below w.heap.size w w' := by
 obtain ⟨hlen, hat⟩ := hs
 obtain ⟨⟨aa, ac, rfl, ha1, ha2, ha3⟩, _⟩ := ha
 obtain ⟨⟨ba, bc, rfl, hb1, hb2, hb3⟩, _⟩ := hb
 rw [← hlen] at hb1 hb3 ⊢
 obtain ⟨N, hN⟩ : ∃ N, Hid (xs.length = N) := ⟨_, Lib.hid rfl⟩
 rw [hN.out] at hl ⊢
 have hl' : (N : Int) ≤ 1000000 := by omega
 have Hlen := Lib.hid hlen
 have HAt := Lib.hid hat
 have HA3 := Lib.hid ha3
 have HB3 := Lib.hid hb3
 clear hat ha3 hb3 hlen ha1 hb1 ha2 hb2
 go_enter Tryd.func27, Tryd.ntmps27
 go_wp2_with fail
 go_loopw [5] (fun s5 wr => ∃ i : Nat, s5 = .int .i64 (i : Nat) ∧ i ≤ N ∧ Hid (Below w.heap.size w wr)) (fun s5 _ => N - (RowKit.intOf s5).toNat)
 case atStart => exact ⟨0, rfl, by omega, Lib.hid (Below.refl _ w)⟩
 case round =>
   obtain ⟨i, rfl, hi1, hBr⟩ := hrel
   by_cases hlt : i < N
   · have hlt' : (i : Int) < (N : Int) := by omega
     have hi0 : (0 : Int) ≤ (i : Int) := by omega
     have hqi : i < xs.length := by rw [hN.out]; exact hlt
     have hri : i < ys.length := by rw [← Hlen.out]; exact hqi
     obtain ⟨g, off, rfl, hca⟩ := HA3.out.resolve_left (fun e => by rw [e] at hqi; simp at hqi)
     obtain ⟨g2, off2, rfl, hcb⟩ := HB3.out.resolve_left (fun e => by rw [e] at hri; simp at hri)
     obtain ⟨W4, hW4⟩ : ∃ W4, wr.drew = W4 := ⟨_, rfl⟩
     have b4 : Below w.heap.size w W4 := by rw [← hW4]; exact hBr.out.drew
     have x0 := box_cell b4 (hca i hqi)
     have x1 := box_cell b4 (hcb i hqi)
     have hfe := HAt.out i hqi
     unfold FE at hfe
     generalize xs.getD i 0 = u at *
     generalize ys.getD i 0 = u2 at *
     have H4 := Lib.hid b4
     clear hca hcb HA3 HB3 HAt hqi hri b4
     go_wp2_with fail
     go_region
     all_goals
       go_wp2
       exact ⟨⟨i + 1, by go_num, by omega, H4⟩, by simp [RowKit.intOf]; omega⟩
   · obtain rfl : N = i := by omega
     go_wp2
     go_ret
     exact ⟨rfl, hBr.out⟩
end

/- The laws of layer 11: what is read is written, and is the same: plain. -/
section
set_option maxRecDepth 100000
open Go.RowKit Go.Shelf Go.Lib
end

/- The laws of layer 11: of: a file made anew. (gen_ega.py) -/
section
set_option maxRecDepth 100000
open Go.RowKit Go.Shelf Go.Lib
attribute [local go_sem] run_store_float
section
variable {a : Act} {W : World} {o : Oper} {K : Act → World → Prop} {Q : Exit → Act → World → Prop} {x y : Option Addr} {n m c d : Nat}
theorem oof_fldD {t B : Nat} (ho : o.op = .fieldAddr 42 (.tmp t) 3) (hv : a.eval (.tmp t) = .pointer (some ⟨B, 0, none⟩)) (h : K (a.put o.dst (.pointer (some ⟨B, 3, none⟩))) W) : Oper.wp Tryd.prog o a W K Q := by
 unfold Oper.wp execOp
 rw [ho]
 simp only [hv]
 go_simp
 exact h
theorem oof_fldS {t B : Nat} (ho : o.op = .fieldAddr 28 (.tmp t) 3) (hv : a.eval (.tmp t) = .pointer (some ⟨B, 0, none⟩)) (h : K (a.put o.dst (.pointer (some ⟨B, 3, none⟩))) W) : Oper.wp Tryd.prog o a W K Q := by
 unfold Oper.wp execOp
 rw [ho]
 simp only [hv]
 go_simp
 exact h
theorem oof_fldT {t g f : Nat} (ho : o.op = .fieldAddr 34 (.tmp t) 0) (hv : a.eval (.tmp t) = .pointer (some ⟨g, f, none⟩)) (h : K (a.put o.dst (.pointer (some ⟨g, f, none⟩))) W) : Oper.wp Tryd.prog o a W K Q := by
 unfold Oper.wp execOp
 rw [ho]
 simp only [hv]
 go_simp
 exact h
theorem oof_fldA {t g f : Nat} (ho : o.op = .fieldAddr 34 (.tmp t) 1) (hv : a.eval (.tmp t) = .pointer (some ⟨g, f, none⟩)) (h : K (a.put o.dst (.pointer (some ⟨g, f + 1, none⟩))) W) : Oper.wp Tryd.prog o a W K Q := by
 unfold Oper.wp execOp
 rw [ho]
 simp only [hv]
 go_simp
 exact h
theorem oof_ldD {t B f : Nat} (ho : o.op = .load 40 (.tmp t)) (hv : a.eval (.tmp t) = .pointer (some ⟨B, f, none⟩)) (hc : W.cell? ⟨B, f, none⟩ = some (.slice x n c)) (h : K (a.put o.dst (.slice x n c)) W) : Oper.wp Tryd.prog o a W K Q := by
 unfold Oper.wp execOp
 rw [ho]
 simp only [hv]
 go_simp
 exact h
theorem oof_ldS {t B f : Nat} (ho : o.op = .load 26 (.tmp t)) (hv : a.eval (.tmp t) = .pointer (some ⟨B, f, none⟩)) (hc : W.cell? ⟨B, f, none⟩ = some (.slice x n c)) (h : K (a.put o.dst (.slice x n c)) W) : Oper.wp Tryd.prog o a W K Q := by
 unfold Oper.wp execOp
 rw [ho]
 simp only [hv]
 go_simp
 exact h
theorem oof_ldT {t B f : Nat} (ho : o.op = .load 31 (.tmp t)) (hv : a.eval (.tmp t) = .pointer (some ⟨B, f, none⟩)) (hc : W.cell? ⟨B, f, none⟩ = some (.slice x n c)) (h : K (a.put o.dst (.slice x n c)) W) : Oper.wp Tryd.prog o a W K Q := by
 unfold Oper.wp execOp
 rw [ho]
 simp only [hv]
 go_simp
 exact h
theorem oof_ldA {t B f : Nat} (ho : o.op = .load 32 (.tmp t)) (hv : a.eval (.tmp t) = .pointer (some ⟨B, f, none⟩)) (hc : W.cell? ⟨B, f, none⟩ = some (.slice x n c)) (h : K (a.put o.dst (.slice x n c)) W) : Oper.wp Tryd.prog o a W K Q := by
 unfold Oper.wp execOp
 rw [ho]
 simp only [hv]
 go_simp
 exact h
theorem oof_ix {t u g f i : Nat} (ho : o.op = .indexAddr 26 (.tmp t) (.tmp u)) (hv : a.eval (.tmp t) = .slice (some ⟨g, f, none⟩) n c) (hu : a.eval (.tmp u) = .int .i64 (i : Nat)) (hi : (i : Int) < (n : Int)) (hi0 : (0 : Int) ≤ (i : Int)) (h : K (a.put o.dst (.pointer (some ⟨g, f + i * 2, none⟩))) W) : Oper.wp Tryd.prog o a W K Q := by
 unfold Oper.wp execOp
 rw [ho]
 simp only [hv, hu]
 go_simp
 exact h
theorem oof_nilT (ho : o.op = .buildSlice 31 0 #[]) (h : K (a.put o.dst (.slice (some ⟨W.heap.size, 0, none⟩) 0 0)) (W.alloc (.cells #[] 3))) : Oper.wp Tryd.prog o a W K Q := by
 unfold Oper.wp execOp
 rw [ho]
 simp only [List.map_toArray, List.map_nil]
 go_simp
 exact h
theorem oof_nilA (ho : o.op = .buildSlice 32 0 #[]) (h : K (a.put o.dst (.slice (some ⟨W.heap.size, 0, none⟩) 0 0)) (W.alloc (.cells #[] 35))) : Oper.wp Tryd.prog o a W K Q := by
 unfold Oper.wp execOp
 rw [ho]
 simp only [List.map_toArray, List.map_nil]
 go_simp
 exact h
theorem oof_row {t u : Nat} (ho : o.op = .build 51 #[(0, .tmp t), (1, .tmp u)]) (hv : a.eval (.tmp t) = .slice x n c) (hu : a.eval (.tmp u) = .slice y m d) (h : K (a.put o.dst (.agg #[.slice x n c, .slice y m d])) W) : Oper.wp Tryd.prog o a W K Q := by
 unfold Oper.wp execOp
 rw [ho]
 simp only [List.map_toArray, List.map_cons, List.map_nil, hv, hu]
 go_simp
 exact h
theorem oof_one {t : Nat} (ho : o.op = .buildSlice 40 1 #[(0, .tmp t)]) (hv : a.eval (.tmp t) = .agg #[.slice x n c, .slice y m d]) (h : K (a.put o.dst (.slice (some ⟨W.heap.size, 0, none⟩) 1 1)) (W.alloc (.cells #[.slice x n c, .slice y m d] 51))) : Oper.wp Tryd.prog o a W K Q := by
 unfold Oper.wp execOp
 rw [ho]
 simp only [List.map_toArray, List.map_cons, List.map_nil, hv]
 go_simp
 exact h
end
structure Zof (w W : World) (f c k : Int) (lv gv : Value) (rs' : List Rt) : Prop where
 bel : Below w.heap.size w W
 fb : CB W w.heap.size #[.int .i64 f, .int .i64 c, .int .i64 k, lv] 28
 rb : CB W (w.heap.size + 1) fe4 42
 gb : CB W (w.heap.size + 2) #[.int .i64 f, .int .i64 c, .int .i64 k, gv] 42
 er : Eo 51 W (w.heap.size + 3) gv rs'
theorem Zof.later {w W W' : World} {f c k : Int} {lv gv : Value} {rs' : List Rt} (h : Zof w W f c k lv gv rs') (hb : Below W.heap.size W W') : Zof w W' f c k lv gv rs' := ⟨h.bel.trans (hb.mono h.bel.size), h.fb.later hb, h.rb.later hb, h.gb.later hb, h.er.later hb⟩
theorem Zof.append {w W W2 : World} {f c k : Int} {lv gv gv' : Value} {rs' : List Rt} {q : Rt} (h : Zof w W f c k lv gv rs') (hq : Co W (w.heap.size + 3) 3 q.2.1 (isV q.1.t) ∧ Co W (w.heap.size + 3) 35 q.2.2 (f64s q.1.a)) (hown : W2.ownsRow (w.heap.size + 3) 51 2 gv' (rs'.length + 1) (rcs rs' ++ [q.2.1, q.2.2])) (hg : W.grownBy W2 gv.ownBlock) :
   (W2.cell? ⟨w.heap.size + 2, 3, none⟩ = some gv ∧ W2.frozen? ⟨w.heap.size + 2, 3, none⟩ = false) ∧ Zof w (W2.setCell ⟨w.heap.size + 2, 3, none⟩ gv') f c k lv gv' (rs' ++ [q]) := by
 have cb : ∀ {b t : Nat} {cs : Array Value}, CB W b cs t → b < w.heap.size + 3 → CB W2 b cs t := fun hc hb => by
   unfold CB
   rw [hg.block _ hc.lt (fun e => by have := (h.er.own.lt _ e.symm).1; omega)]; exact hc
 have hfb := cb h.fb (by omega)
 have hrb := cb h.rb (by omega)
 have hgb := cb h.gb (by omega)
 have her := h.er.grew (by decide) (by decide) hq hown hg
 have ho := Ob.set (w.heap.size + 2) 3 W2 gv'
 have hb2 : Below w.heap.size w W2 := h.bel.grown hg h.bel.size (fun b hb => by have := (h.er.own.lt b hb).1; omega)
 exact ⟨⟨hgb.cell 3 (by simp), hgb.frozen 3⟩, hb2.setCell (by show w.heap.size ≤ w.heap.size + 2; omega) _, hfb.other (by omega) _, hrb.other (by omega) _, by have := hgb.set 3 gv'; simpa using this, her.ob ho (by omega)⟩
def Fof (Bf Bg B3 : Nat) (ga : Option Addr) (gn gc : Nat) (g off N nc i : Nat) (ta : Option Addr) (tl tc : Nat) (aa : Option Addr) (al ac : Nat) (ts : List Int) (ls : List Nat) (j : Nat) (v : Value) (W : World) : Prop := match j with
 | 0 => v = .pointer (some ⟨Bg, 3, none⟩)
 | 1 => v = .slice ga gn gc
 | 2 => (∃ b, v = .slice (some ⟨b, 0, none⟩) 0 0) ∧ W.ownsRow B3 3 1 v 0 []
 | 3 => v = .pointer (some ⟨Bf, 3, none⟩)
 | 4 => v = .slice (some ⟨g, off, none⟩) N nc
 | 5 => v = .int .i64 (i : Nat)
 | 6 => v = .pointer (some ⟨g, off + i * 2, none⟩)
 | 7 => v = .pointer (some ⟨g, off + i * 2, none⟩)
 | 8 => v = .slice ta tl tc
 | 9 => W.ownsRow B3 3 1 v tl (isV ts)
 | 10 => (∃ b, v = .slice (some ⟨b, 0, none⟩) 0 0) ∧ W.ownsRow B3 35 1 v 0 []
 | 11 => v = .pointer (some ⟨Bf, 3, none⟩)
 | 12 => v = .slice (some ⟨g, off, none⟩) N nc
 | 13 => v = .int .i64 (i : Nat)
 | 14 => v = .pointer (some ⟨g, off + i * 2, none⟩)
 | 15 => v = .pointer (some ⟨g, off + i * 2 + 1, none⟩)
 | 16 => v = .slice aa al ac
 | 17 => W.ownsRow B3 35 1 v al (f64s ls)
 | 18 => ∃ tv av, v = .agg #[tv, av] ∧ W.ownsRow B3 3 1 tv tl (isV ts) ∧ W.ownsRow B3 35 1 av al (f64s ls)
 | 19 => ∃ b tv av, v = .slice (some ⟨b, 0, none⟩) 1 1 ∧ CB W b #[tv, av] 51 ∧ W.ownsRow B3 3 1 tv tl (isV ts) ∧ W.ownsRow B3 35 1 av al (f64s ls)
 | _ => True
theorem Fof_stab {Bf Bg B3 : Nat} {ga : Option Addr} {gn gc : Nat} {g off N nc i : Nat} {ta : Option Addr} {tl tc : Nat} {aa : Option Addr} {al ac : Nat} {ts : List Int} {ls : List Nat} : ∀ j v w w', Fof Bf Bg B3 ga gn gc g off N nc i ta tl tc aa al ac ts ls j v w → Below w.heap.size w w' → Fof Bf Bg B3 ga gn gc g off N nc i ta tl tc aa al ac ts ls j v w' := by
 intro j v w w' h hb
 by_cases hj : j < 20
 · have hc : j = 0 ∨ j = 1 ∨ j = 2 ∨ j = 3 ∨ j = 4 ∨ j = 5 ∨ j = 6 ∨ j = 7 ∨ j = 8 ∨ j = 9 ∨ j = 10 ∨ j = 11 ∨ j = 12 ∨ j = 13 ∨ j = 14 ∨ j = 15 ∨ j = 16 ∨ j = 17 ∨ j = 18 ∨ j = 19 := by omega
   rcases hc with rfl | rfl | rfl | rfl | rfl | rfl | rfl | rfl | rfl | rfl | rfl | rfl | rfl | rfl | rfl | rfl | rfl | rfl | rfl | rfl
   · exact h
   · exact h
   · exact ⟨h.1, own_later h.2 hb⟩
   · exact h
   · exact h
   · exact h
   · exact h
   · exact h
   · exact h
   · exact own_later (show w.ownsRow B3 3 1 v tl (isV ts) from h) hb
   · exact ⟨h.1, own_later h.2 hb⟩
   · exact h
   · exact h
   · exact h
   · exact h
   · exact h
   · exact h
   · exact own_later (show w.ownsRow B3 35 1 v al (f64s ls) from h) hb
   · obtain ⟨tv, av, h1, h2, h3⟩ := h
     exact ⟨tv, av, h1, own_later h2 hb, own_later h3 hb⟩
   · obtain ⟨b, tv, av, h1, h2, h3, h4⟩ := h
     exact ⟨b, tv, av, h1, h2.later hb, own_later h3 hb, own_later h4 hb⟩
 · have e : ∀ j, ¬ j < 20 → ∀ v W, Fof Bf Bg B3 ga gn gc g off N nc i ta tl tc aa al ac ts ls j v W := fun j hj v W => by
     unfold Fof
     split <;> first | trivial | omega
   exact e j hj v w'
end
end Go.Proofs.YtgoadpnoagaflaaDoor
