/- Own texts, put together: Efn Efo Ega Egb Egc Egh. -/
import Derived.Test.YtgoadpnoagaflaaGreatDoorQ3
import Derived.Test.YtgoadpnoagaflaaGreatDoorQ5
import Derived.Test.YtgoadpnoagaflaaGreatDoorQ9
import Derived.Test.YtgoadpnoagaflaaGreatDoorQ35
import Derived.Test.YtgoadpnoagaflaaGreatDoorQ41
import Derived.Deep.AppendSrc
namespace Go.Proofs.YtgoadpnoagaflaaGreatDoor
/- Package elefile: wordsOf. -/
section
set_option maxRecDepth 100000
open Go.RowKit Go.Shelf Go.Lib
attribute [local go_sem] run_store_float
structure Wy (w W : World) (F c k : Nat) (lv tv av : Value) : Prop where
 fb : CB W w.heap.size #[.int .i64 (F : Nat), .int .i64 (c : Nat), .int .i64 (k : Nat), lv] 32
 rb : CB W (w.heap.size + 1) #[tv, av] 42
 bel : Below w.heap.size w W
theorem Wy.later {w W W' : World} {F c k : Nat} {lv tv av : Value} (h : Wy w W F c k lv tv av) (hb : Below W.heap.size W W') : Wy w W' F c k lv tv av := ⟨h.fb.later hb, h.rb.later hb, h.bel.trans (hb.mono h.bel.size)⟩
theorem Wy.grown {w W W' : World} {F c k : Nat} {lv tv av : Value} {row : Option Nat} (h : Wy w W F c k lv tv av) (hg : W.grownBy W' row) (hr : ∀ b, row = some b → w.heap.size + 2 ≤ b) : Wy w W' F c k lv tv av := by
 have cb : ∀ {b t : Nat} {cs : Array Value}, CB W b cs t → b < w.heap.size + 2 → CB W' b cs t := fun hc hb => by
   unfold CB
   rw [hg.block _ hc.lt (fun e => by have := hr _ e.symm; omega)]; exact hc
 exact ⟨cb h.fb (by omega), cb h.rb (by omega), h.bel.grown hg h.bel.size (fun b hb => by have := hr b hb; omega)⟩
theorem srE_size {W : World} {B : Nat} {v : Value} {pre : List Bs} (h : Sr W B v pre) (hl : pre ≠ []) : B < W.heap.size := by
 rcases h.2 with ⟨_, h2⟩ | ⟨g, cap, cur, rfl, h2, _⟩
 · exact absurd (List.length_eq_zero_iff.1 h2) hl
 · have := (World.ownsRow.lt h g rfl).2; omega
set_option maxHeartbeats 16000000 in
theorem wordsOfE_any {p : Pm} (hp : p.Ok) (F c k : Nat) (v : Value) (rs : List Rt) (i : Nat) (q : Rt) (w : World) (hv : Rv w v rs) (hi : rs[i]? = some q) (hF : F ≤ 1) (hc : c ≤ 6) (hk : k ≤ 16) (hi2 : i ≤ 2000000) (htl : q.1.t.length ≤ 16) (hql : q.1.a.length ≤ 16) (hst : ∀ n ∈ q.1.t, 0 ≤ n ∧ n < 1048576) (hT : T8 w) :
   Calls Tryz.prog 13 #[.agg #[.int .i64 (F : Nat), .int .i64 (c : Nat), .int .i64 (k : Nat), v], .int .i64 (i : Nat)] w fun e w' => (∃ rv, e = .returned rv ∧ Sr w' w.heap.size rv (rwW p (F : Nat) i q.1)) ∧ Below w.heap.size w w' := by
 have HP := Lib.hid hp
 have HT8 := Lib.hid hT
 have hil : i < rs.length := (List.getElem?_eq_some_iff.1 hi).1
 have hqm := List.mem_of_getElem? hi
 obtain ⟨his, hfs⟩ := hv.sub q hqm
 obtain ⟨na, nc, rfl, h1, h2, h3⟩ := hv.form
 obtain ⟨g, off, rfl, hg, hcell⟩ := h3.resolve_left (fun e => by rw [e] at hi; simp at hi)
 obtain ⟨p1, p2⟩ := hcell i q hi
 obtain ⟨⟨ts, ls⟩, tv, av⟩ := q
 try dsimp only at p1 p2 his hfs htl hql hst ⊢
 obtain ⟨ta, tc, rfl, t1, t2, t3⟩ := his.form
 obtain ⟨aa, ac, rfl, a1, a2, a3⟩ := hfs.form
 obtain ⟨N, hN⟩ : ∃ N, rs.length = N := ⟨_, rfl⟩
 obtain ⟨tl, htle⟩ : ∃ tl, Hid (ts.length = tl) := ⟨_, Lib.hid rfl⟩
 obtain ⟨ql, hqle⟩ : ∃ ql, Hid (ls.length = ql) := ⟨_, Lib.hid rfl⟩
 rw [hN] at h1 hil ⊢
 have HIs := Lib.hid his
 have HFs := Lib.hid hfs
 have HSt := Lib.hid hst
 have HIm := Lib.hid t3
 have HFm := Lib.hid a3
 rw [htle.out] at p1 htl
 rw [hqle.out] at p2 hql
 obtain ⟨cs, hcs, hmk⟩ := makeS_ex (1 + c + k) (by omega)
 have hmk' : ∀ W : World, (Instr.makeSlice 48 (.int .i64 0) (.int .i64 (1 + (c : Int) + (k : Int)))).run Tryz.prog W = .ok (.slice (some ⟨W.heap.size, 0, none⟩) 0 (1 + c + k)) (W.alloc (.cells cs 9)) := fun W => by
   have := hmk W
   rwa [show ((1 + c + k : Nat) : Int) = 1 + (c : Int) + (k : Int) by omega] at this
 have hi3 : (i : Int) < (N : Int) := by omega
 have hi4 : (0 : Int) ≤ (i : Int) := by omega
 have hi5 : (i : Int) ≤ 2000000 := by omega
 have hk' : (k : Int) ≤ 16 := by omega
 have hc' : (c : Int) ≤ 6 := by omega
 have hF' : (F : Int) ≤ 1 := by omega
 have htl' : (tl : Int) ≤ 16 := by omega
 have hql' : (ql : Int) ≤ 16 := by omega
 obtain ⟨i0, hi0, hz0, hz1, hz2⟩ := info_parts (show (Tryz.prog.info? 9).map (fun i => (i.zero, i.size, i.bytes)) = some (some (.string ⟨#[]⟩), 1, 16) by kernel_rfl)
 obtain ⟨W3, hW3⟩ : ∃ W3, ((w.alloc (.cells #[.int .i64 (F : Nat), .int .i64 (c : Nat), .int .i64 (k : Nat), .slice (some ⟨g, off, none⟩) N nc] 32)).alloc (.cells #[.slice ta tl tc, .slice aa ql ac] 42)).alloc (.cells cs 9) = W3 := ⟨_, rfl⟩
 have hZ : Wy w W3 F c k (.slice (some ⟨g, off, none⟩) N nc) (.slice ta tl tc) (.slice aa ql ac) := by
   rw [← hW3]
   have c1 := CB.new w #[.int .i64 (F : Nat), .int .i64 (c : Nat), .int .i64 (k : Nat), .slice (some ⟨g, off, none⟩) N nc] 32
   have c2 := CB.new (w.alloc (.cells #[.int .i64 (F : Nat), .int .i64 (c : Nat), .int .i64 (k : Nat), .slice (some ⟨g, off, none⟩) N nc] 32)) #[.slice ta tl tc, .slice aa ql ac] 42
   have hz1 : Wy w ((w.alloc (.cells #[.int .i64 (F : Nat), .int .i64 (c : Nat), .int .i64 (k : Nat), .slice (some ⟨g, off, none⟩) N nc] 32)).alloc (.cells #[.slice ta tl tc, .slice aa ql ac] 42)) F c k (.slice (some ⟨g, off, none⟩) N nc) (.slice ta tl tc) (.slice aa ql ac) := ⟨c1.later ((Below.refl _ _).alloc (Nat.le_refl _) _), by rwa [World.size_alloc] at c2, ((Below.refl _ w).alloc (Nat.le_refl _) _).alloc (by simp) _⟩
   exact hz1.later ((Below.refl _ _).alloc (Nat.le_refl _) _)
 have hR : Sr W3 (w.heap.size + 2) (.slice (some ⟨w.heap.size + 1 + 1, 0, none⟩) 0 (1 + c + k)) [] := by
   rw [← hW3]
   have := own_room (W := (w.alloc (.cells #[.int .i64 (F : Nat), .int .i64 (c : Nat), .int .i64 (k : Nat), .slice (some ⟨g, off, none⟩) N nc] 32)).alloc (.cells #[.slice ta tl tc, .slice aa ql ac] 42)) (t := 9) hcs (by omega)
   simp only [World.size_alloc] at this
   exact this
 have HZ := Lib.hid hZ
 have HR0 := Lib.hid hR
 obtain ⟨y0, y1, y2, y3⟩ := hZ.fb.cells4E
 have HSh := Lib.hid (show_any ((F : Int) + (i : Int)) ⟨by omega, by omega⟩ W3 (hT.later hZ.bel))
 have hw3 : Hid (w.heap.size + 2 < W3.heap.size) := Lib.hid (by rw [← hW3]; simp)
 clear hv hcell h3 hp hT his hfs a1 a2 a3 t1 t2 t3 hi hqm hst hZ hR hmk hcs
 go_enter Tryz.func13, Tryz.ntmps13
 go_wp2_with fail
 try rw [hW3]
 clear hW3 hmk' p1 p2
 refine HSh.out.mono ?_
 rintro e W1 ⟨rfl, hb1⟩
 have HZ1 := Lib.hid (HZ.out.later hb1)
 have HR1 := Lib.hid (HR0.out.later hb1)
 have hw1 : Hid (w.heap.size + 2 < W1.heap.size) := Lib.hid (Nat.lt_of_lt_of_le hw3.out hb1.size)
 clear hb1 HZ HR0 HSh hw3 y0 y1 y2 y3
 go_wp2_with (at_builtin; refine wpList_append_own _ rfl _ _ 48 rfl (w.heap.size + 2) 9 i0 (.string ⟨#[]⟩) 1 16 Tryz.underlying48 hi0 hz0 hz1 hz2 rfl (by decide) (.slice (some ⟨w.heap.size + 1 + 1, 0, none⟩) 0 (1 + c + k)) 0 [] rfl (World.ownsRow.alloc HR1.out _) ⟨W1.heap.size, 0, none⟩ 1 1 [sv (itoa ((F : Int) + (i : Int)))] rfl rfl (cell_one_new _ _ _) (by simp [Value.oneCell']) (by unfold maxLen; omega) (by omega) (by have := hw1.out; simp; omega) ?_; intro v' W4 hown hgrow _; have HZ4 := Lib.hid ((HZ1.out.later ((Below.refl _ W1).alloc (Nat.le_refl _) _)).grown hgrow (fun b hb => by have := (World.ownsRow.lt HR1.out b hb).1; omega)); have HR4 : Hid (Sr W4 (w.heap.size + 2) v' [itoa ((F : Int) + (i : Int))]) := Lib.hid hown; have j0 := HZ4.out.rb.cells2E.1; clear hown hgrow)
 go_loopw [6, 34] (fun s6 s34 wr => ∃ (j : Nat) (pre : List Bs), s34 = .int .i64 (j : Nat) ∧ j ≤ tl ∧ Hid (Wy w wr F c k (.slice (some ⟨g, off, none⟩) N nc) (.slice ta tl tc) (.slice aa ql ac) ∧ Sr wr (w.heap.size + 2) s6 pre ∧ pre = itoa ((F : Int) + (i : Int)) :: (ts.take j).map (fun n => itoa ((F : Int) + n)))) (fun _ s34 _ => tl - (RowKit.intOf s34).toNat)
 case atStart => exact ⟨0, _, rfl, by omega, HZ4.out, HR4.out, by simp⟩
 case round =>
   clear HZ4 HR4 HZ1 HR1 j0 hw1
   obtain ⟨j, pre, rfl, hj, hI⟩ := hrel
   have hpl : Hid (pre.length = 1 + j ∧ pre ≠ []) := Lib.hid (by rw [hI.out.2.2]; simp [htle.out]; omega)
   have HZr := Lib.hid hI.out.1
   have HRr := Lib.hid hI.out.2.1
   have HPr := Lib.hid hI.out.2.2
   clear hI
   by_cases hlt : j < tl
   · have hjl : Hid (j < ts.length) := Lib.hid (by rw [htle.out]; exact hlt)
     have hlt' : (j : Int) < (tl : Int) := by omega
     have hj0 : (0 : Int) ≤ (j : Int) := by omega
     obtain ⟨g2, off2, hga, hc9⟩ := HIm.out.resolve_left (fun e => by have := hjl.out; rw [e] at this; simp at this)
     subst hga
     obtain ⟨n, hn⟩ : ∃ n, Hid (ts[j]? = some n) := ⟨_, Lib.hid (List.getElem?_eq_getElem hjl.out)⟩
     have b1 : wr.cell? ⟨g2, off2 + j, none⟩ = some (.int .i64 n) := by
       have h1 := hc9 j hjl.out
       rw [List.getD_eq_getElem?_getD, hn.out] at h1
       exact box_cell HZr.out.bel h1
     have hn1 := (HSt.out n (List.mem_of_getElem? hn.out)).1
     have hn2 := (HSt.out n (List.mem_of_getElem? hn.out)).2
     have HNx : Hid (pre ++ [itoa ((F : Int) + n)] = itoa ((F : Int) + (i : Int)) :: (ts.take (j + 1)).map (fun n => itoa ((F : Int) + n))) := Lib.hid (by
       obtain ⟨g1, g2⟩ := List.getElem?_eq_some_iff.1 hn.out
       rw [HPr.out, List.take_succ_eq_append_getElem g1, g2, List.map_append]; rfl)
     have HSh := Lib.hid (show_any ((F : Int) + n) ⟨by omega, by omega⟩ wr (HT8.out.later HZr.out.bel))
     obtain ⟨y0, y1, y2, y3⟩ := HZr.out.fb.cells4E
     clear hc9
     go_wp2_with (first
       | (go_at_call 12; refine HSh.out.mono ?_; rintro e W1 ⟨rfl, hb1⟩; have HZ1 := Lib.hid (HZr.out.later hb1); have HR1 := Lib.hid (HRr.out.later hb1); clear hb1)
       | (at_builtin; refine wpList_append_own _ rfl _ _ 48 rfl (w.heap.size + 2) 9 i0 (.string ⟨#[]⟩) 1 16 Tryz.underlying48 hi0 hz0 hz1 hz2 rfl (by decide) u6 pre.length (svs pre) rfl (World.ownsRow.alloc HR1.out _) ⟨W1.heap.size, 0, none⟩ 1 1 [sv (itoa ((F : Int) + n))] rfl rfl (cell_one_new _ _ _) (by simp [Value.oneCell']) (by unfold maxLen; have := hpl.out.1; omega) (by have := hpl.out.1; omega) (by have := srE_size HR1.out hpl.out.2; simp; omega) ?_; intro v' W4 hown hgrow _; have HZ4 := Lib.hid ((HZ1.out.later ((Below.refl _ W1).alloc (Nat.le_refl _) _)).grown hgrow (fun b hb => by have := (World.ownsRow.lt HR1.out b hb).1; omega)); have HR4 : Hid (Sr W4 (w.heap.size + 2) v' (pre ++ [itoa ((F : Int) + n)])) := Lib.hid (by unfold Sr; rw [List.length_append, svs, List.map_append]; exact hown); clear hown hgrow))
     first
       | exact ⟨⟨j + 1, pre ++ [itoa ((F : Int) + n)], by go_num, by omega, HZ4.out, HR4.out, HNx.out⟩, by simp [RowKit.intOf]; omega⟩
       | (go_roundw
          case rel =>
            refine ⟨_, _, _, _, _, _, _, _, _, _, _, _, ⟨j + 1, pre ++ [itoa ((F : Int) + n)], ?_, by omega, HZ4.out, HR4.out, HNx.out⟩, rfl⟩
            go_num
          case measure => simp [RowKit.intOf]; omega)
   · obtain rfl : tl = j := by omega
     rw [List.take_of_length_le (by rw [htle.out]; omega)] at HPr
     have j1 := HZr.out.rb.cells2E.2
     go_wp2_with fail
     clear j1
     go_loopw [6, 50] (fun s6 s50 wr => ∃ (j : Nat) (pre : List Bs), s50 = .int .i64 (j : Nat) ∧ j ≤ ql ∧ Hid (Wy w wr F c k (.slice (some ⟨g, off, none⟩) N nc) (.slice ta tl tc) (.slice aa ql ac) ∧ Sr wr (w.heap.size + 2) s6 pre ∧ pre = (itoa ((F : Int) + (i : Int)) :: ts.map (fun n => itoa ((F : Int) + n))) ++ (ls.take j).map p.tx)) (fun _ s50 _ => ql - (RowKit.intOf s50).toNat)
     case atStart => exact ⟨0, _, rfl, by omega, HZr.out, HRr.out, by rw [HPr.out]; simp⟩
     case round =>
       clear HZr HRr HPr hpl
       obtain ⟨j2, pre2, rfl, hj2, hI⟩ := hrel
       have hpl : Hid (pre2.length ≤ 100 ∧ pre2 ≠ []) := Lib.hid (by rw [hI.out.2.2]; simp [htle.out]; omega)
       have HZr := Lib.hid hI.out.1
       have HRr := Lib.hid hI.out.2.1
       have HPr := Lib.hid hI.out.2.2
       clear hI
       by_cases hlt2 : j2 < ql
       · have hjl : Hid (j2 < ls.length) := Lib.hid (by rw [hqle.out]; exact hlt2)
         have hlt' : (j2 : Int) < (ql : Int) := by omega
         have hj0 : (0 : Int) ≤ (j2 : Int) := by omega
         obtain ⟨g2, off2, hga, hc9⟩ := HFm.out.resolve_left (fun e => by have := hjl.out; rw [e] at this; simp at this)
         subst hga
         obtain ⟨xv, hn⟩ : ∃ n, Hid (ls[j2]? = some n) := ⟨_, Lib.hid (List.getElem?_eq_getElem hjl.out)⟩
         have b1 : wr.cell? ⟨g2, off2 + j2, none⟩ = some (.float .f64 xv) := by
           have h1 := hc9 j2 hjl.out
           rw [List.getD_eq_getElem?_getD, hn.out] at h1
           exact box_cell HZr.out.bel h1
         have HXv : Hid (xv < 18446744073709551616) := Lib.hid (HFs.out.word _ (List.mem_of_getElem? hn.out))
         have HNx : Hid (pre2 ++ [p.tx xv] = (itoa ((F : Int) + (i : Int)) :: ts.map (fun n => itoa ((F : Int) + n))) ++ (ls.take (j2 + 1)).map p.tx) := Lib.hid (by
           obtain ⟨g1, g2⟩ := List.getElem?_eq_some_iff.1 hn.out
           rw [HPr.out, List.take_succ_eq_append_getElem g1, g2, List.map_append, ← List.append_assoc]; rfl)
         have HTx := Lib.hid (text_is HP.out xv HXv.out wr (HT8.out.later HZr.out.bel))
         clear hc9
         go_wp2_with (first
           | (go_at_call 26; refine HTx.out.mono ?_; rintro e W1 ⟨rfl, hb1⟩; have HZ1 := Lib.hid (HZr.out.later hb1); have HR1 := Lib.hid (HRr.out.later hb1); clear hb1)
           | (at_builtin; refine wpList_append_own _ rfl _ _ 48 rfl (w.heap.size + 2) 9 i0 (.string ⟨#[]⟩) 1 16 Tryz.underlying48 hi0 hz0 hz1 hz2 rfl (by decide) u6 pre2.length (svs pre2) rfl (World.ownsRow.alloc HR1.out _) ⟨W1.heap.size, 0, none⟩ 1 1 [sv (p.tx xv)] rfl rfl (cell_one_new _ _ _) (by simp [Value.oneCell']) (by unfold maxLen; have := hpl.out.1; omega) (by have := hpl.out.1; omega) (by have := srE_size HR1.out hpl.out.2; simp; omega) ?_; intro v' W4 hown hgrow _; have HZ4 := Lib.hid ((HZ1.out.later ((Below.refl _ W1).alloc (Nat.le_refl _) _)).grown hgrow (fun b hb => by have := (World.ownsRow.lt HR1.out b hb).1; omega)); have HR4 : Hid (Sr W4 (w.heap.size + 2) v' (pre2 ++ [p.tx xv])) := Lib.hid (by unfold Sr; rw [List.length_append, svs, List.map_append]; exact hown); clear hown hgrow))
         first
           | exact ⟨⟨j2 + 1, pre2 ++ [p.tx xv], by go_num, by omega, HZ4.out, HR4.out, HNx.out⟩, by simp [RowKit.intOf]; omega⟩
           | (go_roundw
              case rel =>
                refine ⟨_, _, _, _, _, _, _, _, _, _, _, _, ⟨j2 + 1, pre2 ++ [p.tx xv], ?_, by omega, HZ4.out, HR4.out, HNx.out⟩, rfl⟩
                go_num
              case measure => simp [RowKit.intOf]; omega)
       · obtain rfl : ql = j2 := by omega
         rw [List.take_of_length_le (by rw [hqle.out]; omega)] at HPr
         have HW : Hid (rwW p (F : Nat) i ⟨ts, ls⟩ = pre2) := Lib.hid (by unfold rwW; rw [HPr.out]; rfl)
         go_wp2
         go_ret
         exact ⟨⟨_, rfl, by rw [HW.out]; exact HRr.out.base (by omega)⟩, HZr.out.bel⟩
end

/- Package elefile: Write. -/
section
set_option maxRecDepth 100000
open Go.RowKit Go.Shelf Go.Lib
structure Py (w W : World) (F c k : Nat) (nv : Value) : Prop where
 f1 : CB W w.heap.size #[.int .i64 (F : Nat), .int .i64 (c : Nat), .int .i64 (k : Nat), nv] 32
 bel : Below w.heap.size w W
theorem Py.later {w W W' : World} {F c k : Nat} {nv : Value} (h : Py w W F c k nv) (hb : Below W.heap.size W W') : Py w W' F c k nv := ⟨h.f1.later hb, h.bel.trans (hb.mono h.bel.size)⟩
theorem Py.grown {w W W' : World} {F c k : Nat} {nv : Value} {row : Option Nat} (h : Py w W F c k nv) (hg : W.grownBy W' row) (hr : ∀ b, row = some b → w.heap.size < b) : Py w W' F c k nv := by
 refine ⟨?_, h.bel.grown hg h.bel.size (fun b hb => by have := hr b hb; omega)⟩
 unfold CB
 rw [hg.block _ h.f1.lt (fun e => by have := hr _ e.symm; omega)]; exact h.f1
theorem Py.all {w W : World} {F c k n nc : Nat} {na : Option Addr} (h : Py w W F c k (.slice na n nc)) : W.cell? ⟨w.heap.size, 0, none⟩ = some (.int .i64 (F : Nat)) ∧ W.cell? ⟨w.heap.size, 1, none⟩ = some (.int .i64 (c : Nat)) ∧ W.cell? ⟨w.heap.size, 2, none⟩ = some (.int .i64 (k : Nat)) ∧ W.cell? ⟨w.heap.size, 3, none⟩ = some (.slice na n nc) ∧ Py w W F c k (.slice na n nc) := by
 obtain ⟨k0, k1, k2, k3⟩ := h.f1.cells4E
 exact ⟨k0, k1, k2, k3, h⟩
theorem rwW_short {p : Pm} (hp : p.Ok) {F i : Nat} {r : Rw} (hF : F ≤ 1) (ht : ∀ n ∈ r.t, strayE n = false) (ha : ∀ x ∈ r.a, x < 18446744073709551616) (hi : i ≤ 2000000) : ∀ x ∈ rwW p (F : Nat) i r, x.length ≤ 43 := by
 intro x hx
 unfold rwW at hx
 simp only [List.mem_cons, List.mem_append, List.mem_map] at hx
 rcases hx with rfl | ⟨n, hn, rfl⟩ | ⟨b, hb, rfl⟩
 · exact itoa_short ⟨by omega, by omega⟩
 · have := stray_no (ht n hn)
   exact itoa_short ⟨by omega, by omega⟩
 · exact tx_short hp (ha b hb)
theorem rwsW_at (p : Pm) (f : Int) : ∀ (l : List Rw) (i : Nat) (ws : List Bs), ws ∈ rwsW p f i l → ∃ j q, j < l.length ∧ q ∈ l ∧ ws = rwW p f (i + j) q := by
 intro l
 induction l with
 | nil => intro i ws h; simp [rwsW] at h
 | cons a r ih =>
   intro i ws h
   rw [rwsW] at h
   rcases List.mem_cons.1 h with rfl | h
   · exact ⟨0, a, by simp, by simp, by simp⟩
   · obtain ⟨j, q, h1, h2, h3⟩ := ih (i + 1) ws h
     exact ⟨j + 1, q, by simp; omega, by simp [h2], by rw [h3, show i + 1 + j = i + (j + 1) by omega]⟩
theorem feW_short {p : Pm} (hp : p.Ok) {f : Fe} (hm : mayE f = true) (hw : ∀ r ∈ f.l, ∀ x ∈ r.a, x < 18446744073709551616) : ∀ ws ∈ feW p f, (∀ x ∈ ws, x.length ≤ 43) ∧ ws.length ≤ 40 := by
 obtain ⟨F, c, k, e1, e2, e3, hF, hc, hk, hl, ha⟩ := mayE_parts hm
 intro ws hws
 unfold feW at hws
 rcases List.mem_cons.1 hws with rfl | h
 · refine ⟨fun x hx => ?_, by simp⟩
   simp only [List.mem_cons, List.not_mem_nil, or_false] at hx
   rcases hx with rfl | rfl | rfl
   · exact itoa_short ⟨by omega, by omega⟩
   · exact itoa_short (by rw [e2]; exact ⟨by omega, by omega⟩)
   · exact itoa_short (by rw [e3]; exact ⟨by omega, by omega⟩)
 · obtain ⟨j, q, h1, h2, rfl⟩ := rwsW_at p _ _ _ _ h
   obtain ⟨g1, g2, g3, g4⟩ := amissE_no.1 (ha q h2)
   rw [e1]
   refine ⟨rwW_short hp hF g2 (hw q h2) (by omega), ?_⟩
   unfold rwW
   simp
   omega
set_option maxHeartbeats 16000000 in
theorem writeE_any {p : Pm} (hp : p.Ok) (f c0 k0 : Int) (v : Value) (rs : List Rt) (w : World) (hv : Rv w v rs) (hnn : rs.length ≤ 200000) (hT : T8 w) :
   Calls Tryz.prog 6 #[.agg #[.int .i64 f, .int .i64 c0, .int .i64 k0, v]] w fun e w' => e = .returned (.tuple #[sv (wrE p ⟨f, c0, k0, rs.map (·.1)⟩).1, .int .i64 (wrE p ⟨f, c0, k0, rs.map (·.1)⟩).2]) ∧ Below w.heap.size w w' := by
 have HP := Lib.hid hp
 have HT8 := Lib.hid hT
 have HV := Lib.hid hv
 obtain ⟨na, nc, rfl, h1, h2, _⟩ := hv.form
 obtain ⟨W1, hW1⟩ : ∃ W1, w.alloc (.cells #[.int .i64 f, .int .i64 c0, .int .i64 k0, .slice na rs.length nc] 32) = W1 := ⟨_, rfl⟩
 have b1 : Below w.heap.size w W1 := by rw [← hW1]; exact (Below.refl _ w).alloc (Nat.le_refl _) _
 have cf : CB W1 w.heap.size #[.int .i64 f, .int .i64 c0, .int .i64 k0, .slice na rs.length nc] 32 := by rw [← hW1]; exact CB.new w _ _
 have HW := Lib.hid (mayE_any f c0 k0 _ rs W1 (hv.later b1))
 have HL : Hid (CB W1 w.heap.size #[.int .i64 f, .int .i64 c0, .int .i64 k0, .slice na rs.length nc] 32 ∧ Below w.heap.size w W1) := Lib.hid ⟨cf, b1⟩
 obtain ⟨k0', k1, k2, k3⟩ := cf.cells4E
 obtain ⟨n, hn⟩ : ∃ n, Hid (rs.length = n) := ⟨_, Lib.hid rfl⟩
 rw [hn.out] at HW HL hW1 k3 h1 hnn ⊢
 obtain ⟨er, her⟩ : ∃ er, Hid (mayE ⟨f, c0, k0, rs.map (·.1)⟩ = er) := ⟨_, Lib.hid rfl⟩
 rw [her.out] at HW
 have hn63 : (n : Int) ≤ 200000 := by omega
 clear hp hT hv cf b1
 go_enter Tryz.func6, Tryz.ntmps6
 go_wp2_with fail
 try rw [hW1]
 clear hW1 k0' k1 k2 k3
 refine HW.out.mono ?_
 rintro e W2 ⟨rfl, hb2⟩
 cases er
 · have HB := Lib.hid (HL.out.2.trans (hb2.mono HL.out.2.size))
   have HR : Hid (wrE p ⟨f, c0, k0, rs.map (·.1)⟩ = ([], 1)) := Lib.hid (by unfold wrE; rw [if_neg (by rw [her.out]; simp)])
   clear hb2 HW
   go_wp2
   go_ret2
   exact ⟨by rw [HR.out]; rfl, HB.out⟩
 · have HR : Hid (wrE p ⟨f, c0, k0, rs.map (·.1)⟩ = ((wrV (feW p ⟨f, c0, k0, rs.map (·.1)⟩)).1, (((wrV (feW p ⟨f, c0, k0, rs.map (·.1)⟩)).2 : Nat) : Int))) := Lib.hid (by unfold wrE; rw [if_pos her.out])
   have HSo := Lib.hid (feW_short HP.out her.out (fun r hr x hx => by
     obtain ⟨q, hq, rfl⟩ := List.mem_map.1 hr
     exact (HV.out.sub q hq).2.word x hx))
   obtain ⟨F, c, k, e1, e2, e3, hF1, hc, hk, hl, ha⟩ := mayE_parts her.out
   try dsimp only at e1 e2 e3 hl ha
   subst e1 e2 e3
   have HAm : Hid (∀ q ∈ rs, amissE (c : Nat) (k : Nat) q.1 = false) := Lib.hid (fun q hq => ha q.1 (List.mem_map.2 ⟨q, hq, rfl⟩))
   have hZ2 : Py w W2 F c k (.slice na n nc) := ⟨HL.out.1.later hb2, HL.out.2.trans (hb2.mono HL.out.2.size)⟩
   have hw2 : w.heap.size < W2.heap.size := hZ2.f1.lt
   obtain ⟨k0, k1, k2, k3⟩ := hZ2.f1.cells4E
   obtain ⟨cs, hcs, hmk⟩ := makeLL_ex (n + 1) (by omega)
   have hmk' : ∀ W : World, (Instr.makeSlice 46 (.int .i64 0) (.int .i64 (1 + (n : Int)))).run Tryz.prog W = .ok (.slice (some ⟨W.heap.size, 0, none⟩) 0 (n + 1)) (W.alloc (.cells cs 48)) := fun W => by
     have := hmk W
     rwa [show ((n + 1 : Nat) : Int) = 1 + (n : Int) by omega] at this
   have hc6 : c ≤ 6 := by omega
   have hk16 : (k : Int) ≤ 16 := by omega
   have hcc : (c : Int) ≤ 6 := by omega
   clear hl ha hb2 HW HL hmk hc
   go_wp2_with fail
   obtain ⟨W3, hW3⟩ : ∃ W3, W2.alloc (.cells cs 48) = W3 := ⟨_, rfl⟩
   have hZ0 : Py w W3.drew F c k (.slice na n nc) := by
     rw [← hW3]; exact (hZ2.later ((Below.refl _ _).alloc (Nat.le_refl _) _)).later (Below.refl _ _).drew
   have hR : W3.drew.ownsRow W2.heap.size 48 1 (.slice (some ⟨W2.heap.size, 0, none⟩) 0 (n + 1)) 0 [] := by rw [← hW3]; exact own_room hcs (by omega)
   try rw [hW3]
   obtain ⟨i0, hi0, hz0, hz1, hz2⟩ := info_parts (show (Tryz.prog.info? 48).map (fun i => (i.zero, i.size, i.bytes)) = some (some (.slice none 0 0), 1, 24) by kernel_rfl)
   clear hW3 hmk' hcs hZ2 k0 k1 k2 k3
   refine wp_region_held_drew (S := (fun W => W.cell? ⟨w.heap.size, 0, none⟩ = some (.int .i64 (F : Nat)) ∧ W.cell? ⟨w.heap.size, 1, none⟩ = some (.int .i64 (c : Nat)) ∧ W.cell? ⟨w.heap.size, 2, none⟩ = some (.int .i64 (k : Nat)) ∧ W.cell? ⟨w.heap.size, 3, none⟩ = some (.slice na n nc) ∧ Py w W F c k (.slice na n nc))) (by kernel_rfl) hZ0.all (fun hS => ?_)
   refine takA (i := 0) (d := some 14) (v := .slice (some ⟨W2.heap.size, 0, none⟩) 0 (n + 1)) hS ?_
   simp only [AP]
   refine takA (i := 1) (d := some 15) (v := .pointer (some ⟨w.heap.size, 3, none⟩)) hS ?_
   simp only [AP]
   refine takA (i := 2) (d := some 16) (v := .slice na n nc) hS ?_
   simp only [AP]
   refine takA (i := 3) (d := some 17) (v := .int .i64 (n : Nat)) hS ?_
   simp only [AP]
   refine takA (i := 5) (d := some 19) (v := .pointer (some ⟨w.heap.size, 1, none⟩)) hS ?_
   simp only [AP]
   refine takA (i := 6) (d := some 20) (v := .int .i64 (c : Nat)) hS ?_
   simp only [AP]
   refine takA (i := 8) (d := some 22) (v := .pointer (some ⟨w.heap.size, 2, none⟩)) hS ?_
   simp only [AP]
   refine takA (i := 9) (d := some 23) (v := .int .i64 (k : Nat)) hS ?_
   simp only [AP]
   refine calA 4 fun KF hK => ?_
   go_simp
   go_wp2_with fail
   refine (show_any (n : Nat) ⟨by omega, by omega⟩ _ (HT8.out.later hS.2.2.2.2.bel)).mono ?_
   rintro e W21 ⟨rfl, hbx⟩
   replace hR := own_later hR hbx
   go_wp2_with fail
   refine hK.out _ _ ((hS.2.2.2.2.later hbx).all) ?_
   clear hS hbx
   intro hS
   clear hK KF
   try simp only [AP]
   refine calA 7 fun KF hK => ?_
   go_simp
   go_wp2_with fail
   refine (show_any (c : Nat) ⟨by omega, by omega⟩ _ (HT8.out.later hS.2.2.2.2.bel)).mono ?_
   rintro e W24 ⟨rfl, hbx⟩
   replace hR := own_later hR hbx
   go_wp2_with fail
   refine hK.out _ _ ((hS.2.2.2.2.later hbx).all) ?_
   clear hS hbx
   intro hS
   clear hK KF
   try simp only [AP]
   refine calA 10 fun KF hK => ?_
   go_simp
   go_wp2_with fail
   refine (show_any (k : Nat) ⟨by omega, by omega⟩ _ (HT8.out.later hS.2.2.2.2.bel)).mono ?_
   rintro e W27 ⟨rfl, hbx⟩
   replace hR := own_later hR hbx
   go_wp2_with fail
   refine hK.out _ _ ((hS.2.2.2.2.later hbx).all) ?_
   clear hS hbx
   intro hS
   clear hK KF
   try simp only [AP]
   refine calA 11 fun KF hK => ?_
   go_simp
   have hw27 : Hid (W2.heap.size < W27.heap.size) := Lib.hid (World.ownsRow.lt hR W2.heap.size rfl).2
   have hbx : Below W27.heap.size W27 (W27.alloc (.cells #[sv (itoa (n : Nat)), sv (itoa (c : Nat)), sv (itoa (k : Nat))] 9)) := (Below.refl _ _).alloc (Nat.le_refl _) _
   replace hR := own_later hR hbx
   have hF : Sr (W27.alloc (.cells #[sv (itoa (n : Nat)), sv (itoa (c : Nat)), sv (itoa (k : Nat))] 9)) W27.heap.size (.slice (some ⟨W27.heap.size, 0, none⟩) 3 3) [itoa (n : Nat), itoa (c : Nat), itoa (k : Nat)] := ⟨rfl, Or.inr ⟨W27.heap.size, 3, _, rfl, Nat.le_refl _, heap_alloc_new W27 _, by simp, by unfold maxLen; omega, rfl, rfl⟩⟩
   go_wp2_with fail
   refine hK.out _ _ ((hS.2.2.2.2.later hbx).all) ?_
   clear hS hbx
   intro hS
   clear hK KF
   try simp only [AP]
   refine calA 12 fun KF hK => ?_
   go_simp
   obtain ⟨W28, hW28⟩ : ∃ W28, W27.alloc (.cells #[sv (itoa (n : Nat)), sv (itoa (c : Nat)), sv (itoa (k : Nat))] 9) = W28 := ⟨_, rfl⟩
   have hz28 : Hid (W28.heap.size = W27.heap.size + 1) := Lib.hid (by rw [← hW28]; simp)
   rw [hW28] at hR hF hS ⊢
   clear hW28
   have hbx : Below W28.heap.size W28 (W28.alloc (.cells #[.slice (some ⟨W27.heap.size, 0, none⟩) 3 3] 48)) := (Below.refl _ _).alloc (Nat.le_refl _) _
   have hR2 := World.ownsRow.alloc hR (.cells #[.slice (some ⟨W27.heap.size, 0, none⟩) 3 3] 48)
   go_wp2_with fail
   refine hK.out _ _ ((hS.2.2.2.2.later hbx).all) ?_
   clear hS hbx
   intro hS
   clear hK KF
   try simp only [AP]
   refine calA 13 fun KF hK => ?_
   rw [if_pos (by rfl)]
   refine wp_append_own _ _ _ rfl W2.heap.size 48 i0 _ 1 24 Tryz.underlying46 hi0 hz0 hz1 hz2 rfl (by omega) (.slice (some ⟨W2.heap.size, 0, none⟩) 0 (n + 1)) 0 [] rfl hR2 ⟨W27.heap.size + 1, 0, none⟩ 1 1 [.slice (some ⟨W27.heap.size, 0, none⟩) 3 3] rfl rfl (by have hnw := World.news_of_block (cs := #[.slice (some ⟨W27.heap.size, 0, none⟩) 3 3]) (t := 48) (fr := (0, 0)) (heap_alloc_new W28 (.cells #[.slice (some ⟨W27.heap.size, 0, none⟩) 3 3] 48)); rw [hz28.out] at hnw; exact hnw) (by simp [Value.oneCell']) (by unfold maxLen; omega) (by omega) (by have : W2.heap.size < W28.heap.size := (World.ownsRow.lt hR W2.heap.size rfl).2; simp; omega) ?_
   intro v3 W31 hown hgrow
   have hz31 := hS.2.2.2.2.grown hgrow (by rintro b hb; cases hb; exact hw2)
   have hF31 := Sr.keptL (Sr.later hF ((Below.refl _ W28).alloc (Nat.le_refl _) _)) hR2 hgrow
   obtain ⟨va, vc, rfl⟩ := own_sliceE hown
   have hbx := True.intro
   refine hK.out _ _ hz31.all ?_
   clear hS hbx
   intro hS
   clear hK KF
   try simp only [AP]
   refine takA (i := 14) (d := some 4) (v := .slice va (0 + 1) vc) hS ?_
   simp only [AP]
   refine wpAnyH_done (by kernel_rfl) ?_ _
   have HZ := Lib.hid hS.2.2.2.2
   have HO : Hid (Orw W31 W2.heap.size (.slice va (0 + 1) vc) [([itoa (n : Nat), itoa (c : Nat), itoa (k : Nat)], .slice (some ⟨W27.heap.size, 0, none⟩) 3 3)]) := Lib.hid ⟨hown, fun q hq => by
     rw [List.mem_singleton.1 hq]; exact hF31.base (Nat.le_of_lt hw27.out)⟩
   have hw2' := Lib.hid hw2
   have k3 := HZ.out.f1.cell 3 (by simp)
   clear hS hown hgrow hR hR2 hF hF31 hz31 hZ0 hw27 hz28
   go_wp2_with fail
   clear k3
   go_loopw [4, 31] (fun s5 s34 wr => ∃ (j : Nat) (L : List Lv), s34 = .int .i64 (j : Nat) ∧ j ≤ n ∧ Hid (Py w wr F c k (.slice na n nc) ∧ Orw wr W2.heap.size s5 L ∧ ls1 L = [itoa (n : Nat), itoa (c : Nat), itoa (k : Nat)] :: rwsW p (F : Nat) 0 ((rs.map (·.1)).take j) ∧ L.length = j + 1)) (fun _ s34 _ => n - (RowKit.intOf s34).toNat)
   case atStart => exact ⟨0, _, rfl, by omega, HZ.out, HO.out, by simp [ls1, rwsW], rfl⟩
   case round =>
     obtain ⟨j, L, rfl, hj, hI⟩ := hrel
     have HZr := Lib.hid hI.out.1
     have HOr := Lib.hid hI.out.2.1
     have HLr := Lib.hid hI.out.2.2.1
     have HLn := Lib.hid hI.out.2.2.2
     clear hI
     by_cases hlt : j < n
     · have hlt' : (j : Int) < (n : Int) := by omega
       have hjl : Hid (j < rs.length) := Lib.hid (by rw [hn.out]; exact hlt)
       obtain ⟨q, hq⟩ : ∃ q, Hid (rs[j]? = some q) := ⟨_, Lib.hid (List.getElem?_eq_getElem hjl.out)⟩
       have HWo : Hid (Calls Tryz.prog 13 #[.agg #[.int .i64 (F : Nat), .int .i64 (c : Nat), .int .i64 (k : Nat), .slice na n nc], .int .i64 (j : Nat)] wr fun e w' => (∃ rv, e = .returned rv ∧ Sr w' wr.heap.size rv (rwW p (F : Nat) j q.1)) ∧ Below wr.heap.size wr w') := Lib.hid (by
         have hv' := HV.out.later HZr.out.bel
         rw [hn.out] at hv'
         obtain ⟨g1, g2, g3, g4⟩ := amissE_no.1 (HAm.out q (List.mem_of_getElem? hq.out))
         exact wordsOfE_any HP.out F c k _ rs j q wr hv' hq.out hF1 hc6 (by omega) (by omega) (by omega) (by omega) (fun m hm => stray_no (g2 m hm)) (HT8.out.later HZr.out.bel))
       obtain ⟨k0, k1, k2, k3⟩ := HZr.out.f1.cells4E
       have HNx : Hid ([itoa (n : Nat), itoa (c : Nat), itoa (k : Nat)] :: rwsW p (F : Nat) 0 ((rs.map (·.1)).take (j + 1)) = ([itoa (n : Nat), itoa (c : Nat), itoa (k : Nat)] :: rwsW p (F : Nat) 0 ((rs.map (·.1)).take j)) ++ [rwW p (F : Nat) j q.1]) := Lib.hid (by
         have hjo : j < (rs.map (·.1)).length := by simpa using hjl.out
         have e1 : (rs.map (·.1))[j] = q.1 := by
           have h9 : (rs.map (·.1))[j]? = some q.1 := by rw [List.getElem?_map, hq.out]; rfl
           exact (List.getElem?_eq_some_iff.1 h9).2
         rw [List.take_succ_eq_append_getElem hjo, rwsW_snoc, e1, List.length_take, Nat.zero_add, Nat.min_eq_left (Nat.le_of_lt hjo)]
         rfl)
       have hwr : Hid (W2.heap.size < wr.heap.size) := Lib.hid (by
         rcases HOr.out.own.2 with ⟨_, h2⟩ | ⟨g, cap, cur, h1, h2, _⟩
         · have := HLn.out; omega
         · have h3 := (World.ownsRow.lt HOr.out.own g (by rw [h1]; rfl)).2; omega)
       go_wp2_with (first
         | (go_at_call 13; refine HWo.out.mono ?_; rintro e W4 ⟨⟨rv, rfl, hrv⟩, hb4⟩; obtain ⟨ra, rc, rfl⟩ := own_sliceE hrv; have HZ4 := Lib.hid (HZr.out.later hb4); have HO4 := Lib.hid (HOr.out.later hb4); have HRv := Lib.hid (hrv.base (Nat.le_of_lt hwr.out)); have hs4 : Hid (W2.heap.size < W4.heap.size) := Lib.hid (Nat.lt_of_lt_of_le hwr.out hb4.size); clear hrv hb4)
         | (at_builtin; refine wpList_append_own _ rfl _ _ 46 rfl W2.heap.size 48 i0 (.slice none 0 0) 1 24 Tryz.underlying46 hi0 hz0 hz1 hz2 rfl (by decide) u4 L.length (L.map (·.2)) rfl (World.ownsRow.alloc HO4.out.own _) ⟨W4.heap.size, 0, none⟩ 1 1 [.slice ra (rwW p (F : Nat) j q.1).length rc] rfl rfl (World.news_of_block (cs := #[.slice ra (rwW p (F : Nat) j q.1).length rc]) (t := 48) (fr := (0, 0)) (heap_alloc_new W4 _)) (by simp [Value.oneCell']) (by unfold maxLen; have := HLn.out; omega) (by have := HLn.out; omega) (by have := hs4.out; simp; omega) ?_; intro v' W5 hown hgrow _; have HZ5 := Lib.hid ((HZ4.out.later ((Below.refl _ W4).alloc (Nat.le_refl _) _)).grown hgrow (fun b hb => by have := (World.ownsRow.lt HO4.out.own b hb).1; have := hw2'.out; omega)); have HO5 := Lib.hid (HO4.out.grew (q := (rwW p (F : Nat) j q.1, .slice ra (rwW p (F : Nat) j q.1).length rc)) HRv.out hown hgrow); clear hown hgrow))
       first
         | exact ⟨⟨j + 1, L ++ [(rwW p (F : Nat) j q.1, .slice ra (rwW p (F : Nat) j q.1).length rc)], by go_num, by omega, HZ5.out, HO5.out, by rw [HNx.out, ← HLr.out]; simp [ls1], by rw [List.length_append, HLn.out]; rfl⟩, by simp [RowKit.intOf]; omega⟩
         | (go_roundw
            case rel =>
              first
                | exact ⟨j + 1, L ++ [(rwW p (F : Nat) j q.1, .slice ra (rwW p (F : Nat) j q.1).length rc)], by go_num, by omega, HZ5.out, HO5.out, by rw [HNx.out, ← HLr.out]; simp [ls1], by rw [List.length_append, HLn.out]; rfl⟩
                | (refine ⟨_, _, _, _, _, _, _, _, _, _, _, _, ⟨j + 1, L ++ [(rwW p (F : Nat) j q.1, .slice ra (rwW p (F : Nat) j q.1).length rc)], ?_, by omega, HZ5.out, HO5.out, by rw [HNx.out, ← HLr.out]; simp [ls1], by rw [List.length_append, HLn.out]; rfl⟩, rfl⟩; go_num)
            case measure => simp [RowKit.intOf]; omega)
     · obtain rfl : j = n := by omega
       have HFin : Hid (ls1 L = feW p ⟨(F : Nat), (c : Nat), (k : Nat), rs.map (·.1)⟩) := Lib.hid (by
         rw [HLr.out, List.take_of_length_le (by simp [hn.out])]
         unfold feW
         simp [hn.out])
       obtain ⟨la, lc, hu5⟩ : ∃ la lc, u4 = .slice la L.length lc := own_sliceE HOr.out.own
       subst hu5
       have hll : Ll wr (.slice la L.length lc) L := HOr.out.ll (fun q hq x hx => by
         have := (HSo.out q.1 (by rw [← HFin.out]; exact List.mem_map.2 ⟨q, hq, rfl⟩)).1 x hx
         omega)
       have hmod : Mod L := ⟨by have := HLn.out; omega, fun q hq => by
         have := (HSo.out q.1 (by rw [← HFin.out]; exact List.mem_map.2 ⟨q, hq, rfl⟩)).2
         omega⟩
       have HWr : Hid (Calls Tryz.prog 14 #[.slice la L.length lc] wr fun e w' => e = .returned (.tuple #[sv (wrV (feW p ⟨(F : Nat), (c : Nat), (k : Nat), rs.map (·.1)⟩)).1, .int .i64 ((wrV (feW p ⟨(F : Nat), (c : Nat), (k : Nat), rs.map (·.1)⟩)).2 : Nat)]) ∧ Below wr.heap.size wr w') := Lib.hid (by
         have := write_any _ L wr hll hmod
         rwa [HFin.out] at this)
       obtain ⟨tx, htx⟩ : ∃ tx, (wrV (feW p ⟨(F : Nat), (c : Nat), (k : Nat), rs.map (·.1)⟩)).1 = tx := ⟨_, rfl⟩
       obtain ⟨er, her'⟩ : ∃ er, (wrV (feW p ⟨(F : Nat), (c : Nat), (k : Nat), rs.map (·.1)⟩)).2 = er := ⟨_, rfl⟩
       rw [htx, her'] at HWr HR
       obtain ⟨m, hm⟩ : ∃ m, L.length = m := ⟨_, rfl⟩
       rw [hm] at HWr ⊢
       have HB := Lib.hid HZr.out.bel
       clear hll hmod htx her'
       go_wp2_with fail
       refine HWr.out.mono ?_
       rintro e W9 ⟨rfl, hb9⟩
       have HB9 := Lib.hid (HB.out.trans (hb9.mono HB.out.size))
       clear hb9
       go_wp2
       go_ret2
       exact ⟨by rw [HR.out]; rfl, HB9.out⟩
end

/- The laws of layer 11: a file made anew: what of and to share. (gen_ega.py) -/
section
set_option maxRecDepth 100000
open Go.RowKit Go.Shelf Go.Lib
structure Eo (t : TypeId) (W : World) (B : Nat) (v : Value) (rs : List Rt) : Prop where
 own : W.ownsRow B t 2 v rs.length (rcs rs)
 sub : ∀ q ∈ rs, Co W B 3 q.2.1 (isV q.1.t) ∧ Co W B 43 q.2.2 (f64s q.1.a)
section
variable {t : TypeId} {W W' : World} {B : Nat} {v : Value} {rs : List Rt}
theorem Eo.nil (t : TypeId) (W : World) (B : Nat) : Eo t W B (.slice none 0 0) [] := ⟨World.ownsRow_nil _ _ _ _, fun q hq => by simp at hq⟩
theorem Eo.later (h : Eo t W B v rs) (hb : Below W.heap.size W W') : Eo t W' B v rs := ⟨own_later h.own hb, fun q hq => ⟨(h.sub q hq).1.later hb, (h.sub q hq).2.later hb⟩⟩
theorem Eo.base {B' : Nat} (h : Eo t W B v rs) (hb : B' ≤ B) : Eo t W B' v rs := ⟨own_base h.own hb, fun q hq => ⟨(h.sub q hq).1.base hb, (h.sub q hq).2.base hb⟩⟩
theorem Eo.ob {C : Nat} (h : Eo t W B v rs) (ho : Ob C W W') (hC : C < B) : Eo t W' B v rs := ⟨own_obE h.own ho hC, fun q hq => ⟨(h.sub q hq).1.ob ho hC, (h.sub q hq).2.ob ho hC⟩⟩
theorem Eo.grew {v' : Value} {q : Rt} (ht1 : 3 ≠ t) (ht2 : 43 ≠ t) (h : Eo t W B v rs) (hq : Co W B 3 q.2.1 (isV q.1.t) ∧ Co W B 43 q.2.2 (f64s q.1.a)) (hown : W'.ownsRow B t 2 v' (rs.length + 1) (rcs rs ++ [q.2.1, q.2.2])) (hg : W.grownBy W' v.ownBlock) : Eo t W' B v' (rs ++ [q]) := by
 refine ⟨by rw [List.length_append, rcs_app]; exact hown, fun s hs => ?_⟩
 have key : Co W B 3 s.2.1 (isV s.1.t) ∧ Co W B 43 s.2.2 (f64s s.1.a) := by
   rcases List.mem_append.1 hs with e | e
   · exact h.sub s e
   · rw [List.mem_singleton.1 e]; exact hq
 exact ⟨key.1.kept h.own ht1 hg, key.2.kept h.own ht2 hg⟩
theorem Eo.rv (h : Eo t W B v rs) (hr : ∀ q ∈ rs, (∀ n ∈ q.1.t, InR n) ∧ ∀ x ∈ q.1.a, x < 18446744073709551616) : Rv W v rs := by
 refine ⟨?_, fun p hp => ⟨(h.sub p hp).1.is (hr p hp).1, (h.sub p hp).2.fs (hr p hp).2⟩⟩
 have h0 := h.own
 rcases h.own.2 with ⟨h1, h2⟩ | ⟨g, cap, cur, rfl, _, h3, h4, h5, _⟩
 · have : rs = [] := List.length_eq_zero_iff.1 h2
   subst this
   exact ⟨none, 0, h1, by simp, by omega, Or.inl rfl⟩
 · refine ⟨_, cap, rfl, h4, by unfold maxLen at h5; omega, Or.inr ⟨g, 0, rfl, (World.ownsRow.lt h0 g rfl).2, fun k p hk => ?_⟩⟩
   have := rcs_at rs k p hk
   refine ⟨own_cellL h0 this.1, ?_⟩
   rw [Nat.add_assoc]; exact own_cellL h0 this.2
end
theorem Co.own {W : World} {B t n : Nat} {v : Value} {xs : List Value} (h : W.ownsRow B t 1 v n xs) : Co W B t v xs := by
 have hl : xs.length = n := by have := h.1; omega
 rcases h.2 with ⟨h1, h2⟩ | ⟨g, cap, cur, h1, h2, h3, h4, h5, h6, h7⟩
 · subst h1
   have : xs = [] := List.length_eq_zero_iff.1 (by omega)
   subst this
   exact Co.nil _ _ _
 · subst h1
   refine ⟨_, cap, by rw [hl], by omega, by unfold maxLen at h5; omega, Or.inr ⟨g, 0, cur, rfl, h2, h3, fun i u hu => ?_⟩⟩
   rw [← h7, List.getElem?_take] at hu
   split at hu
   · rw [Nat.zero_add]; simpa using hu
   · cases hu
section
variable {a : Act} {W : World} {o : Oper} {K : Act → World → Prop} {Q : Exit → Act → World → Prop} {x y : Option Addr} {n m c d : Nat}
theorem op_copy {s u b : Nat} {t e : TypeId} {i : TypeInfo} {z : Value} {xs : List Value} (ht : Tryz.prog.underlying t = some (.slice e)) (hi : Tryz.prog.info? e = some i) (hz : i.zero = some z) (hsize : i.size = 1) (hby : i.bytes = 8) (hzs : z.cells.size = 1)
   (ho : o.op = .call { callee := .builtin .append, args := #[.tmp s, .tmp u], argTypes := #[t, t] }) (hs : a.eval (.tmp s) = .slice (some ⟨b, 0, none⟩) 0 0) (hx : a.eval (.tmp u) = .slice x n c) (hsrc : Src Tryz.prog 1 t (.slice x n c) n xs W) (hn : n ≤ 1000000)
   (h0 : n = 0 → K (a.put o.dst (.slice (some ⟨b, 0, none⟩) 0 0)) W) (h1 : 0 < n → ∀ v' W', W'.ownsRow W.heap.size e 1 v' n xs → Below W.heap.size W W' → K (a.put o.dst v') W') : Oper.wp Tryz.prog o a W K Q := by
 unfold Oper.wp execOp
 have hl := hsrc.newsLen
 simp only [ho, resolve, invoke, builtin, Sem.run_bind, Sem.run_pure, Result.andThen_ok, List.map_toArray, List.map_cons, List.map_nil, hs, hx]
 by_cases hn0 : n = 0
 · subst hn0
   have : xs = [] := List.length_eq_zero_iff.1 (by omega)
   subst this
   rw [run_append_room_src (P := Tryz.prog) W t t o.type e i ht hi b 0 0 0 (.slice x 0 c) 0 [] (by rw [hsize]; exact hsrc) (by omega) (fun j hj => by simp at hj) (fun j hj => by simp at hj)]
   exact h0 rfl
 · have hold : (Builtin.firstCells i.size 0 (.slice (some ⟨b, 0, none⟩) 0 0)).run Tryz.prog W.drew = .ok ([] : List Value).toArray W.drew := run_firstCells_some W.drew i.size 0 ⟨b, 0, none⟩ 0 0 [] (by simp) (by simp)
   have hg : 0 < 0 + n := by omega
   rw [run_append_grow_src (P := Tryz.prog) W t t o.type e i z ht hi hz (some ⟨b, 0, none⟩) 0 0 [] hold (.slice x n c) n xs (by rw [hsize]; exact hsrc) hg (by omega) (growslice_fits hg (by rw [hby]; omega))]
   have hge := grownCap_ge W (0 + n) 0 e
   have hm := grownCap_le_maxLen W (0 + n) 0 e (by unfold maxLen; omega)
   have hge' : n ≤ grownCap W n 0 e := by rw [Nat.zero_add] at hge; exact hge
   refine h1 (by omega) _ _ ⟨by omega, Or.inr ⟨W.heap.size, _, _, by rw [Nat.zero_add], Nat.le_refl _, heap_alloc_new W.drew _, hge', by rw [Nat.zero_add] at hm; exact hm, ?_, ?_⟩⟩ (((Below.refl _ W).drew).alloc (Nat.le_refl _) _)
   · simp only [Array.size_append, List.size_toArray, size_zeroCells, hzs, List.nil_append, hl]
     rw [Nat.zero_add] at hge ⊢
     omega
   · simp only [List.nil_append, Array.toList_append]
     rw [show n * 1 = xs.length by omega]
     exact List.take_left
theorem op_mv {e : Operand} (ho : o.op = .move e) (h : K (a.put o.dst (a.eval e)) W) : Oper.wp Tryz.prog o a W K Q := by
 unfold Oper.wp execOp
 rw [ho]
 exact h
end
theorem src_ints {W : World} {x : Option Addr} {n c : Nat} {ts : List Int} (h : Is W (.slice x n c) ts) : Src Tryz.prog 1 39 (.slice x n c) n (isV ts) W := by
 obtain ⟨⟨a, d, e, h1, h2, h3⟩, _⟩ := h
 cases e
 rcases h3 with rfl | ⟨g, off, rfl, hc⟩
 · cases x with
   | none => exact Src.ofNil W (e' := 3) (by kernel_rfl) c
   | some ad => exact Src.ofSlice W (e' := 3) (by kernel_rfl) ad 0 c [] (by simp) (by simp) (by simp)
 · refine Src.ofSlice W (e' := 3) (by kernel_rfl) _ _ _ _ (by simp [isV]) (fun j u hj => ?_) (fun u hu => by obtain ⟨b, _, rfl⟩ := List.mem_map.1 hu; rfl)
   obtain ⟨hlt, rfl⟩ := List.getElem?_eq_some_iff.1 hj
   have hj' : j < ts.length := by simpa [isV] using hlt
   rw [Addr.add_lit, hc j hj']
   simp [isV, List.getD, List.getElem?_eq_getElem hj']
theorem src_floats {W : World} {x : Option Addr} {n c : Nat} {ts : List Nat} (h : Fs W (.slice x n c) ts) : Src Tryz.prog 1 40 (.slice x n c) n (f64s ts) W := by
 obtain ⟨⟨a, d, e, h1, h2, h3⟩, _⟩ := h
 cases e
 rcases h3 with rfl | ⟨g, off, rfl, hc⟩
 · cases x with
   | none => exact Src.ofNil W (e' := 43) (by kernel_rfl) c
   | some ad => exact Src.ofSlice W (e' := 43) (by kernel_rfl) ad 0 c [] (by simp) (by simp) (by simp)
 · refine Src.ofSlice W (e' := 43) (by kernel_rfl) _ _ _ _ (by simp [f64s]) (fun j u hj => ?_) (fun u hu => by obtain ⟨b, _, rfl⟩ := List.mem_map.1 hu; rfl)
   obtain ⟨hlt, rfl⟩ := List.getElem?_eq_some_iff.1 hj
   have hj' : j < ts.length := by simpa [f64s] using hlt
   rw [Addr.add_lit, hc j hj']
   simp [f64s, List.getD, List.getElem?_eq_getElem hj']
theorem makeE {W : World} {B t : Nat} (hB : B ≤ W.heap.size) : (W.alloc (.cells #[] t)).ownsRow B t 1 (.slice (some ⟨W.heap.size, 0, none⟩) 0 0) 0 [] := own_base (World.ownsRow_made W (e := t) (size := 1) #[] 0 (Nat.le_refl _) (Nat.zero_le _) rfl) hB
theorem bAlE (W : World) (o : Obj) : Below W.heap.size W (W.alloc o) := (Below.refl _ _).alloc (Nat.le_refl _) _
end

/- The laws of layer 11: of: a file made anew. (gen_ega.py) -/
section
set_option maxRecDepth 100000
open Go.RowKit Go.Shelf Go.Lib
attribute [local go_sem] run_store_float
section
variable {a : Act} {W : World} {o : Oper} {K : Act → World → Prop} {Q : Exit → Act → World → Prop} {x y : Option Addr} {n m c d : Nat}
theorem oof_fldD {t B : Nat} (ho : o.op = .fieldAddr 24 (.tmp t) 3) (hv : a.eval (.tmp t) = .pointer (some ⟨B, 0, none⟩)) (h : K (a.put o.dst (.pointer (some ⟨B, 3, none⟩))) W) : Oper.wp Tryz.prog o a W K Q := by
 unfold Oper.wp execOp
 rw [ho]
 simp only [hv]
 go_simp
 exact h
theorem oof_fldS {t B : Nat} (ho : o.op = .fieldAddr 32 (.tmp t) 3) (hv : a.eval (.tmp t) = .pointer (some ⟨B, 0, none⟩)) (h : K (a.put o.dst (.pointer (some ⟨B, 3, none⟩))) W) : Oper.wp Tryz.prog o a W K Q := by
 unfold Oper.wp execOp
 rw [ho]
 simp only [hv]
 go_simp
 exact h
theorem oof_fldT {t g f : Nat} (ho : o.op = .fieldAddr 42 (.tmp t) 0) (hv : a.eval (.tmp t) = .pointer (some ⟨g, f, none⟩)) (h : K (a.put o.dst (.pointer (some ⟨g, f, none⟩))) W) : Oper.wp Tryz.prog o a W K Q := by
 unfold Oper.wp execOp
 rw [ho]
 simp only [hv]
 go_simp
 exact h
theorem oof_fldA {t g f : Nat} (ho : o.op = .fieldAddr 42 (.tmp t) 1) (hv : a.eval (.tmp t) = .pointer (some ⟨g, f, none⟩)) (h : K (a.put o.dst (.pointer (some ⟨g, f + 1, none⟩))) W) : Oper.wp Tryz.prog o a W K Q := by
 unfold Oper.wp execOp
 rw [ho]
 simp only [hv]
 go_simp
 exact h
theorem oof_ldD {t B f : Nat} (ho : o.op = .load 22 (.tmp t)) (hv : a.eval (.tmp t) = .pointer (some ⟨B, f, none⟩)) (hc : W.cell? ⟨B, f, none⟩ = some (.slice x n c)) (h : K (a.put o.dst (.slice x n c)) W) : Oper.wp Tryz.prog o a W K Q := by
 unfold Oper.wp execOp
 rw [ho]
 simp only [hv]
 go_simp
 exact h
theorem oof_ldS {t B f : Nat} (ho : o.op = .load 30 (.tmp t)) (hv : a.eval (.tmp t) = .pointer (some ⟨B, f, none⟩)) (hc : W.cell? ⟨B, f, none⟩ = some (.slice x n c)) (h : K (a.put o.dst (.slice x n c)) W) : Oper.wp Tryz.prog o a W K Q := by
 unfold Oper.wp execOp
 rw [ho]
 simp only [hv]
 go_simp
 exact h
theorem oof_ldT {t B f : Nat} (ho : o.op = .load 39 (.tmp t)) (hv : a.eval (.tmp t) = .pointer (some ⟨B, f, none⟩)) (hc : W.cell? ⟨B, f, none⟩ = some (.slice x n c)) (h : K (a.put o.dst (.slice x n c)) W) : Oper.wp Tryz.prog o a W K Q := by
 unfold Oper.wp execOp
 rw [ho]
 simp only [hv]
 go_simp
 exact h
theorem oof_ldA {t B f : Nat} (ho : o.op = .load 40 (.tmp t)) (hv : a.eval (.tmp t) = .pointer (some ⟨B, f, none⟩)) (hc : W.cell? ⟨B, f, none⟩ = some (.slice x n c)) (h : K (a.put o.dst (.slice x n c)) W) : Oper.wp Tryz.prog o a W K Q := by
 unfold Oper.wp execOp
 rw [ho]
 simp only [hv]
 go_simp
 exact h
theorem oof_ix {t u g f i : Nat} (ho : o.op = .indexAddr 30 (.tmp t) (.tmp u)) (hv : a.eval (.tmp t) = .slice (some ⟨g, f, none⟩) n c) (hu : a.eval (.tmp u) = .int .i64 (i : Nat)) (hi : (i : Int) < (n : Int)) (hi0 : (0 : Int) ≤ (i : Int)) (h : K (a.put o.dst (.pointer (some ⟨g, f + i * 2, none⟩))) W) : Oper.wp Tryz.prog o a W K Q := by
 unfold Oper.wp execOp
 rw [ho]
 simp only [hv, hu]
 go_simp
 exact h
theorem oof_nilT (ho : o.op = .buildSlice 39 0 #[]) (h : K (a.put o.dst (.slice (some ⟨W.heap.size, 0, none⟩) 0 0)) (W.alloc (.cells #[] 3))) : Oper.wp Tryz.prog o a W K Q := by
 unfold Oper.wp execOp
 rw [ho]
 simp only [List.map_toArray, List.map_nil]
 go_simp
 exact h
theorem oof_nilA (ho : o.op = .buildSlice 40 0 #[]) (h : K (a.put o.dst (.slice (some ⟨W.heap.size, 0, none⟩) 0 0)) (W.alloc (.cells #[] 43))) : Oper.wp Tryz.prog o a W K Q := by
 unfold Oper.wp execOp
 rw [ho]
 simp only [List.map_toArray, List.map_nil]
 go_simp
 exact h
theorem oof_row {t u : Nat} (ho : o.op = .build 44 #[(0, .tmp t), (1, .tmp u)]) (hv : a.eval (.tmp t) = .slice x n c) (hu : a.eval (.tmp u) = .slice y m d) (h : K (a.put o.dst (.agg #[.slice x n c, .slice y m d])) W) : Oper.wp Tryz.prog o a W K Q := by
 unfold Oper.wp execOp
 rw [ho]
 simp only [List.map_toArray, List.map_cons, List.map_nil, hv, hu]
 go_simp
 exact h
theorem oof_one {t : Nat} (ho : o.op = .buildSlice 22 1 #[(0, .tmp t)]) (hv : a.eval (.tmp t) = .agg #[.slice x n c, .slice y m d]) (h : K (a.put o.dst (.slice (some ⟨W.heap.size, 0, none⟩) 1 1)) (W.alloc (.cells #[.slice x n c, .slice y m d] 44))) : Oper.wp Tryz.prog o a W K Q := by
 unfold Oper.wp execOp
 rw [ho]
 simp only [List.map_toArray, List.map_cons, List.map_nil, hv]
 go_simp
 exact h
end
structure Zof (w W : World) (f c k : Int) (lv gv : Value) (rs' : List Rt) : Prop where
 bel : Below w.heap.size w W
 fb : CB W w.heap.size #[.int .i64 f, .int .i64 c, .int .i64 k, lv] 32
 rb : CB W (w.heap.size + 1) fe4 24
 gb : CB W (w.heap.size + 2) #[.int .i64 f, .int .i64 c, .int .i64 k, gv] 24
 er : Eo 44 W (w.heap.size + 3) gv rs'
theorem Zof.later {w W W' : World} {f c k : Int} {lv gv : Value} {rs' : List Rt} (h : Zof w W f c k lv gv rs') (hb : Below W.heap.size W W') : Zof w W' f c k lv gv rs' := ⟨h.bel.trans (hb.mono h.bel.size), h.fb.later hb, h.rb.later hb, h.gb.later hb, h.er.later hb⟩
theorem Zof.append {w W W2 : World} {f c k : Int} {lv gv gv' : Value} {rs' : List Rt} {q : Rt} (h : Zof w W f c k lv gv rs') (hq : Co W (w.heap.size + 3) 3 q.2.1 (isV q.1.t) ∧ Co W (w.heap.size + 3) 43 q.2.2 (f64s q.1.a)) (hown : W2.ownsRow (w.heap.size + 3) 44 2 gv' (rs'.length + 1) (rcs rs' ++ [q.2.1, q.2.2])) (hg : W.grownBy W2 gv.ownBlock) :
   (W2.cell? ⟨w.heap.size + 2, 3, none⟩ = some gv ∧ W2.frozen? ⟨w.heap.size + 2, 3, none⟩ = false) ∧ Zof w (W2.setCell ⟨w.heap.size + 2, 3, none⟩ gv') f c k lv gv' (rs' ++ [q]) := by
 have cb : ∀ {b t : Nat} {cs : Array Value}, CB W b cs t → b < w.heap.size + 3 → CB W2 b cs t := fun hc hb => by
   unfold CB
   rw [hg.block _ hc.lt (fun e => by have := (h.er.own.lt _ e.symm).1; omega)]; exact hc
 have hfb := cb h.fb (by omega)
 have hrb := cb h.rb (by omega)
 have hgb := cb h.gb (by omega)
 have her := h.er.grew (by decide) (by decide) hq hown hg
 have ho := Ob.set (w.heap.size + 2) 3 W2 gv'
 have hb2 : Below w.heap.size w W2 := h.bel.grown hg h.bel.size (fun b hb => by have := (h.er.own.lt b hb).1; omega)
 exact ⟨⟨hgb.cell 3 (by simp), hgb.frozen 3⟩, hb2.setCell (by show w.heap.size ≤ w.heap.size + 2; omega) _, hfb.other (by omega) _, hrb.other (by omega) _, by have := hgb.set 3 gv'; simpa using this, her.ob ho (by omega)⟩
def Fof (Bf Bg B3 : Nat) (ga : Option Addr) (gn gc : Nat) (g off N nc i : Nat) (ta : Option Addr) (tl tc : Nat) (aa : Option Addr) (al ac : Nat) (ts : List Int) (ls : List Nat) (j : Nat) (v : Value) (W : World) : Prop := match j with
 | 0 => v = .pointer (some ⟨Bg, 3, none⟩)
 | 1 => v = .slice ga gn gc
 | 2 => (∃ b, v = .slice (some ⟨b, 0, none⟩) 0 0) ∧ W.ownsRow B3 3 1 v 0 []
 | 3 => v = .pointer (some ⟨Bf, 3, none⟩)
 | 4 => v = .slice (some ⟨g, off, none⟩) N nc
 | 5 => v = .int .i64 (i : Nat)
 | 6 => v = .pointer (some ⟨g, off + i * 2, none⟩)
 | 7 => v = .pointer (some ⟨g, off + i * 2, none⟩)
 | 8 => v = .slice ta tl tc
 | 9 => W.ownsRow B3 3 1 v tl (isV ts)
 | 10 => (∃ b, v = .slice (some ⟨b, 0, none⟩) 0 0) ∧ W.ownsRow B3 43 1 v 0 []
 | 11 => v = .pointer (some ⟨Bf, 3, none⟩)
 | 12 => v = .slice (some ⟨g, off, none⟩) N nc
 | 13 => v = .int .i64 (i : Nat)
 | 14 => v = .pointer (some ⟨g, off + i * 2, none⟩)
 | 15 => v = .pointer (some ⟨g, off + i * 2 + 1, none⟩)
 | 16 => v = .slice aa al ac
 | 17 => W.ownsRow B3 43 1 v al (f64s ls)
 | 18 => ∃ tv av, v = .agg #[tv, av] ∧ W.ownsRow B3 3 1 tv tl (isV ts) ∧ W.ownsRow B3 43 1 av al (f64s ls)
 | 19 => ∃ b tv av, v = .slice (some ⟨b, 0, none⟩) 1 1 ∧ CB W b #[tv, av] 44 ∧ W.ownsRow B3 3 1 tv tl (isV ts) ∧ W.ownsRow B3 43 1 av al (f64s ls)
 | _ => True
theorem Fof_stab {Bf Bg B3 : Nat} {ga : Option Addr} {gn gc : Nat} {g off N nc i : Nat} {ta : Option Addr} {tl tc : Nat} {aa : Option Addr} {al ac : Nat} {ts : List Int} {ls : List Nat} : ∀ j v w w', Fof Bf Bg B3 ga gn gc g off N nc i ta tl tc aa al ac ts ls j v w → Below w.heap.size w w' → Fof Bf Bg B3 ga gn gc g off N nc i ta tl tc aa al ac ts ls j v w' := by
 intro j v w w' h hb
 by_cases hj : j < 20
 · have hc : j = 0 ∨ j = 1 ∨ j = 2 ∨ j = 3 ∨ j = 4 ∨ j = 5 ∨ j = 6 ∨ j = 7 ∨ j = 8 ∨ j = 9 ∨ j = 10 ∨ j = 11 ∨ j = 12 ∨ j = 13 ∨ j = 14 ∨ j = 15 ∨ j = 16 ∨ j = 17 ∨ j = 18 ∨ j = 19 := by omega
   rcases hc with rfl | rfl | rfl | rfl | rfl | rfl | rfl | rfl | rfl | rfl | rfl | rfl | rfl | rfl | rfl | rfl | rfl | rfl | rfl | rfl
   · exact h
   · exact h
   · exact ⟨h.1, own_later h.2 hb⟩
   · exact h
   · exact h
   · exact h
   · exact h
   · exact h
   · exact h
   · exact own_later (show w.ownsRow B3 3 1 v tl (isV ts) from h) hb
   · exact ⟨h.1, own_later h.2 hb⟩
   · exact h
   · exact h
   · exact h
   · exact h
   · exact h
   · exact h
   · exact own_later (show w.ownsRow B3 43 1 v al (f64s ls) from h) hb
   · obtain ⟨tv, av, h1, h2, h3⟩ := h
     exact ⟨tv, av, h1, own_later h2 hb, own_later h3 hb⟩
   · obtain ⟨b, tv, av, h1, h2, h3, h4⟩ := h
     exact ⟨b, tv, av, h1, h2.later hb, own_later h3 hb, own_later h4 hb⟩
 · have e : ∀ j, ¬ j < 20 → ∀ v W, Fof Bf Bg B3 ga gn gc g off N nc i ta tl tc aa al ac ts ls j v W := fun j hj v W => by
     unfold Fof
     split <;> first | trivial | omega
   exact e j hj v w'
end

/- The laws of layer 11: to: a file made anew. (gen_ega.py) -/
section
set_option maxRecDepth 100000
open Go.RowKit Go.Shelf Go.Lib
attribute [local go_sem] run_store_float
section
variable {a : Act} {W : World} {o : Oper} {K : Act → World → Prop} {Q : Exit → Act → World → Prop} {x y : Option Addr} {n m c d : Nat}
theorem oto_fldD {t B : Nat} (ho : o.op = .fieldAddr 32 (.tmp t) 3) (hv : a.eval (.tmp t) = .pointer (some ⟨B, 0, none⟩)) (h : K (a.put o.dst (.pointer (some ⟨B, 3, none⟩))) W) : Oper.wp Tryz.prog o a W K Q := by
 unfold Oper.wp execOp
 rw [ho]
 simp only [hv]
 go_simp
 exact h
theorem oto_fldS {t B : Nat} (ho : o.op = .fieldAddr 24 (.tmp t) 3) (hv : a.eval (.tmp t) = .pointer (some ⟨B, 0, none⟩)) (h : K (a.put o.dst (.pointer (some ⟨B, 3, none⟩))) W) : Oper.wp Tryz.prog o a W K Q := by
 unfold Oper.wp execOp
 rw [ho]
 simp only [hv]
 go_simp
 exact h
theorem oto_fldT {t g f : Nat} (ho : o.op = .fieldAddr 44 (.tmp t) 0) (hv : a.eval (.tmp t) = .pointer (some ⟨g, f, none⟩)) (h : K (a.put o.dst (.pointer (some ⟨g, f, none⟩))) W) : Oper.wp Tryz.prog o a W K Q := by
 unfold Oper.wp execOp
 rw [ho]
 simp only [hv]
 go_simp
 exact h
theorem oto_fldA {t g f : Nat} (ho : o.op = .fieldAddr 44 (.tmp t) 1) (hv : a.eval (.tmp t) = .pointer (some ⟨g, f, none⟩)) (h : K (a.put o.dst (.pointer (some ⟨g, f + 1, none⟩))) W) : Oper.wp Tryz.prog o a W K Q := by
 unfold Oper.wp execOp
 rw [ho]
 simp only [hv]
 go_simp
 exact h
theorem oto_ldD {t B f : Nat} (ho : o.op = .load 30 (.tmp t)) (hv : a.eval (.tmp t) = .pointer (some ⟨B, f, none⟩)) (hc : W.cell? ⟨B, f, none⟩ = some (.slice x n c)) (h : K (a.put o.dst (.slice x n c)) W) : Oper.wp Tryz.prog o a W K Q := by
 unfold Oper.wp execOp
 rw [ho]
 simp only [hv]
 go_simp
 exact h
theorem oto_ldS {t B f : Nat} (ho : o.op = .load 22 (.tmp t)) (hv : a.eval (.tmp t) = .pointer (some ⟨B, f, none⟩)) (hc : W.cell? ⟨B, f, none⟩ = some (.slice x n c)) (h : K (a.put o.dst (.slice x n c)) W) : Oper.wp Tryz.prog o a W K Q := by
 unfold Oper.wp execOp
 rw [ho]
 simp only [hv]
 go_simp
 exact h
theorem oto_ldT {t B f : Nat} (ho : o.op = .load 39 (.tmp t)) (hv : a.eval (.tmp t) = .pointer (some ⟨B, f, none⟩)) (hc : W.cell? ⟨B, f, none⟩ = some (.slice x n c)) (h : K (a.put o.dst (.slice x n c)) W) : Oper.wp Tryz.prog o a W K Q := by
 unfold Oper.wp execOp
 rw [ho]
 simp only [hv]
 go_simp
 exact h
theorem oto_ldA {t B f : Nat} (ho : o.op = .load 40 (.tmp t)) (hv : a.eval (.tmp t) = .pointer (some ⟨B, f, none⟩)) (hc : W.cell? ⟨B, f, none⟩ = some (.slice x n c)) (h : K (a.put o.dst (.slice x n c)) W) : Oper.wp Tryz.prog o a W K Q := by
 unfold Oper.wp execOp
 rw [ho]
 simp only [hv]
 go_simp
 exact h
theorem oto_ix {t u g f i : Nat} (ho : o.op = .indexAddr 22 (.tmp t) (.tmp u)) (hv : a.eval (.tmp t) = .slice (some ⟨g, f, none⟩) n c) (hu : a.eval (.tmp u) = .int .i64 (i : Nat)) (hi : (i : Int) < (n : Int)) (hi0 : (0 : Int) ≤ (i : Int)) (h : K (a.put o.dst (.pointer (some ⟨g, f + i * 2, none⟩))) W) : Oper.wp Tryz.prog o a W K Q := by
 unfold Oper.wp execOp
 rw [ho]
 simp only [hv, hu]
 go_simp
 exact h
theorem oto_nilT (ho : o.op = .buildSlice 39 0 #[]) (h : K (a.put o.dst (.slice (some ⟨W.heap.size, 0, none⟩) 0 0)) (W.alloc (.cells #[] 3))) : Oper.wp Tryz.prog o a W K Q := by
 unfold Oper.wp execOp
 rw [ho]
 simp only [List.map_toArray, List.map_nil]
 go_simp
 exact h
theorem oto_nilA (ho : o.op = .buildSlice 40 0 #[]) (h : K (a.put o.dst (.slice (some ⟨W.heap.size, 0, none⟩) 0 0)) (W.alloc (.cells #[] 43))) : Oper.wp Tryz.prog o a W K Q := by
 unfold Oper.wp execOp
 rw [ho]
 simp only [List.map_toArray, List.map_nil]
 go_simp
 exact h
theorem oto_row {t u : Nat} (ho : o.op = .build 42 #[(0, .tmp t), (1, .tmp u)]) (hv : a.eval (.tmp t) = .slice x n c) (hu : a.eval (.tmp u) = .slice y m d) (h : K (a.put o.dst (.agg #[.slice x n c, .slice y m d])) W) : Oper.wp Tryz.prog o a W K Q := by
 unfold Oper.wp execOp
 rw [ho]
 simp only [List.map_toArray, List.map_cons, List.map_nil, hv, hu]
 go_simp
 exact h
theorem oto_one {t : Nat} (ho : o.op = .buildSlice 30 1 #[(0, .tmp t)]) (hv : a.eval (.tmp t) = .agg #[.slice x n c, .slice y m d]) (h : K (a.put o.dst (.slice (some ⟨W.heap.size, 0, none⟩) 1 1)) (W.alloc (.cells #[.slice x n c, .slice y m d] 42))) : Oper.wp Tryz.prog o a W K Q := by
 unfold Oper.wp execOp
 rw [ho]
 simp only [List.map_toArray, List.map_cons, List.map_nil, hv]
 go_simp
 exact h
end
structure Zto (w W : World) (f c k : Int) (lv gv : Value) (rs' : List Rt) : Prop where
 bel : Below w.heap.size w W
 fb : CB W w.heap.size #[.int .i64 f, .int .i64 c, .int .i64 k, lv] 24
 rb : CB W (w.heap.size + 1) fe4 32
 gb : CB W (w.heap.size + 2) #[.int .i64 f, .int .i64 c, .int .i64 k, gv] 32
 er : Eo 42 W (w.heap.size + 3) gv rs'
theorem Zto.later {w W W' : World} {f c k : Int} {lv gv : Value} {rs' : List Rt} (h : Zto w W f c k lv gv rs') (hb : Below W.heap.size W W') : Zto w W' f c k lv gv rs' := ⟨h.bel.trans (hb.mono h.bel.size), h.fb.later hb, h.rb.later hb, h.gb.later hb, h.er.later hb⟩
theorem Zto.append {w W W2 : World} {f c k : Int} {lv gv gv' : Value} {rs' : List Rt} {q : Rt} (h : Zto w W f c k lv gv rs') (hq : Co W (w.heap.size + 3) 3 q.2.1 (isV q.1.t) ∧ Co W (w.heap.size + 3) 43 q.2.2 (f64s q.1.a)) (hown : W2.ownsRow (w.heap.size + 3) 42 2 gv' (rs'.length + 1) (rcs rs' ++ [q.2.1, q.2.2])) (hg : W.grownBy W2 gv.ownBlock) :
   (W2.cell? ⟨w.heap.size + 2, 3, none⟩ = some gv ∧ W2.frozen? ⟨w.heap.size + 2, 3, none⟩ = false) ∧ Zto w (W2.setCell ⟨w.heap.size + 2, 3, none⟩ gv') f c k lv gv' (rs' ++ [q]) := by
 have cb : ∀ {b t : Nat} {cs : Array Value}, CB W b cs t → b < w.heap.size + 3 → CB W2 b cs t := fun hc hb => by
   unfold CB
   rw [hg.block _ hc.lt (fun e => by have := (h.er.own.lt _ e.symm).1; omega)]; exact hc
 have hfb := cb h.fb (by omega)
 have hrb := cb h.rb (by omega)
 have hgb := cb h.gb (by omega)
 have her := h.er.grew (by decide) (by decide) hq hown hg
 have ho := Ob.set (w.heap.size + 2) 3 W2 gv'
 have hb2 : Below w.heap.size w W2 := h.bel.grown hg h.bel.size (fun b hb => by have := (h.er.own.lt b hb).1; omega)
 exact ⟨⟨hgb.cell 3 (by simp), hgb.frozen 3⟩, hb2.setCell (by show w.heap.size ≤ w.heap.size + 2; omega) _, hfb.other (by omega) _, hrb.other (by omega) _, by have := hgb.set 3 gv'; simpa using this, her.ob ho (by omega)⟩
def Fto (Bf Bg B3 : Nat) (ga : Option Addr) (gn gc : Nat) (g off N nc i : Nat) (ta : Option Addr) (tl tc : Nat) (aa : Option Addr) (al ac : Nat) (ts : List Int) (ls : List Nat) (j : Nat) (v : Value) (W : World) : Prop := match j with
 | 0 => v = .pointer (some ⟨Bg, 3, none⟩)
 | 1 => v = .slice ga gn gc
 | 2 => (∃ b, v = .slice (some ⟨b, 0, none⟩) 0 0) ∧ W.ownsRow B3 3 1 v 0 []
 | 3 => v = .pointer (some ⟨Bf, 3, none⟩)
 | 4 => v = .slice (some ⟨g, off, none⟩) N nc
 | 5 => v = .int .i64 (i : Nat)
 | 6 => v = .pointer (some ⟨g, off + i * 2, none⟩)
 | 7 => v = .pointer (some ⟨g, off + i * 2, none⟩)
 | 8 => v = .slice ta tl tc
 | 9 => W.ownsRow B3 3 1 v tl (isV ts)
 | 10 => (∃ b, v = .slice (some ⟨b, 0, none⟩) 0 0) ∧ W.ownsRow B3 43 1 v 0 []
 | 11 => v = .pointer (some ⟨Bf, 3, none⟩)
 | 12 => v = .slice (some ⟨g, off, none⟩) N nc
 | 13 => v = .int .i64 (i : Nat)
 | 14 => v = .pointer (some ⟨g, off + i * 2, none⟩)
 | 15 => v = .pointer (some ⟨g, off + i * 2 + 1, none⟩)
 | 16 => v = .slice aa al ac
 | 17 => W.ownsRow B3 43 1 v al (f64s ls)
 | 18 => ∃ tv av, v = .agg #[tv, av] ∧ W.ownsRow B3 3 1 tv tl (isV ts) ∧ W.ownsRow B3 43 1 av al (f64s ls)
 | 19 => ∃ b tv av, v = .slice (some ⟨b, 0, none⟩) 1 1 ∧ CB W b #[tv, av] 42 ∧ W.ownsRow B3 3 1 tv tl (isV ts) ∧ W.ownsRow B3 43 1 av al (f64s ls)
 | _ => True
theorem Fto_stab {Bf Bg B3 : Nat} {ga : Option Addr} {gn gc : Nat} {g off N nc i : Nat} {ta : Option Addr} {tl tc : Nat} {aa : Option Addr} {al ac : Nat} {ts : List Int} {ls : List Nat} : ∀ j v w w', Fto Bf Bg B3 ga gn gc g off N nc i ta tl tc aa al ac ts ls j v w → Below w.heap.size w w' → Fto Bf Bg B3 ga gn gc g off N nc i ta tl tc aa al ac ts ls j v w' := by
 intro j v w w' h hb
 by_cases hj : j < 20
 · have hc : j = 0 ∨ j = 1 ∨ j = 2 ∨ j = 3 ∨ j = 4 ∨ j = 5 ∨ j = 6 ∨ j = 7 ∨ j = 8 ∨ j = 9 ∨ j = 10 ∨ j = 11 ∨ j = 12 ∨ j = 13 ∨ j = 14 ∨ j = 15 ∨ j = 16 ∨ j = 17 ∨ j = 18 ∨ j = 19 := by omega
   rcases hc with rfl | rfl | rfl | rfl | rfl | rfl | rfl | rfl | rfl | rfl | rfl | rfl | rfl | rfl | rfl | rfl | rfl | rfl | rfl | rfl
   · exact h
   · exact h
   · exact ⟨h.1, own_later h.2 hb⟩
   · exact h
   · exact h
   · exact h
   · exact h
   · exact h
   · exact h
   · exact own_later (show w.ownsRow B3 3 1 v tl (isV ts) from h) hb
   · exact ⟨h.1, own_later h.2 hb⟩
   · exact h
   · exact h
   · exact h
   · exact h
   · exact h
   · exact h
   · exact own_later (show w.ownsRow B3 43 1 v al (f64s ls) from h) hb
   · obtain ⟨tv, av, h1, h2, h3⟩ := h
     exact ⟨tv, av, h1, own_later h2 hb, own_later h3 hb⟩
   · obtain ⟨b, tv, av, h1, h2, h3, h4⟩ := h
     exact ⟨b, tv, av, h1, h2.later hb, own_later h3 hb, own_later h4 hb⟩
 · have e : ∀ j, ¬ j < 20 → ∀ v W, Fto Bf Bg B3 ga gn gc g off N nc i ta tl tc aa al ac ts ls j v W := fun j hj v W => by
     unfold Fto
     split <;> first | trivial | omega
   exact e j hj v w'
end

/- The laws of layer 11: what is read is written, and is the same: plain. -/
section
set_option maxRecDepth 100000
open Go.RowKit Go.Shelf Go.Lib
theorem same_crw {c k : Int} {r : Rw} (h : amissE c k r = false) : FEs (crw r).a r.a := by
 refine ⟨by simp [crw], fun i hi => ?_⟩
 have hi' : i < r.a.length := by simpa [crw] using hi
 show FE ((r.a.map cz).getD i 0) (r.a.getD i 0)
 have hm : r.a[i] ∈ r.a := List.getElem_mem hi'
 rw [List.getD_eq_getElem?_getD, List.getD_eq_getElem?_getD, List.getElem?_map, List.getElem?_eq_getElem hi']
 exact fe_cz (endl_fin ((amissE_no.1 h).2.2.2 _ hm))
theorem sameE_list {ms rs : List Rt} {c k : Int} (h : ms.map (·.1) = (rs.map (·.1)).map crw) (hg : ∀ q ∈ rs, amissE c k q.1 = false) : ms.length = rs.length ∧ ∀ (i : Nat) (q r : Rt), ms[i]? = some q → rs[i]? = some r → q.1.t = r.1.t ∧ FEs q.1.a r.1.a := by
 have hlen : ms.length = rs.length := by
   have := congrArg List.length h
   simpa using this
 refine ⟨hlen, fun i q r hq hr => ?_⟩
 have h1 : (ms.map (·.1))[i]? = some q.1 := by rw [List.getElem?_map, hq]; rfl
 have h2 : ((rs.map (·.1)).map crw)[i]? = some (crw r.1) := by rw [List.getElem?_map, List.getElem?_map, hr]; rfl
 rw [h, h2] at h1
 have e : crw r.1 = q.1 := by simpa using h1
 rw [← e]
 exact ⟨rfl, same_crw (hg r (List.mem_of_getElem? hr))⟩
theorem wrE_len {p : Pm} {f : Fe} (h : (wrE p f).2 = 0) : (wrE p f).1.length ≤ 16777216 := by
 obtain ⟨_, _, h2, h3⟩ := wrE_zero h
 rw [h3]
 exact (fits_parts h2).2
theorem goE_inl {p : Pm} {f c k : Nat} : ∀ {L : List (Nat × List Bs)} {i : Nat} {e : Nat × Int}, goE p f c k i L = .inl e → e.2 ≠ 0 := by
 intro L
 induction L with
 | nil => intro i e h; cases h
 | cons a r ih =>
   intro i e h
   obtain ⟨no, ws⟩ := a
   rw [goE] at h
   by_cases h0 : rwE p f c k i ws = 0
   · rw [if_pos h0] at h
     cases hg : goE p f c k (i + 1) r with
     | inl x =>
       rw [hg] at h
       cases h
       exact ih hg
     | inr x => rw [hg] at h; cases h
   · rw [if_neg h0] at h
     cases h
     exact h0
theorem goE_rows {p : Pm} {f c k : Nat} : ∀ {L : List (Nat × List Bs)} {i : Nat} {rs : List Rw}, goE p f c k i L = .inr rs → ∀ r ∈ rs, ∃ ws j, rwE p f c k j ws = 0 ∧ r = rwV p f c ws := by
 intro L
 induction L with
 | nil => intro i rs h r hr; cases h; simp at hr
 | cons a r ih =>
   intro i rs h q hq
   obtain ⟨no, ws⟩ := a
   rw [goE] at h
   by_cases h0 : rwE p f c k i ws = 0
   · rw [if_pos h0] at h
     cases hg : goE p f c k (i + 1) r with
     | inl x => rw [hg] at h; cases h
     | inr x =>
       rw [hg] at h
       cases h
       rcases List.mem_cons.1 hq with rfl | hq
       · exact ⟨ws, i, h0, rfl⟩
       · exact ih hg q hq
   · rw [if_neg h0] at h; cases h
theorem rw_good {p : Pm} (hp : p.Ok) {f c k j : Nat} {ws : List Bs} (h : rwE p f c k j ws = 0) : amissE (c : Nat) (k : Nat) (rwV p f c ws) = false ∧ (∀ n ∈ (rwV p f c ws).t, InR n) ∧ ∀ x ∈ (rwV p f c ws).a, x < 18446744073709551616 := by
 unfold rwE at h
 split at h
 · rename_i n ns hi
   split at h
   · rename_i hc
     have hl := intsE_len hi
     rw [List.length_take, List.length_cons, hc.1] at hl
     have h0 := fst0_zero.1 h
     have ht : ∀ m ∈ ns.map (· - (f : Int)), 0 ≤ m ∧ m < 1048576 := fun m hm => by
       obtain ⟨n', hn', rfl⟩ := List.mem_map.1 hm
       have := h0 (corE f n') (List.mem_append_left _ (List.mem_map.2 ⟨n', hn', rfl⟩))
       unfold corE at this
       split at this
       · omega
       · cases this
     have ha : ∀ x ∈ (ws.drop (1 + c)).map (fun w => (p.rf w).1), Fin64 x ∧ x < 18446744073709551616 := fun x hx => by
       obtain ⟨w, hw, rfl⟩ := List.mem_map.1 hx
       exact rf_fin hp (h0 (p.rf w).2 (List.mem_append_right _ (List.mem_map.2 ⟨w, hw, rfl⟩)))
     have e1 : (rwV p f c ws).t = ns.map (· - (f : Int)) := by unfold rwV; rw [hi]; rfl
     have e2 : (rwV p f c ws).a = (ws.drop (1 + c)).map (fun w => (p.rf w).1) := rfl
     rw [amissE_no, e1, e2]
     refine ⟨⟨by simp; omega, fun m hm => ?_, by simp; omega, fun x hx => fin_endl (ha x hx).1⟩, fun m hm => ?_, fun x hx => (ha x hx).2⟩
     · have := ht m hm
       unfold strayE
       simp
       omega
     · have := ht m hm
       exact ⟨by omega, by omega⟩
   · cases h
 · cases h
theorem heP_some {ws : List Bs} {n c k : Nat} (h : heP ws = some (n, c, k)) : c = 3 ∨ c = 6 := by
 unfold heP at h
 split at h
 · split at h
   · split at h
     · rename_i hc
       cases h
       omega
     · cases h
   · cases h
 · cases h
theorem reV_parts {p : Pm} {t : Bs} (h : (reV p t).2.2 = 0) : ∃ (no : Nat) (ws : List Bs) (r : List (Nat × List Bs)) (n c k : Nat) (rs : List Rw), (rdV t).1 = (no, ws) :: r ∧ n ≤ 1048576 ∧ k ≤ 16 ∧ (c = 3 ∨ c = 6) ∧ goE p (fst1 r) c k 0 r = .inr rs ∧ r.length = n ∧ reV p t = (⟨(fst1 r : Nat), (c : Nat), (k : Nat), rs⟩, 0, 0) := by
 unfold reV at h ⊢
 by_cases h0 : (rdV t).2.2 = 0
 · rw [if_pos h0] at h ⊢
   cases hl : (rdV t).1 with
   | nil => rw [hl] at h; cases h
   | cons q r =>
     obtain ⟨no, ws⟩ := q
     rw [hl] at h
     simp only [] at h ⊢
     by_cases h1 : heE ws = 0
     · rw [if_pos h1] at h ⊢
       cases hp : heP ws with
       | none => rw [hp] at h; cases h
       | some q =>
         obtain ⟨n, c, k⟩ := q
         rw [hp] at h
         simp only [] at h ⊢
         have hb : n ≤ 1048576 ∧ k ≤ 16 := by
           unfold heE at h1
           rw [hp] at h1
           simp only [] at h1
           split at h1
           · assumption
           · cases h1
         unfold flV at h ⊢
         cases hg : goE p (fst1 r) c k 0 (r.take n) with
         | inl e =>
           rw [hg] at h
           exact absurd h (goE_inl hg)
         | inr rs =>
           rw [hg] at h
           simp only [] at h ⊢
           by_cases h2 : n < r.length
           · rw [if_pos h2] at h; cases h
           · rw [if_neg h2] at h ⊢
             by_cases h3 : r.length < n
             · rw [if_pos h3] at h; cases h
             · rw [if_neg h3]
               rw [List.take_of_length_le (by omega)] at hg
               exact ⟨no, ws, r, n, c, k, rs, rfl, hb.1, hb.2, heP_some hp, hg, by omega, rfl⟩
     · rw [if_neg h1] at h
       simp only [] at h
       exact absurd (by omega : heE ws = 0) h1
 · rw [if_neg h0] at h
   simp only [] at h
   exact absurd (by omega : (rdV t).2.2 = 0) h0
theorem fst1_le (r : List (Nat × List Bs)) : fst1 r ≤ 1 := by
 cases r with
 | nil => simp [fst1]
 | cons a r => obtain ⟨no, ws⟩ := a; rw [fst1]; split <;> omega
theorem feW_may {p : Pm} (hp : p.Ok) {f : Fe} (hm : mayE f = true) (hw : ∀ r ∈ f.l, ∀ x ∈ r.a, x < 18446744073709551616) : (feW p f).all okL = true := by
 obtain ⟨F, c, k, e1, e2, e3, hF, hc, hk, hl, ha⟩ := mayE_parts hm
 rw [List.all_eq_true]
 intro ws hws
 unfold okL
 rw [Bool.and_eq_true, List.all_eq_true]
 unfold feW at hws
 rcases List.mem_cons.1 hws with rfl | h
 · refine ⟨fun x hx => ?_, rfl⟩
   simp only [List.mem_cons, List.not_mem_nil, or_false] at hx
   rcases hx with rfl | rfl | rfl
   · exact may_itoa ⟨by omega, by omega⟩
   · exact may_itoa (by rw [e2]; exact ⟨by omega, by omega⟩)
   · exact may_itoa (by rw [e3]; exact ⟨by omega, by omega⟩)
 · obtain ⟨j, q, h1, h2, rfl⟩ := rwsW_at p _ _ _ _ h
   obtain ⟨g1, g2, g3, g4⟩ := amissE_no.1 (ha q h2)
   unfold rwW
   refine ⟨fun x hx => ?_, rfl⟩
   simp only [List.mem_cons, List.mem_append, List.mem_map] at hx
   rcases hx with rfl | ⟨n, hn, rfl⟩ | ⟨b, hb, rfl⟩
   · exact may_itoa (by rw [e1]; exact ⟨by omega, by omega⟩)
   · have := stray_no (g2 n hn)
     exact may_itoa (by rw [e1]; exact ⟨by omega, by omega⟩)
   · exact may_tx hp (endl_fin (g4 b hb)) (hw q h2 b hb)
theorem feW_jn {p : Pm} (hp : p.Ok) {f : Fe} (hm : mayE f = true) (hw : ∀ r ∈ f.l, ∀ x ∈ r.a, x < 18446744073709551616) : ∀ ws ∈ feW p f, (jn ws).length ≤ 1200 := by
 obtain ⟨F, c, k, e1, e2, e3, hF, hc, hk, hl, ha⟩ := mayE_parts hm
 intro ws hws
 have hs := (feW_short hp hm hw ws hws).1
 have hl : ws.length ≤ 24 ∧ ws ≠ [] := by
   unfold feW at hws
   rcases List.mem_cons.1 hws with rfl | h
   · simp
   · obtain ⟨j, q, h1, h2, rfl⟩ := rwsW_at p _ _ _ _ h
     obtain ⟨g1, g2, g3, g4⟩ := amissE_no.1 (ha q h2)
     unfold rwW
     refine ⟨?_, by simp⟩
     simp
     omega
 have h1 := jn_len hl.2
 have h2 := lens_le hs
 have h3 : ws.length * 43 ≤ 24 * 43 := Nat.mul_le_mul_right _ hl.1
 omega
theorem rdE_written {p : Pm} (hp : p.Ok) {t : Bs} (ht : t.length ≤ 20000) (h : (reV p t).2.2 = 0) : (wrE p (reV p t).1).2 = 0 ∧ (reV p t).1.l.length ≤ 10000 ∧ ∀ r ∈ (reV p t).1.l, (∀ n ∈ r.t, InR n) ∧ (∀ x ∈ r.a, x < 18446744073709551616) ∧ r.t.length ≤ 6 ∧ r.a.length ≤ 16 := by
 obtain ⟨no, ws, r, n, c, k, rs, hL, hn, hk, hc, hG, hr, hf⟩ := reV_parts h
 rw [hf]
 have hlen := goE_len hG
 have hn := rd_len ht
 rw [hL, List.length_cons] at hn
 have hq : ∀ q ∈ rs, amissE (c : Nat) (k : Nat) q = false ∧ (∀ n ∈ q.t, InR n) ∧ ∀ x ∈ q.a, x < 18446744073709551616 := fun q hq => by
   obtain ⟨w, j, h1, rfl⟩ := goE_rows hG q hq
   exact rw_good hp h1
 have hF := fst1_le r
 have hm : mayE ⟨(fst1 r : Nat), (c : Nat), (k : Nat), rs⟩ = true := by
   unfold mayE
   simp only [Bool.and_eq_true, Bool.or_eq_true, decide_eq_true_eq, Bool.not_eq_true', List.any_eq_false]
   refine ⟨⟨⟨⟨⟨by omega, by omega⟩, by omega⟩, by omega⟩, by omega⟩, fun q hqq => by rw [(hq q hqq).1]; simp⟩
 have hw : ∀ q ∈ (⟨(fst1 r : Nat), (c : Nat), (k : Nat), rs⟩ : Fe).l, ∀ x ∈ q.a, x < 18446744073709551616 := fun q hqq => (hq q hqq).2.2
 have hok := feW_may hp hm hw
 have hj := feW_jn hp hm hw
 have hfit : fits (feW p ⟨(fst1 r : Nat), (c : Nat), (k : Nat), rs⟩) = true := by
   refine fits_yes (fun j hj' => ?_) ?_
   · have := hj _ (List.getElem_mem hj')
     omega
   · have h1 := wrT_le hj
     have h2 : (feW p ⟨(fst1 r : Nat), (c : Nat), (k : Nat), rs⟩).length ≤ 10001 := by
       unfold feW
       rw [List.length_cons, rwsW_len]
       simp only []
       omega
     have h3 := Nat.mul_le_mul_right (1200 + 1) h2
     omega
 refine ⟨?_, by simp only []; omega, fun q hqq => ⟨(hq q hqq).2.1, (hq q hqq).2.2, ?_, ?_⟩⟩
 · unfold wrE
   rw [if_pos hm]
   unfold wrV
   rw [if_pos hok, if_pos hfit]
   rfl
 · have := (amissE_no.1 (hq q hqq).1).1
   omega
 · have := (amissE_no.1 (hq q hqq).1).2.2.1
   omega
theorem wrE_good {p : Pm} {f : Fe} (h : (wrE p f).2 = 0) : ∀ q ∈ f.l, amissE f.c f.k q = false := by
 obtain ⟨F, c, k, e1, e2, e3, hF, hc, hk, hl, ha⟩ := mayE_parts (wrE_zero h).1
 rw [e2, e3]
 exact ha
end
end Go.Proofs.YtgoadpnoagaflaaGreatDoor
