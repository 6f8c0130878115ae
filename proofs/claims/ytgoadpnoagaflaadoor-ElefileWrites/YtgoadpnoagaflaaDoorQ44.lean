/- Own texts, put together: Eha. -/
import Derived.Test.YtgoadpnoagaflaaDoorQ27
import Derived.Test.YtgoadpnoagaflaaDoorQ43
/- The document's side of layer 11: May. -/
namespace Go.Proofs.YtgoadpnoagaflaaDoor
set_option maxRecDepth 100000
open Go.RowKit Go.Shelf Go.Lib
attribute [local go_sem] run_store_float
theorem selfE_nan {x : Nat} (h : ¬ Fin64 x) : floatBits .sub .f64 x x = none := by
 unfold Fin64 at h
 show ((Ieee.double.read x).sum (Ieee.double.read x).opposite).map Ieee.double.write = none
 rcases Nat.lt_or_ge 9218868437227405312 (frung x) with h1 | h1
 · obtain ⟨s, t, h2⟩ := read_nan h1
   rw [h2]; rfl
 · rw [read_inf (show frung x = 9218868437227405312 by omega)]
   unfold Ieee.Datum.opposite Ieee.Datum.sum
   cases fneg x <;> rfl
structure My (w W : World) (f c k : Int) (v tv av : Value) (b : Nat) : Prop where
 bel : Below w.heap.size w W
 fb : CB W w.heap.size #[.int .i64 f, .int .i64 c, .int .i64 k, v] 42
 rb : CB W b #[tv, av] 51
theorem My.later {w W W' : World} {f c k : Int} {v tv av : Value} {b : Nat} (h : My w W f c k v tv av b) (hb : Below W.heap.size W W') : My w W' f c k v tv av b := ⟨h.bel.trans (hb.mono h.bel.size), h.fb.later hb, h.rb.later hb⟩
set_option maxHeartbeats 16000000 in
theorem refMay11_any (f c k : Int) (v : Value) (rs : List Rt) (w : World) (hv : Rv w v rs) (hn : rs.length ≤ 100000) (hl : ∀ q ∈ rs, q.1.t.length ≤ 1000000 ∧ q.1.a.length ≤ 1000000) :
   Calls Tryd.prog 28 #[.agg #[.int .i64 f, .int .i64 c, .int .i64 k, v]] w fun e w' => e = .returned (.bool (mayE ⟨f, c, k, rs.map (·.1)⟩)) ∧ Below w.heap.size w w' := by
 obtain ⟨va, vc, rfl, v1, v2, v3⟩ := hv.form
 obtain ⟨N, hN⟩ : ∃ N, Hid (rs.length = N) := ⟨_, Lib.hid rfl⟩
 rw [hN.out] at hn v1 ⊢
 have hN' : (N : Int) ≤ 100000 := by omega
 obtain ⟨W1, hW1⟩ : ∃ W1, w.alloc (.cells #[.int .i64 f, .int .i64 c, .int .i64 k, .slice va N vc] 42) = W1 := ⟨_, rfl⟩
 have b1 : Below w.heap.size w W1 := by rw [← hW1]; exact bAlE _ _
 have c1 : CB W1 w.heap.size #[.int .i64 f, .int .i64 c, .int .i64 k, .slice va N vc] 42 := by rw [← hW1]; exact CB.new w _ _
 obtain ⟨k0, k1, k2, k3⟩ := c1.cells4E
 have H1 : Hid (CB W1 w.heap.size #[.int .i64 f, .int .i64 c, .int .i64 k, .slice va N vc] 42 ∧ Below w.heap.size w W1) := Lib.hid ⟨c1, b1⟩
 obtain ⟨R, hR⟩ : ∃ R, Hid (mayE ⟨f, c, k, rs.map (·.1)⟩ = R) := ⟨_, Lib.hid rfl⟩
 rw [hR.out]
 have HR : Hid (R = ((decide (f = 0) || decide (f = 1)) && (decide (c = 3) || decide (c = 6)) && decide (0 ≤ k) && decide (k ≤ 16) && !(rs.any fun q => amissE c k q.1))) := Lib.hid (by
   rw [← hR.out]
   unfold mayE
   simp only [List.length_map, hN.out, List.any_map, Function.comp_def]
   rw [decide_eq_true (show N ≤ 1048576 by omega), Bool.and_true])
 have HV := Lib.hid hv
 have HL := Lib.hid hl
 have HV3 := Lib.hid v3
 clear hv hl v3 b1 c1 v1 v2
 by_cases hf : f = 0 ∨ f = 1
 rotate_left
 · have e1 : (decide (f = 0) || decide (f = 1)) = false := by simp; omega
   rw [HR.out, e1]
   by_cases hf2 : f < 0
   · go_enter Tryd.func28, Tryd.ntmps28
     go_wp2
     go_ret
     exact ⟨rfl, H1.out.2⟩
   · have hf3 : 1 < f := by omega
     go_enter Tryd.func28, Tryd.ntmps28
     go_wp2
     go_ret
     exact ⟨rfl, H1.out.2⟩
 have hf1 : ¬ f < 0 := by omega
 have hf2 : ¬ 1 < f := by omega
 by_cases hc : c = 3 ∨ c = 6
 rotate_left
 · have e1 : (decide (c = 3) || decide (c = 6)) = false := by simp; omega
   rw [HR.out, e1]
   have g1 : ¬ c = 3 := fun e => hc (Or.inl e)
   have g2 : ¬ c = 6 := fun e => hc (Or.inr e)
   simp only [Bool.and_false, Bool.false_and]
   clear hc
   go_enter Tryd.func28, Tryd.ntmps28
   go_wp2
   go_ret
   exact ⟨rfl, H1.out.2⟩
 by_cases hk : 0 ≤ k ∧ k ≤ 16
 rotate_left
 · have HR0 : Hid (R = false) := Lib.hid (by
     rw [HR.out]
     rcases (show k < 0 ∨ 16 < k by omega) with h | h
     · rw [decide_eq_false (show ¬ 0 ≤ k by omega)]; simp
     · rw [decide_eq_false (show ¬ k ≤ 16 by omega)]; simp)
   rw [HR0.out]
   by_cases hk1 : k < 0
   · rcases hc with rfl | rfl
     all_goals
       go_enter Tryd.func28, Tryd.ntmps28
       go_wp2
       go_ret
       exact ⟨rfl, H1.out.2⟩
   · have hk2 : 16 < k := by omega
     rcases hc with rfl | rfl
     all_goals
       go_enter Tryd.func28, Tryd.ntmps28
       go_wp2
       go_ret
       exact ⟨rfl, H1.out.2⟩
 have hk1 : ¬ k < 0 := by omega
 have hk2 : ¬ 16 < k := by omega
 have HRf : Hid ((∃ q ∈ rs, amissE c k q.1 = true) → R = false) := Lib.hid (fun ⟨q, hq, hh⟩ => by
   rw [HR.out, List.any_eq_true.2 ⟨q, hq, hh⟩]; simp)
 have HRt : Hid ((∀ q ∈ rs, amissE c k q.1 = false) → R = true) := Lib.hid (fun hh => by
   rw [HR.out, decide_eq_true hk.1, decide_eq_true hk.2]
   have : (rs.any fun q => amissE c k q.1) = false := by
     rw [List.any_eq_false]; intro q hq; rw [hh q hq]; simp
   rw [this]
   have h1 : (decide (f = 0) || decide (f = 1)) = true := by simpa using hf
   have h2 : (decide (c = 3) || decide (c = 6)) = true := by simpa using hc
   rw [h1, h2]; rfl)
 have hcc : ((c == 3) = true ∧ (c != 3) = false) ∨ (((c == 3) = false ∧ (c != 3) = true) ∧ ((c == 6) = true ∧ (c != 6) = false)) := by
   rcases hc with h | h
   · subst h; exact Or.inl ⟨rfl, rfl⟩
   · subst h; exact Or.inr ⟨⟨rfl, rfl⟩, rfl, rfl⟩
 clear hR HR hf hk hc
 have HTL : Hid (∀ q ∈ rs, ((q.1.t.length : Int) ≠ c ∨ (q.1.a.length : Int) ≠ k) → amissE c k q.1 = true) := Lib.hid (fun q _ hh => by
   unfold amissE
   rcases hh with hh | hh
   · rw [decide_eq_true hh]; simp
   · rw [decide_eq_true hh]; simp)
 have HAt : Hid (∀ q ∈ rs, ∀ n ∈ q.1.t, strayE n = true → amissE c k q.1 = true) := Lib.hid (fun q _ n hn hh => by
   unfold amissE
   rw [List.any_eq_true.2 ⟨n, hn, hh⟩]; simp)
 have HAa : Hid (∀ q ∈ rs, ∀ x ∈ q.1.a, endl x = true → amissE c k q.1 = true) := Lib.hid (fun q _ n hn hh => by
   unfold amissE
   rw [List.any_eq_true.2 ⟨n, hn, hh⟩]; simp)
 have HAo : Hid (∀ q ∈ rs, (q.1.t.length : Int) = c → (q.1.a.length : Int) = k → (∀ n ∈ q.1.t, strayE n = false) → (∀ x ∈ q.1.a, endl x = false) → amissE c k q.1 = false) := Lib.hid (fun q _ h1 h2 h3 h4 => amissE_no.2 ⟨h1, h3, h2, h4⟩)
 go_enter Tryd.func28, Tryd.ntmps28
 rcases hcc with ⟨hc3, hc4⟩ | ⟨⟨hc3, hc4⟩, hc5, hc6⟩
 all_goals
   go_wp2_with fail
   try rw [hW1]
   clear hW1 k0 k1 k2 k3 hc3 hc4
   go_loopw [3] (fun s3 wr => ∃ i : Nat, s3 = .int .i64 (i : Nat) ∧ i ≤ N ∧ Hid ((∀ q ∈ rs.take i, amissE c k q.1 = false) ∧ CB wr w.heap.size #[.int .i64 f, .int .i64 c, .int .i64 k, .slice va N vc] 42 ∧ Below w.heap.size w wr)) (fun s3 _ => N - (RowKit.intOf s3).toNat)
   case atStart => exact ⟨0, rfl, by omega, by simp, H1.out.1, H1.out.2⟩
   case round =>
     obtain ⟨i, rfl, hi1, hI⟩ := hrel
     have HI := Lib.hid hI.out
     have k3 := HI.out.2.1.cell 3 (by simp)
     clear hI
     by_cases hlt : i < N
     · have hlt' : (i : Int) < (N : Int) := by omega
       have hi0 : (0 : Int) ≤ (i : Int) := by omega
       obtain ⟨q, hq⟩ : ∃ q, Hid (rs[i]? = some q) := ⟨_, Lib.hid (List.getElem?_eq_getElem (by rw [hN.out]; exact hlt))⟩
       have hqm := List.mem_of_getElem? hq.out
       obtain ⟨g, off, hga, hg, hcq⟩ := HV3.out.resolve_left (fun e => by rw [e] at hqm; simp at hqm)
       subst hga
       obtain ⟨z0, z1⟩ := hcq i q hq.out
       have x0 := cell_later HI.out.2.2 hg z0
       have x1 := cell_later HI.out.2.2 hg z1
       clear z0 z1
       obtain ⟨iq, fq⟩ := HV.out.sub q hqm
       have hql := HL.out q hqm
       have HQf : Hid (amissE c k q.1 = true → R = false) := Lib.hid (fun hh => HRf.out ⟨q, hqm, hh⟩)
       have HQl := Lib.hid (HTL.out q hqm)
       have HQt := Lib.hid (HAt.out q hqm)
       have HQa := Lib.hid (HAa.out q hqm)
       have HQo := Lib.hid (HAo.out q hqm)
       have HTk : Hid (rs.take (i + 1) = rs.take i ++ [q]) := Lib.hid (by
         obtain ⟨g1, g2⟩ := List.getElem?_eq_some_iff.1 hq.out
         rw [List.take_succ_eq_append_getElem g1, g2])
       obtain ⟨⟨ts, ls⟩, tv, av⟩ := q
       try dsimp only at x0 x1 iq fq hql HQl HQt HQa HQo HQf
       obtain ⟨ta, tc, rfl, _, _, h5⟩ := iq.form
       obtain ⟨aa, ac, rfl, _, _, h6⟩ := fq.form
       obtain ⟨tl, htl⟩ : ∃ tl, Hid (ts.length = tl) := ⟨_, Lib.hid rfl⟩
       obtain ⟨al, hal⟩ : ∃ al, Hid (ls.length = al) := ⟨_, Lib.hid rfl⟩
       rw [htl.out] at x0 hql HQl HQo
       rw [hal.out] at x1 hql HQl HQo
       have H5 := Lib.hid h5
       have H6 := Lib.hid h6
       have Hwd := Lib.hid fq.word
       have htl' : (tl : Int) ≤ 1000000 := by omega
       have hal' : (al : Int) ≤ 1000000 := by omega
       obtain ⟨W2, hW2⟩ : ∃ W2, wr.alloc (.cells #[.slice ta tl tc, .slice aa al ac] 51) = W2 := ⟨_, rfl⟩
       have m2 : My w W2 f c k (.slice (some ⟨g, off, none⟩) N vc) (.slice ta tl tc) (.slice aa al ac) wr.heap.size := by
         rw [← hW2]
         exact ⟨HI.out.2.2.trans ((bAlE wr _).mono HI.out.2.2.size), HI.out.2.1.later (bAlE _ _), CB.new wr _ _⟩
       obtain ⟨f0, f1, f2, f3⟩ := m2.fb.cells4E
       obtain ⟨r0, r1⟩ := m2.rb.cells2E
       have HM2 := Lib.hid m2
       clear hcq hqm iq fq h5 h6 m2 hql
       by_cases hl1 : (tl : Int) = c
       rotate_left
       · have e1 : ((tl : Int) == c) = false := by simpa using hl1
         have e1' : ((tl : Int) != c) = true := by simpa using hl1
         have HRr := Lib.hid (HQf.out (HQl.out (Or.inl hl1)))
         go_wp2
         go_ret
         exact ⟨congrArg (fun b => Ending.returned (.bool b)) HRr.out.symm, HM2.out.bel⟩
       have e1 : ((tl : Int) == c) = true := by simpa using hl1
       have e1' : ((tl : Int) != c) = false := by simpa using hl1
       by_cases hl2 : (al : Int) = k
       rotate_left
       · have e2 : ((al : Int) == k) = false := by simpa using hl2
         have e2' : ((al : Int) != k) = true := by simpa using hl2
         have HRr := Lib.hid (HQf.out (HQl.out (Or.inr hl2)))
         clear hl1
         go_wp2
         go_ret
         exact ⟨congrArg (fun b => Ending.returned (.bool b)) HRr.out.symm, HM2.out.bel⟩
       have e2 : ((al : Int) == k) = true := by simpa using hl2
       have e2' : ((al : Int) != k) = false := by simpa using hl2
       have HQo2 := Lib.hid (HQo.out hl1 hl2)
       clear hl1 hl2 HQo HQl
       go_wp2_with fail
       try rw [hW2]
       obtain ⟨b, hb⟩ : ∃ b, wr.heap.size = b := ⟨_, rfl⟩
       rw [hb] at HM2 ⊢
       clear hW2 hb k3 x0 x1 f0 f1 f2 f3 r0 r1 e1 e2 e1' e2'
       go_loopw [5] (fun s5 wr => ∃ j : Nat, s5 = .int .i64 (j : Nat) ∧ j ≤ tl ∧ Hid ((∀ n ∈ ts.take j, strayE n = false) ∧ My w wr f c k (.slice (some ⟨g, off, none⟩) N vc) (.slice ta tl tc) (.slice aa al ac) b)) (fun s5 _ => tl - (RowKit.intOf s5).toNat)
       case atStart => exact ⟨0, rfl, by omega, by simp, HM2.out⟩
       case round =>
         clear HM2
         obtain ⟨j, rfl, hj1, hJ⟩ := hrel
         have HJ := Lib.hid hJ.out
         have r0 := HJ.out.2.rb.cells2E.1
         clear hJ
         by_cases hjt : j < tl
         · have hjt' : (j : Int) < (tl : Int) := by omega
           have hj0 : (0 : Int) ≤ (j : Int) := by omega
           have hjl : j < ts.length := by rw [htl.out]; exact hjt
           obtain ⟨g5, o5, hga5, hc5⟩ := H5.out.resolve_left (fun e => by rw [e] at hjl; simp at hjl)
           subst hga5
           have y0 := box_cell HJ.out.2.bel (hc5 j hjl)
           have HTj : Hid (ts.take (j + 1) = ts.take j ++ [ts.getD j 0] ∧ ts.getD j 0 ∈ ts) := Lib.hid (by
             rw [List.take_succ_eq_append_getElem hjl, List.getD_eq_getElem?_getD, List.getElem?_eq_getElem hjl]
             exact ⟨rfl, List.getElem_mem hjl⟩)
           generalize ts.getD j 0 = nn at *
           clear hc5 hjl
           by_cases hn0 : nn < 0
           · have HRr := Lib.hid (HQf.out (HQt.out nn HTj.out.2 (by unfold strayE; simp [hn0])))
             go_wp2
             go_ret
             exact ⟨congrArg (fun b => Ending.returned (.bool b)) HRr.out.symm, HJ.out.2.bel⟩
           · by_cases hn1 : 1048576 ≤ nn
             · have HRr := Lib.hid (HQf.out (HQt.out nn HTj.out.2 (by unfold strayE; simp [hn1])))
               go_wp2
               go_ret
               exact ⟨congrArg (fun b => Ending.returned (.bool b)) HRr.out.symm, HJ.out.2.bel⟩
             · have HSt : Hid (strayE nn = false) := Lib.hid (by unfold strayE; simp; omega)
               go_wp2
               refine ⟨⟨j + 1, by go_num, by omega, ?_, HJ.out.2⟩, by simp [RowKit.intOf]; omega⟩
               intro n hn
               rw [HTj.out.1] at hn
               rcases List.mem_append.1 hn with hn | hn
               · exact HJ.out.1 n hn
               · rw [List.mem_singleton.1 hn]; exact HSt.out
         · obtain rfl : tl = j := by omega
           have HTs : Hid (∀ n ∈ ts, strayE n = false) := Lib.hid (by
             have := HJ.out.1
             rwa [List.take_of_length_le (by rw [htl.out]; omega)] at this)
           have HM3 := Lib.hid HJ.out.2
           clear HJ
           go_wp2_with fail
           clear r0
           go_loopw [6] (fun s6 wr => ∃ m : Nat, s6 = .int .i64 (m : Nat) ∧ m ≤ al ∧ Hid ((∀ x ∈ ls.take m, endl x = false) ∧ My w wr f c k (.slice (some ⟨g, off, none⟩) N vc) (.slice ta tl tc) (.slice aa al ac) b)) (fun s6 _ => al - (RowKit.intOf s6).toNat)
           case atStart => exact ⟨0, rfl, by omega, by simp, HM3.out⟩
           case round =>
             clear HM3
             obtain ⟨m, rfl, hm1, hJ⟩ := hrel
             have HJ := Lib.hid hJ.out
             have r1 := HJ.out.2.rb.cells2E.2
             clear hJ
             by_cases hmt : m < al
             · have hmt' : (m : Int) < (al : Int) := by omega
               have hm0 : (0 : Int) ≤ (m : Int) := by omega
               have hml : m < ls.length := by rw [hal.out]; exact hmt
               obtain ⟨g6, o6, hga6, hc6⟩ := H6.out.resolve_left (fun e => by rw [e] at hml; simp at hml)
               subst hga6
               obtain ⟨W7, hW7⟩ : ∃ W7, wr.drew = W7 := ⟨_, rfl⟩
               have m7 : My w W7 f c k (.slice (some ⟨g, off, none⟩) N vc) (.slice ta tl tc) (.slice (some ⟨g6, o6, none⟩) al ac) b := by rw [← hW7]; exact HJ.out.2.later (Below.refl _ _).drew
               have y0 := box_cell m7.bel (hc6 m hml)
               have r2 := m7.rb.cells2E.2
               have HTj : Hid (ls.take (m + 1) = ls.take m ++ [ls.getD m 0] ∧ ls.getD m 0 ∈ ls) := Lib.hid (by
                 rw [List.take_succ_eq_append_getElem hml, List.getD_eq_getElem?_getD, List.getElem?_eq_getElem hml]
                 exact ⟨rfl, List.getElem_mem hml⟩)
               generalize ls.getD m 0 = xx at *
               have HM7 := Lib.hid m7
               clear hc6 hml m7
               by_cases fx : Fin64 xx
               · obtain ⟨z, hz1, hz2⟩ := self_sub fx
                 have rs' : ∀ w, (binOp .sub 35 (.float .f64 xx) (.float .f64 xx)).run Tryd.prog w = .ok (.float .f64 z) w := fun w => run_float_arith w .sub _ .f64 _ _ _ hz1
                 have HE : Hid (endl xx = false) := Lib.hid (fin_endl fx)
                 clear hz1 fx
                 go_wp2_with fail
                 go_region
                 all_goals
                   go_wp2
                   refine ⟨⟨m + 1, by go_num, by omega, ?_, HM7.out⟩, by simp [RowKit.intOf]; omega⟩
                   intro n hn
                   rw [HTj.out.1] at hn
                   rcases List.mem_append.1 hn with hn | hn
                   · exact HJ.out.1 n hn
                   · rw [List.mem_singleton.1 hn]; exact HE.out
               · have HE : Hid (endl xx = true) := Lib.hid (by
                   cases h : endl xx with
                   | true => rfl
                   | false => exact absurd (endl_fin h) fx)
                 have rs' := run_sub_nan xx xx (selfE_nan fx)
                 have h3 : ∀ w, FloatKind.f64.format.order (nanW xx xx w) 0 = none := fun w => nan_order (nanW_nan xx xx w).1 0
                 have HRr := Lib.hid (HQf.out (HQa.out xx HTj.out.2 HE.out))
                 clear fx
                 go_wp2_with fail
                 go_region
                 all_goals
                   go_wp2
                   go_ret
                   exact ⟨congrArg (fun b => Ending.returned (.bool b)) HRr.out.symm, HM7.out.bel.drew⟩
             · obtain rfl : al = m := by omega
               have HLs : Hid (∀ x ∈ ls, endl x = false) := Lib.hid (by
                 have := HJ.out.1
                 rwa [List.take_of_length_le (by rw [hal.out]; omega)] at this)
               go_wp2
               refine ⟨⟨i + 1, by go_num, by omega, ?_, HJ.out.2.fb, HJ.out.2.bel⟩, by simp [RowKit.intOf]; omega⟩
               intro r hr
               rw [HTk.out] at hr
               rcases List.mem_append.1 hr with hr | hr
               · exact HI.out.1 r hr
               · rw [List.mem_singleton.1 hr]; exact HQo2.out HTs.out HLs.out
     · obtain rfl : N = i := by omega
       have HRr : Hid (R = true) := Lib.hid (HRt.out (by
         have := HI.out.1
         rwa [List.take_of_length_le (by rw [hN.out]; omega)] at this))
       go_wp2
       go_ret
       exact ⟨congrArg (fun b => Ending.returned (.bool b)) HRr.out.symm, HI.out.2.2⟩
end Go.Proofs.YtgoadpnoagaflaaDoor
