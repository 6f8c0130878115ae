/- Own texts, put together: Ehc. -/
import Derived.Test.YtgoadpnoagaflaaDoorQ45
import Derived.Test.YtgoadpnoagaflaaDoorQ46
import Derived.Test.YtgoadpnoagaflaaDoorQ48
import Derived.Test.YtgoadpnoagaflaaDoorQ49
/- The law ElefileWrites. -/
namespace Go.Proofs.YtgoadpnoagaflaaDoor
set_option maxRecDepth 100000
open Go.RowKit Go.Shelf Go.Lib
attribute [local go_sem] run_store_float
theorem keep8W {w W W' : World} {b1 b2 : Nat} {u0 u1 u2 u3 v0 v1 v2 v3 : Value} (h : W.cell? ⟨b1, 0, none⟩ = some u0 ∧ W.cell? ⟨b1, 1, none⟩ = some u1 ∧ W.cell? ⟨b1, 2, none⟩ = some u2 ∧ W.cell? ⟨b1, 3, none⟩ = some u3 ∧ W.cell? ⟨b2, 0, none⟩ = some v0 ∧ W.cell? ⟨b2, 1, none⟩ = some v1 ∧ W.cell? ⟨b2, 2, none⟩ = some v2 ∧ W.cell? ⟨b2, 3, none⟩ = some v3 ∧ Below w.heap.size w W) (hb : Below W.heap.size W W') :
   W'.cell? ⟨b1, 0, none⟩ = some u0 ∧ W'.cell? ⟨b1, 1, none⟩ = some u1 ∧ W'.cell? ⟨b1, 2, none⟩ = some u2 ∧ W'.cell? ⟨b1, 3, none⟩ = some u3 ∧ W'.cell? ⟨b2, 0, none⟩ = some v0 ∧ W'.cell? ⟨b2, 1, none⟩ = some v1 ∧ W'.cell? ⟨b2, 2, none⟩ = some v2 ∧ W'.cell? ⟨b2, 3, none⟩ = some v3 ∧ Below w.heap.size w W' := by
 obtain ⟨h0, h1, h2, h3, h4, h5, h6, h7, h8⟩ := h
 have l1 := World.block_lt_of_cell? _ _ h0
 have l2 := World.block_lt_of_cell? _ _ h4
 exact ⟨cell_later hb l1 h0, cell_later hb l1 h1, cell_later hb l1 h2, cell_later hb l1 h3, cell_later hb l2 h4, cell_later hb l2 h5, cell_later hb l2 h6, cell_later hb l2 h7, h8.trans (hb.mono h8.size)⟩
theorem keep8W_bel {w W : World} {b1 b2 : Nat} {u0 u1 u2 u3 v0 v1 v2 v3 : Value} (h : W.cell? ⟨b1, 0, none⟩ = some u0 ∧ W.cell? ⟨b1, 1, none⟩ = some u1 ∧ W.cell? ⟨b1, 2, none⟩ = some u2 ∧ W.cell? ⟨b1, 3, none⟩ = some u3 ∧ W.cell? ⟨b2, 0, none⟩ = some v0 ∧ W.cell? ⟨b2, 1, none⟩ = some v1 ∧ W.cell? ⟨b2, 2, none⟩ = some v2 ∧ W.cell? ⟨b2, 3, none⟩ = some v3 ∧ Below w.heap.size w W) : Below w.heap.size w W := h.2.2.2.2.2.2.2.2
theorem inf_self {x : Nat} (h : frung x = 9218868437227405312) (lx : x < 18446744073709551616) : FloatKind.f64.format.order x x = some .eq := by
 have hx2 : x = 9218868437227405312 ∨ x = 18442240474082181120 := by unfold frung at h; omega
 rcases hx2 with rfl | rfl <;> decide +kernel
structure Wl11 (w W : World) (f c k : Int) (v u : Value) (b : Nat) : Prop where
 bel : Below w.heap.size w W
 fb : CB W w.heap.size #[.int .i64 f, .int .i64 c, .int .i64 k, v] 42
 ib : CB W b #[.int .i64 f, .int .i64 c, .int .i64 k, u] 28
theorem Wl11.later {w W W' : World} {f c k : Int} {v u : Value} {b : Nat} (h : Wl11 w W f c k v u b) (hb : Below W.heap.size W W') : Wl11 w W' f c k v u b := ⟨h.bel.trans (hb.mono h.bel.size), h.fb.later hb, h.ib.later hb⟩
set_option maxHeartbeats 32000000 in
theorem writes11_law (f c k : Int) (v : Value) (rs : List Rt) (w : World) (hv : Rv w v rs) (hl : ∀ q ∈ rs, q.1.t.length ≤ 140737488355328 ∧ q.1.a.length ≤ 140737488355328) (hn : rs.length ≤ 140737488355328) (hT : T8 w) :
   Calls Tryd.prog 5 #[.agg #[.int .i64 f, .int .i64 c, .int .i64 k, v]] w fun e w' => e = .returned (.bool true) ∧ Below w.heap.size w w' := by
 obtain ⟨p, hp⟩ := pm_ex
 have HP := Lib.hid hp
 obtain ⟨va, vc, rfl, _, _, v3⟩ := hv.form
 have HV3 := Lib.hid v3
 obtain ⟨N, hN⟩ : ∃ N, Hid (rs.length = N) := ⟨_, Lib.hid rfl⟩
 have hv' := hv
 rw [hN.out] at hv' hn ⊢
 obtain ⟨W1, hW1⟩ : ∃ W1, w.alloc (.cells #[.int .i64 f, .int .i64 c, .int .i64 k, .slice va N vc] 42) = W1 := ⟨_, rfl⟩
 have b1 : Below w.heap.size w W1 := by rw [← hW1]; exact bAlE _ _
 have c1 : CB W1 w.heap.size #[.int .i64 f, .int .i64 c, .int .i64 k, .slice va N vc] 42 := by rw [← hW1]; exact CB.new w _ _
 obtain ⟨k0, k1, k2, k3⟩ := c1.cells4E
 have H1 : Hid (CB W1 w.heap.size #[.int .i64 f, .int .i64 c, .int .i64 k, .slice va N vc] 42 ∧ Below w.heap.size w W1) := Lib.hid ⟨c1, b1⟩
 have HV : Hid (∀ W, Below w.heap.size w W → Rv W (.slice va N vc) rs ∧ T8 W) := Lib.hid fun W hW => ⟨hv'.later hW, hT.later hW⟩
 have HRk := Lib.hid hv.rok
 have HSub := Lib.hid hv.sub
 have HLg := Lib.hid (large11_any f c k (.slice va N vc) rs W1 (hv'.later b1) hl (by rw [hN.out]; exact hn))
 have hN' : (N : Int) ≤ 140737488355328 := by omega
 clear hp hv hv' hl hT b1 c1 v3
 go_enter Tryd.func5, Tryd.ntmps5
 go_wp2_with fail
 try rw [hW1]
 clear hW1 k0 k1 k2 k3
 refine HLg.out.mono ?_
 rintro e W2 ⟨⟨b, rfl, hb⟩, hb2⟩
 have H2 : Hid (CB W2 w.heap.size #[.int .i64 f, .int .i64 c, .int .i64 k, .slice va N vc] 42 ∧ Below w.heap.size w W2) := Lib.hid ⟨H1.out.1.later hb2, H1.out.2.trans (hb2.mono H1.out.2.size)⟩
 have HBd := Lib.hid hb
 clear hb hb2 H1 HLg
 cases b
 rotate_left
 · go_wp2
   go_ret
   exact ⟨rfl, H2.out.2⟩
 obtain ⟨hbd1, hbd2⟩ := HBd.out (by first | rfl | trivial)
 have HSz : Hid (∀ r ∈ rs.map (·.1), r.t.length ≤ 1000000 ∧ r.a.length ≤ 1000000) := Lib.hid (fun r hr => by
   obtain ⟨q, hq, rfl⟩ := List.mem_map.1 hr
   have := hbd2 q hq
   omega)
 have hN3 : N ≤ 3000 := by rw [← hN.out]; exact hbd1
 have HTo := Lib.hid (to11_any f c k (.slice va N vc) rs W2 (HV.out W2 H2.out.2).1 (by omega) (fun q hq => by have := hbd2 q hq; omega))
 have HRw : Hid (∀ W, Below w.heap.size w W → Calls Tryd.prog 15 #[.agg #[.int .i64 f, .int .i64 c, .int .i64 k, .slice va N vc]] W fun e w' => e = .returned (.tuple #[sv (wrE p ⟨f, c, k, rs.map (·.1)⟩).1, .int .i64 (wrE p ⟨f, c, k, rs.map (·.1)⟩).2]) ∧ Below W.heap.size W w') := Lib.hid (fun W hW => refWrite11_any HP.out f c k _ rs W (HV.out W hW).1 hbd1 hbd2)
 obtain ⟨k0, k1, k2, k3⟩ := H2.out.1.cells4E
 obtain ⟨l, hl⟩ : ∃ l, Hid (rs.map (·.1) = l) := ⟨_, Lib.hid rfl⟩
 have HLl : Hid (l.length = N) := Lib.hid (by rw [← hl.out, ← hN.out]; simp)
 rw [hl.out] at HRk HSz HRw
 clear hbd1 hbd2 HBd
 go_wp2_with fail
 refine HTo.out.mono ?_
 rintro e W3 ⟨ta, tcap, ts', rfl, hEo, hmap, hb3⟩
 rw [hl.out] at hmap
 have hlt : ts'.length = N := by rw [len_of hmap, HLl.out]
 rw [hlt]
 obtain ⟨W4, hW4⟩ : ∃ W4, W3.alloc (.cells #[.int .i64 f, .int .i64 c, .int .i64 k, .slice ta N tcap] 28) = W4 := ⟨_, rfl⟩
 have d34 : Below W3.heap.size W3 W4 := by rw [← hW4]; exact bAlE _ _
 have bw3 := H2.out.2.trans (hb3.mono H2.out.2.size)
 have z4 : Wl11 w W4 f c k (.slice va N vc) (.slice ta N tcap) W3.heap.size := ⟨bw3.trans (d34.mono bw3.size), (H2.out.1.later hb3).later d34, by rw [← hW4]; exact CB.new _ _ _⟩
 have HIn : Hid (∀ W, Below W4.heap.size W4 W → Rv W (.slice ta N tcap) ts') := Lib.hid (fun W hW => by
   have := ((hEo.later d34).rv (rok_of hmap HRk.out)).later hW
   rwa [hlt] at this)
 have HMp := Lib.hid hmap
 have HTl := Lib.hid hlt
 have HZ4 := Lib.hid z4
 obtain ⟨j0, j1, j2, j3⟩ := z4.fb.cells4E
 clear hEo hmap hb3 d34 bw3 z4 HTo k0 k1 k2 k3 hlt H2
 have HRw4 := Lib.hid (HRw.out W4 HZ4.out.bel)
 obtain ⟨S1, hS1⟩ : ∃ S1 : ByteArray, Hid (sv (wrE p ⟨f, c, k, l⟩).1 = .string S1) := ⟨_, Lib.hid rfl⟩
 obtain ⟨er, her⟩ : ∃ er, Hid ((wrE p ⟨f, c, k, l⟩).2 = er) := ⟨_, Lib.hid rfl⟩
 rw [hS1.out, her.out] at HRw4
 go_wp2_with fail
 try rw [hW4]
 clear hW4
 refine HRw4.out.mono ?_
 rintro e W5 ⟨rfl, hb5⟩
 have HZ5 := Lib.hid (HZ4.out.later hb5)
 have HI5 : Hid (∀ W, Below W5.heap.size W5 W → Rv W (.slice ta N tcap) ts') := Lib.hid (fun W hW => HIn.out W (hb5.trans (hW.mono hb5.size)))
 have HWr : Hid (Calls Tryd.prog 9 #[.agg #[.int .i64 f, .int .i64 c, .int .i64 k, .slice ta N tcap]] W5 fun e w' => e = .returned (.tuple #[.string S1, .int .i64 er]) ∧ Below W5.heap.size W5 w') := Lib.hid (by
   have := writeE_any HP.out f c k _ ts' W5 (HI5.out W5 (Below.refl _ _)) (by have := HTl.out; omega) (HV.out W5 HZ5.out.bel).2
   rwa [HMp.out, hS1.out, her.out] at this)
 obtain ⟨j0, j1, j2, j3⟩ := HZ5.out.ib.cells4E
 clear hb5 HZ4 HIn HRw4 HRw
 go_wp2_with fail
 refine HWr.out.mono ?_
 rintro e W6 ⟨rfl, hb6⟩
 have HZ6 := Lib.hid (HZ5.out.later hb6)
 have HI6 : Hid (∀ W, Below W6.heap.size W6 W → Rv W (.slice ta N tcap) ts') := Lib.hid (fun W hW => HI5.out W (hb6.trans (hW.mono hb6.size)))
 have e1 : (er == er) = true := by simp
 clear hb6 HWr HZ5 HI5 j0 j1 j2 j3
 go_wp2_with fail
 go_loopw [8] (fun s8 wr => ∃ i : Nat, s8 = .int .i64 (i : Nat) ∧ i ≤ N ∧ Hid (Wl11 w wr f c k (.slice va N vc) (.slice ta N tcap) W3.heap.size ∧ Below W6.heap.size W6 wr ∧ ∀ q ∈ rs.take i, ∀ x ∈ q.1.a, FE x x)) (fun s8 _ => N - (RowKit.intOf s8).toNat)
 case atStart => exact ⟨0, rfl, by omega, HZ6.out, Below.refl _ _, by simp⟩
 case round =>
   obtain ⟨i, rfl, hi1, hI⟩ := hrel
   have HI := Lib.hid hI.out
   have k3 := HI.out.1.fb.cell 3 (by simp)
   clear hI
   by_cases hlt : i < N
   · have hlt' : (i : Int) < (N : Int) := by omega
     have hi0 : (0 : Int) ≤ (i : Int) := by omega
     obtain ⟨q, hq⟩ : ∃ q, Hid (rs[i]? = some q) := ⟨_, Lib.hid (List.getElem?_eq_getElem (by rw [hN.out]; exact hlt))⟩
     have hqm := List.mem_of_getElem? hq.out
     obtain ⟨g, off, hga, hg, hcq⟩ := HV3.out.resolve_left (fun e => by rw [e] at hqm; simp at hqm)
     subst hga
     obtain ⟨_, z1⟩ := hcq i q hq.out
     obtain ⟨_, fq⟩ := HSub.out q hqm
     have hql := HSz.out q.1 (by rw [← hl.out]; exact List.mem_map.2 ⟨q, hqm, rfl⟩)
     have HTk : Hid (rs.take (i + 1) = rs.take i ++ [q]) := Lib.hid (by
       obtain ⟨g1, g2⟩ := List.getElem?_eq_some_iff.1 hq.out
       rw [List.take_succ_eq_append_getElem g1, g2])
     obtain ⟨⟨ts, ls⟩, tv, av⟩ := q
     try dsimp only at z1 fq hql
     obtain ⟨aa, ac, rfl, _, _, h6⟩ := fq.form
     obtain ⟨al, hal⟩ : ∃ al, Hid (ls.length = al) := ⟨_, Lib.hid rfl⟩
     rw [hal.out] at z1 hql
     have H6 := Lib.hid h6
     have Hwd := Lib.hid fq.word
     have hal' : (al : Int) ≤ 1000000 := by omega
     have HCx : Hid (∀ W, Wl11 w W f c k (.slice (some ⟨g, off, none⟩) N vc) (.slice ta N tcap) W3.heap.size → W.cell? ⟨w.heap.size, 3, none⟩ = some (.slice (some ⟨g, off, none⟩) N vc) ∧ W.cell? ⟨g, off + i * 2 + 1, none⟩ = some (.slice aa al ac)) := Lib.hid (fun W hW => ⟨hW.fb.cell 3 (by simp), cell_later hW.bel hg z1⟩)
     have HIs := Lib.hid HI.out.2.2
     have HJ0 := Lib.hid (And.intro HI.out.1 HI.out.2.1)
     clear hcq hqm fq h6 z1 hql HI
     go_wp2_with fail
     clear k3
     go_loopw [9] (fun s9 wr => ∃ m : Nat, s9 = .int .i64 (m : Nat) ∧ m ≤ al ∧ Hid (Wl11 w wr f c k (.slice (some ⟨g, off, none⟩) N vc) (.slice ta N tcap) W3.heap.size ∧ Below W6.heap.size W6 wr ∧ ∀ x ∈ ls.take m, FE x x)) (fun s9 _ => al - (RowKit.intOf s9).toNat)
     case atStart => exact ⟨0, rfl, by omega, HJ0.out.1, HJ0.out.2, by simp⟩
     case round =>
       clear HJ0
       obtain ⟨m, rfl, hm1, hJ⟩ := hrel
       have HJ := Lib.hid hJ.out
       obtain ⟨p0, p1⟩ := HCx.out _ HJ.out.1
       clear hJ
       by_cases hmt : m < al
       · have hmt' : (m : Int) < (al : Int) := by omega
         have hm0 : (0 : Int) ≤ (m : Int) := by omega
         have hml : m < ls.length := by rw [hal.out]; exact hmt
         obtain ⟨g6, o6, hga6, hc6⟩ := H6.out.resolve_left (fun e => by rw [e] at hml; simp at hml)
         subst hga6
         obtain ⟨W7, hW7⟩ : ∃ W7, wr.drew = W7 := ⟨_, rfl⟩
         have m7 : Wl11 w W7 f c k (.slice (some ⟨g, off, none⟩) N vc) (.slice ta N tcap) W3.heap.size := by rw [← hW7]; exact HJ.out.1.later (Below.refl _ _).drew
         have d7 : Below W6.heap.size W6 W7 := by rw [← hW7]; exact HJ.out.2.1.drew
         have HNm : Hid (ls.take (m + 1) = ls.take m ++ [ls.getD m 0]) := Lib.hid (by
           rw [List.take_succ_eq_append_getElem hml, List.getD_eq_getElem?_getD, List.getElem?_eq_getElem hml]; rfl)
         have y0 := box_cell m7.bel (hc6 m hml)
         have hxw : Hid (ls.getD m 0 < 18446744073709551616) := Lib.hid (by rw [List.getD_eq_getElem?_getD, List.getElem?_eq_getElem hml]; exact Hwd.out _ (List.getElem_mem hml))
         generalize ls.getD m 0 = xx at *
         obtain ⟨q0, q1⟩ := HCx.out W7 m7
         have hst : W7.cell? ⟨w.heap.size, 3, none⟩ = some (.slice (some ⟨g, off, none⟩) N vc) ∧ W7.cell? ⟨g, off + i * 2 + 1, none⟩ = some (.slice (some ⟨g6, o6, none⟩) al ac) ∧ W7.cell? ⟨g6, o6 + m, none⟩ = some (.float .f64 xx) := ⟨q0, q1, y0⟩
         have HM7 := Lib.hid (And.intro m7 d7)
         have hor : FloatKind.f64.format.order xx xx = some .eq ∨ FloatKind.f64.format.order xx xx = none := by
           rcases Nat.lt_or_ge 9218868437227405312 (frung xx) with hf | hf
           · exact Or.inr (order_nan_left hf)
           · rcases Nat.lt_or_ge (frung xx) 9218868437227405312 with hf2 | hf2
             · exact Or.inl (FE.of (show Fin64 xx from hf2) hf2 rfl)
             · have hfe : frung xx = 9218868437227405312 := by omega
               exact Or.inl (inf_self hfe hxw.out)
         clear hc6 hml m7 d7 q0 q1 y0
         rcases hor with hor | hor
         · go_wp2_with fail
           clear p0 p1
           go_region_held3 (fun W => W.cell? ⟨w.heap.size, 3, none⟩ = some (.slice (some ⟨g, off, none⟩) N vc) ∧ W.cell? ⟨g, off + i * 2 + 1, none⟩ = some (.slice (some ⟨g6, o6, none⟩) al ac) ∧ W.cell? ⟨g6, o6 + m, none⟩ = some (.float .f64 xx))
             (first
               | assumption
               | (rw [hW7]; exact hst)
               | exact hst)
             (fail)
           go_wp2
           refine ⟨⟨m + 1, by go_num, by omega, HM7.out.1, HM7.out.2, ?_⟩, by simp [RowKit.intOf]; omega⟩
           intro x hx
           rw [HNm.out] at hx
           rcases List.mem_append.1 hx with hx | hx
           · exact HJ.out.2.2 x hx
           · rw [List.mem_singleton.1 hx]; exact hor
         · go_wp2_with fail
           clear p0 p1
           go_region_held3 (fun W => W.cell? ⟨w.heap.size, 3, none⟩ = some (.slice (some ⟨g, off, none⟩) N vc) ∧ W.cell? ⟨g, off + i * 2 + 1, none⟩ = some (.slice (some ⟨g6, o6, none⟩) al ac) ∧ W.cell? ⟨g6, o6 + m, none⟩ = some (.float .f64 xx))
             (first
               | assumption
               | (rw [hW7]; exact hst)
               | exact hst)
             (fail)
           go_wp2
           go_ret
           exact ⟨rfl, HM7.out.1.bel⟩
       · obtain rfl : al = m := by omega
         have HLs : Hid (∀ x ∈ ls, FE x x) := Lib.hid (by
           have := HJ.out.2.2
           rwa [List.take_of_length_le (by rw [hal.out]; omega)] at this)
         go_wp2
         refine ⟨⟨i + 1, by go_num, by omega, HJ.out.1, HJ.out.2.1, ?_⟩, by simp [RowKit.intOf]; omega⟩
         intro r hr
         rw [HTk.out] at hr
         rcases List.mem_append.1 hr with hr | hr
         · exact HIs.out r hr
         · rw [List.mem_singleton.1 hr]; exact HLs.out
   · obtain rfl : N = i := by omega
     have HFe : Hid (∀ q ∈ rs, ∀ x ∈ q.1.a, FE x x) := Lib.hid (by
       have := HI.out.2.2
       rwa [List.take_of_length_le (by rw [hN.out]; omega)] at this)
     obtain ⟨W8, hW8⟩ : ∃ W8, wr.drew = W8 := ⟨_, rfl⟩
     have m8 : Wl11 w W8 f c k (.slice va N vc) (.slice ta N tcap) W3.heap.size := by rw [← hW8]; exact HI.out.1.later (Below.refl _ _).drew
     have d8 : Below W6.heap.size W6 W8 := by rw [← hW8]; exact HI.out.2.1.drew
     obtain ⟨a0, a1, a2, a3⟩ := m8.ib.cells4E
     obtain ⟨b0, b1, b2, b3⟩ := m8.fb.cells4E
     have hst : W8.cell? ⟨W3.heap.size, 0, none⟩ = some (.int .i64 f) ∧ W8.cell? ⟨W3.heap.size, 1, none⟩ = some (.int .i64 c) ∧ W8.cell? ⟨W3.heap.size, 2, none⟩ = some (.int .i64 k) ∧ W8.cell? ⟨W3.heap.size, 3, none⟩ = some (.slice ta N tcap) ∧ W8.cell? ⟨w.heap.size, 0, none⟩ = some (.int .i64 f) ∧ W8.cell? ⟨w.heap.size, 1, none⟩ = some (.int .i64 c) ∧ W8.cell? ⟨w.heap.size, 2, none⟩ = some (.int .i64 k) ∧ W8.cell? ⟨w.heap.size, 3, none⟩ = some (.slice va N vc) ∧ Below w.heap.size w W8 := ⟨a0, a1, a2, a3, b0, b1, b2, b3, m8.bel⟩
     have HOf : Hid (Calls Tryd.prog 12 #[.agg #[.int .i64 f, .int .i64 c, .int .i64 k, .slice ta N tcap]] W8 fun e w' => ∃ a cap, ∃ rs' : List Rt, e = .returned (.agg #[.int .i64 f, .int .i64 c, .int .i64 k, .slice a N cap]) ∧ (∀ W', Below w'.heap.size w' W' → Below w.heap.size w W' → Calls Tryd.prog 11 #[.agg #[.int .i64 f, .int .i64 c, .int .i64 k, .slice a N cap], .agg #[.int .i64 f, .int .i64 c, .int .i64 k, .slice va N vc]] W' fun e w2 => e = .returned (.bool true) ∧ Below W'.heap.size W' w2) ∧ rs'.length = N ∧ Below W8.heap.size W8 w') := Lib.hid (by
       refine (of11_any f c k _ ts' W8 (HI6.out W8 d8) (by have := HTl.out; omega) (sz_of HMp.out HSz.out)).mono ?_
       rintro e w' ⟨a, cap, rs', rfl, hE, hm, hb⟩
       have hm' : rs'.map (·.1) = l := hm.trans HMp.out
       have hl' : rs'.length = N := by rw [len_of hm', HLl.out]
       refine ⟨a, cap, rs', by rw [hl'], fun W' hW' hbw => ?_, hl', hb⟩
       have hr' := (hE.rv (rok_of hm' HRk.out)).later hW'
       have hsm : ∀ (i : Nat) (q r : Rt), rs'[i]? = some q → rs[i]? = some r → q.1.t = r.1.t ∧ FEs q.1.a r.1.a := fun i q r hq hr => by
         have h1 : (rs'.map (·.1))[i]? = some q.1 := by rw [List.getElem?_map, hq]; rfl
         have h2 : (rs.map (·.1))[i]? = some r.1 := by rw [List.getElem?_map, hr]; rfl
         rw [hm', ← hl.out, h2] at h1
         have e : r.1 = q.1 := by simpa using h1
         rw [← e]
         refine ⟨rfl, rfl, fun j hj => ?_⟩
         rw [List.getD_eq_getElem?_getD, List.getElem?_eq_getElem hj]
         exact HFe.out r (List.mem_of_getElem? hr) _ (List.getElem_mem hj)
       have := same11_any f c k _ _ rs' rs W' hr' (HV.out W' hbw).1 (by rw [hl', hN.out]) hsm (by omega) (sz_of hm' HSz.out)
       rw [hl'] at this
       exact this)
     clear a0 a1 a2 a3 b0 b1 b2 b3 m8 d8
     go_wp2_with fail
     clear k3
     go_region_held3 (fun W => W.cell? ⟨W3.heap.size, 0, none⟩ = some (.int .i64 f) ∧ W.cell? ⟨W3.heap.size, 1, none⟩ = some (.int .i64 c) ∧ W.cell? ⟨W3.heap.size, 2, none⟩ = some (.int .i64 k) ∧ W.cell? ⟨W3.heap.size, 3, none⟩ = some (.slice ta N tcap) ∧ W.cell? ⟨w.heap.size, 0, none⟩ = some (.int .i64 f) ∧ W.cell? ⟨w.heap.size, 1, none⟩ = some (.int .i64 c) ∧ W.cell? ⟨w.heap.size, 2, none⟩ = some (.int .i64 k) ∧ W.cell? ⟨w.heap.size, 3, none⟩ = some (.slice va N vc) ∧ Below w.heap.size w W)
       (first
         | assumption
         | (rw [hW8]; exact hst)
         | exact hst
         | exact keep8W hst (by assumption)
         | exact keep8W (by assumption) (by assumption))
       (first
         | (go_at_call 12; refine HOf.out.mono ?_; rintro e Va ⟨a9, cap9, rs9, rfl, hSm, _, hva⟩)
         | (go_at_call 11; refine (hSm _ (Below.refl _ _) (keep8W_bel (by assumption))).mono ?_; rintro e Vb ⟨rfl, hvb⟩))
     have HC : Hid (Below w.heap.size w Vb) := Lib.hid (by
       have h1 := (keep8W hst hva).2.2.2.2.2.2.2.2
       exact h1.trans (hvb.mono h1.size))
     clear hva hvb hst hSm HOf hW8
     go_wp2
     go_ret
     exact ⟨rfl, HC.out⟩
end Go.Proofs.YtgoadpnoagaflaaDoor
