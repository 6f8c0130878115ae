/- Own texts, put together: Ehb. -/
import Derived.Test.YtgoadpnoagaflaaDoorQ7
import Derived.Test.YtgoadpnoagaflaaDoorQ28
import Derived.Test.YtgoadpnoagaflaaDoorQ36
import Derived.Test.YtgoadpnoagaflaaDoorQ43
import Derived.Test.YtgoadpnoagaflaaDoorQ44
/- The document's side of layer 11: Write. (gen_ehb.py) -/
namespace Go.Proofs.YtgoadpnoagaflaaDoor
set_option maxRecDepth 100000
open Go.RowKit Go.Shelf Go.Lib
attribute [local go_sem] run_store_float
structure Px (w W : World) (F c k : Nat) (nv : Value) : Prop where
 f1 : CB W w.heap.size #[.int .i64 (F : Nat), .int .i64 (c : Nat), .int .i64 (k : Nat), nv] 42
 bel : Below w.heap.size w W
theorem Px.later {w W W' : World} {F c k : Nat} {nv : Value} (h : Px w W F c k nv) (hb : Below W.heap.size W W') : Px w W' F c k nv := ⟨h.f1.later hb, h.bel.trans (hb.mono h.bel.size)⟩
theorem Px.grown {w W W' : World} {F c k : Nat} {nv : Value} {row : Option Nat} (h : Px w W F c k nv) (hg : W.grownBy W' row) (hr : ∀ b, row = some b → w.heap.size < b) : Px w W' F c k nv := by
 refine ⟨?_, h.bel.grown hg h.bel.size (fun b hb => by have := hr b hb; omega)⟩
 unfold CB
 rw [hg.block _ h.f1.lt (fun e => by have := hr _ e.symm; omega)]; exact h.f1
theorem Px.all {w W : World} {F c k n nc : Nat} {na : Option Addr} (h : Px w W F c k (.slice na n nc)) : W.cell? ⟨w.heap.size, 0, none⟩ = some (.int .i64 (F : Nat)) ∧ W.cell? ⟨w.heap.size, 1, none⟩ = some (.int .i64 (c : Nat)) ∧ W.cell? ⟨w.heap.size, 2, none⟩ = some (.int .i64 (k : Nat)) ∧ W.cell? ⟨w.heap.size, 3, none⟩ = some (.slice na n nc) ∧ Px w W F c k (.slice na n nc) := by
 obtain ⟨k0, k1, k2, k3⟩ := h.f1.cells4E
 exact ⟨k0, k1, k2, k3, h⟩
theorem refText11_is {p : Pm} (hp : p.Ok) (x : Nat) (lx : x < 18446744073709551616) (w : World) : Calls Tryd.prog 30 #[.float .f64 x] w fun r w' => r = .returned (sv (p.tx x)) ∧ Below w.heap.size w w' :=
 refText_any x (p.tx x) w lx (hp.tx x lx) (tx_short hp lx)
set_option maxHeartbeats 32000000 in
theorem refWrite11_any {p : Pm} (hp : p.Ok) (f c0 k0 : Int) (v : Value) (rs : List Rt) (w : World) (hv : Rv w v rs) (hnn : rs.length ≤ 3000) (hl0 : ∀ q ∈ rs, q.1.t.length ≤ 3000 ∧ q.1.a.length ≤ 3000) :
   Calls Tryd.prog 15 #[.agg #[.int .i64 f, .int .i64 c0, .int .i64 k0, v]] w fun e w' => e = .returned (.tuple #[sv (wrE p ⟨f, c0, k0, rs.map (·.1)⟩).1, .int .i64 (wrE p ⟨f, c0, k0, rs.map (·.1)⟩).2]) ∧ Below w.heap.size w w' := by
 have HP := Lib.hid hp
 have HV := Lib.hid hv
 obtain ⟨na, nc, rfl, h1, h2, h3⟩ := hv.form
 have HV3 := Lib.hid h3
 obtain ⟨W1, hW1⟩ : ∃ W1, w.alloc (.cells #[.int .i64 f, .int .i64 c0, .int .i64 k0, .slice na rs.length nc] 42) = W1 := ⟨_, rfl⟩
 have b1 : Below w.heap.size w W1 := by rw [← hW1]; exact (Below.refl _ w).alloc (Nat.le_refl _) _
 have cf : CB W1 w.heap.size #[.int .i64 f, .int .i64 c0, .int .i64 k0, .slice na rs.length nc] 42 := by rw [← hW1]; exact CB.new w _ _
 have HW := Lib.hid (refMay11_any f c0 k0 _ rs W1 (hv.later b1) (by omega) (fun q hq => by have := hl0 q hq; omega))
 have HL : Hid (CB W1 w.heap.size #[.int .i64 f, .int .i64 c0, .int .i64 k0, .slice na rs.length nc] 42 ∧ Below w.heap.size w W1) := Lib.hid ⟨cf, b1⟩
 obtain ⟨k0', k1, k2, k3⟩ := cf.cells4E
 obtain ⟨n, hn⟩ : ∃ n, Hid (rs.length = n) := ⟨_, Lib.hid rfl⟩
 rw [hn.out] at HW HL hW1 k3 h1 hnn ⊢
 obtain ⟨er, her⟩ : ∃ er, Hid (mayE ⟨f, c0, k0, rs.map (·.1)⟩ = er) := ⟨_, Lib.hid rfl⟩
 rw [her.out] at HW
 have hn63 : (n : Int) ≤ 3000 := by omega
 clear hp hv cf b1 h3 hl0
 go_enter Tryd.func15, Tryd.ntmps15
 go_wp2_with fail
 try rw [hW1]
 clear hW1 k0' k1 k2 k3
 refine HW.out.mono ?_
 rintro e W2 ⟨rfl, hb2⟩
 cases er
 · have HB := Lib.hid (HL.out.2.trans (hb2.mono HL.out.2.size))
   have HR : Hid (wrE p ⟨f, c0, k0, rs.map (·.1)⟩ = ([], 1)) := Lib.hid (by unfold wrE; rw [if_neg (by rw [her.out]; simp)])
   clear hb2 HW
   go_wp2
   go_ret2
   exact ⟨by rw [HR.out]; rfl, HB.out⟩
 · have HR : Hid (wrE p ⟨f, c0, k0, rs.map (·.1)⟩ = ((wrV (feW p ⟨f, c0, k0, rs.map (·.1)⟩)).1, (((wrV (feW p ⟨f, c0, k0, rs.map (·.1)⟩)).2 : Nat) : Int))) := Lib.hid (by unfold wrE; rw [if_pos her.out])
   have HSo := Lib.hid (feW_short HP.out her.out (fun r hr x hx => by
     obtain ⟨q, hq, rfl⟩ := List.mem_map.1 hr
     exact (HV.out.sub q hq).2.word x hx))
   obtain ⟨F, c, k, e1, e2, e3, hF1, hc, hk, hl, ha⟩ := mayE_parts her.out
   try dsimp only at e1 e2 e3 hl ha
   subst e1 e2 e3
   have HAm : Hid (∀ q ∈ rs, amissE (c : Nat) (k : Nat) q.1 = false) := Lib.hid (fun q hq => ha q.1 (List.mem_map.2 ⟨q, hq, rfl⟩))
   have hZ2 : Px w W2 F c k (.slice na n nc) := ⟨HL.out.1.later hb2, HL.out.2.trans (hb2.mono HL.out.2.size)⟩
   have hw2 : w.heap.size < W2.heap.size := hZ2.f1.lt
   have hk16 : (k : Int) ≤ 16 := by omega
   have hcc : (c : Int) ≤ 6 := by omega
   have hF' : (F : Int) ≤ 1 := by omega
   have hZ0 : Px w W2.drew F c k (.slice na n nc) := hZ2.later (Below.refl _ _).drew
   have hR : W2.heap.size ≤ W2.drew.heap.size := Nat.le_refl _
   obtain ⟨i0, hi0, hz0, hz1, hz2⟩ := info_parts (show (Tryd.prog.info? 9).map (fun i => (i.zero, i.size, i.bytes)) = some (some (.string ⟨#[]⟩), 1, 16) by kernel_rfl)
   obtain ⟨i1, hy0, hy1, hy2, hy3⟩ := info_parts (show (Tryd.prog.info? 56).map (fun i => (i.zero, i.size, i.bytes)) = some (some (.slice none 0 0), 1, 24) by kernel_rfl)
   clear hl ha hb2 HW HL hZ2
   go_wp2_with fail
   refine wp_region_held_drew (S := (fun W => W.cell? ⟨w.heap.size, 0, none⟩ = some (.int .i64 (F : Nat)) ∧ W.cell? ⟨w.heap.size, 1, none⟩ = some (.int .i64 (c : Nat)) ∧ W.cell? ⟨w.heap.size, 2, none⟩ = some (.int .i64 (k : Nat)) ∧ W.cell? ⟨w.heap.size, 3, none⟩ = some (.slice na n nc) ∧ Px w W F c k (.slice na n nc))) (by kernel_rfl) hZ0.all (fun hS => ?_)
   refine takA (i := 0) (d := some 12) (v := .slice none 0 0) hS ?_
   simp only [AP]
   refine takA (i := 1) (d := some 13) (v := .pointer (some ⟨w.heap.size, 3, none⟩)) hS ?_
   simp only [AP]
   refine takA (i := 2) (d := some 14) (v := .slice na n nc) hS ?_
   simp only [AP]
   refine takA (i := 3) (d := some 15) (v := .int .i64 (n : Nat)) hS ?_
   simp only [AP]
   refine takA (i := 5) (d := some 17) (v := .pointer (some ⟨w.heap.size, 1, none⟩)) hS ?_
   simp only [AP]
   refine takA (i := 6) (d := some 18) (v := .int .i64 (c : Nat)) hS ?_
   simp only [AP]
   refine takA (i := 8) (d := some 20) (v := .pointer (some ⟨w.heap.size, 2, none⟩)) hS ?_
   simp only [AP]
   refine takA (i := 9) (d := some 21) (v := .int .i64 (k : Nat)) hS ?_
   simp only [AP]
   refine calA 4 fun KF hK => ?_
   go_simp
   go_wp2_with fail
   refine (refShow_any (n : Nat) ⟨by omega, by omega⟩ _).mono ?_
   rintro e W21 ⟨rfl, hbx⟩
   replace hR := Nat.le_trans hR hbx.size
   go_wp2_with fail
   refine hK.out _ _ ((hS.2.2.2.2.later hbx).all) ?_
   clear hS hbx
   intro hS
   clear hK KF
   try simp only [AP]
   refine calA 7 fun KF hK => ?_
   go_simp
   go_wp2_with fail
   refine (refShow_any (c : Nat) ⟨by omega, by omega⟩ _).mono ?_
   rintro e W24 ⟨rfl, hbx⟩
   replace hR := Nat.le_trans hR hbx.size
   go_wp2_with fail
   refine hK.out _ _ ((hS.2.2.2.2.later hbx).all) ?_
   clear hS hbx
   intro hS
   clear hK KF
   try simp only [AP]
   refine calA 10 fun KF hK => ?_
   go_simp
   go_wp2_with fail
   refine (refShow_any (k : Nat) ⟨by omega, by omega⟩ _).mono ?_
   rintro e W27 ⟨rfl, hbx⟩
   replace hR := Nat.le_trans hR hbx.size
   go_wp2_with fail
   refine hK.out _ _ ((hS.2.2.2.2.later hbx).all) ?_
   clear hS hbx
   intro hS
   clear hK KF
   try simp only [AP]
   refine calA 11 fun KF hK => ?_
   go_simp
   have hw27 : Hid (W2.heap.size ≤ W27.heap.size) := Lib.hid hR
   have hbx : Below W27.heap.size W27 (W27.alloc (.cells #[sv (itoa (n : Nat)), sv (itoa (c : Nat)), sv (itoa (k : Nat))] 9)) := (Below.refl _ _).alloc (Nat.le_refl _) _
   replace hR := Nat.le_trans hR hbx.size
   have hFr : Sr (W27.alloc (.cells #[sv (itoa (n : Nat)), sv (itoa (c : Nat)), sv (itoa (k : Nat))] 9)) W27.heap.size (.slice (some ⟨W27.heap.size, 0, none⟩) 3 3) [itoa (n : Nat), itoa (c : Nat), itoa (k : Nat)] := ⟨rfl, Or.inr ⟨W27.heap.size, 3, _, rfl, Nat.le_refl _, heap_alloc_new W27 _, by simp, by unfold maxLen; omega, rfl, rfl⟩⟩
   go_wp2_with fail
   refine hK.out _ _ ((hS.2.2.2.2.later hbx).all) ?_
   clear hS hbx
   intro hS
   clear hK KF
   try simp only [AP]
   refine calA 12 fun KF hK => ?_
   go_simp
   obtain ⟨W28, hW28⟩ : ∃ W28, W27.alloc (.cells #[sv (itoa (n : Nat)), sv (itoa (c : Nat)), sv (itoa (k : Nat))] 9) = W28 := ⟨_, rfl⟩
   have hz28 : Hid (W28.heap.size = W27.heap.size + 1) := Lib.hid (by rw [← hW28]; simp)
   rw [hW28] at hR hFr hS ⊢
   clear hW28
   have hbx : Below W28.heap.size W28 (W28.alloc (.cells #[.slice (some ⟨W27.heap.size, 0, none⟩) 3 3] 56)) := (Below.refl _ _).alloc (Nat.le_refl _) _
   go_wp2_with fail
   refine hK.out _ _ ((hS.2.2.2.2.later hbx).all) ?_
   clear hS hbx
   intro hS
   clear hK KF
   try simp only [AP]
   refine calA 13 fun KF hK => ?_
   rw [if_pos (by rfl)]
   refine wp_append_own _ _ _ rfl W2.heap.size 56 i1 _ 1 24 Tryd.underlying63 hy0 hy1 hy2 hy3 rfl (by omega) (.slice none 0 0) 0 [] rfl (World.ownsRow_nil _ _ _ _) ⟨W27.heap.size + 1, 0, none⟩ 1 1 [.slice (some ⟨W27.heap.size, 0, none⟩) 3 3] rfl rfl (by have hnw := World.news_of_block (cs := #[.slice (some ⟨W27.heap.size, 0, none⟩) 3 3]) (t := 56) (fr := (0, 0)) (heap_alloc_new W28 (.cells #[.slice (some ⟨W27.heap.size, 0, none⟩) 3 3] 56)); rw [hz28.out] at hnw; exact hnw) (by simp [Value.oneCell']) (by unfold maxLen; omega) (by omega) (by simp; omega) ?_
   intro v3 W31 hown hgrow
   have hz31 := hS.2.2.2.2.grown hgrow (fun b hb => by cases hb)
   have hF31 := Sr.keptL (size := 1) (Sr.later hFr ((Below.refl _ W28).alloc (Nat.le_refl _) _)) (World.ownsRow_nil _ W2.heap.size _ 1) hgrow
   obtain ⟨va, vc, rfl⟩ := own_sliceE hown
   have hbx := True.intro
   refine hK.out _ _ hz31.all ?_
   clear hS hbx
   intro hS
   clear hK KF
   try simp only [AP]
   refine takA (i := 14) (d := some 4) (v := .slice va (0 + 1) vc) hS ?_
   simp only [AP]
   refine wpAnyH_done (by kernel_rfl) ?_ _
   have HZ := Lib.hid hS.2.2.2.2
   have HO : Hid (Orw W31 W2.heap.size (.slice va (0 + 1) vc) [([itoa (n : Nat), itoa (c : Nat), itoa (k : Nat)], .slice (some ⟨W27.heap.size, 0, none⟩) 3 3)]) := Lib.hid ⟨hown, fun q hq => by
     rw [List.mem_singleton.1 hq]; exact hF31.base hw27.out⟩
   have hw2' := Lib.hid hw2
   clear hS hown hgrow hR hFr hF31 hz31 hZ0 hw27 hz28
   go_wp2_with fail
   go_loopw [4, 5] (fun s4 s5 wr => ∃ (i : Nat) (L : List Lv), s5 = .int .i64 (i : Nat) ∧ i ≤ n ∧ Hid (Px w wr F c k (.slice na n nc) ∧ Orw wr W2.heap.size s4 L ∧ ls1 L = [itoa (n : Nat), itoa (c : Nat), itoa (k : Nat)] :: rwsW p (F : Nat) 0 ((rs.map (·.1)).take i) ∧ L.length = i + 1)) (fun _ s5 _ => n - (RowKit.intOf s5).toNat)
   case atStart => exact ⟨0, _, rfl, by omega, HZ.out, HO.out, by simp [ls1, rwsW], rfl⟩
   case round =>
     clear HZ HO
     obtain ⟨i, L, rfl, hi, hI⟩ := hrel
     obtain ⟨W0, hW0⟩ : ∃ W0, W0 = wr := ⟨_, rfl⟩
     subst hW0
     have HZr := Lib.hid hI.out.1
     have HOr := Lib.hid hI.out.2.1
     have HLr := Lib.hid hI.out.2.2.1
     have HLn := Lib.hid hI.out.2.2.2
     clear hI
     have k3 := HZr.out.f1.cell 3 (by simp)
     have k0 := HZr.out.f1.cell 0 (by simp)
     by_cases hlt : i < n
     · have hlt' : (i : Int) < (n : Int) := by omega
       have hi0' : (0 : Int) ≤ (i : Int) := by omega
       obtain ⟨q, hq⟩ : ∃ q, Hid (rs[i]? = some q) := ⟨_, Lib.hid (List.getElem?_eq_getElem (by rw [hn.out]; exact hlt))⟩
       have hqm := List.mem_of_getElem? hq.out
       obtain ⟨g, off, hga, hg, hcq⟩ := HV3.out.resolve_left (fun e => by rw [e] at hqm; simp at hqm)
       subst hga
       obtain ⟨z0, z1⟩ := hcq i q hq.out
       obtain ⟨iq, fq⟩ := HV.out.sub q hqm
       obtain ⟨a1, a2, a3, a4⟩ := amissE_no.1 (HAm.out q hqm)
       have HSt : Hid (∀ m ∈ q.1.t, 0 ≤ m ∧ m < 1048576) := Lib.hid (fun m hm => stray_no (a2 m hm))
       have HNx : Hid ([itoa (n : Nat), itoa (c : Nat), itoa (k : Nat)] :: rwsW p (F : Nat) 0 ((rs.map (·.1)).take (i + 1)) = ([itoa (n : Nat), itoa (c : Nat), itoa (k : Nat)] :: rwsW p (F : Nat) 0 ((rs.map (·.1)).take i)) ++ [rwW p (F : Nat) i q.1]) := Lib.hid (by
         have hjo : i < (rs.map (·.1)).length := by simp [hn.out]; omega
         have e1 : (rs.map (·.1))[i] = q.1 := by
           have h9 : (rs.map (·.1))[i]? = some q.1 := by rw [List.getElem?_map, hq.out]; rfl
           exact (List.getElem?_eq_some_iff.1 h9).2
         rw [List.take_succ_eq_append_getElem hjo, rwsW_snoc, e1, List.length_take, Nat.zero_add, Nat.min_eq_left (Nat.le_of_lt hjo)]
         rfl)
       obtain ⟨⟨ts, ls⟩, tv, av⟩ := q
       try dsimp only at z0 z1 iq fq a1 a3 HSt HNx
       obtain ⟨ta, tc, rfl, _, _, h5⟩ := iq.form
       obtain ⟨aa, ac, rfl, _, _, h6⟩ := fq.form
       obtain ⟨tl, htl⟩ : ∃ tl, Hid (ts.length = tl) := ⟨_, Lib.hid rfl⟩
       obtain ⟨al, hal⟩ : ∃ al, Hid (ls.length = al) := ⟨_, Lib.hid rfl⟩
       rw [htl.out] at z0 a1
       rw [hal.out] at z1 a3
       have H5 := Lib.hid h5
       have H6 := Lib.hid h6
       have Hwd := Lib.hid fq.word
       have htl' : (tl : Int) ≤ 6 := by omega
       have hal' : (al : Int) ≤ 16 := by omega
       have HCx : Hid (∀ W, Below W0.heap.size W0 W → W.cell? ⟨w.heap.size, 3, none⟩ = some (.slice (some ⟨g, off, none⟩) n nc) ∧ W.cell? ⟨w.heap.size, 0, none⟩ = some (.int .i64 (F : Nat)) ∧ W.cell? ⟨g, off + i * 2, none⟩ = some (.slice ta tl tc) ∧ W.cell? ⟨g, off + i * 2 + 1, none⟩ = some (.slice aa al ac) ∧ Below w.heap.size w W) := Lib.hid (fun W hW => by
         have hz := HZr.out.later hW
         exact ⟨hz.f1.cell 3 (by simp), hz.f1.cell 0 (by simp), cell_later hz.bel hg z0, cell_later hz.bel hg z1, hz.bel⟩)
       have HSh := Lib.hid (refShow_any ((F : Int) + (i : Int)) ⟨by omega, by omega⟩ W0)
       have hi5 : (i : Int) ≤ 3000 := by omega
       clear hcq hqm iq fq h5 h6 z0 z1 a1 a2 a3 a4
       go_wp2_with fail
       refine HSh.out.mono ?_
       rintro e V1 ⟨rfl, hb1⟩
       obtain ⟨V2, hV2⟩ : ∃ V2, V1.alloc (.cells #[sv (itoa ((F : Int) + (i : Int)))] 9) = V2 := ⟨_, rfl⟩
       have HA2 : Hid (Below W0.heap.size W0 V2 ∧ Sr V2 W0.heap.size (.slice (some ⟨V1.heap.size, 0, none⟩) 1 1) [itoa ((F : Int) + (i : Int))]) := Lib.hid ⟨by rw [← hV2]; exact hb1.trans ((bAlE V1 _).mono hb1.size), by rw [← hV2]; exact ⟨rfl, Or.inr ⟨V1.heap.size, 1, _, rfl, hb1.size, heap_alloc_new V1 _, by simp, by unfold maxLen; omega, rfl, rfl⟩⟩⟩
       clear hb1 k0 k3 HSh
       go_wp2_with fail
       try rw [hV2]
       clear hV2
       go_loopw [6, 7] (fun s6 s7 wr => ∃ (j : Nat) (pre : List Bs), s7 = .int .i64 (j : Nat) ∧ j ≤ tl ∧ Hid (Below W0.heap.size W0 wr ∧ Sr wr W0.heap.size s6 pre ∧ pre = itoa ((F : Int) + (i : Int)) :: (ts.take j).map (fun n => itoa ((F : Int) + n)))) (fun _ s7 _ => tl - (RowKit.intOf s7).toNat)
       case atStart => exact ⟨0, _, rfl, by omega, HA2.out.1, HA2.out.2, by simp⟩
       case round =>
         clear HA2
         obtain ⟨j, pre, rfl, hj, hJ⟩ := hrel
         have hpl : Hid (pre.length ≤ 100 ∧ pre ≠ []) := Lib.hid (by rw [hJ.out.2.2]; simp [htl.out]; omega)
         have HJ := Lib.hid hJ.out
         obtain ⟨p0, p1, p2, p3, _⟩ := HCx.out _ HJ.out.1
         clear hJ
         by_cases hjt : j < tl
         · have hjt' : (j : Int) < (tl : Int) := by omega
           have hj0 : (0 : Int) ≤ (j : Int) := by omega
           have hjl : j < ts.length := by rw [htl.out]; exact hjt
           obtain ⟨g5, o5, hga5, hc5⟩ := H5.out.resolve_left (fun e => by rw [e] at hjl; simp at hjl)
           subst hga5
           have HNm : Hid (ts.take (j + 1) = ts.take j ++ [ts.getD j 0] ∧ ts.getD j 0 ∈ ts) := Lib.hid (by
             rw [List.take_succ_eq_append_getElem hjl, List.getD_eq_getElem?_getD, List.getElem?_eq_getElem hjl]
             exact ⟨rfl, List.getElem_mem hjl⟩)
           have HCt : Hid (∀ W, Below W0.heap.size W0 W → W.cell? ⟨w.heap.size, 3, none⟩ = some (.slice (some ⟨g, off, none⟩) n nc) ∧ W.cell? ⟨w.heap.size, 0, none⟩ = some (.int .i64 (F : Nat)) ∧ W.cell? ⟨g, off + i * 2, none⟩ = some (.slice (some ⟨g5, o5, none⟩) tl tc) ∧ W.cell? ⟨g5, o5 + j, none⟩ = some (.int .i64 (ts.getD j 0)) ∧ Below W0.heap.size W0 W) := Lib.hid (fun W hW => by
             obtain ⟨q0, q1, q2, _, q4⟩ := HCx.out W hW
             exact ⟨q0, q1, q2, box_cell q4 (hc5 j hjl), hW⟩)
           generalize ts.getD j 0 = nn at *
           have hn1 := (HSt.out nn HNm.out.2).1
           have hn2 := (HSt.out nn HNm.out.2).2
           have hwr : IntKind.i64.wrap (nn + (F : Int)) = nn + (F : Int) := by rw [IntKind.wrap_i64]; omega
           have hst := HCt.out wr.drew (HJ.out.1.trans ((Below.refl _ _).drew.mono HJ.out.1.size))
           have hR : Sr wr.drew W0.heap.size u6 pre := HJ.out.2.1.later (Below.refl _ _).drew
           clear hc5 hjl
           go_wp2_with fail
           clear p0 p1 p2 p3
           refine wp_region_held_drew (S := (fun W => W.cell? ⟨w.heap.size, 3, none⟩ = some (.slice (some ⟨g, off, none⟩) n nc) ∧ W.cell? ⟨w.heap.size, 0, none⟩ = some (.int .i64 (F : Nat)) ∧ W.cell? ⟨g, off + i * 2, none⟩ = some (.slice (some ⟨g5, o5, none⟩) tl tc) ∧ W.cell? ⟨g5, o5 + j, none⟩ = some (.int .i64 nn) ∧ Below W0.heap.size W0 W)) (by kernel_rfl) hst (fun hS => ?_)
           refine takA (i := 0) (d := some 50) (v := u6) hS ?_
           simp only [AP]
           refine takA (i := 1) (d := some 51) (v := .pointer (some ⟨w.heap.size, 3, none⟩)) hS ?_
           simp only [AP]
           refine takA (i := 2) (d := some 52) (v := .slice (some ⟨g, off, none⟩) n nc) hS ?_
           simp only [AP]
           refine takA (i := 3) (d := some 53) (v := .int .i64 (i : Nat)) hS ?_
           simp only [AP]
           refine takA (i := 4) (d := some 54) (v := .pointer (some ⟨g, off + i * 2, none⟩)) hS ?_
           simp only [AP]
           refine takA (i := 5) (d := some 55) (v := .pointer (some ⟨g, off + i * 2, none⟩)) hS ?_
           simp only [AP]
           refine takA (i := 6) (d := some 56) (v := .slice (some ⟨g5, o5, none⟩) tl tc) hS ?_
           simp only [AP]
           refine takA (i := 7) (d := some 57) (v := .int .i64 (j : Nat)) hS ?_
           simp only [AP]
           refine takA (i := 8) (d := some 58) (v := .pointer (some ⟨g5, o5 + j, none⟩)) hS ?_
           simp only [AP]
           refine takA (i := 9) (d := some 59) (v := .int .i64 nn) hS ?_
           simp only [AP]
           refine takA (i := 10) (d := some 60) (v := .pointer (some ⟨w.heap.size, 0, none⟩)) hS ?_
           simp only [AP]
           refine takA (i := 11) (d := some 61) (v := .int .i64 (F : Nat)) hS ?_
           simp only [AP]
           refine takA (i := 12) (d := some 62) (v := .int .i64 (nn + (F : Int))) hS ?_
           simp only [AP]
           refine calA 13 fun KF hK => ?_
           go_simp
           go_wp2_with fail
           refine (refShow_any (nn + (F : Int)) ⟨by omega, by omega⟩ _).mono ?_
           rintro e W40 ⟨rfl, hbx⟩
           replace hR := hR.later hbx
           go_wp2_with fail
           refine hK.out _ _ (HCt.out _ (hS.2.2.2.2.trans (hbx.mono hS.2.2.2.2.size))) ?_
           clear hS hbx
           intro hS
           clear hK KF
           try simp only [AP]
           refine calA 14 fun KF hK => ?_
           go_simp
           have hbx : Below W40.heap.size W40 (W40.alloc (.cells #[sv (itoa (nn + (F : Int)))] 9)) := (Below.refl _ _).alloc (Nat.le_refl _) _
           have hR2 := World.ownsRow.alloc hR (.cells #[sv (itoa (nn + (F : Int)))] 9)
           go_wp2_with fail
           refine hK.out _ _ (HCt.out _ (hS.2.2.2.2.trans (hbx.mono hS.2.2.2.2.size))) ?_
           clear hS hbx
           intro hS
           clear hK KF
           try simp only [AP]
           refine calA 15 fun KF hK => ?_
           rw [if_pos (by rfl)]
           refine wp_append_own _ _ _ rfl W0.heap.size 9 i0 _ 1 16 Tryd.underlying56 hi0 hz0 hz1 hz2 rfl (by omega) u6 pre.length (svs pre) rfl hR2 ⟨W40.heap.size, 0, none⟩ 1 1 [sv (itoa (nn + (F : Int)))] rfl rfl (cell_one_new _ _ _) (by simp [Value.oneCell']) (by unfold maxLen; have := hpl.out.1; omega) (by have := hpl.out.1; omega) (by have := srE_size hR hpl.out.2; simp; omega) ?_
           intro v' W41 hown hgrow
           have hz41 := hS.2.2.2.2.grown hgrow hS.2.2.2.2.size (fun b hb => (World.ownsRow.lt hR b hb).1)
           have HR41 : Hid (Sr W41 W0.heap.size v' (pre ++ [itoa (nn + (F : Int))])) := Lib.hid (by unfold Sr; rw [List.length_append, svs, List.map_append]; exact hown)
           have HZ41 := Lib.hid hz41
           have hbx := True.intro
           refine hK.out _ _ (HCt.out _ hz41) ?_
           clear hS hbx
           intro hS
           clear hK KF
           try simp only [AP]
           refine takA (i := 16) (d := some 6) (v := v') hS ?_
           simp only [AP]
           refine wpAnyH_done (by kernel_rfl) ?_ _
           have HN2 : Hid (pre ++ [itoa (nn + (F : Int))] = itoa ((F : Int) + (i : Int)) :: (ts.take (j + 1)).map (fun n => itoa ((F : Int) + n))) := Lib.hid (by
             rw [HJ.out.2.2, HNm.out.1, List.map_append, Int.add_comm nn]; rfl)
           clear hS hR hR2 hz41 hown hgrow hst
           go_wp2
           exact ⟨⟨j + 1, _, by go_num, by omega, HZ41.out, HR41.out, HN2.out⟩, by simp [RowKit.intOf]; omega⟩
         · obtain rfl : tl = j := by omega
           have HPt : Hid (pre = itoa ((F : Int) + (i : Int)) :: ts.map (fun n => itoa ((F : Int) + n))) := Lib.hid (by
             have := HJ.out.2.2
             rwa [List.take_of_length_le (by rw [htl.out]; omega)] at this)
           go_wp2_with fail
           clear p0 p1 p2 p3
           go_loopw [6, 8] (fun s6 s8 wr => ∃ (m : Nat) (pre : List Bs), s8 = .int .i64 (m : Nat) ∧ m ≤ al ∧ Hid (Below W0.heap.size W0 wr ∧ Sr wr W0.heap.size s6 pre ∧ pre = (itoa ((F : Int) + (i : Int)) :: ts.map (fun n => itoa ((F : Int) + n))) ++ (ls.take m).map p.tx)) (fun _ s8 _ => al - (RowKit.intOf s8).toNat)
           case atStart => exact ⟨0, _, rfl, by omega, HJ.out.1, HJ.out.2.1, by rw [HPt.out]; simp⟩
           case round =>
             clear HJ HPt hpl
             obtain ⟨m, pre2, rfl, hm, hJ⟩ := hrel
             have hpl : Hid (pre2.length ≤ 100 ∧ pre2 ≠ []) := Lib.hid (by rw [hJ.out.2.2]; simp [htl.out]; omega)
             have HJ := Lib.hid hJ.out
             obtain ⟨p0, p1, p2, p3, _⟩ := HCx.out _ HJ.out.1
             clear hJ
             by_cases hmt : m < al
             · have hmt' : (m : Int) < (al : Int) := by omega
               have hm0 : (0 : Int) ≤ (m : Int) := by omega
               have hml : m < ls.length := by rw [hal.out]; exact hmt
               obtain ⟨g6, o6, hga6, hc6⟩ := H6.out.resolve_left (fun e => by rw [e] at hml; simp at hml)
               subst hga6
               have y0 := box_cell (HCx.out _ HJ.out.1).2.2.2.2 (hc6 m hml)
               have HNm : Hid (ls.take (m + 1) = ls.take m ++ [ls.getD m 0] ∧ ls.getD m 0 ∈ ls) := Lib.hid (by
                 rw [List.take_succ_eq_append_getElem hml, List.getD_eq_getElem?_getD, List.getElem?_eq_getElem hml]
                 exact ⟨rfl, List.getElem_mem hml⟩)
               generalize ls.getD m 0 = xv at *
               have HXv := Lib.hid (Hwd.out xv HNm.out.2)
               have HN2 : Hid (pre2 ++ [p.tx xv] = (itoa ((F : Int) + (i : Int)) :: ts.map (fun n => itoa ((F : Int) + n))) ++ (ls.take (m + 1)).map p.tx) := Lib.hid (by
                 rw [HJ.out.2.2, HNm.out.1, List.map_append, List.append_assoc]; rfl)
               have HTx := Lib.hid (refText11_is HP.out xv HXv.out wr)
               clear hc6 hml
               go_wp2_with (first
                 | (go_at_call 30; refine HTx.out.mono ?_; rintro e V3 ⟨rfl, hb3⟩; have HB3 := Lib.hid (HJ.out.1.trans (hb3.mono HJ.out.1.size)); have HR3 := Lib.hid (HJ.out.2.1.later hb3); clear hb3)
                 | (at_builtin; refine wpList_append_own _ rfl _ _ 56 rfl W0.heap.size 9 i0 (.string ⟨#[]⟩) 1 16 Tryd.underlying56 hi0 hz0 hz1 hz2 rfl (by decide) u6 pre2.length (svs pre2) rfl (World.ownsRow.alloc HR3.out _) ⟨V3.heap.size, 0, none⟩ 1 1 [sv (p.tx xv)] rfl rfl (cell_one_new _ _ _) (by simp [Value.oneCell']) (by unfold maxLen; have := hpl.out.1; omega) (by have := hpl.out.1; omega) (by have := srE_size HR3.out hpl.out.2; simp; omega) ?_; intro v' V4 hown hgrow _; have HB4 := Lib.hid ((HB3.out.trans ((bAlE V3 _).mono HB3.out.size)).grown hgrow (by have := HB3.out.size; simp; omega) (fun b hb => (World.ownsRow.lt HR3.out b hb).1)); have HR4 : Hid (Sr V4 W0.heap.size v' (pre2 ++ [p.tx xv])) := Lib.hid (by unfold Sr; rw [List.length_append, svs, List.map_append]; exact hown); clear hown hgrow))
               exact ⟨⟨m + 1, pre2 ++ [p.tx xv], by go_num, by omega, HB4.out, HR4.out, HN2.out⟩, by simp [RowKit.intOf]; omega⟩
             · obtain rfl : al = m := by omega
               have HPw : Hid (pre2 = rwW p (F : Nat) i ⟨ts, ls⟩) := Lib.hid (by
                 have := HJ.out.2.2
                 rw [List.take_of_length_le (by rw [hal.out]; omega)] at this
                 rw [this]; unfold rwW; rfl)
               obtain ⟨ra, rc, hu6⟩ := own_sliceE HJ.out.2.1
               subst hu6
               have HOw := Lib.hid (HOr.out.later HJ.out.1)
               have HZw := Lib.hid (HZr.out.later HJ.out.1)
               have hbs : Hid (W2.heap.size ≤ W0.heap.size) := Lib.hid (by
                 rcases HOr.out.own.2 with ⟨_, h2⟩ | ⟨g, cap, cur, h1, h2, _⟩
                 · have := HLn.out; omega
                 · have h3 := (World.ownsRow.lt HOr.out.own g (by rw [h1]; rfl)).2; omega)
               have hws : Hid (W2.heap.size ≤ wr.heap.size) := Lib.hid (Nat.le_trans hbs.out HJ.out.1.size)
               have HRw := Lib.hid (HJ.out.2.1.base hbs.out)
               rw [HPw.out] at HRw
               have hpn : pre2.length = (rwW p (F : Nat) i ⟨ts, ls⟩).length := by rw [HPw.out]
               rw [hpn]
               clear hpn
               go_wp2_with (at_builtin; refine wpList_append_own _ rfl _ _ 63 rfl W2.heap.size 56 i1 (.slice none 0 0) 1 24 Tryd.underlying63 hy0 hy1 hy2 hy3 rfl (by decide) u4 L.length (L.map (·.2)) rfl (World.ownsRow.alloc HOw.out.own _) ⟨wr.heap.size, 0, none⟩ 1 1 [.slice ra (rwW p (F : Nat) i ⟨ts, ls⟩).length rc] rfl rfl (World.news_of_block (cs := #[.slice ra (rwW p (F : Nat) i ⟨ts, ls⟩).length rc]) (t := 56) (fr := (0, 0)) (heap_alloc_new wr _)) (by simp [Value.oneCell']) (by unfold maxLen; have := HLn.out; omega) (by have := HLn.out; omega) (by have := hws.out; simp; omega) ?_; intro v' W5 hown hgrow _; have HZ5 := Lib.hid ((HZw.out.later ((Below.refl _ wr).alloc (Nat.le_refl _) _)).grown hgrow (fun b hb => by have := (World.ownsRow.lt HOw.out.own b hb).1; have := hw2'.out; omega)); have HO5 := Lib.hid (HOw.out.grew (q := (rwW p (F : Nat) i ⟨ts, ls⟩, .slice ra (rwW p (F : Nat) i ⟨ts, ls⟩).length rc)) HRw.out hown hgrow); clear hown hgrow)
               first
                 | refine ⟨⟨_, _, _, _, _, ⟨i + 1, L ++ [(rwW p (F : Nat) i ⟨ts, ls⟩, .slice ra (rwW p (F : Nat) i ⟨ts, ls⟩).length rc)], ?_, by omega, HZ5.out, HO5.out, by rw [HNx.out, ← HLr.out]; simp [ls1], by rw [List.length_append, HLn.out]; rfl⟩, rfl⟩, ?_⟩
                 | refine ⟨⟨_, _, _, _, _, _, ⟨i + 1, L ++ [(rwW p (F : Nat) i ⟨ts, ls⟩, .slice ra (rwW p (F : Nat) i ⟨ts, ls⟩).length rc)], ?_, by omega, HZ5.out, HO5.out, by rw [HNx.out, ← HLr.out]; simp [ls1], by rw [List.length_append, HLn.out]; rfl⟩, rfl⟩, ?_⟩
                 | refine ⟨⟨_, _, _, _, _, _, _, ⟨i + 1, L ++ [(rwW p (F : Nat) i ⟨ts, ls⟩, .slice ra (rwW p (F : Nat) i ⟨ts, ls⟩).length rc)], ?_, by omega, HZ5.out, HO5.out, by rw [HNx.out, ← HLr.out]; simp [ls1], by rw [List.length_append, HLn.out]; rfl⟩, rfl⟩, ?_⟩
                 | refine ⟨⟨_, _, _, _, _, _, _, _, ⟨i + 1, L ++ [(rwW p (F : Nat) i ⟨ts, ls⟩, .slice ra (rwW p (F : Nat) i ⟨ts, ls⟩).length rc)], ?_, by omega, HZ5.out, HO5.out, by rw [HNx.out, ← HLr.out]; simp [ls1], by rw [List.length_append, HLn.out]; rfl⟩, rfl⟩, ?_⟩
                 | refine ⟨⟨_, _, _, _, _, _, _, _, _, ⟨i + 1, L ++ [(rwW p (F : Nat) i ⟨ts, ls⟩, .slice ra (rwW p (F : Nat) i ⟨ts, ls⟩).length rc)], ?_, by omega, HZ5.out, HO5.out, by rw [HNx.out, ← HLr.out]; simp [ls1], by rw [List.length_append, HLn.out]; rfl⟩, rfl⟩, ?_⟩
                 | refine ⟨⟨_, _, _, _, _, _, _, _, _, _, ⟨i + 1, L ++ [(rwW p (F : Nat) i ⟨ts, ls⟩, .slice ra (rwW p (F : Nat) i ⟨ts, ls⟩).length rc)], ?_, by omega, HZ5.out, HO5.out, by rw [HNx.out, ← HLr.out]; simp [ls1], by rw [List.length_append, HLn.out]; rfl⟩, rfl⟩, ?_⟩
                 | refine ⟨⟨_, _, _, _, _, _, _, _, _, _, _, ⟨i + 1, L ++ [(rwW p (F : Nat) i ⟨ts, ls⟩, .slice ra (rwW p (F : Nat) i ⟨ts, ls⟩).length rc)], ?_, by omega, HZ5.out, HO5.out, by rw [HNx.out, ← HLr.out]; simp [ls1], by rw [List.length_append, HLn.out]; rfl⟩, rfl⟩, ?_⟩
                 | refine ⟨⟨_, _, _, _, _, _, _, _, _, _, _, _, ⟨i + 1, L ++ [(rwW p (F : Nat) i ⟨ts, ls⟩, .slice ra (rwW p (F : Nat) i ⟨ts, ls⟩).length rc)], ?_, by omega, HZ5.out, HO5.out, by rw [HNx.out, ← HLr.out]; simp [ls1], by rw [List.length_append, HLn.out]; rfl⟩, rfl⟩, ?_⟩
                 | refine ⟨⟨_, _, _, _, _, _, _, _, _, _, _, _, _, ⟨i + 1, L ++ [(rwW p (F : Nat) i ⟨ts, ls⟩, .slice ra (rwW p (F : Nat) i ⟨ts, ls⟩).length rc)], ?_, by omega, HZ5.out, HO5.out, by rw [HNx.out, ← HLr.out]; simp [ls1], by rw [List.length_append, HLn.out]; rfl⟩, rfl⟩, ?_⟩
                 | refine ⟨⟨_, _, _, _, _, _, _, _, _, _, _, _, _, _, ⟨i + 1, L ++ [(rwW p (F : Nat) i ⟨ts, ls⟩, .slice ra (rwW p (F : Nat) i ⟨ts, ls⟩).length rc)], ?_, by omega, HZ5.out, HO5.out, by rw [HNx.out, ← HLr.out]; simp [ls1], by rw [List.length_append, HLn.out]; rfl⟩, rfl⟩, ?_⟩
                 | refine ⟨⟨_, _, _, _, _, _, _, _, _, _, _, _, _, _, _, ⟨i + 1, L ++ [(rwW p (F : Nat) i ⟨ts, ls⟩, .slice ra (rwW p (F : Nat) i ⟨ts, ls⟩).length rc)], ?_, by omega, HZ5.out, HO5.out, by rw [HNx.out, ← HLr.out]; simp [ls1], by rw [List.length_append, HLn.out]; rfl⟩, rfl⟩, ?_⟩
                 | refine ⟨⟨_, _, _, _, _, _, _, _, _, _, _, _, _, _, _, _, ⟨i + 1, L ++ [(rwW p (F : Nat) i ⟨ts, ls⟩, .slice ra (rwW p (F : Nat) i ⟨ts, ls⟩).length rc)], ?_, by omega, HZ5.out, HO5.out, by rw [HNx.out, ← HLr.out]; simp [ls1], by rw [List.length_append, HLn.out]; rfl⟩, rfl⟩, ?_⟩
                 | refine ⟨⟨_, _, _, _, _, _, _, _, _, _, _, _, _, _, _, _, _, ⟨i + 1, L ++ [(rwW p (F : Nat) i ⟨ts, ls⟩, .slice ra (rwW p (F : Nat) i ⟨ts, ls⟩).length rc)], ?_, by omega, HZ5.out, HO5.out, by rw [HNx.out, ← HLr.out]; simp [ls1], by rw [List.length_append, HLn.out]; rfl⟩, rfl⟩, ?_⟩
                 | refine ⟨⟨_, _, _, _, _, _, _, _, _, _, _, _, _, _, _, _, _, _, ⟨i + 1, L ++ [(rwW p (F : Nat) i ⟨ts, ls⟩, .slice ra (rwW p (F : Nat) i ⟨ts, ls⟩).length rc)], ?_, by omega, HZ5.out, HO5.out, by rw [HNx.out, ← HLr.out]; simp [ls1], by rw [List.length_append, HLn.out]; rfl⟩, rfl⟩, ?_⟩
                 | refine ⟨⟨_, _, _, _, _, _, _, _, _, _, _, _, _, _, _, _, _, _, _, ⟨i + 1, L ++ [(rwW p (F : Nat) i ⟨ts, ls⟩, .slice ra (rwW p (F : Nat) i ⟨ts, ls⟩).length rc)], ?_, by omega, HZ5.out, HO5.out, by rw [HNx.out, ← HLr.out]; simp [ls1], by rw [List.length_append, HLn.out]; rfl⟩, rfl⟩, ?_⟩
                 | refine ⟨⟨_, _, _, _, _, _, _, _, _, _, _, _, _, _, _, _, _, _, _, _, ⟨i + 1, L ++ [(rwW p (F : Nat) i ⟨ts, ls⟩, .slice ra (rwW p (F : Nat) i ⟨ts, ls⟩).length rc)], ?_, by omega, HZ5.out, HO5.out, by rw [HNx.out, ← HLr.out]; simp [ls1], by rw [List.length_append, HLn.out]; rfl⟩, rfl⟩, ?_⟩
                 | refine ⟨⟨_, _, _, _, _, _, _, _, _, _, _, _, _, _, _, _, _, _, _, _, _, ⟨i + 1, L ++ [(rwW p (F : Nat) i ⟨ts, ls⟩, .slice ra (rwW p (F : Nat) i ⟨ts, ls⟩).length rc)], ?_, by omega, HZ5.out, HO5.out, by rw [HNx.out, ← HLr.out]; simp [ls1], by rw [List.length_append, HLn.out]; rfl⟩, rfl⟩, ?_⟩
                 | refine ⟨⟨_, _, _, _, _, _, _, _, _, _, _, _, _, _, _, _, _, _, _, _, _, _, ⟨i + 1, L ++ [(rwW p (F : Nat) i ⟨ts, ls⟩, .slice ra (rwW p (F : Nat) i ⟨ts, ls⟩).length rc)], ?_, by omega, HZ5.out, HO5.out, by rw [HNx.out, ← HLr.out]; simp [ls1], by rw [List.length_append, HLn.out]; rfl⟩, rfl⟩, ?_⟩
                 | refine ⟨⟨_, _, _, _, _, _, _, _, _, _, _, _, _, _, _, _, _, _, _, _, _, _, _, ⟨i + 1, L ++ [(rwW p (F : Nat) i ⟨ts, ls⟩, .slice ra (rwW p (F : Nat) i ⟨ts, ls⟩).length rc)], ?_, by omega, HZ5.out, HO5.out, by rw [HNx.out, ← HLr.out]; simp [ls1], by rw [List.length_append, HLn.out]; rfl⟩, rfl⟩, ?_⟩
                 | refine ⟨⟨_, _, _, _, _, _, _, _, _, _, _, _, _, _, _, _, _, _, _, _, _, _, _, _, ⟨i + 1, L ++ [(rwW p (F : Nat) i ⟨ts, ls⟩, .slice ra (rwW p (F : Nat) i ⟨ts, ls⟩).length rc)], ?_, by omega, HZ5.out, HO5.out, by rw [HNx.out, ← HLr.out]; simp [ls1], by rw [List.length_append, HLn.out]; rfl⟩, rfl⟩, ?_⟩
                 | refine ⟨⟨_, _, _, _, _, _, _, _, _, _, _, _, _, _, _, _, _, _, _, _, _, _, _, _, _, ⟨i + 1, L ++ [(rwW p (F : Nat) i ⟨ts, ls⟩, .slice ra (rwW p (F : Nat) i ⟨ts, ls⟩).length rc)], ?_, by omega, HZ5.out, HO5.out, by rw [HNx.out, ← HLr.out]; simp [ls1], by rw [List.length_append, HLn.out]; rfl⟩, rfl⟩, ?_⟩
                 | refine ⟨⟨_, _, _, _, _, _, _, _, _, _, _, _, _, _, _, _, _, _, _, _, _, _, _, _, _, _, ⟨i + 1, L ++ [(rwW p (F : Nat) i ⟨ts, ls⟩, .slice ra (rwW p (F : Nat) i ⟨ts, ls⟩).length rc)], ?_, by omega, HZ5.out, HO5.out, by rw [HNx.out, ← HLr.out]; simp [ls1], by rw [List.length_append, HLn.out]; rfl⟩, rfl⟩, ?_⟩
                 | refine ⟨⟨_, _, _, _, _, _, _, _, _, _, _, _, _, _, _, _, _, _, _, _, _, _, _, _, _, _, _, ⟨i + 1, L ++ [(rwW p (F : Nat) i ⟨ts, ls⟩, .slice ra (rwW p (F : Nat) i ⟨ts, ls⟩).length rc)], ?_, by omega, HZ5.out, HO5.out, by rw [HNx.out, ← HLr.out]; simp [ls1], by rw [List.length_append, HLn.out]; rfl⟩, rfl⟩, ?_⟩
                 | refine ⟨⟨_, _, _, _, _, _, _, _, _, _, _, _, _, _, _, _, _, _, _, _, _, _, _, _, _, _, _, _, ⟨i + 1, L ++ [(rwW p (F : Nat) i ⟨ts, ls⟩, .slice ra (rwW p (F : Nat) i ⟨ts, ls⟩).length rc)], ?_, by omega, HZ5.out, HO5.out, by rw [HNx.out, ← HLr.out]; simp [ls1], by rw [List.length_append, HLn.out]; rfl⟩, rfl⟩, ?_⟩
                 | refine ⟨⟨_, _, _, _, _, _, _, _, _, _, _, _, _, _, _, _, _, _, _, _, _, _, _, _, _, _, _, _, _, ⟨i + 1, L ++ [(rwW p (F : Nat) i ⟨ts, ls⟩, .slice ra (rwW p (F : Nat) i ⟨ts, ls⟩).length rc)], ?_, by omega, HZ5.out, HO5.out, by rw [HNx.out, ← HLr.out]; simp [ls1], by rw [List.length_append, HLn.out]; rfl⟩, rfl⟩, ?_⟩
                 | refine ⟨⟨_, _, _, _, _, _, _, _, _, _, _, _, _, _, _, _, _, _, _, _, _, _, _, _, _, _, _, _, _, _, ⟨i + 1, L ++ [(rwW p (F : Nat) i ⟨ts, ls⟩, .slice ra (rwW p (F : Nat) i ⟨ts, ls⟩).length rc)], ?_, by omega, HZ5.out, HO5.out, by rw [HNx.out, ← HLr.out]; simp [ls1], by rw [List.length_append, HLn.out]; rfl⟩, rfl⟩, ?_⟩
                 | refine ⟨⟨_, _, _, _, _, _, _, _, _, _, _, _, _, _, _, _, _, _, _, _, _, _, _, _, _, _, _, _, _, _, _, ⟨i + 1, L ++ [(rwW p (F : Nat) i ⟨ts, ls⟩, .slice ra (rwW p (F : Nat) i ⟨ts, ls⟩).length rc)], ?_, by omega, HZ5.out, HO5.out, by rw [HNx.out, ← HLr.out]; simp [ls1], by rw [List.length_append, HLn.out]; rfl⟩, rfl⟩, ?_⟩
                 | refine ⟨⟨_, _, _, _, _, _, _, _, _, _, _, _, _, _, _, _, _, _, _, _, _, _, _, _, _, _, _, _, _, _, _, _, ⟨i + 1, L ++ [(rwW p (F : Nat) i ⟨ts, ls⟩, .slice ra (rwW p (F : Nat) i ⟨ts, ls⟩).length rc)], ?_, by omega, HZ5.out, HO5.out, by rw [HNx.out, ← HLr.out]; simp [ls1], by rw [List.length_append, HLn.out]; rfl⟩, rfl⟩, ?_⟩
                 | refine ⟨⟨_, _, _, _, _, _, _, _, _, _, _, _, _, _, _, _, _, _, _, _, _, _, _, _, _, _, _, _, _, _, _, _, _, ⟨i + 1, L ++ [(rwW p (F : Nat) i ⟨ts, ls⟩, .slice ra (rwW p (F : Nat) i ⟨ts, ls⟩).length rc)], ?_, by omega, HZ5.out, HO5.out, by rw [HNx.out, ← HLr.out]; simp [ls1], by rw [List.length_append, HLn.out]; rfl⟩, rfl⟩, ?_⟩
                 | refine ⟨⟨_, _, _, _, _, _, _, _, _, _, _, _, _, _, _, _, _, _, _, _, _, _, _, _, _, _, _, _, _, _, _, _, _, _, ⟨i + 1, L ++ [(rwW p (F : Nat) i ⟨ts, ls⟩, .slice ra (rwW p (F : Nat) i ⟨ts, ls⟩).length rc)], ?_, by omega, HZ5.out, HO5.out, by rw [HNx.out, ← HLr.out]; simp [ls1], by rw [List.length_append, HLn.out]; rfl⟩, rfl⟩, ?_⟩
                 | refine ⟨⟨_, _, _, _, _, _, _, _, _, _, _, _, _, _, _, _, _, _, _, _, _, _, _, _, _, _, _, _, _, _, _, _, _, _, _, ⟨i + 1, L ++ [(rwW p (F : Nat) i ⟨ts, ls⟩, .slice ra (rwW p (F : Nat) i ⟨ts, ls⟩).length rc)], ?_, by omega, HZ5.out, HO5.out, by rw [HNx.out, ← HLr.out]; simp [ls1], by rw [List.length_append, HLn.out]; rfl⟩, rfl⟩, ?_⟩
                 | refine ⟨⟨_, _, _, _, _, _, _, _, _, _, _, _, _, _, _, _, _, _, _, _, _, _, _, _, _, _, _, _, _, _, _, _, _, _, _, _, ⟨i + 1, L ++ [(rwW p (F : Nat) i ⟨ts, ls⟩, .slice ra (rwW p (F : Nat) i ⟨ts, ls⟩).length rc)], ?_, by omega, HZ5.out, HO5.out, by rw [HNx.out, ← HLr.out]; simp [ls1], by rw [List.length_append, HLn.out]; rfl⟩, rfl⟩, ?_⟩
                 | refine ⟨⟨_, _, _, _, _, _, _, _, _, _, _, _, _, _, _, _, _, _, _, _, _, _, _, _, _, _, _, _, _, _, _, _, _, _, _, _, _, ⟨i + 1, L ++ [(rwW p (F : Nat) i ⟨ts, ls⟩, .slice ra (rwW p (F : Nat) i ⟨ts, ls⟩).length rc)], ?_, by omega, HZ5.out, HO5.out, by rw [HNx.out, ← HLr.out]; simp [ls1], by rw [List.length_append, HLn.out]; rfl⟩, rfl⟩, ?_⟩
                 | refine ⟨⟨_, _, _, _, _, _, _, _, _, _, _, _, _, _, _, _, _, _, _, _, _, _, _, _, _, _, _, _, _, _, _, _, _, _, _, _, _, _, ⟨i + 1, L ++ [(rwW p (F : Nat) i ⟨ts, ls⟩, .slice ra (rwW p (F : Nat) i ⟨ts, ls⟩).length rc)], ?_, by omega, HZ5.out, HO5.out, by rw [HNx.out, ← HLr.out]; simp [ls1], by rw [List.length_append, HLn.out]; rfl⟩, rfl⟩, ?_⟩
                 | refine ⟨⟨_, _, _, _, _, _, _, _, _, _, _, _, _, _, _, _, _, _, _, _, _, _, _, _, _, _, _, _, _, _, _, _, _, _, _, _, _, _, _, ⟨i + 1, L ++ [(rwW p (F : Nat) i ⟨ts, ls⟩, .slice ra (rwW p (F : Nat) i ⟨ts, ls⟩).length rc)], ?_, by omega, HZ5.out, HO5.out, by rw [HNx.out, ← HLr.out]; simp [ls1], by rw [List.length_append, HLn.out]; rfl⟩, rfl⟩, ?_⟩
                 | refine ⟨⟨_, _, _, _, _, _, _, _, _, _, _, _, _, _, _, _, _, _, _, _, _, _, _, _, _, _, _, _, _, _, _, _, _, _, _, _, _, _, _, _, ⟨i + 1, L ++ [(rwW p (F : Nat) i ⟨ts, ls⟩, .slice ra (rwW p (F : Nat) i ⟨ts, ls⟩).length rc)], ?_, by omega, HZ5.out, HO5.out, by rw [HNx.out, ← HLr.out]; simp [ls1], by rw [List.length_append, HLn.out]; rfl⟩, rfl⟩, ?_⟩
                 | refine ⟨⟨_, _, _, _, _, _, _, _, _, _, _, _, _, _, _, _, _, _, _, _, _, _, _, _, _, _, _, _, _, _, _, _, _, _, _, _, _, _, _, _, _, ⟨i + 1, L ++ [(rwW p (F : Nat) i ⟨ts, ls⟩, .slice ra (rwW p (F : Nat) i ⟨ts, ls⟩).length rc)], ?_, by omega, HZ5.out, HO5.out, by rw [HNx.out, ← HLr.out]; simp [ls1], by rw [List.length_append, HLn.out]; rfl⟩, rfl⟩, ?_⟩
                 | refine ⟨⟨_, _, _, _, _, _, _, _, _, _, _, _, _, _, _, _, _, _, _, _, _, _, _, _, _, _, _, _, _, _, _, _, _, _, _, _, _, _, _, _, _, _, ⟨i + 1, L ++ [(rwW p (F : Nat) i ⟨ts, ls⟩, .slice ra (rwW p (F : Nat) i ⟨ts, ls⟩).length rc)], ?_, by omega, HZ5.out, HO5.out, by rw [HNx.out, ← HLr.out]; simp [ls1], by rw [List.length_append, HLn.out]; rfl⟩, rfl⟩, ?_⟩
                 | refine ⟨⟨_, _, _, _, _, _, _, _, _, _, _, _, _, _, _, _, _, _, _, _, _, _, _, _, _, _, _, _, _, _, _, _, _, _, _, _, _, _, _, _, _, _, _, ⟨i + 1, L ++ [(rwW p (F : Nat) i ⟨ts, ls⟩, .slice ra (rwW p (F : Nat) i ⟨ts, ls⟩).length rc)], ?_, by omega, HZ5.out, HO5.out, by rw [HNx.out, ← HLr.out]; simp [ls1], by rw [List.length_append, HLn.out]; rfl⟩, rfl⟩, ?_⟩
                 | refine ⟨⟨_, _, _, _, _, _, _, _, _, _, _, _, _, _, _, _, _, _, _, _, _, _, _, _, _, _, _, _, _, _, _, _, _, _, _, _, _, _, _, _, _, _, _, _, ⟨i + 1, L ++ [(rwW p (F : Nat) i ⟨ts, ls⟩, .slice ra (rwW p (F : Nat) i ⟨ts, ls⟩).length rc)], ?_, by omega, HZ5.out, HO5.out, by rw [HNx.out, ← HLr.out]; simp [ls1], by rw [List.length_append, HLn.out]; rfl⟩, rfl⟩, ?_⟩
                 | refine ⟨⟨_, _, _, _, _, _, _, _, _, _, _, _, _, _, _, _, _, _, _, _, _, _, _, _, _, _, _, _, _, _, _, _, _, _, _, _, _, _, _, _, _, _, _, _, _, ⟨i + 1, L ++ [(rwW p (F : Nat) i ⟨ts, ls⟩, .slice ra (rwW p (F : Nat) i ⟨ts, ls⟩).length rc)], ?_, by omega, HZ5.out, HO5.out, by rw [HNx.out, ← HLr.out]; simp [ls1], by rw [List.length_append, HLn.out]; rfl⟩, rfl⟩, ?_⟩
                 | refine ⟨⟨_, _, _, _, _, _, _, _, _, _, _, _, _, _, _, _, _, _, _, _, _, _, _, _, _, _, _, _, _, _, _, _, _, _, _, _, _, _, _, _, _, _, _, _, _, _, ⟨i + 1, L ++ [(rwW p (F : Nat) i ⟨ts, ls⟩, .slice ra (rwW p (F : Nat) i ⟨ts, ls⟩).length rc)], ?_, by omega, HZ5.out, HO5.out, by rw [HNx.out, ← HLr.out]; simp [ls1], by rw [List.length_append, HLn.out]; rfl⟩, rfl⟩, ?_⟩
                 | refine ⟨⟨_, _, _, _, _, _, _, _, _, _, _, _, _, _, _, _, _, _, _, _, _, _, _, _, _, _, _, _, _, _, _, _, _, _, _, _, _, _, _, _, _, _, _, _, _, _, _, ⟨i + 1, L ++ [(rwW p (F : Nat) i ⟨ts, ls⟩, .slice ra (rwW p (F : Nat) i ⟨ts, ls⟩).length rc)], ?_, by omega, HZ5.out, HO5.out, by rw [HNx.out, ← HLr.out]; simp [ls1], by rw [List.length_append, HLn.out]; rfl⟩, rfl⟩, ?_⟩
                 | refine ⟨⟨_, _, _, _, _, _, _, _, _, _, _, _, _, _, _, _, _, _, _, _, _, _, _, _, _, _, _, _, _, _, _, _, _, _, _, _, _, _, _, _, _, _, _, _, _, _, _, _, ⟨i + 1, L ++ [(rwW p (F : Nat) i ⟨ts, ls⟩, .slice ra (rwW p (F : Nat) i ⟨ts, ls⟩).length rc)], ?_, by omega, HZ5.out, HO5.out, by rw [HNx.out, ← HLr.out]; simp [ls1], by rw [List.length_append, HLn.out]; rfl⟩, rfl⟩, ?_⟩
                 | refine ⟨⟨_, _, _, _, _, _, _, _, _, _, _, _, _, _, _, _, _, _, _, _, _, _, _, _, _, _, _, _, _, _, _, _, _, _, _, _, _, _, _, _, _, _, _, _, _, _, _, _, _, ⟨i + 1, L ++ [(rwW p (F : Nat) i ⟨ts, ls⟩, .slice ra (rwW p (F : Nat) i ⟨ts, ls⟩).length rc)], ?_, by omega, HZ5.out, HO5.out, by rw [HNx.out, ← HLr.out]; simp [ls1], by rw [List.length_append, HLn.out]; rfl⟩, rfl⟩, ?_⟩
                 | refine ⟨⟨_, _, _, _, _, _, _, _, _, _, _, _, _, _, _, _, _, _, _, _, _, _, _, _, _, _, _, _, _, _, _, _, _, _, _, _, _, _, _, _, _, _, _, _, _, _, _, _, _, _, ⟨i + 1, L ++ [(rwW p (F : Nat) i ⟨ts, ls⟩, .slice ra (rwW p (F : Nat) i ⟨ts, ls⟩).length rc)], ?_, by omega, HZ5.out, HO5.out, by rw [HNx.out, ← HLr.out]; simp [ls1], by rw [List.length_append, HLn.out]; rfl⟩, rfl⟩, ?_⟩
                 | refine ⟨⟨_, _, _, _, _, _, _, _, _, _, _, _, _, _, _, _, _, _, _, _, _, _, _, _, _, _, _, _, _, _, _, _, _, _, _, _, _, _, _, _, _, _, _, _, _, _, _, _, _, _, _, ⟨i + 1, L ++ [(rwW p (F : Nat) i ⟨ts, ls⟩, .slice ra (rwW p (F : Nat) i ⟨ts, ls⟩).length rc)], ?_, by omega, HZ5.out, HO5.out, by rw [HNx.out, ← HLr.out]; simp [ls1], by rw [List.length_append, HLn.out]; rfl⟩, rfl⟩, ?_⟩
                 | refine ⟨⟨_, _, _, _, _, _, _, _, _, _, _, _, _, _, _, _, _, _, _, _, _, _, _, _, _, _, _, _, _, _, _, _, _, _, _, _, _, _, _, _, _, _, _, _, _, _, _, _, _, _, _, _, ⟨i + 1, L ++ [(rwW p (F : Nat) i ⟨ts, ls⟩, .slice ra (rwW p (F : Nat) i ⟨ts, ls⟩).length rc)], ?_, by omega, HZ5.out, HO5.out, by rw [HNx.out, ← HLr.out]; simp [ls1], by rw [List.length_append, HLn.out]; rfl⟩, rfl⟩, ?_⟩
                 | refine ⟨⟨_, _, _, _, _, _, _, _, _, _, _, _, _, _, _, _, _, _, _, _, _, _, _, _, _, _, _, _, _, _, _, _, _, _, _, _, _, _, _, _, _, _, _, _, _, _, _, _, _, _, _, _, _, ⟨i + 1, L ++ [(rwW p (F : Nat) i ⟨ts, ls⟩, .slice ra (rwW p (F : Nat) i ⟨ts, ls⟩).length rc)], ?_, by omega, HZ5.out, HO5.out, by rw [HNx.out, ← HLr.out]; simp [ls1], by rw [List.length_append, HLn.out]; rfl⟩, rfl⟩, ?_⟩
                 | refine ⟨⟨_, _, _, _, _, _, _, _, _, _, _, _, _, _, _, _, _, _, _, _, _, _, _, _, _, _, _, _, _, _, _, _, _, _, _, _, _, _, _, _, _, _, _, _, _, _, _, _, _, _, _, _, _, _, ⟨i + 1, L ++ [(rwW p (F : Nat) i ⟨ts, ls⟩, .slice ra (rwW p (F : Nat) i ⟨ts, ls⟩).length rc)], ?_, by omega, HZ5.out, HO5.out, by rw [HNx.out, ← HLr.out]; simp [ls1], by rw [List.length_append, HLn.out]; rfl⟩, rfl⟩, ?_⟩
                 | refine ⟨⟨_, _, _, _, _, _, _, _, _, _, _, _, _, _, _, _, _, _, _, _, _, _, _, _, _, _, _, _, _, _, _, _, _, _, _, _, _, _, _, _, _, _, _, _, _, _, _, _, _, _, _, _, _, _, _, ⟨i + 1, L ++ [(rwW p (F : Nat) i ⟨ts, ls⟩, .slice ra (rwW p (F : Nat) i ⟨ts, ls⟩).length rc)], ?_, by omega, HZ5.out, HO5.out, by rw [HNx.out, ← HLr.out]; simp [ls1], by rw [List.length_append, HLn.out]; rfl⟩, rfl⟩, ?_⟩
                 | refine ⟨⟨_, _, _, _, _, _, _, _, _, _, _, _, _, _, _, _, _, _, _, _, _, _, _, _, _, _, _, _, _, _, _, _, _, _, _, _, _, _, _, _, _, _, _, _, _, _, _, _, _, _, _, _, _, _, _, _, ⟨i + 1, L ++ [(rwW p (F : Nat) i ⟨ts, ls⟩, .slice ra (rwW p (F : Nat) i ⟨ts, ls⟩).length rc)], ?_, by omega, HZ5.out, HO5.out, by rw [HNx.out, ← HLr.out]; simp [ls1], by rw [List.length_append, HLn.out]; rfl⟩, rfl⟩, ?_⟩
                 | refine ⟨⟨_, _, _, _, _, _, _, _, _, _, _, _, _, _, _, _, _, _, _, _, _, _, _, _, _, _, _, _, _, _, _, _, _, _, _, _, _, _, _, _, _, _, _, _, _, _, _, _, _, _, _, _, _, _, _, _, _, ⟨i + 1, L ++ [(rwW p (F : Nat) i ⟨ts, ls⟩, .slice ra (rwW p (F : Nat) i ⟨ts, ls⟩).length rc)], ?_, by omega, HZ5.out, HO5.out, by rw [HNx.out, ← HLr.out]; simp [ls1], by rw [List.length_append, HLn.out]; rfl⟩, rfl⟩, ?_⟩
                 | refine ⟨⟨_, _, _, _, _, _, _, _, _, _, _, _, _, _, _, _, _, _, _, _, _, _, _, _, _, _, _, _, _, _, _, _, _, _, _, _, _, _, _, _, _, _, _, _, _, _, _, _, _, _, _, _, _, _, _, _, _, _, ⟨i + 1, L ++ [(rwW p (F : Nat) i ⟨ts, ls⟩, .slice ra (rwW p (F : Nat) i ⟨ts, ls⟩).length rc)], ?_, by omega, HZ5.out, HO5.out, by rw [HNx.out, ← HLr.out]; simp [ls1], by rw [List.length_append, HLn.out]; rfl⟩, rfl⟩, ?_⟩
                 | refine ⟨⟨_, _, _, _, _, _, _, _, _, _, _, _, _, _, _, _, _, _, _, _, _, _, _, _, _, _, _, _, _, _, _, _, _, _, _, _, _, _, _, _, _, _, _, _, _, _, _, _, _, _, _, _, _, _, _, _, _, _, _, ⟨i + 1, L ++ [(rwW p (F : Nat) i ⟨ts, ls⟩, .slice ra (rwW p (F : Nat) i ⟨ts, ls⟩).length rc)], ?_, by omega, HZ5.out, HO5.out, by rw [HNx.out, ← HLr.out]; simp [ls1], by rw [List.length_append, HLn.out]; rfl⟩, rfl⟩, ?_⟩
                 | refine ⟨⟨_, _, _, _, _, _, _, _, _, _, _, _, _, _, _, _, _, _, _, _, _, _, _, _, _, _, _, _, _, _, _, _, _, _, _, _, _, _, _, _, _, _, _, _, _, _, _, _, _, _, _, _, _, _, _, _, _, _, _, _, ⟨i + 1, L ++ [(rwW p (F : Nat) i ⟨ts, ls⟩, .slice ra (rwW p (F : Nat) i ⟨ts, ls⟩).length rc)], ?_, by omega, HZ5.out, HO5.out, by rw [HNx.out, ← HLr.out]; simp [ls1], by rw [List.length_append, HLn.out]; rfl⟩, rfl⟩, ?_⟩
                 | refine ⟨⟨_, _, _, _, _, _, _, _, _, _, _, _, _, _, _, _, _, _, _, _, _, _, _, _, _, _, _, _, _, _, _, _, _, _, _, _, _, _, _, _, _, _, _, _, _, _, _, _, _, _, _, _, _, _, _, _, _, _, _, _, _, ⟨i + 1, L ++ [(rwW p (F : Nat) i ⟨ts, ls⟩, .slice ra (rwW p (F : Nat) i ⟨ts, ls⟩).length rc)], ?_, by omega, HZ5.out, HO5.out, by rw [HNx.out, ← HLr.out]; simp [ls1], by rw [List.length_append, HLn.out]; rfl⟩, rfl⟩, ?_⟩
                 | refine ⟨⟨_, _, _, _, _, _, _, _, _, _, _, _, _, _, _, _, _, _, _, _, _, _, _, _, _, _, _, _, _, _, _, _, _, _, _, _, _, _, _, _, _, _, _, _, _, _, _, _, _, _, _, _, _, _, _, _, _, _, _, _, _, _, ⟨i + 1, L ++ [(rwW p (F : Nat) i ⟨ts, ls⟩, .slice ra (rwW p (F : Nat) i ⟨ts, ls⟩).length rc)], ?_, by omega, HZ5.out, HO5.out, by rw [HNx.out, ← HLr.out]; simp [ls1], by rw [List.length_append, HLn.out]; rfl⟩, rfl⟩, ?_⟩
                 | refine ⟨⟨_, _, _, _, _, _, _, _, _, _, _, _, _, _, _, _, _, _, _, _, _, _, _, _, _, _, _, _, _, _, _, _, _, _, _, _, _, _, _, _, _, _, _, _, _, _, _, _, _, _, _, _, _, _, _, _, _, _, _, _, _, _, _, ⟨i + 1, L ++ [(rwW p (F : Nat) i ⟨ts, ls⟩, .slice ra (rwW p (F : Nat) i ⟨ts, ls⟩).length rc)], ?_, by omega, HZ5.out, HO5.out, by rw [HNx.out, ← HLr.out]; simp [ls1], by rw [List.length_append, HLn.out]; rfl⟩, rfl⟩, ?_⟩
                 | refine ⟨⟨_, _, _, _, _, _, _, _, _, _, _, _, _, _, _, _, _, _, _, _, _, _, _, _, _, _, _, _, _, _, _, _, _, _, _, _, _, _, _, _, _, _, _, _, _, _, _, _, _, _, _, _, _, _, _, _, _, _, _, _, _, _, _, _, ⟨i + 1, L ++ [(rwW p (F : Nat) i ⟨ts, ls⟩, .slice ra (rwW p (F : Nat) i ⟨ts, ls⟩).length rc)], ?_, by omega, HZ5.out, HO5.out, by rw [HNx.out, ← HLr.out]; simp [ls1], by rw [List.length_append, HLn.out]; rfl⟩, rfl⟩, ?_⟩
                 | refine ⟨⟨_, _, _, _, _, _, _, _, _, _, _, _, _, _, _, _, _, _, _, _, _, _, _, _, _, _, _, _, _, _, _, _, _, _, _, _, _, _, _, _, _, _, _, _, _, _, _, _, _, _, _, _, _, _, _, _, _, _, _, _, _, _, _, _, _, ⟨i + 1, L ++ [(rwW p (F : Nat) i ⟨ts, ls⟩, .slice ra (rwW p (F : Nat) i ⟨ts, ls⟩).length rc)], ?_, by omega, HZ5.out, HO5.out, by rw [HNx.out, ← HLr.out]; simp [ls1], by rw [List.length_append, HLn.out]; rfl⟩, rfl⟩, ?_⟩
                 | refine ⟨⟨_, _, _, _, _, _, _, _, _, _, _, _, _, _, _, _, _, _, _, _, _, _, _, _, _, _, _, _, _, _, _, _, _, _, _, _, _, _, _, _, _, _, _, _, _, _, _, _, _, _, _, _, _, _, _, _, _, _, _, _, _, _, _, _, _, _, ⟨i + 1, L ++ [(rwW p (F : Nat) i ⟨ts, ls⟩, .slice ra (rwW p (F : Nat) i ⟨ts, ls⟩).length rc)], ?_, by omega, HZ5.out, HO5.out, by rw [HNx.out, ← HLr.out]; simp [ls1], by rw [List.length_append, HLn.out]; rfl⟩, rfl⟩, ?_⟩
                 | refine ⟨⟨_, _, _, _, _, _, _, _, _, _, _, _, _, _, _, _, _, _, _, _, _, _, _, _, _, _, _, _, _, _, _, _, _, _, _, _, _, _, _, _, _, _, _, _, _, _, _, _, _, _, _, _, _, _, _, _, _, _, _, _, _, _, _, _, _, _, _, ⟨i + 1, L ++ [(rwW p (F : Nat) i ⟨ts, ls⟩, .slice ra (rwW p (F : Nat) i ⟨ts, ls⟩).length rc)], ?_, by omega, HZ5.out, HO5.out, by rw [HNx.out, ← HLr.out]; simp [ls1], by rw [List.length_append, HLn.out]; rfl⟩, rfl⟩, ?_⟩
                 | refine ⟨⟨_, _, _, _, _, _, _, _, _, _, _, _, _, _, _, _, _, _, _, _, _, _, _, _, _, _, _, _, _, _, _, _, _, _, _, _, _, _, _, _, _, _, _, _, _, _, _, _, _, _, _, _, _, _, _, _, _, _, _, _, _, _, _, _, _, _, _, _, ⟨i + 1, L ++ [(rwW p (F : Nat) i ⟨ts, ls⟩, .slice ra (rwW p (F : Nat) i ⟨ts, ls⟩).length rc)], ?_, by omega, HZ5.out, HO5.out, by rw [HNx.out, ← HLr.out]; simp [ls1], by rw [List.length_append, HLn.out]; rfl⟩, rfl⟩, ?_⟩
                 | refine ⟨⟨_, _, _, _, _, _, _, _, _, _, _, _, _, _, _, _, _, _, _, _, _, _, _, _, _, _, _, _, _, _, _, _, _, _, _, _, _, _, _, _, _, _, _, _, _, _, _, _, _, _, _, _, _, _, _, _, _, _, _, _, _, _, _, _, _, _, _, _, _, ⟨i + 1, L ++ [(rwW p (F : Nat) i ⟨ts, ls⟩, .slice ra (rwW p (F : Nat) i ⟨ts, ls⟩).length rc)], ?_, by omega, HZ5.out, HO5.out, by rw [HNx.out, ← HLr.out]; simp [ls1], by rw [List.length_append, HLn.out]; rfl⟩, rfl⟩, ?_⟩
                 | refine ⟨⟨_, _, _, _, _, _, _, _, _, _, _, _, _, _, _, _, _, _, _, _, _, _, _, _, _, _, _, _, _, _, _, _, _, _, _, _, _, _, _, _, _, _, _, _, _, _, _, _, _, _, _, _, _, _, _, _, _, _, _, _, _, _, _, _, _, _, _, _, _, _, ⟨i + 1, L ++ [(rwW p (F : Nat) i ⟨ts, ls⟩, .slice ra (rwW p (F : Nat) i ⟨ts, ls⟩).length rc)], ?_, by omega, HZ5.out, HO5.out, by rw [HNx.out, ← HLr.out]; simp [ls1], by rw [List.length_append, HLn.out]; rfl⟩, rfl⟩, ?_⟩
                 | refine ⟨⟨_, _, _, _, _, _, _, _, _, _, _, _, _, _, _, _, _, _, _, _, _, _, _, _, _, _, _, _, _, _, _, _, _, _, _, _, _, _, _, _, _, _, _, _, _, _, _, _, _, _, _, _, _, _, _, _, _, _, _, _, _, _, _, _, _, _, _, _, _, _, _, ⟨i + 1, L ++ [(rwW p (F : Nat) i ⟨ts, ls⟩, .slice ra (rwW p (F : Nat) i ⟨ts, ls⟩).length rc)], ?_, by omega, HZ5.out, HO5.out, by rw [HNx.out, ← HLr.out]; simp [ls1], by rw [List.length_append, HLn.out]; rfl⟩, rfl⟩, ?_⟩
                 | refine ⟨⟨_, _, _, _, _, _, _, _, _, _, _, _, _, _, _, _, _, _, _, _, _, _, _, _, _, _, _, _, _, _, _, _, _, _, _, _, _, _, _, _, _, _, _, _, _, _, _, _, _, _, _, _, _, _, _, _, _, _, _, _, _, _, _, _, _, _, _, _, _, _, _, _, ⟨i + 1, L ++ [(rwW p (F : Nat) i ⟨ts, ls⟩, .slice ra (rwW p (F : Nat) i ⟨ts, ls⟩).length rc)], ?_, by omega, HZ5.out, HO5.out, by rw [HNx.out, ← HLr.out]; simp [ls1], by rw [List.length_append, HLn.out]; rfl⟩, rfl⟩, ?_⟩
                 | refine ⟨⟨_, _, _, _, _, _, _, _, _, _, _, _, _, _, _, _, _, _, _, _, _, _, _, _, _, _, _, _, _, _, _, _, _, _, _, _, _, _, _, _, _, _, _, _, _, _, _, _, _, _, _, _, _, _, _, _, _, _, _, _, _, _, _, _, _, _, _, _, _, _, _, _, _, ⟨i + 1, L ++ [(rwW p (F : Nat) i ⟨ts, ls⟩, .slice ra (rwW p (F : Nat) i ⟨ts, ls⟩).length rc)], ?_, by omega, HZ5.out, HO5.out, by rw [HNx.out, ← HLr.out]; simp [ls1], by rw [List.length_append, HLn.out]; rfl⟩, rfl⟩, ?_⟩
                 | refine ⟨⟨_, _, _, _, _, _, _, _, _, _, _, _, _, _, _, _, _, _, _, _, _, _, _, _, _, _, _, _, _, _, _, _, _, _, _, _, _, _, _, _, _, _, _, _, _, _, _, _, _, _, _, _, _, _, _, _, _, _, _, _, _, _, _, _, _, _, _, _, _, _, _, _, _, _, ⟨i + 1, L ++ [(rwW p (F : Nat) i ⟨ts, ls⟩, .slice ra (rwW p (F : Nat) i ⟨ts, ls⟩).length rc)], ?_, by omega, HZ5.out, HO5.out, by rw [HNx.out, ← HLr.out]; simp [ls1], by rw [List.length_append, HLn.out]; rfl⟩, rfl⟩, ?_⟩
                 | refine ⟨⟨_, _, _, _, _, _, _, _, _, _, _, _, _, _, _, _, _, _, _, _, _, _, _, _, _, _, _, _, _, _, _, _, _, _, _, _, _, _, _, _, _, _, _, _, _, _, _, _, _, _, _, _, _, _, _, _, _, _, _, _, _, _, _, _, _, _, _, _, _, _, _, _, _, _, _, ⟨i + 1, L ++ [(rwW p (F : Nat) i ⟨ts, ls⟩, .slice ra (rwW p (F : Nat) i ⟨ts, ls⟩).length rc)], ?_, by omega, HZ5.out, HO5.out, by rw [HNx.out, ← HLr.out]; simp [ls1], by rw [List.length_append, HLn.out]; rfl⟩, rfl⟩, ?_⟩
                 | refine ⟨⟨_, _, _, _, _, _, _, _, _, _, _, _, _, _, _, _, _, _, _, _, _, _, _, _, _, _, _, _, _, _, _, _, _, _, _, _, _, _, _, _, _, _, _, _, _, _, _, _, _, _, _, _, _, _, _, _, _, _, _, _, _, _, _, _, _, _, _, _, _, _, _, _, _, _, _, _, ⟨i + 1, L ++ [(rwW p (F : Nat) i ⟨ts, ls⟩, .slice ra (rwW p (F : Nat) i ⟨ts, ls⟩).length rc)], ?_, by omega, HZ5.out, HO5.out, by rw [HNx.out, ← HLr.out]; simp [ls1], by rw [List.length_append, HLn.out]; rfl⟩, rfl⟩, ?_⟩
                 | refine ⟨⟨_, _, _, _, _, _, _, _, _, _, _, _, _, _, _, _, _, _, _, _, _, _, _, _, _, _, _, _, _, _, _, _, _, _, _, _, _, _, _, _, _, _, _, _, _, _, _, _, _, _, _, _, _, _, _, _, _, _, _, _, _, _, _, _, _, _, _, _, _, _, _, _, _, _, _, _, _, ⟨i + 1, L ++ [(rwW p (F : Nat) i ⟨ts, ls⟩, .slice ra (rwW p (F : Nat) i ⟨ts, ls⟩).length rc)], ?_, by omega, HZ5.out, HO5.out, by rw [HNx.out, ← HLr.out]; simp [ls1], by rw [List.length_append, HLn.out]; rfl⟩, rfl⟩, ?_⟩
                 | refine ⟨⟨_, _, _, _, _, _, _, _, _, _, _, _, _, _, _, _, _, _, _, _, _, _, _, _, _, _, _, _, _, _, _, _, _, _, _, _, _, _, _, _, _, _, _, _, _, _, _, _, _, _, _, _, _, _, _, _, _, _, _, _, _, _, _, _, _, _, _, _, _, _, _, _, _, _, _, _, _, _, ⟨i + 1, L ++ [(rwW p (F : Nat) i ⟨ts, ls⟩, .slice ra (rwW p (F : Nat) i ⟨ts, ls⟩).length rc)], ?_, by omega, HZ5.out, HO5.out, by rw [HNx.out, ← HLr.out]; simp [ls1], by rw [List.length_append, HLn.out]; rfl⟩, rfl⟩, ?_⟩
                 | refine ⟨⟨_, _, _, _, _, _, _, _, _, _, _, _, _, _, _, _, _, _, _, _, _, _, _, _, _, _, _, _, _, _, _, _, _, _, _, _, _, _, _, _, _, _, _, _, _, _, _, _, _, _, _, _, _, _, _, _, _, _, _, _, _, _, _, _, _, _, _, _, _, _, _, _, _, _, _, _, _, _, _, ⟨i + 1, L ++ [(rwW p (F : Nat) i ⟨ts, ls⟩, .slice ra (rwW p (F : Nat) i ⟨ts, ls⟩).length rc)], ?_, by omega, HZ5.out, HO5.out, by rw [HNx.out, ← HLr.out]; simp [ls1], by rw [List.length_append, HLn.out]; rfl⟩, rfl⟩, ?_⟩
               · go_num
               · simp [RowKit.intOf]; omega
     · obtain rfl : n = i := by omega
       have HFin : Hid (ls1 L = feW p ⟨(F : Nat), (c : Nat), (k : Nat), rs.map (·.1)⟩) := Lib.hid (by
         rw [HLr.out, List.take_of_length_le (by simp [hn.out])]
         unfold feW
         simp [hn.out])
       obtain ⟨la, lc, hu5⟩ : ∃ la lc, u4 = .slice la L.length lc := own_sliceE HOr.out.own
       subst hu5
       have hll : Ll W0 (.slice la L.length lc) L := HOr.out.ll (fun q hq x hx => by
         have := (HSo.out q.1 (by rw [← HFin.out]; exact List.mem_map.2 ⟨q, hq, rfl⟩)).1 x hx
         omega)
       have hmod : Mod L := ⟨by have := HLn.out; omega, fun q hq => by
         have := (HSo.out q.1 (by rw [← HFin.out]; exact List.mem_map.2 ⟨q, hq, rfl⟩)).2
         omega⟩
       have HWr : Hid (Calls Tryd.prog 31 #[.slice la L.length lc] W0 fun e w' => e = .returned (.tuple #[sv (wrV (feW p ⟨(F : Nat), (c : Nat), (k : Nat), rs.map (·.1)⟩)).1, .int .i64 ((wrV (feW p ⟨(F : Nat), (c : Nat), (k : Nat), rs.map (·.1)⟩)).2 : Nat)]) ∧ Below W0.heap.size W0 w') := Lib.hid (by
         have := refWrite_any _ L W0 hll hmod (fun q hq x hx => by
           have := (HSo.out q.1 (by rw [← HFin.out]; exact List.mem_map.2 ⟨q, hq, rfl⟩)).1 x hx
           omega)
         rwa [HFin.out] at this)
       obtain ⟨tx, htx⟩ : ∃ tx, (wrV (feW p ⟨(F : Nat), (c : Nat), (k : Nat), rs.map (·.1)⟩)).1 = tx := ⟨_, rfl⟩
       obtain ⟨er, her'⟩ : ∃ er, (wrV (feW p ⟨(F : Nat), (c : Nat), (k : Nat), rs.map (·.1)⟩)).2 = er := ⟨_, rfl⟩
       rw [htx, her'] at HWr HR
       obtain ⟨m, hm⟩ : ∃ m, L.length = m := ⟨_, rfl⟩
       rw [hm] at HWr ⊢
       have HB := Lib.hid HZr.out.bel
       clear hll hmod htx her'
       go_wp2_with fail
       refine HWr.out.mono ?_
       rintro e W9 ⟨rfl, hb9⟩
       have HB9 := Lib.hid (HB.out.trans (hb9.mono HB.out.size))
       clear hb9
       go_wp2
       go_ret2
       exact ⟨by rw [HR.out]; rfl, HB9.out⟩
end Go.Proofs.YtgoadpnoagaflaaDoor
