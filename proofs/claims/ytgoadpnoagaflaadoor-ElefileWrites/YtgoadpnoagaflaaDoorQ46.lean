/- Own texts, put together: Egg. -/
import Derived.Test.YtgoadpnoagaflaaDoorQ43
/- The laws of layer 11: Same. -/
namespace Go.Proofs.YtgoadpnoagaflaaDoor
set_option maxRecDepth 100000
open Go.RowKit Go.Shelf Go.Lib
attribute [local go_sem] run_store_float
structure Sm11 (w W : World) (f c k : Int) (u v : Value) : Prop where
 bel : Below w.heap.size w W
 ba : CB W w.heap.size #[.int .i64 f, .int .i64 c, .int .i64 k, u] 42
 bb : CB W (w.heap.size + 1) #[.int .i64 f, .int .i64 c, .int .i64 k, v] 42
theorem Sm11.later {w W W' : World} {f c k : Int} {u v : Value} (h : Sm11 w W f c k u v) (hb : Below W.heap.size W W') : Sm11 w W' f c k u v := ⟨h.bel.trans (hb.mono h.bel.size), h.ba.later hb, h.bb.later hb⟩
set_option maxHeartbeats 8000000 in
theorem same11_any (f c k : Int) (v u : Value) (rs ms : List Rt) (w : World) (hv : Rv w v rs) (hu : Rv w u ms) (hlen : rs.length = ms.length) (hs : ∀ (i : Nat) (q r : Rt), rs[i]? = some q → ms[i]? = some r → q.1.t = r.1.t ∧ FEs q.1.a r.1.a) (hn : rs.length ≤ 1000000) (hl : ∀ q ∈ rs, q.1.t.length ≤ 1000000 ∧ q.1.a.length ≤ 1000000) :
   Calls Tryd.prog 11 #[.agg #[.int .i64 f, .int .i64 c, .int .i64 k, v], .agg #[.int .i64 f, .int .i64 c, .int .i64 k, u]] w fun e w' => e = .returned (.bool true) ∧ Below w.heap.size w w' := by
 obtain ⟨va, vc, rfl, v1, v2, v3⟩ := hv.form
 obtain ⟨ua, uc, rfl, u1, u2, u3⟩ := hu.form
 rw [← hlen] at u1 ⊢
 obtain ⟨N, hN⟩ : ∃ N, Hid (rs.length = N) := ⟨_, Lib.hid rfl⟩
 rw [hN.out] at hn v1 u1 ⊢
 have hN' : (N : Int) ≤ 1000000 := by omega
 obtain ⟨W, hW⟩ : ∃ W, (w.alloc (.cells #[.int .i64 f, .int .i64 c, .int .i64 k, .slice va N vc] 42)).alloc (.cells #[.int .i64 f, .int .i64 c, .int .i64 k, .slice ua N uc] 42) = W := ⟨_, rfl⟩
 have hZ : Sm11 w W f c k (.slice va N vc) (.slice ua N uc) := by
   rw [← hW]
   have c2 := CB.new (w.alloc (.cells #[.int .i64 f, .int .i64 c, .int .i64 k, .slice va N vc] 42)) #[.int .i64 f, .int .i64 c, .int .i64 k, .slice ua N uc] 42
   rw [World.size_alloc] at c2
   exact ⟨((Below.refl _ w).alloc (Nat.le_refl _) _).alloc (by simp) _, (CB.new w _ _).later (bAlE _ _), c2⟩
 obtain ⟨k0, k1, k2, k3⟩ := hZ.ba.cells4E
 obtain ⟨l0, l1, l2, l3⟩ := hZ.bb.cells4E
 have HZ := Lib.hid hZ
 have HV := Lib.hid hv
 have HU := Lib.hid hu
 have HS := Lib.hid hs
 have HL := Lib.hid hl
 have HV3 := Lib.hid v3
 have HU3 := Lib.hid u3
 have Hlen := Lib.hid hlen
 have e1 : (f == f) = true := by simp
 have e2 : (c == c) = true := by simp
 have e3 : (k == k) = true := by simp
 clear hv hu hs hl hlen v3 u3 hZ v1 u1 v2 u2
 go_enter Tryd.func11, Tryd.ntmps11
 go_wp2_with fail
 try rw [hW]
 clear hW k0 k1 k2 k3 l0 l1 l2 l3
 go_loopw [5] (fun s5 wr => ∃ i : Nat, s5 = .int .i64 (i : Nat) ∧ i ≤ N ∧ Hid (Sm11 w wr f c k (.slice va N vc) (.slice ua N uc))) (fun s5 _ => N - (RowKit.intOf s5).toNat)
 case atStart => exact ⟨0, rfl, by omega, HZ⟩
 case round =>
   clear HZ
   obtain ⟨i, rfl, hi1, hI⟩ := hrel
   have k3 := hI.out.ba.cell 3 (by simp)
   by_cases hlt : i < N
   · have hlt' : (i : Int) < (N : Int) := by omega
     have hi0 : (0 : Int) ≤ (i : Int) := by omega
     obtain ⟨q, hq⟩ : ∃ q, rs[i]? = some q := ⟨_, List.getElem?_eq_getElem (by rw [hN.out]; exact hlt)⟩
     obtain ⟨r, hr⟩ : ∃ r, ms[i]? = some r := ⟨_, List.getElem?_eq_getElem (by rw [← Hlen.out, hN.out]; exact hlt)⟩
     have hqm := List.mem_of_getElem? hq
     have hrm := List.mem_of_getElem? hr
     obtain ⟨g, off, hga, hg, hcq⟩ := HV3.out.resolve_left (fun e => by rw [e] at hqm; simp at hqm)
     obtain ⟨g2, off2, hgb, hg2, hcr⟩ := HU3.out.resolve_left (fun e => by rw [e] at hrm; simp at hrm)
     subst hga hgb
     obtain ⟨x0, x1⟩ := hcq i q hq
     obtain ⟨y0, y1⟩ := hcr i r hr
     obtain ⟨iq, fq⟩ := HV.out.sub q hqm
     obtain ⟨ir, fr⟩ := HU.out.sub r hrm
     have hql := HL.out q hqm
     obtain ⟨hst, hsf⟩ := HS.out i q r hq hr
     obtain ⟨⟨ts, ls⟩, tv, av⟩ := q
     obtain ⟨⟨ts2, ls2⟩, tv2, av2⟩ := r
     try dsimp only at x0 x1 y0 y1 iq fq ir fr hql hst hsf
     subst hst
     have hfl := Lib.hid (fun W hW => floats11_any av av2 ls ls2 W (fq.later hW) (fr.later hW) hsf hql.2 : ∀ W, Below w.heap.size w W → _)
     have HIq := Lib.hid iq
     have HIr := Lib.hid ir
     obtain ⟨ta, tc, rfl, _⟩ := iq.form
     obtain ⟨ta2, tc2, rfl, _⟩ := ir.form
     obtain ⟨aa, ac, rfl, _⟩ := fq.form
     obtain ⟨aa2, ac2, rfl, _⟩ := fr.form
     obtain ⟨tl, htl⟩ : ∃ tl, Hid (ts.length = tl) := ⟨_, Lib.hid rfl⟩
     obtain ⟨al, hal⟩ : ∃ al, Hid (ls.length = al) := ⟨_, Lib.hid rfl⟩
     obtain ⟨al2, hal2⟩ : ∃ al, Hid (ls2.length = al) := ⟨_, Lib.hid rfl⟩
     rw [htl.out] at x0 y0 HIq HIr hql
     rw [hal.out] at x1 hfl
     rw [hal2.out] at y1 hfl
     have htl' : (tl : Int) ≤ 1000000 := by omega
     have HC : Hid (∀ W, Sm11 w W f c k (.slice (some ⟨g, off, none⟩) N vc) (.slice (some ⟨g2, off2, none⟩) N uc) → W.cell? ⟨w.heap.size, 3, none⟩ = some (.slice (some ⟨g, off, none⟩) N vc) ∧ W.cell? ⟨w.heap.size + 1, 3, none⟩ = some (.slice (some ⟨g2, off2, none⟩) N uc) ∧ W.cell? ⟨g, off + i * 2, none⟩ = some (.slice ta tl tc) ∧ W.cell? ⟨g2, off2 + i * 2, none⟩ = some (.slice ta2 tl tc2) ∧ W.cell? ⟨g, off + i * 2 + 1, none⟩ = some (.slice aa al ac) ∧ W.cell? ⟨g2, off2 + i * 2 + 1, none⟩ = some (.slice aa2 al2 ac2) ∧ Sm11 w W f c k (.slice (some ⟨g, off, none⟩) N vc) (.slice (some ⟨g2, off2, none⟩) N uc)) := Lib.hid (fun W hW => ⟨hW.ba.cell 3 (by simp), hW.bb.cell 3 (by simp), cell_later hW.bel hg x0, cell_later hW.bel hg2 y0, cell_later hW.bel hg x1, cell_later hW.bel hg2 y1, hW⟩)
     obtain ⟨W4, hW4⟩ : ∃ W4, wr.drew = W4 := ⟨_, rfl⟩
     have z4 : Sm11 w W4 f c k (.slice (some ⟨g, off, none⟩) N vc) (.slice (some ⟨g2, off2, none⟩) N uc) := by rw [← hW4]; exact hI.out.later (Below.refl _ _).drew
     have HF : Hid (∀ W, Sm11 w W f c k (.slice (some ⟨g, off, none⟩) N vc) (.slice (some ⟨g2, off2, none⟩) N uc) → Calls Tryd.prog 27 #[.slice aa al ac, .slice aa2 al2 ac2] W fun e w' => e = .returned (.bool true) ∧ Below W.heap.size W w') := Lib.hid (fun W hW => hfl.out W hW.bel)
     have hst := HC.out W4 z4
     clear hcq hcr hqm hrm hq hr x0 x1 y0 y1 iq ir fq fr hql hsf z4 hI hfl
     go_wp2_with fail
     clear k3
     go_region_held3 (fun W => W.cell? ⟨w.heap.size, 3, none⟩ = some (.slice (some ⟨g, off, none⟩) N vc) ∧ W.cell? ⟨w.heap.size + 1, 3, none⟩ = some (.slice (some ⟨g2, off2, none⟩) N uc) ∧ W.cell? ⟨g, off + i * 2, none⟩ = some (.slice ta tl tc) ∧ W.cell? ⟨g2, off2 + i * 2, none⟩ = some (.slice ta2 tl tc2) ∧ W.cell? ⟨g, off + i * 2 + 1, none⟩ = some (.slice aa al ac) ∧ W.cell? ⟨g2, off2 + i * 2 + 1, none⟩ = some (.slice aa2 al2 ac2) ∧ Sm11 w W f c k (.slice (some ⟨g, off, none⟩) N vc) (.slice (some ⟨g2, off2, none⟩) N uc))
       (first
         | assumption
         | (rw [hW4]; exact hst)
         | exact hst
         | exact HC.out _ (hst.2.2.2.2.2.2.later (by assumption)))
       (first | (go_at_call 27; refine (HF.out _ hst.2.2.2.2.2.2).mono ?_; rintro e W5 ⟨rfl, hb5⟩))
     have HZ5 := Lib.hid (hst.2.2.2.2.2.2.later hb5)
     clear hst hb5 HF hW4
     go_wp2_with fail
     go_loopw [6] (fun s6 wr => ∃ j : Nat, s6 = .int .i64 (j : Nat) ∧ j ≤ tl ∧ Hid (Sm11 w wr f c k (.slice (some ⟨g, off, none⟩) N vc) (.slice (some ⟨g2, off2, none⟩) N uc))) (fun s6 _ => tl - (RowKit.intOf s6).toNat)
     case atStart => exact ⟨0, rfl, by omega, HZ5⟩
     case round =>
       clear HZ5
       obtain ⟨j, rfl, hj1, hJ⟩ := hrel
       obtain ⟨p0, p1, p2, p3, _⟩ := HC.out _ hJ.out
       by_cases hjt : j < tl
       · have hjt' : (j : Int) < (tl : Int) := by omega
         have hj0 : (0 : Int) ≤ (j : Int) := by omega
         have hjl : j < ts.length := by rw [htl.out]; exact hjt
         obtain ⟨⟨a5, c5, e5, _, _, h5⟩, _⟩ := HIq.out
         obtain rfl : ta = a5 := by injection e5
         obtain ⟨⟨a6, c6, e6, _, _, h6⟩, _⟩ := HIr.out
         obtain rfl : ta2 = a6 := by injection e6
         obtain ⟨g5, o5, rfl, hc5⟩ := h5.resolve_left (fun e => by rw [e] at hjl; simp at hjl)
         obtain ⟨g6, o6, rfl, hc6⟩ := h6.resolve_left (fun e => by rw [e] at hjl; simp at hjl)
         obtain ⟨W7, hW7⟩ : ∃ W7, wr.drew = W7 := ⟨_, rfl⟩
         have z7 : Sm11 w W7 f c k (.slice (some ⟨g, off, none⟩) N vc) (.slice (some ⟨g2, off2, none⟩) N uc) := by rw [← hW7]; exact hJ.out.later (Below.refl _ _).drew
         have q4 := box_cell z7.bel (hc5 j hjl)
         have q5 := box_cell z7.bel (hc6 j hjl)
         have hs7 := HC.out W7 z7
         generalize ts.getD j 0 = nn at *
         have e7 : (nn == nn) = true := by simp
         have HZ7 := Lib.hid z7
         have hst : W7.cell? ⟨g5, o5 + j, none⟩ = some (.int .i64 nn) ∧ W7.cell? ⟨g6, o6 + j, none⟩ = some (.int .i64 nn) ∧ W7.cell? ⟨w.heap.size, 3, none⟩ = some (.slice (some ⟨g, off, none⟩) N vc) ∧ W7.cell? ⟨w.heap.size + 1, 3, none⟩ = some (.slice (some ⟨g2, off2, none⟩) N uc) ∧ W7.cell? ⟨g, off + i * 2, none⟩ = some (.slice (some ⟨g5, o5, none⟩) tl tc) ∧ W7.cell? ⟨g2, off2 + i * 2, none⟩ = some (.slice (some ⟨g6, o6, none⟩) tl tc2) ∧ W7.cell? ⟨g, off + i * 2 + 1, none⟩ = some (.slice aa al ac) ∧ W7.cell? ⟨g2, off2 + i * 2 + 1, none⟩ = some (.slice aa2 al2 ac2) ∧ Sm11 w W7 f c k (.slice (some ⟨g, off, none⟩) N vc) (.slice (some ⟨g2, off2, none⟩) N uc) := ⟨q4, q5, hs7⟩
         clear hc5 hc6 hjl h5 h6 z7 q4 q5 hs7 e5 e6
         go_wp2_with fail
         clear p0 p1 p2 p3
         go_region_held3 (fun W => W.cell? ⟨g5, o5 + j, none⟩ = some (.int .i64 nn) ∧ W.cell? ⟨g6, o6 + j, none⟩ = some (.int .i64 nn) ∧ W.cell? ⟨w.heap.size, 3, none⟩ = some (.slice (some ⟨g, off, none⟩) N vc) ∧ W.cell? ⟨w.heap.size + 1, 3, none⟩ = some (.slice (some ⟨g2, off2, none⟩) N uc) ∧ W.cell? ⟨g, off + i * 2, none⟩ = some (.slice (some ⟨g5, o5, none⟩) tl tc) ∧ W.cell? ⟨g2, off2 + i * 2, none⟩ = some (.slice (some ⟨g6, o6, none⟩) tl tc2) ∧ W.cell? ⟨g, off + i * 2 + 1, none⟩ = some (.slice aa al ac) ∧ W.cell? ⟨g2, off2 + i * 2 + 1, none⟩ = some (.slice aa2 al2 ac2) ∧ Sm11 w W f c k (.slice (some ⟨g, off, none⟩) N vc) (.slice (some ⟨g2, off2, none⟩) N uc))
           (first
             | assumption
             | (rw [hW7]; exact hst)
             | exact hst)
           (fail)
         go_wp2
         exact ⟨⟨j + 1, by go_num, by omega, HZ7⟩, by simp [RowKit.intOf]; omega⟩
       · obtain rfl : tl = j := by omega
         go_wp2
         exact ⟨⟨i + 1, by go_num, by omega, hJ⟩, by simp [RowKit.intOf]; omega⟩
   · obtain rfl : N = i := by omega
     go_wp2
     go_ret
     exact ⟨rfl, hI.out.bel⟩
end Go.Proofs.YtgoadpnoagaflaaDoor
