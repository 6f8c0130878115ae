/- Own texts, put together: Egi Efw Egj. -/
import Derived.Test.YtgoadpnoagaflaaGreatDoorQ39
import Derived.Test.YtgoadpnoagaflaaGreatDoorQ42
import Derived.Test.YtgoadpnoagaflaaGreatDoorQ44
import Derived.Test.YtgoadpnoagaflaaGreatDoorQ45
import Derived.Test.YtgoadpnoagaflaaGreatDoorQ46
import Derived.Test.YtgoadpnoagaflaaGreatDoorQ47
namespace Go.Proofs.YtgoadpnoagaflaaGreatDoor
/- The laws of layer 11: what is written again is the same; Read, its answers by name. -/
section
set_option maxRecDepth 100000
open Go.RowKit Go.Shelf Go.Lib
theorem cz_lt {x : Nat} (h : x < 18446744073709551616) : cz x < 18446744073709551616 := by unfold cz; split <;> omega
theorem tx_cz {p : Pm} (hp : p.Ok) {x : Nat} (hx : Fin64 x) (lx : x < 18446744073709551616) : p.tx (cz x) = p.tx x := ((hp.tx (cz x) (cz_lt lx)).same (hp.tx x lx) (cz_fin hx)).2 ⟨hx, cz_val x⟩
theorem amiss_crw {c k : Int} {r : Rw} (h : amissE c k r = false) : amissE c k (crw r) = false := by
 obtain ⟨h1, h2, h3, h4⟩ := amissE_no.1 h
 refine amissE_no.2 ⟨h1, h2, by simpa [crw] using h3, fun x hx => ?_⟩
 obtain ⟨y, hy, rfl⟩ := List.mem_map.1 (show x ∈ r.a.map cz from hx)
 exact fin_endl (cz_fin (endl_fin (h4 y hy)))
theorem rwsW_again {p : Pm} (hp : p.Ok) {c k f : Int} : ∀ (l : List Rw) (i : Nat), (∀ r ∈ l, amissE c k r = false ∧ ∀ x ∈ r.a, x < 18446744073709551616) → rwsW p f i (l.map crw) = rwsW p f i l := by
 intro l
 induction l with
 | nil => intro i _; rfl
 | cons a r ih =>
   intro i h
   rw [List.map_cons, rwsW, rwsW, ih (i + 1) (fun q hq => h q (by simp [hq]))]
   congr 1
   obtain ⟨h1, h2⟩ := h a (by simp)
   unfold rwW crw
   simp only [List.map_map]
   congr 2
   exact List.map_congr_left fun x hx => tx_cz hp (endl_fin ((amissE_no.1 h1).2.2.2 x hx)) (h2 x hx)
theorem wrE_again {p : Pm} (hp : p.Ok) {f : Fe} (hw : ∀ r ∈ f.l, ∀ x ∈ r.a, x < 18446744073709551616) (h : (wrE p f).2 = 0) : wrE p ⟨if f.l.length = 0 then 0 else f.f, f.c, f.k, f.l.map crw⟩ = wrE p f := by
 obtain ⟨h0, h1, h2, h3⟩ := wrE_zero h
 have hg := wrE_good h
 have e1 : feW p ⟨if f.l.length = 0 then 0 else f.f, f.c, f.k, f.l.map crw⟩ = feW p f := by
   unfold feW
   simp only [List.length_map]
   congr 1
   rw [rwsW_again hp f.l 0 (fun r hr => ⟨hg r hr, hw r hr⟩)]
   by_cases h0 : f.l.length = 0
   · have : f.l = [] := List.length_eq_zero_iff.1 h0
     rw [this]; rfl
   · rw [if_neg h0]
 have e2 : mayE ⟨if f.l.length = 0 then 0 else f.f, f.c, f.k, f.l.map crw⟩ = true := by
   obtain ⟨F, c, k, g1, g2, g3, hF, hc, hk, hl, ha⟩ := mayE_parts h0
   unfold mayE
   simp only [Bool.and_eq_true, Bool.or_eq_true, decide_eq_true_eq, Bool.not_eq_true', List.any_eq_false, List.length_map]
   refine ⟨⟨⟨⟨⟨?_, by omega⟩, by omega⟩, by omega⟩, by omega⟩, fun q hq => ?_⟩
   · split
     · exact Or.inl rfl
     · omega
   · obtain ⟨r, hr, rfl⟩ := List.mem_map.1 hq
     rw [amiss_crw (hg r hr)]; simp
 unfold wrE
 rw [if_pos e2, if_pos h0, e1]
theorem reV_first {p : Pm} {t : Bs} (h : (reV p t).2.2 = 0) : (if (reV p t).1.l.length = 0 then 0 else (reV p t).1.f) = (reV p t).1.f := by
 obtain ⟨no, ws, r, n, c, k, rs, hL, hn, hk, hc, hG, hr, hf⟩ := reV_parts h
 rw [hf]
 simp only []
 split
 · rename_i h0
   have := goE_len hG
   have hr0 : r = [] := List.length_eq_zero_iff.1 (by omega)
   rw [hr0]; rfl
 · rfl
theorem readT11 {p : Pm} (hp : p.Ok) (t : Bs) (w : World) (hl : t.length ≤ 9223372036854775807) (hT : T8 w) (fi ci ki : Int) (l : List Rw) (at' : Nat) (er : Int) (hr : reV p t = (⟨fi, ci, ki, l⟩, at', er)) :
   Calls Tryz.prog 8 #[sv t] w fun e w' => ∃ a c rs, e = .returned (.tuple #[.agg #[.int .i64 fi, .int .i64 ci, .int .i64 ki, .slice a rs.length c], .int .i64 (at' : Nat), .int .i64 er]) ∧ Er w' w.heap.size (.slice a rs.length c) rs ∧ rs.map (·.1) = l ∧ Below w.heap.size w w' := by
 refine (readE_any hp ⟨t.toArray⟩ t w (by simp) hl hT.1).mono ?_
 rintro e w' ⟨hb, a, c, rs, f', c', k', rfl, hF, hE⟩
 rw [hr] at hF ⊢
 have e1 : fi = ((f' : Nat) : Int) := congrArg Fe.f hF
 have e2 : ci = ((c' : Nat) : Int) := congrArg Fe.c hF
 have e3 : ki = ((k' : Nat) : Int) := congrArg Fe.k hF
 have e4 : l = rs.map (·.1) := congrArg Fe.l hF
 exact ⟨a, c, rs, by rw [e1, e2, e3], hE, e4.symm, hb⟩
def Rok (r : Rw) : Prop := (∀ n ∈ r.t, InR n) ∧ ∀ x ∈ r.a, x < 18446744073709551616
theorem Rok.crw {r : Rw} (h : Rok r) : Rok (crw r) := ⟨h.1, fun x hx => by
 obtain ⟨y, hy, rfl⟩ := List.mem_map.1 (show x ∈ r.a.map cz from hx)
 exact cz_lt (h.2 y hy)⟩
theorem Rv.rok {W : World} {v : Value} {rs : List Rt} (h : Rv W v rs) : ∀ r ∈ rs.map (·.1), Rok r := fun r hr => by
 obtain ⟨q, hq, rfl⟩ := List.mem_map.1 hr
 exact ⟨(h.sub q hq).1.rng, (h.sub q hq).2.word⟩
theorem rok_of {rs : List Rt} {l : List Rw} (h : rs.map (·.1) = l) (hl : ∀ r ∈ l, Rok r) : ∀ q ∈ rs, (∀ n ∈ q.1.t, InR n) ∧ ∀ x ∈ q.1.a, x < 18446744073709551616 := fun q hq => hl q.1 (by rw [← h]; exact List.mem_map.2 ⟨q, hq, rfl⟩)
theorem sz_of {rs : List Rt} {l : List Rw} {B : Nat} (h : rs.map (·.1) = l) (hl : ∀ r ∈ l, r.t.length ≤ B ∧ r.a.length ≤ B) : ∀ q ∈ rs, q.1.t.length ≤ B ∧ q.1.a.length ≤ B := fun q hq => hl q.1 (by rw [← h]; exact List.mem_map.2 ⟨q, hq, rfl⟩)
theorem len_of {rs : List Rt} {l : List Rw} (h : rs.map (·.1) = l) : rs.length = l.length := by rw [← h]; simp
end

/- The first example of chapter 11: read and written: works. -/
section
set_option maxRecDepth 100000
open Go.RowKit Go.Shelf Go.Lib
theorem readXE {p : Pm} (hp : p.Ok) (w : World) (hT : Tab w) : Calls Tryz.prog 8 #[.string ⟨exE.toArray⟩] w fun e w' => ∃ a c q0 q1, e = .returned (.tuple #[.agg #[.int .i64 1, .int .i64 3, .int .i64 1, .slice a 2 c], .int .i64 0, .int .i64 0]) ∧ Rv w' (.slice a 2 c) [q0, q1] ∧ q0.1 = ⟨[0, 1, 2], [4602678819172646912]⟩ ∧ q1.1 = ⟨[1, 3, 2], [13830554455654793216]⟩ ∧ Below w.heap.size w w' := by
 refine (readE_any hp ⟨exE.toArray⟩ exE w (by simp) (by decide) hT).mono ?_
 rintro e w' ⟨hb, a, c, rs, f', c', k', rfl, hF, hE⟩
 rw [exE_re hp] at hF ⊢
 have e1 : (1 : Int) = ((f' : Nat) : Int) := congrArg Fe.f hF
 have e2 : (3 : Int) = ((c' : Nat) : Int) := congrArg Fe.c hF
 have e3 : (1 : Int) = ((k' : Nat) : Int) := congrArg Fe.k hF
 have e4 : feX.l = rs.map (·.1) := congrArg Fe.l hF
 rcases rs with _ | ⟨q0, _ | ⟨q1, _ | ⟨q2, r⟩⟩⟩ <;> simp at e4
 obtain ⟨d0, d1⟩ := e4
 refine ⟨a, c, q0, q1, by rw [← e1, ← e2, ← e3]; rfl, hE.rv (fun q hq => ?_), d0.symm, d1.symm, hb⟩
 rcases List.mem_cons.1 hq with rfl | hq
 · rw [← d0]
   refine ⟨fun n hn => ?_, fun x hx => ?_⟩
   · have : 0 ≤ n ∧ n ≤ 2 := by simp at hn; omega
     exact ⟨by omega, by omega⟩
   · rw [List.mem_singleton.1 hx]; decide
 · rw [List.mem_singleton.1 hq, ← d1]
   refine ⟨fun n hn => ?_, fun x hx => ?_⟩
   · have : 0 ≤ n ∧ n ≤ 3 := by simp at hn; omega
     exact ⟨by omega, by omega⟩
   · rw [List.mem_singleton.1 hx]; decide
set_option maxHeartbeats 8000000 in
theorem works11 (w : World) (hT : T8 w) : Calls Tryz.prog 4 #[] w fun e w' => e = .returned (.bool true) ∧ Below w.heap.size w w' := by
 obtain ⟨p, hp⟩ := pm_ex
 have HP := Lib.hid hp
 have HT := Lib.hid hT
 have HA := Lib.hid (readXE hp w hT.1)
 clear hp hT
 go_enter Tryz.func4, Tryz.ntmps4
 go_wp2_with fail
 refine HA.out.mono ?_
 rintro e W1 ⟨a, c, q0, q1, rfl, hR, d0, d1, hb1⟩
 obtain ⟨W2, hW2⟩ : ∃ W2, Hid (W1.alloc (.cells #[.int .i64 1, .int .i64 3, .int .i64 1, .slice a 2 c] 32) = W2) := ⟨_, Lib.hid rfl⟩
 have hb2 : Below W1.heap.size W1 W2 := by rw [← hW2.out]; exact (Below.refl _ _).alloc (Nat.le_refl _) _
 have hb02 : Below w.heap.size w W2 := hb1.trans (hb2.mono hb1.size)
 have cf : CB W2 W1.heap.size #[.int .i64 1, .int .i64 3, .int .i64 1, .slice a 2 c] 32 := by rw [← hW2.out]; exact CB.new _ _ _
 have hR2 := hR.later hb2
 have HWr : Hid (Calls Tryz.prog 6 #[.agg #[.int .i64 1, .int .i64 3, .int .i64 1, .slice a 2 c]] W2 fun e w' => e = .returned (.tuple #[.string ⟨exE.toArray⟩, .int .i64 0]) ∧ Below W2.heap.size W2 w') := Lib.hid (by
   have := writeE_any HP.out 1 3 1 _ [q0, q1] W2 hR2 (by simp) (HT.out.later hb02)
   rw [show ([q0, q1].map (·.1) : List Rw) = feX.l by simp [d0, d1], exE_wr HP.out] at this
   exact this)
 obtain ⟨⟨a', c', e', h2, h3, hm⟩, hsub⟩ := hR2
 cases e'
 obtain ⟨g, off, rfl, hg, hcell⟩ := hm.resolve_left (by simp)
 obtain ⟨x0, x1⟩ := hcell 1 q1 rfl
 obtain ⟨hi, hf⟩ := hsub q1 (by simp)
 obtain ⟨d, tv, av⟩ := q1
 try dsimp only at d1 x0 x1 hi hf
 subst d1
 obtain ⟨⟨ta, tc, rfl, ht2, ht3, htm⟩, _⟩ := hi
 obtain ⟨⟨fa, fc, rfl, hf2, hf3, hfm⟩, _⟩ := hf
 obtain ⟨gt, ot, rfl, hct⟩ := htm.resolve_left (by simp)
 obtain ⟨gf, og, rfl, hcf⟩ := hfm.resolve_left (by simp)
 have y1 := hct 1 (by simp)
 have y2 := hcf 0 (by simp)
 try simp only [List.getD_cons_succ, List.getD_cons_zero, Nat.add_zero, Nat.one_mul, List.length_cons, List.length_nil, Nat.zero_add, Nat.reduceAdd] at x0 x1 y1 y2
 obtain ⟨k0, k1, k2, k3⟩ := cf.cells4E
 have H02 := Lib.hid hb02
 clear hR hb1 hb2 hb02 cf hm hcell hsub htm hfm hct hcf HA d0
 rw [← hW2.out] at HWr H02 x0 x1 y1 y2 k0 k1 k2 k3
 go_wp2_with fail
 refine HWr.out.mono ?_
 rintro e W3 ⟨rfl, hb3⟩
 have HB := Lib.hid (H02.out.trans (hb3.mono H02.out.size))
 clear hb3 HWr
 go_wp2
 go_ret
 exact ⟨rfl, HB.out⟩
end

/- The law ElefileBack. (gen_egj.py) -/
section
set_option maxRecDepth 100000
open Go.RowKit Go.Shelf Go.Lib
attribute [local go_sem] run_store_float
theorem keep8E {w W W' : World} {b1 b2 : Nat} {u0 u1 u2 u3 v0 v1 v2 v3 : Value} (h : W.cell? ⟨b1, 0, none⟩ = some u0 ∧ W.cell? ⟨b1, 1, none⟩ = some u1 ∧ W.cell? ⟨b1, 2, none⟩ = some u2 ∧ W.cell? ⟨b1, 3, none⟩ = some u3 ∧ W.cell? ⟨b2, 0, none⟩ = some v0 ∧ W.cell? ⟨b2, 1, none⟩ = some v1 ∧ W.cell? ⟨b2, 2, none⟩ = some v2 ∧ W.cell? ⟨b2, 3, none⟩ = some v3 ∧ Below w.heap.size w W) (hb : Below W.heap.size W W') :
   W'.cell? ⟨b1, 0, none⟩ = some u0 ∧ W'.cell? ⟨b1, 1, none⟩ = some u1 ∧ W'.cell? ⟨b1, 2, none⟩ = some u2 ∧ W'.cell? ⟨b1, 3, none⟩ = some u3 ∧ W'.cell? ⟨b2, 0, none⟩ = some v0 ∧ W'.cell? ⟨b2, 1, none⟩ = some v1 ∧ W'.cell? ⟨b2, 2, none⟩ = some v2 ∧ W'.cell? ⟨b2, 3, none⟩ = some v3 ∧ Below w.heap.size w W' := by
 obtain ⟨h0, h1, h2, h3, h4, h5, h6, h7, h8⟩ := h
 have l1 := World.block_lt_of_cell? _ _ h0
 have l2 := World.block_lt_of_cell? _ _ h4
 exact ⟨cell_later hb l1 h0, cell_later hb l1 h1, cell_later hb l1 h2, cell_later hb l1 h3, cell_later hb l2 h4, cell_later hb l2 h5, cell_later hb l2 h6, cell_later hb l2 h7, h8.trans (hb.mono h8.size)⟩
theorem keep8E_bel {w W : World} {b1 b2 : Nat} {u0 u1 u2 u3 v0 v1 v2 v3 : Value} (h : W.cell? ⟨b1, 0, none⟩ = some u0 ∧ W.cell? ⟨b1, 1, none⟩ = some u1 ∧ W.cell? ⟨b1, 2, none⟩ = some u2 ∧ W.cell? ⟨b1, 3, none⟩ = some u3 ∧ W.cell? ⟨b2, 0, none⟩ = some v0 ∧ W.cell? ⟨b2, 1, none⟩ = some v1 ∧ W.cell? ⟨b2, 2, none⟩ = some v2 ∧ W.cell? ⟨b2, 3, none⟩ = some v3 ∧ Below w.heap.size w W) : Below w.heap.size w W := h.2.2.2.2.2.2.2.2
set_option maxHeartbeats 32000000 in
theorem back11_law (f c k : Int) (v : Value) (rs : List Rt) (t : Bs) (w : World) (hv : Rv w v rs) (hl : ∀ q ∈ rs, q.1.t.length ≤ 140737488355328 ∧ q.1.a.length ≤ 140737488355328) (hn : rs.length ≤ 140737488355328) (ht : t.length ≤ 9223372036854775807) (hT : T8 w) :
   Calls Tryz.prog 3 #[.agg #[.int .i64 f, .int .i64 c, .int .i64 k, v], sv t] w fun e w' => e = .returned (.bool true) ∧ Below w.heap.size w w' := by
 obtain ⟨p, hp⟩ := pm_ex
 have HP := Lib.hid hp
 obtain ⟨va, vc, rfl, _, _, _⟩ := hv.form
 obtain ⟨N, hN⟩ : ∃ N, Hid (rs.length = N) := ⟨_, Lib.hid rfl⟩
 have hv' := hv
 rw [hN.out] at hv' hn ⊢
 obtain ⟨W1, hW1⟩ : ∃ W1, w.alloc (.cells #[.int .i64 f, .int .i64 c, .int .i64 k, .slice va N vc] 24) = W1 := ⟨_, rfl⟩
 have b1 : Below w.heap.size w W1 := by rw [← hW1]; exact bAlE _ _
 have c1 : CB W1 w.heap.size #[.int .i64 f, .int .i64 c, .int .i64 k, .slice va N vc] 24 := by rw [← hW1]; exact CB.new w _ _
 have H1 : Hid (CB W1 w.heap.size #[.int .i64 f, .int .i64 c, .int .i64 k, .slice va N vc] 24 ∧ Below w.heap.size w W1) := Lib.hid ⟨c1, b1⟩
 have HV : Hid (∀ W, Below w.heap.size w W → Rv W (.slice va N vc) rs ∧ T8 W) := Lib.hid fun W hW => ⟨hv'.later hW, hT.later hW⟩
 have HRk := Lib.hid hv.rok
 have HL := Lib.hid hl
 have HWk : Hid (∀ W, Below w.heap.size w W → Calls Tryz.prog 4 #[] W fun e w' => e = .returned (.bool true) ∧ Below W.heap.size W w') := Lib.hid fun W hW => works11 W (hT.later hW)
 have hsz : (⟨t.toArray⟩ : ByteArray).size = t.length := by rw [Lib.size_eq]
 have hN' : (N : Int) ≤ 140737488355328 := by omega
 clear hp hv hv' hl hT b1 c1
 go_enter Tryz.func3, Tryz.ntmps3
 go_wp2_with fail
 try rw [hW1]
 clear hW1
 refine (HWk.out _ H1.out.2).mono ?_
 rintro e W2 ⟨rfl, hb2⟩
 have H2 : Hid (CB W2 w.heap.size #[.int .i64 f, .int .i64 c, .int .i64 k, .slice va N vc] 24 ∧ Below w.heap.size w W2) := Lib.hid ⟨H1.out.1.later hb2, H1.out.2.trans (hb2.mono H1.out.2.size)⟩
 obtain ⟨k0, k1, k2, k3⟩ := H2.out.1.cells4E
 have HLg := Lib.hid (large11_any f c k (.slice va N vc) rs W2 (HV.out W2 H2.out.2).1 HL.out (by rw [hN.out]; exact hn))
 clear hb2 H1
 go_wp2_with fail
 refine HLg.out.mono ?_
 rintro e W3 ⟨⟨b, rfl, hb⟩, hb3⟩
 have H3 : Hid (CB W3 w.heap.size #[.int .i64 f, .int .i64 c, .int .i64 k, .slice va N vc] 24 ∧ Below w.heap.size w W3) := Lib.hid ⟨H2.out.1.later hb3, H2.out.2.trans (hb3.mono H2.out.2.size)⟩
 have HBd := Lib.hid hb
 clear hb hb3 H2 HLg k0 k1 k2 k3
 have HWk3 := Lib.hid (HWk.out _ H3.out.2)
 cases b
 rotate_left
 · go_wp2_with (go_at_call 4; refine HWk3.out.mono ?_; rintro e W4 ⟨rfl, hb4⟩; have HB4 := Lib.hid (H3.out.2.trans (hb4.mono H3.out.2.size)); clear hb4)
   go_ret
   exact ⟨rfl, HB4.out⟩
 by_cases hlt : 20000 < (t.length : Int)
 · go_wp2_with (go_at_call 4; refine HWk3.out.mono ?_; rintro e W4 ⟨rfl, hb4⟩; have HB4 := Lib.hid (H3.out.2.trans (hb4.mono H3.out.2.size)); clear hb4)
   go_ret
   exact ⟨rfl, HB4.out⟩
 clear HWk3 HWk
 obtain ⟨hbd1, hbd2⟩ := HBd.out (by first | rfl | trivial)
 have HSz : Hid (∀ r ∈ rs.map (·.1), r.t.length ≤ 1000000 ∧ r.a.length ≤ 1000000) := Lib.hid (fun r hr => by
   obtain ⟨q, hq, rfl⟩ := List.mem_map.1 hr
   have := hbd2 q hq
   omega)
 have HTo := Lib.hid (to11_any f c k (.slice va N vc) rs W3 (HV.out W3 H3.out.2).1 (by omega) (fun q hq => by have := hbd2 q hq; omega))
 have hN3 : N ≤ 3000 := by rw [← hN.out]; exact hbd1
 obtain ⟨k0, k1, k2, k3⟩ := H3.out.1.cells4E
 clear hbd1 hbd2 HBd
 go_wp2_with fail
 refine HTo.out.mono ?_
 rintro e W4 ⟨ta, tcap, ts', rfl, hEo, hmap, hb4⟩
 have H4 : Hid (CB W4 w.heap.size #[.int .i64 f, .int .i64 c, .int .i64 k, .slice va N vc] 24 ∧ Below w.heap.size w W4) := Lib.hid ⟨H3.out.1.later hb4, H3.out.2.trans (hb4.mono H3.out.2.size)⟩
 obtain ⟨l, hl⟩ : ∃ l, Hid (rs.map (·.1) = l) := ⟨_, Lib.hid rfl⟩
 rw [hl.out] at hmap HRk HSz
 have HLl : Hid (l.length = N) := Lib.hid (by rw [← hl.out, ← hN.out]; simp)
 have HWr : Hid (Calls Tryz.prog 6 #[.agg #[.int .i64 f, .int .i64 c, .int .i64 k, .slice ta ts'.length tcap]] W4 fun e w' => e = .returned (.tuple #[sv (wrE p ⟨f, c, k, l⟩).1, .int .i64 (wrE p ⟨f, c, k, l⟩).2]) ∧ Below W4.heap.size W4 w') := Lib.hid (by
   have := writeE_any HP.out f c k _ ts' W4 (hEo.rv (rok_of hmap HRk.out)) (by rw [len_of hmap, HLl.out]; omega) (HV.out W4 H4.out.2).2
   rwa [hmap] at this)
 obtain ⟨er, her⟩ : ∃ er, Hid ((wrE p ⟨f, c, k, l⟩).2 = er) := ⟨_, Lib.hid rfl⟩
 obtain ⟨s, hs⟩ : ∃ s, Hid ((wrE p ⟨f, c, k, l⟩).1 = s) := ⟨_, Lib.hid rfl⟩
 rw [her.out, hs.out] at HWr
 generalize ts'.length = tn at *
 clear hEo hmap hb4 HTo H3 k0 k1 k2 k3
 go_wp2_with fail
 refine HWr.out.mono ?_
 rintro e W5 ⟨rfl, hb5⟩
 have H5 : Hid (CB W5 w.heap.size #[.int .i64 f, .int .i64 c, .int .i64 k, .slice va N vc] 24 ∧ Below w.heap.size w W5) := Lib.hid ⟨H4.out.1.later hb5, H4.out.2.trans (hb5.mono H4.out.2.size)⟩
 clear hb5 HWr H4
 have HVr : Hid (∀ W, Below w.heap.size w W → Rv W (.slice va N vc) rs) := Lib.hid fun W hW => (HV.out W hW).1
 have HT8 : Hid (∀ W, Below w.heap.size w W → T8 W) := Lib.hid fun W hW => (HV.out W hW).2
 clear HV
 by_cases h0 : er = 0
 rotate_left
 focus
   have h0' : (er == 0) = false := by simpa using h0
   have HC : Hid (Below w.heap.size w W5) := Lib.hid H5.out.2
   clear h0
   go_wp2_with fail
 rotate_left
 focus
   subst h0
   have HRb := Lib.hid (wrE_back HP.out (f := ⟨f, c, k, l⟩) (fun r hr => (HRk.out r hr).2) her.out)
   rw [hs.out] at HRb
   have hsl := wrE_len her.out
   rw [hs.out] at hsl
   have HGd := Lib.hid (wrE_good her.out)
   obtain ⟨k0, k1, k2, k3⟩ := H5.out.1.cells4E
   have u0 := H5.out.1.frozen 0
   obtain ⟨F0, hF0⟩ : ∃ F0 : Int, Hid ((if l.length = 0 then 0 else f) = F0) := ⟨_, Lib.hid rfl⟩
   try dsimp only at HRb
   rw [hF0.out] at HRb
   by_cases hz : N = 0
   focus
     subst hz
     obtain rfl : F0 = 0 := by rw [← hF0.out, if_pos HLl.out]
     have H6 : Hid (CB (W5.setCell ⟨w.heap.size, 0, none⟩ (.int .i64 0)) w.heap.size #[.int .i64 0, .int .i64 c, .int .i64 k, .slice va 0 vc] 24 ∧ Below w.heap.size w (W5.setCell ⟨w.heap.size, 0, none⟩ (.int .i64 0))) := Lib.hid ⟨by have := H5.out.1.set 0 (.int .i64 0); simpa using this, H5.out.2.setCell (Nat.le_refl _) _⟩
     go_wp2_with fail
     generalize W5.setCell ⟨w.heap.size, 0, none⟩ (.int .i64 0) = Wx at *
   rotate_left
   focus
     have hz1 : ¬ ((N : Int) = 0) := by omega
     have hz2 : ((N : Int) == 0) = false := by simpa using hz1
     obtain rfl : f = F0 := by rw [← hF0.out, if_neg (by rw [HLl.out]; exact hz)]
     have H6 : Hid (CB W5 w.heap.size #[.int .i64 f, .int .i64 c, .int .i64 k, .slice va N vc] 24 ∧ Below w.heap.size w W5) := H5
     clear hz
     go_wp2_with fail
   rotate_left
   focus
     refine (readT11 HP.out s _ (by omega) (HT8.out _ H6.out.2) _ _ _ _ _ _ HRb.out).mono ?_
     rintro e W6 ⟨a6, c6, ms, rfl, hmr, hmm, hb6⟩
     obtain ⟨W8, hW8⟩ : ∃ W8, (W6.alloc (.cells #[.int .i64 0, .int .i64 c, .int .i64 k, .slice a6 ms.length c6] 32)).drew = W8 := ⟨_, rfl⟩
     have b68 : Below W6.heap.size W6 W8 := by rw [← hW8]; exact ((Below.refl _ _).alloc (Nat.le_refl _) _).drew
     have cg : CB W8 W6.heap.size #[.int .i64 0, .int .i64 c, .int .i64 k, .slice a6 ms.length c6] 32 := by rw [← hW8]; exact (CB.new _ _ _).drew
     have bw6 := H6.out.2.trans (hb6.mono H6.out.2.size)
     have bw8 := bw6.trans (b68.mono bw6.size)
     have cf := (H6.out.1.later hb6).later b68
     obtain ⟨j0, j1, j2, j3⟩ := cg.cells4E
     obtain ⟨i0, i1, i2, i3⟩ := cf.cells4E
     have hst : W8.cell? ⟨W6.heap.size, 0, none⟩ = some (.int .i64 0) ∧ W8.cell? ⟨W6.heap.size, 1, none⟩ = some (.int .i64 c) ∧ W8.cell? ⟨W6.heap.size, 2, none⟩ = some (.int .i64 k) ∧ W8.cell? ⟨W6.heap.size, 3, none⟩ = some (.slice a6 ms.length c6) ∧ W8.cell? ⟨w.heap.size, 0, none⟩ = some (.int .i64 0) ∧ W8.cell? ⟨w.heap.size, 1, none⟩ = some (.int .i64 c) ∧ W8.cell? ⟨w.heap.size, 2, none⟩ = some (.int .i64 k) ∧ W8.cell? ⟨w.heap.size, 3, none⟩ = some (.slice va 0 vc) ∧ Below w.heap.size w W8 := ⟨j0, j1, j2, j3, i0, i1, i2, i3, bw8⟩
     have HMl : Hid (ms.length = 0) := Lib.hid (by rw [len_of hmm]; simp [HLl.out])
     have HOf : Hid (Calls Tryz.prog 10 #[.agg #[.int .i64 0, .int .i64 c, .int .i64 k, .slice a6 ms.length c6]] W8 fun e w' => ∃ a cap, ∃ rs' : List Rt, e = .returned (.agg #[.int .i64 0, .int .i64 c, .int .i64 k, .slice a 0 cap]) ∧ (∀ W', Below w'.heap.size w' W' → Below w.heap.size w W' → Calls Tryz.prog 9 #[.agg #[.int .i64 0, .int .i64 c, .int .i64 k, .slice a 0 cap], .agg #[.int .i64 0, .int .i64 c, .int .i64 k, .slice va 0 vc]] W' fun e w2 => e = .returned (.bool true) ∧ Below W'.heap.size W' w2) ∧ rs'.length = 0 ∧ Below W8.heap.size W8 w') := Lib.hid (by
       have hok : ∀ r ∈ l.map crw, Rok r := fun r hr => by
         obtain ⟨y, hy, rfl⟩ := List.mem_map.1 hr
         exact (HRk.out y hy).crw
       have hsz' : ∀ r ∈ l.map crw, r.t.length ≤ 1000000 ∧ r.a.length ≤ 1000000 := fun r hr => by
         obtain ⟨y, hy, rfl⟩ := List.mem_map.1 hr
         have := HSz.out y hy
         exact ⟨this.1, by show (y.a.map cz).length ≤ _; rw [List.length_map]; exact this.2⟩
       have hrv := (hmr.later b68).rv (rok_of hmm hok)
       refine (of11_any 0 c k _ ms W8 hrv (by rw [HMl.out]; omega) (sz_of hmm hsz')).mono ?_
       rintro e w' ⟨a, cap, rs', rfl, hE, hm, hb⟩
       have hm' : rs'.map (·.1) = l.map crw := hm.trans hmm
       have hl' : rs'.length = 0 := by rw [len_of hm']; simp [HLl.out]
       refine ⟨a, cap, rs', by rw [hl'], fun W' hW' hbw => ?_, hl', hb⟩
       have hr' := (hE.rv (rok_of hm' hok)).later hW'
       obtain ⟨s1, s2⟩ := sameE_list (rs := rs) (c := c) (k := k) (hm'.trans (by rw [hl.out])) (fun q hq => HGd.out q.1 (by show q.1 ∈ l; rw [← hl.out]; exact List.mem_map.2 ⟨q, hq, rfl⟩))
       have := same11_any 0 c k _ _ rs' rs W' hr' (HVr.out W' hbw) s1 s2 (by omega) (sz_of hm' hsz')
       rw [hl'] at this
       exact this)
     rw [HMl.out] at HOf hst hW8 ⊢
     clear hmr hmm hb6 b68 cg bw6 bw8 cf j0 j1 j2 j3 i0 i1 i2 i3 k0 k1 k2 k3 u0
     go_wp2_with fail
     go_region_held3 (fun W => W.cell? ⟨W6.heap.size, 0, none⟩ = some (.int .i64 0) ∧ W.cell? ⟨W6.heap.size, 1, none⟩ = some (.int .i64 c) ∧ W.cell? ⟨W6.heap.size, 2, none⟩ = some (.int .i64 k) ∧ W.cell? ⟨W6.heap.size, 3, none⟩ = some (.slice a6 0 c6) ∧ W.cell? ⟨w.heap.size, 0, none⟩ = some (.int .i64 0) ∧ W.cell? ⟨w.heap.size, 1, none⟩ = some (.int .i64 c) ∧ W.cell? ⟨w.heap.size, 2, none⟩ = some (.int .i64 k) ∧ W.cell? ⟨w.heap.size, 3, none⟩ = some (.slice va 0 vc) ∧ Below w.heap.size w W)
       (first
         | assumption
         | (rw [hW8]; exact hst)
         | exact hst
         | exact keep8E hst (by assumption)
         | exact keep8E (by assumption) (by assumption))
       (first
         | (go_at_call 10; refine HOf.out.mono ?_; rintro e Va ⟨a9, cap9, rs9, rfl, hSm, _, hva⟩)
         | (go_at_call 9; refine (hSm _ (Below.refl _ _) (keep8E_bel (by assumption))).mono ?_; rintro e Vb ⟨rfl, hvb⟩))
     have HC : Hid (Below w.heap.size w Vb) := Lib.hid (by
       have h1 := (keep8E hst hva).2.2.2.2.2.2.2.2
       exact h1.trans (hvb.mono h1.size))
     clear hva hvb hst hSm HOf hW8
     go_wp2_with fail
   rotate_left
   focus
     refine (readT11 HP.out s _ (by omega) (HT8.out _ H6.out.2) _ _ _ _ _ _ HRb.out).mono ?_
     rintro e W6 ⟨a6, c6, ms, rfl, hmr, hmm, hb6⟩
     obtain ⟨W8, hW8⟩ : ∃ W8, (W6.alloc (.cells #[.int .i64 f, .int .i64 c, .int .i64 k, .slice a6 ms.length c6] 32)).drew = W8 := ⟨_, rfl⟩
     have b68 : Below W6.heap.size W6 W8 := by rw [← hW8]; exact ((Below.refl _ _).alloc (Nat.le_refl _) _).drew
     have cg : CB W8 W6.heap.size #[.int .i64 f, .int .i64 c, .int .i64 k, .slice a6 ms.length c6] 32 := by rw [← hW8]; exact (CB.new _ _ _).drew
     have bw6 := H6.out.2.trans (hb6.mono H6.out.2.size)
     have bw8 := bw6.trans (b68.mono bw6.size)
     have cf := (H6.out.1.later hb6).later b68
     obtain ⟨j0, j1, j2, j3⟩ := cg.cells4E
     obtain ⟨i0, i1, i2, i3⟩ := cf.cells4E
     have hst : W8.cell? ⟨W6.heap.size, 0, none⟩ = some (.int .i64 f) ∧ W8.cell? ⟨W6.heap.size, 1, none⟩ = some (.int .i64 c) ∧ W8.cell? ⟨W6.heap.size, 2, none⟩ = some (.int .i64 k) ∧ W8.cell? ⟨W6.heap.size, 3, none⟩ = some (.slice a6 ms.length c6) ∧ W8.cell? ⟨w.heap.size, 0, none⟩ = some (.int .i64 f) ∧ W8.cell? ⟨w.heap.size, 1, none⟩ = some (.int .i64 c) ∧ W8.cell? ⟨w.heap.size, 2, none⟩ = some (.int .i64 k) ∧ W8.cell? ⟨w.heap.size, 3, none⟩ = some (.slice va N vc) ∧ Below w.heap.size w W8 := ⟨j0, j1, j2, j3, i0, i1, i2, i3, bw8⟩
     have HMl : Hid (ms.length = N) := Lib.hid (by rw [len_of hmm]; simp [HLl.out])
     have HOf : Hid (Calls Tryz.prog 10 #[.agg #[.int .i64 f, .int .i64 c, .int .i64 k, .slice a6 ms.length c6]] W8 fun e w' => ∃ a cap, ∃ rs' : List Rt, e = .returned (.agg #[.int .i64 f, .int .i64 c, .int .i64 k, .slice a N cap]) ∧ (∀ W', Below w'.heap.size w' W' → Below w.heap.size w W' → Calls Tryz.prog 9 #[.agg #[.int .i64 f, .int .i64 c, .int .i64 k, .slice a N cap], .agg #[.int .i64 f, .int .i64 c, .int .i64 k, .slice va N vc]] W' fun e w2 => e = .returned (.bool true) ∧ Below W'.heap.size W' w2) ∧ rs'.length = N ∧ Below W8.heap.size W8 w') := Lib.hid (by
       have hok : ∀ r ∈ l.map crw, Rok r := fun r hr => by
         obtain ⟨y, hy, rfl⟩ := List.mem_map.1 hr
         exact (HRk.out y hy).crw
       have hsz' : ∀ r ∈ l.map crw, r.t.length ≤ 1000000 ∧ r.a.length ≤ 1000000 := fun r hr => by
         obtain ⟨y, hy, rfl⟩ := List.mem_map.1 hr
         have := HSz.out y hy
         exact ⟨this.1, by show (y.a.map cz).length ≤ _; rw [List.length_map]; exact this.2⟩
       have hrv := (hmr.later b68).rv (rok_of hmm hok)
       refine (of11_any f c k _ ms W8 hrv (by rw [HMl.out]; omega) (sz_of hmm hsz')).mono ?_
       rintro e w' ⟨a, cap, rs', rfl, hE, hm, hb⟩
       have hm' : rs'.map (·.1) = l.map crw := hm.trans hmm
       have hl' : rs'.length = N := by rw [len_of hm']; simp [HLl.out]
       refine ⟨a, cap, rs', by rw [hl'], fun W' hW' hbw => ?_, hl', hb⟩
       have hr' := (hE.rv (rok_of hm' hok)).later hW'
       obtain ⟨s1, s2⟩ := sameE_list (rs := rs) (c := c) (k := k) (hm'.trans (by rw [hl.out])) (fun q hq => HGd.out q.1 (by show q.1 ∈ l; rw [← hl.out]; exact List.mem_map.2 ⟨q, hq, rfl⟩))
       have := same11_any f c k _ _ rs' rs W' hr' (HVr.out W' hbw) s1 s2 (by omega) (sz_of hm' hsz')
       rw [hl'] at this
       exact this)
     rw [HMl.out] at HOf hst hW8 ⊢
     clear hmr hmm hb6 b68 cg bw6 bw8 cf j0 j1 j2 j3 i0 i1 i2 i3 k0 k1 k2 k3 u0
     go_wp2_with fail
     go_region_held3 (fun W => W.cell? ⟨W6.heap.size, 0, none⟩ = some (.int .i64 f) ∧ W.cell? ⟨W6.heap.size, 1, none⟩ = some (.int .i64 c) ∧ W.cell? ⟨W6.heap.size, 2, none⟩ = some (.int .i64 k) ∧ W.cell? ⟨W6.heap.size, 3, none⟩ = some (.slice a6 N c6) ∧ W.cell? ⟨w.heap.size, 0, none⟩ = some (.int .i64 f) ∧ W.cell? ⟨w.heap.size, 1, none⟩ = some (.int .i64 c) ∧ W.cell? ⟨w.heap.size, 2, none⟩ = some (.int .i64 k) ∧ W.cell? ⟨w.heap.size, 3, none⟩ = some (.slice va N vc) ∧ Below w.heap.size w W)
       (first
         | assumption
         | (rw [hW8]; exact hst)
         | exact hst
         | exact keep8E hst (by assumption)
         | exact keep8E (by assumption) (by assumption))
       (first
         | (go_at_call 10; refine HOf.out.mono ?_; rintro e Va ⟨a9, cap9, rs9, rfl, hSm, _, hva⟩)
         | (go_at_call 9; refine (hSm _ (Below.refl _ _) (keep8E_bel (by assumption))).mono ?_; rintro e Vb ⟨rfl, hvb⟩))
     have HC : Hid (Below w.heap.size w Vb) := Lib.hid (by
       have h1 := (keep8E hst hva).2.2.2.2.2.2.2.2
       exact h1.trans (hvb.mono h1.size))
     clear hva hvb hst hSm HOf hW8
     go_wp2_with fail
 all_goals
   obtain ⟨q, hq⟩ : ∃ q, Hid (reV p t = q) := ⟨_, Lib.hid rfl⟩
   obtain ⟨⟨f2, c2, k2', l2⟩, at2, e2⟩ := q
   refine (readT11 HP.out t _ ht (HT8.out _ HC.out) f2 c2 k2' l2 at2 e2 hq.out).mono ?_
   rintro e V1 ⟨a2, cc2, gs, rfl, hgr, hgm, hv1⟩
   have bv1 := HC.out.trans (hv1.mono HC.out.size)
   obtain ⟨V2, hV2⟩ : ∃ V2, V1.alloc (.cells #[.int .i64 f2, .int .i64 c2, .int .i64 k2', .slice a2 gs.length cc2] 32) = V2 := ⟨_, rfl⟩
   have d2 : Below V1.heap.size V1 V2 := by rw [← hV2]; exact bAlE _ _
   have bv2 := bv1.trans (d2.mono bv1.size)
   have cg2 : CB V2 V1.heap.size #[.int .i64 f2, .int .i64 c2, .int .i64 k2', .slice a2 gs.length cc2] 32 := by rw [← hV2]; exact CB.new _ _ _
   have HV2 : Hid (Below w.heap.size w V2 ∧ CB V2 V1.heap.size #[.int .i64 f2, .int .i64 c2, .int .i64 k2', .slice a2 gs.length cc2] 32) := Lib.hid ⟨bv2, cg2⟩
   have HEr := Lib.hid (hgr.later d2)
   have HGm := Lib.hid hgm
   obtain ⟨y0, y1, y2, y3⟩ := cg2.cells4E
   clear hgr hgm hv1 bv1 bv2 d2 cg2 HC
   by_cases h2 : e2 = 0
   rotate_left
   · have h2' : (e2 == 0) = false := by simpa using h2
     go_wp2
     go_ret
     exact ⟨rfl, HV2.out.1⟩
   subst h2
   have ht2 : t.length ≤ 20000 := by omega
   have hwr := rdE_written HP.out ht2 (by rw [hq.out])
   have hfs := reV_first (p := p) (t := t) (by rw [hq.out])
   rw [hq.out] at hwr hfs
   try dsimp only at hwr hfs
   obtain ⟨hw1, hw2, hw3⟩ := hwr
   have HOk : Hid (∀ r ∈ l2, Rok r) := Lib.hid fun r hr => ⟨(hw3 r hr).1, (hw3 r hr).2.1⟩
   have HSz2 : Hid (∀ r ∈ l2, r.t.length ≤ 1000000 ∧ r.a.length ≤ 1000000) := Lib.hid fun r hr => by have := hw3 r hr; omega
   have HGl : Hid (gs.length = l2.length) := Lib.hid (len_of HGm.out)
   have HRv : Hid (∀ W, Below V2.heap.size V2 W → Rv W (.slice a2 gs.length cc2) gs) := Lib.hid fun W hW => (HEr.out.rv (rok_of HGm.out HOk.out)).later hW
   have HRb := Lib.hid (wrE_back HP.out (f := ⟨f2, c2, k2', l2⟩) (fun r hr => (HOk.out r hr).2) hw1)
   have HAg := Lib.hid (wrE_again HP.out (f := ⟨f2, c2, k2', l2⟩) (fun r hr => (HOk.out r hr).2) hw1)
   have HGd := Lib.hid (wrE_good hw1)
   have hsl2 := wrE_len hw1
   try dsimp only at HRb HAg HGd
   rw [hfs] at HRb HAg
   have HW2 : Hid (Calls Tryz.prog 6 #[.agg #[.int .i64 f2, .int .i64 c2, .int .i64 k2', .slice a2 gs.length cc2]] V2 fun e w' => e = .returned (.tuple #[sv (wrE p ⟨f2, c2, k2', l2⟩).1, .int .i64 0]) ∧ Below V2.heap.size V2 w') := Lib.hid (by
     have := writeE_any HP.out f2 c2 k2' _ gs V2 (HRv.out V2 (Below.refl _ _)) (by rw [HGl.out]; omega) (HT8.out _ HV2.out.1)
     rw [HGm.out, hw1] at this
     exact this)
   have HLn : Hid (l2.length ≤ 10000) := Lib.hid hw2
   obtain ⟨s2, hs2⟩ : ∃ s2, Hid ((wrE p ⟨f2, c2, k2', l2⟩).1 = s2) := ⟨_, Lib.hid rfl⟩
   have HAg2 : Hid (wrE p ⟨f2, c2, k2', l2.map crw⟩ = (s2, 0)) := Lib.hid (by rw [HAg.out, ← hs2.out, ← hw1])
   rw [hs2.out] at HRb HW2 hsl2
   obtain ⟨S2, hS2⟩ : ∃ S2 : ByteArray, Hid (sv s2 = .string S2) := ⟨_, Lib.hid rfl⟩
   rw [hS2.out] at HW2
   obtain ⟨gn, hgn⟩ : ∃ gn, Hid (gs.length = gn) := ⟨_, Lib.hid rfl⟩
   rw [hgn.out] at HRv HW2 HV2 hV2 y3 HGl ⊢
   clear hw1 hw2 hw3 hfs HAg HEr ht2
   go_wp2_with fail
   try rw [hV2]
   clear hV2
   refine HW2.out.mono ?_
   rintro e V3 ⟨rfl, hv3⟩
   have HV3 : Hid (Below w.heap.size w V3 ∧ CB V3 V1.heap.size #[.int .i64 f2, .int .i64 c2, .int .i64 k2', .slice a2 gn cc2] 32 ∧ Below V2.heap.size V2 V3) := Lib.hid ⟨HV2.out.1.trans (hv3.mono HV2.out.1.size), HV2.out.2.later hv3, hv3⟩
   have HRd := Lib.hid (readT11 HP.out s2 V3 (by omega) (HT8.out _ HV3.out.1) f2 c2 k2' (l2.map crw) _ _ HRb.out)
   rw [hS2.out] at HRd
   clear hv3 y0 y1 y2 y3 HV2 HW2
   go_wp2_with fail
   refine HRd.out.mono ?_
   rintro e V4 ⟨a3, cc3, hs3, rfl, hhr, hhm, hv4⟩
   obtain ⟨V5, hV5⟩ : ∃ V5, V4.alloc (.cells #[.int .i64 f2, .int .i64 c2, .int .i64 k2', .slice a3 hs3.length cc3] 32) = V5 := ⟨_, rfl⟩
   have d5 : Below V4.heap.size V4 V5 := by rw [← hV5]; exact bAlE _ _
   have d35 : Below V3.heap.size V3 V5 := hv4.trans (d5.mono hv4.size)
   have bv5 := HV3.out.1.trans (d35.mono HV3.out.1.size)
   have ch : CB V5 V4.heap.size #[.int .i64 f2, .int .i64 c2, .int .i64 k2', .slice a3 hs3.length cc3] 32 := by rw [← hV5]; exact CB.new _ _ _
   have cg5 := HV3.out.2.1.later d35
   have HOk3 : Hid (∀ r ∈ l2.map crw, Rok r) := Lib.hid fun r hr => by
     obtain ⟨y, hy, rfl⟩ := List.mem_map.1 hr
     exact (HOk.out y hy).crw
   have HSz3 : Hid (∀ r ∈ l2.map crw, r.t.length ≤ 1000000 ∧ r.a.length ≤ 1000000) := Lib.hid fun r hr => by
     obtain ⟨y, hy, rfl⟩ := List.mem_map.1 hr
     have := HSz2.out y hy
     exact ⟨this.1, by show (y.a.map cz).length ≤ _; rw [List.length_map]; exact this.2⟩
   have hl3 : hs3.length = gn := by rw [len_of hhm, HGl.out]; simp
   rw [hl3] at hV5 ch ⊢
   have HRv3 : Hid (∀ W, Below V5.heap.size V5 W → Rv W (.slice a3 gn cc3) hs3 ∧ Rv W (.slice a2 gn cc2) gs) := Lib.hid fun W hW => by
     have h1 := ((hhr.later d5).rv (rok_of hhm HOk3.out)).later hW
     rw [hl3] at h1
     exact ⟨h1, HRv.out W ((HV3.out.2.2.trans (d35.mono HV3.out.2.2.size)).trans (hW.mono (Nat.le_trans HV3.out.2.2.size d35.size)))⟩
   have HW5 : Hid (Calls Tryz.prog 6 #[.agg #[.int .i64 f2, .int .i64 c2, .int .i64 k2', .slice a3 gn cc3]] V5 fun e w' => e = .returned (.tuple #[.string S2, .int .i64 0]) ∧ Below V5.heap.size V5 w') := Lib.hid (by
     have := writeE_any HP.out f2 c2 k2' _ hs3 V5 (HRv3.out V5 (Below.refl _ _)).1 (by have := HLn.out; have := HGl.out; omega) (HT8.out _ bv5)
     rw [hhm, HAg2.out, hS2.out] at this
     exact this)
   have HV5 : Hid (Below w.heap.size w V5 ∧ CB V5 V4.heap.size #[.int .i64 f2, .int .i64 c2, .int .i64 k2', .slice a3 gn cc3] 32 ∧ CB V5 V1.heap.size #[.int .i64 f2, .int .i64 c2, .int .i64 k2', .slice a2 gn cc2] 32) := Lib.hid ⟨bv5, ch, cg5⟩
   obtain ⟨x0, x1, x2, x3⟩ := ch.cells4E
   have HHm := Lib.hid hhm
   have HL3 := Lib.hid hl3
   clear hhr hhm hv4 d5 d35 bv5 ch cg5 HV3 hl3
   go_wp2_with fail
   try rw [hV5]
   clear hV5
   refine HW5.out.mono ?_
   rintro e V6 ⟨rfl, hv6⟩
   obtain ⟨V7, hV7⟩ : ∃ V7, V6.drew = V7 := ⟨_, rfl⟩
   have d57 : Below V5.heap.size V5 V7 := by rw [← hV7]; exact hv6.drew
   obtain ⟨x0, x1, x2, x3⟩ := (HV5.out.2.1.later d57).cells4E
   obtain ⟨y0, y1, y2, y3⟩ := (HV5.out.2.2.later d57).cells4E
   have hst : V7.cell? ⟨V4.heap.size, 0, none⟩ = some (.int .i64 f2) ∧ V7.cell? ⟨V4.heap.size, 1, none⟩ = some (.int .i64 c2) ∧ V7.cell? ⟨V4.heap.size, 2, none⟩ = some (.int .i64 k2') ∧ V7.cell? ⟨V4.heap.size, 3, none⟩ = some (.slice a3 gn cc3) ∧ V7.cell? ⟨V1.heap.size, 0, none⟩ = some (.int .i64 f2) ∧ V7.cell? ⟨V1.heap.size, 1, none⟩ = some (.int .i64 c2) ∧ V7.cell? ⟨V1.heap.size, 2, none⟩ = some (.int .i64 k2') ∧ V7.cell? ⟨V1.heap.size, 3, none⟩ = some (.slice a2 gn cc2) ∧ Below V5.heap.size V5 V7 := ⟨x0, x1, x2, x3, y0, y1, y2, y3, d57⟩
   have HOf1 : Hid (∀ W, Below V5.heap.size V5 W → Calls Tryz.prog 10 #[.agg #[.int .i64 f2, .int .i64 c2, .int .i64 k2', .slice a3 gn cc3]] W fun e w' => ∃ a cap, ∃ rs' : List Rt, e = .returned (.agg #[.int .i64 f2, .int .i64 c2, .int .i64 k2', .slice a gn cap]) ∧ Hid (Rv w' (.slice a gn cap) rs' ∧ rs'.map (·.1) = l2.map crw ∧ rs'.length = gn) ∧ Below W.heap.size W w') := Lib.hid (fun W hW => by
     refine (of11_any f2 c2 k2' _ hs3 W (HRv3.out W hW).1 (by have := HLn.out; have := HGl.out; have := HL3.out; omega) (sz_of HHm.out HSz3.out)).mono ?_
     rintro e w' ⟨a, cap, rs', rfl, hE, hm, hb⟩
     have hm' := hm.trans HHm.out
     have hl' : rs'.length = gn := by rw [len_of hm', HGl.out]; simp
     refine ⟨a, cap, rs', by rw [hl'], Lib.hid ⟨?_, hm', hl'⟩, hb⟩
     have := hE.rv (rok_of hm' HOk3.out)
     rwa [hl'] at this)
   have HOf2 : Hid (∀ W, Below V5.heap.size V5 W → Calls Tryz.prog 10 #[.agg #[.int .i64 f2, .int .i64 c2, .int .i64 k2', .slice a2 gn cc2]] W fun e w' => ∃ a cap, ∃ rs' : List Rt, e = .returned (.agg #[.int .i64 f2, .int .i64 c2, .int .i64 k2', .slice a gn cap]) ∧ Hid (Rv w' (.slice a gn cap) rs' ∧ rs'.map (·.1) = l2 ∧ rs'.length = gn) ∧ Below W.heap.size W w') := Lib.hid (fun W hW => by
     refine (of11_any f2 c2 k2' _ gs W (HRv3.out W hW).2 (by have := HLn.out; have := HGl.out; have := hgn.out; omega) (sz_of HGm.out HSz2.out)).mono ?_
     rintro e w' ⟨a, cap, rs', rfl, hE, hm, hb⟩
     have hm' := hm.trans HGm.out
     have hl' : rs'.length = gn := by rw [len_of hm', HGl.out]
     refine ⟨a, cap, rs', by rw [hl'], Lib.hid ⟨?_, hm', hl'⟩, hb⟩
     have := hE.rv (rok_of hm' HOk.out)
     rwa [hl'] at this)
   have HSm : Hid (∀ W a1 cap1 rs1 a2 cap2 rs2, (Rv W (.slice a1 gn cap1) rs1 ∧ rs1.map (·.1) = l2.map crw ∧ rs1.length = gn) → (Rv W (.slice a2 gn cap2) rs2 ∧ rs2.map (·.1) = l2 ∧ rs2.length = gn) → Calls Tryz.prog 9 #[.agg #[.int .i64 f2, .int .i64 c2, .int .i64 k2', .slice a1 gn cap1], .agg #[.int .i64 f2, .int .i64 c2, .int .i64 k2', .slice a2 gn cap2]] W fun e w' => e = .returned (.bool true) ∧ Below W.heap.size W w') := Lib.hid (fun W a1 cap1 rs1 a2 cap2 rs2 h1 h2 => by
     obtain ⟨s1, s3⟩ := sameE_list (ms := rs1) (rs := rs2) (c := c2) (k := k2') (by rw [h1.2.1, h2.2.1]) (fun q hq => HGd.out q.1 (by show q.1 ∈ l2; rw [← h2.2.1]; exact List.mem_map.2 ⟨q, hq, rfl⟩))
     exact same11_any f2 c2 k2' _ _ rs1 rs2 W h1.1 h2.1 s1 s3 (by have := HLn.out; have := HGl.out; have := h1.2.2; omega) (sz_of h1.2.1 HSz3.out))
   clear x0 x1 x2 x3 y0 y1 y2 y3 d57 hv6
   go_wp2_with fail
   clear HRb HW5 HRd HAg2 hsl2
   go_region_held3 (fun W => W.cell? ⟨V4.heap.size, 0, none⟩ = some (.int .i64 f2) ∧ W.cell? ⟨V4.heap.size, 1, none⟩ = some (.int .i64 c2) ∧ W.cell? ⟨V4.heap.size, 2, none⟩ = some (.int .i64 k2') ∧ W.cell? ⟨V4.heap.size, 3, none⟩ = some (.slice a3 gn cc3) ∧ W.cell? ⟨V1.heap.size, 0, none⟩ = some (.int .i64 f2) ∧ W.cell? ⟨V1.heap.size, 1, none⟩ = some (.int .i64 c2) ∧ W.cell? ⟨V1.heap.size, 2, none⟩ = some (.int .i64 k2') ∧ W.cell? ⟨V1.heap.size, 3, none⟩ = some (.slice a2 gn cc2) ∧ Below V5.heap.size V5 W)
     (first
       | assumption
       | (rw [hV7]; exact hst)
       | exact hst
       | exact keep8E hst (by assumption)
       | exact keep8E (keep8E hst (by assumption)) (by assumption)
       | exact keep8E (keep8E (keep8E hst (by assumption)) (by assumption)) (by assumption)
       | exact keep8E (by assumption) (by assumption))
     (first
       | (go_at_call 10; have hvx := hva; refine (HOf2.out _ (keep8E_bel (by assumption))).mono ?_; clear hvx; rintro e Vb ⟨o1, o2, o3, rfl, hE2, hvb⟩)
       | (go_at_call 10; refine (HOf1.out _ (keep8E_bel (by assumption))).mono ?_; rintro e Va ⟨p1, p2, p3, rfl, hE1, hva⟩)
       | (go_at_call 9; refine (HSm.out _ _ _ p3 _ _ o3 ⟨hE1.out.1.later hvb, hE1.out.2⟩ hE2.out).mono ?_; rintro e Vc ⟨rfl, hvc⟩))
   have HBv : Hid (Below w.heap.size w Vc) := Lib.hid (by
     have h1 := hst.2.2.2.2.2.2.2.2
     have h2 := HV5.out.1.trans (h1.mono HV5.out.1.size)
     have h3 := h2.trans (hva.mono h2.size)
     have h4 := h3.trans (hvb.mono h3.size)
     exact h4.trans (hvc.mono h4.size))
   clear hst hva hvb hvc hE1 hE2
   go_wp2
   go_ret
   exact ⟨rfl, HBv.out⟩
end
end Go.Proofs.YtgoadpnoagaflaaGreatDoor
