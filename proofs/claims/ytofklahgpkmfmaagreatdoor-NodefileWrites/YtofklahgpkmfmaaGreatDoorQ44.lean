/- Own texts, put together: Qcc Qcd. -/
import Derived.Test.YtofklahgpkmfmaaGreatDoorQ32
import Derived.Test.YtofklahgpkmfmaaGreatDoorQ38
import Derived.Test.YtofklahgpkmfmaaGreatDoorQ40
import Derived.Test.YtofklahgpkmfmaaGreatDoorQ43
namespace Go.Proofs.YtofklahgpkmfmaaGreatDoor
/- The document's side of layer 10: Write. -/
section
set_option maxRecDepth 100000
open Go.RowKit Go.Shelf Go.Lib
theorem flW_mod {p : Pm} {f : Fd} {L : List Lv} (hL : ls1 L = flW p f) (h : wrongN p f = 0) (hn : f.ns.length ≤ 200000) : Mod L := by
 obtain ⟨w1, w2, w3, w4, w5, w6⟩ := wrong_zero h
 refine ⟨?_, fun q hq => ?_⟩
 · have : L.length = (flW p f).length := by rw [← hL]; simp [ls1]
   rw [this]
   unfold flW
   rw [List.length_cons, ndsW_len]
   omega
 · have hm : q.1 ∈ flW p f := by rw [← hL]; exact List.mem_map.2 ⟨q, hq, rfl⟩
   unfold flW at hm
   rcases List.mem_cons.1 hm with e | e
   · rw [e]; simp
   · obtain ⟨j, r, _, hr, e⟩ := ndsW_at p _ _ _ _ _ e
     rw [e]
     have h9 := ndW_len p f.z f.m (0 + j) r
     have h8 := w5 r hr
     unfold amiss at h8
     simp at h8
     omega
set_option maxHeartbeats 4000000 in
theorem refWrite10_any {p : Pm} (hp : p.Ok) (v : Value) (ns : List Nt) (z : Bool) (k : Int) (m : Bool) (w : World) (hv : Nv w v ns) (hn : ns.length ≤ 1000) (hl : ∀ q ∈ ns, q.1.a.length ≤ 1000) :
   Calls Tryz.prog 20 #[.agg #[v, .bool z, .int .i64 k, .bool m]] w fun e w' => e = .returned (.tuple #[sv (wrN p ⟨ndsO' ns, z, k, m⟩).1, .int .i64 (wrN p ⟨ndsO' ns, z, k, m⟩).2]) ∧ Below w.heap.size w w' := by
 have HP := Lib.hid hp
 have HWa := Lib.hid hv.wa
 have HNl : Hid ((ndsO' ns).length ≤ 1000) := Lib.hid (by simpa [ndsO'] using hn)
 obtain ⟨na, nc, rfl, h1, h2, _⟩ := hv.form
 obtain ⟨W1, hW1⟩ : ∃ W1, w.alloc (.cells #[.slice na ns.length nc, .bool z, .int .i64 k, .bool m] 25) = W1 := ⟨_, rfl⟩
 have b1 : Below w.heap.size w W1 := by rw [← hW1]; exact (Below.refl _ w).alloc (Nat.le_refl _) _
 have cf : CB W1 w.heap.size #[.slice na ns.length nc, .bool z, .int .i64 k, .bool m] 25 := by rw [← hW1]; exact CB.new w _ _
 have HPu := Lib.hid (refPut_any hp _ ns z k m W1 (hv.later b1) hn hl)
 have HB := Lib.hid b1
 obtain ⟨k0, k1, k2, k3⟩ := cf.cells4
 obtain ⟨f, hf⟩ : ∃ f, Hid ((⟨ndsO' ns, z, k, m⟩ : Fd) = f) := ⟨_, Lib.hid rfl⟩
 rw [hf.out] at HPu
 rw [hf.out]
 have HWa' : Hid (∀ q ∈ f.ns, wdA q) := Lib.hid (by rw [← hf.out]; exact HWa.out)
 have HNl' : Hid (f.ns.length ≤ 1000) := Lib.hid (by rw [← hf.out]; exact HNl.out)
 clear hp hv cf b1 HWa HNl hl
 unfold PutR at HPu
 go_enter Tryz.func20, Tryz.ntmps20
 go_wp2_with fail
 try rw [hW1]
 clear hW1 k0 k1 k2 k3
 refine HPu.out.mono ?_
 rintro e W2 ⟨hb2, ⟨h0, rfl⟩ | ⟨h0, a, c, L, rfl, hO, hL⟩⟩
 · have HR : Hid (wrN p f = ([], wrongN p f)) := Lib.hid (by unfold wrN; rw [if_neg h0])
   have HB2 := Lib.hid (HB.out.trans (hb2.mono HB.out.size))
   obtain ⟨er, her⟩ : ∃ er, wrongN p f = er := ⟨_, rfl⟩
   rw [her] at h0 HR ⊢
   have h0' : (er == 0) = false := by simpa using h0
   clear hb2
   go_wp2
   go_ret2
   exact ⟨by rw [HR.out]; rfl, HB2.out⟩
 · have HR : Hid (wrN p f = ((wrV (flW p f)).1, (((wrV (flW p f)).2 : Nat) : Int))) := Lib.hid (by unfold wrN; rw [if_pos h0])
   obtain ⟨w1, w2, w3, w4, w5, w6⟩ := wrong_zero h0
   have hsh := flW_short HP.out HWa'.out w1 ⟨by omega, by omega⟩
   have hwd : ∀ q ∈ L, ∀ x ∈ q.1, x.length ≤ 43 := fun q hq x hx => hsh q.1 (by rw [← hL]; exact List.mem_map.2 ⟨q, hq, rfl⟩) x hx
   have hll : Ll W2 (.slice a L.length c) L := hO.ll (fun q hq x hx => by have := hwd q hq x hx; omega)
   have hmod : Mod L := flW_mod hL h0 (by have := HNl'.out; omega)
   have HWr : Hid (Calls Tryz.prog 36 #[.slice a L.length c] W2 fun e w' => e = .returned (.tuple #[sv (wrV (flW p f)).1, .int .i64 ((wrV (flW p f)).2 : Nat)]) ∧ Below W2.heap.size W2 w') := Lib.hid (by
     have := refWrite_any _ L W2 hll hmod (fun q hq x hx => by have := hwd q hq x hx; omega)
     rwa [hL] at this)
   have HB2 := Lib.hid (HB.out.trans (hb2.mono HB.out.size))
   obtain ⟨tx, htx⟩ : ∃ tx, (wrV (flW p f)).1 = tx := ⟨_, rfl⟩
   obtain ⟨er, her⟩ : ∃ er, (wrV (flW p f)).2 = er := ⟨_, rfl⟩
   rw [htx, her] at HWr HR
   obtain ⟨n, hnn⟩ : ∃ n, L.length = n := ⟨_, rfl⟩
   rw [hnn] at HWr ⊢
   clear hb2 hll hmod hsh hwd w1 w2 w3 w4 w5 w6 hO hL htx her
   go_wp2_with fail
   refine HWr.out.mono ?_
   rintro e W3 ⟨rfl, hb3⟩
   have HB3 := Lib.hid (HB2.out.trans (hb3.mono HB2.out.size))
   clear hb3
   go_wp2
   go_ret2
   exact ⟨by rw [HR.out]; rfl, HB3.out⟩
end

/- The law NodefileWrites. -/
section
set_option maxRecDepth 100000
open Go.RowKit Go.Shelf Go.Lib
attribute [local go_sem] run_store_float
def plW (p : Pm) (f : Fd) : List (List Bs) := if wrongN p f = 0 then flW p f else []
theorem putR_ll {p : Pm} (hp : p.Ok) {w w' : World} {f : Fd} {e : Ending} (h : PutR p w w' f e) (hw : ∀ q ∈ f.ns, wdA q) : ∃ a c L, e = .returned (.tuple #[.slice a L.length c, .int .i64 (wrongN p f)]) ∧ Ll w' (.slice a L.length c) L ∧ ls1 L = plW p f ∧ Below w.heap.size w w' := by
 obtain ⟨hb, ⟨h0, rfl⟩ | ⟨h0, a, c, L, rfl, hO, hL⟩⟩ := h
 · refine ⟨none, 0, [], rfl, ⟨⟨none, 0, rfl, by simp, by omega, Or.inl rfl⟩, fun q hq => by simp at hq⟩, ?_, hb⟩
   unfold plW
   rw [if_neg h0]; rfl
 · obtain ⟨w1, w2, w3, w4, w5, w6⟩ := wrong_zero h0
   have hsh := flW_short hp hw w1 ⟨by omega, by omega⟩
   refine ⟨a, c, L, by rw [h0], hO.ll (fun q hq x hx => ?_), by unfold plW; rw [if_pos h0]; exact hL, hb⟩
   have := hsh q.1 (by rw [← hL]; exact List.mem_map.2 ⟨q, hq, rfl⟩) x hx
   omega
theorem plW_len {p : Pm} {f : Fd} (hn : f.ns.length ≤ 100) : (plW p f).length ≤ 101 := by
 unfold plW
 split
 · unfold flW; rw [List.length_cons, ndsW_len]; omega
 · simp
set_option maxHeartbeats 32000000 in
theorem writes10_law (v : Value) (ns : List Nt) (z : Bool) (k : Int) (m : Bool) (w : World) (hv : Nv w v ns) (hl : ∀ q ∈ ns, q.1.a.length ≤ 140737488355328 ∧ ∀ n c, q.2 = .slice none n c → n = 0 ∧ c = 0) (hn : ns.length ≤ 140737488355328) (hT : T10 w) :
   Calls Tryz.prog 4 #[.agg #[v, .bool z, .int .i64 k, .bool m]] w fun e w' => e = .returned (.bool true) ∧ Below w.heap.size w w' := by
 obtain ⟨p, hp⟩ := pm_ex
 have HP := Lib.hid hp
 obtain ⟨W1, hW1⟩ : ∃ W1, w.alloc (.cells #[v, .bool z, .int .i64 k, .bool m] 25) = W1 := ⟨_, rfl⟩
 have b1 : Below w.heap.size w W1 := by rw [← hW1]; exact (Below.refl _ w).alloc (Nat.le_refl _) _
 have c1 : CB W1 w.heap.size #[v, .bool z, .int .i64 k, .bool m] 25 := by rw [← hW1]; exact CB.new w _ _
 have HLg := Lib.hid (large10_any v ns z k m W1 (hv.later b1) (fun q hq => (hl q hq).1) hn)
 obtain ⟨k0, k1, k2, k3⟩ := c1.cells4
 have H1 := Lib.hid (And.intro c1 (And.intro b1 (And.intro (hT.later b1) (hv.later b1))))
 have HL := Lib.hid hl
 obtain ⟨va, vc, hvv⟩ : ∃ va vc, v = .slice va ns.length vc := by
   obtain ⟨a, c, e, _⟩ := hv.form
   exact ⟨a, c, e⟩
 obtain ⟨N, hN⟩ : ∃ N, Hid (ns.length = N) := ⟨_, Lib.hid rfl⟩
 rw [hN.out] at hvv
 subst hvv
 clear hp hv hl hn b1 c1 hT
 go_enter Tryz.func4, Tryz.ntmps4
 go_wp2_with fail
 try rw [hW1]
 clear hW1
 refine HLg.out.mono ?_
 rintro e W2 ⟨⟨b, rfl, hb⟩, hb2⟩
 have H2 : Hid (CB W2 w.heap.size #[.slice va N vc, .bool z, .int .i64 k, .bool m] 25 ∧ Below w.heap.size w W2 ∧ T10 W2 ∧ Nv W2 (.slice va N vc) ns) := Lib.hid ⟨H1.out.1.later hb2, H1.out.2.1.trans (hb2.mono H1.out.2.1.size), H1.out.2.2.1.later hb2, H1.out.2.2.2.later hb2⟩
 have HLb := Lib.hid hb
 clear hb hb2 HLg H1 k0 k1 k2 k3
 have HAw : Hid (∀ W, Below w.heap.size w W → T10 W → Calls Tryz.prog 8 #[] W fun e w' => e = .returned (.bool true) ∧ Below w.heap.size w w') := Lib.hid fun W hW hT => (awake10 W hT).mono fun e w' h => ⟨h.1, hW.trans (h.2.mono hW.size)⟩
 cases b
 · have hbd := HLb.out (by first | rfl | trivial)
   have HG := Lib.hid (given10_any (.slice va N vc) ns z k m W2 H2.out.2.2.2 (by omega) (fun q hq => ⟨by have := hbd.2 q hq; omega, (HL.out q hq).2⟩))
   have HBd := Lib.hid hbd
   have hN100 : (N : Int) ≤ 100 := by have := hbd.1; have := hN.out; omega
   obtain ⟨k0, k1, k2, k3⟩ := H2.out.1.cells4
   clear hbd
   go_wp2_with fail
   refine HG.out.mono ?_
   rintro e W3 ⟨ga, gc, ns', rfl, hnv, hns, hb3⟩
   have hlen : ns'.length = N := by have := congrArg List.length hns; rw [← hN.out]; simpa [ndsO'] using this
   rw [hlen] at hnv
   rw [hlen]
   obtain ⟨W4, hW4⟩ : ∃ W4, W3.alloc (.cells #[.slice ga N gc, .bool z, .int .i64 k, .bool m] 29) = W4 := ⟨_, rfl⟩
   have b4 : Below W3.heap.size W3 W4 := by rw [← hW4]; exact (Below.refl _ _).alloc (Nat.le_refl _) _
   have b24 : Below W2.heap.size W2 W4 := hb3.trans (b4.mono hb3.size)
   obtain ⟨F, hF⟩ : ∃ F, Hid ((⟨ndsO' ns, z, k, m⟩ : Fd) = F) := ⟨_, Lib.hid rfl⟩
   have HSt : Hid (∀ W, Below W4.heap.size W4 W → CB W w.heap.size #[.slice va N vc, .bool z, .int .i64 k, .bool m] 25 ∧ CB W W3.heap.size #[.slice ga N gc, .bool z, .int .i64 k, .bool m] 29 ∧ Below w.heap.size w W ∧ T10 W ∧ Nv W (.slice va N vc) ns ∧ Nv W (.slice ga N gc) ns') := Lib.hid (fun W hW => by
     have b2 := b24.trans (hW.mono b24.size)
     exact ⟨H2.out.1.later b2, (by rw [← hW4]; exact CB.new W3 _ _ : CB W4 W3.heap.size _ _).later hW, H2.out.2.1.trans (b2.mono H2.out.2.1.size), H2.out.2.2.1.later b2, H2.out.2.2.2.later b2, (hnv.later b4).later hW⟩)
   have Hns := Lib.hid hns
   have Hlen := Lib.hid hlen
   have HWA : Hid (∀ q ∈ F.ns, wdA q) := Lib.hid (by rw [← hF.out]; exact H2.out.2.2.2.wa)
   have HF1 : Hid (F.ns.length ≤ 100) := Lib.hid (by rw [← hF.out]; have := HBd.out.1; simpa [ndsO'] using this)
   have hr4 := Below.refl W4.heap.size W4
   have HRw : Hid (∀ W, Below W4.heap.size W4 W → Calls Tryz.prog 20 #[.agg #[.slice va N vc, .bool z, .int .i64 k, .bool m]] W fun e w' => e = .returned (.tuple #[sv (wrN p F).1, .int .i64 (wrN p F).2]) ∧ Below W4.heap.size W4 w') := Lib.hid (fun W hW => by
     have := refWrite10_any HP.out (.slice va N vc) ns z k m W (HSt.out W hW).2.2.2.2.1 (by have := HBd.out.1; omega) (fun q hq => by have := HBd.out.2 q hq; omega)
     rw [hF.out] at this
     exact this.mono fun e w' h => ⟨h.1, hW.trans (h.2.mono hW.size)⟩)
   have HNw : Hid (∀ W, Below W4.heap.size W4 W → Calls Tryz.prog 21 #[.agg #[.slice ga N gc, .bool z, .int .i64 k, .bool m]] W fun e w' => e = .returned (.tuple #[sv (wrN p F).1, .int .i64 (wrN p F).2]) ∧ Below W4.heap.size W4 w') := Lib.hid (fun W hW => by
     have := writeN_any HP.out (.slice ga N gc) ns' z k m W (HSt.out W hW).2.2.2.2.2 (by have := HBd.out.1; have := Hlen.out; have := hN.out; omega) (HSt.out W hW).2.2.2.1.1
     rw [Hns.out, hF.out] at this
     exact this.mono fun e w' h => ⟨h.1, hW.trans (h.2.mono hW.size)⟩)
   have HNp : Hid (∀ W, Below W4.heap.size W4 W → Calls Tryz.prog 22 #[.agg #[.slice ga N gc, .bool z, .int .i64 k, .bool m]] W fun e w' => ∃ a c L, e = .returned (.tuple #[.slice a L.length c, .int .i64 (wrongN p F)]) ∧ Ll w' (.slice a L.length c) L ∧ ls1 L = plW p F ∧ Below W4.heap.size W4 w') := Lib.hid (fun W hW => by
     have := put_any HP.out (.slice ga N gc) ns' z k m W (HSt.out W hW).2.2.2.2.2 (HSt.out W hW).2.2.2.1.1
     rw [Hns.out, hF.out] at this
     refine this.mono fun e w' h => ?_
     obtain ⟨a, c, L, h1, h2, h3, h4⟩ := putR_ll HP.out h HWA.out
     exact ⟨a, c, L, h1, h2, h3, hW.trans (h4.mono hW.size)⟩)
   have HRp : Hid (∀ W, Below W4.heap.size W4 W → Calls Tryz.prog 23 #[.agg #[.slice va N vc, .bool z, .int .i64 k, .bool m]] W fun e w' => ∃ a c L, e = .returned (.tuple #[.slice a L.length c, .int .i64 (wrongN p F)]) ∧ Ll w' (.slice a L.length c) L ∧ ls1 L = plW p F ∧ Below W.heap.size W w') := Lib.hid (fun W hW => by
     have := refPut_any HP.out (.slice va N vc) ns z k m W (HSt.out W hW).2.2.2.2.1 (by have := HBd.out.1; omega) (fun q hq => by have := HBd.out.2 q hq; omega)
     rw [hF.out] at this
     exact this.mono fun e w' h => putR_ll HP.out h HWA.out)
   obtain ⟨tx, htx⟩ : ∃ tx, (wrN p F).1 = tx := ⟨_, rfl⟩
   obtain ⟨er, her⟩ : ∃ er, (wrN p F).2 = er := ⟨_, rfl⟩
   obtain ⟨ew, hew⟩ : ∃ ew, wrongN p F = ew := ⟨_, rfl⟩
   rw [htx, her] at HRw HNw
   rw [hew] at HNp HRp
   have hst := fun (w : World) (ad : Addr) (md : Mode) => run_store Tryz.prog w ad (.slice ga N gc) md (by rfl)
   obtain ⟨s0, s1, s2, s3⟩ := (HSt.out _ hr4).1.cells4
   obtain ⟨t0, t1, t2, t3⟩ := (HSt.out _ hr4).2.1.cells4
   clear hnv hns hb3 HG k0 k1 k2 k3 b4 b24 hlen htx her hew
   go_wp2_with fail
   try rw [hW4]
   clear hW4
   refine (HRw.out _ hr4).mono ?_
   rintro e W5 ⟨rfl, hb5⟩
   obtain ⟨t0, t1, t2, t3⟩ := (HSt.out _ hb5).2.1.cells4
   go_wp2_with fail
   refine (HNw.out _ hb5).mono ?_
   rintro e W6 ⟨rfl, hb6⟩
   obtain ⟨t0, t1, t2, t3⟩ := (HSt.out _ hb6).2.1.cells4
   go_wp2_with fail
   refine (HNp.out _ hb6).mono ?_
   rintro e W7 ⟨la, lc, L, rfl, hLl, hL1, hb7⟩
   obtain ⟨s0, s1, s2, s3⟩ := (HSt.out _ hb7).1.cells4
   have HLl := Lib.hid (And.intro hLl hL1)
   clear hLl hL1
   go_wp2_with fail
   refine (HRp.out _ hb7).mono ?_
   rintro e W8 ⟨ma, mc, M, rfl, hMl, hM1, hb8⟩
   have H8 : Hid (Ll W8 (.slice la L.length lc) L ∧ Ll W8 (.slice ma M.length mc) M ∧ ls1 L = ls1 M ∧ Below W4.heap.size W4 W8) := Lib.hid ⟨HLl.out.1.later hb8, hMl, by rw [HLl.out.2, hM1], hb7.trans (hb8.mono hb7.size)⟩
   have hLM : M.length = L.length := by have := congrArg List.length H8.out.2.2.1; simpa [ls1] using this.symm
   have hLn : L.length ≤ 101 := by have h1 := congrArg List.length HLl.out.2; have := plW_len (p := p) HF1.out; rw [← h1] at this; simpa [ls1] using this
   rw [hLM] at H8 ⊢
   obtain ⟨n, hnn⟩ : ∃ n, Hid (L.length = n) := ⟨_, Lib.hid rfl⟩
   rw [hnn.out] at H8 hLn ⊢
   have HMn : Hid (M.length = n) := Lib.hid (hLM.trans hnn.out)
   have hLn' : (n : Int) ≤ 101 := by omega
   have e1 : (er == er) = true := by simp
   have e2 : (ew == ew) = true := by simp
   clear hMl hM1 hb5 hb6 hb7 hb8 HLl hLM HRw HNw HNp HRp s0 s1 s2 s3 t0 t1 t2 t3 hr4
   go_wp2_with fail
   go_loopw [12] (fun s12 wr => ∃ i : Nat, s12 = .int .i64 (i : Nat) ∧ i ≤ n ∧ Hid (Below W8.heap.size W8 wr)) (fun s12 _ => n - (RowKit.intOf s12).toNat)
   case atStart => exact ⟨0, rfl, by omega, Lib.hid (Below.refl _ _)⟩
   case round =>
     obtain ⟨i, rfl, hi1, hI⟩ := hrel
     by_cases hlt : i < n
     · have hlt' : (i : Int) < (n : Int) := by omega
       have hi0 : (0 : Int) ≤ (i : Int) := by omega
       obtain ⟨q, hq⟩ : ∃ q, L[i]? = some q := ⟨_, List.getElem?_eq_getElem (by rw [hnn.out]; exact hlt)⟩
       obtain ⟨r, hr⟩ : ∃ r, M[i]? = some r := ⟨_, List.getElem?_eq_getElem (by rw [HMn.out]; exact hlt)⟩
       have hqr : q.1 = r.1 := by
         have h1 : (ls1 L)[i]? = some q.1 := by rw [List.getElem?_map, hq]; rfl
         have h2 : (ls1 M)[i]? = some r.1 := by rw [List.getElem?_map, hr]; rfl
         rw [H8.out.2.2.1, h2] at h1
         simpa using h1.symm
       obtain ⟨W9, hW9⟩ : ∃ W9, wr.drew = W9 := ⟨_, rfl⟩
       have b9 : Below W8.heap.size W8 W9 := by rw [← hW9]; exact hI.out.drew
       obtain ⟨⟨a1, c1, ee1, _, _, h1⟩, hs1⟩ := H8.out.1
       obtain ⟨⟨a2, c2, ee2, _, _, h2⟩, hs2⟩ := H8.out.2.1
       obtain rfl : la = a1 := by simp only [Value.slice.injEq] at ee1; exact ee1.1
       obtain rfl : ma = a2 := by simp only [Value.slice.injEq] at ee2; exact ee2.1
       clear ee1 ee2
       obtain ⟨g1, o1, rfl, hg1, hc1⟩ := h1.resolve_left (fun e => by rw [e] at hq; simp at hq)
       obtain ⟨g2, o2, rfl, hg2, hc2⟩ := h2.resolve_left (fun e => by rw [e] at hr; simp at hr)
       have x1 := cell_later b9 hg1 (hc1 i q hq)
       have x2 := cell_later b9 hg2 (hc2 i r hr)
       have HTe := Lib.hid (texts_any q.2 r.2 q.1 r.1 W9 ((hs1 q (List.mem_of_getElem? hq)).later b9) ((hs2 r (List.mem_of_getElem? hr)).later b9))
       rw [decide_eq_true hqr] at HTe
       have HB9 := Lib.hid b9
       clear h1 h2 hs1 hs2 hc1 hc2 hq hr hqr b9
       go_wp2_with fail
       go_region_with (go_at_call 24; refine HTe.out.mono ?_; rintro e W10 ⟨rfl, hb10⟩; have HB10 := Lib.hid (HB9.out.trans (hb10.mono HB9.out.size)); clear hb10)
       all_goals
         go_wp2
         exact ⟨⟨i + 1, by go_num, by omega, HB10⟩, by simp [RowKit.intOf]; omega⟩
     · obtain rfl : i = n := by omega
       have b48 : Below W4.heap.size W4 wr := H8.out.2.2.2.trans (hI.out.mono H8.out.2.2.2.size)
       have HB48 := Lib.hid b48
       clear b48 hI
       go_wp2_with fail
       go_loopw [13] (fun s13 wr => ∃ t : Nat, s13 = .int .i64 (t : Nat) ∧ t ≤ N ∧ Hid (Below W4.heap.size W4 wr)) (fun s13 _ => N - (RowKit.intOf s13).toNat)
       case atStart => exact ⟨0, rfl, by omega, HB48⟩
       case round =>
         obtain ⟨t, rfl, ht1, hI⟩ := hrel
         obtain ⟨s0, s1, s2, s3⟩ := (HSt.out _ hI.out).1.cells4
         by_cases hlt2 : t < N
         · have hlt2' : (t : Int) < (N : Int) := by omega
           have ht0 : (0 : Int) ≤ (t : Int) := by omega
           obtain ⟨W9, hW9⟩ : ∃ W9, wr.drew = W9 := ⟨_, rfl⟩
           have b9 : Below W4.heap.size W4 W9 := by rw [← hW9]; exact hI.out.drew
           obtain ⟨cf, cg, bw, _, hvf, hvg⟩ := HSt.out _ b9
           obtain ⟨u0, u1, u2, u3⟩ := cf.cells4
           obtain ⟨t0, t1, t2, t3⟩ := cg.cells4
           obtain ⟨q, hq⟩ : ∃ q, ns[t]? = some q := ⟨_, List.getElem?_eq_getElem (by rw [hN.out]; exact hlt2)⟩
           obtain ⟨r, hr⟩ : ∃ r, ns'[t]? = some r := ⟨_, List.getElem?_eq_getElem (by rw [Hlen.out]; exact hlt2)⟩
           have hqr : r.1 = q.1 := by
             have h1 : (ndsO' ns)[t]? = some q.1 := by unfold ndsO'; rw [List.getElem?_map, hq]; rfl
             have h2 : (ndsO' ns')[t]? = some r.1 := by unfold ndsO'; rw [List.getElem?_map, hr]; rfl
             rw [Hns.out, h1] at h2
             simpa using h2.symm
           obtain ⟨a1, c1, ee1, h1⟩ := nv_cells hvf
           obtain ⟨a2, c2, ee2, h2⟩ := nv_cells hvg
           obtain rfl : va = a1 := by simp only [Value.slice.injEq] at ee1; exact ee1.1
           obtain rfl : ga = a2 := by simp only [Value.slice.injEq] at ee2; exact ee2.1
           clear ee1 ee2
           obtain ⟨g1, o1, rfl, hg1, x0, x1, x2, x3⟩ := h1 t q hq
           obtain ⟨g2, o2, rfl, hg2, y0, y1, y2, y3⟩ := h2 t r hr
           obtain ⟨qa, qc, hqv, _⟩ := (hvf.sub q (List.mem_of_getElem? hq)).form
           obtain ⟨ra, rc, hrv, _⟩ := (hvg.sub r (List.mem_of_getElem? hr)).form
           rw [hqv] at x2
           rw [hrv, hqr] at y2
           rw [hqr] at y0 y1 y3
           obtain ⟨⟨qx, qy, qaa, qm⟩, qv⟩ := q
           try dsimp only at x0 x1 x2 x3 y0 y1 y2 y3
           obtain ⟨ln, hln⟩ : ∃ ln, qaa.length = ln := ⟨_, rfl⟩
           rw [hln] at x2 y2
           have HB9 := Lib.hid b9
           have e3 : (qm == qm) = true := by simp
           have hl1 := cf.lt
           have hl2 := cg.lt
           have hl3 : w.heap.size ≠ W9.heap.size := by omega
           have hl4 : W3.heap.size ≠ W9.heap.size := by omega
           have hl5 : g1 ≠ W9.heap.size := by omega
           have hl6 : g2 ≠ W9.heap.size := by omega
           have hl7 : w.heap.size ≠ W9.heap.size + 1 := by omega
           have hl8 : W3.heap.size ≠ W9.heap.size + 1 := by omega
           have hl9 : g1 ≠ W9.heap.size + 1 := by omega
           have hl10 : g2 ≠ W9.heap.size + 1 := by omega
           clear h1 h2 hq hr hqr b9 cf cg bw hvf hvg hqv hrv hln
           go_wp2_with fail
           go_region
           all_goals
             go_wp2
             exact ⟨⟨t + 1, by go_num, by omega, Lib.hid ((HB9.out.alloc HB9.out.size _).alloc (by have := HB9.out.size; simp; omega) _)⟩, by simp [RowKit.intOf]; omega⟩
         · obtain rfl : t = N := by omega
           have HBf := Lib.hid (HSt.out _ hI.out)
           go_wp2_with (go_at_call 8; refine (HAw.out _ HBf.out.2.2.1 HBf.out.2.2.2.1).mono ?_; rintro e W11 ⟨rfl, hb11⟩; have HB11 := Lib.hid hb11; clear hb11)
           go_ret
           exact ⟨rfl, HB11.out⟩
 · go_wp2_with (go_at_call 8; refine (HAw.out _ H2.out.2.1 H2.out.2.2.1).mono ?_; rintro e W3 ⟨rfl, hb3⟩; have HB3 := Lib.hid hb3; clear hb3)
   go_ret
   exact ⟨rfl, HB3.out⟩
end
end Go.Proofs.YtofklahgpkmfmaaGreatDoor
