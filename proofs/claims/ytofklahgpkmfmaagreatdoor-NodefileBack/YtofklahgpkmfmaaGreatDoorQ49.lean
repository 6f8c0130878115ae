/- Own texts, put together: Qzf. -/
import Derived.Test.YtofklahgpkmfmaaGreatDoorQ45
import Derived.Test.YtofklahgpkmfmaaGreatDoorQ48
/- The law NodefileBack. -/
namespace Go.Proofs.YtofklahgpkmfmaaGreatDoor
set_option maxRecDepth 100000
open Go.RowKit Go.Shelf Go.Lib
theorem readT {p : Pm} (hp : p.Ok) (t : Bs) (w : World) (hl : t.length ≤ 9223372036854775807) (hT : T10 w) (f : Fd) (at' : Nat) (er : Int) (hr : rfV p t = (f, at', er)) :
   Calls Tryz.prog 10 #[sv t] w fun e w' => ∃ a c ns z k m, e = .returned (.tuple #[.agg #[.slice a ns.length c, .bool z, .int .i64 (k : Nat), .bool m], .int .i64 (at' : Nat), .int .i64 er]) ∧ Nr w' w.heap.size (.slice a ns.length c) ns ∧ f = ⟨ndsO ns, z, (k : Nat), m⟩ ∧ k ≤ 16 ∧ Below w.heap.size w w' := by
 refine (readN_any hp ⟨t.toArray⟩ t w (by simp) hl hT.1.1 hT.2).mono ?_
 rintro e w' ⟨hb, a, c, ns, z, k, m, rfl, hF⟩
 rw [hr] at hF ⊢
 exact ⟨a, c, ns, z, k, m, rfl, hF.row, hF.is, hF.k16, hb⟩
set_option maxHeartbeats 16000000 in
theorem back10_law (v : Value) (ns : List Nt) (z : Bool) (k : Int) (m : Bool) (t : Bs) (w : World) (hv : Nv w v ns) (hl : ∀ q ∈ ns, q.1.a.length ≤ 140737488355328 ∧ ∀ n c, q.2 = .slice none n c → n = 0 ∧ c = 0) (hn : ns.length ≤ 140737488355328) (ht : t.length ≤ 9223372036854775807) (hT : T10 w) :
   Calls Tryz.prog 6 #[.agg #[v, .bool z, .int .i64 k, .bool m], sv t] w fun e w' => e = .returned (.bool true) ∧ Below w.heap.size w w' := by
 obtain ⟨p, hp⟩ := pm_ex
 have HP := Lib.hid hp
 obtain ⟨W1, hW1⟩ : ∃ W1, w.alloc (.cells #[v, .bool z, .int .i64 k, .bool m] 25) = W1 := ⟨_, rfl⟩
 have b1 : Below w.heap.size w W1 := by rw [← hW1]; exact (Below.refl _ w).alloc (Nat.le_refl _) _
 have c1 : CB W1 w.heap.size #[v, .bool z, .int .i64 k, .bool m] 25 := by rw [← hW1]; exact CB.new w _ _
 have HLg := Lib.hid (large10_any v ns z k m W1 (hv.later b1) (fun q hq => (hl q hq).1) hn)
 obtain ⟨k0, k1, k2, k3⟩ := c1.cells4
 have H1 := Lib.hid (And.intro c1 (And.intro b1 (And.intro (hT.later b1) (hv.later b1))))
 have HL := Lib.hid hl
 obtain ⟨va, vc, hvv⟩ : ∃ va vc, v = .slice va ns.length vc := by
   obtain ⟨a, c, e, _⟩ := hv.form
   exact ⟨a, c, e⟩
 obtain ⟨N, hN⟩ : ∃ N, Hid (ns.length = N) := ⟨_, Lib.hid rfl⟩
 rw [hN.out] at hvv
 subst hvv
 have hsz : (⟨t.toArray⟩ : ByteArray).size = t.length := by rw [Lib.size_eq]
 clear hp hv hl hn b1 c1 hT
 go_enter Tryz.func6, Tryz.ntmps6
 go_wp2_with fail
 try rw [hW1]
 clear hW1
 refine HLg.out.mono ?_
 rintro e W2 ⟨⟨b, rfl, hb⟩, hb2⟩
 have H2 : Hid (CB W2 w.heap.size #[.slice va N vc, .bool z, .int .i64 k, .bool m] 25 ∧ Below w.heap.size w W2 ∧ T10 W2 ∧ Nv W2 (.slice va N vc) ns) := Lib.hid ⟨H1.out.1.later hb2, H1.out.2.1.trans (hb2.mono H1.out.2.1.size), H1.out.2.2.1.later hb2, H1.out.2.2.2.later hb2⟩
 have HLb := Lib.hid hb
 clear hb hb2 HLg H1 k0 k1 k2 k3
 have HAw : Hid (∀ W, Below w.heap.size w W → T10 W → Calls Tryz.prog 8 #[] W fun e w' => e = .returned (.bool true) ∧ Below w.heap.size w w') := Lib.hid fun W hW hT => (awake10 W hT).mono fun e w' h => ⟨h.1, hW.trans (h.2.mono hW.size)⟩
 cases b
 · by_cases hlt : 20000 < (t.length : Int)
   · go_wp2_with (go_at_call 8; refine (HAw.out _ H2.out.2.1 H2.out.2.2.1).mono ?_; rintro e W3 ⟨rfl, hb3⟩; have HB3 := Lib.hid hb3; clear hb3)
     go_ret
     exact ⟨rfl, HB3.out⟩
   · go_wp2_with fail
     refine (awake10 _ H2.out.2.2.1).mono ?_
     rintro e W3 ⟨rfl, hb3⟩
     have H3 : Hid (CB W3 w.heap.size #[.slice va N vc, .bool z, .int .i64 k, .bool m] 25 ∧ Below w.heap.size w W3 ∧ T10 W3 ∧ Nv W3 (.slice va N vc) ns) := Lib.hid ⟨H2.out.1.later hb3, H2.out.2.1.trans (hb3.mono H2.out.2.1.size), H2.out.2.2.1.later hb3, H2.out.2.2.2.later hb3⟩
     clear hb3 H2
     have hbd := HLb.out (by first | rfl | trivial)
     have HG := Lib.hid (given10_any (.slice va N vc) ns z k m W3 H3.out.2.2.2 (by omega) (fun q hq => ⟨by have := hbd.2 q hq; omega, (HL.out q hq).2⟩))
     have HBd := Lib.hid hbd
     obtain ⟨k0, k1, k2, k3⟩ := H3.out.1.cells4
     clear hbd
     go_wp2_with fail
     refine HG.out.mono ?_
     rintro e W4 ⟨ga, gc, ns', rfl, hnv, hns, hb4⟩
     have H4 : Hid (CB W4 w.heap.size #[.slice va N vc, .bool z, .int .i64 k, .bool m] 25 ∧ Below w.heap.size w W4 ∧ T10 W4 ∧ Nv W4 (.slice va N vc) ns) := Lib.hid ⟨H3.out.1.later hb4, H3.out.2.1.trans (hb4.mono H3.out.2.1.size), H3.out.2.2.1.later hb4, H3.out.2.2.2.later hb4⟩
     obtain ⟨F, hF⟩ : ∃ F, Hid ((⟨ndsO' ns, z, k, m⟩ : Fd) = F) := ⟨_, Lib.hid rfl⟩
     have HWr : Hid (Calls Tryz.prog 21 #[.agg #[.slice ga ns'.length gc, .bool z, .int .i64 k, .bool m]] W4 fun e w' => e = .returned (.tuple #[sv (wrN p F).1, .int .i64 (wrN p F).2]) ∧ Below W4.heap.size W4 w') := Lib.hid (by
       have hlen : ns'.length = ns.length := by have := congrArg List.length hns; simpa [ndsO'] using this
       have := writeN_any HP.out _ ns' z k m W4 hnv (by have := HBd.out.1; omega) H4.out.2.2.1.1
       rwa [hns, hF.out] at this)
     have HWA := Lib.hid (show ∀ q ∈ F.ns, wdA q by rw [← hF.out]; exact H4.out.2.2.2.wa)
     clear hnv hns hb4 HG H3 k0 k1 k2 k3
     go_wp2_with fail
     refine HWr.out.mono ?_
     rintro e W5 ⟨rfl, hb5⟩
     have H5 : Hid (CB W5 w.heap.size #[.slice va N vc, .bool z, .int .i64 k, .bool m] 25 ∧ Below w.heap.size w W5 ∧ T10 W5 ∧ Nv W5 (.slice va N vc) ns) := Lib.hid ⟨H4.out.1.later hb5, H4.out.2.1.trans (hb5.mono H4.out.2.1.size), H4.out.2.2.1.later hb5, H4.out.2.2.2.later hb5⟩
     clear hb5 HWr H4
     obtain ⟨er, her⟩ : ∃ er, Hid ((wrN p F).2 = er) := ⟨_, Lib.hid rfl⟩
     obtain ⟨s, hs⟩ : ∃ s, Hid ((wrN p F).1 = s) := ⟨_, Lib.hid rfl⟩
     rw [her.out, hs.out]
     by_cases h0 : er = 0
     rotate_left
     focus
       have h0' : (er == 0) = false := by simpa using h0
       have HC : Hid (Below w.heap.size w W5 ∧ T10 W5) := Lib.hid ⟨H5.out.2.1, H5.out.2.2.1⟩
       clear h0
       go_wp2_with fail
     rotate_left
     focus
       subst h0
       have HRb := Lib.hid (wr_back HP.out HWA.out her.out)
       rw [hs.out] at HRb
       have hsl := wr_len her.out
       rw [hs.out] at hsl
       have HGd := Lib.hid (wr_good her.out)
       go_wp2_with fail
       refine (readT HP.out s _ (by omega) H5.out.2.2.1 _ _ _ HRb.out).mono ?_
       rintro e W6 ⟨a6, c6, ms, z6, k6, m6, rfl, hmr, hmf, _, hb6⟩
       have hm1 : ndsO ms = F.ns.map cn := (congrArg Fd.ns hmf).symm
       obtain rfl : z = z6 := by have := congrArg Fd.z hmf; rw [← hF.out] at this; exact this
       obtain rfl : k = ((k6 : Nat) : Int) := by have := congrArg Fd.k hmf; rw [← hF.out] at this; exact this
       obtain rfl : m = m6 := by have := congrArg Fd.m hmf; rw [← hF.out] at this; exact this
       obtain ⟨W7, hW7⟩ : ∃ W7, W6.alloc (.cells #[.slice a6 ms.length c6, .bool z, .int .i64 (k6 : Nat), .bool m] 29) = W7 := ⟨_, rfl⟩
       have b7 : Below W6.heap.size W6 W7 := by rw [← hW7]; exact (Below.refl _ _).alloc (Nat.le_refl _) _
       have b57 : Below W5.heap.size W5 W7 := hb6.trans (b7.mono hb6.size)
       obtain ⟨W8, hW8⟩ : ∃ W8, W7.drew = W8 := ⟨_, rfl⟩
       have b58 : Below W5.heap.size W5 W8 := by rw [← hW8]; exact b57.drew
       have b68 : Below W6.heap.size W6 W8 := by rw [← hW8]; exact b7.drew
       have cg : CB W8 W6.heap.size #[.slice a6 ms.length c6, .bool z, .int .i64 (k6 : Nat), .bool m] 29 := by rw [← hW8, ← hW7]; exact CB.new W6 _ _
       have cf := H5.out.1.later b58
       obtain ⟨k0, k1, k2, k3⟩ := cf.cells4
       obtain ⟨j0, j1, j2, j3⟩ := cg.cells4
       have HBk : Hid (Calls Tryz.prog 12 #[.agg #[.slice a6 ms.length c6, .bool z, .int .i64 (k6 : Nat), .bool m]] W8 fun e w' => e = .returned (.agg #[.slice a6 ms.length c6, .bool z, .int .i64 (k6 : Nat), .bool m]) ∧ Below W8.heap.size W8 w') := Lib.hid (back10_any a6 _ c6 z _ m W8)
       have HSm : Hid (∀ W', Below W8.heap.size W8 W' → Calls Tryz.prog 11 #[.agg #[.slice a6 ms.length c6, .bool z, .int .i64 (k6 : Nat), .bool m], .agg #[.slice va N vc, .bool z, .int .i64 (k6 : Nat), .bool m]] W' fun e w' => e = .returned (.bool true) ∧ Below w.heap.size w w' ∧ T10 w') := Lib.hid (fun W' hW' => by
         have hF' : F.ns = ndsO' ns := by rw [← hF.out]
         have hg : ∀ q ∈ ndsO' ns, amiss F.k F.m q = false ∧ p.pt q.x q.y = true := fun q hq => (HGd.out.2 q (by rw [hF']; exact hq)).1
         obtain ⟨s1, s2⟩ := same_list HP.out (by rw [hm1, hF']) hg
         have bw5 := H5.out.2.1
         have b5' : Below W5.heap.size W5 W' := b58.trans (hW'.mono b58.size)
         have bw' : Below w.heap.size w W' := bw5.trans (b5'.mono bw5.size)
         have hb6' := (hmr.later b68).nv.later hW'
         refine (same10_any _ _ ms ns z m _ W' hb6' (H5.out.2.2.2.later b5') s1 s2 (by have := HBd.out.1; omega) (fun q hq => ?_)).mono fun e w' h => ⟨h.1, bw'.trans (h.2.mono bw'.size), (H5.out.2.2.1.later b5').later h.2⟩
         have hq' : q.1 ∈ (ndsO' ns).map cn := by rw [← hF', ← hm1]; exact List.mem_map.2 ⟨q, hq, rfl⟩
         obtain ⟨r, hr, e⟩ := List.mem_map.1 hq'
         obtain ⟨r2, hr2, e2⟩ := List.mem_map.1 hr
         have := HBd.out.2 r2 hr2
         rw [← e, ← e2]
         show (r2.1.a.map cz).length ≤ _
         rw [List.length_map]
         omega)
       have Hcf := Lib.hid cf
       clear b7 b57 b58 b68 cg cf hmr hmf hb6 hm1 HRb hsl
       go_wp2_with fail
       apply share
       · intro key
         go_region_with (first
           | (go_at_call 12; refine HBk.out.mono ?_; rintro e W9 ⟨rfl, hb9⟩; have HB9 := Lib.hid hb9; obtain ⟨i0, i1, i2, i3⟩ := (Hcf.out.later hb9).cells4; clear hb9)
           | (go_at_call 11; refine (HSm.out _ HB9.out).mono ?_; rintro e W10 ⟨rfl, hw10, ht10⟩; have HC : Hid (Below w.heap.size w W10 ∧ T10 W10) := Lib.hid ⟨hw10, ht10⟩; clear hw10 ht10))
         all_goals
           clear HB9 i0 i1 i2 i3
           revert HC
           revert W10
           exact key.get
       intro W10 HC
       go_wp2_with fail
     all_goals
       obtain ⟨q, hq⟩ : ∃ q, Hid (rfV p t = q) := ⟨_, Lib.hid rfl⟩
       obtain ⟨G, at2, e2⟩ := q
       refine (readT HP.out t _ ht HC.out.2 G at2 e2 hq.out).mono ?_
       rintro e V1 ⟨a2, c2, gs, z2, k2, m2, rfl, hgr, hgf, _, hv1⟩
       obtain ⟨V2, hV2⟩ : ∃ V2, V1.alloc (.cells #[.slice a2 gs.length c2, .bool z2, .int .i64 (k2 : Nat), .bool m2] 29) = V2 := ⟨_, rfl⟩
       have d2 : Below V1.heap.size V1 V2 := by rw [← hV2]; exact (Below.refl _ _).alloc (Nat.le_refl _) _
       have bw1 : Below w.heap.size w V1 := HC.out.1.trans (hv1.mono HC.out.1.size)
       have bw2 : Below w.heap.size w V2 := bw1.trans (d2.mono bw1.size)
       have cg : CB V2 V1.heap.size #[.slice a2 gs.length c2, .bool z2, .int .i64 (k2 : Nat), .bool m2] 29 := by rw [← hV2]; exact CB.new V1 _ _
       have HV2 : Hid (Below w.heap.size w V2 ∧ T10 V2 ∧ Nv V2 (.slice a2 gs.length c2) gs ∧ CB V2 V1.heap.size #[.slice a2 gs.length c2, .bool z2, .int .i64 (k2 : Nat), .bool m2] 29) := Lib.hid ⟨bw2, (HC.out.2.later hv1).later d2, (hgr.later d2).nv, cg⟩
       obtain ⟨y0, y1, y2, y3⟩ := cg.cells4
       have HGf := Lib.hid hgf
       clear d2 bw1 bw2 cg hgr hv1 hgf HC
       by_cases h2 : e2 = 0
       · subst h2
         have ht2 : t.length ≤ 20000 := by omega
         have hwr := rd_written HP.out ht2 (by rw [hq.out])
         rw [hq.out, HGf.out] at hwr
         try dsimp only at hwr
         have hgl : gs.length ≤ 10000 := by have := hwr.2; simpa [ndsO] using this
         have HGd := Lib.hid (wr_good hwr.1)
         have HRb := Lib.hid (wr_back HP.out (f := ⟨ndsO gs, z2, (k2 : Nat), m2⟩) (fun q hq => HV2.out.2.2.1.wa q hq) hwr.1)
         have hsl := wr_len hwr.1
         have HW2 := Lib.hid (writeN_any HP.out _ gs z2 (k2 : Nat) m2 V2 HV2.out.2.2.1 (by omega) HV2.out.2.1.1)
         rw [show (⟨ndsO' gs, z2, (k2 : Nat), m2⟩ : Fd) = ⟨ndsO gs, z2, (k2 : Nat), m2⟩ from rfl, hwr.1] at HW2
         obtain ⟨s2, hs2⟩ : ∃ s2, (wrN p ⟨ndsO gs, z2, (k2 : Nat), m2⟩).1 = s2 := ⟨_, rfl⟩
         rw [hs2] at HW2 HRb hsl
         have HSl := Lib.hid hsl
         have HGl := Lib.hid hgl
         clear hwr hs2 hsl hgl ht2
         go_wp2_with fail
         try rw [hV2]
         clear hV2
         refine HW2.out.mono ?_
         rintro e V3 ⟨rfl, hv3⟩
         have HV3 : Hid (Below w.heap.size w V3 ∧ T10 V3 ∧ Nv V3 (.slice a2 gs.length c2) gs ∧ CB V3 V1.heap.size #[.slice a2 gs.length c2, .bool z2, .int .i64 (k2 : Nat), .bool m2] 29) := Lib.hid ⟨HV2.out.1.trans (hv3.mono HV2.out.1.size), HV2.out.2.1.later hv3, HV2.out.2.2.1.later hv3, HV2.out.2.2.2.later hv3⟩
         clear hv3 y0 y1 y2 y3 HV2 HW2
         go_wp2_with fail
         refine (readT HP.out s2 _ (by have := HSl.out; omega) HV3.out.2.1 _ _ _ HRb.out).mono ?_
         rintro e V4 ⟨a3, c3, hs, z3, k3', m3, rfl, hhr, hhf, _, hv4⟩
         have hm1 : ndsO hs = (ndsO gs).map cn := (congrArg Fd.ns hhf).symm
         obtain rfl : z2 = z3 := congrArg Fd.z hhf
         obtain rfl : k2 = k3' := by have := congrArg Fd.k hhf; simp only [] at this; omega
         obtain rfl : m2 = m3 := congrArg Fd.m hhf
         obtain ⟨V5, hV5⟩ : ∃ V5, V4.alloc (.cells #[.slice a3 hs.length c3, .bool z2, .int .i64 (k2 : Nat), .bool m2] 29) = V5 := ⟨_, rfl⟩
         obtain ⟨V6, hV6⟩ : ∃ V6, V5.drew = V6 := ⟨_, rfl⟩
         have d6 : Below V4.heap.size V4 V6 := by rw [← hV6, ← hV5]; exact ((Below.refl _ _).alloc (Nat.le_refl _) _).drew
         have d36 : Below V3.heap.size V3 V6 := hv4.trans (d6.mono hv4.size)
         have ch : CB V6 V4.heap.size #[.slice a3 hs.length c3, .bool z2, .int .i64 (k2 : Nat), .bool m2] 29 := by rw [← hV6, ← hV5]; exact CB.new V4 _ _
         have cg := HV3.out.2.2.2.later d36
         obtain ⟨x0, x1, x2, x3⟩ := ch.cells4
         obtain ⟨y0, y1, y2, y3⟩ := cg.cells4
         have HBk : Hid (∀ W' a n c, Below V6.heap.size V6 W' → Calls Tryz.prog 12 #[.agg #[.slice a n c, .bool z2, .int .i64 (k2 : Nat), .bool m2]] W' fun e w' => e = .returned (.agg #[.slice a n c, .bool z2, .int .i64 (k2 : Nat), .bool m2]) ∧ Below V6.heap.size V6 w') := Lib.hid (fun W' a n c hW' => (back10_any a n c z2 _ m2 W').mono fun e w' h => ⟨h.1, hW'.trans (h.2.mono hW'.size)⟩)
         have HSm : Hid (∀ W', Below V6.heap.size V6 W' → Calls Tryz.prog 11 #[.agg #[.slice a3 hs.length c3, .bool z2, .int .i64 (k2 : Nat), .bool m2], .agg #[.slice a2 gs.length c2, .bool z2, .int .i64 (k2 : Nat), .bool m2]] W' fun e w' => e = .returned (.bool true) ∧ Below w.heap.size w w') := Lib.hid (fun W' hW' => by
           obtain ⟨s1, s2⟩ := same_list (ns := gs) HP.out hm1 (fun q hq => (HGd.out.2 q hq).1)
           have b3' : Below V3.heap.size V3 W' := d36.trans (hW'.mono d36.size)
           have bw' : Below w.heap.size w W' := HV3.out.1.trans (b3'.mono HV3.out.1.size)
           refine (same10_any _ _ hs gs z2 m2 _ W' ((hhr.later d6).nv.later hW') (HV3.out.2.2.1.later b3') s1 s2 (by have := HGl.out; omega) (fun q hq => ?_)).mono fun e w' h => ⟨h.1, bw'.trans (h.2.mono bw'.size)⟩
           have hq' : q.1 ∈ (ndsO gs).map cn := by rw [← hm1]; exact List.mem_map.2 ⟨q, hq, rfl⟩
           obtain ⟨r, hr, e⟩ := List.mem_map.1 hq'
           have := (HGd.out.2 r hr).2
           rw [← e]
           show (r.a.map cz).length ≤ _
           rw [List.length_map]
           omega)
         have HCc : Hid (∀ W', Below V6.heap.size V6 W' → CB W' V4.heap.size #[.slice a3 hs.length c3, .bool z2, .int .i64 (k2 : Nat), .bool m2] 29 ∧ CB W' V1.heap.size #[.slice a2 gs.length c2, .bool z2, .int .i64 (k2 : Nat), .bool m2] 29) := Lib.hid (fun W' h => ⟨ch.later h, cg.later h⟩)
         have hr6 := Below.refl V6.heap.size V6
         clear d6 d36 ch cg hhr hhf hm1 hv4
         go_wp2_with fail
         go_region_with (first
           | (go_at_call 12; refine (HBk.out _ _ _ _ (by assumption)).mono ?_; rintro e Va ⟨rfl, hva⟩; obtain ⟨hca, hcb⟩ := HCc.out _ hva; obtain ⟨x0, x1, x2, x3⟩ := hca.cells4; obtain ⟨y0, y1, y2, y3⟩ := hcb.cells4; clear hca hcb)
           | (go_at_call 11; refine (HSm.out _ (by assumption)).mono ?_; rintro e Vb ⟨rfl, hvb⟩; have HBv := Lib.hid hvb; clear hvb))
         all_goals
           go_wp2
           go_ret
           exact ⟨rfl, HBv.out⟩
       · have h2' : (e2 == 0) = false := by simpa using h2
         go_wp2
         go_ret
         exact ⟨rfl, HV2.out.1⟩
 · go_wp2_with (go_at_call 8; refine (HAw.out _ H2.out.2.1 H2.out.2.2.1).mono ?_; rintro e W3 ⟨rfl, hb3⟩; have HB3 := Lib.hid hb3; clear hb3)
   go_ret
   exact ⟨rfl, HB3.out⟩
end Go.Proofs.YtofklahgpkmfmaaGreatDoor
