/- Own texts, put together: Wk Wl Wm Wn Na Nb. -/
import Derived.Test.YtocnkgfoffpbfaaGreatDoorQ2
import Derived.Test.YtocnkgfoffpbfaaGreatDoorQ5
import Derived.Test.YtocnkgfoffpbfaaGreatDoorQ12
import Derived.Test.YtocnkgfoffpbfaaGreatDoorQ13
import Derived.Lib.SliceRun
namespace Go.Proofs.YtocnkgfoffpbfaaGreatDoor
/- The walk of times: the product of two magnitudes. -/
section
open Go.RowKit
attribute [local go_sem ↓] Go.wp_at_zero Go.wp_at_succ
theorem times_step (zs ps : List Nat) (k n B wv : Nat) (hl : k + n + 1 ≤ zs.length) (hp : ps.length = n + 1) (hz : ∀ j, k + n ≤ j → zs.getD j 0 = 0) (hv : val ps = val ((zs.drop k).take n) + B * wv) :
   val (btRow zs ps k (n + 1)) = val zs + 2 ^ (64 * k) * (B * wv) ∧ ∀ j, k + 1 + n ≤ j → (btRow zs ps k (n + 1)).getD j 0 = 0 := by
 have hd : val (zs.drop (k + (n + 1))) = 0 := val_zero fun j => by rw [getD_drop]; exact hz _ (by omega)
 have e1 : val zs = val (zs.take k) + 2 ^ (64 * k) * val ((zs.drop k).take n) := by
   rw [val_take_drop zs k (by omega), val_take (ns := zs.drop k) n (fun j hj => by rw [getD_drop]; exact hz _ (by omega))]
 refine ⟨?_, fun j hj => ?_⟩
 · unfold btRow
   rw [val_append, val_append, hd, hv, List.length_take, Nat.min_eq_left (by omega), e1]
   generalize 2 ^ (64 * k) = p
   grind
 · unfold btRow
   rw [List.getD, List.getElem?_append_right (by simp; omega)]
   have := hz (k + (n + 1) + (j - (List.take k zs ++ ps).length)) (by omega)
   rw [List.getD] at this
   rw [List.getElem?_drop]; exact this
theorem rep_getD (n j : Nat) : (List.replicate n (0 : Nat)).getD j 0 = 0 := by
 rw [List.getD, List.getElem?_replicate]; split <;> rfl
theorem rep_val (n : Nat) : val (List.replicate n 0) = 0 := val_zero (rep_getD n)
theorem small_bt {zs ps : List Nat} (h1 : Small zs) (h2 : Small ps) (i k : Nat) : Small (btRow zs ps i k) :=
 small_app (small_app (fun n hn => h1 n (List.mem_of_mem_take hn)) h2) (small_drop h1 _)
set_option maxHeartbeats 2000000 in
theorem times_walk (a1 a2 : Option Addr) (c1 c2 : Nat) (ns1 ns2 : List Nat) (low1 low2 : Int) (w : World)
   (h1 : Ws w (.slice a1 ns1.length c1) ns1) (h2 : Ws w (.slice a2 ns2.length c2) ns2) (hT : Tab w) (l1 : ns1.length ≤ 10000) (l2 : ns2.length ≤ 10000)
   (b1 : -70000 ≤ low1) (b2 : low1 ≤ 70000) (b3 : -70000 ≤ low2) (b4 : low2 ≤ 70000) :
   Calls Tryz.prog 117 #[.agg #[.slice a1 ns1.length c1, .int .i64 low1], .agg #[.slice a2 ns2.length c2, .int .i64 low2]] w fun e w' => Made w w' (val ns1 * val ns2) (low1 + low2) e := by
 obtain ⟨i0, hi, hz0, hz1, hz2⟩ := info_parts Tryz.info86'
 have HT : Hid (Tab w) := hT
 have HB0 : Hid (Below w.heap.size w (((w.alloc (.cells #[.slice a1 ns1.length c1, .int .i64 low1] 47)).alloc (.cells #[.slice a2 ns2.length c2, .int .i64 low2] 47)).alloc (.cells #[.slice none 0 0, .int .i64 0] 47))) := (((Below.refl _ _).alloc (Nat.le_refl _) _).alloc (by simp) _).alloc (by simp; omega) _
 have l1' : (ns1.length : Int) ≤ 10000 := by omega
 have l2' : (ns2.length : Int) ≤ 10000 := by omega
 clear hT
 go_enter Tryz.func117, Tryz.ntmps117
 go_wp2_with (at_make; refine wpList_make_full _ rfl _ _ 45 rfl w.heap.size 86 i0 (.int .u64 0) 1 Tryz.underlying45 hi hz0 hz1 _ _ _ _ (ns1.length + ns2.length) rfl rfl ?hL ?hC ?b2 ?b3 ?b4 ?_)
 case hL => omega
 case hC => omega
 case b2 => rw [hz2]; omega
 case b3 => unfold maxLen; omega
 case b4 => simp; omega
 intro w0 hown0 hgrow0
 have hrow := Row.of_make hown0
 have hbW : Below (((w.alloc (.cells #[.slice a1 ns1.length c1, .int .i64 low1] 47)).alloc (.cells #[.slice a2 ns2.length c2, .int .i64 low2] 47)).alloc (.cells #[.slice none 0 0, .int .i64 0] 47)).heap.size (((w.alloc (.cells #[.slice a1 ns1.length c1, .int .i64 low1] 47)).alloc (.cells #[.slice a2 ns2.length c2, .int .i64 low2] 47)).alloc (.cells #[.slice none 0 0, .int .i64 0] 47)) w0 := (Below.refl _ _).grown hgrow0 (Nat.le_refl _) (fun k hk => by cases hk)
 have hx0 : w0.cell? ⟨w.heap.size, 0, none⟩ = some (.slice a1 ns1.length c1) := cell_later hbW (by go_simp)
 have hx1 : w0.cell? ⟨w.heap.size, 1, none⟩ = some (.int .i64 low1) := cell_later hbW (by go_simp)
 have hx2 : w0.cell? ⟨w.heap.size + 1, 0, none⟩ = some (.slice a2 ns2.length c2) := cell_later hbW (by go_simp)
 have hx3 : w0.cell? ⟨w.heap.size + 1, 1, none⟩ = some (.int .i64 low2) := cell_later hbW (by go_simp)
 clear hown0 hgrow0 hz0 hz1 hz2 hi
 go_wp2
 generalize hg : w.heap.size + 1 + 1 + 1 = g at *
 have hgN : w.heap.size + 3 ≤ g := by omega
 clear hg
 go_loopw [19] (fun j wr => ∃ (k : Nat) (zs : List Nat), k ≤ ns1.length ∧ j = .int .i64 k ∧ zs.length = ns1.length + ns2.length ∧ Small zs ∧ val zs = val (ns1.take k) * val ns2 ∧ (∀ t, k + ns2.length ≤ t → zs.getD t 0 = 0) ∧ Row wr 86 g (wds zs) ∧ wr.cell? ⟨w.heap.size, 0, none⟩ = some (.slice a1 ns1.length c1) ∧ wr.cell? ⟨w.heap.size, 1, none⟩ = some (.int .i64 low1) ∧ wr.cell? ⟨w.heap.size + 1, 0, none⟩ = some (.slice a2 ns2.length c2) ∧ wr.cell? ⟨w.heap.size + 1, 1, none⟩ = some (.int .i64 low2) ∧ Below (((w.alloc (.cells #[.slice a1 ns1.length c1, .int .i64 low1] 47)).alloc (.cells #[.slice a2 ns2.length c2, .int .i64 low2] 47)).alloc (.cells #[.slice none 0 0, .int .i64 0] 47)).heap.size (((w.alloc (.cells #[.slice a1 ns1.length c1, .int .i64 low1] 47)).alloc (.cells #[.slice a2 ns2.length c2, .int .i64 low2] 47)).alloc (.cells #[.slice none 0 0, .int .i64 0] 47)) wr)
   (fun j _ => ns1.length - (intOf j).toNat)
 case atStart => exact ⟨0, List.replicate (ns1.length + ns2.length) 0, Nat.zero_le _, rfl, by simp, fun n hn => by rw [List.mem_replicate] at hn; omega, by rw [rep_val]; simp [val], fun t _ => rep_getD _ t, by simpa [wds] using hrow, hx0, hx1, hx2, hx3, hbW⟩
 case round =>
   obtain ⟨k, zs, hk, rfl, hzl, hzs, hzv, hzz, hrk, hy0, hy1, hy2, hy3, hbk⟩ := hrel
   clear hx0 hx1 hx2 hx3 hbW hrow
   by_cases hlt : k < ns1.length
   · have hW1 := h1.later (thru HB0.out hbk) (Nat.le_refl _)
     obtain ⟨b, off, rfl, hck⟩ : ∃ b off, a1 = some ⟨b, off, none⟩ ∧ wr.cell? ⟨b, off + k, none⟩ = some (.int .u64 (ns1.getD k 0 : Nat)) := by
       obtain ⟨a, cap, hs, _, hc⟩ := hW1.shape
       simp only [Value.slice.injEq] at hs
       obtain ⟨rfl, _, rfl⟩ := hs
       rcases hc with hc | ⟨b, off, ha, _, hc⟩
       · rw [hc] at hlt; simp at hlt
       · exact ⟨b, off, ha, hc k hlt⟩
     have hkl : (k : Int) < (ns1.length : Int) := by omega
     have hwk := small_getD hW1.small k
     have HNV : Hid (∀ ps : List Nat, ps.length = ns2.length + 1 → val ps = val ((zs.drop k).take ns2.length) + val ns2 * ns1.getD k 0 → val (btRow zs ps k (ns2.length + 1)) = val (ns1.take (k + 1)) * val ns2 ∧ ∀ t, k + 1 + ns2.length ≤ t → (btRow zs ps k (ns2.length + 1)).getD t 0 = 0) := fun ps hp hv => by
       have := times_step zs ps k ns2.length (val ns2) (ns1.getD k 0) (by omega) hp hzz hv
       refine ⟨?_, this.2⟩
       rw [this.1, hzv, val_take_succ]
       generalize 2 ^ (64 * k) = p
       grind
     have hbt := fun (W : World) (hW : Below (((w.alloc (.cells #[.slice (some ⟨b, off, none⟩) ns1.length c1, .int .i64 low1] 47)).alloc (.cells #[.slice a2 ns2.length c2, .int .i64 low2] 47)).alloc (.cells #[.slice none 0 0, .int .i64 0] 47)).heap.size (((w.alloc (.cells #[.slice (some ⟨b, off, none⟩) ns1.length c1, .int .i64 low1] 47)).alloc (.cells #[.slice a2 ns2.length c2, .int .i64 low2] 47)).alloc (.cells #[.slice none 0 0, .int .i64 0] 47)) W) (hR : Row W 86 g (wds zs)) => bt_walk _ ns2 zs g k (ns1.getD k 0) w W h2 (thru HB0.out hW) (by omega) hR hzs hwk (by omega) (by omega)
     rw [hzl] at hbt
     have HBT : Hid _ := hbt
     have HZL : Hid _ := hzl
     have HRK : Hid (Row wr 86 g (wds zs)) := hrk
     have HZS : Hid (Small zs) := hzs
     generalize ns1.getD k 0 = x at *
     have hs1 : ((k : Int)) ≤ ((ns1.length + ns2.length : Nat) : Int) := by omega
     have hs2 : ¬ (ns1.length + ns2.length = k) := by omega
     have hs3 : ((k : Int)) ≤ (ns1.length : Int) + (ns2.length : Int) := by omega
     clear hbt hzl hzs hzv hzz hrk hW1 h1
     go_wp2
     go_region_held3 (fun W => W.cell? ⟨w.heap.size, 0, none⟩ = some (.slice (some ⟨b, off, none⟩) ns1.length c1) ∧ W.cell? ⟨w.heap.size, 1, none⟩ = some (.int .i64 low1) ∧ W.cell? ⟨w.heap.size + 1, 0, none⟩ = some (.slice a2 ns2.length c2) ∧ W.cell? ⟨w.heap.size + 1, 1, none⟩ = some (.int .i64 low2) ∧ Below (((w.alloc (.cells #[.slice (some ⟨b, off, none⟩) ns1.length c1, .int .i64 low1] 47)).alloc (.cells #[.slice a2 ns2.length c2, .int .i64 low2] 47)).alloc (.cells #[.slice none 0 0, .int .i64 0] 47)).heap.size (((w.alloc (.cells #[.slice (some ⟨b, off, none⟩) ns1.length c1, .int .i64 low1] 47)).alloc (.cells #[.slice a2 ns2.length c2, .int .i64 low2] 47)).alloc (.cells #[.slice none 0 0, .int .i64 0] 47)) W)
       (first
         | assumption
         | exact ⟨hy0, hy1, hy2, hy3, hbk.drew⟩
         | exact keep4g (by assumption) (by assumption) (by simp; omega) (by simp; omega) (by simp; omega) (by simp; omega) (by simp; omega))
       (first
         | (go_at_call 139; refine (HBT.out _ hbk.drew HRK.out).mono ?_; rintro e wy ⟨rfl, ps, hpl, hps, hpv, hpr, hgr⟩))
     have hh := (by assumption : wy.cell? ⟨w.heap.size, 0, none⟩ = _ ∧ wy.cell? _ = _ ∧ wy.cell? _ = _ ∧ wy.cell? _ = _ ∧ Below _ _ wy)
     have HH : Hid _ := hh
     have hnv := HNV.out ps hpl hpv
     have HN1 : Hid _ := hnv.1
     have HN2 : Hid _ := hnv.2
     have HPL : Hid _ := hpl
     have HPS : Hid _ := hps
     have HPR : Hid _ := hpr
     clear hh hnv hpl hps hpr hpv hgr
     go_wp2
     exact ⟨⟨k + 1, btRow zs ps k (ns2.length + 1), by omega, by go_num, by rw [btRow_length _ _ _ _ HPL.out (by have := HZL.out; omega)]; exact HZL.out, small_bt HZS.out HPS.out _ _, HN1.out, HN2.out, HPR.out, HH.out.1, HH.out.2.1, HH.out.2.2.1, HH.out.2.2.2.1, HH.out.2.2.2.2⟩, by simp [intOf]; omega⟩
   · have hkn : k = ns1.length := by omega
     subst hkn
     have hge : ¬ ((ns1.length : Int) < (ns1.length : Int)) := by omega
     have hBw : Below w.heap.size w wr := thru HB0.out hbk
     have hWz : Ws wr (.slice (some ⟨g, 0, none⟩) (ns1.length + ns2.length) (ns1.length + ns2.length)) zs := by
       have := hrk.ws hzs (by omega) (ns1.length + ns2.length) (by omega)
       rw [hzl] at this; exact this
     have hTb := HT.out.later hBw
     have q0 : wr.cell? ⟨w.heap.size + 1 + 1, 0, none⟩ = some (.slice none 0 0) := cell_later hbk (by go_simp)
     have q1 : wr.cell? ⟨w.heap.size + 1 + 1, 1, none⟩ = some (.int .i64 0) := cell_later hbk (by go_simp)
     have q2 : wr.frozen? ⟨w.heap.size + 1 + 1, 0, none⟩ = false := frozen_later hbk (by go_simp) (by simp)
     have q3 : wr.frozen? ⟨w.heap.size + 1 + 1, 1, none⟩ = false := frozen_later hbk (by go_simp) (by simp)
     have hsz : w.heap.size + 1 + 1 < wr.heap.size := by have := hbk.size; simp at this; omega
     have HZ : Hid (val zs = val ns1 * val ns2) := by rw [hzv, List.take_of_length_le (Nat.le_refl _)]; exact rfl
     have HWZ : Hid _ := hWz
     have HTB : Hid (Tab wr) := hTb
     have HBW : Hid _ := hBw
     clear hzl hzs hzv hzz hrk hbk h1 h2 hWz hTb hBw
     go_wp2_with fail
     refine (own_any _ zs _ _ HWZ.out HTB.out (by omega) (by omega)).mono ?_
     rintro e w5 ⟨s5, ns5, low5, rfl, hws5, ho5, ht5, hlo5, hb5⟩
     obtain ⟨a5, c5, rfl, hc5, hx5⟩ := hws5.shape
     have p0 := cell_later hb5 q0
     have p1 := cell_later hb5 q1
     have p2 := frozen_later hb5 q2 hsz
     have p3 := frozen_later hb5 q3 hsz
     have HX5 : Hid _ := hx5
     have HLO5 : Hid (-200000000 ≤ low5 ∧ low5 ≤ 200000000) := hlo5
     clear hx5 q0 q1 q2 q3 hlo5
     go_wp2
     refine bodyPost_ret (v := .agg #[.slice a5 ns5.length c5, .int .i64 low5]) (by simp [results, Tryz.results117, go_sem, p0, p1]) rfl ?_
     have hws6 := (hws5.set p0 (by intro n; simp) (.slice a5 ns5.length c5)).set (cell_ne p1 p0 (by simp) (.slice a5 ns5.length c5)) (by intro n; simp) (.int .i64 low5)
     refine ⟨_, ns5, low5, rfl, hws6, ho5, by rw [← HZ.out]; exact ht5, HLO5.out, ?_⟩
     exact ((thru HBW.out hb5).setCell (by simp; omega) _).setCell (by simp; omega) _
end

/- The walks of slices.Clone and of moved: a number's words copied, its lowest bit moved. -/
section
open Go.RowKit
attribute [local go_sem ↓] Go.wp_at_zero Go.wp_at_succ
theorem ws_of_owns {w : World} {base : Nat} {e : TypeId} {v : Value} {ns : List Nat} (h : w.ownsRow base e 1 v ns.length (wds ns)) (hs : Small ns) (hl : ns.length ≤ 1000000) : Ws w v ns := by
 obtain ⟨h0, ⟨rfl, hn⟩ | ⟨g, cap, cur, rfl, hb, hc, h2, h3, h4, h5⟩⟩ := h
 · have : ns = [] := List.length_eq_zero_iff.1 hn
   subst this
   exact ⟨⟨_, _, rfl, Nat.le_refl _, Or.inl rfl⟩, hs, hl⟩
 · refine ⟨⟨_, _, rfl, h2, Or.inr ⟨g, 0, rfl, ?_, fun j hj => ?_⟩⟩, hs, hl⟩
   · by_cases hg : g < w.heap.size
     · exact hg
     · rw [Array.getElem?_eq_none (by omega)] at hc; cases hc
   · have e1 : cur[j]? = some (.int .u64 (ns.getD j 0 : Nat)) := by
       have : (cur.toList.take (ns.length * 1))[j]? = (wds ns)[j]? := by rw [h5]
       rw [List.getElem?_take_of_lt (by omega), List.getElem?_eq_getElem (l := wds ns) (by rw [wds_length]; exact hj), wds_getD _ _ hj] at this
       simpa using this
     simp [World.cell?, hc, e1]
set_option maxHeartbeats 1000000 in
theorem clone_nil (n c : Nat) (w : World) :
   Calls Tryz.prog 110 #[.slice none n c] w fun e w' => e = .returned (.slice none 0 0) ∧ w' = w := by
 have q : ∀ (w : World) (a : Option Addr) (n c n' c' : Nat), (binOp .eql 45 (.slice a n c) (.slice none n' c')).run Tryz.prog w = .ok (.bool a.isNone) w := fun w a n c n' c' => Lib.run_eql_slice_nil w _ _ a n c n' c' Tryz.underlying45
 go_enter Tryz.func110, Tryz.ntmps110
 go_wp2
 go_ret
 exact ⟨rfl, rfl⟩
set_option maxHeartbeats 1000000 in
theorem clone_some (ad : Addr) (ns : List Nat) (c : Nat) (w : World) (hs : Small ns) (hl : ns.length ≤ 1000000) (hc : ∀ j u, (wds ns)[j]? = some u → w.cell? (ad.add j) = some u) :
   Calls Tryz.prog 110 #[.slice (some ad) ns.length c] w fun e w' => ∃ v', e = .returned v' ∧ Ws w' v' ns ∧ Below w.heap.size w w' := by
 have q : ∀ (w : World) (a : Option Addr) (n c n' c' : Nat), (binOp .eql 45 (.slice a n c) (.slice none n' c')).run Tryz.prog w = .ok (.bool a.isNone) w := fun w a n c n' c' => Lib.run_eql_slice_nil w _ _ a n c n' c' Tryz.underlying45
 obtain ⟨i0, hi, hz0, hz1, hz2⟩ := info_parts Tryz.info86'
 have HC : Hid (∀ j u, (wds ns)[j]? = some u → w.cell? (ad.add j) = some u) := hc
 clear hc
 go_enter Tryz.func110, Tryz.ntmps110
 go_wp2_with (at_builtin; refine wpList_append_own _ rfl _ _ 45 rfl w.heap.size 86 i0 (.int .u64 0) 1 8 Tryz.underlying45 hi hz0 hz1 hz2 rfl (by decide) _ _ _ rfl (World.ownsRow_made w #[] 0 (Nat.le_refl _) (Nat.zero_le _) rfl) ad ns.length c (wds ns) rfl ?qc1 ?qc2 ?qc3 ?qc4 ?qc5 ?qc6 ?_)
 case qc1 => rw [wds_length]; omega
 case qc2 =>
   intro j u hj
   exact Lib.cell?_alloc_some _ (HC.out j u hj)
 case qc3 => intro u hu; obtain ⟨x, _, rfl⟩ := List.mem_map.1 hu; rfl
 case qc4 => unfold maxLen; omega
 case qc5 => omega
 case qc6 => simp
 intro v' w1 hown hgrow hnil
 go_wp2
 go_ret
 refine ⟨v', rfl, ws_of_owns (base := w.heap.size) (e := 86) (by simpa using hown) hs hl, ?_⟩
 exact ((Below.refl _ w).alloc (Nat.le_refl _) _).grown hgrow (by simp) (by intro k hk; simp [Value.ownBlock] at hk; omega)
theorem clone_any (s : Value) (ns : List Nat) (w : World) (h : Ws w s ns) :
   Calls Tryz.prog 110 #[s] w fun e w' => ∃ v', e = .returned v' ∧ Ws w' v' ns ∧ Below w.heap.size w w' := by
 obtain ⟨⟨a, cap, rfl, hcap, hc⟩, hs, hl⟩ := h
 cases a with
 | none =>
   have : ns = [] := by
     rcases hc with hc | ⟨b, off, ha, _⟩
     · exact hc
     · cases ha
   subst this
   refine (clone_nil _ _ w).mono ?_
   rintro e w' ⟨rfl, rfl⟩
   exact ⟨_, rfl, ⟨⟨_, _, rfl, Nat.le_refl _, Or.inl rfl⟩, hs, hl⟩, Below.refl _ _⟩
 | some ad =>
   refine clone_some ad ns cap w hs hl ?_
   intro j u hj
   rcases hc with rfl | ⟨b, off, ha, _, hc⟩
   · simp [wds] at hj
   · cases ha
     have hjl : j < ns.length := by
       have := (List.getElem?_eq_some_iff.1 hj).1
       rwa [wds_length] at this
     rw [List.getElem?_eq_getElem (by rw [wds_length]; exact hjl), wds_getD _ _ hjl] at hj
     rw [Addr.add_lit, hc j hjl, hj]
def Back (w w' : World) (ns : List Nat) (low : Int) (e : Ending) : Prop := ∃ s, e = .returned (.agg #[s, .int .i64 low]) ∧ Ws w' s ns ∧ Below w.heap.size w w'
set_option maxHeartbeats 1000000 in
theorem moved_any (s : Value) (ns : List Nat) (low k : Int) (w : World) (h : Ws w s ns) (h1 : -1000000 ≤ low) (h2 : low ≤ 1000000) (h3 : -1000000 ≤ k) (h4 : k ≤ 1000000) :
   Calls Tryz.prog 77 #[.agg #[s, .int .i64 low], .int .i64 k] w fun e w' => Back w w' ns (low + k) e := by
 have H : Hid (Ws w s ns) := h
 obtain ⟨a1, c1, rfl, hcap, hc⟩ := h.shape
 have HB0 : Hid (Below w.heap.size w ((w.alloc (.cells #[.slice a1 ns.length c1, .int .i64 low] 47)).alloc (.cells #[.slice none 0 0, .int .i64 0] 47))) := ((Below.refl _ _).alloc (Nat.le_refl _) _).alloc (by simp) _
 have hw : IntKind.i64.wrap (low + k) = low + k := wrapI _ (by omega) (by omega)
 clear h hc
 go_enter Tryz.func77, Tryz.ntmps77
 go_wp2
 go_region_held3 (fun W => W.cell? ⟨w.heap.size, 0, none⟩ = some (.slice a1 ns.length c1) ∧ W.cell? ⟨w.heap.size, 1, none⟩ = some (.int .i64 low) ∧ Below w.heap.size w W)
   (first
     | assumption
     | exact ⟨by go_simp, by go_simp, HB0.out.drew⟩
     | exact keep2 (by assumption) (by assumption)
     | exact keep2_set (keep2_set (by assumption) _ _ (by simp) (by simp) (by simp)) _ _ (by simp) (by simp) (by simp))
   (first
     | (go_at_call 110; refine (clone_any _ ns _ ?_).mono ?_; exact H.out.later HB0.out.drew (Nat.le_refl _); rintro e w1 ⟨v1, rfl, hws1, hb1⟩; obtain ⟨a5, c5, rfl, hc5, hx5⟩ := hws1.shape; clear hx5; have p0 : w1.cell? ⟨w.heap.size + 1, 0, none⟩ = some (.slice none 0 0) := cell_later hb1 (by go_simp); have p1 : w1.cell? ⟨w.heap.size + 1, 1, none⟩ = some (.int .i64 0) := cell_later hb1 (by go_simp); have p2 : w1.frozen? ⟨w.heap.size + 1, 0, none⟩ = false := frozen_later hb1 (by go_simp) (by simp); have p3 : w1.frozen? ⟨w.heap.size + 1, 1, none⟩ = false := frozen_later hb1 (by go_simp) (by simp)))
 go_wp2
 refine bodyPost_ret (v := .agg #[.slice a5 ns.length c5, .int .i64 (low + k)]) (by simp [results, Tryz.results77, go_sem, p0, p1]) rfl ?_
 have hws6 := (hws1.set p0 (by intro n; simp) (.slice a5 ns.length c5)).set (cell_ne p1 p0 (by simp) (.slice a5 ns.length c5)) (by intro n; simp) (.int .i64 (low + k))
 exact ⟨_, rfl, hws6, (by assumption : _ ∧ _ ∧ _).2.2⟩
end

/- The walks of cmp.Compare at uint64 and of against: two magnitudes held against each other. -/
section
open Go.RowKit
attribute [local go_sem ↓] Go.wp_at_zero Go.wp_at_succ
def cmpI (x y : Int) : Int := if x < y then -1 else if y < x then 1 else 0
set_option maxHeartbeats 1000000 in
theorem isNaN64_any (x : Int) (w : World) : Calls Tryz.prog 135 #[.int .u64 x] w fun e w' => e = .returned (.bool false) ∧ w' = w := by
 go_enter Tryz.func135, Tryz.ntmps135
 go_wp2
 go_ret
 exact ⟨by simp, rfl⟩
set_option maxHeartbeats 1000000 in
theorem cmp64_any (x y : Int) (w : World) : Calls Tryz.prog 104 #[.int .u64 x, .int .u64 y] w fun e w' => e = .returned (.int .i64 (cmpI x y)) ∧ w' = w := by
 rcases Int.lt_trichotomy x y with h | h | h
 · have hx : ¬ y < x := by omega
   go_enter Tryz.func104, Tryz.ntmps104
   go_wp2_with (first | (go_at_call 135; refine (isNaN64_any _ _).mono ?_; rintro e w' ⟨rfl, rfl⟩))
   go_ret
   exact ⟨by simp [cmpI, h], rfl⟩
 · subst h
   have hx : ¬ x < x := by omega
   go_enter Tryz.func104, Tryz.ntmps104
   go_wp2_with (first | (go_at_call 135; refine (isNaN64_any _ _).mono ?_; rintro e w' ⟨rfl, rfl⟩))
   go_ret
   exact ⟨by simp [cmpI], rfl⟩
 · have hx : ¬ x < y := by omega
   go_enter Tryz.func104, Tryz.ntmps104
   go_wp2_with (first | (go_at_call 135; refine (isNaN64_any _ _).mono ?_; rintro e w' ⟨rfl, rfl⟩))
   go_ret
   exact ⟨by simp [cmpI, h, hx], rfl⟩
theorem cmpInt_any (x y : Int) (w : World) : Calls Tryz.prog 70 #[.int .i64 x, .int .i64 y] w fun e w' => e = .returned (.int .i64 (cmpI x y)) ∧ w' = w := by
 have e : cmpI x y = Lib.compareInt x y := by unfold cmpI Lib.compareInt; rfl
 rw [e]
 exact Tryz.cmp_Compare_int x y w
end

/- The walk of against: the sign of one magnitude less another. -/
section
open Go.RowKit
attribute [local go_sem ↓] Go.wp_at_zero Go.wp_at_succ
theorem ret_int {k : IntKind} {a b : Int} (h : a = b) : Ending.returned (.int k a) = .returned (.int k b) := by rw [h]
theorem bel4 {w W : World} {p1 p2 p3 p4 : Addr} {x1 x2 x3 x4 : Value} (h : W.cell? p1 = some x1 ∧ W.cell? p2 = some x2 ∧ W.cell? p3 = some x3 ∧ W.cell? p4 = some x4 ∧ Below w.heap.size w W) : Below w.heap.size w W := h.2.2.2.2
theorem cmp_lt {a b : Nat} (h : a < b) : cmpI (a : Int) (b : Int) = -1 := by unfold cmpI; rw [if_pos (by omega)]
theorem cmp_gt {a b : Nat} (h : b < a) : cmpI (a : Int) (b : Int) = 1 := by unfold cmpI; rw [if_neg (by omega), if_pos (by omega)]
theorem cmp_eq {a b : Nat} (h : a = b) : cmpI (a : Int) (b : Int) = 0 := by subst h; unfold cmpI; simp
set_option maxHeartbeats 2000000 in
theorem against_zero1 (a1 a2 : Option Addr) (c1 c2 n2 : Nat) (low1 low2 : Int) (w : World) :
   Calls Tryz.prog 71 #[.agg #[.slice a1 0 c1, .int .i64 low1], .agg #[.slice a2 n2 c2, .int .i64 low2]] w fun e w' => e = .returned (.int .i64 (cmpI 0 n2)) ∧ Below w.heap.size w w' := by
 have HB0 : Hid (Below w.heap.size w ((w.alloc (.cells #[.slice a1 0 c1, .int .i64 low1] 47)).alloc (.cells #[.slice a2 n2 c2, .int .i64 low2] 47))) := ((Below.refl _ _).alloc (Nat.le_refl _) _).alloc (by simp) _
 go_enter Tryz.func71, Tryz.ntmps71
 go_wp2_with fail
 refine (isZero_any _ _ _ _ _).mono ?_
 rintro e w1 ⟨rfl, hb1⟩
 have x0 : w1.cell? ⟨w.heap.size, 0, none⟩ = some (.slice a1 0 c1) := cell_later hb1 (by go_simp)
 have x2 : w1.cell? ⟨w.heap.size + 1, 0, none⟩ = some (.slice a2 n2 c2) := cell_later hb1 (by go_simp)
 have HB1 : Hid _ := hb1
 clear hb1
 go_wp2_with (first | (go_at_call 70; refine (cmpInt_any _ _ _).mono ?_; rintro e w' ⟨rfl, rfl⟩))
 go_ret
 exact ⟨rfl, thru HB0.out HB1.out⟩
set_option maxHeartbeats 2000000 in
theorem against_zero2 (a1 a2 : Option Addr) (c1 c2 n1 : Nat) (low1 low2 : Int) (w : World) (hn : ((n1 : Int) == 0) = false) :
   Calls Tryz.prog 71 #[.agg #[.slice a1 n1 c1, .int .i64 low1], .agg #[.slice a2 0 c2, .int .i64 low2]] w fun e w' => e = .returned (.int .i64 (cmpI n1 0)) ∧ Below w.heap.size w w' := by
 have HB0 : Hid (Below w.heap.size w ((w.alloc (.cells #[.slice a1 n1 c1, .int .i64 low1] 47)).alloc (.cells #[.slice a2 0 c2, .int .i64 low2] 47))) := ((Below.refl _ _).alloc (Nat.le_refl _) _).alloc (by simp) _
 go_enter Tryz.func71, Tryz.ntmps71
 go_wp2_with fail
 refine (isZero_any _ _ _ _ _).mono ?_
 rintro e w1 ⟨rfl, hb1⟩
 have x0 : w1.cell? ⟨w.heap.size, 0, none⟩ = some (.slice a1 n1 c1) := cell_later hb1 (by go_simp)
 have x2 : w1.cell? ⟨w.heap.size + 1, 0, none⟩ = some (.slice a2 0 c2) := cell_later hb1 (by go_simp)
 have x3 : w1.cell? ⟨w.heap.size + 1, 1, none⟩ = some (.int .i64 low2) := cell_later hb1 (by go_simp)
 have HB1 : Hid _ := hb1
 clear hb1
 go_wp2_with fail
 refine (isZero_any _ _ _ _ _).mono ?_
 rintro e w2 ⟨rfl, hb2⟩
 have y0 := cell_later hb2 x0
 have y2 := cell_later hb2 x2
 have HB2 : Hid _ := hb2
 clear hb2
 go_wp2_with (first | (go_at_call 70; refine (cmpInt_any _ _ _).mono ?_; rintro e w' ⟨rfl, rfl⟩))
 go_ret
 exact ⟨rfl, thru (thru HB0.out HB1.out) HB2.out⟩
set_option maxHeartbeats 4000000 in
theorem against_walk (a1 a2 : Option Addr) (c1 c2 : Nat) (ns1 ns2 : List Nat) (low1 low2 L : Int) (k1 k2 E A C : Nat) (w : World) (hA : val ns1 * 2 ^ k1 = A) (hC : val ns2 * 2 ^ k2 = C)
   (h1 : Ws w (.slice a1 ns1.length c1) ns1) (h2 : Ws w (.slice a2 ns2.length c2) ns2) (o1 : OwnF ns1 low1) (o2 : OwnF ns2 low2) (n1 : ns1 ≠ []) (n2 : ns2 ≠ [])
   (hL : min low1 low2 = L) (hk1 : low1 = L + (k1 : Nat)) (hk2 : low2 = L + (k2 : Nat)) (b1 : -70000 ≤ L) (b2 : low1 ≤ 70000) (b3 : low2 ≤ 70000) (hE : hiB ns1 low1 + 1 = L + (E : Nat)) (hE2 : E ≤ 1000000) :
   Calls Tryz.prog 71 #[.agg #[.slice a1 ns1.length c1, .int .i64 low1], .agg #[.slice a2 ns2.length c2, .int .i64 low2]] w fun e w' => e = .returned (.int .i64 (cmpI A C)) ∧ Below w.heap.size w w' := by
 have HB0 : Hid (Below w.heap.size w ((w.alloc (.cells #[.slice a1 ns1.length c1, .int .i64 low1] 47)).alloc (.cells #[.slice a2 ns2.length c2, .int .i64 low2] 47))) := ((Below.refl _ _).alloc (Nat.le_refl _) _).alloc (by simp) _
 have z1 : ((ns1.length : Int) == 0) = false := by rw [beq_eq_false_iff_ne]; have := List.length_pos_iff.2 n1; omega
 have z2 : ((ns2.length : Int) == 0) = false := by rw [beq_eq_false_iff_ne]; have := List.length_pos_iff.2 n2; omega
 have lo1 : -70000 ≤ low1 := by omega
 have lo2 : -70000 ≤ low2 := by omega
 have HA : Hid (val ns1 * 2 ^ k1 = A) := hA
 have HC : Hid (val ns2 * 2 ^ k2 = C) := hC
 have HK1 : Hid _ := hk1
 have HK2 : Hid _ := hk2
 have HE : Hid _ := hE
 clear hk1 hk2 hE hA hC
 go_enter Tryz.func71, Tryz.ntmps71
 go_wp2_with fail
 refine (isZero_any _ _ _ _ _).mono ?_
 rintro e w1 ⟨rfl, hb1⟩
 have x0 : w1.cell? ⟨w.heap.size, 0, none⟩ = some (.slice a1 ns1.length c1) := cell_later hb1 (by go_simp)
 have x1 : w1.cell? ⟨w.heap.size, 1, none⟩ = some (.int .i64 low1) := cell_later hb1 (by go_simp)
 have x2 : w1.cell? ⟨w.heap.size + 1, 0, none⟩ = some (.slice a2 ns2.length c2) := cell_later hb1 (by go_simp)
 have x3 : w1.cell? ⟨w.heap.size + 1, 1, none⟩ = some (.int .i64 low2) := cell_later hb1 (by go_simp)
 have HB1 : Hid (Below w.heap.size w w1) := thru HB0.out hb1
 clear hb1
 go_wp2_with fail
 refine (isZero_any _ _ _ _ _).mono ?_
 rintro e w2 ⟨rfl, hb2⟩
 have y0 := cell_later hb2 x0
 have y1 := cell_later hb2 x1
 have y2 := cell_later hb2 x2
 have y3 := cell_later hb2 x3
 have HB2 : Hid (Below w.heap.size w w2) := thru HB1.out hb2
 clear hb2 x0 x1 x2 x3 HB1 HB0
 go_wp2_with fail
 refine (highest_any _ ns1 _ _ (h1.later HB2.out (Nat.le_refl _)) (own_topped o1) (by omega) (by omega)).mono ?_
 rintro e w3 ⟨rfl, hb3⟩
 have x0 := cell_later hb3 y0
 have x1 := cell_later hb3 y1
 have x2 := cell_later hb3 y2
 have x3 := cell_later hb3 y3
 have HB3 : Hid (Below w.heap.size w w3) := thru HB2.out hb3
 clear hb3 y0 y1 y2 y3 HB2
 go_wp2_with fail
 refine (highest_any _ ns2 _ _ (h2.later HB3.out (Nat.le_refl _)) (own_topped o2) (by omega) (by omega)).mono ?_
 rintro e w4 ⟨rfl, hb4⟩
 have y0 := cell_later hb4 x0
 have y1 := cell_later hb4 x1
 have y2 := cell_later hb4 x2
 have y3 := cell_later hb4 x3
 have HB4 : Hid (Below w.heap.size w w4) := thru HB3.out hb4
 clear hb4 x0 x1 x2 x3 HB3
 go_wp2_with fail
 refine (cmpInt_any _ _ _).mono ?_
 rintro e w5 ⟨rfl, rfl⟩
 by_cases hh : hiB ns1 low1 = hiB ns2 low2
 · have hz : (cmpI (hiB ns1 low1) (hiB ns2 low2) != 0) = false := by unfold cmpI; simp [hh]
   have HAL : Hid (Alike A C (E : Nat)) := by
     unfold Alike
     have hp : 0 < (E : Int) := by have := own_low_hi o1; have := HE.out; have := HK1.out; omega
     rw [if_pos hp, Int.toNat_natCast, ← HA.out, ← HC.out, hi_div HK1.out n1 E HE.out, hi_div HK2.out n2 E (by rw [← hh]; exact HE.out)]; exact rfl
   have hEi : (E : Int) ≤ 1000000 := by omega
   have heq : hiB ns1 low1 = L + (E : Int) - 1 := by have := HE.out; omega
   have HH : Hid _ := hh
   clear hh
   generalize cmpI (hiB ns1 low1) (hiB ns2 low2) = c at *
   rw [heq]
   generalize hiB ns1 low1 = hi1 at *
   have HEQ : Hid _ := heq
   clear heq
   go_wp2
   go_loopw [8] (fun at' wr => ∃ e : Int, -64 ≤ e ∧ e ≤ E ∧ at' = .int .i64 (L + e - 64) ∧ Hid (Alike A C e) ∧ wr.cell? ⟨w.heap.size, 0, none⟩ = some (.slice a1 ns1.length c1) ∧ wr.cell? ⟨w.heap.size, 1, none⟩ = some (.int .i64 low1) ∧ wr.cell? ⟨w.heap.size + 1, 0, none⟩ = some (.slice a2 ns2.length c2) ∧ wr.cell? ⟨w.heap.size + 1, 1, none⟩ = some (.int .i64 low2) ∧ Hid (Below w.heap.size w wr))
     (fun at' _ => (intOf at' - L + 64).toNat)
   case atStart => exact ⟨E, by omega, by omega, by congr 1; omega, HAL, y0, y1, y2, y3, HB4⟩
   case round =>
     obtain ⟨e, he1, he2, rfl, hal, x0, x1, x2, x3, hb⟩ := hrel
     clear y0 y1 y2 y3 HB4 HAL
     by_cases hpos : 0 < e
     · obtain ⟨n, rfl⟩ := Int.eq_ofNat_of_zero_le (Int.le_of_lt hpos)
       have hgt : L - 64 < L + (n : Int) - 64 := by omega
       have W1 : Hid (win ns1 low1 (L + (n : Nat) - 64) = A * 18446744073709551616 / 2 ^ n % 18446744073709551616) := by rw [HK1.out, ← HA.out]; exact win_at _ _ _ _
       have W2 : Hid (win ns2 low2 (L + (n : Nat) - 64) = C * 18446744073709551616 / 2 ^ n % 18446744073709551616) := by rw [HK2.out, ← HC.out]; exact win_at _ _ _ _
       have hw1 : -400000000 ≤ L + (n : Int) - 64 := by omega
       have hw2 : L + (n : Int) - 64 ≤ 400000000 := by omega
       have H1 : Hid (Ws w (.slice a1 ns1.length c1) ns1) := h1
       have H2 : Hid (Ws w (.slice a2 ns2.length c2) ns2) := h2
       clear h1 h2
       generalize hat : L + (n : Int) - 64 = at' at *
       have HAT : Hid _ := hat
       clear hat
       go_wp2
       go_region_held3 (fun W => W.cell? ⟨w.heap.size, 0, none⟩ = some (.slice a1 ns1.length c1) ∧ W.cell? ⟨w.heap.size, 1, none⟩ = some (.int .i64 low1) ∧ W.cell? ⟨w.heap.size + 1, 0, none⟩ = some (.slice a2 ns2.length c2) ∧ W.cell? ⟨w.heap.size + 1, 1, none⟩ = some (.int .i64 low2) ∧ Below w.heap.size w W)
         (first
           | assumption
           | exact ⟨x0, x1, x2, x3, hb.out.drew⟩
           | exact keep4 (by assumption) (by assumption))
         (first
           | (go_at_call_of 105 low1; refine (window_any _ ns1 _ _ _ ?_ (by omega) (by omega) (by omega) (by omega)).mono ?_; exact H1.out.later (bel4 (by assumption)) (Nat.le_refl _); rintro e wx ⟨rfl, hbx⟩)
           | (go_at_call_of 105 low2; refine (window_any _ ns2 _ _ _ ?_ (by omega) (by omega) (by omega) (by omega)).mono ?_; exact H2.out.later (bel4 (by assumption)) (Nat.le_refl _); rintro e wx ⟨rfl, hbx⟩)
           | (go_at_call 104; refine (cmp64_any _ _ _).mono ?_; rintro e wz ⟨rfl, rfl⟩))
       have hh := (by assumption : wz.cell? ⟨w.heap.size, 0, none⟩ = some (.slice a1 ns1.length c1) ∧ wz.cell? ⟨w.heap.size, 1, none⟩ = some (.int .i64 low1) ∧ wz.cell? ⟨w.heap.size + 1, 0, none⟩ = some (.slice a2 ns2.length c2) ∧ wz.cell? ⟨w.heap.size + 1, 1, none⟩ = some (.int .i64 low2) ∧ Below w.heap.size w wz)
       have HHH : Hid _ := hh
       clear hh
       have hal' := hal.out
       have W1' := W1.out
       have W2' := W2.out
       rcases Nat.lt_trichotomy (win ns1 low1 at') (win ns2 low2 at') with hlt | heq | hgt
       · have hc := cmp_lt hlt
         have HF : Hid (cmpI A C = -1) := cmp_lt (alike_lt (by omega) hal' (by rw [← W1', ← W2']; exact hlt))
         clear hal' W1' W2' W1 W2 hlt
         go_wp2
         go_ret
         exact ⟨ret_int (hc.trans HF.out.symm), HHH.out.2.2.2.2⟩
       · have hc := cmp_eq heq
         have HF : Hid (Alike A C ((n : Int) - 64)) := alike_step (by omega) hal' (by rw [← W1', ← W2']; exact heq)
         clear hal' W1' W2' W1 W2 heq
         go_wp2
         exact ⟨⟨(n : Int) - 64, by omega, by omega, by have := HAT.out; congr 1; omega, HF, HHH.out.1, HHH.out.2.1, HHH.out.2.2.1, HHH.out.2.2.2.1, HHH.out.2.2.2.2⟩, by have := HAT.out; simp [intOf]; omega⟩
       · have hc := cmp_gt hgt
         have HF : Hid (cmpI A C = 1) := cmp_gt (alike_lt (by omega) (alike_symm hal') (by rw [← W1', ← W2']; exact hgt))
         clear hal' W1' W2' W1 W2 hgt
         go_wp2
         go_ret
         exact ⟨ret_int (hc.trans HF.out.symm), HHH.out.2.2.2.2⟩
     · have hge : ¬ (L - 64 < L + e - 64) := by omega
       have HF : Hid (cmpI A C = 0) := cmp_eq (by have := hal.out; unfold Alike at this; rw [if_neg hpos] at this; exact this)
       go_wp2
       go_ret
       exact ⟨by rw [HF.out]; rfl, hb.out⟩
 · have hne : (cmpI (hiB ns1 low1) (hiB ns2 low2) != 0) = true := by
     rw [bne_iff_ne]; unfold cmpI; split
     · omega
     · split <;> omega
   have HF : Hid (cmpI (hiB ns1 low1) (hiB ns2 low2) = cmpI A C) := by
     rcases Int.lt_or_gt_of_ne hh with h | h
     · rw [← HA.out, ← HC.out, cmp_lt (hi_lt HK1.out HK2.out n1 n2 (own_val o2 n2) h)]; unfold cmpI; rw [if_pos h]; exact rfl
     · rw [← HA.out, ← HC.out, cmp_gt (hi_lt HK2.out HK1.out n2 n1 (own_val o1 n1) h)]; unfold cmpI; rw [if_neg (by omega), if_pos h]; exact rfl
   clear hh
   generalize cmpI (hiB ns1 low1) (hiB ns2 low2) = c at *
   go_wp2
   go_ret
   exact ⟨by rw [← HF.out]; rfl, HB4.out⟩
end

/- Numbers in memory, and the walk of number: a magnitude and a sign become a number, or none. -/
section
open Go.RowKit
attribute [local go_sem ↓] Go.wp_at_zero Go.wp_at_succ
def sg (b : Bool) : Rat := if b then -1 else 1
def IsNum (w : World) (v : Value) (x : Option Rat) : Prop :=
 ∃ a ns c low neg nn, v = .agg #[.slice a (List.length ns) c, .int .i64 low, .bool neg, .bool nn] ∧ Ws w (.slice a (List.length ns) c) ns ∧ OwnF ns low ∧ -65536 ≤ low ∧ hiB ns low ≤ 65536 ∧ (ns = [] → neg = false) ∧
   (nn = true → ns = [] ∧ x = none) ∧ (nn = false → x = some (sg neg * magR ns low))
theorem IsNum.later {w w' : World} {v : Value} {x : Option Rat} (h : IsNum w v x) (hb : Below w.heap.size w w') : IsNum w' v x := by
 obtain ⟨a, ns, c, low, neg, nn, h1, h2, h3⟩ := h
 exact ⟨a, ns, c, low, neg, nn, h1, h2.later hb (Nat.le_refl _), h3⟩
def Norm (q : Rat) (x : Option Rat) : Prop := (May q ∧ x = some q) ∨ (¬ May q ∧ x = none)
def NumR (w w' : World) (q : Rat) (e : Ending) : Prop := ∃ v x, e = .returned v ∧ IsNum w' v x ∧ Norm q x ∧ Below w.heap.size w w'
theorem isNum_none (w : World) : IsNum w (.agg #[.slice none 0 0, .int .i64 0, .bool false, .bool true]) none :=
 ⟨none, [], 0, 0, false, true, rfl, ⟨⟨_, _, rfl, Nat.le_refl _, Or.inl rfl⟩, fun n hn => by simp at hn, by simp⟩, Or.inl ⟨rfl, rfl⟩, by omega, by simp [hiB], fun _ => rfl, fun _ => ⟨rfl, rfl⟩, fun h => by cases h⟩
theorem may_sg {ns : List Nat} {low : Int} {b : Bool} : May (sg b * magR ns low) ↔ May (magR ns low) := by
 unfold sg
 cases b
 · simp
 · simp only [if_true]
   constructor
   · intro h; have := may_neg h; rwa [show -(-1 * magR ns low) = magR ns low by grind] at this
   · intro h; have := may_neg h; rwa [show -1 * magR ns low = -magR ns low by grind]
theorem magR_nil (low : Int) : magR [] low = 0 := by simp [magR, val]
set_option maxHeartbeats 2000000 in
theorem number_out (a : Option Addr) (c : Nat) (ns : List Nat) (low : Int) (neg : Bool) (w : World) (h : Ws w (.slice a ns.length c) ns) (o : OwnF ns low) (b1 : -200000000 ≤ low) (b2 : low ≤ 200000000) (hm : ¬ (hiB ns low ≤ 65536 ∧ -65536 ≤ low)) :
   Calls Tryz.prog 76 #[.agg #[.slice a ns.length c, .int .i64 low], .bool neg] w fun e w' => e = .returned (.agg #[.slice none 0 0, .int .i64 0, .bool false, .bool true]) ∧ Below w.heap.size w w' := by
 have HB0 : Hid (Below w.heap.size w ((w.alloc (.cells #[.slice a ns.length c, .int .i64 low] 47)).alloc (.cells #[.slice none 0 0, .int .i64 0, .bool false, .bool false] 49))) := ((Below.refl _ _).alloc (Nat.le_refl _) _).alloc (by simp) _
 have H : Hid (Ws w (.slice a ns.length c) ns) := h
 have HO : Hid _ := o
 clear h o
 go_enter Tryz.func76, Tryz.ntmps76
 go_wp2_with fail
 refine (highest_any _ ns _ _ (H.out.later HB0.out (Nat.le_refl _)) (own_topped HO.out) (by omega) (by omega)).mono ?_
 rintro e w1 ⟨rfl, hb1⟩
 have x0 : w1.cell? ⟨w.heap.size, 0, none⟩ = some (.slice a ns.length c) := cell_later hb1 (by go_simp)
 have x1 : w1.cell? ⟨w.heap.size, 1, none⟩ = some (.int .i64 low) := cell_later hb1 (by go_simp)
 have r0 : w1.cell? ⟨w.heap.size + 1, 0, none⟩ = some (.slice none 0 0) := cell_later hb1 (by go_simp)
 have r1 : w1.cell? ⟨w.heap.size + 1, 1, none⟩ = some (.int .i64 0) := cell_later hb1 (by go_simp)
 have r2 : w1.cell? ⟨w.heap.size + 1, 2, none⟩ = some (.bool false) := cell_later hb1 (by go_simp)
 have r3 : w1.cell? ⟨w.heap.size + 1, 3, none⟩ = some (.bool false) := cell_later hb1 (by go_simp)
 have f0 : ∀ i, w1.frozen? ⟨w.heap.size + 1, i, none⟩ = false := fun i => frozen_later hb1 (by go_simp) (by simp)
 have HB1 : Hid (Below w.heap.size w w1) := thru HB0.out hb1
 have hsz : w.heap.size + 1 < w1.heap.size := by have := hb1.size; simp at this; omega
 clear hb1 HB0
 generalize hiB ns low = hi at *
 by_cases hh : 65536 < hi
 · go_wp2
   refine bodyPost_ret (v := .agg #[.slice none 0 0, .int .i64 0, .bool false, .bool true]) (by simp [results, Tryz.results76, go_sem, r0, r1, r2, r3]) rfl ⟨rfl, ?_⟩
   repeat (first | exact HB1.out | refine Below.setCell ?_ (by simp) _)
 · have hlo : low < -65536 := by omega
   go_wp2_with fail
   refine (lowest_any _ _ _ _ _).mono ?_
   rintro e w2 ⟨rfl, hb2⟩
   have q0 := cell_later hb2 r0
   have q1 := cell_later hb2 r1
   have q2 := cell_later hb2 r2
   have q3 := cell_later hb2 r3
   have g0 : ∀ i, w2.frozen? ⟨w.heap.size + 1, i, none⟩ = false := fun i => frozen_later hb2 (f0 i) hsz
   have HB2 : Hid (Below w.heap.size w w2) := thru HB1.out hb2
   clear hb2 r0 r1 r2 r3 f0 HB1 x0 x1
   go_wp2
   refine bodyPost_ret (v := .agg #[.slice none 0 0, .int .i64 0, .bool false, .bool true]) (by simp [results, Tryz.results76, go_sem, q0, q1, q2, q3]) rfl ⟨rfl, ?_⟩
   repeat (first | exact HB2.out | refine Below.setCell ?_ (by simp) _)
set_option maxHeartbeats 2000000 in
theorem number_in (a : Option Addr) (c : Nat) (ns : List Nat) (low : Int) (neg : Bool) (w : World) (h : Ws w (.slice a ns.length c) ns) (o : OwnF ns low) (b1 : -65536 ≤ low) (b2 : low ≤ 200000000) (hm : hiB ns low ≤ 65536) :
   Calls Tryz.prog 76 #[.agg #[.slice a ns.length c, .int .i64 low], .bool neg] w fun e w' => e = .returned (.agg #[.slice a ns.length c, .int .i64 low, .bool (neg && !((ns.length : Int) == 0)), .bool false]) ∧ Ws w' (.slice a ns.length c) ns ∧ Below w.heap.size w w' := by
 have HB0 : Hid (Below w.heap.size w ((w.alloc (.cells #[.slice a ns.length c, .int .i64 low] 47)).alloc (.cells #[.slice none 0 0, .int .i64 0, .bool false, .bool false] 49))) := ((Below.refl _ _).alloc (Nat.le_refl _) _).alloc (by simp) _
 have H : Hid (Ws w (.slice a ns.length c) ns) := h
 have HO : Hid _ := o
 clear h o
 go_enter Tryz.func76, Tryz.ntmps76
 go_wp2_with fail
 refine (highest_any _ ns _ _ (H.out.later HB0.out (Nat.le_refl _)) (own_topped HO.out) (by omega) (by omega)).mono ?_
 rintro e w1 ⟨rfl, hb1⟩
 have x0 : w1.cell? ⟨w.heap.size, 0, none⟩ = some (.slice a ns.length c) := cell_later hb1 (by go_simp)
 have x1 : w1.cell? ⟨w.heap.size, 1, none⟩ = some (.int .i64 low) := cell_later hb1 (by go_simp)
 have r0 : w1.cell? ⟨w.heap.size + 1, 0, none⟩ = some (.slice none 0 0) := cell_later hb1 (by go_simp)
 have r1 : w1.cell? ⟨w.heap.size + 1, 1, none⟩ = some (.int .i64 0) := cell_later hb1 (by go_simp)
 have r2 : w1.cell? ⟨w.heap.size + 1, 2, none⟩ = some (.bool false) := cell_later hb1 (by go_simp)
 have r3 : w1.cell? ⟨w.heap.size + 1, 3, none⟩ = some (.bool false) := cell_later hb1 (by go_simp)
 have f0 : ∀ i, w1.frozen? ⟨w.heap.size + 1, i, none⟩ = false := fun i => frozen_later hb1 (by go_simp) (by simp)
 have HB1 : Hid (Below w.heap.size w w1) := thru HB0.out hb1
 have hsz : w.heap.size + 1 < w1.heap.size := by have := hb1.size; simp at this; omega
 clear hb1 HB0
 generalize hiB ns low = hi at *
 have hh : ¬ 65536 < hi := by omega
 have hlo : ¬ low < -65536 := by omega
 go_wp2_with fail
 refine (lowest_any _ _ _ _ _).mono ?_
 rintro e w2 ⟨rfl, hb2⟩
 have q0 := cell_later hb2 r0
 have q1 := cell_later hb2 r1
 have q2 := cell_later hb2 r2
 have q3 := cell_later hb2 r3
 have y0 := cell_later hb2 x0
 have y1 := cell_later hb2 x1
 have g0 : ∀ i, w2.frozen? ⟨w.heap.size + 1, i, none⟩ = false := fun i => frozen_later hb2 (f0 i) hsz
 have HB2 : Hid (Below w.heap.size w w2) := thru HB1.out hb2
 have hsz2 : w.heap.size + 1 < w2.heap.size := Nat.lt_of_lt_of_le hsz hb2.size
 clear hb2 r0 r1 r2 r3 f0 HB1 x0 x1 hsz
 cases neg with
 | false =>
   go_wp2
   go_region
   go_wp2
   refine bodyPost_ret (v := .agg #[.slice a ns.length c, .int .i64 low, .bool (false && !((ns.length : Int) == 0)), .bool false]) (by simp [results, Tryz.results76, go_sem, q0, q1, q2, q3]) rfl ?_
   refine ⟨rfl, H.out.later (B := w.heap.size) ?_ (Nat.le_refl _), ?_⟩
   all_goals repeat (first | exact HB2.out | refine Below.drew ?_ | refine Below.setCell ?_ (by simp) _)
 | true =>
   go_wp2
   go_region_held3 (fun W => W.cell? ⟨w.heap.size, 0, none⟩ = some (.slice a ns.length c) ∧ W.cell? ⟨w.heap.size, 1, none⟩ = some (.int .i64 low) ∧ Below w.heap.size w W)
     (first
       | assumption
       | exact ⟨y0, y1, HB2.out.drew⟩
       | exact keep2 (by assumption) (by assumption)
       | exact keep2_set (keep2_set (keep2_set (keep2_set (by assumption) _ _ (by simp) (by simp) (by simp)) _ _ (by simp) (by simp) (by simp)) _ _ (by simp) (by simp) (by simp)) _ _ (by simp) (by simp) (by simp))
     (first
       | (go_at_call 74; refine (isZero_any _ _ _ _ _).mono ?_; rintro e w3 ⟨rfl, hb3⟩; have t0 : w3.cell? ⟨w.heap.size + 1, 0, none⟩ = some (.slice none 0 0) := cell_later hb3 q0; have t1 : w3.cell? ⟨w.heap.size + 1, 1, none⟩ = some (.int .i64 0) := cell_later hb3 q1; have t2 : w3.cell? ⟨w.heap.size + 1, 2, none⟩ = some (.bool false) := cell_later hb3 q2; have t3 : w3.cell? ⟨w.heap.size + 1, 3, none⟩ = some (.bool false) := cell_later hb3 q3; have u0 : ∀ i, w3.frozen? ⟨w.heap.size + 1, i, none⟩ = false := fun i => frozen_later hb3 (g0 i) hsz2))
   go_wp2
   refine bodyPost_ret (v := .agg #[.slice a ns.length c, .int .i64 low, .bool (true && !((ns.length : Int) == 0)), .bool false]) (by simp [results, Tryz.results76, go_sem, t0, t1, t2, t3]) rfl ?_
   have hB := (by assumption : _ ∧ _ ∧ Below w.heap.size w _).2.2
   exact ⟨rfl, H.out.later (B := w.heap.size) hB (Nat.le_refl _), hB⟩
theorem number_any (s : Value) (ns : List Nat) (low : Int) (neg : Bool) (w : World) (h : Ws w s ns) (o : OwnF ns low) (b1 : -200000000 ≤ low) (b2 : low ≤ 200000000) :
   Calls Tryz.prog 76 #[.agg #[s, .int .i64 low], .bool neg] w fun e w' => NumR w w' (sg neg * magR ns low) e := by
 obtain ⟨a, c, rfl, _, _⟩ := h.shape
 by_cases hm : hiB ns low ≤ 65536 ∧ -65536 ≤ low
 · refine (number_in a c ns low neg w h o hm.2 b2 hm.1).mono ?_
   rintro e w' ⟨rfl, hw, hb⟩
   refine ⟨_, some (sg neg * magR ns low), rfl, ⟨a, ns, c, low, _, false, rfl, hw, o, hm.2, hm.1, ?_, (fun h => by cases h), fun _ => ?_⟩, Or.inl ⟨may_sg.2 ((may_iff o).1 hm), rfl⟩, hb⟩
   · rintro rfl; simp
   · by_cases hne : ns = []
     · subst hne; rw [magR_nil]; simp
     · have hz : ((ns.length : Int) == 0) = false := by rw [beq_eq_false_iff_ne]; have := List.length_pos_iff.2 hne; omega
       rw [hz]; simp
 · refine (number_out a c ns low neg w h o b1 b2 hm).mono ?_
   rintro e w' ⟨rfl, hb⟩
   exact ⟨_, none, rfl, isNum_none w', Or.inr ⟨fun h => hm ((may_iff o).2 (may_sg.1 h)), rfl⟩, hb⟩
end

/- Magnitudes of numbers: sums, differences, products, and which is greater, as rationals. -/
section
open Go.RowKit
structure IsMag (w : World) (s : Value) (ns : List Nat) (low : Int) : Prop where
 ws : Ws w s ns
 own : OwnF ns low
 lo : -65536 ≤ low
 hi : hiB ns low ≤ 65536
theorem IsMag.later {w w' : World} {s : Value} {ns : List Nat} {low : Int} (h : IsMag w s ns low) (hb : Below w.heap.size w w') : IsMag w' s ns low := ⟨h.ws.later hb (Nat.le_refl _), h.own, h.lo, h.hi⟩
theorem IsMag.low_le {w : World} {s : Value} {ns : List Nat} {low : Int} (h : IsMag w s ns low) : low ≤ 65536 := by
 have := own_low_hi h.own; have := h.hi; omega
theorem IsMag.len {w : World} {s : Value} {ns : List Nat} {low : Int} (h : IsMag w s ns low) : ns.length ≤ 10000 := by
 by_cases hne : ns = []
 · subst hne; simp
 · have h1 := log2_val h.ws.small hne (own_topped h.own hne)
   have h2 := h.hi
   have h3 := h.lo
   unfold hiB at h2
   rw [if_neg hne] at h2
   omega
def MagR (w w' : World) (q : Rat) (e : Ending) : Prop := ∃ s ns low, e = .returned (.agg #[s, .int .i64 low]) ∧ Ws w' s ns ∧ OwnF ns low ∧ magR ns low = q ∧ (-200000000 ≤ low ∧ low ≤ 200000000) ∧ Below w.heap.size w w'
theorem made_magR {w w' : World} {V : Nat} {low : Int} {e : Ending} (h : Made w w' V low e) : MagR w w' ((V : Nat) * p2 low) e := by
 obtain ⟨s, ns, low', he, hw, ho, ht, hl, hb⟩ := h
 exact ⟨s, ns, low', he, hw, ho, tells_magR ht, hl, hb⟩
theorem two_at (low1 low2 : Int) : ∃ (L : Int) (k1 k2 : Nat), min low1 low2 = L ∧ low1 = L + (k1 : Nat) ∧ low2 = L + (k2 : Nat) :=
 ⟨min low1 low2, (low1 - min low1 low2).toNat, (low2 - min low1 low2).toNat, rfl, by omega, by omega⟩
theorem joined_any (fid : Nat) (f : Nat → Nat → Nat) (pre : Nat → Nat → Nat → Prop) (hop : BringOK fid f pre) (s1 s2 : Value) (ns1 ns2 : List Nat) (low1 low2 : Int) (w : World) (m1 : IsMag w s1 ns1 low1) (m2 : IsMag w s2 ns2 low2) (hT : Tab w)
   (hpre : ∀ (L : Int) (k1 k2 n : Nat), low1 = L + (k1 : Nat) → low2 = L + (k2 : Nat) → val ns1 * 2 ^ k1 < 2 ^ (64 * n - 1) → val ns2 * 2 ^ k2 < 2 ^ (64 * n - 1) → 0 < n → pre (val ns1 * 2 ^ k1) (val ns2 * 2 ^ k2) n) (q : Rat)
   (hq : ∀ (L : Int) (k1 k2 : Nat), low1 = L + (k1 : Nat) → low2 = L + (k2 : Nat) → ((f (val ns1 * 2 ^ k1) (val ns2 * 2 ^ k2) : Nat) : Rat) * p2 L = q) :
   Calls Tryz.prog 159 #[.agg #[s1, .int .i64 low1], .agg #[s2, .int .i64 low2], .func (.func fid) #[] #[]] w fun e w' => MagR w w' q e := by
 obtain ⟨a1, c1, rfl, _, _⟩ := m1.ws.shape
 obtain ⟨a2, c2, rfl, _, _⟩ := m2.ws.shape
 obtain ⟨L, k1, k2, hL, hk1, hk2⟩ := two_at low1 low2
 have i1 := own_low_hi m1.own
 have i2 := own_low_hi m2.own
 have j1 := m1.lo
 have j2 := m2.lo
 have j3 := m1.hi
 have j4 := m2.hi
 obtain ⟨d1, hd1⟩ : ∃ d : Nat, max (hiB ns1 low1) (hiB ns2 low2) + 1 = L + (d : Int) := ⟨(max (hiB ns1 low1) (hiB ns2 low2) + 1 - L).toNat, by omega⟩
 obtain ⟨d2, hd2⟩ : ∃ d : Nat, hiB ns2 low2 = L + (d : Int) := ⟨(hiB ns2 low2 - L).toNat, by omega⟩
 have hv1 : val ns1 * 2 ^ k1 < 2 ^ d1 := val_hi m1.own k1 hk1 d1 (by omega)
 have hv2 : val ns2 * 2 ^ k2 < 2 ^ d1 := val_hi m2.own k2 hk2 d1 (by omega)
 have hv3 : val ns2 * 2 ^ k2 < 2 ^ (d2 + 1) := val_hi m2.own k2 hk2 (d2 + 1) (by omega)
 have hmono : ∀ {X a b : Nat}, X < 2 ^ a → a ≤ b → X < 2 ^ b := fun h1 h2 => Nat.lt_of_lt_of_le h1 (Nat.pow_le_pow_right (by omega) h2)
 refine (joined_walk fid f pre hop a1 a2 c1 c2 ns1 ns2 low1 low2 L k1 k2 (d1 / 64) (d2 / 64) (d1 % 64) (d2 % 64) w m1.ws m2.ws hT m1.own m2.own hL hk1 hk2 (by omega) (by omega) (by omega) (by rw [hd1]; omega) (by rw [hd2]; omega) (Nat.mod_lt _ (by omega)) (Nat.mod_lt _ (by omega)) (by omega) (by omega) ?_ (hmono hv1 (by omega)) (hmono hv3 (by omega))).mono ?_
 · exact hpre L k1 k2 _ hk1 hk2 (hmono hv1 (by omega)) (hmono hv2 (by omega)) (by omega)
 · intro e w' h
   have := made_magR h
   rwa [hq L k1 k2 hk1 hk2] at this
theorem pow_half {a b n : Nat} (h1 : a < 2 ^ (64 * n - 1)) (h2 : b < 2 ^ (64 * n - 1)) (hn : 0 < n) : a + b < 2 ^ (64 * n) := by
 rw [show 64 * n = 64 * n - 1 + 1 by omega, Nat.pow_succ]; omega
theorem joined_add (s1 s2 : Value) (ns1 ns2 : List Nat) (low1 low2 : Int) (w : World) (m1 : IsMag w s1 ns1 low1) (m2 : IsMag w s2 ns2 low2) (hT : Tab w) :
   Calls Tryz.prog 159 #[.agg #[s1, .int .i64 low1], .agg #[s2, .int .i64 low2], .func (.func 153) #[] #[]] w fun e w' => MagR w w' (magR ns1 low1 + magR ns2 low2) e := by
 refine joined_any _ _ _ add_bring s1 s2 ns1 ns2 low1 low2 w m1 m2 hT (fun L k1 k2 n _ _ h1 h2 h3 => pow_half h1 h2 h3) _ ?_
 intro L k1 k2 h1 h2
 rw [magR_at ns1 low1 L k1 h1, magR_at ns2 low2 L k2 h2, Rat.natCast_add]; grind
theorem joined_sub (s1 s2 : Value) (ns1 ns2 : List Nat) (low1 low2 : Int) (w : World) (m1 : IsMag w s1 ns1 low1) (m2 : IsMag w s2 ns2 low2) (hT : Tab w) (hle : magR ns2 low2 ≤ magR ns1 low1) :
   Calls Tryz.prog 159 #[.agg #[s1, .int .i64 low1], .agg #[s2, .int .i64 low2], .func (.func 160) #[] #[]] w fun e w' => MagR w w' (magR ns1 low1 - magR ns2 low2) e := by
 have key : ∀ (L : Int) (k1 k2 : Nat), low1 = L + (k1 : Nat) → low2 = L + (k2 : Nat) → val ns2 * 2 ^ k2 ≤ val ns1 * 2 ^ k1 := by
   intro L k1 k2 h1 h2
   rw [magR_at ns1 low1 L k1 h1, magR_at ns2 low2 L k2 h2] at hle
   exact Rat.natCast_le_natCast.1 (Rat.le_of_mul_le_mul_right hle (p2_pos L))
 refine joined_any _ _ _ sub_bring s1 s2 ns1 ns2 low1 low2 w m1 m2 hT (fun L k1 k2 n h1 h2 _ _ _ => key L k1 k2 h1 h2) _ ?_
 intro L k1 k2 h1 h2
 have h3 := key L k1 k2 h1 h2
 have e1 : ((val ns1 * 2 ^ k1 - val ns2 * 2 ^ k2 : Nat) : Rat) = ((val ns1 * 2 ^ k1 : Nat) : Rat) - ((val ns2 * 2 ^ k2 : Nat) : Rat) := by
   have := Rat.natCast_add (val ns1 * 2 ^ k1 - val ns2 * 2 ^ k2) (val ns2 * 2 ^ k2)
   rw [Nat.sub_add_cancel h3] at this
   grind
 rw [magR_at ns1 low1 L k1 h1, magR_at ns2 low2 L k2 h2, e1]; grind
theorem times_any (s1 s2 : Value) (ns1 ns2 : List Nat) (low1 low2 : Int) (w : World) (m1 : IsMag w s1 ns1 low1) (m2 : IsMag w s2 ns2 low2) (hT : Tab w) :
   Calls Tryz.prog 117 #[.agg #[s1, .int .i64 low1], .agg #[s2, .int .i64 low2]] w fun e w' => MagR w w' (magR ns1 low1 * magR ns2 low2) e := by
 have l1 := m1.len
 have l2 := m2.len
 have i1 := m1.low_le
 have i2 := m2.low_le
 have j1 := m1.lo
 have j2 := m2.lo
 obtain ⟨a1, c1, rfl, _, _⟩ := m1.ws.shape
 obtain ⟨a2, c2, rfl, _, _⟩ := m2.ws.shape
 refine (times_walk a1 a2 c1 c2 ns1 ns2 low1 low2 w m1.ws m2.ws hT l1 l2 (by omega) (by omega) (by omega) (by omega)).mono ?_
 intro e w' h
 have := made_magR h
 have e1 : ((val ns1 * val ns2 : Nat) : Rat) * p2 (low1 + low2) = magR ns1 low1 * magR ns2 low2 := by
   rw [Rat.natCast_mul, p2_add]; unfold magR; grind
 rwa [e1] at this
def cmpR (p q : Rat) : Int := if p < q then -1 else if q < p then 1 else 0
theorem cmp_nat (A C : Nat) (L : Int) : cmpI (A : Int) (C : Int) = cmpR ((A : Nat) * p2 L) ((C : Nat) * p2 L) := by
 have hp := p2_pos L
 unfold cmpI cmpR
 have e1 : ((A : Nat) : Rat) * p2 L < (C : Nat) * p2 L ↔ (A : Int) < (C : Int) := by
   rw [Rat.mul_lt_mul_right hp, Rat.natCast_lt_natCast]; omega
 have e2 : ((C : Nat) : Rat) * p2 L < (A : Nat) * p2 L ↔ (C : Int) < (A : Int) := by
   rw [Rat.mul_lt_mul_right hp, Rat.natCast_lt_natCast]; omega
 simp only [e1, e2]
theorem magR_pos {ns : List Nat} {low : Int} (h : OwnF ns low) (hne : ns ≠ []) : 0 < magR ns low := by
 have := (own_lo h hne).1
 have := p2_pos (hiB ns low)
 grind
theorem against_any (s1 s2 : Value) (ns1 ns2 : List Nat) (low1 low2 : Int) (w : World) (m1 : IsMag w s1 ns1 low1) (m2 : IsMag w s2 ns2 low2) :
   Calls Tryz.prog 71 #[.agg #[s1, .int .i64 low1], .agg #[s2, .int .i64 low2]] w fun e w' => e = .returned (.int .i64 (cmpR (magR ns1 low1) (magR ns2 low2))) ∧ Below w.heap.size w w' := by
 obtain ⟨a1, c1, rfl, _, _⟩ := m1.ws.shape
 obtain ⟨a2, c2, rfl, _, _⟩ := m2.ws.shape
 by_cases n1 : ns1 = []
 · subst n1
   have e1 : cmpR (magR [] low1) (magR ns2 low2) = cmpI 0 ns2.length := by
     rw [magR_nil]
     by_cases n2 : ns2 = []
     · subst n2; rw [magR_nil]; simp [cmpR, cmpI]
     · have h1 := magR_pos m2.own n2
       have h2 := List.length_pos_iff.2 n2
       unfold cmpR cmpI
       rw [if_pos h1, if_pos (by omega)]
   rw [e1]
   exact against_zero1 a1 a2 c1 c2 ns2.length low1 low2 w
 · by_cases n2 : ns2 = []
   · subst n2
     have h2 := List.length_pos_iff.2 n1
     have e1 : cmpR (magR ns1 low1) (magR [] low2) = cmpI ns1.length 0 := by
       rw [magR_nil]
       have h1 := magR_pos m1.own n1
       unfold cmpR cmpI
       rw [if_neg (by grind), if_pos h1, if_neg (by omega), if_pos (by omega)]
     rw [e1]
     exact against_zero2 a1 a2 c1 c2 ns1.length low1 low2 w (by rw [beq_eq_false_iff_ne]; omega)
   · obtain ⟨L, k1, k2, hL, hk1, hk2⟩ := two_at low1 low2
     have i1 := own_low_hi m1.own
     have j1 := m1.lo
     have j2 := m2.lo
     have j3 := m1.hi
     have i3 := m1.low_le
     have i4 := m2.low_le
     obtain ⟨E, hE⟩ : ∃ E : Nat, hiB ns1 low1 + 1 = L + (E : Int) := ⟨(hiB ns1 low1 + 1 - L).toNat, by omega⟩
     have := against_walk a1 a2 c1 c2 ns1 ns2 low1 low2 L k1 k2 E _ _ w rfl rfl m1.ws m2.ws m1.own m2.own n1 n2 hL hk1 hk2 (by omega) (by omega) (by omega) hE (by omega)
     rw [cmp_nat _ _ L, ← magR_at ns1 low1 L k1 hk1, ← magR_at ns2 low2 L k2 hk2] at this
     exact this
end
end Go.Proofs.YtocnkgfoffpbfaaGreatDoor
