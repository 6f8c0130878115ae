/- Own texts, put together: Wj Wk. -/
import Derived.Test.YtlpnobcapdbfkaaDoorQ8
namespace Go.Proofs.YtlpnobcapdbfkaaDoor
/- The walk of bringTimes: a number times a word is added to words. -/
section
open Go.RowKit
theorem mulN (x y : Nat) (w : World) (hx : x < 18446744073709551616) (hy : y < 18446744073709551616) :
   Calls Tryd.prog 57 #[.int .u64 (x : Nat), .int .u64 (y : Nat)] w fun e w' => e = .returned (.tuple #[.int .u64 (x * y / 18446744073709551616 : Nat), .int .u64 (x * y % 18446744073709551616 : Nat)]) ∧ w' = w := by
 refine (mul64_any x y w (by omega) (by omega) (by omega) (by omega)).mono ?_
 rintro e w' ⟨rfl, rfl⟩
 refine ⟨?_, rfl⟩
 rw [Int.natCast_ediv, Int.natCast_emod, Int.natCast_mul]
 rfl
def btRow (zs ps : List Nat) (i k : Nat) : List Nat := zs.take i ++ ps ++ zs.drop (i + k)
theorem btRow_length (zs ps : List Nat) (i k : Nat) (hp : ps.length = k) (h : i + k ≤ zs.length) : (btRow zs ps i k).length = zs.length := by
 simp [btRow]; omega
theorem btRow_getD (zs ps : List Nat) (i k : Nat) (hp : ps.length = k) (h : i + k < zs.length) : (btRow zs ps i k).getD (i + k) 0 = zs.getD (i + k) 0 := by
 unfold btRow
 rw [List.getD, List.getElem?_append_right (by simp; omega)]
 simp only [List.length_append, List.length_take, hp, Nat.min_eq_left (show i ≤ zs.length by omega), Nat.sub_self, List.getElem?_drop, Nat.add_zero]
 rfl
theorem btRow_set (zs ps : List Nat) (i k v : Nat) (hp : ps.length = k) (h : i + k < zs.length) : (wds (btRow zs ps i k)).set (i + k) (.int .u64 (v : Nat)) = wds (btRow zs (ps ++ [v]) i (k + 1)) := by
 unfold wds btRow
 rw [← List.map_set, List.set_append_right _ _ (by simp; omega)]
 congr 1
 have e : i + k - (List.take i zs ++ ps).length = 0 := by simp; omega
 rw [e, ← List.append_assoc, List.append_assoc (List.take i zs ++ ps)]
 congr 1
 rw [List.drop_eq_getElem_cons h]
 rfl
theorem bt_step (p v c x y wv a b T : Nat) (hT : T = y * wv + c + x) (h : v + p * c = a + b * wv) : v + p * (T % 18446744073709551616) + p * 18446744073709551616 * (T / 18446744073709551616) = a + p * x + (b + p * y) * wv := by
 have h2 := Nat.mod_add_div T 18446744073709551616
 generalize T % 18446744073709551616 = s at *
 generalize T / 18446744073709551616 = d at *
 subst hT
 grind
theorem bt_words (x y wv c : Nat) (hx : x < 18446744073709551616) (hy : y < 18446744073709551616) (hw : wv < 18446744073709551616) (hc : c < 18446744073709551616) :
   (x + (y * wv % 18446744073709551616 + c) % 18446744073709551616) % 18446744073709551616 = (y * wv + c + x) % 18446744073709551616 ∧
   y * wv / 18446744073709551616 + (y * wv % 18446744073709551616 + c) / 18446744073709551616 < 18446744073709551616 ∧
   y * wv / 18446744073709551616 + (y * wv % 18446744073709551616 + c) / 18446744073709551616 + (x + (y * wv % 18446744073709551616 + c) % 18446744073709551616) / 18446744073709551616 = (y * wv + c + x) / 18446744073709551616 ∧
   (y * wv + c + x) / 18446744073709551616 < 18446744073709551616 := by
 have h : y * wv ≤ 18446744073709551615 * 18446744073709551615 := Nat.mul_le_mul (by omega) (by omega)
 generalize y * wv = q at *
 omega
set_option maxHeartbeats 2000000 in
theorem bt_walk (sm : Value) (more zs : List Nat) (g i wv : Nat) (w0 w : World) (h0 : Ws w0 sm more) (hB : Below w0.heap.size w0 w) (hg : w0.heap.size ≤ g) (hr : Row w 39 g (wds zs)) (hz : Small zs) (hwv : wv < 18446744073709551616)
   (hi : i + more.length < zs.length) (hl : zs.length ≤ 1000000) :
   Calls Tryd.prog 45 #[sm, .int .u64 (wv : Nat), .slice (some ⟨g, i, none⟩) (zs.length - i) (zs.length - i)] w fun e w' => e = .returned (.tuple #[]) ∧
     ∃ (ps : List Nat), ps.length = more.length + 1 ∧ Small ps ∧ val ps = val ((zs.drop i).take more.length) + val more * wv ∧ Row w' 39 g (wds (btRow zs ps i (more.length + 1))) ∧ w.grownBy w' (some g) := by
 have hms : Small more := h0.small
 obtain ⟨a, cap, rfl, hcap, hc⟩ := h0.shape
 have hcm : ∀ W, w.grownBy W (some g) → ∀ k, k < more.length → ∃ b off, a = some ⟨b, off, none⟩ ∧ W.cell? ⟨b, off + k, none⟩ = some (.int .u64 (more.getD k 0 : Nat)) := by
   intro W hW k hk
   rcases hc with hc | ⟨b, off, ha, hb, hc⟩
   · rw [hc] at hk; simp at hk
   · exact ⟨b, off, ha, hW.cell (cell_later hB (hc k hk)) (by simp; omega)⟩
 have hl' : (zs.length : Int) ≤ 1000000 := by omega
 have hml : (more.length : Int) ≤ 1000000 := by omega
 generalize hN : zs.length - i = N
 have HN : Hid (zs.length - i = N) := hN
 have hNl : (more.length : Int) < (N : Int) := by omega
 have hNs : (N : Int) ≤ 1000000 := by omega
 clear hc hN
 go_enter Tryd.func45, Tryd.ntmps45
 go_wp2
 go_loopw [6, 14] (fun cr j wr => ∃ (k c : Nat) (ps : List Nat), k ≤ more.length ∧ c < 18446744073709551616 ∧ j = .int .i64 k ∧ cr = .int .u64 c ∧ ps.length = k ∧ Small ps ∧ val ps + 2 ^ (64 * k) * c = val ((zs.drop i).take k) + val (more.take k) * wv ∧ Row wr 39 g (wds (btRow zs ps i k)) ∧ w.grownBy wr (some g))
   (fun _ j _ => more.length - (intOf j).toNat)
 case atStart => exact ⟨0, 0, [], Nat.zero_le _, by omega, rfl, rfl, rfl, fun n hn => by simp at hn, by simp [val], by simpa [btRow] using hr, World.grownBy.refl _ _⟩
 case round =>
   obtain ⟨k, c, ps, hk, hcb, rfl, rfl, hps, hsm, hv, hrk, hgr⟩ := hrel
   by_cases hlt : k < more.length
   · obtain ⟨b, off, rfl, hcell⟩ := hcm wr hgr k hlt
     have hik : i + k < zs.length := by omega
     have hxk : wr.cell? ⟨g, i + k, none⟩ = some (.int .u64 (zs.getD (i + k) 0 : Nat)) := by
       rw [hrk.cell (i + k) (by rw [wds_length, btRow_length _ _ _ _ hps (by omega)]; exact hik), wds_getD _ _ (by rw [btRow_length _ _ _ _ hps (by omega)]; exact hik), btRow_getD _ _ _ _ hps hik]
     have hfk := hrk.frozen (i + k)
     have hx := small_getD hz (i + k)
     have hy := small_getD hms k
     obtain ⟨m1, m2, m3, m4⟩ := bt_words (zs.getD (i + k) 0) (more.getD k 0) wv c hx hy hwv hcb
     have HNV : Hid (val (ps ++ [(more.getD k 0 * wv + c + zs.getD (i + k) 0) % 18446744073709551616]) + 2 ^ (64 * (k + 1)) * ((more.getD k 0 * wv + c + zs.getD (i + k) 0) / 18446744073709551616) = val ((zs.drop i).take (k + 1)) + val (more.take (k + 1)) * wv) := by
       rw [val_snoc, hps, val_take_succ, val_take_succ, getD_drop, Nat.mul_add, Nat.mul_one, Nat.pow_add, show (2 : Nat) ^ 64 = 18446744073709551616 from rfl]
       exact bt_step _ _ _ _ _ _ _ _ _ rfl hv
     have HNR : Hid (Row (wr.setCell ⟨g, i + k, none⟩ (.int .u64 ((more.getD k 0 * wv + c + zs.getD (i + k) 0) % 18446744073709551616 : Nat))) 39 g (wds (btRow zs (ps ++ [(more.getD k 0 * wv + c + zs.getD (i + k) 0) % 18446744073709551616]) i (k + 1)))) := by
       rw [← btRow_set zs ps i k _ hps hik]; exact hrk.set (i + k) _
     have HNS : Hid (Small (ps ++ [(more.getD k 0 * wv + c + zs.getD (i + k) 0) % 18446744073709551616])) := small_app hsm (fun n hn => by simp at hn; rw [hn]; exact Nat.mod_lt _ (by omega))
     have HNC : Hid ((more.getD k 0 * wv + c + zs.getD (i + k) 0) / 18446744073709551616 < 18446744073709551616) := m4
     have hmul := fun W => mulN (more.getD k 0) wv W hy hwv
     have ha1 := fun W => isAdd.run (more.getD k 0 * wv % 18446744073709551616) c 0 W (by omega)
     have ha2 := fun W => isAdd.run (zs.getD (i + k) 0) ((more.getD k 0 * wv % 18446744073709551616 + c) % 18446744073709551616) 0 W (by omega)
     simp only [Nat.add_zero] at ha1 ha2
     have hw1 : IntKind.u64.wrap (((more.getD k 0 * wv / 18446744073709551616 : Nat) : Int) + ((more.getD k 0 * wv % 18446744073709551616 + c) / 18446744073709551616 : Nat)) = ((more.getD k 0 * wv / 18446744073709551616 + (more.getD k 0 * wv % 18446744073709551616 + c) / 18446744073709551616 : Nat) : Int) := by
       rw [IntKind.wrap_u64]; omega
     have hw2 : IntKind.u64.wrap (((more.getD k 0 * wv / 18446744073709551616 + (more.getD k 0 * wv % 18446744073709551616 + c) / 18446744073709551616 : Nat) : Int) + ((zs.getD (i + k) 0 + (more.getD k 0 * wv % 18446744073709551616 + c) % 18446744073709551616) / 18446744073709551616 : Nat)) = ((more.getD k 0 * wv + c + zs.getD (i + k) 0) / 18446744073709551616 : Nat) := by
       rw [← m3, IntKind.wrap_u64]; omega
     rw [m1] at ha2
     clear m3 m1 m2 m4
     generalize (more.getD k 0 * wv + c + zs.getD (i + k) 0) / 18446744073709551616 = cN at *
     generalize (more.getD k 0 * wv + c + zs.getD (i + k) 0) % 18446744073709551616 = sN at *
     generalize more.getD k 0 * wv / 18446744073709551616 + (more.getD k 0 * wv % 18446744073709551616 + c) / 18446744073709551616 = h1 at *
     generalize (zs.getD (i + k) 0 + (more.getD k 0 * wv % 18446744073709551616 + c) % 18446744073709551616) / 18446744073709551616 = c2 at *
     generalize (more.getD k 0 * wv % 18446744073709551616 + c) % 18446744073709551616 = s1 at *
     generalize (more.getD k 0 * wv % 18446744073709551616 + c) / 18446744073709551616 = c1 at *
     generalize more.getD k 0 * wv % 18446744073709551616 = lo at *
     generalize more.getD k 0 * wv / 18446744073709551616 = hi' at *
     generalize more.getD k 0 = y at *
     generalize zs.getD (i + k) 0 = x at *
     have ha1' : ∀ W, (callFunc 54 #[.int .u64 (lo : Nat), .int .u64 (c : Nat), .int .u64 0]).run Tryd.prog W = .ok (.value (.tuple #[.int .u64 (s1 : Nat), .int .u64 (c1 : Nat)])) W := ha1
     have ha2' : ∀ W, (callFunc 54 #[.int .u64 (x : Nat), .int .u64 (s1 : Nat), .int .u64 0]).run Tryd.prog W = .ok (.value (.tuple #[.int .u64 (sN : Nat), .int .u64 (c2 : Nat)])) W := ha2
     clear ha1 ha2
     have HPS : Hid (ps.length = k) := hps
     have HGR : Hid _ := hgr
     have HMUL : Hid _ := hmul
     have hkN : (k : Int) < (N : Int) := by omega
     have hkm : (k : Int) < (more.length : Int) := by omega
     clear hps hgr hmul hv hrk hsm hcm hr hz hms h0
     go_wp2_with fail
     refine (HMUL.out _).mono ?_
     rintro e w1 ⟨rfl, rfl⟩
     go_wp2
     exact ⟨⟨k + 1, cN, ps ++ [sN], by omega, HNC.out, by go_num, rfl, by simp [HPS.out], HNS.out, HNV.out, HNR.out, grown_set HGR.out _ _⟩, by simp [intOf]; omega⟩
   · have hkm : k = more.length := by omega
     subst hkm
     have hik : i + more.length < zs.length := hi
     have hxk : ∃ v, wr.cell? ⟨g, i + more.length, none⟩ = some v := ⟨_, hrk.cell (i + more.length) (by rw [wds_length, btRow_length _ _ _ _ hps (by omega)]; exact hik)⟩
     obtain ⟨v0, hxk⟩ := hxk
     have hfk := hrk.frozen (i + more.length)
     have HNR : Hid (Row (wr.setCell ⟨g, i + more.length, none⟩ (.int .u64 (c : Nat))) 39 g (wds (btRow zs (ps ++ [c]) i (more.length + 1)))) := by
       rw [← btRow_set zs ps i more.length _ hps hik]; exact hrk.set (i + more.length) _
     have HNS : Hid (Small (ps ++ [c])) := small_app hsm (fun n hn => by simp at hn; rw [hn]; exact hcb)
     have HNV : Hid (val (ps ++ [c]) = val ((zs.drop i).take more.length) + val more * wv) := by
       rw [val_snoc, hps, hv, List.take_of_length_le (Nat.le_refl _)]; exact rfl
     have HPS : Hid (ps.length = more.length) := hps
     have HGR : Hid _ := hgr
     clear hps hgr hv hrk hsm hcm hr hz hms h0
     go_wp2
     go_end0
     exact ⟨rfl, ps ++ [c], by simp [HPS.out], HNS.out, HNV.out, HNR.out, grown_set HGR.out _ _⟩
end

/- The walk of times: the product of two magnitudes. -/
section
open Go.RowKit
attribute [local go_sem ↓] Go.wp_at_zero Go.wp_at_succ
theorem times_step (zs ps : List Nat) (k n B wv : Nat) (hl : k + n + 1 ≤ zs.length) (hp : ps.length = n + 1) (hz : ∀ j, k + n ≤ j → zs.getD j 0 = 0) (hv : val ps = val ((zs.drop k).take n) + B * wv) :
   val (btRow zs ps k (n + 1)) = val zs + 2 ^ (64 * k) * (B * wv) ∧ ∀ j, k + 1 + n ≤ j → (btRow zs ps k (n + 1)).getD j 0 = 0 := by
 have hd : val (zs.drop (k + (n + 1))) = 0 := val_zero fun j => by rw [getD_drop]; exact hz _ (by omega)
 have e1 : val zs = val (zs.take k) + 2 ^ (64 * k) * val ((zs.drop k).take n) := by
   rw [val_take_drop zs k (by omega), val_take (ns := zs.drop k) n (fun j hj => by rw [getD_drop]; exact hz _ (by omega))]
 refine ⟨?_, fun j hj => ?_⟩
 · unfold btRow
   rw [val_append, val_append, hd, hv, List.length_take, Nat.min_eq_left (by omega), e1]
   generalize 2 ^ (64 * k) = p
   grind
 · unfold btRow
   rw [List.getD, List.getElem?_append_right (by simp; omega)]
   have := hz (k + (n + 1) + (j - (List.take k zs ++ ps).length)) (by omega)
   rw [List.getD] at this
   rw [List.getElem?_drop]; exact this
theorem rep_getD (n j : Nat) : (List.replicate n (0 : Nat)).getD j 0 = 0 := by
 rw [List.getD, List.getElem?_replicate]; split <;> rfl
theorem rep_val (n : Nat) : val (List.replicate n 0) = 0 := val_zero (rep_getD n)
theorem small_bt {zs ps : List Nat} (h1 : Small zs) (h2 : Small ps) (i k : Nat) : Small (btRow zs ps i k) :=
 small_app (small_app (fun n hn => h1 n (List.mem_of_mem_take hn)) h2) (small_drop h1 _)
set_option maxHeartbeats 2000000 in
theorem times_walk (a1 a2 : Option Addr) (c1 c2 : Nat) (ns1 ns2 : List Nat) (low1 low2 : Int) (w : World)
   (h1 : Ws w (.slice a1 ns1.length c1) ns1) (h2 : Ws w (.slice a2 ns2.length c2) ns2) (hT : Tab w) (l1 : ns1.length ≤ 10000) (l2 : ns2.length ≤ 10000)
   (b1 : -70000 ≤ low1) (b2 : low1 ≤ 70000) (b3 : -70000 ≤ low2) (b4 : low2 ≤ 70000) :
   Calls Tryd.prog 29 #[.agg #[.slice a1 ns1.length c1, .int .i64 low1], .agg #[.slice a2 ns2.length c2, .int .i64 low2]] w fun e w' => Made w w' (val ns1 * val ns2) (low1 + low2) e := by
 obtain ⟨i0, hi, hz0, hz1, hz2⟩ := info_parts Tryd.info39'
 have HT : Hid (Tab w) := hT
 have HB0 : Hid (Below w.heap.size w (((w.alloc (.cells #[.slice a1 ns1.length c1, .int .i64 low1] 25)).alloc (.cells #[.slice a2 ns2.length c2, .int .i64 low2] 25)).alloc (.cells #[.slice none 0 0, .int .i64 0] 25))) := (((Below.refl _ _).alloc (Nat.le_refl _) _).alloc (by simp) _).alloc (by simp; omega) _
 have l1' : (ns1.length : Int) ≤ 10000 := by omega
 have l2' : (ns2.length : Int) ≤ 10000 := by omega
 clear hT
 go_enter Tryd.func29, Tryd.ntmps29
 go_wp2_with (at_make; refine wpList_make_full _ rfl _ _ 23 rfl w.heap.size 39 i0 (.int .u64 0) 1 Tryd.underlying23 hi hz0 hz1 _ _ _ _ (ns1.length + ns2.length) rfl rfl ?hL ?hC ?b2 ?b3 ?b4 ?_)
 case hL => omega
 case hC => omega
 case b2 => rw [hz2]; omega
 case b3 => unfold maxLen; omega
 case b4 => simp; omega
 intro w0 hown0 hgrow0
 have hrow := Row.of_make hown0
 have hbW : Below (((w.alloc (.cells #[.slice a1 ns1.length c1, .int .i64 low1] 25)).alloc (.cells #[.slice a2 ns2.length c2, .int .i64 low2] 25)).alloc (.cells #[.slice none 0 0, .int .i64 0] 25)).heap.size (((w.alloc (.cells #[.slice a1 ns1.length c1, .int .i64 low1] 25)).alloc (.cells #[.slice a2 ns2.length c2, .int .i64 low2] 25)).alloc (.cells #[.slice none 0 0, .int .i64 0] 25)) w0 := (Below.refl _ _).grown hgrow0 (Nat.le_refl _) (fun k hk => by cases hk)
 have hx0 : w0.cell? ⟨w.heap.size, 0, none⟩ = some (.slice a1 ns1.length c1) := cell_later hbW (by go_simp)
 have hx1 : w0.cell? ⟨w.heap.size, 1, none⟩ = some (.int .i64 low1) := cell_later hbW (by go_simp)
 have hx2 : w0.cell? ⟨w.heap.size + 1, 0, none⟩ = some (.slice a2 ns2.length c2) := cell_later hbW (by go_simp)
 have hx3 : w0.cell? ⟨w.heap.size + 1, 1, none⟩ = some (.int .i64 low2) := cell_later hbW (by go_simp)
 clear hown0 hgrow0 hz0 hz1 hz2 hi
 go_wp2
 generalize hg : w.heap.size + 1 + 1 + 1 = g at *
 have hgN : w.heap.size + 3 ≤ g := by omega
 clear hg
 go_loopw [19] (fun j wr => ∃ (k : Nat) (zs : List Nat), k ≤ ns1.length ∧ j = .int .i64 k ∧ zs.length = ns1.length + ns2.length ∧ Small zs ∧ val zs = val (ns1.take k) * val ns2 ∧ (∀ t, k + ns2.length ≤ t → zs.getD t 0 = 0) ∧ Row wr 39 g (wds zs) ∧ wr.cell? ⟨w.heap.size, 0, none⟩ = some (.slice a1 ns1.length c1) ∧ wr.cell? ⟨w.heap.size, 1, none⟩ = some (.int .i64 low1) ∧ wr.cell? ⟨w.heap.size + 1, 0, none⟩ = some (.slice a2 ns2.length c2) ∧ wr.cell? ⟨w.heap.size + 1, 1, none⟩ = some (.int .i64 low2) ∧ Below (((w.alloc (.cells #[.slice a1 ns1.length c1, .int .i64 low1] 25)).alloc (.cells #[.slice a2 ns2.length c2, .int .i64 low2] 25)).alloc (.cells #[.slice none 0 0, .int .i64 0] 25)).heap.size (((w.alloc (.cells #[.slice a1 ns1.length c1, .int .i64 low1] 25)).alloc (.cells #[.slice a2 ns2.length c2, .int .i64 low2] 25)).alloc (.cells #[.slice none 0 0, .int .i64 0] 25)) wr)
   (fun j _ => ns1.length - (intOf j).toNat)
 case atStart => exact ⟨0, List.replicate (ns1.length + ns2.length) 0, Nat.zero_le _, rfl, by simp, fun n hn => by rw [List.mem_replicate] at hn; omega, by rw [rep_val]; simp [val], fun t _ => rep_getD _ t, by simpa [wds] using hrow, hx0, hx1, hx2, hx3, hbW⟩
 case round =>
   obtain ⟨k, zs, hk, rfl, hzl, hzs, hzv, hzz, hrk, hy0, hy1, hy2, hy3, hbk⟩ := hrel
   clear hx0 hx1 hx2 hx3 hbW hrow
   by_cases hlt : k < ns1.length
   · have hW1 := h1.later (thru HB0.out hbk) (Nat.le_refl _)
     obtain ⟨b, off, rfl, hck⟩ : ∃ b off, a1 = some ⟨b, off, none⟩ ∧ wr.cell? ⟨b, off + k, none⟩ = some (.int .u64 (ns1.getD k 0 : Nat)) := by
       obtain ⟨a, cap, hs, _, hc⟩ := hW1.shape
       simp only [Value.slice.injEq] at hs
       obtain ⟨rfl, _, rfl⟩ := hs
       rcases hc with hc | ⟨b, off, ha, _, hc⟩
       · rw [hc] at hlt; simp at hlt
       · exact ⟨b, off, ha, hc k hlt⟩
     have hkl : (k : Int) < (ns1.length : Int) := by omega
     have hwk := small_getD hW1.small k
     have HNV : Hid (∀ ps : List Nat, ps.length = ns2.length + 1 → val ps = val ((zs.drop k).take ns2.length) + val ns2 * ns1.getD k 0 → val (btRow zs ps k (ns2.length + 1)) = val (ns1.take (k + 1)) * val ns2 ∧ ∀ t, k + 1 + ns2.length ≤ t → (btRow zs ps k (ns2.length + 1)).getD t 0 = 0) := fun ps hp hv => by
       have := times_step zs ps k ns2.length (val ns2) (ns1.getD k 0) (by omega) hp hzz hv
       refine ⟨?_, this.2⟩
       rw [this.1, hzv, val_take_succ]
       generalize 2 ^ (64 * k) = p
       grind
     have hbt := fun (W : World) (hW : Below (((w.alloc (.cells #[.slice (some ⟨b, off, none⟩) ns1.length c1, .int .i64 low1] 25)).alloc (.cells #[.slice a2 ns2.length c2, .int .i64 low2] 25)).alloc (.cells #[.slice none 0 0, .int .i64 0] 25)).heap.size (((w.alloc (.cells #[.slice (some ⟨b, off, none⟩) ns1.length c1, .int .i64 low1] 25)).alloc (.cells #[.slice a2 ns2.length c2, .int .i64 low2] 25)).alloc (.cells #[.slice none 0 0, .int .i64 0] 25)) W) (hR : Row W 39 g (wds zs)) => bt_walk _ ns2 zs g k (ns1.getD k 0) w W h2 (thru HB0.out hW) (by omega) hR hzs hwk (by omega) (by omega)
     rw [hzl] at hbt
     have HBT : Hid _ := hbt
     have HZL : Hid _ := hzl
     have HRK : Hid (Row wr 39 g (wds zs)) := hrk
     have HZS : Hid (Small zs) := hzs
     generalize ns1.getD k 0 = x at *
     have hs1 : ((k : Int)) ≤ ((ns1.length + ns2.length : Nat) : Int) := by omega
     have hs2 : ¬ (ns1.length + ns2.length = k) := by omega
     have hs3 : ((k : Int)) ≤ (ns1.length : Int) + (ns2.length : Int) := by omega
     clear hbt hzl hzs hzv hzz hrk hW1 h1
     go_wp2
     go_region_held3 (fun W => W.cell? ⟨w.heap.size, 0, none⟩ = some (.slice (some ⟨b, off, none⟩) ns1.length c1) ∧ W.cell? ⟨w.heap.size, 1, none⟩ = some (.int .i64 low1) ∧ W.cell? ⟨w.heap.size + 1, 0, none⟩ = some (.slice a2 ns2.length c2) ∧ W.cell? ⟨w.heap.size + 1, 1, none⟩ = some (.int .i64 low2) ∧ Below (((w.alloc (.cells #[.slice (some ⟨b, off, none⟩) ns1.length c1, .int .i64 low1] 25)).alloc (.cells #[.slice a2 ns2.length c2, .int .i64 low2] 25)).alloc (.cells #[.slice none 0 0, .int .i64 0] 25)).heap.size (((w.alloc (.cells #[.slice (some ⟨b, off, none⟩) ns1.length c1, .int .i64 low1] 25)).alloc (.cells #[.slice a2 ns2.length c2, .int .i64 low2] 25)).alloc (.cells #[.slice none 0 0, .int .i64 0] 25)) W)
       (first
         | assumption
         | exact ⟨hy0, hy1, hy2, hy3, hbk.drew⟩
         | exact keep4g (by assumption) (by assumption) (by simp; omega) (by simp; omega) (by simp; omega) (by simp; omega) (by simp; omega))
       (first
         | (go_at_call 45; refine (HBT.out _ hbk.drew HRK.out).mono ?_; rintro e wy ⟨rfl, ps, hpl, hps, hpv, hpr, hgr⟩))
     have hh := (by assumption : wy.cell? ⟨w.heap.size, 0, none⟩ = _ ∧ wy.cell? _ = _ ∧ wy.cell? _ = _ ∧ wy.cell? _ = _ ∧ Below _ _ wy)
     have HH : Hid _ := hh
     have hnv := HNV.out ps hpl hpv
     have HN1 : Hid _ := hnv.1
     have HN2 : Hid _ := hnv.2
     have HPL : Hid _ := hpl
     have HPS : Hid _ := hps
     have HPR : Hid _ := hpr
     clear hh hnv hpl hps hpr hpv hgr
     go_wp2
     exact ⟨⟨k + 1, btRow zs ps k (ns2.length + 1), by omega, by go_num, by rw [btRow_length _ _ _ _ HPL.out (by have := HZL.out; omega)]; exact HZL.out, small_bt HZS.out HPS.out _ _, HN1.out, HN2.out, HPR.out, HH.out.1, HH.out.2.1, HH.out.2.2.1, HH.out.2.2.2.1, HH.out.2.2.2.2⟩, by simp [intOf]; omega⟩
   · have hkn : k = ns1.length := by omega
     subst hkn
     have hge : ¬ ((ns1.length : Int) < (ns1.length : Int)) := by omega
     have hBw : Below w.heap.size w wr := thru HB0.out hbk
     have hWz : Ws wr (.slice (some ⟨g, 0, none⟩) (ns1.length + ns2.length) (ns1.length + ns2.length)) zs := by
       have := hrk.ws hzs (by omega) (ns1.length + ns2.length) (by omega)
       rw [hzl] at this; exact this
     have hTb := HT.out.later hBw
     have q0 : wr.cell? ⟨w.heap.size + 1 + 1, 0, none⟩ = some (.slice none 0 0) := cell_later hbk (by go_simp)
     have q1 : wr.cell? ⟨w.heap.size + 1 + 1, 1, none⟩ = some (.int .i64 0) := cell_later hbk (by go_simp)
     have q2 : wr.frozen? ⟨w.heap.size + 1 + 1, 0, none⟩ = false := frozen_later hbk (by go_simp) (by simp)
     have q3 : wr.frozen? ⟨w.heap.size + 1 + 1, 1, none⟩ = false := frozen_later hbk (by go_simp) (by simp)
     have hsz : w.heap.size + 1 + 1 < wr.heap.size := by have := hbk.size; simp at this; omega
     have HZ : Hid (val zs = val ns1 * val ns2) := by rw [hzv, List.take_of_length_le (Nat.le_refl _)]; exact rfl
     have HWZ : Hid _ := hWz
     have HTB : Hid (Tab wr) := hTb
     have HBW : Hid _ := hBw
     clear hzl hzs hzv hzz hrk hbk h1 h2 hWz hTb hBw
     go_wp2_with fail
     refine (own_any _ zs _ _ HWZ.out HTB.out (by omega) (by omega)).mono ?_
     rintro e w5 ⟨s5, ns5, low5, rfl, hws5, ho5, ht5, hlo5, hb5⟩
     obtain ⟨a5, c5, rfl, hc5, hx5⟩ := hws5.shape
     have p0 := cell_later hb5 q0
     have p1 := cell_later hb5 q1
     have p2 := frozen_later hb5 q2 hsz
     have p3 := frozen_later hb5 q3 hsz
     have HX5 : Hid _ := hx5
     have HLO5 : Hid (-200000000 ≤ low5 ∧ low5 ≤ 200000000) := hlo5
     clear hx5 q0 q1 q2 q3 hlo5
     go_wp2
     refine bodyPost_ret (v := .agg #[.slice a5 ns5.length c5, .int .i64 low5]) (by simp [results, Tryd.results29, go_sem, p0, p1]) rfl ?_
     have hws6 := (hws5.set p0 (by intro n; simp) (.slice a5 ns5.length c5)).set (cell_ne p1 p0 (by simp) (.slice a5 ns5.length c5)) (by intro n; simp) (.int .i64 low5)
     refine ⟨_, ns5, low5, rfl, hws6, ho5, by rw [← HZ.out]; exact ht5, HLO5.out, ?_⟩
     exact ((thru HBW.out hb5).setCell (by simp; omega) _).setCell (by simp; omega) _
end
end Go.Proofs.YtlpnobcapdbfkaaDoor
