/- Own texts, put together: Wc We Wf. -/
import Derived.Test.YtlpnobcapdbfkaaDoorQ1
import Derived.Test.YtlpnobcapdbfkaaDoorQ5
namespace Go.Proofs.YtlpnobcapdbfkaaDoor
/- The walk of span: the words from one bit to another. -/
section
open Go.RowKit
theorem Tryd.info39' : (Tryd.prog.info? 39).map (fun i => (i.zero, i.size, i.bytes)) = some (some (.int .u64 0), 1, 8) := by kernel_rfl
def spanL (ns : List Nat) (mlow low : Int) (n : Nat) : List Nat := (List.range n).map fun i => win ns mlow (low + 64 * (i : Nat))
def spanR (ns : List Nat) (mlow low : Int) (n k : Nat) : List Value := wds (spanL ns mlow low k) ++ List.replicate (n - k) (.int .u64 0)
theorem spanR_step (ns : List Nat) (mlow low : Int) (n k : Nat) (hk : k < n) : (spanR ns mlow low n k).set k (.int .u64 (win ns mlow (low + 64 * (k : Nat)) : Nat)) = spanR ns mlow low n (k + 1) := by
 unfold spanR spanL wds
 obtain ⟨m, hm⟩ : ∃ m, n - k = m + 1 := ⟨n - k - 1, by omega⟩
 rw [hm, show n - (k + 1) = m by omega, List.replicate_succ, List.set_append_right _ _ (by simp)]
 simp [List.range_succ]
theorem spanR_done (ns : List Nat) (mlow low : Int) (n : Nat) : spanR ns mlow low n n = wds (spanL ns mlow low n) := by simp [spanR]
set_option maxHeartbeats 1000000 in
theorem span_any (s : Value) (ns : List Nat) (mlow low : Int) (n r : Nat) (w : World) (h : Ws w s ns) (h1 : -200000000 ≤ mlow) (h2 : mlow ≤ 200000000) (h3 : -200000000 ≤ low) (h4 : low ≤ 200000000) (h5 : n ≤ 1000000) (hr : r < 64) :
   Calls Tryd.prog 38 #[.agg #[s, .int .i64 mlow], .int .i64 low, .int .i64 (low + (64 * n + r : Nat))] w fun e w' => ∃ g, w.heap.size ≤ g ∧ e = .returned (.slice (some ⟨g, 0, none⟩) (n + 1) (n + 1)) ∧ Row w' 39 g (wds (spanL ns mlow low (n + 1))) ∧ Below w.heap.size w w' := by
 obtain ⟨a, cap, rfl, _, hc⟩ := h.shape
 obtain ⟨i0, hi, hz0, hz1, hz2⟩ := info_parts Tryd.info39'
 have hq1 : (((64 * n + r : Nat) : Int)) / 64 = (n : Int) := by omega
 have hq2 : low + ((64 * n + r : Nat) : Int) - low = ((64 * n + r : Nat) : Int) := by omega
 have hq3 : ((64 * n + r : Nat) : Int) ≤ 100000000 := by omega
 have hq4 : (n : Int) ≤ 1000000 := by omega
 generalize ((64 * n + r : Nat) : Int) = d at *
 have hd0 : 0 ≤ d := by omega
 go_enter Tryd.func38, Tryd.ntmps38
 go_wp2_with (at_make; refine wpList_make_full _ rfl _ _ 23 rfl w.heap.size 39 i0 (.int .u64 0) 1 Tryd.underlying23 hi hz0 hz1 _ _ _ _ (n + 1) rfl rfl ?hL ?hC ?b2 ?b3 ?b4 ?_)
 case hL => omega
 case hC => omega
 case b2 => rw [hz2]; omega
 case b3 => unfold maxLen; omega
 case b4 => simp
 intro w0 hown0 hgrow0
 have hrow := Row.of_make hown0
 have hb0 : Below w.heap.size w w0 := ((Below.refl _ _).alloc (Nat.le_refl _) _).grown hgrow0 (by simp) (fun k hk => by cases hk)
 have hx0 : w0.cell? ⟨w.heap.size, 0, none⟩ = some (.slice a ns.length cap) := hgrow0.cell (by simp) (by simp)
 have hx1 : w0.cell? ⟨w.heap.size, 1, none⟩ = some (.int .i64 mlow) := hgrow0.cell (by simp) (by simp)
 clear hown0 hgrow0 hz0 hz1 hz2 hi
 go_wp2
 go_loopw [17] (fun i wr => ∃ k : Nat, k ≤ n + 1 ∧ i = .int .i64 k ∧ Row wr 39 (w.heap.size + 1) (spanR ns mlow low (n + 1) k) ∧ wr.cell? ⟨w.heap.size, 0, none⟩ = some (.slice a ns.length cap) ∧ wr.cell? ⟨w.heap.size, 1, none⟩ = some (.int .i64 mlow) ∧ Below w.heap.size w wr)
   (fun i _ => n + 1 - (intOf i).toNat)
 case atStart => exact ⟨0, Nat.zero_le _, rfl, by simpa [spanR, spanL, wds] using hrow, hx0, hx1, hb0⟩
 case round =>
   obtain ⟨k, hk, rfl, hrk, hy0, hy1, hbk⟩ := hrel
   by_cases hlt : k < n + 1
   · have hW := h.later hbk (Nat.le_refl _)
     have hlt' : (k : Int) < (n : Int) + 1 := by omega
     have hln : (spanR ns mlow low (n + 1) k).length = n + 1 := by simp [spanR, spanL, wds]; omega
     go_wp2_with fail
     refine (window_any _ ns _ _ _ hW (by omega) (by omega) (by omega) (by omega)).mono ?_
     rintro e w' ⟨rfl, hb⟩
     have hrw := hrk.below hb hrk.lt
     have hf := hrw.frozen k
     obtain ⟨v0, hce⟩ : ∃ v0, w'.cell? ⟨w.heap.size + 1, k, none⟩ = some v0 := ⟨_, hrw.cell k (by omega)⟩
     have hst := spanR_step ns mlow low (n + 1) k hlt
     have Hst : Hid (Row (w'.setCell ⟨w.heap.size + 1, k, none⟩ (.int .u64 (win ns mlow (low + 64 * (k : Nat)) : Nat))) 39 (w.heap.size + 1) (spanR ns mlow low (n + 1) (k + 1))) := by rw [← hst]; exact hrw.set k _
     have hz0 := cell_later hb hy0
     have hz1 := cell_later hb hy1
     have Hbk : Hid (Below w.heap.size w w') := hbk.trans (hb.mono hbk.size)
     clear hst hrw hrk hW hb hbk
     go_wp2
     go_roundw
     case rel => exact ⟨k + 1, by omega, by go_num, Hst.out, cell_other hz0 (by simp) _, cell_other hz1 (by simp) _, Hbk.out.setCell (by simp) _⟩
     case measure => simp [intOf]; omega
   · have hk' : k = n + 1 := by omega
     have hge : ¬ ((k : Int) < (n : Int) + 1) := by omega
     have Hr : Hid (Row wr 39 (w.heap.size + 1) (wds (spanL ns mlow low (n + 1)))) := by rw [← spanR_done]; subst hk'; exact hrk
     clear hk' hrk
     go_wp2
     go_ret
     exact ⟨w.heap.size + 1, by omega, rfl, Hr.out, hbk⟩
end

/- The walk of highest: the highest bit of a magnitude. -/
section
open Go.RowKit
attribute [local go_sem ↓] Go.wp_at_zero Go.wp_at_succ
theorem keep3 {w W W' : World} {p q r : Addr} {x y z : Value} (h : W.cell? p = some x ∧ W.cell? q = some y ∧ W.cell? r = some z ∧ Below w.heap.size w W) (hb : Below W.heap.size W W') : W'.cell? p = some x ∧ W'.cell? q = some y ∧ W'.cell? r = some z ∧ Below w.heap.size w W' :=
 ⟨cell_later hb h.1, cell_later hb h.2.1, cell_later hb h.2.2.1, h.2.2.2.trans (hb.mono h.2.2.2.size)⟩
set_option maxHeartbeats 1000000 in
theorem highest_some (b off len cap t : Nat) (low : Int) (w : World) (hc : w.cell? ⟨b, off + len, none⟩ = some (.int .u64 (t : Nat))) (h0 : t ≠ 0) (h1 : t < 18446744073709551616) (h2 : -200000000 ≤ low) (h3 : low ≤ 200000000) (h4 : len ≤ 1000000) (h5 : Nat.log2 t ≤ 64) :
   Calls Tryd.prog 35 #[.agg #[.slice (some ⟨b, off, none⟩) (len + 1) cap, .int .i64 low]] w fun e w' => e = .returned (.int .i64 (low + (64 * len + Nat.log2 t : Nat))) ∧ Below w.heap.size w w' := by
 have hz : ((len : Int) + 1 == 0) = false := by rw [beq_eq_false_iff_ne]; omega
 have hz' : (((len + 1 : Nat) : Int) == 0) = false := by rw [beq_eq_false_iff_ne]; omega
 have hl : (len : Int) ≤ 1000000 := by omega
 have hl1 : IntKind.i64.wrap (64 * (len : Int)) = 64 * (len : Int) := wrapI _ (by omega) (by omega)
 have hl2 : IntKind.i64.wrap (low + 64 * (len : Int)) = low + 64 * (len : Int) := wrapI _ (by omega) (by omega)
 have hl3 : IntKind.i64.wrap (low + 64 * (len : Int) + ((Nat.log2 t : Nat) + 1 : Int)) = low + 64 * (len : Int) + ((Nat.log2 t : Nat) + 1 : Int) := wrapI _ (by omega) (by omega)
 have hl4 : IntKind.i64.wrap (low + 64 * (len : Int) + ((Nat.log2 t : Nat) + 1 : Int) - 1) = low + (64 * len + Nat.log2 t : Nat) := by rw [wrapI _ (by omega) (by omega)]; omega
 have hi1 : (0 : Int) ≤ (len : Int) := by omega
 have hi2 : (len : Int) < (len : Int) + 1 := by omega
 have hi3 : (len : Int) < ((len + 1 : Nat) : Int) := by omega
 go_enter Tryd.func35, Tryd.ntmps35
 go_wp2_with fail
 refine (isZero_any _ _ _ _ _).mono ?_
 rintro e w' ⟨rfl, hb1⟩
 have hx0 : w'.cell? ⟨w.heap.size, 0, none⟩ = some (.slice (some ⟨b, off, none⟩) (len + 1) cap) := cell_later hb1 (by simp)
 have hx1 : w'.cell? ⟨w.heap.size, 1, none⟩ = some (.int .i64 low) := cell_later hb1 (by simp)
 have hB : Below w.heap.size w w' := ((Below.refl _ _).alloc (Nat.le_refl _) _).trans (hb1.mono (by simp))
 have hc' : w'.cell? ⟨b, off + len, none⟩ = some (.int .u64 (t : Nat)) := cell_later hB hc
 clear hb1 hc
 go_wp2
 go_region_held3 (fun W => W.cell? ⟨w.heap.size, 0, none⟩ = some (.slice (some ⟨b, off, none⟩) (len + 1) cap) ∧ W.cell? ⟨w.heap.size, 1, none⟩ = some (.int .i64 low) ∧ W.cell? ⟨b, off + len, none⟩ = some (.int .u64 (t : Nat)) ∧ Below w.heap.size w W)
   (first | exact ⟨hx0, hx1, hc', hB.drew⟩)
   (first | (go_at_call 51; refine (len64_any _ _ ?_ ?_).mono ?_; omega; omega; rintro e w' ⟨rfl, rfl⟩))
 go_wp2
 go_ret
 exact ⟨rfl, hB.drew⟩
set_option maxHeartbeats 400000 in
theorem highest_none (a : Option Addr) (cap : Nat) (low : Int) (w : World) :
   Calls Tryd.prog 35 #[.agg #[.slice a 0 cap, .int .i64 low]] w fun e w' => e = .returned (.int .i64 0) ∧ Below w.heap.size w w' := by
 go_enter Tryd.func35, Tryd.ntmps35
 go_wp2_with fail
 refine (isZero_any _ _ _ _ _).mono ?_
 rintro e w' ⟨rfl, hb1⟩
 go_wp2
 go_ret
 exact ⟨rfl, ((Below.refl _ _).alloc (Nat.le_refl _) _).trans (hb1.mono (by simp))⟩
theorem highest_any (s : Value) (ns : List Nat) (low : Int) (w : World) (h : Ws w s ns) (ht : Topped ns) (h2 : -200000000 ≤ low) (h3 : low ≤ 200000000) :
   Calls Tryd.prog 35 #[.agg #[s, .int .i64 low]] w fun e w' => e = .returned (.int .i64 (hiB ns low)) ∧ Below w.heap.size w w' := by
 obtain ⟨⟨a, cap, rfl, _, hc⟩, hs, hl⟩ := h
 rcases hc with rfl | ⟨b, off, rfl, hb, hc⟩
 · exact highest_none a cap low w
 · by_cases hne : ns = []
   · subst hne; exact highest_none _ cap low w
   · have hp := List.length_pos_iff.2 hne
     obtain ⟨m, hm⟩ : ∃ m, ns.length = m + 1 := ⟨ns.length - 1, by omega⟩
     have ht' := ht hne
     have hlog := log2_val hs hne ht'
     unfold hiB
     rw [if_neg hne, hlog]
     rw [hm] at hc ht' ⊢
     rw [show m + 1 - 1 = m by omega] at *
     have hsm := small_getD hs m
     exact highest_some b off m cap _ low w (hc m (by omega)) ht' hsm h2 h3 (by omega) (Nat.le_of_lt ((Nat.log2_lt ht').2 hsm))
end

/- The walk of ownForm: the same magnitude without noughts at either end. -/
section
open Go.RowKit
attribute [local go_sem ↓] Go.wp_at_zero Go.wp_at_succ
theorem spanL_up (ns : List Nat) (low : Int) (k n : Nat) : spanL ns low (low + (k : Nat)) n = digs (val ns / 2 ^ k) n := by
 unfold spanL digs
 refine List.map_congr_left fun i _ => ?_
 unfold win
 rw [if_neg (by omega), show (low + (k : Nat) + 64 * (i : Nat) - low : Int).toNat = k + 64 * i by omega, Nat.pow_add, ← Nat.div_div_eq_div_mul]
theorem spanL_down (ns : List Nat) (low : Int) (k n : Nat) : spanL ns (low + (k : Nat)) low n = digs (val ns * 2 ^ k) n := by
 unfold spanL digs
 refine List.map_congr_left fun i _ => ?_
 unfold win
 by_cases h : 64 * i < k
 · rw [if_pos (by omega), show (low + (k : Nat) - (low + 64 * (i : Nat)) : Int).toNat = k - 64 * i by omega]
   congr 1
   rw [show (2 : Nat) ^ k = 2 ^ (k - 64 * i) * 2 ^ (64 * i) by rw [← Nat.pow_add]; congr 1; omega, ← Nat.mul_assoc, Nat.mul_div_cancel _ (Nat.two_pow_pos _)]
 · rw [if_neg (by omega), show (low + 64 * (i : Nat) - (low + (k : Nat)) : Int).toNat = 64 * i - k by omega]
   congr 1
   rw [show (2 : Nat) ^ (64 * i) = 2 ^ k * 2 ^ (64 * i - k) by rw [← Nat.pow_add]; congr 1; omega, ← Nat.div_div_eq_div_mul, Nat.mul_div_cancel _ (Nat.two_pow_pos _)]
theorem keep2_set {w W : World} {p q : Addr} {x y : Value} (h : W.cell? p = some x ∧ W.cell? q = some y ∧ Below w.heap.size w W) (a : Addr) (v : Value) (h1 : p.block ≠ a.block) (h2 : q.block ≠ a.block) (h3 : w.heap.size ≤ a.block) :
   (W.setCell a v).cell? p = some x ∧ (W.setCell a v).cell? q = some y ∧ Below w.heap.size w (W.setCell a v) :=
 ⟨cell_other h.1 h1 v, cell_other h.2.1 h2 v, h.2.2.setCell h3 v⟩
def Made (w w' : World) (V : Nat) (low : Int) (e : Ending) : Prop :=
 ∃ s ns' low', e = .returned (.agg #[s, .int .i64 low']) ∧ Ws w' s ns' ∧ OwnF ns' low' ∧ Tells V low ns' low' ∧ (-200000000 ≤ low' ∧ low' ≤ 200000000) ∧ Below w.heap.size w w'
set_option maxHeartbeats 2000000 in
theorem own_walk (b off cap : Nat) (ns : List Nat) (low : Int) (w : World) (hcap : ns.length ≤ cap) (hbs : b < w.heap.size) (hc : ∀ j, j < ns.length → w.cell? ⟨b, off + j, none⟩ = some (.int .u64 (ns.getD j 0 : Nat))) (hs : Small ns) (hl : ns.length ≤ 1000000) (hT : Tab w) (h2 : -100000000 ≤ low) (h3 : low ≤ 100000000) :
   Calls Tryd.prog 22 #[.agg #[.slice (some ⟨b, off, none⟩) ns.length cap, .int .i64 low]] w fun e w' => Made w w' (val ns) low e := by
 have hl' : (ns.length : Int) ≤ 1000000 := by omega
 go_enter Tryd.func22, Tryd.ntmps22
 go_wp2
 go_region_held3 (fun W => W.cell? ⟨w.heap.size, 0, none⟩ = some (.slice (some ⟨b, off, none⟩) ns.length cap) ∧ W.cell? ⟨w.heap.size, 1, none⟩ = some (.int .i64 low))
   (first | exact ⟨by simp, by simp⟩)
   (fail)
 go_wp2
 go_loop [4] (fun e => ∃ k : Nat, k ≤ ns.length ∧ e = .int .i64 k ∧ Hid (∀ j, k ≤ j → ns.getD j 0 = 0)) (fun e => (intOf e).toNat)
 case atStart => exact ⟨ns.length, Nat.le_refl _, rfl, fun j hj => by simp [List.getD, List.getElem?_eq_none hj]⟩
 case round =>
   obtain ⟨k, hk, rfl, hz⟩ := hrel
   by_cases hk0 : k = 0
   · subst hk0
     have hv : Hid (val ns = 0) := val_zero fun j => hz.out j (Nat.zero_le _)
     clear hz
     go_wp2
     refine bodyPost_ret (v := .agg #[.slice none 0 0, .int .i64 0]) (by simp [results, Tryd.results22, go_sem]) rfl ⟨_, [], 0, rfl, ⟨⟨_, _, rfl, Nat.le_refl _, Or.inl rfl⟩, fun n hn => by simp at hn, by simp⟩, Or.inl ⟨rfl, rfl⟩, Or.inl ⟨hv.out, rfl, rfl⟩, ⟨by omega, by omega⟩, ?_⟩
     exact (((Below.refl _ _).alloc (Nat.le_refl _) _).alloc (by simp) _).drew
   · obtain ⟨q, rfl⟩ : ∃ q, k = q + 1 := ⟨k - 1, by omega⟩
     have hcq := hc q (by omega)
     by_cases hw : ns.getD q 0 = 0
     · have hwz : w.cell? ⟨b, off + q, none⟩ = some (.int .u64 0) := by rw [hcq, hw]; rfl
       have hz' : Hid (∀ j, q ≤ j → ns.getD j 0 = 0) := fun j hj => by
         by_cases e : j = q
         · rw [e]; exact hw
         · exact hz.out j (by omega)
       clear hcq hw hz hc
       go_wp2
       go_round
       case rel => exact ⟨q, by omega, by go_num, hz'⟩
       case measure => simp [intOf]
     · have hwq : (((ns.getD q 0 : Nat) : Int) == 0) = false := by rw [beq_eq_false_iff_ne]; omega
       have HW : Hid (ns.getD q 0 ≠ 0) := hw
       have hqi : (q : Int) ≤ 1000000 := by omega
       generalize hx : ns.getD q 0 = x at hcq hwq
       clear hw
       go_wp2
       go_loop [3] (fun e => ∃ f : Nat, f ≤ q ∧ e = .int .i64 f ∧ Hid (∀ j, j < f → ns.getD j 0 = 0)) (fun e => q - (intOf e).toNat)
       case atStart => exact ⟨0, Nat.zero_le _, rfl, fun j hj => by omega⟩
       case round =>
         obtain ⟨f, hf, rfl, hlo⟩ := hrel
         have hcf := hc f (by omega)
         by_cases hwf : ns.getD f 0 = 0
         · have hfq : f < q := by
             by_cases e : f = q
             · exact absurd (e ▸ hwf) HW.out
             · omega
           have hwz : w.cell? ⟨b, off + f, none⟩ = some (.int .u64 0) := by rw [hcf, hwf]; rfl
           have hlo' : Hid (∀ j, j < f + 1 → ns.getD j 0 = 0) := fun j hj => by
             by_cases e : j = f
             · rw [e]; exact hwf
             · exact hlo.out j (by omega)
           clear hcf hwf hlo hc hz hx
           go_wp2
           go_round
           case rel => exact ⟨f + 1, by omega, by go_num, hlo'⟩
           case measure => simp [intOf]; omega
         · have hwf' : (((ns.getD f 0 : Nat) : Int) == 0) = false := by rw [beq_eq_false_iff_ne]; omega
           have HF : Hid (ns.getD f 0 ≠ 0) := hwf
           obtain ⟨m, ht, ht64⟩ := ctz_spec _ (small_getD hs f) hwf
           generalize hy : ns.getD f 0 = y at hcf hwf' ht ht64
           have HT : Hid (y = 2 ^ Lib.ctz 64 y * (2 * m + 1)) := ht
           have HY : Hid (ns.getD f 0 = y) := hy
           have HX : Hid (ns.getD q 0 = x) := hx
           have HL : Hid (Lib.ctz 64 y < 64) := ht64
           clear hwf ht hy hx ht64 hcq hwq
           have hqc : (q : Int) + 1 ≤ (cap : Int) := by omega
           have hfi : (f : Int) < (q : Int) + 1 := by omega
           have hfi0 : (0 : Int) ≤ (f : Int) := by omega
           have hyn : y < 18446744073709551616 := by rw [← HY.out]; exact small_getD hs f
           have hy0 : y ≠ 0 := by rw [← HY.out]; exact HF.out
           generalize hc0 : Lib.ctz 64 y = t at HT HL
           have hl64 := HL.out
           have hwr1 : IntKind.i64.wrap (64 * (f : Int)) = 64 * (f : Int) := wrapI _ (by omega) (by omega)
           have hwr2 : IntKind.i64.wrap (low + 64 * (f : Int)) = low + 64 * (f : Int) := wrapI _ (by omega) (by omega)
           have hwr3 : IntKind.i64.wrap (low + 64 * (f : Int) + (t : Int)) = low + (64 * f + t : Nat) := by rw [wrapI _ (by omega) (by omega)]; omega
           obtain ⟨hm1, hm2, hm3, hm4, hm5⟩ := own_math hs low f (q + 1) t m (by omega) (by omega) hz.out (by rw [Nat.add_sub_cancel]; exact HW.out) hlo.out (by rw [HY.out]; exact HT.out) hl64
           obtain ⟨n, r, hr, hn⟩ : ∃ n r, r < 64 ∧ Nat.log2 (val ns) - (64 * f + t) = 64 * n + r := ⟨(Nat.log2 (val ns) - (64 * f + t)) / 64, (Nat.log2 (val ns) - (64 * f + t)) % 64, Nat.mod_lt _ (by omega), by omega⟩
           obtain ⟨ho1, ho2, ho3⟩ := hm5 n r hr hn
           have hlen : (ns.take (q + 1)).length = q + 1 := by simp; omega
           have hhi : hiB (ns.take (q + 1)) low = low + (64 * f + t : Nat) + (64 * n + r : Nat) := by
             unfold hiB
             rw [if_neg (by intro h; rw [h] at hlen; simp at hlen), hm4]; omega
           have hWs : Ws w (.slice (some ⟨b, off, none⟩) (q + 1) cap) (ns.take (q + 1)) := by
             refine ⟨⟨_, cap, by rw [hlen], by omega, Or.inr ⟨b, off, rfl, hbs, fun j hj => ?_⟩⟩, fun n hn => hs n (List.mem_of_mem_take hn), by omega⟩
             rw [take_getD _ _ (by omega)]; exact hc j (by omega)
           have hsp : spanL (ns.take (q + 1)) low (low + (64 * f + t : Nat)) (n + 1) = digs (val ns / 2 ^ (64 * f + t)) (n + 1) := by rw [spanL_up, hm4]
           have hB1 : (64 * f + t : Nat) ≤ 64000000 := by omega
           have HO1 : Hid _ := ho1
           have HO2 : Hid _ := ho2
           have HSP : Hid _ := hsp
           have HHI : Hid _ := hhi
           have HM3 : Hid _ := hm3
           have HWS : Hid _ := hWs
           have HTA : Hid (Tab w) := hT
           have HC0 : Hid (Lib.ctz 64 y = t) := hc0
           clear ho1 ho2 hsp hhi hm3 hWs hT hm5 hc0 hn hm1 hm2 hm4 hlen
           generalize hLO : low + ((64 * f + t : Nat) : Int) = LO at *
           have HLO : Hid _ := hLO
           have hLO1 : -100000000 ≤ LO := by omega
           have hLO2 : LO ≤ 164000000 := by omega
           clear hLO
           go_wp2
           go_region_held3 (fun W => W.cell? ⟨w.heap.size, 0, none⟩ = some (.slice (some ⟨b, off, none⟩) (q + 1) cap) ∧ W.cell? ⟨w.heap.size, 1, none⟩ = some (.int .i64 low) ∧ W.cell? ⟨b, off + f, none⟩ = some (.int .u64 (y : Nat)))
             (first | exact ⟨by simp, by simp, cell_later (((((Below.refl _ _).alloc (Nat.le_refl _) _).alloc (by simp) _).drew).drew) hcf⟩)
             (first | (go_at_call 37; refine (tz64_any _ hyn hy0 _ ?_).mono ?_; exact HTA.out.later (((((Below.refl _ _).alloc (Nat.le_refl _) _).alloc (by simp) _).drew).drew); rw [HC0.out]; rintro e w' ⟨rfl, rfl⟩))
           go_wp2
           go_region_held3 (fun W => W.cell? ⟨w.heap.size, 0, none⟩ = some (.slice (some ⟨b, off, none⟩) (q + 1) cap) ∧ W.cell? ⟨w.heap.size, 1, none⟩ = some (.int .i64 low) ∧ Below w.heap.size w W)
             (first
               | exact ⟨by simp, by simp, ((((Below.refl _ _).alloc (Nat.le_refl _) _).alloc (by simp) _).drew).drew.drew⟩
               | exact keep2 (by assumption) (by assumption)
               | exact keep2_set (keep2_set (by assumption) _ _ (by simp) (by simp) (by simp)) _ _ (by simp) (by simp) (by simp))
             (first
               | (go_at_call 35; refine (highest_any _ (ns.take (q + 1)) _ _ ?_ HM3.out (by omega) (by omega)).mono ?_; exact HWS.out.later (((((Below.refl _ _).alloc (Nat.le_refl _) _).alloc (by simp) _).drew).drew.drew) (Nat.le_refl _); rw [HHI.out]; rintro e w1 ⟨rfl, hb1⟩)
               | (go_at_call 38; refine (span_any _ (ns.take (q + 1)) _ _ n r _ ?_ (by omega) (by omega) (by omega) (by omega) (by omega) hr).mono ?_; exact HWS.out.later ((by assumption : _ ∧ _ ∧ _).2.2) (Nat.le_refl _); rw [HSP.out]; rintro e w2 ⟨g, hg, rfl, hrow, hb2⟩; have hr0 : w2.cell? ⟨w.heap.size + 1, 0, none⟩ = some (.slice none 0 0) := cell_later hb2 (cell_later hb1 (by simp)); have hr1 : w2.cell? ⟨w.heap.size + 1, 1, none⟩ = some (.int .i64 0) := cell_later hb2 (cell_later hb1 (by simp)); have hf0 : w2.frozen? ⟨w.heap.size + 1, 0, none⟩ = false := frozen_later hb2 (frozen_later hb1 (by simp) (by simp)) (by have := hb1.size; simp at this; simp; omega); have hf1 : w2.frozen? ⟨w.heap.size + 1, 1, none⟩ = false := frozen_later hb2 (frozen_later hb1 (by simp) (by simp)) (by have := hb1.size; simp at this; simp; omega)))
           go_wp2
           have hgw : w.heap.size + 1 < g := by have := hb1.size; simp at this; omega
           refine bodyPost_ret (v := .agg #[.slice (some ⟨g, 0, none⟩) (n + 1) (n + 1), .int .i64 LO]) (by simp [results, Tryd.results22, go_sem, hr0, hr1]) rfl ?_
           have hws := ((hrow.other (a := ⟨w.heap.size + 1, 0, none⟩) (by simp; omega) (.slice (some ⟨g, 0, none⟩) (n + 1) (n + 1))).other (a := ⟨w.heap.size + 1, 1, none⟩) (by simp; omega) (.int .i64 LO)).ws (digs_small _ _) (by rw [digs_length]; omega) (n + 1) (by rw [digs_length]; exact Nat.le_refl _)
           rw [digs_length] at hws
           exact ⟨_, _, LO, rfl, hws, HO1.out, HO2.out, ⟨by omega, by omega⟩, (by assumption : _ ∧ _ ∧ _).2.2⟩
set_option maxHeartbeats 400000 in
theorem own_none (a : Option Addr) (cap : Nat) (low : Int) (w : World) :
   Calls Tryd.prog 22 #[.agg #[.slice a 0 cap, .int .i64 low]] w fun e w' => Made w w' 0 low e := by
 go_enter Tryd.func22, Tryd.ntmps22
 go_wp2
 go_region_held3 (fun W => W.cell? ⟨w.heap.size, 0, none⟩ = some (.slice a 0 cap) ∧ W.cell? ⟨w.heap.size, 1, none⟩ = some (.int .i64 low))
   (first | exact ⟨by simp, by simp⟩)
   (fail)
 go_wp2
 go_loop [4] (fun e => e = .int .i64 0) (fun _ => 0)
 case atStart => rfl
 case round =>
   subst hrel
   go_wp2
   refine bodyPost_ret (v := .agg #[.slice none 0 0, .int .i64 0]) (by simp [results, Tryd.results22, go_sem]) rfl ⟨_, [], 0, rfl, ⟨⟨_, _, rfl, Nat.le_refl _, Or.inl rfl⟩, fun n hn => by simp at hn, by simp⟩, Or.inl ⟨rfl, rfl⟩, Or.inl ⟨rfl, rfl, rfl⟩, ⟨by omega, by omega⟩, ?_⟩
   exact (((Below.refl _ _).alloc (Nat.le_refl _) _).alloc (by simp) _).drew
theorem own_any (s : Value) (ns : List Nat) (low : Int) (w : World) (h : Ws w s ns) (hT : Tab w) (h2 : -100000000 ≤ low) (h3 : low ≤ 100000000) :
   Calls Tryd.prog 22 #[.agg #[s, .int .i64 low]] w fun e w' => Made w w' (val ns) low e := by
 obtain ⟨⟨a, cap, rfl, hcap, hc⟩, hs, hl⟩ := h
 rcases hc with rfl | ⟨b, off, rfl, hb, hc⟩
 · exact own_none a cap low w
 · exact own_walk b off cap ns low w hcap hb hc hs hl hT h2 h3
end
end Go.Proofs.YtlpnobcapdbfkaaDoor
