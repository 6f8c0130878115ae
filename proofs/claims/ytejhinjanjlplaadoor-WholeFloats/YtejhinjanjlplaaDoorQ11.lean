/- Own texts, put together: Wf Wg. -/
import Derived.Test.YtejhinjanjlplaaDoorQ2
import Derived.Test.YtejhinjanjlplaaDoorQ7
import Derived.Shelf.Spec.BitsCarry
namespace Go.Proofs.YtejhinjanjlplaaDoor
/- The walk of ownForm: the same magnitude without noughts at either end. -/
section
open Go.RowKit
attribute [local go_sem ↓] Go.wp_at_zero Go.wp_at_succ
theorem spanL_up (ns : List Nat) (low : Int) (k n : Nat) : spanL ns low (low + (k : Nat)) n = digs (val ns / 2 ^ k) n := by
 unfold spanL digs
 refine List.map_congr_left fun i _ => ?_
 unfold win
 rw [if_neg (by omega), show (low + (k : Nat) + 64 * (i : Nat) - low : Int).toNat = k + 64 * i by omega, Nat.pow_add, ← Nat.div_div_eq_div_mul]
theorem spanL_down (ns : List Nat) (low : Int) (k n : Nat) : spanL ns (low + (k : Nat)) low n = digs (val ns * 2 ^ k) n := by
 unfold spanL digs
 refine List.map_congr_left fun i _ => ?_
 unfold win
 by_cases h : 64 * i < k
 · rw [if_pos (by omega), show (low + (k : Nat) - (low + 64 * (i : Nat)) : Int).toNat = k - 64 * i by omega]
   congr 1
   rw [show (2 : Nat) ^ k = 2 ^ (k - 64 * i) * 2 ^ (64 * i) by rw [← Nat.pow_add]; congr 1; omega, ← Nat.mul_assoc, Nat.mul_div_cancel _ (Nat.two_pow_pos _)]
 · rw [if_neg (by omega), show (low + 64 * (i : Nat) - (low + (k : Nat)) : Int).toNat = 64 * i - k by omega]
   congr 1
   rw [show (2 : Nat) ^ (64 * i) = 2 ^ k * 2 ^ (64 * i - k) by rw [← Nat.pow_add]; congr 1; omega, ← Nat.div_div_eq_div_mul, Nat.mul_div_cancel _ (Nat.two_pow_pos _)]
theorem keep2_set {w W : World} {p q : Addr} {x y : Value} (h : W.cell? p = some x ∧ W.cell? q = some y ∧ Below w.heap.size w W) (a : Addr) (v : Value) (h1 : p.block ≠ a.block) (h2 : q.block ≠ a.block) (h3 : w.heap.size ≤ a.block) :
   (W.setCell a v).cell? p = some x ∧ (W.setCell a v).cell? q = some y ∧ Below w.heap.size w (W.setCell a v) :=
 ⟨cell_other h.1 h1 v, cell_other h.2.1 h2 v, h.2.2.setCell h3 v⟩
def Made (w w' : World) (V : Nat) (low : Int) (e : Ending) : Prop :=
 ∃ s ns' low', e = .returned (.agg #[s, .int .i64 low']) ∧ Ws w' s ns' ∧ OwnF ns' low' ∧ Tells V low ns' low' ∧ (-200000000 ≤ low' ∧ low' ≤ 200000000) ∧ Below w.heap.size w w'
set_option maxHeartbeats 2000000 in
theorem own_walk (b off cap : Nat) (ns : List Nat) (low : Int) (w : World) (hcap : ns.length ≤ cap) (hbs : b < w.heap.size) (hc : ∀ j, j < ns.length → w.cell? ⟨b, off + j, none⟩ = some (.int .u64 (ns.getD j 0 : Nat))) (hs : Small ns) (hl : ns.length ≤ 1000000) (hT : Tab w) (h2 : -100000000 ≤ low) (h3 : low ≤ 100000000) :
   Calls Tryd.prog 21 #[.agg #[.slice (some ⟨b, off, none⟩) ns.length cap, .int .i64 low]] w fun e w' => Made w w' (val ns) low e := by
 have hl' : (ns.length : Int) ≤ 1000000 := by omega
 go_enter Tryd.func21, Tryd.ntmps21
 go_wp2
 go_region_held3 (fun W => W.cell? ⟨w.heap.size, 0, none⟩ = some (.slice (some ⟨b, off, none⟩) ns.length cap) ∧ W.cell? ⟨w.heap.size, 1, none⟩ = some (.int .i64 low))
   (first | exact ⟨by simp, by simp⟩)
   (fail)
 go_wp2
 go_loop [4] (fun e => ∃ k : Nat, k ≤ ns.length ∧ e = .int .i64 k ∧ Hid (∀ j, k ≤ j → ns.getD j 0 = 0)) (fun e => (intOf e).toNat)
 case atStart => exact ⟨ns.length, Nat.le_refl _, rfl, fun j hj => by simp [List.getD, List.getElem?_eq_none hj]⟩
 case round =>
   obtain ⟨k, hk, rfl, hz⟩ := hrel
   by_cases hk0 : k = 0
   · subst hk0
     have hv : Hid (val ns = 0) := val_zero fun j => hz.out j (Nat.zero_le _)
     clear hz
     go_wp2
     refine bodyPost_ret (v := .agg #[.slice none 0 0, .int .i64 0]) (by simp [results, Tryd.results21, go_sem]) rfl ⟨_, [], 0, rfl, ⟨⟨_, _, rfl, Nat.le_refl _, Or.inl rfl⟩, fun n hn => by simp at hn, by simp⟩, Or.inl ⟨rfl, rfl⟩, Or.inl ⟨hv.out, rfl, rfl⟩, ⟨by omega, by omega⟩, ?_⟩
     exact (((Below.refl _ _).alloc (Nat.le_refl _) _).alloc (by simp) _).drew
   · obtain ⟨q, rfl⟩ : ∃ q, k = q + 1 := ⟨k - 1, by omega⟩
     have hcq := hc q (by omega)
     by_cases hw : ns.getD q 0 = 0
     · have hwz : w.cell? ⟨b, off + q, none⟩ = some (.int .u64 0) := by rw [hcq, hw]; rfl
       have hz' : Hid (∀ j, q ≤ j → ns.getD j 0 = 0) := fun j hj => by
         by_cases e : j = q
         · rw [e]; exact hw
         · exact hz.out j (by omega)
       clear hcq hw hz hc
       go_wp2
       go_round
       case rel => exact ⟨q, by omega, by go_num, hz'⟩
       case measure => simp [intOf]
     · have hwq : (((ns.getD q 0 : Nat) : Int) == 0) = false := by rw [beq_eq_false_iff_ne]; omega
       have HW : Hid (ns.getD q 0 ≠ 0) := hw
       have hqi : (q : Int) ≤ 1000000 := by omega
       generalize hx : ns.getD q 0 = x at hcq hwq
       clear hw
       go_wp2
       go_loop [3] (fun e => ∃ f : Nat, f ≤ q ∧ e = .int .i64 f ∧ Hid (∀ j, j < f → ns.getD j 0 = 0)) (fun e => q - (intOf e).toNat)
       case atStart => exact ⟨0, Nat.zero_le _, rfl, fun j hj => by omega⟩
       case round =>
         obtain ⟨f, hf, rfl, hlo⟩ := hrel
         have hcf := hc f (by omega)
         by_cases hwf : ns.getD f 0 = 0
         · have hfq : f < q := by
             by_cases e : f = q
             · exact absurd (e ▸ hwf) HW.out
             · omega
           have hwz : w.cell? ⟨b, off + f, none⟩ = some (.int .u64 0) := by rw [hcf, hwf]; rfl
           have hlo' : Hid (∀ j, j < f + 1 → ns.getD j 0 = 0) := fun j hj => by
             by_cases e : j = f
             · rw [e]; exact hwf
             · exact hlo.out j (by omega)
           clear hcf hwf hlo hc hz hx
           go_wp2
           go_round
           case rel => exact ⟨f + 1, by omega, by go_num, hlo'⟩
           case measure => simp [intOf]; omega
         · have hwf' : (((ns.getD f 0 : Nat) : Int) == 0) = false := by rw [beq_eq_false_iff_ne]; omega
           have HF : Hid (ns.getD f 0 ≠ 0) := hwf
           obtain ⟨m, ht, ht64⟩ := ctz_spec _ (small_getD hs f) hwf
           generalize hy : ns.getD f 0 = y at hcf hwf' ht ht64
           have HT : Hid (y = 2 ^ Lib.ctz 64 y * (2 * m + 1)) := ht
           have HY : Hid (ns.getD f 0 = y) := hy
           have HX : Hid (ns.getD q 0 = x) := hx
           have HL : Hid (Lib.ctz 64 y < 64) := ht64
           clear hwf ht hy hx ht64 hcq hwq
           have hqc : (q : Int) + 1 ≤ (cap : Int) := by omega
           have hfi : (f : Int) < (q : Int) + 1 := by omega
           have hfi0 : (0 : Int) ≤ (f : Int) := by omega
           have hyn : y < 18446744073709551616 := by rw [← HY.out]; exact small_getD hs f
           have hy0 : y ≠ 0 := by rw [← HY.out]; exact HF.out
           generalize hc0 : Lib.ctz 64 y = t at HT HL
           have hl64 := HL.out
           have hwr1 : IntKind.i64.wrap (64 * (f : Int)) = 64 * (f : Int) := wrapI _ (by omega) (by omega)
           have hwr2 : IntKind.i64.wrap (low + 64 * (f : Int)) = low + 64 * (f : Int) := wrapI _ (by omega) (by omega)
           have hwr3 : IntKind.i64.wrap (low + 64 * (f : Int) + (t : Int)) = low + (64 * f + t : Nat) := by rw [wrapI _ (by omega) (by omega)]; omega
           obtain ⟨hm1, hm2, hm3, hm4, hm5⟩ := own_math hs low f (q + 1) t m (by omega) (by omega) hz.out (by rw [Nat.add_sub_cancel]; exact HW.out) hlo.out (by rw [HY.out]; exact HT.out) hl64
           obtain ⟨n, r, hr, hn⟩ : ∃ n r, r < 64 ∧ Nat.log2 (val ns) - (64 * f + t) = 64 * n + r := ⟨(Nat.log2 (val ns) - (64 * f + t)) / 64, (Nat.log2 (val ns) - (64 * f + t)) % 64, Nat.mod_lt _ (by omega), by omega⟩
           obtain ⟨ho1, ho2, ho3⟩ := hm5 n r hr hn
           have hlen : (ns.take (q + 1)).length = q + 1 := by simp; omega
           have hhi : hiB (ns.take (q + 1)) low = low + (64 * f + t : Nat) + (64 * n + r : Nat) := by
             unfold hiB
             rw [if_neg (by intro h; rw [h] at hlen; simp at hlen), hm4]; omega
           have hWs : Ws w (.slice (some ⟨b, off, none⟩) (q + 1) cap) (ns.take (q + 1)) := by
             refine ⟨⟨_, cap, by rw [hlen], by omega, Or.inr ⟨b, off, rfl, hbs, fun j hj => ?_⟩⟩, fun n hn => hs n (List.mem_of_mem_take hn), by omega⟩
             rw [take_getD _ _ (by omega)]; exact hc j (by omega)
           have hsp : spanL (ns.take (q + 1)) low (low + (64 * f + t : Nat)) (n + 1) = digs (val ns / 2 ^ (64 * f + t)) (n + 1) := by rw [spanL_up, hm4]
           have hB1 : (64 * f + t : Nat) ≤ 64000000 := by omega
           have HO1 : Hid _ := ho1
           have HO2 : Hid _ := ho2
           have HSP : Hid _ := hsp
           have HHI : Hid _ := hhi
           have HM3 : Hid _ := hm3
           have HWS : Hid _ := hWs
           have HTA : Hid (Tab w) := hT
           have HC0 : Hid (Lib.ctz 64 y = t) := hc0
           clear ho1 ho2 hsp hhi hm3 hWs hT hm5 hc0 hn hm1 hm2 hm4 hlen
           generalize hLO : low + ((64 * f + t : Nat) : Int) = LO at *
           have HLO : Hid _ := hLO
           have hLO1 : -100000000 ≤ LO := by omega
           have hLO2 : LO ≤ 164000000 := by omega
           clear hLO
           go_wp2
           go_region_held3 (fun W => W.cell? ⟨w.heap.size, 0, none⟩ = some (.slice (some ⟨b, off, none⟩) (q + 1) cap) ∧ W.cell? ⟨w.heap.size, 1, none⟩ = some (.int .i64 low) ∧ W.cell? ⟨b, off + f, none⟩ = some (.int .u64 (y : Nat)))
             (first | exact ⟨by simp, by simp, cell_later (((((Below.refl _ _).alloc (Nat.le_refl _) _).alloc (by simp) _).drew).drew) hcf⟩)
             (first | (go_at_call 44; refine (tz64_any _ hyn hy0 _ ?_).mono ?_; exact HTA.out.later (((((Below.refl _ _).alloc (Nat.le_refl _) _).alloc (by simp) _).drew).drew); rw [HC0.out]; rintro e w' ⟨rfl, rfl⟩))
           go_wp2
           go_region_held3 (fun W => W.cell? ⟨w.heap.size, 0, none⟩ = some (.slice (some ⟨b, off, none⟩) (q + 1) cap) ∧ W.cell? ⟨w.heap.size, 1, none⟩ = some (.int .i64 low) ∧ Below w.heap.size w W)
             (first
               | exact ⟨by simp, by simp, ((((Below.refl _ _).alloc (Nat.le_refl _) _).alloc (by simp) _).drew).drew.drew⟩
               | exact keep2 (by assumption) (by assumption)
               | exact keep2_set (keep2_set (by assumption) _ _ (by simp) (by simp) (by simp)) _ _ (by simp) (by simp) (by simp))
             (first
               | (go_at_call 41; refine (highest_any _ (ns.take (q + 1)) _ _ ?_ HM3.out (by omega) (by omega)).mono ?_; exact HWS.out.later (((((Below.refl _ _).alloc (Nat.le_refl _) _).alloc (by simp) _).drew).drew.drew) (Nat.le_refl _); rw [HHI.out]; rintro e w1 ⟨rfl, hb1⟩)
               | (go_at_call 45; refine (span_any _ (ns.take (q + 1)) _ _ n r _ ?_ (by omega) (by omega) (by omega) (by omega) (by omega) hr).mono ?_; exact HWS.out.later ((by assumption : _ ∧ _ ∧ _).2.2) (Nat.le_refl _); rw [HSP.out]; rintro e w2 ⟨g, hg, rfl, hrow, hb2⟩; have hr0 : w2.cell? ⟨w.heap.size + 1, 0, none⟩ = some (.slice none 0 0) := cell_later hb2 (cell_later hb1 (by simp)); have hr1 : w2.cell? ⟨w.heap.size + 1, 1, none⟩ = some (.int .i64 0) := cell_later hb2 (cell_later hb1 (by simp)); have hf0 : w2.frozen? ⟨w.heap.size + 1, 0, none⟩ = false := frozen_later hb2 (frozen_later hb1 (by simp) (by simp)) (by have := hb1.size; simp at this; simp; omega); have hf1 : w2.frozen? ⟨w.heap.size + 1, 1, none⟩ = false := frozen_later hb2 (frozen_later hb1 (by simp) (by simp)) (by have := hb1.size; simp at this; simp; omega)))
           go_wp2
           have hgw : w.heap.size + 1 < g := by have := hb1.size; simp at this; omega
           refine bodyPost_ret (v := .agg #[.slice (some ⟨g, 0, none⟩) (n + 1) (n + 1), .int .i64 LO]) (by simp [results, Tryd.results21, go_sem, hr0, hr1]) rfl ?_
           have hws := ((hrow.other (a := ⟨w.heap.size + 1, 0, none⟩) (by simp; omega) (.slice (some ⟨g, 0, none⟩) (n + 1) (n + 1))).other (a := ⟨w.heap.size + 1, 1, none⟩) (by simp; omega) (.int .i64 LO)).ws (digs_small _ _) (by rw [digs_length]; omega) (n + 1) (by rw [digs_length]; exact Nat.le_refl _)
           rw [digs_length] at hws
           exact ⟨_, _, LO, rfl, hws, HO1.out, HO2.out, ⟨by omega, by omega⟩, (by assumption : _ ∧ _ ∧ _).2.2⟩
set_option maxHeartbeats 400000 in
theorem own_none (a : Option Addr) (cap : Nat) (low : Int) (w : World) :
   Calls Tryd.prog 21 #[.agg #[.slice a 0 cap, .int .i64 low]] w fun e w' => Made w w' 0 low e := by
 go_enter Tryd.func21, Tryd.ntmps21
 go_wp2
 go_region_held3 (fun W => W.cell? ⟨w.heap.size, 0, none⟩ = some (.slice a 0 cap) ∧ W.cell? ⟨w.heap.size, 1, none⟩ = some (.int .i64 low))
   (first | exact ⟨by simp, by simp⟩)
   (fail)
 go_wp2
 go_loop [4] (fun e => e = .int .i64 0) (fun _ => 0)
 case atStart => rfl
 case round =>
   subst hrel
   go_wp2
   refine bodyPost_ret (v := .agg #[.slice none 0 0, .int .i64 0]) (by simp [results, Tryd.results21, go_sem]) rfl ⟨_, [], 0, rfl, ⟨⟨_, _, rfl, Nat.le_refl _, Or.inl rfl⟩, fun n hn => by simp at hn, by simp⟩, Or.inl ⟨rfl, rfl⟩, Or.inl ⟨rfl, rfl, rfl⟩, ⟨by omega, by omega⟩, ?_⟩
   exact (((Below.refl _ _).alloc (Nat.le_refl _) _).alloc (by simp) _).drew
theorem own_any (s : Value) (ns : List Nat) (low : Int) (w : World) (h : Ws w s ns) (hT : Tab w) (h2 : -100000000 ≤ low) (h3 : low ≤ 100000000) :
   Calls Tryd.prog 21 #[.agg #[s, .int .i64 low]] w fun e w' => Made w w' (val ns) low e := by
 obtain ⟨⟨a, cap, rfl, hcap, hc⟩, hs, hl⟩ := h
 rcases hc with rfl | ⟨b, off, rfl, hb, hc⟩
 · exact own_none a cap low w
 · exact own_walk b off cap ns low w hcap hb hc hs hl hT h2 h3
end

/- The walk of bring: more is added to words, or taken off, word by word. -/
section
open Go.RowKit
structure IsStep (fid : Nat) (sv cv : Nat → Nat → Nat → Nat) : Prop where
 run : ∀ (x y c : Nat) (w : World), c ≤ 1 → (callFunc fid #[.int .u64 (x : Nat), .int .u64 (y : Nat), .int .u64 (c : Nat)]).run Tryd.prog w = .ok (.value (.tuple #[.int .u64 (sv x y c : Nat), .int .u64 (cv x y c : Nat)])) w
 word : ∀ x y c, sv x y c < 18446744073709551616
 carry : ∀ x y c, x < 18446744073709551616 → y < 18446744073709551616 → c ≤ 1 → cv x y c ≤ 1
def Brought (E : Nat → Nat → Nat → Prop) (more words : List Nat) (g : Nat) (w w' : World) : Prop :=
 ∃ (k c : Nat) (ps : List Nat), k ≤ words.length ∧ c ≤ 1 ∧ ps.length = k ∧ Small ps ∧ E k (val ps) c ∧ (k = words.length ∨ (more.length ≤ k ∧ c = 0)) ∧ Row w' 45 g (wds (ps ++ words.drop k)) ∧ w.grownBy w' (some g)
theorem wds_getD (l : List Nat) (i : Nat) (h : i < l.length) : (wds l)[i]'(by rw [wds_length]; exact h) = .int .u64 (l.getD i 0 : Nat) := by
 simp [wds, List.getD, h]
theorem ps_getD (ps words : List Nat) (k : Nat) (h : ps.length = k) (hk : k < words.length) : (ps ++ words.drop k).getD k 0 = words.getD k 0 := by
 subst h; rw [List.getD, List.getElem?_append_right (Nat.le_refl _), Nat.sub_self, List.getElem?_drop, Nat.add_zero, List.getD]
theorem ps_set (ps words : List Nat) (k v : Nat) (h : ps.length = k) (hk : k < words.length) : (wds (ps ++ words.drop k)).set k (.int .u64 (v : Nat)) = wds ((ps ++ [v]) ++ words.drop (k + 1)) := by
 subst h
 unfold wds
 rw [← List.map_set, List.set_append_right _ _ (Nat.le_refl _), Nat.sub_self, List.append_assoc]
 congr 2
 rw [List.drop_eq_getElem_cons hk]
 rfl
theorem val_snoc (ps : List Nat) (v : Nat) : val (ps ++ [v]) = val ps + 2 ^ (64 * ps.length) * v := by rw [val_append]; simp [val]
theorem grown_set {w wr : World} {g : Nat} (h : w.grownBy wr (some g)) (i : Nat) (v : Value) : w.grownBy (wr.setCell ⟨g, i, none⟩ v) (some g) :=
 ⟨h.1, h.2, h.3, by simpa using h.4, fun k hk hne => by
   rw [Below.heap_setCell wr _ v k (by intro e; exact hne (by rw [e]))]; exact h.5 k hk hne⟩
set_option maxHeartbeats 2000000 in
theorem bring_walk (fid : Nat) (sv cv : Nat → Nat → Nat → Nat) (hst : IsStep fid sv cv) (E : Nat → Nat → Nat → Prop) (more words : List Nat) (g g2 : Nat) (w : World) (hgg : g2 ≠ g)
   (hm : Row w 45 g2 (wds more)) (hms : Small more) (hws : Small words) (hr : Row w 45 g (wds words)) (hl : words.length ≤ 1000000) (hl2 : more.length ≤ 1000000) (h0 : E 0 0 0)
   (hE : ∀ k v c, k < words.length → E k v c → c ≤ 1 → E (k + 1) (v + 2 ^ (64 * k) * sv (words.getD k 0) (more.getD k 0) c) (cv (words.getD k 0) (more.getD k 0) c)) :
   Calls Tryd.prog 64 #[.slice (some ⟨g2, 0, none⟩) more.length more.length, .slice (some ⟨g, 0, none⟩) words.length words.length, .func (.func fid) #[] #[]] w fun e w' => e = .returned (.tuple #[]) ∧ Brought E more words g w w' := by
 have hl' : (words.length : Int) ≤ 1000000 := by omega
 have hl2' : (more.length : Int) ≤ 1000000 := by omega
 go_enter Tryd.func64, Tryd.ntmps64
 go_wp2
 go_step3
 go_wp2
 go_step3
 go_wp2
 go_loopw [6, 11] (fun cr i wr => ∃ (k c : Nat) (ps : List Nat), k ≤ words.length ∧ c ≤ 1 ∧ i = .int .i64 k ∧ cr = .int .u64 c ∧ ps.length = k ∧ Small ps ∧ E k (val ps) c ∧ Row wr 45 g (wds (ps ++ words.drop k)) ∧ w.grownBy wr (some g))
   (fun _ i _ => words.length - (intOf i).toNat)
 case atStart => exact ⟨0, 0, [], Nat.zero_le _, Nat.zero_le _, rfl, rfl, rfl, fun n hn => by simp at hn, h0, by simpa using hr, World.grownBy.refl _ _⟩
 case round =>
   obtain ⟨k, c, ps, hk, hc1, rfl, rfl, hps, hsm, hEk, hrk, hbk⟩ := hrel
   by_cases hlt : k < words.length
   · have hlen : (ps ++ words.drop k).length = words.length := by simp; omega
     have hck : wr.cell? ⟨g, k, none⟩ = some (.int .u64 (words.getD k 0 : Nat)) := by
       rw [hrk.cell k (by rw [wds_length]; omega), wds_getD _ _ (by omega), ps_getD _ _ _ hps hlt]
     have hfk := hrk.frozen k
     have HST : Hid (IsStep fid sv cv) := hst
     have hrun := fun W => hst.run (words.getD k 0) (more.getD k 0) c W hc1
     have HNEW : Hid (Row (wr.setCell ⟨g, k, none⟩ (.int .u64 (sv (words.getD k 0) (more.getD k 0) c : Nat))) 45 g (wds ((ps ++ [sv (words.getD k 0) (more.getD k 0) c]) ++ words.drop (k + 1)))) := by
       rw [← ps_set ps words k _ hps hlt]; exact hrk.set k _
     have HE : Hid (E (k + 1) (val (ps ++ [sv (words.getD k 0) (more.getD k 0) c])) (cv (words.getD k 0) (more.getD k 0) c)) := by
       rw [val_snoc, hps]; exact hE k _ c hlt hEk hc1
     have HS : Hid (Small (ps ++ [sv (words.getD k 0) (more.getD k 0) c])) := by
       intro n hn; rcases List.mem_append.1 hn with h | h
       · exact hsm n h
       · simp at h; rw [h]; exact hst.word _ _ _
     have HC : Hid (cv (words.getD k 0) (more.getD k 0) c ≤ 1) := hst.carry _ _ _ (small_getD hws k) (small_getD hms k) hc1
     have hlt' : (k : Int) < (words.length : Int) := by omega
     by_cases hmk : k < more.length
     · have hcm : wr.cell? ⟨g2, k, none⟩ = some (.int .u64 (more.getD k 0 : Nat)) := by
         refine hbk.cell ?_ (by simp; exact hgg)
         rw [hm.cell k (by rw [wds_length]; omega), wds_getD _ _ hmk]
       have hmk' : (k : Int) < (more.length : Int) := by omega
       generalize sv (words.getD k 0) (more.getD k 0) c = sx at *
       generalize cv (words.getD k 0) (more.getD k 0) c = cx at *
       generalize words.getD k 0 = wx at *
       generalize more.getD k 0 = mx at *
       have HP : Hid _ := hps
       have HBK : Hid _ := hbk
       clear hst hE hEk hsm hrk hm hms hws hr h0 hlen hps hbk
       go_wp2
       exact ⟨⟨k + 1, cx, ps ++ [sx], by omega, HC.out, by go_num, rfl, by simp [HP.out], HS.out, HE.out, HNEW.out, grown_set HBK.out _ _⟩, by simp [intOf]; omega⟩
     · have hmz : more.getD k 0 = 0 := by simp [List.getD, List.getElem?_eq_none (Nat.le_of_not_lt hmk)]
       have hmk' : ¬ ((k : Int) < (more.length : Int)) := by omega
       have hmd : decide ((k : Int) < (more.length : Int)) = false := by simp; omega
       by_cases hc0 : c = 0
       · subst hc0
         have HP : Hid _ := hps
         have HBK : Hid _ := hbk
         have HRK : Hid _ := hrk
         have HEK : Hid _ := hEk
         have HSM : Hid _ := hsm
         clear hst hE hEk hsm hrk hm hms hws hr h0 hlen hps hbk hrun hck hfk HNEW HE HS HC hmz
         go_wp2
         go_end0
         exact ⟨rfl, k, 0, ps, hk, hc1, HP.out, HSM.out, HEK.out, Or.inr ⟨by omega, rfl⟩, HRK.out, HBK.out⟩
       · have hc0' : ((c : Int) == 0) = false := by rw [beq_eq_false_iff_ne]; omega
         simp only [hmz] at hrun
         rw [hmz] at HNEW HE HS HC
         have hrun0 : ∀ W, (callFunc fid #[.int .u64 (words.getD k 0 : Nat), .int .u64 0, .int .u64 (c : Nat)]).run Tryd.prog W = .ok (.value (.tuple #[.int .u64 (sv (words.getD k 0) 0 c : Nat), .int .u64 (cv (words.getD k 0) 0 c : Nat)])) W := hrun
         clear hrun
         generalize sv (words.getD k 0) 0 c = sx at *
         generalize cv (words.getD k 0) 0 c = cx at *
         generalize words.getD k 0 = wx at *
         have HP : Hid _ := hps
         have HBK : Hid _ := hbk
         clear hst hE hEk hsm hrk hm hms hws hr h0 hlen hps hbk hmz
         go_wp2
         exact ⟨⟨k + 1, cx, ps ++ [sx], by omega, HC.out, by go_num, rfl, by simp [HP.out], HS.out, HE.out, HNEW.out, grown_set HBK.out _ _⟩, by simp [intOf]; omega⟩
   · have Hx : Hid _ := hps
     have hge : ¬ ((k : Int) < (words.length : Int)) := by omega
     clear hps
     go_wp2
     go_end0
     exact ⟨rfl, k, c, ps, hk, hc1, Hx.out, hsm, hEk, Or.inl (by omega), hrk, hbk⟩
end
end Go.Proofs.YtejhinjanjlplaaDoor
