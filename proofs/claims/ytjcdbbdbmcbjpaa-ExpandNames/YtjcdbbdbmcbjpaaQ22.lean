/- Own texts, put together: Pe Pn Po Pp Pq. -/
import Derived.Test.YtjcdbbdbmcbjpaaQ16
import Derived.Test.YtjcdbbdbmcbjpaaQ18
import Derived.Test.YtjcdbbdbmcbjpaaQ20
import Derived.Test.YtjcdbbdbmcbjpaaQ21
import Derived.Lib.Hide
import Derived.Laws.OwnMore
namespace Go.Proofs.Ytjcdbbdbmcbjpaa
/- Package expand: squeezed, with whatever is so from round to round (for lists that are written out). -/
section
open Go.RowKit Go.Shelf
attribute [local go_sem] Oper.semAt_some
attribute [local go_sem] run_store_float
def StepP (P : Nat → List Nat → Nat → Prop) (ds : List Nat) : Prop :=
 ∀ k bs cc s r, k < ds.length → P k bs cc → Pair (TameW cc (ds.getD (ds.length - 1 - k) 0)) (fval cc + fval (ds.getD (ds.length - 1 - k) 0)) s r → (frung r = 0 → P (k + 1) bs s) ∧ (frung r ≠ 0 → P (k + 1) (bs ++ [s]) r)
def ZIP (P : Nat → List Nat → Nat → Prop) (top : Nat) (S : Rat) (ds : List Nat) (f : Nat → Nat × Wd) (w : World) (pre : List (Nat × Wd)) (W : World) : Prop :=
 ∃ v bs c r, Zw w W v bs c r ∧ bs.length ≤ pre.length ∧ (pre = upf f pre.length → ZS top S ds pre.length bs c ∧ P pre.length bs c)
theorem ziP_step (P : Nat → List Nat → Nat → Prop) (ds0 : List Nat) (hP : StepP P ds0) {top n : Nat} {S : Rat} {ds bs : List Nat} {c cc s r : Nat} {zs : Nat → Wd} {pre : List (Nat × Wd)} {x : Nat × Wd} (hu : Up top (ds ++ [c])) (ht : top ≤ 2074) (hn : ds.length = n) (hz : ∀ j, (zs j).1 = (ds ++ [c]).getD j 0)
   (hlt : pre.length < n) (hds : ds0 = ds) (hst : pre = upf (fun j => (n - 1 - j, zs (n - 1 - j))) pre.length → ZS top S ds pre.length bs cc ∧ P pre.length bs cc) (hp : Pair (TameW cc x.2.1) (fval cc + fval x.2.1) s r) (he : pre ++ [x] = upf (fun j => (n - 1 - j, zs (n - 1 - j))) (pre ++ [x]).length) :
   (frung r = 0 → ZS top S ds (pre ++ [x]).length bs s ∧ P (pre ++ [x]).length bs s) ∧ (frung r ≠ 0 → ZS top S ds (pre ++ [x]).length (bs ++ [s]) r ∧ P (pre ++ [x]).length (bs ++ [s]) r) := by
 obtain ⟨e1, e2⟩ := upf_take he
 obtain ⟨I, I2⟩ := hst e1
 rw [hds] at hP
 have ex : x.2.1 = ds.getD (ds.length - 1 - pre.length) 0 := by
   rw [e2, hz, hn]
   have : n - 1 - pre.length < ds.length := by omega
   simp [List.getD, List.getElem?_append_left this]
 rw [ex] at hp
 rw [List.length_append, List.length_singleton]
 have r1 := I.step ht (by omega) (fun b hb => hu.fin b (by simp [hb])) hp
 have r2 := hP pre.length bs cc s r (by omega) I2 hp
 exact ⟨fun h => ⟨r1.1 h, r2.1 h⟩, fun h => ⟨r1.2 h, r2.2 h⟩⟩
set_option maxRecDepth 100000 in
set_option maxHeartbeats 8000000 in
theorem squeezedP_walk (P : Nat → List Nat → Nat → Prop) (top n c cap : Nat) (g off : Nat) (ds : List Nat) (w : World) (ht : top ≤ 2074) (hs : Fs w (.slice (some ⟨g, off, none⟩) (n + 1) cap) (ds ++ [c])) (hu : Up top (ds ++ [c])) (hn : ds.length = n) (ln : n ≤ 1000) (hgw : g < w.heap.size) (hcell : ∀ j, j < n + 1 → w.cell? ⟨g, off + j, none⟩ = some (.float .f64 ((ds ++ [c]).getD j 0))) (hP : StepP P ds) (h0 : P 0 [] c) :
   Calls Try.prog 23 #[.slice (some ⟨g, off, none⟩) (n + 1) cap] w fun e w' => (∃ v bs, e = .returned v ∧ Fr w' w.heap.size v bs ∧ Sq top ((vals (ds ++ [c])).sum) bs ∧ ∃ gs cc, P n gs cc ∧ bs = (gs ++ [cc]).reverse) ∧ Below w.heap.size w w' := by
 have H : Hid (Fs w (.slice (some ⟨g, off, none⟩) (n + 1) cap) (ds ++ [c])) := hs
 have HU : Hid (Up top (ds ++ [c]) ∧ top ≤ 2074 ∧ ds.length = n) := ⟨hu, ht, hn⟩
 have HC : Hid (∀ j, j < n + 1 → w.cell? ⟨g, off + j, none⟩ = some (.float .f64 ((ds ++ [c]).getD j 0))) := hcell
 have l1 : (n : Int) ≤ 1000 := by omega
 have e0 : ((n : Int) + 1 == 0) = false := by simp; omega
 have HA : Hid (∀ w', Below w.heap.size w w' → Calls Try.prog 29 #[.slice (some ⟨g, off, none⟩) (n + 1) cap] w' fun e w'' => e = .returned (.float .f64 c) ∧ w'' = w') := fun w' hb => by
   have := lead_any _ _ w' (hs.later hb) (by simp; omega)
   rwa [show lastW (ds ++ [c]) = c by simp [lastW, List.getD]] at this
 obtain ⟨⟨a', c', e', hc1, hc2, _⟩, _⟩ := id hs
 obtain ⟨q1, q2, rfl⟩ : some (⟨g, off, none⟩ : Addr) = a' ∧ n + 1 = (ds ++ [c]).length ∧ cap = c' := by simpa using e'
 have l2 : (n : Int) + 1 ≤ (cap : Int) := by simp at hc1; omega
 have l3 : (cap : Int) ≤ 9223372036854775807 := by omega
 obtain ⟨i0, hi0, hz0, hz1, hz2⟩ := info_parts infoF
 have hwz : ∀ j, (ds ++ [c]).getD j 0 < 18446744073709551616 := fun j => getD_word hs.word j
 obtain ⟨zs, hzs⟩ : ∃ zs : Nat → Wd, ∀ j, (zs j).1 = (ds ++ [c]).getD j 0 := ⟨fun j => ⟨(ds ++ [c]).getD j 0, hwz j⟩, fun _ => rfl⟩
 have HZ : Hid (∀ j, (zs j).1 = (ds ++ [c]).getD j 0) := hzs
 have HW : Hid (c < 18446744073709551616) := hs.word c (by simp)
 have HPP : Hid (StepP P ds ∧ P 0 [] c) := ⟨hP, h0⟩
 clear hs hu ht hn hc1 hc2 e' q1 q2 hwz hzs hcell hP h0
 refine (callsIn_wide (n := 5)).1 ?_
 refine callsIn_of_wp_marks Try.func23 rfl trivial ?_ rfl
 simp only [Try.ntmps23, List.size_toArray, List.length_cons, List.length_nil, Nat.reduceAdd, Nat.reduceSub, Array.replicate_succ, Array.replicate_zero, List.push_toArray, List.append_toArray, List.nil_append, List.cons_append]
 gi_wp2_with (first
   | (refine ⟨trivial, ?_⟩; gi_at_call 29; refine (callsIn_wide.2 (HA.out _ ((Below.refl _ w).alloc (Nat.le_refl _) _))).mono ?_; rintro e w' ⟨rfl, rfl⟩)
   | (refine ⟨trivial, ?_⟩; gi_at_call 38; refine (back_in _ _ _ _ _).mono ?_; rintro e w' ⟨rfl, rfl⟩))
 obtain ⟨z0, b6⟩ := zw_start w c (.slice (some ⟨g, off, none⟩) n cap) HW.out
 have HZ0 := z0
 obtain ⟨W0, hW0⟩ : ∃ W0, ((((w.alloc (.cells #[.slice none 0 0] 23)).alloc (.cells #[.float .f64 c] 24)).alloc (.cells #[.float .f64 0] 24)).alloc (.cells #[.slice (some ⟨g, off, none⟩) n cap] 23)) = W0 := ⟨_, rfl⟩
 have hs0 : W0.heap.size = w.heap.size + 4 := by rw [← hW0]; simp
 rw [hW0] at z0 b6 HZ0 ⊢
 refine wpIn_rangeFunc_ownG rfl (by omega) (gf := 46) (lb := #[.pointer (some ⟨w.heap.size + 1 + 1 + 1, 0, none⟩)]) rfl trivial (enters_of Try.func46 (by kernel_rfl) rfl)
   (back_stops _ (by omega) (w.heap.size + 1 + 1 + 1) w.heap.size n cap (some ⟨g, off, none⟩) zs (by omega) W0 b6 z0.bel.size (Or.inr ⟨g, off, rfl, hgw, fun j hj => by rw [HZ.out]; exact (z0.bel.cell (p := ⟨g, off + j, none⟩) hgw).trans (HC.out j (by omega))⟩))
   (fun h k => ⟨h.1.trans k.1, k.2.trans h.2⟩)
   (fun W l o o' hl ho hc hw => ⟨belowK_b (w := W0) z0.bel.size W l o o' hl ho hc hw, World.putObj_heap_other (by omega)⟩)
   (Below.refl _ _) (fun _ => rfl)
   (ZIP P top ((vals (ds ++ [c])).sum) ds (fun j => (n - 1 - j, zs (n - 1 - j))) w)
   (fun _ _ _ => False)
   (fun s A B row hs hg hr => by obtain ⟨v, bs, c, r, h1, h2⟩ := hs; exact ⟨v, bs, c, r, h1.own z0.bel.size hg hr, h2⟩)
   (fun _ _ _ _ _ hs _ _ => hs)
   ⟨_, [], c, 0, z0, Nat.le_refl _, fun _ => ⟨ZS.start HU.out.1, HPP.out.2⟩⟩
   (fun x => { tmps := #[.slice (some ⟨g, off, none⟩) (n + 1) cap, undef, .slice none 0 0, .pointer (some ⟨w.heap.size, 0, none⟩), .pointer (some ⟨w.heap.size + 1, 0, none⟩), .pointer (some ⟨w.heap.size + 1 + 1, 0, none⟩), undef, .float .f64 x.2.1, .slice (some ⟨g, off, none⟩) (n + 1) cap, .int .i64 ((n : Int) + 1), .bool false, .slice (some ⟨g, off, none⟩) (n + 1) cap, .float .f64 c, .slice (some ⟨g, off, none⟩) (n + 1) cap, .slice (some ⟨g, off, none⟩) (n + 1) cap, .int .i64 ((n : Int) + 1), .int .i64 (n : Int), .slice (some ⟨g, off, none⟩) n cap, .func (.func 46) #[] #[.pointer (some ⟨w.heap.size + 1 + 1 + 1, 0, none⟩)], .int .i64 (x.1 : Int), .float .f64 x.2.1, undef, undef, undef, undef, undef, undef, undef, undef, undef, undef, undef, undef, undef, undef, undef, undef, undef, undef, undef, undef], defers := [] }) ?assign ?body ?done ?stop
 case assign =>
   intro l x W K hK
   gi_wp2
   exact hK
 case body =>
   rintro l pre x W ⟨v, bs, cc, r, hZ, hlen, hst⟩ hlt
   have HZW : Hid (Zw w W v bs cc r) := hZ
   have HST : Hid (bs.length ≤ pre.length ∧ pre.length < n ∧ (pre = upf (fun j => (n - 1 - j, zs (n - 1 - j))) pre.length → ZS top ((vals (ds ++ [c])).sum) ds pre.length bs cc ∧ P pre.length bs cc)) := ⟨hlen, hlt, hst⟩
   have k4 := hZ.b4.cell
   have LN : Hid (n ≤ 1000) := ln
   clear hZ hlen hst hlt z0 b6 HZ0 hW0 hs0 ln
   gi_wp2_with (first
     | (refine ⟨trivial, ?_⟩; gi_at_call 39; refine (CallsIn.inRound l (callsIn_wide.2 (sum_pair cc x.2.1 _ HZW.out.wc x.2.2))).mono ?_; rintro e W1 ⟨⟨s, r', rfl, hp⟩, hb1⟩; have HP : Hid (Pair (TameW cc x.2.1) (fval cc + fval x.2.1) s r') := hp; have HB1 : Hid (Below W.heap.size W W1) := hb1; have HZ1 : Hid (Zw w W1 v bs cc r) := HZW.out.later hb1; have m4 := HZ1.out.b4.cell; have m5 := HZ1.out.b5.cell; have m3 := HZ1.out.b3.cell; have t4 := HZ1.out.b4.frozen; have t5 := HZ1.out.b5.frozen; have HZ3 : Hid (Zw w ((W1.setCell ⟨w.heap.size + 1, 0, none⟩ (.float .f64 s)).setCell ⟨w.heap.size + 1 + 1, 0, none⟩ (.float .f64 r')) v bs s r') := (HZ1.out.set4 hp.2.2.1).set5 hp.2.2.2.1; have hq0 := eql_zero2 r'; clear hp hb1)
     | (gi_at_builtin; refine wpListIn_append_own _ rfl _ _ 23 rfl (w.heap.size + 4) 24 i0 (.float .f64 0) 1 8 undF hi0 hz0 hz1 hz2 rfl (by decide) v bs.length (f64s bs) rfl (HZ3.out.row.own.alloc _) ⟨W1.heap.size, 0, none⟩ 1 1 [.float .f64 s] rfl rfl (fun j u hj => by have := cell_one_new ((W1.setCell ⟨w.heap.size + 1, 0, none⟩ (.float .f64 s)).setCell ⟨w.heap.size + 1 + 1, 0, none⟩ (.float .f64 r')) (.float .f64 s) 24 j u hj; simpa using this) (by simp [Value.oneCell']) (by unfold maxLen; have := HST.out; have := LN.out; omega) (by have := HST.out; have := LN.out; omega) (by have := HZ1.out.siz; simp; omega) ?_; intro v' W4 hown hgrow _; obtain ⟨g', cap', rfl⟩ := ownsRow_succ hown; obtain ⟨y3, y4, y5, hz5, hk5⟩ := HZ3.out.grew HZ3.out.wc hown hgrow; have n3 := y3.cell; have n4 := y4.cell; have n5 := y5.cell; have u3 := y3.frozen; have u4 := y4.frozen; have HZ5 : Hid (Zw w (W4.setCell ⟨w.heap.size, 0, none⟩ (.slice (some ⟨g', 0, none⟩) (bs.length + 1) cap')) (.slice (some ⟨g', 0, none⟩) (bs.length + 1) cap') (bs ++ [s]) s r' ∧ K4 w ((W1.setCell ⟨w.heap.size + 1, 0, none⟩ (.float .f64 s)).setCell ⟨w.heap.size + 1 + 1, 0, none⟩ (.float .f64 r')) W4) := ⟨hz5, hk5⟩; clear y3 y4 y5 hz5 hk5 hown hgrow))
   · have hne := rest_ne (by assumption : (FloatKind.f64.format.order r' 0 != some .eq) = true)
     have hk : K4 w W ((W4.setCell ⟨w.heap.size, 0, none⟩ (.slice (some ⟨g', 0, none⟩) (bs.length + 1) cap')).setCell ⟨w.heap.size + 1, 0, none⟩ (.float .f64 r')) := ((((K4.below HB1.out HZW.out.siz).trans (K4.set (a := ⟨w.heap.size + 1, 0, none⟩) (by show w.heap.size ≤ w.heap.size + 1; omega) (by show w.heap.size + 1 ≠ _; omega) _)).trans (K4.set (a := ⟨w.heap.size + 1 + 1, 0, none⟩) (by show w.heap.size ≤ w.heap.size + 1 + 1; omega) (by show w.heap.size + 1 + 1 ≠ _; omega) _)).trans HZ5.out.2).trans ((K4.set (a := ⟨w.heap.size, 0, none⟩) (Nat.le_refl _) (by show w.heap.size ≠ _; omega) _).trans (K4.set (a := ⟨w.heap.size + 1, 0, none⟩) (by show w.heap.size ≤ w.heap.size + 1; omega) (by show w.heap.size + 1 ≠ _; omega) _))
     exact ⟨hk.oth.from _, ⟨hk.bel, hk.box⟩, _, bs ++ [s], r', r', HZ5.out.1.set4 HZ3.out.wr, by have := HST.out.1; simp; omega, fun he => (ziP_step P ds HPP.out.1 HU.out.1 HU.out.2.1 HU.out.2.2 HZ.out HST.out.2.1 rfl HST.out.2.2 HP.out he).2 hne⟩
   · have hze := rest_eq (by assumption : (FloatKind.f64.format.order r' 0 != some .eq) = false)
     have hk : K4 w W ((W1.setCell ⟨w.heap.size + 1, 0, none⟩ (.float .f64 s)).setCell ⟨w.heap.size + 1 + 1, 0, none⟩ (.float .f64 r')) := ((K4.below HB1.out HZW.out.siz).trans (K4.set (a := ⟨w.heap.size + 1, 0, none⟩) (by show w.heap.size ≤ w.heap.size + 1; omega) (by show w.heap.size + 1 ≠ _; omega) _)).trans (K4.set (a := ⟨w.heap.size + 1 + 1, 0, none⟩) (by show w.heap.size ≤ w.heap.size + 1 + 1; omega) (by show w.heap.size + 1 + 1 ≠ _; omega) _)
     exact ⟨hk.oth.from _, ⟨hk.bel, hk.box⟩, v, bs, s, r', HZ3.out, by have := HST.out.1; simp; omega, fun he => (ziP_step P ds HPP.out.1 HU.out.1 HU.out.2.1 HU.out.2.2 HZ.out HST.out.2.1 rfl HST.out.2.2 HP.out he).1 hze⟩
 case done =>
   rintro D ys W hD hys ⟨v, bs, cc, r, hZ, hlen, hst⟩ hK
   have hyl : ys.length = n := by rw [hys]; exact upf_length _ _
   rw [hyl] at hlen hst
   have HZW : Hid (Zw w W v bs cc r) := hZ
   have HST : Hid (bs.length ≤ n ∧ ZS top ((vals (ds ++ [c])).sum) ds n bs cc ∧ P n bs cc) := ⟨hlen, hst hys⟩
   have HK : Hid (W.heap[D]? = some (.deferred (some []))) := hK
   have HD : Hid (w.heap.size + 4 ≤ D) := by show _ ≤ _; omega
   have m3 := hZ.b3.cell
   have m4 := hZ.b4.cell
   have LN : Hid (n ≤ 1000) := ln
   clear hZ hlen hst hK hD hys hyl z0 b6 HZ0 hW0 hs0 ln
   gi_wp2_with (first
     | (gi_at_builtin; refine wpListIn_append_own _ rfl _ _ 23 rfl (w.heap.size + 4) 24 i0 (.float .f64 0) 1 8 undF hi0 hz0 hz1 hz2 rfl (by decide) v bs.length (f64s bs) rfl (HZW.out.row.own.alloc _) ⟨W.heap.size, 0, none⟩ 1 1 [.float .f64 cc] rfl rfl (cell_one_new _ _ _) (by simp [Value.oneCell']) (by unfold maxLen; have := HST.out; have := LN.out; omega) (by have := HST.out; have := LN.out; omega) (by have := HZW.out.siz; simp; omega) ?_; intro v' W4 hown hgrow _; obtain ⟨g', cap', rfl⟩ := ownsRow_succ hown; obtain ⟨y3, y4, y5, hz5, hk5⟩ := HZW.out.grew HZW.out.wc hown hgrow; have n3 := y3.cell; have u3 := y3.frozen; have HZ5 : Hid (Zw w (W4.setCell ⟨w.heap.size, 0, none⟩ (.slice (some ⟨g', 0, none⟩) (bs.length + 1) cap')) (.slice (some ⟨g', 0, none⟩) (bs.length + 1) cap') (bs ++ [cc]) cc r ∧ K4 w W W4) := ⟨hz5, hk5⟩; clear y3 y4 y5 hz5 hk5 hown hgrow)
     | (refine ⟨trivial, ?_⟩; gi_at_call 40; refine (callsIn_wide.2 (reverse_walk (w.heap.size + 4) g' cap' (bs.length + 1) (bs ++ [cc]) _ HZ5.out.1.row (by simp) (by have := HST.out; have := LN.out; omega))).mono ?_; rintro e W6 ⟨⟨v6, rfl⟩, hF6, hb6, hk6⟩; have p3 := (boxed_belowK HZ5.out.1.b3 hb6 (by omega)).cell; have H6 : Hid (Fr W6 (w.heap.size + 4) (.slice (some ⟨g', 0, none⟩) (bs.length + 1) cap') (bs ++ [cc]).reverse ∧ Below (w.heap.size + 4) (W4.setCell ⟨w.heap.size, 0, none⟩ (.slice (some ⟨g', 0, none⟩) (bs.length + 1) cap')) W6 ∧ KeepsOthers (W4.setCell ⟨w.heap.size, 0, none⟩ (.slice (some ⟨g', 0, none⟩) (bs.length + 1) cap')) W6) := ⟨hF6, hb6, hk6⟩; clear hF6 hb6 hk6))
   have hK6 : W6.heap[D]? = some (.deferred (some [])) := H6.out.2.2.same D _ ((KeepsOthers.setCell _ _ _).same D _ (HZ5.out.2.oth.same D _ HK.out rfl) rfl) rfl
   refine ⟨by simp, .inl ⟨_, _, rfl, run_takeDeferred hK6, ?_⟩⟩
   have hb6 : Below w.heap.size w W6 := HZ5.out.1.bel.trans (H6.out.2.1.mono (by omega))
   exact ⟨_, results_tmp rfl _ _ _, ⟨_, (bs ++ [cc]).reverse, rfl, Fr.mono (B := w.heap.size + 4) ⟨ownsRow_putObj H6.out.1.own _ hK6 rfl, H6.out.1.word⟩ (by omega), HST.out.2.1.done HU.out.2.2.symm, bs, cc, HST.out.2.2, rfl⟩, hb6.trans (belowK_b (w := w) (Nat.le_refl _) W6 D _ _ (by have := HD.out; omega) hK6 rfl rfl)⟩
 case stop =>
   rintro D c pre W _ _ h _
   exact h.elim
end

/- ExpandNames: plain facts of the examples and the ends. -/
section
open Go.RowKit Go.Shelf
def pw (k : Nat) : Nat := (1022 + k) * 4503599627370496 + 4503599627370496
theorem v_pw {k : Nat} (h : k ≤ 1000) : fval (pw k) = U (1074 + k) := by
 have := fval_rung (1022 + k) 4503599627370496 (by omega) (Or.inr (by omega)) (by omega)
 have h2 := U_52 (1022 + k)
 unfold pw
 rw [this, show 1074 + k = 1022 + k + 52 by omega]
 exact h2.symm
theorem pw_lt {k : Nat} (h : k ≤ 1000) : pw k < 9223372036854775808 := by unfold pw; omega
theorem rung_pw {k : Nat} (h : k ≤ 1000) : frung (pw k) = pw k := by unfold frung; exact Nat.mod_eq_of_lt (pw_lt h)
theorem lo_pw {i j : Nat} (h : i < j) : Lo (U (1074 + i)) (U (1074 + j)) :=
 ⟨1074 + j, by rw [ab, if_neg (by have := U_pos (1074 + i); grind)]; exact U_lt_iff.2 (by omega), ⟨1, by rw [show ((1 : Int) : Rat) = 1 from rfl]; grind⟩⟩
def manyW (n : Nat) : List Nat := (List.range n).map fun i => pw (2 * i)
theorem many_len (n : Nat) : (manyW n).length = n := by simp [manyW]
theorem many_at {n i : Nat} (h : i < n) : (manyW n).getD i 0 = pw (2 * i) := by
 unfold manyW
 simp [List.getD, h]
theorem many_may : MayC (manyW 64) := by
 refine ⟨by rw [many_len]; omega, fun i hi => ?_⟩
 rw [many_len] at hi
 unfold MayAt
 rw [many_at hi, rung_pw (by omega)]
 refine ⟨Nat.zero_le _, by unfold pw; omega, by unfold pw; omega, fun h0 => ?_⟩
 rw [many_at (by omega), v_pw (by omega), v_pw (by omega)]
 exact lo_pw (by omega)
theorem many_not : ¬ MayC (manyW 65) := fun h => by have := h.1; rw [many_len] at this; omega
theorem ones_not : ¬ MayC [4607182418800017408, 4607182418800017408] := fun h => by
 have := (h.2 1 (by simp)).2.2.2 (by omega)
 have h2 : Lo (fval 4607182418800017408) (fval 4607182418800017408) := this
 rw [v_one] at h2
 have := h2.lt (by have := U_pos 1074; grind)
 grind
theorem v_four : fval 4616189618054758400 = 4 := by decide +kernel
theorem v_five : fval 4617315517961601024 = 5 := by decide +kernel
theorem one_four : MayC [4607182418800017408, 4616189618054758400] := by
 refine ⟨by simp, fun i hi => ?_⟩
 have : i = 0 ∨ i = 1 := by simp at hi; omega
 rcases this with rfl | rfl
 · exact ⟨by simp [frung], by simp [frung], by simp [frung], fun h => absurd h (by omega)⟩
 · refine ⟨by simp [frung], by simp [frung], by simp [frung], fun _ => ?_⟩
   show Lo (fval 4607182418800017408) (fval 4616189618054758400)
   have e : (4616189618054758400 : Nat) = pw 2 := rfl
   rw [e, v_one, v_pw (by omega)]
   exact lo_pw (i := 0) (by omega)
theorem four_five : ¬ MayC [4616189618054758400, 4617315517961601024] := fun h => by
 have h2 : Lo (fval 4616189618054758400) (fval 4617315517961601024) := (h.2 1 (by simp)).2.2.2 (by omega)
 rw [v_four, v_five] at h2
 have := (lo_low (p := 4) (x := 5) (l := 0) (m := 5) (by rw [p2_zero]; decide +kernel) (by decide) (by omega)).1 h2
 rw [p2_zero] at this
 revert this
 decide +kernel
theorem zero_not : ¬ MayC [0] := fun h => absurd rfl (h.2 0 (by simp)).2.2.1
theorem nan_not : ¬ MayC [9221120237041090561] := fun h => by
 have := (h.2 0 (by simp)).2.1
 simp [frung] at this
theorem nil_may (lo hi : Nat) : MayP lo hi [] := ⟨by simp, fun i hi => by simp at hi⟩
theorem single {lo hi b : Nat} (h1 : lo ≤ frung b) (h2 : frung b ≤ hi) (h3 : frung b ≠ 0) : MayP lo hi [b] := by
 refine ⟨by simp, fun i hi => ?_⟩
 obtain rfl : i = 0 := by simpa using hi
 exact ⟨h1, h2, h3, fun h => absurd h (by omega)⟩
theorem single_not {lo hi b : Nat} (h : frung b < lo ∨ hi < frung b) : ¬ MayP lo hi [b] := fun hm => by
 have h1 := (hm.2 0 (by simp)).1
 have h2 := (hm.2 0 (by simp)).2.1
 simp only [List.getD_cons_zero] at h1 h2
 omega
theorem v_m60 : fval 13560338478012563456 = -U 1014 := by
 have := fval_rung 962 4503599627370496 (by omega) (Or.inr (by omega)) (by omega)
 have h := U_52 962
 rw [show (13560338478012563456 : Nat) = 9223372036854775808 + (962 * 4503599627370496 + 4503599627370496) from rfl, fval_word (by omega), this]
 rw [show ((4503599627370496 : Nat) : Rat) = 4503599627370496 from rfl, ← h]
theorem m60_may : MayC [13560338478012563456, 4607182418800017408] := by
 refine ⟨by simp, fun i hi => ?_⟩
 have : i = 0 ∨ i = 1 := by simp at hi; omega
 rcases this with rfl | rfl
 · exact ⟨by simp [frung], by simp [frung], by simp [frung], fun h => absurd h (by omega)⟩
 · refine ⟨by simp [frung], by simp [frung], by simp [frung], fun _ => ?_⟩
   show Lo (fval 13560338478012563456) (fval 4607182418800017408)
   rw [v_one, v_m60]
   refine ⟨1074, ?_, ⟨1, by rw [show ((1 : Int) : Rat) = 1 from rfl]; grind⟩⟩
   rw [ab_neg, ab, if_neg (by have := U_pos 1014; grind)]
   exact U_lt_iff.2 (by omega)
theorem safe_ends : MayS [2580562586483294208, 6633802251116740608] := by
 refine ⟨by simp, fun i hi => ?_⟩
 have : i = 0 ∨ i = 1 := by simp at hi; omega
 rcases this with rfl | rfl
 · exact ⟨by simp [frung], by simp [frung], by simp [frung], fun h => absurd h (by omega)⟩
 · refine ⟨by simp [frung], by simp [frung], by simp [frung], fun _ => ?_⟩
   show Lo (fval 2580562586483294208) (fval 6633802251116740608)
   have e1 : fval 2580562586483294208 = U 624 := by
     have := fval_rung 572 4503599627370496 (by omega) (Or.inr (by omega)) (by omega)
     have h := U_52 572
     rw [show (2580562586483294208 : Nat) = 572 * 4503599627370496 + 4503599627370496 from rfl, this]
     exact h.symm
   rw [e1, show (6633802251116740608 : Nat) = pw 450 from rfl, v_pw (by omega)]
   refine ⟨1074 + 450, ?_, ⟨1, by rw [show ((1 : Int) : Rat) = 1 from rfl]; grind⟩⟩
   rw [ab, if_neg (by have := U_pos 624; grind)]
   exact U_lt_iff.2 (by omega)
end

/- ExpandNames: what is called. -/
section
open Go.RowKit Go.Shelf
theorem f_one : F 1 := by
 have := F_fval (b := 4607182418800017408) (by unfold Fin64 frung; omega)
 rwa [v_one, U_one] at this
theorem one_word {s : Nat} (hf : Fin64 s) (hs : s < 18446744073709551616) (h : fval s = 1) : s = 4607182418800017408 :=
 fval_inj hf (by unfold Fin64 frung; omega) hs (by omega) (by rw [h, v_one, U_one]) (by rw [h]; decide)
theorem m60_step : StepP (fun k gs cc => (k = 0 ∧ gs = [] ∧ cc = 4607182418800017408) ∨ (k = 1 ∧ ∃ c, gs = [4607182418800017408] ∧ cc = c)) [13560338478012563456] := by
 intro k bs cc s r hk hP hp
 obtain rfl : k = 0 := by simpa using hk
 rcases hP with ⟨_, rfl, rfl⟩ | ⟨h, _⟩
 · have hp' : Pair (TameW 4607182418800017408 13560338478012563456) (fval 4607182418800017408 + fval 13560338478012563456) s r := hp
   obtain ⟨fs, fr, ls, lr, h⟩ := hp'
   rcases h with ⟨_, h1, h2⟩ | ⟨h, _⟩
   · rw [v_one, v_m60, U_one] at h1 h2
     obtain ⟨T, k, R⟩ := h1.rn
     have u0 := U_pos 1014
     have hb := R.best (y := 1) (c := U 1014) f_one (by grind) (by grind)
     have u1 : U 1015 = 2 * U 1014 := U_succ 1014
     have u2 := U_mono (show 1016 ≤ 1021 by omega)
     have u3 : U 1016 = 2 * U 1015 := U_succ 1015
     have hs : fval s = 1 := near_one (F_fval fs) (ab_lt.2 (by constructor <;> grind))
     have e := one_word fs ls hs
     subst e
     refine ⟨fun h0 => ?_, fun _ => Or.inr ⟨rfl, r, rfl, rfl⟩⟩
     exfalso
     have : fval r = 0 := by
       have := ab_fval r fr
       rw [h0, show fval 0 = 0 by decide +kernel] at this
       unfold ab at this
       split at this <;> grind
     rw [hs, this] at h2
     grind
   · exact absurd ⟨by simp [frung], by simp [frung]⟩ h
 · omega
set_option maxRecDepth 100000 in
set_option maxHeartbeats 1000000 in
theorem near60 (g cap : Nat) (w : World) (hs : Fs w (.slice (some ⟨g, 0, none⟩) 2 cap) [13560338478012563456, 4607182418800017408]) (hgw : g < w.heap.size) (hc0 : w.cell? ⟨g, 0, none⟩ = some (.float .f64 13560338478012563456)) (hc1 : w.cell? ⟨g, 1, none⟩ = some (.float .f64 4607182418800017408)) :
   Calls Try.prog 15 #[.slice (some ⟨g, 0, none⟩) 2 cap] w fun e w' => e = .returned (.float .f64 4607182418800017408) ∧ Below w.heap.size w w' := by
 have H : Hid (Fs w (.slice (some ⟨g, 0, none⟩) 2 cap) [13560338478012563456, 4607182418800017408]) := hs
 have HSq := Lib.hid (squeezedP_walk _ 2065 1 4607182418800017408 cap g 0 [13560338478012563456] w (by omega) hs (check_up m60_may) rfl (by omega) hgw (fun j hj => by
   have : j = 0 ∨ j = 1 := by omega
   rcases this with rfl | rfl
   · exact hc0
   · exact hc1) m60_step (Or.inl ⟨rfl, rfl, rfl⟩))
 clear hs hc0 hc1
 go_enter Try.func15, Try.ntmps15
 go_wp2_with fail
 refine (check_any _ _ _ H.out).mono ?_
 rintro e w1 ⟨⟨t, rfl, ht⟩, hw1⟩
 obtain rfl := hw1.symm
 obtain rfl : t = true := ht.2 m60_may
 clear ht
 go_wp2_with fail
 refine HSq.out.mono ?_
 rintro e w1 ⟨⟨v, bs, rfl, hF, hS, gs, cc, hP, he⟩, hb⟩
 have hl : lastW bs = 4607182418800017408 := by
   rcases hP with ⟨h, _⟩ | ⟨_, c, h1, h2⟩
   · omega
   · subst h1; rw [he]; rfl
 have HF : Hid (Fr w1 w.heap.size v bs ∧ Sq 2065 (vals ([13560338478012563456] ++ [4607182418800017408])).sum bs ∧ Below w.heap.size w w1 ∧ lastW bs = 4607182418800017408) := ⟨hF, hS, hb, hl⟩
 clear hF hS hb hl hP he
 go_wp2_with fail
 refine (lead_any v bs _ HF.out.1.fs (by have := HF.out.2.1.cnt; omega)).mono ?_
 rintro e w2 ⟨rfl, rfl⟩
 go_wp2
 go_ret
 exact ⟨by rw [HF.out.2.2.2]; rfl, HF.out.2.2.1⟩
set_option maxRecDepth 100000 in
theorem sum65 (g cap : Nat) (w : World) : Calls Try.prog 6 #[.slice (some ⟨g, 0, none⟩) 65 cap] w fun e w' => e = .returned (.tuple #[.slice none 0 0, .bool false]) ∧ Below w.heap.size w w' := by
 go_enter Try.func6, Try.ntmps6
 go_wp2
 go_ret2
 exact ⟨rfl, Below.refl _ _⟩
end

/- ExpandNames: contracts with the answers told. -/
section
open Go.RowKit Go.Shelf
theorem Fr.shape {w : World} {B : Nat} {v : Value} {bs : List Nat} (h : Fr w B v bs) : ∃ a c, v = .slice a bs.length c := by
 rcases h.own.2 with ⟨h1, h2⟩ | ⟨g, cap, cur, h1, _⟩
 · exact ⟨none, 0, by rw [h1, h2]⟩
 · exact ⟨_, _, h1⟩
theorem bool_is {a b : Bool} {P : Prop} (h1 : a = true ↔ P) (h2 : b = true ↔ P) : a = b := by
 cases a <;> cases b <;> simp_all
theorem ofQ (x : Nat) (b : Bool) (hx : x < 18446744073709551616) (h : b = true ↔ MayC (gw [] x)) : Hid (∀ W, Calls Try.prog 7 #[.float .f64 x] W fun e w' => ∃ a n c, e = .returned (.tuple #[.slice a n c, .bool b]) ∧ (b = true → n = (gw [] x).length) ∧ Below W.heap.size W w') := fun W => by
 refine (ofE_any x W hx).mono ?_
 rintro e w' ⟨⟨v, bs, t, rfl, h2, h3, h4, _⟩, h6⟩
 obtain rfl := bool_is h3 h
 obtain ⟨a, c, rfl⟩ := h2.shape
 exact ⟨a, _, c, rfl, fun ht => by rw [h4 ht], h6⟩
theorem scaleQ (x y : Nat) (b : Bool) (hx : x < 18446744073709551616) (hy : y < 18446744073709551616) (h : b = true ↔ (MayC (gw [] y) ∧ MayS [x] ∧ MayS (gw [] y))) : Hid (∀ W, Calls Try.prog 8 #[.slice (some ⟨W.heap.size, 0, none⟩) 1 1, .float .f64 y] (W.alloc (.cells #[.float .f64 x] 24)) fun e w' => ∃ a n c, e = .returned (.tuple #[.slice a n c, .bool b]) ∧ (b = true → gw [] y = [] → n = 0) ∧ Below W.heap.size W w') := fun W => by
 refine (scaleE_any _ [x] y _ (fs1 W x hx) hy).mono ?_
 rintro e w' ⟨⟨v, bs, t, rfl, h2, h3, h4, _⟩, h6⟩
 obtain rfl := bool_is h3 h
 obtain ⟨a, c, rfl⟩ := h2.shape
 refine ⟨a, _, c, rfl, fun ht hg => ?_, (new_below W _).trans (h6.mono (new_below W _).size)⟩
 have := h4 ht
 rw [hg, show (vals [] : List Rat).sum = 0 from rfl, Rat.mul_zero] at this
 rw [none_floats this]; rfl
theorem addQ (x : Nat) (b : Bool) (hx : x < 18446744073709551616) (h : b = true ↔ MayA [x]) : Hid (∀ W, Calls Try.prog 9 #[.slice (some ⟨W.heap.size, 0, none⟩) 1 1, .slice none 0 0] (W.alloc (.cells #[.float .f64 x] 24)) fun e w' => ∃ a n c, e = .returned (.tuple #[.slice a n c, .bool b]) ∧ Below W.heap.size W w') := fun W => by
 refine (addE_any _ _ [x] [] _ (fs1 W x hx) (Fr.nil _ 0).fs).mono ?_
 rintro e w' ⟨⟨v, bs, t, rfl, h2, h3, h4, _⟩, h6⟩
 obtain rfl := bool_is h3 (h.trans ⟨fun h => ⟨h, nil_may _ _⟩, fun h => h.1⟩)
 obtain ⟨a, c, rfl⟩ := h2.shape
 exact ⟨a, _, c, rfl, (new_below W _).trans (h6.mono (new_below W _).size)⟩
theorem checkQ1 (x : Nat) (b : Bool) (hx : x < 18446744073709551616) (h : b = true ↔ MayC [x]) : Hid (∀ W, Calls Try.prog 11 #[.slice (some ⟨W.heap.size, 0, none⟩) 1 1] (W.alloc (.cells #[.float .f64 x] 24)) fun e w' => e = .returned (.bool b) ∧ Below W.heap.size W w') := fun W => by
 refine (check_any _ [x] _ (fs1 W x hx)).mono ?_
 rintro e w' ⟨⟨t, rfl, ht⟩, rfl⟩
 obtain rfl := bool_is ht h
 exact ⟨rfl, new_below W _⟩
theorem checkQ2 (x y : Nat) (b : Bool) (hx : x < 18446744073709551616) (hy : y < 18446744073709551616) (h : b = true ↔ MayC [x, y]) : Hid (∀ W, Calls Try.prog 11 #[.slice (some ⟨W.heap.size, 0, none⟩) 2 2] (W.alloc (.cells #[.float .f64 x, .float .f64 y] 24)) fun e w' => e = .returned (.bool b) ∧ Below W.heap.size W w') := fun W => by
 refine (check_any _ [x, y] _ (fs2 W x y hx hy)).mono ?_
 rintro e w' ⟨⟨t, rfl, ht⟩, rfl⟩
 obtain rfl := bool_is ht h
 exact ⟨rfl, new_below W _⟩
theorem safeQ1 (x : Nat) (b : Bool) (hx : x < 18446744073709551616) (h : b = true ↔ MayS [x]) : Hid (∀ W, Calls Try.prog 13 #[.slice (some ⟨W.heap.size, 0, none⟩) 1 1] (W.alloc (.cells #[.float .f64 x] 24)) fun e w' => e = .returned (.bool b) ∧ Below W.heap.size W w') := fun W => by
 refine (safeE_any _ [x] _ (fs1 W x hx)).mono ?_
 rintro e w' ⟨⟨t, rfl, ht⟩, rfl⟩
 obtain rfl := bool_is ht h
 exact ⟨rfl, new_below W _⟩
theorem safeQ2 (x y : Nat) (b : Bool) (hx : x < 18446744073709551616) (hy : y < 18446744073709551616) (h : b = true ↔ MayS [x, y]) : Hid (∀ W, Calls Try.prog 13 #[.slice (some ⟨W.heap.size, 0, none⟩) 2 2] (W.alloc (.cells #[.float .f64 x, .float .f64 y] 24)) fun e w' => e = .returned (.bool b) ∧ Below W.heap.size W w') := fun W => by
 refine (safeE_any _ [x, y] _ (fs2 W x y hx hy)).mono ?_
 rintro e w' ⟨⟨t, rfl, ht⟩, rfl⟩
 obtain rfl := bool_is ht h
 exact ⟨rfl, new_below W _⟩
theorem signQ : Hid (∀ W, Calls Try.prog 14 #[.slice (some ⟨W.heap.size, 0, none⟩) 2 2] (W.alloc (.cells #[.float .f64 4607182418800017408, .float .f64 4607182418800017408] 24)) fun e w' => e = .returned (.int .i64 0) ∧ Below W.heap.size W w') := fun W => by
 refine (signE_any _ _ _ (fs2 W 4607182418800017408 4607182418800017408 (by omega) (by omega))).mono ?_
 rintro e w' ⟨⟨z, rfl, _, hz⟩, rfl⟩
 obtain rfl := hz ones_not
 exact ⟨rfl, new_below W _⟩
theorem nearQ0 : Hid (∀ W, Calls Try.prog 15 #[.slice (some ⟨W.heap.size, 0, none⟩) 2 2] (W.alloc (.cells #[.float .f64 4607182418800017408, .float .f64 4607182418800017408] 24)) fun e w' => e = .returned (.float .f64 0) ∧ Below W.heap.size W w') := fun W => by
 refine (near_any _ _ _ (fs2 W 4607182418800017408 4607182418800017408 (by omega) (by omega))).mono ?_
 rintro e w' ⟨⟨z, rfl, _, _, _, hz⟩, hb⟩
 obtain rfl := hz ones_not
 exact ⟨rfl, (new_below W _).trans (hb.mono (new_below W _).size)⟩
theorem nearQ1 : Hid (∀ W, Calls Try.prog 15 #[.slice (some ⟨W.heap.size, 0, none⟩) 2 2] (W.alloc (.cells #[.float .f64 13560338478012563456, .float .f64 4607182418800017408] 24)) fun e w' => e = .returned (.float .f64 4607182418800017408) ∧ Below W.heap.size W w') := fun W => by
 refine (near60 _ 2 _ (fs2 W _ _ (by omega) (by omega)) (by simp) (by go_simp) (by go_simp)).mono ?_
 rintro e w' ⟨rfl, hb⟩
 exact ⟨rfl, (new_below W _).trans (hb.mono (new_below W _).size)⟩
theorem checkM (W : World) (v : Value) (bs : List Nat) (b : Bool) (hf : Fs W v bs) (h : b = true ↔ MayC bs) : Calls Try.prog 11 #[v] W fun e w' => e = .returned (.bool b) ∧ w' = W := by
 refine (check_any _ bs _ hf).mono ?_
 rintro e w' ⟨⟨t, rfl, ht⟩, rfl⟩
 obtain rfl := bool_is ht h
 exact ⟨rfl, rfl⟩
theorem sum64 (g cap : Nat) (W : World) (hc : ∀ i, i < 64 → W.cell? ⟨g, 0 + i, none⟩ = some (.slice none 0 0)) : Calls Try.prog 6 #[.slice (some ⟨g, 0, none⟩) 64 cap] W fun e w' => ∃ a n c, e = .returned (.tuple #[.slice a n c, .bool true]) ∧ Below W.heap.size W w' := by
 refine (sumE_any 64 g 0 cap (fun _ => .slice none 0 0) (fun _ => []) W (by omega) hc (fun _ _ => (Fr.nil _ 0).fs)).mono ?_
 rintro e w' ⟨⟨v, bs, t, rfl, h2, h3, _, _⟩, h6⟩
 obtain rfl : t = true := h3.2 (fun _ _ => nil_may _ _)
 obtain ⟨a, c, rfl⟩ := h2.shape
 exact ⟨a, _, c, rfl, h6⟩
end

/- ExpandNames: the walk. -/
section
open Go.RowKit Go.Shelf
theorem inf3 (w : World) : Calls Try.prog 10 #[.int .i64 1] w fun e w' => e = .returned (.float .f64 9218868437227405312) ∧ w' = w := by
 have b1 := run_frombits 9218868437227405312
 rw [show ((9218868437227405312 : Nat) : Int) = 9218868437227405312 from rfl] at b1
 go_enter Try.func10, Try.ntmps10
 go_wp2
 go_ret
 exact ⟨rfl, rfl⟩
theorem nan3 (w : World) : Calls Try.prog 12 #[] w fun e w' => e = .returned (.float .f64 9221120237041090561) ∧ w' = w := by
 have b1 := run_frombits 9221120237041090561
 rw [show ((9221120237041090561 : Nat) : Int) = 9221120237041090561 from rfl] at b1
 go_enter Try.func12, Try.ntmps12
 go_wp2
 go_ret
 exact ⟨rfl, rfl⟩
theorem ldexp3 (i : Nat) (hi : i < 65) (w : World) : Calls Try.prog 5 #[.float .f64 4607182418800017408, .int .i64 (2 * (i : Int))] w fun e w' => e = .returned (.float .f64 (pw (2 * i))) ∧ w' = w := by
 have h0 := v_pw (k := 2 * i) (by omega)
 refine Ldexp_val 4607182418800017408 (pw (2 * i)) (2 * (i : Int)) w (by unfold Fin64 frung; omega) (by omega) (by unfold Fin64 frung pw; omega) (by unfold pw; omega) ?_ ?_ (by omega) (by omega)
 · rw [h0, v_one, U_one, Rat.one_mul]
   unfold U
   congr 1
   omega
 · rw [h0]; have := U_pos (1074 + 2 * i); grind
set_option maxRecDepth 100000 in
theorem make3 (W : World) : (Instr.makeSlice 26 (.int .i64 65) (.int .i64 65)).run Try.prog W = .ok (.slice (some ⟨W.heap.size, 0, none⟩) 65 65) (W.alloc (.cells (List.replicate 65 (.slice none 0 0)).toArray 23)) := by
 obtain ⟨i0, hi0, hz0, hz1, hz2⟩ := info_parts (show (Try.prog.info? 23).map (fun i => (i.zero, i.size, i.bytes)) = some (some (.slice none 0 0), 1, 24) by kernel_rfl)
 have h := run_make (P := Try.prog) W 26 23 i0 _ Try.underlying26 hi0 hz0 .i64 .i64 65 65 (by omega) (Int.le_refl _) (by rw [hz2]; omega) (by omega)
 rw [h]
 congr 3
 apply Array.toList_inj.1
 rw [hz1, Nat.mul_one, show (Value.slice none 0 0).cells = #[Value.slice none 0 0] from rfl, toList_madeCells_one]
 rfl
theorem many_snoc (i : Nat) : manyW (i + 1) = manyW i ++ [pw (2 * i)] := by unfold manyW; rw [List.range_succ, List.map_append]; rfl
theorem Fr.form5 {w : World} {B : Nat} {v : Value} {bs : List Nat} (h : Fr w B v bs) : ∃ a c, v = .slice a bs.length c ∧ bs.length ≤ c ∧ c ≤ 9223372036854775807 := by
 rcases h.own.2 with ⟨h1, h2⟩ | ⟨g, cap, cur, h1, _, _, h5, h6, _⟩
 · exact ⟨none, 0, by rw [h1, h2], by omega, by omega⟩
 · exact ⟨_, _, h1, h5, by unfold maxLen at h6; omega⟩
theorem many_short {W : World} {a : Option Addr} {d : Nat} (h : Fs W (.slice a 65 d) (manyW 65)) (hd : 65 ≤ d) : Fs W (.slice a 64 d) (manyW 64) := by
 obtain ⟨⟨ao, c, e, hc, hm, hf⟩, hw⟩ := h
 have e' : a = ao ∧ 65 = (manyW 65).length ∧ d = c := by simpa using e
 obtain ⟨rfl, _, rfl⟩ := e'
 refine ⟨⟨a, d, by rw [many_len], by rw [many_len]; omega, hm, ?_⟩, fun b hb => hw b ?_⟩
 · rcases hf with hf | ⟨g, off, e1, e2⟩
   · have := congrArg List.length hf
     rw [many_len] at this
     cases this
   · refine Or.inr ⟨g, off, e1, fun k hk => ?_⟩
     rw [many_len] at hk
     rw [e2 k (by rw [many_len]; omega), many_at (by omega), many_at hk]
 · rw [show manyW 65 = manyW 64 ++ [pw (2 * 64)] from many_snoc 64]
   exact List.mem_append_left _ hb
theorem gw1 {x : Nat} (h : frung x ≠ 0) : gw [] x = [x] := by unfold gw; rw [if_neg h]; rfl
theorem gw0 : gw [] 0 = [] := rfl
theorem iff_no {P : Prop} (h : ¬ P) : false = true ↔ P := ⟨fun e => (by cases e), fun p => absurd p h⟩
theorem iff_yes {P : Prop} (h : P) : true = true ↔ P := ⟨fun _ => h, fun _ => rfl⟩
theorem cellk {w w' : World} (hb : Below w.heap.size w w') {a : Addr} {v : Value} (h : w.cell? a = some v) : w'.cell? a = some v := (hb.cell (World.block_lt_of_cell? _ _ h)).trans h
theorem made_celln (W : World) (n i : Nat) (hi : i < n) : (W.alloc (.cells (List.replicate n (.slice none 0 0)).toArray 23)).cell? ⟨W.heap.size, 0 + i, none⟩ = some (.slice none 0 0) := by
 unfold World.cell?
 rw [World.alloc_heap_new]
 simp [hi]
theorem made_cell (W : World) (i : Nat) (hi : i < 65) : (W.alloc (.cells (List.replicate 65 (.slice none 0 0)).toArray 23)).cell? ⟨W.heap.size, 0 + i, none⟩ = some (.slice none 0 0) := made_celln W 65 i hi
set_option maxRecDepth 100000 in
set_option maxHeartbeats 64000000 in
theorem expandNames_law (w : World) : Calls Try.prog 3 #[] w fun e w' => e = .returned (.bool true) ∧ Below w.heap.size w w' := by
 have H0 := Lib.hid (worksE_any w)
 go_enter Try.func3, Try.ntmps3
 go_wp2_with fail
 refine H0.out.mono ?_
 rintro e W0 ⟨rfl, hb⟩
 have B0 := Lib.hid hb
 clear hb H0
 go_wp2_with fail
 obtain ⟨i0, hi0, hz0, hz1, hz2⟩ := info_parts (show (Try.prog.info? 24).map (fun i => (i.zero, i.size, i.bytes)) = some (some (.float .f64 0), 1, 8) by kernel_rfl)
 go_loopw [1, 2] (fun s1 s2 wr => ∃ j : Nat, j ≤ 65 ∧ s2 = .int .i64 (j : Nat) ∧ Hid (Fr wr W0.heap.size s1 (manyW j) ∧ Below W0.heap.size W0 wr)) (fun _ s2 _ => 65 - (RowKit.intOf s2).toNat)
 case atStart => exact ⟨0, Nat.zero_le _, rfl, Fr.nil _ _, Below.refl _ _⟩
 case round =>
   obtain ⟨j, hj, rfl, hI⟩ := hrel
   obtain ⟨ts, hts⟩ : ∃ ts : List Nat, Hid (manyW j = ts) := ⟨_, Lib.hid rfl⟩
   have HTL : Hid (ts.length = j) := (by rw [← hts.out]; exact many_len j : ts.length = j)
   rw [hts.out] at hI
   by_cases hlt : j < 65
   · have hlt' : (j : Int) < 65 := by omega
     have hj0 : (0 : Int) ≤ (j : Int) := by omega
     obtain ⟨x, hx⟩ : ∃ x, Hid (pw (2 * j) = x) := ⟨_, Lib.hid rfl⟩
     have HTS : Hid (manyW (j + 1) = ts ++ [x]) := (by rw [many_snoc, hts.out, hx.out] : manyW (j + 1) = ts ++ [x])
     have HL : Hid (∀ w, Calls Try.prog 5 #[.float .f64 4607182418800017408, .int .i64 (2 * (j : Int))] w fun e w' => e = .returned (.float .f64 x) ∧ w' = w) := fun w => by rw [← hx.out]; exact ldexp3 j hlt w
     have HXl : Hid (x < 18446744073709551616) := (by rw [← hx.out]; have := pw_lt (k := 2 * j) (by omega); omega : x < 18446744073709551616)
     go_wp2_with (first
       | (go_at_call 5; refine (HL.out _).mono ?_; rintro e W3 ⟨rfl, hw3⟩; obtain rfl := hw3.symm)
       | (at_builtin; refine wpList_append_own _ rfl _ _ 23 rfl W0.heap.size 24 i0 (.float .f64 0) 1 8 undF hi0 hz0 hz1 hz2 rfl (by omega) u1 ts.length (f64s ts) rfl (World.ownsRow.alloc hI.out.1.own _) ⟨wr.heap.size, 0, none⟩ 1 1 [.float .f64 x] rfl rfl (World.news_of_block (cs := #[.float .f64 x]) (t := 24) (fr := (0, 0)) (heap_alloc_new wr _)) (by simp [Value.oneCell']) (by unfold maxLen; have := HTL.out; omega) (by have := HTL.out; omega) (by have := hI.out.2.size; simp; omega) ?_; intro v' W4 hown hgrow _; have HR := Lib.hid (And.intro hown hgrow); clear hown hgrow))
     go_roundw
     case rel =>
       refine ⟨j + 1, by omega, by go_num, ?_, ?_⟩
       · rw [HTS.out]
         refine ⟨by rw [List.length_append]; simpa [f64s] using HR.out.1, fun b hb => ?_⟩
         rcases List.mem_append.1 hb with hb | hb
         · exact hI.out.1.word b hb
         · rw [List.mem_singleton.1 hb]; exact HXl.out
       · exact (hI.out.2.alloc hI.out.2.size _).grown HR.out.2 (by have := hI.out.2.size; simp; omega) (fun k hk => (hI.out.1.own.lt k hk).1)
     case measure => simp [RowKit.intOf]; omega
   · have hlt' : ¬ ((j : Int) < 65) := by omega
     have e65 : j = 65 := by omega
     obtain ⟨a, d, e0, hd1, hd2⟩ := hI.out.1.form5
     rw [HTL.out, e65] at e0 hd1
     subst e0
     have hF : Fs wr (.slice a 65 d) (manyW 65) := by
       have := hI.out.1.fs
       rwa [← hts.out, e65] at this
     have HF := Lib.hid (And.intro hF (many_short hF hd1))
     have BB := Lib.hid (B0.out.trans (hI.out.2.mono B0.out.size))
     have hd3 : (64 : Int) ≤ (d : Int) := by omega
     have hd4 : 64 ≤ d := by omega
     have hd5 : (d : Int) ≤ 9223372036854775807 := by omega
     have hmk := make3 wr
     have M0 := Lib.hid (made_cell wr)
     have N0 := Lib.hid (new_below wr (.cells (List.replicate 65 (.slice none 0 0)).toArray 23))
     have c0 : FloatKind.f64.format.order 0 0 = some .eq := by decide +kernel
     have c1 : FloatKind.f64.format.order 4607182418800017408 4607182418800017408 = some .eq := by decide +kernel
     have O1 := ofQ 9070249649524178944 false (by omega) (iff_no (by rw [gw1 (by decide)]; exact single_not (Or.inr (by decide))))
     have O2 := ofQ 9065746049896808448 true (by omega) (iff_yes (by rw [gw1 (by decide)]; exact single (by decide) (by decide) (by decide)))
     have S1 := scaleQ 6858982232485265408 4607182418800017408 false (by omega) (by omega) (iff_no (fun h => single_not (Or.inr (by decide)) h.2.1))
     have S2 := scaleQ 4607182418800017408 6638305850744111104 false (by omega) (by omega) (iff_no (fun h => by have h2 := h.2.2; rw [gw1 (by decide)] at h2; exact single_not (Or.inr (by decide)) h2))
     have S3 := scaleQ 4607182418800017408 0 true (by omega) (by omega) (iff_yes ⟨by rw [gw0]; exact nil_may _ _, single (by decide) (by decide) (by decide), by rw [gw0]; exact nil_may _ _⟩)
     have A1 := addQ 8664925683060834304 false (by omega) (iff_no (single_not (Or.inr (by decide))))
     have A2 := addQ 8660422083433463808 true (by omega) (iff_yes (single (by decide) (by decide) (by decide)))
     have O3 := ofQ 0 true (by omega) (iff_yes (by rw [gw0]; exact nil_may _ _))
     have O4 := ofQ 9218868437227405312 false (by omega) (iff_no (by rw [gw1 (by decide)]; exact single_not (Or.inr (by decide))))
     have C1 := checkQ2 4607182418800017408 4607182418800017408 false (by omega) (by omega) (iff_no ones_not)
     have C2 := checkQ2 4607182418800017408 4616189618054758400 true (by omega) (by omega) (iff_yes one_four)
     have C3 := checkQ2 4616189618054758400 4617315517961601024 false (by omega) (by omega) (iff_no four_five)
     have C4 := checkQ1 0 false (by omega) (iff_no zero_not)
     have C5 := checkQ1 9221120237041090561 false (by omega) (iff_no nan_not)
     have F1 := safeQ2 2580562586483294208 6633802251116740608 true (by omega) (by omega) (iff_yes safe_ends)
     have F2 := safeQ1 2576058986855923712 false (by omega) (iff_no (single_not (Or.inl (by decide))))
     have G1 := signQ
     have G2 := nearQ0
     have G3 := nearQ1
     clear hF HTL hts hI hlt hd1 hj e65 B0
     go_wp2_with fail
     refine (sum65 _ _ _).mono ?_
     rintro e X1 ⟨rfl, hb⟩
     have D1 := Lib.hid (N0.out.trans (hb.mono N0.out.size))
     have M1 : Hid (∀ i, i < 64 → X1.cell? ⟨wr.heap.size, 0 + i, none⟩ = some (.slice none 0 0)) := fun i hi => cellk hb (M0.out i (by omega))
     clear hb N0 M0 hmk
     go_wp2_with fail
     refine (sum64 _ _ _ M1.out).mono ?_
     rintro e X2 ⟨a2, n2, d2, rfl, hb⟩
     have D2 := Lib.hid (D1.out.trans (hb.mono D1.out.size))
     clear hb D1 M1
     go_wp2_with fail
     refine (O1.out _).mono ?_
     rintro e X3 ⟨x1, y1, z1, rfl, hq, hb⟩
     clear hq
     have D3 := Lib.hid (D2.out.trans (hb.mono D2.out.size))
     clear hb D2
     go_wp2_with fail
     refine (O2.out _).mono ?_
     rintro e X4 ⟨x2, y2, z2, rfl, hq, hb⟩
     clear hq
     have D4 := Lib.hid (D3.out.trans (hb.mono D3.out.size))
     clear hb D3
     go_wp2_with fail
     refine (S1.out _).mono ?_
     rintro e X5 ⟨x3, y3, z3, rfl, hq, hb⟩
     clear hq
     have D5 := Lib.hid (D4.out.trans (hb.mono D4.out.size))
     clear hb D4
     go_wp2_with fail
     refine (S2.out _).mono ?_
     rintro e X6 ⟨x4, y4, z4, rfl, hq, hb⟩
     clear hq
     have D6 := Lib.hid (D5.out.trans (hb.mono D5.out.size))
     clear hb D5
     go_wp2_with fail
     refine (S3.out _).mono ?_
     rintro e X7 ⟨x5, y5, z5, rfl, hn5, hb⟩
     have D7 := Lib.hid (D6.out.trans (hb.mono D6.out.size))
     clear hb D6
     obtain rfl : y5 = 0 := by first | exact hn5 rfl rfl | exact hn5 trivial rfl | simpa [gw0] using hn5
     clear hn5
     go_wp2_with fail
     refine (A1.out _).mono ?_
     rintro e X8 ⟨x6, y6, z6, rfl, hb⟩
     have D8 := Lib.hid (D7.out.trans (hb.mono D7.out.size))
     clear hb D7
     go_wp2_with fail
     refine (A2.out _).mono ?_
     rintro e X9 ⟨x7, y7, z7, rfl, hb⟩
     have D9 := Lib.hid (D8.out.trans (hb.mono D8.out.size))
     clear hb D8
     go_wp2_with fail
     refine (O3.out _).mono ?_
     rintro e X10 ⟨x8, y8, z8, rfl, hn8, hb⟩
     have D10 := Lib.hid (D9.out.trans (hb.mono D9.out.size))
     clear hb D9
     obtain rfl : y8 = 0 := by first | exact hn8 rfl | exact hn8 trivial | simpa [gw0] using hn8
     clear hn8
     go_wp2_with fail
     refine (inf3 _).mono ?_
     rintro e Xi ⟨rfl, hxi⟩
     obtain rfl := hxi.symm
     go_wp2_with fail
     refine (O4.out _).mono ?_
     rintro e X11 ⟨x9, y9, z9, rfl, hq, hb⟩
     clear hq
     have D11 := Lib.hid (D10.out.trans (hb.mono D10.out.size))
     clear hb D10
     go_wp2_with fail
     refine (C1.out _).mono ?_
     rintro e X12 ⟨rfl, hb⟩
     have D12 := Lib.hid (D11.out.trans (hb.mono D11.out.size))
     clear hb D11
     go_wp2_with fail
     refine (C2.out _).mono ?_
     rintro e X13 ⟨rfl, hb⟩
     have D13 := Lib.hid (D12.out.trans (hb.mono D12.out.size))
     clear hb D12
     go_wp2_with fail
     refine (C3.out _).mono ?_
     rintro e X14 ⟨rfl, hb⟩
     have D14 := Lib.hid (D13.out.trans (hb.mono D13.out.size))
     clear hb D13
     go_wp2_with fail
     refine (C4.out _).mono ?_
     rintro e X15 ⟨rfl, hb⟩
     have D15 := Lib.hid (D14.out.trans (hb.mono D14.out.size))
     clear hb D14
     go_wp2_with fail
     refine (nan3 _).mono ?_
     rintro e Xi ⟨rfl, hxi⟩
     obtain rfl := hxi.symm
     go_wp2_with fail
     refine (C5.out _).mono ?_
     rintro e X16 ⟨rfl, hb⟩
     have D16 := Lib.hid (D15.out.trans (hb.mono D15.out.size))
     clear hb D15
     go_wp2_with fail
     refine (checkM _ _ (manyW 64) true (HF.out.2.later D16.out) (iff_yes many_may)).mono ?_
     rintro e Xi ⟨rfl, hxi⟩
     obtain rfl := hxi.symm
     go_wp2_with fail
     refine (checkM _ _ (manyW 65) false (HF.out.1.later D16.out) (iff_no many_not)).mono ?_
     rintro e Xi ⟨rfl, hxi⟩
     obtain rfl := hxi.symm
     go_wp2_with fail
     refine (checkM _ _ [] true (Fr.nil _ 0).fs (iff_yes (nil_may _ _))).mono ?_
     rintro e Xi ⟨rfl, hxi⟩
     obtain rfl := hxi.symm
     go_wp2_with fail
     refine (F1.out _).mono ?_
     rintro e X17 ⟨rfl, hb⟩
     have D17 := Lib.hid (D16.out.trans (hb.mono D16.out.size))
     clear hb D16
     go_wp2_with fail
     refine (F2.out _).mono ?_
     rintro e X18 ⟨rfl, hb⟩
     have D18 := Lib.hid (D17.out.trans (hb.mono D17.out.size))
     clear hb D17
     go_wp2_with fail
     refine (G1.out _).mono ?_
     rintro e X19 ⟨rfl, hb⟩
     have D19 := Lib.hid (D18.out.trans (hb.mono D18.out.size))
     clear hb D18
     go_wp2_with fail
     refine (G2.out _).mono ?_
     rintro e X20 ⟨rfl, hb⟩
     have D20 := Lib.hid (D19.out.trans (hb.mono D19.out.size))
     clear hb D19
     go_wp2_with fail
     refine (G3.out _).mono ?_
     rintro e X21 ⟨rfl, hb⟩
     have D21 := Lib.hid (D20.out.trans (hb.mono D20.out.size))
     clear hb D20
     go_wp2
     go_ret
     exact ⟨rfl, BB.out.trans (D21.out.mono BB.out.size)⟩
end
end Go.Proofs.Ytjcdbbdbmcbjpaa
