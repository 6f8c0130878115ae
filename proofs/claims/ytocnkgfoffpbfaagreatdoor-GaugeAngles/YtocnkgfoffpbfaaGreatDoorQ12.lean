/- Own texts, put together: Ee Ef Eg Eu Ev Eh Wi. -/
import Derived.Test.YtocnkgfoffpbfaaGreatDoorQ2
import Derived.Test.YtocnkgfoffpbfaaGreatDoorQ8
import Derived.Test.YtocnkgfoffpbfaaGreatDoorQ10
import Derived.Below
namespace Go.Proofs.YtocnkgfoffpbfaaGreatDoor
/- Tame and safe, as the document has them: the two questions. -/
section
open Go.RowKit
end

/- What is refused. -/
section
open Go.RowKit
end

/- The steps of sums, halves and products: each is the float that the language has of it. -/
section
open Go.RowKit
structure TwoSum (a b x fb fa lb la y : Nat) : Prop where
 s0 : floatBits .add .f64 a b = some x
 s1 : floatBits .sub .f64 x a = some fb
 s2 : floatBits .sub .f64 x fb = some fa
 s3 : floatBits .sub .f64 b fb = some lb
 s4 : floatBits .sub .f64 a fa = some la
 s5 : floatBits .add .f64 la lb = some y
end

/- A float's halves, and two floats multiplied (Veltkamp, Dekker), in plain numbers. -/
section
end

/- Two floats multiplied: what is rounded off is told exactly (Dekker), in plain numbers. -/
section
theorem RN.neg {q x : Rat} (h : RN q x) : RN (-q) (-x) := by obtain ⟨T, k, R⟩ := h; exact ⟨T, _, R.neg⟩
end

/- awake: the examples. -/
section
open Go.RowKit
theorem ex1 : TwoSum 4845873199050653696 4607182418800017408 4845873199050653696 0 4845873199050653696 4607182418800017408 0 4607182418800017408 := ⟨by decide +kernel, by decide +kernel, by decide +kernel, by decide +kernel, by decide +kernel, by decide +kernel⟩
end

/- The walk of joined: two magnitudes added, or the one taken off the other. -/
section
open Go.RowKit
attribute [local go_sem ↓] Go.wp_at_zero Go.wp_at_succ
theorem keep4 {w W W' : World} {p1 p2 p3 p4 : Addr} {x1 x2 x3 x4 : Value} (h : W.cell? p1 = some x1 ∧ W.cell? p2 = some x2 ∧ W.cell? p3 = some x3 ∧ W.cell? p4 = some x4 ∧ Below w.heap.size w W) (hb : Below W.heap.size W W') :
   W'.cell? p1 = some x1 ∧ W'.cell? p2 = some x2 ∧ W'.cell? p3 = some x3 ∧ W'.cell? p4 = some x4 ∧ Below w.heap.size w W' :=
 ⟨cell_later hb h.1, cell_later hb h.2.1, cell_later hb h.2.2.1, cell_later hb h.2.2.2.1, h.2.2.2.2.trans (hb.mono h.2.2.2.2.size)⟩
theorem keep4d {w W : World} {p1 p2 p3 p4 : Addr} {x1 x2 x3 x4 : Value} (h : W.cell? p1 = some x1 ∧ W.cell? p2 = some x2 ∧ W.cell? p3 = some x3 ∧ W.cell? p4 = some x4 ∧ Below w.heap.size w W) :
   W.drew.cell? p1 = some x1 ∧ W.drew.cell? p2 = some x2 ∧ W.drew.cell? p3 = some x3 ∧ W.drew.cell? p4 = some x4 ∧ Below w.heap.size w W.drew :=
 ⟨h.1, h.2.1, h.2.2.1, h.2.2.2.1, h.2.2.2.2.drew⟩
theorem thru {w W0 W : World} (h : Below w.heap.size w W0) (h' : Below W0.heap.size W0 W) : Below w.heap.size w W := h.trans (h'.mono h.size)
theorem keep4g {w W W' : World} {g : Nat} {p1 p2 p3 p4 : Addr} {x1 x2 x3 x4 : Value} (h : W.cell? p1 = some x1 ∧ W.cell? p2 = some x2 ∧ W.cell? p3 = some x3 ∧ W.cell? p4 = some x4 ∧ Below w.heap.size w W) (hg : W.grownBy W' (some g))
   (q1 : p1.block < g) (q2 : p2.block < g) (q3 : p3.block < g) (q4 : p4.block < g) (q : w.heap.size ≤ g) :
   W'.cell? p1 = some x1 ∧ W'.cell? p2 = some x2 ∧ W'.cell? p3 = some x3 ∧ W'.cell? p4 = some x4 ∧ Below w.heap.size w W' :=
 ⟨hg.cell h.1 (by simp; omega), hg.cell h.2.1 (by simp; omega), hg.cell h.2.2.1 (by simp; omega), hg.cell h.2.2.2.1 (by simp; omega), h.2.2.2.2.grown hg h.2.2.2.2.size (fun k hk => by simp at hk; omega)⟩
theorem bringX {fid : Nat} {f : Nat → Nat → Nat} {pre : Nat → Nat → Nat → Prop} (hop : BringOK fid f pre) {A C n1 n2 g g2 : Nat} {w : World} (hgg : g2 ≠ g) (h2 : Row w 86 g2 (wds (digs C (n2 + 1)))) (h1 : Row w 86 g (wds (digs A (n1 + 1)))) (hn : n1 ≤ 10000) (hn2 : n2 ≤ n1)
   (hp : pre A C (n1 + 1)) (hA : A < 2 ^ (64 * (n1 + 1))) (hC : C < 2 ^ (64 * (n2 + 1))) :
   Calls Tryz.prog 162 #[.slice (some ⟨g2, 0, none⟩) (n2 + 1) (n2 + 1), .slice (some ⟨g, 0, none⟩) (n1 + 1) (n1 + 1), .func (.func fid) #[] #[]] w fun e w' => e = .returned (.tuple #[]) ∧
     ∃ zs : List Nat, Small zs ∧ zs.length = n1 + 1 ∧ val zs = f A C ∧ Row w' 86 g (wds zs) ∧ w.grownBy w' (some g) := by
 have h := hop (digs C (n2 + 1)) (digs A (n1 + 1)) g g2 w hgg h2 (digs_small _ _) (digs_small _ _) h1 (by rw [digs_length]; omega) (by rw [digs_length, digs_length]; omega) (by rw [val_digs_of hA, val_digs_of hC, digs_length]; exact hp)
 rw [digs_length, digs_length, val_digs_of hA, val_digs_of hC] at h
 exact h
theorem sz4 {w W : World} {p1 p2 p3 p4 : Addr} {x1 x2 x3 x4 : Value} (h : W.cell? p1 = some x1 ∧ W.cell? p2 = some x2 ∧ W.cell? p3 = some x3 ∧ W.cell? p4 = some x4 ∧ Below w.heap.size w W) : w.heap.size ≤ W.heap.size := h.2.2.2.2.size
set_option maxHeartbeats 2000000 in
theorem joined_walk (fid : Nat) (f : Nat → Nat → Nat) (pre : Nat → Nat → Nat → Prop) (hop : BringOK fid f pre) (a1 a2 : Option Addr) (c1 c2 : Nat) (ns1 ns2 : List Nat) (low1 low2 L : Int) (k1 k2 n1 n2 r1 r2 : Nat) (w : World)
   (h1 : Ws w (.slice a1 ns1.length c1) ns1) (h2 : Ws w (.slice a2 ns2.length c2) ns2) (hT : Tab w) (o1 : OwnF ns1 low1) (o2 : OwnF ns2 low2)
   (hL : min low1 low2 = L) (hk1 : low1 = L + (k1 : Nat)) (hk2 : low2 = L + (k2 : Nat)) (b1 : -70000 ≤ L) (b2 : low1 ≤ 70000) (b3 : low2 ≤ 70000)
   (hH : max (hiB ns1 low1) (hiB ns2 low2) + 1 = L + (64 * n1 + r1 : Nat)) (hH2 : hiB ns2 low2 = L + (64 * n2 + r2 : Nat)) (hr1 : r1 < 64) (hr2 : r2 < 64) (hn1 : n1 ≤ 10000) (hn2 : n2 ≤ n1)
   (hpre : pre (val ns1 * 2 ^ k1) (val ns2 * 2 ^ k2) (n1 + 1)) (hv1 : val ns1 * 2 ^ k1 < 2 ^ (64 * (n1 + 1))) (hv2 : val ns2 * 2 ^ k2 < 2 ^ (64 * (n2 + 1))) :
   Calls Tryz.prog 159 #[.agg #[.slice a1 ns1.length c1, .int .i64 low1], .agg #[.slice a2 ns2.length c2, .int .i64 low2], .func (.func fid) #[] #[]] w fun e w' => Made w w' (f (val ns1 * 2 ^ k1) (val ns2 * 2 ^ k2)) L e := by
 have HOP : Hid (BringOK fid f pre) := hop
 have HH : Hid _ := hH
 have HH2 : Hid _ := hH2
 have HK1 : Hid _ := hk1
 have HK2 : Hid _ := hk2
 have HV1 : Hid _ := hv1
 have HV2 : Hid _ := hv2
 have HPRE : Hid _ := hpre
 have HT : Hid (Tab w) := hT
 have HS1 : Hid (spanL ns1 low1 L (n1 + 1) = digs (val ns1 * 2 ^ k1) (n1 + 1)) := by rw [hk1]; exact spanL_down _ _ _ _
 have HS2 : Hid (spanL ns2 low2 L (n2 + 1) = digs (val ns2 * 2 ^ k2) (n2 + 1)) := by rw [hk2]; exact spanL_down _ _ _ _
 have lo1 : -70000 ≤ low1 := by omega
 have lo2 : -70000 ≤ low2 := by omega
 have hLle : L ≤ 70000 := by omega
 have hmx : IntKind.i64.wrap (max (hiB ns1 low1) (hiB ns2 low2) + 1) = L + (64 * n1 + r1 : Nat) := by rw [hH]; exact wrapI _ (by omega) (by omega)
 have HB0 : Hid (Below w.heap.size w (((w.alloc (.cells #[.slice a1 ns1.length c1, .int .i64 low1] 47)).alloc (.cells #[.slice a2 ns2.length c2, .int .i64 low2] 47)).alloc (.cells #[.slice none 0 0, .int .i64 0] 47))) := (((Below.refl _ _).alloc (Nat.le_refl _) _).alloc (by simp) _).alloc (by simp; omega) _
 clear hop hk1 hk2 hv1 hv2 hpre hH hH2 hT
 go_enter Tryz.func159, Tryz.ntmps159
 go_wp2
 go_region_held3 (fun W => W.cell? ⟨w.heap.size, 0, none⟩ = some (.slice a1 ns1.length c1) ∧ W.cell? ⟨w.heap.size, 1, none⟩ = some (.int .i64 low1) ∧ W.cell? ⟨w.heap.size + 1, 0, none⟩ = some (.slice a2 ns2.length c2) ∧ W.cell? ⟨w.heap.size + 1, 1, none⟩ = some (.int .i64 low2) ∧ Below (((w.alloc (.cells #[.slice a1 ns1.length c1, .int .i64 low1] 47)).alloc (.cells #[.slice a2 ns2.length c2, .int .i64 low2] 47)).alloc (.cells #[.slice none 0 0, .int .i64 0] 47)).heap.size (((w.alloc (.cells #[.slice a1 ns1.length c1, .int .i64 low1] 47)).alloc (.cells #[.slice a2 ns2.length c2, .int .i64 low2] 47)).alloc (.cells #[.slice none 0 0, .int .i64 0] 47)) W)
   (first
     | assumption
     | exact ⟨by go_simp, by go_simp, by go_simp, by go_simp, (Below.refl _ _).drew⟩
     | exact keep4 (by assumption) (by assumption))
   (first
     | (go_at_call 109; refine (lowest_any _ _ _ _ _).mono ?_; rintro e wx ⟨rfl, hbx⟩))
 go_wp2
 go_region_held3 (fun W => W.cell? ⟨w.heap.size, 0, none⟩ = some (.slice a1 ns1.length c1) ∧ W.cell? ⟨w.heap.size, 1, none⟩ = some (.int .i64 low1) ∧ W.cell? ⟨w.heap.size + 1, 0, none⟩ = some (.slice a2 ns2.length c2) ∧ W.cell? ⟨w.heap.size + 1, 1, none⟩ = some (.int .i64 low2) ∧ Below (((w.alloc (.cells #[.slice a1 ns1.length c1, .int .i64 low1] 47)).alloc (.cells #[.slice a2 ns2.length c2, .int .i64 low2] 47)).alloc (.cells #[.slice none 0 0, .int .i64 0] 47)).heap.size (((w.alloc (.cells #[.slice a1 ns1.length c1, .int .i64 low1] 47)).alloc (.cells #[.slice a2 ns2.length c2, .int .i64 low2] 47)).alloc (.cells #[.slice none 0 0, .int .i64 0] 47)) W)
   (first
     | assumption
     | exact keep4d (by assumption)
     | exact keep4 (by assumption) (by assumption))
   (first
     | (go_at_call_of 103 low1; refine (highest_any _ ns1 _ _ ?_ (own_topped o1) (by omega) (by omega)).mono ?_; exact h1.later (thru HB0.out ((by assumption : _ ∧ _ ∧ _ ∧ _ ∧ _).2.2.2.2)) (Nat.le_refl _); rintro e wx ⟨rfl, hbx⟩)
     | (go_at_call_of 103 low2; refine (highest_any _ ns2 _ _ ?_ (own_topped o2) (by omega) (by omega)).mono ?_; exact h2.later (thru HB0.out ((by assumption : _ ∧ _ ∧ _ ∧ _ ∧ _).2.2.2.2)) (Nat.le_refl _); rintro e wx ⟨rfl, hbx⟩)
     | (go_at_call 116; refine (span_any _ ns1 _ _ n1 r1 _ ?_ (by omega) (by omega) (by omega) (by omega) (by omega) hr1).mono ?_; exact h1.later (thru HB0.out ((by assumption : _ ∧ _ ∧ _ ∧ _ ∧ _).2.2.2.2)) (Nat.le_refl _); rw [HS1.out]; rintro e wx ⟨g, hg, rfl, hrow, hbx⟩; have hgW := Nat.le_trans (sz4 (by assumption)) hg))
 have hgN : w.heap.size + 3 ≤ g := by simpa using hgW
 clear hgW hbx
 have hh2 : hiB ns2 low2 = L + (64 * n2 + r2 : Nat) := HH2.out
 go_wp2
 go_region_held3 (fun W => W.cell? ⟨w.heap.size, 0, none⟩ = some (.slice a1 ns1.length c1) ∧ W.cell? ⟨w.heap.size, 1, none⟩ = some (.int .i64 low1) ∧ W.cell? ⟨w.heap.size + 1, 0, none⟩ = some (.slice a2 ns2.length c2) ∧ W.cell? ⟨w.heap.size + 1, 1, none⟩ = some (.int .i64 low2) ∧ Below (((w.alloc (.cells #[.slice a1 ns1.length c1, .int .i64 low1] 47)).alloc (.cells #[.slice a2 ns2.length c2, .int .i64 low2] 47)).alloc (.cells #[.slice none 0 0, .int .i64 0] 47)).heap.size (((w.alloc (.cells #[.slice a1 ns1.length c1, .int .i64 low1] 47)).alloc (.cells #[.slice a2 ns2.length c2, .int .i64 low2] 47)).alloc (.cells #[.slice none 0 0, .int .i64 0] 47)) W)
   (first
     | assumption
     | exact keep4d (by assumption)
     | exact keep4 (by assumption) (by assumption)
     | exact keep4g (by assumption) (by assumption) (by simp; omega) (by simp; omega) (by simp; omega) (by simp; omega) (by simp; omega))
   (first
     | (go_at_call 103; refine (highest_any _ ns2 _ _ ?_ (own_topped o2) (by omega) (by omega)).mono ?_; exact h2.later (thru HB0.out ((by assumption : _ ∧ _ ∧ _ ∧ _ ∧ _).2.2.2.2)) (Nat.le_refl _); rw [hh2]; rintro e wy ⟨rfl, hby⟩)
     | (go_at_call 116; refine (span_any _ ns2 _ _ n2 r2 _ ?_ (by omega) (by omega) (by omega) (by omega) (by omega) hr2).mono ?_; exact h2.later (thru HB0.out ((by assumption : _ ∧ _ ∧ _ ∧ _ ∧ _).2.2.2.2)) (Nat.le_refl _); rw [HS2.out]; rintro e wz ⟨g2, hg2, rfl, hrow2, hbz⟩; have hrow1 := (hrow.drew.below hby hrow.lt).below hbz (Nat.lt_of_lt_of_le hrow.lt hby.size); have hgg : g2 ≠ g := (by have := hrow.lt; have := hby.size; simp at this; omega))
     | (go_at_call 162; refine (bringX HOP.out hgg hrow2 hrow1 (by omega) (by omega) HPRE.out HV1.out HV2.out).mono ?_; rintro e wb ⟨rfl, zs, hzs, hzl, hzv, hzr, hgr⟩))
 have hWB : Below (((w.alloc (.cells #[.slice a1 ns1.length c1, .int .i64 low1] 47)).alloc (.cells #[.slice a2 ns2.length c2, .int .i64 low2] 47)).alloc (.cells #[.slice none 0 0, .int .i64 0] 47)).heap.size (((w.alloc (.cells #[.slice a1 ns1.length c1, .int .i64 low1] 47)).alloc (.cells #[.slice a2 ns2.length c2, .int .i64 low2] 47)).alloc (.cells #[.slice none 0 0, .int .i64 0] 47)) wb := (by assumption : _ ∧ _ ∧ _ ∧ _ ∧ Below (((w.alloc (.cells #[.slice a1 ns1.length c1, .int .i64 low1] 47)).alloc (.cells #[.slice a2 ns2.length c2, .int .i64 low2] 47)).alloc (.cells #[.slice none 0 0, .int .i64 0] 47)).heap.size (((w.alloc (.cells #[.slice a1 ns1.length c1, .int .i64 low1] 47)).alloc (.cells #[.slice a2 ns2.length c2, .int .i64 low2] 47)).alloc (.cells #[.slice none 0 0, .int .i64 0] 47)) wb).2.2.2.2
 have hBw : Below w.heap.size w wb := thru HB0.out hWB
 have hWz : Ws wb (.slice (some ⟨g, 0, none⟩) (n1 + 1) (n1 + 1)) zs := by
   have := hzr.ws hzs (by omega) (n1 + 1) (by omega)
   rw [hzl] at this; exact this
 have hTb := HT.out.later hBw
 have q0 : wb.cell? ⟨w.heap.size + 1 + 1, 0, none⟩ = some (.slice none 0 0) := cell_later hWB (by go_simp)
 have q1 : wb.cell? ⟨w.heap.size + 1 + 1, 1, none⟩ = some (.int .i64 0) := cell_later hWB (by go_simp)
 have q2 : wb.frozen? ⟨w.heap.size + 1 + 1, 0, none⟩ = false := frozen_later hWB (by go_simp) (by simp)
 have q3 : wb.frozen? ⟨w.heap.size + 1 + 1, 1, none⟩ = false := frozen_later hWB (by go_simp) (by simp)
 have hsz : w.heap.size + 1 + 1 < wb.heap.size := by have := hWB.size; simp at this; omega
 have HZ : Hid _ := hzv
 clear hgr hzr hzs hrow hrow1 hrow2 hbz hby hzv hWB hh2 hmx
 go_wp2_with fail
 refine (own_any _ zs L _ hWz hTb (by omega) (by omega)).mono ?_
 rintro e w5 ⟨s5, ns5, low5, rfl, hws5, ho5, ht5, hlo5, hb5⟩
 obtain ⟨a5, c5, rfl, hc5, hx5⟩ := hws5.shape
 have p0 := cell_later hb5 q0
 have p1 := cell_later hb5 q1
 have p2 := frozen_later hb5 q2 hsz
 have p3 := frozen_later hb5 q3 hsz
 have HX5 : Hid _ := hx5
 have HLO5 : Hid (-200000000 ≤ low5 ∧ low5 ≤ 200000000) := hlo5
 clear hx5 q0 q1 q2 q3 hlo5
 go_wp2
 refine bodyPost_ret (v := .agg #[.slice a5 ns5.length c5, .int .i64 low5]) (by simp [results, Tryz.results159, go_sem, p0, p1]) rfl ?_
 have hws6 := (hws5.set p0 (by intro n; simp) (.slice a5 ns5.length c5)).set (cell_ne p1 p0 (by simp) (.slice a5 ns5.length c5)) (by intro n; simp) (.int .i64 low5)
 refine ⟨_, ns5, low5, rfl, hws6, ho5, by rw [← HZ.out]; exact ht5, HLO5.out, ?_⟩
 exact ((thru hBw hb5).setCell (by simp; omega) _).setCell (by simp; omega) _
end
end Go.Proofs.YtocnkgfoffpbfaaGreatDoor
