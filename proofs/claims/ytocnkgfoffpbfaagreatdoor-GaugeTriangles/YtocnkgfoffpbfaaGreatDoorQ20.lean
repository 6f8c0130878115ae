/- Own texts, put together: Wi Wj Wk Wl Wm. -/
import Derived.Test.YtocnkgfoffpbfaaGreatDoorQ5
import Derived.Test.YtocnkgfoffpbfaaGreatDoorQ19
import Derived.Lib.SliceRun
/- The walk of joined: two magnitudes added, or the one taken off the other. -/
namespace Go.Proofs.YtocnkgfoffpbfaaGreatDoor
open Go.RowKit
attribute [local go_sem ↓] Go.wp_at_zero Go.wp_at_succ

theorem keep4 {w W W' : World} {p1 p2 p3 p4 : Addr} {x1 x2 x3 x4 : Value} (h : W.cell? p1 = some x1 ∧ W.cell? p2 = some x2 ∧ W.cell? p3 = some x3 ∧ W.cell? p4 = some x4 ∧ Below w.heap.size w W) (hb : Below W.heap.size W W') :
   W'.cell? p1 = some x1 ∧ W'.cell? p2 = some x2 ∧ W'.cell? p3 = some x3 ∧ W'.cell? p4 = some x4 ∧ Below w.heap.size w W' :=
 ⟨cell_later hb h.1, cell_later hb h.2.1, cell_later hb h.2.2.1, cell_later hb h.2.2.2.1, h.2.2.2.2.trans (hb.mono h.2.2.2.2.size)⟩

theorem keep4d {w W : World} {p1 p2 p3 p4 : Addr} {x1 x2 x3 x4 : Value} (h : W.cell? p1 = some x1 ∧ W.cell? p2 = some x2 ∧ W.cell? p3 = some x3 ∧ W.cell? p4 = some x4 ∧ Below w.heap.size w W) :
   W.drew.cell? p1 = some x1 ∧ W.drew.cell? p2 = some x2 ∧ W.drew.cell? p3 = some x3 ∧ W.drew.cell? p4 = some x4 ∧ Below w.heap.size w W.drew :=
 ⟨h.1, h.2.1, h.2.2.1, h.2.2.2.1, h.2.2.2.2.drew⟩

theorem thru {w W0 W : World} (h : Below w.heap.size w W0) (h' : Below W0.heap.size W0 W) : Below w.heap.size w W := h.trans (h'.mono h.size)

theorem keep4g {w W W' : World} {g : Nat} {p1 p2 p3 p4 : Addr} {x1 x2 x3 x4 : Value} (h : W.cell? p1 = some x1 ∧ W.cell? p2 = some x2 ∧ W.cell? p3 = some x3 ∧ W.cell? p4 = some x4 ∧ Below w.heap.size w W) (hg : W.grownBy W' (some g))
   (q1 : p1.block < g) (q2 : p2.block < g) (q3 : p3.block < g) (q4 : p4.block < g) (q : w.heap.size ≤ g) :
   W'.cell? p1 = some x1 ∧ W'.cell? p2 = some x2 ∧ W'.cell? p3 = some x3 ∧ W'.cell? p4 = some x4 ∧ Below w.heap.size w W' :=
 ⟨hg.cell h.1 (by simp; omega), hg.cell h.2.1 (by simp; omega), hg.cell h.2.2.1 (by simp; omega), hg.cell h.2.2.2.1 (by simp; omega), h.2.2.2.2.grown hg h.2.2.2.2.size (fun k hk => by simp at hk; omega)⟩

theorem bringX {fid : Nat} {f : Nat → Nat → Nat} {pre : Nat → Nat → Nat → Prop} (hop : BringOK fid f pre) {A C n1 n2 g g2 : Nat} {w : World} (hgg : g2 ≠ g) (h2 : Row w 86 g2 (wds (digs C (n2 + 1)))) (h1 : Row w 86 g (wds (digs A (n1 + 1)))) (hn : n1 ≤ 10000) (hn2 : n2 ≤ n1)
   (hp : pre A C (n1 + 1)) (hA : A < 2 ^ (64 * (n1 + 1))) (hC : C < 2 ^ (64 * (n2 + 1))) :
   Calls Tryz.prog 162 #[.slice (some ⟨g2, 0, none⟩) (n2 + 1) (n2 + 1), .slice (some ⟨g, 0, none⟩) (n1 + 1) (n1 + 1), .func (.func fid) #[] #[]] w fun e w' => e = .returned (.tuple #[]) ∧
     ∃ zs : List Nat, Small zs ∧ zs.length = n1 + 1 ∧ val zs = f A C ∧ Row w' 86 g (wds zs) ∧ w.grownBy w' (some g) := by
 have h := hop (digs C (n2 + 1)) (digs A (n1 + 1)) g g2 w hgg h2 (digs_small _ _) (digs_small _ _) h1 (by rw [digs_length]; omega) (by rw [digs_length, digs_length]; omega) (by rw [val_digs_of hA, val_digs_of hC, digs_length]; exact hp)
 rw [digs_length, digs_length, val_digs_of hA, val_digs_of hC] at h
 exact h

theorem sz4 {w W : World} {p1 p2 p3 p4 : Addr} {x1 x2 x3 x4 : Value} (h : W.cell? p1 = some x1 ∧ W.cell? p2 = some x2 ∧ W.cell? p3 = some x3 ∧ W.cell? p4 = some x4 ∧ Below w.heap.size w W) : w.heap.size ≤ W.heap.size := h.2.2.2.2.size

set_option maxHeartbeats 2000000 in
theorem joined_walk (fid : Nat) (f : Nat → Nat → Nat) (pre : Nat → Nat → Nat → Prop) (hop : BringOK fid f pre) (a1 a2 : Option Addr) (c1 c2 : Nat) (ns1 ns2 : List Nat) (low1 low2 L : Int) (k1 k2 n1 n2 r1 r2 : Nat) (w : World)
   (h1 : Ws w (.slice a1 ns1.length c1) ns1) (h2 : Ws w (.slice a2 ns2.length c2) ns2) (hT : Tab w) (o1 : OwnF ns1 low1) (o2 : OwnF ns2 low2)
   (hL : min low1 low2 = L) (hk1 : low1 = L + (k1 : Nat)) (hk2 : low2 = L + (k2 : Nat)) (b1 : -70000 ≤ L) (b2 : low1 ≤ 70000) (b3 : low2 ≤ 70000)
   (hH : max (hiB ns1 low1) (hiB ns2 low2) + 1 = L + (64 * n1 + r1 : Nat)) (hH2 : hiB ns2 low2 = L + (64 * n2 + r2 : Nat)) (hr1 : r1 < 64) (hr2 : r2 < 64) (hn1 : n1 ≤ 10000) (hn2 : n2 ≤ n1)
   (hpre : pre (val ns1 * 2 ^ k1) (val ns2 * 2 ^ k2) (n1 + 1)) (hv1 : val ns1 * 2 ^ k1 < 2 ^ (64 * (n1 + 1))) (hv2 : val ns2 * 2 ^ k2 < 2 ^ (64 * (n2 + 1))) :
   Calls Tryz.prog 159 #[.agg #[.slice a1 ns1.length c1, .int .i64 low1], .agg #[.slice a2 ns2.length c2, .int .i64 low2], .func (.func fid) #[] #[]] w fun e w' => Made w w' (f (val ns1 * 2 ^ k1) (val ns2 * 2 ^ k2)) L e := by
 have HOP : Hid (BringOK fid f pre) := hop
 have HH : Hid _ := hH
 have HH2 : Hid _ := hH2
 have HK1 : Hid _ := hk1
 have HK2 : Hid _ := hk2
 have HV1 : Hid _ := hv1
 have HV2 : Hid _ := hv2
 have HPRE : Hid _ := hpre
 have HT : Hid (Tab w) := hT
 have HS1 : Hid (spanL ns1 low1 L (n1 + 1) = digs (val ns1 * 2 ^ k1) (n1 + 1)) := by rw [hk1]; exact spanL_down _ _ _ _
 have HS2 : Hid (spanL ns2 low2 L (n2 + 1) = digs (val ns2 * 2 ^ k2) (n2 + 1)) := by rw [hk2]; exact spanL_down _ _ _ _
 have lo1 : -70000 ≤ low1 := by omega
 have lo2 : -70000 ≤ low2 := by omega
 have hLle : L ≤ 70000 := by omega
 have hmx : IntKind.i64.wrap (max (hiB ns1 low1) (hiB ns2 low2) + 1) = L + (64 * n1 + r1 : Nat) := by rw [hH]; exact wrapI _ (by omega) (by omega)
 have HB0 : Hid (Below w.heap.size w (((w.alloc (.cells #[.slice a1 ns1.length c1, .int .i64 low1] 47)).alloc (.cells #[.slice a2 ns2.length c2, .int .i64 low2] 47)).alloc (.cells #[.slice none 0 0, .int .i64 0] 47))) := (((Below.refl _ _).alloc (Nat.le_refl _) _).alloc (by simp) _).alloc (by simp; omega) _
 clear hop hk1 hk2 hv1 hv2 hpre hH hH2 hT
 go_enter Tryz.func159, Tryz.ntmps159
 go_wp2
 go_region_held3 (fun W => W.cell? ⟨w.heap.size, 0, none⟩ = some (.slice a1 ns1.length c1) ∧ W.cell? ⟨w.heap.size, 1, none⟩ = some (.int .i64 low1) ∧ W.cell? ⟨w.heap.size + 1, 0, none⟩ = some (.slice a2 ns2.length c2) ∧ W.cell? ⟨w.heap.size + 1, 1, none⟩ = some (.int .i64 low2) ∧ Below (((w.alloc (.cells #[.slice a1 ns1.length c1, .int .i64 low1] 47)).alloc (.cells #[.slice a2 ns2.length c2, .int .i64 low2] 47)).alloc (.cells #[.slice none 0 0, .int .i64 0] 47)).heap.size (((w.alloc (.cells #[.slice a1 ns1.length c1, .int .i64 low1] 47)).alloc (.cells #[.slice a2 ns2.length c2, .int .i64 low2] 47)).alloc (.cells #[.slice none 0 0, .int .i64 0] 47)) W)
   (first
     | assumption
     | exact ⟨by go_simp, by go_simp, by go_simp, by go_simp, (Below.refl _ _).drew⟩
     | exact keep4 (by assumption) (by assumption))
   (first
     | (go_at_call 109; refine (lowest_any _ _ _ _ _).mono ?_; rintro e wx ⟨rfl, hbx⟩))
 go_wp2
 go_region_held3 (fun W => W.cell? ⟨w.heap.size, 0, none⟩ = some (.slice a1 ns1.length c1) ∧ W.cell? ⟨w.heap.size, 1, none⟩ = some (.int .i64 low1) ∧ W.cell? ⟨w.heap.size + 1, 0, none⟩ = some (.slice a2 ns2.length c2) ∧ W.cell? ⟨w.heap.size + 1, 1, none⟩ = some (.int .i64 low2) ∧ Below (((w.alloc (.cells #[.slice a1 ns1.length c1, .int .i64 low1] 47)).alloc (.cells #[.slice a2 ns2.length c2, .int .i64 low2] 47)).alloc (.cells #[.slice none 0 0, .int .i64 0] 47)).heap.size (((w.alloc (.cells #[.slice a1 ns1.length c1, .int .i64 low1] 47)).alloc (.cells #[.slice a2 ns2.length c2, .int .i64 low2] 47)).alloc (.cells #[.slice none 0 0, .int .i64 0] 47)) W)
   (first
     | assumption
     | exact keep4d (by assumption)
     | exact keep4 (by assumption) (by assumption))
   (first
     | (go_at_call_of 103 low1; refine (highest_any _ ns1 _ _ ?_ (own_topped o1) (by omega) (by omega)).mono ?_; exact h1.later (thru HB0.out ((by assumption : _ ∧ _ ∧ _ ∧ _ ∧ _).2.2.2.2)) (Nat.le_refl _); rintro e wx ⟨rfl, hbx⟩)
     | (go_at_call_of 103 low2; refine (highest_any _ ns2 _ _ ?_ (own_topped o2) (by omega) (by omega)).mono ?_; exact h2.later (thru HB0.out ((by assumption : _ ∧ _ ∧ _ ∧ _ ∧ _).2.2.2.2)) (Nat.le_refl _); rintro e wx ⟨rfl, hbx⟩)
     | (go_at_call 116; refine (span_any _ ns1 _ _ n1 r1 _ ?_ (by omega) (by omega) (by omega) (by omega) (by omega) hr1).mono ?_; exact h1.later (thru HB0.out ((by assumption : _ ∧ _ ∧ _ ∧ _ ∧ _).2.2.2.2)) (Nat.le_refl _); rw [HS1.out]; rintro e wx ⟨g, hg, rfl, hrow, hbx⟩; have hgW := Nat.le_trans (sz4 (by assumption)) hg))
 have hgN : w.heap.size + 3 ≤ g := by simpa using hgW
 clear hgW hbx
 have hh2 : hiB ns2 low2 = L + (64 * n2 + r2 : Nat) := HH2.out
 go_wp2
 go_region_held3 (fun W => W.cell? ⟨w.heap.size, 0, none⟩ = some (.slice a1 ns1.length c1) ∧ W.cell? ⟨w.heap.size, 1, none⟩ = some (.int .i64 low1) ∧ W.cell? ⟨w.heap.size + 1, 0, none⟩ = some (.slice a2 ns2.length c2) ∧ W.cell? ⟨w.heap.size + 1, 1, none⟩ = some (.int .i64 low2) ∧ Below (((w.alloc (.cells #[.slice a1 ns1.length c1, .int .i64 low1] 47)).alloc (.cells #[.slice a2 ns2.length c2, .int .i64 low2] 47)).alloc (.cells #[.slice none 0 0, .int .i64 0] 47)).heap.size (((w.alloc (.cells #[.slice a1 ns1.length c1, .int .i64 low1] 47)).alloc (.cells #[.slice a2 ns2.length c2, .int .i64 low2] 47)).alloc (.cells #[.slice none 0 0, .int .i64 0] 47)) W)
   (first
     | assumption
     | exact keep4d (by assumption)
     | exact keep4 (by assumption) (by assumption)
     | exact keep4g (by assumption) (by assumption) (by simp; omega) (by simp; omega) (by simp; omega) (by simp; omega) (by simp; omega))
   (first
     | (go_at_call 103; refine (highest_any _ ns2 _ _ ?_ (own_topped o2) (by omega) (by omega)).mono ?_; exact h2.later (thru HB0.out ((by assumption : _ ∧ _ ∧ _ ∧ _ ∧ _).2.2.2.2)) (Nat.le_refl _); rw [hh2]; rintro e wy ⟨rfl, hby⟩)
     | (go_at_call 116; refine (span_any _ ns2 _ _ n2 r2 _ ?_ (by omega) (by omega) (by omega) (by omega) (by omega) hr2).mono ?_; exact h2.later (thru HB0.out ((by assumption : _ ∧ _ ∧ _ ∧ _ ∧ _).2.2.2.2)) (Nat.le_refl _); rw [HS2.out]; rintro e wz ⟨g2, hg2, rfl, hrow2, hbz⟩; have hrow1 := (hrow.drew.below hby hrow.lt).below hbz (Nat.lt_of_lt_of_le hrow.lt hby.size); have hgg : g2 ≠ g := (by have := hrow.lt; have := hby.size; simp at this; omega))
     | (go_at_call 162; refine (bringX HOP.out hgg hrow2 hrow1 (by omega) (by omega) HPRE.out HV1.out HV2.out).mono ?_; rintro e wb ⟨rfl, zs, hzs, hzl, hzv, hzr, hgr⟩))
 have hWB : Below (((w.alloc (.cells #[.slice a1 ns1.length c1, .int .i64 low1] 47)).alloc (.cells #[.slice a2 ns2.length c2, .int .i64 low2] 47)).alloc (.cells #[.slice none 0 0, .int .i64 0] 47)).heap.size (((w.alloc (.cells #[.slice a1 ns1.length c1, .int .i64 low1] 47)).alloc (.cells #[.slice a2 ns2.length c2, .int .i64 low2] 47)).alloc (.cells #[.slice none 0 0, .int .i64 0] 47)) wb := (by assumption : _ ∧ _ ∧ _ ∧ _ ∧ Below (((w.alloc (.cells #[.slice a1 ns1.length c1, .int .i64 low1] 47)).alloc (.cells #[.slice a2 ns2.length c2, .int .i64 low2] 47)).alloc (.cells #[.slice none 0 0, .int .i64 0] 47)).heap.size (((w.alloc (.cells #[.slice a1 ns1.length c1, .int .i64 low1] 47)).alloc (.cells #[.slice a2 ns2.length c2, .int .i64 low2] 47)).alloc (.cells #[.slice none 0 0, .int .i64 0] 47)) wb).2.2.2.2
 have hBw : Below w.heap.size w wb := thru HB0.out hWB
 have hWz : Ws wb (.slice (some ⟨g, 0, none⟩) (n1 + 1) (n1 + 1)) zs := by
   have := hzr.ws hzs (by omega) (n1 + 1) (by omega)
   rw [hzl] at this; exact this
 have hTb := HT.out.later hBw
 have q0 : wb.cell? ⟨w.heap.size + 1 + 1, 0, none⟩ = some (.slice none 0 0) := cell_later hWB (by go_simp)
 have q1 : wb.cell? ⟨w.heap.size + 1 + 1, 1, none⟩ = some (.int .i64 0) := cell_later hWB (by go_simp)
 have q2 : wb.frozen? ⟨w.heap.size + 1 + 1, 0, none⟩ = false := frozen_later hWB (by go_simp) (by simp)
 have q3 : wb.frozen? ⟨w.heap.size + 1 + 1, 1, none⟩ = false := frozen_later hWB (by go_simp) (by simp)
 have hsz : w.heap.size + 1 + 1 < wb.heap.size := by have := hWB.size; simp at this; omega
 have HZ : Hid _ := hzv
 clear hgr hzr hzs hrow hrow1 hrow2 hbz hby hzv hWB hh2 hmx
 go_wp2_with fail
 refine (own_any _ zs L _ hWz hTb (by omega) (by omega)).mono ?_
 rintro e w5 ⟨s5, ns5, low5, rfl, hws5, ho5, ht5, hlo5, hb5⟩
 obtain ⟨a5, c5, rfl, hc5, hx5⟩ := hws5.shape
 have p0 := cell_later hb5 q0
 have p1 := cell_later hb5 q1
 have p2 := frozen_later hb5 q2 hsz
 have p3 := frozen_later hb5 q3 hsz
 have HX5 : Hid _ := hx5
 have HLO5 : Hid (-200000000 ≤ low5 ∧ low5 ≤ 200000000) := hlo5
 clear hx5 q0 q1 q2 q3 hlo5
 go_wp2
 refine bodyPost_ret (v := .agg #[.slice a5 ns5.length c5, .int .i64 low5]) (by simp [results, Tryz.results159, go_sem, p0, p1]) rfl ?_
 have hws6 := (hws5.set p0 (by intro n; simp) (.slice a5 ns5.length c5)).set (cell_ne p1 p0 (by simp) (.slice a5 ns5.length c5)) (by intro n; simp) (.int .i64 low5)
 refine ⟨_, ns5, low5, rfl, hws6, ho5, by rw [← HZ.out]; exact ht5, HLO5.out, ?_⟩
 exact ((thru hBw hb5).setCell (by simp; omega) _).setCell (by simp; omega) _

end Go.Proofs.YtocnkgfoffpbfaaGreatDoor

/- The walk of bringTimes: a number times a word is added to words. -/
namespace Go.Proofs.YtocnkgfoffpbfaaGreatDoor
open Go.RowKit

theorem mulN (x y : Nat) (w : World) (hx : x < 18446744073709551616) (hy : y < 18446744073709551616) :
   Calls Tryz.prog 152 #[.int .u64 (x : Nat), .int .u64 (y : Nat)] w fun e w' => e = .returned (.tuple #[.int .u64 (x * y / 18446744073709551616 : Nat), .int .u64 (x * y % 18446744073709551616 : Nat)]) ∧ w' = w := by
 refine (mul64_any x y w (by omega) (by omega) (by omega) (by omega)).mono ?_
 rintro e w' ⟨rfl, rfl⟩
 refine ⟨?_, rfl⟩
 rw [Int.natCast_ediv, Int.natCast_emod, Int.natCast_mul]
 rfl

def btRow (zs ps : List Nat) (i k : Nat) : List Nat := zs.take i ++ ps ++ zs.drop (i + k)

theorem btRow_length (zs ps : List Nat) (i k : Nat) (hp : ps.length = k) (h : i + k ≤ zs.length) : (btRow zs ps i k).length = zs.length := by
 simp [btRow]; omega

theorem btRow_getD (zs ps : List Nat) (i k : Nat) (hp : ps.length = k) (h : i + k < zs.length) : (btRow zs ps i k).getD (i + k) 0 = zs.getD (i + k) 0 := by
 unfold btRow
 rw [List.getD, List.getElem?_append_right (by simp; omega)]
 simp only [List.length_append, List.length_take, hp, Nat.min_eq_left (show i ≤ zs.length by omega), Nat.sub_self, List.getElem?_drop, Nat.add_zero]
 rfl

theorem btRow_set (zs ps : List Nat) (i k v : Nat) (hp : ps.length = k) (h : i + k < zs.length) : (wds (btRow zs ps i k)).set (i + k) (.int .u64 (v : Nat)) = wds (btRow zs (ps ++ [v]) i (k + 1)) := by
 unfold wds btRow
 rw [← List.map_set, List.set_append_right _ _ (by simp; omega)]
 congr 1
 have e : i + k - (List.take i zs ++ ps).length = 0 := by simp; omega
 rw [e, ← List.append_assoc, List.append_assoc (List.take i zs ++ ps)]
 congr 1
 rw [List.drop_eq_getElem_cons h]
 rfl

theorem bt_step (p v c x y wv a b T : Nat) (hT : T = y * wv + c + x) (h : v + p * c = a + b * wv) : v + p * (T % 18446744073709551616) + p * 18446744073709551616 * (T / 18446744073709551616) = a + p * x + (b + p * y) * wv := by
 have h2 := Nat.mod_add_div T 18446744073709551616
 generalize T % 18446744073709551616 = s at *
 generalize T / 18446744073709551616 = d at *
 subst hT
 grind

theorem bt_words (x y wv c : Nat) (hx : x < 18446744073709551616) (hy : y < 18446744073709551616) (hw : wv < 18446744073709551616) (hc : c < 18446744073709551616) :
   (x + (y * wv % 18446744073709551616 + c) % 18446744073709551616) % 18446744073709551616 = (y * wv + c + x) % 18446744073709551616 ∧
   y * wv / 18446744073709551616 + (y * wv % 18446744073709551616 + c) / 18446744073709551616 < 18446744073709551616 ∧
   y * wv / 18446744073709551616 + (y * wv % 18446744073709551616 + c) / 18446744073709551616 + (x + (y * wv % 18446744073709551616 + c) % 18446744073709551616) / 18446744073709551616 = (y * wv + c + x) / 18446744073709551616 ∧
   (y * wv + c + x) / 18446744073709551616 < 18446744073709551616 := by
 have h : y * wv ≤ 18446744073709551615 * 18446744073709551615 := Nat.mul_le_mul (by omega) (by omega)
 generalize y * wv = q at *
 omega

set_option maxHeartbeats 2000000 in
theorem bt_walk (sm : Value) (more zs : List Nat) (g i wv : Nat) (w0 w : World) (h0 : Ws w0 sm more) (hB : Below w0.heap.size w0 w) (hg : w0.heap.size ≤ g) (hr : Row w 86 g (wds zs)) (hz : Small zs) (hwv : wv < 18446744073709551616)
   (hi : i + more.length < zs.length) (hl : zs.length ≤ 1000000) :
   Calls Tryz.prog 139 #[sm, .int .u64 (wv : Nat), .slice (some ⟨g, i, none⟩) (zs.length - i) (zs.length - i)] w fun e w' => e = .returned (.tuple #[]) ∧
     ∃ (ps : List Nat), ps.length = more.length + 1 ∧ Small ps ∧ val ps = val ((zs.drop i).take more.length) + val more * wv ∧ Row w' 86 g (wds (btRow zs ps i (more.length + 1))) ∧ w.grownBy w' (some g) := by
 have hms : Small more := h0.small
 obtain ⟨a, cap, rfl, hcap, hc⟩ := h0.shape
 have hcm : ∀ W, w.grownBy W (some g) → ∀ k, k < more.length → ∃ b off, a = some ⟨b, off, none⟩ ∧ W.cell? ⟨b, off + k, none⟩ = some (.int .u64 (more.getD k 0 : Nat)) := by
   intro W hW k hk
   rcases hc with hc | ⟨b, off, ha, hb, hc⟩
   · rw [hc] at hk; simp at hk
   · exact ⟨b, off, ha, hW.cell (cell_later hB (hc k hk)) (by simp; omega)⟩
 have hl' : (zs.length : Int) ≤ 1000000 := by omega
 have hml : (more.length : Int) ≤ 1000000 := by omega
 generalize hN : zs.length - i = N
 have HN : Hid (zs.length - i = N) := hN
 have hNl : (more.length : Int) < (N : Int) := by omega
 have hNs : (N : Int) ≤ 1000000 := by omega
 clear hc hN
 go_enter Tryz.func139, Tryz.ntmps139
 go_wp2
 go_loopw [6, 14] (fun cr j wr => ∃ (k c : Nat) (ps : List Nat), k ≤ more.length ∧ c < 18446744073709551616 ∧ j = .int .i64 k ∧ cr = .int .u64 c ∧ ps.length = k ∧ Small ps ∧ val ps + 2 ^ (64 * k) * c = val ((zs.drop i).take k) + val (more.take k) * wv ∧ Row wr 86 g (wds (btRow zs ps i k)) ∧ w.grownBy wr (some g))
   (fun _ j _ => more.length - (intOf j).toNat)
 case atStart => exact ⟨0, 0, [], Nat.zero_le _, by omega, rfl, rfl, rfl, fun n hn => by simp at hn, by simp [val], by simpa [btRow] using hr, World.grownBy.refl _ _⟩
 case round =>
   obtain ⟨k, c, ps, hk, hcb, rfl, rfl, hps, hsm, hv, hrk, hgr⟩ := hrel
   by_cases hlt : k < more.length
   · obtain ⟨b, off, rfl, hcell⟩ := hcm wr hgr k hlt
     have hik : i + k < zs.length := by omega
     have hxk : wr.cell? ⟨g, i + k, none⟩ = some (.int .u64 (zs.getD (i + k) 0 : Nat)) := by
       rw [hrk.cell (i + k) (by rw [wds_length, btRow_length _ _ _ _ hps (by omega)]; exact hik), wds_getD _ _ (by rw [btRow_length _ _ _ _ hps (by omega)]; exact hik), btRow_getD _ _ _ _ hps hik]
     have hfk := hrk.frozen (i + k)
     have hx := small_getD hz (i + k)
     have hy := small_getD hms k
     obtain ⟨m1, m2, m3, m4⟩ := bt_words (zs.getD (i + k) 0) (more.getD k 0) wv c hx hy hwv hcb
     have HNV : Hid (val (ps ++ [(more.getD k 0 * wv + c + zs.getD (i + k) 0) % 18446744073709551616]) + 2 ^ (64 * (k + 1)) * ((more.getD k 0 * wv + c + zs.getD (i + k) 0) / 18446744073709551616) = val ((zs.drop i).take (k + 1)) + val (more.take (k + 1)) * wv) := by
       rw [val_snoc, hps, val_take_succ, val_take_succ, getD_drop, Nat.mul_add, Nat.mul_one, Nat.pow_add, show (2 : Nat) ^ 64 = 18446744073709551616 from rfl]
       exact bt_step _ _ _ _ _ _ _ _ _ rfl hv
     have HNR : Hid (Row (wr.setCell ⟨g, i + k, none⟩ (.int .u64 ((more.getD k 0 * wv + c + zs.getD (i + k) 0) % 18446744073709551616 : Nat))) 86 g (wds (btRow zs (ps ++ [(more.getD k 0 * wv + c + zs.getD (i + k) 0) % 18446744073709551616]) i (k + 1)))) := by
       rw [← btRow_set zs ps i k _ hps hik]; exact hrk.set (i + k) _
     have HNS : Hid (Small (ps ++ [(more.getD k 0 * wv + c + zs.getD (i + k) 0) % 18446744073709551616])) := small_app hsm (fun n hn => by simp at hn; rw [hn]; exact Nat.mod_lt _ (by omega))
     have HNC : Hid ((more.getD k 0 * wv + c + zs.getD (i + k) 0) / 18446744073709551616 < 18446744073709551616) := m4
     have hmul := fun W => mulN (more.getD k 0) wv W hy hwv
     have ha1 := fun W => isAdd.run (more.getD k 0 * wv % 18446744073709551616) c 0 W (by omega)
     have ha2 := fun W => isAdd.run (zs.getD (i + k) 0) ((more.getD k 0 * wv % 18446744073709551616 + c) % 18446744073709551616) 0 W (by omega)
     simp only [Nat.add_zero] at ha1 ha2
     have hw1 : IntKind.u64.wrap (((more.getD k 0 * wv / 18446744073709551616 : Nat) : Int) + ((more.getD k 0 * wv % 18446744073709551616 + c) / 18446744073709551616 : Nat)) = ((more.getD k 0 * wv / 18446744073709551616 + (more.getD k 0 * wv % 18446744073709551616 + c) / 18446744073709551616 : Nat) : Int) := by
       rw [IntKind.wrap_u64]; omega
     have hw2 : IntKind.u64.wrap (((more.getD k 0 * wv / 18446744073709551616 + (more.getD k 0 * wv % 18446744073709551616 + c) / 18446744073709551616 : Nat) : Int) + ((zs.getD (i + k) 0 + (more.getD k 0 * wv % 18446744073709551616 + c) % 18446744073709551616) / 18446744073709551616 : Nat)) = ((more.getD k 0 * wv + c + zs.getD (i + k) 0) / 18446744073709551616 : Nat) := by
       rw [← m3, IntKind.wrap_u64]; omega
     rw [m1] at ha2
     clear m3 m1 m2 m4
     generalize (more.getD k 0 * wv + c + zs.getD (i + k) 0) / 18446744073709551616 = cN at *
     generalize (more.getD k 0 * wv + c + zs.getD (i + k) 0) % 18446744073709551616 = sN at *
     generalize more.getD k 0 * wv / 18446744073709551616 + (more.getD k 0 * wv % 18446744073709551616 + c) / 18446744073709551616 = h1 at *
     generalize (zs.getD (i + k) 0 + (more.getD k 0 * wv % 18446744073709551616 + c) % 18446744073709551616) / 18446744073709551616 = c2 at *
     generalize (more.getD k 0 * wv % 18446744073709551616 + c) % 18446744073709551616 = s1 at *
     generalize (more.getD k 0 * wv % 18446744073709551616 + c) / 18446744073709551616 = c1 at *
     generalize more.getD k 0 * wv % 18446744073709551616 = lo at *
     generalize more.getD k 0 * wv / 18446744073709551616 = hi' at *
     generalize more.getD k 0 = y at *
     generalize zs.getD (i + k) 0 = x at *
     have ha1' : ∀ W, (callFunc 153 #[.int .u64 (lo : Nat), .int .u64 (c : Nat), .int .u64 0]).run Tryz.prog W = .ok (.value (.tuple #[.int .u64 (s1 : Nat), .int .u64 (c1 : Nat)])) W := ha1
     have ha2' : ∀ W, (callFunc 153 #[.int .u64 (x : Nat), .int .u64 (s1 : Nat), .int .u64 0]).run Tryz.prog W = .ok (.value (.tuple #[.int .u64 (sN : Nat), .int .u64 (c2 : Nat)])) W := ha2
     clear ha1 ha2
     have HPS : Hid (ps.length = k) := hps
     have HGR : Hid _ := hgr
     have HMUL : Hid _ := hmul
     have hkN : (k : Int) < (N : Int) := by omega
     have hkm : (k : Int) < (more.length : Int) := by omega
     clear hps hgr hmul hv hrk hsm hcm hr hz hms h0
     go_wp2_with fail
     refine (HMUL.out _).mono ?_
     rintro e w1 ⟨rfl, rfl⟩
     go_wp2
     exact ⟨⟨k + 1, cN, ps ++ [sN], by omega, HNC.out, by go_num, rfl, by simp [HPS.out], HNS.out, HNV.out, HNR.out, grown_set HGR.out _ _⟩, by simp [intOf]; omega⟩
   · have hkm : k = more.length := by omega
     subst hkm
     have hik : i + more.length < zs.length := hi
     have hxk : ∃ v, wr.cell? ⟨g, i + more.length, none⟩ = some v := ⟨_, hrk.cell (i + more.length) (by rw [wds_length, btRow_length _ _ _ _ hps (by omega)]; exact hik)⟩
     obtain ⟨v0, hxk⟩ := hxk
     have hfk := hrk.frozen (i + more.length)
     have HNR : Hid (Row (wr.setCell ⟨g, i + more.length, none⟩ (.int .u64 (c : Nat))) 86 g (wds (btRow zs (ps ++ [c]) i (more.length + 1)))) := by
       rw [← btRow_set zs ps i more.length _ hps hik]; exact hrk.set (i + more.length) _
     have HNS : Hid (Small (ps ++ [c])) := small_app hsm (fun n hn => by simp at hn; rw [hn]; exact hcb)
     have HNV : Hid (val (ps ++ [c]) = val ((zs.drop i).take more.length) + val more * wv) := by
       rw [val_snoc, hps, hv, List.take_of_length_le (Nat.le_refl _)]; exact rfl
     have HPS : Hid (ps.length = more.length) := hps
     have HGR : Hid _ := hgr
     clear hps hgr hv hrk hsm hcm hr hz hms h0
     go_wp2
     go_end0
     exact ⟨rfl, ps ++ [c], by simp [HPS.out], HNS.out, HNV.out, HNR.out, grown_set HGR.out _ _⟩

end Go.Proofs.YtocnkgfoffpbfaaGreatDoor

/- The walk of times: the product of two magnitudes. -/
namespace Go.Proofs.YtocnkgfoffpbfaaGreatDoor
open Go.RowKit
attribute [local go_sem ↓] Go.wp_at_zero Go.wp_at_succ

theorem times_step (zs ps : List Nat) (k n B wv : Nat) (hl : k + n + 1 ≤ zs.length) (hp : ps.length = n + 1) (hz : ∀ j, k + n ≤ j → zs.getD j 0 = 0) (hv : val ps = val ((zs.drop k).take n) + B * wv) :
   val (btRow zs ps k (n + 1)) = val zs + 2 ^ (64 * k) * (B * wv) ∧ ∀ j, k + 1 + n ≤ j → (btRow zs ps k (n + 1)).getD j 0 = 0 := by
 have hd : val (zs.drop (k + (n + 1))) = 0 := val_zero fun j => by rw [getD_drop]; exact hz _ (by omega)
 have e1 : val zs = val (zs.take k) + 2 ^ (64 * k) * val ((zs.drop k).take n) := by
   rw [val_take_drop zs k (by omega), val_take (ns := zs.drop k) n (fun j hj => by rw [getD_drop]; exact hz _ (by omega))]
 refine ⟨?_, fun j hj => ?_⟩
 · unfold btRow
   rw [val_append, val_append, hd, hv, List.length_take, Nat.min_eq_left (by omega), e1]
   generalize 2 ^ (64 * k) = p
   grind
 · unfold btRow
   rw [List.getD, List.getElem?_append_right (by simp; omega)]
   have := hz (k + (n + 1) + (j - (List.take k zs ++ ps).length)) (by omega)
   rw [List.getD] at this
   rw [List.getElem?_drop]; exact this

theorem rep_getD (n j : Nat) : (List.replicate n (0 : Nat)).getD j 0 = 0 := by
 rw [List.getD, List.getElem?_replicate]; split <;> rfl

theorem rep_val (n : Nat) : val (List.replicate n 0) = 0 := val_zero (rep_getD n)

theorem small_bt {zs ps : List Nat} (h1 : Small zs) (h2 : Small ps) (i k : Nat) : Small (btRow zs ps i k) :=
 small_app (small_app (fun n hn => h1 n (List.mem_of_mem_take hn)) h2) (small_drop h1 _)

set_option maxHeartbeats 2000000 in
theorem times_walk (a1 a2 : Option Addr) (c1 c2 : Nat) (ns1 ns2 : List Nat) (low1 low2 : Int) (w : World)
   (h1 : Ws w (.slice a1 ns1.length c1) ns1) (h2 : Ws w (.slice a2 ns2.length c2) ns2) (hT : Tab w) (l1 : ns1.length ≤ 10000) (l2 : ns2.length ≤ 10000)
   (b1 : -70000 ≤ low1) (b2 : low1 ≤ 70000) (b3 : -70000 ≤ low2) (b4 : low2 ≤ 70000) :
   Calls Tryz.prog 117 #[.agg #[.slice a1 ns1.length c1, .int .i64 low1], .agg #[.slice a2 ns2.length c2, .int .i64 low2]] w fun e w' => Made w w' (val ns1 * val ns2) (low1 + low2) e := by
 obtain ⟨i0, hi, hz0, hz1, hz2⟩ := info_parts Tryz.info86'
 have HT : Hid (Tab w) := hT
 have HB0 : Hid (Below w.heap.size w (((w.alloc (.cells #[.slice a1 ns1.length c1, .int .i64 low1] 47)).alloc (.cells #[.slice a2 ns2.length c2, .int .i64 low2] 47)).alloc (.cells #[.slice none 0 0, .int .i64 0] 47))) := (((Below.refl _ _).alloc (Nat.le_refl _) _).alloc (by simp) _).alloc (by simp; omega) _
 have l1' : (ns1.length : Int) ≤ 10000 := by omega
 have l2' : (ns2.length : Int) ≤ 10000 := by omega
 clear hT
 go_enter Tryz.func117, Tryz.ntmps117
 go_wp2_with (at_make; refine wpList_make_full _ rfl _ _ 45 rfl w.heap.size 86 i0 (.int .u64 0) 1 Tryz.underlying45 hi hz0 hz1 _ _ _ _ (ns1.length + ns2.length) rfl rfl ?hL ?hC ?b2 ?b3 ?b4 ?_)
 case hL => omega
 case hC => omega
 case b2 => rw [hz2]; omega
 case b3 => unfold maxLen; omega
 case b4 => simp; omega
 intro w0 hown0 hgrow0
 have hrow := Row.of_make hown0
 have hbW : Below (((w.alloc (.cells #[.slice a1 ns1.length c1, .int .i64 low1] 47)).alloc (.cells #[.slice a2 ns2.length c2, .int .i64 low2] 47)).alloc (.cells #[.slice none 0 0, .int .i64 0] 47)).heap.size (((w.alloc (.cells #[.slice a1 ns1.length c1, .int .i64 low1] 47)).alloc (.cells #[.slice a2 ns2.length c2, .int .i64 low2] 47)).alloc (.cells #[.slice none 0 0, .int .i64 0] 47)) w0 := (Below.refl _ _).grown hgrow0 (Nat.le_refl _) (fun k hk => by cases hk)
 have hx0 : w0.cell? ⟨w.heap.size, 0, none⟩ = some (.slice a1 ns1.length c1) := cell_later hbW (by go_simp)
 have hx1 : w0.cell? ⟨w.heap.size, 1, none⟩ = some (.int .i64 low1) := cell_later hbW (by go_simp)
 have hx2 : w0.cell? ⟨w.heap.size + 1, 0, none⟩ = some (.slice a2 ns2.length c2) := cell_later hbW (by go_simp)
 have hx3 : w0.cell? ⟨w.heap.size + 1, 1, none⟩ = some (.int .i64 low2) := cell_later hbW (by go_simp)
 clear hown0 hgrow0 hz0 hz1 hz2 hi
 go_wp2
 generalize hg : w.heap.size + 1 + 1 + 1 = g at *
 have hgN : w.heap.size + 3 ≤ g := by omega
 clear hg
 go_loopw [19] (fun j wr => ∃ (k : Nat) (zs : List Nat), k ≤ ns1.length ∧ j = .int .i64 k ∧ zs.length = ns1.length + ns2.length ∧ Small zs ∧ val zs = val (ns1.take k) * val ns2 ∧ (∀ t, k + ns2.length ≤ t → zs.getD t 0 = 0) ∧ Row wr 86 g (wds zs) ∧ wr.cell? ⟨w.heap.size, 0, none⟩ = some (.slice a1 ns1.length c1) ∧ wr.cell? ⟨w.heap.size, 1, none⟩ = some (.int .i64 low1) ∧ wr.cell? ⟨w.heap.size + 1, 0, none⟩ = some (.slice a2 ns2.length c2) ∧ wr.cell? ⟨w.heap.size + 1, 1, none⟩ = some (.int .i64 low2) ∧ Below (((w.alloc (.cells #[.slice a1 ns1.length c1, .int .i64 low1] 47)).alloc (.cells #[.slice a2 ns2.length c2, .int .i64 low2] 47)).alloc (.cells #[.slice none 0 0, .int .i64 0] 47)).heap.size (((w.alloc (.cells #[.slice a1 ns1.length c1, .int .i64 low1] 47)).alloc (.cells #[.slice a2 ns2.length c2, .int .i64 low2] 47)).alloc (.cells #[.slice none 0 0, .int .i64 0] 47)) wr)
   (fun j _ => ns1.length - (intOf j).toNat)
 case atStart => exact ⟨0, List.replicate (ns1.length + ns2.length) 0, Nat.zero_le _, rfl, by simp, fun n hn => by rw [List.mem_replicate] at hn; omega, by rw [rep_val]; simp [val], fun t _ => rep_getD _ t, by simpa [wds] using hrow, hx0, hx1, hx2, hx3, hbW⟩
 case round =>
   obtain ⟨k, zs, hk, rfl, hzl, hzs, hzv, hzz, hrk, hy0, hy1, hy2, hy3, hbk⟩ := hrel
   clear hx0 hx1 hx2 hx3 hbW hrow
   by_cases hlt : k < ns1.length
   · have hW1 := h1.later (thru HB0.out hbk) (Nat.le_refl _)
     obtain ⟨b, off, rfl, hck⟩ : ∃ b off, a1 = some ⟨b, off, none⟩ ∧ wr.cell? ⟨b, off + k, none⟩ = some (.int .u64 (ns1.getD k 0 : Nat)) := by
       obtain ⟨a, cap, hs, _, hc⟩ := hW1.shape
       simp only [Value.slice.injEq] at hs
       obtain ⟨rfl, _, rfl⟩ := hs
       rcases hc with hc | ⟨b, off, ha, _, hc⟩
       · rw [hc] at hlt; simp at hlt
       · exact ⟨b, off, ha, hc k hlt⟩
     have hkl : (k : Int) < (ns1.length : Int) := by omega
     have hwk := small_getD hW1.small k
     have HNV : Hid (∀ ps : List Nat, ps.length = ns2.length + 1 → val ps = val ((zs.drop k).take ns2.length) + val ns2 * ns1.getD k 0 → val (btRow zs ps k (ns2.length + 1)) = val (ns1.take (k + 1)) * val ns2 ∧ ∀ t, k + 1 + ns2.length ≤ t → (btRow zs ps k (ns2.length + 1)).getD t 0 = 0) := fun ps hp hv => by
       have := times_step zs ps k ns2.length (val ns2) (ns1.getD k 0) (by omega) hp hzz hv
       refine ⟨?_, this.2⟩
       rw [this.1, hzv, val_take_succ]
       generalize 2 ^ (64 * k) = p
       grind
     have hbt := fun (W : World) (hW : Below (((w.alloc (.cells #[.slice (some ⟨b, off, none⟩) ns1.length c1, .int .i64 low1] 47)).alloc (.cells #[.slice a2 ns2.length c2, .int .i64 low2] 47)).alloc (.cells #[.slice none 0 0, .int .i64 0] 47)).heap.size (((w.alloc (.cells #[.slice (some ⟨b, off, none⟩) ns1.length c1, .int .i64 low1] 47)).alloc (.cells #[.slice a2 ns2.length c2, .int .i64 low2] 47)).alloc (.cells #[.slice none 0 0, .int .i64 0] 47)) W) (hR : Row W 86 g (wds zs)) => bt_walk _ ns2 zs g k (ns1.getD k 0) w W h2 (thru HB0.out hW) (by omega) hR hzs hwk (by omega) (by omega)
     rw [hzl] at hbt
     have HBT : Hid _ := hbt
     have HZL : Hid _ := hzl
     have HRK : Hid (Row wr 86 g (wds zs)) := hrk
     have HZS : Hid (Small zs) := hzs
     generalize ns1.getD k 0 = x at *
     have hs1 : ((k : Int)) ≤ ((ns1.length + ns2.length : Nat) : Int) := by omega
     have hs2 : ¬ (ns1.length + ns2.length = k) := by omega
     have hs3 : ((k : Int)) ≤ (ns1.length : Int) + (ns2.length : Int) := by omega
     clear hbt hzl hzs hzv hzz hrk hW1 h1
     go_wp2
     go_region_held3 (fun W => W.cell? ⟨w.heap.size, 0, none⟩ = some (.slice (some ⟨b, off, none⟩) ns1.length c1) ∧ W.cell? ⟨w.heap.size, 1, none⟩ = some (.int .i64 low1) ∧ W.cell? ⟨w.heap.size + 1, 0, none⟩ = some (.slice a2 ns2.length c2) ∧ W.cell? ⟨w.heap.size + 1, 1, none⟩ = some (.int .i64 low2) ∧ Below (((w.alloc (.cells #[.slice (some ⟨b, off, none⟩) ns1.length c1, .int .i64 low1] 47)).alloc (.cells #[.slice a2 ns2.length c2, .int .i64 low2] 47)).alloc (.cells #[.slice none 0 0, .int .i64 0] 47)).heap.size (((w.alloc (.cells #[.slice (some ⟨b, off, none⟩) ns1.length c1, .int .i64 low1] 47)).alloc (.cells #[.slice a2 ns2.length c2, .int .i64 low2] 47)).alloc (.cells #[.slice none 0 0, .int .i64 0] 47)) W)
       (first
         | assumption
         | exact ⟨hy0, hy1, hy2, hy3, hbk.drew⟩
         | exact keep4g (by assumption) (by assumption) (by simp; omega) (by simp; omega) (by simp; omega) (by simp; omega) (by simp; omega))
       (first
         | (go_at_call 139; refine (HBT.out _ hbk.drew HRK.out).mono ?_; rintro e wy ⟨rfl, ps, hpl, hps, hpv, hpr, hgr⟩))
     have hh := (by assumption : wy.cell? ⟨w.heap.size, 0, none⟩ = _ ∧ wy.cell? _ = _ ∧ wy.cell? _ = _ ∧ wy.cell? _ = _ ∧ Below _ _ wy)
     have HH : Hid _ := hh
     have hnv := HNV.out ps hpl hpv
     have HN1 : Hid _ := hnv.1
     have HN2 : Hid _ := hnv.2
     have HPL : Hid _ := hpl
     have HPS : Hid _ := hps
     have HPR : Hid _ := hpr
     clear hh hnv hpl hps hpr hpv hgr
     go_wp2
     exact ⟨⟨k + 1, btRow zs ps k (ns2.length + 1), by omega, by go_num, by rw [btRow_length _ _ _ _ HPL.out (by have := HZL.out; omega)]; exact HZL.out, small_bt HZS.out HPS.out _ _, HN1.out, HN2.out, HPR.out, HH.out.1, HH.out.2.1, HH.out.2.2.1, HH.out.2.2.2.1, HH.out.2.2.2.2⟩, by simp [intOf]; omega⟩
   · have hkn : k = ns1.length := by omega
     subst hkn
     have hge : ¬ ((ns1.length : Int) < (ns1.length : Int)) := by omega
     have hBw : Below w.heap.size w wr := thru HB0.out hbk
     have hWz : Ws wr (.slice (some ⟨g, 0, none⟩) (ns1.length + ns2.length) (ns1.length + ns2.length)) zs := by
       have := hrk.ws hzs (by omega) (ns1.length + ns2.length) (by omega)
       rw [hzl] at this; exact this
     have hTb := HT.out.later hBw
     have q0 : wr.cell? ⟨w.heap.size + 1 + 1, 0, none⟩ = some (.slice none 0 0) := cell_later hbk (by go_simp)
     have q1 : wr.cell? ⟨w.heap.size + 1 + 1, 1, none⟩ = some (.int .i64 0) := cell_later hbk (by go_simp)
     have q2 : wr.frozen? ⟨w.heap.size + 1 + 1, 0, none⟩ = false := frozen_later hbk (by go_simp) (by simp)
     have q3 : wr.frozen? ⟨w.heap.size + 1 + 1, 1, none⟩ = false := frozen_later hbk (by go_simp) (by simp)
     have hsz : w.heap.size + 1 + 1 < wr.heap.size := by have := hbk.size; simp at this; omega
     have HZ : Hid (val zs = val ns1 * val ns2) := by rw [hzv, List.take_of_length_le (Nat.le_refl _)]; exact rfl
     have HWZ : Hid _ := hWz
     have HTB : Hid (Tab wr) := hTb
     have HBW : Hid _ := hBw
     clear hzl hzs hzv hzz hrk hbk h1 h2 hWz hTb hBw
     go_wp2_with fail
     refine (own_any _ zs _ _ HWZ.out HTB.out (by omega) (by omega)).mono ?_
     rintro e w5 ⟨s5, ns5, low5, rfl, hws5, ho5, ht5, hlo5, hb5⟩
     obtain ⟨a5, c5, rfl, hc5, hx5⟩ := hws5.shape
     have p0 := cell_later hb5 q0
     have p1 := cell_later hb5 q1
     have p2 := frozen_later hb5 q2 hsz
     have p3 := frozen_later hb5 q3 hsz
     have HX5 : Hid _ := hx5
     have HLO5 : Hid (-200000000 ≤ low5 ∧ low5 ≤ 200000000) := hlo5
     clear hx5 q0 q1 q2 q3 hlo5
     go_wp2
     refine bodyPost_ret (v := .agg #[.slice a5 ns5.length c5, .int .i64 low5]) (by simp [results, Tryz.results117, go_sem, p0, p1]) rfl ?_
     have hws6 := (hws5.set p0 (by intro n; simp) (.slice a5 ns5.length c5)).set (cell_ne p1 p0 (by simp) (.slice a5 ns5.length c5)) (by intro n; simp) (.int .i64 low5)
     refine ⟨_, ns5, low5, rfl, hws6, ho5, by rw [← HZ.out]; exact ht5, HLO5.out, ?_⟩
     exact ((thru HBW.out hb5).setCell (by simp; omega) _).setCell (by simp; omega) _

end Go.Proofs.YtocnkgfoffpbfaaGreatDoor

/- The walks of slices.Clone and of moved: a number's words copied, its lowest bit moved. -/
namespace Go.Proofs.YtocnkgfoffpbfaaGreatDoor
open Go.RowKit
attribute [local go_sem ↓] Go.wp_at_zero Go.wp_at_succ

theorem ws_of_owns {w : World} {base : Nat} {e : TypeId} {v : Value} {ns : List Nat} (h : w.ownsRow base e 1 v ns.length (wds ns)) (hs : Small ns) (hl : ns.length ≤ 1000000) : Ws w v ns := by
 obtain ⟨h0, ⟨rfl, hn⟩ | ⟨g, cap, cur, rfl, hb, hc, h2, h3, h4, h5⟩⟩ := h
 · have : ns = [] := List.length_eq_zero_iff.1 hn
   subst this
   exact ⟨⟨_, _, rfl, Nat.le_refl _, Or.inl rfl⟩, hs, hl⟩
 · refine ⟨⟨_, _, rfl, h2, Or.inr ⟨g, 0, rfl, ?_, fun j hj => ?_⟩⟩, hs, hl⟩
   · by_cases hg : g < w.heap.size
     · exact hg
     · rw [Array.getElem?_eq_none (by omega)] at hc; cases hc
   · have e1 : cur[j]? = some (.int .u64 (ns.getD j 0 : Nat)) := by
       have : (cur.toList.take (ns.length * 1))[j]? = (wds ns)[j]? := by rw [h5]
       rw [List.getElem?_take_of_lt (by omega), List.getElem?_eq_getElem (l := wds ns) (by rw [wds_length]; exact hj), wds_getD _ _ hj] at this
       simpa using this
     simp [World.cell?, hc, e1]

set_option maxHeartbeats 1000000 in
theorem clone_nil (n c : Nat) (w : World) :
   Calls Tryz.prog 110 #[.slice none n c] w fun e w' => e = .returned (.slice none 0 0) ∧ w' = w := by
 have q : ∀ (w : World) (a : Option Addr) (n c n' c' : Nat), (binOp .eql 45 (.slice a n c) (.slice none n' c')).run Tryz.prog w = .ok (.bool a.isNone) w := fun w a n c n' c' => Lib.run_eql_slice_nil w _ _ a n c n' c' Tryz.underlying45
 go_enter Tryz.func110, Tryz.ntmps110
 go_wp2
 go_ret
 exact ⟨rfl, rfl⟩

set_option maxHeartbeats 1000000 in
theorem clone_some (ad : Addr) (ns : List Nat) (c : Nat) (w : World) (hs : Small ns) (hl : ns.length ≤ 1000000) (hc : ∀ j u, (wds ns)[j]? = some u → w.cell? (ad.add j) = some u) :
   Calls Tryz.prog 110 #[.slice (some ad) ns.length c] w fun e w' => ∃ v', e = .returned v' ∧ Ws w' v' ns ∧ Below w.heap.size w w' := by
 have q : ∀ (w : World) (a : Option Addr) (n c n' c' : Nat), (binOp .eql 45 (.slice a n c) (.slice none n' c')).run Tryz.prog w = .ok (.bool a.isNone) w := fun w a n c n' c' => Lib.run_eql_slice_nil w _ _ a n c n' c' Tryz.underlying45
 obtain ⟨i0, hi, hz0, hz1, hz2⟩ := info_parts Tryz.info86'
 have HC : Hid (∀ j u, (wds ns)[j]? = some u → w.cell? (ad.add j) = some u) := hc
 clear hc
 go_enter Tryz.func110, Tryz.ntmps110
 go_wp2_with (at_builtin; refine wpList_append_own _ rfl _ _ 45 rfl w.heap.size 86 i0 (.int .u64 0) 1 8 Tryz.underlying45 hi hz0 hz1 hz2 rfl (by decide) _ _ _ rfl (World.ownsRow_made w #[] 0 (Nat.le_refl _) (Nat.zero_le _) rfl) ad ns.length c (wds ns) rfl ?qc1 ?qc2 ?qc3 ?qc4 ?qc5 ?qc6 ?_)
 case qc1 => rw [wds_length]; omega
 case qc2 =>
   intro j u hj
   exact Lib.cell?_alloc_some _ (HC.out j u hj)
 case qc3 => intro u hu; obtain ⟨x, _, rfl⟩ := List.mem_map.1 hu; rfl
 case qc4 => unfold maxLen; omega
 case qc5 => omega
 case qc6 => simp
 intro v' w1 hown hgrow hnil
 go_wp2
 go_ret
 refine ⟨v', rfl, ws_of_owns (base := w.heap.size) (e := 86) (by simpa using hown) hs hl, ?_⟩
 exact ((Below.refl _ w).alloc (Nat.le_refl _) _).grown hgrow (by simp) (by intro k hk; simp [Value.ownBlock] at hk; omega)

theorem clone_any (s : Value) (ns : List Nat) (w : World) (h : Ws w s ns) :
   Calls Tryz.prog 110 #[s] w fun e w' => ∃ v', e = .returned v' ∧ Ws w' v' ns ∧ Below w.heap.size w w' := by
 obtain ⟨⟨a, cap, rfl, hcap, hc⟩, hs, hl⟩ := h
 cases a with
 | none =>
   have : ns = [] := by
     rcases hc with hc | ⟨b, off, ha, _⟩
     · exact hc
     · cases ha
   subst this
   refine (clone_nil _ _ w).mono ?_
   rintro e w' ⟨rfl, rfl⟩
   exact ⟨_, rfl, ⟨⟨_, _, rfl, Nat.le_refl _, Or.inl rfl⟩, hs, hl⟩, Below.refl _ _⟩
 | some ad =>
   refine clone_some ad ns cap w hs hl ?_
   intro j u hj
   rcases hc with rfl | ⟨b, off, ha, _, hc⟩
   · simp [wds] at hj
   · cases ha
     have hjl : j < ns.length := by
       have := (List.getElem?_eq_some_iff.1 hj).1
       rwa [wds_length] at this
     rw [List.getElem?_eq_getElem (by rw [wds_length]; exact hjl), wds_getD _ _ hjl] at hj
     rw [Addr.add_lit, hc j hjl, hj]

def Back (w w' : World) (ns : List Nat) (low : Int) (e : Ending) : Prop := ∃ s, e = .returned (.agg #[s, .int .i64 low]) ∧ Ws w' s ns ∧ Below w.heap.size w w'

set_option maxHeartbeats 1000000 in
theorem moved_any (s : Value) (ns : List Nat) (low k : Int) (w : World) (h : Ws w s ns) (h1 : -1000000 ≤ low) (h2 : low ≤ 1000000) (h3 : -1000000 ≤ k) (h4 : k ≤ 1000000) :
   Calls Tryz.prog 77 #[.agg #[s, .int .i64 low], .int .i64 k] w fun e w' => Back w w' ns (low + k) e := by
 have H : Hid (Ws w s ns) := h
 obtain ⟨a1, c1, rfl, hcap, hc⟩ := h.shape
 have HB0 : Hid (Below w.heap.size w ((w.alloc (.cells #[.slice a1 ns.length c1, .int .i64 low] 47)).alloc (.cells #[.slice none 0 0, .int .i64 0] 47))) := ((Below.refl _ _).alloc (Nat.le_refl _) _).alloc (by simp) _
 have hw : IntKind.i64.wrap (low + k) = low + k := wrapI _ (by omega) (by omega)
 clear h hc
 go_enter Tryz.func77, Tryz.ntmps77
 go_wp2
 go_region_held3 (fun W => W.cell? ⟨w.heap.size, 0, none⟩ = some (.slice a1 ns.length c1) ∧ W.cell? ⟨w.heap.size, 1, none⟩ = some (.int .i64 low) ∧ Below w.heap.size w W)
   (first
     | assumption
     | exact ⟨by go_simp, by go_simp, HB0.out.drew⟩
     | exact keep2 (by assumption) (by assumption)
     | exact keep2_set (keep2_set (by assumption) _ _ (by simp) (by simp) (by simp)) _ _ (by simp) (by simp) (by simp))
   (first
     | (go_at_call 110; refine (clone_any _ ns _ ?_).mono ?_; exact H.out.later HB0.out.drew (Nat.le_refl _); rintro e w1 ⟨v1, rfl, hws1, hb1⟩; obtain ⟨a5, c5, rfl, hc5, hx5⟩ := hws1.shape; clear hx5; have p0 : w1.cell? ⟨w.heap.size + 1, 0, none⟩ = some (.slice none 0 0) := cell_later hb1 (by go_simp); have p1 : w1.cell? ⟨w.heap.size + 1, 1, none⟩ = some (.int .i64 0) := cell_later hb1 (by go_simp); have p2 : w1.frozen? ⟨w.heap.size + 1, 0, none⟩ = false := frozen_later hb1 (by go_simp) (by simp); have p3 : w1.frozen? ⟨w.heap.size + 1, 1, none⟩ = false := frozen_later hb1 (by go_simp) (by simp)))
 go_wp2
 refine bodyPost_ret (v := .agg #[.slice a5 ns.length c5, .int .i64 (low + k)]) (by simp [results, Tryz.results77, go_sem, p0, p1]) rfl ?_
 have hws6 := (hws1.set p0 (by intro n; simp) (.slice a5 ns.length c5)).set (cell_ne p1 p0 (by simp) (.slice a5 ns.length c5)) (by intro n; simp) (.int .i64 (low + k))
 exact ⟨_, rfl, hws6, (by assumption : _ ∧ _ ∧ _).2.2⟩

end Go.Proofs.YtocnkgfoffpbfaaGreatDoor

/- The walks of cmp.Compare at uint64 and of against: two magnitudes held against each other. -/
namespace Go.Proofs.YtocnkgfoffpbfaaGreatDoor
open Go.RowKit
attribute [local go_sem ↓] Go.wp_at_zero Go.wp_at_succ

def cmpI (x y : Int) : Int := if x < y then -1 else if y < x then 1 else 0

set_option maxHeartbeats 1000000 in
theorem isNaN64_any (x : Int) (w : World) : Calls Tryz.prog 135 #[.int .u64 x] w fun e w' => e = .returned (.bool false) ∧ w' = w := by
 go_enter Tryz.func135, Tryz.ntmps135
 go_wp2
 go_ret
 exact ⟨by simp, rfl⟩

set_option maxHeartbeats 1000000 in
theorem cmp64_any (x y : Int) (w : World) : Calls Tryz.prog 104 #[.int .u64 x, .int .u64 y] w fun e w' => e = .returned (.int .i64 (cmpI x y)) ∧ w' = w := by
 rcases Int.lt_trichotomy x y with h | h | h
 · have hx : ¬ y < x := by omega
   go_enter Tryz.func104, Tryz.ntmps104
   go_wp2_with (first | (go_at_call 135; refine (isNaN64_any _ _).mono ?_; rintro e w' ⟨rfl, rfl⟩))
   go_ret
   exact ⟨by simp [cmpI, h], rfl⟩
 · subst h
   have hx : ¬ x < x := by omega
   go_enter Tryz.func104, Tryz.ntmps104
   go_wp2_with (first | (go_at_call 135; refine (isNaN64_any _ _).mono ?_; rintro e w' ⟨rfl, rfl⟩))
   go_ret
   exact ⟨by simp [cmpI], rfl⟩
 · have hx : ¬ x < y := by omega
   go_enter Tryz.func104, Tryz.ntmps104
   go_wp2_with (first | (go_at_call 135; refine (isNaN64_any _ _).mono ?_; rintro e w' ⟨rfl, rfl⟩))
   go_ret
   exact ⟨by simp [cmpI, h, hx], rfl⟩

theorem cmpInt_any (x y : Int) (w : World) : Calls Tryz.prog 70 #[.int .i64 x, .int .i64 y] w fun e w' => e = .returned (.int .i64 (cmpI x y)) ∧ w' = w := by
 have e : cmpI x y = Lib.compareInt x y := by unfold cmpI Lib.compareInt; rfl
 rw [e]
 exact Tryz.cmp_Compare_int x y w

end Go.Proofs.YtocnkgfoffpbfaaGreatDoor
