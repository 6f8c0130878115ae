/- Own texts, put together: Wh Wi Wj Wk Wl Wm M4 Wn. -/
import Derived.Test.YtfcgndgmbmkdgaaDoorQ1
import Derived.Test.YtfcgndgmbmkdgaaDoorQ2
import Derived.Lib.SliceRun
/- bring with Add64 adds, with Sub64 takes off: the numbers that the words tell. -/
namespace Go.Proofs.YtfcgndgmbmkdgaaDoor
open Go.RowKit

theorem isAdd : IsStep 78 (fun x y c => (x + y + c) % 18446744073709551616) (fun x y c => (x + y + c) / 18446744073709551616) where
  run := fun x y c w hc => by
    rw [run_callFunc_extern Tryd.func78 (by kernel_rfl) (by kernel_rfl) (by kernel_rfl) (e := add64Entry) (by kernel_rfl), run_add64 x y c (by omega) (by omega) (by omega) (by omega)]
    simp only [Result.andThen]
    congr 5 <;> omega
  word := fun x y c => Nat.mod_lt _ (by omega)
  carry := fun x y c h1 h2 h3 => by omega

theorem isSub : IsStep 79 (fun x y c => (x + 18446744073709551616 - y - c) % 18446744073709551616) (fun x y c => if x < y + c then 1 else 0) where
  run := fun x y c w hc => by
    rw [run_callFunc_extern Tryd.func79 (by kernel_rfl) (by kernel_rfl) (by kernel_rfl) (e := sub64Entry) (by kernel_rfl), run_sub64 x y c hc]
    rfl
  word := fun x y c => Nat.mod_lt _ (by omega)
  carry := fun x y c h1 h2 h3 => by split <;> omega

theorem val_take_succ (l : List Nat) (k : Nat) : val (l.take (k + 1)) = val (l.take k) + 2 ^ (64 * k) * l.getD k 0 := by
  by_cases hk : k < l.length
  · rw [List.take_succ_eq_append_getElem hk, val_append, List.length_take, Nat.min_eq_left (by omega)]
    simp [val, List.getD, hk]
  · rw [List.take_of_length_le (by omega), List.take_of_length_le (by omega)]
    simp [List.getD, List.getElem?_eq_none (Nat.le_of_not_lt hk)]

theorem val_take_drop (l : List Nat) (k : Nat) (hk : k ≤ l.length) : val l = val (l.take k) + 2 ^ (64 * k) * val (l.drop k) := by
  conv => lhs; rw [← List.take_append_drop k l]
  rw [val_append, List.length_take, Nat.min_eq_left hk]

/-- What bring does with a step: the words tell f of what they told and of what more tells. -/
def BringOK (fid : Nat) (f : Nat → Nat → Nat) (pre : Nat → Nat → Nat → Prop) : Prop :=
  ∀ (more words : List Nat) (g g2 : Nat) (w : World), g2 ≠ g → Row w 49 g2 (wds more) → Small more → Small words → Row w 49 g (wds words) → words.length ≤ 1000000 → more.length ≤ words.length → pre (val words) (val more) words.length →
    Calls Tryd.prog 87 #[.slice (some ⟨g2, 0, none⟩) more.length more.length, .slice (some ⟨g, 0, none⟩) words.length words.length, .func (.func fid) #[] #[]] w fun e w' => e = .returned (.tuple #[]) ∧
      ∃ zs : List Nat, Small zs ∧ zs.length = words.length ∧ val zs = f (val words) (val more) ∧ Row w' 49 g (wds zs) ∧ w.grownBy w' (some g)

theorem small_app {a b : List Nat} (h1 : Small a) (h2 : Small b) : Small (a ++ b) := fun n hn => by
  rcases List.mem_append.1 hn with h | h
  · exact h1 n h
  · exact h2 n h

theorem add_bring : BringOK 78 (fun a b => a + b) (fun a b n => a + b < 2 ^ (64 * n)) := by
  intro more words g g2 w hgg hm hms hws hr hl hml hpre
  refine (bring_walk _ _ _ isAdd (fun k v c => v + 2 ^ (64 * k) * c = val (words.take k) + val (more.take k)) more words g g2 w hgg hm hms hws hr hl (by omega) (by simp [val]) ?_).mono ?_
  · intro k v c hk hE hc
    rw [val_take_succ, val_take_succ, Nat.mul_add, Nat.mul_one, Nat.pow_add, show (2 : Nat) ^ 64 = 18446744073709551616 from rfl]
    generalize words.getD k 0 = x
    generalize more.getD k 0 = y
    generalize 2 ^ (64 * k) = p at *
    have h := Nat.mod_add_div (x + y + c) 18446744073709551616
    generalize (x + y + c) % 18446744073709551616 = s at *
    generalize (x + y + c) / 18446744073709551616 = d at *
    grind
  · rintro e w' ⟨he, k, c, ps, hk, hc1, hps, hsm, hE, hend, hrow, hgr⟩
    refine ⟨he, ps ++ words.drop k, small_app hsm (small_drop hws k), by simp; omega, ?_, hrow, hgr⟩
    have hs := val_take_drop words k hk
    rw [val_append, hps]
    rcases hend with rfl | ⟨hmk, rfl⟩
    · rw [List.take_of_length_le (Nat.le_refl _), List.take_of_length_le hml] at hE
      rw [List.drop_length]
      have : c = 0 := by
        rcases Nat.eq_zero_or_pos c with h | h
        · exact h
        · have : 2 ^ (64 * words.length) * 1 ≤ 2 ^ (64 * words.length) * c := Nat.mul_le_mul_left _ h
          omega
      subst this
      simp only [val]
      omega
    · rw [List.take_of_length_le hmk] at hE
      have hE' : val ps + 2 ^ (64 * k) * 0 = val (words.take k) + val more := hE
      show val ps + 2 ^ (64 * k) * val (words.drop k) = val words + val more
      omega

theorem sub_bring : BringOK 79 (fun a b => a - b) (fun a b _ => b ≤ a) := by
  intro more words g g2 w hgg hm hms hws hr hl hml hpre
  refine (bring_walk _ _ _ isSub (fun k v c => v + val (more.take k) = val (words.take k) + 2 ^ (64 * k) * c) more words g g2 w hgg hm hms hws hr hl (by omega) (by simp [val]) ?_).mono ?_
  · intro k v c hk hE hc
    rw [val_take_succ, val_take_succ, Nat.mul_add, Nat.mul_one, Nat.pow_add, show (2 : Nat) ^ 64 = 18446744073709551616 from rfl]
    have hx := small_getD hws k
    have hy := small_getD hms k
    generalize words.getD k 0 = x at *
    generalize more.getD k 0 = y at *
    generalize 2 ^ (64 * k) = p at *
    have h : (x + 18446744073709551616 - y - c) % 18446744073709551616 + y + c = x + 18446744073709551616 * (if x < y + c then 1 else 0) := by split <;> omega
    generalize (x + 18446744073709551616 - y - c) % 18446744073709551616 = s at *
    generalize (if x < y + c then 1 else 0) = d at *
    grind
  · rintro e w' ⟨he, k, c, ps, hk, hc1, hps, hsm, hE, hend, hrow, hgr⟩
    refine ⟨he, ps ++ words.drop k, small_app hsm (small_drop hws k), by simp; omega, ?_, hrow, hgr⟩
    have hs := val_take_drop words k hk
    rw [val_append, hps]
    rcases hend with rfl | ⟨hmk, rfl⟩
    · rw [List.take_of_length_le (Nat.le_refl _), List.take_of_length_le hml] at hE
      rw [List.drop_length]
      have hlt := val_lt hsm
      rw [hps] at hlt
      have : c = 0 := by
        rcases Nat.eq_zero_or_pos c with h | h
        · exact h
        · have : 2 ^ (64 * words.length) * 1 ≤ 2 ^ (64 * words.length) * c := Nat.mul_le_mul_left _ h
          omega
      subst this
      simp only [val]
      omega
    · rw [List.take_of_length_le hmk] at hE
      have hE' : val ps + val more = val (words.take k) + 2 ^ (64 * k) * 0 := hE
      show val ps + 2 ^ (64 * k) * val (words.drop k) = val words - val more
      omega

end Go.Proofs.YtfcgndgmbmkdgaaDoor

/- The walk of joined: two magnitudes added, or the one taken off the other. -/
namespace Go.Proofs.YtfcgndgmbmkdgaaDoor
open Go.RowKit
attribute [local go_sem ↓] Go.wp_at_zero Go.wp_at_succ

/-- Four cells that stand, and all that stood. -/
def Four (w : World) (p1 p2 p3 p4 : Addr) (x1 x2 x3 x4 : Value) (W : World) : Prop := W.cell? p1 = some x1 ∧ W.cell? p2 = some x2 ∧ W.cell? p3 = some x3 ∧ W.cell? p4 = some x4 ∧ Below w.heap.size w W

theorem keep4 {w W W' : World} {p1 p2 p3 p4 : Addr} {x1 x2 x3 x4 : Value} (h : W.cell? p1 = some x1 ∧ W.cell? p2 = some x2 ∧ W.cell? p3 = some x3 ∧ W.cell? p4 = some x4 ∧ Below w.heap.size w W) (hb : Below W.heap.size W W') :
    W'.cell? p1 = some x1 ∧ W'.cell? p2 = some x2 ∧ W'.cell? p3 = some x3 ∧ W'.cell? p4 = some x4 ∧ Below w.heap.size w W' :=
  ⟨cell_later hb h.1, cell_later hb h.2.1, cell_later hb h.2.2.1, cell_later hb h.2.2.2.1, h.2.2.2.2.trans (hb.mono h.2.2.2.2.size)⟩

theorem keep4d {w W : World} {p1 p2 p3 p4 : Addr} {x1 x2 x3 x4 : Value} (h : W.cell? p1 = some x1 ∧ W.cell? p2 = some x2 ∧ W.cell? p3 = some x3 ∧ W.cell? p4 = some x4 ∧ Below w.heap.size w W) :
    W.drew.cell? p1 = some x1 ∧ W.drew.cell? p2 = some x2 ∧ W.drew.cell? p3 = some x3 ∧ W.drew.cell? p4 = some x4 ∧ Below w.heap.size w W.drew :=
  ⟨h.1, h.2.1, h.2.2.1, h.2.2.2.1, h.2.2.2.2.drew⟩

theorem thru {w W0 W : World} (h : Below w.heap.size w W0) (h' : Below W0.heap.size W0 W) : Below w.heap.size w W := h.trans (h'.mono h.size)

theorem keep4g {w W W' : World} {g : Nat} {p1 p2 p3 p4 : Addr} {x1 x2 x3 x4 : Value} (h : W.cell? p1 = some x1 ∧ W.cell? p2 = some x2 ∧ W.cell? p3 = some x3 ∧ W.cell? p4 = some x4 ∧ Below w.heap.size w W) (hg : W.grownBy W' (some g))
    (q1 : p1.block < g) (q2 : p2.block < g) (q3 : p3.block < g) (q4 : p4.block < g) (q : w.heap.size ≤ g) :
    W'.cell? p1 = some x1 ∧ W'.cell? p2 = some x2 ∧ W'.cell? p3 = some x3 ∧ W'.cell? p4 = some x4 ∧ Below w.heap.size w W' :=
  ⟨hg.cell h.1 (by simp; omega), hg.cell h.2.1 (by simp; omega), hg.cell h.2.2.1 (by simp; omega), hg.cell h.2.2.2.1 (by simp; omega), h.2.2.2.2.grown hg h.2.2.2.2.size (fun k hk => by simp at hk; omega)⟩

/-- bring, over the words of two numbers. -/
theorem bringX {fid : Nat} {f : Nat → Nat → Nat} {pre : Nat → Nat → Nat → Prop} (hop : BringOK fid f pre) {A C n1 n2 g g2 : Nat} {w : World} (hgg : g2 ≠ g) (h2 : Row w 49 g2 (wds (digs C (n2 + 1)))) (h1 : Row w 49 g (wds (digs A (n1 + 1)))) (hn : n1 ≤ 10000) (hn2 : n2 ≤ n1)
    (hp : pre A C (n1 + 1)) (hA : A < 2 ^ (64 * (n1 + 1))) (hC : C < 2 ^ (64 * (n2 + 1))) :
    Calls Tryd.prog 87 #[.slice (some ⟨g2, 0, none⟩) (n2 + 1) (n2 + 1), .slice (some ⟨g, 0, none⟩) (n1 + 1) (n1 + 1), .func (.func fid) #[] #[]] w fun e w' => e = .returned (.tuple #[]) ∧
      ∃ zs : List Nat, Small zs ∧ zs.length = n1 + 1 ∧ val zs = f A C ∧ Row w' 49 g (wds zs) ∧ w.grownBy w' (some g) := by
  have h := hop (digs C (n2 + 1)) (digs A (n1 + 1)) g g2 w hgg h2 (digs_small _ _) (digs_small _ _) h1 (by rw [digs_length]; omega) (by rw [digs_length, digs_length]; omega) (by rw [val_digs_of hA, val_digs_of hC, digs_length]; exact hp)
  rw [digs_length, digs_length, val_digs_of hA, val_digs_of hC] at h
  exact h

theorem sz4 {w W : World} {p1 p2 p3 p4 : Addr} {x1 x2 x3 x4 : Value} (h : W.cell? p1 = some x1 ∧ W.cell? p2 = some x2 ∧ W.cell? p3 = some x3 ∧ W.cell? p4 = some x4 ∧ Below w.heap.size w W) : w.heap.size ≤ W.heap.size := h.2.2.2.2.size

set_option maxHeartbeats 2000000 in
theorem joined_walk (fid : Nat) (f : Nat → Nat → Nat) (pre : Nat → Nat → Nat → Prop) (hop : BringOK fid f pre) (a1 a2 : Option Addr) (c1 c2 : Nat) (ns1 ns2 : List Nat) (low1 low2 L : Int) (k1 k2 n1 n2 r1 r2 : Nat) (w : World)
    (h1 : Ws w (.slice a1 ns1.length c1) ns1) (h2 : Ws w (.slice a2 ns2.length c2) ns2) (hT : Tab w) (o1 : OwnF ns1 low1) (o2 : OwnF ns2 low2)
    (hL : min low1 low2 = L) (hk1 : low1 = L + (k1 : Nat)) (hk2 : low2 = L + (k2 : Nat)) (b1 : -70000 ≤ L) (b2 : low1 ≤ 70000) (b3 : low2 ≤ 70000)
    (hH : max (hiB ns1 low1) (hiB ns2 low2) + 1 = L + (64 * n1 + r1 : Nat)) (hH2 : hiB ns2 low2 = L + (64 * n2 + r2 : Nat)) (hr1 : r1 < 64) (hr2 : r2 < 64) (hn1 : n1 ≤ 10000) (hn2 : n2 ≤ n1)
    (hpre : pre (val ns1 * 2 ^ k1) (val ns2 * 2 ^ k2) (n1 + 1)) (hv1 : val ns1 * 2 ^ k1 < 2 ^ (64 * (n1 + 1))) (hv2 : val ns2 * 2 ^ k2 < 2 ^ (64 * (n2 + 1))) :
    Calls Tryd.prog 77 #[.agg #[.slice a1 ns1.length c1, .int .i64 low1], .agg #[.slice a2 ns2.length c2, .int .i64 low2], .func (.func fid) #[] #[]] w fun e w' => Made w w' (f (val ns1 * 2 ^ k1) (val ns2 * 2 ^ k2)) L e := by
  have HOP : Hid (BringOK fid f pre) := hop
  have HH : Hid _ := hH
  have HH2 : Hid _ := hH2
  have HK1 : Hid _ := hk1
  have HK2 : Hid _ := hk2
  have HV1 : Hid _ := hv1
  have HV2 : Hid _ := hv2
  have HPRE : Hid _ := hpre
  have HT : Hid (Tab w) := hT
  have HS1 : Hid (spanL ns1 low1 L (n1 + 1) = digs (val ns1 * 2 ^ k1) (n1 + 1)) := by rw [hk1]; exact spanL_down _ _ _ _
  have HS2 : Hid (spanL ns2 low2 L (n2 + 1) = digs (val ns2 * 2 ^ k2) (n2 + 1)) := by rw [hk2]; exact spanL_down _ _ _ _
  have lo1 : -70000 ≤ low1 := by omega
  have lo2 : -70000 ≤ low2 := by omega
  have hLle : L ≤ 70000 := by omega
  have hmx : IntKind.i64.wrap (max (hiB ns1 low1) (hiB ns2 low2) + 1) = L + (64 * n1 + r1 : Nat) := by rw [hH]; exact wrapI _ (by omega) (by omega)
  have HB0 : Hid (Below w.heap.size w (((w.alloc (.cells #[.slice a1 ns1.length c1, .int .i64 low1] 33)).alloc (.cells #[.slice a2 ns2.length c2, .int .i64 low2] 33)).alloc (.cells #[.slice none 0 0, .int .i64 0] 33))) := (((Below.refl _ _).alloc (Nat.le_refl _) _).alloc (by simp) _).alloc (by simp; omega) _
  clear hop hk1 hk2 hv1 hv2 hpre hH hH2 hT
  go_enter Tryd.func77, Tryd.ntmps77
  go_wp2
  go_region_held3 (fun W => W.cell? ⟨w.heap.size, 0, none⟩ = some (.slice a1 ns1.length c1) ∧ W.cell? ⟨w.heap.size, 1, none⟩ = some (.int .i64 low1) ∧ W.cell? ⟨w.heap.size + 1, 0, none⟩ = some (.slice a2 ns2.length c2) ∧ W.cell? ⟨w.heap.size + 1, 1, none⟩ = some (.int .i64 low2) ∧ Below (((w.alloc (.cells #[.slice a1 ns1.length c1, .int .i64 low1] 33)).alloc (.cells #[.slice a2 ns2.length c2, .int .i64 low2] 33)).alloc (.cells #[.slice none 0 0, .int .i64 0] 33)).heap.size (((w.alloc (.cells #[.slice a1 ns1.length c1, .int .i64 low1] 33)).alloc (.cells #[.slice a2 ns2.length c2, .int .i64 low2] 33)).alloc (.cells #[.slice none 0 0, .int .i64 0] 33)) W)
    (first
      | assumption
      | exact ⟨by go_simp, by go_simp, by go_simp, by go_simp, (Below.refl _ _).drew⟩
      | exact keep4 (by assumption) (by assumption))
    (first
      | (go_at_call 49; refine (lowest_any _ _ _ _ _).mono ?_; rintro e wx ⟨rfl, hbx⟩))
  go_wp2
  go_region_held3 (fun W => W.cell? ⟨w.heap.size, 0, none⟩ = some (.slice a1 ns1.length c1) ∧ W.cell? ⟨w.heap.size, 1, none⟩ = some (.int .i64 low1) ∧ W.cell? ⟨w.heap.size + 1, 0, none⟩ = some (.slice a2 ns2.length c2) ∧ W.cell? ⟨w.heap.size + 1, 1, none⟩ = some (.int .i64 low2) ∧ Below (((w.alloc (.cells #[.slice a1 ns1.length c1, .int .i64 low1] 33)).alloc (.cells #[.slice a2 ns2.length c2, .int .i64 low2] 33)).alloc (.cells #[.slice none 0 0, .int .i64 0] 33)).heap.size (((w.alloc (.cells #[.slice a1 ns1.length c1, .int .i64 low1] 33)).alloc (.cells #[.slice a2 ns2.length c2, .int .i64 low2] 33)).alloc (.cells #[.slice none 0 0, .int .i64 0] 33)) W)
    (first
      | assumption
      | exact keep4d (by assumption)
      | exact keep4 (by assumption) (by assumption))
    (first
      | (go_at_call_of 48 low1; refine (highest_any _ ns1 _ _ ?_ (own_topped o1) (by omega) (by omega)).mono ?_; exact h1.later (thru HB0.out ((by assumption : _ ∧ _ ∧ _ ∧ _ ∧ _).2.2.2.2)) (Nat.le_refl _); rintro e wx ⟨rfl, hbx⟩)
      | (go_at_call_of 48 low2; refine (highest_any _ ns2 _ _ ?_ (own_topped o2) (by omega) (by omega)).mono ?_; exact h2.later (thru HB0.out ((by assumption : _ ∧ _ ∧ _ ∧ _ ∧ _).2.2.2.2)) (Nat.le_refl _); rintro e wx ⟨rfl, hbx⟩)
      | (go_at_call 51; refine (span_any _ ns1 _ _ n1 r1 _ ?_ (by omega) (by omega) (by omega) (by omega) (by omega) hr1).mono ?_; exact h1.later (thru HB0.out ((by assumption : _ ∧ _ ∧ _ ∧ _ ∧ _).2.2.2.2)) (Nat.le_refl _); rw [HS1.out]; rintro e wx ⟨g, hg, rfl, hrow, hbx⟩; have hgW := Nat.le_trans (sz4 (by assumption)) hg))
  have hgN : w.heap.size + 3 ≤ g := by simpa using hgW
  clear hgW hbx
  have hh2 : hiB ns2 low2 = L + (64 * n2 + r2 : Nat) := HH2.out
  go_wp2
  go_region_held3 (fun W => W.cell? ⟨w.heap.size, 0, none⟩ = some (.slice a1 ns1.length c1) ∧ W.cell? ⟨w.heap.size, 1, none⟩ = some (.int .i64 low1) ∧ W.cell? ⟨w.heap.size + 1, 0, none⟩ = some (.slice a2 ns2.length c2) ∧ W.cell? ⟨w.heap.size + 1, 1, none⟩ = some (.int .i64 low2) ∧ Below (((w.alloc (.cells #[.slice a1 ns1.length c1, .int .i64 low1] 33)).alloc (.cells #[.slice a2 ns2.length c2, .int .i64 low2] 33)).alloc (.cells #[.slice none 0 0, .int .i64 0] 33)).heap.size (((w.alloc (.cells #[.slice a1 ns1.length c1, .int .i64 low1] 33)).alloc (.cells #[.slice a2 ns2.length c2, .int .i64 low2] 33)).alloc (.cells #[.slice none 0 0, .int .i64 0] 33)) W)
    (first
      | assumption
      | exact keep4d (by assumption)
      | exact keep4 (by assumption) (by assumption)
      | exact keep4g (by assumption) (by assumption) (by simp; omega) (by simp; omega) (by simp; omega) (by simp; omega) (by simp; omega))
    (first
      | (go_at_call 48; refine (highest_any _ ns2 _ _ ?_ (own_topped o2) (by omega) (by omega)).mono ?_; exact h2.later (thru HB0.out ((by assumption : _ ∧ _ ∧ _ ∧ _ ∧ _).2.2.2.2)) (Nat.le_refl _); rw [hh2]; rintro e wy ⟨rfl, hby⟩)
      | (go_at_call 51; refine (span_any _ ns2 _ _ n2 r2 _ ?_ (by omega) (by omega) (by omega) (by omega) (by omega) hr2).mono ?_; exact h2.later (thru HB0.out ((by assumption : _ ∧ _ ∧ _ ∧ _ ∧ _).2.2.2.2)) (Nat.le_refl _); rw [HS2.out]; rintro e wz ⟨g2, hg2, rfl, hrow2, hbz⟩; have hrow1 := (hrow.drew.below hby hrow.lt).below hbz (Nat.lt_of_lt_of_le hrow.lt hby.size); have hgg : g2 ≠ g := (by have := hrow.lt; have := hby.size; simp at this; omega))
      | (go_at_call 87; refine (bringX HOP.out hgg hrow2 hrow1 (by omega) (by omega) HPRE.out HV1.out HV2.out).mono ?_; rintro e wb ⟨rfl, zs, hzs, hzl, hzv, hzr, hgr⟩))
  have hWB : Below (((w.alloc (.cells #[.slice a1 ns1.length c1, .int .i64 low1] 33)).alloc (.cells #[.slice a2 ns2.length c2, .int .i64 low2] 33)).alloc (.cells #[.slice none 0 0, .int .i64 0] 33)).heap.size (((w.alloc (.cells #[.slice a1 ns1.length c1, .int .i64 low1] 33)).alloc (.cells #[.slice a2 ns2.length c2, .int .i64 low2] 33)).alloc (.cells #[.slice none 0 0, .int .i64 0] 33)) wb := (by assumption : _ ∧ _ ∧ _ ∧ _ ∧ Below (((w.alloc (.cells #[.slice a1 ns1.length c1, .int .i64 low1] 33)).alloc (.cells #[.slice a2 ns2.length c2, .int .i64 low2] 33)).alloc (.cells #[.slice none 0 0, .int .i64 0] 33)).heap.size (((w.alloc (.cells #[.slice a1 ns1.length c1, .int .i64 low1] 33)).alloc (.cells #[.slice a2 ns2.length c2, .int .i64 low2] 33)).alloc (.cells #[.slice none 0 0, .int .i64 0] 33)) wb).2.2.2.2
  have hBw : Below w.heap.size w wb := thru HB0.out hWB
  have hWz : Ws wb (.slice (some ⟨g, 0, none⟩) (n1 + 1) (n1 + 1)) zs := by
    have := hzr.ws hzs (by omega) (n1 + 1) (by omega)
    rw [hzl] at this; exact this
  have hTb := HT.out.later hBw
  have q0 : wb.cell? ⟨w.heap.size + 1 + 1, 0, none⟩ = some (.slice none 0 0) := cell_later hWB (by go_simp)
  have q1 : wb.cell? ⟨w.heap.size + 1 + 1, 1, none⟩ = some (.int .i64 0) := cell_later hWB (by go_simp)
  have q2 : wb.frozen? ⟨w.heap.size + 1 + 1, 0, none⟩ = false := frozen_later hWB (by go_simp) (by simp)
  have q3 : wb.frozen? ⟨w.heap.size + 1 + 1, 1, none⟩ = false := frozen_later hWB (by go_simp) (by simp)
  have hsz : w.heap.size + 1 + 1 < wb.heap.size := by have := hWB.size; simp at this; omega
  have HZ : Hid _ := hzv
  clear hgr hzr hzs hrow hrow1 hrow2 hbz hby hzv hWB hh2 hmx
  go_wp2_with fail
  refine (own_any _ zs L _ hWz hTb (by omega) (by omega)).mono ?_
  rintro e w5 ⟨s5, ns5, low5, rfl, hws5, ho5, ht5, hlo5, hb5⟩
  obtain ⟨a5, c5, rfl, hc5, hx5⟩ := hws5.shape
  have p0 := cell_later hb5 q0
  have p1 := cell_later hb5 q1
  have p2 := frozen_later hb5 q2 hsz
  have p3 := frozen_later hb5 q3 hsz
  have HX5 : Hid _ := hx5
  have HLO5 : Hid (-200000000 ≤ low5 ∧ low5 ≤ 200000000) := hlo5
  clear hx5 q0 q1 q2 q3 hlo5
  go_wp2
  refine bodyPost_ret (v := .agg #[.slice a5 ns5.length c5, .int .i64 low5]) (by simp [results, Tryd.results77, go_sem, p0, p1]) rfl ?_
  have hws6 := (hws5.set p0 (by intro n; simp) (.slice a5 ns5.length c5)).set (cell_ne p1 p0 (by simp) (.slice a5 ns5.length c5)) (by intro n; simp) (.int .i64 low5)
  refine ⟨_, ns5, low5, rfl, hws6, ho5, by rw [← HZ.out]; exact ht5, HLO5.out, ?_⟩
  exact ((thru hBw hb5).setCell (by simp; omega) _).setCell (by simp; omega) _

end Go.Proofs.YtfcgndgmbmkdgaaDoor

/- The walk of bringTimes: a number times a word is added to words. -/
namespace Go.Proofs.YtfcgndgmbmkdgaaDoor
open Go.RowKit

theorem mulN (x y : Nat) (w : World) (hx : x < 18446744073709551616) (hy : y < 18446744073709551616) :
    Calls Tryd.prog 80 #[.int .u64 (x : Nat), .int .u64 (y : Nat)] w fun e w' => e = .returned (.tuple #[.int .u64 (x * y / 18446744073709551616 : Nat), .int .u64 (x * y % 18446744073709551616 : Nat)]) ∧ w' = w := by
  refine (mul64_any x y w (by omega) (by omega) (by omega) (by omega)).mono ?_
  rintro e w' ⟨rfl, rfl⟩
  refine ⟨?_, rfl⟩
  rw [Int.natCast_ediv, Int.natCast_emod, Int.natCast_mul]
  rfl

/-- The row behind k rounds. -/
def btRow (zs ps : List Nat) (i k : Nat) : List Nat := zs.take i ++ ps ++ zs.drop (i + k)

theorem btRow_length (zs ps : List Nat) (i k : Nat) (hp : ps.length = k) (h : i + k ≤ zs.length) : (btRow zs ps i k).length = zs.length := by
  simp [btRow]; omega

theorem btRow_getD (zs ps : List Nat) (i k : Nat) (hp : ps.length = k) (h : i + k < zs.length) : (btRow zs ps i k).getD (i + k) 0 = zs.getD (i + k) 0 := by
  unfold btRow
  rw [List.getD, List.getElem?_append_right (by simp; omega)]
  simp only [List.length_append, List.length_take, hp, Nat.min_eq_left (show i ≤ zs.length by omega), Nat.sub_self, List.getElem?_drop, Nat.add_zero]
  rfl

theorem btRow_set (zs ps : List Nat) (i k v : Nat) (hp : ps.length = k) (h : i + k < zs.length) : (wds (btRow zs ps i k)).set (i + k) (.int .u64 (v : Nat)) = wds (btRow zs (ps ++ [v]) i (k + 1)) := by
  unfold wds btRow
  rw [← List.map_set, List.set_append_right _ _ (by simp; omega)]
  congr 1
  have e : i + k - (List.take i zs ++ ps).length = 0 := by simp; omega
  rw [e, ← List.append_assoc, List.append_assoc (List.take i zs ++ ps)]
  congr 1
  rw [List.drop_eq_getElem_cons h]
  rfl

/-- One round in numbers. -/
theorem bt_step (p v c x y wv a b T : Nat) (hT : T = y * wv + c + x) (h : v + p * c = a + b * wv) : v + p * (T % 18446744073709551616) + p * 18446744073709551616 * (T / 18446744073709551616) = a + p * x + (b + p * y) * wv := by
  have h2 := Nat.mod_add_div T 18446744073709551616
  generalize T % 18446744073709551616 = s at *
  generalize T / 18446744073709551616 = d at *
  subst hT
  grind

theorem bt_words (x y wv c : Nat) (hx : x < 18446744073709551616) (hy : y < 18446744073709551616) (hw : wv < 18446744073709551616) (hc : c < 18446744073709551616) :
    (x + (y * wv % 18446744073709551616 + c) % 18446744073709551616) % 18446744073709551616 = (y * wv + c + x) % 18446744073709551616 ∧
    y * wv / 18446744073709551616 + (y * wv % 18446744073709551616 + c) / 18446744073709551616 < 18446744073709551616 ∧
    y * wv / 18446744073709551616 + (y * wv % 18446744073709551616 + c) / 18446744073709551616 + (x + (y * wv % 18446744073709551616 + c) % 18446744073709551616) / 18446744073709551616 = (y * wv + c + x) / 18446744073709551616 ∧
    (y * wv + c + x) / 18446744073709551616 < 18446744073709551616 := by
  have h : y * wv ≤ 18446744073709551615 * 18446744073709551615 := Nat.mul_le_mul (by omega) (by omega)
  generalize y * wv = q at *
  omega

set_option maxHeartbeats 2000000 in
theorem bt_walk (sm : Value) (more zs : List Nat) (g i wv : Nat) (w0 w : World) (h0 : Ws w0 sm more) (hB : Below w0.heap.size w0 w) (hg : w0.heap.size ≤ g) (hr : Row w 49 g (wds zs)) (hz : Small zs) (hwv : wv < 18446744073709551616)
    (hi : i + more.length < zs.length) (hl : zs.length ≤ 1000000) :
    Calls Tryd.prog 60 #[sm, .int .u64 (wv : Nat), .slice (some ⟨g, i, none⟩) (zs.length - i) (zs.length - i)] w fun e w' => e = .returned (.tuple #[]) ∧
      ∃ (ps : List Nat), ps.length = more.length + 1 ∧ Small ps ∧ val ps = val ((zs.drop i).take more.length) + val more * wv ∧ Row w' 49 g (wds (btRow zs ps i (more.length + 1))) ∧ w.grownBy w' (some g) := by
  have hms : Small more := h0.small
  obtain ⟨a, cap, rfl, hcap, hc⟩ := h0.shape
  have hcm : ∀ W, w.grownBy W (some g) → ∀ k, k < more.length → ∃ b off, a = some ⟨b, off, none⟩ ∧ W.cell? ⟨b, off + k, none⟩ = some (.int .u64 (more.getD k 0 : Nat)) := by
    intro W hW k hk
    rcases hc with hc | ⟨b, off, ha, hb, hc⟩
    · rw [hc] at hk; simp at hk
    · exact ⟨b, off, ha, hW.cell (cell_later hB (hc k hk)) (by simp; omega)⟩
  have hl' : (zs.length : Int) ≤ 1000000 := by omega
  have hml : (more.length : Int) ≤ 1000000 := by omega
  generalize hN : zs.length - i = N
  have HN : Hid (zs.length - i = N) := hN
  have hNl : (more.length : Int) < (N : Int) := by omega
  have hNs : (N : Int) ≤ 1000000 := by omega
  clear hc hN
  go_enter Tryd.func60, Tryd.ntmps60
  go_wp2
  go_loopw [6, 14] (fun cr j wr => ∃ (k c : Nat) (ps : List Nat), k ≤ more.length ∧ c < 18446744073709551616 ∧ j = .int .i64 k ∧ cr = .int .u64 c ∧ ps.length = k ∧ Small ps ∧ val ps + 2 ^ (64 * k) * c = val ((zs.drop i).take k) + val (more.take k) * wv ∧ Row wr 49 g (wds (btRow zs ps i k)) ∧ w.grownBy wr (some g))
    (fun _ j _ => more.length - (intOf j).toNat)
  case atStart => exact ⟨0, 0, [], Nat.zero_le _, by omega, rfl, rfl, rfl, fun n hn => by simp at hn, by simp [val], by simpa [btRow] using hr, World.grownBy.refl _ _⟩
  case round =>
    obtain ⟨k, c, ps, hk, hcb, rfl, rfl, hps, hsm, hv, hrk, hgr⟩ := hrel
    by_cases hlt : k < more.length
    · obtain ⟨b, off, rfl, hcell⟩ := hcm wr hgr k hlt
      have hik : i + k < zs.length := by omega
      have hxk : wr.cell? ⟨g, i + k, none⟩ = some (.int .u64 (zs.getD (i + k) 0 : Nat)) := by
        rw [hrk.cell (i + k) (by rw [wds_length, btRow_length _ _ _ _ hps (by omega)]; exact hik), wds_getD _ _ (by rw [btRow_length _ _ _ _ hps (by omega)]; exact hik), btRow_getD _ _ _ _ hps hik]
      have hfk := hrk.frozen (i + k)
      have hx := small_getD hz (i + k)
      have hy := small_getD hms k
      obtain ⟨m1, m2, m3, m4⟩ := bt_words (zs.getD (i + k) 0) (more.getD k 0) wv c hx hy hwv hcb
      have HNV : Hid (val (ps ++ [(more.getD k 0 * wv + c + zs.getD (i + k) 0) % 18446744073709551616]) + 2 ^ (64 * (k + 1)) * ((more.getD k 0 * wv + c + zs.getD (i + k) 0) / 18446744073709551616) = val ((zs.drop i).take (k + 1)) + val (more.take (k + 1)) * wv) := by
        rw [val_snoc, hps, val_take_succ, val_take_succ, getD_drop, Nat.mul_add, Nat.mul_one, Nat.pow_add, show (2 : Nat) ^ 64 = 18446744073709551616 from rfl]
        exact bt_step _ _ _ _ _ _ _ _ _ rfl hv
      have HNR : Hid (Row (wr.setCell ⟨g, i + k, none⟩ (.int .u64 ((more.getD k 0 * wv + c + zs.getD (i + k) 0) % 18446744073709551616 : Nat))) 49 g (wds (btRow zs (ps ++ [(more.getD k 0 * wv + c + zs.getD (i + k) 0) % 18446744073709551616]) i (k + 1)))) := by
        rw [← btRow_set zs ps i k _ hps hik]; exact hrk.set (i + k) _
      have HNS : Hid (Small (ps ++ [(more.getD k 0 * wv + c + zs.getD (i + k) 0) % 18446744073709551616])) := small_app hsm (fun n hn => by simp at hn; rw [hn]; exact Nat.mod_lt _ (by omega))
      have HNC : Hid ((more.getD k 0 * wv + c + zs.getD (i + k) 0) / 18446744073709551616 < 18446744073709551616) := m4
      have hmul := fun W => mulN (more.getD k 0) wv W hy hwv
      have ha1 := fun W => isAdd.run (more.getD k 0 * wv % 18446744073709551616) c 0 W (by omega)
      have ha2 := fun W => isAdd.run (zs.getD (i + k) 0) ((more.getD k 0 * wv % 18446744073709551616 + c) % 18446744073709551616) 0 W (by omega)
      simp only [Nat.add_zero] at ha1 ha2
      have hw1 : IntKind.u64.wrap (((more.getD k 0 * wv / 18446744073709551616 : Nat) : Int) + ((more.getD k 0 * wv % 18446744073709551616 + c) / 18446744073709551616 : Nat)) = ((more.getD k 0 * wv / 18446744073709551616 + (more.getD k 0 * wv % 18446744073709551616 + c) / 18446744073709551616 : Nat) : Int) := by
        rw [IntKind.wrap_u64]; omega
      have hw2 : IntKind.u64.wrap (((more.getD k 0 * wv / 18446744073709551616 + (more.getD k 0 * wv % 18446744073709551616 + c) / 18446744073709551616 : Nat) : Int) + ((zs.getD (i + k) 0 + (more.getD k 0 * wv % 18446744073709551616 + c) % 18446744073709551616) / 18446744073709551616 : Nat)) = ((more.getD k 0 * wv + c + zs.getD (i + k) 0) / 18446744073709551616 : Nat) := by
        rw [← m3, IntKind.wrap_u64]; omega
      rw [m1] at ha2
      clear m3 m1 m2 m4
      generalize (more.getD k 0 * wv + c + zs.getD (i + k) 0) / 18446744073709551616 = cN at *
      generalize (more.getD k 0 * wv + c + zs.getD (i + k) 0) % 18446744073709551616 = sN at *
      generalize more.getD k 0 * wv / 18446744073709551616 + (more.getD k 0 * wv % 18446744073709551616 + c) / 18446744073709551616 = h1 at *
      generalize (zs.getD (i + k) 0 + (more.getD k 0 * wv % 18446744073709551616 + c) % 18446744073709551616) / 18446744073709551616 = c2 at *
      generalize (more.getD k 0 * wv % 18446744073709551616 + c) % 18446744073709551616 = s1 at *
      generalize (more.getD k 0 * wv % 18446744073709551616 + c) / 18446744073709551616 = c1 at *
      generalize more.getD k 0 * wv % 18446744073709551616 = lo at *
      generalize more.getD k 0 * wv / 18446744073709551616 = hi' at *
      generalize more.getD k 0 = y at *
      generalize zs.getD (i + k) 0 = x at *
      have ha1' : ∀ W, (callFunc 78 #[.int .u64 (lo : Nat), .int .u64 (c : Nat), .int .u64 0]).run Tryd.prog W = .ok (.value (.tuple #[.int .u64 (s1 : Nat), .int .u64 (c1 : Nat)])) W := ha1
      have ha2' : ∀ W, (callFunc 78 #[.int .u64 (x : Nat), .int .u64 (s1 : Nat), .int .u64 0]).run Tryd.prog W = .ok (.value (.tuple #[.int .u64 (sN : Nat), .int .u64 (c2 : Nat)])) W := ha2
      clear ha1 ha2
      have HPS : Hid (ps.length = k) := hps
      have HGR : Hid _ := hgr
      have HMUL : Hid _ := hmul
      have hkN : (k : Int) < (N : Int) := by omega
      have hkm : (k : Int) < (more.length : Int) := by omega
      clear hps hgr hmul hv hrk hsm hcm hr hz hms h0
      go_wp2_with fail
      refine (HMUL.out _).mono ?_
      rintro e w1 ⟨rfl, rfl⟩
      go_wp2
      exact ⟨⟨k + 1, cN, ps ++ [sN], by omega, HNC.out, by go_num, rfl, by simp [HPS.out], HNS.out, HNV.out, HNR.out, grown_set HGR.out _ _⟩, by simp [intOf]; omega⟩
    · have hkm : k = more.length := by omega
      subst hkm
      have hik : i + more.length < zs.length := hi
      have hxk : ∃ v, wr.cell? ⟨g, i + more.length, none⟩ = some v := ⟨_, hrk.cell (i + more.length) (by rw [wds_length, btRow_length _ _ _ _ hps (by omega)]; exact hik)⟩
      obtain ⟨v0, hxk⟩ := hxk
      have hfk := hrk.frozen (i + more.length)
      have HNR : Hid (Row (wr.setCell ⟨g, i + more.length, none⟩ (.int .u64 (c : Nat))) 49 g (wds (btRow zs (ps ++ [c]) i (more.length + 1)))) := by
        rw [← btRow_set zs ps i more.length _ hps hik]; exact hrk.set (i + more.length) _
      have HNS : Hid (Small (ps ++ [c])) := small_app hsm (fun n hn => by simp at hn; rw [hn]; exact hcb)
      have HNV : Hid (val (ps ++ [c]) = val ((zs.drop i).take more.length) + val more * wv) := by
        rw [val_snoc, hps, hv, List.take_of_length_le (Nat.le_refl _)]; exact rfl
      have HPS : Hid (ps.length = more.length) := hps
      have HGR : Hid _ := hgr
      clear hps hgr hv hrk hsm hcm hr hz hms h0
      go_wp2
      go_end0
      exact ⟨rfl, ps ++ [c], by simp [HPS.out], HNS.out, HNV.out, HNR.out, grown_set HGR.out _ _⟩

end Go.Proofs.YtfcgndgmbmkdgaaDoor

/- The walk of times: the product of two magnitudes. -/
namespace Go.Proofs.YtfcgndgmbmkdgaaDoor
open Go.RowKit
attribute [local go_sem ↓] Go.wp_at_zero Go.wp_at_succ

/-- One round in numbers: ps stands in the place of n words and one. -/
theorem times_step (zs ps : List Nat) (k n B wv : Nat) (hl : k + n + 1 ≤ zs.length) (hp : ps.length = n + 1) (hz : ∀ j, k + n ≤ j → zs.getD j 0 = 0) (hv : val ps = val ((zs.drop k).take n) + B * wv) :
    val (btRow zs ps k (n + 1)) = val zs + 2 ^ (64 * k) * (B * wv) ∧ ∀ j, k + 1 + n ≤ j → (btRow zs ps k (n + 1)).getD j 0 = 0 := by
  have hd : val (zs.drop (k + (n + 1))) = 0 := val_zero fun j => by rw [getD_drop]; exact hz _ (by omega)
  have e1 : val zs = val (zs.take k) + 2 ^ (64 * k) * val ((zs.drop k).take n) := by
    rw [val_take_drop zs k (by omega), val_take (ns := zs.drop k) n (fun j hj => by rw [getD_drop]; exact hz _ (by omega))]
  refine ⟨?_, fun j hj => ?_⟩
  · unfold btRow
    rw [val_append, val_append, hd, hv, List.length_take, Nat.min_eq_left (by omega), e1]
    generalize 2 ^ (64 * k) = p
    grind
  · unfold btRow
    rw [List.getD, List.getElem?_append_right (by simp; omega)]
    have := hz (k + (n + 1) + (j - (List.take k zs ++ ps).length)) (by omega)
    rw [List.getD] at this
    rw [List.getElem?_drop]; exact this

theorem rep_getD (n j : Nat) : (List.replicate n (0 : Nat)).getD j 0 = 0 := by
  rw [List.getD, List.getElem?_replicate]; split <;> rfl

theorem rep_val (n : Nat) : val (List.replicate n 0) = 0 := val_zero (rep_getD n)

theorem small_bt {zs ps : List Nat} (h1 : Small zs) (h2 : Small ps) (i k : Nat) : Small (btRow zs ps i k) :=
  small_app (small_app (fun n hn => h1 n (List.mem_of_mem_take hn)) h2) (small_drop h1 _)

set_option maxHeartbeats 2000000 in
theorem times_walk (a1 a2 : Option Addr) (c1 c2 : Nat) (ns1 ns2 : List Nat) (low1 low2 : Int) (w : World)
    (h1 : Ws w (.slice a1 ns1.length c1) ns1) (h2 : Ws w (.slice a2 ns2.length c2) ns2) (hT : Tab w) (l1 : ns1.length ≤ 10000) (l2 : ns2.length ≤ 10000)
    (b1 : -70000 ≤ low1) (b2 : low1 ≤ 70000) (b3 : -70000 ≤ low2) (b4 : low2 ≤ 70000) :
    Calls Tryd.prog 34 #[.agg #[.slice a1 ns1.length c1, .int .i64 low1], .agg #[.slice a2 ns2.length c2, .int .i64 low2]] w fun e w' => Made w w' (val ns1 * val ns2) (low1 + low2) e := by
  obtain ⟨i0, hi, hz0, hz1, hz2⟩ := info_parts Tryd.info49'
  have HT : Hid (Tab w) := hT
  have HB0 : Hid (Below w.heap.size w (((w.alloc (.cells #[.slice a1 ns1.length c1, .int .i64 low1] 33)).alloc (.cells #[.slice a2 ns2.length c2, .int .i64 low2] 33)).alloc (.cells #[.slice none 0 0, .int .i64 0] 33))) := (((Below.refl _ _).alloc (Nat.le_refl _) _).alloc (by simp) _).alloc (by simp; omega) _
  have l1' : (ns1.length : Int) ≤ 10000 := by omega
  have l2' : (ns2.length : Int) ≤ 10000 := by omega
  clear hT
  go_enter Tryd.func34, Tryd.ntmps34
  go_wp2_with (at_make; refine wpList_make_full _ rfl _ _ 31 rfl w.heap.size 49 i0 (.int .u64 0) 1 Tryd.underlying31 hi hz0 hz1 _ _ _ _ (ns1.length + ns2.length) rfl rfl ?hL ?hC ?b2 ?b3 ?b4 ?_)
  case hL => omega
  case hC => omega
  case b2 => rw [hz2]; omega
  case b3 => unfold maxLen; omega
  case b4 => simp; omega
  intro w0 hown0 hgrow0
  have hrow := Row.of_make hown0
  have hbW : Below (((w.alloc (.cells #[.slice a1 ns1.length c1, .int .i64 low1] 33)).alloc (.cells #[.slice a2 ns2.length c2, .int .i64 low2] 33)).alloc (.cells #[.slice none 0 0, .int .i64 0] 33)).heap.size (((w.alloc (.cells #[.slice a1 ns1.length c1, .int .i64 low1] 33)).alloc (.cells #[.slice a2 ns2.length c2, .int .i64 low2] 33)).alloc (.cells #[.slice none 0 0, .int .i64 0] 33)) w0 := (Below.refl _ _).grown hgrow0 (Nat.le_refl _) (fun k hk => by cases hk)
  have hx0 : w0.cell? ⟨w.heap.size, 0, none⟩ = some (.slice a1 ns1.length c1) := cell_later hbW (by go_simp)
  have hx1 : w0.cell? ⟨w.heap.size, 1, none⟩ = some (.int .i64 low1) := cell_later hbW (by go_simp)
  have hx2 : w0.cell? ⟨w.heap.size + 1, 0, none⟩ = some (.slice a2 ns2.length c2) := cell_later hbW (by go_simp)
  have hx3 : w0.cell? ⟨w.heap.size + 1, 1, none⟩ = some (.int .i64 low2) := cell_later hbW (by go_simp)
  clear hown0 hgrow0 hz0 hz1 hz2 hi
  go_wp2
  generalize hg : w.heap.size + 1 + 1 + 1 = g at *
  have hgN : w.heap.size + 3 ≤ g := by omega
  clear hg
  go_loopw [19] (fun j wr => ∃ (k : Nat) (zs : List Nat), k ≤ ns1.length ∧ j = .int .i64 k ∧ zs.length = ns1.length + ns2.length ∧ Small zs ∧ val zs = val (ns1.take k) * val ns2 ∧ (∀ t, k + ns2.length ≤ t → zs.getD t 0 = 0) ∧ Row wr 49 g (wds zs) ∧ wr.cell? ⟨w.heap.size, 0, none⟩ = some (.slice a1 ns1.length c1) ∧ wr.cell? ⟨w.heap.size, 1, none⟩ = some (.int .i64 low1) ∧ wr.cell? ⟨w.heap.size + 1, 0, none⟩ = some (.slice a2 ns2.length c2) ∧ wr.cell? ⟨w.heap.size + 1, 1, none⟩ = some (.int .i64 low2) ∧ Below (((w.alloc (.cells #[.slice a1 ns1.length c1, .int .i64 low1] 33)).alloc (.cells #[.slice a2 ns2.length c2, .int .i64 low2] 33)).alloc (.cells #[.slice none 0 0, .int .i64 0] 33)).heap.size (((w.alloc (.cells #[.slice a1 ns1.length c1, .int .i64 low1] 33)).alloc (.cells #[.slice a2 ns2.length c2, .int .i64 low2] 33)).alloc (.cells #[.slice none 0 0, .int .i64 0] 33)) wr)
    (fun j _ => ns1.length - (intOf j).toNat)
  case atStart => exact ⟨0, List.replicate (ns1.length + ns2.length) 0, Nat.zero_le _, rfl, by simp, fun n hn => by rw [List.mem_replicate] at hn; omega, by rw [rep_val]; simp [val], fun t _ => rep_getD _ t, by simpa [wds] using hrow, hx0, hx1, hx2, hx3, hbW⟩
  case round =>
    obtain ⟨k, zs, hk, rfl, hzl, hzs, hzv, hzz, hrk, hy0, hy1, hy2, hy3, hbk⟩ := hrel
    clear hx0 hx1 hx2 hx3 hbW hrow
    by_cases hlt : k < ns1.length
    · have hW1 := h1.later (thru HB0.out hbk) (Nat.le_refl _)
      obtain ⟨b, off, rfl, hck⟩ : ∃ b off, a1 = some ⟨b, off, none⟩ ∧ wr.cell? ⟨b, off + k, none⟩ = some (.int .u64 (ns1.getD k 0 : Nat)) := by
        obtain ⟨a, cap, hs, _, hc⟩ := hW1.shape
        simp only [Value.slice.injEq] at hs
        obtain ⟨rfl, _, rfl⟩ := hs
        rcases hc with hc | ⟨b, off, ha, _, hc⟩
        · rw [hc] at hlt; simp at hlt
        · exact ⟨b, off, ha, hc k hlt⟩
      have hkl : (k : Int) < (ns1.length : Int) := by omega
      have hwk := small_getD hW1.small k
      have HNV : Hid (∀ ps : List Nat, ps.length = ns2.length + 1 → val ps = val ((zs.drop k).take ns2.length) + val ns2 * ns1.getD k 0 → val (btRow zs ps k (ns2.length + 1)) = val (ns1.take (k + 1)) * val ns2 ∧ ∀ t, k + 1 + ns2.length ≤ t → (btRow zs ps k (ns2.length + 1)).getD t 0 = 0) := fun ps hp hv => by
        have := times_step zs ps k ns2.length (val ns2) (ns1.getD k 0) (by omega) hp hzz hv
        refine ⟨?_, this.2⟩
        rw [this.1, hzv, val_take_succ]
        generalize 2 ^ (64 * k) = p
        grind
      have hbt := fun (W : World) (hW : Below (((w.alloc (.cells #[.slice (some ⟨b, off, none⟩) ns1.length c1, .int .i64 low1] 33)).alloc (.cells #[.slice a2 ns2.length c2, .int .i64 low2] 33)).alloc (.cells #[.slice none 0 0, .int .i64 0] 33)).heap.size (((w.alloc (.cells #[.slice (some ⟨b, off, none⟩) ns1.length c1, .int .i64 low1] 33)).alloc (.cells #[.slice a2 ns2.length c2, .int .i64 low2] 33)).alloc (.cells #[.slice none 0 0, .int .i64 0] 33)) W) (hR : Row W 49 g (wds zs)) => bt_walk _ ns2 zs g k (ns1.getD k 0) w W h2 (thru HB0.out hW) (by omega) hR hzs hwk (by omega) (by omega)
      rw [hzl] at hbt
      have HBT : Hid _ := hbt
      have HZL : Hid _ := hzl
      have HRK : Hid (Row wr 49 g (wds zs)) := hrk
      have HZS : Hid (Small zs) := hzs
      generalize ns1.getD k 0 = x at *
      have hs1 : ((k : Int)) ≤ ((ns1.length + ns2.length : Nat) : Int) := by omega
      have hs2 : ¬ (ns1.length + ns2.length = k) := by omega
      have hs3 : ((k : Int)) ≤ (ns1.length : Int) + (ns2.length : Int) := by omega
      clear hbt hzl hzs hzv hzz hrk hW1 h1
      go_wp2
      go_region_held3 (fun W => W.cell? ⟨w.heap.size, 0, none⟩ = some (.slice (some ⟨b, off, none⟩) ns1.length c1) ∧ W.cell? ⟨w.heap.size, 1, none⟩ = some (.int .i64 low1) ∧ W.cell? ⟨w.heap.size + 1, 0, none⟩ = some (.slice a2 ns2.length c2) ∧ W.cell? ⟨w.heap.size + 1, 1, none⟩ = some (.int .i64 low2) ∧ Below (((w.alloc (.cells #[.slice (some ⟨b, off, none⟩) ns1.length c1, .int .i64 low1] 33)).alloc (.cells #[.slice a2 ns2.length c2, .int .i64 low2] 33)).alloc (.cells #[.slice none 0 0, .int .i64 0] 33)).heap.size (((w.alloc (.cells #[.slice (some ⟨b, off, none⟩) ns1.length c1, .int .i64 low1] 33)).alloc (.cells #[.slice a2 ns2.length c2, .int .i64 low2] 33)).alloc (.cells #[.slice none 0 0, .int .i64 0] 33)) W)
        (first
          | assumption
          | exact ⟨hy0, hy1, hy2, hy3, hbk.drew⟩
          | exact keep4g (by assumption) (by assumption) (by simp; omega) (by simp; omega) (by simp; omega) (by simp; omega) (by simp; omega))
        (first
          | (go_at_call 60; refine (HBT.out _ hbk.drew HRK.out).mono ?_; rintro e wy ⟨rfl, ps, hpl, hps, hpv, hpr, hgr⟩))
      have hh := (by assumption : wy.cell? ⟨w.heap.size, 0, none⟩ = _ ∧ wy.cell? _ = _ ∧ wy.cell? _ = _ ∧ wy.cell? _ = _ ∧ Below _ _ wy)
      have HH : Hid _ := hh
      have hnv := HNV.out ps hpl hpv
      have HN1 : Hid _ := hnv.1
      have HN2 : Hid _ := hnv.2
      have HPL : Hid _ := hpl
      have HPS : Hid _ := hps
      have HPR : Hid _ := hpr
      clear hh hnv hpl hps hpr hpv hgr
      go_wp2
      exact ⟨⟨k + 1, btRow zs ps k (ns2.length + 1), by omega, by go_num, by rw [btRow_length _ _ _ _ HPL.out (by have := HZL.out; omega)]; exact HZL.out, small_bt HZS.out HPS.out _ _, HN1.out, HN2.out, HPR.out, HH.out.1, HH.out.2.1, HH.out.2.2.1, HH.out.2.2.2.1, HH.out.2.2.2.2⟩, by simp [intOf]; omega⟩
    · have hkn : k = ns1.length := by omega
      subst hkn
      have hge : ¬ ((ns1.length : Int) < (ns1.length : Int)) := by omega
      have hBw : Below w.heap.size w wr := thru HB0.out hbk
      have hWz : Ws wr (.slice (some ⟨g, 0, none⟩) (ns1.length + ns2.length) (ns1.length + ns2.length)) zs := by
        have := hrk.ws hzs (by omega) (ns1.length + ns2.length) (by omega)
        rw [hzl] at this; exact this
      have hTb := HT.out.later hBw
      have q0 : wr.cell? ⟨w.heap.size + 1 + 1, 0, none⟩ = some (.slice none 0 0) := cell_later hbk (by go_simp)
      have q1 : wr.cell? ⟨w.heap.size + 1 + 1, 1, none⟩ = some (.int .i64 0) := cell_later hbk (by go_simp)
      have q2 : wr.frozen? ⟨w.heap.size + 1 + 1, 0, none⟩ = false := frozen_later hbk (by go_simp) (by simp)
      have q3 : wr.frozen? ⟨w.heap.size + 1 + 1, 1, none⟩ = false := frozen_later hbk (by go_simp) (by simp)
      have hsz : w.heap.size + 1 + 1 < wr.heap.size := by have := hbk.size; simp at this; omega
      have HZ : Hid (val zs = val ns1 * val ns2) := by rw [hzv, List.take_of_length_le (Nat.le_refl _)]; exact rfl
      have HWZ : Hid _ := hWz
      have HTB : Hid (Tab wr) := hTb
      have HBW : Hid _ := hBw
      clear hzl hzs hzv hzz hrk hbk h1 h2 hWz hTb hBw
      go_wp2_with fail
      refine (own_any _ zs _ _ HWZ.out HTB.out (by omega) (by omega)).mono ?_
      rintro e w5 ⟨s5, ns5, low5, rfl, hws5, ho5, ht5, hlo5, hb5⟩
      obtain ⟨a5, c5, rfl, hc5, hx5⟩ := hws5.shape
      have p0 := cell_later hb5 q0
      have p1 := cell_later hb5 q1
      have p2 := frozen_later hb5 q2 hsz
      have p3 := frozen_later hb5 q3 hsz
      have HX5 : Hid _ := hx5
      have HLO5 : Hid (-200000000 ≤ low5 ∧ low5 ≤ 200000000) := hlo5
      clear hx5 q0 q1 q2 q3 hlo5
      go_wp2
      refine bodyPost_ret (v := .agg #[.slice a5 ns5.length c5, .int .i64 low5]) (by simp [results, Tryd.results34, go_sem, p0, p1]) rfl ?_
      have hws6 := (hws5.set p0 (by intro n; simp) (.slice a5 ns5.length c5)).set (cell_ne p1 p0 (by simp) (.slice a5 ns5.length c5)) (by intro n; simp) (.int .i64 low5)
      refine ⟨_, ns5, low5, rfl, hws6, ho5, by rw [← HZ.out]; exact ht5, HLO5.out, ?_⟩
      exact ((thru HBW.out hb5).setCell (by simp; omega) _).setCell (by simp; omega) _

end Go.Proofs.YtfcgndgmbmkdgaaDoor

/- The walks of slices.Clone and of moved: a number's words copied, its lowest bit moved. -/
namespace Go.Proofs.YtfcgndgmbmkdgaaDoor
open Go.RowKit
attribute [local go_sem ↓] Go.wp_at_zero Go.wp_at_succ

theorem ws_of_owns {w : World} {base : Nat} {e : TypeId} {v : Value} {ns : List Nat} (h : w.ownsRow base e 1 v ns.length (wds ns)) (hs : Small ns) (hl : ns.length ≤ 1000000) : Ws w v ns := by
  obtain ⟨h0, ⟨rfl, hn⟩ | ⟨g, cap, cur, rfl, hb, hc, h2, h3, h4, h5⟩⟩ := h
  · have : ns = [] := List.length_eq_zero_iff.1 hn
    subst this
    exact ⟨⟨_, _, rfl, Nat.le_refl _, Or.inl rfl⟩, hs, hl⟩
  · refine ⟨⟨_, _, rfl, h2, Or.inr ⟨g, 0, rfl, ?_, fun j hj => ?_⟩⟩, hs, hl⟩
    · by_cases hg : g < w.heap.size
      · exact hg
      · rw [Array.getElem?_eq_none (by omega)] at hc; cases hc
    · have e1 : cur[j]? = some (.int .u64 (ns.getD j 0 : Nat)) := by
        have : (cur.toList.take (ns.length * 1))[j]? = (wds ns)[j]? := by rw [h5]
        rw [List.getElem?_take_of_lt (by omega), List.getElem?_eq_getElem (l := wds ns) (by rw [wds_length]; exact hj), wds_getD _ _ hj] at this
        simpa using this
      simp [World.cell?, hc, e1]

/-- A magnitude handed back: its words and its lowest bit. -/
def Back (w w' : World) (ns : List Nat) (low : Int) (e : Ending) : Prop := ∃ s, e = .returned (.agg #[s, .int .i64 low]) ∧ Ws w' s ns ∧ Below w.heap.size w w'

end Go.Proofs.YtfcgndgmbmkdgaaDoor

/- The walks of cmp.Compare at uint64 and of against: two magnitudes held against each other. -/
namespace Go.Proofs.YtfcgndgmbmkdgaaDoor
open Go.RowKit
attribute [local go_sem ↓] Go.wp_at_zero Go.wp_at_succ

def cmpI (x y : Int) : Int := if x < y then -1 else if y < x then 1 else 0

set_option maxHeartbeats 1000000 in
theorem isNaN64_any (x : Int) (w : World) : Calls Tryd.prog 82 #[.int .u64 x] w fun e w' => e = .returned (.bool false) ∧ w' = w := by
  go_enter Tryd.func82, Tryd.ntmps82
  go_wp2
  go_ret
  exact ⟨by simp, rfl⟩

set_option maxHeartbeats 1000000 in
theorem cmp64_any (x y : Int) (w : World) : Calls Tryd.prog 64 #[.int .u64 x, .int .u64 y] w fun e w' => e = .returned (.int .i64 (cmpI x y)) ∧ w' = w := by
  rcases Int.lt_trichotomy x y with h | h | h
  · have hx : ¬ y < x := by omega
    go_enter Tryd.func64, Tryd.ntmps64
    go_wp2_with (first | (go_at_call 82; refine (isNaN64_any _ _).mono ?_; rintro e w' ⟨rfl, rfl⟩))
    go_ret
    exact ⟨by simp [cmpI, h], rfl⟩
  · subst h
    have hx : ¬ x < x := by omega
    go_enter Tryd.func64, Tryd.ntmps64
    go_wp2_with (first | (go_at_call 82; refine (isNaN64_any _ _).mono ?_; rintro e w' ⟨rfl, rfl⟩))
    go_ret
    exact ⟨by simp [cmpI], rfl⟩
  · have hx : ¬ x < y := by omega
    go_enter Tryd.func64, Tryd.ntmps64
    go_wp2_with (first | (go_at_call 82; refine (isNaN64_any _ _).mono ?_; rintro e w' ⟨rfl, rfl⟩))
    go_ret
    exact ⟨by simp [cmpI, h, hx], rfl⟩

theorem cmpInt_any (x y : Int) (w : World) : Calls Tryd.prog 39 #[.int .i64 x, .int .i64 y] w fun e w' => e = .returned (.int .i64 (cmpI x y)) ∧ w' = w := by
  have e : cmpI x y = Lib.compareInt x y := by unfold cmpI Lib.compareInt; rfl
  rw [e]
  exact Tryd.cmp_Compare_int x y w

end Go.Proofs.YtfcgndgmbmkdgaaDoor

/- Plain facts: two numbers held against each other by windows. -/
namespace Go.Proofs.YtfcgndgmbmkdgaaDoor

theorem win_at (ns : List Nat) (L : Int) (k e : Nat) : win ns (L + (k : Nat)) (L + (e : Nat) - 64) = val ns * 2 ^ k * 18446744073709551616 / 2 ^ e % 18446744073709551616 := by
  unfold win
  have hB : (18446744073709551616 : Nat) = 2 ^ 64 := rfl
  by_cases h : e < k + 64
  · rw [if_pos (by omega), show (L + (k : Nat) - (L + (e : Nat) - 64) : Int).toNat = k + 64 - e by omega]
    congr 1
    have e1 : val ns * 2 ^ k * 18446744073709551616 = val ns * 2 ^ (k + 64 - e) * 2 ^ e := by
      rw [Nat.mul_assoc, Nat.mul_assoc, hB, ← Nat.pow_add, ← Nat.pow_add]; congr 2; omega
    rw [e1, Nat.mul_div_cancel _ (Nat.two_pow_pos _)]
  · rw [if_neg (by omega), show (L + (e : Nat) - 64 - (L + (k : Nat)) : Int).toNat = e - (k + 64) by omega]
    congr 1
    have e1 : val ns * 2 ^ k * 18446744073709551616 = val ns * 2 ^ (k + 64) := by rw [Nat.mul_assoc, hB, ← Nat.pow_add]
    rw [e1, show 2 ^ e = 2 ^ (k + 64) * 2 ^ (e - (k + 64)) by rw [← Nat.pow_add]; congr 1; omega, ← Nat.div_div_eq_div_mul, Nat.mul_div_cancel _ (Nat.two_pow_pos _)]

theorem div_step (X e : Nat) : X / 2 ^ e = 18446744073709551616 * (X / 2 ^ (e + 64)) + X / 2 ^ e % 18446744073709551616 := by
  rw [Nat.pow_add, ← Nat.div_div_eq_div_mul, show (2 : Nat) ^ 64 = 18446744073709551616 from rfl]
  omega

theorem lt_of_div {a b p : Nat} (h : a / p < b / p) : a < b := by
  rcases Nat.lt_or_ge a b with h1 | h1
  · exact h1
  · have := Nat.div_le_div_right (c := p) h1; omega

/-- The windows above being alike, these two tell. -/
theorem win_lt_tells {A C e : Nat} (h : A / 2 ^ (e + 64) = C / 2 ^ (e + 64)) (hw : A / 2 ^ e % 18446744073709551616 < C / 2 ^ e % 18446744073709551616) : A < C := by
  refine lt_of_div (p := 2 ^ e) ?_
  rw [div_step A, div_step C, h]; omega

theorem win_eq_tells {A C e : Nat} (h : A / 2 ^ (e + 64) = C / 2 ^ (e + 64)) (hw : A / 2 ^ e % 18446744073709551616 = C / 2 ^ e % 18446744073709551616) : A / 2 ^ e = C / 2 ^ e := by
  rw [div_step A, div_step C, h, hw]

/-- The higher highest bit is the greater number. -/
theorem hi_lt {ns1 ns2 : List Nat} {low1 low2 L : Int} {k1 k2 : Nat} (hk1 : low1 = L + (k1 : Nat)) (hk2 : low2 = L + (k2 : Nat)) (n1 : ns1 ≠ []) (n2 : ns2 ≠ []) (h2 : val ns2 ≠ 0) (h : hiB ns1 low1 < hiB ns2 low2) : val ns1 * 2 ^ k1 < val ns2 * 2 ^ k2 := by
  unfold hiB at h
  rw [if_neg n1, if_neg n2] at h
  have a1 : val ns1 < 2 ^ (Nat.log2 (val ns1) + 1) := Nat.lt_log2_self
  have a2 := Nat.log2_self_le h2
  have b1 : val ns1 * 2 ^ k1 < 2 ^ (Nat.log2 (val ns1) + 1) * 2 ^ k1 := Nat.mul_lt_mul_of_pos_right a1 (Nat.two_pow_pos _)
  have b2 : 2 ^ (Nat.log2 (val ns2)) * 2 ^ k2 ≤ val ns2 * 2 ^ k2 := Nat.mul_le_mul_right _ a2
  rw [← Nat.pow_add] at b1 b2
  exact Nat.lt_of_lt_of_le b1 (Nat.le_trans (Nat.pow_le_pow_right (by omega) (by omega)) b2)

/-- Above the highest bit there is nothing. -/
theorem hi_div {ns : List Nat} {low L : Int} {k : Nat} (hk : low = L + (k : Nat)) (n1 : ns ≠ []) (e : Nat) (he : hiB ns low + 1 = L + (e : Nat)) : val ns * 2 ^ k * 18446744073709551616 / 2 ^ (e + 64) = 0 := by
  unfold hiB at he
  rw [if_neg n1] at he
  rw [Nat.div_eq_zero_iff]
  right
  have a1 : val ns < 2 ^ (Nat.log2 (val ns) + 1) := Nat.lt_log2_self
  have b1 : val ns * 2 ^ k < 2 ^ (Nat.log2 (val ns) + 1) * 2 ^ k := Nat.mul_lt_mul_of_pos_right a1 (Nat.two_pow_pos _)
  rw [← Nat.pow_add] at b1
  rw [Nat.pow_add, show (2 : Nat) ^ 64 = 18446744073709551616 from rfl]
  refine Nat.mul_lt_mul_of_pos_right ?_ (by omega)
  rw [show e = Nat.log2 (val ns) + 1 + k by omega]; exact b1

/-- What is known of two numbers once the windows above the bit e have been alike (both numbers stand 64 bits up). -/
def Alike (A C : Nat) (e : Int) : Prop := if 0 < e then A * 18446744073709551616 / 2 ^ (e.toNat + 64) = C * 18446744073709551616 / 2 ^ (e.toNat + 64) else A = C

theorem alike_step {A C : Nat} {e : Nat} (he : 0 < e) (h : Alike A C (e : Nat)) (hw : A * 18446744073709551616 / 2 ^ e % 18446744073709551616 = C * 18446744073709551616 / 2 ^ e % 18446744073709551616) : Alike A C ((e : Int) - 64) := by
  unfold Alike at *
  rw [if_pos (by omega), Int.toNat_natCast] at h
  have h2 := win_eq_tells h hw
  by_cases h64 : 64 < e
  · rw [if_pos (by omega), show ((e : Int) - 64).toNat + 64 = e by omega]; exact h2
  · rw [if_neg (by omega)]
    have e1 : ∀ X : Nat, X * 18446744073709551616 / 2 ^ e = X * 2 ^ (64 - e) := by
      intro X
      rw [show (18446744073709551616 : Nat) = 2 ^ (64 - e) * 2 ^ e by rw [← Nat.pow_add, show 64 - e + e = 64 by omega], ← Nat.mul_assoc, Nat.mul_div_cancel _ (Nat.two_pow_pos _)]
    rw [e1, e1] at h2
    exact Nat.eq_of_mul_eq_mul_right (Nat.two_pow_pos _) h2

theorem alike_lt {A C : Nat} {e : Nat} (he : 0 < e) (h : Alike A C (e : Nat)) (hw : A * 18446744073709551616 / 2 ^ e % 18446744073709551616 < C * 18446744073709551616 / 2 ^ e % 18446744073709551616) : A < C := by
  unfold Alike at h
  rw [if_pos (by omega), Int.toNat_natCast] at h
  have := win_lt_tells h hw
  omega

theorem alike_symm {A C : Nat} {e : Int} (h : Alike A C e) : Alike C A e := by
  unfold Alike at *
  split
  · rename_i hp; rw [if_pos hp] at h; exact h.symm
  · rename_i hp; rw [if_neg hp] at h; exact h.symm

end Go.Proofs.YtfcgndgmbmkdgaaDoor

/- The walk of against: the sign of one magnitude less another. -/
namespace Go.Proofs.YtfcgndgmbmkdgaaDoor
open Go.RowKit
attribute [local go_sem ↓] Go.wp_at_zero Go.wp_at_succ

theorem ret_int {k : IntKind} {a b : Int} (h : a = b) : Ending.returned (.int k a) = .returned (.int k b) := by rw [h]

theorem bel4 {w W : World} {p1 p2 p3 p4 : Addr} {x1 x2 x3 x4 : Value} (h : W.cell? p1 = some x1 ∧ W.cell? p2 = some x2 ∧ W.cell? p3 = some x3 ∧ W.cell? p4 = some x4 ∧ Below w.heap.size w W) : Below w.heap.size w W := h.2.2.2.2

theorem cmp_lt {a b : Nat} (h : a < b) : cmpI (a : Int) (b : Int) = -1 := by unfold cmpI; rw [if_pos (by omega)]
theorem cmp_gt {a b : Nat} (h : b < a) : cmpI (a : Int) (b : Int) = 1 := by unfold cmpI; rw [if_neg (by omega), if_pos (by omega)]
theorem cmp_eq {a b : Nat} (h : a = b) : cmpI (a : Int) (b : Int) = 0 := by subst h; unfold cmpI; simp

set_option maxHeartbeats 2000000 in
theorem against_zero1 (a1 a2 : Option Addr) (c1 c2 n2 : Nat) (low1 low2 : Int) (w : World) :
    Calls Tryd.prog 40 #[.agg #[.slice a1 0 c1, .int .i64 low1], .agg #[.slice a2 n2 c2, .int .i64 low2]] w fun e w' => e = .returned (.int .i64 (cmpI 0 n2)) ∧ Below w.heap.size w w' := by
  have HB0 : Hid (Below w.heap.size w ((w.alloc (.cells #[.slice a1 0 c1, .int .i64 low1] 33)).alloc (.cells #[.slice a2 n2 c2, .int .i64 low2] 33))) := ((Below.refl _ _).alloc (Nat.le_refl _) _).alloc (by simp) _
  go_enter Tryd.func40, Tryd.ntmps40
  go_wp2_with fail
  refine (isZero_any _ _ _ _ _).mono ?_
  rintro e w1 ⟨rfl, hb1⟩
  have x0 : w1.cell? ⟨w.heap.size, 0, none⟩ = some (.slice a1 0 c1) := cell_later hb1 (by go_simp)
  have x2 : w1.cell? ⟨w.heap.size + 1, 0, none⟩ = some (.slice a2 n2 c2) := cell_later hb1 (by go_simp)
  have HB1 : Hid _ := hb1
  clear hb1
  go_wp2_with (first | (go_at_call 39; refine (cmpInt_any _ _ _).mono ?_; rintro e w' ⟨rfl, rfl⟩))
  go_ret
  exact ⟨rfl, thru HB0.out HB1.out⟩

set_option maxHeartbeats 2000000 in
theorem against_zero2 (a1 a2 : Option Addr) (c1 c2 n1 : Nat) (low1 low2 : Int) (w : World) (hn : ((n1 : Int) == 0) = false) :
    Calls Tryd.prog 40 #[.agg #[.slice a1 n1 c1, .int .i64 low1], .agg #[.slice a2 0 c2, .int .i64 low2]] w fun e w' => e = .returned (.int .i64 (cmpI n1 0)) ∧ Below w.heap.size w w' := by
  have HB0 : Hid (Below w.heap.size w ((w.alloc (.cells #[.slice a1 n1 c1, .int .i64 low1] 33)).alloc (.cells #[.slice a2 0 c2, .int .i64 low2] 33))) := ((Below.refl _ _).alloc (Nat.le_refl _) _).alloc (by simp) _
  go_enter Tryd.func40, Tryd.ntmps40
  go_wp2_with fail
  refine (isZero_any _ _ _ _ _).mono ?_
  rintro e w1 ⟨rfl, hb1⟩
  have x0 : w1.cell? ⟨w.heap.size, 0, none⟩ = some (.slice a1 n1 c1) := cell_later hb1 (by go_simp)
  have x2 : w1.cell? ⟨w.heap.size + 1, 0, none⟩ = some (.slice a2 0 c2) := cell_later hb1 (by go_simp)
  have x3 : w1.cell? ⟨w.heap.size + 1, 1, none⟩ = some (.int .i64 low2) := cell_later hb1 (by go_simp)
  have HB1 : Hid _ := hb1
  clear hb1
  go_wp2_with fail
  refine (isZero_any _ _ _ _ _).mono ?_
  rintro e w2 ⟨rfl, hb2⟩
  have y0 := cell_later hb2 x0
  have y2 := cell_later hb2 x2
  have HB2 : Hid _ := hb2
  clear hb2
  go_wp2_with (first | (go_at_call 39; refine (cmpInt_any _ _ _).mono ?_; rintro e w' ⟨rfl, rfl⟩))
  go_ret
  exact ⟨rfl, thru (thru HB0.out HB1.out) HB2.out⟩

set_option maxHeartbeats 4000000 in
theorem against_walk (a1 a2 : Option Addr) (c1 c2 : Nat) (ns1 ns2 : List Nat) (low1 low2 L : Int) (k1 k2 E A C : Nat) (w : World) (hA : val ns1 * 2 ^ k1 = A) (hC : val ns2 * 2 ^ k2 = C)
    (h1 : Ws w (.slice a1 ns1.length c1) ns1) (h2 : Ws w (.slice a2 ns2.length c2) ns2) (o1 : OwnF ns1 low1) (o2 : OwnF ns2 low2) (n1 : ns1 ≠ []) (n2 : ns2 ≠ [])
    (hL : min low1 low2 = L) (hk1 : low1 = L + (k1 : Nat)) (hk2 : low2 = L + (k2 : Nat)) (b1 : -70000 ≤ L) (b2 : low1 ≤ 70000) (b3 : low2 ≤ 70000) (hE : hiB ns1 low1 + 1 = L + (E : Nat)) (hE2 : E ≤ 1000000) :
    Calls Tryd.prog 40 #[.agg #[.slice a1 ns1.length c1, .int .i64 low1], .agg #[.slice a2 ns2.length c2, .int .i64 low2]] w fun e w' => e = .returned (.int .i64 (cmpI A C)) ∧ Below w.heap.size w w' := by
  have HB0 : Hid (Below w.heap.size w ((w.alloc (.cells #[.slice a1 ns1.length c1, .int .i64 low1] 33)).alloc (.cells #[.slice a2 ns2.length c2, .int .i64 low2] 33))) := ((Below.refl _ _).alloc (Nat.le_refl _) _).alloc (by simp) _
  have z1 : ((ns1.length : Int) == 0) = false := by rw [beq_eq_false_iff_ne]; have := List.length_pos_iff.2 n1; omega
  have z2 : ((ns2.length : Int) == 0) = false := by rw [beq_eq_false_iff_ne]; have := List.length_pos_iff.2 n2; omega
  have lo1 : -70000 ≤ low1 := by omega
  have lo2 : -70000 ≤ low2 := by omega
  have HA : Hid (val ns1 * 2 ^ k1 = A) := hA
  have HC : Hid (val ns2 * 2 ^ k2 = C) := hC
  have HK1 : Hid _ := hk1
  have HK2 : Hid _ := hk2
  have HE : Hid _ := hE
  clear hk1 hk2 hE hA hC
  go_enter Tryd.func40, Tryd.ntmps40
  go_wp2_with fail
  refine (isZero_any _ _ _ _ _).mono ?_
  rintro e w1 ⟨rfl, hb1⟩
  have x0 : w1.cell? ⟨w.heap.size, 0, none⟩ = some (.slice a1 ns1.length c1) := cell_later hb1 (by go_simp)
  have x1 : w1.cell? ⟨w.heap.size, 1, none⟩ = some (.int .i64 low1) := cell_later hb1 (by go_simp)
  have x2 : w1.cell? ⟨w.heap.size + 1, 0, none⟩ = some (.slice a2 ns2.length c2) := cell_later hb1 (by go_simp)
  have x3 : w1.cell? ⟨w.heap.size + 1, 1, none⟩ = some (.int .i64 low2) := cell_later hb1 (by go_simp)
  have HB1 : Hid (Below w.heap.size w w1) := thru HB0.out hb1
  clear hb1
  go_wp2_with fail
  refine (isZero_any _ _ _ _ _).mono ?_
  rintro e w2 ⟨rfl, hb2⟩
  have y0 := cell_later hb2 x0
  have y1 := cell_later hb2 x1
  have y2 := cell_later hb2 x2
  have y3 := cell_later hb2 x3
  have HB2 : Hid (Below w.heap.size w w2) := thru HB1.out hb2
  clear hb2 x0 x1 x2 x3 HB1 HB0
  go_wp2_with fail
  refine (highest_any _ ns1 _ _ (h1.later HB2.out (Nat.le_refl _)) (own_topped o1) (by omega) (by omega)).mono ?_
  rintro e w3 ⟨rfl, hb3⟩
  have x0 := cell_later hb3 y0
  have x1 := cell_later hb3 y1
  have x2 := cell_later hb3 y2
  have x3 := cell_later hb3 y3
  have HB3 : Hid (Below w.heap.size w w3) := thru HB2.out hb3
  clear hb3 y0 y1 y2 y3 HB2
  go_wp2_with fail
  refine (highest_any _ ns2 _ _ (h2.later HB3.out (Nat.le_refl _)) (own_topped o2) (by omega) (by omega)).mono ?_
  rintro e w4 ⟨rfl, hb4⟩
  have y0 := cell_later hb4 x0
  have y1 := cell_later hb4 x1
  have y2 := cell_later hb4 x2
  have y3 := cell_later hb4 x3
  have HB4 : Hid (Below w.heap.size w w4) := thru HB3.out hb4
  clear hb4 x0 x1 x2 x3 HB3
  go_wp2_with fail
  refine (cmpInt_any _ _ _).mono ?_
  rintro e w5 ⟨rfl, rfl⟩
  by_cases hh : hiB ns1 low1 = hiB ns2 low2
  · have hz : (cmpI (hiB ns1 low1) (hiB ns2 low2) != 0) = false := by unfold cmpI; simp [hh]
    have HAL : Hid (Alike A C (E : Nat)) := by
      unfold Alike
      have hp : 0 < (E : Int) := by have := own_low_hi o1; have := HE.out; have := HK1.out; omega
      rw [if_pos hp, Int.toNat_natCast, ← HA.out, ← HC.out, hi_div HK1.out n1 E HE.out, hi_div HK2.out n2 E (by rw [← hh]; exact HE.out)]; exact rfl
    have hEi : (E : Int) ≤ 1000000 := by omega
    have heq : hiB ns1 low1 = L + (E : Int) - 1 := by have := HE.out; omega
    have HH : Hid _ := hh
    clear hh
    generalize cmpI (hiB ns1 low1) (hiB ns2 low2) = c at *
    rw [heq]
    generalize hiB ns1 low1 = hi1 at *
    have HEQ : Hid _ := heq
    clear heq
    go_wp2
    go_loopw [8] (fun at' wr => ∃ e : Int, -64 ≤ e ∧ e ≤ E ∧ at' = .int .i64 (L + e - 64) ∧ Hid (Alike A C e) ∧ wr.cell? ⟨w.heap.size, 0, none⟩ = some (.slice a1 ns1.length c1) ∧ wr.cell? ⟨w.heap.size, 1, none⟩ = some (.int .i64 low1) ∧ wr.cell? ⟨w.heap.size + 1, 0, none⟩ = some (.slice a2 ns2.length c2) ∧ wr.cell? ⟨w.heap.size + 1, 1, none⟩ = some (.int .i64 low2) ∧ Hid (Below w.heap.size w wr))
      (fun at' _ => (intOf at' - L + 64).toNat)
    case atStart => exact ⟨E, by omega, by omega, by congr 1; omega, HAL, y0, y1, y2, y3, HB4⟩
    case round =>
      obtain ⟨e, he1, he2, rfl, hal, x0, x1, x2, x3, hb⟩ := hrel
      clear y0 y1 y2 y3 HB4 HAL
      by_cases hpos : 0 < e
      · obtain ⟨n, rfl⟩ := Int.eq_ofNat_of_zero_le (Int.le_of_lt hpos)
        have hgt : L - 64 < L + (n : Int) - 64 := by omega
        have W1 : Hid (win ns1 low1 (L + (n : Nat) - 64) = A * 18446744073709551616 / 2 ^ n % 18446744073709551616) := by rw [HK1.out, ← HA.out]; exact win_at _ _ _ _
        have W2 : Hid (win ns2 low2 (L + (n : Nat) - 64) = C * 18446744073709551616 / 2 ^ n % 18446744073709551616) := by rw [HK2.out, ← HC.out]; exact win_at _ _ _ _
        have hw1 : -400000000 ≤ L + (n : Int) - 64 := by omega
        have hw2 : L + (n : Int) - 64 ≤ 400000000 := by omega
        have H1 : Hid (Ws w (.slice a1 ns1.length c1) ns1) := h1
        have H2 : Hid (Ws w (.slice a2 ns2.length c2) ns2) := h2
        clear h1 h2
        generalize hat : L + (n : Int) - 64 = at' at *
        have HAT : Hid _ := hat
        clear hat
        go_wp2
        go_region_held3 (fun W => W.cell? ⟨w.heap.size, 0, none⟩ = some (.slice a1 ns1.length c1) ∧ W.cell? ⟨w.heap.size, 1, none⟩ = some (.int .i64 low1) ∧ W.cell? ⟨w.heap.size + 1, 0, none⟩ = some (.slice a2 ns2.length c2) ∧ W.cell? ⟨w.heap.size + 1, 1, none⟩ = some (.int .i64 low2) ∧ Below w.heap.size w W)
          (first
            | assumption
            | exact ⟨x0, x1, x2, x3, hb.out.drew⟩
            | exact keep4 (by assumption) (by assumption))
          (first
            | (go_at_call_of 65 low1; refine (window_any _ ns1 _ _ _ ?_ (by omega) (by omega) (by omega) (by omega)).mono ?_; exact H1.out.later (bel4 (by assumption)) (Nat.le_refl _); rintro e wx ⟨rfl, hbx⟩)
            | (go_at_call_of 65 low2; refine (window_any _ ns2 _ _ _ ?_ (by omega) (by omega) (by omega) (by omega)).mono ?_; exact H2.out.later (bel4 (by assumption)) (Nat.le_refl _); rintro e wx ⟨rfl, hbx⟩)
            | (go_at_call 64; refine (cmp64_any _ _ _).mono ?_; rintro e wz ⟨rfl, rfl⟩))
        have hh := (by assumption : wz.cell? ⟨w.heap.size, 0, none⟩ = some (.slice a1 ns1.length c1) ∧ wz.cell? ⟨w.heap.size, 1, none⟩ = some (.int .i64 low1) ∧ wz.cell? ⟨w.heap.size + 1, 0, none⟩ = some (.slice a2 ns2.length c2) ∧ wz.cell? ⟨w.heap.size + 1, 1, none⟩ = some (.int .i64 low2) ∧ Below w.heap.size w wz)
        have HHH : Hid _ := hh
        clear hh
        have hal' := hal.out
        have W1' := W1.out
        have W2' := W2.out
        rcases Nat.lt_trichotomy (win ns1 low1 at') (win ns2 low2 at') with hlt | heq | hgt
        · have hc := cmp_lt hlt
          have HF : Hid (cmpI A C = -1) := cmp_lt (alike_lt (by omega) hal' (by rw [← W1', ← W2']; exact hlt))
          clear hal' W1' W2' W1 W2 hlt
          go_wp2
          go_ret
          exact ⟨ret_int (hc.trans HF.out.symm), HHH.out.2.2.2.2⟩
        · have hc := cmp_eq heq
          have HF : Hid (Alike A C ((n : Int) - 64)) := alike_step (by omega) hal' (by rw [← W1', ← W2']; exact heq)
          clear hal' W1' W2' W1 W2 heq
          go_wp2
          exact ⟨⟨(n : Int) - 64, by omega, by omega, by have := HAT.out; congr 1; omega, HF, HHH.out.1, HHH.out.2.1, HHH.out.2.2.1, HHH.out.2.2.2.1, HHH.out.2.2.2.2⟩, by have := HAT.out; simp [intOf]; omega⟩
        · have hc := cmp_gt hgt
          have HF : Hid (cmpI A C = 1) := cmp_gt (alike_lt (by omega) (alike_symm hal') (by rw [← W1', ← W2']; exact hgt))
          clear hal' W1' W2' W1 W2 hgt
          go_wp2
          go_ret
          exact ⟨ret_int (hc.trans HF.out.symm), HHH.out.2.2.2.2⟩
      · have hge : ¬ (L - 64 < L + e - 64) := by omega
        have HF : Hid (cmpI A C = 0) := cmp_eq (by have := hal.out; unfold Alike at this; rw [if_neg hpos] at this; exact this)
        go_wp2
        go_ret
        exact ⟨by rw [HF.out]; rfl, hb.out⟩
  · have hne : (cmpI (hiB ns1 low1) (hiB ns2 low2) != 0) = true := by
      rw [bne_iff_ne]; unfold cmpI; split
      · omega
      · split <;> omega
    have HF : Hid (cmpI (hiB ns1 low1) (hiB ns2 low2) = cmpI A C) := by
      rcases Int.lt_or_gt_of_ne hh with h | h
      · rw [← HA.out, ← HC.out, cmp_lt (hi_lt HK1.out HK2.out n1 n2 (own_val o2 n2) h)]; unfold cmpI; rw [if_pos h]; exact rfl
      · rw [← HA.out, ← HC.out, cmp_gt (hi_lt HK2.out HK1.out n2 n1 (own_val o1 n1) h)]; unfold cmpI; rw [if_neg (by omega), if_pos h]; exact rfl
    clear hh
    generalize cmpI (hiB ns1 low1) (hiB ns2 low2) = c at *
    go_wp2
    go_ret
    exact ⟨by rw [← HF.out]; rfl, HB4.out⟩

end Go.Proofs.YtfcgndgmbmkdgaaDoor
