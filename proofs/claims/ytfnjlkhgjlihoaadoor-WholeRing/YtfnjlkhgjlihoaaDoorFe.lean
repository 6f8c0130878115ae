/- Of and Int: the numbers that a float and a whole number are. -/
import Derived.Test.YtfnjlkhgjlihoaaDoorFd
import Derived.Test.YtfnjlkhgjlihoaaDoorM8
namespace Go.Proofs.YtfnjlkhgjlihoaaDoor
open Go.RowKit

/-- A row of one word is words. -/
theorem row_one {w : World} {g x : Nat} (hc : w.cell? ⟨g, 0, none⟩ = some (.int .u64 (x : Nat))) (hg : g < w.heap.size) (hx : x < 18446744073709551616) : Ws w (.slice (some ⟨g, 0, none⟩) 1 1) [x] :=
  ⟨⟨_, _, rfl, Nat.le_refl _, Or.inr ⟨g, 0, rfl, hg, fun j hj => by
    have : j = 0 := by simpa using hj
    subst this
    simpa using hc⟩⟩, fun n hn => by simp at hn; omega, by simp⟩

theorem val_one (x : Nat) : val [x] = x := by simp [val]

set_option maxHeartbeats 2000000 in
theorem int_walk (n : Int) (m : Nat) (ng : Bool) (w : World) (hT : Tab w) (hn : decide (n < 0) = ng) (h1 : IntKind.u64.wrap n = (m : Int) ∧ ng = false ∨ (∃ p : Nat, IntKind.u64.wrap n = (p : Int) ∧ IntKind.u64.wrap (-(p : Int)) = (m : Int)) ∧ ng = true) (hm : m < 18446744073709551616) :
    Calls Tryd.prog 9 #[.int .i64 n] w fun e w' => NumR w w' (sg ng * ((m : Nat) * p2 0)) e := by
  have HT : Hid (Tab w) := hT
  have HM : Hid (m < 18446744073709551616) := hm
  clear hT hm
  rcases h1 with ⟨h1, rfl⟩ | ⟨⟨p, h1, h2⟩, rfl⟩
  · have hn' : ¬ n < 0 := by simpa using hn
    have HD : Hid (decide (n < 0) = false) := hn
    clear hn
    have HB0 : Hid (Below w.heap.size w ((w.alloc (.cells #[.slice none 0 0, .int .i64 0, .bool false, .bool false] 27)).alloc (.cells #[.int .u64 (m : Nat)] 52))) := ((Below.refl _ _).alloc (Nat.le_refl _) _).alloc (by simp) _
    have HW : Hid (Ws ((w.alloc (.cells #[.slice none 0 0, .int .i64 0, .bool false, .bool false] 27)).alloc (.cells #[.int .u64 (m : Nat)] 52)) (.slice (some ⟨w.heap.size + 1, 0, none⟩) 1 1) [m]) := row_one (by go_simp) (by simp) HM.out
    go_enter Tryd.func9, Tryd.ntmps9
    go_wp2_with fail
    refine (own_any _ [m] _ _ HW.out (HT.out.later HB0.out) (by omega) (by omega)).mono ?_
    rintro e w5 ⟨s5, ns5, low5, rfl, hws5, ho5, ht5, hlo5, hb5⟩
    have hq5 := tells_magR ht5
    rw [val_one] at hq5
    go_wp2_with fail
    refine (number_any _ ns5 _ _ _ hws5 ho5 hlo5.1 hlo5.2).mono ?_
    rintro e w6 ⟨v9, x9, rfl, ⟨a9, ns9, c9, low9, neg9, nn9, rfl, hws9, hrest⟩, hN9, hb6⟩
    have hB6 := thru hb5 hb6
    have t0 : w6.cell? ⟨w.heap.size, 0, none⟩ = some (.slice none 0 0) := cell_later hB6 (by go_simp)
    have t1 : w6.cell? ⟨w.heap.size, 1, none⟩ = some (.int .i64 0) := cell_later hB6 (by go_simp)
    have t2 : w6.cell? ⟨w.heap.size, 2, none⟩ = some (.bool false) := cell_later hB6 (by go_simp)
    have t3 : w6.cell? ⟨w.heap.size, 3, none⟩ = some (.bool false) := cell_later hB6 (by go_simp)
    have u0 : ∀ i, w6.frozen? ⟨w.heap.size, i, none⟩ = false := fun i => frozen_later hB6 (by go_simp) (by simp; omega)
    have HB6 : Hid (Below w.heap.size w w6) := thru HB0.out hB6
    rw [hq5] at hN9
    rw [HD.out] at hN9
    have HN9 : Hid _ := hN9
    clear hb5 hb6 hB6 hq5 hlo5 hws5 ho5 hN9 HB0 ht5
    have HRST : Hid _ := hrest
    clear hrest
    go_wp2
    refine bodyPost_ret (v := .agg #[.slice a9 ns9.length c9, .int .i64 low9, .bool neg9, .bool nn9]) (by simp [results, Tryd.results9, go_sem, t0, t1, t2, t3]) rfl ?_
    have hw9 := ws4 hws9 t0 t1 t2 t3 (.slice a9 ns9.length c9) (.int .i64 low9) (.bool neg9) (.bool nn9)
    refine ⟨_, x9, rfl, ⟨a9, ns9, c9, low9, neg9, nn9, rfl, hw9, HRST.out⟩, HN9.out, ?_⟩
    repeat (first | exact HB6.out | refine Below.drew ?_ | refine Below.setCell ?_ (by simp) _)
  · have hn' : n < 0 := by simpa using hn
    clear hn
    have HB0 : Hid (Below w.heap.size w ((w.alloc (.cells #[.slice none 0 0, .int .i64 0, .bool false, .bool false] 27)).alloc (.cells #[.int .u64 (m : Nat)] 52))) := ((Below.refl _ _).alloc (Nat.le_refl _) _).alloc (by simp) _
    have HW : Hid (Ws ((w.alloc (.cells #[.slice none 0 0, .int .i64 0, .bool false, .bool false] 27)).alloc (.cells #[.int .u64 (m : Nat)] 52)) (.slice (some ⟨w.heap.size + 1, 0, none⟩) 1 1) [m]) := row_one (by go_simp) (by simp) HM.out
    go_enter Tryd.func9, Tryd.ntmps9
    go_wp2_with fail
    refine (own_any _ [m] _ _ HW.out (HT.out.later HB0.out) (by omega) (by omega)).mono ?_
    rintro e w5 ⟨s5, ns5, low5, rfl, hws5, ho5, ht5, hlo5, hb5⟩
    have hq5 := tells_magR ht5
    rw [val_one] at hq5
    go_wp2_with fail
    refine (number_any _ ns5 _ _ _ hws5 ho5 hlo5.1 hlo5.2).mono ?_
    rintro e w6 ⟨v9, x9, rfl, ⟨a9, ns9, c9, low9, neg9, nn9, rfl, hws9, hrest⟩, hN9, hb6⟩
    have hB6 := thru hb5 hb6
    have t0 : w6.cell? ⟨w.heap.size, 0, none⟩ = some (.slice none 0 0) := cell_later hB6 (by go_simp)
    have t1 : w6.cell? ⟨w.heap.size, 1, none⟩ = some (.int .i64 0) := cell_later hB6 (by go_simp)
    have t2 : w6.cell? ⟨w.heap.size, 2, none⟩ = some (.bool false) := cell_later hB6 (by go_simp)
    have t3 : w6.cell? ⟨w.heap.size, 3, none⟩ = some (.bool false) := cell_later hB6 (by go_simp)
    have u0 : ∀ i, w6.frozen? ⟨w.heap.size, i, none⟩ = false := fun i => frozen_later hB6 (by go_simp) (by simp; omega)
    have HB6 : Hid (Below w.heap.size w w6) := thru HB0.out hB6
    rw [hq5] at hN9
    have HN9 : Hid _ := hN9
    clear hb5 hb6 hB6 hq5 hlo5 hws5 ho5 hN9 HB0 ht5
    have HRST : Hid _ := hrest
    clear hrest
    go_wp2
    refine bodyPost_ret (v := .agg #[.slice a9 ns9.length c9, .int .i64 low9, .bool neg9, .bool nn9]) (by simp [results, Tryd.results9, go_sem, t0, t1, t2, t3]) rfl ?_
    have hw9 := ws4 hws9 t0 t1 t2 t3 (.slice a9 ns9.length c9) (.int .i64 low9) (.bool neg9) (.bool nn9)
    refine ⟨_, x9, rfl, ⟨a9, ns9, c9, low9, neg9, nn9, rfl, hw9, HRST.out⟩, HN9.out, ?_⟩
    repeat (first | exact HB6.out | refine Below.drew ?_ | refine Below.setCell ?_ (by simp) _)

/-- Int. -/
theorem int_any (n : Int) (w : World) (hT : Tab w) (h1 : -9223372036854775808 ≤ n) (h2 : n ≤ 9223372036854775807) :
    Calls Tryd.prog 9 #[.int .i64 n] w fun e w' => OpR w w' (fun x => x = some (n : Rat)) e := by
  have hm : May (n : Rat) := (int_bd n h1 h2).may (by omega) (by omega)
  have fin : ∀ e w', NumR w w' (n : Rat) e → OpR w w' (fun x => x = some (n : Rat)) e := by
    rintro e w' ⟨v, x, he, hn, hN, hb⟩
    refine ⟨v, x, he, hn, ?_, hb⟩
    rcases hN with ⟨_, h⟩ | ⟨h, _⟩
    · exact h
    · exact absurd hm h
  rcases Int.lt_or_le n 0 with h | h
  · have hw := int_walk n (-n).toNat true w hT (by simp; omega) (Or.inr ⟨⟨(n + 18446744073709551616).toNat, by rw [IntKind.wrap_u64]; omega, by rw [IntKind.wrap_u64]; omega⟩, rfl⟩) (by omega)
    have e : sg true * (((-n).toNat : Nat) * p2 0 : Rat) = (n : Rat) := by
      rw [p2_zero, Rat.mul_one]
      have : (((-n).toNat : Nat) : Rat) = ((-n : Int) : Rat) := by
        have : (((-n).toNat : Nat) : Int) = -n := by omega
        rw [← this]; rfl
      rw [this, Rat.intCast_neg]; simp only [sg, if_true]; grind
    rw [e] at hw
    exact hw.mono fin
  · have hw := int_walk n n.toNat false w hT (by simp; omega) (Or.inl ⟨by rw [IntKind.wrap_u64]; omega, rfl⟩) (by omega)
    have e : sg false * ((n.toNat : Nat) * p2 0 : Rat) = (n : Rat) := by
      rw [p2_zero, Rat.mul_one]
      have : ((n.toNat : Nat) : Rat) = ((n : Int) : Rat) := by
        have : ((n.toNat : Nat) : Int) = n := by omega
        rw [← this]; rfl
      rw [this]; simp only [sg, Bool.false_eq_true, if_false]; grind
    rw [e] at hw
    exact hw.mono fin

end Go.Proofs.YtfnjlkhgjlihoaaDoor
