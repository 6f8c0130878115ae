/- Own texts, put together: Zd Ze Zf. -/
import Derived.Test.YtgoadpnoagaflaaDoorQ5
namespace Go.Proofs.YtgoadpnoagaflaaDoor
/- The reference's Neg; trim of any number. -/
section
open Go.RowKit
set_option maxHeartbeats 1000000 in
theorem trim_nil (a : Option Addr) (c : Nat) (S E : Int) (w : World) :
   Calls Tryd.prog 87 #[.agg #[.int .i64 S, .slice a 0 c, .int .i64 E]] w fun e w' => TrimR w w' S [] E e := by
 go_enter Tryd.func87, Tryd.ntmps87
 go_wp2
 go_loop [3] (fun s => s = .slice a 0 c) (fun _ => 0)
 case atStart => rfl
 case round =>
   subst hrel
   go_wp2
   go_loop [3, 4] (fun s e => s = .slice a 0 c ∧ e = .int .i64 E) (fun _ _ => 0)
   case atStart => exact ⟨rfl, rfl⟩
   case round =>
     obtain ⟨rfl, rfl⟩ := hrel
     go_wp2
     refine bodyPost_ret (v := .agg #[.int .i64 0, .slice none 0 0, .int .i64 0]) (by simp [results, Tryd.results87, go_sem]) rfl ?_
     refine ⟨_, 0, [], 0, rfl, ⟨⟨none, 0, rfl, by simp, Or.inl rfl⟩, by simp, by simp, by omega, by omega⟩, fun j => by rw [dgt_nil, dgt_nil], Or.inl ⟨rfl, rfl, rfl⟩, ?_⟩
     repeat (first | exact Below.refl _ _ | refine Below.alloc ?_ (by simp) _ | refine Below.setCell ?_ (by simp) _)
theorem trim_any (v : Value) (S E : Int) (ds : List Nat) (w : World) (h : Dig w v S ds E) (hE : E + (ds.length : Int) ≤ 1000000) :
   Calls Tryd.prog 87 #[v] w fun e w' => TrimR w w' S ds E e := by
 obtain ⟨⟨a, c, rfl, hcap, hf⟩, h2, h3, h4, h5⟩ := h
 by_cases h0 : ds = []
 · subst h0
   exact trim_nil a c S E w
 · rcases hf with hf | ⟨g, off, rfl, hf, hr⟩
   · exact absurd hf h0
   · have hl : 0 < ds.length := List.length_pos_iff.2 h0
     exact trim_walk g off c S E ds w hf h2 h3 hcap h4 hE hr
end

/- The reference's Low. -/
section
open Go.RowKit
def LowR (ds : List Nat) (E : Int) (e : Ending) : Prop := ∃ (ds' : List Nat) (E' : Int) (t x : Nat), e = .returned (.int .i64 (24 * E' + (t : Int))) ∧ (∀ j, dgt ds' E' j = dgt ds E j) ∧ ds'.getD 0 0 = x * 2 ^ t ∧ x % 2 = 1
set_option maxHeartbeats 2000000 in
theorem refLow_walk (a : Option Addr) (c : Nat) (S E : Int) (ds : List Nat) (w : World) (hd : Dig w (.agg #[.int .i64 S, .slice a ds.length c, .int .i64 E]) S ds E) (hE : E + (ds.length : Int) ≤ 1000000) (hS : (S == 0) = false) (hne : ∃ j, dgt ds E j ≠ 0) :
   Calls Tryd.prog 64 #[.agg #[.int .i64 S, .slice a ds.length c, .int .i64 E]] w fun e w' => LowR ds E e ∧ Below w.heap.size w w' := by
 have HD : Hid (Dig w (.agg #[.int .i64 S, .slice a ds.length c, .int .i64 E]) S ds E) := hd
 have HN : Hid (∃ j, dgt ds E j ≠ 0) := hne
 have HA : Hid (Below w.heap.size w (w.alloc (.cells #[.int .i64 S, .slice a ds.length c, .int .i64 E] 117))) := (Below.refl _ _).alloc (Nat.le_refl _) _
 clear hd hne
 go_enter Tryd.func64, Tryd.ntmps64
 go_wp2_with fail
 refine (trim_any _ S E ds _ (HD.out.later HA.out) hE).mono ?_
 rintro e w1 ⟨v1, S1, ds1, E1, rfl, hd1, heq, hcase, hb1⟩
 rcases hcase with ⟨rfl, _, _⟩ | ⟨hn1, rfl, hf0, _⟩
 · exfalso
   obtain ⟨j, hj⟩ := HN.out
   rw [← heq j, dgt_nil] at hj
   exact hj rfl
 obtain ⟨⟨a1, c1, rfl, hcap, hf⟩, hsm, hl1, he1, he2⟩ := hd1
 rcases hf with hf | ⟨g, off, rfl, hf, _⟩
 · exact absurd hf hn1
 have hlen : 0 < ds1.length := List.length_pos_iff.2 hn1
 have hc0 : w1.cell? ⟨g, off, none⟩ = some (.int .i64 (ds1.getD 0 0 : Nat)) := hf 0 hlen
 have hg : g < w1.heap.size := World.block_lt_of_cell? _ _ hc0
 have hlen' : (0 : Int) < (ds1.length : Int) := by omega
 have HB1 : Hid (Below w.heap.size w w1) := HA.out.trans (hb1.mono HA.out.size)
 have HQ : Hid (∀ j, dgt ds1 E1 j = dgt ds E j) := heq
 obtain ⟨x0, hx0⟩ : ∃ x, Hid (ds1.getD 0 0 = x) := ⟨_, rfl⟩
 have hxs : x0 < 16777216 := by
   have := hsm (ds1.getD 0 0) (by rw [List.getD_eq_getElem?_getD, List.getElem?_eq_getElem hlen]; simp)
   rwa [hx0.out] at this
 have hxp : x0 ≠ 0 := by rw [← hx0.out]; exact hf0
 rw [hx0.out] at hc0
 have hw24 : IntKind.i64.wrap (24 * E1) = 24 * E1 := wrapE _ (by omega) (by omega)
 clear hf hsm heq hf0 hb1
 go_wp2
 go_loop [4, 5] (fun n d => ∃ x t : Nat, x ≠ 0 ∧ Hid (x0 = x * 2 ^ t) ∧ t ≤ 24 ∧ x < 16777216 ∧ n = .int .i64 (24 * E1 + (t : Int)) ∧ d = .int .i64 (x : Int)) (fun _ d => (intOf d).toNat)
 case atStart => exact ⟨x0, 0, hxp, by simp [Hid], by omega, hxs, by simp, rfl⟩
 case round =>
   obtain ⟨x, t, hx, hxt, ht, hxl, rfl, rfl⟩ := hrel
   by_cases he : x % 2 = 0
   · have t1 : (((x : Nat) : Int) % 2 == 0) = true := by simp; omega
     have ht2 : t + 1 ≤ 24 := by
       have e1 : 2 ^ (t + 1) ≤ x * 2 ^ t := by rw [Nat.pow_succ, Nat.mul_comm]; exact Nat.mul_le_mul_right _ (by omega)
       rw [← hxt.out] at e1
       have : 2 ^ (t + 1) < 2 ^ 24 := Nat.lt_of_le_of_lt e1 hxs
       have := (Nat.pow_lt_pow_iff_right (by omega : 1 < 2)).1 this
       omega
     have hxt' : Hid (x0 = x / 2 * 2 ^ (t + 1)) := by
       have h2 : x = x / 2 * 2 := by omega
       show x0 = x / 2 * 2 ^ (t + 1)
       rw [hxt.out, Nat.pow_succ, Nat.mul_comm (2 ^ t) 2, ← Nat.mul_assoc, ← h2]
     have wk : IntKind.i64.wrap (24 * E1 + (t : Int) + 1) = 24 * E1 + ((t + 1 : Nat) : Int) := by rw [show 24 * E1 + (t : Int) + 1 = 24 * E1 + ((t + 1 : Nat) : Int) by omega]; exact wrapE _ (by omega) (by omega)
     clear hxt
     go_wp2
     go_round
     case rel => exact ⟨x / 2, t + 1, by omega, hxt', ht2, by omega, by first | rfl | simp, by simp⟩
     case measure => simp [intOf]; omega
   · have t1 : (((x : Nat) : Int) % 2 == 0) = false := by simp; omega
     go_wp2
     go_ret
     exact ⟨⟨ds1, E1, t, x, rfl, HQ.out, by rw [hx0.out]; exact hxt.out, by omega⟩, (HB1.out.trans (((Below.refl _ _).alloc (Nat.le_refl _) _).mono HB1.out.size))⟩
end

/- The reference's High. -/
section
open Go.RowKit
end
end Go.Proofs.YtgoadpnoagaflaaDoor
