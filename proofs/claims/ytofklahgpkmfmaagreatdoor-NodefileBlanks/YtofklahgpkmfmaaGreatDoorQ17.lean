/- Own texts, put together: Zi Zj Zk Zl Zm Zn Zo Zp Zq Eo Er Es Zr Zs. -/
import Derived.Test.YtofklahgpkmfmaaGreatDoorQ11
import Derived.Test.YtofklahgpkmfmaaGreatDoorQ12
import Derived.Test.YtofklahgpkmfmaaGreatDoorQ13
import Derived.Deep.RegionHeld3
import Derived.Deep.DrawnRows
import Derived.BigRegion
namespace Go.Proofs.YtofklahgpkmfmaaGreatDoor
/- The reference's Add: the digits. -/
section
open Go.RowKit
structure AddW (w : World) (O : Nat) (S1 S2 E1 E2 F : Int) (sv1 sv2 : Value) (ds : List Nat) (wr : World) (sv : Value) : Prop where
 a : BoxN wr w.heap.size S1 sv1 E1
 b : BoxN wr (w.heap.size + 1) S2 sv2 E2
 r : BoxN wr (w.heap.size + 2) 0 (.slice none 0 0) 0
 o : BoxN wr O S1 sv F
 row : wr.ownsRow (O + 1) 2 1 sv ds.length (i64s ds)
 bel : Below w.heap.size w wr
 siz : O + 1 ≤ wr.heap.size
 ord : w.heap.size + 3 ≤ O
theorem AddW.later {w W W' : World} {O : Nat} {S1 S2 E1 E2 F : Int} {sv1 sv2 : Value} {ds : List Nat} {sv : Value} (h : AddW w O S1 S2 E1 E2 F sv1 sv2 ds W sv) (hb : Below W.heap.size W W') : AddW w O S1 S2 E1 E2 F sv1 sv2 ds W' sv := by
 have hs := h.siz
 have ho := h.ord
 have hz := hb.size
 exact ⟨h.a.block (hb.block _ (by omega)), h.b.block (hb.block _ (by omega)), h.r.block (hb.block _ (by omega)), h.o.block (hb.block _ (by omega)), h.row.kept (row := none) ⟨hb.os, hb.tape, hb.output, hb.size, fun k hk _ => hb.block k hk⟩ (by cases sv.ownBlock <;> simp), h.bel.trans (hb.mono (by omega)), by omega, ho⟩
theorem AddW.boxed {w W w1 : World} {O : Nat} {S1 S2 E1 E2 F : Int} {sv1 sv2 : Value} {ds : List Nat} {sv : Value} {o : Obj} (h : AddW w O S1 S2 E1 E2 F sv1 sv2 ds W sv) (hg : (W.alloc o).grownBy w1 sv.ownBlock) : BoxN w1 O S1 sv F :=
 (h.o.alloc o).grown hg (own_apart h.row (show O < O + 1 by omega))
theorem below3 (w : World) (a b c : Obj) : Below w.heap.size w (((w.alloc a).alloc b).alloc c) := (((Below.refl _ _).alloc (Nat.le_refl _) _).alloc (by simp) _).alloc (by simp; omega) _
structure AddD (A B : Nat → Nat) (s : Int) (i : Nat) (zs : List Nat) (c : Int) : Prop where
 len : zs.length = i
 small : ∀ d ∈ zs, d < 16777216
 val : (v24 zs : Int) + ((2 ^ (24 * i) : Nat) : Int) * c = (A i : Int) + s * (B i : Int)
 c1 : -1 ≤ c
 c2 : c ≤ 1
theorem AddD.step {A B : Nat → Nat} {s c c' v : Int} {i a b d : Nat} {zs : List Nat} (h : AddD A B s i zs c) (hA : A (i + 1) = A i + 2 ^ (24 * i) * a) (hB : B (i + 1) = B i + 2 ^ (24 * i) * b) (hv : v = (a : Int) + s * (b : Int) + c) (hd : v = (d : Int) + 16777216 * c') (hdl : d < 16777216) (h1 : -1 ≤ c') (h2 : c' ≤ 1) : AddD A B s (i + 1) (zs ++ [d]) c' := by
 refine ⟨by simp [h.len], snoc_small h.small hdl, ?_, h1, h2⟩
 rw [v24_snoc, h.len, hA, hB, p24]
 have hval := h.val
 simp only [Int.natCast_add, Int.natCast_mul]
 generalize ((2 ^ (24 * i) : Nat) : Int) = P at *
 subst hv
 have e : ((16777216 : Nat) : Int) = 16777216 := rfl
 rw [e]
 grind
end

/- The reference's Add: the walk, the same sign. -/
section
open Go.RowKit
end

/- The reference's Add: the walk, other signs. -/
section
open Go.RowKit
end

/- The reference's Add, Sub, Cmp, Abs, of whatever numbers. -/
section
open Go.RowKit
end

/- The reference's Add of whatever numbers; Sub, Cmp, Abs. -/
section
open Go.RowKit
end

/- The reference's Mul: what stands while it goes. -/
section
open Go.RowKit
theorem v24_set {zs : List Nat} {j : Nat} (h : j < zs.length) (x : Nat) : v24 (zs.set j x) + 2 ^ (24 * j) * zs.getD j 0 = v24 zs + 2 ^ (24 * j) * x := by
 induction zs generalizing j with
 | nil => simp at h
 | cons a r ih =>
   cases j with
   | zero => simp [v24]; omega
   | succ j =>
     simp only [List.set_cons_succ, v24, List.getD_cons_succ]
     have := ih (j := j) (by simp at h; omega)
     rw [p24]
     grind
theorem set_small {zs : List Nat} {j x : Nat} (h : ∀ d ∈ zs, d < 16777216) (hx : x < 16777216) : ∀ d ∈ zs.set j x, d < 16777216 := by
 intro d hd
 rcases List.mem_or_eq_of_mem_set hd with hd | rfl
 · exact h d hd
 · exact hx
theorem getD_small {zs : List Nat} (h : ∀ d ∈ zs, d < 16777216) (j : Nat) : zs.getD j 0 < 16777216 := by
 by_cases hj : j < zs.length
 · rw [show zs.getD j 0 = zs[j] by simp [List.getD, hj]]
   exact h _ (List.getElem_mem hj)
 · simp [List.getD, List.getElem?_eq_none (Nat.le_of_not_lt hj)]
theorem set_getD {zs : List Nat} {j k x : Nat} (h : j ≠ k) : (zs.set j x).getD k 0 = zs.getD k 0 := by
 simp only [List.getD, List.getElem?_set]; rw [if_neg h]
structure MulO (ds1 ds2 zs : List Nat) (i : Nat) : Prop where
 len : zs.length = ds1.length + ds2.length
 small : ∀ d ∈ zs, d < 16777216
 val : v24 zs = v24 (ds1.take i) * v24 ds2
 top : ∀ j, i + ds2.length ≤ j → zs.getD j 0 = 0
structure MulI (ds1 ds2 zs0 zs : List Nat) (i k c : Nat) : Prop where
 len : zs.length = ds1.length + ds2.length
 small : ∀ d ∈ zs, d < 16777216
 val : v24 zs + 2 ^ (24 * (i + k)) * c = v24 zs0 + 2 ^ (24 * i) * (ds1.getD i 0 * v24 (ds2.take k))
 rest : ∀ j, i + k ≤ j → zs.getD j 0 = zs0.getD j 0
 carry : c < 16777216
theorem MulI.step {ds1 ds2 zs0 zs : List Nat} {i k c v : Nat} (h : MulI ds1 ds2 zs0 zs i k c) (hi : i < ds1.length) (hk : k < ds2.length) (s1 : ∀ d ∈ ds1, d < 16777216) (s2 : ∀ d ∈ ds2, d < 16777216) (hv : v = zs.getD (i + k) 0 + ds1.getD i 0 * ds2.getD k 0 + c) :
   MulI ds1 ds2 zs0 (zs.set (i + k) (v % 16777216)) i (k + 1) (v / 16777216) := by
 have hl : i + k < zs.length := by rw [h.len]; omega
 have hx := getD_small h.small (i + k)
 have ha := getD_small s1 i
 have hb := getD_small s2 k
 have hc := h.carry
 refine ⟨by simp [h.len], set_small h.small (Nat.mod_lt _ (by omega)), ?_, fun j hj => ?_, ?_⟩
 · have e1 := v24_set hl (v % 16777216)
   have e2 := h.val
   have e3 := Nat.mod_add_div v 16777216
   rw [v24_take_succ, show i + (k + 1) = i + k + 1 by omega, p24]
   have e4 : 2 ^ (24 * (i + k)) = 2 ^ (24 * i) * 2 ^ (24 * k) := by rw [← Nat.pow_add]; congr 1; omega
   generalize v % 16777216 = r at *
   generalize v / 16777216 = q at *
   generalize zs.getD (i + k) 0 = x at *
   generalize ds1.getD i 0 = a at *
   generalize ds2.getD k 0 = b at *
   generalize v24 (zs.set (i + k) r) = V at *
   rw [e4] at e1 e2 ⊢
   generalize 2 ^ (24 * i) = P at *
   generalize 2 ^ (24 * k) = R at *
   subst hv
   grind
 · rw [set_getD (by omega)]; exact h.rest j (by omega)
 · rw [Nat.div_lt_iff_lt_mul (by omega), hv]
   have : ds1.getD i 0 * ds2.getD k 0 ≤ 16777215 * 16777215 := Nat.mul_le_mul (by omega) (by omega)
   omega
theorem MulI.done {ds1 ds2 zs0 zs : List Nat} {i c : Nat} (h : MulI ds1 ds2 zs0 zs i ds2.length c) (h0 : MulO ds1 ds2 zs0 i) (hi : i < ds1.length) : zs.getD (i + ds2.length) 0 = 0 ∧ MulO ds1 ds2 (zs.set (i + ds2.length) c) (i + 1) := by
 have hl : i + ds2.length < zs.length := by rw [h.len]; omega
 have hz : zs.getD (i + ds2.length) 0 = 0 := by rw [h.rest _ (Nat.le_refl _)]; exact h0.top _ (Nat.le_refl _)
 refine ⟨hz, by simp [h.len], set_small h.small h.carry, ?_, fun j hj => ?_⟩
 · have e1 := v24_set hl c
   rw [hz] at e1
   have e2 := h.val
   rw [List.take_of_length_le (Nat.le_refl _)] at e2
   rw [v24_take_succ, h0.val] at *
   grind
 · rw [set_getD (by omega), h.rest j (by omega)]; exact h0.top j (by omega)
structure MulW (w : World) (O R : Nat) (S1 S2 SS E1 E2 : Int) (sv1 sv2 : Value) (zs : List Nat) (W : World) : Prop where
 a : BoxN W w.heap.size S1 sv1 E1
 b : BoxN W (w.heap.size + 1) S2 sv2 E2
 r : BoxN W (w.heap.size + 2) 0 (.slice none 0 0) 0
 o : BoxN W O SS (.slice (some ⟨R, 0, none⟩) zs.length zs.length) (E1 + E2)
 row : W.ownsRow R 2 1 (.slice (some ⟨R, 0, none⟩) zs.length zs.length) zs.length (i64s zs)
 bel : Below w.heap.size w W
 o1 : w.heap.size + 3 ≤ O
 o2 : w.heap.size + 3 ≤ R
 o3 : O ≠ R
theorem MulW.drew {w W : World} {O R : Nat} {S1 S2 SS E1 E2 : Int} {sv1 sv2 : Value} {zs : List Nat} (h : MulW w O R S1 S2 SS E1 E2 sv1 sv2 zs W) : MulW w O R S1 S2 SS E1 E2 sv1 sv2 zs W.drew := ⟨h.a, h.b, h.r, h.o, h.row, h.bel.drew, h.o1, h.o2, h.o3⟩
end

/- The reference's Mul: the walk. -/
section
open Go.RowKit
attribute [local go_sem ↓] Go.wp_at_zero Go.wp_at_succ
end

/- The reference's Neg, Sub, Cmp, Abs of whatever numbers. -/
section
open Go.RowKit
attribute [local go_sem ↓] Go.wp_at_zero Go.wp_at_succ
theorem Canon.neg {S E : Int} {ds : List Nat} (h : Canon S ds E) : Canon (-S) ds E := by
 rcases h with ⟨a, b, c⟩ | ⟨a, b, c, d⟩
 · exact Or.inl ⟨a, by omega, c⟩
 · exact Or.inr ⟨a, by omega, c, d⟩
theorem Rf.sgn {w : World} {v : Value} {q : Rat} (h : Rf w v q) : ∃ S a n c E, v = .agg #[.int .i64 S, .slice a n c, .int .i64 E] ∧ ((S = 0 ∧ q = 0) ∨ (S = 1 ∧ 0 < q) ∨ (S = -1 ∧ q < 0)) := by
 obtain ⟨S, ds, E, h1, h2, rfl⟩ := h
 obtain ⟨a, c, rfl, _⟩ := h1.form
 exact ⟨S, a, _, c, E, rfl, canon_sgn h2⟩
end

/- The reference's Mul, High and Low of whatever numbers. -/
section
open Go.RowKit
set_option maxHeartbeats 1000000 in
theorem mul_zero (a1 a2 : Option Addr) (n1 n2 c1 c2 : Nat) (S1 S2 E1 E2 : Int) (w : World) (h : S1 = 0 ∨ S2 = 0) :
   Calls Tryz.prog 77 #[.agg #[.int .i64 S1, .slice a1 n1 c1, .int .i64 E1], .agg #[.int .i64 S2, .slice a2 n2 c2, .int .i64 E2]] w fun e w' => e = .returned (.agg #[.int .i64 0, .slice none 0 0, .int .i64 0]) ∧ Below w.heap.size w w' := by
 by_cases h1 : S1 = 0
 · subst h1
   clear h
   go_enter Tryz.func77, Tryz.ntmps77
   go_wp2
   refine bodyPost_ret (v := .agg #[.int .i64 0, .slice none 0 0, .int .i64 0]) (by simp [results, Tryz.results77, go_sem]) rfl ?_
   exact ⟨rfl, below3 _ _ _ _⟩
 · obtain rfl : S2 = 0 := h.resolve_left h1
   have h1' : (S1 == 0) = false := by simpa using h1
   clear h h1
   go_enter Tryz.func77, Tryz.ntmps77
   go_wp2
   refine bodyPost_ret (v := .agg #[.int .i64 0, .slice none 0 0, .int .i64 0]) (by simp [results, Tryz.results77, go_sem]) rfl ?_
   exact ⟨rfl, below3 _ _ _ _⟩
end

/- The model's rounding is to the nearest, the even one between two. -/
section
theorem cut_even (neg : Bool) (n d : Nat) : ∃ k, Ieee.Toward.even.cut neg n d = k ∧ 2 * (k * 2 ^ d) ≤ 2 * n + 2 ^ d ∧ 2 * n ≤ 2 * (k * 2 ^ d) + 2 ^ d ∧ (2 * (k * 2 ^ d) = 2 * n + 2 ^ d → k % 2 = 0) ∧ (2 * n = 2 * (k * 2 ^ d) + 2 ^ d → k % 2 = 0) := by
 refine ⟨_, rfl, ?_⟩
 unfold Ieee.Toward.cut
 simp only [Nat.shiftLeft_eq, Nat.one_mul]
 rcases Nat.lt_or_ge (n.log2 + 2) d with h | h
 · rw [Nat.min_eq_right (by omega)]
   have h1 : n < 2 ^ (n.log2 + 1) := Nat.lt_log2_self
   have h2 : 2 ^ (n.log2 + 2) = 2 * 2 ^ (n.log2 + 1) := by rw [Nat.pow_succ]; omega
   have h3 : 2 ^ (n.log2 + 2) ≤ 2 ^ d := Nat.pow_le_pow_right (by omega) (by omega)
   generalize hg : 2 ^ (n.log2 + 2) = g at *
   generalize 2 ^ (n.log2 + 1) = g1 at *
   generalize 2 ^ d = D at *
   have e1 : n / g = 0 := Nat.div_eq_of_lt (by omega)
   have e2 : n % g = n := Nat.mod_eq_of_lt (by omega)
   rw [e1, e2]
   have e3 : (decide (g < 2 * n) || g == 2 * n && 0 % 2 == 1) = false := by simp; omega
   rw [e3]
   simp
   omega
 · rw [Nat.min_eq_left h]
   have hg : 0 < 2 ^ d := Nat.two_pow_pos d
   generalize 2 ^ d = g at *
   have hd := Nat.div_add_mod n g
   have hm := Nat.mod_lt n hg
   generalize n / g = low at *
   generalize n % g = rest at *
   rw [Nat.mul_comm] at hd
   by_cases hmore : g < 2 * rest ∨ (g = 2 * rest ∧ low % 2 = 1)
   · have e3 : (decide (g < 2 * rest) || g == 2 * rest && low % 2 == 1) = true := by simpa using hmore
     rw [e3]
     have : (low + true.toNat) * g = low * g + g := by simp [Nat.add_mul]
     rw [this]
     generalize low * g = P at *
     refine ⟨by omega, by omega, ?_, ?_⟩
     · intro h; simp; omega
     · intro h; simp; omega
   · have e3 : (decide (g < 2 * rest) || g == 2 * rest && low % 2 == 1) = false := by
       rw [Bool.eq_false_iff]; intro h; apply hmore; simpa using h
     rw [e3]
     have : (low + false.toNat) * g = low * g := by simp
     rw [this]
     generalize low * g = P at *
     refine ⟨by omega, by omega, ?_, ?_⟩
     · intro h; simp; omega
     · intro h; simp; omega
theorem int_eq {a b : Int} {u : Rat} (hu : 0 < u) (h : (a : Rat) * u = (b : Rat) * u) : a = b :=
 Int.le_antisymm (int_le hu (le_of_same h)) (int_le hu (le_of_same h.symm))
theorem log_bounds (mag : Nat) (hm : mag ≠ 0) (place : Int) : p2 (place + (mag.log2 : Nat)) ≤ (mag : Nat) * p2 place ∧ ((mag : Nat) : Rat) * p2 place < p2 (place + (mag.log2 : Nat) + 1) := by
 have h1 : 2 ^ mag.log2 ≤ mag := Nat.log2_self_le hm
 have h2 : mag < 2 ^ (mag.log2 + 1) := Nat.lt_log2_self
 have hp := p2_pos place
 constructor
 · rw [p2_add, p2_nat, Rat.mul_comm]
   exact Rat.mul_le_mul_of_nonneg_right (Rat.natCast_le_natCast.2 h1) (Rat.le_of_lt hp)
 · rw [show place + (mag.log2 : Nat) + 1 = place + ((mag.log2 + 1 : Nat) : Int) by omega, p2_add, p2_nat, Rat.mul_comm (p2 place)]
   exact Rat.mul_lt_mul_of_pos_right (Rat.natCast_lt_natCast.2 h2) hp
theorem nearest_near (neg : Bool) (mag : Nat) (place : Int) (hm : mag ≠ 0) : ∃ r, Ieee.double.nearest neg mag place = Ieee.double.word neg r ∧ Near ((mag : Nat) * p2 place) r := by
 unfold Ieee.Format.nearest
 rw [if_neg hm]
 simp only [d_lp, d_bin, d_inf, show Ieee.double.fractionBits = 52 from rfl]
 obtain ⟨last, hlast⟩ : ∃ l : Int, l = max (place + (mag.log2 : Nat) - ((52 : Nat) : Int)) (-1074) := ⟨_, rfl⟩
 rw [← hlast]
 obtain ⟨k, hk, c1, c2, c3, c4⟩ := cut_even neg (mag <<< (place - last).toNat) (last - place).toNat
 rw [hk]
 refine ⟨_, rfl, Or.inr ⟨?_, (last + 1074).toNat, k, ?_, ?_, by rw [show last - -1074 = last + 1074 by omega]⟩⟩
 · exact Rat.mul_pos (Rat.natCast_pos.2 (by omega)) (p2_pos _)
 · have hb := log_bounds mag hm place
   have eT : (((last + 1074).toNat : Nat) : Int) - 1075 = last - 1 := by omega
   rw [Last, eT]
   have x1 : ((9007199254740992 : Int) : Rat) * p2 (last - 1) = p2 (last + 52) := by
     rw [show last + 52 = (last - 1) + ((53 : Nat) : Int) by omega, p2_add, p2_nat, Rat.mul_comm]; rfl
   have x2 : ((18014398509481984 : Int) : Rat) * p2 (last - 1) = p2 (last + 53) := by
     rw [show last + 53 = (last - 1) + ((54 : Nat) : Int) by omega, p2_add, p2_nat, Rat.mul_comm]; rfl
   rw [x1, x2]
   constructor
   · by_cases h : last = -1074
     · left; omega
     · right
       have := p2_mono (a := last + 52) (b := place + (mag.log2 : Nat)) (by omega)
       exact Rat.le_trans this hb.1
   · exact lt_of_lt_le hb.2 (p2_mono (by omega))
 · have eT : (((last + 1074).toNat : Nat) : Int) - 1075 = last - 1 := by omega
   rw [eT]
   generalize hd : (last - place).toNat = d at *
   generalize hn : mag <<< (place - last).toNat = n at *
   rw [Nat.shiftLeft_eq] at hn
   have hv := p2_pos (last - (d : Nat) - 1)
   have e1 : ((mag : Nat) : Rat) * p2 place = ((2 * (n : Int) : Int) : Rat) * p2 (last - (d : Nat) - 1) := by
     have a1 : ((2 * (n : Int) : Int) : Rat) = 2 * ((n : Nat) : Rat) := by rw [Rat.intCast_mul]; rfl
     have a2 : p2 (last - (d : Nat)) = 2 * p2 (last - (d : Nat) - 1) := by
       have := p2_add 1 (last - (d : Nat) - 1)
       rwa [p2_one, show 1 + (last - (d : Nat) - 1) = last - (d : Nat) by omega] at this
     have a3 : ((mag : Nat) : Rat) * p2 place = ((n : Nat) : Rat) * p2 (last - (d : Nat)) := by
       rw [← hn, nat_mul_p2, Rat.mul_assoc, ← p2_add]
       congr 2; omega
     rw [a3, a1, a2]
     generalize p2 (last - (d : Nat) - 1) = v
     grind
   have e2 : ∀ z : Int, (z : Rat) * p2 (last - 1) = ((z * ((2 ^ d : Nat) : Int) : Int) : Rat) * p2 (last - (d : Nat) - 1) := fun z => by
     rw [show last - 1 = (d : Nat) + (last - (d : Nat) - 1) by omega, p2_add, p2_nat, Rat.intCast_mul, Rat.mul_assoc]; rfl
   rw [e1]
   unfold Half
   rw [e2, e2]
   have y1 : (2 * (k : Int) - 1) * ((2 ^ d : Nat) : Int) = 2 * ((k * 2 ^ d : Nat) : Int) - ((2 ^ d : Nat) : Int) := by rw [Int.natCast_mul]; grind
   have y2 : (2 * (k : Int) + 1) * ((2 ^ d : Nat) : Int) = 2 * ((k * 2 ^ d : Nat) : Int) + ((2 ^ d : Nat) : Int) := by rw [Int.natCast_mul]; grind
   rw [y1, y2]
   generalize k * 2 ^ d = P at *
   generalize 2 ^ d = D at *
   refine ⟨le_int hv (by omega), le_int hv (by omega), ?_, ?_⟩
   · intro h
     have := int_eq hv h
     exact c3 (by omega)
   · intro h
     have := int_eq hv h
     exact c4 (by omega)
end

/- What the language has of a sum, a difference, a product of two floats: the number, rounded. -/
section
def RV (q x : Rat) : Prop := ∃ r, r < 9218868437227405312 ∧ ((0 ≤ q ∧ Near q r ∧ x = fval r) ∨ (q ≤ 0 ∧ Near (-q) r ∧ x = -fval r))
theorem RV.fn {q x y : Rat} (h1 : RV q x) (h2 : RV q y) : x = y := by
 obtain ⟨r, _, h1⟩ := h1
 obtain ⟨s, _, h2⟩ := h2
 have z : ∀ {p : Rat}, 0 ≤ p → p ≤ 0 → p = 0 := fun a b => Rat.le_antisymm b a
 rcases h1 with ⟨a, n1, e1⟩ | ⟨a, n1, e1⟩ <;> rcases h2 with ⟨b, n2, e2⟩ | ⟨b, n2, e2⟩
 · rw [e1, e2, near_fun n1 n2]
 · have := z a b
   subst this
   rw [show -(0 : Rat) = 0 by grind] at n2
   rw [e1, e2, near_zero n1, near_zero n2, fval_zero]; grind
 · have := z b a
   subst this
   rw [show -(0 : Rat) = 0 by grind] at n1
   rw [e1, e2, near_zero n1, near_zero n2, fval_zero]; grind
 · rw [e1, e2, near_fun n1 n2]
theorem RV.neg {q x : Rat} (h : RV q x) : RV (-q) (-x) := by
 obtain ⟨r, hr, h⟩ := h
 refine ⟨r, hr, ?_⟩
 rcases h with ⟨a, n, e⟩ | ⟨a, n, e⟩
 · exact Or.inr ⟨by grind, by rwa [show - -q = q by grind], by rw [e]⟩
 · exact Or.inl ⟨by grind, n, by rw [e]; grind⟩
theorem fval_rung (T k : Nat) (hk : k ≤ 9007199254740992) (hT : T = 0 ∨ 4503599627370496 ≤ k) (hr : T * 4503599627370496 + k < 9218868437227405312) : fval (T * 4503599627370496 + k) = ((k : Nat) : Rat) * U T := by
 rw [(fval_pos_lt hr).1]
 unfold U
 rcases Nat.lt_or_ge k 4503599627370496 with h | h
 · have e : T = 0 := by omega
   subst e
   rw [show fmag (0 * 4503599627370496 + k) = k by unfold fmag; rw [if_pos (by omega)]; omega, show fpl (0 * 4503599627370496 + k) = ((0 : Nat) : Int) - 1074 by unfold fpl; rw [if_pos (by omega)]; rfl]
 · rcases Nat.lt_or_ge k 9007199254740992 with h2 | h2
   · rw [show fmag (T * 4503599627370496 + k) = k by unfold fmag; rw [if_neg (by omega)]; omega, show fpl (T * 4503599627370496 + k) = (T : Int) - 1074 by unfold fpl; rw [if_neg (by omega)]; omega]
   · have e : k = 9007199254740992 := by omega
     subst e
     rw [show fmag (T * 4503599627370496 + 9007199254740992) = 4503599627370496 by unfold fmag; rw [if_neg (by omega)]; omega, show fpl (T * 4503599627370496 + 9007199254740992) = 1 + ((T : Int) - 1074) by unfold fpl; rw [if_neg (by omega)]; omega, p2_add, p2_one]
     rw [show ((9007199254740992 : Nat) : Rat) = 9007199254740992 from rfl, show ((4503599627370496 : Nat) : Rat) = 4503599627370496 from rfl]
     grind
theorem half_unit (T : Nat) : U T = 2 * p2 ((T : Int) - 1075) := by
 unfold U
 rw [show (T : Int) - 1074 = 1 + ((T : Int) - 1075) by omega, p2_add, p2_one]
theorem near_rnd {q : Rat} {r : Nat} (h : Near q r) (hr : r < 9218868437227405312) : ∃ T k, Rnd q (fval r) T k := by
 rcases h with ⟨rfl, rfl⟩ | ⟨hq, T, k, hl, hh, e⟩
 · have hu := U_pos 0
   exact ⟨0, 0, by rw [fval_zero]; rw [show ((0 : Int) : Rat) = 0 from rfl]; grind, by rw [fval_zero]; grind, by rw [fval_zero]; grind, Or.inl rfl, by grind, by grind, by omega, by omega⟩
 · have hb := kept_bounds hl hh
   have e' : r = T * 4503599627370496 + k := by omega
   have hv := fval_rung T k hb.1 hb.2 (by omega)
   rw [← e'] at hv
   have hU := half_unit T
   have hu := p2_pos ((T : Int) - 1075)
   obtain ⟨l1, l2⟩ := hl
   obtain ⟨s1, s2, _, _⟩ := hh
   rw [show ((18014398509481984 : Int) : Rat) = 18014398509481984 from rfl] at l2
   rw [show ((9007199254740992 : Int) : Rat) = 9007199254740992 from rfl] at l1
   have e1 : ((2 * (k : Int) - 1 : Int) : Rat) = 2 * ((k : Nat) : Rat) - 1 := by rw [Rat.intCast_sub, Rat.intCast_mul]; rfl
   have e2 : ((2 * (k : Int) + 1 : Int) : Rat) = 2 * ((k : Nat) : Rat) + 1 := by rw [Rat.intCast_add, Rat.intCast_mul]; rfl
   rw [e1] at s1
   rw [e2] at s2
   have kv : ((k : Nat) : Rat) * U T = 2 * (((k : Nat) : Rat) * p2 ((T : Int) - 1075)) := by rw [hU]; grind
   have z1 : (2 * ((k : Nat) : Rat) - 1) * p2 ((T : Int) - 1075) = 2 * (((k : Nat) : Rat) * p2 ((T : Int) - 1075)) - p2 ((T : Int) - 1075) := by grind
   have z2 : (2 * ((k : Nat) : Rat) + 1) * p2 ((T : Int) - 1075) = 2 * (((k : Nat) : Rat) * p2 ((T : Int) - 1075)) + p2 ((T : Int) - 1075) := by grind
   rw [z1] at s1
   rw [z2] at s2
   have hx : fval r = ((k : Int) : Rat) * U T := by rw [hv]; rfl
   rw [kv] at hv
   clear z1 z2 kv e1 e2 e e'
   generalize ((k : Nat) : Rat) * p2 ((T : Int) - 1075) = Z at *
   generalize p2 ((T : Int) - 1075) = h at *
   refine ⟨T, (k : Int), hx, by rw [hv, hU]; grind, by rw [hv, hU]; grind, ?_, by rw [hU]; grind, by rw [hU]; grind, by omega, by omega⟩
   rcases l1 with l1 | l1
   · exact Or.inl l1
   · exact Or.inr (Or.inl (by rw [hU]; grind))
theorem RV.rn {q x : Rat} (h : RV q x) : RN q x := by
 obtain ⟨r, hr, h⟩ := h
 rcases h with ⟨_, n, rfl⟩ | ⟨_, n, rfl⟩
 · exact near_rnd n hr
 · obtain ⟨T, k, R⟩ := near_rnd n hr
   have := R.neg
   rw [show - -q = q by grind] at this
   exact ⟨T, _, this⟩
theorem near_lt {q : Rat} {r : Nat} (h : Near q r) (hq : q < p2 1023) : r < 9218868437227405312 := by
 rcases h with ⟨rfl, rfl⟩ | ⟨_, T, k, hl, hh, e⟩
 · omega
 · have hb := kept_bounds hl hh
   have hT : T < 2045 := by
     rcases hl.1 with h | h
     · omega
     · have e1 : ((9007199254740992 : Int) : Rat) * p2 ((T : Int) - 1075) = p2 ((T : Int) - 1022) := by
         rw [show (T : Int) - 1022 = ((T : Int) - 1075) + ((53 : Nat) : Int) by omega, p2_add, p2_nat, Rat.mul_comm]; rfl
       rw [e1] at h
       have := p2_lt_iff.1 (lt_of_le_lt h hq)
       omega
   omega
theorem fc_word {b : Nat} (h : Fin64 b) : ∃ S m, FC (fval b) S m := by
 have key : ∀ r, r < 9218868437227405312 → ∃ S m, FC ((fmag r : Nat) * p2 (fpl r)) S m := by
   intro r _
   have hm := fmag_lt r
   by_cases h : r < 4503599627370496
   · refine ⟨0, (fmag r : Int), ?_, by omega, by omega, Or.inl rfl⟩
     unfold U fpl
     rw [if_pos h]; rfl
   · refine ⟨r / 4503599627370496 - 1, (fmag r : Int), ?_, by omega, by omega, Or.inr (Or.inl ?_)⟩
     · unfold U fpl
       rw [if_neg h, show ((r / 4503599627370496 - 1 : Nat) : Int) - 1074 = -1074 + ((r / 4503599627370496 - 1 : Nat) : Int) by omega]; rfl
     · unfold fmag; rw [if_neg h]; omega
 obtain ⟨S, m, c⟩ := key (frung b) h
 unfold fval sgn1
 cases fneg b
 · refine ⟨S, m, ?_⟩
   rw [if_neg (by decide), Rat.one_mul]; exact c
 · refine ⟨S, -m, ?_⟩
   rw [if_pos rfl]
   have := c.neg
   rwa [show -((fmag (frung b) : Nat) * p2 (fpl (frung b)) : Rat) = -1 * ((fmag (frung b) : Nat) * p2 (fpl (frung b))) by grind] at this
theorem write_rv (s : Bool) (m : Nat) (place : Int) (hq : ((m : Nat) : Rat) * p2 place < p2 1023) : ∃ r, Ieee.double.write (.number s m place) = r ∧ Fin64 r ∧ r < 18446744073709551616 ∧ RV (sgn1 s * ((m : Nat) * p2 place)) (fval r) := by
 have fin : ∀ r0, r0 < 9218868437227405312 → Near ((m : Nat) * p2 place) r0 → ∃ r, Ieee.double.word s r0 = r ∧ Fin64 r ∧ r < 18446744073709551616 ∧ RV (sgn1 s * ((m : Nat) * p2 place)) (fval r) := by
   intro r0 h0 hn
   have hnn := (near_nonneg hn).1
   unfold sgn1
   cases s
   · refine ⟨r0, rfl, by unfold Fin64 frung; omega, by omega, r0, h0, Or.inl ?_⟩
     rw [if_neg (by decide), Rat.one_mul]
     exact ⟨hnn, hn, rfl⟩
   · refine ⟨9223372036854775808 + r0, by rw [Ieee.Format.word, d_sw]; rfl, by unfold Fin64 frung; omega, by omega, r0, h0, Or.inr ?_⟩
     rw [if_pos rfl, fval_word h0]
     generalize ((m : Nat) : Rat) * p2 place = z at *
     exact ⟨by grind, by rwa [show -(-1 * z) = z by grind], rfl⟩
 show ∃ r, Ieee.double.nearest s m place = r ∧ _
 by_cases hm : m = 0
 · subst hm
   have : Ieee.double.nearest s 0 place = Ieee.double.word s 0 := by unfold Ieee.Format.nearest; rw [if_pos rfl]
   rw [this]
   exact fin 0 (by omega) (Or.inl ⟨by rw [show ((0 : Nat) : Rat) = 0 from rfl]; grind, rfl⟩)
 · obtain ⟨r0, e, hn⟩ := nearest_near s m place hm
   rw [e]
   exact fin r0 (near_lt hn hq) hn
end

/- Sums, differences and products of words. -/
section
def Lim (q : Rat) : Prop := q < p2 1023 ∧ -q < p2 1023
theorem abs_total (n : Int) (u : Rat) : ((n.natAbs : Nat) : Rat) * u = (if n < 0 then -((n : Rat) * u) else (n : Rat) * u) := by
 by_cases h : n < 0
 · rw [if_pos h]
   have e : ((n.natAbs : Nat) : Rat) = ((-n : Int) : Rat) := by
     rw [show ((n.natAbs : Nat) : Rat) = ((n.natAbs : Int) : Rat) from rfl, show (n.natAbs : Int) = -n by omega]
   rw [e, Rat.intCast_neg]; grind
 · rw [if_neg h]
   rw [show ((n.natAbs : Nat) : Rat) = ((n.natAbs : Int) : Rat) from rfl, show (n.natAbs : Int) = n by omega]
theorem fval_eq (b : Nat) : fval b = sgn1 (fneg b) * ((fmag (frung b) : Nat) * p2 (fpl (frung b))) := rfl
theorem mul_bits {a b : Nat} (ha : Fin64 a) (hb : Fin64 b) (hq : Lim (fval a * fval b)) : ∃ r, floatBits .mul .f64 a b = some r ∧ Fin64 r ∧ r < 18446744073709551616 ∧ RV (fval a * fval b) (fval r) := by
 show ∃ r, ((Ieee.double.read a).product (Ieee.double.read b)).map Ieee.double.write = some r ∧ _
 rw [read_fin ha, read_fin hb]
 unfold Ieee.Datum.product
 simp only [Option.map_some]
 have e : fval a * fval b = sgn1 (fneg a ^^ fneg b) * (((fmag (frung a) * fmag (frung b) : Nat) : Rat) * p2 (fpl (frung a) + fpl (frung b))) := by
   rw [fval_eq a, fval_eq b, p2_add, Rat.natCast_mul]
   generalize ((fmag (frung a) : Nat) : Rat) = m
   generalize ((fmag (frung b) : Nat) : Rat) = n
   generalize p2 (fpl (frung a)) = u
   generalize p2 (fpl (frung b)) = v
   cases fneg a <;> cases fneg b <;> simp [sgn1] <;> grind
 rw [e] at hq ⊢
 have hnn : (0 : Rat) ≤ ((fmag (frung a) * fmag (frung b) : Nat) : Rat) * p2 (fpl (frung a) + fpl (frung b)) := Rat.mul_nonneg Rat.natCast_nonneg (Rat.le_of_lt (p2_pos _))
 obtain ⟨r, hr, h⟩ := write_rv (fneg a ^^ fneg b) (fmag (frung a) * fmag (frung b)) (fpl (frung a) + fpl (frung b)) (by
   generalize ((fmag (frung a) * fmag (frung b) : Nat) : Rat) * p2 (fpl (frung a) + fpl (frung b)) = z at *
   cases hs : (fneg a ^^ fneg b)
   · rw [hs] at hq; have := hq.1; simp [sgn1] at this; grind
   · rw [hs] at hq; have := hq.2; simp [sgn1] at this; grind)
 exact ⟨r, by rw [hr], h⟩
end

/- The reference's Of: what a float denotes. -/
section
open Go.RowKit
def den (b : Nat) : Rat := if frung b < 9218868437227405312 then fval b else 0
def nanW (a b : Nat) (w : World) : Nat := Question.cut (.nanBits .f64 a b) (w.tape w.drawn (.nanBits .f64 a b))
end

/- The reference's Of, of any float. -/
section
open Go.RowKit
theorem order_val {a b : Nat} (ha : Fin64 a) (hb : Fin64 b) : FloatKind.f64.format.order a b = some (if fval a < fval b then .lt else if fval a = fval b then .eq else .gt) := order_fin ha hb
end
end Go.Proofs.YtofklahgpkmfmaaGreatDoor
