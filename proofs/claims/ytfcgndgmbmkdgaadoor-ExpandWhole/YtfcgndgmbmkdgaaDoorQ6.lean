/- Own texts, put together: Za Zb Zc Zd Ze Zf Ya Zg Zh Zi Zj Zk Zl Zm Zn Zo Zp Zq Eo Ep. -/
import Derived.Test.YtfcgndgmbmkdgaaDoorQ1
import Derived.Below
import Derived.Deep.AppendLies
import Derived.OwnWalk
import Derived.Deep.RegionHeld3
import Derived.Deep.DrawnRows
import Derived.BigRegion
/- The reference's digit. -/
namespace Go.Proofs.YtfcgndgmbmkdgaaDoor
open Go.RowKit

/-- A block of int64. -/
def IntRow (w : World) (g : Nat) : Prop := ∃ cur fr, w.heap[g]? = some (.cells cur 2 fr)
theorem IntRow.lt {w : World} {g : Nat} (h : IntRow w g) : g < w.heap.size := by
  obtain ⟨cur, fr, h⟩ := h
  exact (Array.getElem?_eq_some_iff.1 h).1
theorem IntRow.block {w w' : World} {g : Nat} (h : IntRow w g) (he : w'.heap[g]? = w.heap[g]?) : IntRow w' g := by
  obtain ⟨cur, fr, h⟩ := h
  exact ⟨cur, fr, by rw [he]; exact h⟩
theorem IntRow.alloc {w : World} {g : Nat} (h : IntRow w g) (o : Obj) : IntRow (w.alloc o) g := h.block (Below.heap_alloc w o g h.lt)

/-- A number of the reference, in memory: its sign, its digits (the lowest first), its place. -/
structure Dig (w : World) (v : Value) (S : Int) (ds : List Nat) (E : Int) : Prop where
  form : ∃ a c, v = .agg #[.int .i64 S, .slice a ds.length c, .int .i64 E] ∧ ds.length ≤ c ∧ (ds = [] ∨ ∃ g off, a = some ⟨g, off, none⟩ ∧ (∀ k, k < ds.length → w.cell? ⟨g, off + k, none⟩ = some (.int .i64 (ds.getD k 0 : Nat))) ∧ IntRow w g)
  small : ∀ d ∈ ds, d < 16777216
  len : ds.length ≤ 1000000
  e1 : -1000000 ≤ E
  e2 : E ≤ 1000000

theorem Dig.later {w w' : World} {v : Value} {S E : Int} {ds : List Nat} (h : Dig w v S ds E) (hb : Below w.heap.size w w') : Dig w' v S ds E := by
  obtain ⟨⟨a, c, hv, hcap, hf⟩, h2, h3, h4, h5⟩ := h
  refine ⟨⟨a, c, hv, hcap, ?_⟩, h2, h3, h4, h5⟩
  rcases hf with hf | ⟨g, off, ha, hf, hr⟩
  · exact Or.inl hf
  · refine Or.inr ⟨g, off, ha, fun k hk => ?_, hr.block (hb.block g hr.lt)⟩
    have := hf k hk
    rw [hb.cell (World.block_lt_of_cell? _ _ this)]; exact this

/-- The digit at a place. -/
def dgt (ds : List Nat) (E i : Int) : Nat := if E ≤ i ∧ i < E + (ds.length : Int) then ds.getD (i - E).toNat 0 else 0

end Go.Proofs.YtfcgndgmbmkdgaaDoor

/- The reference's size. -/
namespace Go.Proofs.YtfcgndgmbmkdgaaDoor
open Go.RowKit

/-- Two magnitudes against each other, digit by digit from the top. -/
def SizeOf (ds1 : List Nat) (E1 : Int) (ds2 : List Nat) (E2 : Int) (r : Int) : Prop :=
  (r = 0 ∧ ∀ j, dgt ds1 E1 j = dgt ds2 E2 j) ∨ ∃ i, (∀ j, i < j → dgt ds1 E1 j = dgt ds2 E2 j) ∧ ((dgt ds2 E2 i < dgt ds1 E1 i ∧ r = 1) ∨ (dgt ds1 E1 i < dgt ds2 E2 i ∧ r = -1))

theorem dgt_above {ds : List Nat} {E j : Int} (h : E + (ds.length : Int) ≤ j) : dgt ds E j = 0 := by unfold dgt; rw [if_neg (by omega)]
theorem dgt_below {ds : List Nat} {E j : Int} (h : j < E) : dgt ds E j = 0 := by unfold dgt; rw [if_neg (by omega)]
theorem box_cell {w w' : World} (hb : Below w.heap.size w w') {p : Addr} {x : Value} (h : w.cell? p = some x) : w'.cell? p = some x := by
  rw [hb.cell (World.block_lt_of_cell? _ _ h)]; exact h

end Go.Proofs.YtfcgndgmbmkdgaaDoor

/- The reference's trim. -/
namespace Go.Proofs.YtfcgndgmbmkdgaaDoor
open Go.RowKit

theorem dgt_eq (ds : List Nat) (E j : Int) : dgt ds E j = if E ≤ j then ds.getD (j - E).toNat 0 else 0 := by
  unfold dgt
  by_cases h : E ≤ j
  · by_cases h2 : j < E + (ds.length : Int)
    · rw [if_pos ⟨h, h2⟩, if_pos h]
    · rw [if_neg (by omega), if_pos h]
      simp [List.getD, List.getElem?_eq_none (by omega : ds.length ≤ (j - E).toNat)]
  · rw [if_neg (by omega), if_neg h]
theorem dgt_nil (E j : Int) : dgt [] E j = 0 := by rw [dgt_eq]; split <;> simp
theorem dgt_zero {ds : List Nat} {E j : Int} (h : ∀ i, ds.getD i 0 = 0) : dgt ds E j = 0 := by rw [dgt_eq]; split; exact h _; rfl
theorem cut_getD {ds : List Nat} {n k i : Nat} (h : k + i < n) : ((ds.take n).drop k).getD i 0 = ds.getD (k + i) 0 := by
  simp [List.getD, List.getElem?_drop, h]
theorem dgt_cut {ds : List Nat} {E : Int} {n k : Nat} (_hk : k ≤ n) (h1 : ∀ j, j < k → ds.getD j 0 = 0) (h2 : ∀ j, n ≤ j → ds.getD j 0 = 0) (j : Int) : dgt ((ds.take n).drop k) (E + (k : Int)) j = dgt ds E j := by
  rw [dgt_eq, dgt_eq]
  by_cases a : E ≤ j
  · by_cases b : E + (k : Int) ≤ j
    · rw [if_pos a, if_pos b]
      by_cases c : (j - E).toNat < n
      · rw [cut_getD (by omega)]; congr 1; omega
      · rw [h2 _ (by omega)]
        simp [List.getD, List.getElem?_drop, List.getElem?_take]
        rw [if_neg (by omega)]; rfl
    · rw [if_pos a, if_neg b, h1 _ (by omega)]
  · rw [if_neg a, if_neg (by omega)]

/-- What trim hands back. -/
def TrimR (w w' : World) (S : Int) (ds : List Nat) (E : Int) (e : Ending) : Prop :=
  ∃ v S' ds' E', e = .returned v ∧ Dig w' v S' ds' E' ∧ (∀ j, dgt ds' E' j = dgt ds E j) ∧ ((ds' = [] ∧ S' = 0 ∧ E' = 0) ∨ (ds' ≠ [] ∧ S' = S ∧ ds'.getD 0 0 ≠ 0 ∧ ds'.getD (ds'.length - 1) 0 ≠ 0)) ∧ Below w.heap.size w w'

end Go.Proofs.YtfcgndgmbmkdgaaDoor

/- The reference's Neg; trim of any number. -/
namespace Go.Proofs.YtfcgndgmbmkdgaaDoor
open Go.RowKit

theorem wrap_neg1 {S : Int} (h : S = -1 ∨ S = 0 ∨ S = 1) : IntKind.i64.wrap (-S) = -S := wrapE _ (by omega) (by omega)

end Go.Proofs.YtfcgndgmbmkdgaaDoor

/- The reference's Low. -/
namespace Go.Proofs.YtfcgndgmbmkdgaaDoor
open Go.RowKit

/-- What Low hands back. -/
def LowR (ds : List Nat) (E : Int) (e : Ending) : Prop := ∃ (ds' : List Nat) (E' : Int) (t x : Nat), e = .returned (.int .i64 (24 * E' + (t : Int))) ∧ (∀ j, dgt ds' E' j = dgt ds E j) ∧ ds'.getD 0 0 = x * 2 ^ t ∧ x % 2 = 1

end Go.Proofs.YtfcgndgmbmkdgaaDoor

/- The reference's High. -/
namespace Go.Proofs.YtfcgndgmbmkdgaaDoor
open Go.RowKit

/-- What High hands back. -/
def HighR (ds : List Nat) (E : Int) (e : Ending) : Prop := ∃ (ds' : List Nat) (E' : Int) (t : Nat), e = .returned (.int .i64 (24 * (E' + (ds'.length : Int) - 1) + (t : Int))) ∧ (∀ j, dgt ds' E' j = dgt ds E j) ∧ ds' ≠ [] ∧ 2 ^ t ≤ ds'.getD (ds'.length - 1) 0 ∧ ds'.getD (ds'.length - 1) 0 < 2 ^ (t + 1)

end Go.Proofs.YtfcgndgmbmkdgaaDoor

/- The number that digits below 2^24 tell, plainly. -/
namespace Go.Proofs.YtfcgndgmbmkdgaaDoor

def v24 : List Nat → Nat
  | [] => 0
  | n :: r => n + 16777216 * v24 r

theorem p24 (k : Nat) : 2 ^ (24 * (k + 1)) = 16777216 * 2 ^ (24 * k) := by
  rw [show 24 * (k + 1) = 24 + 24 * k by omega, Nat.pow_add]
theorem v24_append (a b : List Nat) : v24 (a ++ b) = v24 a + 2 ^ (24 * a.length) * v24 b := by
  induction a with
  | nil => simp [v24]
  | cons x r ih => rw [List.cons_append, v24, v24, ih, List.length_cons, p24]; grind
theorem v24_snoc (a : List Nat) (x : Nat) : v24 (a ++ [x]) = v24 a + 2 ^ (24 * a.length) * x := by
  rw [v24_append]; simp [v24]
theorem v24_take_succ (l : List Nat) (k : Nat) : v24 (l.take (k + 1)) = v24 (l.take k) + 2 ^ (24 * k) * l.getD k 0 := by
  by_cases hk : k < l.length
  · rw [List.take_succ_eq_append_getElem hk, v24_append, List.length_take, Nat.min_eq_left (by omega)]
    simp [v24, List.getD, hk]
  · rw [List.take_of_length_le (by omega), List.take_of_length_le (by omega)]
    simp [List.getD, List.getElem?_eq_none (Nat.le_of_not_lt hk)]
theorem v24_lt {ds : List Nat} (h : ∀ d ∈ ds, d < 16777216) : v24 ds < 2 ^ (24 * ds.length) := by
  induction ds with
  | nil => simp [v24]
  | cons x r ih =>
    have h0 : x < 16777216 := h x (by simp)
    have h1 := ih (fun d hd => h d (by simp [hd]))
    rw [v24, List.length_cons, p24]
    omega
theorem v24_mod {ds : List Nat} (h : ∀ d ∈ ds, d < 16777216) : v24 ds % 16777216 = ds.getD 0 0 := by
  cases ds with
  | nil => simp [v24]
  | cons x r =>
    have h0 : x < 16777216 := h x (by simp)
    simp only [v24, List.getD_cons_zero]
    omega

/-- The digits f from the place L on, n of them. -/
def ms (f : Int → Nat) (L : Int) : Nat → Nat
  | 0 => 0
  | n + 1 => ms f L n + 2 ^ (24 * n) * f (L + (n : Int))

theorem ms_congr {f g : Int → Nat} (h : ∀ j, f j = g j) (L : Int) (n : Nat) : ms f L n = ms g L n := by
  induction n with
  | zero => rfl
  | succ n ih => rw [ms, ms, ih, h]
theorem ms_add (f : Int → Nat) (L : Int) (k n : Nat) : ms f L (k + n) = ms f L k + 2 ^ (24 * k) * ms f (L + (k : Int)) n := by
  induction n with
  | zero => simp [ms]
  | succ n ih =>
    rw [← Nat.add_assoc, ms, ih, ms, show 24 * (k + n) = 24 * k + 24 * n by omega, Nat.pow_add, show L + (k : Int) + (n : Int) = L + ((k + n : Nat) : Int) by omega]
    grind
theorem ms_zero {f : Int → Nat} {L : Int} {n : Nat} (h : ∀ i, L ≤ i → i < L + (n : Int) → f i = 0) : ms f L n = 0 := by
  induction n with
  | zero => rfl
  | succ n ih => rw [ms, ih (fun i h1 h2 => h i h1 (by omega)), h _ (by omega) (by omega)]; simp
theorem ms_lt {f : Int → Nat} (h : ∀ i, f i < 16777216) (L : Int) (n : Nat) : ms f L n < 2 ^ (24 * n) := by
  induction n with
  | zero => simp [ms]
  | succ n ih =>
    rw [ms, p24]
    have h1 : f (L + (n : Int)) + 1 ≤ 16777216 := h _
    have h2 := Nat.mul_le_mul_left (2 ^ (24 * n)) h1
    rw [Nat.mul_add, Nat.mul_one, Nat.mul_comm _ 16777216] at h2
    omega
/-- Which is greater is told by the first digit from above that is not the same. -/
theorem ms_less {f g : Int → Nat} (hg : ∀ i, g i < 16777216) {L i : Int} {n : Nat} (h1 : L ≤ i) (h2 : i < L + (n : Int)) (heq : ∀ j, i < j → f j = g j) (hlt : g i < f i) : ms g L n < ms f L n := by
  obtain ⟨k, rfl⟩ : ∃ k : Nat, i = L + (k : Int) := ⟨(i - L).toNat, by omega⟩
  obtain ⟨m, rfl⟩ : ∃ m, n = k + 1 + m := ⟨n - k - 1, by omega⟩
  rw [ms_add, ms_add f]
  have e : ms g (L + ((k + 1 : Nat) : Int)) m = ms f (L + ((k + 1 : Nat) : Int)) m := by
    have : ∀ q : Nat, ms g (L + ((k + 1 : Nat) : Int)) q = ms f (L + ((k + 1 : Nat) : Int)) q := by
      intro q
      induction q with
      | zero => rfl
      | succ q ih => rw [ms, ms, ih, heq _ (by omega)]
    exact this m
  rw [e, ms, ms]
  have h3 := ms_lt hg L k
  have h4 : g (L + (k : Int)) + 1 ≤ f (L + (k : Int)) := hlt
  have h5 := Nat.mul_le_mul_left (2 ^ (24 * k)) h4
  rw [Nat.mul_add, Nat.mul_one] at h5
  omega

/-- The digit at a place (as dgt has it). -/
def dg (ds : List Nat) (E j : Int) : Nat := if E ≤ j then ds.getD (j - E).toNat 0 else 0
theorem dg_small {ds : List Nat} (h : ∀ d ∈ ds, d < 16777216) (E j : Int) : dg ds E j < 16777216 := by
  unfold dg
  split
  · by_cases hi : (j - E).toNat < ds.length
    · have e : ds.getD (j - E).toNat 0 = ds[(j - E).toNat] := by simp [List.getD, hi]
      rw [e]; exact h _ (List.getElem_mem hi)
    · simp [List.getD, List.getElem?_eq_none (Nat.le_of_not_lt hi)]
  · omega
theorem ms_dg (ds : List Nat) (E : Int) (k : Nat) : ms (dg ds E) E k = v24 (ds.take k) := by
  induction k with
  | zero => simp [ms, v24]
  | succ k ih =>
    rw [ms, ih, v24_take_succ]
    unfold dg
    rw [if_pos (by omega), show (E + (k : Int) - E).toNat = k by omega]

/-- The number. -/
def mag (ds : List Nat) (E : Int) : Rat := (v24 ds : Nat) * p2 (24 * E)

theorem mag_ms {ds : List Nat} {E L : Int} {n : Nat} (h1 : L ≤ E) (h2 : E + (ds.length : Int) ≤ L + (n : Int)) : mag ds E = (ms (dg ds E) L n : Nat) * p2 (24 * L) := by
  obtain ⟨k, rfl⟩ : ∃ k : Nat, E = L + (k : Int) := ⟨(E - L).toNat, by omega⟩
  obtain ⟨m, rfl⟩ : ∃ m, n = k + m := ⟨n - k, by omega⟩
  rw [ms_add, ms_zero (n := k) (fun i a b => by unfold dg; rw [if_neg (by omega)]), ms_dg, List.take_of_length_le (by omega), Nat.zero_add]
  unfold mag
  rw [show 24 * (L + (k : Int)) = ((24 * k : Nat) : Int) + 24 * L by omega, p2_add, p2_nat, Rat.natCast_mul]
  grind
theorem mag_congr {ds ds' : List Nat} {E E' : Int} (h : ∀ j, dg ds' E' j = dg ds E j) : mag ds' E' = mag ds E := by
  have a1 : min E E' ≤ E := by omega
  have a2 : min E E' ≤ E' := by omega
  have b1 : E + (ds.length : Int) ≤ min E E' + (((E - min E E').toNat + (E' - min E E').toNat + ds.length + ds'.length : Nat) : Int) := by omega
  have b2 : E' + (ds'.length : Int) ≤ min E E' + (((E - min E E').toNat + (E' - min E E').toNat + ds.length + ds'.length : Nat) : Int) := by omega
  rw [mag_ms a1 b1, mag_ms a2 b2, ms_congr h]
theorem mag_nonneg (ds : List Nat) (E : Int) : 0 ≤ mag ds E := Rat.mul_nonneg Rat.natCast_nonneg (Rat.le_of_lt (p2_pos _))
theorem mag_nil (E : Int) : mag [] E = 0 := by unfold mag; simp [v24]

theorem v24_last {ds : List Nat} (hne : ds ≠ []) (ht : ds.getD (ds.length - 1) 0 ≠ 0) : 2 ^ (24 * (ds.length - 1)) ≤ v24 ds := by
  have hl := List.length_pos_iff.2 hne
  have e := v24_take_succ ds (ds.length - 1)
  rw [show ds.length - 1 + 1 = ds.length by omega, List.take_length] at e
  rw [e]
  have := Nat.mul_le_mul_left (2 ^ (24 * (ds.length - 1))) (Nat.pos_of_ne_zero ht)
  omega
theorem mag_pos {ds : List Nat} {E : Int} (hne : ds ≠ []) (ht : ds.getD (ds.length - 1) 0 ≠ 0) : 0 < mag ds E := by
  have h := v24_last hne ht
  have h2 := Nat.two_pow_pos (24 * (ds.length - 1))
  unfold mag
  refine Rat.mul_pos ?_ (p2_pos _)
  have : 0 < v24 ds := by omega
  exact_mod_cast this
/-- The highest digit's place, by a bound of the number. -/
theorem mag_top {ds : List Nat} {E h : Int} (hne : ds ≠ []) (ht : ds.getD (ds.length - 1) 0 ≠ 0) (hb : mag ds E < p2 h) : 24 * (E + (ds.length : Int)) < h + 24 := by
  have h1 := v24_last hne ht
  have hl := List.length_pos_iff.2 hne
  have h2 : p2 (24 * (E + (ds.length : Int) - 1)) ≤ mag ds E := by
    rw [show 24 * (E + (ds.length : Int) - 1) = ((24 * (ds.length - 1) : Nat) : Int) + 24 * E by omega, p2_add, p2_nat]
    unfold mag
    exact Rat.mul_le_mul_of_nonneg_right (Rat.natCast_le_natCast.2 h1) (Rat.le_of_lt (p2_pos _))
  have h3 : p2 (24 * (E + (ds.length : Int) - 1)) < p2 h := by grind
  have := p2_lt_iff.1 h3
  omega
/-- The lowest digit's place, by a power that the number is a multiple of. -/
theorem mag_low {ds : List Nat} {E l : Int} (hs : ∀ d ∈ ds, d < 16777216) (hf : ds.getD 0 0 ≠ 0) (hm : ∃ n : Int, mag ds E = (n : Rat) * p2 l) : l < 24 * E + 24 := by
  rcases Int.lt_or_le l (24 * E + 24) with h | h
  · exact h
  · exfalso
    obtain ⟨n, hn⟩ := hm
    obtain ⟨k, rfl⟩ : ∃ k : Nat, l = 24 * E + 24 + (k : Int) := ⟨(l - (24 * E + 24)).toNat, by omega⟩
    rw [show 24 * E + 24 + (k : Int) = ((24 + k : Nat) : Int) + 24 * E by omega, p2_add, p2_nat, ← Rat.mul_assoc] at hn
    unfold mag at hn
    have h1 : ((v24 ds : Nat) : Rat) = (n : Rat) * ((2 ^ (24 + k) : Nat) : Rat) := by
      have hp := p2_ne (24 * E)
      have := congrArg (· / p2 (24 * E)) hn
      simp only [Rat.mul_div_cancel hp] at this
      exact this
    have h2 : ((v24 ds : Nat) : Int) = n * ((2 ^ (24 + k) : Nat) : Int) := by exact_mod_cast h1
    have h3 := v24_mod hs
    rw [Nat.pow_add, show (2 : Nat) ^ 24 = 16777216 from rfl] at h2
    have h4 : ((v24 ds : Nat) : Int) % 16777216 = 0 := by
      rw [h2, Int.natCast_mul, show n * (((16777216 : Nat) : Int) * ((2 ^ k : Nat) : Int)) = n * ((2 ^ k : Nat) : Int) * 16777216 by grind]
      exact Int.mul_emod_left _ _
    omega
end Go.Proofs.YtfcgndgmbmkdgaaDoor

/- A number of the reference stands for a rational number. -/
namespace Go.Proofs.YtfcgndgmbmkdgaaDoor
open Go.RowKit

theorem dgt_dg (ds : List Nat) (E j : Int) : dgt ds E j = dg ds E j := by rw [dgt_eq]; rfl

/-- No nought at either end; nothing has the sign 0. -/
def Canon (S : Int) (ds : List Nat) (E : Int) : Prop := (ds = [] ∧ S = 0 ∧ E = 0) ∨ (ds ≠ [] ∧ (S = 1 ∨ S = -1) ∧ ds.getD 0 0 ≠ 0 ∧ ds.getD (ds.length - 1) 0 ≠ 0)

/-- The value v stands for q. -/
def Rf (w : World) (v : Value) (q : Rat) : Prop := ∃ S ds E, Dig w v S ds E ∧ Canon S ds E ∧ q = (S : Rat) * mag ds E

theorem Rf.later {w w' : World} {v : Value} {q : Rat} (h : Rf w v q) (hb : Below w.heap.size w w') : Rf w' v q := by
  obtain ⟨S, ds, E, h1, h2, h3⟩ := h
  exact ⟨S, ds, E, h1.later hb, h2, h3⟩

/-- What a call hands back that answers a number of the reference. -/
def RfR (w w' : World) (q : Rat) (e : Ending) : Prop := ∃ v, e = .returned v ∧ Rf w' v q ∧ Below w.heap.size w w'

theorem trim_rf {w w' : World} {S E : Int} {ds : List Nat} {e : Ending} (hS : S = 1 ∨ S = -1) (h : TrimR w w' S ds E e) : RfR w w' ((S : Rat) * mag ds E) e := by
  obtain ⟨v, S', ds', E', he, hd, heq, hc, hb⟩ := h
  have hm : mag ds' E' = mag ds E := mag_congr (fun j => by rw [← dgt_dg, ← dgt_dg]; exact heq j)
  refine ⟨v, he, ⟨S', ds', E', hd, ?_, ?_⟩, hb⟩
  · rcases hc with h | ⟨a, rfl, b, c⟩
    · exact Or.inl h
    · exact Or.inr ⟨a, hS, b, c⟩
  · rw [hm]
    rcases hc with ⟨rfl, rfl, rfl⟩ | ⟨_, rfl, _⟩
    · rw [mag_nil] at hm
      rw [← hm]; grind
    · rfl

theorem canon_sign {S E : Int} {ds : List Nat} (h : Canon S ds E) : S = 0 ∨ S = 1 ∨ S = -1 := by
  rcases h with ⟨_, h, _⟩ | ⟨_, h, _⟩
  · exact Or.inl h
  · exact Or.inr h
/-- The sign is the number's. -/
theorem canon_sgn {S E : Int} {ds : List Nat} (h : Canon S ds E) : (S = 0 ∧ (S : Rat) * mag ds E = 0) ∨ (S = 1 ∧ 0 < (S : Rat) * mag ds E) ∨ (S = -1 ∧ (S : Rat) * mag ds E < 0) := by
  rcases h with ⟨rfl, rfl, rfl⟩ | ⟨a, h, _, b⟩
  · left; exact ⟨rfl, by rw [mag_nil]; grind⟩
  · have := mag_pos (E := E) a b
    rcases h with rfl | rfl
    · right; left; exact ⟨rfl, by rw [show ((1 : Int) : Rat) = 1 from rfl]; grind⟩
    · right; right; exact ⟨rfl, by rw [show ((-1 : Int) : Rat) = -1 from rfl]; grind⟩
/-- Where the digits lie, by a bound of the number. -/
theorem canon_place {S E h l : Int} {ds : List Nat} (hc : Canon S ds E) (hs : ∀ d ∈ ds, d < 16777216) (hb : Bd h l ((S : Rat) * mag ds E)) (h0 : ds ≠ []) : 24 * (E + (ds.length : Int)) < h + 24 ∧ l < 24 * E + 24 := by
  rcases hc with ⟨h, _⟩ | ⟨hne, hS, hf, ht⟩
  · exact absurd h h0
  · obtain ⟨b1, b2, n, b3⟩ := hb
    rcases hS with rfl | rfl
    · rw [show ((1 : Int) : Rat) * mag ds E = mag ds E by rw [show ((1 : Int) : Rat) = 1 from rfl]; grind] at b1 b2 b3
      exact ⟨mag_top hne ht b1, mag_low hs hf ⟨n, b3⟩⟩
    · rw [show ((-1 : Int) : Rat) * mag ds E = -mag ds E by rw [show ((-1 : Int) : Rat) = -1 from rfl]; grind] at b1 b2 b3
      exact ⟨mag_top hne ht (by grind), mag_low hs hf ⟨-n, by rw [Rat.intCast_neg]; grind⟩⟩

/-- A row of int64 that a call owns. -/
def i64s (ds : List Nat) : List Value := ds.map (fun d => .int .i64 (d : Nat))
theorem i64s_length (ds : List Nat) : (i64s ds).length = ds.length := by simp [i64s]
theorem i64s_snoc (ds : List Nat) (d : Nat) : i64s ds ++ [.int .i64 (d : Nat)] = i64s (ds ++ [d]) := by simp [i64s]

theorem own_cell {w : World} {base : Nat} {g cap : Nat} {ds : List Nat} (h : w.ownsRow base 2 1 (.slice (some ⟨g, 0, none⟩) ds.length cap) ds.length (i64s ds)) (k : Nat) (hk : k < ds.length) : w.cell? ⟨g, k, none⟩ = some (.int .i64 (ds.getD k 0 : Nat)) := by
  have := h.cells (g := g) rfl k (.int .i64 (ds.getD k 0 : Nat)) (by simp [i64s, List.getD, hk])
  rwa [show (⟨g, 0, none⟩ : Addr).add k = ⟨g, k, none⟩ by unfold Addr.add; split <;> simp_all] at this
theorem own_form {w : World} {base : Nat} {sv : Value} {ds : List Nat} (h : w.ownsRow base 2 1 sv ds.length (i64s ds)) : (ds = [] ∧ ∃ a c, sv = .slice a 0 c ∧ (a = none ∨ ∃ g, a = some ⟨g, 0, none⟩)) ∨ (ds ≠ [] ∧ ∃ g cap, sv = .slice (some ⟨g, 0, none⟩) ds.length cap ∧ ds.length ≤ cap ∧ base ≤ g ∧ g < w.heap.size ∧ w.frozen? ⟨g, 0, none⟩ = false) := by
  rcases h.2 with ⟨h1, h2⟩ | ⟨g, cap, cur, h1, h2, h3, h4, _⟩
  · left
    exact ⟨List.eq_nil_of_length_eq_zero h2, none, 0, h1, Or.inl rfl⟩
  · by_cases e : ds = []
    · left
      subst e
      exact ⟨rfl, _, cap, h1, Or.inr ⟨g, rfl⟩⟩
    · right
      exact ⟨e, g, cap, h1, h4, h2, (Array.getElem?_eq_some_iff.1 h3).1, by simp [World.frozen?, h3]⟩
theorem own_frozen {w : World} {base : Nat} {g cap : Nat} {ds : List Nat} (h : w.ownsRow base 2 1 (.slice (some ⟨g, 0, none⟩) ds.length cap) ds.length (i64s ds)) (k : Nat) : w.frozen? ⟨g, k, none⟩ = false := by
  rcases h.2 with ⟨h1, _⟩ | ⟨g', cap', cur, h1, h2, h3, h4, _⟩
  · cases h1
  · cases h1
    simp [World.frozen?, h3]
theorem own_set {w : World} {base : Nat} {g cap : Nat} {ds : List Nat} (h : w.ownsRow base 2 1 (.slice (some ⟨g, 0, none⟩) ds.length cap) ds.length (i64s ds)) (k d : Nat) (_hk : k < ds.length) : (w.setCell ⟨g, k, none⟩ (.int .i64 (d : Nat))).ownsRow base 2 1 (.slice (some ⟨g, 0, none⟩) (ds.set k d).length cap) (ds.set k d).length (i64s (ds.set k d)) := by
  refine ⟨by simp [i64s], ?_⟩
  rcases h.2 with ⟨h1, _⟩ | ⟨g', cap', cur, h1, h2, h3, h4, h5, h6, h7⟩
  · cases h1
  · cases h1
    refine Or.inr ⟨g, cap, cur.set! k (.int .i64 (d : Nat)), by simp, h2, ?_, by simpa using h4, h5, by simpa using h6, ?_⟩
    · simp [World.setCell, Array.getElem?_modify, h3]
    · rw [Nat.mul_one] at h7
      have : i64s (ds.set k d) = (i64s ds).set k (.int .i64 (d : Nat)) := by simp [i64s, List.map_set]
      rw [this, ← h7]
      simp [List.take_set]
theorem own_int {w : World} {base : Nat} {g cap : Nat} {ds : List Nat} (h : w.ownsRow base 2 1 (.slice (some ⟨g, 0, none⟩) ds.length cap) ds.length (i64s ds)) : IntRow w g := by
  rcases h.2 with ⟨h1, _⟩ | ⟨g', cap', cur, h1, h2, h3, h4, _⟩
  · cases h1
  · cases h1
    exact ⟨cur, _, h3⟩
theorem own_dig {w : World} {base : Nat} {sv : Value} {S E : Int} {ds : List Nat} (h : w.ownsRow base 2 1 sv ds.length (i64s ds)) (hs : ∀ d ∈ ds, d < 16777216) (hl : ds.length ≤ 1000000) (e1 : -1000000 ≤ E) (e2 : E ≤ 1000000) : Dig w (.agg #[.int .i64 S, sv, .int .i64 E]) S ds E := by
  rcases own_form h with ⟨rfl, a, c, rfl, _⟩ | ⟨hne, g, cap, rfl, hcap, _, _⟩
  · exact ⟨⟨a, c, rfl, by simp, Or.inl rfl⟩, hs, hl, e1, e2⟩
  · exact ⟨⟨_, cap, rfl, hcap, Or.inr ⟨g, 0, rfl, fun k hk => by rw [Nat.zero_add]; exact own_cell h k hk, own_int h⟩⟩, hs, hl, e1, e2⟩
theorem own_apart {w : World} {base b : Nat} {sv : Value} {n : Nat} {xs : List Value} (h : w.ownsRow base 2 1 sv n xs) (hb : b < base) : some b ≠ sv.ownBlock := fun e => by
  have := (h.lt b e.symm).1
  omega
theorem own_other {w : World} {base : Nat} {sv : Value} {n : Nat} {xs : List Value} (h : w.ownsRow base 2 1 sv n xs) {a : Addr} (hb : a.block < base) (v : Value) : (w.setCell a v).ownsRow base 2 1 sv n xs :=
  h.kept (row := some a.block) ⟨rfl, rfl, rfl, by simp [World.setCell], fun k _ hne => Below.heap_setCell w a v k (by intro e; exact hne (by rw [e]))⟩ (Or.inr (Ne.symm (own_apart h hb)))
theorem own_drew {w : World} {base : Nat} {sv : Value} {n : Nat} {xs : List Value} (h : w.ownsRow base 2 1 sv n xs) : w.drew.ownsRow base 2 1 sv n xs := h

/-- A block of another type of elements. -/
def OtherRow (w : World) (b : Nat) : Prop := ∃ cur t fr, w.heap[b]? = some (.cells cur t fr) ∧ t ≠ 2
theorem OtherRow.apart {w : World} {b g : Nat} (h : OtherRow w b) (h2 : IntRow w g) : g ≠ b := by
  rintro rfl
  obtain ⟨cur, t, fr, h, ht⟩ := h
  obtain ⟨cur', fr', h2⟩ := h2
  rw [h] at h2
  simp at h2
  exact ht h2.2.1
theorem OtherRow.set {w : World} {b : Nat} (h : OtherRow w b) (i : Nat) (v : Value) : OtherRow (w.setCell ⟨b, i, none⟩ v) b := by
  obtain ⟨cur, t, fr, h, ht⟩ := h
  exact ⟨cur.set! i v, t, fr, by simp [World.setCell, Array.getElem?_modify, h], ht⟩
theorem Dig.set {w : World} {v : Value} {S E : Int} {ds : List Nat} {b : Nat} (h : Dig w v S ds E) (ho : OtherRow w b) (i : Nat) (u : Value) : Dig (w.setCell ⟨b, i, none⟩ u) v S ds E := by
  obtain ⟨⟨a, c, hv, hcap, hf⟩, h2, h3, h4, h5⟩ := h
  refine ⟨⟨a, c, hv, hcap, ?_⟩, h2, h3, h4, h5⟩
  rcases hf with hf | ⟨g, off, ha, hf, hr⟩
  · exact Or.inl hf
  · have hne := ho.apart hr
    have hh := Below.heap_setCell w ⟨b, i, none⟩ u g hne
    exact Or.inr ⟨g, off, ha, fun k hk => by rw [World.cell?_of_block (a := ⟨g, off + k, none⟩) hh]; exact hf k hk, hr.block hh⟩
theorem Rf.set {w : World} {v : Value} {q : Rat} {b : Nat} (h : Rf w v q) (ho : OtherRow w b) (i : Nat) (u : Value) : Rf (w.setCell ⟨b, i, none⟩ u) v q := by
  obtain ⟨S, ds, E, h1, h2, h3⟩ := h
  exact ⟨S, ds, E, h1.set ho i u, h2, h3⟩
/-- The result's box is written. -/
theorem Rf.boxed {w : World} {v : Value} {q : Rat} {b : Nat} (h : Rf w v q) (ho : OtherRow w b) (x y z : Value) : Rf (((w.setCell ⟨b, 0, none⟩ x).setCell ⟨b, 1, none⟩ y).setCell ⟨b, 2, none⟩ z) v q :=
  ((h.set ho 0 x).set (ho.set 0 x) 1 y).set ((ho.set 0 x).set 1 y) 2 z
end Go.Proofs.YtfcgndgmbmkdgaaDoor

/- The reference's Power. -/
namespace Go.Proofs.YtfcgndgmbmkdgaaDoor
open Go.RowKit

theorem info64 : (Tryd.prog.info? 2).map (fun i => (i.zero, i.size, i.bytes)) = some (some (.int .i64 0), 1, 8) := by kernel_rfl

theorem new_box (w : World) (a b : Obj) : ((w.alloc a).alloc b).heap[w.heap.size + 1]? = some b := by
  have := heap_alloc_new (w.alloc a) b
  simpa using this
theorem old_box (w : World) (a b : Obj) : ((w.alloc a).alloc b).heap[w.heap.size]? = some a := by
  rw [Below.heap_alloc _ _ _ (by simp)]; exact heap_alloc_new w a

theorem snoc_small {ds : List Nat} {d : Nat} (h : ∀ x ∈ ds, x < 16777216) (hd : d < 16777216) : ∀ x ∈ ds ++ [d], x < 16777216 := by
  intro x hx
  rcases List.mem_append.1 hx with hx | hx
  · exact h x hx
  · simp at hx; omega
theorem pow_digit {n m d q L v : Nat} (h : n = v + 2 ^ (24 * L) * m) (hd : m % 16777216 = d) (hq : m / 16777216 = q) : n = v + 2 ^ (24 * L) * d + 2 ^ (24 * (L + 1)) * q := by
  have e : m = d + 16777216 * q := by omega
  rw [h, p24, e]; grind

/-- Digits times a power, as far as they are done. -/
structure PowD (ds zs : List Nat) (t i c : Nat) : Prop where
  len : zs.length = ds.length
  small : ∀ d ∈ zs, d < 16777216
  rest : ∀ j, i ≤ j → zs.getD j 0 = ds.getD j 0
  val : v24 (zs.take i) + 2 ^ (24 * i) * c = v24 (ds.take i) * 2 ^ t
  carry : c < 2 ^ t

theorem set_take (zs : List Nat) (i d : Nat) : (zs.set i d).take i = zs.take i := by
  apply List.ext_getElem?
  intro j
  simp only [List.getElem?_take, List.getElem?_set]
  split
  · rw [if_neg (by omega)]
  · rfl
theorem PowD.step {ds zs : List Nat} {t i c v : Nat} (h : PowD ds zs t i c) (hi : i < ds.length) (hs : ∀ d ∈ ds, d < 16777216) (hv : v = ds.getD i 0 * 2 ^ t + c) : PowD ds (zs.set i (v % 16777216)) t (i + 1) (v / 16777216) := by
  have hdi : ds.getD i 0 < 16777216 := by
    have e : ds.getD i 0 = ds[i] := by simp [List.getD, hi]
    rw [e]; exact hs _ (List.getElem_mem hi)
  have hi2 : i < zs.length := by rw [h.len]; exact hi
  refine ⟨by simp [h.len], ?_, ?_, ?_, ?_⟩
  · intro d hd
    rcases List.mem_or_eq_of_mem_set hd with hd | rfl
    · exact h.small d hd
    · omega
  · intro j hj
    rw [← h.rest j (by omega)]
    simp only [List.getD, List.getElem?_set]
    rw [if_neg (by omega)]
  · rw [v24_take_succ, v24_take_succ, set_take, p24]
    have e : (zs.set i (v % 16777216)).getD i 0 = v % 16777216 := by simp [List.getD, hi2]
    rw [e]
    have h1 := h.val
    have h2 := Nat.mod_add_div v 16777216
    generalize v % 16777216 = a at *
    generalize v / 16777216 = b at *
    generalize ds.getD i 0 = x at *
    generalize 2 ^ (24 * i) = P at *
    generalize 2 ^ t = R at *
    subst hv
    grind
  · have h1 := h.carry
    have h2 : (ds.getD i 0 + 1) * 2 ^ t ≤ 16777216 * 2 ^ t := Nat.mul_le_mul_right _ hdi
    rw [Nat.add_mul, Nat.one_mul] at h2
    rw [Nat.div_lt_iff_lt_mul (by omega), hv]
    omega

theorem pow_value {n t c : Nat} {k2 e2 k : Int} {ds zs : List Nat} (h : PowD ds zs t ds.length c) (hn : n = v24 ds) (hk : k2 + 24 * e2 = k) (ht : k2 = (t : Int)) : ((1 : Int) : Rat) * mag (zs ++ [c]) e2 = (n : Nat) * p2 k := by
  have h1 := h.val
  rw [List.take_of_length_le (by rw [h.len]; exact Nat.le_refl _), List.take_of_length_le (Nat.le_refl _), ← hn] at h1
  unfold mag
  rw [v24_snoc, h.len, h1, ← hk, ht, p2_add, p2_nat, Rat.natCast_mul, show ((1 : Int) : Rat) = 1 from rfl]
  grind

end Go.Proofs.YtfcgndgmbmkdgaaDoor

/- The reference's Add: the digits. -/
namespace Go.Proofs.YtfcgndgmbmkdgaaDoor
open Go.RowKit

theorem keepN6 {w W W' : World} {p1 p2 p3 p4 p5 p6 : Addr} {x1 x2 x3 x4 x5 x6 : Value} (h : W.cell? p1 = some x1 ∧ W.cell? p2 = some x2 ∧ W.cell? p3 = some x3 ∧ W.cell? p4 = some x4 ∧ W.cell? p5 = some x5 ∧ W.cell? p6 = some x6 ∧ Below w.heap.size w W) (hb : Below W.heap.size W W') :
    W'.cell? p1 = some x1 ∧ W'.cell? p2 = some x2 ∧ W'.cell? p3 = some x3 ∧ W'.cell? p4 = some x4 ∧ W'.cell? p5 = some x5 ∧ W'.cell? p6 = some x6 ∧ Below w.heap.size w W' :=
  ⟨box_cell hb h.1, box_cell hb h.2.1, box_cell hb h.2.2.1, box_cell hb h.2.2.2.1, box_cell hb h.2.2.2.2.1, box_cell hb h.2.2.2.2.2.1, h.2.2.2.2.2.2.trans (hb.mono h.2.2.2.2.2.2.size)⟩

theorem boxes3 (w : World) (a b c : Obj) : (((w.alloc a).alloc b).alloc c).heap[w.heap.size]? = some a ∧ (((w.alloc a).alloc b).alloc c).heap[w.heap.size + 1]? = some b ∧ (((w.alloc a).alloc b).alloc c).heap[w.heap.size + 2]? = some c := by
  refine ⟨?_, ?_, ?_⟩
  · rw [Below.heap_alloc _ _ _ (by simp; omega)]; exact old_box w a b
  · rw [Below.heap_alloc _ _ _ (by simp)]; exact new_box w a b
  · have := heap_alloc_new ((w.alloc a).alloc b) c
    simpa using this
theorem below3 (w : World) (a b c : Obj) : Below w.heap.size w (((w.alloc a).alloc b).alloc c) := (((Below.refl _ _).alloc (Nat.le_refl _) _).alloc (by simp) _).alloc (by simp; omega) _

/-- A sum's digits, as far as they are done. (s: 1 or -1; A, B: the digits of both from the lowest place on.) -/
structure AddD (A B : Nat → Nat) (s : Int) (i : Nat) (zs : List Nat) (c : Int) : Prop where
  len : zs.length = i
  small : ∀ d ∈ zs, d < 16777216
  val : (v24 zs : Int) + ((2 ^ (24 * i) : Nat) : Int) * c = (A i : Int) + s * (B i : Int)
  c1 : -1 ≤ c
  c2 : c ≤ 1

theorem AddD.step {A B : Nat → Nat} {s c c' v : Int} {i a b d : Nat} {zs : List Nat} (h : AddD A B s i zs c) (hA : A (i + 1) = A i + 2 ^ (24 * i) * a) (hB : B (i + 1) = B i + 2 ^ (24 * i) * b) (hv : v = (a : Int) + s * (b : Int) + c) (hd : v = (d : Int) + 16777216 * c') (hdl : d < 16777216) (h1 : -1 ≤ c') (h2 : c' ≤ 1) : AddD A B s (i + 1) (zs ++ [d]) c' := by
  refine ⟨by simp [h.len], snoc_small h.small hdl, ?_, h1, h2⟩
  rw [v24_snoc, h.len, hA, hB, p24]
  have hval := h.val
  simp only [Int.natCast_add, Int.natCast_mul]
  generalize ((2 ^ (24 * i) : Nat) : Int) = P at *
  subst hv
  have e : ((16777216 : Nat) : Int) = 16777216 := rfl
  rw [e]
  grind

end Go.Proofs.YtfcgndgmbmkdgaaDoor

/- The reference's Add: the walk, the same sign. -/
namespace Go.Proofs.YtfcgndgmbmkdgaaDoor
open Go.RowKit

end Go.Proofs.YtfcgndgmbmkdgaaDoor

/- The reference's Add: the walk, other signs. -/
namespace Go.Proofs.YtfcgndgmbmkdgaaDoor
open Go.RowKit

end Go.Proofs.YtfcgndgmbmkdgaaDoor

/- The reference's Add, Sub, Cmp, Abs, of whatever numbers. -/
namespace Go.Proofs.YtfcgndgmbmkdgaaDoor
open Go.RowKit

theorem add_val {ds1 ds2 zs : List Nat} {E1 E2 L to s c : Int} {n : Nat} (h : AddD (fun i => ms (dgt ds1 E1) L i) (fun i => ms (dgt ds2 E2) L i) s n zs c) (hn : (n : Int) = to - L + 1) (s1 : ∀ d ∈ ds1, d < 16777216) (s2 : ∀ d ∈ ds2, d < 16777216)
    (f1 : L ≤ E1) (f2 : L ≤ E2) (t1 : E1 + (ds1.length : Int) ≤ to) (t2 : E2 + (ds2.length : Int) ≤ to) (hs : s = 1 ∨ (s = -1 ∧ mag ds2 E2 ≤ mag ds1 E1)) : mag zs L = mag ds1 E1 + (s : Rat) * mag ds2 E2 := by
  have g1 : ∀ j, dgt ds1 E1 j < 16777216 := fun j => by rw [dgt_dg]; exact dg_small s1 _ _
  have g2 : ∀ j, dgt ds2 E2 j < 16777216 := fun j => by rw [dgt_dg]; exact dg_small s2 _ _
  obtain ⟨m, rfl⟩ : ∃ m, n = m + 1 := ⟨n - 1, by omega⟩
  have e1 : ms (dgt ds1 E1) L (m + 1) < 2 ^ (24 * m) := by
    rw [ms, dgt_above (by omega)]
    have := ms_lt g1 L m
    omega
  have e2 : ms (dgt ds2 E2) L (m + 1) < 2 ^ (24 * m) := by
    rw [ms, dgt_above (by omega)]
    have := ms_lt g2 L m
    omega
  have m1 : mag ds1 E1 = (ms (dgt ds1 E1) L (m + 1) : Nat) * p2 (24 * L) := by
    rw [mag_ms f1 (n := m + 1) (by omega), ms_congr (fun j => dgt_dg ds1 E1 j)]
  have m2 : mag ds2 E2 = (ms (dgt ds2 E2) L (m + 1) : Nat) * p2 (24 * L) := by
    rw [mag_ms f2 (n := m + 1) (by omega), ms_congr (fun j => dgt_dg ds2 E2 j)]
  have hv := h.val
  have hz := v24_lt h.small
  rw [h.len, p24] at hz
  rw [p24] at hv
  have hp := p2_pos (24 * L)
  have hc : (v24 zs : Int) = (ms (dgt ds1 E1) L (m + 1) : Int) + s * (ms (dgt ds2 E2) L (m + 1) : Int) := by
    have hge : 0 ≤ (ms (dgt ds1 E1) L (m + 1) : Int) + s * (ms (dgt ds2 E2) L (m + 1) : Int) := by
      rcases hs with rfl | ⟨rfl, hle⟩
      · omega
      · rw [m1, m2] at hle
        have := int_le (a := (ms (dgt ds2 E2) L (m + 1) : Int)) (b := (ms (dgt ds1 E1) L (m + 1) : Int)) hp hle
        omega
    have hle : (ms (dgt ds1 E1) L (m + 1) : Int) + s * (ms (dgt ds2 E2) L (m + 1) : Int) < 2 * ((2 ^ (24 * m) : Nat) : Int) := by
      rcases hs with rfl | ⟨rfl, _⟩ <;> omega
    have hv' : (v24 zs : Int) + 16777216 * (((2 ^ (24 * m) : Nat) : Int) * c) = (ms (dgt ds1 E1) L (m + 1) : Int) + s * (ms (dgt ds2 E2) L (m + 1) : Int) := by
      rw [← hv]; simp only [Int.natCast_mul]; grind
    have h1 := h.c1
    have h2 := h.c2
    generalize (ms (dgt ds1 E1) L (m + 1) : Int) + s * (ms (dgt ds2 E2) L (m + 1) : Int) = X at *
    have hP : 0 < ((2 ^ (24 * m) : Nat) : Int) := by have := Nat.two_pow_pos (24 * m); omega
    have hzz : (v24 zs : Int) < 16777216 * ((2 ^ (24 * m) : Nat) : Int) := by omega
    generalize ((2 ^ (24 * m) : Nat) : Int) = P at *
    have : c = -1 ∨ c = 0 ∨ c = 1 := by omega
    rcases this with rfl | rfl | rfl
    · exfalso; omega
    · omega
    · exfalso; omega
  have hr : ((v24 zs : Nat) : Rat) = ((ms (dgt ds1 E1) L (m + 1) : Nat) : Rat) + (s : Rat) * ((ms (dgt ds2 E2) L (m + 1) : Nat) : Rat) := by
    exact_mod_cast congrArg (fun x : Int => (x : Rat)) hc
  rw [m1, m2]
  unfold mag
  rw [hr]
  grind

theorem size_sign {ds1 ds2 : List Nat} {E1 E2 r : Int} (h : SizeOf ds1 E1 ds2 E2 r) (s1 : ∀ d ∈ ds1, d < 16777216) (s2 : ∀ d ∈ ds2, d < 16777216) : (r < 0 → mag ds1 E1 < mag ds2 E2) ∧ (¬ r < 0 → mag ds2 E2 ≤ mag ds1 E1) := by
  have g1 : ∀ j, dg ds1 E1 j < 16777216 := fun j => dg_small s1 _ _
  have g2 : ∀ j, dg ds2 E2 j < 16777216 := fun j => dg_small s2 _ _
  rcases h with ⟨rfl, h⟩ | ⟨i, heq, h⟩
  · have := mag_congr (ds := ds1) (E := E1) (ds' := ds2) (E' := E2) (fun j => by rw [← dgt_dg, ← dgt_dg]; exact (h j).symm)
    exact ⟨by omega, fun _ => by rw [this]; exact Rat.le_refl⟩
  · have key : ∀ (a b : List Nat) (Ea Eb : Int), (∀ j, dg b Eb j < 16777216) → (∀ j, i < j → dg a Ea j = dg b Eb j) → dg b Eb i < dg a Ea i → mag b Eb < mag a Ea := by
      intro a b Ea Eb gb hq hl
      have a1 : min (min Ea Eb) i ≤ Ea := by omega
      have a2 : min (min Ea Eb) i ≤ Eb := by omega
      have a3 : min (min Ea Eb) i ≤ i := by omega
      obtain ⟨n, hn1, hn2, hn3⟩ : ∃ n : Nat, Ea + (a.length : Int) ≤ min (min Ea Eb) i + (n : Int) ∧ Eb + (b.length : Int) ≤ min (min Ea Eb) i + (n : Int) ∧ i < min (min Ea Eb) i + (n : Int) :=
        ⟨((Ea - min (min Ea Eb) i) + (Eb - min (min Ea Eb) i) + (i - min (min Ea Eb) i) + a.length + b.length + 1).toNat, by omega, by omega, by omega⟩
      rw [mag_ms a1 hn1, mag_ms a2 hn2]
      have := ms_less gb a3 hn3 hq hl
      exact Rat.mul_lt_mul_of_pos_right (Rat.natCast_lt_natCast.2 this) (p2_pos _)
    have heq' : ∀ j, i < j → dg ds1 E1 j = dg ds2 E2 j := fun j hj => by rw [← dgt_dg, ← dgt_dg]; exact heq j hj
    rw [dgt_dg, dgt_dg] at h
    rcases h with ⟨h, rfl⟩ | ⟨h, rfl⟩
    · have := key ds1 ds2 E1 E2 g2 heq' h
      exact ⟨by omega, fun _ => Rat.le_of_lt this⟩
    · have := key ds2 ds1 E2 E1 g1 (fun j hj => (heq' j hj).symm) h
      exact ⟨fun _ => this, by omega⟩

theorem rf_stored {w w1 : World} {v : Value} {q : Rat} {b : Nat} (h : Rf w1 v q) (hb : OtherRow w1 b) (hB : Below w.heap.size w w1) (hbl : w.heap.size ≤ b) (x y z : Value) : Rf (((w1.setCell ⟨b, 0, none⟩ x).setCell ⟨b, 1, none⟩ y).setCell ⟨b, 2, none⟩ z) v q ∧ Below w.heap.size w (((w1.setCell ⟨b, 0, none⟩ x).setCell ⟨b, 1, none⟩ y).setCell ⟨b, 2, none⟩ z) :=
  ⟨h.boxed hb x y z, ((hB.setCell hbl _).setCell hbl _).setCell hbl _⟩

end Go.Proofs.YtfcgndgmbmkdgaaDoor

/- The reference's Add of whatever numbers; Sub, Cmp, Abs. -/
namespace Go.Proofs.YtfcgndgmbmkdgaaDoor
open Go.RowKit

/-- Small enough for all that follows. -/
def Fit (q : Rat) : Prop := Bd 100000 (-100000) q

theorem sz_total {ds1 ds2 : List Nat} {E1 E2 : Int} (s1 : ∀ d ∈ ds1, d < 16777216) (s2 : ∀ d ∈ ds2, d < 16777216) : (mag ds2 E2 ≤ mag ds1 E1 → ∀ r, SizeOf ds1 E1 ds2 E2 r → ¬ r < 0) ∧ (¬ mag ds2 E2 ≤ mag ds1 E1 → ∀ r, SizeOf ds1 E1 ds2 E2 r → r < 0) := by
  refine ⟨fun h r hr hlt => ?_, fun h r hr => ?_⟩
  · have := (size_sign hr s1 s2).1 hlt
    grind
  · rcases Int.lt_or_le r 0 with h' | h'
    · exact h'
    · exact absurd ((size_sign hr s1 s2).2 (by omega)) h

theorem span_of (E1 E2 C D : Int) (h1 : -10000 ≤ E1) (h2 : -10000 ≤ E2) (h3 : C ≤ 10000) (h4 : D ≤ 10000) (h5 : E1 ≤ C) (h6 : E2 ≤ D) : ∃ L to, (if E2 < E1 then E2 else E1) = L ∧ (if C < D then D else C) = to ∧ L ≤ E1 ∧ L ≤ E2 ∧ C ≤ to ∧ D ≤ to ∧ -10000 ≤ L ∧ to ≤ 10000 ∧ L ≤ to := by
  refine ⟨_, _, rfl, rfl, ?_, ?_, ?_, ?_, ?_, ?_, ?_⟩ <;> (repeat' split) <;> omega
end Go.Proofs.YtfcgndgmbmkdgaaDoor

/- The reference's Mul: what stands while it goes. -/
namespace Go.Proofs.YtfcgndgmbmkdgaaDoor
open Go.RowKit

theorem v24_set {zs : List Nat} {j : Nat} (h : j < zs.length) (x : Nat) : v24 (zs.set j x) + 2 ^ (24 * j) * zs.getD j 0 = v24 zs + 2 ^ (24 * j) * x := by
  induction zs generalizing j with
  | nil => simp at h
  | cons a r ih =>
    cases j with
    | zero => simp [v24]; omega
    | succ j =>
      simp only [List.set_cons_succ, v24, List.getD_cons_succ]
      have := ih (j := j) (by simp at h; omega)
      rw [p24]
      grind
theorem v24_rep (n : Nat) : v24 (List.replicate n 0) = 0 := by
  induction n with
  | zero => rfl
  | succ n ih => rw [List.replicate_succ, v24, ih]
theorem set_small {zs : List Nat} {j x : Nat} (h : ∀ d ∈ zs, d < 16777216) (hx : x < 16777216) : ∀ d ∈ zs.set j x, d < 16777216 := by
  intro d hd
  rcases List.mem_or_eq_of_mem_set hd with hd | rfl
  · exact h d hd
  · exact hx
theorem getD_small {zs : List Nat} (h : ∀ d ∈ zs, d < 16777216) (j : Nat) : zs.getD j 0 < 16777216 := by
  by_cases hj : j < zs.length
  · rw [show zs.getD j 0 = zs[j] by simp [List.getD, hj]]
    exact h _ (List.getElem_mem hj)
  · simp [List.getD, List.getElem?_eq_none (Nat.le_of_not_lt hj)]
theorem set_getD {zs : List Nat} {j k x : Nat} (h : j ≠ k) : (zs.set j x).getD k 0 = zs.getD k 0 := by
  simp only [List.getD, List.getElem?_set]; rw [if_neg h]

/-- The product's digits when i digits of the first are done. -/
structure MulO (ds1 ds2 zs : List Nat) (i : Nat) : Prop where
  len : zs.length = ds1.length + ds2.length
  small : ∀ d ∈ zs, d < 16777216
  val : v24 zs = v24 (ds1.take i) * v24 ds2
  top : ∀ j, i + ds2.length ≤ j → zs.getD j 0 = 0
/-- .. and, of the next, k digits of the second. -/
structure MulI (ds1 ds2 zs0 zs : List Nat) (i k c : Nat) : Prop where
  len : zs.length = ds1.length + ds2.length
  small : ∀ d ∈ zs, d < 16777216
  val : v24 zs + 2 ^ (24 * (i + k)) * c = v24 zs0 + 2 ^ (24 * i) * (ds1.getD i 0 * v24 (ds2.take k))
  rest : ∀ j, i + k ≤ j → zs.getD j 0 = zs0.getD j 0
  carry : c < 16777216

theorem MulO.start (ds1 ds2 : List Nat) : MulO ds1 ds2 (List.replicate (ds1.length + ds2.length) 0) 0 :=
  ⟨by simp, fun d hd => by have := List.eq_of_mem_replicate hd; omega, by simp [v24_rep, v24], fun j _ => by rw [List.getD, List.getElem?_replicate]; split <;> rfl⟩
theorem MulO.begin {ds1 ds2 zs : List Nat} {i : Nat} (h : MulO ds1 ds2 zs i) : MulI ds1 ds2 zs zs i 0 0 :=
  ⟨h.len, h.small, by simp [v24], fun j _ => rfl, by omega⟩
theorem MulI.step {ds1 ds2 zs0 zs : List Nat} {i k c v : Nat} (h : MulI ds1 ds2 zs0 zs i k c) (hi : i < ds1.length) (hk : k < ds2.length) (s1 : ∀ d ∈ ds1, d < 16777216) (s2 : ∀ d ∈ ds2, d < 16777216) (hv : v = zs.getD (i + k) 0 + ds1.getD i 0 * ds2.getD k 0 + c) :
    MulI ds1 ds2 zs0 (zs.set (i + k) (v % 16777216)) i (k + 1) (v / 16777216) := by
  have hl : i + k < zs.length := by rw [h.len]; omega
  have hx := getD_small h.small (i + k)
  have ha := getD_small s1 i
  have hb := getD_small s2 k
  have hc := h.carry
  refine ⟨by simp [h.len], set_small h.small (Nat.mod_lt _ (by omega)), ?_, fun j hj => ?_, ?_⟩
  · have e1 := v24_set hl (v % 16777216)
    have e2 := h.val
    have e3 := Nat.mod_add_div v 16777216
    rw [v24_take_succ, show i + (k + 1) = i + k + 1 by omega, p24]
    have e4 : 2 ^ (24 * (i + k)) = 2 ^ (24 * i) * 2 ^ (24 * k) := by rw [← Nat.pow_add]; congr 1; omega
    generalize v % 16777216 = r at *
    generalize v / 16777216 = q at *
    generalize zs.getD (i + k) 0 = x at *
    generalize ds1.getD i 0 = a at *
    generalize ds2.getD k 0 = b at *
    generalize v24 (zs.set (i + k) r) = V at *
    rw [e4] at e1 e2 ⊢
    generalize 2 ^ (24 * i) = P at *
    generalize 2 ^ (24 * k) = R at *
    subst hv
    grind
  · rw [set_getD (by omega)]; exact h.rest j (by omega)
  · rw [Nat.div_lt_iff_lt_mul (by omega), hv]
    have : ds1.getD i 0 * ds2.getD k 0 ≤ 16777215 * 16777215 := Nat.mul_le_mul (by omega) (by omega)
    omega
theorem MulI.done {ds1 ds2 zs0 zs : List Nat} {i c : Nat} (h : MulI ds1 ds2 zs0 zs i ds2.length c) (h0 : MulO ds1 ds2 zs0 i) (hi : i < ds1.length) : zs.getD (i + ds2.length) 0 = 0 ∧ MulO ds1 ds2 (zs.set (i + ds2.length) c) (i + 1) := by
  have hl : i + ds2.length < zs.length := by rw [h.len]; omega
  have hz : zs.getD (i + ds2.length) 0 = 0 := by rw [h.rest _ (Nat.le_refl _)]; exact h0.top _ (Nat.le_refl _)
  refine ⟨hz, by simp [h.len], set_small h.small h.carry, ?_, fun j hj => ?_⟩
  · have e1 := v24_set hl c
    rw [hz] at e1
    have e2 := h.val
    rw [List.take_of_length_le (Nat.le_refl _)] at e2
    rw [v24_take_succ, h0.val] at *
    grind
  · rw [set_getD (by omega), h.rest j (by omega)]; exact h0.top j (by omega)

theorem own_made {W : World} {R n : Nat} (h : W.heap[R]? = some (.cells (i64s (List.replicate n 0)).toArray 2 (0, 0))) (hn : n ≤ 100000) : W.ownsRow R 2 1 (.slice (some ⟨R, 0, none⟩) (List.replicate n 0).length (List.replicate n 0).length) (List.replicate n 0).length (i64s (List.replicate n 0)) := by
  refine ⟨by simp [i64s], Or.inr ⟨R, _, _, rfl, Nat.le_refl _, h, Nat.le_refl _, by unfold maxLen; simp; omega, by simp [i64s], ?_⟩⟩
  simp only [Nat.mul_one]
  rw [List.take_of_length_le (by simp [i64s])]

end Go.Proofs.YtfcgndgmbmkdgaaDoor

/- The reference's Mul: the walk. -/
namespace Go.Proofs.YtfcgndgmbmkdgaaDoor
open Go.RowKit
attribute [local go_sem ↓] Go.wp_at_zero Go.wp_at_succ

theorem boxes5 (w : World) (a b c d e : Obj) : let W := ((((w.alloc a).alloc b).alloc c).alloc d).alloc e
    W.heap[w.heap.size]? = some a ∧ W.heap[w.heap.size + 1]? = some b ∧ W.heap[w.heap.size + 2]? = some c ∧ W.heap[w.heap.size + 3]? = some d ∧ W.heap[w.heap.size + 4]? = some e ∧ Below w.heap.size w W := by
  have h3 := boxes3 w a b c
  have s3 : (((w.alloc a).alloc b).alloc c).heap.size = w.heap.size + 3 := by simp
  have h4 := old_box (((w.alloc a).alloc b).alloc c) d e
  have h5 := new_box (((w.alloc a).alloc b).alloc c) d e
  rw [s3] at h4 h5
  have hk : ∀ k, k < w.heap.size + 3 → (((((w.alloc a).alloc b).alloc c).alloc d).alloc e).heap[k]? = (((w.alloc a).alloc b).alloc c).heap[k]? := fun k hk => by
    rw [Below.heap_alloc _ _ _ (by simp; omega), Below.heap_alloc _ _ _ (by simp; omega)]
  refine ⟨?_, ?_, ?_, h4, h5, ?_⟩
  · rw [hk _ (by omega)]; exact h3.1
  · rw [hk _ (by omega)]; exact h3.2.1
  · rw [hk _ (by omega)]; exact h3.2.2
  · exact ((below3 w a b c).alloc (by simp; omega) _).alloc (by simp; omega) _

end Go.Proofs.YtfcgndgmbmkdgaaDoor

/- The reference's Neg, Sub, Cmp, Abs of whatever numbers. -/
namespace Go.Proofs.YtfcgndgmbmkdgaaDoor
open Go.RowKit
attribute [local go_sem ↓] Go.wp_at_zero Go.wp_at_succ

theorem keepN6_set {w W : World} {o1 o2 o3 o4 o5 o6 : Nat} {x1 x2 x3 x4 x5 x6 : Value} (h : W.cell? ⟨w.heap.size, o1, none⟩ = some x1 ∧ W.cell? ⟨w.heap.size, o2, none⟩ = some x2 ∧ W.cell? ⟨w.heap.size, o3, none⟩ = some x3 ∧ W.cell? ⟨w.heap.size + 1, o4, none⟩ = some x4 ∧ W.cell? ⟨w.heap.size + 1, o5, none⟩ = some x5 ∧ W.cell? ⟨w.heap.size + 1, o6, none⟩ = some x6 ∧ Below w.heap.size w W) (u0 u1 u2 : Value) :
    (fun W' : World => W'.cell? ⟨w.heap.size, o1, none⟩ = some x1 ∧ W'.cell? ⟨w.heap.size, o2, none⟩ = some x2 ∧ W'.cell? ⟨w.heap.size, o3, none⟩ = some x3 ∧ W'.cell? ⟨w.heap.size + 1, o4, none⟩ = some x4 ∧ W'.cell? ⟨w.heap.size + 1, o5, none⟩ = some x5 ∧ W'.cell? ⟨w.heap.size + 1, o6, none⟩ = some x6 ∧ Below w.heap.size w W') (((W.setCell ⟨w.heap.size + 1 + 1, 0, none⟩ u0).setCell ⟨w.heap.size + 1 + 1, 1, none⟩ u1).setCell ⟨w.heap.size + 1 + 1, 2, none⟩ u2) := by
  have o : ∀ (W : World) (b i j : Nat) (x v : Value), b ≠ w.heap.size + 1 + 1 → W.cell? ⟨b, i, none⟩ = some x → (W.setCell ⟨w.heap.size + 1 + 1, j, none⟩ v).cell? ⟨b, i, none⟩ = some x := fun W b i j x v hb hx => by
    rw [World.cell?_setCell_other W _ _ v (by intro e; cases e; exact hb rfl)]; exact hx
  have o3 : ∀ (b i : Nat) (x : Value), b ≠ w.heap.size + 1 + 1 → W.cell? ⟨b, i, none⟩ = some x → (((W.setCell ⟨w.heap.size + 1 + 1, 0, none⟩ u0).setCell ⟨w.heap.size + 1 + 1, 1, none⟩ u1).setCell ⟨w.heap.size + 1 + 1, 2, none⟩ u2).cell? ⟨b, i, none⟩ = some x := fun b i x hb hx => o _ b i 2 x u2 hb (o _ b i 1 x u1 hb (o _ b i 0 x u0 hb hx))
  refine ⟨o3 _ _ _ (by omega) h.1, o3 _ _ _ (by omega) h.2.1, o3 _ _ _ (by omega) h.2.2.1, o3 _ _ _ (by omega) h.2.2.2.1, o3 _ _ _ (by omega) h.2.2.2.2.1, o3 _ _ _ (by omega) h.2.2.2.2.2.1, ?_⟩
  exact ((h.2.2.2.2.2.2.setCell (by show w.heap.size ≤ w.heap.size + 1 + 1; omega) _).setCell (by show w.heap.size ≤ w.heap.size + 1 + 1; omega) _).setCell (by show w.heap.size ≤ w.heap.size + 1 + 1; omega) _

theorem Canon.neg {S E : Int} {ds : List Nat} (h : Canon S ds E) : Canon (-S) ds E := by
  rcases h with ⟨a, b, c⟩ | ⟨a, b, c, d⟩
  · exact Or.inl ⟨a, by omega, c⟩
  · exact Or.inr ⟨a, by omega, c, d⟩
theorem Rf.sgn {w : World} {v : Value} {q : Rat} (h : Rf w v q) : ∃ S a n c E, v = .agg #[.int .i64 S, .slice a n c, .int .i64 E] ∧ ((S = 0 ∧ q = 0) ∨ (S = 1 ∧ 0 < q) ∨ (S = -1 ∧ q < 0)) := by
  obtain ⟨S, ds, E, h1, h2, rfl⟩ := h
  obtain ⟨a, c, rfl, _⟩ := h1.form
  exact ⟨S, a, _, c, E, rfl, canon_sgn h2⟩

/-- The sign of a number. -/
def sgq (q : Rat) : Int := if q < 0 then -1 else if q = 0 then 0 else 1
theorem sgq_of {S : Int} {q : Rat} (h : (S = 0 ∧ q = 0) ∨ (S = 1 ∧ 0 < q) ∨ (S = -1 ∧ q < 0)) : S = sgq q := by
  unfold sgq
  rcases h with ⟨rfl, rfl⟩ | ⟨rfl, h⟩ | ⟨rfl, h⟩
  · rw [if_neg (by grind), if_pos rfl]
  · rw [if_neg (by grind), if_neg (by grind)]
  · rw [if_pos h]

end Go.Proofs.YtfcgndgmbmkdgaaDoor

/- The reference's Mul, High and Low of whatever numbers. -/
namespace Go.Proofs.YtfcgndgmbmkdgaaDoor
open Go.RowKit

theorem rf_zero (w : World) : Rf w (.agg #[.int .i64 0, .slice none 0 0, .int .i64 0]) 0 :=
  ⟨0, [], 0, ⟨⟨none, 0, rfl, by simp, Or.inl rfl⟩, by simp, by simp, by omega, by omega⟩, Or.inl ⟨rfl, rfl, rfl⟩, by rw [mag_nil]; grind⟩

theorem canon_digit {S E : Int} {ds : List Nat} (h : Canon S ds E) (hn : ds ≠ []) : ∃ j, dgt ds E j ≠ 0 := by
  rcases h with ⟨h, _⟩ | ⟨_, _, h, _⟩
  · exact absurd h hn
  · refine ⟨E, ?_⟩
    have := List.length_pos_iff.2 hn
    unfold dgt
    rw [if_pos ⟨by omega, by omega⟩, show (E - E).toNat = 0 by omega]; exact h

theorem eq_small {ds ds' : List Nat} {E E' : Int} (hs : ∀ d ∈ ds, d < 16777216) (heq : ∀ j, dgt ds' E' j = dgt ds E j) : ∀ i, ds'.getD i 0 < 16777216 := by
  intro i
  by_cases hi : i < ds'.length
  · have h : dgt ds' E' (E' + (i : Int)) = ds'.getD i 0 := by
      unfold dgt; rw [if_pos ⟨by omega, by omega⟩, show (E' + (i : Int) - E').toNat = i by omega]
    rw [← h, heq, dgt_dg]; exact dg_small hs _ _
  · simp [List.getD, List.getElem?_eq_none (Nat.le_of_not_lt hi)]
theorem eq_small' {ds ds' : List Nat} {E E' : Int} (hs : ∀ d ∈ ds, d < 16777216) (heq : ∀ j, dgt ds' E' j = dgt ds E j) : ∀ d ∈ ds', d < 16777216 := by
  intro d hd
  obtain ⟨i, hi, rfl⟩ := List.getElem_of_mem hd
  have := eq_small hs heq i
  rwa [show ds'.getD i 0 = ds'[i] by simp [List.getD, hi]] at this
theorem v24_head (ds : List Nat) : ∃ r, v24 ds = ds.getD 0 0 + 16777216 * r := by
  cases ds with
  | nil => exact ⟨0, by simp [v24]⟩
  | cons a r => exact ⟨v24 r, by simp [v24]⟩

end Go.Proofs.YtfcgndgmbmkdgaaDoor

/- The model's rounding is to the nearest, the even one between two. -/
namespace Go.Proofs.YtfcgndgmbmkdgaaDoor

theorem cut_even (neg : Bool) (n d : Nat) : ∃ k, Ieee.Toward.even.cut neg n d = k ∧ 2 * (k * 2 ^ d) ≤ 2 * n + 2 ^ d ∧ 2 * n ≤ 2 * (k * 2 ^ d) + 2 ^ d ∧ (2 * (k * 2 ^ d) = 2 * n + 2 ^ d → k % 2 = 0) ∧ (2 * n = 2 * (k * 2 ^ d) + 2 ^ d → k % 2 = 0) := by
  refine ⟨_, rfl, ?_⟩
  unfold Ieee.Toward.cut
  simp only [Nat.shiftLeft_eq, Nat.one_mul]
  rcases Nat.lt_or_ge (n.log2 + 2) d with h | h
  · rw [Nat.min_eq_right (by omega)]
    have h1 : n < 2 ^ (n.log2 + 1) := Nat.lt_log2_self
    have h2 : 2 ^ (n.log2 + 2) = 2 * 2 ^ (n.log2 + 1) := by rw [Nat.pow_succ]; omega
    have h3 : 2 ^ (n.log2 + 2) ≤ 2 ^ d := Nat.pow_le_pow_right (by omega) (by omega)
    generalize hg : 2 ^ (n.log2 + 2) = g at *
    generalize 2 ^ (n.log2 + 1) = g1 at *
    generalize 2 ^ d = D at *
    have e1 : n / g = 0 := Nat.div_eq_of_lt (by omega)
    have e2 : n % g = n := Nat.mod_eq_of_lt (by omega)
    rw [e1, e2]
    have e3 : (decide (g < 2 * n) || g == 2 * n && 0 % 2 == 1) = false := by simp; omega
    rw [e3]
    simp
    omega
  · rw [Nat.min_eq_left h]
    have hg : 0 < 2 ^ d := Nat.two_pow_pos d
    generalize 2 ^ d = g at *
    have hd := Nat.div_add_mod n g
    have hm := Nat.mod_lt n hg
    generalize n / g = low at *
    generalize n % g = rest at *
    rw [Nat.mul_comm] at hd
    by_cases hmore : g < 2 * rest ∨ (g = 2 * rest ∧ low % 2 = 1)
    · have e3 : (decide (g < 2 * rest) || g == 2 * rest && low % 2 == 1) = true := by simpa using hmore
      rw [e3]
      have : (low + true.toNat) * g = low * g + g := by simp [Nat.add_mul]
      rw [this]
      generalize low * g = P at *
      refine ⟨by omega, by omega, ?_, ?_⟩
      · intro h; simp; omega
      · intro h; simp; omega
    · have e3 : (decide (g < 2 * rest) || g == 2 * rest && low % 2 == 1) = false := by
        rw [Bool.eq_false_iff]; intro h; apply hmore; simpa using h
      rw [e3]
      have : (low + false.toNat) * g = low * g := by simp
      rw [this]
      generalize low * g = P at *
      refine ⟨by omega, by omega, ?_, ?_⟩
      · intro h; simp; omega
      · intro h; simp; omega

theorem int_eq {a b : Int} {u : Rat} (hu : 0 < u) (h : (a : Rat) * u = (b : Rat) * u) : a = b :=
  Int.le_antisymm (int_le hu (le_of_same h)) (int_le hu (le_of_same h.symm))

theorem log_bounds (mag : Nat) (hm : mag ≠ 0) (place : Int) : p2 (place + (mag.log2 : Nat)) ≤ (mag : Nat) * p2 place ∧ ((mag : Nat) : Rat) * p2 place < p2 (place + (mag.log2 : Nat) + 1) := by
  have h1 : 2 ^ mag.log2 ≤ mag := Nat.log2_self_le hm
  have h2 : mag < 2 ^ (mag.log2 + 1) := Nat.lt_log2_self
  have hp := p2_pos place
  constructor
  · rw [p2_add, p2_nat, Rat.mul_comm]
    exact Rat.mul_le_mul_of_nonneg_right (Rat.natCast_le_natCast.2 h1) (Rat.le_of_lt hp)
  · rw [show place + (mag.log2 : Nat) + 1 = place + ((mag.log2 + 1 : Nat) : Int) by omega, p2_add, p2_nat, Rat.mul_comm (p2 place)]
    exact Rat.mul_lt_mul_of_pos_right (Rat.natCast_lt_natCast.2 h2) hp

theorem nearest_near (neg : Bool) (mag : Nat) (place : Int) (hm : mag ≠ 0) : ∃ r, Ieee.double.nearest neg mag place = Ieee.double.word neg r ∧ Near ((mag : Nat) * p2 place) r := by
  unfold Ieee.Format.nearest
  rw [if_neg hm]
  simp only [d_lp, d_bin, d_inf, show Ieee.double.fractionBits = 52 from rfl]
  obtain ⟨last, hlast⟩ : ∃ l : Int, l = max (place + (mag.log2 : Nat) - ((52 : Nat) : Int)) (-1074) := ⟨_, rfl⟩
  rw [← hlast]
  obtain ⟨k, hk, c1, c2, c3, c4⟩ := cut_even neg (mag <<< (place - last).toNat) (last - place).toNat
  rw [hk]
  refine ⟨_, rfl, Or.inr ⟨?_, (last + 1074).toNat, k, ?_, ?_, by rw [show last - -1074 = last + 1074 by omega]⟩⟩
  · exact Rat.mul_pos (Rat.natCast_pos.2 (by omega)) (p2_pos _)
  · have hb := log_bounds mag hm place
    have eT : (((last + 1074).toNat : Nat) : Int) - 1075 = last - 1 := by omega
    rw [Last, eT]
    have x1 : ((9007199254740992 : Int) : Rat) * p2 (last - 1) = p2 (last + 52) := by
      rw [show last + 52 = (last - 1) + ((53 : Nat) : Int) by omega, p2_add, p2_nat, Rat.mul_comm]; rfl
    have x2 : ((18014398509481984 : Int) : Rat) * p2 (last - 1) = p2 (last + 53) := by
      rw [show last + 53 = (last - 1) + ((54 : Nat) : Int) by omega, p2_add, p2_nat, Rat.mul_comm]; rfl
    rw [x1, x2]
    constructor
    · by_cases h : last = -1074
      · left; omega
      · right
        have := p2_mono (a := last + 52) (b := place + (mag.log2 : Nat)) (by omega)
        exact Rat.le_trans this hb.1
    · exact lt_of_lt_le hb.2 (p2_mono (by omega))
  · have eT : (((last + 1074).toNat : Nat) : Int) - 1075 = last - 1 := by omega
    rw [eT]
    generalize hd : (last - place).toNat = d at *
    generalize hn : mag <<< (place - last).toNat = n at *
    rw [Nat.shiftLeft_eq] at hn
    have hv := p2_pos (last - (d : Nat) - 1)
    have e1 : ((mag : Nat) : Rat) * p2 place = ((2 * (n : Int) : Int) : Rat) * p2 (last - (d : Nat) - 1) := by
      have a1 : ((2 * (n : Int) : Int) : Rat) = 2 * ((n : Nat) : Rat) := by rw [Rat.intCast_mul]; rfl
      have a2 : p2 (last - (d : Nat)) = 2 * p2 (last - (d : Nat) - 1) := by
        have := p2_add 1 (last - (d : Nat) - 1)
        rwa [p2_one, show 1 + (last - (d : Nat) - 1) = last - (d : Nat) by omega] at this
      have a3 : ((mag : Nat) : Rat) * p2 place = ((n : Nat) : Rat) * p2 (last - (d : Nat)) := by
        rw [← hn, nat_mul_p2, Rat.mul_assoc, ← p2_add]
        congr 2; omega
      rw [a3, a1, a2]
      generalize p2 (last - (d : Nat) - 1) = v
      grind
    have e2 : ∀ z : Int, (z : Rat) * p2 (last - 1) = ((z * ((2 ^ d : Nat) : Int) : Int) : Rat) * p2 (last - (d : Nat) - 1) := fun z => by
      rw [show last - 1 = (d : Nat) + (last - (d : Nat) - 1) by omega, p2_add, p2_nat, Rat.intCast_mul, Rat.mul_assoc]; rfl
    rw [e1]
    unfold Half
    rw [e2, e2]
    have y1 : (2 * (k : Int) - 1) * ((2 ^ d : Nat) : Int) = 2 * ((k * 2 ^ d : Nat) : Int) - ((2 ^ d : Nat) : Int) := by rw [Int.natCast_mul]; grind
    have y2 : (2 * (k : Int) + 1) * ((2 ^ d : Nat) : Int) = 2 * ((k * 2 ^ d : Nat) : Int) + ((2 ^ d : Nat) : Int) := by rw [Int.natCast_mul]; grind
    rw [y1, y2]
    generalize k * 2 ^ d = P at *
    generalize 2 ^ d = D at *
    refine ⟨le_int hv (by omega), le_int hv (by omega), ?_, ?_⟩
    · intro h
      have := int_eq hv h
      exact c3 (by omega)
    · intro h
      have := int_eq hv h
      exact c4 (by omega)

end Go.Proofs.YtfcgndgmbmkdgaaDoor

/- Rounding to the nearest, in plain numbers: what is exact. -/
namespace Go.Proofs.YtfcgndgmbmkdgaaDoor

/-- The units. -/
def U (T : Nat) : Rat := p2 ((T : Int) - 1074)
theorem U_pos (T : Nat) : 0 < U T := p2_pos _
theorem U_succ (T : Nat) : U (T + 1) = 2 * U T := by
  unfold U
  rw [show ((T + 1 : Nat) : Int) - 1074 = 1 + ((T : Int) - 1074) by omega, p2_add, p2_one]
theorem U_add (S j : Nat) : U (S + j) = ((2 ^ j : Nat) : Rat) * U S := by
  unfold U
  rw [show ((S + j : Nat) : Int) - 1074 = (j : Nat) + ((S : Int) - 1074) by omega, p2_add, p2_nat]
theorem U_mono {S T : Nat} (h : S ≤ T) : U S ≤ U T := p2_mono (by omega)
theorem U_lt {S T : Nat} (h : S < T) : 2 * U S ≤ U T := by rw [← U_succ]; exact U_mono h
theorem U_lt2 {S T : Nat} (h : S + 2 ≤ T) : 4 * U S ≤ U T := by
  have h1 := U_mono h
  have h2 := U_succ (S + 1)
  have h3 := U_succ S
  grind

/-- A multiple of u. -/
def M (u x : Rat) : Prop := ∃ k : Int, x = (k : Rat) * u
theorem M.add {u x y : Rat} (h1 : M u x) (h2 : M u y) : M u (x + y) := by
  obtain ⟨j, rfl⟩ := h1
  obtain ⟨k, rfl⟩ := h2
  exact ⟨j + k, by rw [Rat.intCast_add]; grind⟩
theorem M.neg {u x : Rat} (h1 : M u x) : M u (-x) := by
  obtain ⟨j, rfl⟩ := h1
  exact ⟨-j, by rw [Rat.intCast_neg]; grind⟩
theorem M.sub {u x y : Rat} (h1 : M u x) (h2 : M u y) : M u (x - y) := by
  have := h1.add h2.neg
  rwa [show x + -y = x - y by grind] at this
theorem M.down {S T : Nat} {x : Rat} (h : S ≤ T) (h1 : M (U T) x) : M (U S) x := by
  obtain ⟨k, rfl⟩ := h1
  obtain ⟨j, rfl⟩ : ∃ j, T = S + j := ⟨T - S, by omega⟩
  exact ⟨k * ((2 ^ j : Nat) : Int), by rw [U_add, Rat.intCast_mul, Rat.mul_assoc]; rfl⟩

theorem one_rat : ((1 : Int) : Rat) = 1 := rfl
theorem cast_lt {a b : Int} {u : Rat} (hu : 0 < u) (h : (a : Rat) * u < (b : Rat) * u) : a < b := by
  rcases Int.lt_or_le a b with h1 | h1
  · exact h1
  · have h2 : (b : Rat) ≤ (a : Rat) := Rat.intCast_le_intCast.2 h1
    have h3 := Rat.mul_le_mul_of_nonneg_right h2 (Rat.le_of_lt hu)
    grind
theorem cast_le {a b : Int} {u : Rat} (hu : 0 < u) (h : (a : Rat) * u ≤ (b : Rat) * u) : a ≤ b := by
  rcases Int.lt_or_le b a with h1 | h1
  · have h2 : (b : Rat) < (a : Rat) := Rat.intCast_lt_intCast.2 h1
    have h3 := Rat.mul_lt_mul_of_pos_right h2 hu
    grind
  · exact h1

/-- Of two multiples that are less than a unit apart. -/
theorem M.eq {u x y : Rat} (hu : 0 < u) (h1 : M u x) (h2 : M u y) (a : x - y < u) (b : y - x < u) : x = y := by
  obtain ⟨j, rfl⟩ := h1
  obtain ⟨k, rfl⟩ := h2
  have e1 : ((j - k : Int) : Rat) * u < ((1 : Int) : Rat) * u := by rw [Rat.intCast_sub, one_rat]; grind
  have e2 : ((k - j : Int) : Rat) * u < ((1 : Int) : Rat) * u := by rw [Rat.intCast_sub, one_rat]; grind
  have f1 := cast_lt hu e1
  have f2 := cast_lt hu e2
  have : j = k := by omega
  rw [this]

/-- What may be: at most 2^53 units. -/
def F (z : Rat) : Prop := ∃ (S : Nat) (m : Int), z = (m : Rat) * U S ∧ -9007199254740992 ≤ m ∧ m ≤ 9007199254740992
theorem F.neg {z : Rat} (h : F z) : F (-z) := by
  obtain ⟨S, m, rfl, h1, h2⟩ := h
  exact ⟨S, -m, by rw [Rat.intCast_neg]; grind, by omega, by omega⟩
theorem F_zero : F 0 := ⟨0, 0, by rw [show ((0 : Int) : Rat) = 0 from rfl]; grind, by omega, by omega⟩

/-- A multiple of a unit that is not too great may be. -/
theorem M.small {S : Nat} {z : Rat} (n : Int) (hn : n ≤ 9007199254740992) (h : M (U S) z) (a : z < ((n + 1 : Int) : Rat) * U S) (b : -z < ((n + 1 : Int) : Rat) * U S) : F z := by
  obtain ⟨k, rfl⟩ := h
  have hu := U_pos S
  have e1 := cast_lt hu a
  have e2 : ((-k : Int) : Rat) * U S < ((n + 1 : Int) : Rat) * U S := by rw [Rat.intCast_neg]; grind
  have e2 := cast_lt hu e2
  exact ⟨S, k, rfl, by omega, by omega⟩

/-- x is q, rounded: in units of U T. -/
structure Rnd (q x : Rat) (T : Nat) (k : Int) : Prop where
  hx : x = (k : Rat) * U T
  h1 : 2 * (x - q) ≤ U T
  h2 : -U T ≤ 2 * (x - q)
  h3 : T = 0 ∨ 4503599627370496 * U T ≤ q ∨ 4503599627370496 * U T ≤ -q
  h4 : q < 9007199254740992 * U T
  h5 : -q < 9007199254740992 * U T
  k1 : -9007199254740992 ≤ k
  k2 : k ≤ 9007199254740992

theorem Rnd.m {q x : Rat} {T : Nat} {k : Int} (R : Rnd q x T k) : M (U T) x := ⟨k, R.hx⟩
theorem Rnd.f {q x : Rat} {T : Nat} {k : Int} (R : Rnd q x T k) : F x := ⟨T, k, R.hx, R.k1, R.k2⟩

theorem Rnd.mult {q x : Rat} {T : Nat} {k : Int} (R : Rnd q x T k) (h : M (U T) q) : x = q := by
  have hu := U_pos T
  have h1 := R.h1
  have h2 := R.h2
  exact M.eq hu R.m h (by grind) (by grind)

theorem F.abs {z : Rat} {S : Nat} {m : Int} (h : z = (m : Rat) * U S) (h1 : -9007199254740992 ≤ m) (h2 : m ≤ 9007199254740992) : z ≤ 9007199254740992 * U S ∧ -z ≤ 9007199254740992 * U S := by
  have hu := U_pos S
  have a1 := Rat.mul_le_mul_of_nonneg_right (Rat.intCast_le_intCast.2 h2) (Rat.le_of_lt hu)
  have a2 := Rat.mul_le_mul_of_nonneg_right (Rat.intCast_le_intCast.2 h1) (Rat.le_of_lt hu)
  have e1 : ((9007199254740992 : Int) : Rat) = 9007199254740992 := rfl
  have e2 : ((-9007199254740992 : Int) : Rat) = -9007199254740992 := rfl
  rw [e1] at a1
  rw [e2] at a2
  rw [h]
  constructor <;> grind

/-- What may be is not rounded. -/
theorem Rnd.exact {q x : Rat} {T : Nat} {k : Int} (R : Rnd q x T k) (h : F q) : x = q := by
  obtain ⟨S, m, hq, h1, h2⟩ := h
  have hu := U_pos S
  rcases Nat.lt_or_ge S T with hs | hs
  · have hb := F.abs hq h1 h2
    have h3 := R.h3
    rcases Nat.lt_or_ge T (S + 2) with ht | ht
    · have e : T = S + 1 := by omega
      subst e
      have eu := U_succ S
      apply R.mult
      have hm : m = 9007199254740992 ∨ m = -9007199254740992 := by
        rcases h3 with h3 | h3 | h3
        · omega
        · left
          have : ((9007199254740992 : Int) : Rat) * U S ≤ (m : Rat) * U S := by
            rw [← hq, show ((9007199254740992 : Int) : Rat) = 9007199254740992 from rfl]; grind
          have := cast_le hu this
          omega
        · right
          have : ((9007199254740992 : Int) : Rat) * U S ≤ ((-m : Int) : Rat) * U S := by
            rw [Rat.intCast_neg, show ((9007199254740992 : Int) : Rat) = 9007199254740992 from rfl]; grind
          have := cast_le hu this
          omega
      rcases hm with rfl | rfl
      · exact ⟨4503599627370496, by rw [hq, eu, show ((9007199254740992 : Int) : Rat) = 9007199254740992 from rfl, show ((4503599627370496 : Int) : Rat) = 4503599627370496 from rfl]; grind⟩
      · exact ⟨-4503599627370496, by rw [hq, eu, show ((-9007199254740992 : Int) : Rat) = -9007199254740992 from rfl, show ((-4503599627370496 : Int) : Rat) = -4503599627370496 from rfl]; grind⟩
    · have := U_lt2 ht
      exfalso
      rcases h3 with h3 | h3 | h3
      · omega
      · grind
      · grind
  · exact R.mult (M.down hs ⟨m, hq⟩)

/-- Nothing that may be is nearer. -/
theorem Rnd.best {q x y c : Rat} {T : Nat} {k : Int} (R : Rnd q x T k) (h : F y) (c1 : -c ≤ y - q) (c2 : y - q ≤ c) : -c ≤ x - q ∧ x - q ≤ c := by
  have hu := U_pos T
  have r1 := R.h1
  have r2 := R.h2
  have key : ∀ {z d : Rat}, M (U T) z → -d ≤ z - q → z - q ≤ d → -d ≤ x - q ∧ x - q ≤ d := by
    intro z d hz d1 d2
    by_cases e : x - z < U T ∧ z - x < U T
    · have := M.eq hu R.m hz e.1 e.2
      rw [this]; exact ⟨d1, d2⟩
    · constructor <;> grind
  obtain ⟨S, m, hy, h1, h2⟩ := h
  rcases Nat.lt_or_ge S T with hs | hs
  · have hb := F.abs hy h1 h2
    have hl := U_lt hs
    rcases R.h3 with h3 | h3 | h3
    · omega
    · have := key (z := 4503599627370496 * U T) (d := q - 4503599627370496 * U T) ⟨4503599627370496, rfl⟩ (by grind) (by grind)
      constructor <;> grind
    · have := key (z := -4503599627370496 * U T) (d := -q - 4503599627370496 * U T) ⟨-4503599627370496, rfl⟩ (by grind) (by grind)
      constructor <;> grind
  · exact key (M.down hs ⟨m, hy⟩) c1 c2

end Go.Proofs.YtfcgndgmbmkdgaaDoor
