/- Own texts, put together: B0 Za Zb. -/
import Derived.Test.YtkgnlobakicnjaaDoorProg
import Derived.WalkKit
import Derived.WalkSpells
import Derived.WalkLawsBesides
import Derived.Laws.FloatArith
import Derived.Below
namespace Go.Proofs.YtkgnlobakicnjaaDoor
/- What all walks share: numbers that do not wrap; a float and its word. -/
section
open Go.RowKit
theorem run_bits (b : Nat) (w : World) : (callFunc 42 #[.float .f64 b]).run Tryd.prog w = .ok (.value (.int .u64 (b : Nat))) w := by
 rw [run_callFunc_extern Tryd.func42 (by kernel_rfl) (by kernel_rfl) (by kernel_rfl) (e := Extern.MathFloatBits.float64bits) (by kernel_rfl)]
 rfl
theorem run_frombits (b : Nat) (w : World) : (callFunc 45 #[.int .u64 (b : Nat)]).run Tryd.prog w = .ok (.value (.float .f64 b)) w := by
 rw [run_callFunc_extern Tryd.func45 (by kernel_rfl) (by kernel_rfl) (by kernel_rfl) (e := Extern.MathFloatBits.float64frombits) (by kernel_rfl)]
 rfl
theorem andNot_sign (b : Nat) (hb : b < 18446744073709551616) : bits .andNot .u64 (b : Int) 9223372036854775808 = ((b % 9223372036854775808 : Nat) : Int) := by
 rw [show (9223372036854775808 : Int) = ((9223372036854775808 : Nat) : Int) from rfl, u64_andNot_nat b _ hb (by omega)]
 rw [show (18446744073709551615 - 9223372036854775808 : Nat) = 2 ^ 63 - 1 by decide, Nat.and_two_pow_sub_one_eq_mod]
set_option maxHeartbeats 1000000 in
theorem abs_any (b : Nat) (w : World) (hb : b < 18446744073709551616) :
   Calls Tryd.prog 56 #[.float .f64 b] w fun e w' => e = .returned (.float .f64 (b % 9223372036854775808)) ∧ w' = w := by
 have h1 := run_bits b
 have h2 := run_frombits (b % 9223372036854775808)
 have h3 := andNot_sign b hb
 generalize b % 9223372036854775808 = c at *
 go_enter Tryd.func56, Tryd.ntmps56
 go_wp2
 go_ret
 exact ⟨rfl, rfl⟩
end

/- The reference's digit. -/
section
open Go.RowKit
def IntRow (w : World) (g : Nat) : Prop := ∃ cur fr, w.heap[g]? = some (.cells cur 2 fr)
theorem IntRow.lt {w : World} {g : Nat} (h : IntRow w g) : g < w.heap.size := by
 obtain ⟨cur, fr, h⟩ := h
 exact (Array.getElem?_eq_some_iff.1 h).1
theorem IntRow.block {w w' : World} {g : Nat} (h : IntRow w g) (he : w'.heap[g]? = w.heap[g]?) : IntRow w' g := by
 obtain ⟨cur, fr, h⟩ := h
 exact ⟨cur, fr, by rw [he]; exact h⟩
theorem IntRow.alloc {w : World} {g : Nat} (h : IntRow w g) (o : Obj) : IntRow (w.alloc o) g := h.block (Below.heap_alloc w o g h.lt)
structure Dig (w : World) (v : Value) (S : Int) (ds : List Nat) (E : Int) : Prop where
 form : ∃ a c, v = .agg #[.int .i64 S, .slice a ds.length c, .int .i64 E] ∧ ds.length ≤ c ∧ (ds = [] ∨ ∃ g off, a = some ⟨g, off, none⟩ ∧ (∀ k, k < ds.length → w.cell? ⟨g, off + k, none⟩ = some (.int .i64 (ds.getD k 0 : Nat))) ∧ IntRow w g)
 small : ∀ d ∈ ds, d < 16777216
 len : ds.length ≤ 1000000
 e1 : -1000000 ≤ E
 e2 : E ≤ 1000000
theorem Dig.later {w w' : World} {v : Value} {S E : Int} {ds : List Nat} (h : Dig w v S ds E) (hb : Below w.heap.size w w') : Dig w' v S ds E := by
 obtain ⟨⟨a, c, hv, hcap, hf⟩, h2, h3, h4, h5⟩ := h
 refine ⟨⟨a, c, hv, hcap, ?_⟩, h2, h3, h4, h5⟩
 rcases hf with hf | ⟨g, off, ha, hf, hr⟩
 · exact Or.inl hf
 · refine Or.inr ⟨g, off, ha, fun k hk => ?_, hr.block (hb.block g hr.lt)⟩
   have := hf k hk
   rw [hb.cell (World.block_lt_of_cell? _ _ this)]; exact this
end

/- The reference's size. -/
section
open Go.RowKit
theorem box_cell {w w' : World} (hb : Below w.heap.size w w') {p : Addr} {x : Value} (h : w.cell? p = some x) : w'.cell? p = some x := by
 rw [hb.cell (World.block_lt_of_cell? _ _ h)]; exact h
end
end Go.Proofs.YtkgnlobakicnjaaDoor
