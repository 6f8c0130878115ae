/- Own texts, put together: Efe Eff Efg. -/
import Derived.Test.YtgoadpnoagaflaaDoorQ35
import Derived.Test.YtgoadpnoagaflaaDoorQ37
namespace Go.Proofs.YtgoadpnoagaflaaDoor
/- Package elefile: floats. -/
section
set_option maxRecDepth 100000
open Go.RowKit Go.Shelf Go.Lib
attribute [local go_sem] run_store_float
def Co (W : World) (B t : Nat) (v : Value) (xs : List Value) : Prop :=
 ∃ a c, v = .slice a xs.length c ∧ xs.length ≤ c ∧ c ≤ 9223372036854775807 ∧ (xs = [] ∨ ∃ g off cur, a = some ⟨g, off, none⟩ ∧ B ≤ g ∧ CB W g cur t ∧ ∀ (i : Nat) (u : Value), xs[i]? = some u → cur[off + i]? = some u)
theorem Co.nil (W : World) (B t : Nat) : Co W B t (.slice none 0 0) [] := ⟨none, 0, rfl, by simp, by omega, Or.inl rfl⟩
theorem Co.later {W W' : World} {B t : Nat} {v : Value} {xs : List Value} (h : Co W B t v xs) (hb : Below W.heap.size W W') : Co W' B t v xs := by
 obtain ⟨a, c, h1, h2, h3, h4⟩ := h
 refine ⟨a, c, h1, h2, h3, ?_⟩
 rcases h4 with h4 | ⟨g, off, cur, h5, h6, h7, h8⟩
 · exact Or.inl h4
 · exact Or.inr ⟨g, off, cur, h5, h6, h7.later hb, h8⟩
theorem Co.base {W : World} {B B' t : Nat} {v : Value} {xs : List Value} (h : Co W B t v xs) (hb : B' ≤ B) : Co W B' t v xs := by
 obtain ⟨a, c, h1, h2, h3, h4⟩ := h
 refine ⟨a, c, h1, h2, h3, ?_⟩
 rcases h4 with h4 | ⟨g, off, cur, h5, h6, h7, h8⟩
 · exact Or.inl h4
 · exact Or.inr ⟨g, off, cur, h5, by omega, h7, h8⟩
theorem Co.ob {W W' : World} {B t C : Nat} {v : Value} {xs : List Value} (h : Co W B t v xs) (ho : Ob C W W') (hC : C < B) : Co W' B t v xs := by
 obtain ⟨a, c, h1, h2, h3, h4⟩ := h
 refine ⟨a, c, h1, h2, h3, ?_⟩
 rcases h4 with h4 | ⟨g, off, cur, h5, h6, h7, h8⟩
 · exact Or.inl h4
 · exact Or.inr ⟨g, off, cur, h5, h6, ho.cb h7 (by omega), h8⟩
end

/- Package elefile: rowOf. -/
section
set_option maxRecDepth 100000
open Go.RowKit Go.Shelf Go.Lib
attribute [local go_sem] run_store_float
abbrev rw2 : Array Value := #[.slice none 0 0, .slice none 0 0]
theorem CB.cells2E {W : World} {B t : Nat} {a b : Value} (h : CB W B #[a, b] t) : W.cell? ⟨B, 0, none⟩ = some a ∧ W.cell? ⟨B, 1, none⟩ = some b := ⟨h.cell 0 (by simp), h.cell 1 (by simp)⟩
def RoR (p : Pm) (w w' : World) (f c k i : Nat) (ws : List Bs) (e : Ending) : Prop := Below w.heap.size w w' ∧
 ∃ tv av, e = .returned (.tuple #[.agg #[tv, av], .int .i64 (rwE p f c k i ws)]) ∧ (rwE p f c k i ws = 0 → Co w' w.heap.size 3 tv (isV (rwV p f c ws).t) ∧ Co w' w.heap.size 35 av (f64s (rwV p f c ws).a)) ∧ (rwE p f c k i ws ≠ 0 → tv = .slice none 0 0 ∧ av = .slice none 0 0)
theorem RoR.bad {p : Pm} {w W : World} {f c k i : Nat} {ws : List Bs} {e : Int} (hb : Below w.heap.size w W) (he : rwE p f c k i ws = e) (h0 : e ≠ 0) : RoR p w W f c k i ws (.returned (.tuple #[.agg rw2, .int .i64 e])) :=
 ⟨hb, _, _, by rw [he], fun h => absurd (he ▸ h) h0, fun _ => ⟨rfl, rfl⟩⟩
structure Cn (w W : World) (g : Nat) (f c j : Nat) (ns : List Int) (fl : Array Value) (tv : Value) (ts : List Bs) : Prop where
 bel : Below w.heap.size w W
 fb : CB W w.heap.size fl 28
 rb : CB W (w.heap.size + 1) rw2 34
 row : ∃ cur, CB W g cur 3 ∧ (∀ (i : Nat) (n : Int), ns[i]? = some n → cur[1 + i]? = some (.int .i64 (if i < j then n - (f : Int) else n)))
 gw : w.heap.size + 1 < g
 tx : Sl W tv ts
theorem Cn.at {w W : World} {g f c j : Nat} {ns : List Int} {fl : Array Value} {tv : Value} {ts : List Bs} (h : Cn w W g f c j ns fl tv ts) {n : Int} (hn : ns[j]? = some n) : W.cell? ⟨g, 1 + j, none⟩ = some (.int .i64 n) ∧ W.frozen? ⟨g, 1 + j, none⟩ = false := by
 obtain ⟨cur, h1, h2⟩ := h.row
 have h3 := h2 j n hn
 rw [if_neg (by omega)] at h3
 obtain ⟨hl, he⟩ := Array.getElem?_eq_some_iff.1 h3
 exact ⟨by have := h1.cell (1 + j) hl; rw [this, he], h1.frozen _⟩
theorem Cn.step {w W : World} {g f c j : Nat} {ns : List Int} {fl : Array Value} {tv : Value} {ts : List Bs} (h : Cn w W g f c j ns fl tv ts) {n : Int} (hn : ns[j]? = some n) : Cn w (W.setCell ⟨g, 1 + j, none⟩ (.int .i64 (n - (f : Int)))) g f c (j + 1) ns fl tv ts := by
 obtain ⟨ha, _⟩ := h.at hn
 have hg := h.gw
 obtain ⟨cur, h1, h2⟩ := h.row
 refine ⟨h.bel.setCell (by show w.heap.size ≤ g; omega) _, h.fb.other (by omega) _, h.rb.other (by omega) _, ⟨_, h1.set (1 + j) _, fun i m hm => ?_⟩, hg, h.tx.set ha (by simp) _⟩
 have h3 := h2 i m hm
 obtain ⟨hl, he⟩ := Array.getElem?_eq_some_iff.1 h3
 by_cases e : i = j
 · subst e
   rw [hn] at hm
   cases hm
   rw [if_pos (by omega)]
   simp [hl]
 · rw [Array.set!_eq_setIfInBounds, Array.getElem?_setIfInBounds, if_neg (by omega), h3]
   congr 2
   by_cases h4 : i < j
   · rw [if_pos h4, if_pos (by omega)]
   · rw [if_neg h4, if_neg (by omega)]
theorem Cn.later {w W W' : World} {g f c j : Nat} {ns : List Int} {fl : Array Value} {tv : Value} {ts : List Bs} (h : Cn w W g f c j ns fl tv ts) (hb : Below W.heap.size W W') : Cn w W' g f c j ns fl tv ts := by
 obtain ⟨cur, h1, h2⟩ := h.row
 exact ⟨h.bel.trans (hb.mono h.bel.size), h.fb.later hb, h.rb.later hb, ⟨cur, h1.later hb, h2⟩, h.gw, h.tx.later hb⟩
end

/- Package elefile: rowOf, its walk. -/
section
set_option maxRecDepth 100000
open Go.RowKit Go.Shelf Go.Lib
attribute [local go_sem] run_store_float
end
end Go.Proofs.YtgoadpnoagaflaaDoor
