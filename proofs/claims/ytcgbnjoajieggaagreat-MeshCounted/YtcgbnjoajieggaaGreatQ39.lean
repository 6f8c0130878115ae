/- Own texts, put together: Mzd. -/
import Derived.Test.YtcgbnjoajieggaaGreatQ3
import Derived.Test.YtcgbnjoajieggaaGreatQ38
/- Package mesh: the law MeshUndone. (gen_mzd.py) -/
namespace Go.Proofs.YtcgbnjoajieggaaGreat
open Go.RowKit Go.Shelf Go.Lib
attribute [local go_sem ↓] Go.wp_at_zero Go.wp_at_succ
set_option maxRecDepth 100000
theorem tri_cells {w : World} {B g L c i : Nat} {xs : List (Nat × Nat × Nat)} {x y z : Nat} (h : Rk enc_tri 30 3 w B (.slice (some ⟨g, 0, none⟩) L c) xs) (hx : xs[i]? = some (x, y, z)) :
   w.cell? ⟨g, i * 3, none⟩ = some (.int .i64 (x : Nat)) ∧ w.cell? ⟨g, i * 3 + 1, none⟩ = some (.int .i64 (y : Nat)) ∧ w.cell? ⟨g, i * 3 + 2, none⟩ = some (.int .i64 (z : Nat)) := by
 obtain ⟨a, c', e, k⟩ := rk_tri h
 obtain ⟨g', e2, _, _, h3⟩ := k i _ hx
 injection e with e1 _ _
 rw [e2] at e1
 obtain rfl : g = g' := by injection e1 with e1; injection e1
 exact h3
theorem tri_blk {w : World} {B L c i : Nat} {a : Option Addr} {xs : List (Nat × Nat × Nat)} {q : Nat × Nat × Nat} (h : Rk enc_tri 30 3 w B (.slice a L c) xs) (hx : xs[i]? = some q) : ∃ g, a = some ⟨g, 0, none⟩ := by
 obtain ⟨a', c', e, k⟩ := rk_tri h
 obtain ⟨g', e2, _⟩ := k i _ hx
 injection e with e1 _ _
 exact ⟨g', e1.trans e2⟩
theorem TsP.later {W W' : World} {s : Value} {m : Nat} {t : Nat → Int × Int × Int} (h : TsP W s m t) (hb : Below W.heap.size W W') : TsP W' s m t := by
 obtain ⟨a, c, e, h⟩ := h
 refine ⟨a, c, e, ?_⟩
 rcases h with h | ⟨g, off, e2, hg, h⟩
 · exact Or.inl h
 · exact Or.inr ⟨g, off, e2, Nat.lt_of_lt_of_le hg hb.size, fun k hk => ⟨cell_later hb (h k hk).1, cell_later hb (h k hk).2.1, cell_later hb (h k hk).2.2⟩⟩
theorem Msh.keep {S : Nat → Prop} {W W' : World} {mB : Nat} {x : Gx} {P : List (Nat × Nat)} {A : List (List Wg)} {F : Int → Int → Option Int} {vs : List Value} (h : Msh S W mB x P A F vs) (hb : Below W.heap.size W W') : Msh S W' mB x P A F vs :=
 ⟨CB.later h.box hb, h.out, h.g.later hb⟩
end Go.Proofs.YtcgbnjoajieggaaGreat
