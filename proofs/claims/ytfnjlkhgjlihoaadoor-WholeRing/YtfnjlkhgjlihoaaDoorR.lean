/- Rows of the call's own: a block of cells that may be written, told whole by a list. -/
import Derived.Test.YtfnjlkhgjlihoaaDoorWa
import Derived.Test.YtfnjlkhgjlihoaaDoorM
namespace Go.Proofs.YtfnjlkhgjlihoaaDoor
open Go.RowKit

/-- Block g holds just the cells xs, none of them frozen. -/
def Row (w : World) (e : TypeId) (g : Nat) (xs : List Value) : Prop := w.heap[g]? = some (.cells xs.toArray e (0, 0))

theorem Row.lt {w : World} {e : TypeId} {g : Nat} {xs : List Value} (h : Row w e g xs) : g < w.heap.size := by
  unfold Row at h
  by_cases hg : g < w.heap.size
  · exact hg
  · rw [Array.getElem?_eq_none (by omega)] at h; cases h

theorem Row.cell {w : World} {e : TypeId} {g : Nat} {xs : List Value} (h : Row w e g xs) (i : Nat) (hi : i < xs.length) : w.cell? ⟨g, i, none⟩ = some xs[i] := by
  unfold Row at h; simp [World.cell?, h, hi]

theorem Row.frozen {w : World} {e : TypeId} {g : Nat} {xs : List Value} (h : Row w e g xs) (i : Nat) : w.frozen? ⟨g, i, none⟩ = false := by
  unfold Row at h; simp [World.frozen?, h]

theorem Row.set {w : World} {e : TypeId} {g : Nat} {xs : List Value} (h : Row w e g xs) (i : Nat) (v : Value) : Row (w.setCell ⟨g, i, none⟩ v) e g (xs.set i v) := by
  have hg := h.lt
  unfold Row at *
  simp [World.setCell, Array.getElem?_modify, h]

theorem Row.other {w : World} {e : TypeId} {g : Nat} {xs : List Value} (h : Row w e g xs) {a : Addr} (hn : g ≠ a.block) (v : Value) : Row (w.setCell a v) e g xs := by
  unfold Row at *; rw [Below.heap_setCell w a v g hn]; exact h

theorem Row.alloc {w : World} {e : TypeId} {g : Nat} {xs : List Value} (h : Row w e g xs) (o : Obj) : Row (w.alloc o) e g xs := by
  have := h.lt
  unfold Row at *; rw [Below.heap_alloc w o g this]; exact h

theorem Row.drew {w : World} {e : TypeId} {g : Nat} {xs : List Value} (h : Row w e g xs) : Row w.drew e g xs := h

theorem Row.below {w w' : World} {e : TypeId} {g B : Nat} {xs : List Value} (h : Row w e g xs) (hb : Below B w w') (hg : g < B) : Row w' e g xs := by
  unfold Row at *; rw [hb.block g hg]; exact h

theorem Row.of_make {w : World} {e : TypeId} {g n : Nat} {z : Value} {base : Nat} (h : w.ownsRow base e 1 (.slice (some ⟨g, 0, none⟩) n n) n (madeCells #[z] n).toList) : Row w e g (List.replicate n z) := by
  obtain ⟨h0, h1 | ⟨g', cap, cur, hv, hb, hc, h2, h3, h4, h5⟩⟩ := h
  · exact absurd h1.1 (by simp)
  · simp only [Value.slice.injEq, Option.some.injEq, Addr.mk.injEq] at hv
    obtain ⟨⟨rfl, _⟩, _, rfl⟩ := hv
    unfold Row
    rw [hc]
    have : cur.toList = List.replicate n z := by
      rw [List.take_of_length_le (by simp [h4])] at h5
      rw [h5]
      apply List.ext_getElem
      · simp [madeCells]
      · intro i h1 h2
        simp [madeCells, Nat.mod_one]
    rw [← this]

theorem cell_other {w : World} {p a : Addr} {x : Value} (h : w.cell? p = some x) (hn : p.block ≠ a.block) (v : Value) : (w.setCell a v).cell? p = some x := by
  rw [World.cell?_of_block (w := w) (Below.heap_setCell w a v p.block hn)]; exact h

theorem frozen_later {w w' : World} (hb : Below w.heap.size w w') {p : Addr} (h : w.frozen? p = false) (hp : p.block < w.heap.size) : w'.frozen? p = false := by
  rw [hb.frozen hp]; exact h

theorem cell_ne {w : World} {p a : Addr} {x y : Value} (hp : w.cell? p = some x) (ha : w.cell? a = some y) (hxy : x ≠ y) (v : Value) : (w.setCell a v).cell? p = some x := by
  rw [World.cell?_setCell_other w a p v (by intro e; rw [← e, ha] at hp; exact hxy (Option.some.inj hp).symm)]; exact hp

theorem Ws.set {w : World} {s : Value} {ns : List Nat} (h : Ws w s ns) {a : Addr} {y : Value} (ha : w.cell? a = some y) (hy : ∀ n : Nat, y ≠ .int .u64 (n : Nat)) (v : Value) : Ws (w.setCell a v) s ns := by
  obtain ⟨⟨ad, cap, hs, hcap, hc⟩, h2, h3⟩ := h
  refine ⟨⟨ad, cap, hs, hcap, ?_⟩, h2, h3⟩
  rcases hc with hc | ⟨b, off, hb, hbs, hc⟩
  · exact Or.inl hc
  · exact Or.inr ⟨b, off, hb, by simpa using hbs, fun j hj => cell_ne (hc j hj) ha (fun e => hy _ e.symm) v⟩

/-- Words as cells. -/
def wds (l : List Nat) : List Value := l.map fun n => .int .u64 (n : Nat)

theorem wds_length (l : List Nat) : (wds l).length = l.length := by simp [wds]

theorem Row.ws {w : World} {e : TypeId} {g : Nat} {ns : List Nat} (h : Row w e g (wds ns)) (hs : Small ns) (hl : ns.length ≤ 1000000) (cap : Nat) (hcap : ns.length ≤ cap) : Ws w (.slice (some ⟨g, 0, none⟩) ns.length cap) ns :=
  ⟨⟨_, _, rfl, hcap, Or.inr ⟨g, 0, rfl, h.lt, fun j hj => by
    rw [Nat.zero_add, h.cell j (by rw [wds_length]; exact hj)]
    simp [wds, List.getD, hj]⟩⟩, hs, hl⟩

end Go.Proofs.YtfnjlkhgjlihoaaDoor
