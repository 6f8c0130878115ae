/- Own texts, put together: Zi Zj Zk Zl. -/
import Derived.Test.YtifjfgafpfefpaaDoorV5
import Derived.Test.YtifjfgafpfefpaaDoorV13
import Derived.Deep.RegionHeld3
namespace Go.Proofs.YtifjfgafpfefpaaDoor
/- The reference's Add: the digits. -/
section
open Go.RowKit
structure AddW (w : World) (O : Nat) (S1 S2 E1 E2 F : Int) (sv1 sv2 : Value) (ds : List Nat) (wr : World) (sv : Value) : Prop where
 a : BoxN wr w.heap.size S1 sv1 E1
 b : BoxN wr (w.heap.size + 1) S2 sv2 E2
 r : BoxN wr (w.heap.size + 2) 0 (.slice none 0 0) 0
 o : BoxN wr O S1 sv F
 row : wr.ownsRow (O + 1) 2 1 sv ds.length (i64s ds)
 bel : Below w.heap.size w wr
 siz : O + 1 ≤ wr.heap.size
 ord : w.heap.size + 3 ≤ O
theorem AddW.later {w W W' : World} {O : Nat} {S1 S2 E1 E2 F : Int} {sv1 sv2 : Value} {ds : List Nat} {sv : Value} (h : AddW w O S1 S2 E1 E2 F sv1 sv2 ds W sv) (hb : Below W.heap.size W W') : AddW w O S1 S2 E1 E2 F sv1 sv2 ds W' sv := by
 have hs := h.siz
 have ho := h.ord
 have hz := hb.size
 exact ⟨h.a.block (hb.block _ (by omega)), h.b.block (hb.block _ (by omega)), h.r.block (hb.block _ (by omega)), h.o.block (hb.block _ (by omega)), h.row.kept (row := none) ⟨hb.os, hb.tape, hb.output, hb.size, fun k hk _ => hb.block k hk⟩ (by cases sv.ownBlock <;> simp), h.bel.trans (hb.mono (by omega)), by omega, ho⟩
theorem AddW.boxed {w W w1 : World} {O : Nat} {S1 S2 E1 E2 F : Int} {sv1 sv2 : Value} {ds : List Nat} {sv : Value} {o : Obj} (h : AddW w O S1 S2 E1 E2 F sv1 sv2 ds W sv) (hg : (W.alloc o).grownBy w1 sv.ownBlock) : BoxN w1 O S1 sv F :=
 (h.o.alloc o).grown hg (own_apart h.row (show O < O + 1 by omega))
theorem AddW.pushed {w W w1 : World} {O g cap d : Nat} {S1 S2 E1 E2 F x : Int} {sv1 sv2 : Value} {ds : List Nat} {sv : Value} {o : Obj} (h : AddW w O S1 S2 E1 E2 F sv1 sv2 ds W sv) (hg : (W.alloc o).grownBy w1 sv.ownBlock)
   (ho : w1.ownsRow (O + 1) 2 1 (.slice (some ⟨g, 0, none⟩) (ds.length + 1) cap) (ds.length + 1) (i64s ds ++ [.int .i64 x])) (hx : x = (d : Nat)) :
   AddW w O S1 S2 E1 E2 F sv1 sv2 (ds ++ [d]) (w1.setCell ⟨O, 1, none⟩ (.slice (some ⟨g, 0, none⟩) (ds.length + 1) cap)) (.slice (some ⟨g, 0, none⟩) (ds.length + 1) cap) := by
 subst hx
 have hs := h.siz
 have hod := h.ord
 refine ⟨?_, ?_, ?_, (h.boxed hg).set, ?_, ?_, ?_, hod⟩
 · exact ((h.a.alloc o).grown hg (own_apart h.row (by omega))).other (by simp; omega) _
 · exact ((h.b.alloc o).grown hg (own_apart h.row (by omega))).other (by simp; omega) _
 · exact ((h.r.alloc o).grown hg (own_apart h.row (by omega))).other (by simp; omega) _
 · rw [i64s_snoc] at ho
   have := own_other ho (a := ⟨O, 1, none⟩) (by simp) (.slice (some ⟨g, 0, none⟩) (ds.length + 1) cap)
   simpa using this
 · refine Below.setCell ?_ (by simp; omega) _
   have h1 : Below w.heap.size w (W.alloc o) := h.bel.alloc (by omega) o
   exact h1.grown hg (by simp; omega) (fun k hk => by have := (h.row.lt k hk).1; omega)
 · have := hg.size
   simp [World.setCell] at *
   omega
theorem boxes3 (w : World) (a b c : Obj) : (((w.alloc a).alloc b).alloc c).heap[w.heap.size]? = some a ∧ (((w.alloc a).alloc b).alloc c).heap[w.heap.size + 1]? = some b ∧ (((w.alloc a).alloc b).alloc c).heap[w.heap.size + 2]? = some c := by
 refine ⟨?_, ?_, ?_⟩
 · rw [Below.heap_alloc _ _ _ (by simp; omega)]; exact old_box w a b
 · rw [Below.heap_alloc _ _ _ (by simp)]; exact new_box w a b
 · have := heap_alloc_new ((w.alloc a).alloc b) c
   simpa using this
theorem below3 (w : World) (a b c : Obj) : Below w.heap.size w (((w.alloc a).alloc b).alloc c) := (((Below.refl _ _).alloc (Nat.le_refl _) _).alloc (by simp) _).alloc (by simp; omega) _
structure AddD (A B : Nat → Nat) (s : Int) (i : Nat) (zs : List Nat) (c : Int) : Prop where
 len : zs.length = i
 small : ∀ d ∈ zs, d < 16777216
 val : (v24 zs : Int) + ((2 ^ (24 * i) : Nat) : Int) * c = (A i : Int) + s * (B i : Int)
 c1 : -1 ≤ c
 c2 : c ≤ 1
theorem AddD.step {A B : Nat → Nat} {s c c' v : Int} {i a b d : Nat} {zs : List Nat} (h : AddD A B s i zs c) (hA : A (i + 1) = A i + 2 ^ (24 * i) * a) (hB : B (i + 1) = B i + 2 ^ (24 * i) * b) (hv : v = (a : Int) + s * (b : Int) + c) (hd : v = (d : Int) + 16777216 * c') (hdl : d < 16777216) (h1 : -1 ≤ c') (h2 : c' ≤ 1) : AddD A B s (i + 1) (zs ++ [d]) c' := by
 refine ⟨by simp [h.len], snoc_small h.small hdl, ?_, h1, h2⟩
 rw [v24_snoc, h.len, hA, hB, p24]
 have hval := h.val
 simp only [Int.natCast_add, Int.natCast_mul]
 generalize ((2 ^ (24 * i) : Nat) : Int) = P at *
 subst hv
 have e : ((16777216 : Nat) : Int) = 16777216 := rfl
 rw [e]
 grind
end

/- The reference's Add: the walk, the same sign. -/
section
open Go.RowKit
end

/- The reference's Add: the walk, other signs. -/
section
open Go.RowKit
end

/- The reference's Add, Sub, Cmp, Abs, of whatever numbers. -/
section
open Go.RowKit
end
end Go.Proofs.YtifjfgafpfefpaaDoor
