/- Own texts, put together: Qu Qv Qw Qy Eeb Eec Eed Efa Efb Efc Efd Qza Qzc Qze. -/
import Derived.Test.YtgoadpnoagaflaaDoorQ8
import Derived.Test.YtgoadpnoagaflaaDoorQ29
import Derived.Test.YtgoadpnoagaflaaDoorQ34
import Derived.Test.YtgoadpnoagaflaaDoorQ35
namespace Go.Proofs.YtgoadpnoagaflaaDoor
/- Package nodefile: Put, Write. -/
section
set_option maxRecDepth 100000
open Go.RowKit Go.Shelf Go.Lib
theorem Sr.keptL {W W' : World} {B : Nat} {v : Value} {ws : List Bs} {base size n : Nat} {v2 : Value} {xs : List Value} (h : Sr W B v ws) (h2 : W.ownsRow base 56 size v2 n xs) (hg : W.grownBy W' v2.ownBlock) : Sr W' B v ws := Sr.kept h h2 (by decide) hg
structure Orw (W : World) (B : Nat) (v : Value) (L : List Lv) : Prop where
 own : W.ownsRow B 56 1 v L.length (L.map (·.2))
 sub : ∀ q ∈ L, Sr W B q.2 q.1
theorem Orw.later {W W' : World} {B : Nat} {v : Value} {L : List Lv} (h : Orw W B v L) (hb : Below W.heap.size W W') : Orw W' B v L := ⟨own_later h.own hb, fun q hq => (h.sub q hq).later hb⟩
theorem Orw.base {W : World} {B B' : Nat} {v : Value} {L : List Lv} (h : Orw W B v L) (hb : B' ≤ B) : Orw W B' v L := ⟨own_base h.own hb, fun q hq => (h.sub q hq).base hb⟩
theorem Orw.grew {W W2 : World} {B : Nat} {v v' : Value} {L : List Lv} {q : Lv} {tmp : Obj} (h : Orw W B v L) (hq : Sr W B q.2 q.1) (hown : W2.ownsRow B 56 1 v' (L.length + 1) (L.map (·.2) ++ [q.2])) (hg : (W.alloc tmp).grownBy W2 v.ownBlock) : Orw W2 B v' (L ++ [q]) := by
 refine ⟨by rw [List.length_append, List.map_append]; exact hown, fun r hr => ?_⟩
 have hs : Sr W B r.2 r.1 := by
   rcases List.mem_append.1 hr with e | e
   · exact h.sub r e
   · rw [List.mem_singleton.1 e]; exact hq
 exact Sr.keptL (World.ownsRow.alloc hs tmp) (h.own.alloc tmp) hg
theorem Orw.ll {W : World} {B : Nat} {v : Value} {L : List Lv} (h : Orw W B v L) (hl : ∀ q ∈ L, ∀ x ∈ q.1, x.length ≤ 9223372036854775807) : Ll W v L := by
 refine ⟨?_, fun q hq => (h.sub q hq).sl (hl q hq)⟩
 have h0 := h.own
 rcases h.own.2 with ⟨h1, h2⟩ | ⟨g, cap, cur, rfl, _, h3, h4, h5, _⟩
 · have : L = [] := List.length_eq_zero_iff.1 h2
   subst this
   exact ⟨none, 0, h1, by simp, by omega, Or.inl rfl⟩
 · refine ⟨_, cap, rfl, h4, by unfold maxLen at h5; omega, Or.inr ⟨g, 0, rfl, (World.ownsRow.lt h0 g rfl).2, fun k q hk => ?_⟩⟩
   exact own_cellL h0 (by rw [List.getElem?_map, hk]; rfl)
end

/- Package nodefile: Write. -/
section
set_option maxRecDepth 100000
open Go.RowKit Go.Shelf Go.Lib
theorem itoa_short {n : Int} (h : InR n) : (itoa n).length ≤ 43 := by
 have := itoa_length_le n h.1 h.2
 omega
theorem tx_short {p : Pm} (hp : p.Ok) {x : Nat} (lx : x < 18446744073709551616) : (p.tx x).length ≤ 43 := by
 by_cases hx : Fin64 x
 · obtain ⟨n, e, _, _, h⟩ := (hp.tx x lx).tell hx
   exact h
 · rcases hp.tx x lx with ⟨_, h⟩ | ⟨h, _⟩
   · rw [h]; simp
   · exact absurd h hx
end

/- The first example of chapter 10: plain. -/
section
set_option maxRecDepth 100000
open Go.RowKit Go.Shelf Go.Lib
end

/- Package nodefile: what is written is read, what is read is written: plain. -/
section
set_option maxRecDepth 100000
open Go.RowKit Go.Shelf Go.Lib
def cz (x : Nat) : Nat := if fval x = 0 then 0 else x
theorem endl_fin {x : Nat} (h : endl x = false) : Fin64 x := by
 unfold endl isnan isinf at h
 unfold Fin64
 simp at h
 omega
theorem fin_endl {x : Nat} (h : Fin64 x) : endl x = false := by
 have := flagsS h
 unfold endl
 rw [this.1, this.2]; rfl
def cn (q : Nd) : Nd := ⟨cz q.x, cz q.y, q.a.map cz, q.m⟩
section
variable {p : Pm} {k : Nat} {m z : Bool} {i : Nat} {q : Nd}
end
/-! ### What is read may be written. -/
end

/- Package elefile: what is written: plain. -/
section
set_option maxRecDepth 100000
open Go.RowKit Go.Shelf Go.Lib
def strayE (n : Int) : Bool := decide (n < 0) || decide (1048576 ≤ n)
def amissE (c k : Int) (r : Rw) : Bool := decide ((r.t.length : Int) ≠ c) || r.t.any strayE || decide ((r.a.length : Int) ≠ k) || r.a.any endl
def mayE (f : Fe) : Bool := (decide (f.f = 0) || decide (f.f = 1)) && (decide (f.c = 3) || decide (f.c = 6)) && decide (0 ≤ f.k) && decide (f.k ≤ 16) && decide (f.l.length ≤ 1048576) && !f.l.any (amissE f.c f.k)
def rwW (p : Pm) (f : Int) (i : Nat) (r : Rw) : List Bs := itoa (f + (i : Int)) :: (r.t.map (fun n => itoa (f + n)) ++ r.a.map p.tx)
def rwsW (p : Pm) (f : Int) : Nat → List Rw → List (List Bs)
 | _, [] => []
 | i, q :: r => rwW p f i q :: rwsW p f (i + 1) r
theorem rwsW_snoc (p : Pm) (f : Int) : ∀ (l : List Rw) (i : Nat) (q : Rw), rwsW p f i (l ++ [q]) = rwsW p f i l ++ [rwW p f (i + l.length) q] := by
 intro l
 induction l with
 | nil => intro i q; rfl
 | cons a r ih => intro i q; rw [List.cons_append, rwsW, rwsW, ih, List.length_cons, show i + 1 + r.length = i + (r.length + 1) by omega]; rfl
def feW (p : Pm) (f : Fe) : List (List Bs) := [itoa (f.l.length : Nat), itoa f.c, itoa f.k] :: rwsW p f.f 0 f.l
def wrE (p : Pm) (f : Fe) : Bs × Int := if mayE f then ((wrV (feW p f)).1, ((wrV (feW p f)).2 : Nat)) else ([], 1)
end

/- Package elefile: what is written is read: plain. -/
section
set_option maxRecDepth 100000
open Go.RowKit Go.Shelf Go.Lib
theorem amissE_no {c k : Int} {r : Rw} : amissE c k r = false ↔ (r.t.length : Int) = c ∧ (∀ n ∈ r.t, strayE n = false) ∧ (r.a.length : Int) = k ∧ ∀ x ∈ r.a, endl x = false := by
 unfold amissE
 simp only [Bool.or_eq_false_iff, decide_eq_false_iff_not, List.any_eq_false]
 constructor
 · rintro ⟨⟨⟨h1, h2⟩, h3⟩, h4⟩
   exact ⟨by simpa using h1, fun n hn => by simpa using h2 n hn, by simpa using h3, fun x hx => by simpa using h4 x hx⟩
 · rintro ⟨h1, h2, h3, h4⟩
   exact ⟨⟨⟨by simpa using h1, fun n hn => by simpa using h2 n hn⟩, by simpa using h3⟩, fun x hx => by simpa using h4 x hx⟩
theorem stray_no {n : Int} (h : strayE n = false) : 0 ≤ n ∧ n < 1048576 := by
 unfold strayE at h
 simp at h
 omega
section
variable {p : Pm} {F c k i : Nat} {r : Rw}
end
end

/- Package elefile: what is written is read: plain. -/
section
set_option maxRecDepth 100000
open Go.RowKit Go.Shelf Go.Lib
theorem mayE_parts {f : Fe} (h : mayE f = true) : ∃ F c k : Nat, f.f = (F : Nat) ∧ f.c = (c : Nat) ∧ f.k = (k : Nat) ∧ F ≤ 1 ∧ (c = 3 ∨ c = 6) ∧ k ≤ 16 ∧ f.l.length ≤ 1048576 ∧ ∀ r ∈ f.l, amissE (c : Nat) (k : Nat) r = false := by
 unfold mayE at h
 simp only [Bool.and_eq_true, Bool.or_eq_true, decide_eq_true_eq, Bool.not_eq_true', List.any_eq_false] at h
 obtain ⟨⟨⟨⟨⟨h1, h2⟩, h3⟩, h4⟩, h5⟩, h6⟩ := h
 have e1 : f.f = ((f.f.toNat : Nat) : Int) := by omega
 have e2 : f.c = ((f.c.toNat : Nat) : Int) := by omega
 have e3 : f.k = ((f.k.toNat : Nat) : Int) := by omega
 refine ⟨f.f.toNat, f.c.toNat, f.k.toNat, e1, e2, e3, by omega, by omega, by omega, h5, fun r hr => ?_⟩
 have := h6 r hr
 rw [← e2, ← e3]
 simpa using this
end

/- Package elefile: words are handed out one by one. -/
section
set_option maxRecDepth 100000
open Go.RowKit Go.Shelf Go.Lib
attribute [local go_sem] run_store_str
theorem own_obE {w w' : World} {B base e size n : Nat} {v : Value} {xs : List Value} (h : w.ownsRow base e size v n xs) (ho : Ob B w w') (hB : B < base) : w'.ownsRow base e size v n xs := by
 refine ⟨h.1, ?_⟩
 rcases h.2 with h1 | ⟨g, cap, cur, h1, h2, h3, h4⟩
 · exact Or.inl h1
 · refine Or.inr ⟨g, cap, cur, h1, h2, ?_, h4⟩
   rw [ho.block g (Array.getElem?_eq_some_iff.1 h3).1 (by omega)]; exact h3
theorem own_sliceE {w : World} {base e size n : Nat} {v : Value} {xs : List Value} (h : w.ownsRow base e size v n xs) : ∃ a c, v = .slice a n c := by
 rcases h.2 with ⟨rfl, rfl⟩ | ⟨g, cap, cur, rfl, _⟩
 · exact ⟨_, _, rfl⟩
 · exact ⟨_, _, rfl⟩
theorem Ob.grew {B : Nat} {w W W' : World} {e size n : Nat} {v : Value} {xs : List Value} {tmp : Obj} (h : Ob B w W) (ho : W.ownsRow w.heap.size e size v n xs) (hg : (W.alloc tmp).grownBy W' v.ownBlock) : Ob B w W' := by
 have hs := h.size
 refine ⟨hg.os.trans h.os, hg.tape.trans h.tape, hg.output.trans h.output, ?_, fun k hk hn => ?_⟩
 · have := hg.size; simp at this; omega
 · rw [hg.block k (by simp; omega) (fun e => by have := (ho.lt k e.symm).1; omega), Below.heap_alloc _ _ _ (by omega)]
   exact h.block k hk hn
theorem CB.grewE {W W' : World} {b t M : Nat} {cs : Array Value} {e size n : Nat} {v : Value} {xs : List Value} {tmp : Obj} (h : CB W b cs t) (ho : W.ownsRow M e size v n xs) (hb : b < M) (hg : (W.alloc tmp).grownBy W' v.ownBlock) : CB W' b cs t := by
 have hl := h.lt
 unfold CB at h ⊢
 rw [hg.block b (by simp; omega) (fun e => by have := (ho.lt b e.symm).1; omega), Below.heap_alloc _ _ _ (by omega)]
 exact h
def Tr (N : Nat) (W : World) (B : Nat) (ws : List Bs) : Prop := ∃ l, CB W B #[l] 56 ∧ Sl W l ws ∧ Bk N l ∧ N ≤ B
theorem Tr.lt {N : Nat} {W : World} {B : Nat} {ws : List Bs} (h : Tr N W B ws) : B < W.heap.size := by obtain ⟨l, h1, _⟩ := h; exact h1.lt
theorem Tr.later {N : Nat} {W W' : World} {B : Nat} {ws : List Bs} (h : Tr N W B ws) (hb : Below W.heap.size W W') : Tr N W' B ws := by
 obtain ⟨l, h1, h2, h3, h4⟩ := h
 exact ⟨l, h1.later hb, h2.later hb, h3, h4⟩
theorem Tr.grew {N M : Nat} {W W' : World} {B : Nat} {ws : List Bs} {e size n : Nat} {v : Value} {xs : List Value} {tmp : Obj} (h : Tr N W B ws) (ho : W.ownsRow M e size v n xs) (hb : B < M) (hg : (W.alloc tmp).grownBy W' v.ownBlock) : Tr N W' B ws := by
 have hl := h.lt
 obtain ⟨l, h1, h2, h3, h4⟩ := h
 have hB : Below N W W' := ⟨hg.os, hg.tape, hg.output, by have := hg.size; simp at this; omega, fun k hk => by
   rw [hg.block k (by simp; omega) (fun e => by have := (ho.lt k e.symm).1; omega), Below.heap_alloc _ _ _ (by omega)]⟩
 exact ⟨l, h1.grewE ho hb hg, h2.below h3 hB, h3, h4⟩
end

/- Package elefile: wholes. -/
section
set_option maxRecDepth 100000
open Go.RowKit Go.Shelf Go.Lib
attribute [local go_sem] run_store_str
def isV (ns : List Int) : List Value := ns.map (.int .i64 ·)
end

/- Package elefile: texts. -/
section
set_option maxRecDepth 100000
open Go.RowKit Go.Shelf Go.Lib
attribute [local go_sem] run_store_str
end

/- Package elefile: head. -/
section
set_option maxRecDepth 100000
open Go.RowKit Go.Shelf Go.Lib
abbrev fe4 : Array Value := #[.int .i64 0, .int .i64 0, .int .i64 0, .slice none 0 0]
theorem CB.cells4E {W : World} {B t : Nat} {a b c d : Value} (h : CB W B #[a, b, c, d] t) : W.cell? ⟨B, 0, none⟩ = some a ∧ W.cell? ⟨B, 1, none⟩ = some b ∧ W.cell? ⟨B, 2, none⟩ = some c ∧ W.cell? ⟨B, 3, none⟩ = some d := ⟨h.cell 0 (by simp), h.cell 1 (by simp), h.cell 2 (by simp), h.cell 3 (by simp)⟩
theorem set4E {W : World} {B t : Nat} {a b c d : Value} (h : CB W B #[a, b, c, d] t) (a' b' c' d' : Value) : CB ((((W.setCell ⟨B, 0, none⟩ a').setCell ⟨B, 1, none⟩ b').setCell ⟨B, 2, none⟩ c').setCell ⟨B, 3, none⟩ d') B #[a', b', c', d'] t := by
 have := (((h.set 0 a').set 1 b').set 2 c').set 3 d'
 simpa using this
def HeR (w w' : World) (ws : List Bs) (e : Ending) : Prop := Below w.heap.size w w' ∧
 ∃ (n c k : Nat), e = .returned (.tuple #[.agg #[.int .i64 0, .int .i64 (c : Nat), .int .i64 (k : Nat), .slice none 0 0], .int .i64 (n : Nat), .int .i64 (heE ws : Nat)]) ∧ (heE ws = 0 → heP ws = some (n, c, k) ∧ n ≤ 1048576 ∧ k ≤ 16 ∧ (c = 3 ∨ c = 6)) ∧ (heE ws ≠ 0 → n = 0 ∧ c = 0 ∧ k = 0)
theorem HeR.bad {w W : World} {ws : List Bs} {e : Nat} (hb : Below w.heap.size w W) (he : heE ws = e) (h0 : e ≠ 0) : HeR w W ws (.returned (.tuple #[.agg fe4, .int .i64 0, .int .i64 (e : Nat)])) :=
 ⟨hb, 0, 0, 0, by rw [he]; rfl, fun h => absurd (he ▸ h) h0, fun _ => ⟨rfl, rfl, rfl⟩⟩
end

/- The laws of layer 10: files held against each other. -/
section
set_option maxRecDepth 100000
open Go.RowKit Go.Shelf Go.Lib
def FE (x y : Nat) : Prop := FloatKind.f64.format.order x y = some .eq
theorem FE.of {x y : Nat} (hx : Fin64 x) (hy : Fin64 y) (h : fval x = fval y) : FE x y := by
 unfold FE
 rw [order_val hx hy, if_neg (by rw [h]; exact Rat.lt_irrefl), if_pos h]
def FEs (a b : List Nat) : Prop := a.length = b.length ∧ ∀ i, i < a.length → FE (a.getD i 0) (b.getD i 0)
end

/- The laws of layer 10: Same. -/
section
set_option maxRecDepth 100000
open Go.RowKit Go.Shelf Go.Lib
end

/- The laws of layer 10: what is read again is the same: plain. -/
section
set_option maxRecDepth 100000
open Go.RowKit Go.Shelf Go.Lib
end
end Go.Proofs.YtgoadpnoagaflaaDoor
