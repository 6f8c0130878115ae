/- Own texts, put together: Ze Zf Zg Zh Zi Zj Zk. -/
import Derived.Test.YtgfloegaoofbbaaDoorQ5
import Derived.Test.YtgfloegaoofbbaaDoorQ9
import Derived.Deep.AppendLies
import Derived.OwnWalk
import Derived.Deep.RegionHeld3
namespace Go.Proofs.YtgfloegaoofbbaaDoor
/- The reference's Low. -/
section
open Go.RowKit
end

/- The reference's High. -/
section
open Go.RowKit
end

/- A number of the reference stands for a rational number. -/
section
open Go.RowKit
theorem dgt_dg (ds : List Nat) (E j : Int) : dgt ds E j = dg ds E j := by rw [dgt_eq]; rfl
def Canon (S : Int) (ds : List Nat) (E : Int) : Prop := (ds = [] ∧ S = 0 ∧ E = 0) ∨ (ds ≠ [] ∧ (S = 1 ∨ S = -1) ∧ ds.getD 0 0 ≠ 0 ∧ ds.getD (ds.length - 1) 0 ≠ 0)
def Rf (w : World) (v : Value) (q : Rat) : Prop := ∃ S ds E, Dig w v S ds E ∧ Canon S ds E ∧ q = (S : Rat) * mag ds E
theorem Rf.later {w w' : World} {v : Value} {q : Rat} (h : Rf w v q) (hb : Below w.heap.size w w') : Rf w' v q := by
 obtain ⟨S, ds, E, h1, h2, h3⟩ := h
 exact ⟨S, ds, E, h1.later hb, h2, h3⟩
def RfR (w w' : World) (q : Rat) (e : Ending) : Prop := ∃ v, e = .returned v ∧ Rf w' v q ∧ Below w.heap.size w w'
theorem trim_rf {w w' : World} {S E : Int} {ds : List Nat} {e : Ending} (hS : S = 1 ∨ S = -1) (h : TrimR w w' S ds E e) : RfR w w' ((S : Rat) * mag ds E) e := by
 obtain ⟨v, S', ds', E', he, hd, heq, hc, hb⟩ := h
 have hm : mag ds' E' = mag ds E := mag_congr (fun j => by rw [← dgt_dg, ← dgt_dg]; exact heq j)
 refine ⟨v, he, ⟨S', ds', E', hd, ?_, ?_⟩, hb⟩
 · rcases hc with h | ⟨a, rfl, b, c⟩
   · exact Or.inl h
   · exact Or.inr ⟨a, hS, b, c⟩
 · rw [hm]
   rcases hc with ⟨rfl, rfl, rfl⟩ | ⟨_, rfl, _⟩
   · rw [mag_nil] at hm
     rw [← hm]; grind
   · rfl
theorem canon_sign {S E : Int} {ds : List Nat} (h : Canon S ds E) : S = 0 ∨ S = 1 ∨ S = -1 := by
 rcases h with ⟨_, h, _⟩ | ⟨_, h, _⟩
 · exact Or.inl h
 · exact Or.inr h
theorem canon_sgn {S E : Int} {ds : List Nat} (h : Canon S ds E) : (S = 0 ∧ (S : Rat) * mag ds E = 0) ∨ (S = 1 ∧ 0 < (S : Rat) * mag ds E) ∨ (S = -1 ∧ (S : Rat) * mag ds E < 0) := by
 rcases h with ⟨rfl, rfl, rfl⟩ | ⟨a, h, _, b⟩
 · left; exact ⟨rfl, by rw [mag_nil]; grind⟩
 · have := mag_pos (E := E) a b
   rcases h with rfl | rfl
   · right; left; exact ⟨rfl, by rw [show ((1 : Int) : Rat) = 1 from rfl]; grind⟩
   · right; right; exact ⟨rfl, by rw [show ((-1 : Int) : Rat) = -1 from rfl]; grind⟩
theorem canon_place {S E h l : Int} {ds : List Nat} (hc : Canon S ds E) (hs : ∀ d ∈ ds, d < 16777216) (hb : Bd h l ((S : Rat) * mag ds E)) (h0 : ds ≠ []) : 24 * (E + (ds.length : Int)) < h + 24 ∧ l < 24 * E + 24 := by
 rcases hc with ⟨h, _⟩ | ⟨hne, hS, hf, ht⟩
 · exact absurd h h0
 · obtain ⟨b1, b2, n, b3⟩ := hb
   rcases hS with rfl | rfl
   · rw [show ((1 : Int) : Rat) * mag ds E = mag ds E by rw [show ((1 : Int) : Rat) = 1 from rfl]; grind] at b1 b2 b3
     exact ⟨mag_top hne ht b1, mag_low hs hf ⟨n, b3⟩⟩
   · rw [show ((-1 : Int) : Rat) * mag ds E = -mag ds E by rw [show ((-1 : Int) : Rat) = -1 from rfl]; grind] at b1 b2 b3
     exact ⟨mag_top hne ht (by grind), mag_low hs hf ⟨-n, by rw [Rat.intCast_neg]; grind⟩⟩
def BoxN (w : World) (b : Nat) (S : Int) (sv : Value) (E : Int) : Prop := w.heap[b]? = some (.cells #[.int .i64 S, sv, .int .i64 E] 67 (0, 0))
theorem BoxN.cells {w : World} {b : Nat} {S E : Int} {sv : Value} (h : BoxN w b S sv E) : w.cell? ⟨b, 0, none⟩ = some (.int .i64 S) ∧ w.cell? ⟨b, 1, none⟩ = some sv ∧ w.cell? ⟨b, 2, none⟩ = some (.int .i64 E) ∧ (∀ i, w.frozen? ⟨b, i, none⟩ = false) ∧ b < w.heap.size := by
 unfold BoxN at h
 refine ⟨by simp [World.cell?, h], by simp [World.cell?, h], by simp [World.cell?, h], fun i => by simp [World.frozen?, h], ?_⟩
 exact (Array.getElem?_eq_some_iff.1 h).1
theorem BoxN.set {w : World} {b : Nat} {S E : Int} {sv sv' : Value} (h : BoxN w b S sv E) : BoxN (w.setCell ⟨b, 1, none⟩ sv') b S sv' E := by
 unfold BoxN at *
 simp [World.setCell, Array.getElem?_modify, h]
theorem BoxN.block {w w' : World} {b : Nat} {S E : Int} {sv : Value} (h : BoxN w b S sv E) (he : w'.heap[b]? = w.heap[b]?) : BoxN w' b S sv E := by
 unfold BoxN at *; rw [he]; exact h
theorem BoxN.alloc {w : World} {b : Nat} {S E : Int} {sv : Value} (h : BoxN w b S sv E) (o : Obj) : BoxN (w.alloc o) b S sv E := h.block (Below.heap_alloc w o b h.cells.2.2.2.2)
theorem BoxN.grown {w w' : World} {b : Nat} {S E : Int} {sv : Value} {row : Option Nat} (h : BoxN w b S sv E) (hg : w.grownBy w' row) (hne : some b ≠ row) : BoxN w' b S sv E := h.block (hg.block b h.cells.2.2.2.2 hne)
theorem BoxN.other {w : World} {b : Nat} {S E : Int} {sv : Value} (h : BoxN w b S sv E) {a : Addr} (hn : b ≠ a.block) (v : Value) : BoxN (w.setCell a v) b S sv E := h.block (Below.heap_setCell w a v b hn)
def i64s (ds : List Nat) : List Value := ds.map (fun d => .int .i64 (d : Nat))
theorem i64s_snoc (ds : List Nat) (d : Nat) : i64s ds ++ [.int .i64 (d : Nat)] = i64s (ds ++ [d]) := by simp [i64s]
theorem own_cell {w : World} {base : Nat} {g cap : Nat} {ds : List Nat} (h : w.ownsRow base 2 1 (.slice (some ⟨g, 0, none⟩) ds.length cap) ds.length (i64s ds)) (k : Nat) (hk : k < ds.length) : w.cell? ⟨g, k, none⟩ = some (.int .i64 (ds.getD k 0 : Nat)) := by
 have := h.cells (g := g) rfl k (.int .i64 (ds.getD k 0 : Nat)) (by simp [i64s, List.getD, hk])
 rwa [show (⟨g, 0, none⟩ : Addr).add k = ⟨g, k, none⟩ by unfold Addr.add; split <;> simp_all] at this
theorem own_form {w : World} {base : Nat} {sv : Value} {ds : List Nat} (h : w.ownsRow base 2 1 sv ds.length (i64s ds)) : (ds = [] ∧ ∃ a c, sv = .slice a 0 c ∧ (a = none ∨ ∃ g, a = some ⟨g, 0, none⟩)) ∨ (ds ≠ [] ∧ ∃ g cap, sv = .slice (some ⟨g, 0, none⟩) ds.length cap ∧ ds.length ≤ cap ∧ base ≤ g ∧ g < w.heap.size ∧ w.frozen? ⟨g, 0, none⟩ = false) := by
 rcases h.2 with ⟨h1, h2⟩ | ⟨g, cap, cur, h1, h2, h3, h4, _⟩
 · left
   exact ⟨List.eq_nil_of_length_eq_zero h2, none, 0, h1, Or.inl rfl⟩
 · by_cases e : ds = []
   · left
     subst e
     exact ⟨rfl, _, cap, h1, Or.inr ⟨g, rfl⟩⟩
   · right
     exact ⟨e, g, cap, h1, h4, h2, (Array.getElem?_eq_some_iff.1 h3).1, by simp [World.frozen?, h3]⟩
theorem own_frozen {w : World} {base : Nat} {g cap : Nat} {ds : List Nat} (h : w.ownsRow base 2 1 (.slice (some ⟨g, 0, none⟩) ds.length cap) ds.length (i64s ds)) (k : Nat) : w.frozen? ⟨g, k, none⟩ = false := by
 rcases h.2 with ⟨h1, _⟩ | ⟨g', cap', cur, h1, h2, h3, h4, _⟩
 · cases h1
 · cases h1
   simp [World.frozen?, h3]
theorem own_set {w : World} {base : Nat} {g cap : Nat} {ds : List Nat} (h : w.ownsRow base 2 1 (.slice (some ⟨g, 0, none⟩) ds.length cap) ds.length (i64s ds)) (k d : Nat) (_hk : k < ds.length) : (w.setCell ⟨g, k, none⟩ (.int .i64 (d : Nat))).ownsRow base 2 1 (.slice (some ⟨g, 0, none⟩) (ds.set k d).length cap) (ds.set k d).length (i64s (ds.set k d)) := by
 refine ⟨by simp [i64s], ?_⟩
 rcases h.2 with ⟨h1, _⟩ | ⟨g', cap', cur, h1, h2, h3, h4, h5, h6, h7⟩
 · cases h1
 · cases h1
   refine Or.inr ⟨g, cap, cur.set! k (.int .i64 (d : Nat)), by simp, h2, ?_, by simpa using h4, h5, by simpa using h6, ?_⟩
   · simp [World.setCell, Array.getElem?_modify, h3]
   · rw [Nat.mul_one] at h7
     have : i64s (ds.set k d) = (i64s ds).set k (.int .i64 (d : Nat)) := by simp [i64s, List.map_set]
     rw [this, ← h7]
     simp [List.take_set]
theorem own_int {w : World} {base : Nat} {g cap : Nat} {ds : List Nat} (h : w.ownsRow base 2 1 (.slice (some ⟨g, 0, none⟩) ds.length cap) ds.length (i64s ds)) : IntRow w g := by
 rcases h.2 with ⟨h1, _⟩ | ⟨g', cap', cur, h1, h2, h3, h4, _⟩
 · cases h1
 · cases h1
   exact ⟨cur, _, h3⟩
theorem own_dig {w : World} {base : Nat} {sv : Value} {S E : Int} {ds : List Nat} (h : w.ownsRow base 2 1 sv ds.length (i64s ds)) (hs : ∀ d ∈ ds, d < 16777216) (hl : ds.length ≤ 1000000) (e1 : -1000000 ≤ E) (e2 : E ≤ 1000000) : Dig w (.agg #[.int .i64 S, sv, .int .i64 E]) S ds E := by
 rcases own_form h with ⟨rfl, a, c, rfl, _⟩ | ⟨hne, g, cap, rfl, hcap, _, _⟩
 · exact ⟨⟨a, c, rfl, by simp, Or.inl rfl⟩, hs, hl, e1, e2⟩
 · exact ⟨⟨_, cap, rfl, hcap, Or.inr ⟨g, 0, rfl, fun k hk => by rw [Nat.zero_add]; exact own_cell h k hk, own_int h⟩⟩, hs, hl, e1, e2⟩
theorem own_apart {w : World} {base b : Nat} {sv : Value} {n : Nat} {xs : List Value} (h : w.ownsRow base 2 1 sv n xs) (hb : b < base) : some b ≠ sv.ownBlock := fun e => by
 have := (h.lt b e.symm).1
 omega
theorem own_other {w : World} {base : Nat} {sv : Value} {n : Nat} {xs : List Value} (h : w.ownsRow base 2 1 sv n xs) {a : Addr} (hb : a.block < base) (v : Value) : (w.setCell a v).ownsRow base 2 1 sv n xs :=
 h.kept (row := some a.block) ⟨rfl, rfl, rfl, by simp [World.setCell], fun k _ hne => Below.heap_setCell w a v k (by intro e; exact hne (by rw [e]))⟩ (Or.inr (Ne.symm (own_apart h hb)))
def OtherRow (w : World) (b : Nat) : Prop := ∃ cur t fr, w.heap[b]? = some (.cells cur t fr) ∧ t ≠ 2
theorem OtherRow.apart {w : World} {b g : Nat} (h : OtherRow w b) (h2 : IntRow w g) : g ≠ b := by
 rintro rfl
 obtain ⟨cur, t, fr, h, ht⟩ := h
 obtain ⟨cur', fr', h2⟩ := h2
 rw [h] at h2
 simp at h2
 exact ht h2.2.1
theorem OtherRow.set {w : World} {b : Nat} (h : OtherRow w b) (i : Nat) (v : Value) : OtherRow (w.setCell ⟨b, i, none⟩ v) b := by
 obtain ⟨cur, t, fr, h, ht⟩ := h
 exact ⟨cur.set! i v, t, fr, by simp [World.setCell, Array.getElem?_modify, h], ht⟩
theorem Dig.set {w : World} {v : Value} {S E : Int} {ds : List Nat} {b : Nat} (h : Dig w v S ds E) (ho : OtherRow w b) (i : Nat) (u : Value) : Dig (w.setCell ⟨b, i, none⟩ u) v S ds E := by
 obtain ⟨⟨a, c, hv, hcap, hf⟩, h2, h3, h4, h5⟩ := h
 refine ⟨⟨a, c, hv, hcap, ?_⟩, h2, h3, h4, h5⟩
 rcases hf with hf | ⟨g, off, ha, hf, hr⟩
 · exact Or.inl hf
 · have hne := ho.apart hr
   have hh := Below.heap_setCell w ⟨b, i, none⟩ u g hne
   exact Or.inr ⟨g, off, ha, fun k hk => by rw [World.cell?_of_block (a := ⟨g, off + k, none⟩) hh]; exact hf k hk, hr.block hh⟩
theorem Rf.set {w : World} {v : Value} {q : Rat} {b : Nat} (h : Rf w v q) (ho : OtherRow w b) (i : Nat) (u : Value) : Rf (w.setCell ⟨b, i, none⟩ u) v q := by
 obtain ⟨S, ds, E, h1, h2, h3⟩ := h
 exact ⟨S, ds, E, h1.set ho i u, h2, h3⟩
theorem Rf.boxed {w : World} {v : Value} {q : Rat} {b : Nat} (h : Rf w v q) (ho : OtherRow w b) (x y z : Value) : Rf (((w.setCell ⟨b, 0, none⟩ x).setCell ⟨b, 1, none⟩ y).setCell ⟨b, 2, none⟩ z) v q :=
 ((h.set ho 0 x).set (ho.set 0 x) 1 y).set ((ho.set 0 x).set 1 y) 2 z
theorem other_box {w : World} {b : Nat} {cs : Array Value} {fr : Nat × Nat} (h : w.heap[b]? = some (.cells cs 67 fr)) : OtherRow w b := ⟨_, _, _, h, by decide⟩
end

/- The reference's Power. -/
section
open Go.RowKit
theorem info64 : (Tryd.prog.info? 2).map (fun i => (i.zero, i.size, i.bytes)) = some (some (.int .i64 0), 1, 8) := by kernel_rfl
theorem new_box (w : World) (a b : Obj) : ((w.alloc a).alloc b).heap[w.heap.size + 1]? = some b := by
 have := heap_alloc_new (w.alloc a) b
 simpa using this
theorem old_box (w : World) (a b : Obj) : ((w.alloc a).alloc b).heap[w.heap.size]? = some a := by
 rw [Below.heap_alloc _ _ _ (by simp)]; exact heap_alloc_new w a
structure PowW (w : World) (B : Nat) (E : Int) (ds : List Nat) (wr : World) (sv : Value) : Prop where
 box : BoxN wr (B + 1) 1 sv E
 row : wr.ownsRow (B + 2) 2 1 sv ds.length (i64s ds)
 bel : Below B w wr
 siz : B + 2 ≤ wr.heap.size
 res : wr.heap[B]? = some (.cells #[.int .i64 0, .slice none 0 0, .int .i64 0] 67 (0, 0))
theorem PowW.boxed {w wr w1 : World} {B : Nat} {E : Int} {ds : List Nat} {sv : Value} {o : Obj} (h : PowW w B E ds wr sv) (hg : (wr.alloc o).grownBy w1 sv.ownBlock) : BoxN w1 (B + 1) 1 sv E :=
 (h.box.alloc o).grown hg (own_apart h.row (show B + 1 < B + 2 by omega))
theorem PowW.pushed {w wr w1 : World} {B g cap d : Nat} {E x : Int} {ds : List Nat} {sv : Value} {o : Obj} (h : PowW w B E ds wr sv) (hg : (wr.alloc o).grownBy w1 sv.ownBlock)
   (ho : w1.ownsRow (B + 2) 2 1 (.slice (some ⟨g, 0, none⟩) (ds.length + 1) cap) (ds.length + 1) (i64s ds ++ [.int .i64 x])) (hx : x = (d : Nat)) :
   PowW w B E (ds ++ [d]) (w1.setCell ⟨B + 1, 1, none⟩ (.slice (some ⟨g, 0, none⟩) (ds.length + 1) cap)) (.slice (some ⟨g, 0, none⟩) (ds.length + 1) cap) := by
 subst hx
 have ap0 := own_apart h.row (show B < B + 2 by omega)
 refine ⟨(h.boxed hg).set, ?_, ?_, ?_, ?_⟩
 · rw [i64s_snoc] at ho
   have := own_other ho (a := ⟨B + 1, 1, none⟩) (by simp) (.slice (some ⟨g, 0, none⟩) (ds.length + 1) cap)
   simpa using this
 · refine Below.setCell ?_ (by simp) _
   have h1 : Below B w (wr.alloc o) := h.bel.alloc (by have := h.siz; omega) o
   exact h1.grown hg (by have := h.siz; simp; omega) (fun k hk => by have := (h.row.lt k hk).1; omega)
 · have := hg.size
   have := h.siz
   simp [World.setCell] at *
   omega
 · rw [Below.heap_setCell _ _ _ _ (by simp), hg.block B (by have := h.siz; simp; omega) ap0, Below.heap_alloc _ _ _ (by have := h.siz; omega)]
   exact h.res
theorem snoc_small {ds : List Nat} {d : Nat} (h : ∀ x ∈ ds, x < 16777216) (hd : d < 16777216) : ∀ x ∈ ds ++ [d], x < 16777216 := by
 intro x hx
 rcases List.mem_append.1 hx with hx | hx
 · exact h x hx
 · simp at hx; omega
theorem pow_digit {n m d q L v : Nat} (h : n = v + 2 ^ (24 * L) * m) (hd : m % 16777216 = d) (hq : m / 16777216 = q) : n = v + 2 ^ (24 * L) * d + 2 ^ (24 * (L + 1)) * q := by
 have e : m = d + 16777216 * q := by omega
 rw [h, p24, e]; grind
theorem PowW.wrote {w wr : World} {B g cap k d : Nat} {E x : Int} {ds : List Nat} (h : PowW w B E ds wr (.slice (some ⟨g, 0, none⟩) ds.length cap)) (hk : k < ds.length) (hx : x = (d : Nat)) :
   PowW w B E (ds.set k d) (wr.setCell ⟨g, k, none⟩ (.int .i64 x)) (.slice (some ⟨g, 0, none⟩) (ds.set k d).length cap) := by
 subst hx
 have hg := (h.row.lt g rfl).1
 refine ⟨?_, own_set h.row k d hk, h.bel.setCell (by simp; omega) _, by have := h.siz; simpa [World.setCell] using this, ?_⟩
 · have := h.box.other (a := ⟨g, k, none⟩) (by simp; omega) (.int .i64 (d : Nat))
   simpa using this
 · rw [Below.heap_setCell _ _ _ _ (by simp; omega)]; exact h.res
structure PowD (ds zs : List Nat) (t i c : Nat) : Prop where
 len : zs.length = ds.length
 small : ∀ d ∈ zs, d < 16777216
 rest : ∀ j, i ≤ j → zs.getD j 0 = ds.getD j 0
 val : v24 (zs.take i) + 2 ^ (24 * i) * c = v24 (ds.take i) * 2 ^ t
 carry : c < 2 ^ t
theorem set_take (zs : List Nat) (i d : Nat) : (zs.set i d).take i = zs.take i := by
 apply List.ext_getElem?
 intro j
 simp only [List.getElem?_take, List.getElem?_set]
 split
 · rw [if_neg (by omega)]
 · rfl
theorem PowD.step {ds zs : List Nat} {t i c v : Nat} (h : PowD ds zs t i c) (hi : i < ds.length) (hs : ∀ d ∈ ds, d < 16777216) (hv : v = ds.getD i 0 * 2 ^ t + c) : PowD ds (zs.set i (v % 16777216)) t (i + 1) (v / 16777216) := by
 have hdi : ds.getD i 0 < 16777216 := by
   have e : ds.getD i 0 = ds[i] := by simp [List.getD, hi]
   rw [e]; exact hs _ (List.getElem_mem hi)
 have hi2 : i < zs.length := by rw [h.len]; exact hi
 refine ⟨by simp [h.len], ?_, ?_, ?_, ?_⟩
 · intro d hd
   rcases List.mem_or_eq_of_mem_set hd with hd | rfl
   · exact h.small d hd
   · omega
 · intro j hj
   rw [← h.rest j (by omega)]
   simp only [List.getD, List.getElem?_set]
   rw [if_neg (by omega)]
 · rw [v24_take_succ, v24_take_succ, set_take, p24]
   have e : (zs.set i (v % 16777216)).getD i 0 = v % 16777216 := by simp [List.getD, hi2]
   rw [e]
   have h1 := h.val
   have h2 := Nat.mod_add_div v 16777216
   generalize v % 16777216 = a at *
   generalize v / 16777216 = b at *
   generalize ds.getD i 0 = x at *
   generalize 2 ^ (24 * i) = P at *
   generalize 2 ^ t = R at *
   subst hv
   grind
 · have h1 := h.carry
   have h2 : (ds.getD i 0 + 1) * 2 ^ t ≤ 16777216 * 2 ^ t := Nat.mul_le_mul_right _ hdi
   rw [Nat.add_mul, Nat.one_mul] at h2
   rw [Nat.div_lt_iff_lt_mul (by omega), hv]
   omega
theorem pow_value {n t c : Nat} {k2 e2 k : Int} {ds zs : List Nat} (h : PowD ds zs t ds.length c) (hn : n = v24 ds) (hk : k2 + 24 * e2 = k) (ht : k2 = (t : Int)) : ((1 : Int) : Rat) * mag (zs ++ [c]) e2 = (n : Nat) * p2 k := by
 have h1 := h.val
 rw [List.take_of_length_le (by rw [h.len]; exact Nat.le_refl _), List.take_of_length_le (Nat.le_refl _), ← hn] at h1
 unfold mag
 rw [v24_snoc, h.len, h1, ← hk, ht, p2_add, p2_nat, Rat.natCast_mul, show ((1 : Int) : Rat) = 1 from rfl]
 grind
set_option maxHeartbeats 4000000 in
set_option maxRecDepth 100000 in
theorem power_walk (n : Nat) (k : Int) (w : World) (hn : n < 18446744073709551616) (h1 : -4000 ≤ k) (h2 : k ≤ 4000) :
   Calls Tryd.prog 22 #[.int .u64 (n : Nat), .int .i64 k] w fun e w' => RfR w w' ((n : Nat) * p2 k) e := by
 obtain ⟨i0, hi0, hz0, hz1, hz2⟩ := info_parts info64
 go_enter Tryd.func22, Tryd.ntmps22
 go_wp2
 go_loop [1, 5] (fun a b => ∃ k1 e1 : Int, a = .int .i64 k1 ∧ b = .int .i64 e1 ∧ Hid (k1 + 24 * e1 = k) ∧ -4000 ≤ k1 ∧ k1 ≤ 4000 ∧ -1000 ≤ e1 ∧ e1 ≤ 0) (fun a _ => (0 - intOf a).toNat)
 case atStart => exact ⟨k, 0, rfl, rfl, by simp [Hid], h1, h2, by omega, by omega⟩
 case round =>
   obtain ⟨k1, e1, rfl, rfl, hk, a1, a2, a3, a4⟩ := hrel
   by_cases hlt : k1 < 0
   · have hk' : Hid (k1 + 24 + 24 * (e1 - 1) = k) := by have := hk.out; show _ = _; omega
     have he : -1000 ≤ e1 - 1 := by have := hk.out; omega
     clear hk
     go_wp2
     go_round
     case rel => exact ⟨k1 + 24, e1 - 1, rfl, rfl, hk', by omega, by omega, he, by omega⟩
     case measure => simp [intOf]; omega
   · go_wp2
     go_loop [1, 5] (fun a b => ∃ k1 e1 : Int, a = .int .i64 k1 ∧ b = .int .i64 e1 ∧ Hid (k1 + 24 * e1 = k) ∧ 0 ≤ k1 ∧ k1 ≤ 4000 ∧ -1000 ≤ e1 ∧ e1 ≤ 1000) (fun a _ => (intOf a).toNat)
     case atStart => exact ⟨k1, e1, rfl, rfl, hk, by omega, a2, a3, by omega⟩
     case round =>
       clear hk a1 a2 a3 a4 hlt
       obtain ⟨k2, e2, rfl, rfl, hk, a1, a2, a3, a4⟩ := hrel
       by_cases hlt : 24 ≤ k2
       · have hk' : Hid (k2 - 24 + 24 * (e2 + 1) = k) := by have := hk.out; show _ = _; omega
         have he : e2 + 1 ≤ 1000 := by have := hk.out; omega
         clear hk
         go_wp2
         go_round
         case rel => exact ⟨k2 - 24, e2 + 1, rfl, rfl, hk', by omega, by omega, by omega, he⟩
         case measure => simp [intOf]; omega
       · have hk24 : k2 < 24 := by omega
         clear hlt
         go_wp2
         go_loopw [0] (fun a wr => ∃ (m : Nat) (ds : List Nat) (sv : Value), a = .int .u64 (m : Nat) ∧ m < 18446744073709551616 ∧ Hid (n = v24 ds + 2 ^ (24 * ds.length) * m) ∧ Hid (∀ d ∈ ds, d < 16777216) ∧ ds.length ≤ 3 ∧ Hid (PowW w w.heap.size e2 ds wr sv)) (fun a _ => (intOf a).toNat)
         case atStart =>
           exact ⟨n, [], .slice none 0 0, rfl, hn, by simp [Hid, v24], by simp [Hid], by simp, ⟨new_box _ _ _, World.ownsRow_nil _ _ _ _, ((Below.refl _ _).alloc (Nat.le_refl _) _).alloc (by simp) _, by simp, old_box _ _ _⟩⟩
         case round =>
           obtain ⟨m, ds, sv, rfl, hm, hv, hs, hl, hW⟩ := hrel
           obtain ⟨hb0, hb1, hb2, hbf, hbl⟩ := hW.out.box.cells
           have hbf1 := hbf 1
           by_cases h0 : m = 0
           · subst h0
             have hv0 : Hid (n = v24 ds) := by have := hv.out; show _ = _; omega
             clear hv hm hbf
             have hsv := own_form hW.out.row
             have hlsv : ∃ a c, sv = .slice a ds.length c := by
               rcases hsv with ⟨rfl, a, c, rfl, _⟩ | ⟨_, g, cap, rfl, _⟩
               · exact ⟨_, _, rfl⟩
               · exact ⟨_, _, rfl⟩
             obtain ⟨sa, sc, rfl⟩ := hlsv
             clear hsv
             go_wp2
             go_loop [7, 8] (fun a b => ∃ i : Nat, (i : Int) ≤ k2 ∧ a = .int .i64 (2 ^ i : Nat) ∧ b = .int .i64 (i : Nat)) (fun _ b => (k2 - intOf b).toNat)
             case atStart => exact ⟨0, by omega, by simp, by simp⟩
             case round =>
               obtain ⟨i, hi, rfl, rfl⟩ := hrel
               have hp : 2 ^ i ≤ 2 ^ 23 := Nat.pow_le_pow_right (by omega) (by omega)
               obtain ⟨two, ht⟩ : ∃ x : Nat, Hid (2 ^ i = x) := ⟨2 ^ i, rfl⟩
               rw [ht.out] at hp ⊢
               have htl : (two : Int) ≤ 8388608 := by omega
               clear hp
               by_cases hlt : (i : Int) < k2
               · go_wp2
                 go_round
                 case rel => exact ⟨i + 1, by omega, by rw [Nat.pow_succ, ht.out]; go_num, by go_num⟩
                 case measure => simp [intOf]; omega
               · have hki : Hid (k2 = (i : Int)) := by show _ = _; omega
                 have hltb : decide ((i : Int) < k2) = false := decide_eq_false hlt
                 clear hlt
                 go_wp2
                 clear hb0 hb1 hb2 hbl hbf1
                 go_loopw [9, 10] (fun c j wr' => ∃ (cc jj : Nat) (zs : List Nat), c = .int .i64 (cc : Nat) ∧ j = .int .i64 (jj : Nat) ∧ jj ≤ ds.length ∧ cc ≤ 16777216 ∧ Hid (PowD ds zs i jj cc) ∧ Hid (PowW w w.heap.size e2 zs wr' (.slice sa zs.length sc))) (fun _ j _ => ds.length - (intOf j).toNat)
                 case atStart => exact ⟨0, 0, ds, by simp, by simp, by omega, by omega, ⟨rfl, hs.out, fun j _ => rfl, by simp [v24], Nat.two_pow_pos _⟩, hW.out⟩
                 case round =>
                   clear hW
                   obtain ⟨cc, jj, zs, rfl, rfl, hj, hcc, hD, hW⟩ := hrel
                   obtain ⟨hb0, hb1, hb2, hbf, hbl⟩ := hW.out.box.cells
                   have hbf1 := hbf 1
                   clear hbf
                   have hzl : zs.length = ds.length := hD.out.len
                   rw [hzl] at hb1
                   by_cases hlt : jj < ds.length
                   · obtain ⟨hne, g, cap, hsl, hcap, hg1, hg2, _⟩ := (own_form hW.out.row).resolve_left (by rintro ⟨e, _⟩; rw [e] at hzl; simp at hzl; omega)
                     cases hsl
                     have hcj := own_cell hW.out.row jj (by omega)
                     rw [hD.out.rest jj (Nat.le_refl _)] at hcj
                     have hfj := own_frozen hW.out.row jj
                     obtain ⟨x, hx⟩ : ∃ x : Nat, Hid (ds.getD jj 0 = x) := ⟨_, rfl⟩
                     have hxs : x < 16777216 := by
                       rw [← hx.out, show ds.getD jj 0 = ds[jj] by simp [List.getD, hlt]]
                       exact hs.out _ (List.getElem_mem hlt)
                     rw [hx.out] at hcj
                     obtain ⟨p, hp⟩ : ∃ p : Nat, Hid (x * two = p) := ⟨_, rfl⟩
                     have hpI : (x : Int) * (two : Int) = (p : Int) := by rw [← hp.out]; simp
                     have hpl : p ≤ 140737488355328 := by
                       rw [← hp.out]
                       exact Nat.le_trans (Nat.mul_le_mul (by omega : x ≤ 16777216) (by omega : two ≤ 8388608)) (by omega)
                     have hlt' : (jj : Int) < (ds.length : Int) := by omega
                     have hge' : (0 : Int) ≤ (jj : Int) := by omega
                     clear hzl
                     go_wp2
                     have hst := hD.out.step hlt hs.out (v := p + cc) (by rw [hx.out, ht.out, hp.out])
                     have hwr := hW.out.wrote (k := jj) (d := (p + cc) % 16777216) (x := ((p : Int) + (cc : Int)) % 16777216) (by rw [hD.out.len]; exact hlt) (by omega)
                     exact ⟨⟨(p + cc) / 16777216, jj + 1, _, by go_num, by go_num, by omega, by omega, hst, hwr⟩, by simp [intOf]; omega⟩
                   · obtain rfl : jj = ds.length := by omega
                     have hltb : decide ((ds.length : Int) < (ds.length : Int)) = false := decide_eq_false (by omega)
                     have HR := hW.out.row
                     rw [hzl] at HR
                     have hbase : w.heap.size + 2 ≤ wr.heap.size := by assumption
                     have HZ : Hid (zs.length = ds.length) := hzl
                     clear hzl hlt
                     go_wp2_with (at_builtin; refine wpList_append_lies _ rfl _ _ _ rfl (w.heap.size + 2) 2 i0 _ 1 8 Tryd.underlying65 hi0 hz0 hz1 hz2 rfl (by omega) (.slice sa ds.length sc) ds.length (i64s zs) rfl (HR.alloc _) ⟨wr.heap.size, 0, none⟩ 1 1 [.int .i64 ((cc : Nat) : Int)] rfl rfl (World.news_of_block (cs := #[.int .i64 ((cc : Nat) : Int)]) (t := 2) (fr := (0, 0)) (heap_alloc_new wr _)) (by simp [Value.oneCell']) (by omega) (by unfold maxLen; omega) (by omega) (by simp; omega) _ rfl ?_; intro g cap w1 hown1 hgrow hat hlt; rw [← HZ.out] at hgrow; obtain ⟨hc0, hc1, hc2, hcf, hcl⟩ := (hW.out.boxed hgrow).cells; have hcf1 := hcf 1; clear hcf)
                     have HP := hW.out.pushed hgrow (by rw [HZ.out]; exact hown1) rfl (d := cc)
                     rw [HZ.out] at HP
                     have hcs : cc < 16777216 := by
                       have := hD.out.carry
                       have h3 : 2 ^ i ≤ 2 ^ 23 := Nat.pow_le_pow_right (by omega) (by omega)
                       omega
                     refine (trim_any _ 1 e2 (zs ++ [cc]) _ (own_dig (by simpa [HZ.out] using HP.row) (snoc_small hD.out.small hcs) (by simp [HZ.out]; omega) (by omega) (by omega)) (by simp [HZ.out]; omega)).mono ?_
                     rintro e w2 hT
                     obtain ⟨v9, rfl, hrf, hb9⟩ := trim_rf (Or.inl rfl) hT
                     have hB : BoxN w2 w.heap.size 0 (.slice none 0 0) 0 := BoxN.block (w := w1.setCell ⟨w.heap.size + 1, 1, none⟩ (.slice (some ⟨g, 0, none⟩) (ds.length + 1) cap)) HP.res (hb9.block _ (by have := HP.siz; omega))
                     have hO : Hid (OtherRow w2 w.heap.size) := other_box hB
                     obtain ⟨t0, t1, t2, tf, tl⟩ := hB.cells
                     have HB : Hid (Below w.heap.size w w2) := HP.bel.trans (hb9.mono (by have := HP.siz; omega))
                     have HV : Hid (Rf w2 v9 ((n : Nat) * p2 k)) := by
                       rw [pow_value hD.out hv0.out hk.out hki.out] at hrf
                       exact hrf
                     obtain ⟨S9, ds9, E9, hd9, _⟩ := HV.out
                     obtain ⟨a9, c9, rfl, _⟩ := hd9.form
                     clear hb9 HP hT hrf hB hD hW hd9
                     go_wp2
                     refine bodyPost_ret (v := .agg #[.int .i64 S9, .slice a9 ds9.length c9, .int .i64 E9]) (by simp [results, Tryd.results22, go_sem, t0, t1, t2]) rfl ?_
                     refine ⟨_, rfl, HV.out.boxed hO.out _ _ _, ?_⟩
                     repeat (first | exact HB.out | refine Below.drew ?_ | refine Below.setCell ?_ (by simp) _)
           · have h0' : decide ((0 : Int) < (m : Int)) = true := decide_eq_true (by omega)
             have HR := hW.out.row
             have hl2 : ds.length ≤ 2 := by
               have h3 := hv.out
               have h4 : 2 ^ (24 * ds.length) * 1 ≤ 2 ^ (24 * ds.length) * m := Nat.mul_le_mul_left _ (by omega)
               have h5 : 2 ^ (24 * ds.length) < 2 ^ 64 := by omega
               have := (Nat.pow_lt_pow_iff_right (by omega : 1 < 2)).1 h5
               omega
             have hbase : w.heap.size + 2 ≤ wr.heap.size := hW.out.siz
             obtain ⟨d, hd⟩ : ∃ d, Hid (m % 16777216 = d) := ⟨_, rfl⟩
             obtain ⟨q, hq⟩ : ∃ q, Hid (m / 16777216 = q) := ⟨_, rfl⟩
             clear hbf
             go_wp2_with (at_builtin; refine wpList_append_lies _ rfl _ _ _ rfl (w.heap.size + 2) 2 i0 _ 1 8 Tryd.underlying65 hi0 hz0 hz1 hz2 rfl (by omega) sv ds.length (i64s ds) rfl (HR.alloc _) ⟨wr.heap.size, 0, none⟩ 1 1 [.int .i64 ((m : Int) % 16777216)] rfl rfl (World.news_of_block (cs := #[.int .i64 ((m : Int) % 16777216)]) (t := 2) (fr := (0, 0)) (heap_alloc_new wr _)) (by simp [Value.oneCell']) (by omega) (by unfold maxLen; omega) (by omega) (by simp; omega) _ rfl ?_; intro g cap w1 hown1 hgrow hat hlt; obtain ⟨hc0, hc1, hc2, hcf, hcl⟩ := (hW.out.boxed hgrow).cells; have hcf1 := hcf 1; clear hcf)
             have e1 : (m : Int) % 16777216 = (d : Nat) := by have := hd.out; omega
             have e2 : (m : Int) / 16777216 = (q : Nat) := by have := hq.out; omega
             have HP := hW.out.pushed hgrow hown1 e1
             refine ⟨⟨q, ds ++ [d], _, by rw [e2], by have := hq.out; omega, ?_, snoc_small hs.out (by have := hd.out; omega), by simp; omega, HP⟩, by simp [intOf]; omega⟩
             show _ = _
             rw [v24_snoc, List.length_append, List.length_singleton]
             exact pow_digit hv.out hd.out hq.out
end

/- The reference's Add: the digits. -/
section
open Go.RowKit
theorem keepN6 {w W W' : World} {p1 p2 p3 p4 p5 p6 : Addr} {x1 x2 x3 x4 x5 x6 : Value} (h : W.cell? p1 = some x1 ∧ W.cell? p2 = some x2 ∧ W.cell? p3 = some x3 ∧ W.cell? p4 = some x4 ∧ W.cell? p5 = some x5 ∧ W.cell? p6 = some x6 ∧ Below w.heap.size w W) (hb : Below W.heap.size W W') :
   W'.cell? p1 = some x1 ∧ W'.cell? p2 = some x2 ∧ W'.cell? p3 = some x3 ∧ W'.cell? p4 = some x4 ∧ W'.cell? p5 = some x5 ∧ W'.cell? p6 = some x6 ∧ Below w.heap.size w W' :=
 ⟨box_cell hb h.1, box_cell hb h.2.1, box_cell hb h.2.2.1, box_cell hb h.2.2.2.1, box_cell hb h.2.2.2.2.1, box_cell hb h.2.2.2.2.2.1, h.2.2.2.2.2.2.trans (hb.mono h.2.2.2.2.2.2.size)⟩
structure AddW (w : World) (O : Nat) (S1 S2 E1 E2 F : Int) (sv1 sv2 : Value) (ds : List Nat) (wr : World) (sv : Value) : Prop where
 a : BoxN wr w.heap.size S1 sv1 E1
 b : BoxN wr (w.heap.size + 1) S2 sv2 E2
 r : BoxN wr (w.heap.size + 2) 0 (.slice none 0 0) 0
 o : BoxN wr O S1 sv F
 row : wr.ownsRow (O + 1) 2 1 sv ds.length (i64s ds)
 bel : Below w.heap.size w wr
 siz : O + 1 ≤ wr.heap.size
 ord : w.heap.size + 3 ≤ O
theorem AddW.later {w W W' : World} {O : Nat} {S1 S2 E1 E2 F : Int} {sv1 sv2 : Value} {ds : List Nat} {sv : Value} (h : AddW w O S1 S2 E1 E2 F sv1 sv2 ds W sv) (hb : Below W.heap.size W W') : AddW w O S1 S2 E1 E2 F sv1 sv2 ds W' sv := by
 have hs := h.siz
 have ho := h.ord
 have hz := hb.size
 exact ⟨h.a.block (hb.block _ (by omega)), h.b.block (hb.block _ (by omega)), h.r.block (hb.block _ (by omega)), h.o.block (hb.block _ (by omega)), h.row.kept (row := none) ⟨hb.os, hb.tape, hb.output, hb.size, fun k hk _ => hb.block k hk⟩ (by cases sv.ownBlock <;> simp), h.bel.trans (hb.mono (by omega)), by omega, ho⟩
theorem AddW.boxed {w W w1 : World} {O : Nat} {S1 S2 E1 E2 F : Int} {sv1 sv2 : Value} {ds : List Nat} {sv : Value} {o : Obj} (h : AddW w O S1 S2 E1 E2 F sv1 sv2 ds W sv) (hg : (W.alloc o).grownBy w1 sv.ownBlock) : BoxN w1 O S1 sv F :=
 (h.o.alloc o).grown hg (own_apart h.row (show O < O + 1 by omega))
theorem AddW.pushed {w W w1 : World} {O g cap d : Nat} {S1 S2 E1 E2 F x : Int} {sv1 sv2 : Value} {ds : List Nat} {sv : Value} {o : Obj} (h : AddW w O S1 S2 E1 E2 F sv1 sv2 ds W sv) (hg : (W.alloc o).grownBy w1 sv.ownBlock)
   (ho : w1.ownsRow (O + 1) 2 1 (.slice (some ⟨g, 0, none⟩) (ds.length + 1) cap) (ds.length + 1) (i64s ds ++ [.int .i64 x])) (hx : x = (d : Nat)) :
   AddW w O S1 S2 E1 E2 F sv1 sv2 (ds ++ [d]) (w1.setCell ⟨O, 1, none⟩ (.slice (some ⟨g, 0, none⟩) (ds.length + 1) cap)) (.slice (some ⟨g, 0, none⟩) (ds.length + 1) cap) := by
 subst hx
 have hs := h.siz
 have hod := h.ord
 refine ⟨?_, ?_, ?_, (h.boxed hg).set, ?_, ?_, ?_, hod⟩
 · exact ((h.a.alloc o).grown hg (own_apart h.row (by omega))).other (by simp; omega) _
 · exact ((h.b.alloc o).grown hg (own_apart h.row (by omega))).other (by simp; omega) _
 · exact ((h.r.alloc o).grown hg (own_apart h.row (by omega))).other (by simp; omega) _
 · rw [i64s_snoc] at ho
   have := own_other ho (a := ⟨O, 1, none⟩) (by simp) (.slice (some ⟨g, 0, none⟩) (ds.length + 1) cap)
   simpa using this
 · refine Below.setCell ?_ (by simp; omega) _
   have h1 : Below w.heap.size w (W.alloc o) := h.bel.alloc (by omega) o
   exact h1.grown hg (by simp; omega) (fun k hk => by have := (h.row.lt k hk).1; omega)
 · have := hg.size
   simp [World.setCell] at *
   omega
theorem addW_start {w W : World} {O : Nat} {S1 S2 E1 E2 F : Int} {sv1 sv2 : Value} (a : BoxN W w.heap.size S1 sv1 E1) (b : BoxN W (w.heap.size + 1) S2 sv2 E2) (r : BoxN W (w.heap.size + 2) 0 (.slice none 0 0) 0) (bel : Below w.heap.size w W) (hO : W.heap.size = O) (hs : w.heap.size + 3 ≤ O) :
   AddW w O S1 S2 E1 E2 F sv1 sv2 [] (W.alloc (.cells #[.int .i64 S1, .slice none 0 0, .int .i64 F] 67)) (.slice none 0 0) := by
 subst hO
 exact ⟨a.alloc _, b.alloc _, r.alloc _, heap_alloc_new W _, World.ownsRow_nil _ _ _ _, bel.alloc (by omega) _, by simp, hs⟩
theorem boxes3 (w : World) (a b c : Obj) : (((w.alloc a).alloc b).alloc c).heap[w.heap.size]? = some a ∧ (((w.alloc a).alloc b).alloc c).heap[w.heap.size + 1]? = some b ∧ (((w.alloc a).alloc b).alloc c).heap[w.heap.size + 2]? = some c := by
 refine ⟨?_, ?_, ?_⟩
 · rw [Below.heap_alloc _ _ _ (by simp; omega)]; exact old_box w a b
 · rw [Below.heap_alloc _ _ _ (by simp)]; exact new_box w a b
 · have := heap_alloc_new ((w.alloc a).alloc b) c
   simpa using this
theorem below3 (w : World) (a b c : Obj) : Below w.heap.size w (((w.alloc a).alloc b).alloc c) := (((Below.refl _ _).alloc (Nat.le_refl _) _).alloc (by simp) _).alloc (by simp; omega) _
structure AddD (A B : Nat → Nat) (s : Int) (i : Nat) (zs : List Nat) (c : Int) : Prop where
 len : zs.length = i
 small : ∀ d ∈ zs, d < 16777216
 val : (v24 zs : Int) + ((2 ^ (24 * i) : Nat) : Int) * c = (A i : Int) + s * (B i : Int)
 c1 : -1 ≤ c
 c2 : c ≤ 1
theorem AddD.step {A B : Nat → Nat} {s c c' v : Int} {i a b d : Nat} {zs : List Nat} (h : AddD A B s i zs c) (hA : A (i + 1) = A i + 2 ^ (24 * i) * a) (hB : B (i + 1) = B i + 2 ^ (24 * i) * b) (hv : v = (a : Int) + s * (b : Int) + c) (hd : v = (d : Int) + 16777216 * c') (hdl : d < 16777216) (h1 : -1 ≤ c') (h2 : c' ≤ 1) : AddD A B s (i + 1) (zs ++ [d]) c' := by
 refine ⟨by simp [h.len], snoc_small h.small hdl, ?_, h1, h2⟩
 rw [v24_snoc, h.len, hA, hB, p24]
 have hval := h.val
 simp only [Int.natCast_add, Int.natCast_mul]
 generalize ((2 ^ (24 * i) : Nat) : Int) = P at *
 subst hv
 have e : ((16777216 : Nat) : Int) = 16777216 := rfl
 rw [e]
 grind
end

/- The reference's Add: the walk, the same sign. -/
section
open Go.RowKit
set_option maxRecDepth 100000 in
set_option maxHeartbeats 8000000 in
theorem add_same (a1 a2 : Option Addr) (c1 c2 : Nat) (S1 E1 E2 from' to : Int) (ds1 ds2 : List Nat) (w : World) (hd1 : Dig w (.agg #[.int .i64 S1, .slice a1 ds1.length c1, .int .i64 E1]) S1 ds1 E1) (hd2 : Dig w (.agg #[.int .i64 S1, .slice a2 ds2.length c2, .int .i64 E2]) S1 ds2 E2)
   (hS : (S1 == 0) = false) (hS1 : S1 = 1 ∨ S1 = -1) (hfrom : (if E2 < E1 then E2 else E1) = from') (hto : (if E1 + (ds1.length : Int) < E2 + (ds2.length : Int) then E2 + (ds2.length : Int) else E1 + (ds1.length : Int)) = to) (hp : -10000 ≤ from') (hq : to ≤ 10000) :
   Calls Tryd.prog 35 #[.agg #[.int .i64 S1, .slice a1 ds1.length c1, .int .i64 E1], .agg #[.int .i64 S1, .slice a2 ds2.length c2, .int .i64 E2]] w fun e w' => ∃ zs c, AddD (fun i => ms (dgt ds1 E1) from' i) (fun i => ms (dgt ds2 E2) from' i) 1 (to - from' + 1).toNat zs c ∧ RfR w w' ((S1 : Rat) * mag zs from') e := by
 obtain ⟨i0, hi0, hz0, hz1, hz2⟩ := info_parts info64
 have D1 : Hid (Dig w (.agg #[.int .i64 S1, .slice a1 ds1.length c1, .int .i64 E1]) S1 ds1 E1) := hd1
 have D2 : Hid (Dig w (.agg #[.int .i64 S1, .slice a2 ds2.length c2, .int .i64 E2]) S1 ds2 E2) := hd2
 have s1 : ∀ j, dgt ds1 E1 j < 16777216 := fun j => by rw [dgt_dg]; exact dg_small hd1.small _ _
 have s2 : ∀ j, dgt ds2 E2 j < 16777216 := fun j => by rw [dgt_dg]; exact dg_small hd2.small _ _
 have l1 : (ds1.length : Int) ≤ 1000000 := by have := hd1.len; omega
 have l2 : (ds2.length : Int) ≤ 1000000 := by have := hd2.len; omega
 have f1 : from' ≤ E1 := by rw [← hfrom]; split <;> omega
 have f2 : from' ≤ E2 := by rw [← hfrom]; split <;> omega
 have t1 : E1 + (ds1.length : Int) ≤ to := by rw [← hto]; split <;> omega
 have t2 : E2 + (ds2.length : Int) ≤ to := by rw [← hto]; split <;> omega
 have HS1 : Hid (∀ j, dgt ds1 E1 j < 16777216) := s1
 have HS2' : Hid (∀ j, dgt ds2 E2 j < 16777216) := s2
 have hSS : (!(S1 == S1)) = false := by simp
 have HSS : Hid (S1 = 1 ∨ S1 = -1) := hS1
 clear hd1 hd2 s1 s2 hS1
 go_enter Tryd.func35, Tryd.ntmps35
 go_wp2
 clear hfrom hto
 go_loopw [9, 10] (fun c i wr => ∃ (k : Nat) (cc : Int) (zs : List Nat) (sv : Value), c = .int .i64 cc ∧ i = .int .i64 (from' + (k : Int)) ∧ (k : Int) ≤ to - from' + 1 ∧ -1 ≤ cc ∧ cc ≤ 1 ∧ Hid (AddD (fun i => ms (dgt ds1 E1) from' i) (fun i => ms (dgt ds2 E2) from' i) 1 k zs cc) ∧ Hid (AddW w (w.heap.size + 3) S1 S1 E1 E2 from' (.slice a1 ds1.length c1) (.slice a2 ds2.length c2) zs wr sv)) (fun _ i _ => (to + 1 - intOf i).toNat)
 case atStart => exact ⟨0, 0, [], .slice none 0 0, rfl, by simp, by omega, by omega, by omega, ⟨rfl, by simp, by simp [v24, ms], by omega, by omega⟩, addW_start (boxes3 _ _ _ _).1 (boxes3 _ _ _ _).2.1 (boxes3 _ _ _ _).2.2 (below3 _ _ _ _) (by simp) (by omega)⟩
 case round =>
   obtain ⟨k, cc, zs, sv, rfl, rfl, hk, hc1, hc2, hD, hW⟩ := hrel
   by_cases hlt : from' + (k : Int) ≤ to
   · have HWW := hW.out
     have hbel : Hid (Below w.heap.size w wr) := HWW.bel
     obtain ⟨x0, x1, x2, _, _⟩ := HWW.a.cells
     obtain ⟨y0, y1, y2, _, _⟩ := HWW.b.cells
     clear HWW
     have hrefl : Hid (Below wr.heap.size wr wr) := Below.refl _ _
     have hkl : (k : Int) ≤ 20001 := by omega
     obtain ⟨p, hpd⟩ : ∃ p : Nat, Hid (dgt ds1 E1 (from' + (k : Int)) = p) := ⟨_, rfl⟩
     obtain ⟨q, hqd⟩ : ∃ q : Nat, Hid (dgt ds2 E2 (from' + (k : Int)) = q) := ⟨_, rfl⟩
     have hp1 : p < 16777216 := by rw [← hpd.out]; exact HS1.out _
     have hq1 : q < 16777216 := by rw [← hqd.out]; exact HS2'.out _
     have hp2 : (p : Int) < 16777216 := by omega
     have hq2 : (q : Int) < 16777216 := by omega
     have CA : Hid (∀ W, Below wr.heap.size wr W → Calls Tryd.prog 47 #[.agg #[.int .i64 S1, .slice a1 ds1.length c1, .int .i64 E1], .int .i64 (from' + (k : Int))] W fun e w' => e = .returned (.int .i64 (p : Nat)) ∧ Below W.heap.size W w') := by
       intro W hb
       have := digit_any _ S1 E1 (from' + (k : Int)) ds1 W (D1.out.later (hbel.out.trans (hb.mono hbel.out.size)))
       rwa [hpd.out] at this
     have CB : Hid (∀ W, Below wr.heap.size wr W → Calls Tryd.prog 47 #[.agg #[.int .i64 S1, .slice a2 ds2.length c2, .int .i64 E2], .int .i64 (from' + (k : Int))] W fun e w' => e = .returned (.int .i64 (q : Nat)) ∧ Below W.heap.size W w') := by
       intro W hb
       have := digit_any _ S1 E2 (from' + (k : Int)) ds2 W (D2.out.later (hbel.out.trans (hb.mono hbel.out.size)))
       rwa [hqd.out] at this
     have wq : IntKind.i64.wrap (q : Int) = (q : Int) := wrapE _ (by omega) (by omega)
     have wp : IntKind.i64.wrap ((p : Int) + (q : Int)) = (p : Int) + (q : Int) := wrapE _ (by omega) (by omega)
     have wv : IntKind.i64.wrap ((p : Int) + (q : Int) + cc) = (p : Int) + (q : Int) + cc := wrapE _ (by omega) (by omega)
     go_wp2
     go_region_held3 (fun W => W.cell? ⟨w.heap.size, 0, none⟩ = some (.int .i64 S1) ∧ W.cell? ⟨w.heap.size, 1, none⟩ = some (.slice a1 ds1.length c1) ∧ W.cell? ⟨w.heap.size, 2, none⟩ = some (.int .i64 E1) ∧ W.cell? ⟨w.heap.size + 1, 0, none⟩ = some (.int .i64 S1) ∧ W.cell? ⟨w.heap.size + 1, 1, none⟩ = some (.slice a2 ds2.length c2) ∧ W.cell? ⟨w.heap.size + 1, 2, none⟩ = some (.int .i64 E2) ∧ Below wr.heap.size wr W)
       (first
         | assumption
         | exact ⟨by go_simp, by go_simp, by go_simp, by go_simp, by go_simp, by go_simp, hrefl.out.drew⟩
         | exact keepN6 (by assumption) (by assumption))
       (first
         | (go_at_call_of 47 E1; refine (CA.out _ (by exact (by assumption : _ ∧ _ ∧ _ ∧ _ ∧ _ ∧ _ ∧ Below wr.heap.size wr _).2.2.2.2.2.2)).mono ?_; rintro e wA ⟨rfl, hbA⟩)
         | (go_at_call_of 47 E2; refine (CB.out _ (by exact (by assumption : _ ∧ _ ∧ _ ∧ _ ∧ _ ∧ _ ∧ Below wr.heap.size wr _).2.2.2.2.2.2)).mono ?_; rintro e wB ⟨rfl, hbB⟩))
     all_goals
       have hbf := (by assumption : _ ∧ _ ∧ _ ∧ _ ∧ _ ∧ _ ∧ Below wr.heap.size wr _).2.2.2.2.2.2
       have HW2 : Hid _ := hW.out.later hbf
       obtain ⟨z0, z1, z2, zf, zl⟩ := HW2.out.o.cells
       have zf1 := zf 1
       have HR := HW2.out.row
       have hsz : (w.heap.size + 3) + 1 ≤ _ := HW2.out.siz
       have HDX : Hid (AddD (fun i => ms (dgt ds1 E1) from' i) (fun i => ms (dgt ds2 E2) from' i) 1 k zs cc) := hD
       have hzl : zs.length ≤ 20001 := by have := hD.out.len; omega
       clear hbf zf hW hD x0 x1 x2 y0 y1 y2 CA CB
       go_wp2
       go_loop [9, 11] (fun c v => ∃ v' c' : Int, v = .int .i64 v' ∧ c = .int .i64 c' ∧ Hid (v' + 16777216 * c' = (p : Int) + 1 * (q : Int) + cc) ∧ -16777217 ≤ v' ∧ v' ≤ 33554431 ∧ Hid (v' < 0 → c' = 0) ∧ -1 ≤ c' ∧ c' ≤ 0) (fun _ v => (0 - intOf v).toNat)
       case atStart => exact ⟨_, 0, rfl, rfl, by show _ = _; omega, by omega, by omega, fun _ => rfl, by omega, by omega⟩
       case round =>
         obtain ⟨v', c', rfl, rfl, hv, b1, b2, b3, b4, b5⟩ := hrel
         by_cases hneg : v' < 0
         · have hc0 := b3.out hneg
           have hv' : Hid (v' + 16777216 + 16777216 * (c' - 1) = (p : Int) + 1 * (q : Int) + cc) := by have := hv.out; show _ = _; omega
           have hb3 : Hid (v' + 16777216 < 0 → c' - 1 = 0) := by intro h; have := hv.out; omega
           have hb4 : -1 ≤ c' - 1 := by omega
           clear hc0 b3 hv
           go_wp2
           go_round
           case rel => exact ⟨v' + 16777216, c' - 1, rfl, rfl, hv', by omega, by omega, hb3, hb4, by omega⟩
           case measure => simp [intOf]; omega
         · go_wp2
           go_loop [9, 11] (fun c v => ∃ v' c' : Int, v = .int .i64 v' ∧ c = .int .i64 c' ∧ Hid (v' + 16777216 * c' = (p : Int) + 1 * (q : Int) + cc) ∧ 0 ≤ v' ∧ v' ≤ 33554431 ∧ Hid (16777216 ≤ v' → c' ≤ 0) ∧ -1 ≤ c' ∧ c' ≤ 1) (fun _ v => (intOf v).toNat)
           case atStart => exact ⟨v', c', rfl, rfl, hv, by omega, by omega, fun _ => b5, by omega, by omega⟩
           case round =>
             clear hv b1 b2 b3 b4 b5 hneg
             obtain ⟨v', c', rfl, rfl, hv, b1, b2, b3, b4, b5⟩ := hrel
             by_cases hbig : 16777216 ≤ v'
             · have hc0 := b3.out hbig
               have hv' : Hid (v' - 16777216 + 16777216 * (c' + 1) = (p : Int) + 1 * (q : Int) + cc) := by have := hv.out; show _ = _; omega
               have hb3 : Hid (16777216 ≤ v' - 16777216 → c' + 1 ≤ 0) := by intro h; omega
               have hb5 : c' + 1 ≤ 1 := by omega
               clear hc0 b3 hv
               go_wp2
               go_round
               case rel => exact ⟨v' - 16777216, c' + 1, rfl, rfl, hv', by omega, by omega, hb3, by omega, hb5⟩
               case measure => simp [intOf]; omega
             · obtain ⟨d, rfl⟩ : ∃ d : Nat, v' = (d : Int) := ⟨v'.toNat, by omega⟩
               have hbigb : decide ((16777216 : Int) ≤ (d : Int)) = false := decide_eq_false hbig
               go_wp2_with (at_builtin; refine wpList_append_lies _ rfl _ _ _ rfl ((w.heap.size + 3) + 1) 2 i0 _ 1 8 Tryd.underlying65 hi0 hz0 hz1 hz2 rfl (by omega) sv zs.length (i64s zs) rfl (HR.alloc _) ⟨_, 0, none⟩ 1 1 [.int .i64 (d : Nat)] rfl rfl (World.news_of_block (cs := #[.int .i64 (d : Nat)]) (t := 2) (fr := (0, 0)) (heap_alloc_new _ _)) (by simp [Value.oneCell']) (by omega) (by unfold maxLen; omega) (by omega) (by simp; omega) _ rfl ?_; intro g cap w9 hown1 hgrow hat hlt9; obtain ⟨hc0, hc1', hc2', hcf, hcl⟩ := (HW2.out.boxed hgrow).cells; have hcf1 := hcf 1; clear hcf)
               have HP := HW2.out.pushed hgrow hown1 rfl
               refine ⟨⟨k + 1, c', zs ++ [d], _, rfl, by go_num, by omega, b4, b5, HDX.out.step (a := p) (b := q) (v := (d : Int) + 16777216 * c') (by simp only [ms]; rw [hpd.out]) (by simp only [ms]; rw [hqd.out]) hv.out rfl (by omega) b4 b5, HP⟩, by simp [intOf]; omega⟩
   · obtain rfl : k = (to - from' + 1).toNat := by omega
     have hltb : decide (from' + ((to - from' + 1).toNat : Int) ≤ to) = false := decide_eq_false hlt
     obtain ⟨z0, z1, z2, zf, zl⟩ := hW.out.o.cells
     clear zf
     have hzl : zs.length = (to - from' + 1).toNat := hD.out.len
     have hform : ∃ a c, sv = .slice a zs.length c := by
       rcases own_form hW.out.row with ⟨rfl, a, c, rfl, _⟩ | ⟨_, g, cap, rfl, _⟩
       · exact ⟨_, _, rfl⟩
       · exact ⟨_, _, rfl⟩
     obtain ⟨sa, sc, rfl⟩ := hform
     have HZ : Hid (zs.length = (to - from' + 1).toNat) := hzl
     clear hzl
     go_wp2_with fail
     refine (trim_any _ S1 from' zs _ (own_dig hW.out.row hD.out.small (by have := HZ.out; omega) (by omega) (by omega)) (by have := HZ.out; omega)).mono ?_
     rintro e w2 hT
     obtain ⟨v9, rfl, hrf, hb9⟩ := trim_rf HSS.out hT
     have hB : BoxN w2 (w.heap.size + 2) 0 (.slice none 0 0) 0 := hW.out.r.block (hb9.block _ (by have := hW.out.siz; have := hW.out.ord; omega))
     have hO : Hid (OtherRow w2 (w.heap.size + 2)) := other_box hB
     obtain ⟨t0, t1', t2', tf, tl⟩ := hB.cells
     have HB : Hid (Below w.heap.size w w2) := hW.out.bel.trans (hb9.mono (by have := hW.out.siz; have := hW.out.ord; omega))
     have HV : Hid (Rf w2 v9 ((S1 : Rat) * mag zs from')) := hrf
     obtain ⟨S9, ds9, E9, hd9, _⟩ := HV.out
     obtain ⟨a9, c9, rfl, _⟩ := hd9.form
     clear hb9 hT hrf hB hW hd9
     go_wp2
     refine bodyPost_ret (v := .agg #[.int .i64 S9, .slice a9 ds9.length c9, .int .i64 E9]) (by simp [results, Tryd.results35, go_sem, t0, t1', t2']) rfl ?_
     refine ⟨zs, cc, hD.out, _, rfl, HV.out.boxed hO.out _ _ _, ?_⟩
     repeat (first | exact HB.out | refine Below.drew ?_ | refine Below.setCell ?_ (by show w.heap.size ≤ w.heap.size + 2; omega) _)
end

/- The reference's Add: the walk, other signs. -/
section
open Go.RowKit
set_option maxRecDepth 100000 in
set_option maxHeartbeats 8000000 in
theorem add_other (a1 a2 : Option Addr) (c1 c2 : Nat) (S1 S2 E1 E2 from' to : Int) (ds1 ds2 : List Nat) (w : World) (hd1 : Dig w (.agg #[.int .i64 S1, .slice a1 ds1.length c1, .int .i64 E1]) S1 ds1 E1) (hd2 : Dig w (.agg #[.int .i64 S2, .slice a2 ds2.length c2, .int .i64 E2]) S2 ds2 E2)
   (hS : (S1 == 0) = false) (hS1 : S1 = 1 ∨ S1 = -1) (hS2 : (S2 == 0) = false) (hne : (S1 == S2) = false) (hsz : ∀ r, SizeOf ds1 E1 ds2 E2 r → ¬ r < 0) (hfrom : (if E2 < E1 then E2 else E1) = from') (hto : (if E1 + (ds1.length : Int) < E2 + (ds2.length : Int) then E2 + (ds2.length : Int) else E1 + (ds1.length : Int)) = to) (hp : -10000 ≤ from') (hq : to ≤ 10000) :
   Calls Tryd.prog 35 #[.agg #[.int .i64 S1, .slice a1 ds1.length c1, .int .i64 E1], .agg #[.int .i64 S2, .slice a2 ds2.length c2, .int .i64 E2]] w fun e w' => ∃ zs c, AddD (fun i => ms (dgt ds1 E1) from' i) (fun i => ms (dgt ds2 E2) from' i) (-1) (to - from' + 1).toNat zs c ∧ RfR w w' ((S1 : Rat) * mag zs from') e := by
 obtain ⟨i0, hi0, hz0, hz1, hz2⟩ := info_parts info64
 have D1 : Hid (Dig w (.agg #[.int .i64 S1, .slice a1 ds1.length c1, .int .i64 E1]) S1 ds1 E1) := hd1
 have D2 : Hid (Dig w (.agg #[.int .i64 S2, .slice a2 ds2.length c2, .int .i64 E2]) S2 ds2 E2) := hd2
 have s1 : ∀ j, dgt ds1 E1 j < 16777216 := fun j => by rw [dgt_dg]; exact dg_small hd1.small _ _
 have s2 : ∀ j, dgt ds2 E2 j < 16777216 := fun j => by rw [dgt_dg]; exact dg_small hd2.small _ _
 have l1 : (ds1.length : Int) ≤ 1000000 := by have := hd1.len; omega
 have l2 : (ds2.length : Int) ≤ 1000000 := by have := hd2.len; omega
 have f1 : from' ≤ E1 := by rw [← hfrom]; split <;> omega
 have f2 : from' ≤ E2 := by rw [← hfrom]; split <;> omega
 have t1 : E1 + (ds1.length : Int) ≤ to := by rw [← hto]; split <;> omega
 have t2 : E2 + (ds2.length : Int) ≤ to := by rw [← hto]; split <;> omega
 have HS1 : Hid (∀ j, dgt ds1 E1 j < 16777216) := s1
 have HS2' : Hid (∀ j, dgt ds2 E2 j < 16777216) := s2
 have hSS : (S1 != S2) = true := by unfold bne; rw [hne]; rfl
 clear hne
 have HB0 : Hid (Below w.heap.size w (((w.alloc (.cells #[.int .i64 S1, .slice a1 ds1.length c1, .int .i64 E1] 67)).alloc (.cells #[.int .i64 S2, .slice a2 ds2.length c2, .int .i64 E2] 67)).alloc (.cells #[.int .i64 0, .slice none 0 0, .int .i64 0] 67))) := below3 _ _ _ _
 have HSZ : Hid (∀ r, SizeOf ds1 E1 ds2 E2 r → ¬ r < 0) := hsz
 clear hsz
 have HSS : Hid (S1 = 1 ∨ S1 = -1) := hS1
 clear hd1 hd2 s1 s2 hS1
 go_enter Tryd.func35, Tryd.ntmps35
 go_wp2_with fail
 refine (size_walk a1 a2 c1 c2 S1 S2 E1 E2 ds1 ds2 _ (D1.out.later HB0.out) (D2.out.later HB0.out)).mono ?_
 rintro e w1 ⟨⟨r, rfl, hsz'⟩, hb1⟩
 have hr : decide (r < 0) = false := decide_eq_false (by have := HSZ.out r hsz'; omega)
 have hs3 : w.heap.size + 3 ≤ w1.heap.size := by have := hb1.size; simp at this; omega
 have HA : Hid (BoxN w1 w.heap.size S1 (.slice a1 ds1.length c1) E1) := BoxN.block (boxes3 w _ _ _).1 (hb1.block _ (by simp; omega))
 have HBb : Hid (BoxN w1 (w.heap.size + 1) S2 (.slice a2 ds2.length c2) E2) := BoxN.block (boxes3 w _ _ _).2.1 (hb1.block _ (by simp))
 have HRr : Hid (BoxN w1 (w.heap.size + 2) 0 (.slice none 0 0) 0) := BoxN.block (boxes3 w _ _ _).2.2 (hb1.block _ (by simp))
 have HBL : Hid (Below w.heap.size w w1) := HB0.out.trans (hb1.mono (by simp; omega))
 obtain ⟨b0, b1', b2', _, _⟩ := HA.out.cells
 obtain ⟨d0, d1', d2', _, _⟩ := HBb.out.cells
 obtain ⟨_, _, _, rf, _⟩ := HRr.out.cells
 clear hb1 hsz' HSZ
 go_wp2
 clear hfrom hto
 go_loopw [9, 10] (fun c i wr => ∃ (k : Nat) (cc : Int) (zs : List Nat) (sv : Value), c = .int .i64 cc ∧ i = .int .i64 (from' + (k : Int)) ∧ (k : Int) ≤ to - from' + 1 ∧ -1 ≤ cc ∧ cc ≤ 1 ∧ Hid (AddD (fun i => ms (dgt ds1 E1) from' i) (fun i => ms (dgt ds2 E2) from' i) (-1) k zs cc) ∧ Hid (AddW w w1.heap.size S1 S2 E1 E2 from' (.slice a1 ds1.length c1) (.slice a2 ds2.length c2) zs wr sv)) (fun _ i _ => (to + 1 - intOf i).toNat)
 case atStart => exact ⟨0, 0, [], .slice none 0 0, rfl, by simp, by omega, by omega, by omega, ⟨rfl, by simp, by simp [v24, ms], by omega, by omega⟩, addW_start HA.out HBb.out HRr.out HBL.out rfl hs3⟩
 case round =>
   obtain ⟨k, cc, zs, sv, rfl, rfl, hk, hc1, hc2, hD, hW⟩ := hrel
   by_cases hlt : from' + (k : Int) ≤ to
   · have HWW := hW.out
     have hbel : Hid (Below w.heap.size w wr) := HWW.bel
     obtain ⟨x0, x1, x2, _, _⟩ := HWW.a.cells
     obtain ⟨y0, y1, y2, _, _⟩ := HWW.b.cells
     clear HWW
     have hrefl : Hid (Below wr.heap.size wr wr) := Below.refl _ _
     have hkl : (k : Int) ≤ 20001 := by omega
     obtain ⟨p, hpd⟩ : ∃ p : Nat, Hid (dgt ds1 E1 (from' + (k : Int)) = p) := ⟨_, rfl⟩
     obtain ⟨q, hqd⟩ : ∃ q : Nat, Hid (dgt ds2 E2 (from' + (k : Int)) = q) := ⟨_, rfl⟩
     have hp1 : p < 16777216 := by rw [← hpd.out]; exact HS1.out _
     have hq1 : q < 16777216 := by rw [← hqd.out]; exact HS2'.out _
     have hp2 : (p : Int) < 16777216 := by omega
     have hq2 : (q : Int) < 16777216 := by omega
     have CA : Hid (∀ W, Below wr.heap.size wr W → Calls Tryd.prog 47 #[.agg #[.int .i64 S1, .slice a1 ds1.length c1, .int .i64 E1], .int .i64 (from' + (k : Int))] W fun e w' => e = .returned (.int .i64 (p : Nat)) ∧ Below W.heap.size W w') := by
       intro W hb
       have := digit_any _ S1 E1 (from' + (k : Int)) ds1 W (D1.out.later (hbel.out.trans (hb.mono hbel.out.size)))
       rwa [hpd.out] at this
     have CB : Hid (∀ W, Below wr.heap.size wr W → Calls Tryd.prog 47 #[.agg #[.int .i64 S2, .slice a2 ds2.length c2, .int .i64 E2], .int .i64 (from' + (k : Int))] W fun e w' => e = .returned (.int .i64 (q : Nat)) ∧ Below W.heap.size W w') := by
       intro W hb
       have := digit_any _ S2 E2 (from' + (k : Int)) ds2 W (D2.out.later (hbel.out.trans (hb.mono hbel.out.size)))
       rwa [hqd.out] at this
     have wq : IntKind.i64.wrap (-(q : Int)) = -(q : Int) := wrapE _ (by omega) (by omega)
     have wp : IntKind.i64.wrap ((p : Int) + -(q : Int)) = (p : Int) + -(q : Int) := wrapE _ (by omega) (by omega)
     have wv : IntKind.i64.wrap ((p : Int) + -(q : Int) + cc) = (p : Int) + -(q : Int) + cc := wrapE _ (by omega) (by omega)
     go_wp2
     go_region_held3 (fun W => W.cell? ⟨w.heap.size, 0, none⟩ = some (.int .i64 S1) ∧ W.cell? ⟨w.heap.size, 1, none⟩ = some (.slice a1 ds1.length c1) ∧ W.cell? ⟨w.heap.size, 2, none⟩ = some (.int .i64 E1) ∧ W.cell? ⟨w.heap.size + 1, 0, none⟩ = some (.int .i64 S2) ∧ W.cell? ⟨w.heap.size + 1, 1, none⟩ = some (.slice a2 ds2.length c2) ∧ W.cell? ⟨w.heap.size + 1, 2, none⟩ = some (.int .i64 E2) ∧ Below wr.heap.size wr W)
       (first
         | assumption
         | exact ⟨by go_simp, by go_simp, by go_simp, by go_simp, by go_simp, by go_simp, hrefl.out.drew⟩
         | exact keepN6 (by assumption) (by assumption))
       (first
         | (go_at_call_of 47 E1; refine (CA.out _ (by exact (by assumption : _ ∧ _ ∧ _ ∧ _ ∧ _ ∧ _ ∧ Below wr.heap.size wr _).2.2.2.2.2.2)).mono ?_; rintro e wA ⟨rfl, hbA⟩)
         | (go_at_call_of 47 E2; refine (CB.out _ (by exact (by assumption : _ ∧ _ ∧ _ ∧ _ ∧ _ ∧ _ ∧ Below wr.heap.size wr _).2.2.2.2.2.2)).mono ?_; rintro e wB ⟨rfl, hbB⟩))
     all_goals
       have hbf := (by assumption : _ ∧ _ ∧ _ ∧ _ ∧ _ ∧ _ ∧ Below wr.heap.size wr _).2.2.2.2.2.2
       have HW2 : Hid _ := hW.out.later hbf
       obtain ⟨z0, z1, z2, zf, zl⟩ := HW2.out.o.cells
       have zf1 := zf 1
       have HR := HW2.out.row
       have hsz : w1.heap.size + 1 ≤ _ := HW2.out.siz
       have HDX : Hid (AddD (fun i => ms (dgt ds1 E1) from' i) (fun i => ms (dgt ds2 E2) from' i) (-1) k zs cc) := hD
       have hzl : zs.length ≤ 20001 := by have := hD.out.len; omega
       clear hbf zf hW hD x0 x1 x2 y0 y1 y2 CA CB
       go_wp2
       go_loop [9, 11] (fun c v => ∃ v' c' : Int, v = .int .i64 v' ∧ c = .int .i64 c' ∧ Hid (v' + 16777216 * c' = (p : Int) + (-1) * (q : Int) + cc) ∧ -16777217 ≤ v' ∧ v' ≤ 33554431 ∧ Hid (v' < 0 → c' = 0) ∧ -1 ≤ c' ∧ c' ≤ 0) (fun _ v => (0 - intOf v).toNat)
       case atStart => exact ⟨_, 0, rfl, rfl, by show _ = _; omega, by omega, by omega, fun _ => rfl, by omega, by omega⟩
       case round =>
         obtain ⟨v', c', rfl, rfl, hv, b1, b2, b3, b4, b5⟩ := hrel
         by_cases hneg : v' < 0
         · have hc0 := b3.out hneg
           have hv' : Hid (v' + 16777216 + 16777216 * (c' - 1) = (p : Int) + (-1) * (q : Int) + cc) := by have := hv.out; show _ = _; omega
           have hb3 : Hid (v' + 16777216 < 0 → c' - 1 = 0) := by intro h; have := hv.out; omega
           have hb4 : -1 ≤ c' - 1 := by omega
           clear hc0 b3 hv
           go_wp2
           go_round
           case rel => exact ⟨v' + 16777216, c' - 1, rfl, rfl, hv', by omega, by omega, hb3, hb4, by omega⟩
           case measure => simp [intOf]; omega
         · go_wp2
           go_loop [9, 11] (fun c v => ∃ v' c' : Int, v = .int .i64 v' ∧ c = .int .i64 c' ∧ Hid (v' + 16777216 * c' = (p : Int) + (-1) * (q : Int) + cc) ∧ 0 ≤ v' ∧ v' ≤ 33554431 ∧ Hid (16777216 ≤ v' → c' ≤ 0) ∧ -1 ≤ c' ∧ c' ≤ 1) (fun _ v => (intOf v).toNat)
           case atStart => exact ⟨v', c', rfl, rfl, hv, by omega, by omega, fun _ => b5, by omega, by omega⟩
           case round =>
             clear hv b1 b2 b3 b4 b5 hneg
             obtain ⟨v', c', rfl, rfl, hv, b1, b2, b3, b4, b5⟩ := hrel
             by_cases hbig : 16777216 ≤ v'
             · have hc0 := b3.out hbig
               have hv' : Hid (v' - 16777216 + 16777216 * (c' + 1) = (p : Int) + (-1) * (q : Int) + cc) := by have := hv.out; show _ = _; omega
               have hb3 : Hid (16777216 ≤ v' - 16777216 → c' + 1 ≤ 0) := by intro h; omega
               have hb5 : c' + 1 ≤ 1 := by omega
               clear hc0 b3 hv
               go_wp2
               go_round
               case rel => exact ⟨v' - 16777216, c' + 1, rfl, rfl, hv', by omega, by omega, hb3, by omega, hb5⟩
               case measure => simp [intOf]; omega
             · obtain ⟨d, rfl⟩ : ∃ d : Nat, v' = (d : Int) := ⟨v'.toNat, by omega⟩
               have hbigb : decide ((16777216 : Int) ≤ (d : Int)) = false := decide_eq_false hbig
               go_wp2_with (at_builtin; refine wpList_append_lies _ rfl _ _ _ rfl (w1.heap.size + 1) 2 i0 _ 1 8 Tryd.underlying65 hi0 hz0 hz1 hz2 rfl (by omega) sv zs.length (i64s zs) rfl (HR.alloc _) ⟨_, 0, none⟩ 1 1 [.int .i64 (d : Nat)] rfl rfl (World.news_of_block (cs := #[.int .i64 (d : Nat)]) (t := 2) (fr := (0, 0)) (heap_alloc_new _ _)) (by simp [Value.oneCell']) (by omega) (by unfold maxLen; omega) (by omega) (by simp; omega) _ rfl ?_; intro g cap w9 hown1 hgrow hat hlt9; obtain ⟨hc0, hc1', hc2', hcf, hcl⟩ := (HW2.out.boxed hgrow).cells; have hcf1 := hcf 1; clear hcf)
               have HP := HW2.out.pushed hgrow hown1 rfl
               refine ⟨⟨k + 1, c', zs ++ [d], _, rfl, by go_num, by omega, b4, b5, HDX.out.step (a := p) (b := q) (v := (d : Int) + 16777216 * c') (by simp only [ms]; rw [hpd.out]) (by simp only [ms]; rw [hqd.out]) hv.out rfl (by omega) b4 b5, HP⟩, by simp [intOf]; omega⟩
   · obtain rfl : k = (to - from' + 1).toNat := by omega
     have hltb : decide (from' + ((to - from' + 1).toNat : Int) ≤ to) = false := decide_eq_false hlt
     obtain ⟨z0, z1, z2, zf, zl⟩ := hW.out.o.cells
     clear zf
     have hzl : zs.length = (to - from' + 1).toNat := hD.out.len
     have hform : ∃ a c, sv = .slice a zs.length c := by
       rcases own_form hW.out.row with ⟨rfl, a, c, rfl, _⟩ | ⟨_, g, cap, rfl, _⟩
       · exact ⟨_, _, rfl⟩
       · exact ⟨_, _, rfl⟩
     obtain ⟨sa, sc, rfl⟩ := hform
     have HZ : Hid (zs.length = (to - from' + 1).toNat) := hzl
     clear hzl
     go_wp2_with fail
     refine (trim_any _ S1 from' zs _ (own_dig hW.out.row hD.out.small (by have := HZ.out; omega) (by omega) (by omega)) (by have := HZ.out; omega)).mono ?_
     rintro e w2 hT
     obtain ⟨v9, rfl, hrf, hb9⟩ := trim_rf HSS.out hT
     have hB : BoxN w2 (w.heap.size + 2) 0 (.slice none 0 0) 0 := hW.out.r.block (hb9.block _ (by have := hW.out.siz; have := hW.out.ord; omega))
     have hO : Hid (OtherRow w2 (w.heap.size + 2)) := other_box hB
     obtain ⟨t0, t1', t2', tf, tl⟩ := hB.cells
     have HB : Hid (Below w.heap.size w w2) := hW.out.bel.trans (hb9.mono (by have := hW.out.siz; have := hW.out.ord; omega))
     have HV : Hid (Rf w2 v9 ((S1 : Rat) * mag zs from')) := hrf
     obtain ⟨S9, ds9, E9, hd9, _⟩ := HV.out
     obtain ⟨a9, c9, rfl, _⟩ := hd9.form
     clear hb9 hT hrf hB hW hd9
     go_wp2
     refine bodyPost_ret (v := .agg #[.int .i64 S9, .slice a9 ds9.length c9, .int .i64 E9]) (by simp [results, Tryd.results35, go_sem, t0, t1', t2']) rfl ?_
     refine ⟨zs, cc, hD.out, _, rfl, HV.out.boxed hO.out _ _ _, ?_⟩
     repeat (first | exact HB.out | refine Below.drew ?_ | refine Below.setCell ?_ (by show w.heap.size ≤ w.heap.size + 2; omega) _)
end
end Go.Proofs.YtgfloegaoofbbaaDoor
