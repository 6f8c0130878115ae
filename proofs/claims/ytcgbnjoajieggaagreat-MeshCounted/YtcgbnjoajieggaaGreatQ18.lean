/- Own texts, put together: Zd Ze Zf Zg Zh. -/
import Derived.Test.YtcgbnjoajieggaaGreatQ9
import Derived.Test.YtcgbnjoajieggaaGreatQ14
import Derived.Deep.AppendLies
import Derived.OwnWalk
namespace Go.Proofs.YtcgbnjoajieggaaGreat
/- The reference's Neg; trim of any number. -/
section
open Go.RowKit
end

/- The reference's Low. -/
section
open Go.RowKit
end

/- The reference's High. -/
section
open Go.RowKit
end

/- A number of the reference stands for a rational number. -/
section
open Go.RowKit
def Canon (S : Int) (ds : List Nat) (E : Int) : Prop := (ds = [] ∧ S = 0 ∧ E = 0) ∨ (ds ≠ [] ∧ (S = 1 ∨ S = -1) ∧ ds.getD 0 0 ≠ 0 ∧ ds.getD (ds.length - 1) 0 ≠ 0)
def Rf (w : World) (v : Value) (q : Rat) : Prop := ∃ S ds E, Dig w v S ds E ∧ Canon S ds E ∧ q = (S : Rat) * mag ds E
theorem Rf.later {w w' : World} {v : Value} {q : Rat} (h : Rf w v q) (hb : Below w.heap.size w w') : Rf w' v q := by
 obtain ⟨S, ds, E, h1, h2, h3⟩ := h
 exact ⟨S, ds, E, h1.later hb, h2, h3⟩
theorem canon_sgn {S E : Int} {ds : List Nat} (h : Canon S ds E) : (S = 0 ∧ (S : Rat) * mag ds E = 0) ∨ (S = 1 ∧ 0 < (S : Rat) * mag ds E) ∨ (S = -1 ∧ (S : Rat) * mag ds E < 0) := by
 rcases h with ⟨rfl, rfl, rfl⟩ | ⟨a, h, _, b⟩
 · left; exact ⟨rfl, by rw [mag_nil]; grind⟩
 · have := mag_pos (E := E) a b
   rcases h with rfl | rfl
   · right; left; exact ⟨rfl, by rw [show ((1 : Int) : Rat) = 1 from rfl]; grind⟩
   · right; right; exact ⟨rfl, by rw [show ((-1 : Int) : Rat) = -1 from rfl]; grind⟩
def BoxN (w : World) (b : Nat) (S : Int) (sv : Value) (E : Int) : Prop := w.heap[b]? = some (.cells #[.int .i64 S, sv, .int .i64 E] 128 (0, 0))
theorem BoxN.cells {w : World} {b : Nat} {S E : Int} {sv : Value} (h : BoxN w b S sv E) : w.cell? ⟨b, 0, none⟩ = some (.int .i64 S) ∧ w.cell? ⟨b, 1, none⟩ = some sv ∧ w.cell? ⟨b, 2, none⟩ = some (.int .i64 E) ∧ (∀ i, w.frozen? ⟨b, i, none⟩ = false) ∧ b < w.heap.size := by
 unfold BoxN at h
 refine ⟨by simp [World.cell?, h], by simp [World.cell?, h], by simp [World.cell?, h], fun i => by simp [World.frozen?, h], ?_⟩
 exact (Array.getElem?_eq_some_iff.1 h).1
theorem BoxN.set {w : World} {b : Nat} {S E : Int} {sv sv' : Value} (h : BoxN w b S sv E) : BoxN (w.setCell ⟨b, 1, none⟩ sv') b S sv' E := by
 unfold BoxN at *
 simp [World.setCell, Array.getElem?_modify, h]
theorem BoxN.block {w w' : World} {b : Nat} {S E : Int} {sv : Value} (h : BoxN w b S sv E) (he : w'.heap[b]? = w.heap[b]?) : BoxN w' b S sv E := by
 unfold BoxN at *; rw [he]; exact h
theorem BoxN.alloc {w : World} {b : Nat} {S E : Int} {sv : Value} (h : BoxN w b S sv E) (o : Obj) : BoxN (w.alloc o) b S sv E := h.block (Below.heap_alloc w o b h.cells.2.2.2.2)
theorem BoxN.grown {w w' : World} {b : Nat} {S E : Int} {sv : Value} {row : Option Nat} (h : BoxN w b S sv E) (hg : w.grownBy w' row) (hne : some b ≠ row) : BoxN w' b S sv E := h.block (hg.block b h.cells.2.2.2.2 hne)
theorem BoxN.other {w : World} {b : Nat} {S E : Int} {sv : Value} (h : BoxN w b S sv E) {a : Addr} (hn : b ≠ a.block) (v : Value) : BoxN (w.setCell a v) b S sv E := h.block (Below.heap_setCell w a v b hn)
def i64s (ds : List Nat) : List Value := ds.map (fun d => .int .i64 (d : Nat))
def OtherRow (w : World) (b : Nat) : Prop := ∃ cur t fr, w.heap[b]? = some (.cells cur t fr) ∧ t ≠ 2
theorem OtherRow.apart {w : World} {b g : Nat} (h : OtherRow w b) (h2 : IntRow w g) : g ≠ b := by
 rintro rfl
 obtain ⟨cur, t, fr, h, ht⟩ := h
 obtain ⟨cur', fr', h2⟩ := h2
 rw [h] at h2
 simp at h2
 exact ht h2.2.1
theorem OtherRow.set {w : World} {b : Nat} (h : OtherRow w b) (i : Nat) (v : Value) : OtherRow (w.setCell ⟨b, i, none⟩ v) b := by
 obtain ⟨cur, t, fr, h, ht⟩ := h
 exact ⟨cur.set! i v, t, fr, by simp [World.setCell, Array.getElem?_modify, h], ht⟩
theorem Dig.set {w : World} {v : Value} {S E : Int} {ds : List Nat} {b : Nat} (h : Dig w v S ds E) (ho : OtherRow w b) (i : Nat) (u : Value) : Dig (w.setCell ⟨b, i, none⟩ u) v S ds E := by
 obtain ⟨⟨a, c, hv, hcap, hf⟩, h2, h3, h4, h5⟩ := h
 refine ⟨⟨a, c, hv, hcap, ?_⟩, h2, h3, h4, h5⟩
 rcases hf with hf | ⟨g, off, ha, hf, hr⟩
 · exact Or.inl hf
 · have hne := ho.apart hr
   have hh := Below.heap_setCell w ⟨b, i, none⟩ u g hne
   exact Or.inr ⟨g, off, ha, fun k hk => by rw [World.cell?_of_block (a := ⟨g, off + k, none⟩) hh]; exact hf k hk, hr.block hh⟩
theorem Rf.set {w : World} {v : Value} {q : Rat} {b : Nat} (h : Rf w v q) (ho : OtherRow w b) (i : Nat) (u : Value) : Rf (w.setCell ⟨b, i, none⟩ u) v q := by
 obtain ⟨S, ds, E, h1, h2, h3⟩ := h
 exact ⟨S, ds, E, h1.set ho i u, h2, h3⟩
end

/- The reference's Power. -/
section
open Go.RowKit
theorem snoc_small {ds : List Nat} {d : Nat} (h : ∀ x ∈ ds, x < 16777216) (hd : d < 16777216) : ∀ x ∈ ds ++ [d], x < 16777216 := by
 intro x hx
 rcases List.mem_append.1 hx with hx | hx
 · exact h x hx
 · simp at hx; omega
structure PowD (ds zs : List Nat) (t i c : Nat) : Prop where
 len : zs.length = ds.length
 small : ∀ d ∈ zs, d < 16777216
 rest : ∀ j, i ≤ j → zs.getD j 0 = ds.getD j 0
 val : v24 (zs.take i) + 2 ^ (24 * i) * c = v24 (ds.take i) * 2 ^ t
 carry : c < 2 ^ t
theorem set_take (zs : List Nat) (i d : Nat) : (zs.set i d).take i = zs.take i := by
 apply List.ext_getElem?
 intro j
 simp only [List.getElem?_take, List.getElem?_set]
 split
 · rw [if_neg (by omega)]
 · rfl
theorem PowD.step {ds zs : List Nat} {t i c v : Nat} (h : PowD ds zs t i c) (hi : i < ds.length) (hs : ∀ d ∈ ds, d < 16777216) (hv : v = ds.getD i 0 * 2 ^ t + c) : PowD ds (zs.set i (v % 16777216)) t (i + 1) (v / 16777216) := by
 have hdi : ds.getD i 0 < 16777216 := by
   have e : ds.getD i 0 = ds[i] := by simp [List.getD, hi]
   rw [e]; exact hs _ (List.getElem_mem hi)
 have hi2 : i < zs.length := by rw [h.len]; exact hi
 refine ⟨by simp [h.len], ?_, ?_, ?_, ?_⟩
 · intro d hd
   rcases List.mem_or_eq_of_mem_set hd with hd | rfl
   · exact h.small d hd
   · omega
 · intro j hj
   rw [← h.rest j (by omega)]
   simp only [List.getD, List.getElem?_set]
   rw [if_neg (by omega)]
 · rw [v24_take_succ, v24_take_succ, set_take, p24]
   have e : (zs.set i (v % 16777216)).getD i 0 = v % 16777216 := by simp [List.getD, hi2]
   rw [e]
   have h1 := h.val
   have h2 := Nat.mod_add_div v 16777216
   generalize v % 16777216 = a at *
   generalize v / 16777216 = b at *
   generalize ds.getD i 0 = x at *
   generalize 2 ^ (24 * i) = P at *
   generalize 2 ^ t = R at *
   subst hv
   grind
 · have h1 := h.carry
   have h2 : (ds.getD i 0 + 1) * 2 ^ t ≤ 16777216 * 2 ^ t := Nat.mul_le_mul_right _ hdi
   rw [Nat.add_mul, Nat.one_mul] at h2
   rw [Nat.div_lt_iff_lt_mul (by omega), hv]
   omega
end
end Go.Proofs.YtcgbnjoajieggaaGreat
