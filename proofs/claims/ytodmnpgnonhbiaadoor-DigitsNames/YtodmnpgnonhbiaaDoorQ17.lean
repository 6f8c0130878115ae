/- Own texts, put together: Xb Xc Xd Oa Et Ew Ex Xe Ha Hc Xf Xg Ob Jb. -/
import Derived.Test.YtodmnpgnonhbiaaDoorQ9
import Derived.Test.YtodmnpgnonhbiaaDoorQ10
import Derived.Test.YtodmnpgnonhbiaaDoorQ14
import Derived.Test.YtodmnpgnonhbiaaDoorQ15
import Derived.Test.YtodmnpgnonhbiaaDoorQ16
import Derived.Deep.AppendLies
import Derived.OwnWalk
import Derived.Maps.AppendAt
namespace Go.Proofs.YtodmnpgnonhbiaaDoor
/- Two lists that rise and do not overlap, joined: plain facts. -/
section
structure JInv (N : Nat) (de re df rf outs : List Rat) (Q q : Rat) : Prop where
 sum : Q + q + outs.sum = de.sum + df.sum
 ex : Ex outs
 e1 : Ex (de ++ re)
 e2 : Ex (df ++ rf)
 b1 : ∀ x ∈ de ++ re, F x ∧ ab x < U N
 b2 : ∀ x ∈ df ++ rf, F x ∧ ab x < U N
 b3 : ∀ h ∈ outs, F h ∧ ab h < U N
 low : ∀ h ∈ outs, Lo h Q ∧ Lo h q ∧ (∀ g ∈ re, Lo h g) ∧ (∀ g ∈ rf, Lo h g)
 o1 : ∀ x ∈ de, ∀ y ∈ rf, ab x ≤ ab y
 o2 : ∀ x ∈ df, ∀ y ∈ re, ab x ≤ ab y
 rq : ∃ T k, Rnd (Q + q) Q T k
 fq : F q
theorem Ex.left {a b : List Rat} (h : Ex (a ++ b)) : Ex a := ⟨(List.pairwise_append.1 h.1).1, fun x hx => h.2 x (by simp [hx])⟩
theorem Ex.right {a b : List Rat} (h : Ex (a ++ b)) : Ex b := ⟨(List.pairwise_append.1 h.1).2.1, fun x hx => h.2 x (by simp [hx])⟩
theorem JInv.size {N : Nat} {de re df rf outs : List Rat} {Q q : Rat} (I : JInv N de re df rf outs Q q) : ab (Q + q) < 3 * U N := by
 have h1 := I.e1.left.bound (s := N) (fun x hx => (I.b1 x (by simp [hx])).2)
 have h2 := I.e2.left.bound (s := N) (fun x hx => (I.b2 x (by simp [hx])).2)
 have h3 := I.ex.bound (s := N) (fun x hx => (I.b3 x hx).2)
 have h4 := I.sum
 have := ab_self de.sum
 have := ab_self df.sum
 have := ab_self outs.sum
 rw [ab_lt]; constructor <;> grind
def grownR (l : List Rat) (h : Rat) : List Rat := if h = 0 then l else l ++ [h]
theorem Ex.grow {l : List Rat} {h : Rat} (hl : Ex l) (hh : ∀ x ∈ l, Lo x h) : Ex (grownR l h) := by
 unfold grownR
 split
 · exact hl
 · rename_i h0
   refine ⟨List.pairwise_append.2 ⟨hl.1, by simp, fun x hx y hy => ?_⟩, fun x hx => ?_⟩
   · simp at hy; rw [hy]; exact hh x hx
   · rcases List.mem_append.1 hx with hx | hx
     · exact hl.2 x hx
     · simp at hx; rw [hx]; exact h0
end

/- A list that rises and does not overlap, times a float: plain facts. -/
section
theorem M.mul {u v x y : Rat} (h1 : M u x) (h2 : M v y) : M (u * v) (x * y) := by
 obtain ⟨j, rfl⟩ := h1
 obtain ⟨k, rfl⟩ := h2
 exact ⟨j * k, by rw [Rat.intCast_mul]; grind⟩
theorem lo_many {y : Rat} {l : List Rat} (h : ∀ d ∈ l, Lo d y) (hne : l ≠ []) : ∃ t, (∀ d ∈ l, ab d < U t) ∧ M (U t) y := by
 induction l with
 | nil => exact absurd rfl hne
 | cons d r ih =>
   obtain ⟨s, a, b⟩ := h d (by simp)
   by_cases e : r = []
   · subst e
     exact ⟨s, fun z hz => by simp at hz; rw [hz]; exact a, b⟩
   · obtain ⟨t, c, m⟩ := ih (fun z hz => h z (by simp [hz])) e
     rcases Nat.le_total s t with e | e
     · have := U_mono e
       exact ⟨t, fun z hz => by
         rcases List.mem_cons.1 hz with rfl | hz
         · grind
         · exact c z hz, m⟩
     · have := U_mono e
       exact ⟨s, fun z hz => by
         rcases List.mem_cons.1 hz with rfl | hz
         · exact a
         · have := c z hz; grind, b⟩
end

/- A list that rises and does not overlap, squeezed: plain facts. -/
section
structure ZInv (top : Nat) (S : Rat) (acc : List Rat) (c : Rat) (lo : List Rat) : Prop where
 sum : lo.sum + c + acc.sum = S
 exl : Ex (lo ++ [c])
 exa : Ex acc
 fl : ∀ x ∈ lo, F x
 fc : F c
 fa : ∀ x ∈ acc, F x
 room : ∃ p, ab (c + lo.sum) < U p ∧ ab c ≤ U p ∧ p + 52 * acc.length ≤ top ∧ ∀ o ∈ acc, M (U (p + 1)) o
 near : ∀ L, acc.getLast? = some L → ∃ P, U (P + 52) ≤ ab L ∧ ab (S - L) < U P
theorem ZInv.next {top p : Nat} {S c x : Rat} {acc lo : List Rat} (I : ZInv top S acc c (lo ++ [x])) (h1 : ab (c + (lo ++ [x]).sum) < U p) (h2 : ab c ≤ U p) : ab (c + x) ≤ U p := by
 rw [List.sum_append, List.sum_cons, List.sum_nil, Rat.add_zero] at h1
 have hp := I.exl
 have c0 : c ≠ 0 := hp.2 c (by simp)
 have pw := List.pairwise_append.1 hp.1
 have pw2 := List.pairwise_append.1 pw.1
 by_cases e : lo = []
 · subst e
   rw [List.sum_nil] at h1
   rw [show c + x = c + (0 + x) by grind]
   exact Rat.le_of_lt h1
 · obtain ⟨t, ht, hm⟩ := lo_many (y := c) (l := lo) (fun d hd => pw.2.2 d (by simp [hd]) c (by simp)) e
   obtain ⟨t', ht', hm'⟩ := lo_many (y := x) (l := lo) (fun d hd => pw2.2.2 d hd x (by simp)) e
   obtain ⟨r, hr, m1, m2⟩ : ∃ r, (∀ d ∈ lo, ab d < U r) ∧ M (U r) c ∧ M (U r) x := by
     rcases Nat.le_total t t' with e | e
     · exact ⟨t, ht, hm, hm'.down e⟩
     · exact ⟨t', ht', hm.down e, hm'⟩
   have hb := (Ex.left (b := [x]) ⟨pw.1, fun y hy => hp.2 y (by simp at hy ⊢; grind)⟩).bound hr
   have hrp : r ≤ p := by
     have := m1.ge (U_pos r) c0
     exact U_le_iff.1 (by grind)
   have m3 := m1.add m2
   have mp : M (U r) (U p) := M.down hrp ⟨1, by rw [one_rat]; grind⟩
   have hu := U_pos r
   have hs := ab_lt.1 h1
   have hl := ab_lt.1 hb
   have key : ∀ z : Rat, M (U r) z → z < U p + U r → z ≤ U p := by
     intro z hz hlt
     rcases (Rat.le_total : z ≤ U p ∨ U p ≤ z) with h | h
     · exact h
     · have := M.eq hu hz mp (by grind) (by grind)
       grind
   exact ab_le.2 ⟨key _ m3 (by grind), key _ m3.neg (by grind)⟩
theorem ZInv.tail {top : Nat} {S c x : Rat} {acc lo : List Rat} (I : ZInv top S acc c (lo ++ [x])) : Ex lo ∧ (∀ d ∈ lo, Lo d c ∧ Lo d x) ∧ Lo x c ∧ c ≠ 0 ∧ x ≠ 0 := by
 have hp := I.exl
 have pw := List.pairwise_append.1 hp.1
 have pw2 := List.pairwise_append.1 pw.1
 exact ⟨⟨pw2.1, fun y hy => hp.2 y (by simp [hy])⟩, fun d hd => ⟨pw.2.2 d (by simp [hd]) c (by simp), pw2.2.2 d hd x (by simp)⟩, pw.2.2 x (by simp) c (by simp), hp.2 c (by simp), hp.2 x (by simp)⟩
theorem Ex.snoc {l : List Rat} {x : Rat} (h : Ex l) (h1 : ∀ d ∈ l, Lo d x) (h0 : x ≠ 0) : Ex (l ++ [x]) :=
 ⟨List.pairwise_append.2 ⟨h.1, by simp, fun d hd y hy => by simp at hy; rw [hy]; exact h1 d hd⟩, fun y hy => by
   rcases List.mem_append.1 hy with hy | hy
   · exact h.2 y hy
   · simp at hy; rw [hy]; exact h0⟩
theorem Ex.cons {l : List Rat} {x : Rat} (h : Ex l) (h1 : ∀ d ∈ l, Lo x d) (h0 : x ≠ 0) : Ex (x :: l) :=
 ⟨List.pairwise_cons.2 ⟨h1, h.1⟩, fun y hy => by
   rcases List.mem_cons.1 hy with rfl | hy
   · exact h0
   · exact h.2 y hy⟩
theorem ZInv.take {top : Nat} {S c x : Rat} {acc lo : List Rat} (I : ZInv top S acc c (lo ++ [x])) (fs : F (c + x)) : ZInv top S acc (c + x) lo := by
 obtain ⟨el, hlo, hxc, c0, x0⟩ := I.tail
 obtain ⟨p, r1, r2, r3, r4⟩ := I.room
 have hn := I.next r1 r2
 refine ⟨?_, el.snoc (fun d hd => (hlo d hd).1.add (hlo d hd).2) ?_, I.exa, fun y hy => I.fl y (by simp [hy]), fs, I.fa, ⟨p, ?_, hn, r3, r4⟩, I.near⟩
 · rw [← I.sum, List.sum_append, List.sum_cons, List.sum_nil]; grind
 · intro e
   have := hxc.lt c0
   rw [show c = -x by grind, ab_neg] at this
   grind
 · rw [List.sum_append, List.sum_cons, List.sum_nil] at r1
   rwa [show c + x + lo.sum = c + (lo.sum + (x + 0)) by grind]
theorem M.even {T : Nat} {k : Int} {s : Rat} (h : s = (k : Rat) * U T) (he : k % 2 = 0) : M (U (T + 1)) s := by
 obtain ⟨j, rfl⟩ : ∃ j, k = j * 2 := ⟨k / 2, by omega⟩
 refine ⟨j, ?_⟩
 rw [h, U_succ, Rat.intCast_mul, show ((2 : Int) : Rat) = 2 from rfl]; grind
end

/- Signs that are told fast, and differences as lists: plain facts. -/
section
theorem F_int (n : Int) (h1 : -9007199254740992 ≤ n) (h2 : n ≤ 9007199254740992) : F (n : Rat) :=
 ⟨1074, n, by rw [show U 1074 = 1 from by unfold U; exact p2_zero]; grind, h1, h2⟩
theorem RN.lo {q x y : Rat} (h : RN q x) (e : x + y = q) : Lo y x := by
 obtain ⟨T, k, R⟩ := h
 have hu := U_pos T
 have h1 := R.h1
 have h2 := R.h2
 exact ⟨T, ab_lt.2 ⟨by grind, by grind⟩, R.m⟩
end

/- Sums of tame words: what is rounded off is told exactly. -/
section
end

/- Products of safe words: what is rounded off is told exactly. -/
section
end

/- What Sum, Diff and Prod answer, and what follows of it. -/
section
open Go.RowKit
end

/- The lowest bit of a float, as package expand tells it. -/
section
open Go.RowKit
end

/- How many bits a float has; that two numbers are the same. -/
section
open Go.RowKit
attribute [local go_sem ↓] Go.wp_at_zero Go.wp_at_succ
theorem run_store_float (P : Program) (w : World) (a : Addr) (m : Mode) (k : FloatKind) (b : Nat) : (store a (.float k b) m).run P w = stored P w a (.float k b) m := run_store P w a _ m rfl
theorem Rf.agg {w : World} {v : Value} {q : Rat} (h : Rf w v q) : ∃ S a n c E, v = .agg #[.int .i64 S, .slice a n c, .int .i64 E] := by
 obtain ⟨S, a, n, c, E, h, _⟩ := h.sgn
 exact ⟨S, a, n, c, E, h⟩
end

/- A number and the floats about the one nearest to it: plain facts. Nextafter. -/
section
open Go.RowKit
end

/- Which lists of floats may be, as package expand tells it. -/
section
open Go.RowKit
structure Fs (w : World) (s : Value) (bs : List Nat) : Prop where
 form : ∃ a c, s = .slice a bs.length c ∧ bs.length ≤ c ∧ c ≤ 9223372036854775807 ∧ (bs = [] ∨ ∃ g off, a = some ⟨g, off, none⟩ ∧ ∀ k, k < bs.length → w.cell? ⟨g, off + k, none⟩ = some (.float .f64 (bs.getD k 0)))
 word : ∀ b ∈ bs, b < 18446744073709551616
theorem Fs.later {w w' : World} {s : Value} {bs : List Nat} (h : Fs w s bs) (hb : Below w.heap.size w w') : Fs w' s bs := by
 obtain ⟨⟨a, c, hs, hc, hm, hf⟩, h2⟩ := h
 refine ⟨⟨a, c, hs, hc, hm, ?_⟩, h2⟩
 rcases hf with hf | ⟨g, off, ha, hf⟩
 · exact Or.inl hf
 · exact Or.inr ⟨g, off, ha, fun k hk => box_cell hb (hf k hk)⟩
end

/- Package expand: whether a list may be, its last float, its sign, a list that grows. -/
section
open Go.RowKit
end

/- Which coordinates may be: math.Trunc, grid.stands. -/
section
open Go.RowKit
def trw (b : Nat) : Nat := FloatKind.f64.encode ((FloatKind.f64.decode b).integral .zero)
theorem run_trunc (b : Nat) (h : Fin64 b) (w : World) : (callFunc 52 #[.float .f64 b]).run Tryd.prog w = .ok (.value (.float .f64 (trw b))) w := by
 rw [run_callFunc_extern Tryd.func52 (by kernel_rfl) (by kernel_rfl) (by kernel_rfl) (e := Extern.MathFloor.toIntegral "math.archTrunc" .zero) (by kernel_rfl)]
 have e : FloatKind.f64.decode b = .number (fneg b) (fmag (frung b)) (fpl (frung b)) := read_fin h
 have key : Extern.MathFloor.toIntegral "math.archTrunc" .zero #[.float .f64 b] = pure (.float .f64 (trw b)) := by
   unfold trw
   show (match FloatKind.f64.decode b with | .nan _ _ => _ | d => (pure (Value.float .f64 (FloatKind.f64.encode (d.integral .zero))) : Sem Value)) = _
   rw [e]
 rw [key]
 rfl
theorem M_one {q : Rat} : M 1 q ↔ ∃ k : Int, q = (k : Rat) := by
 constructor
 · rintro ⟨k, e⟩; exact ⟨k, by rw [e]; grind⟩
 · rintro ⟨k, e⟩; exact ⟨k, by rw [e]; grind⟩
theorem cut_shift (s : Bool) (n d : Nat) : Ieee.Toward.zero.cut s n d = n >>> d := by
 unfold Ieee.Toward.cut
 simp only [Bool.toNat_false, Nat.add_zero, Nat.one_shiftLeft, Nat.shiftRight_eq_div_pow]
 rcases Nat.lt_or_ge (n.log2 + 2) d with h | h
 · have h1 : n < 2 ^ (n.log2 + 1) := Nat.lt_log2_self
   have h2 : n < 2 ^ (n.log2 + 2) := Nat.lt_of_lt_of_le h1 (Nat.pow_le_pow_right (by omega) (by omega))
   have h3 : n < 2 ^ d := Nat.lt_of_lt_of_le h1 (Nat.pow_le_pow_right (by omega) (by omega))
   rw [Nat.min_eq_right (by omega), Nat.div_eq_of_lt h2, Nat.div_eq_of_lt h3]
 · rw [Nat.min_eq_left h]
theorem cut_val (m : Nat) (i : Int) (hm : m ≤ 9007199254740992) : ∃ n : Nat, (m <<< i.toNat) >>> (-i).toNat = n ∧ ((n : Nat) : Rat) ≤ (m : Rat) * p2 i ∧ (((n : Nat) : Rat) = (m : Rat) * p2 i ∨ n ≤ 9007199254740992) ∧ ((∃ z : Int, (m : Rat) * p2 i = (z : Rat)) → ((n : Nat) : Rat) = (m : Rat) * p2 i) := by
 rcases Int.le_total 0 i with h | h
 · have e1 : (-i).toNat = 0 := by omega
   have e2 : i = ((i.toNat : Nat) : Int) := by omega
   generalize i.toNat = k at *
   subst e2
   rw [e1]
   have : ((m <<< k >>> 0 : Nat) : Rat) = (m : Rat) * p2 (k : Int) := by
     rw [Nat.shiftRight_zero, Nat.shiftLeft_eq, p2_nat, Rat.natCast_mul]
   exact ⟨_, rfl, by rw [this]; exact Rat.le_refl, Or.inl this, fun _ => this⟩
 · have e1 : i.toNat = 0 := by omega
   have e2 : i = -(((-i).toNat : Nat) : Int) := by omega
   generalize (-i).toNat = k at *
   subst e2
   rw [e1, Nat.shiftLeft_zero, Nat.shiftRight_eq_div_pow]
   have hp := p2_neg (k : Int)
   rw [p2_nat] at hp
   have hpos : (0 : Rat) < p2 (-(k : Int)) := p2_pos _
   refine ⟨_, rfl, ?_, Or.inr ?_, ?_⟩
   · have h1 : ((m / 2 ^ k * 2 ^ k : Nat) : Rat) ≤ (m : Rat) := Rat.natCast_le_natCast.2 (Nat.div_mul_le_self _ _)
     rw [Rat.natCast_mul] at h1
     have h2 := Rat.mul_le_mul_of_nonneg_right h1 (Rat.le_of_lt hpos)
     generalize ((m / 2 ^ k : Nat) : Rat) = n at *
     generalize ((2 ^ k : Nat) : Rat) = t at *
     generalize p2 (-(k : Int)) = p at *
     have : n * t * p = n := by rw [Rat.mul_assoc, Rat.mul_comm t p, hp, Rat.mul_one]
     rw [this] at h2
     exact h2
   · exact Nat.le_trans (Nat.div_le_self _ _) hm
   · rintro ⟨z, hz⟩
     have h3 : (m : Rat) = ((z * (2 ^ k : Nat) : Int) : Rat) := by
       rw [Rat.intCast_mul, ← hz, show (((2 ^ k : Nat) : Int) : Rat) = ((2 ^ k : Nat) : Rat) from rfl]
       generalize ((2 ^ k : Nat) : Rat) = t at *
       generalize p2 (-(k : Int)) = p at *
       rw [Rat.mul_assoc, hp, Rat.mul_one]
     have h4 : (m : Int) = z * (2 ^ k : Nat) := by
       have : ((m : Int) : Rat) = ((z * (2 ^ k : Nat) : Int) : Rat) := h3
       exact Rat.intCast_inj.1 this
     have h5 : (2 ^ k : Nat) ∣ m := by
       have : ((2 ^ k : Nat) : Int) ∣ (m : Int) := ⟨z, by rw [h4, Int.mul_comm]⟩
       exact Int.natCast_dvd_natCast.1 this
     have h6 : ((m / 2 ^ k * 2 ^ k : Nat) : Rat) = (m : Rat) := by rw [Nat.div_mul_cancel h5]
     rw [Rat.natCast_mul] at h6
     generalize ((m / 2 ^ k : Nat) : Rat) = n at *
     generalize ((2 ^ k : Nat) : Rat) = t at *
     generalize p2 (-(k : Int)) = p at *
     rw [← h6, Rat.mul_assoc, Rat.mul_comm t p, hp, Rat.mul_one]
theorem trw_val {b : Nat} (h : Fin64 b) (hq : Lim (fval b)) : Fin64 (trw b) ∧ trw b < 18446744073709551616 ∧ (fval (trw b) = fval b ↔ M 1 (fval b)) := by
 have e : FloatKind.f64.decode b = .number (fneg b) (fmag (frung b)) (fpl (frung b)) := read_fin h
 have hm : fmag (frung b) ≤ 9007199254740992 := Nat.le_of_lt (fmag_lt _)
 obtain ⟨n, hn, h1, h2, h3⟩ := cut_val (fmag (frung b)) (fpl (frung b)) hm
 have hv := fval_eq b
 have et : trw b = Ieee.double.write (.number (fneg b) n 0) := by
   unfold trw
   rw [e]
   show Ieee.double.write (.number (fneg b) (Ieee.Toward.zero.cut (fneg b) (fmag (frung b) <<< (fpl (frung b)).toNat) (-fpl (frung b)).toNat) 0) = _
   rw [cut_shift, hn]
 have hF := fc_word h
 clear hn e
 generalize ((fmag (frung b) : Nat) : Rat) * p2 (fpl (frung b)) = X at *
 have hX : X < p2 1023 := by
   have h4 := hq.1
   have h5 := hq.2
   rw [hv] at h4 h5
   revert h4 h5
   unfold sgn1
   cases fneg b
   · rw [if_neg (by decide)]; grind
   · rw [if_pos rfl]; grind
 have n0 : (0 : Rat) ≤ ((n : Nat) : Rat) := Rat.natCast_nonneg
 obtain ⟨r, er, fr, lr, hr⟩ := write_rv (fneg b) n 0 (by rw [p2_zero, Rat.mul_one]; grind)
 rw [p2_zero, Rat.mul_one] at hr
 have ev : fval r = sgn1 (fneg b) * ((n : Nat) : Rat) := by
   apply hr.rn.exact
   rcases h2 with h2 | h2
   · rw [h2, ← hv]
     obtain ⟨S, m, c⟩ := hF
     exact c.f
   · have : F ((n : Int) : Rat) := F_int n (by omega) (by omega)
     unfold sgn1
     cases fneg b
     · rw [if_neg (by decide), Rat.one_mul]
       exact this
     · rw [if_pos rfl]
       have := this.neg
       rwa [show -((n : Int) : Rat) = -1 * ((n : Nat) : Rat) by show -((n : Nat) : Rat) = _; grind] at this
 rw [et, er]
 refine ⟨fr, lr, ?_⟩
 rw [M_one, ev, hv]
 constructor
 · intro e1
   rw [← e1]
   unfold sgn1
   cases fneg b
   · exact ⟨n, by rw [if_neg (by decide), Rat.one_mul]; rfl⟩
   · exact ⟨-(n : Int), by rw [Rat.intCast_neg, if_pos rfl]; show _ = -((n : Nat) : Rat); grind⟩
 · rintro ⟨k, ek⟩
   rw [h3]
   revert ek
   unfold sgn1
   cases fneg b
   · intro ek
     rw [if_neg (by decide), Rat.one_mul] at ek
     exact ⟨k, ek⟩
   · intro ek
     rw [if_pos rfl] at ek
     exact ⟨-k, by rw [Rat.intCast_neg, ← ek]; grind⟩
theorem trunc_any (b : Nat) (w : World) (h : Fin64 b) : Calls Tryd.prog 38 #[.float .f64 b] w fun e w' => e = .returned (.float .f64 (trw b)) ∧ w' = w := by
 have r1 := run_trunc b h
 clear h
 go_enter Tryd.func38, Tryd.ntmps38
 go_wp2
 go_ret
 exact ⟨rfl, rfl⟩
end

/- Floats by their values: a float is told by its number; what is a float is written exactly; products and conversions that are floats. -/
section
open Go.RowKit
theorem fval_sgn {a : Nat} (ha : Fin64 a) (la : a < 18446744073709551616) : (a = frung a ∧ fval a = fval (frung a)) ∨ (a = 9223372036854775808 + frung a ∧ fval a = -fval (frung a)) := by
 rcases Nat.lt_or_ge a 9223372036854775808 with h | h
 · left
   have e : frung a = a := by unfold frung; omega
   rw [e]; exact ⟨rfl, rfl⟩
 · right
   have e : a = 9223372036854775808 + frung a := by unfold frung; omega
   refine ⟨e, ?_⟩
   have := fval_word (r := frung a) ha
   rw [← this, ← e]
theorem rung_inj {r s : Nat} (hr : r < 9218868437227405312) (hs : s < 9218868437227405312) (h : fval r = fval s) : r = s := by
 rcases Nat.lt_trichotomy r s with a | a | a
 · have := fval_lt a hs; grind
 · exact a
 · have := fval_lt a hr; grind
theorem fval_inj {a b : Nat} (ha : Fin64 a) (hb : Fin64 b) (la : a < 18446744073709551616) (lb : b < 18446744073709551616) (h : fval a = fval b) (h0 : fval a ≠ 0) : a = b := by
 have na := fval_nonneg (r := frung a) ha
 have nb := fval_nonneg (r := frung b) hb
 rcases fval_sgn ha la with ⟨e1, v1⟩ | ⟨e1, v1⟩ <;> rcases fval_sgn hb lb with ⟨e2, v2⟩ | ⟨e2, v2⟩
 · have := rung_inj ha hb (by rw [← v1, ← v2]; exact h)
   omega
 · exfalso; grind
 · exfalso; grind
 · have := rung_inj ha hb (by grind)
   omega
theorem near_finJ {q : Rat} {r : Nat} (h : Near q r) (hq : q < 18014398509481983 * p2 970) : r < 9218868437227405312 := by
 rcases h with ⟨rfl, rfl⟩ | ⟨_, T, k, hl, hh, e⟩
 · omega
 · have hb := kept_bounds hl hh
   have hT : T ≤ 2045 := by
     rcases hl.1 with h | h
     · omega
     · have e1 : ((9007199254740992 : Int) : Rat) * p2 ((T : Int) - 1075) = p2 ((T : Int) - 1022) := by
         rw [show (T : Int) - 1022 = ((T : Int) - 1075) + ((53 : Nat) : Int) by omega, p2_add, p2_nat, Rat.mul_comm]; rfl
       rw [e1] at h
       have e2 : (18014398509481983 : Rat) * p2 970 ≤ p2 1024 := by
         have h1 : p2 1024 = 18014398509481984 * p2 970 := by
           rw [show (1024 : Int) = ((54 : Nat) : Int) + 970 by omega, p2_add, p2_nat]; rfl
         have := p2_pos 970
         rw [h1]
         grind
       have := p2_lt_iff.1 (lt_of_le_lt h (lt_of_lt_le hq e2))
       omega
   rcases Nat.lt_or_ge T 2045 with h | h
   · omega
   · obtain rfl : T = 2045 := by omega
     have s1 := hh.1
     rw [show ((2045 : Nat) : Int) - 1075 = 970 from rfl] at s1
     have s2 : ((2 * (k : Int) - 1 : Int) : Rat) * p2 970 < ((18014398509481983 : Int) : Rat) * p2 970 := lt_of_le_lt s1 hq
     have s3 := int_lt (p2_pos 970) s2
     omega
theorem max_val : fval 9218868437227405311 = 18014398509481982 * p2 970 := by
 rw [(fval_pos_lt (r := 9218868437227405311) (by omega)).1]
 rw [show fmag 9218868437227405311 = 9007199254740991 by decide, show fpl 9218868437227405311 = 1 + 970 by decide, p2_add, p2_one]
 have : ((9007199254740991 : Nat) : Rat) = 9007199254740991 := rfl
 rw [this]; grind
theorem write_exact {s : Bool} {m z : Nat} {place : Int} (hz : Fin64 z) (lz : z < 18446744073709551616) (h : fval z = sgn1 s * ((m : Nat) * p2 place)) (h0 : fval z ≠ 0) : Ieee.double.write (.number s m place) = z := by
 have hm : m ≠ 0 := by
   intro e
   apply h0
   rw [h, e, show ((0 : Nat) : Rat) = 0 from rfl]
   grind
 obtain ⟨r, e, hn⟩ := nearest_near s m place hm
 show Ieee.double.nearest s m place = z
 rw [e]
 have hX0 := (near_nonneg hn).1
 obtain ⟨S, c, hf⟩ := fc_word hz
 have hF := hf.f
 have hmax := fval_le_max (r := frung z) hz
 have hr0 := fval_nonneg (r := frung z) hz
 rw [max_val] at hmax
 have h970 := p2_pos 970
 have hXne : ((m : Nat) : Rat) * p2 place ≠ 0 := by
   intro e; apply h0; rw [h, e]; grind
 have fin : ∀ q : Rat, q = ((m : Nat) : Rat) * p2 place → q = fval (frung z) → F q → r = frung z := by
   intro q e1 e2 hq
   rw [← e1] at hn
   have hb : r < 9218868437227405312 := near_finJ hn (by rw [e2]; grind)
   obtain ⟨T, k, R⟩ := near_rnd hn hb
   have := R.exact hq
   exact rung_inj hb hz (by rw [this, e2])
 generalize hX : ((m : Nat) : Rat) * p2 place = X at *
 rcases fval_sgn hz lz with ⟨ez, ev⟩ | ⟨ez, ev⟩
 · cases s
   · have e2 : X = fval (frung z) := by rw [← ev, h]; simp [sgn1]
     have := fin X rfl e2 (by rw [e2, ← ev]; exact hF)
     rw [word_false]; omega
   · exfalso
     rw [ev] at h
     simp [sgn1] at h
     grind
 · cases s
   · exfalso
     rw [ev] at h
     simp [sgn1] at h
     grind
   · have e2 : X = fval (frung z) := by
       have : -fval (frung z) = -1 * X := by rw [← ev, h]; simp [sgn1]
       grind
     have := fin X rfl e2 (by
       have hn := hF.neg
       rw [ev] at hn
       rw [e2]
       rwa [show - -fval (frung z) = fval (frung z) by grind] at hn)
     rw [Ieee.Format.word, d_sw, if_pos rfl, this]
     exact ez.symm
theorem mul_exact {a b z : Nat} (ha : Fin64 a) (hb : Fin64 b) (hz : Fin64 z) (lz : z < 18446744073709551616) (h : fval z = fval a * fval b) (h0 : fval z ≠ 0) : Ieee.double.mul a b = some z := by
 show ((Ieee.double.read a).product (Ieee.double.read b)).map Ieee.double.write = some z
 rw [read_fin ha, read_fin hb]
 unfold Ieee.Datum.product
 simp only [Option.map_some]
 have e : fval a * fval b = sgn1 (fneg a ^^ fneg b) * (((fmag (frung a) * fmag (frung b) : Nat) : Rat) * p2 (fpl (frung a) + fpl (frung b))) := by
   rw [fval_eq a, fval_eq b, p2_add, Rat.natCast_mul]
   generalize ((fmag (frung a) : Nat) : Rat) = m
   generalize ((fmag (frung b) : Nat) : Rat) = n
   generalize p2 (fpl (frung a)) = u
   generalize p2 (fpl (frung b)) = v
   cases fneg a <;> cases fneg b <;> simp [sgn1] <;> grind
 rw [e] at h
 rw [write_exact hz lz h h0]
theorem toInt_exact {z : Nat} {k : Int} (hz : Fin64 z) (h : fval z = (k : Rat)) : Ieee.Datum.toInt .zero (FloatKind.f64.decode z) = some k := by
 have e : FloatKind.f64.decode z = .number (fneg z) (fmag (frung z)) (fpl (frung z)) := read_fin hz
 rw [e]
 show some (Ieee.signed (fneg z) (Ieee.Toward.zero.cut (fneg z) (fmag (frung z) <<< (fpl (frung z)).toNat) (-fpl (frung z)).toNat) 0) = _
 rw [cut_shift]
 obtain ⟨n, hn, _, _, h3⟩ := cut_val (fmag (frung z)) (fpl (frung z)) (Nat.le_of_lt (fmag_lt _))
 rw [hn]
 have hv := fval_eq z
 generalize ((fmag (frung z) : Nat) : Rat) * p2 (fpl (frung z)) = X at *
 rw [hv] at h
 congr 1
 unfold Ieee.signed
 rw [Nat.shiftLeft_zero]
 revert h
 unfold sgn1
 cases fneg z
 · rw [if_neg (by decide), if_neg (by decide), Rat.one_mul]
   intro h
   have := h3 ⟨k, h⟩
   rw [h] at this
   exact Rat.intCast_inj.1 (show ((n : Int) : Rat) = (k : Rat) from this)
 · rw [if_pos rfl, if_pos rfl]
   intro h
   have hX : X = ((-k : Int) : Rat) := by rw [Rat.intCast_neg]; grind
   have := h3 ⟨-k, hX⟩
   rw [hX] at this
   have t := Rat.intCast_inj.1 (show ((n : Int) : Rat) = ((-k : Int) : Rat) from this)
   omega
theorem conv_int {z : Nat} {k : Int} (hz : Fin64 z) (h : fval z = (k : Rat)) (h1 : -9223372036854775808 ≤ k) (h2 : k ≤ 9223372036854775807) : floatToIntVal .f64 z .i64 = some k := by
 unfold floatToIntVal
 rw [toInt_exact hz h]
 have h3 : IntKind.i64.min = -9223372036854775808 := by decide
 have h4 : IntKind.i64.max = 9223372036854775807 := by decide
 simp only [h3, h4]
 rw [if_pos ⟨h1, h2⟩]
def fwJ (n : Int) : Nat := floatOfInt .f64 n
theorem fwJ_val {n : Int} (h1 : -9007199254740992 ≤ n) (h2 : n ≤ 9007199254740992) : Fin64 (fwJ n) ∧ fwJ n < 18446744073709551616 ∧ fval (fwJ n) = (n : Rat) := by
 have hq : ((n.natAbs : Nat) : Rat) * p2 0 < p2 1023 := by
   rw [p2_zero, Rat.mul_one]
   have a : ((n.natAbs : Nat) : Rat) ≤ ((9007199254740992 : Nat) : Rat) := Rat.natCast_le_natCast.2 (by omega)
   have b : ((9007199254740992 : Nat) : Rat) = p2 53 := by rw [show (53 : Int) = ((53 : Nat) : Int) from rfl, p2_nat]
   have c : p2 53 < p2 1023 := p2_lt (by omega)
   rw [b] at a
   grind
 obtain ⟨r, er, fr, lr, hr⟩ := write_rv (decide (n < 0)) n.natAbs 0 hq
 have e : fwJ n = r := er
 have hv : sgn1 (decide (n < 0)) * (((n.natAbs : Nat) : Rat) * p2 0) = (n : Rat) := by
   rw [p2_zero, Rat.mul_one]
   unfold sgn1
   by_cases h : n < 0
   · rw [decide_eq_true h, if_pos rfl]
     have : ((n.natAbs : Nat) : Rat) = ((-n : Int) : Rat) := by
       rw [show ((n.natAbs : Nat) : Rat) = ((n.natAbs : Int) : Rat) from rfl, show (n.natAbs : Int) = -n by omega]
     rw [this, Rat.intCast_neg]; grind
   · rw [decide_eq_false h, if_neg (by decide), Rat.one_mul]
     rw [show ((n.natAbs : Nat) : Rat) = ((n.natAbs : Int) : Rat) from rfl, show (n.natAbs : Int) = n by omega]
 rw [hv] at hr
 rw [e]
 exact ⟨fr, lr, hr.rn.exact (F_int n h1 h2)⟩
theorem trw_full {b : Nat} (h : Fin64 b) (lb : b < 18446744073709551616) : Fin64 (trw b) ∧ trw b < 18446744073709551616 ∧ (fval (trw b) = fval b ↔ M 1 (fval b)) := by
 by_cases hq : Lim (fval b)
 · exact trw_val h hq
 · have hv := fval_eq b
   have hp : 0 ≤ fpl (frung b) := by
     apply Classical.byContradiction
     intro hp
     apply hq
     have hm : ((fmag (frung b) : Nat) : Rat) < p2 53 := by
       rw [show (53 : Int) = ((53 : Nat) : Int) from rfl, p2_nat]
       exact Rat.natCast_lt_natCast.2 (fmag_lt _)
     have hu : p2 (fpl (frung b)) ≤ 1 := by rw [← p2_zero]; exact p2_mono (by omega)
     have hu0 := p2_pos (fpl (frung b))
     have hm0 : (0 : Rat) ≤ ((fmag (frung b) : Nat) : Rat) := Rat.natCast_nonneg
     have hX : ((fmag (frung b) : Nat) : Rat) * p2 (fpl (frung b)) < p2 1023 := by
       have a := Rat.mul_le_mul_of_nonneg_left hu hm0
       rw [Rat.mul_one] at a
       have c : p2 53 < p2 1023 := p2_lt (by omega)
       grind
     have hX0 : 0 ≤ ((fmag (frung b) : Nat) : Rat) * p2 (fpl (frung b)) := Rat.mul_nonneg hm0 (Rat.le_of_lt hu0)
     rw [hv]
     generalize ((fmag (frung b) : Nat) : Rat) * p2 (fpl (frung b)) = X at *
     unfold Lim sgn1
     cases fneg b
     · rw [if_neg (by decide)]; constructor <;> grind
     · rw [if_pos rfl]; constructor <;> grind
   obtain ⟨k, hk⟩ : ∃ k : Nat, fpl (frung b) = (k : Int) := ⟨(fpl (frung b)).toNat, by omega⟩
   have hb0 : fval b ≠ 0 := by
     intro e
     apply hq
     rw [e]
     exact ⟨p2_pos _, by have := p2_pos 1023; grind⟩
   have et : trw b = b := by
     unfold trw
     rw [show FloatKind.f64.decode b = .number (fneg b) (fmag (frung b)) (fpl (frung b)) from read_fin h]
     show Ieee.double.write (.number (fneg b) (Ieee.Toward.zero.cut (fneg b) (fmag (frung b) <<< (fpl (frung b)).toNat) (-fpl (frung b)).toNat) 0) = _
     rw [cut_shift, hk, show (-(k : Int)).toNat = 0 by omega, Int.toNat_natCast, Nat.shiftRight_zero, Nat.shiftLeft_eq]
     refine write_exact h lb ?_ hb0
     rw [hv, hk, p2_zero, Rat.mul_one, nat_mul_p2]
   rw [et]
   refine ⟨h, lb, iff_of_true rfl ?_⟩
   rw [M_one, hv, hk, p2_nat]
   unfold sgn1
   cases fneg b
   · exact ⟨((fmag (frung b) * 2 ^ k : Nat) : Int), by rw [if_neg (by decide), Rat.one_mul, ← Rat.natCast_mul]; rfl⟩
   · exact ⟨-((fmag (frung b) * 2 ^ k : Nat) : Int), by rw [if_pos rfl, Rat.intCast_neg, ← Rat.natCast_mul]; show -1 * (((fmag (frung b) * 2 ^ k : Nat) : Int) : Rat) = _; grind⟩
end
end Go.Proofs.YtodmnpgnonhbiaaDoor
