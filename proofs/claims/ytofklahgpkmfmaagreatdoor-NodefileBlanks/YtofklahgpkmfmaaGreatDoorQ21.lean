/- Own texts, put together: Xd Oa Xe Xf Xg Ob Xh Xi Xj. -/
import Derived.Test.YtofklahgpkmfmaaGreatDoorQ17
import Derived.Test.YtofklahgpkmfmaaGreatDoorQ18
import Derived.Test.YtofklahgpkmfmaaGreatDoorQ19
import Derived.Deep.AppendLies
import Derived.OwnWalk
import Derived.Maps.AppendAt
namespace Go.Proofs.YtofklahgpkmfmaaGreatDoor
/- A list that rises and does not overlap, squeezed: plain facts. -/
section
def RndE (q x : Rat) (T : Nat) (k : Int) : Prop := Rnd q x T k ∧ (2 * ab (q - x) = U T → k % 2 = 0)
structure ZInv (top : Nat) (S : Rat) (acc : List Rat) (c : Rat) (lo : List Rat) : Prop where
 sum : lo.sum + c + acc.sum = S
 exl : Ex (lo ++ [c])
 exa : Ex acc
 fl : ∀ x ∈ lo, F x
 fc : F c
 fa : ∀ x ∈ acc, F x
 room : ∃ p, ab (c + lo.sum) < U p ∧ ab c ≤ U p ∧ p + 52 * acc.length ≤ top ∧ ∀ o ∈ acc, M (U (p + 1)) o
 near : ∀ L, acc.getLast? = some L → ∃ P, U (P + 52) ≤ ab L ∧ ab (S - L) < U P
theorem U_two (T : Nat) (h : T ≠ 0) : U T = 2 * U (T - 1) := by
 have := U_succ (T - 1)
 rwa [show T - 1 + 1 = T by omega] at this
theorem U_52 (T : Nat) : U (T + 52) = 4503599627370496 * U T := by
 rw [U_add]
 have e : ((2 ^ 52 : Nat) : Rat) = 4503599627370496 := by decide +kernel
 rw [e]
theorem ZInv.next {top p : Nat} {S c x : Rat} {acc lo : List Rat} (I : ZInv top S acc c (lo ++ [x])) (h1 : ab (c + (lo ++ [x]).sum) < U p) (h2 : ab c ≤ U p) : ab (c + x) ≤ U p := by
 rw [List.sum_append, List.sum_cons, List.sum_nil, Rat.add_zero] at h1
 have hp := I.exl
 have c0 : c ≠ 0 := hp.2 c (by simp)
 have pw := List.pairwise_append.1 hp.1
 have pw2 := List.pairwise_append.1 pw.1
 by_cases e : lo = []
 · subst e
   rw [List.sum_nil] at h1
   rw [show c + x = c + (0 + x) by grind]
   exact Rat.le_of_lt h1
 · obtain ⟨t, ht, hm⟩ := lo_many (y := c) (l := lo) (fun d hd => pw.2.2 d (by simp [hd]) c (by simp)) e
   obtain ⟨t', ht', hm'⟩ := lo_many (y := x) (l := lo) (fun d hd => pw2.2.2 d hd x (by simp)) e
   obtain ⟨r, hr, m1, m2⟩ : ∃ r, (∀ d ∈ lo, ab d < U r) ∧ M (U r) c ∧ M (U r) x := by
     rcases Nat.le_total t t' with e | e
     · exact ⟨t, ht, hm, hm'.down e⟩
     · exact ⟨t', ht', hm.down e, hm'⟩
   have hb := (Ex.left (b := [x]) ⟨pw.1, fun y hy => hp.2 y (by simp at hy ⊢; grind)⟩).bound hr
   have hrp : r ≤ p := by
     have := m1.ge (U_pos r) c0
     exact U_le_iff.1 (by grind)
   have m3 := m1.add m2
   have mp : M (U r) (U p) := M.down hrp ⟨1, by rw [one_rat]; grind⟩
   have hu := U_pos r
   have hs := ab_lt.1 h1
   have hl := ab_lt.1 hb
   have key : ∀ z : Rat, M (U r) z → z < U p + U r → z ≤ U p := by
     intro z hz hlt
     rcases (Rat.le_total : z ≤ U p ∨ U p ≤ z) with h | h
     · exact h
     · have := M.eq hu hz mp (by grind) (by grind)
       grind
   exact ab_le.2 ⟨key _ m3 (by grind), key _ m3.neg (by grind)⟩
theorem ZInv.tail {top : Nat} {S c x : Rat} {acc lo : List Rat} (I : ZInv top S acc c (lo ++ [x])) : Ex lo ∧ (∀ d ∈ lo, Lo d c ∧ Lo d x) ∧ Lo x c ∧ c ≠ 0 ∧ x ≠ 0 := by
 have hp := I.exl
 have pw := List.pairwise_append.1 hp.1
 have pw2 := List.pairwise_append.1 pw.1
 exact ⟨⟨pw2.1, fun y hy => hp.2 y (by simp [hy])⟩, fun d hd => ⟨pw.2.2 d (by simp [hd]) c (by simp), pw2.2.2 d hd x (by simp)⟩, pw.2.2 x (by simp) c (by simp), hp.2 c (by simp), hp.2 x (by simp)⟩
theorem Ex.snoc {l : List Rat} {x : Rat} (h : Ex l) (h1 : ∀ d ∈ l, Lo d x) (h0 : x ≠ 0) : Ex (l ++ [x]) :=
 ⟨List.pairwise_append.2 ⟨h.1, by simp, fun d hd y hy => by simp at hy; rw [hy]; exact h1 d hd⟩, fun y hy => by
   rcases List.mem_append.1 hy with hy | hy
   · exact h.2 y hy
   · simp at hy; rw [hy]; exact h0⟩
theorem Ex.cons {l : List Rat} {x : Rat} (h : Ex l) (h1 : ∀ d ∈ l, Lo x d) (h0 : x ≠ 0) : Ex (x :: l) :=
 ⟨List.pairwise_cons.2 ⟨h1, h.1⟩, fun y hy => by
   rcases List.mem_cons.1 hy with rfl | hy
   · exact h0
   · exact h.2 y hy⟩
theorem Rnd.le_pow' {q x : Rat} {T p : Nat} {k : Int} (R : Rnd q x T k) (h : ab q ≤ U p) : ab x ≤ U p := by
 by_cases e : ab q = U p
 · have hf : F q := by
     unfold ab at e
     split at e
     · exact ⟨p, -1, by rw [show ((-1 : Int) : Rat) = -1 from rfl]; grind, by omega, by omega⟩
     · exact ⟨p, 1, by rw [one_rat]; grind, by omega, by omega⟩
   rw [R.exact hf]; exact h
 · exact R.le_pow (by grind)
theorem ZInv.take {top : Nat} {S c x : Rat} {acc lo : List Rat} (I : ZInv top S acc c (lo ++ [x])) (fs : F (c + x)) : ZInv top S acc (c + x) lo := by
 obtain ⟨el, hlo, hxc, c0, x0⟩ := I.tail
 obtain ⟨p, r1, r2, r3, r4⟩ := I.room
 have hn := I.next r1 r2
 refine ⟨?_, el.snoc (fun d hd => (hlo d hd).1.add (hlo d hd).2) ?_, I.exa, fun y hy => I.fl y (by simp [hy]), fs, I.fa, ⟨p, ?_, hn, r3, r4⟩, I.near⟩
 · rw [← I.sum, List.sum_append, List.sum_cons, List.sum_nil]; grind
 · intro e
   have := hxc.lt c0
   rw [show c = -x by grind, ab_neg] at this
   grind
 · rw [List.sum_append, List.sum_cons, List.sum_nil] at r1
   rwa [show c + x + lo.sum = c + (lo.sum + (x + 0)) by grind]
theorem M.even {T : Nat} {k : Int} {s : Rat} (h : s = (k : Rat) * U T) (he : k % 2 = 0) : M (U (T + 1)) s := by
 obtain ⟨j, rfl⟩ : ∃ j, k = j * 2 := ⟨k / 2, by omega⟩
 refine ⟨j, ?_⟩
 rw [h, U_succ, Rat.intCast_mul, show ((2 : Int) : Rat) = 2 from rfl]; grind
theorem ZInv.emit {top : Nat} {S c x s r : Rat} {acc lo : List Rat} {T : Nat} {k : Int} (I : ZInv top S acc c (lo ++ [x])) (R : RndE (c + x) s T k) (hr : s + r = c + x) (fr : F r) (r0 : r ≠ 0) : ZInv top S (s :: acc) r lo := by
 obtain ⟨el, hlo, hxc, c0, x0⟩ := I.tail
 obtain ⟨p, r1, r2, r3, r4⟩ := I.room
 have hn := I.next r1 r2
 obtain ⟨R, hev⟩ := R
 have fx := I.fl x (by simp)
 have hT : T ≠ 0 := by
   intro e
   subst e
   have := R.mult ((F.mult0 I.fc).add (F.mult0 fx))
   exact r0 (by grind)
 have hhalf := R.half
 rw [show c + x - s = r by grind] at hev hhalf
 have hu := U_pos T
 have e2 := U_two T hT
 have e52 := U_52 T
 have hbig : U (T + 52) ≤ ab (c + x) := by
   rw [le_ab, e52]
   rcases R.h3 with h | h | h
   · exact absurd h hT
   · exact Or.inl h
   · exact Or.inr h
 have hTp : T + 52 ≤ p := U_le_iff.1 (by grind)
 have hs : U (T + 52) ≤ ab s := by
   have m52 : M (U T) (U (T + 52)) := M.down (show T ≤ T + 52 by omega) ⟨1, by rw [one_rat]; grind⟩
   have key : ∀ z : Rat, M (U T) z → U (T + 52) < z + U T → U (T + 52) ≤ z := by
     intro z hz hlt
     rcases (Rat.le_total : U (T + 52) ≤ z ∨ z ≤ U (T + 52)) with h | h
     · exact h
     · have := M.eq hu hz m52 (by grind) (by grind)
       grind
   have h1 := R.h1
   have h2 := R.h2
   rw [le_ab]
   rcases le_ab.1 hbig with h | h
   · exact Or.inl (key s R.m (by grind))
   · exact Or.inr (key (-s) R.m.neg (by grind))
 have s0 : s ≠ 0 := by
   intro e
   rw [e] at hs
   have := U_pos (T + 52)
   have : ab 0 ≤ 0 := ab_le.2 ⟨by grind, by grind⟩
   grind
 have hsp : ab s ≤ U p := R.le_pow' hn
 have hlor : ∀ d ∈ lo, Lo d r := fun d hd => by
   have a := (hlo d hd).1.add (hlo d hd).2
   have b := a.sub (a.rnd R)
   rwa [show c + x - s = r by grind] at b
 have hlt : ab s < U (p + 1) := by
   have := U_succ p
   have := U_pos p
   grind
 have exa' : Ex (s :: acc) := I.exa.cons (fun o ho => ⟨p + 1, hlt, r4 o ho⟩) s0
 -- what is left below
 have hroom : ∃ p', ab (r + lo.sum) < U p' ∧ ab r ≤ U p' ∧ p' + 52 ≤ p ∧ U (p' + 52) ≤ ab s ∧ M (U (p' + 1)) s := by
   by_cases tie : 2 * ab r = U T
   · have hm := M.even R.hx (hev tie)
     refine ⟨T, ?_, by have := ab_nonneg r; grind, hTp, hs, hm⟩
     by_cases e : lo = []
     · subst e
       rw [List.sum_nil, Rat.add_zero]; grind
     · obtain ⟨t, ht, hm⟩ := lo_many hlor e
       have a1 := el.bound ht
       have a2 := hm.ge (U_pos t) r0
       have a3 := ab_add r lo.sum
       grind
   · have hlt2 : ab r < U (T - 1) := by grind
     have hm : M (U (T - 1 + 1)) s := by rw [show T - 1 + 1 = T by omega]; exact R.m
     refine ⟨T - 1, ?_, Rat.le_of_lt hlt2, by omega, by have := U_mono (show T - 1 + 52 ≤ T + 52 by omega); grind, hm⟩
     by_cases e : lo = []
     · subst e
       rw [List.sum_nil, Rat.add_zero]; exact hlt2
     · obtain ⟨t, ht, hm⟩ := lo_many hlor e
       have a1 := el.bound ht
       have a2 := hm.ge (U_pos t) r0
       have htT : t ≤ T - 1 := U_le_iff.1 (by grind)
       have a3 := hm.room htT hlt2
       have a4 := ab_add r lo.sum
       grind
 obtain ⟨p', q1, q2, q3, q4, q5⟩ := hroom
 refine ⟨?_, el.snoc hlor r0, exa', fun y hy => I.fl y (by simp [hy]), fr, ?_, ⟨p', q1, q2, ?_, ?_⟩, ?_⟩
 · rw [← I.sum]
   simp only [List.sum_append, List.sum_cons, List.sum_nil]; grind
 · intro y hy
   rcases List.mem_cons.1 hy with rfl | hy
   · exact R.f
   · exact I.fa y hy
 · rw [List.length_cons]; omega
 · intro o ho
   rcases List.mem_cons.1 ho with rfl | ho
   · exact q5
   · exact (r4 o ho).down (by omega)
 · intro L hL
   by_cases e : acc = []
   · subst e
     simp at hL
     subst hL
     have hS := I.sum
     rw [List.sum_append, List.sum_cons, List.sum_nil] at hS
     exact ⟨p', q4, by rw [show S - s = r + lo.sum by grind]; exact q1⟩
   · refine I.near L ?_
     rw [List.getLast?_cons_of_ne_nil e] at hL
     exact hL
theorem ZInv.done {top : Nat} {S c : Rat} {acc : List Rat} (I : ZInv top S acc c []) : Ex (c :: acc) ∧ (c :: acc).sum = S ∧ (∀ x ∈ c :: acc, F x) ∧ 52 * (c :: acc).length ≤ top + 52 := by
 obtain ⟨p, r1, r2, r3, r4⟩ := I.room
 have c0 : c ≠ 0 := I.exl.2 c (by simp)
 have hlt : ab c < U (p + 1) := by
   have := U_succ p
   have := U_pos p
   grind
 refine ⟨I.exa.cons (fun o ho => ⟨p + 1, hlt, r4 o ho⟩) c0, ?_, ?_, ?_⟩
 · have := I.sum
   rw [List.sum_nil] at this
   rw [List.sum_cons]; grind
 · intro y hy
   rcases List.mem_cons.1 hy with rfl | hy
   · exact I.fc
   · exact I.fa y hy
 · rw [List.length_cons]; omega
theorem ZInv.lead {top : Nat} {S c L : Rat} {acc : List Rat} (I : ZInv top S acc c []) (hL : (c :: acc).getLast? = some L) : 1125899906842624 * ab (L - S) ≤ ab S ∧ ((0 < L ∧ 0 < S) ∨ (L < 0 ∧ S < 0)) := by
 have c0 : c ≠ 0 := I.exl.2 c (by simp)
 by_cases e : acc = []
 · subst e
   simp at hL
   subst hL
   have hS := I.sum
   simp only [List.sum_nil] at hS
   have : S = c := by grind
   subst this
   have : ab (S - S) ≤ 0 := ab_le.2 ⟨by grind, by grind⟩
   have := ab_nonneg S
   exact ⟨by grind, by grind⟩
 · rw [List.getLast?_cons_of_ne_nil e] at hL
   obtain ⟨P, h1, h2⟩ := I.near L hL
   rw [U_52] at h1
   have := U_pos P
   have := ab_lt.1 h2
   have h3 : ab (L - S) < U P := by rw [show L - S = -(S - L) by grind, ab_neg]; exact h2
   rcases le_ab.1 h1 with h | h
   · have h4 : 4503599627370495 * U P ≤ ab S := by rw [le_ab]; left; grind
     exact ⟨by grind, Or.inl ⟨by grind, by grind⟩⟩
   · have h4 : 4503599627370495 * U P ≤ ab S := by rw [le_ab]; right; grind
     exact ⟨by grind, Or.inr ⟨by grind, by grind⟩⟩
end

/- Signs that are told fast, and differences as lists: plain facts. -/
section
theorem RN.rel {q x : Rat} {t : Nat} (h : RN q x) (hm : M (U t) q) : 9007199254740992 * ab (q - x) ≤ ab x := by
 obtain ⟨T, k, R⟩ := h
 rcases Nat.lt_or_ge t T with ht | ht
 · have hu := U_pos T
   have h1 := R.h1
   have h2 := R.h2
   have hx := R.hx
   have hd : 2 * ab (q - x) ≤ U T := by
     have : ab (q - x) ≤ U T / 2 := ab_le.2 ⟨by grind, by grind⟩
     grind
   have hk : 4503599627370496 * U T ≤ ab x := by
     rcases R.h3 with h | h | h
     · omega
     · have : (4503599627370495 : Int) < k := by
         apply cast_lt hu
         rw [← hx, show ((4503599627370495 : Int) : Rat) = 4503599627370495 from rfl]
         grind
       have h3 : (4503599627370496 : Int) ≤ k := by omega
       have h4 : ((4503599627370496 : Int) : Rat) * U T ≤ (k : Rat) * U T := Rat.mul_le_mul_of_nonneg_right (Rat.intCast_le_intCast.2 h3) (Rat.le_of_lt hu)
       rw [← hx, show ((4503599627370496 : Int) : Rat) = 4503599627370496 from rfl] at h4
       exact le_ab.2 (Or.inl h4)
     · have : k < (-4503599627370495 : Int) := by
         apply cast_lt hu
         rw [← hx, show ((-4503599627370495 : Int) : Rat) = -4503599627370495 from rfl]
         grind
       have h3 : k ≤ (-4503599627370496 : Int) := by omega
       have h4 : (k : Rat) * U T ≤ ((-4503599627370496 : Int) : Rat) * U T := Rat.mul_le_mul_of_nonneg_right (Rat.intCast_le_intCast.2 h3) (Rat.le_of_lt hu)
       rw [← hx, show ((-4503599627370496 : Int) : Rat) = -4503599627370496 from rfl] at h4
       exact le_ab.2 (Or.inr (by grind))
   grind
 · have e := R.mult (hm.down ht)
   subst e
   rw [show x - x = 0 by grind, show ab 0 = 0 by unfold ab; grind]
   have := ab_nonneg x
   grind
theorem F_int (n : Int) (h1 : -9007199254740992 ≤ n) (h2 : n ≤ 9007199254740992) : F (n : Rat) :=
 ⟨1074, n, by rw [show U 1074 = 1 from by unfold U; exact p2_zero]; grind, h1, h2⟩
theorem RN.lo {q x y : Rat} (h : RN q x) (e : x + y = q) : Lo y x := by
 obtain ⟨T, k, R⟩ := h
 have hu := U_pos T
 have h1 := R.h1
 have h2 := R.h2
 exact ⟨T, ab_lt.2 ⟨by grind, by grind⟩, R.m⟩
end

/- The lowest bit of a float, as package expand tells it. -/
section
open Go.RowKit
end

/- Which lists of floats may be, as package expand tells it. -/
section
open Go.RowKit
structure Fs (w : World) (s : Value) (bs : List Nat) : Prop where
 form : ∃ a c, s = .slice a bs.length c ∧ bs.length ≤ c ∧ c ≤ 9223372036854775807 ∧ (bs = [] ∨ ∃ g off, a = some ⟨g, off, none⟩ ∧ ∀ k, k < bs.length → w.cell? ⟨g, off + k, none⟩ = some (.float .f64 (bs.getD k 0)))
 word : ∀ b ∈ bs, b < 18446744073709551616
theorem Fs.later {w w' : World} {s : Value} {bs : List Nat} (h : Fs w s bs) (hb : Below w.heap.size w w') : Fs w' s bs := by
 obtain ⟨⟨a, c, hs, hc, hm, hf⟩, h2⟩ := h
 refine ⟨⟨a, c, hs, hc, hm, ?_⟩, h2⟩
 rcases hf with hf | ⟨g, off, ha, hf⟩
 · exact Or.inl hf
 · exact Or.inr ⟨g, off, ha, fun k hk => box_cell hb (hf k hk)⟩
def MayAt (lo hi : Nat) (bs : List Nat) (i : Nat) : Prop := lo ≤ frung (bs.getD i 0) ∧ frung (bs.getD i 0) ≤ hi ∧ frung (bs.getD i 0) ≠ 0 ∧ (0 < i → Lo (fval (bs.getD (i - 1) 0)) (fval (bs.getD i 0)))
def MayP (lo hi : Nat) (bs : List Nat) : Prop := bs.length ≤ 64 ∧ ∀ i, i < bs.length → MayAt lo hi bs i
theorem ab_fval (b : Nat) (h : Fin64 b) : fval (frung b) = ab (fval b) := by
 have h1 := fval_nonneg (r := frung b) h
 unfold ab
 rcases fval_abs b with e | e <;> rw [e] <;> split <;> grind
end

/- Package expand: whether a list may be, its last float, its sign, a list that grows. -/
section
open Go.RowKit
def lastW (bs : List Nat) : Nat := bs.getD (bs.length - 1) 0
end

/- Which coordinates may be: math.Trunc, grid.stands. -/
section
open Go.RowKit
def trw (b : Nat) : Nat := FloatKind.f64.encode ((FloatKind.f64.decode b).integral .zero)
theorem run_trunc (b : Nat) (h : Fin64 b) (w : World) : (callFunc 135 #[.float .f64 b]).run Tryz.prog w = .ok (.value (.float .f64 (trw b))) w := by
 rw [run_callFunc_extern Tryz.func135 (by kernel_rfl) (by kernel_rfl) (by kernel_rfl) (e := Extern.MathFloor.toIntegral "math.archTrunc" .zero) (by kernel_rfl)]
 have e : FloatKind.f64.decode b = .number (fneg b) (fmag (frung b)) (fpl (frung b)) := read_fin h
 have key : Extern.MathFloor.toIntegral "math.archTrunc" .zero #[.float .f64 b] = pure (.float .f64 (trw b)) := by
   unfold trw
   show (match FloatKind.f64.decode b with | .nan _ _ => _ | d => (pure (Value.float .f64 (FloatKind.f64.encode (d.integral .zero))) : Sem Value)) = _
   rw [e]
 rw [key]
 rfl
theorem M_one {q : Rat} : M 1 q ↔ ∃ k : Int, q = (k : Rat) := by
 constructor
 · rintro ⟨k, e⟩; exact ⟨k, by rw [e]; grind⟩
 · rintro ⟨k, e⟩; exact ⟨k, by rw [e]; grind⟩
theorem cut_shift (s : Bool) (n d : Nat) : Ieee.Toward.zero.cut s n d = n >>> d := by
 unfold Ieee.Toward.cut
 simp only [Bool.toNat_false, Nat.add_zero, Nat.one_shiftLeft, Nat.shiftRight_eq_div_pow]
 rcases Nat.lt_or_ge (n.log2 + 2) d with h | h
 · have h1 : n < 2 ^ (n.log2 + 1) := Nat.lt_log2_self
   have h2 : n < 2 ^ (n.log2 + 2) := Nat.lt_of_lt_of_le h1 (Nat.pow_le_pow_right (by omega) (by omega))
   have h3 : n < 2 ^ d := Nat.lt_of_lt_of_le h1 (Nat.pow_le_pow_right (by omega) (by omega))
   rw [Nat.min_eq_right (by omega), Nat.div_eq_of_lt h2, Nat.div_eq_of_lt h3]
 · rw [Nat.min_eq_left h]
theorem cut_val (m : Nat) (i : Int) (hm : m ≤ 9007199254740992) : ∃ n : Nat, (m <<< i.toNat) >>> (-i).toNat = n ∧ ((n : Nat) : Rat) ≤ (m : Rat) * p2 i ∧ (((n : Nat) : Rat) = (m : Rat) * p2 i ∨ n ≤ 9007199254740992) ∧ ((∃ z : Int, (m : Rat) * p2 i = (z : Rat)) → ((n : Nat) : Rat) = (m : Rat) * p2 i) := by
 rcases Int.le_total 0 i with h | h
 · have e1 : (-i).toNat = 0 := by omega
   have e2 : i = ((i.toNat : Nat) : Int) := by omega
   generalize i.toNat = k at *
   subst e2
   rw [e1]
   have : ((m <<< k >>> 0 : Nat) : Rat) = (m : Rat) * p2 (k : Int) := by
     rw [Nat.shiftRight_zero, Nat.shiftLeft_eq, p2_nat, Rat.natCast_mul]
   exact ⟨_, rfl, by rw [this]; exact Rat.le_refl, Or.inl this, fun _ => this⟩
 · have e1 : i.toNat = 0 := by omega
   have e2 : i = -(((-i).toNat : Nat) : Int) := by omega
   generalize (-i).toNat = k at *
   subst e2
   rw [e1, Nat.shiftLeft_zero, Nat.shiftRight_eq_div_pow]
   have hp := p2_neg (k : Int)
   rw [p2_nat] at hp
   have hpos : (0 : Rat) < p2 (-(k : Int)) := p2_pos _
   refine ⟨_, rfl, ?_, Or.inr ?_, ?_⟩
   · have h1 : ((m / 2 ^ k * 2 ^ k : Nat) : Rat) ≤ (m : Rat) := Rat.natCast_le_natCast.2 (Nat.div_mul_le_self _ _)
     rw [Rat.natCast_mul] at h1
     have h2 := Rat.mul_le_mul_of_nonneg_right h1 (Rat.le_of_lt hpos)
     generalize ((m / 2 ^ k : Nat) : Rat) = n at *
     generalize ((2 ^ k : Nat) : Rat) = t at *
     generalize p2 (-(k : Int)) = p at *
     have : n * t * p = n := by rw [Rat.mul_assoc, Rat.mul_comm t p, hp, Rat.mul_one]
     rw [this] at h2
     exact h2
   · exact Nat.le_trans (Nat.div_le_self _ _) hm
   · rintro ⟨z, hz⟩
     have h3 : (m : Rat) = ((z * (2 ^ k : Nat) : Int) : Rat) := by
       rw [Rat.intCast_mul, ← hz, show (((2 ^ k : Nat) : Int) : Rat) = ((2 ^ k : Nat) : Rat) from rfl]
       generalize ((2 ^ k : Nat) : Rat) = t at *
       generalize p2 (-(k : Int)) = p at *
       rw [Rat.mul_assoc, hp, Rat.mul_one]
     have h4 : (m : Int) = z * (2 ^ k : Nat) := by
       have : ((m : Int) : Rat) = ((z * (2 ^ k : Nat) : Int) : Rat) := h3
       exact Rat.intCast_inj.1 this
     have h5 : (2 ^ k : Nat) ∣ m := by
       have : ((2 ^ k : Nat) : Int) ∣ (m : Int) := ⟨z, by rw [h4, Int.mul_comm]⟩
       exact Int.natCast_dvd_natCast.1 this
     have h6 : ((m / 2 ^ k * 2 ^ k : Nat) : Rat) = (m : Rat) := by rw [Nat.div_mul_cancel h5]
     rw [Rat.natCast_mul] at h6
     generalize ((m / 2 ^ k : Nat) : Rat) = n at *
     generalize ((2 ^ k : Nat) : Rat) = t at *
     generalize p2 (-(k : Int)) = p at *
     rw [← h6, Rat.mul_assoc, Rat.mul_comm t p, hp, Rat.mul_one]
theorem trw_val {b : Nat} (h : Fin64 b) (hq : Lim (fval b)) : Fin64 (trw b) ∧ trw b < 18446744073709551616 ∧ (fval (trw b) = fval b ↔ M 1 (fval b)) := by
 have e : FloatKind.f64.decode b = .number (fneg b) (fmag (frung b)) (fpl (frung b)) := read_fin h
 have hm : fmag (frung b) ≤ 9007199254740992 := Nat.le_of_lt (fmag_lt _)
 obtain ⟨n, hn, h1, h2, h3⟩ := cut_val (fmag (frung b)) (fpl (frung b)) hm
 have hv := fval_eq b
 have et : trw b = Ieee.double.write (.number (fneg b) n 0) := by
   unfold trw
   rw [e]
   show Ieee.double.write (.number (fneg b) (Ieee.Toward.zero.cut (fneg b) (fmag (frung b) <<< (fpl (frung b)).toNat) (-fpl (frung b)).toNat) 0) = _
   rw [cut_shift, hn]
 have hF := fc_word h
 clear hn e
 generalize ((fmag (frung b) : Nat) : Rat) * p2 (fpl (frung b)) = X at *
 have hX : X < p2 1023 := by
   have h4 := hq.1
   have h5 := hq.2
   rw [hv] at h4 h5
   revert h4 h5
   unfold sgn1
   cases fneg b
   · rw [if_neg (by decide)]; grind
   · rw [if_pos rfl]; grind
 have n0 : (0 : Rat) ≤ ((n : Nat) : Rat) := Rat.natCast_nonneg
 obtain ⟨r, er, fr, lr, hr⟩ := write_rv (fneg b) n 0 (by rw [p2_zero, Rat.mul_one]; grind)
 rw [p2_zero, Rat.mul_one] at hr
 have ev : fval r = sgn1 (fneg b) * ((n : Nat) : Rat) := by
   apply hr.rn.exact
   rcases h2 with h2 | h2
   · rw [h2, ← hv]
     obtain ⟨S, m, c⟩ := hF
     exact c.f
   · have : F ((n : Int) : Rat) := F_int n (by omega) (by omega)
     unfold sgn1
     cases fneg b
     · rw [if_neg (by decide), Rat.one_mul]
       exact this
     · rw [if_pos rfl]
       have := this.neg
       rwa [show -((n : Int) : Rat) = -1 * ((n : Nat) : Rat) by show -((n : Nat) : Rat) = _; grind] at this
 rw [et, er]
 refine ⟨fr, lr, ?_⟩
 rw [M_one, ev, hv]
 constructor
 · intro e1
   rw [← e1]
   unfold sgn1
   cases fneg b
   · exact ⟨n, by rw [if_neg (by decide), Rat.one_mul]; rfl⟩
   · exact ⟨-(n : Int), by rw [Rat.intCast_neg, if_pos rfl]; show _ = -((n : Nat) : Rat); grind⟩
 · rintro ⟨k, ek⟩
   rw [h3]
   revert ek
   unfold sgn1
   cases fneg b
   · intro ek
     rw [if_neg (by decide), Rat.one_mul] at ek
     exact ⟨k, ek⟩
   · intro ek
     rw [if_pos rfl] at ek
     exact ⟨-k, by rw [Rat.intCast_neg, ← ek]; grind⟩
def Crd (x : Nat) : Prop := frung x ≤ 5057542381537067008 ∧ M (U 974) (fval x)
theorem crd_fin {x : Nat} (h : frung x ≤ 5057542381537067008) : Fin64 x := by unfold Fin64; omega
theorem top100 : fval 5057542381537067008 = U 1174 := by
 have := fval_rung 1122 4503599627370496 (by omega) (Or.inr (by omega)) (by omega)
 rw [show (1122 * 4503599627370496 + 4503599627370496 : Nat) = 5057542381537067008 from rfl] at this
 have h := U_52 1122
 rw [this]
 exact h.symm
theorem crd_ab {x : Nat} (h : frung x ≤ 5057542381537067008) : ab (fval x) ≤ U 1174 := by
 rw [← ab_fval x (crd_fin h), ← top100]
 rcases Nat.lt_or_ge (frung x) 5057542381537067008 with h1 | h1
 · exact Rat.le_of_lt (fval_lt h1 (by omega))
 · rw [show frung x = 5057542381537067008 by omega]; exact Rat.le_refl
theorem run_mul_nan (a b : Nat) (h : floatBits .mul .f64 a b = none) (w : World) : (binOp .mul 57 (.float .f64 a) (.float .f64 b)).run Tryz.prog w = .ok (.float .f64 (nanW a b w)) w.drew := by
 have h' : FloatKind.f64.format.mul a b = none := h
 simp [binOp, Op.floatArith, h', nanW, Question.forced]
theorem trunc_any (b : Nat) (w : World) (h : Fin64 b) : Calls Tryz.prog 112 #[.float .f64 b] w fun e w' => e = .returned (.float .f64 (trw b)) ∧ w' = w := by
 have r1 := run_trunc b h
 clear h
 go_enter Tryz.func112, Tryz.ntmps112
 go_wp2
 go_ret
 exact ⟨rfl, rfl⟩
theorem steps_val {x : Nat} (h : frung x ≤ 5057542381537067008) : ∃ r, floatBits .mul .f64 x 5057542381537067008 = some r ∧ Fin64 r ∧ r < 18446744073709551616 ∧ fval r = fval x * U 1174 ∧ Lim (fval r) := by
 have fx := crd_fin h
 have hb := crd_ab h
 have hu := U_mulX' (s := 1174) (t := 1174) (r := 1274) (by omega)
 have h0 := U_pos 1174
 have hl : ab (fval x * U 1174) ≤ U 1274 := by
   rw [ab_mul, show ab (U 1174) = U 1174 by unfold ab; rw [if_neg (by grind)], ← hu]
   exact Rat.mul_le_mul_of_nonneg_right hb (Rat.le_of_lt h0)
 have hL : Lim (fval x * U 1174) := by
   have h3 : U 1274 < p2 1023 := by unfold U; exact p2_lt (by omega)
   have := ab_le.1 hl
   exact ⟨by grind, by grind⟩
 have hL' := hL
 rw [← top100] at hL'
 obtain ⟨r, er, fr, lr, hr⟩ := mul_bits fx (b := 5057542381537067008) (by unfold Fin64 frung; omega) hL'
 rw [top100] at hr
 have ev : fval r = fval x * U 1174 := by
   apply hr.rn.exact
   obtain ⟨S, m, c⟩ := fc_word fx
   refine ⟨S + 100, m, ?_, by have := c.m1; omega, by have := c.m2; omega⟩
   rw [← U_mulX' (s := S) (t := 1174) (r := S + 100) (by omega), ← Rat.mul_assoc, ← c.hz]
 exact ⟨r, er, fr, lr, ev, by rw [ev]; exact hL⟩
theorem steps_one {q : Rat} : M 1 (q * U 1174) ↔ M (U 974) q := by
 have hu := U_mulX' (s := 974) (t := 1174) (r := 1074) (by omega)
 have h1 : U 1074 = 1 := by unfold U; exact p2_zero
 rw [h1] at hu
 constructor
 · rintro ⟨k, e⟩
   refine ⟨k, ?_⟩
   have : q * U 1174 * U 974 = (k : Rat) * U 974 := by rw [e, Rat.mul_one]
   rw [← this, Rat.mul_assoc, Rat.mul_comm (U 1174), hu, Rat.mul_one]
 · rintro ⟨k, e⟩
   refine ⟨k, ?_⟩
   rw [e, Rat.mul_assoc, hu]
set_option maxRecDepth 100000 in
set_option maxHeartbeats 1000000 in
theorem stands_any (x : Nat) (w : World) (hx : x < 18446744073709551616) : Calls Tryz.prog 147 #[.float .f64 x] w fun e w' => (∃ t, e = .returned (.bool t) ∧ (t = true ↔ Crd x)) ∧ Below w.heap.size w w' := by
 have q1 := leq_word (r := frung x) (c := 5057542381537067008) (by unfold frung; omega) (by omega)
 have HA : Hid (∀ w, Calls Tryz.prog 113 #[.float .f64 x] w fun e w' => e = .returned (.float .f64 (frung x)) ∧ w' = w) := fun w => abs_any x w hx
 clear hx
 by_cases h : frung x ≤ 5057542381537067008
 · rw [decide_eq_true h] at q1
   obtain ⟨r, er, fr, lr, ev, hL⟩ := steps_val h
   have rs : ∀ w, (binOp .mul 57 (.float .f64 x) (.float .f64 5057542381537067008)).run Tryz.prog w = .ok (.float .f64 r) w := fun w => run_float_arith w .mul _ .f64 _ _ _ er
   have HT : Hid (∀ w, Calls Tryz.prog 112 #[.float .f64 r] w fun e w' => e = .returned (.float .f64 (trw r)) ∧ w' = w) := fun w => trunc_any r w fr
   obtain ⟨t1, t2, t3⟩ := trw_val fr hL
   obtain ⟨d, hd⟩ : ∃ d, (FloatKind.f64.format.order (trw r) r == some .eq) = d := ⟨_, rfl⟩
   have HD : Hid (d = true ↔ Crd x) := by
     rw [← hd, order_val t1 fr]
     have key : (fval (trw r) = fval r) ↔ Crd x := by
       rw [t3, ev, steps_one]
       exact ⟨fun a => ⟨h, a⟩, fun a => a.2⟩
     constructor
     · intro a
       apply key.1
       apply Classical.byContradiction
       intro hne
       revert a
       rw [if_neg hne]
       split <;> exact fun a => absurd a (by decide)
     · intro a
       have := key.2 a
       rw [this, if_neg Rat.lt_irrefl, if_pos rfl]; rfl
   clear er fr lr ev hL t1 t2 t3 h
   generalize trw r = tr at *
   generalize frung x = fx at *
   go_enter Tryz.func147, Tryz.ntmps147
   go_wp2_with fail
   refine (HA.out _).mono ?_
   rintro e w1 ⟨rfl, rfl⟩
   go_wp2_with fail
   refine (HT.out _).mono ?_
   rintro e w1 ⟨rfl, rfl⟩
   go_wp2
   go_ret
   exact ⟨⟨d, rfl, HD.out⟩, Below.refl _ _⟩
 · rw [decide_eq_false h] at q1
   have HN : Hid (¬ Crd x) := fun a => h a.1
   clear h
   generalize frung x = fx at *
   cases hm : floatBits .mul .f64 x 5057542381537067008 with
   | none =>
     have rs := run_mul_nan x 5057542381537067008 hm
     clear hm
     go_enter Tryz.func147, Tryz.ntmps147
     go_wp2_with fail
     refine (HA.out _).mono ?_
     rintro e w1 ⟨rfl, rfl⟩
     go_wp2
     go_ret
     exact ⟨⟨false, rfl, by simp; exact HN.out⟩, (Below.refl _ w).drew⟩
   | some r =>
     have rs : ∀ w, (binOp .mul 57 (.float .f64 x) (.float .f64 5057542381537067008)).run Tryz.prog w = .ok (.float .f64 r) w := fun w => run_float_arith w .mul _ .f64 _ _ _ hm
     clear hm
     go_enter Tryz.func147, Tryz.ntmps147
     go_wp2_with fail
     refine (HA.out _).mono ?_
     rintro e w1 ⟨rfl, rfl⟩
     go_wp2
     go_ret
     exact ⟨⟨false, rfl, by simp; exact HN.out⟩, Below.refl _ _⟩
end

/- Package expand: lists of its own; a list that grows; a list turned about. -/
section
open Go.RowKit
def f64s (bs : List Nat) : List Value := bs.map (Value.float .f64)
theorem infoF : (Tryz.prog.info? 57).map (fun i => (i.zero, i.size, i.bytes)) = some (some (.float .f64 0), 1, 8) := by kernel_rfl
theorem undF : Tryz.prog.underlying 60 = some (.slice 57) := by kernel_rfl
structure Fr (w : World) (B : Nat) (v : Value) (bs : List Nat) : Prop where
 own : w.ownsRow B 57 1 v bs.length (f64s bs)
 word : ∀ b ∈ bs, b < 18446744073709551616
theorem Fr.fs {w : World} {B : Nat} {v : Value} {bs : List Nat} (h : Fr w B v bs) : Fs w v bs := by
 refine ⟨?_, h.word⟩
 rcases h.own.2 with ⟨h1, h2⟩ | ⟨g, cap, cur, h1, h2, h3, h4, h5, _⟩
 · exact ⟨none, 0, by rw [h1, h2], by omega, by omega, Or.inl (List.eq_nil_of_length_eq_zero h2)⟩
 · refine ⟨_, cap, h1, h4, by unfold maxLen at h5; omega, Or.inr ⟨g, 0, rfl, fun k hk => ?_⟩⟩
   have := h.own.cells (g := g) (by rw [h1]; rfl) k (.float .f64 (bs.getD k 0)) (by simp [f64s, List.getD, hk])
   rwa [show (⟨g, 0, none⟩ : Addr).add k = ⟨g, 0 + k, none⟩ by unfold Addr.add; split <;> simp_all] at this
theorem Fr.mono {w : World} {B B' : Nat} {v : Value} {bs : List Nat} (h : Fr w B v bs) (hB : B' ≤ B) : Fr w B' v bs := by
 refine ⟨⟨h.own.1, ?_⟩, h.word⟩
 rcases h.own.2 with h1 | ⟨g, cap, cur, h1, h2, h3⟩
 · exact Or.inl h1
 · exact Or.inr ⟨g, cap, cur, h1, by omega, h3⟩
theorem Fr.later {w w' : World} {B : Nat} {v : Value} {bs : List Nat} (h : Fr w B v bs) (hb : Below w.heap.size w w') : Fr w' B v bs := by
 refine ⟨⟨h.own.1, ?_⟩, h.word⟩
 rcases h.own.2 with h1 | ⟨g, cap, cur, h1, h2, h3, h4⟩
 · exact Or.inl h1
 · refine Or.inr ⟨g, cap, cur, h1, h2, ?_, h4⟩
   rw [hb.block g (Array.getElem?_eq_some_iff.1 h3).1]; exact h3
theorem Fr.nil (w : World) (B : Nat) : Fr w B (.slice none 0 0) [] := ⟨World.ownsRow_nil w B _ 1, fun b hb => by cases hb⟩
theorem Fr.low {w : World} {B : Nat} {v : Value} {bs : List Nat} (h : Fr w B v bs) {a : Addr} (hb : a.block < B) (x : Value) : Fr (w.setCell a x) B v bs :=
 ⟨ownsRow_setCell_below h.own hb x, h.word⟩
def gw (bs : List Nat) (x : Nat) : List Nat := if frung x = 0 then bs else bs ++ [x]
end

/- Package expand: the next float of two lists. -/
section
open Go.RowKit
attribute [local go_sem ↓] Go.wp_at_zero Go.wp_at_succ
end

/- Package expand: the next float of two lists, whatever they are; what rises. -/
section
open Go.RowKit
def Box1 (w : World) (b : Nat) (v : Value) : Prop := w.heap[b]? = some (.cells #[v] 60 (0, 0))
theorem Box1.cell {w : World} {b : Nat} {v : Value} (h : Box1 w b v) : w.cell? ⟨b, 0, none⟩ = some v := by
 unfold Box1 at h
 simp [World.cell?, h]
theorem Box1.frozen {w : World} {b : Nat} {v : Value} (h : Box1 w b v) : w.frozen? ⟨b, 0, none⟩ = false := by
 unfold Box1 at h
 simp [World.frozen?, h]
theorem Box1.set {w : World} {b : Nat} {v : Value} (h : Box1 w b v) (u : Value) : Box1 (w.setCell ⟨b, 0, none⟩ u) b u := by
 unfold Box1 at *
 simp [World.setCell, Array.getElem?_modify, h]
theorem Box1.other {w : World} {b : Nat} {v : Value} (h : Box1 w b v) {a : Addr} (hne : b ≠ a.block) (u : Value) : Box1 (w.setCell a u) b v := by
 unfold Box1 at *
 rw [Below.heap_setCell w a u b hne]; exact h
theorem Box1.later {B : Nat} {w w' : World} {b : Nat} {v : Value} (h : Box1 w b v) (hb : Below B w w') (hl : b < B) : Box1 w' b v := by
 unfold Box1 at *
 rw [hb.block b hl]; exact h
theorem Box1.lt {w : World} {b : Nat} {v : Value} (h : Box1 w b v) : b < w.heap.size := (Array.getElem?_eq_some_iff.1 h).1
theorem Fs.tail {w : World} {g off n c x : Nat} {re : List Nat} {ao : Option Addr} (h : Fs w (.slice (some ⟨g, off, none⟩) (n + 1) c) (x :: re)) (ha : (if c = 1 then some (⟨g, off, none⟩ : Addr) else some ⟨g, off + 1, none⟩) = ao) : Fs w (.slice ao n (c - 1)) re := by
 obtain ⟨⟨a, c', e, hc, hm, hf⟩, hw⟩ := h
 cases e
 refine ⟨⟨ao, c - 1, rfl, by simp at hc; omega, by omega, ?_⟩, fun b hb => hw b (by simp [hb])⟩
 rcases hf with hf | ⟨g', off', e, hf⟩
 · cases hf
 · cases e
   by_cases h0 : re = []
   · exact Or.inl h0
   · right
     have : 0 < re.length := List.length_pos_iff.2 h0
     simp at hc
     rw [if_neg (by omega)] at ha
     refine ⟨g, off + 1, ha.symm, fun k hk => ?_⟩
     have := hf (k + 1) (by simp; omega)
     rw [show off + 1 + k = off + (k + 1) by omega, this]
     simp [List.getD]
theorem Fs.head {w : World} {s : Value} {x : Nat} {re : List Nat} (h : Fs w s (x :: re)) : ∃ g off c, s = .slice (some ⟨g, off, none⟩) (re.length + 1) c ∧ re.length + 1 ≤ c ∧ c ≤ 9223372036854775807 ∧ w.cell? ⟨g, off, none⟩ = some (.float .f64 x) := by
 obtain ⟨⟨a, c', e, hc, hm, hf⟩, hw⟩ := h
 rcases hf with hf | ⟨g, off, e2, hf⟩
 · cases hf
 · subst e2
   refine ⟨g, off, c', e, by simpa using hc, hm, ?_⟩
   have := hf 0 (by simp)
   simpa [List.getD] using this
theorem Fs.none {w : World} {s : Value} (h : Fs w s []) : ∃ a c, s = .slice a 0 c := by
 obtain ⟨⟨a, c', e, _⟩, _⟩ := h
 exact ⟨a, c', e⟩
def vals (bs : List Nat) : List Rat := bs.map fval
structure Up (N : Nat) (bs : List Nat) : Prop where
 ex : Ex (vals bs)
 fin : ∀ b ∈ bs, Fin64 b
 lim : ∀ b ∈ bs, ab (fval b) < U N
theorem F_fval {b : Nat} (h : Fin64 b) : F (fval b) := by
 obtain ⟨S, m, c⟩ := fc_word h
 exact c.f
theorem vals_gw (bs : List Nat) (x : Nat) : vals (gw bs x) = grownR (vals bs) (fval x) := by
 have hz : fval x = 0 ↔ frung x = 0 := fval_zero_iff
 unfold gw grownR
 by_cases h : frung x = 0
 · rw [if_pos h, if_pos (hz.2 h)]
 · rw [if_neg h, if_neg (fun e => h (hz.1 e))]; simp [vals]
theorem ab_rung {x y : Nat} (hx : Fin64 x) (hy : Fin64 y) (h : frung x ≤ frung y) : ab (fval x) ≤ ab (fval y) := by
 rw [← ab_fval x hx, ← ab_fval y hy]
 rcases Nat.lt_or_ge (frung x) (frung y) with h1 | h1
 · exact Rat.le_of_lt (fval_lt h1 hy)
 · rw [show frung x = frung y by omega]; exact Rat.le_refl
theorem tame_of {a : Nat} (h : Fin64 a) (hl : ab (fval a) ≤ U 2074) : frung a ≤ 9110782046170513408 := by
 rcases Nat.lt_or_ge 9110782046170513408 (frung a) with h1 | h1
 · exfalso
   have := fval_lt h1 h
   rw [tame_top, ab_fval a h] at this
   rw [show U 2074 = p2 1000 from rfl] at hl
   grind
 · exact h1
end
end Go.Proofs.YtofklahgpkmfmaaGreatDoor
