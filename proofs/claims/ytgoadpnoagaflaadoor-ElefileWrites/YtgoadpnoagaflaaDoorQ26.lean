/- Own texts, put together: Xd Oa Br. -/
import Derived.Test.YtgoadpnoagaflaaDoorQ22
import Derived.Test.YtgoadpnoagaflaaDoorQ23
namespace Go.Proofs.YtgoadpnoagaflaaDoor
/- A list that rises and does not overlap, squeezed: plain facts. -/
section
def RndE (q x : Rat) (T : Nat) (k : Int) : Prop := Rnd q x T k ∧ (2 * ab (q - x) = U T → k % 2 = 0)
structure ZInv (top : Nat) (S : Rat) (acc : List Rat) (c : Rat) (lo : List Rat) : Prop where
 sum : lo.sum + c + acc.sum = S
 exl : Ex (lo ++ [c])
 exa : Ex acc
 fl : ∀ x ∈ lo, F x
 fc : F c
 fa : ∀ x ∈ acc, F x
 room : ∃ p, ab (c + lo.sum) < U p ∧ ab c ≤ U p ∧ p + 52 * acc.length ≤ top ∧ ∀ o ∈ acc, M (U (p + 1)) o
 near : ∀ L, acc.getLast? = some L → ∃ P, U (P + 52) ≤ ab L ∧ ab (S - L) < U P
theorem ZInv.start {top : Nat} {c : Rat} {lo : List Rat} (h : Ex (lo ++ [c])) (hf : ∀ x ∈ lo ++ [c], F x ∧ ab x < U top) : ZInv top ((lo ++ [c]).sum) [] c lo where
 sum := by simp only [List.sum_append, List.sum_cons, List.sum_nil]; grind
 exl := h
 exa := ⟨List.Pairwise.nil, by simp⟩
 fl := fun x hx => (hf x (by simp [hx])).1
 fc := (hf c (by simp)).1
 fa := by simp
 room := ⟨top, by
   have := h.bound (s := top) (fun x hx => (hf x hx).2)
   simp only [List.sum_append, List.sum_cons, List.sum_nil] at this
   rwa [show c + lo.sum = lo.sum + (c + 0) by grind], Rat.le_of_lt (hf c (by simp)).2, by simp, by simp⟩
 near := by simp
theorem U_two (T : Nat) (h : T ≠ 0) : U T = 2 * U (T - 1) := by
 have := U_succ (T - 1)
 rwa [show T - 1 + 1 = T by omega] at this
theorem U_52 (T : Nat) : U (T + 52) = 4503599627370496 * U T := by
 rw [U_add]
 have e : ((2 ^ 52 : Nat) : Rat) = 4503599627370496 := by decide +kernel
 rw [e]
theorem ZInv.next {top p : Nat} {S c x : Rat} {acc lo : List Rat} (I : ZInv top S acc c (lo ++ [x])) (h1 : ab (c + (lo ++ [x]).sum) < U p) (h2 : ab c ≤ U p) : ab (c + x) ≤ U p := by
 rw [List.sum_append, List.sum_cons, List.sum_nil, Rat.add_zero] at h1
 have hp := I.exl
 have c0 : c ≠ 0 := hp.2 c (by simp)
 have pw := List.pairwise_append.1 hp.1
 have pw2 := List.pairwise_append.1 pw.1
 by_cases e : lo = []
 · subst e
   rw [List.sum_nil] at h1
   rw [show c + x = c + (0 + x) by grind]
   exact Rat.le_of_lt h1
 · obtain ⟨t, ht, hm⟩ := lo_many (y := c) (l := lo) (fun d hd => pw.2.2 d (by simp [hd]) c (by simp)) e
   obtain ⟨t', ht', hm'⟩ := lo_many (y := x) (l := lo) (fun d hd => pw2.2.2 d hd x (by simp)) e
   obtain ⟨r, hr, m1, m2⟩ : ∃ r, (∀ d ∈ lo, ab d < U r) ∧ M (U r) c ∧ M (U r) x := by
     rcases Nat.le_total t t' with e | e
     · exact ⟨t, ht, hm, hm'.down e⟩
     · exact ⟨t', ht', hm.down e, hm'⟩
   have hb := (Ex.left (b := [x]) ⟨pw.1, fun y hy => hp.2 y (by simp at hy ⊢; grind)⟩).bound hr
   have hrp : r ≤ p := by
     have := m1.ge (U_pos r) c0
     exact U_le_iff.1 (by grind)
   have m3 := m1.add m2
   have mp : M (U r) (U p) := M.down hrp ⟨1, by rw [one_rat]; grind⟩
   have hu := U_pos r
   have hs := ab_lt.1 h1
   have hl := ab_lt.1 hb
   have key : ∀ z : Rat, M (U r) z → z < U p + U r → z ≤ U p := by
     intro z hz hlt
     rcases (Rat.le_total : z ≤ U p ∨ U p ≤ z) with h | h
     · exact h
     · have := M.eq hu hz mp (by grind) (by grind)
       grind
   exact ab_le.2 ⟨key _ m3 (by grind), key _ m3.neg (by grind)⟩
theorem ZInv.tail {top : Nat} {S c x : Rat} {acc lo : List Rat} (I : ZInv top S acc c (lo ++ [x])) : Ex lo ∧ (∀ d ∈ lo, Lo d c ∧ Lo d x) ∧ Lo x c ∧ c ≠ 0 ∧ x ≠ 0 := by
 have hp := I.exl
 have pw := List.pairwise_append.1 hp.1
 have pw2 := List.pairwise_append.1 pw.1
 exact ⟨⟨pw2.1, fun y hy => hp.2 y (by simp [hy])⟩, fun d hd => ⟨pw.2.2 d (by simp [hd]) c (by simp), pw2.2.2 d hd x (by simp)⟩, pw.2.2 x (by simp) c (by simp), hp.2 c (by simp), hp.2 x (by simp)⟩
theorem Ex.snoc {l : List Rat} {x : Rat} (h : Ex l) (h1 : ∀ d ∈ l, Lo d x) (h0 : x ≠ 0) : Ex (l ++ [x]) :=
 ⟨List.pairwise_append.2 ⟨h.1, by simp, fun d hd y hy => by simp at hy; rw [hy]; exact h1 d hd⟩, fun y hy => by
   rcases List.mem_append.1 hy with hy | hy
   · exact h.2 y hy
   · simp at hy; rw [hy]; exact h0⟩
theorem Ex.cons {l : List Rat} {x : Rat} (h : Ex l) (h1 : ∀ d ∈ l, Lo x d) (h0 : x ≠ 0) : Ex (x :: l) :=
 ⟨List.pairwise_cons.2 ⟨h1, h.1⟩, fun y hy => by
   rcases List.mem_cons.1 hy with rfl | hy
   · exact h0
   · exact h.2 y hy⟩
theorem Rnd.le_pow' {q x : Rat} {T p : Nat} {k : Int} (R : Rnd q x T k) (h : ab q ≤ U p) : ab x ≤ U p := by
 by_cases e : ab q = U p
 · have hf : F q := by
     unfold ab at e
     split at e
     · exact ⟨p, -1, by rw [show ((-1 : Int) : Rat) = -1 from rfl]; grind, by omega, by omega⟩
     · exact ⟨p, 1, by rw [one_rat]; grind, by omega, by omega⟩
   rw [R.exact hf]; exact h
 · exact R.le_pow (by grind)
theorem ZInv.take {top : Nat} {S c x : Rat} {acc lo : List Rat} (I : ZInv top S acc c (lo ++ [x])) (fs : F (c + x)) : ZInv top S acc (c + x) lo := by
 obtain ⟨el, hlo, hxc, c0, x0⟩ := I.tail
 obtain ⟨p, r1, r2, r3, r4⟩ := I.room
 have hn := I.next r1 r2
 refine ⟨?_, el.snoc (fun d hd => (hlo d hd).1.add (hlo d hd).2) ?_, I.exa, fun y hy => I.fl y (by simp [hy]), fs, I.fa, ⟨p, ?_, hn, r3, r4⟩, I.near⟩
 · rw [← I.sum, List.sum_append, List.sum_cons, List.sum_nil]; grind
 · intro e
   have := hxc.lt c0
   rw [show c = -x by grind, ab_neg] at this
   grind
 · rw [List.sum_append, List.sum_cons, List.sum_nil] at r1
   rwa [show c + x + lo.sum = c + (lo.sum + (x + 0)) by grind]
theorem M.even {T : Nat} {k : Int} {s : Rat} (h : s = (k : Rat) * U T) (he : k % 2 = 0) : M (U (T + 1)) s := by
 obtain ⟨j, rfl⟩ : ∃ j, k = j * 2 := ⟨k / 2, by omega⟩
 refine ⟨j, ?_⟩
 rw [h, U_succ, Rat.intCast_mul, show ((2 : Int) : Rat) = 2 from rfl]; grind
theorem ZInv.emit {top : Nat} {S c x s r : Rat} {acc lo : List Rat} {T : Nat} {k : Int} (I : ZInv top S acc c (lo ++ [x])) (R : RndE (c + x) s T k) (hr : s + r = c + x) (fr : F r) (r0 : r ≠ 0) : ZInv top S (s :: acc) r lo := by
 obtain ⟨el, hlo, hxc, c0, x0⟩ := I.tail
 obtain ⟨p, r1, r2, r3, r4⟩ := I.room
 have hn := I.next r1 r2
 obtain ⟨R, hev⟩ := R
 have fx := I.fl x (by simp)
 have hT : T ≠ 0 := by
   intro e
   subst e
   have := R.mult ((F.mult0 I.fc).add (F.mult0 fx))
   exact r0 (by grind)
 have hhalf := R.half
 rw [show c + x - s = r by grind] at hev hhalf
 have hu := U_pos T
 have e2 := U_two T hT
 have e52 := U_52 T
 have hbig : U (T + 52) ≤ ab (c + x) := by
   rw [le_ab, e52]
   rcases R.h3 with h | h | h
   · exact absurd h hT
   · exact Or.inl h
   · exact Or.inr h
 have hTp : T + 52 ≤ p := U_le_iff.1 (by grind)
 have hs : U (T + 52) ≤ ab s := by
   have m52 : M (U T) (U (T + 52)) := M.down (show T ≤ T + 52 by omega) ⟨1, by rw [one_rat]; grind⟩
   have key : ∀ z : Rat, M (U T) z → U (T + 52) < z + U T → U (T + 52) ≤ z := by
     intro z hz hlt
     rcases (Rat.le_total : U (T + 52) ≤ z ∨ z ≤ U (T + 52)) with h | h
     · exact h
     · have := M.eq hu hz m52 (by grind) (by grind)
       grind
   have h1 := R.h1
   have h2 := R.h2
   rw [le_ab]
   rcases le_ab.1 hbig with h | h
   · exact Or.inl (key s R.m (by grind))
   · exact Or.inr (key (-s) R.m.neg (by grind))
 have s0 : s ≠ 0 := by
   intro e
   rw [e] at hs
   have := U_pos (T + 52)
   have : ab 0 ≤ 0 := ab_le.2 ⟨by grind, by grind⟩
   grind
 have hsp : ab s ≤ U p := R.le_pow' hn
 have hlor : ∀ d ∈ lo, Lo d r := fun d hd => by
   have a := (hlo d hd).1.add (hlo d hd).2
   have b := a.sub (a.rnd R)
   rwa [show c + x - s = r by grind] at b
 have hlt : ab s < U (p + 1) := by
   have := U_succ p
   have := U_pos p
   grind
 have exa' : Ex (s :: acc) := I.exa.cons (fun o ho => ⟨p + 1, hlt, r4 o ho⟩) s0
 -- what is left below
 have hroom : ∃ p', ab (r + lo.sum) < U p' ∧ ab r ≤ U p' ∧ p' + 52 ≤ p ∧ U (p' + 52) ≤ ab s ∧ M (U (p' + 1)) s := by
   by_cases tie : 2 * ab r = U T
   · have hm := M.even R.hx (hev tie)
     refine ⟨T, ?_, by have := ab_nonneg r; grind, hTp, hs, hm⟩
     by_cases e : lo = []
     · subst e
       rw [List.sum_nil, Rat.add_zero]; grind
     · obtain ⟨t, ht, hm⟩ := lo_many hlor e
       have a1 := el.bound ht
       have a2 := hm.ge (U_pos t) r0
       have a3 := ab_add r lo.sum
       grind
   · have hlt2 : ab r < U (T - 1) := by grind
     have hm : M (U (T - 1 + 1)) s := by rw [show T - 1 + 1 = T by omega]; exact R.m
     refine ⟨T - 1, ?_, Rat.le_of_lt hlt2, by omega, by have := U_mono (show T - 1 + 52 ≤ T + 52 by omega); grind, hm⟩
     by_cases e : lo = []
     · subst e
       rw [List.sum_nil, Rat.add_zero]; exact hlt2
     · obtain ⟨t, ht, hm⟩ := lo_many hlor e
       have a1 := el.bound ht
       have a2 := hm.ge (U_pos t) r0
       have htT : t ≤ T - 1 := U_le_iff.1 (by grind)
       have a3 := hm.room htT hlt2
       have a4 := ab_add r lo.sum
       grind
 obtain ⟨p', q1, q2, q3, q4, q5⟩ := hroom
 refine ⟨?_, el.snoc hlor r0, exa', fun y hy => I.fl y (by simp [hy]), fr, ?_, ⟨p', q1, q2, ?_, ?_⟩, ?_⟩
 · rw [← I.sum]
   simp only [List.sum_append, List.sum_cons, List.sum_nil]; grind
 · intro y hy
   rcases List.mem_cons.1 hy with rfl | hy
   · exact R.f
   · exact I.fa y hy
 · rw [List.length_cons]; omega
 · intro o ho
   rcases List.mem_cons.1 ho with rfl | ho
   · exact q5
   · exact (r4 o ho).down (by omega)
 · intro L hL
   by_cases e : acc = []
   · subst e
     simp at hL
     subst hL
     have hS := I.sum
     rw [List.sum_append, List.sum_cons, List.sum_nil] at hS
     exact ⟨p', q4, by rw [show S - s = r + lo.sum by grind]; exact q1⟩
   · refine I.near L ?_
     rw [List.getLast?_cons_of_ne_nil e] at hL
     exact hL
theorem ZInv.done {top : Nat} {S c : Rat} {acc : List Rat} (I : ZInv top S acc c []) : Ex (c :: acc) ∧ (c :: acc).sum = S ∧ (∀ x ∈ c :: acc, F x) ∧ 52 * (c :: acc).length ≤ top + 52 := by
 obtain ⟨p, r1, r2, r3, r4⟩ := I.room
 have c0 : c ≠ 0 := I.exl.2 c (by simp)
 have hlt : ab c < U (p + 1) := by
   have := U_succ p
   have := U_pos p
   grind
 refine ⟨I.exa.cons (fun o ho => ⟨p + 1, hlt, r4 o ho⟩) c0, ?_, ?_, ?_⟩
 · have := I.sum
   rw [List.sum_nil] at this
   rw [List.sum_cons]; grind
 · intro y hy
   rcases List.mem_cons.1 hy with rfl | hy
   · exact I.fc
   · exact I.fa y hy
 · rw [List.length_cons]; omega
theorem ZInv.lead {top : Nat} {S c L : Rat} {acc : List Rat} (I : ZInv top S acc c []) (hL : (c :: acc).getLast? = some L) : 1125899906842624 * ab (L - S) ≤ ab S ∧ ((0 < L ∧ 0 < S) ∨ (L < 0 ∧ S < 0)) := by
 have c0 : c ≠ 0 := I.exl.2 c (by simp)
 by_cases e : acc = []
 · subst e
   simp at hL
   subst hL
   have hS := I.sum
   simp only [List.sum_nil] at hS
   have : S = c := by grind
   subst this
   have : ab (S - S) ≤ 0 := ab_le.2 ⟨by grind, by grind⟩
   have := ab_nonneg S
   exact ⟨by grind, by grind⟩
 · rw [List.getLast?_cons_of_ne_nil e] at hL
   obtain ⟨P, h1, h2⟩ := I.near L hL
   rw [U_52] at h1
   have := U_pos P
   have := ab_lt.1 h2
   have h3 : ab (L - S) < U P := by rw [show L - S = -(S - L) by grind, ab_neg]; exact h2
   rcases le_ab.1 h1 with h | h
   · have h4 : 4503599627370495 * U P ≤ ab S := by rw [le_ab]; left; grind
     exact ⟨by grind, Or.inl ⟨by grind, by grind⟩⟩
   · have h4 : 4503599627370495 * U P ≤ ab S := by rw [le_ab]; right; grind
     exact ⟨by grind, Or.inr ⟨by grind, by grind⟩⟩
end

/- Signs that are told fast, and differences as lists: plain facts. -/
section
theorem RN.rel {q x : Rat} {t : Nat} (h : RN q x) (hm : M (U t) q) : 9007199254740992 * ab (q - x) ≤ ab x := by
 obtain ⟨T, k, R⟩ := h
 rcases Nat.lt_or_ge t T with ht | ht
 · have hu := U_pos T
   have h1 := R.h1
   have h2 := R.h2
   have hx := R.hx
   have hd : 2 * ab (q - x) ≤ U T := by
     have : ab (q - x) ≤ U T / 2 := ab_le.2 ⟨by grind, by grind⟩
     grind
   have hk : 4503599627370496 * U T ≤ ab x := by
     rcases R.h3 with h | h | h
     · omega
     · have : (4503599627370495 : Int) < k := by
         apply cast_lt hu
         rw [← hx, show ((4503599627370495 : Int) : Rat) = 4503599627370495 from rfl]
         grind
       have h3 : (4503599627370496 : Int) ≤ k := by omega
       have h4 : ((4503599627370496 : Int) : Rat) * U T ≤ (k : Rat) * U T := Rat.mul_le_mul_of_nonneg_right (Rat.intCast_le_intCast.2 h3) (Rat.le_of_lt hu)
       rw [← hx, show ((4503599627370496 : Int) : Rat) = 4503599627370496 from rfl] at h4
       exact le_ab.2 (Or.inl h4)
     · have : k < (-4503599627370495 : Int) := by
         apply cast_lt hu
         rw [← hx, show ((-4503599627370495 : Int) : Rat) = -4503599627370495 from rfl]
         grind
       have h3 : k ≤ (-4503599627370496 : Int) := by omega
       have h4 : (k : Rat) * U T ≤ ((-4503599627370496 : Int) : Rat) * U T := Rat.mul_le_mul_of_nonneg_right (Rat.intCast_le_intCast.2 h3) (Rat.le_of_lt hu)
       rw [← hx, show ((-4503599627370496 : Int) : Rat) = -4503599627370496 from rfl] at h4
       exact le_ab.2 (Or.inr (by grind))
   grind
 · have e := R.mult (hm.down ht)
   subst e
   rw [show x - x = 0 by grind, show ab 0 = 0 by unfold ab; grind]
   have := ab_nonneg x
   grind
theorem F_int (n : Int) (h1 : -9007199254740992 ≤ n) (h2 : n ≤ 9007199254740992) : F (n : Rat) :=
 ⟨1074, n, by rw [show U 1074 = 1 from by unfold U; exact p2_zero]; grind, h1, h2⟩
theorem RN.lo {q x y : Rat} (h : RN q x) (e : x + y = q) : Lo y x := by
 obtain ⟨T, k, R⟩ := h
 have hu := U_pos T
 have h1 := R.h1
 have h2 := R.h2
 exact ⟨T, ab_lt.2 ⟨by grind, by grind⟩, R.m⟩
end

/- What is written is read: plain facts. -/
section
set_option maxRecDepth 100000
open Go.RowKit Go.Shelf Go.Lib
theorem jn_cons2 (x y : Bs) (r : List Bs) : jn (x :: y :: r) = x ++ 32 :: jn (y :: r) := by
 unfold jn
 rw [join_cons, join_cons]
 simp [joinTail]
theorem jn_one (x : Bs) : jn [x] = x := join_one x [32]
theorem may_gd {x : Bs} (h : mayW x = true) : x ≠ [] ∧ ∀ c ∈ x, gd c = true := by
 unfold mayW at h
 rw [Bool.and_eq_true, Bool.and_eq_true, List.all_eq_true] at h
 exact ⟨by simpa using h.1.1, h.2⟩
end
end Go.Proofs.YtgoadpnoagaflaaDoor
