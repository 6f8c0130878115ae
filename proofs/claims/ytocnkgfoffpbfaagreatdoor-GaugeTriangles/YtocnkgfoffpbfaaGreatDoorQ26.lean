/- Own texts, put together: Xd Oa Ex Xe Ha Hc. -/
import Derived.Test.YtocnkgfoffpbfaaGreatDoorQ8
import Derived.Test.YtocnkgfoffpbfaaGreatDoorQ21
import Derived.Test.YtocnkgfoffpbfaaGreatDoorQ22
import Derived.Test.YtocnkgfoffpbfaaGreatDoorQ23
import Derived.Test.YtocnkgfoffpbfaaGreatDoorQ24
/- A list that rises and does not overlap, squeezed: plain facts. -/
namespace Go.Proofs.YtocnkgfoffpbfaaGreatDoor

def RndE (q x : Rat) (T : Nat) (k : Int) : Prop := Rnd q x T k ∧ (2 * ab (q - x) = U T → k % 2 = 0)

structure ZInv (top : Nat) (S : Rat) (acc : List Rat) (c : Rat) (lo : List Rat) : Prop where
 sum : lo.sum + c + acc.sum = S
 exl : Ex (lo ++ [c])
 exa : Ex acc
 fl : ∀ x ∈ lo, F x
 fc : F c
 fa : ∀ x ∈ acc, F x
 room : ∃ p, ab (c + lo.sum) < U p ∧ ab c ≤ U p ∧ p + 52 * acc.length ≤ top ∧ ∀ o ∈ acc, M (U (p + 1)) o
 near : ∀ L, acc.getLast? = some L → ∃ P, U (P + 52) ≤ ab L ∧ ab (S - L) < U P

theorem ZInv.start {top : Nat} {c : Rat} {lo : List Rat} (h : Ex (lo ++ [c])) (hf : ∀ x ∈ lo ++ [c], F x ∧ ab x < U top) : ZInv top ((lo ++ [c]).sum) [] c lo where
 sum := by simp only [List.sum_append, List.sum_cons, List.sum_nil]; grind
 exl := h
 exa := ⟨List.Pairwise.nil, by simp⟩
 fl := fun x hx => (hf x (by simp [hx])).1
 fc := (hf c (by simp)).1
 fa := by simp
 room := ⟨top, by
   have := h.bound (s := top) (fun x hx => (hf x hx).2)
   simp only [List.sum_append, List.sum_cons, List.sum_nil] at this
   rwa [show c + lo.sum = lo.sum + (c + 0) by grind], Rat.le_of_lt (hf c (by simp)).2, by simp, by simp⟩
 near := by simp

theorem U_two (T : Nat) (h : T ≠ 0) : U T = 2 * U (T - 1) := by
 have := U_succ (T - 1)
 rwa [show T - 1 + 1 = T by omega] at this
theorem U_52 (T : Nat) : U (T + 52) = 4503599627370496 * U T := by
 rw [U_add]
 have e : ((2 ^ 52 : Nat) : Rat) = 4503599627370496 := by decide +kernel
 rw [e]

theorem ZInv.next {top p : Nat} {S c x : Rat} {acc lo : List Rat} (I : ZInv top S acc c (lo ++ [x])) (h1 : ab (c + (lo ++ [x]).sum) < U p) (h2 : ab c ≤ U p) : ab (c + x) ≤ U p := by
 rw [List.sum_append, List.sum_cons, List.sum_nil, Rat.add_zero] at h1
 have hp := I.exl
 have c0 : c ≠ 0 := hp.2 c (by simp)
 have pw := List.pairwise_append.1 hp.1
 have pw2 := List.pairwise_append.1 pw.1
 by_cases e : lo = []
 · subst e
   rw [List.sum_nil] at h1
   rw [show c + x = c + (0 + x) by grind]
   exact Rat.le_of_lt h1
 · obtain ⟨t, ht, hm⟩ := lo_many (y := c) (l := lo) (fun d hd => pw.2.2 d (by simp [hd]) c (by simp)) e
   obtain ⟨t', ht', hm'⟩ := lo_many (y := x) (l := lo) (fun d hd => pw2.2.2 d hd x (by simp)) e
   obtain ⟨r, hr, m1, m2⟩ : ∃ r, (∀ d ∈ lo, ab d < U r) ∧ M (U r) c ∧ M (U r) x := by
     rcases Nat.le_total t t' with e | e
     · exact ⟨t, ht, hm, hm'.down e⟩
     · exact ⟨t', ht', hm.down e, hm'⟩
   have hb := (Ex.left (b := [x]) ⟨pw.1, fun y hy => hp.2 y (by simp at hy ⊢; grind)⟩).bound hr
   have hrp : r ≤ p := by
     have := m1.ge (U_pos r) c0
     exact U_le_iff.1 (by grind)
   have m3 := m1.add m2
   have mp : M (U r) (U p) := M.down hrp ⟨1, by rw [one_rat]; grind⟩
   have hu := U_pos r
   have hs := ab_lt.1 h1
   have hl := ab_lt.1 hb
   have key : ∀ z : Rat, M (U r) z → z < U p + U r → z ≤ U p := by
     intro z hz hlt
     rcases (Rat.le_total : z ≤ U p ∨ U p ≤ z) with h | h
     · exact h
     · have := M.eq hu hz mp (by grind) (by grind)
       grind
   exact ab_le.2 ⟨key _ m3 (by grind), key _ m3.neg (by grind)⟩

theorem ZInv.tail {top : Nat} {S c x : Rat} {acc lo : List Rat} (I : ZInv top S acc c (lo ++ [x])) : Ex lo ∧ (∀ d ∈ lo, Lo d c ∧ Lo d x) ∧ Lo x c ∧ c ≠ 0 ∧ x ≠ 0 := by
 have hp := I.exl
 have pw := List.pairwise_append.1 hp.1
 have pw2 := List.pairwise_append.1 pw.1
 exact ⟨⟨pw2.1, fun y hy => hp.2 y (by simp [hy])⟩, fun d hd => ⟨pw.2.2 d (by simp [hd]) c (by simp), pw2.2.2 d hd x (by simp)⟩, pw.2.2 x (by simp) c (by simp), hp.2 c (by simp), hp.2 x (by simp)⟩
theorem Ex.snoc {l : List Rat} {x : Rat} (h : Ex l) (h1 : ∀ d ∈ l, Lo d x) (h0 : x ≠ 0) : Ex (l ++ [x]) :=
 ⟨List.pairwise_append.2 ⟨h.1, by simp, fun d hd y hy => by simp at hy; rw [hy]; exact h1 d hd⟩, fun y hy => by
   rcases List.mem_append.1 hy with hy | hy
   · exact h.2 y hy
   · simp at hy; rw [hy]; exact h0⟩
theorem Ex.cons {l : List Rat} {x : Rat} (h : Ex l) (h1 : ∀ d ∈ l, Lo x d) (h0 : x ≠ 0) : Ex (x :: l) :=
 ⟨List.pairwise_cons.2 ⟨h1, h.1⟩, fun y hy => by
   rcases List.mem_cons.1 hy with rfl | hy
   · exact h0
   · exact h.2 y hy⟩
theorem Rnd.le_pow' {q x : Rat} {T p : Nat} {k : Int} (R : Rnd q x T k) (h : ab q ≤ U p) : ab x ≤ U p := by
 by_cases e : ab q = U p
 · have hf : F q := by
     unfold ab at e
     split at e
     · exact ⟨p, -1, by rw [show ((-1 : Int) : Rat) = -1 from rfl]; grind, by omega, by omega⟩
     · exact ⟨p, 1, by rw [one_rat]; grind, by omega, by omega⟩
   rw [R.exact hf]; exact h
 · exact R.le_pow (by grind)

theorem ZInv.take {top : Nat} {S c x : Rat} {acc lo : List Rat} (I : ZInv top S acc c (lo ++ [x])) (fs : F (c + x)) : ZInv top S acc (c + x) lo := by
 obtain ⟨el, hlo, hxc, c0, x0⟩ := I.tail
 obtain ⟨p, r1, r2, r3, r4⟩ := I.room
 have hn := I.next r1 r2
 refine ⟨?_, el.snoc (fun d hd => (hlo d hd).1.add (hlo d hd).2) ?_, I.exa, fun y hy => I.fl y (by simp [hy]), fs, I.fa, ⟨p, ?_, hn, r3, r4⟩, I.near⟩
 · rw [← I.sum, List.sum_append, List.sum_cons, List.sum_nil]; grind
 · intro e
   have := hxc.lt c0
   rw [show c = -x by grind, ab_neg] at this
   grind
 · rw [List.sum_append, List.sum_cons, List.sum_nil] at r1
   rwa [show c + x + lo.sum = c + (lo.sum + (x + 0)) by grind]

theorem M.even {T : Nat} {k : Int} {s : Rat} (h : s = (k : Rat) * U T) (he : k % 2 = 0) : M (U (T + 1)) s := by
 obtain ⟨j, rfl⟩ : ∃ j, k = j * 2 := ⟨k / 2, by omega⟩
 refine ⟨j, ?_⟩
 rw [h, U_succ, Rat.intCast_mul, show ((2 : Int) : Rat) = 2 from rfl]; grind

theorem ZInv.emit {top : Nat} {S c x s r : Rat} {acc lo : List Rat} {T : Nat} {k : Int} (I : ZInv top S acc c (lo ++ [x])) (R : RndE (c + x) s T k) (hr : s + r = c + x) (fr : F r) (r0 : r ≠ 0) : ZInv top S (s :: acc) r lo := by
 obtain ⟨el, hlo, hxc, c0, x0⟩ := I.tail
 obtain ⟨p, r1, r2, r3, r4⟩ := I.room
 have hn := I.next r1 r2
 obtain ⟨R, hev⟩ := R
 have fx := I.fl x (by simp)
 have hT : T ≠ 0 := by
   intro e
   subst e
   have := R.mult ((F.mult0 I.fc).add (F.mult0 fx))
   exact r0 (by grind)
 have hhalf := R.half
 rw [show c + x - s = r by grind] at hev hhalf
 have hu := U_pos T
 have e2 := U_two T hT
 have e52 := U_52 T
 have hbig : U (T + 52) ≤ ab (c + x) := by
   rw [le_ab, e52]
   rcases R.h3 with h | h | h
   · exact absurd h hT
   · exact Or.inl h
   · exact Or.inr h
 have hTp : T + 52 ≤ p := U_le_iff.1 (by grind)
 have hs : U (T + 52) ≤ ab s := by
   have m52 : M (U T) (U (T + 52)) := M.down (show T ≤ T + 52 by omega) ⟨1, by rw [one_rat]; grind⟩
   have key : ∀ z : Rat, M (U T) z → U (T + 52) < z + U T → U (T + 52) ≤ z := by
     intro z hz hlt
     rcases (Rat.le_total : U (T + 52) ≤ z ∨ z ≤ U (T + 52)) with h | h
     · exact h
     · have := M.eq hu hz m52 (by grind) (by grind)
       grind
   have h1 := R.h1
   have h2 := R.h2
   rw [le_ab]
   rcases le_ab.1 hbig with h | h
   · exact Or.inl (key s R.m (by grind))
   · exact Or.inr (key (-s) R.m.neg (by grind))
 have s0 : s ≠ 0 := by
   intro e
   rw [e] at hs
   have := U_pos (T + 52)
   have : ab 0 ≤ 0 := ab_le.2 ⟨by grind, by grind⟩
   grind
 have hsp : ab s ≤ U p := R.le_pow' hn
 have hlor : ∀ d ∈ lo, Lo d r := fun d hd => by
   have a := (hlo d hd).1.add (hlo d hd).2
   have b := a.sub (a.rnd R)
   rwa [show c + x - s = r by grind] at b
 have hlt : ab s < U (p + 1) := by
   have := U_succ p
   have := U_pos p
   grind
 have exa' : Ex (s :: acc) := I.exa.cons (fun o ho => ⟨p + 1, hlt, r4 o ho⟩) s0
 -- what is left below
 have hroom : ∃ p', ab (r + lo.sum) < U p' ∧ ab r ≤ U p' ∧ p' + 52 ≤ p ∧ U (p' + 52) ≤ ab s ∧ M (U (p' + 1)) s := by
   by_cases tie : 2 * ab r = U T
   · have hm := M.even R.hx (hev tie)
     refine ⟨T, ?_, by have := ab_nonneg r; grind, hTp, hs, hm⟩
     by_cases e : lo = []
     · subst e
       rw [List.sum_nil, Rat.add_zero]; grind
     · obtain ⟨t, ht, hm⟩ := lo_many hlor e
       have a1 := el.bound ht
       have a2 := hm.ge (U_pos t) r0
       have a3 := ab_add r lo.sum
       grind
   · have hlt2 : ab r < U (T - 1) := by grind
     have hm : M (U (T - 1 + 1)) s := by rw [show T - 1 + 1 = T by omega]; exact R.m
     refine ⟨T - 1, ?_, Rat.le_of_lt hlt2, by omega, by have := U_mono (show T - 1 + 52 ≤ T + 52 by omega); grind, hm⟩
     by_cases e : lo = []
     · subst e
       rw [List.sum_nil, Rat.add_zero]; exact hlt2
     · obtain ⟨t, ht, hm⟩ := lo_many hlor e
       have a1 := el.bound ht
       have a2 := hm.ge (U_pos t) r0
       have htT : t ≤ T - 1 := U_le_iff.1 (by grind)
       have a3 := hm.room htT hlt2
       have a4 := ab_add r lo.sum
       grind
 obtain ⟨p', q1, q2, q3, q4, q5⟩ := hroom
 refine ⟨?_, el.snoc hlor r0, exa', fun y hy => I.fl y (by simp [hy]), fr, ?_, ⟨p', q1, q2, ?_, ?_⟩, ?_⟩
 · rw [← I.sum]
   simp only [List.sum_append, List.sum_cons, List.sum_nil]; grind
 · intro y hy
   rcases List.mem_cons.1 hy with rfl | hy
   · exact R.f
   · exact I.fa y hy
 · rw [List.length_cons]; omega
 · intro o ho
   rcases List.mem_cons.1 ho with rfl | ho
   · exact q5
   · exact (r4 o ho).down (by omega)
 · intro L hL
   by_cases e : acc = []
   · subst e
     simp at hL
     subst hL
     have hS := I.sum
     rw [List.sum_append, List.sum_cons, List.sum_nil] at hS
     exact ⟨p', q4, by rw [show S - s = r + lo.sum by grind]; exact q1⟩
   · refine I.near L ?_
     rw [List.getLast?_cons_of_ne_nil e] at hL
     exact hL

theorem ZInv.done {top : Nat} {S c : Rat} {acc : List Rat} (I : ZInv top S acc c []) : Ex (c :: acc) ∧ (c :: acc).sum = S ∧ (∀ x ∈ c :: acc, F x) ∧ 52 * (c :: acc).length ≤ top + 52 := by
 obtain ⟨p, r1, r2, r3, r4⟩ := I.room
 have c0 : c ≠ 0 := I.exl.2 c (by simp)
 have hlt : ab c < U (p + 1) := by
   have := U_succ p
   have := U_pos p
   grind
 refine ⟨I.exa.cons (fun o ho => ⟨p + 1, hlt, r4 o ho⟩) c0, ?_, ?_, ?_⟩
 · have := I.sum
   rw [List.sum_nil] at this
   rw [List.sum_cons]; grind
 · intro y hy
   rcases List.mem_cons.1 hy with rfl | hy
   · exact I.fc
   · exact I.fa y hy
 · rw [List.length_cons]; omega
theorem ZInv.lead {top : Nat} {S c L : Rat} {acc : List Rat} (I : ZInv top S acc c []) (hL : (c :: acc).getLast? = some L) : 1125899906842624 * ab (L - S) ≤ ab S ∧ ((0 < L ∧ 0 < S) ∨ (L < 0 ∧ S < 0)) := by
 have c0 : c ≠ 0 := I.exl.2 c (by simp)
 by_cases e : acc = []
 · subst e
   simp at hL
   subst hL
   have hS := I.sum
   simp only [List.sum_nil] at hS
   have : S = c := by grind
   subst this
   have : ab (S - S) ≤ 0 := ab_le.2 ⟨by grind, by grind⟩
   have := ab_nonneg S
   exact ⟨by grind, by grind⟩
 · rw [List.getLast?_cons_of_ne_nil e] at hL
   obtain ⟨P, h1, h2⟩ := I.near L hL
   rw [U_52] at h1
   have := U_pos P
   have := ab_lt.1 h2
   have h3 : ab (L - S) < U P := by rw [show L - S = -(S - L) by grind, ab_neg]; exact h2
   rcases le_ab.1 h1 with h | h
   · have h4 : 4503599627370495 * U P ≤ ab S := by rw [le_ab]; left; grind
     exact ⟨by grind, Or.inl ⟨by grind, by grind⟩⟩
   · have h4 : 4503599627370495 * U P ≤ ab S := by rw [le_ab]; right; grind
     exact ⟨by grind, Or.inr ⟨by grind, by grind⟩⟩

end Go.Proofs.YtocnkgfoffpbfaaGreatDoor

/- Signs that are told fast, and differences as lists: plain facts. -/
namespace Go.Proofs.YtocnkgfoffpbfaaGreatDoor

theorem RN.mm {q x : Rat} {t : Nat} (h : RN q x) (hm : M (U t) q) : M (U t) x := by
 obtain ⟨_, _, R⟩ := h
 exact hm.rnd R

theorem RN.rel {q x : Rat} {t : Nat} (h : RN q x) (hm : M (U t) q) : 9007199254740992 * ab (q - x) ≤ ab x := by
 obtain ⟨T, k, R⟩ := h
 rcases Nat.lt_or_ge t T with ht | ht
 · have hu := U_pos T
   have h1 := R.h1
   have h2 := R.h2
   have hx := R.hx
   have hd : 2 * ab (q - x) ≤ U T := by
     have : ab (q - x) ≤ U T / 2 := ab_le.2 ⟨by grind, by grind⟩
     grind
   have hk : 4503599627370496 * U T ≤ ab x := by
     rcases R.h3 with h | h | h
     · omega
     · have : (4503599627370495 : Int) < k := by
         apply cast_lt hu
         rw [← hx, show ((4503599627370495 : Int) : Rat) = 4503599627370495 from rfl]
         grind
       have h3 : (4503599627370496 : Int) ≤ k := by omega
       have h4 : ((4503599627370496 : Int) : Rat) * U T ≤ (k : Rat) * U T := Rat.mul_le_mul_of_nonneg_right (Rat.intCast_le_intCast.2 h3) (Rat.le_of_lt hu)
       rw [← hx, show ((4503599627370496 : Int) : Rat) = 4503599627370496 from rfl] at h4
       exact le_ab.2 (Or.inl h4)
     · have : k < (-4503599627370495 : Int) := by
         apply cast_lt hu
         rw [← hx, show ((-4503599627370495 : Int) : Rat) = -4503599627370495 from rfl]
         grind
       have h3 : k ≤ (-4503599627370496 : Int) := by omega
       have h4 : (k : Rat) * U T ≤ ((-4503599627370496 : Int) : Rat) * U T := Rat.mul_le_mul_of_nonneg_right (Rat.intCast_le_intCast.2 h3) (Rat.le_of_lt hu)
       rw [← hx, show ((-4503599627370496 : Int) : Rat) = -4503599627370496 from rfl] at h4
       exact le_ab.2 (Or.inr (by grind))
   grind
 · have e := R.mult (hm.down ht)
   subst e
   rw [show x - x = 0 by grind, show ab 0 = 0 by unfold ab; grind]
   have := ab_nonneg x
   grind

theorem prod_err {p q x y L : Rat} (h1 : 9007199254740992 * ab (p - x) ≤ ab x) (h2 : 9007199254740992 * ab (q - y) ≤ ab y) (h3 : 9007199254740992 * ab (x * y - L) ≤ ab L) :
   9223372036854775808 * ab (p * q - L) ≤ 3073 * ab L := by
 have a0 := ab_nonneg x
 have b0 := ab_nonneg y
 have f0 := ab_nonneg (q - y)
 have d0 := ab_nonneg q
 have hd : ab q ≤ ab y + ab (q - y) := by
   have := ab_add y (q - y)
   rwa [show y + (q - y) = q by grind] at this
 have t1 : ab (p * q - x * y) ≤ ab (p - x) * ab q + ab x * ab (q - y) := by
   have := ab_add ((p - x) * q) (x * (q - y))
   rw [ab_mul, ab_mul, show (p - x) * q + x * (q - y) = p * q - x * y by grind] at this
   exact this
 have t2 : ab (p * q - L) ≤ ab (p * q - x * y) + ab (x * y - L) := by
   have := ab_add (p * q - x * y) (x * y - L)
   rwa [show p * q - x * y + (x * y - L) = p * q - L by grind] at this
 have t3 : ab (x * y) ≤ ab L + ab (x * y - L) := by
   have := ab_add L (x * y - L)
   rwa [show L + (x * y - L) = x * y by grind] at this
 rw [ab_mul] at t3
 have m1 := Rat.mul_le_mul_of_nonneg_right h1 d0
 have m2 := Rat.mul_le_mul_of_nonneg_left hd a0
 have m3 := Rat.mul_le_mul_of_nonneg_left h2 a0
 have m4 := Rat.mul_nonneg a0 b0
 have m5 := Rat.mul_nonneg a0 f0
 have l0 := ab_nonneg L
 generalize ab (p * q - L) = g1 at *
 generalize ab (p * q - x * y) = g2 at *
 generalize ab (x * y - L) = g3 at *
 generalize ab (p - x) = e at *
 generalize ab (q - y) = f at *
 generalize ab x = a at *
 generalize ab y = b at *
 generalize ab q = d at *
 generalize ab L = l at *
 have n1 : 9007199254740992 * (e * d) ≤ a * d := by grind
 have n2 : a * d ≤ a * b + a * f := by grind
 have n3 : 9007199254740992 * (a * f) ≤ a * b := by grind
 clear m1 m2 m3
 generalize e * d = z1 at *
 generalize a * d = z2 at *
 generalize a * b = z3 at *
 generalize a * f = z4 at *
 grind

theorem fast_sign {P Q L R s z : Rat} (h1 : 9223372036854775808 * ab (P - L) ≤ 3073 * ab L) (h2 : 9223372036854775808 * ab (Q - R) ≤ 3073 * ab R) (h3 : 9007199254740992 * ab (L - R - s) ≤ ab s) (h4 : 9007199254740992 * ab (ab L + ab R - z) ≤ ab z) (hz : 0 ≤ z) (h5 : z ≤ 2251799813685248 * ab s) :
   (0 < s ∧ 0 < P - Q) ∨ (s < 0 ∧ P - Q < 0) ∨ (s = 0 ∧ P - Q = 0) := by
 have ez : ab z = z := by unfold ab; rw [if_neg (by grind)]
 rw [ez] at h4
 obtain ⟨p1, p2⟩ := ab_self (P - L)
 obtain ⟨q1, q2⟩ := ab_self (Q - R)
 obtain ⟨s1, s2⟩ := ab_self (L - R - s)
 obtain ⟨z1, z2⟩ := ab_self (ab L + ab R - z)
 have l0 := ab_nonneg L
 have r0 := ab_nonneg R
 have g0 := ab_nonneg (ab L + ab R - z)
 rcases (by grind : 0 < s ∨ 0 = s ∨ s < 0) with hs | hs | hs
 · left
   have es : ab s = s := by unfold ab; rw [if_neg (by grind)]
   rw [es] at h3 h5
   refine ⟨hs, ?_⟩
   generalize ab (P - L) = v1 at *
   generalize ab (Q - R) = v2 at *
   generalize ab (L - R - s) = v3 at *
   generalize ab (ab L + ab R - z) = v4 at *
   generalize ab L = v5 at *
   generalize ab R = v6 at *
   grind
 · right; right
   have es : ab s = 0 := by rw [← hs]; rfl
   rw [es] at h5
   have z0 : z = 0 := by grind
   subst z0
   have e1 : ab L = 0 := by grind
   have e2 : ab R = 0 := by grind
   rw [e1] at h1
   rw [e2] at h2
   have := ab_zero (x := P - L) (by grind)
   have := ab_zero (x := Q - R) (by grind)
   have := ab_zero (x := L) (by grind)
   have := ab_zero (x := R) (by grind)
   exact ⟨hs.symm, by grind⟩
 · right; left
   have es : ab s = -s := by unfold ab; rw [if_pos hs]
   rw [es] at h3 h5
   refine ⟨hs, ?_⟩
   generalize ab (P - L) = v1 at *
   generalize ab (Q - R) = v2 at *
   generalize ab (L - R - s) = v3 at *
   generalize ab (ab L + ab R - z) = v4 at *
   generalize ab L = v5 at *
   generalize ab R = v6 at *
   grind

theorem F_less {z : Rat} {t : Nat} (hz : F z) (hm : M (U t) z) (ht : 104 ≤ t) : F (U 1023 * z) := by
 obtain ⟨S, m, e, m1, m2⟩ := hz
 rcases Nat.lt_or_ge S 51 with h | h
 · have hb : ab z < U t := by
     have hu := U_pos S
     have h1 := F.abs e m1 m2
     have h2 : 9007199254740992 * U S = U (S + 53) := by rw [U_add]; rfl
     have h3 := U_lt_iff.2 (show S + 53 < t by omega)
     exact ab_lt.2 ⟨by grind, by grind⟩
   have z0 : z = 0 := by
     apply Classical.byContradiction
     intro h0
     have := hm.ge (U_pos t) h0
     grind
   rw [z0, Rat.mul_zero]
   exact F_zero
 · refine ⟨S - 51, m, ?_, m1, m2⟩
   have := U_mulX' (s := 1023) (t := S) (r := S - 51) (by omega)
   rw [e, ← this]
   grind

theorem F_int (n : Int) (h1 : -9007199254740992 ≤ n) (h2 : n ≤ 9007199254740992) : F (n : Rat) :=
 ⟨1074, n, by rw [show U 1074 = 1 from by unfold U; exact p2_zero]; grind, h1, h2⟩

theorem RN.lo {q x y : Rat} (h : RN q x) (e : x + y = q) : Lo y x := by
 obtain ⟨T, k, R⟩ := h
 have hu := U_pos T
 have h1 := R.h1
 have h2 := R.h2
 exact ⟨T, ab_lt.2 ⟨by grind, by grind⟩, R.m⟩

end Go.Proofs.YtocnkgfoffpbfaaGreatDoor

/- What Sum, Diff and Prod answer, and what follows of it. -/
namespace Go.Proofs.YtocnkgfoffpbfaaGreatDoor
open Go.RowKit

def Pair (dom : Prop) (q : Rat) (x y : Nat) : Prop :=
 Fin64 x ∧ Fin64 y ∧ x < 18446744073709551616 ∧ y < 18446744073709551616 ∧ ((dom ∧ RV q (fval x) ∧ fval x + fval y = q) ∨ (¬ dom ∧ x = 0 ∧ y = 0))

theorem pair_zero {dom : Prop} {q : Rat} (h : ¬ dom) : Pair dom q 0 0 := ⟨fin_zero, fin_zero, by omega, by omega, Or.inr ⟨h, rfl, rfl⟩⟩

theorem flip_lt {a : Nat} (h : a < 18446744073709551616) : fflip a < 18446744073709551616 := by unfold fflip; split <;> omega
theorem frung_flip {a : Nat} (h : a < 18446744073709551616) : frung (fflip a) = frung a := by unfold fflip frung; split <;> omega
theorem fval_flip {a : Nat} (h : a < 18446744073709551616) (hf : Fin64 a) : fval (fflip a) = -fval a := by
 unfold Fin64 frung at hf
 unfold fflip
 split
 · rename_i hs
   rw [Nat.add_comm]; exact fval_word (by omega)
 · rename_i hs
   obtain ⟨r, rfl⟩ : ∃ r, a = 9223372036854775808 + r := ⟨a - 9223372036854775808, by omega⟩
   rw [fval_word (by omega), show 9223372036854775808 + r - 9223372036854775808 = r by omega]; grind

def TameW (a b : Nat) : Prop := frung a ≤ 9110782046170513408 ∧ frung b ≤ 9110782046170513408
def SafeP (a b : Nat) : Prop := SafeW (frung a) ∧ SafeW (frung b)

theorem sum_pair (a b : Nat) (w : World) (ha : a < 18446744073709551616) (hb : b < 18446744073709551616) :
   Calls Tryz.prog 145 #[.float .f64 a, .float .f64 b] w fun e w' => (∃ x y, e = .returned (.tuple #[.float .f64 x, .float .f64 y]) ∧ Pair (TameW a b) (fval a + fval b) x y) ∧ Below w.heap.size w w' := by
 by_cases h : TameW a b
 · obtain ⟨x, fb, fa, lb, la, y, hs, fx, fy, lx, ly, hv, he⟩ := twoSum_words h.1 h.2
   refine (sum_yes a b x fb fa lb la y w ha hb h.1 h.2 hs).mono ?_
   rintro e w' ⟨rfl, hbel⟩
   exact ⟨⟨x, y, rfl, fx, fy, lx, ly, Or.inl ⟨h, hv, he⟩⟩, hbel⟩
 · refine (sum_no a b w ha hb h).mono ?_
   rintro e w' ⟨rfl, hbel⟩
   exact ⟨⟨0, 0, rfl, pair_zero h⟩, hbel⟩

theorem diff_pair (a b : Nat) (w : World) (ha : a < 18446744073709551616) (hb : b < 18446744073709551616) :
   Calls Tryz.prog 95 #[.float .f64 a, .float .f64 b] w fun e w' => (∃ x y, e = .returned (.tuple #[.float .f64 x, .float .f64 y]) ∧ Pair (TameW a b) (fval a - fval b) x y) ∧ Below w.heap.size w w' := by
 by_cases h : TameW a b
 · obtain ⟨x, fb, fa, lb, la, y, hs, fx, fy, lx, ly, hv, he⟩ := twoSum_words (b := fflip b) h.1 (by rw [frung_flip hb]; exact h.2)
   rw [fval_flip hb (by unfold Fin64; have := h.2; omega), show fval a + -fval b = fval a - fval b by grind] at hv he
   refine (diff_yes a b x fb fa lb la y w ha hb h.1 h.2 hs).mono ?_
   rintro e w' ⟨rfl, hbel⟩
   exact ⟨⟨x, y, rfl, fx, fy, lx, ly, Or.inl ⟨h, hv, he⟩⟩, hbel⟩
 · refine (diff_no a b w ha hb h).mono ?_
   rintro e w' ⟨rfl, hbel⟩
   exact ⟨⟨0, 0, rfl, pair_zero h⟩, hbel⟩

theorem prod_pair (a b : Nat) (w : World) (ha : a < 18446744073709551616) (hb : b < 18446744073709551616) :
   Calls Tryz.prog 149 #[.float .f64 a, .float .f64 b] w fun e w' => (∃ x y, e = .returned (.tuple #[.float .f64 x, .float .f64 y]) ∧ Pair (SafeP a b) (fval a * fval b) x y) ∧ Below w.heap.size w w' := by
 by_cases h : SafeP a b
 · obtain ⟨x, a1, a2, b1, b2, p1, l1, q2, l2, p3, l3, p4, y, c, d, c', d', H1, H2, hs, fx, fy, lx, ly, hv, he⟩ := prod_words h.1 h.2
   refine (prod_yes a b x a1 a2 b1 b2 p1 l1 q2 l2 p3 l3 p4 y c d c' d' w ha hb h.1 h.2 H1 H2 hs).mono ?_
   rintro e w' ⟨rfl, hbel⟩
   exact ⟨⟨x, y, rfl, fx, fy, lx, ly, Or.inl ⟨h, hv, he⟩⟩, hbel⟩
 · refine (prod_no a b w ha hb h).mono ?_
   rintro e w' ⟨rfl, hbel⟩
   exact ⟨⟨0, 0, rfl, pair_zero h⟩, hbel⟩

end Go.Proofs.YtocnkgfoffpbfaaGreatDoor

/- The lowest bit of a float, as package expand tells it. -/
namespace Go.Proofs.YtocnkgfoffpbfaaGreatDoor
open Go.RowKit

theorem land_pred (t m : Nat) : (2 ^ t * (2 * m + 1)) &&& (2 ^ t * (2 * m + 1) - 1) = 2 ^ t * (2 * m) := by
 induction t with
 | zero =>
   rw [Nat.pow_zero, Nat.one_mul, Nat.one_mul, show 2 * m + 1 - 1 = 2 * m by omega]
   apply Nat.eq_of_testBit_eq
   intro i
   rw [Nat.testBit_and]
   cases i with
   | zero => simp [Nat.testBit_zero]
   | succ i => rw [Nat.testBit_succ, Nat.testBit_succ, show (2 * m + 1) / 2 = m by omega, show 2 * m / 2 = m by omega]; simp
 | succ t ih =>
   have hp : 0 < 2 ^ t * (2 * m + 1) := Nat.mul_pos (Nat.two_pow_pos t) (by omega)
   have e1 : 2 ^ (t + 1) * (2 * m + 1) = 2 * (2 ^ t * (2 * m + 1)) := by rw [Nat.pow_succ]; grind
   have e2 : 2 ^ (t + 1) * (2 * m) = 2 * (2 ^ t * (2 * m)) := by rw [Nat.pow_succ]; grind
   rw [e1, e2, ← ih]
   generalize 2 ^ t * (2 * m + 1) = a at *
   apply Nat.eq_of_testBit_eq
   intro i
   rw [Nat.testBit_and]
   cases i with
   | zero => simp [Nat.testBit_zero]
   | succ i => rw [Nat.testBit_succ, Nat.testBit_succ, Nat.testBit_succ, show 2 * a / 2 = a by omega, show (2 * a - 1) / 2 = a - 1 by omega, show 2 * (a &&& (a - 1)) / 2 = a &&& (a - 1) by omega, Nat.testBit_and]
theorem low_bit {n : Nat} (h : n ≠ 0) : ∃ t m, n = 2 ^ t * (2 * m + 1) := by
 induction n using Nat.strongRecOn with
 | ind n ih =>
   by_cases ho : n % 2 = 1
   · exact ⟨0, n / 2, by rw [Nat.pow_zero, Nat.one_mul]; omega⟩
   · obtain ⟨t, m, e⟩ := ih (n / 2) (by omega) (by omega)
     exact ⟨t + 1, m, by rw [Nat.pow_succ]; have : n = 2 * (n / 2) := by omega
                         rw [this, e]; grind⟩

theorem frac_bit {b : Nat} (hf : b % 4503599627370496 ≠ 0) : ∃ t m, t < 52 ∧ b = 2 ^ t * (2 * m + 1) ∧ b % 4503599627370496 = 2 ^ t * ((2 * m + 1) % 2 ^ (52 - t)) ∧ 2 ^ t ≤ b % 4503599627370496 := by
 obtain ⟨t, m, e⟩ := low_bit (n := b) (by omega)
 have ht : t < 52 := by
   rcases Nat.lt_or_ge t 52 with h | h
   · exact h
   · exfalso
     obtain ⟨j, rfl⟩ : ∃ j, t = 52 + j := ⟨t - 52, by omega⟩
     rw [Nat.pow_add, show (2 : Nat) ^ 52 = 4503599627370496 from rfl, Nat.mul_assoc] at e
     rw [e, Nat.mul_mod_right] at hf
     exact hf rfl
 have e52 : 4503599627370496 = 2 ^ t * 2 ^ (52 - t) := by rw [← Nat.pow_add, show t + (52 - t) = 52 by omega]
 have em : b % 4503599627370496 = 2 ^ t * ((2 * m + 1) % 2 ^ (52 - t)) := by
   rw [e52, e, Nat.mul_mod_mul_left]
 refine ⟨t, m, ht, e, em, ?_⟩
 rw [em]
 have : (2 * m + 1) % 2 ^ (52 - t) ≠ 0 := by
   intro h0
   rw [em, h0] at hf
   exact hf (by simp)
 have := Nat.mul_le_mul_left (2 ^ t) (Nat.pos_of_ne_zero this)
 omega

theorem frung_cut {b t : Nat} (h : 2 ^ t ≤ b % 4503599627370496) : frung (b - 2 ^ t) = frung b - 2 ^ t ∧ fneg (b - 2 ^ t) = fneg b ∧ fpl (frung b - 2 ^ t) = fpl (frung b) ∧ fmag (frung b - 2 ^ t) = fmag (frung b) - 2 ^ t ∧ 2 ^ t ≤ fmag (frung b) := by
 generalize 2 ^ t = x at *
 unfold frung fneg fpl fmag
 refine ⟨by omega, ?_, ?_, ?_, ?_⟩
 · rw [show (b - x) / 9223372036854775808 = b / 9223372036854775808 by omega]
 · split <;> split <;> omega
 · split <;> split <;> omega
 · split <;> omega

def LB (b l : Nat) : Prop := l < 9218868437227405312 ∧ ((frung b = 0 ∧ l = 0) ∨ (frung b ≠ 0 ∧ ∃ (L : Nat) (m : Int), fval l = U L ∧ fval b = (m : Rat) * U L ∧ m % 2 = 1))

theorem sgn_odd {b : Nat} {m : Nat} {L : Nat} (h : ((fmag (frung b) : Nat) : Rat) * p2 (fpl (frung b)) = ((2 * m + 1 : Nat) : Rat) * U L) : ∃ k : Int, fval b = (k : Rat) * U L ∧ k % 2 = 1 := by
 rw [fval_eq, h]
 unfold sgn1
 cases fneg b
 · exact ⟨(2 * m + 1 : Nat), by rw [if_neg (by decide)]; show 1 * (((2 * m + 1 : Nat) : Rat) * U L) = ((2 * m + 1 : Nat) : Rat) * U L; grind, by omega⟩
 · refine ⟨-((2 * m + 1 : Nat) : Int), ?_, by omega⟩
   rw [if_pos rfl, Rat.intCast_neg]
   show -1 * (((2 * m + 1 : Nat) : Rat) * U L) = -((2 * m + 1 : Nat) : Rat) * U L
   grind
theorem fpl_U (r : Nat) : ∃ P : Nat, p2 (fpl r) = U P := by
 refine ⟨(fpl r + 1074).toNat, ?_⟩
 unfold U
 rw [show (((fpl r + 1074).toNat : Nat) : Int) - 1074 = fpl r by unfold fpl; split <;> omega]

set_option maxHeartbeats 1000000 in
theorem lowest_pow (b : Nat) (w : World) (hb : b < 18446744073709551616) (h0 : b % 4503599627370496 = 0) : Calls Tryz.prog 155 #[.float .f64 b] w fun e w' => e = .returned (.float .f64 (frung b)) ∧ w' = w := by
 have r1 := run_bits b
 have h1 : bits .and .u64 (b : Int) 4503599627370495 = 0 := by
   rw [show (4503599627370495 : Int) = ((4503599627370495 : Nat) : Int) from rfl, u64_and_nat b _ hb (by omega), show (4503599627370495 : Nat) = 2 ^ 52 - 1 by decide, Nat.and_two_pow_sub_one_eq_mod, show (2 : Nat) ^ 52 = 4503599627370496 from rfl, h0]; rfl
 have HA : Hid (∀ w, Calls Tryz.prog 42 #[.float .f64 b] w fun e w' => e = .returned (.float .f64 (frung b)) ∧ w' = w) := fun w => abs_any b w hb
 clear h0 hb
 go_enter Tryz.func155, Tryz.ntmps155
 go_wp2_with fail
 refine (HA.out _).mono ?_
 rintro e w1 ⟨rfl, rfl⟩
 go_wp2
 go_ret
 exact ⟨rfl, rfl⟩
set_option maxHeartbeats 1000000 in
theorem lowest_frac (b c d : Nat) (w : World) (hb : b < 18446744073709551616) (h0 : b % 4503599627370496 ≠ 0) (hc : b &&& (b - 1) = c) (hd : floatBits .sub .f64 b c = some d) (hdl : d < 18446744073709551616) : Calls Tryz.prog 155 #[.float .f64 b] w fun e w' => e = .returned (.float .f64 (frung d)) ∧ w' = w := by
 have r1 := run_bits b
 have r2 := run_frombits c
 have h1 : (bits .and .u64 (b : Int) 4503599627370495 == 0) = false := by
   rw [show (4503599627370495 : Int) = ((4503599627370495 : Nat) : Int) from rfl, u64_and_nat b _ hb (by omega), show (4503599627370495 : Nat) = 2 ^ 52 - 1 by decide, Nat.and_two_pow_sub_one_eq_mod, show (2 : Nat) ^ 52 = 4503599627370496 from rfl]
   rw [beq_eq_false_iff_ne]; omega
 have hb1 : (1 : Int) ≤ (b : Int) := by omega
 have hbl : (b : Int) < 18446744073709551616 := by omega
 have h2 : bits .and .u64 (b : Int) ((b : Int) - 1) = (c : Int) := by
   rw [show (b : Int) - 1 = ((b - 1 : Nat) : Int) by omega, u64_and_nat b _ hb (by omega), hc]
 have rs : ∀ w, (binOp .sub 22 (.float .f64 b) (.float .f64 c)).run Tryz.prog w = .ok (.float .f64 d) w := fun w => run_float_arith w .sub _ .f64 _ _ _ hd
 have HA : Hid (∀ w, Calls Tryz.prog 42 #[.float .f64 d] w fun e w' => e = .returned (.float .f64 (frung d)) ∧ w' = w) := fun w => abs_any d w hdl
 clear h0 hb hc hd hdl
 go_enter Tryz.func155, Tryz.ntmps155
 go_wp2_with fail
 refine (HA.out _).mono ?_
 rintro e w1 ⟨rfl, rfl⟩
 go_wp2
 go_ret
 exact ⟨rfl, rfl⟩

theorem lowestE_any (b : Nat) (w : World) (hb : b < 18446744073709551616) (hf : Fin64 b) : Calls Tryz.prog 155 #[.float .f64 b] w fun e w' => (∃ l, e = .returned (.float .f64 l) ∧ LB b l) ∧ w' = w := by
 have hfr : frung b < 9218868437227405312 := hf
 by_cases h0 : b % 4503599627370496 = 0
 · refine (lowest_pow b w hb h0).mono ?_
   rintro e w' ⟨rfl, rfl⟩
   refine ⟨⟨_, rfl, hfr, ?_⟩, rfl⟩
   by_cases hz : frung b = 0
   · exact Or.inl ⟨hz, hz⟩
   · right
     refine ⟨hz, ?_⟩
     have hm : fmag (frung b) = 4503599627370496 := by unfold fmag; unfold frung at *; split <;> omega
     obtain ⟨P, hP⟩ := fpl_U (frung b)
     have e1 : ((fmag (frung b) : Nat) : Rat) * p2 (fpl (frung b)) = U (P + 52) := by rw [hP, hm, U_52]; rfl
     have hv : fval (frung b) = U (P + 52) := by rw [(fval_pos_lt hfr).1]; exact e1
     obtain ⟨k, hk1, hk2⟩ := sgn_odd (b := b) (m := 0) (L := P + 52) (by rw [e1, show ((2 * 0 + 1 : Nat) : Rat) = 1 from rfl]; grind)
     exact ⟨P + 52, k, hv, hk1, hk2⟩
 · obtain ⟨t, m, ht, e1, e2, e3⟩ := frac_bit h0
   have hc : b &&& (b - 1) = b - 2 ^ t := by
     conv => lhs; rw [e1]
     rw [land_pred, e1]
     have : 2 ^ t * (2 * m + 1) = 2 ^ t * (2 * m) + 2 ^ t := by grind
     omega
   obtain ⟨c1, c2, c3, c4, c5⟩ := frung_cut e3
   obtain ⟨P, hP⟩ := fpl_U (frung b)
   have hle : 2 ^ t ≤ frung b := by unfold frung; omega
   have fc : Fin64 (b - 2 ^ t) := by unfold Fin64; rw [c1]; exact Nat.lt_of_le_of_lt (Nat.sub_le _ _) hfr
   have hd : fval b - fval (b - 2 ^ t) = sgn1 (fneg b) * U (P + t) := by
     have e5 : ((fmag (frung b) : Nat) : Rat) = ((fmag (frung b) - 2 ^ t : Nat) : Rat) + ((2 ^ t : Nat) : Rat) := by rw [← Rat.natCast_add, Nat.sub_add_cancel c5]
     rw [fval_eq b, fval_eq (b - 2 ^ t), c1, c2, c3, c4, hP, U_add, e5]
     grind
   have hF : F (fval b - fval (b - 2 ^ t)) := by
     rw [hd]
     unfold sgn1
     cases fneg b
     · exact ⟨P + t, 1, by rw [if_neg (by decide), one_rat], by omega, by omega⟩
     · exact ⟨P + t, -1, by rw [if_pos rfl]; rfl, by omega, by omega⟩
   have hlim : Lim (fval b - fval (b - 2 ^ t)) := by
     rw [hd]
     have hPb : P + t ≤ 2096 := by
       have h1 : p2 (fpl (frung b)) = U P := hP
       unfold U at h1
       have h2 : fpl (frung b) = (P : Int) - 1074 := by
         have a := (p2_le_iff (a := fpl (frung b)) (b := (P : Int) - 1074)).1 (by rw [h1]; exact Rat.le_refl)
         have b := (p2_le_iff (b := fpl (frung b)) (a := (P : Int) - 1074)).1 (by rw [h1]; exact Rat.le_refl)
         omega
       unfold fpl at h2
       split at h2 <;> omega
     have h1 : U (P + t) < p2 1023 := by unfold U; exact p2_lt (by omega)
     have h2 := U_pos (P + t)
     unfold sgn1
     cases fneg b
     · rw [if_neg (by decide)]; exact ⟨by grind, by grind⟩
     · rw [if_pos rfl]; exact ⟨by grind, by grind⟩
   obtain ⟨d, d1, d2, d3, d4⟩ := sub_bits hf fc hlim
   have dv : fval d = sgn1 (fneg b) * U (P + t) := by rw [← hd]; exact d4.rn.exact hF
   refine (lowest_frac b (b - 2 ^ t) d w hb h0 hc d1 d3).mono ?_
   rintro e w' ⟨rfl, rfl⟩
   refine ⟨⟨_, rfl, d2, Or.inr ⟨by unfold frung; omega, ?_⟩⟩, rfl⟩
   have hv : fval (frung d) = U (P + t) := by
     have h1 := fval_nonneg (r := frung d) d2
     have h2 := U_pos (P + t)
     have hs : sgn1 (fneg b) = 1 ∨ sgn1 (fneg b) = -1 := by unfold sgn1; split <;> simp
     rcases fval_abs d with e | e <;> rcases hs with hs | hs <;> rw [hs] at dv <;> grind
   have hodd : ∃ j, fmag (frung b) = 2 ^ t * (2 * j + 1) := by
     have hfm : fmag (frung b) = b % 4503599627370496 ∨ fmag (frung b) = 4503599627370496 + b % 4503599627370496 := by
       unfold fmag frung; split <;> omega
     have e52 : 4503599627370496 = 2 ^ t * (2 * 2 ^ (51 - t)) := by rw [← Nat.pow_succ', ← Nat.pow_add, show t + (51 - t).succ = 52 by omega]
     have hmod : ∃ j, (2 * m + 1) % 2 ^ (52 - t) = 2 * j + 1 := by
       refine ⟨(2 * m + 1) % 2 ^ (52 - t) / 2, ?_⟩
       have : (2 * m + 1) % 2 ^ (52 - t) % 2 = 1 := by
         rw [Nat.mod_mod_of_dvd _ (by rw [show 52 - t = (51 - t) + 1 by omega, Nat.pow_succ]; exact Nat.dvd_mul_left _ _)]; omega
       omega
     obtain ⟨j, hj⟩ := hmod
     rcases hfm with h | h
     · exact ⟨j, by rw [h, e2, hj]⟩
     · exact ⟨2 ^ (51 - t) + j, by rw [h, e2, hj, e52]; grind⟩
   obtain ⟨j, hj⟩ := hodd
   obtain ⟨k, hk1, hk2⟩ := sgn_odd (b := b) (m := j) (L := P + t) (by rw [hj, hP, U_add, Rat.natCast_mul]; grind)
   exact ⟨P + t, k, hv, hk1, hk2⟩

end Go.Proofs.YtocnkgfoffpbfaaGreatDoor

/- How many bits a float has; that two numbers are the same. -/
namespace Go.Proofs.YtocnkgfoffpbfaaGreatDoor
open Go.RowKit
attribute [local go_sem ↓] Go.wp_at_zero Go.wp_at_succ

theorem run_store_float (P : Program) (w : World) (a : Addr) (m : Mode) (k : FloatKind) (b : Nat) : (store a (.float k b) m).run P w = stored P w a (.float k b) m := run_store P w a _ m rfl
theorem Rf.agg {w : World} {v : Value} {q : Rat} (h : Rf w v q) : ∃ S a n c E, v = .agg #[.int .i64 S, .slice a n c, .int .i64 E] := by
 obtain ⟨S, a, n, c, E, h, _⟩ := h.sgn
 exact ⟨S, a, n, c, E, h⟩

end Go.Proofs.YtocnkgfoffpbfaaGreatDoor

/- A number and the floats about the one nearest to it: plain facts. Nextafter. -/
namespace Go.Proofs.YtocnkgfoffpbfaaGreatDoor
open Go.RowKit

theorem isNaN_fin {b : Nat} (h : Fin64 b) (w : World) : Calls Tryz.prog 78 #[.float .f64 b] w fun e w' => e = .returned (.bool false) ∧ w' = w := by
 have := isNaN_any b w
 rwa [show isnan b = false by unfold isnan; exact decide_eq_false (by unfold Fin64 at h; omega)] at this
theorem pos_fval {r : Nat} (h : r < 9218868437227405312) (h0 : r ≠ 0) : 0 < fval r := by
 have := fval_lt (r := 0) (s := r) (by omega) h
 rwa [fval0] at this
theorem fin_small {r : Nat} (h : r < 9218868437227405312) : Fin64 r := by unfold Fin64 frung; omega

set_option maxHeartbeats 1000000 in
theorem copysign_pos (a b : Nat) (w : World) (h1 : bits .andNot .u64 (a : Int) 9223372036854775808 = (a : Int)) (h2 : bits .and .u64 (b : Int) 9223372036854775808 = 0) (h3 : bits .or .u64 (a : Int) 0 = (a : Int)) : Calls Tryz.prog 120 #[.float .f64 a, .float .f64 b] w fun e w' => e = .returned (.float .f64 a) ∧ w' = w := by
 have r1 := run_bits a
 have r2 := run_bits b
 have r3 := run_frombits a
 go_enter Tryz.func120, Tryz.ntmps120
 go_wp2
 go_ret
 exact ⟨rfl, rfl⟩

end Go.Proofs.YtocnkgfoffpbfaaGreatDoor
