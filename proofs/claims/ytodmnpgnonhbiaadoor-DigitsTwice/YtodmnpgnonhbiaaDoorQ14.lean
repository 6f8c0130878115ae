/- Own texts, put together: Xb Xc Xd Oa. -/
import Derived.Test.YtodmnpgnonhbiaaDoorQ10
namespace Go.Proofs.YtodmnpgnonhbiaaDoor
/- Two lists that rise and do not overlap, joined: plain facts. -/
section
structure JInv (N : Nat) (de re df rf outs : List Rat) (Q q : Rat) : Prop where
 sum : Q + q + outs.sum = de.sum + df.sum
 ex : Ex outs
 e1 : Ex (de ++ re)
 e2 : Ex (df ++ rf)
 b1 : ∀ x ∈ de ++ re, F x ∧ ab x < U N
 b2 : ∀ x ∈ df ++ rf, F x ∧ ab x < U N
 b3 : ∀ h ∈ outs, F h ∧ ab h < U N
 low : ∀ h ∈ outs, Lo h Q ∧ Lo h q ∧ (∀ g ∈ re, Lo h g) ∧ (∀ g ∈ rf, Lo h g)
 o1 : ∀ x ∈ de, ∀ y ∈ rf, ab x ≤ ab y
 o2 : ∀ x ∈ df, ∀ y ∈ re, ab x ≤ ab y
 rq : ∃ T k, Rnd (Q + q) Q T k
 fq : F q
theorem Ex.left {a b : List Rat} (h : Ex (a ++ b)) : Ex a := ⟨(List.pairwise_append.1 h.1).1, fun x hx => h.2 x (by simp [hx])⟩
theorem Ex.right {a b : List Rat} (h : Ex (a ++ b)) : Ex b := ⟨(List.pairwise_append.1 h.1).2.1, fun x hx => h.2 x (by simp [hx])⟩
theorem JInv.size {N : Nat} {de re df rf outs : List Rat} {Q q : Rat} (I : JInv N de re df rf outs Q q) : ab (Q + q) < 3 * U N := by
 have h1 := I.e1.left.bound (s := N) (fun x hx => (I.b1 x (by simp [hx])).2)
 have h2 := I.e2.left.bound (s := N) (fun x hx => (I.b2 x (by simp [hx])).2)
 have h3 := I.ex.bound (s := N) (fun x hx => (I.b3 x hx).2)
 have h4 := I.sum
 have := ab_self de.sum
 have := ab_self df.sum
 have := ab_self outs.sum
 rw [ab_lt]; constructor <;> grind
def grownR (l : List Rat) (h : Rat) : List Rat := if h = 0 then l else l ++ [h]
theorem Ex.grow {l : List Rat} {h : Rat} (hl : Ex l) (hh : ∀ x ∈ l, Lo x h) : Ex (grownR l h) := by
 unfold grownR
 split
 · exact hl
 · rename_i h0
   refine ⟨List.pairwise_append.2 ⟨hl.1, by simp, fun x hx y hy => ?_⟩, fun x hx => ?_⟩
   · simp at hy; rw [hy]; exact hh x hx
   · rcases List.mem_append.1 hx with hx | hx
     · exact hl.2 x hx
     · simp at hx; rw [hx]; exact h0
end

/- A list that rises and does not overlap, times a float: plain facts. -/
section
theorem M.mul {u v x y : Rat} (h1 : M u x) (h2 : M v y) : M (u * v) (x * y) := by
 obtain ⟨j, rfl⟩ := h1
 obtain ⟨k, rfl⟩ := h2
 exact ⟨j * k, by rw [Rat.intCast_mul]; grind⟩
theorem lo_many {y : Rat} {l : List Rat} (h : ∀ d ∈ l, Lo d y) (hne : l ≠ []) : ∃ t, (∀ d ∈ l, ab d < U t) ∧ M (U t) y := by
 induction l with
 | nil => exact absurd rfl hne
 | cons d r ih =>
   obtain ⟨s, a, b⟩ := h d (by simp)
   by_cases e : r = []
   · subst e
     exact ⟨s, fun z hz => by simp at hz; rw [hz]; exact a, b⟩
   · obtain ⟨t, c, m⟩ := ih (fun z hz => h z (by simp [hz])) e
     rcases Nat.le_total s t with e | e
     · have := U_mono e
       exact ⟨t, fun z hz => by
         rcases List.mem_cons.1 hz with rfl | hz
         · grind
         · exact c z hz, m⟩
     · have := U_mono e
       exact ⟨s, fun z hz => by
         rcases List.mem_cons.1 hz with rfl | hz
         · exact a
         · have := c z hz; grind, b⟩
end

/- A list that rises and does not overlap, squeezed: plain facts. -/
section
structure ZInv (top : Nat) (S : Rat) (acc : List Rat) (c : Rat) (lo : List Rat) : Prop where
 sum : lo.sum + c + acc.sum = S
 exl : Ex (lo ++ [c])
 exa : Ex acc
 fl : ∀ x ∈ lo, F x
 fc : F c
 fa : ∀ x ∈ acc, F x
 room : ∃ p, ab (c + lo.sum) < U p ∧ ab c ≤ U p ∧ p + 52 * acc.length ≤ top ∧ ∀ o ∈ acc, M (U (p + 1)) o
 near : ∀ L, acc.getLast? = some L → ∃ P, U (P + 52) ≤ ab L ∧ ab (S - L) < U P
theorem ZInv.next {top p : Nat} {S c x : Rat} {acc lo : List Rat} (I : ZInv top S acc c (lo ++ [x])) (h1 : ab (c + (lo ++ [x]).sum) < U p) (h2 : ab c ≤ U p) : ab (c + x) ≤ U p := by
 rw [List.sum_append, List.sum_cons, List.sum_nil, Rat.add_zero] at h1
 have hp := I.exl
 have c0 : c ≠ 0 := hp.2 c (by simp)
 have pw := List.pairwise_append.1 hp.1
 have pw2 := List.pairwise_append.1 pw.1
 by_cases e : lo = []
 · subst e
   rw [List.sum_nil] at h1
   rw [show c + x = c + (0 + x) by grind]
   exact Rat.le_of_lt h1
 · obtain ⟨t, ht, hm⟩ := lo_many (y := c) (l := lo) (fun d hd => pw.2.2 d (by simp [hd]) c (by simp)) e
   obtain ⟨t', ht', hm'⟩ := lo_many (y := x) (l := lo) (fun d hd => pw2.2.2 d hd x (by simp)) e
   obtain ⟨r, hr, m1, m2⟩ : ∃ r, (∀ d ∈ lo, ab d < U r) ∧ M (U r) c ∧ M (U r) x := by
     rcases Nat.le_total t t' with e | e
     · exact ⟨t, ht, hm, hm'.down e⟩
     · exact ⟨t', ht', hm.down e, hm'⟩
   have hb := (Ex.left (b := [x]) ⟨pw.1, fun y hy => hp.2 y (by simp at hy ⊢; grind)⟩).bound hr
   have hrp : r ≤ p := by
     have := m1.ge (U_pos r) c0
     exact U_le_iff.1 (by grind)
   have m3 := m1.add m2
   have mp : M (U r) (U p) := M.down hrp ⟨1, by rw [one_rat]; grind⟩
   have hu := U_pos r
   have hs := ab_lt.1 h1
   have hl := ab_lt.1 hb
   have key : ∀ z : Rat, M (U r) z → z < U p + U r → z ≤ U p := by
     intro z hz hlt
     rcases (Rat.le_total : z ≤ U p ∨ U p ≤ z) with h | h
     · exact h
     · have := M.eq hu hz mp (by grind) (by grind)
       grind
   exact ab_le.2 ⟨key _ m3 (by grind), key _ m3.neg (by grind)⟩
theorem ZInv.tail {top : Nat} {S c x : Rat} {acc lo : List Rat} (I : ZInv top S acc c (lo ++ [x])) : Ex lo ∧ (∀ d ∈ lo, Lo d c ∧ Lo d x) ∧ Lo x c ∧ c ≠ 0 ∧ x ≠ 0 := by
 have hp := I.exl
 have pw := List.pairwise_append.1 hp.1
 have pw2 := List.pairwise_append.1 pw.1
 exact ⟨⟨pw2.1, fun y hy => hp.2 y (by simp [hy])⟩, fun d hd => ⟨pw.2.2 d (by simp [hd]) c (by simp), pw2.2.2 d hd x (by simp)⟩, pw.2.2 x (by simp) c (by simp), hp.2 c (by simp), hp.2 x (by simp)⟩
theorem Ex.snoc {l : List Rat} {x : Rat} (h : Ex l) (h1 : ∀ d ∈ l, Lo d x) (h0 : x ≠ 0) : Ex (l ++ [x]) :=
 ⟨List.pairwise_append.2 ⟨h.1, by simp, fun d hd y hy => by simp at hy; rw [hy]; exact h1 d hd⟩, fun y hy => by
   rcases List.mem_append.1 hy with hy | hy
   · exact h.2 y hy
   · simp at hy; rw [hy]; exact h0⟩
theorem Ex.cons {l : List Rat} {x : Rat} (h : Ex l) (h1 : ∀ d ∈ l, Lo x d) (h0 : x ≠ 0) : Ex (x :: l) :=
 ⟨List.pairwise_cons.2 ⟨h1, h.1⟩, fun y hy => by
   rcases List.mem_cons.1 hy with rfl | hy
   · exact h0
   · exact h.2 y hy⟩
theorem ZInv.take {top : Nat} {S c x : Rat} {acc lo : List Rat} (I : ZInv top S acc c (lo ++ [x])) (fs : F (c + x)) : ZInv top S acc (c + x) lo := by
 obtain ⟨el, hlo, hxc, c0, x0⟩ := I.tail
 obtain ⟨p, r1, r2, r3, r4⟩ := I.room
 have hn := I.next r1 r2
 refine ⟨?_, el.snoc (fun d hd => (hlo d hd).1.add (hlo d hd).2) ?_, I.exa, fun y hy => I.fl y (by simp [hy]), fs, I.fa, ⟨p, ?_, hn, r3, r4⟩, I.near⟩
 · rw [← I.sum, List.sum_append, List.sum_cons, List.sum_nil]; grind
 · intro e
   have := hxc.lt c0
   rw [show c = -x by grind, ab_neg] at this
   grind
 · rw [List.sum_append, List.sum_cons, List.sum_nil] at r1
   rwa [show c + x + lo.sum = c + (lo.sum + (x + 0)) by grind]
theorem M.even {T : Nat} {k : Int} {s : Rat} (h : s = (k : Rat) * U T) (he : k % 2 = 0) : M (U (T + 1)) s := by
 obtain ⟨j, rfl⟩ : ∃ j, k = j * 2 := ⟨k / 2, by omega⟩
 refine ⟨j, ?_⟩
 rw [h, U_succ, Rat.intCast_mul, show ((2 : Int) : Rat) = 2 from rfl]; grind
end

/- Signs that are told fast, and differences as lists: plain facts. -/
section
theorem F_int (n : Int) (h1 : -9007199254740992 ≤ n) (h2 : n ≤ 9007199254740992) : F (n : Rat) :=
 ⟨1074, n, by rw [show U 1074 = 1 from by unfold U; exact p2_zero]; grind, h1, h2⟩
theorem RN.lo {q x y : Rat} (h : RN q x) (e : x + y = q) : Lo y x := by
 obtain ⟨T, k, R⟩ := h
 have hu := U_pos T
 have h1 := R.h1
 have h2 := R.h2
 exact ⟨T, ab_lt.2 ⟨by grind, by grind⟩, R.m⟩
end
end Go.Proofs.YtodmnpgnonhbiaaDoor
