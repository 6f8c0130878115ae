/- Own texts, put together: Xd Oa Jrv. -/
import Derived.Test.YtifjfgafpfefpaaDoorV7
import Derived.Test.YtifjfgafpfefpaaDoorV12
import Derived.Test.YtifjfgafpfefpaaDoorRows
import Derived.Stop.LaidErr
import Derived.ProofKit
import Derived.LaidMore
import Derived.OpenShut
import Derived.Laws.Cover2
import Derived.Lib.LaidTab
import Derived.Lay
import Derived.LaidOnce
namespace Go.Proofs.YtifjfgafpfefpaaDoor
/- A list that rises and does not overlap, squeezed: plain facts. -/
section
structure ZInv (top : Nat) (S : Rat) (acc : List Rat) (c : Rat) (lo : List Rat) : Prop where
 sum : lo.sum + c + acc.sum = S
 exl : Ex (lo ++ [c])
 exa : Ex acc
 fl : ∀ x ∈ lo, F x
 fc : F c
 fa : ∀ x ∈ acc, F x
 room : ∃ p, ab (c + lo.sum) < U p ∧ ab c ≤ U p ∧ p + 52 * acc.length ≤ top ∧ ∀ o ∈ acc, M (U (p + 1)) o
 near : ∀ L, acc.getLast? = some L → ∃ P, U (P + 52) ≤ ab L ∧ ab (S - L) < U P
theorem ZInv.start {top : Nat} {c : Rat} {lo : List Rat} (h : Ex (lo ++ [c])) (hf : ∀ x ∈ lo ++ [c], F x ∧ ab x < U top) : ZInv top ((lo ++ [c]).sum) [] c lo where
 sum := by simp only [List.sum_append, List.sum_cons, List.sum_nil]; grind
 exl := h
 exa := ⟨List.Pairwise.nil, by simp⟩
 fl := fun x hx => (hf x (by simp [hx])).1
 fc := (hf c (by simp)).1
 fa := by simp
 room := ⟨top, by
   have := h.bound (s := top) (fun x hx => (hf x hx).2)
   simp only [List.sum_append, List.sum_cons, List.sum_nil] at this
   rwa [show c + lo.sum = lo.sum + (c + 0) by grind], Rat.le_of_lt (hf c (by simp)).2, by simp, by simp⟩
 near := by simp
theorem ZInv.next {top p : Nat} {S c x : Rat} {acc lo : List Rat} (I : ZInv top S acc c (lo ++ [x])) (h1 : ab (c + (lo ++ [x]).sum) < U p) (h2 : ab c ≤ U p) : ab (c + x) ≤ U p := by
 rw [List.sum_append, List.sum_cons, List.sum_nil, Rat.add_zero] at h1
 have hp := I.exl
 have c0 : c ≠ 0 := hp.2 c (by simp)
 have pw := List.pairwise_append.1 hp.1
 have pw2 := List.pairwise_append.1 pw.1
 by_cases e : lo = []
 · subst e
   rw [List.sum_nil] at h1
   rw [show c + x = c + (0 + x) by grind]
   exact Rat.le_of_lt h1
 · obtain ⟨t, ht, hm⟩ := lo_many (y := c) (l := lo) (fun d hd => pw.2.2 d (by simp [hd]) c (by simp)) e
   obtain ⟨t', ht', hm'⟩ := lo_many (y := x) (l := lo) (fun d hd => pw2.2.2 d hd x (by simp)) e
   obtain ⟨r, hr, m1, m2⟩ : ∃ r, (∀ d ∈ lo, ab d < U r) ∧ M (U r) c ∧ M (U r) x := by
     rcases Nat.le_total t t' with e | e
     · exact ⟨t, ht, hm, hm'.down e⟩
     · exact ⟨t', ht', hm.down e, hm'⟩
   have hb := (Ex.left (b := [x]) ⟨pw.1, fun y hy => hp.2 y (by simp at hy ⊢; grind)⟩).bound hr
   have hrp : r ≤ p := by
     have := m1.ge (U_pos r) c0
     exact U_le_iff.1 (by grind)
   have m3 := m1.add m2
   have mp : M (U r) (U p) := M.down hrp ⟨1, by rw [one_rat]; grind⟩
   have hu := U_pos r
   have hs := ab_lt.1 h1
   have hl := ab_lt.1 hb
   have key : ∀ z : Rat, M (U r) z → z < U p + U r → z ≤ U p := by
     intro z hz hlt
     rcases (Rat.le_total : z ≤ U p ∨ U p ≤ z) with h | h
     · exact h
     · have := M.eq hu hz mp (by grind) (by grind)
       grind
   exact ab_le.2 ⟨key _ m3 (by grind), key _ m3.neg (by grind)⟩
theorem ZInv.tail {top : Nat} {S c x : Rat} {acc lo : List Rat} (I : ZInv top S acc c (lo ++ [x])) : Ex lo ∧ (∀ d ∈ lo, Lo d c ∧ Lo d x) ∧ Lo x c ∧ c ≠ 0 ∧ x ≠ 0 := by
 have hp := I.exl
 have pw := List.pairwise_append.1 hp.1
 have pw2 := List.pairwise_append.1 pw.1
 exact ⟨⟨pw2.1, fun y hy => hp.2 y (by simp [hy])⟩, fun d hd => ⟨pw.2.2 d (by simp [hd]) c (by simp), pw2.2.2 d hd x (by simp)⟩, pw.2.2 x (by simp) c (by simp), hp.2 c (by simp), hp.2 x (by simp)⟩
theorem Ex.snoc {l : List Rat} {x : Rat} (h : Ex l) (h1 : ∀ d ∈ l, Lo d x) (h0 : x ≠ 0) : Ex (l ++ [x]) :=
 ⟨List.pairwise_append.2 ⟨h.1, by simp, fun d hd y hy => by simp at hy; rw [hy]; exact h1 d hd⟩, fun y hy => by
   rcases List.mem_append.1 hy with hy | hy
   · exact h.2 y hy
   · simp at hy; rw [hy]; exact h0⟩
theorem Ex.cons {l : List Rat} {x : Rat} (h : Ex l) (h1 : ∀ d ∈ l, Lo x d) (h0 : x ≠ 0) : Ex (x :: l) :=
 ⟨List.pairwise_cons.2 ⟨h1, h.1⟩, fun y hy => by
   rcases List.mem_cons.1 hy with rfl | hy
   · exact h0
   · exact h.2 y hy⟩
theorem ZInv.take {top : Nat} {S c x : Rat} {acc lo : List Rat} (I : ZInv top S acc c (lo ++ [x])) (fs : F (c + x)) : ZInv top S acc (c + x) lo := by
 obtain ⟨el, hlo, hxc, c0, x0⟩ := I.tail
 obtain ⟨p, r1, r2, r3, r4⟩ := I.room
 have hn := I.next r1 r2
 refine ⟨?_, el.snoc (fun d hd => (hlo d hd).1.add (hlo d hd).2) ?_, I.exa, fun y hy => I.fl y (by simp [hy]), fs, I.fa, ⟨p, ?_, hn, r3, r4⟩, I.near⟩
 · rw [← I.sum, List.sum_append, List.sum_cons, List.sum_nil]; grind
 · intro e
   have := hxc.lt c0
   rw [show c = -x by grind, ab_neg] at this
   grind
 · rw [List.sum_append, List.sum_cons, List.sum_nil] at r1
   rwa [show c + x + lo.sum = c + (lo.sum + (x + 0)) by grind]
theorem M.even {T : Nat} {k : Int} {s : Rat} (h : s = (k : Rat) * U T) (he : k % 2 = 0) : M (U (T + 1)) s := by
 obtain ⟨j, rfl⟩ : ∃ j, k = j * 2 := ⟨k / 2, by omega⟩
 refine ⟨j, ?_⟩
 rw [h, U_succ, Rat.intCast_mul, show ((2 : Int) : Rat) = 2 from rfl]; grind
theorem ZInv.done {top : Nat} {S c : Rat} {acc : List Rat} (I : ZInv top S acc c []) : Ex (c :: acc) ∧ (c :: acc).sum = S ∧ (∀ x ∈ c :: acc, F x) ∧ 52 * (c :: acc).length ≤ top + 52 := by
 obtain ⟨p, r1, r2, r3, r4⟩ := I.room
 have c0 : c ≠ 0 := I.exl.2 c (by simp)
 have hlt : ab c < U (p + 1) := by
   have := U_succ p
   have := U_pos p
   grind
 refine ⟨I.exa.cons (fun o ho => ⟨p + 1, hlt, r4 o ho⟩) c0, ?_, ?_, ?_⟩
 · have := I.sum
   rw [List.sum_nil] at this
   rw [List.sum_cons]; grind
 · intro y hy
   rcases List.mem_cons.1 hy with rfl | hy
   · exact I.fc
   · exact I.fa y hy
 · rw [List.length_cons]; omega
end

/- Signs that are told fast, and differences as lists: plain facts. -/
section
theorem RN.rel {q x : Rat} {t : Nat} (h : RN q x) (hm : M (U t) q) : 9007199254740992 * ab (q - x) ≤ ab x := by
 obtain ⟨T, k, R⟩ := h
 rcases Nat.lt_or_ge t T with ht | ht
 · have hu := U_pos T
   have h1 := R.h1
   have h2 := R.h2
   have hx := R.hx
   have hd : 2 * ab (q - x) ≤ U T := by
     have : ab (q - x) ≤ U T / 2 := ab_le.2 ⟨by grind, by grind⟩
     grind
   have hk : 4503599627370496 * U T ≤ ab x := by
     rcases R.h3 with h | h | h
     · omega
     · have : (4503599627370495 : Int) < k := by
         apply cast_lt hu
         rw [← hx, show ((4503599627370495 : Int) : Rat) = 4503599627370495 from rfl]
         grind
       have h3 : (4503599627370496 : Int) ≤ k := by omega
       have h4 : ((4503599627370496 : Int) : Rat) * U T ≤ (k : Rat) * U T := Rat.mul_le_mul_of_nonneg_right (Rat.intCast_le_intCast.2 h3) (Rat.le_of_lt hu)
       rw [← hx, show ((4503599627370496 : Int) : Rat) = 4503599627370496 from rfl] at h4
       exact le_ab.2 (Or.inl h4)
     · have : k < (-4503599627370495 : Int) := by
         apply cast_lt hu
         rw [← hx, show ((-4503599627370495 : Int) : Rat) = -4503599627370495 from rfl]
         grind
       have h3 : k ≤ (-4503599627370496 : Int) := by omega
       have h4 : (k : Rat) * U T ≤ ((-4503599627370496 : Int) : Rat) * U T := Rat.mul_le_mul_of_nonneg_right (Rat.intCast_le_intCast.2 h3) (Rat.le_of_lt hu)
       rw [← hx, show ((-4503599627370496 : Int) : Rat) = -4503599627370496 from rfl] at h4
       exact le_ab.2 (Or.inr (by grind))
   grind
 · have e := R.mult (hm.down ht)
   subst e
   rw [show x - x = 0 by grind, show ab 0 = 0 by unfold ab; grind]
   have := ab_nonneg x
   grind
theorem F_int (n : Int) (h1 : -9007199254740992 ≤ n) (h2 : n ≤ 9007199254740992) : F (n : Rat) :=
 ⟨1074, n, by rw [show U 1074 = 1 from by unfold U; exact p2_zero]; grind, h1, h2⟩
theorem RN.lo {q x y : Rat} (h : RN q x) (e : x + y = q) : Lo y x := by
 obtain ⟨T, k, R⟩ := h
 have hu := U_pos T
 have h1 := R.h1
 have h2 := R.h2
 exact ⟨T, ab_lt.2 ⟨by grind, by grind⟩, R.m⟩
end

/- What the rows of this seat share: the five tables that the condition lays (one of them pinned), the heap that lays them. -/
section
open Go.ChangeShapes Go.WideShapes Go.ChangeAt Go.WideMaps Go.WideElems Go.RowKit
theorem own : ownKnob Tryd.prog.godebug = none := by kernel_rfl
theorem laidOut : laidOutB Tryd.prog = true := by kernel_rfl
abbrev laidTab : List (String × DataW Unit) := [("math/bits.deBruijn32tab", Rows.laid_math_bits_deBruijn32tab), ("math/bits.deBruijn64tab", Rows.laid_math_bits_deBruijn64tab), ("internal/strconv.uint64pow10", Rows.laid_internal_strconv_uint64pow10), ("unicode/utf8.acceptRanges", Rows.laid_unicode_utf8_acceptRanges), ("unicode/utf8.first", Rows.laid_unicode_utf8_first)]
theorem gTab : Tryd.prog.globalNamed "math/bits.deBruijn64tab" = some 1 := by kernel_rfl
theorem tTab : (Tryd.prog.globals[1]?).map (·.type) = some 99 := by kernel_rfl
theorem uTab : Tryd.prog.underlying 99 = some (.array 64 5) := by kernel_rfl
theorem uByte : Tryd.prog.underlying 5 = some (.int .u8) := by kernel_rfl
theorem cByte : Tryd.prog.cellsOf 5 = 1 := by kernel_rfl
theorem cTab : Tryd.prog.cellsOf 99 = 64 := by kernel_rfl
theorem gPow : Tryd.prog.globalNamed "internal/strconv.uint64pow10" = some 2 := by kernel_rfl
theorem tPow : (Tryd.prog.globals[2]?).map (·.type) = some 120 := by kernel_rfl
theorem uPow : Tryd.prog.underlying 120 = some (.array 20 80) := by kernel_rfl
theorem uU64 : Tryd.prog.underlying 80 = some (.int .u64) := by kernel_rfl
theorem cU64 : Tryd.prog.cellsOf 80 = 1 := by kernel_rfl
theorem cPow : Tryd.prog.cellsOf 120 = 20 := by kernel_rfl
theorem met14 (os : Os) (args : Array Value) : laidMetH Tryd.prog laidTab ((World.laidAll Tryd.prog os laidTab).forCall (fun _ _ => 0) ⟨#[], args, []⟩).memory := by
 rw [MakeChecks.laidMetH_plain _ _ _ (by kernel_rfl)]
 exact laidMet_laidAll _ (by kernel_rfl) (by kernel_rfl)
theorem t8_of_laid {W : World} (h : laidMetH Tryd.prog laidTab W) : T8 W := by
 rw [MakeChecks.laidMetH_plain _ _ _ (by kernel_rfl)] at h
 have h1 := laidMet.tail h
 have h2 := laidMet.tail h1
 have h1' : laidMet Tryd.prog (("math/bits.deBruijn64tab", Lib.tabData .u8 (Lib.deBruijn64tab.map (fun (n : Nat) => (n : Int)))) :: [("internal/strconv.uint64pow10", Rows.laid_internal_strconv_uint64pow10), ("unicode/utf8.acceptRanges", Rows.laid_unicode_utf8_acceptRanges), ("unicode/utf8.first", Rows.laid_unicode_utf8_first)]) W := h1
 have h2' : laidMet Tryd.prog (("internal/strconv.uint64pow10", Lib.tabData .u64 Lib.pow10Tab) :: [("unicode/utf8.acceptRanges", Rows.laid_unicode_utf8_acceptRanges), ("unicode/utf8.first", Rows.laid_unicode_utf8_first)]) W := h2
 have hT := Lib.tabIs_of_head gTab tTab uTab uByte cByte cTab h1'
 refine ⟨?_, Lib.tabIs_of_head gPow tPow uPow uU64 cU64 cPow h2'⟩
 intro j hj
 have := hT.cell gTab j (by simpa using hj)
 rw [this]
 simp [List.getD, List.getElem?_map]
 cases Lib.deBruijn64tab[j]? <;> simp
theorem inR_of {n : Int} (h : (Lit.int .i64 n).wf = true) : InR n := by
 simp only [Lit.wf, Bool.and_eq_true, decide_eq_true_eq] at h
 exact ⟨h.1, h.2⟩
theorem float_of_trod {H : Type} {enc : TypeId × Value → H} {P : Program} {w : World} {base m : Nat} {sp : Nat → Bool} {held : Bool} {e : TypeId} {c : Value} {x : DataW H × List MemPlace}
   (he : P.underlying e = some (.float .f64)) (h : DataW.trod enc P w base sp held m e [c] = some x) : ∃ b, c = .float .f64 b ∧ b < 18446744073709551616 := by
 cases m with
 | zero => simp [DataW.trod] at h
 | succ m =>
   unfold DataW.trod at h
   rw [he] at h
   cases c with
   | float k b =>
     simp only [] at h
     split at h
     · rename_i hk
       obtain ⟨rfl, hw⟩ := hk
       exact ⟨b, rfl, by simpa [Lit.wf, FloatKind.has] using hw⟩
     · cases h
   | _ => simp at h
end
end Go.Proofs.YtifjfgafpfefpaaDoor
