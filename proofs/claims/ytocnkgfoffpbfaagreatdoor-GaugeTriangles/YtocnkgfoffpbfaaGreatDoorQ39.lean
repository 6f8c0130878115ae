/- Own texts, put together: Gp. -/
import Derived.Test.YtocnkgfoffpbfaaGreatDoorQ3
import Derived.Test.YtocnkgfoffpbfaaGreatDoorQ36
/- Cosines in floats; two boxes while a chain goes on. -/
namespace Go.Proofs.YtocnkgfoffpbfaaGreatDoor

theorem mul_ok {a b : Nat} {p q r : Nat} (fa : Fin64 a) (fb : Fin64 b) (h1 : ab (fval a) ≤ U p) (h2 : ab (fval b) ≤ U q) (e : r + 1074 = p + q) (hr : r ≤ 2000) {s t u : Nat} (m1 : M (U s) (fval a)) (m2 : M (U t) (fval b)) (e2 : u + 1074 = s + t) :
   ∃ c, floatBits .mul .f64 a b = some c ∧ Fin64 c ∧ c < 18446744073709551616 ∧ RN (fval a * fval b) (fval c) ∧ M (U u) (fval a * fval b) ∧ ab (fval c) ≤ U r := by
 have hl : ab (fval a * fval b) ≤ U r := mul_le_U h1 h2 e
 have hm : M (U u) (fval a * fval b) := by
   have := m1.mul m2
   rwa [U_mulX' (s := s) (t := t) (r := u) e2] at this
 obtain ⟨c, ec, fc, wc, rc⟩ := mul_bits fa fb (lim_U hl hr)
 exact ⟨c, ec, fc, wc, rc.rn, hm, rc.rn.le hl⟩

theorem inf_sub {a : Nat} (ha : Fin64 a) : floatBits .sub .f64 a 9218868437227405312 = some 18442240474082181120 ∧ floatBits .sub .f64 a 18442240474082181120 = some 9218868437227405312 ∧ floatBits .add .f64 a 9218868437227405312 = some 9218868437227405312 := by
 have i1 : Ieee.double.read 9218868437227405312 = .infinity false := by decide
 have i2 : Ieee.double.read 18442240474082181120 = .infinity true := by decide
 refine ⟨?_, ?_, ?_⟩
 · show ((Ieee.double.read a).sum (Ieee.double.read 9218868437227405312).opposite).map Ieee.double.write = _
   rw [read_fin ha, i1]
   show some (Ieee.double.write (.infinity true)) = _
   decide
 · show ((Ieee.double.read a).sum (Ieee.double.read 18442240474082181120).opposite).map Ieee.double.write = _
   rw [read_fin ha, i2]
   show some (Ieee.double.write (.infinity false)) = _
   decide
 · show ((Ieee.double.read a).sum (Ieee.double.read 9218868437227405312)).map Ieee.double.write = _
   rw [read_fin ha, i1]
   show some (Ieee.double.write (.infinity false)) = _
   decide

theorem cosine_word {P L1 L2 : Rat} {s z l1 z1 l2 z2 g : Nat} (h : ProdW P s z) (h1 : ProdW L1 l1 z1) (h2 : ProdW L2 l2 z2) (p1 : 0 ≤ fval l1) (p2 : 0 ≤ fval l2) (k1 : 9223372036854775808 * ab (L1 - fval l1) ≤ 4098 * fval l1) (k2 : 9223372036854775808 * ab (L2 - fval l2) ≤ 4098 * fval l2) (hg : Fin64 g) (hP : P ≠ 0) :
   ∃ f b ss x zq w v, floatBits .mul .f64 l1 l2 = some f ∧ floatBits .mul .f64 g f = some b ∧ floatBits .mul .f64 s s = some ss ∧ floatBits .sub .f64 ss b = some x ∧ floatBits .mul .f64 z z = some zq ∧ floatBits .add .f64 zq (frung b) = some w ∧ floatBits .mul .f64 4386506037058863104 w = some v ∧ b < 18446744073709551616 ∧ x < 18446744073709551616 ∧
     ((FloatKind.f64.format.order (frung x) v == some .gt) = true → Fin64 x ∧ sgq (fval x) = sgq (P * P - fval g * L1 * L2)) := by
 obtain ⟨f, ef, ff, wf, nf, mf, lf⟩ := mul_ok h1.fs h2.fs h1.ls h2.ls (r := 1480) (by omega) (by omega) h1.ms h2.ms (u := 674) (by omega)
 obtain ⟨ss, es, fss, ws, ns, ms, ls⟩ := mul_ok h.fs h.fs h.ls h.ls (r := 1480) (by omega) (by omega) h.ms h.ms (u := 674) (by omega)
 obtain ⟨zq, ez, fz, wz, nz, mz, lz⟩ := mul_ok h.fz h.fz h.lz h.lz (r := 1480) (by omega) (by omega) h.mz h.mz (u := 674) (by omega)
 obtain ⟨b, eb, rb⟩ := mul_full hg ff
 obtain ⟨wb, hb⟩ := rb.cases
 rcases hb with ⟨fb, vb⟩ | ⟨rfl, _⟩ | ⟨rfl, _⟩
 · -- finite
   have up : U 1480 ≤ U 2000 := U_mono (by omega)
   obtain ⟨x, ex, rx⟩ := sub_full fss fb
   obtain ⟨wx, fx, rx⟩ := rx.fin (sum_lim (Rat.le_trans ls up) (fval_le_top fb)).1
   have vab := ab_fval b fb
   obtain ⟨w, ew, rw'⟩ := add_full fz (fin_small fb : Fin64 (frung b))
   rw [vab] at rw'
   have aa : ab (ab (fval b)) = ab (fval b) := ab_pos' (ab_nonneg _)
   obtain ⟨ww, fw, rw'⟩ := rw'.fin (sum_lim (Rat.le_trans lz up) (by rw [aa]; exact fval_le_top fb)).2
   have q0 : 0 ≤ fval zq := nz.nonneg mz (sq_nonneg _)
   have b0 := ab_nonneg (fval b)
   have mw : M (U 0) (fval zq + ab (fval b)) := (M0 fz).add (M0 fb).ab
   have w0 := rw'.rn.nonneg mw (by grind)
   obtain ⟨v, ev, _, _, hv⟩ := tell_word fx fw w0
   refine ⟨f, b, ss, x, zq, w, v, ef, eb, es, ex, ez, ew, ev, wb, wx, fun k => ⟨fx, ?_⟩⟩
   -- the size is not 0
   have z1 : fval z ≠ 0 := by
     intro e
     have c1 := h.err
     have c2 := h.le
     rw [e] at c1 c2
     have d1 := ab_zero (x := P - fval s) (by have := ab_nonneg (P - fval s); grind)
     have d2 := ab_zero (x := fval s) (by have := ab_nonneg (fval s); grind)
     exact hP (by grind)
   have q1 : fval zq ≠ 0 := by
     intro e
     have c := nz.rel mz
     rw [e, show ab 0 = 0 by unfold ab; grind] at c
     have := ab_zero (x := fval z * fval z - 0) (by have := ab_nonneg (fval z * fval z - 0); grind)
     exact z1 (sq_zero (by grind))
   have q2 : U 674 ≤ fval zq := by
     have := (nz.mm mz).ge (U_pos 674) q1
     rwa [ab_pos' q0] at this
   have kk : U 674 ≤ fval w := by
     obtain ⟨T, kT, R⟩ := rw'.rn
     have F8 : F (U 674) := ⟨674, 1, by rw [one_rat]; grind, by omega, by omega⟩
     apply Classical.byContradiction
     intro hn
     have hb := R.best F8 (c := fval zq + ab (fval b) - U 674) (by grind) (by grind)
     grind
   have hm : M (U 622) (fval w) := (word_F fw).mult (K := 674) (by rw [ab_pos' w0]; exact kk)
   rw [hv ⟨622, by omega, hm⟩] at k
   refine tell ?_ (of_decide_eq_true k)
   have u52 : 1024 * U 52 ≤ fval zq := by
     have a1 : U (52 + 10) = ((2 ^ 10 : Nat) : Rat) * U 52 := U_add 52 10
     have a2 := U_mono (show 62 ≤ 674 by omega)
     rw [show ((2 ^ 10 : Nat) : Rat) = 1024 from rfl] at a1
     rw [← a1]
     exact Rat.le_trans a2 q2
   obtain ⟨s1, s2⟩ := square_err h.err h.le h.z0 (ns.rel ms) (nz.rel mz) q0
   have t1 := sq_prod_err (p := L1) (q := L2) (x := fval l1) (y := fval l2) (by rw [ab_pos' p1]; exact k1) (by rw [ab_pos' p2]; exact k2) (nf.rel mf)
   have t2 := times_err (g := fval g) t1 vb.rn.rel2 (Rat.le_of_lt (U_pos 52))
   rw [show fval g * (L1 * L2) = fval g * L1 * L2 by grind] at t2
   exact cosine_err s1 s2 t2 (rx.rn.rel ((M0 fss).sub (M0 fb))) (rw'.rn.rel mw) q0 w0 u52
 · obtain ⟨i1, i2, i3⟩ := inf_sub fss
   obtain ⟨_, _, j3⟩ := inf_sub fz
   exact ⟨f, _, ss, _, zq, _, 9218868437227405312, ef, eb, es, i1, ez, j3, by decide, by omega, by omega, fun k => absurd k (by decide)⟩
 · obtain ⟨i1, i2, i3⟩ := inf_sub fss
   obtain ⟨_, _, j3⟩ := inf_sub fz
   exact ⟨f, _, ss, _, zq, _, 9218868437227405312, ef, eb, es, i2, ez, j3, by decide, by omega, by omega, fun k => absurd k (by decide)⟩

section
open Go Go.RowKit
variable {P : Program} {ops : Array Oper} {Q : Exit → Act → World → Prop} {md : Region.Mode} {S : World → Prop}

theorem draw2 {n f al be : Nat} (c : Nat → Nat) (L : Bool → Bool → Nat → Array Bool) (I : Bool → Bool → Nat → Act → World → Prop)
   (hr : ∀ x y k, k ≤ n → (x = true → y = true → k < n) → Region.ready md ops (L x y k) = (if k < n then [c k] else []) ++ ((if x then [] else [al]) ++ (if y then [] else [be])))
   (hLc : ∀ x y k, k < n → (L x y k).setIfInBounds (c k) true = L x y (k + 1))
   (hLa : ∀ y k, k ≤ n → (L false y k).setIfInBounds al true = L true y k)
   (hLb : ∀ x k, k ≤ n → (L x false k).setIfInBounds be true = L x true k)
   (hc : ∀ x y k, k < n → Step1 P ops Q S (I x y k) (I x y (k + 1)) (c k))
   (ha : ∀ y k, k ≤ n → Step1 P ops Q S (I false y k) (I true y k) al)
   (hb : ∀ x k, k ≤ n → Step1 P ops Q S (I x false k) (I x true k) be)
   (hfin : ∀ a w, I true true n a w → wpAnyH P md ops Q S f (L true true n) a w) :
   ∀ d x y k a w, k ≤ n → x.toNat + y.toNat + k + d = 2 + n → I x y k a w → wpAnyH P md ops Q S (f + d) (L x y k) a w := by
 intro d
 induction d with
 | zero =>
   intro x y k a w hk hd hI
   have hx : x = true ∧ y = true ∧ k = n := by
     cases x <;> cases y <;> simp at hd ⊢ <;> omega
   obtain ⟨rfl, rfl, rfl⟩ := hx
   exact hfin a w hI
 | succ d ih =>
   intro x y k a w hk hd hI
   have h1 : x = true → y = true → k < n := by
     intro h h'; subst h h'; simp at hd; omega
   refine wpAnyH_ready (fuel := f + d) (hr x y k hk h1) ?_ (fun i hi => ?_)
   · cases x <;> cases y <;> simp
     exact h1 rfl rfl
   · have hcase : (k < n ∧ i = c k) ∨ (x = false ∧ i = al) ∨ (y = false ∧ i = be) := by
       rcases List.mem_append.1 hi with h | h
       · split at h
         · rename_i hl; exact Or.inl ⟨hl, by simpa using h⟩
         · cases h
       · rcases List.mem_append.1 h with h | h
         · cases x
           · exact Or.inr (Or.inl ⟨rfl, by simpa using h⟩)
           · simp at h
         · cases y
           · exact Or.inr (Or.inr ⟨rfl, by simpa using h⟩)
           · simp at h
     rcases hcase with ⟨hl, rfl⟩ | ⟨rfl, rfl⟩ | ⟨rfl, rfl⟩
     · obtain ⟨o, ho, hw⟩ := hc x y k hl
       refine (AllReadyH.cons (rs := []) ho (fun K' hK => hw a w hI K' ?_) AllReadyH.nil) _ (by simp)
       intro a' w' hS' hI'
       refine hK.out a' w' hS' (fun _ => ?_)
       rw [hLc x y k hl]
       exact ih x y (k + 1) a' w' (by omega) (by omega) hI'
     · obtain ⟨o, ho, hw⟩ := ha y k hk
       refine (AllReadyH.cons (rs := []) ho (fun K' hK => hw a w hI K' ?_) AllReadyH.nil) _ (by simp)
       intro a' w' hS' hI'
       refine hK.out a' w' hS' (fun _ => ?_)
       rw [hLa y k hk]
       exact ih true y k a' w' hk (by simp at hd ⊢; omega) hI'
     · obtain ⟨o, ho, hw⟩ := hb x k hk
       refine (AllReadyH.cons (rs := []) ho (fun K' hK => hw a w hI K' ?_) AllReadyH.nil) _ (by simp)
       intro a' w' hS' hI'
       refine hK.out a' w' hS' (fun _ => ?_)
       rw [hLb x k hk]
       exact ih x true k a' w' hk (by simp at hd ⊢; omega) hI'
end

end Go.Proofs.YtocnkgfoffpbfaaGreatDoor
