/- Own texts, put together: Gp Kd. -/
import Derived.Test.YtocnkgfoffpbfaaGreatDoorQ4
import Derived.Test.YtocnkgfoffpbfaaGreatDoorQ26
import Derived.Test.YtocnkgfoffpbfaaGreatDoorQ27
namespace Go.Proofs.YtocnkgfoffpbfaaGreatDoor
/- Cosines in floats; two boxes while a chain goes on. -/
section
theorem mul_ok {a b : Nat} {p q r : Nat} (fa : Fin64 a) (fb : Fin64 b) (h1 : ab (fval a) ≤ U p) (h2 : ab (fval b) ≤ U q) (e : r + 1074 = p + q) (hr : r ≤ 2000) {s t u : Nat} (m1 : M (U s) (fval a)) (m2 : M (U t) (fval b)) (e2 : u + 1074 = s + t) :
   ∃ c, floatBits .mul .f64 a b = some c ∧ Fin64 c ∧ c < 18446744073709551616 ∧ RN (fval a * fval b) (fval c) ∧ M (U u) (fval a * fval b) ∧ ab (fval c) ≤ U r := by
 have hl : ab (fval a * fval b) ≤ U r := mul_le_U h1 h2 e
 have hm : M (U u) (fval a * fval b) := by
   have := m1.mul m2
   rwa [U_mulX' (s := s) (t := t) (r := u) e2] at this
 obtain ⟨c, ec, fc, wc, rc⟩ := mul_bits fa fb (lim_U hl hr)
 exact ⟨c, ec, fc, wc, rc.rn, hm, rc.rn.le hl⟩
theorem inf_sub {a : Nat} (ha : Fin64 a) : floatBits .sub .f64 a 9218868437227405312 = some 18442240474082181120 ∧ floatBits .sub .f64 a 18442240474082181120 = some 9218868437227405312 ∧ floatBits .add .f64 a 9218868437227405312 = some 9218868437227405312 := by
 have i1 : Ieee.double.read 9218868437227405312 = .infinity false := by decide
 have i2 : Ieee.double.read 18442240474082181120 = .infinity true := by decide
 refine ⟨?_, ?_, ?_⟩
 · show ((Ieee.double.read a).sum (Ieee.double.read 9218868437227405312).opposite).map Ieee.double.write = _
   rw [read_fin ha, i1]
   show some (Ieee.double.write (.infinity true)) = _
   decide
 · show ((Ieee.double.read a).sum (Ieee.double.read 18442240474082181120).opposite).map Ieee.double.write = _
   rw [read_fin ha, i2]
   show some (Ieee.double.write (.infinity false)) = _
   decide
 · show ((Ieee.double.read a).sum (Ieee.double.read 9218868437227405312)).map Ieee.double.write = _
   rw [read_fin ha, i1]
   show some (Ieee.double.write (.infinity false)) = _
   decide
theorem cosine_word {P L1 L2 : Rat} {s z l1 z1 l2 z2 g : Nat} (h : ProdW P s z) (h1 : ProdW L1 l1 z1) (h2 : ProdW L2 l2 z2) (p1 : 0 ≤ fval l1) (p2 : 0 ≤ fval l2) (k1 : 9223372036854775808 * ab (L1 - fval l1) ≤ 4098 * fval l1) (k2 : 9223372036854775808 * ab (L2 - fval l2) ≤ 4098 * fval l2) (hg : Fin64 g) (hP : P ≠ 0) :
   ∃ f b ss x zq w v, floatBits .mul .f64 l1 l2 = some f ∧ floatBits .mul .f64 g f = some b ∧ floatBits .mul .f64 s s = some ss ∧ floatBits .sub .f64 ss b = some x ∧ floatBits .mul .f64 z z = some zq ∧ floatBits .add .f64 zq (frung b) = some w ∧ floatBits .mul .f64 4386506037058863104 w = some v ∧ b < 18446744073709551616 ∧ x < 18446744073709551616 ∧
     ((FloatKind.f64.format.order (frung x) v == some .gt) = true → Fin64 x ∧ sgq (fval x) = sgq (P * P - fval g * L1 * L2)) := by
 obtain ⟨f, ef, ff, wf, nf, mf, lf⟩ := mul_ok h1.fs h2.fs h1.ls h2.ls (r := 1480) (by omega) (by omega) h1.ms h2.ms (u := 674) (by omega)
 obtain ⟨ss, es, fss, ws, ns, ms, ls⟩ := mul_ok h.fs h.fs h.ls h.ls (r := 1480) (by omega) (by omega) h.ms h.ms (u := 674) (by omega)
 obtain ⟨zq, ez, fz, wz, nz, mz, lz⟩ := mul_ok h.fz h.fz h.lz h.lz (r := 1480) (by omega) (by omega) h.mz h.mz (u := 674) (by omega)
 obtain ⟨b, eb, rb⟩ := mul_full hg ff
 obtain ⟨wb, hb⟩ := rb.cases
 rcases hb with ⟨fb, vb⟩ | ⟨rfl, _⟩ | ⟨rfl, _⟩
 · -- finite
   have up : U 1480 ≤ U 2000 := U_mono (by omega)
   obtain ⟨x, ex, rx⟩ := sub_full fss fb
   obtain ⟨wx, fx, rx⟩ := rx.fin (sum_lim (Rat.le_trans ls up) (fval_le_top fb)).1
   have vab := ab_fval b fb
   obtain ⟨w, ew, rw'⟩ := add_full fz (fin_small fb : Fin64 (frung b))
   rw [vab] at rw'
   have aa : ab (ab (fval b)) = ab (fval b) := ab_pos' (ab_nonneg _)
   obtain ⟨ww, fw, rw'⟩ := rw'.fin (sum_lim (Rat.le_trans lz up) (by rw [aa]; exact fval_le_top fb)).2
   have q0 : 0 ≤ fval zq := nz.nonneg mz (sq_nonneg _)
   have b0 := ab_nonneg (fval b)
   have mw : M (U 0) (fval zq + ab (fval b)) := (M0 fz).add (M0 fb).ab
   have w0 := rw'.rn.nonneg mw (by grind)
   obtain ⟨v, ev, _, _, hv⟩ := tell_word fx fw w0
   refine ⟨f, b, ss, x, zq, w, v, ef, eb, es, ex, ez, ew, ev, wb, wx, fun k => ⟨fx, ?_⟩⟩
   -- the size is not 0
   have z1 : fval z ≠ 0 := by
     intro e
     have c1 := h.err
     have c2 := h.le
     rw [e] at c1 c2
     have d1 := ab_zero (x := P - fval s) (by have := ab_nonneg (P - fval s); grind)
     have d2 := ab_zero (x := fval s) (by have := ab_nonneg (fval s); grind)
     exact hP (by grind)
   have q1 : fval zq ≠ 0 := by
     intro e
     have c := nz.rel mz
     rw [e, show ab 0 = 0 by unfold ab; grind] at c
     have := ab_zero (x := fval z * fval z - 0) (by have := ab_nonneg (fval z * fval z - 0); grind)
     exact z1 (sq_zero (by grind))
   have q2 : U 674 ≤ fval zq := by
     have := (nz.mm mz).ge (U_pos 674) q1
     rwa [ab_pos' q0] at this
   have kk : U 674 ≤ fval w := by
     obtain ⟨T, kT, R⟩ := rw'.rn
     have F8 : F (U 674) := ⟨674, 1, by rw [one_rat]; grind, by omega, by omega⟩
     apply Classical.byContradiction
     intro hn
     have hb := R.best F8 (c := fval zq + ab (fval b) - U 674) (by grind) (by grind)
     grind
   have hm : M (U 622) (fval w) := (word_F fw).mult (K := 674) (by rw [ab_pos' w0]; exact kk)
   rw [hv ⟨622, by omega, hm⟩] at k
   refine tell ?_ (of_decide_eq_true k)
   have u52 : 1024 * U 52 ≤ fval zq := by
     have a1 : U (52 + 10) = ((2 ^ 10 : Nat) : Rat) * U 52 := U_add 52 10
     have a2 := U_mono (show 62 ≤ 674 by omega)
     rw [show ((2 ^ 10 : Nat) : Rat) = 1024 from rfl] at a1
     rw [← a1]
     exact Rat.le_trans a2 q2
   obtain ⟨s1, s2⟩ := square_err h.err h.le h.z0 (ns.rel ms) (nz.rel mz) q0
   have t1 := sq_prod_err (p := L1) (q := L2) (x := fval l1) (y := fval l2) (by rw [ab_pos' p1]; exact k1) (by rw [ab_pos' p2]; exact k2) (nf.rel mf)
   have t2 := times_err (g := fval g) t1 vb.rn.rel2 (Rat.le_of_lt (U_pos 52))
   rw [show fval g * (L1 * L2) = fval g * L1 * L2 by grind] at t2
   exact cosine_err s1 s2 t2 (rx.rn.rel ((M0 fss).sub (M0 fb))) (rw'.rn.rel mw) q0 w0 u52
 · obtain ⟨i1, i2, i3⟩ := inf_sub fss
   obtain ⟨_, _, j3⟩ := inf_sub fz
   exact ⟨f, _, ss, _, zq, _, 9218868437227405312, ef, eb, es, i1, ez, j3, by decide, by omega, by omega, fun k => absurd k (by decide)⟩
 · obtain ⟨i1, i2, i3⟩ := inf_sub fss
   obtain ⟨_, _, j3⟩ := inf_sub fz
   exact ⟨f, _, ss, _, zq, _, 9218868437227405312, ef, eb, es, i2, ez, j3, by decide, by omega, by omega, fun k => absurd k (by decide)⟩
section
open Go Go.RowKit
variable {P : Program} {ops : Array Oper} {Q : Exit → Act → World → Prop} {md : Region.Mode} {S : World → Prop}
theorem draw2 {n f al be : Nat} (c : Nat → Nat) (L : Bool → Bool → Nat → Array Bool) (I : Bool → Bool → Nat → Act → World → Prop)
   (hr : ∀ x y k, k ≤ n → (x = true → y = true → k < n) → Region.ready md ops (L x y k) = (if k < n then [c k] else []) ++ ((if x then [] else [al]) ++ (if y then [] else [be])))
   (hLc : ∀ x y k, k < n → (L x y k).setIfInBounds (c k) true = L x y (k + 1))
   (hLa : ∀ y k, k ≤ n → (L false y k).setIfInBounds al true = L true y k)
   (hLb : ∀ x k, k ≤ n → (L x false k).setIfInBounds be true = L x true k)
   (hc : ∀ x y k, k < n → Step1 P ops Q S (I x y k) (I x y (k + 1)) (c k))
   (ha : ∀ y k, k ≤ n → Step1 P ops Q S (I false y k) (I true y k) al)
   (hb : ∀ x k, k ≤ n → Step1 P ops Q S (I x false k) (I x true k) be)
   (hfin : ∀ a w, I true true n a w → wpAnyH P md ops Q S f (L true true n) a w) :
   ∀ d x y k a w, k ≤ n → x.toNat + y.toNat + k + d = 2 + n → I x y k a w → wpAnyH P md ops Q S (f + d) (L x y k) a w := by
 intro d
 induction d with
 | zero =>
   intro x y k a w hk hd hI
   have hx : x = true ∧ y = true ∧ k = n := by
     cases x <;> cases y <;> simp at hd ⊢ <;> omega
   obtain ⟨rfl, rfl, rfl⟩ := hx
   exact hfin a w hI
 | succ d ih =>
   intro x y k a w hk hd hI
   have h1 : x = true → y = true → k < n := by
     intro h h'; subst h h'; simp at hd; omega
   refine wpAnyH_ready (fuel := f + d) (hr x y k hk h1) ?_ (fun i hi => ?_)
   · cases x <;> cases y <;> simp
     exact h1 rfl rfl
   · have hcase : (k < n ∧ i = c k) ∨ (x = false ∧ i = al) ∨ (y = false ∧ i = be) := by
       rcases List.mem_append.1 hi with h | h
       · split at h
         · rename_i hl; exact Or.inl ⟨hl, by simpa using h⟩
         · cases h
       · rcases List.mem_append.1 h with h | h
         · cases x
           · exact Or.inr (Or.inl ⟨rfl, by simpa using h⟩)
           · simp at h
         · cases y
           · exact Or.inr (Or.inr ⟨rfl, by simpa using h⟩)
           · simp at h
     rcases hcase with ⟨hl, rfl⟩ | ⟨rfl, rfl⟩ | ⟨rfl, rfl⟩
     · obtain ⟨o, ho, hw⟩ := hc x y k hl
       refine (AllReadyH.cons (rs := []) ho (fun K' hK => hw a w hI K' ?_) AllReadyH.nil) _ (by simp)
       intro a' w' hS' hI'
       refine hK.out a' w' hS' (fun _ => ?_)
       rw [hLc x y k hl]
       exact ih x y (k + 1) a' w' (by omega) (by omega) hI'
     · obtain ⟨o, ho, hw⟩ := ha y k hk
       refine (AllReadyH.cons (rs := []) ho (fun K' hK => hw a w hI K' ?_) AllReadyH.nil) _ (by simp)
       intro a' w' hS' hI'
       refine hK.out a' w' hS' (fun _ => ?_)
       rw [hLa y k hk]
       exact ih true y k a' w' hk (by simp at hd ⊢; omega) hI'
     · obtain ⟨o, ho, hw⟩ := hb x k hk
       refine (AllReadyH.cons (rs := []) ho (fun K' hK => hw a w hI K' ?_) AllReadyH.nil) _ (by simp)
       intro a' w' hS' hI'
       refine hK.out a' w' hS' (fun _ => ?_)
       rw [hLb x k hk]
       exact ih x true k a' w' hk (by simp at hd ⊢; omega) hI'
end
end

/- The document's side of layer 6: Square. -/
section
open Go.RowKit Go.Shelf
attribute [local go_sem] run_store_float
theorem BoxN.lt {w : World} {b : Nat} {S E : Int} {sv : Value} (h : BoxN w b S sv E) : b < w.heap.size := h.cells.2.2.2.2
def XBox (w : World) (b : Nat) : Prop := ∃ S E v, BoxN w b S v E
theorem XBox.later {w w' : World} {b : Nat} (h : XBox w b) (hb : Below w.heap.size w w') : XBox w' b := by
 obtain ⟨S, E, v, hx⟩ := h
 exact ⟨S, E, v, hx.later hb⟩
theorem XBox.other3 {W : World} {b b' : Nat} (h : XBox W b') (hne : b' ≠ b) (x y z : Value) : XBox (((W.setCell ⟨b, 0, none⟩ x).setCell ⟨b, 1, none⟩ y).setCell ⟨b, 2, none⟩ z) b' := by
 obtain ⟨S, E, v, hx⟩ := h
 exact ⟨S, E, v, hx.other3 hne x y z⟩
theorem XBox.lt {w : World} {b : Nat} (h : XBox w b) : b < w.heap.size := by
 obtain ⟨S, E, v, hx⟩ := h
 exact hx.lt
set_option maxRecDepth 100000 in
set_option maxHeartbeats 4000000 in
theorem square_ref (ax ay bx by' : Nat) (w : World) (hw : (ax < 18446744073709551616 ∧ ay < 18446744073709551616 ∧ bx < 18446744073709551616 ∧ by' < 18446744073709551616)) (hf : (Fin64 ax ∧ Fin64 ay ∧ Fin64 bx ∧ Fin64 by')) :
   Calls Tryz.prog 33 #[pv ax ay, pv bx by'] w fun e w' => RfR w w' ((fval bx - fval ax) * (fval bx - fval ax) + (fval by' - fval ay) * (fval by' - fval ay)) e := by
 have HW : Hid (ax < 18446744073709551616 ∧ ay < 18446744073709551616 ∧ bx < 18446744073709551616 ∧ by' < 18446744073709551616) := hw
 have HF : Hid (Fin64 ax ∧ Fin64 ay ∧ Fin64 bx ∧ Fin64 by') := hf
 clear hw hf
 go_enter Tryz.func33, Tryz.ntmps33
 go_wp2_with fail
 obtain ⟨W0, hW0⟩ : ∃ W0, W0 = ((w.alloc (.cells #[.float .f64 ax, .float .f64 ay] 24)).alloc (.cells #[.float .f64 bx, .float .f64 by'] 24)).alloc (.cells #[.int .i64 0, .slice none 0 0, .int .i64 0] 58) := ⟨_, rfl⟩
 have z0 : W0.drew.cell? ⟨w.heap.size, 0, none⟩ = some (.float .f64 ax) := by rw [hW0]; go_simp
 have z1 : W0.drew.cell? ⟨w.heap.size, 1, none⟩ = some (.float .f64 ay) := by rw [hW0]; go_simp
 have z2 : W0.drew.cell? ⟨w.heap.size + 1, 0, none⟩ = some (.float .f64 bx) := by rw [hW0]; go_simp
 have z3 : W0.drew.cell? ⟨w.heap.size + 1, 1, none⟩ = some (.float .f64 by') := by rw [hW0]; go_simp
 have HB1 : Hid (Below w.heap.size w W0) := by
   rw [hW0]
   exact (((Below.refl _ w).alloc (Nat.le_refl _) _).alloc (by simp) _).alloc (by simp; omega) _
 have HX0 : Hid (XBox W0.drew (w.heap.size + 1 + 1)) := by
   rw [hW0]
   refine ⟨0, 0, .slice none 0 0, ?_⟩
   have := BoxN.new ((w.alloc (.cells #[.float .f64 ax, .float .f64 ay] 24)).alloc (.cells #[.float .f64 bx, .float .f64 by'] 24)) 0 0 (.slice none 0 0)
   have h2 : BoxN (((w.alloc (.cells #[.float .f64 ax, .float .f64 ay] 24)).alloc (.cells #[.float .f64 bx, .float .f64 by'] 24)).alloc (.cells #[.int .i64 0, .slice none 0 0, .int .i64 0] 58)) (w.heap.size + 1 + 1) 0 (.slice none 0 0) 0 := by simpa using this
   exact h2
 rw [← hW0]
 clear hW0
 refine wp_region_held_drew (S := (fun W => W.cell? ⟨w.heap.size, 0, none⟩ = some (.float .f64 ax) ∧ W.cell? ⟨w.heap.size, 1, none⟩ = some (.float .f64 ay) ∧ W.cell? ⟨w.heap.size + 1, 0, none⟩ = some (.float .f64 bx) ∧ W.cell? ⟨w.heap.size + 1, 1, none⟩ = some (.float .f64 by') ∧ XBox W (w.heap.size + 1 + 1) ∧ Below w.heap.size w W)) (by kernel_rfl) ⟨z0, z1, z2, z3, HX0.out, HB1.out.drew⟩ (fun hS => ?_)
 refine takA (i := 0) (d := some 7) (v := .pointer (some ⟨w.heap.size + 1, 0, none⟩)) hS ?_
 simp only [AP]
 refine takA (i := 1) (d := some 8) (v := .float .f64 bx) hS ?_
 simp only [AP]
 refine takA (i := 2) (d := some 9) (v := .pointer (some ⟨w.heap.size, 0, none⟩)) hS ?_
 simp only [AP]
 refine takA (i := 3) (d := some 10) (v := .float .f64 ax) hS ?_
 simp only [AP]
 refine takA (i := 5) (d := some 12) (v := .pointer (some ⟨w.heap.size + 1, 1, none⟩)) hS ?_
 simp only [AP]
 refine takA (i := 6) (d := some 13) (v := .float .f64 by') hS ?_
 simp only [AP]
 refine takA (i := 7) (d := some 14) (v := .pointer (some ⟨w.heap.size, 1, none⟩)) hS ?_
 simp only [AP]
 refine takA (i := 8) (d := some 15) (v := .float .f64 ay) hS ?_
 simp only [AP]
 refine frame_named (fun A hA => ?_)
 refine draw2 (f := 2) (n := 2) (al := 10) (be := 11) (fun k => if k = 0 then 4 else 9) (fun (xb yb : Bool) (kb : Nat) => #[true, true, true, true, decide (1 ≤ kb), true, true, true, true, decide (2 ≤ kb), xb, yb, false, false]) (fun (xb yb : Bool) (kb : Nat) (aa : Act) (W : World) => ∃ (ea eb e1 e2 : Value), aa = ((((A.put (some 5) ea).put (some 6) eb).put (some 11) e1).put (some 16) e2) ∧ (W.cell? ⟨w.heap.size, 0, none⟩ = some (.float .f64 ax) ∧ W.cell? ⟨w.heap.size, 1, none⟩ = some (.float .f64 ay) ∧ W.cell? ⟨w.heap.size + 1, 0, none⟩ = some (.float .f64 bx) ∧ W.cell? ⟨w.heap.size + 1, 1, none⟩ = some (.float .f64 by') ∧ XBox W (w.heap.size + 1 + 1) ∧ Below w.heap.size w W) ∧ (xb = true → ∃ bb, ea = .pointer (some ⟨bb, 0, none⟩) ∧ BoxN W bb 0 (.slice none 0 0) 0 ∧ w.heap.size + 1 + 1 < bb) ∧ (yb = true → ∃ bb, eb = .pointer (some ⟨bb, 0, none⟩) ∧ BoxN W bb 0 (.slice none 0 0) 0 ∧ w.heap.size + 1 + 1 < bb) ∧ (xb = true → yb = true → ea ≠ eb) ∧ (1 ≤ kb → Rf W e1 (fval bx - fval ax)) ∧ (2 ≤ kb → Rf W e2 (fval by' - fval ay))) ?_ ?_ ?_ ?_ ?_ ?_ ?_ ?_ 4 false false 0 _ _ (by omega) (by decide) ?_
 · intro xb yb kb hk hx
   have h5 : kb = 0 ∨ kb = 1 ∨ kb = 2 := by omega
   rcases h5 with rfl | rfl | rfl <;> cases xb <;> cases yb <;> first | exact absurd (hx rfl rfl) (by decide) | (show _ = _; kernel_rfl)
 · intro xb yb kb hk
   have h5 : kb = 0 ∨ kb = 1 := by omega
   rcases h5 with rfl | rfl <;> cases xb <;> cases yb <;> rfl
 · intro yb kb hk
   have h5 : kb = 0 ∨ kb = 1 ∨ kb = 2 := by omega
   rcases h5 with rfl | rfl | rfl <;> cases yb <;> rfl
 · intro xb kb hk
   have h5 : kb = 0 ∨ kb = 1 ∨ kb = 2 := by omega
   rcases h5 with rfl | rfl | rfl <;> cases xb <;> rfl
 · intro xb yb kb hk
   have h5 : kb = 0 ∨ kb = 1 := by omega
   rcases h5 with rfl | rfl
   · refine ⟨_, rfl, ?_⟩
     intro aa W hI K' hK
     obtain ⟨ea, eb, e1, e2, rfl, hS, hv, hu, hne, k1, k2⟩ := hI
     have HV : Hid ((xb = true → ∃ bb, ea = .pointer (some ⟨bb, 0, none⟩) ∧ BoxN W bb 0 (.slice none 0 0) 0 ∧ w.heap.size + 1 + 1 < bb) ∧ (yb = true → ∃ bb, eb = .pointer (some ⟨bb, 0, none⟩) ∧ BoxN W bb 0 (.slice none 0 0) 0 ∧ w.heap.size + 1 + 1 < bb) ∧ (xb = true → yb = true → ea ≠ eb)) := ⟨hv, hu, hne⟩
     clear hv hu hne k1 k2
     rw [hA]
     simp only [AP]
     go_simp
     go_wp2_with fail
     refine (lessR bx ax _ HW.out.2.2.1 HW.out.1 HF.out.2.2.1 HF.out.1).mono ?_
     rintro e wx ⟨v9, rfl, hnew, hbx⟩
     have hS2 : (fun W => W.cell? ⟨w.heap.size, 0, none⟩ = some (.float .f64 ax) ∧ W.cell? ⟨w.heap.size, 1, none⟩ = some (.float .f64 ay) ∧ W.cell? ⟨w.heap.size + 1, 0, none⟩ = some (.float .f64 bx) ∧ W.cell? ⟨w.heap.size + 1, 1, none⟩ = some (.float .f64 by') ∧ XBox W (w.heap.size + 1 + 1) ∧ Below w.heap.size w W) wx := ⟨box_cell hbx hS.1, box_cell hbx hS.2.1, box_cell hbx hS.2.2.1, box_cell hbx hS.2.2.2.1, hS.2.2.2.2.1.later hbx, below_step hS.2.2.2.2.2 hbx⟩
     go_wp2_with fail
     exact hK.out _ _ hS2 ⟨ea, eb, _, e2, by rw [hA]; rfl, hS2, fun h => (by obtain ⟨bb, h1, h2, h3⟩ := (HV.out.1 h); exact ⟨bb, h1, h2.later hbx, h3⟩), fun h => (by obtain ⟨bb, h1, h2, h3⟩ := (HV.out.2.1 h); exact ⟨bb, h1, h2.later hbx, h3⟩), HV.out.2.2, fun _ => hnew, fun h => by omega⟩
   · refine ⟨_, rfl, ?_⟩
     intro aa W hI K' hK
     obtain ⟨ea, eb, e1, e2, rfl, hS, hv, hu, hne, k1, k2⟩ := hI
     have r1 := k1 (by omega)
     have HV : Hid ((xb = true → ∃ bb, ea = .pointer (some ⟨bb, 0, none⟩) ∧ BoxN W bb 0 (.slice none 0 0) 0 ∧ w.heap.size + 1 + 1 < bb) ∧ (yb = true → ∃ bb, eb = .pointer (some ⟨bb, 0, none⟩) ∧ BoxN W bb 0 (.slice none 0 0) 0 ∧ w.heap.size + 1 + 1 < bb) ∧ (xb = true → yb = true → ea ≠ eb)) := ⟨hv, hu, hne⟩
     clear hv hu hne k1 k2
     have R1 : Hid (Rf W e1 (fval bx - fval ax)) := r1
     clear r1
     rw [hA]
     simp only [AP]
     go_simp
     go_wp2_with fail
     refine (lessR by' ay _ HW.out.2.2.2 HW.out.2.1 HF.out.2.2.2 HF.out.2.1).mono ?_
     rintro e wx ⟨v9, rfl, hnew, hbx⟩
     have hS2 : (fun W => W.cell? ⟨w.heap.size, 0, none⟩ = some (.float .f64 ax) ∧ W.cell? ⟨w.heap.size, 1, none⟩ = some (.float .f64 ay) ∧ W.cell? ⟨w.heap.size + 1, 0, none⟩ = some (.float .f64 bx) ∧ W.cell? ⟨w.heap.size + 1, 1, none⟩ = some (.float .f64 by') ∧ XBox W (w.heap.size + 1 + 1) ∧ Below w.heap.size w W) wx := ⟨box_cell hbx hS.1, box_cell hbx hS.2.1, box_cell hbx hS.2.2.1, box_cell hbx hS.2.2.2.1, hS.2.2.2.2.1.later hbx, below_step hS.2.2.2.2.2 hbx⟩
     go_wp2_with fail
     exact hK.out _ _ hS2 ⟨ea, eb, _, _, by rw [hA]; rfl, hS2, fun h => (by obtain ⟨bb, h1, h2, h3⟩ := (HV.out.1 h); exact ⟨bb, h1, h2.later hbx, h3⟩), fun h => (by obtain ⟨bb, h1, h2, h3⟩ := (HV.out.2.1 h); exact ⟨bb, h1, h2.later hbx, h3⟩), HV.out.2.2, fun _ => R1.out.later hbx, fun _ => hnew⟩
 · intro yb kb hk
   refine ⟨_, rfl, ?_⟩
   intro aa W hI K' hK
   obtain ⟨ea, eb, e1, e2, rfl, hS, hv, hu, hne, k1, k2⟩ := hI
   have HK : Hid ((1 ≤ kb → Rf W e1 (fval bx - fval ax)) ∧ (2 ≤ kb → Rf W e2 (fval by' - fval ay))) := ⟨k1, k2⟩
   have HV : Hid (yb = true → ∃ bb, eb = .pointer (some ⟨bb, 0, none⟩) ∧ BoxN W bb 0 (.slice none 0 0) 0 ∧ w.heap.size + 1 + 1 < bb) := hu
   clear hv hu hne k1 k2
   have hbx : Below W.heap.size W (W.alloc (.cells #[.int .i64 0, .slice none 0 0, .int .i64 0] 58)) := (Below.refl _ W).alloc (Nat.le_refl _) _
   have hlt2 : w.heap.size + 1 + 1 < W.heap.size := hS.2.2.2.2.1.lt
   have hS2 : (fun W => W.cell? ⟨w.heap.size, 0, none⟩ = some (.float .f64 ax) ∧ W.cell? ⟨w.heap.size, 1, none⟩ = some (.float .f64 ay) ∧ W.cell? ⟨w.heap.size + 1, 0, none⟩ = some (.float .f64 bx) ∧ W.cell? ⟨w.heap.size + 1, 1, none⟩ = some (.float .f64 by') ∧ XBox W (w.heap.size + 1 + 1) ∧ Below w.heap.size w W) (W.alloc (.cells #[.int .i64 0, .slice none 0 0, .int .i64 0] 58)) := ⟨box_cell hbx hS.1, box_cell hbx hS.2.1, box_cell hbx hS.2.2.1, box_cell hbx hS.2.2.2.1, hS.2.2.2.2.1.later hbx, below_step hS.2.2.2.2.2 hbx⟩
   rw [hA]
   simp only [AP]
   go_simp
   go_wp2_with fail
   exact hK.out _ _ hS2 ⟨_, eb, e1, e2, by rw [hA]; rfl, hS2, fun _ => ⟨W.heap.size, rfl, BoxN.new W 0 0 _, hlt2⟩, fun h => (by obtain ⟨bb, h1, h2, h3⟩ := (HV.out h); exact ⟨bb, h1, h2.later hbx, h3⟩), fun _ h e => by obtain ⟨b2, h1, h2, h3⟩ := HV.out h; have := h2.lt; rw [h1] at e; cases e; omega, fun h => (HK.out.1 h).later hbx, fun h => (HK.out.2 h).later hbx⟩
 · intro xb kb hk
   refine ⟨_, rfl, ?_⟩
   intro aa W hI K' hK
   obtain ⟨ea, eb, e1, e2, rfl, hS, hv, hu, hne, k1, k2⟩ := hI
   have HK : Hid ((1 ≤ kb → Rf W e1 (fval bx - fval ax)) ∧ (2 ≤ kb → Rf W e2 (fval by' - fval ay))) := ⟨k1, k2⟩
   have HV : Hid (xb = true → ∃ bb, ea = .pointer (some ⟨bb, 0, none⟩) ∧ BoxN W bb 0 (.slice none 0 0) 0 ∧ w.heap.size + 1 + 1 < bb) := hv
   clear hv hu hne k1 k2
   have hbx : Below W.heap.size W (W.alloc (.cells #[.int .i64 0, .slice none 0 0, .int .i64 0] 58)) := (Below.refl _ W).alloc (Nat.le_refl _) _
   have hlt2 : w.heap.size + 1 + 1 < W.heap.size := hS.2.2.2.2.1.lt
   have hS2 : (fun W => W.cell? ⟨w.heap.size, 0, none⟩ = some (.float .f64 ax) ∧ W.cell? ⟨w.heap.size, 1, none⟩ = some (.float .f64 ay) ∧ W.cell? ⟨w.heap.size + 1, 0, none⟩ = some (.float .f64 bx) ∧ W.cell? ⟨w.heap.size + 1, 1, none⟩ = some (.float .f64 by') ∧ XBox W (w.heap.size + 1 + 1) ∧ Below w.heap.size w W) (W.alloc (.cells #[.int .i64 0, .slice none 0 0, .int .i64 0] 58)) := ⟨box_cell hbx hS.1, box_cell hbx hS.2.1, box_cell hbx hS.2.2.1, box_cell hbx hS.2.2.2.1, hS.2.2.2.2.1.later hbx, below_step hS.2.2.2.2.2 hbx⟩
   rw [hA]
   simp only [AP]
   go_simp
   go_wp2_with fail
   exact hK.out _ _ hS2 ⟨ea, _, e1, e2, by rw [hA]; rfl, hS2, fun h => (by obtain ⟨bb, h1, h2, h3⟩ := (HV.out h); exact ⟨bb, h1, h2.later hbx, h3⟩), fun _ => ⟨W.heap.size, rfl, BoxN.new W 0 0 _, hlt2⟩, fun h _ e => by obtain ⟨b2, h1, h2, h3⟩ := HV.out h; have := h2.lt; rw [h1] at e; cases e; omega, fun h => (HK.out.1 h).later hbx, fun h => (HK.out.2 h).later hbx⟩
 · intro aa W hI
   obtain ⟨ea, eb, e1, e2, rfl, hS, hv, hu, hne, k1, k2⟩ := hI
   replace hv := hv rfl
   replace hu := hu rfl
   replace hne := hne rfl rfl
   have r1 := k1 (by omega)
   have r2 := k2 (by omega)
   clear k1 k2
   obtain ⟨bb, rfl, hNB, hlow⟩ := hv
   obtain ⟨bc, rfl, hNC, hlow2⟩ := hu
   have hbc : bb ≠ bc := fun e => hne (by rw [e])
   obtain ⟨S1, a1, n1, c1, E1, rfl⟩ := r1.agg
   obtain ⟨S2, a2, n2, c2, E2, rfl⟩ := r2.agg
   clear hne
   subst hA
   simp only [AP]
   obtain ⟨t0, t1, t2, tf, _⟩ := hNB.cells
   have tf0 := tf 0
   have tf1 := tf 1
   have tf2 := tf 2
   clear tf
   have hP : (fun W' => BoxN W' bb S1 (.slice a1 n1 c1) E1 ∧ BoxN W' bc 0 (.slice none 0 0) 0 ∧ Rf W' (.agg #[.int .i64 S1, .slice a1 n1 c1, .int .i64 E1]) (fval bx - fval ax) ∧ Rf W' (.agg #[.int .i64 S2, .slice a2 n2 c2, .int .i64 E2]) (fval by' - fval ay)) (((W.setCell ⟨bb, 0, none⟩ (.int .i64 S1)).setCell ⟨bb, 1, none⟩ (.slice a1 n1 c1)).setCell ⟨bb, 2, none⟩ (.int .i64 E1)) := ⟨hNB.set3, hNC.other3 (Ne.symm hbc) _ _ _, r1.boxed (other_box hNB) _ _ _, r2.boxed (other_box hNB) _ _ _⟩
   have hS2 : (fun W => W.cell? ⟨w.heap.size, 0, none⟩ = some (.float .f64 ax) ∧ W.cell? ⟨w.heap.size, 1, none⟩ = some (.float .f64 ay) ∧ W.cell? ⟨w.heap.size + 1, 0, none⟩ = some (.float .f64 bx) ∧ W.cell? ⟨w.heap.size + 1, 1, none⟩ = some (.float .f64 by') ∧ XBox W (w.heap.size + 1 + 1) ∧ Below w.heap.size w W) (((W.setCell ⟨bb, 0, none⟩ (.int .i64 S1)).setCell ⟨bb, 1, none⟩ (.slice a1 n1 c1)).setCell ⟨bb, 2, none⟩ (.int .i64 E1)) := ⟨Sets.cell (by omega) [(0, .int .i64 S1), (1, .slice a1 n1 c1), (2, .int .i64 E1)] hS.1, Sets.cell (by omega) [(0, .int .i64 S1), (1, .slice a1 n1 c1), (2, .int .i64 E1)] hS.2.1, Sets.cell (by omega) [(0, .int .i64 S1), (1, .slice a1 n1 c1), (2, .int .i64 E1)] hS.2.2.1, Sets.cell (by omega) [(0, .int .i64 S1), (1, .slice a1 n1 c1), (2, .int .i64 E1)] hS.2.2.2.1, hS.2.2.2.2.1.other3 (by omega) _ _ _, Sets.below (by omega) [(0, .int .i64 S1), (1, .slice a1 n1 c1), (2, .int .i64 E1)] hS.2.2.2.2.2⟩
   refine calA 12 fun KF hK => ?_
   go_simp
   go_wp2_with fail
   refine hK.out _ _ hS2 ?_
   clear hS
   intro hS
   clear hK KF t0 t1 t2 tf0 tf1 tf2
   try simp only [Act.put]
   try simp only [List.setIfInBounds_toArray, List.set_cons_zero, List.set_cons_succ]
   clear hS2 hNB hNC r1 r2
   generalize (((W.setCell ⟨bb, 0, none⟩ (.int .i64 S1)).setCell ⟨bb, 1, none⟩ (.slice a1 n1 c1)).setCell ⟨bb, 2, none⟩ (.int .i64 E1)) = Wa at *
   obtain ⟨hNB, hNC, r1, r2⟩ := hP
   obtain ⟨t0, t1, t2, tf, _⟩ := hNC.cells
   have tf0 := tf 0
   have tf1 := tf 1
   have tf2 := tf 2
   clear tf
   have hP : (fun W' => BoxN W' bc S2 (.slice a2 n2 c2) E2 ∧ BoxN W' bb S1 (.slice a1 n1 c1) E1 ∧ Rf W' (.agg #[.int .i64 S1, .slice a1 n1 c1, .int .i64 E1]) (fval bx - fval ax) ∧ Rf W' (.agg #[.int .i64 S2, .slice a2 n2 c2, .int .i64 E2]) (fval by' - fval ay)) (((Wa.setCell ⟨bc, 0, none⟩ (.int .i64 S2)).setCell ⟨bc, 1, none⟩ (.slice a2 n2 c2)).setCell ⟨bc, 2, none⟩ (.int .i64 E2)) := ⟨hNC.set3, hNB.other3 hbc _ _ _, r1.boxed (other_box hNC) _ _ _, r2.boxed (other_box hNC) _ _ _⟩
   have hS2 : (fun W => W.cell? ⟨w.heap.size, 0, none⟩ = some (.float .f64 ax) ∧ W.cell? ⟨w.heap.size, 1, none⟩ = some (.float .f64 ay) ∧ W.cell? ⟨w.heap.size + 1, 0, none⟩ = some (.float .f64 bx) ∧ W.cell? ⟨w.heap.size + 1, 1, none⟩ = some (.float .f64 by') ∧ XBox W (w.heap.size + 1 + 1) ∧ Below w.heap.size w W) (((Wa.setCell ⟨bc, 0, none⟩ (.int .i64 S2)).setCell ⟨bc, 1, none⟩ (.slice a2 n2 c2)).setCell ⟨bc, 2, none⟩ (.int .i64 E2)) := ⟨Sets.cell (by omega) [(0, .int .i64 S2), (1, .slice a2 n2 c2), (2, .int .i64 E2)] hS.1, Sets.cell (by omega) [(0, .int .i64 S2), (1, .slice a2 n2 c2), (2, .int .i64 E2)] hS.2.1, Sets.cell (by omega) [(0, .int .i64 S2), (1, .slice a2 n2 c2), (2, .int .i64 E2)] hS.2.2.1, Sets.cell (by omega) [(0, .int .i64 S2), (1, .slice a2 n2 c2), (2, .int .i64 E2)] hS.2.2.2.1, hS.2.2.2.2.1.other3 (by omega) _ _ _, Sets.below (by omega) [(0, .int .i64 S2), (1, .slice a2 n2 c2), (2, .int .i64 E2)] hS.2.2.2.2.2⟩
   refine calA 13 fun KF hK => ?_
   go_simp
   go_wp2_with fail
   refine hK.out _ _ hS2 ?_
   clear hS
   intro hS
   clear hK KF t0 t1 t2 tf0 tf1 tf2
   try simp only [Act.put]
   try simp only [List.setIfInBounds_toArray, List.set_cons_zero, List.set_cons_succ]
   clear hS2 hNC hNB r1 r2
   generalize (((Wa.setCell ⟨bc, 0, none⟩ (.int .i64 S2)).setCell ⟨bc, 1, none⟩ (.slice a2 n2 c2)).setCell ⟨bc, 2, none⟩ (.int .i64 E2)) = Wb at *
   obtain ⟨hNC, hNB, r1, r2⟩ := hP
   refine wpAnyH_done (by kernel_rfl) ?_ _
   have HS : Hid (XBox Wb (w.heap.size + 1 + 1) ∧ Below w.heap.size w Wb) := hS.2.2.2.2
   clear hS
   obtain ⟨m0, m1, m2, _, _⟩ := hNB.cells
   obtain ⟨p0, p1, p2, _, _⟩ := hNC.cells
   have HR : Hid (Rf Wb (.agg #[.int .i64 S1, .slice a1 n1 c1, .int .i64 E1]) (fval bx - fval ax) ∧ Rf Wb (.agg #[.int .i64 S2, .slice a2 n2 c2, .int .i64 E2]) (fval by' - fval ay)) := ⟨r1, r2⟩
   clear r1 r2 hNB hNC hbc
   go_wp2_with fail
   have r1 := HR.out.1.later (Below.refl _ Wb).drew
   have r2 := HR.out.2.later (Below.refl _ Wb).drew
   refine wp_region_held_drew (S := (fun W => W.cell? ⟨bb, 0, none⟩ = some (.int .i64 S1) ∧ W.cell? ⟨bb, 1, none⟩ = some (.slice a1 n1 c1) ∧ W.cell? ⟨bb, 2, none⟩ = some (.int .i64 E1) ∧ W.cell? ⟨bc, 0, none⟩ = some (.int .i64 S2) ∧ W.cell? ⟨bc, 1, none⟩ = some (.slice a2 n2 c2) ∧ W.cell? ⟨bc, 2, none⟩ = some (.int .i64 E2) ∧ XBox W (w.heap.size + 1 + 1) ∧ Below w.heap.size w W)) (by kernel_rfl) ⟨m0, m1, m2, p0, p1, p2, HS.out.1, HS.out.2.drew⟩ (fun hS => ?_)
   refine takA (i := 0) (d := some 17) (v := .agg #[.int .i64 S1, .slice a1 n1 c1, .int .i64 E1]) hS ?_
   simp only [AP]
   refine takA (i := 1) (d := some 18) (v := .agg #[.int .i64 S1, .slice a1 n1 c1, .int .i64 E1]) hS ?_
   simp only [AP]
   refine takA (i := 3) (d := some 20) (v := .agg #[.int .i64 S2, .slice a2 n2 c2, .int .i64 E2]) hS ?_
   simp only [AP]
   refine takA (i := 4) (d := some 21) (v := .agg #[.int .i64 S2, .slice a2 n2 c2, .int .i64 E2]) hS ?_
   simp only [AP]
   refine calA 2 fun KF hK => ?_
   go_simp
   refine (mul_rf _ _ (fval bx - fval ax) (fval bx - fval ax) _ r1 r1 (fit_diff HF.out.2.2.1 HF.out.1) (fit_diff HF.out.2.2.1 HF.out.1)).mono ?_
   rintro e wx ⟨v3, rfl, r3, hbx⟩
   obtain ⟨S3, a3, n3, c3, E3, rfl⟩ := r3.agg
   replace r2 := r2.later hbx
   go_wp2_with fail
   refine hK.out _ _ ⟨box_cell hbx hS.1, box_cell hbx hS.2.1, box_cell hbx hS.2.2.1, box_cell hbx hS.2.2.2.1, box_cell hbx hS.2.2.2.2.1, box_cell hbx hS.2.2.2.2.2.1, hS.2.2.2.2.2.2.1.later hbx, below_step hS.2.2.2.2.2.2.2 hbx⟩ ?_
   clear hS hbx
   intro hS
   clear hK KF
   try simp only [AP]
   refine calA 5 fun KF hK => ?_
   go_simp
   refine (mul_rf _ _ (fval by' - fval ay) (fval by' - fval ay) _ r2 r2 (fit_diff HF.out.2.2.2 HF.out.2.1) (fit_diff HF.out.2.2.2 HF.out.2.1)).mono ?_
   rintro e wx ⟨v4, rfl, r4, hbx⟩
   obtain ⟨S4, a4, n4, c4, E4, rfl⟩ := r4.agg
   replace r3 := r3.later hbx
   go_wp2_with fail
   refine hK.out _ _ ⟨box_cell hbx hS.1, box_cell hbx hS.2.1, box_cell hbx hS.2.2.1, box_cell hbx hS.2.2.2.1, box_cell hbx hS.2.2.2.2.1, box_cell hbx hS.2.2.2.2.2.1, hS.2.2.2.2.2.2.1.later hbx, below_step hS.2.2.2.2.2.2.2 hbx⟩ ?_
   clear hS hbx
   intro hS
   clear hK KF
   try simp only [AP]
   refine calA 6 fun KF hK => ?_
   go_simp
   refine (refAdd_any _ _ ((fval bx - fval ax) * (fval bx - fval ax)) ((fval by' - fval ay) * (fval by' - fval ay)) _ r3 r4 (fit_prod HF.out.2.2.1 HF.out.1 HF.out.2.2.1 HF.out.1) (fit_prod HF.out.2.2.2 HF.out.2.1 HF.out.2.2.2 HF.out.2.1)).mono ?_
   rintro e wx ⟨v5, rfl, r5, hbx⟩
   obtain ⟨S5, a5, n5, c5, E5, rfl⟩ := r5.agg
   go_wp2_with fail
   refine hK.out _ _ ⟨box_cell hbx hS.1, box_cell hbx hS.2.1, box_cell hbx hS.2.2.1, box_cell hbx hS.2.2.2.1, box_cell hbx hS.2.2.2.2.1, box_cell hbx hS.2.2.2.2.2.1, hS.2.2.2.2.2.2.1.later hbx, below_step hS.2.2.2.2.2.2.2 hbx⟩ ?_
   clear hS hbx
   intro hS
   clear hK KF
   try simp only [AP]
   obtain ⟨S0, E0, v0, hX⟩ := hS.2.2.2.2.2.2.1
   obtain ⟨t0, t1, t2, tf, _⟩ := hX.cells
   have tf0 := tf 0
   have tf1 := tf 1
   have tf2 := tf 2
   clear tf
   have hP : (fun W' => BoxN W' (w.heap.size + 1 + 1) S5 (.slice a5 n5 c5) E5 ∧ Rf W' (.agg #[.int .i64 S5, .slice a5 n5 c5, .int .i64 E5]) ((fval bx - fval ax) * (fval bx - fval ax) + (fval by' - fval ay) * (fval by' - fval ay)) ∧ Below w.heap.size w W') (((wx.setCell ⟨w.heap.size + 1 + 1, 0, none⟩ (.int .i64 S5)).setCell ⟨w.heap.size + 1 + 1, 1, none⟩ (.slice a5 n5 c5)).setCell ⟨w.heap.size + 1 + 1, 2, none⟩ (.int .i64 E5)) := ⟨hX.set3, r5.boxed (other_box hX) _ _ _, Sets.below (by omega) [(0, .int .i64 S5), (1, .slice a5 n5 c5), (2, .int .i64 E5)] hS.2.2.2.2.2.2.2⟩
   have hS2 : (fun W => W.cell? ⟨bb, 0, none⟩ = some (.int .i64 S1) ∧ W.cell? ⟨bb, 1, none⟩ = some (.slice a1 n1 c1) ∧ W.cell? ⟨bb, 2, none⟩ = some (.int .i64 E1) ∧ W.cell? ⟨bc, 0, none⟩ = some (.int .i64 S2) ∧ W.cell? ⟨bc, 1, none⟩ = some (.slice a2 n2 c2) ∧ W.cell? ⟨bc, 2, none⟩ = some (.int .i64 E2) ∧ XBox W (w.heap.size + 1 + 1) ∧ Below w.heap.size w W) (((wx.setCell ⟨w.heap.size + 1 + 1, 0, none⟩ (.int .i64 S5)).setCell ⟨w.heap.size + 1 + 1, 1, none⟩ (.slice a5 n5 c5)).setCell ⟨w.heap.size + 1 + 1, 2, none⟩ (.int .i64 E5)) := ⟨Sets.cell (by omega) [(0, .int .i64 S5), (1, .slice a5 n5 c5), (2, .int .i64 E5)] hS.1, Sets.cell (by omega) [(0, .int .i64 S5), (1, .slice a5 n5 c5), (2, .int .i64 E5)] hS.2.1, Sets.cell (by omega) [(0, .int .i64 S5), (1, .slice a5 n5 c5), (2, .int .i64 E5)] hS.2.2.1, Sets.cell (by omega) [(0, .int .i64 S5), (1, .slice a5 n5 c5), (2, .int .i64 E5)] hS.2.2.2.1, Sets.cell (by omega) [(0, .int .i64 S5), (1, .slice a5 n5 c5), (2, .int .i64 E5)] hS.2.2.2.2.1, Sets.cell (by omega) [(0, .int .i64 S5), (1, .slice a5 n5 c5), (2, .int .i64 E5)] hS.2.2.2.2.2.1, ⟨_, _, _, hP.1⟩, hP.2.2⟩
   refine calA 7 fun KF hK => ?_
   go_simp
   go_wp2_with fail
   refine hK.out _ _ hS2 ?_
   clear hS
   intro hS
   clear hK KF t0 t1 t2 tf0 tf1 tf2
   try simp only [Act.put]
   try simp only [List.setIfInBounds_toArray, List.set_cons_zero, List.set_cons_succ]
   clear hS2 hX r5
   refine wpAnyH_done (by kernel_rfl) ?_ _
   generalize (((wx.setCell ⟨w.heap.size + 1 + 1, 0, none⟩ (.int .i64 S5)).setCell ⟨w.heap.size + 1 + 1, 1, none⟩ (.slice a5 n5 c5)).setCell ⟨w.heap.size + 1 + 1, 2, none⟩ (.int .i64 E5)) = WL at *
   have HPP : Hid (BoxN WL (w.heap.size + 1 + 1) S5 (.slice a5 n5 c5) E5) := hP.1
   have y0 := hP.1.cells.1
   have y1 := hP.1.cells.2.1
   have y2 := hP.1.cells.2.2.1
   go_wp2
   refine bodyPost_ret (v := (.agg #[.int .i64 S5, .slice a5 n5 c5, .int .i64 E5])) (by simp [results, Tryz.results33, go_sem, y0, y1, y2]) rfl ?_
   exact ⟨_, rfl, hP.2.1, hP.2.2⟩
 · exact ⟨undef, undef, undef, undef, by rw [hA]; rfl, hS, fun h => Bool.noConfusion h, fun h => Bool.noConfusion h, fun h => Bool.noConfusion h, fun h => by omega, fun h => by omega⟩
end
end Go.Proofs.YtocnkgfoffpbfaaGreatDoor
