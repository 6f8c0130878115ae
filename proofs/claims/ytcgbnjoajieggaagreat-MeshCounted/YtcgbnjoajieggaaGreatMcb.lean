import Derived.Test.YtcgbnjoajieggaaGreatQ33
import Derived.Test.YtcgbnjoajieggaaGreatQ38
import Derived.Test.YtcgbnjoajieggaaGreatQ39
import Derived.Test.YtcgbnjoajieggaaGreatQ40
/- Package mesh: the law MeshCounted. -/
namespace Go.Proofs.YtcgbnjoajieggaaGreat
open Go.RowKit Go.Shelf Go.Lib
attribute [local go_sem ↓] Go.wp_at_zero Go.wp_at_succ
set_option maxRecDepth 100000
structure UC (W w : World) (mB : Nat) (x : Gx) (P : List (Nat × Nat)) (A : List (List Wg)) (B8 B9 : Nat) (v8 v9 : Value) (S : Nat → Prop) (vs : List Value) : Prop where
  m : Msh S w mB x P A (fun _ _ => none) vs
  r8 : Rk enc_tri 30 3 w B8 v8 (trisL A)
  r9 : Rk enc_pair 71 2 w B9 v9 (bordL A)
  b : Below W.heap.size W w
theorem UC.later {W w w' : World} {mB : Nat} {x : Gx} {P : List (Nat × Nat)} {A : List (List Wg)} {B8 B9 : Nat} {v8 v9 : Value} {S : Nat → Prop} {vs : List Value} (h : UC W w mB x P A B8 B9 v8 v9 S vs) (hb : Below w.heap.size w w') : UC W w' mB x P A B8 B9 v8 v9 S vs :=
  ⟨h.m.keep hb, own_same h.r8 (fun g hg => hb.block g (World.ownsRow.lt h.r8 g hg).2), own_same h.r9 (fun g hg => hb.block g (World.ownsRow.lt h.r9 g hg).2), h.b.trans (hb.mono h.b.size)⟩
theorem pair_cells {w : World} {B g L c i : Nat} {xs : List (Nat × Nat)} {x y : Nat} (h : Rk enc_pair 71 2 w B (.slice (some ⟨g, 0, none⟩) L c) xs) (hx : xs[i]? = some (x, y)) :
    w.cell? ⟨g, i * 2, none⟩ = some (.int .i64 (x : Nat)) ∧ w.cell? ⟨g, i * 2 + 1, none⟩ = some (.int .i64 (y : Nat)) ∧ g < w.heap.size := by
  obtain ⟨a, c', e, k⟩ := rk_pair h
  obtain ⟨g', e2, _, h2, h3⟩ := k i _ hx
  injection e with e1 _ _
  rw [e2] at e1
  obtain rfl : g = g' := by injection e1 with e1; injection e1
  exact ⟨h3.1, h3.2, h2⟩
theorem pair_blk {w : World} {B L c i : Nat} {a : Option Addr} {xs : List (Nat × Nat)} {q : Nat × Nat} (h : Rk enc_pair 71 2 w B (.slice a L c) xs) (hx : xs[i]? = some q) : ∃ g, a = some ⟨g, 0, none⟩ := by
  obtain ⟨a', c', e, k⟩ := rk_pair h
  obtain ⟨g', e2, _⟩ := k i _ hx
  injection e with e1 _ _
  exact ⟨g', e1.trans e2⟩
def bal (l : List (Nat × Nat)) (k x : Nat) : Int := ((l.take k).countP (fun p => p.2 == x) : Int) - ((l.take k).countP (fun p => p.1 == x) : Int)
theorem bal_step {l : List (Nat × Nat)} {k a b : Nat} (h : l[k]? = some (a, b)) (x : Nat) : bal l (k + 1) x = bal l k x + (if b = x then 1 else 0) - (if a = x then 1 else 0) := by
  unfold bal
  have e : l.take (k + 1) = l.take k ++ [(a, b)] := by
    rw [List.take_add_one, h]; rfl
  rw [e, List.countP_append, List.countP_append, List.countP_singleton, List.countP_singleton]
  simp only [beq_iff_eq]
  split <;> split <;> simp <;> omega
theorem bal_end {P : List (Nat × Nat)} {A : List (List Wg)} (h : Std P A) (k x : Nat) (hk : (bordL A).length ≤ k) : bal (bordL A) k x = 0 := by
  unfold bal
  rw [List.take_of_length_le hk, bord_even h.uq h.t3 x]
  omega
theorem bal_small (l : List (Nat × Nat)) (k x : Nat) (hk : k ≤ 1000000) : -1000000 ≤ bal l k x ∧ bal l k x ≤ 1000000 := by
  unfold bal
  have h1 := List.countP_le_length (p := fun p : Nat × Nat => p.2 == x) (l := l.take k)
  have h2 := List.countP_le_length (p := fun p : Nat × Nat => p.1 == x) (l := l.take k)
  rw [List.length_take] at h1 h2
  omega
set_option maxHeartbeats 16000000 in
theorem counted_law (s s2 : Value) (n m : Nat) (f : Nat → Nat × Nat) (t : Nat → Int × Int × Int) (W : World) (hP : Ps W s n f) (hT : TsP W s2 m t) :
    Calls Tryz.prog 7 #[s, s2] W fun e w' => e = .returned (.bool true) ∧ Below W.heap.size W w' := by
  obtain ⟨a, c, rfl, _, _⟩ := hP.shape
  have hT' := hT
  obtain ⟨a2, c2, rfl, _⟩ := hT'
  have HA := Lib.hid (And.intro hP hT)
  clear hP hT
  by_cases hn : 100 < n
  · have hn' : (100 : Int) < (n : Int) := by omega
    go_enter Tryz.func7, Tryz.ntmps7
    go_wp2_with fail
    refine (works_any15 W).mono ?_
    rintro e w2 ⟨rfl, hb⟩
    have HB2 := Lib.hid hb
    clear hb
    go_wp2_with fail
    refine (works_any15 w2).mono ?_
    rintro e w3 ⟨rfl, hb⟩
    have HB3 := Lib.hid (HB2.out.trans (hb.mono HB2.out.size))
    clear hb
    go_wp2
    go_ret
    exact ⟨rfl, HB3.out⟩
  have hn' : ¬ (100 : Int) < (n : Int) := by omega
  by_cases hm : 200 < m
  · have hm' : (200 : Int) < (m : Int) := by omega
    go_enter Tryz.func7, Tryz.ntmps7
    go_wp2_with fail
    refine (works_any15 W).mono ?_
    rintro e w2 ⟨rfl, hb⟩
    have HB2 := Lib.hid hb
    clear hb
    go_wp2_with fail
    refine (works_any15 w2).mono ?_
    rintro e w3 ⟨rfl, hb⟩
    have HB3 := Lib.hid (HB2.out.trans (hb.mono HB2.out.size))
    clear hb
    go_wp2
    go_ret
    exact ⟨rfl, HB3.out⟩
  have hm' : ¬ (200 : Int) < (m : Int) := by omega
  go_enter Tryz.func7, Tryz.ntmps7
  go_wp2_with fail
  refine (works_any15 W).mono ?_
  rintro e w2 ⟨rfl, hb⟩
  have HBf := Lib.hid hb
  clear hb
  go_wp2_with fail
  refine (made_any _ _ n m f t w2 (HA.out.1.later HBf.out) (HA.out.2.later HBf.out) (by omega)).mono ?_
  rintro e w3 ⟨hr, hb⟩
  have HB3 := Lib.hid hb
  rcases hr with rfl | ⟨mB, x, rfl, hm1, hm2, hMd⟩
  · clear hb
    go_wp2
    go_ret
    exact ⟨rfl, HBf.out.trans (HB3.out.mono HBf.out.size)⟩
  obtain ⟨S, A, vs, hSb, hM, hSt⟩ := hMd
  have HM3 := Lib.hid (And.intro hSb (And.intro hM hSt))
  clear hb hSb hM hSt
  go_wp2_with fail
  refine (tris_m HM3.out.2.1).mono ?_
  rintro e w4 ⟨v8, rfl, hr8, hb4⟩
  have HM4 := Lib.hid (And.intro (HM3.out.2.1.keep hb4) (And.intro hr8 hb4))
  clear hr8 hb4
  go_wp2_with fail
  refine (bord_m HM4.out.1).mono ?_
  rintro e w5 ⟨v9, rfl, hr9, hb5⟩
  obtain ⟨B8, hB8⟩ : ∃ q, w3.heap.size = q := ⟨_, rfl⟩
  obtain ⟨B9, hB9⟩ : ∃ q, w4.heap.size = q := ⟨_, rfl⟩
  obtain ⟨a8, c8, hv8, _⟩ := rk_tri HM4.out.2.1
  obtain ⟨a9, c9, hv9, _⟩ := rk_pair hr9
  obtain ⟨L, hL⟩ : ∃ L, (trisL A).length = L := ⟨_, rfl⟩
  obtain ⟨Lb, hLb⟩ : ∃ L, (bordL A).length = L := ⟨_, rfl⟩
  rw [hL] at hv8
  rw [hLb] at hv9
  have hU5 : UC w2 w5 mB x (ptsF (fun k => plp (f k)) n) A B8 B9 v8 v9 S vs :=
    { m := HM4.out.1.keep hb5
      r8 := own_same (hB8 ▸ HM4.out.2.1) (fun g hg => hb5.block g (World.ownsRow.lt HM4.out.2.1 g hg).2)
      r9 := hB9 ▸ hr9
      b := HB3.out.trans ((HM4.out.2.2.mono HB3.out.size).trans (hb5.mono (Nat.le_trans HB3.out.size HM4.out.2.2.size))) }
  subst hv8
  subst hv9
  have HU5 := Lib.hid hU5
  have HLn := Lib.hid hL
  have HLb := Lib.hid hLb
  have HlA := Lib.hid HM3.out.2.2.len
  have HS3 := Lib.hid HM3.out.2.2
  have hfan : ∀ a, (A.getD a []).length ≤ 100 := fun a => by
    have h1 := Uq.len HS3.out.uq hU5.m.g.nums a
    have h2 := HlA.out
    rw [ptsF_len] at h2
    omega
  have HcA : Hid (cnt A ≤ 10000) := Lib.hid (by
    have h1 := cnt_le hfan
    have h2 := HlA.out
    rw [ptsF_len] at h2
    have : A.length * 100 ≤ 100 * 100 := Nat.mul_le_mul_right _ (by omega)
    omega)
  have hL4 : L ≤ 10000 := by have h1 := HS3.out.cn; have h2 := raw_len A; have := HcA.out; omega
  have hcn : cnt A / 3 = L := by have h1 := HS3.out.cn; have h2 := raw_len A; omega
  have hcount := count_any hU5.m (by have := HcA.out; omega)
  rw [hcn] at hcount
  have HCt := Lib.hid hcount
  obtain ⟨E, hE⟩ : ∃ E, (edgesL A).length = E := ⟨_, rfl⟩
  have hEu : 3 * L + Lb = 2 * E := by have := euler HS3.out; omega
  have hLb4 : Lb ≤ 10000 := by
    have h1 := bord_len A
    have h2 := List.countP_le_length (p := noBack A) (l := dirs A)
    rw [dirs_len, seen3_len] at h2
    have := HcA.out
    omega
  clear hr9 hb5 hU5 hfan HM4 hL hLb hB8 hB9 hcount hcn
  go_wp2_with fail
  refine HCt.out.mono ?_
  rintro e w' ⟨rfl, hq⟩
  rw [hq]
  clear hq w'
  have hne : (((L : Nat) : Int) != (L : Int)) = false := by simp
  go_wp2_with fail
  refine (edges_m HU5.out.m).mono ?_
  rintro e w6 ⟨v10, rfl, hr10, hb6⟩
  obtain ⟨a10, c10, rfl, _⟩ := rk_pair (xs := edgesL A) (by exact hr10)
  have HU6 := Lib.hid (HU5.out.later hb6)
  rw [hE]
  clear hr10 hb6
  have hne2 : ((3 * (L : Int)) != 2 * (E : Int) - (Lb : Int)) = false := by rw [bne_eq_false_iff_eq]; omega
  have hmk := makeInt n (by omega) w6
  go_wp2_with fail
  obtain ⟨w7, hw7⟩ : ∃ X, w6.alloc (.cells (Array.replicate n (Value.int .i64 0)) 3) = X := ⟨_, rfl⟩
  obtain ⟨gb, hgb⟩ : ∃ q, w6.heap.size = q := ⟨_, rfl⟩
  have HI7 : Hid (IRow w7 gb n (fun _ => 0) ∧ Below gb w6 w7) := Lib.hid (by
    rw [← hw7, ← hgb]
    exact ⟨IRow.made n w6, (Below.refl _ _).alloc (Nat.le_refl _) _⟩)
  have Hgb := Lib.hid hgb
  try rw [hw7]
  try rw [hgb]
  clear hmk hw7 hgb
  go_loopw [9] (fun s9 wr => ∃ i : Nat, i ≤ Lb ∧ s9 = .int .i64 (i : Nat) ∧ Hid (IRow wr gb n (bal (bordL A) i) ∧ Below gb w6 wr)) (fun s9 _ => Lb - (intOf s9).toNat)
  case atStart => exact ⟨0, Nat.zero_le _, rfl, HI7.out.1.congr (fun k _ => by unfold bal; simp), HI7.out.2⟩
  case round =>
    obtain ⟨i, hi, rfl, hI⟩ := hrel
    by_cases hlt : i < Lb
    · have hlt' : (i : Int) < (Lb : Int) := by omega
      obtain ⟨⟨ta, tb⟩, hx⟩ : ∃ q, (bordL A)[i]? = some q := ⟨_, List.getElem?_eq_getElem (by have := HLb.out; omega)⟩
      have HX := Lib.hid hx
      have HUr := Lib.hid (HU6.out.later (by have h := hI.out.2; rw [Hgb.out]; exact h))
      obtain ⟨tg, rfl⟩ : ∃ tg, a9 = some ⟨tg, 0, none⟩ := pair_blk HUr.out.r9 hx
      obtain ⟨q1, q2, q3⟩ := pair_cells HUr.out.r9 hx
      have htg : tg < gb := by
        have := (pair_cells HU6.out.r9 hx).2.2
        rw [Hgb.out] at this; exact this
      have hab : ta < n ∧ tb < n := by
        obtain ⟨c, hc⟩ := dirs_mem.1 (bord_mem (List.mem_of_getElem? hx))
        have h1 := HUr.out.m.g.nums _ _ _ hc
        obtain ⟨fan, hf, _⟩ := hc
        have h2 := (List.getElem?_eq_some_iff.1 hf).1
        have h3 := HlA.out
        rw [ptsF_len] at h3
        omega
      have hneq : ta ≠ tb := by
        obtain ⟨c, hc⟩ := dirs_mem.1 (bord_mem (List.mem_of_getElem? hx))
        exact (HS3.out.t3.ne hc).1
      obtain ⟨k1, f1⟩ := hI.out.1.cell ta hab.1
      have hs1 := bal_small (bordL A) i ta (by omega)
      have hs2 := bal_small (bordL A) i tb (by omega)
      have hW1 := hI.out.1.set ta hab.1 (bal (bordL A) i ta - 1)
      obtain ⟨k2, f2⟩ := hW1.cell tb hab.2
      rw [if_neg (fun e => hneq e.symm)] at k2
      have HW2 : Hid (IRow ((wr.setCell ⟨gb, ta, none⟩ (.int .i64 (bal (bordL A) i ta - 1))).setCell ⟨gb, tb, none⟩ (.int .i64 (bal (bordL A) i tb + 1))) gb n (bal (bordL A) (i + 1)) ∧ Below gb w6 ((wr.setCell ⟨gb, ta, none⟩ (.int .i64 (bal (bordL A) i ta - 1))).setCell ⟨gb, tb, none⟩ (.int .i64 (bal (bordL A) i tb + 1)))) := Lib.hid (by
        refine ⟨(hW1.set tb hab.2 (bal (bordL A) i tb + 1)).congr (fun k _ => ?_), (hI.out.2.setCell (Nat.le_refl _) _).setCell (Nat.le_refl _) _⟩
        rw [bal_step HX.out]
        repeat' split
        all_goals (subst_vars; omega))
      clear hx hW1
      as_aux_lemma =>
       go_wp2_with fail
       all_goals exact ⟨⟨i + 1, by omega, by go_num, HW2⟩, by simp [intOf]; omega⟩
    · obtain rfl : Lb = i := by omega
      have HI2 : Hid (IRow wr gb n (fun _ => 0) ∧ Below gb w6 wr) := Lib.hid ⟨hI.out.1.congr (fun k _ => bal_end HS3.out _ k (by have := HLb.out; omega)), hI.out.2⟩
      clear hI HI7
      as_aux_lemma =>
       go_wp2_with fail
       go_loopw [10] (fun s10 wr => ∃ i : Nat, i ≤ n ∧ s10 = .int .i64 (i : Nat) ∧ Hid (IRow wr gb n (fun _ => 0) ∧ Below gb w6 wr)) (fun s10 _ => n - (intOf s10).toNat)
       case atStart => exact ⟨0, Nat.zero_le _, rfl, HI2⟩
       case round =>
         obtain ⟨i, hi, rfl, hJ⟩ := hrel
         by_cases hlt2 : i < n
         · have hlt3 : (i : Int) < (n : Int) := by omega
           obtain ⟨k1, f1⟩ := hJ.out.1.cell i hlt2
           as_aux_lemma =>
            go_wp2_with fail
            all_goals exact ⟨⟨i + 1, by omega, by go_num, hJ⟩, by simp [intOf]; omega⟩
         · obtain rfl : n = i := by omega
           have HU0 := Lib.hid (HU6.out.later (by have h := hJ.out.2; rw [Hgb.out]; exact h))
           clear hJ HI2
           as_aux_lemma =>
            go_wp2_with fail
            go_loopw [11] (fun s11 wr => ∃ i : Nat, i ≤ L ∧ s11 = .int .i64 (i : Nat) ∧ Hid (UC w2 wr mB x (ptsF (fun k => plp (f k)) n) A B8 B9 (.slice a8 L c8) (.slice a9 Lb c9) S vs)) (fun s11 _ => L - (intOf s11).toNat)
            case atStart => exact ⟨0, Nat.zero_le _, rfl, HU0⟩
            case round =>
              obtain ⟨j, hj, rfl, hJ⟩ := hrel
              by_cases hlt4 : j < L
              · have hlt5 : (j : Int) < (L : Int) := by omega
                obtain ⟨⟨tx, ty, tz⟩, hx⟩ : ∃ q, (trisL A)[j]? = some q := ⟨_, List.getElem?_eq_getElem (by have := HLn.out; omega)⟩
                have HX := Lib.hid hx
                have hwA := (tris_mem.1 (List.mem_of_getElem? hx)).1
                have HP0 : Hid (apx A (tx : Nat) (ty : Nat) = some tz) := Lib.hid ((apx_some HS3.out.uq).2 ⟨_, _, rfl, rfl, hwA⟩)
                have HP1 : Hid (apx A (ty : Nat) (tz : Nat) = some tx) := Lib.hid ((apx_some HS3.out.uq).2 ⟨_, _, rfl, rfl, HS3.out.t3.turn _ _ _ hwA⟩)
                have HP2 : Hid (apx A (tz : Nat) (tx : Nat) = some ty) := Lib.hid ((apx_some HS3.out.uq).2 ⟨_, _, rfl, rfl, HS3.out.t3.turn _ _ _ (HS3.out.t3.turn _ _ _ hwA)⟩)
                obtain ⟨tg, rfl⟩ : ∃ tg, a8 = some ⟨tg, 0, none⟩ := tri_blk hJ.out.r8 hx
                have hxy := (tris_mem.1 (List.mem_of_getElem? hx)).2
                dsimp only at hxy
                have hy1 : (tx : Int) < (ty : Int) := by omega
                have hy2 : (tx : Int) < (tz : Int) := by omega
                have hy3 : ¬ (ty : Int) ≤ (tx : Int) := by omega
                have hy4 : ¬ (tz : Int) ≤ (tx : Int) := by omega
                have hl2 : ¬ L ≤ j := by omega
                clear hx hwA hxy
                go_wp2_with fail
                go_loopw [12] (fun s12 wr => ∃ k : Nat, k ≤ 3 ∧ s12 = .int .i64 (k : Nat) ∧ Hid (UC w2 wr mB x (ptsF (fun k => plp (f k)) n) A B8 B9 (.slice (some ⟨tg, 0, none⟩) L c8) (.slice a9 Lb c9) S vs)) (fun s12 _ => 3 - (intOf s12).toNat)
                case atStart => exact ⟨0, by omega, rfl, hJ⟩
                case round =>
                  obtain ⟨k, hk, rfl, hQ⟩ := hrel
                  have HU1 := Lib.hid (hQ.out.later (Below.drew (Below.refl _ wr)))
                  by_cases hk0 : k = 0
                  · subst hk0
                    as_aux_lemma =>
                     obtain ⟨q0, q1, q2⟩ := tri_cells HU1.out.r8 HX.out
                     go_wp2_with fail
                     refine wp_region_held_drew (S := (fun X => X.cell? ⟨tg, j * 3, none⟩ = some (.int .i64 (tx : Nat)) ∧ X.cell? ⟨tg, j * 3 + 1, none⟩ = some (.int .i64 (ty : Nat)) ∧ X.cell? ⟨tg, j * 3 + 2, none⟩ = some (.int .i64 (tz : Nat)))) (by kernel_rfl) (tri_cells HU1.out.r8 HX.out) (fun hS => ?_)
                     refine take_at (i := 0) (d := some 106) (v := .pointer (some ⟨mB, 0, none⟩)) (by kernel_rfl) (by kernel_rfl) (by kernel_rfl) (by kernel_rfl) (fun _ _ _ h => h) ?_ hS ?_
                     · intro o ho
                       replace ho := Option.some.inj (Eq.trans (Eq.symm ho) rfl)
                       subst ho
                       refine Or.inl ⟨by rfl, ?_⟩
                       intro w hSw
                       obtain ⟨q0, q1, q2⟩ := hSw
                       go_simp
                     simp only [Act.put, List.setIfInBounds_toArray, List.set_cons_zero, List.set_cons_succ]
                     refine take_at (i := 1) (d := some 107) (v := .slice (some ⟨tg, 0, none⟩) L c8) (by kernel_rfl) (by kernel_rfl) (by kernel_rfl) (by kernel_rfl) (fun _ _ _ h => h) ?_ hS ?_
                     · intro o ho
                       replace ho := Option.some.inj (Eq.trans (Eq.symm ho) rfl)
                       subst ho
                       refine Or.inl ⟨by rfl, ?_⟩
                       intro w hSw
                       obtain ⟨q0, q1, q2⟩ := hSw
                       go_simp
                     simp only [Act.put, List.setIfInBounds_toArray, List.set_cons_zero, List.set_cons_succ]
                     refine take_at (i := 2) (d := some 108) (v := .int .i64 (j : Nat)) (by kernel_rfl) (by kernel_rfl) (by kernel_rfl) (by kernel_rfl) (fun _ _ _ h => h) ?_ hS ?_
                     · intro o ho
                       replace ho := Option.some.inj (Eq.trans (Eq.symm ho) rfl)
                       subst ho
                       refine Or.inl ⟨by rfl, ?_⟩
                       intro w hSw
                       obtain ⟨q0, q1, q2⟩ := hSw
                       go_simp
                     simp only [Act.put, List.setIfInBounds_toArray, List.set_cons_zero, List.set_cons_succ]
                     refine take_at (i := 3) (d := some 109) (v := .int .i64 0) (by kernel_rfl) (by kernel_rfl) (by kernel_rfl) (by kernel_rfl) (fun _ _ _ h => h) ?_ hS ?_
                     · intro o ho
                       replace ho := Option.some.inj (Eq.trans (Eq.symm ho) rfl)
                       subst ho
                       refine Or.inl ⟨by rfl, ?_⟩
                       intro w hSw
                       obtain ⟨q0, q1, q2⟩ := hSw
                       go_simp
                     simp only [Act.put, List.setIfInBounds_toArray, List.set_cons_zero, List.set_cons_succ]
                     refine take_at (i := 4) (d := some 110) (v := .pointer (some ⟨tg, j * 3, none⟩)) (by kernel_rfl) (by kernel_rfl) (by kernel_rfl) (by kernel_rfl) (fun _ _ _ h => h) ?_ hS ?_
                     · intro o ho
                       replace ho := Option.some.inj (Eq.trans (Eq.symm ho) rfl)
                       subst ho
                       refine Or.inl ⟨by rfl, ?_⟩
                       intro w hSw
                       obtain ⟨q0, q1, q2⟩ := hSw
                       go_simp
                     simp only [Act.put, List.setIfInBounds_toArray, List.set_cons_zero, List.set_cons_succ]
                     refine take_at (i := 5) (d := some 111) (v := .pointer (some ⟨tg, j * 3, none⟩)) (by kernel_rfl) (by kernel_rfl) (by kernel_rfl) (by kernel_rfl) (fun _ _ _ h => h) ?_ hS ?_
                     · intro o ho
                       replace ho := Option.some.inj (Eq.trans (Eq.symm ho) rfl)
                       subst ho
                       refine Or.inl ⟨by rfl, ?_⟩
                       intro w hSw
                       obtain ⟨q0, q1, q2⟩ := hSw
                       go_simp
                     simp only [Act.put, List.setIfInBounds_toArray, List.set_cons_zero, List.set_cons_succ]
                     refine take_at (i := 6) (d := some 112) (v := .int .i64 (tx : Nat)) (by kernel_rfl) (by kernel_rfl) (by kernel_rfl) (by kernel_rfl) (fun _ _ _ h => h) ?_ hS ?_
                     · intro o ho
                       replace ho := Option.some.inj (Eq.trans (Eq.symm ho) rfl)
                       subst ho
                       refine Or.inl ⟨by rfl, ?_⟩
                       intro w hSw
                       obtain ⟨q0, q1, q2⟩ := hSw
                       go_simp
                     simp only [Act.put, List.setIfInBounds_toArray, List.set_cons_zero, List.set_cons_succ]
                     refine take_at (i := 7) (d := some 113) (v := .slice (some ⟨tg, 0, none⟩) L c8) (by kernel_rfl) (by kernel_rfl) (by kernel_rfl) (by kernel_rfl) (fun _ _ _ h => h) ?_ hS ?_
                     · intro o ho
                       replace ho := Option.some.inj (Eq.trans (Eq.symm ho) rfl)
                       subst ho
                       refine Or.inl ⟨by rfl, ?_⟩
                       intro w hSw
                       obtain ⟨q0, q1, q2⟩ := hSw
                       go_simp
                     simp only [Act.put, List.setIfInBounds_toArray, List.set_cons_zero, List.set_cons_succ]
                     refine take_at (i := 8) (d := some 114) (v := .int .i64 (j : Nat)) (by kernel_rfl) (by kernel_rfl) (by kernel_rfl) (by kernel_rfl) (fun _ _ _ h => h) ?_ hS ?_
                     · intro o ho
                       replace ho := Option.some.inj (Eq.trans (Eq.symm ho) rfl)
                       subst ho
                       refine Or.inl ⟨by rfl, ?_⟩
                       intro w hSw
                       obtain ⟨q0, q1, q2⟩ := hSw
                       go_simp
                     simp only [Act.put, List.setIfInBounds_toArray, List.set_cons_zero, List.set_cons_succ]
                     refine take_at (i := 9) (d := some 115) (v := .int .i64 0) (by kernel_rfl) (by kernel_rfl) (by kernel_rfl) (by kernel_rfl) (fun _ _ _ h => h) ?_ hS ?_
                     · intro o ho
                       replace ho := Option.some.inj (Eq.trans (Eq.symm ho) rfl)
                       subst ho
                       refine Or.inl ⟨by rfl, ?_⟩
                       intro w hSw
                       obtain ⟨q0, q1, q2⟩ := hSw
                       go_simp
                     simp only [Act.put, List.setIfInBounds_toArray, List.set_cons_zero, List.set_cons_succ]
                     refine take_at (i := 10) (d := some 116) (v := .int .i64 1) (by kernel_rfl) (by kernel_rfl) (by kernel_rfl) (by kernel_rfl) (fun _ _ _ h => h) ?_ hS ?_
                     · intro o ho
                       replace ho := Option.some.inj (Eq.trans (Eq.symm ho) rfl)
                       subst ho
                       refine Or.inl ⟨by rfl, ?_⟩
                       intro w hSw
                       obtain ⟨q0, q1, q2⟩ := hSw
                       go_simp
                       exact (by decide)
                     simp only [Act.put, List.setIfInBounds_toArray, List.set_cons_zero, List.set_cons_succ]
                     refine take_at (i := 11) (d := some 117) (v := .int .i64 1) (by kernel_rfl) (by kernel_rfl) (by kernel_rfl) (by kernel_rfl) (fun _ _ _ h => h) ?_ hS ?_
                     · intro o ho
                       replace ho := Option.some.inj (Eq.trans (Eq.symm ho) rfl)
                       subst ho
                       refine Or.inl ⟨by rfl, ?_⟩
                       intro w hSw
                       obtain ⟨q0, q1, q2⟩ := hSw
                       go_simp
                     simp only [Act.put, List.setIfInBounds_toArray, List.set_cons_zero, List.set_cons_succ]
                     refine take_at (i := 12) (d := some 118) (v := .pointer (some ⟨tg, j * 3, none⟩)) (by kernel_rfl) (by kernel_rfl) (by kernel_rfl) (by kernel_rfl) (fun _ _ _ h => h) ?_ hS ?_
                     · intro o ho
                       replace ho := Option.some.inj (Eq.trans (Eq.symm ho) rfl)
                       subst ho
                       refine Or.inl ⟨by rfl, ?_⟩
                       intro w hSw
                       obtain ⟨q0, q1, q2⟩ := hSw
                       go_simp
                     simp only [Act.put, List.setIfInBounds_toArray, List.set_cons_zero, List.set_cons_succ]
                     refine take_at (i := 13) (d := some 119) (v := .pointer (some ⟨tg, j * 3 + 1, none⟩)) (by kernel_rfl) (by kernel_rfl) (by kernel_rfl) (by kernel_rfl) (fun _ _ _ h => h) ?_ hS ?_
                     · intro o ho
                       replace ho := Option.some.inj (Eq.trans (Eq.symm ho) rfl)
                       subst ho
                       refine Or.inl ⟨by rfl, ?_⟩
                       intro w hSw
                       obtain ⟨q0, q1, q2⟩ := hSw
                       go_simp
                     simp only [Act.put, List.setIfInBounds_toArray, List.set_cons_zero, List.set_cons_succ]
                     refine take_at (i := 14) (d := some 120) (v := .int .i64 (ty : Nat)) (by kernel_rfl) (by kernel_rfl) (by kernel_rfl) (by kernel_rfl) (fun _ _ _ h => h) ?_ hS ?_
                     · intro o ho
                       replace ho := Option.some.inj (Eq.trans (Eq.symm ho) rfl)
                       subst ho
                       refine Or.inl ⟨by rfl, ?_⟩
                       intro w hSw
                       obtain ⟨q0, q1, q2⟩ := hSw
                       go_simp
                     simp only [Act.put, List.setIfInBounds_toArray, List.set_cons_zero, List.set_cons_succ]
                     refine call_at 15 (by kernel_rfl) (by kernel_rfl) ?_
                     intro o ho
                     simp only [List.getElem?_toArray, List.getElem?_cons_succ, List.getElem?_cons_zero, Option.some.injEq] at ho
                     subst ho
                     intro KF hK
                     rw [if_pos (by rfl)]
                     go_simp
                     refine (apex_any HU1.out.m (tx : Nat) (ty : Nat)).mono ?_
                     rintro e w' ⟨rfl, hq⟩
                     rw [hq]
                     clear hq w'
                     rw [HP0.out]
                     go_wp2_with fail
                     refine hK.out _ _ (tri_cells HU1.out.r8 HX.out) ?_
                     clear hS
                     intro hS
                     clear hK KF
                     try simp only [Act.put, List.setIfInBounds_toArray, List.set_cons_zero, List.set_cons_succ]
                     refine take_at (i := 16) (d := some 105) (v := .tuple #[.int .i64 (tz : Nat), .bool true]) (by kernel_rfl) (by kernel_rfl) (by kernel_rfl) (by kernel_rfl) (fun _ _ _ h => h) ?_ hS ?_
                     · intro o ho
                       replace ho := Option.some.inj (Eq.trans (Eq.symm ho) rfl)
                       subst ho
                       refine Or.inl ⟨by rfl, ?_⟩
                       intro w hSw
                       obtain ⟨q0, q1, q2⟩ := hSw
                       go_simp
                     simp only [Act.put, List.setIfInBounds_toArray, List.set_cons_zero, List.set_cons_succ]
                     refine take_at (i := 17) (d := some 122) (v := .int .i64 (tz : Nat)) (by kernel_rfl) (by kernel_rfl) (by kernel_rfl) (by kernel_rfl) (fun _ _ _ h => h) ?_ hS ?_
                     · intro o ho
                       replace ho := Option.some.inj (Eq.trans (Eq.symm ho) rfl)
                       subst ho
                       refine Or.inl ⟨by rfl, ?_⟩
                       intro w hSw
                       obtain ⟨q0, q1, q2⟩ := hSw
                       go_simp
                     simp only [Act.put, List.setIfInBounds_toArray, List.set_cons_zero, List.set_cons_succ]
                     refine take_at (i := 18) (d := some 123) (v := .bool true) (by kernel_rfl) (by kernel_rfl) (by kernel_rfl) (by kernel_rfl) (fun _ _ _ h => h) ?_ hS ?_
                     · intro o ho
                       replace ho := Option.some.inj (Eq.trans (Eq.symm ho) rfl)
                       subst ho
                       refine Or.inl ⟨by rfl, ?_⟩
                       intro w hSw
                       obtain ⟨q0, q1, q2⟩ := hSw
                       go_simp
                     simp only [Act.put, List.setIfInBounds_toArray, List.set_cons_zero, List.set_cons_succ]
                     refine take_at (i := 19) (d := some 13) (v := .int .i64 (tz : Nat)) (by kernel_rfl) (by kernel_rfl) (by kernel_rfl) (by kernel_rfl) (fun _ _ _ h => h) ?_ hS ?_
                     · intro o ho
                       replace ho := Option.some.inj (Eq.trans (Eq.symm ho) rfl)
                       subst ho
                       refine Or.inl ⟨by rfl, ?_⟩
                       intro w hSw
                       obtain ⟨q0, q1, q2⟩ := hSw
                       go_simp
                     simp only [Act.put, List.setIfInBounds_toArray, List.set_cons_zero, List.set_cons_succ]
                     refine take_at (i := 20) (d := some 14) (v := .bool true) (by kernel_rfl) (by kernel_rfl) (by kernel_rfl) (by kernel_rfl) (fun _ _ _ h => h) ?_ hS ?_
                     · intro o ho
                       replace ho := Option.some.inj (Eq.trans (Eq.symm ho) rfl)
                       subst ho
                       refine Or.inl ⟨by rfl, ?_⟩
                       intro w hSw
                       obtain ⟨q0, q1, q2⟩ := hSw
                       go_simp
                     simp only [Act.put, List.setIfInBounds_toArray, List.set_cons_zero, List.set_cons_succ]
                     refine wpAnyH_done (by kernel_rfl) ?_ _
                     clear hS
                     go_wp2_with fail
                     all_goals exact ⟨⟨1, by omega, by go_num, HU1⟩, by simp [intOf]⟩
                  by_cases hk1 : k = 1
                  · subst hk1
                    as_aux_lemma =>
                     obtain ⟨q0, q1, q2⟩ := tri_cells HU1.out.r8 HX.out
                     go_wp2_with fail
                     refine wp_region_held_drew (S := (fun X => X.cell? ⟨tg, j * 3, none⟩ = some (.int .i64 (tx : Nat)) ∧ X.cell? ⟨tg, j * 3 + 1, none⟩ = some (.int .i64 (ty : Nat)) ∧ X.cell? ⟨tg, j * 3 + 2, none⟩ = some (.int .i64 (tz : Nat)))) (by kernel_rfl) (tri_cells HU1.out.r8 HX.out) (fun hS => ?_)
                     refine take_at (i := 0) (d := some 106) (v := .pointer (some ⟨mB, 0, none⟩)) (by kernel_rfl) (by kernel_rfl) (by kernel_rfl) (by kernel_rfl) (fun _ _ _ h => h) ?_ hS ?_
                     · intro o ho
                       replace ho := Option.some.inj (Eq.trans (Eq.symm ho) rfl)
                       subst ho
                       refine Or.inl ⟨by rfl, ?_⟩
                       intro w hSw
                       obtain ⟨q0, q1, q2⟩ := hSw
                       go_simp
                     simp only [Act.put, List.setIfInBounds_toArray, List.set_cons_zero, List.set_cons_succ]
                     refine take_at (i := 1) (d := some 107) (v := .slice (some ⟨tg, 0, none⟩) L c8) (by kernel_rfl) (by kernel_rfl) (by kernel_rfl) (by kernel_rfl) (fun _ _ _ h => h) ?_ hS ?_
                     · intro o ho
                       replace ho := Option.some.inj (Eq.trans (Eq.symm ho) rfl)
                       subst ho
                       refine Or.inl ⟨by rfl, ?_⟩
                       intro w hSw
                       obtain ⟨q0, q1, q2⟩ := hSw
                       go_simp
                     simp only [Act.put, List.setIfInBounds_toArray, List.set_cons_zero, List.set_cons_succ]
                     refine take_at (i := 2) (d := some 108) (v := .int .i64 (j : Nat)) (by kernel_rfl) (by kernel_rfl) (by kernel_rfl) (by kernel_rfl) (fun _ _ _ h => h) ?_ hS ?_
                     · intro o ho
                       replace ho := Option.some.inj (Eq.trans (Eq.symm ho) rfl)
                       subst ho
                       refine Or.inl ⟨by rfl, ?_⟩
                       intro w hSw
                       obtain ⟨q0, q1, q2⟩ := hSw
                       go_simp
                     simp only [Act.put, List.setIfInBounds_toArray, List.set_cons_zero, List.set_cons_succ]
                     refine take_at (i := 3) (d := some 109) (v := .int .i64 1) (by kernel_rfl) (by kernel_rfl) (by kernel_rfl) (by kernel_rfl) (fun _ _ _ h => h) ?_ hS ?_
                     · intro o ho
                       replace ho := Option.some.inj (Eq.trans (Eq.symm ho) rfl)
                       subst ho
                       refine Or.inl ⟨by rfl, ?_⟩
                       intro w hSw
                       obtain ⟨q0, q1, q2⟩ := hSw
                       go_simp
                     simp only [Act.put, List.setIfInBounds_toArray, List.set_cons_zero, List.set_cons_succ]
                     refine take_at (i := 4) (d := some 110) (v := .pointer (some ⟨tg, j * 3, none⟩)) (by kernel_rfl) (by kernel_rfl) (by kernel_rfl) (by kernel_rfl) (fun _ _ _ h => h) ?_ hS ?_
                     · intro o ho
                       replace ho := Option.some.inj (Eq.trans (Eq.symm ho) rfl)
                       subst ho
                       refine Or.inl ⟨by rfl, ?_⟩
                       intro w hSw
                       obtain ⟨q0, q1, q2⟩ := hSw
                       go_simp
                     simp only [Act.put, List.setIfInBounds_toArray, List.set_cons_zero, List.set_cons_succ]
                     refine take_at (i := 5) (d := some 111) (v := .pointer (some ⟨tg, j * 3 + 1, none⟩)) (by kernel_rfl) (by kernel_rfl) (by kernel_rfl) (by kernel_rfl) (fun _ _ _ h => h) ?_ hS ?_
                     · intro o ho
                       replace ho := Option.some.inj (Eq.trans (Eq.symm ho) rfl)
                       subst ho
                       refine Or.inl ⟨by rfl, ?_⟩
                       intro w hSw
                       obtain ⟨q0, q1, q2⟩ := hSw
                       go_simp
                     simp only [Act.put, List.setIfInBounds_toArray, List.set_cons_zero, List.set_cons_succ]
                     refine take_at (i := 6) (d := some 112) (v := .int .i64 (ty : Nat)) (by kernel_rfl) (by kernel_rfl) (by kernel_rfl) (by kernel_rfl) (fun _ _ _ h => h) ?_ hS ?_
                     · intro o ho
                       replace ho := Option.some.inj (Eq.trans (Eq.symm ho) rfl)
                       subst ho
                       refine Or.inl ⟨by rfl, ?_⟩
                       intro w hSw
                       obtain ⟨q0, q1, q2⟩ := hSw
                       go_simp
                     simp only [Act.put, List.setIfInBounds_toArray, List.set_cons_zero, List.set_cons_succ]
                     refine take_at (i := 7) (d := some 113) (v := .slice (some ⟨tg, 0, none⟩) L c8) (by kernel_rfl) (by kernel_rfl) (by kernel_rfl) (by kernel_rfl) (fun _ _ _ h => h) ?_ hS ?_
                     · intro o ho
                       replace ho := Option.some.inj (Eq.trans (Eq.symm ho) rfl)
                       subst ho
                       refine Or.inl ⟨by rfl, ?_⟩
                       intro w hSw
                       obtain ⟨q0, q1, q2⟩ := hSw
                       go_simp
                     simp only [Act.put, List.setIfInBounds_toArray, List.set_cons_zero, List.set_cons_succ]
                     refine take_at (i := 8) (d := some 114) (v := .int .i64 (j : Nat)) (by kernel_rfl) (by kernel_rfl) (by kernel_rfl) (by kernel_rfl) (fun _ _ _ h => h) ?_ hS ?_
                     · intro o ho
                       replace ho := Option.some.inj (Eq.trans (Eq.symm ho) rfl)
                       subst ho
                       refine Or.inl ⟨by rfl, ?_⟩
                       intro w hSw
                       obtain ⟨q0, q1, q2⟩ := hSw
                       go_simp
                     simp only [Act.put, List.setIfInBounds_toArray, List.set_cons_zero, List.set_cons_succ]
                     refine take_at (i := 9) (d := some 115) (v := .int .i64 1) (by kernel_rfl) (by kernel_rfl) (by kernel_rfl) (by kernel_rfl) (fun _ _ _ h => h) ?_ hS ?_
                     · intro o ho
                       replace ho := Option.some.inj (Eq.trans (Eq.symm ho) rfl)
                       subst ho
                       refine Or.inl ⟨by rfl, ?_⟩
                       intro w hSw
                       obtain ⟨q0, q1, q2⟩ := hSw
                       go_simp
                     simp only [Act.put, List.setIfInBounds_toArray, List.set_cons_zero, List.set_cons_succ]
                     refine take_at (i := 10) (d := some 116) (v := .int .i64 2) (by kernel_rfl) (by kernel_rfl) (by kernel_rfl) (by kernel_rfl) (fun _ _ _ h => h) ?_ hS ?_
                     · intro o ho
                       replace ho := Option.some.inj (Eq.trans (Eq.symm ho) rfl)
                       subst ho
                       refine Or.inl ⟨by rfl, ?_⟩
                       intro w hSw
                       obtain ⟨q0, q1, q2⟩ := hSw
                       go_simp
                       exact (by decide)
                     simp only [Act.put, List.setIfInBounds_toArray, List.set_cons_zero, List.set_cons_succ]
                     refine take_at (i := 11) (d := some 117) (v := .int .i64 2) (by kernel_rfl) (by kernel_rfl) (by kernel_rfl) (by kernel_rfl) (fun _ _ _ h => h) ?_ hS ?_
                     · intro o ho
                       replace ho := Option.some.inj (Eq.trans (Eq.symm ho) rfl)
                       subst ho
                       refine Or.inl ⟨by rfl, ?_⟩
                       intro w hSw
                       obtain ⟨q0, q1, q2⟩ := hSw
                       go_simp
                     simp only [Act.put, List.setIfInBounds_toArray, List.set_cons_zero, List.set_cons_succ]
                     refine take_at (i := 12) (d := some 118) (v := .pointer (some ⟨tg, j * 3, none⟩)) (by kernel_rfl) (by kernel_rfl) (by kernel_rfl) (by kernel_rfl) (fun _ _ _ h => h) ?_ hS ?_
                     · intro o ho
                       replace ho := Option.some.inj (Eq.trans (Eq.symm ho) rfl)
                       subst ho
                       refine Or.inl ⟨by rfl, ?_⟩
                       intro w hSw
                       obtain ⟨q0, q1, q2⟩ := hSw
                       go_simp
                     simp only [Act.put, List.setIfInBounds_toArray, List.set_cons_zero, List.set_cons_succ]
                     refine take_at (i := 13) (d := some 119) (v := .pointer (some ⟨tg, j * 3 + 2, none⟩)) (by kernel_rfl) (by kernel_rfl) (by kernel_rfl) (by kernel_rfl) (fun _ _ _ h => h) ?_ hS ?_
                     · intro o ho
                       replace ho := Option.some.inj (Eq.trans (Eq.symm ho) rfl)
                       subst ho
                       refine Or.inl ⟨by rfl, ?_⟩
                       intro w hSw
                       obtain ⟨q0, q1, q2⟩ := hSw
                       go_simp
                     simp only [Act.put, List.setIfInBounds_toArray, List.set_cons_zero, List.set_cons_succ]
                     refine take_at (i := 14) (d := some 120) (v := .int .i64 (tz : Nat)) (by kernel_rfl) (by kernel_rfl) (by kernel_rfl) (by kernel_rfl) (fun _ _ _ h => h) ?_ hS ?_
                     · intro o ho
                       replace ho := Option.some.inj (Eq.trans (Eq.symm ho) rfl)
                       subst ho
                       refine Or.inl ⟨by rfl, ?_⟩
                       intro w hSw
                       obtain ⟨q0, q1, q2⟩ := hSw
                       go_simp
                     simp only [Act.put, List.setIfInBounds_toArray, List.set_cons_zero, List.set_cons_succ]
                     refine call_at 15 (by kernel_rfl) (by kernel_rfl) ?_
                     intro o ho
                     simp only [List.getElem?_toArray, List.getElem?_cons_succ, List.getElem?_cons_zero, Option.some.injEq] at ho
                     subst ho
                     intro KF hK
                     rw [if_pos (by rfl)]
                     go_simp
                     refine (apex_any HU1.out.m (ty : Nat) (tz : Nat)).mono ?_
                     rintro e w' ⟨rfl, hq⟩
                     rw [hq]
                     clear hq w'
                     rw [HP1.out]
                     go_wp2_with fail
                     refine hK.out _ _ (tri_cells HU1.out.r8 HX.out) ?_
                     clear hS
                     intro hS
                     clear hK KF
                     try simp only [Act.put, List.setIfInBounds_toArray, List.set_cons_zero, List.set_cons_succ]
                     refine take_at (i := 16) (d := some 105) (v := .tuple #[.int .i64 (tx : Nat), .bool true]) (by kernel_rfl) (by kernel_rfl) (by kernel_rfl) (by kernel_rfl) (fun _ _ _ h => h) ?_ hS ?_
                     · intro o ho
                       replace ho := Option.some.inj (Eq.trans (Eq.symm ho) rfl)
                       subst ho
                       refine Or.inl ⟨by rfl, ?_⟩
                       intro w hSw
                       obtain ⟨q0, q1, q2⟩ := hSw
                       go_simp
                     simp only [Act.put, List.setIfInBounds_toArray, List.set_cons_zero, List.set_cons_succ]
                     refine take_at (i := 17) (d := some 122) (v := .int .i64 (tx : Nat)) (by kernel_rfl) (by kernel_rfl) (by kernel_rfl) (by kernel_rfl) (fun _ _ _ h => h) ?_ hS ?_
                     · intro o ho
                       replace ho := Option.some.inj (Eq.trans (Eq.symm ho) rfl)
                       subst ho
                       refine Or.inl ⟨by rfl, ?_⟩
                       intro w hSw
                       obtain ⟨q0, q1, q2⟩ := hSw
                       go_simp
                     simp only [Act.put, List.setIfInBounds_toArray, List.set_cons_zero, List.set_cons_succ]
                     refine take_at (i := 18) (d := some 123) (v := .bool true) (by kernel_rfl) (by kernel_rfl) (by kernel_rfl) (by kernel_rfl) (fun _ _ _ h => h) ?_ hS ?_
                     · intro o ho
                       replace ho := Option.some.inj (Eq.trans (Eq.symm ho) rfl)
                       subst ho
                       refine Or.inl ⟨by rfl, ?_⟩
                       intro w hSw
                       obtain ⟨q0, q1, q2⟩ := hSw
                       go_simp
                     simp only [Act.put, List.setIfInBounds_toArray, List.set_cons_zero, List.set_cons_succ]
                     refine take_at (i := 19) (d := some 13) (v := .int .i64 (tx : Nat)) (by kernel_rfl) (by kernel_rfl) (by kernel_rfl) (by kernel_rfl) (fun _ _ _ h => h) ?_ hS ?_
                     · intro o ho
                       replace ho := Option.some.inj (Eq.trans (Eq.symm ho) rfl)
                       subst ho
                       refine Or.inl ⟨by rfl, ?_⟩
                       intro w hSw
                       obtain ⟨q0, q1, q2⟩ := hSw
                       go_simp
                     simp only [Act.put, List.setIfInBounds_toArray, List.set_cons_zero, List.set_cons_succ]
                     refine take_at (i := 20) (d := some 14) (v := .bool true) (by kernel_rfl) (by kernel_rfl) (by kernel_rfl) (by kernel_rfl) (fun _ _ _ h => h) ?_ hS ?_
                     · intro o ho
                       replace ho := Option.some.inj (Eq.trans (Eq.symm ho) rfl)
                       subst ho
                       refine Or.inl ⟨by rfl, ?_⟩
                       intro w hSw
                       obtain ⟨q0, q1, q2⟩ := hSw
                       go_simp
                     simp only [Act.put, List.setIfInBounds_toArray, List.set_cons_zero, List.set_cons_succ]
                     refine wpAnyH_done (by kernel_rfl) ?_ _
                     clear hS
                     go_wp2_with fail
                     all_goals exact ⟨⟨2, by omega, by go_num, HU1⟩, by simp [intOf]⟩
                  by_cases hk2 : k = 2
                  · subst hk2
                    as_aux_lemma =>
                     obtain ⟨q0, q1, q2⟩ := tri_cells HU1.out.r8 HX.out
                     go_wp2_with fail
                     refine wp_region_held_drew (S := (fun X => X.cell? ⟨tg, j * 3, none⟩ = some (.int .i64 (tx : Nat)) ∧ X.cell? ⟨tg, j * 3 + 1, none⟩ = some (.int .i64 (ty : Nat)) ∧ X.cell? ⟨tg, j * 3 + 2, none⟩ = some (.int .i64 (tz : Nat)))) (by kernel_rfl) (tri_cells HU1.out.r8 HX.out) (fun hS => ?_)
                     refine take_at (i := 0) (d := some 106) (v := .pointer (some ⟨mB, 0, none⟩)) (by kernel_rfl) (by kernel_rfl) (by kernel_rfl) (by kernel_rfl) (fun _ _ _ h => h) ?_ hS ?_
                     · intro o ho
                       replace ho := Option.some.inj (Eq.trans (Eq.symm ho) rfl)
                       subst ho
                       refine Or.inl ⟨by rfl, ?_⟩
                       intro w hSw
                       obtain ⟨q0, q1, q2⟩ := hSw
                       go_simp
                     simp only [Act.put, List.setIfInBounds_toArray, List.set_cons_zero, List.set_cons_succ]
                     refine take_at (i := 1) (d := some 107) (v := .slice (some ⟨tg, 0, none⟩) L c8) (by kernel_rfl) (by kernel_rfl) (by kernel_rfl) (by kernel_rfl) (fun _ _ _ h => h) ?_ hS ?_
                     · intro o ho
                       replace ho := Option.some.inj (Eq.trans (Eq.symm ho) rfl)
                       subst ho
                       refine Or.inl ⟨by rfl, ?_⟩
                       intro w hSw
                       obtain ⟨q0, q1, q2⟩ := hSw
                       go_simp
                     simp only [Act.put, List.setIfInBounds_toArray, List.set_cons_zero, List.set_cons_succ]
                     refine take_at (i := 2) (d := some 108) (v := .int .i64 (j : Nat)) (by kernel_rfl) (by kernel_rfl) (by kernel_rfl) (by kernel_rfl) (fun _ _ _ h => h) ?_ hS ?_
                     · intro o ho
                       replace ho := Option.some.inj (Eq.trans (Eq.symm ho) rfl)
                       subst ho
                       refine Or.inl ⟨by rfl, ?_⟩
                       intro w hSw
                       obtain ⟨q0, q1, q2⟩ := hSw
                       go_simp
                     simp only [Act.put, List.setIfInBounds_toArray, List.set_cons_zero, List.set_cons_succ]
                     refine take_at (i := 3) (d := some 109) (v := .int .i64 2) (by kernel_rfl) (by kernel_rfl) (by kernel_rfl) (by kernel_rfl) (fun _ _ _ h => h) ?_ hS ?_
                     · intro o ho
                       replace ho := Option.some.inj (Eq.trans (Eq.symm ho) rfl)
                       subst ho
                       refine Or.inl ⟨by rfl, ?_⟩
                       intro w hSw
                       obtain ⟨q0, q1, q2⟩ := hSw
                       go_simp
                     simp only [Act.put, List.setIfInBounds_toArray, List.set_cons_zero, List.set_cons_succ]
                     refine take_at (i := 4) (d := some 110) (v := .pointer (some ⟨tg, j * 3, none⟩)) (by kernel_rfl) (by kernel_rfl) (by kernel_rfl) (by kernel_rfl) (fun _ _ _ h => h) ?_ hS ?_
                     · intro o ho
                       replace ho := Option.some.inj (Eq.trans (Eq.symm ho) rfl)
                       subst ho
                       refine Or.inl ⟨by rfl, ?_⟩
                       intro w hSw
                       obtain ⟨q0, q1, q2⟩ := hSw
                       go_simp
                     simp only [Act.put, List.setIfInBounds_toArray, List.set_cons_zero, List.set_cons_succ]
                     refine take_at (i := 5) (d := some 111) (v := .pointer (some ⟨tg, j * 3 + 2, none⟩)) (by kernel_rfl) (by kernel_rfl) (by kernel_rfl) (by kernel_rfl) (fun _ _ _ h => h) ?_ hS ?_
                     · intro o ho
                       replace ho := Option.some.inj (Eq.trans (Eq.symm ho) rfl)
                       subst ho
                       refine Or.inl ⟨by rfl, ?_⟩
                       intro w hSw
                       obtain ⟨q0, q1, q2⟩ := hSw
                       go_simp
                     simp only [Act.put, List.setIfInBounds_toArray, List.set_cons_zero, List.set_cons_succ]
                     refine take_at (i := 6) (d := some 112) (v := .int .i64 (tz : Nat)) (by kernel_rfl) (by kernel_rfl) (by kernel_rfl) (by kernel_rfl) (fun _ _ _ h => h) ?_ hS ?_
                     · intro o ho
                       replace ho := Option.some.inj (Eq.trans (Eq.symm ho) rfl)
                       subst ho
                       refine Or.inl ⟨by rfl, ?_⟩
                       intro w hSw
                       obtain ⟨q0, q1, q2⟩ := hSw
                       go_simp
                     simp only [Act.put, List.setIfInBounds_toArray, List.set_cons_zero, List.set_cons_succ]
                     refine take_at (i := 7) (d := some 113) (v := .slice (some ⟨tg, 0, none⟩) L c8) (by kernel_rfl) (by kernel_rfl) (by kernel_rfl) (by kernel_rfl) (fun _ _ _ h => h) ?_ hS ?_
                     · intro o ho
                       replace ho := Option.some.inj (Eq.trans (Eq.symm ho) rfl)
                       subst ho
                       refine Or.inl ⟨by rfl, ?_⟩
                       intro w hSw
                       obtain ⟨q0, q1, q2⟩ := hSw
                       go_simp
                     simp only [Act.put, List.setIfInBounds_toArray, List.set_cons_zero, List.set_cons_succ]
                     refine take_at (i := 8) (d := some 114) (v := .int .i64 (j : Nat)) (by kernel_rfl) (by kernel_rfl) (by kernel_rfl) (by kernel_rfl) (fun _ _ _ h => h) ?_ hS ?_
                     · intro o ho
                       replace ho := Option.some.inj (Eq.trans (Eq.symm ho) rfl)
                       subst ho
                       refine Or.inl ⟨by rfl, ?_⟩
                       intro w hSw
                       obtain ⟨q0, q1, q2⟩ := hSw
                       go_simp
                     simp only [Act.put, List.setIfInBounds_toArray, List.set_cons_zero, List.set_cons_succ]
                     refine take_at (i := 9) (d := some 115) (v := .int .i64 2) (by kernel_rfl) (by kernel_rfl) (by kernel_rfl) (by kernel_rfl) (fun _ _ _ h => h) ?_ hS ?_
                     · intro o ho
                       replace ho := Option.some.inj (Eq.trans (Eq.symm ho) rfl)
                       subst ho
                       refine Or.inl ⟨by rfl, ?_⟩
                       intro w hSw
                       obtain ⟨q0, q1, q2⟩ := hSw
                       go_simp
                     simp only [Act.put, List.setIfInBounds_toArray, List.set_cons_zero, List.set_cons_succ]
                     refine take_at (i := 10) (d := some 116) (v := .int .i64 3) (by kernel_rfl) (by kernel_rfl) (by kernel_rfl) (by kernel_rfl) (fun _ _ _ h => h) ?_ hS ?_
                     · intro o ho
                       replace ho := Option.some.inj (Eq.trans (Eq.symm ho) rfl)
                       subst ho
                       refine Or.inl ⟨by rfl, ?_⟩
                       intro w hSw
                       obtain ⟨q0, q1, q2⟩ := hSw
                       go_simp
                       exact (by decide)
                     simp only [Act.put, List.setIfInBounds_toArray, List.set_cons_zero, List.set_cons_succ]
                     refine take_at (i := 11) (d := some 117) (v := .int .i64 0) (by kernel_rfl) (by kernel_rfl) (by kernel_rfl) (by kernel_rfl) (fun _ _ _ h => h) ?_ hS ?_
                     · intro o ho
                       replace ho := Option.some.inj (Eq.trans (Eq.symm ho) rfl)
                       subst ho
                       refine Or.inl ⟨by rfl, ?_⟩
                       intro w hSw
                       obtain ⟨q0, q1, q2⟩ := hSw
                       go_simp
                     simp only [Act.put, List.setIfInBounds_toArray, List.set_cons_zero, List.set_cons_succ]
                     refine take_at (i := 12) (d := some 118) (v := .pointer (some ⟨tg, j * 3, none⟩)) (by kernel_rfl) (by kernel_rfl) (by kernel_rfl) (by kernel_rfl) (fun _ _ _ h => h) ?_ hS ?_
                     · intro o ho
                       replace ho := Option.some.inj (Eq.trans (Eq.symm ho) rfl)
                       subst ho
                       refine Or.inl ⟨by rfl, ?_⟩
                       intro w hSw
                       obtain ⟨q0, q1, q2⟩ := hSw
                       go_simp
                     simp only [Act.put, List.setIfInBounds_toArray, List.set_cons_zero, List.set_cons_succ]
                     refine take_at (i := 13) (d := some 119) (v := .pointer (some ⟨tg, j * 3, none⟩)) (by kernel_rfl) (by kernel_rfl) (by kernel_rfl) (by kernel_rfl) (fun _ _ _ h => h) ?_ hS ?_
                     · intro o ho
                       replace ho := Option.some.inj (Eq.trans (Eq.symm ho) rfl)
                       subst ho
                       refine Or.inl ⟨by rfl, ?_⟩
                       intro w hSw
                       obtain ⟨q0, q1, q2⟩ := hSw
                       go_simp
                     simp only [Act.put, List.setIfInBounds_toArray, List.set_cons_zero, List.set_cons_succ]
                     refine take_at (i := 14) (d := some 120) (v := .int .i64 (tx : Nat)) (by kernel_rfl) (by kernel_rfl) (by kernel_rfl) (by kernel_rfl) (fun _ _ _ h => h) ?_ hS ?_
                     · intro o ho
                       replace ho := Option.some.inj (Eq.trans (Eq.symm ho) rfl)
                       subst ho
                       refine Or.inl ⟨by rfl, ?_⟩
                       intro w hSw
                       obtain ⟨q0, q1, q2⟩ := hSw
                       go_simp
                     simp only [Act.put, List.setIfInBounds_toArray, List.set_cons_zero, List.set_cons_succ]
                     refine call_at 15 (by kernel_rfl) (by kernel_rfl) ?_
                     intro o ho
                     simp only [List.getElem?_toArray, List.getElem?_cons_succ, List.getElem?_cons_zero, Option.some.injEq] at ho
                     subst ho
                     intro KF hK
                     rw [if_pos (by rfl)]
                     go_simp
                     refine (apex_any HU1.out.m (tz : Nat) (tx : Nat)).mono ?_
                     rintro e w' ⟨rfl, hq⟩
                     rw [hq]
                     clear hq w'
                     rw [HP2.out]
                     go_wp2_with fail
                     refine hK.out _ _ (tri_cells HU1.out.r8 HX.out) ?_
                     clear hS
                     intro hS
                     clear hK KF
                     try simp only [Act.put, List.setIfInBounds_toArray, List.set_cons_zero, List.set_cons_succ]
                     refine take_at (i := 16) (d := some 105) (v := .tuple #[.int .i64 (ty : Nat), .bool true]) (by kernel_rfl) (by kernel_rfl) (by kernel_rfl) (by kernel_rfl) (fun _ _ _ h => h) ?_ hS ?_
                     · intro o ho
                       replace ho := Option.some.inj (Eq.trans (Eq.symm ho) rfl)
                       subst ho
                       refine Or.inl ⟨by rfl, ?_⟩
                       intro w hSw
                       obtain ⟨q0, q1, q2⟩ := hSw
                       go_simp
                     simp only [Act.put, List.setIfInBounds_toArray, List.set_cons_zero, List.set_cons_succ]
                     refine take_at (i := 17) (d := some 122) (v := .int .i64 (ty : Nat)) (by kernel_rfl) (by kernel_rfl) (by kernel_rfl) (by kernel_rfl) (fun _ _ _ h => h) ?_ hS ?_
                     · intro o ho
                       replace ho := Option.some.inj (Eq.trans (Eq.symm ho) rfl)
                       subst ho
                       refine Or.inl ⟨by rfl, ?_⟩
                       intro w hSw
                       obtain ⟨q0, q1, q2⟩ := hSw
                       go_simp
                     simp only [Act.put, List.setIfInBounds_toArray, List.set_cons_zero, List.set_cons_succ]
                     refine take_at (i := 18) (d := some 123) (v := .bool true) (by kernel_rfl) (by kernel_rfl) (by kernel_rfl) (by kernel_rfl) (fun _ _ _ h => h) ?_ hS ?_
                     · intro o ho
                       replace ho := Option.some.inj (Eq.trans (Eq.symm ho) rfl)
                       subst ho
                       refine Or.inl ⟨by rfl, ?_⟩
                       intro w hSw
                       obtain ⟨q0, q1, q2⟩ := hSw
                       go_simp
                     simp only [Act.put, List.setIfInBounds_toArray, List.set_cons_zero, List.set_cons_succ]
                     refine take_at (i := 19) (d := some 13) (v := .int .i64 (ty : Nat)) (by kernel_rfl) (by kernel_rfl) (by kernel_rfl) (by kernel_rfl) (fun _ _ _ h => h) ?_ hS ?_
                     · intro o ho
                       replace ho := Option.some.inj (Eq.trans (Eq.symm ho) rfl)
                       subst ho
                       refine Or.inl ⟨by rfl, ?_⟩
                       intro w hSw
                       obtain ⟨q0, q1, q2⟩ := hSw
                       go_simp
                     simp only [Act.put, List.setIfInBounds_toArray, List.set_cons_zero, List.set_cons_succ]
                     refine take_at (i := 20) (d := some 14) (v := .bool true) (by kernel_rfl) (by kernel_rfl) (by kernel_rfl) (by kernel_rfl) (fun _ _ _ h => h) ?_ hS ?_
                     · intro o ho
                       replace ho := Option.some.inj (Eq.trans (Eq.symm ho) rfl)
                       subst ho
                       refine Or.inl ⟨by rfl, ?_⟩
                       intro w hSw
                       obtain ⟨q0, q1, q2⟩ := hSw
                       go_simp
                     simp only [Act.put, List.setIfInBounds_toArray, List.set_cons_zero, List.set_cons_succ]
                     refine wpAnyH_done (by kernel_rfl) ?_ _
                     clear hS
                     go_wp2_with fail
                     all_goals exact ⟨⟨3, by omega, by go_num, HU1⟩, by simp [intOf]⟩
                  obtain rfl : 3 = k := by omega
                  by_cases hj0 : j = 0
                  · have hj0' : ¬ (0 : Int) < (j : Int) := by omega
                    clear hj0
                    as_aux_lemma =>
                     go_wp2_with fail
                     have HUd := HU1
                     refine wp_region_held_drew (S := (fun X => (X.cell? ⟨tg, j * 3, none⟩ = some (.int .i64 (tx : Nat)) ∧ X.cell? ⟨tg, j * 3 + 1, none⟩ = some (.int .i64 (ty : Nat)) ∧ X.cell? ⟨tg, j * 3 + 2, none⟩ = some (.int .i64 (tz : Nat))))) (by kernel_rfl) (tri_cells HUd.out.r8 HX.out) (fun hS => ?_)
                     refine take_at (i := 0) (d := some 138) (v := .slice (some ⟨tg, 0, none⟩) L c8) (by kernel_rfl) (by kernel_rfl) (by kernel_rfl) (by kernel_rfl) (fun _ _ _ h => h) ?_ hS ?_
                     · intro o ho
                       replace ho := Option.some.inj (Eq.trans (Eq.symm ho) rfl)
                       subst ho
                       refine Or.inl ⟨by rfl, ?_⟩
                       intro w hSw
                       obtain ⟨q0, q1, q2⟩ := hSw
                       go_simp
                     simp only [Act.put, List.setIfInBounds_toArray, List.set_cons_zero, List.set_cons_succ]
                     refine take_at (i := 1) (d := some 139) (v := .int .i64 (j : Nat)) (by kernel_rfl) (by kernel_rfl) (by kernel_rfl) (by kernel_rfl) (fun _ _ _ h => h) ?_ hS ?_
                     · intro o ho
                       replace ho := Option.some.inj (Eq.trans (Eq.symm ho) rfl)
                       subst ho
                       refine Or.inl ⟨by rfl, ?_⟩
                       intro w hSw
                       obtain ⟨q0, q1, q2⟩ := hSw
                       go_simp
                     simp only [Act.put, List.setIfInBounds_toArray, List.set_cons_zero, List.set_cons_succ]
                     refine take_at (i := 2) (d := some 140) (v := .pointer (some ⟨tg, j * 3, none⟩)) (by kernel_rfl) (by kernel_rfl) (by kernel_rfl) (by kernel_rfl) (fun _ _ _ h => h) ?_ hS ?_
                     · intro o ho
                       replace ho := Option.some.inj (Eq.trans (Eq.symm ho) rfl)
                       subst ho
                       refine Or.inl ⟨by rfl, ?_⟩
                       intro w hSw
                       obtain ⟨q0, q1, q2⟩ := hSw
                       go_simp
                     simp only [Act.put, List.setIfInBounds_toArray, List.set_cons_zero, List.set_cons_succ]
                     refine take_at (i := 3) (d := some 141) (v := .pointer (some ⟨tg, j * 3, none⟩)) (by kernel_rfl) (by kernel_rfl) (by kernel_rfl) (by kernel_rfl) (fun _ _ _ h => h) ?_ hS ?_
                     · intro o ho
                       replace ho := Option.some.inj (Eq.trans (Eq.symm ho) rfl)
                       subst ho
                       refine Or.inl ⟨by rfl, ?_⟩
                       intro w hSw
                       obtain ⟨q0, q1, q2⟩ := hSw
                       go_simp
                     simp only [Act.put, List.setIfInBounds_toArray, List.set_cons_zero, List.set_cons_succ]
                     refine take_at (i := 4) (d := some 142) (v := .int .i64 (tx : Nat)) (by kernel_rfl) (by kernel_rfl) (by kernel_rfl) (by kernel_rfl) (fun _ _ _ h => h) ?_ hS ?_
                     · intro o ho
                       replace ho := Option.some.inj (Eq.trans (Eq.symm ho) rfl)
                       subst ho
                       refine Or.inl ⟨by rfl, ?_⟩
                       intro w hSw
                       obtain ⟨q0, q1, q2⟩ := hSw
                       go_simp
                     simp only [Act.put, List.setIfInBounds_toArray, List.set_cons_zero, List.set_cons_succ]
                     refine take_at (i := 5) (d := some 143) (v := .slice (some ⟨tg, 0, none⟩) L c8) (by kernel_rfl) (by kernel_rfl) (by kernel_rfl) (by kernel_rfl) (fun _ _ _ h => h) ?_ hS ?_
                     · intro o ho
                       replace ho := Option.some.inj (Eq.trans (Eq.symm ho) rfl)
                       subst ho
                       refine Or.inl ⟨by rfl, ?_⟩
                       intro w hSw
                       obtain ⟨q0, q1, q2⟩ := hSw
                       go_simp
                     simp only [Act.put, List.setIfInBounds_toArray, List.set_cons_zero, List.set_cons_succ]
                     refine take_at (i := 6) (d := some 144) (v := .int .i64 (j : Nat)) (by kernel_rfl) (by kernel_rfl) (by kernel_rfl) (by kernel_rfl) (fun _ _ _ h => h) ?_ hS ?_
                     · intro o ho
                       replace ho := Option.some.inj (Eq.trans (Eq.symm ho) rfl)
                       subst ho
                       refine Or.inl ⟨by rfl, ?_⟩
                       intro w hSw
                       obtain ⟨q0, q1, q2⟩ := hSw
                       go_simp
                     simp only [Act.put, List.setIfInBounds_toArray, List.set_cons_zero, List.set_cons_succ]
                     refine take_at (i := 7) (d := some 145) (v := .pointer (some ⟨tg, j * 3, none⟩)) (by kernel_rfl) (by kernel_rfl) (by kernel_rfl) (by kernel_rfl) (fun _ _ _ h => h) ?_ hS ?_
                     · intro o ho
                       replace ho := Option.some.inj (Eq.trans (Eq.symm ho) rfl)
                       subst ho
                       refine Or.inl ⟨by rfl, ?_⟩
                       intro w hSw
                       obtain ⟨q0, q1, q2⟩ := hSw
                       go_simp
                     simp only [Act.put, List.setIfInBounds_toArray, List.set_cons_zero, List.set_cons_succ]
                     refine take_at (i := 8) (d := some 146) (v := .pointer (some ⟨tg, j * 3 + 1, none⟩)) (by kernel_rfl) (by kernel_rfl) (by kernel_rfl) (by kernel_rfl) (fun _ _ _ h => h) ?_ hS ?_
                     · intro o ho
                       replace ho := Option.some.inj (Eq.trans (Eq.symm ho) rfl)
                       subst ho
                       refine Or.inl ⟨by rfl, ?_⟩
                       intro w hSw
                       obtain ⟨q0, q1, q2⟩ := hSw
                       go_simp
                     simp only [Act.put, List.setIfInBounds_toArray, List.set_cons_zero, List.set_cons_succ]
                     refine take_at (i := 9) (d := some 147) (v := .int .i64 (ty : Nat)) (by kernel_rfl) (by kernel_rfl) (by kernel_rfl) (by kernel_rfl) (fun _ _ _ h => h) ?_ hS ?_
                     · intro o ho
                       replace ho := Option.some.inj (Eq.trans (Eq.symm ho) rfl)
                       subst ho
                       refine Or.inl ⟨by rfl, ?_⟩
                       intro w hSw
                       obtain ⟨q0, q1, q2⟩ := hSw
                       go_simp
                     simp only [Act.put, List.setIfInBounds_toArray, List.set_cons_zero, List.set_cons_succ]
                     refine take_at (i := 10) (d := some 148) (v := .bool false) (by kernel_rfl) (by kernel_rfl) (by kernel_rfl) (by kernel_rfl) (fun _ _ _ h => h) ?_ hS ?_
                     · intro o ho
                       replace ho := Option.some.inj (Eq.trans (Eq.symm ho) rfl)
                       subst ho
                       refine Or.inl ⟨by rfl, ?_⟩
                       intro w hSw
                       obtain ⟨q0, q1, q2⟩ := hSw
                       go_simp
                       try omega
                     simp only [Act.put, List.setIfInBounds_toArray, List.set_cons_zero, List.set_cons_succ]
                     refine take_at (i := 11) (d := some 149) (v := .bool false) (by kernel_rfl) (by kernel_rfl) (by kernel_rfl) (by kernel_rfl) (fun _ _ _ h => h) ?_ hS ?_
                     · intro o ho
                       replace ho := Option.some.inj (Eq.trans (Eq.symm ho) rfl)
                       subst ho
                       refine Or.inl ⟨by rfl, ?_⟩
                       intro w hSw
                       obtain ⟨q0, q1, q2⟩ := hSw
                       go_simp
                     simp only [Act.put, List.setIfInBounds_toArray, List.set_cons_zero, List.set_cons_succ]
                     refine take_at (i := 12) (d := some 150) (v := .slice (some ⟨tg, 0, none⟩) L c8) (by kernel_rfl) (by kernel_rfl) (by kernel_rfl) (by kernel_rfl) (fun _ _ _ h => h) ?_ hS ?_
                     · intro o ho
                       replace ho := Option.some.inj (Eq.trans (Eq.symm ho) rfl)
                       subst ho
                       refine Or.inl ⟨by rfl, ?_⟩
                       intro w hSw
                       obtain ⟨q0, q1, q2⟩ := hSw
                       go_simp
                     simp only [Act.put, List.setIfInBounds_toArray, List.set_cons_zero, List.set_cons_succ]
                     refine take_at (i := 13) (d := some 151) (v := .int .i64 (j : Nat)) (by kernel_rfl) (by kernel_rfl) (by kernel_rfl) (by kernel_rfl) (fun _ _ _ h => h) ?_ hS ?_
                     · intro o ho
                       replace ho := Option.some.inj (Eq.trans (Eq.symm ho) rfl)
                       subst ho
                       refine Or.inl ⟨by rfl, ?_⟩
                       intro w hSw
                       obtain ⟨q0, q1, q2⟩ := hSw
                       go_simp
                     simp only [Act.put, List.setIfInBounds_toArray, List.set_cons_zero, List.set_cons_succ]
                     refine take_at (i := 14) (d := some 152) (v := .pointer (some ⟨tg, j * 3, none⟩)) (by kernel_rfl) (by kernel_rfl) (by kernel_rfl) (by kernel_rfl) (fun _ _ _ h => h) ?_ hS ?_
                     · intro o ho
                       replace ho := Option.some.inj (Eq.trans (Eq.symm ho) rfl)
                       subst ho
                       refine Or.inl ⟨by rfl, ?_⟩
                       intro w hSw
                       obtain ⟨q0, q1, q2⟩ := hSw
                       go_simp
                     simp only [Act.put, List.setIfInBounds_toArray, List.set_cons_zero, List.set_cons_succ]
                     refine take_at (i := 15) (d := some 153) (v := .pointer (some ⟨tg, j * 3, none⟩)) (by kernel_rfl) (by kernel_rfl) (by kernel_rfl) (by kernel_rfl) (fun _ _ _ h => h) ?_ hS ?_
                     · intro o ho
                       replace ho := Option.some.inj (Eq.trans (Eq.symm ho) rfl)
                       subst ho
                       refine Or.inl ⟨by rfl, ?_⟩
                       intro w hSw
                       obtain ⟨q0, q1, q2⟩ := hSw
                       go_simp
                     simp only [Act.put, List.setIfInBounds_toArray, List.set_cons_zero, List.set_cons_succ]
                     refine take_at (i := 16) (d := some 154) (v := .int .i64 (tx : Nat)) (by kernel_rfl) (by kernel_rfl) (by kernel_rfl) (by kernel_rfl) (fun _ _ _ h => h) ?_ hS ?_
                     · intro o ho
                       replace ho := Option.some.inj (Eq.trans (Eq.symm ho) rfl)
                       subst ho
                       refine Or.inl ⟨by rfl, ?_⟩
                       intro w hSw
                       obtain ⟨q0, q1, q2⟩ := hSw
                       go_simp
                     simp only [Act.put, List.setIfInBounds_toArray, List.set_cons_zero, List.set_cons_succ]
                     refine take_at (i := 17) (d := some 155) (v := .slice (some ⟨tg, 0, none⟩) L c8) (by kernel_rfl) (by kernel_rfl) (by kernel_rfl) (by kernel_rfl) (fun _ _ _ h => h) ?_ hS ?_
                     · intro o ho
                       replace ho := Option.some.inj (Eq.trans (Eq.symm ho) rfl)
                       subst ho
                       refine Or.inl ⟨by rfl, ?_⟩
                       intro w hSw
                       obtain ⟨q0, q1, q2⟩ := hSw
                       go_simp
                     simp only [Act.put, List.setIfInBounds_toArray, List.set_cons_zero, List.set_cons_succ]
                     refine take_at (i := 18) (d := some 156) (v := .int .i64 (j : Nat)) (by kernel_rfl) (by kernel_rfl) (by kernel_rfl) (by kernel_rfl) (fun _ _ _ h => h) ?_ hS ?_
                     · intro o ho
                       replace ho := Option.some.inj (Eq.trans (Eq.symm ho) rfl)
                       subst ho
                       refine Or.inl ⟨by rfl, ?_⟩
                       intro w hSw
                       obtain ⟨q0, q1, q2⟩ := hSw
                       go_simp
                     simp only [Act.put, List.setIfInBounds_toArray, List.set_cons_zero, List.set_cons_succ]
                     refine take_at (i := 19) (d := some 157) (v := .pointer (some ⟨tg, j * 3, none⟩)) (by kernel_rfl) (by kernel_rfl) (by kernel_rfl) (by kernel_rfl) (fun _ _ _ h => h) ?_ hS ?_
                     · intro o ho
                       replace ho := Option.some.inj (Eq.trans (Eq.symm ho) rfl)
                       subst ho
                       refine Or.inl ⟨by rfl, ?_⟩
                       intro w hSw
                       obtain ⟨q0, q1, q2⟩ := hSw
                       go_simp
                     simp only [Act.put, List.setIfInBounds_toArray, List.set_cons_zero, List.set_cons_succ]
                     refine take_at (i := 20) (d := some 158) (v := .pointer (some ⟨tg, j * 3 + 2, none⟩)) (by kernel_rfl) (by kernel_rfl) (by kernel_rfl) (by kernel_rfl) (fun _ _ _ h => h) ?_ hS ?_
                     · intro o ho
                       replace ho := Option.some.inj (Eq.trans (Eq.symm ho) rfl)
                       subst ho
                       refine Or.inl ⟨by rfl, ?_⟩
                       intro w hSw
                       obtain ⟨q0, q1, q2⟩ := hSw
                       go_simp
                     simp only [Act.put, List.setIfInBounds_toArray, List.set_cons_zero, List.set_cons_succ]
                     refine take_at (i := 21) (d := some 159) (v := .int .i64 (tz : Nat)) (by kernel_rfl) (by kernel_rfl) (by kernel_rfl) (by kernel_rfl) (fun _ _ _ h => h) ?_ hS ?_
                     · intro o ho
                       replace ho := Option.some.inj (Eq.trans (Eq.symm ho) rfl)
                       subst ho
                       refine Or.inl ⟨by rfl, ?_⟩
                       intro w hSw
                       obtain ⟨q0, q1, q2⟩ := hSw
                       go_simp
                     simp only [Act.put, List.setIfInBounds_toArray, List.set_cons_zero, List.set_cons_succ]
                     refine take_at (i := 22) (d := some 160) (v := .bool false) (by kernel_rfl) (by kernel_rfl) (by kernel_rfl) (by kernel_rfl) (fun _ _ _ h => h) ?_ hS ?_
                     · intro o ho
                       replace ho := Option.some.inj (Eq.trans (Eq.symm ho) rfl)
                       subst ho
                       refine Or.inl ⟨by rfl, ?_⟩
                       intro w hSw
                       obtain ⟨q0, q1, q2⟩ := hSw
                       go_simp
                       try omega
                     simp only [Act.put, List.setIfInBounds_toArray, List.set_cons_zero, List.set_cons_succ]
                     refine take_at (i := 23) (d := some 161) (v := .bool false) (by kernel_rfl) (by kernel_rfl) (by kernel_rfl) (by kernel_rfl) (fun _ _ _ h => h) ?_ hS ?_
                     · intro o ho
                       replace ho := Option.some.inj (Eq.trans (Eq.symm ho) rfl)
                       subst ho
                       refine Or.inl ⟨by rfl, ?_⟩
                       intro w hSw
                       obtain ⟨q0, q1, q2⟩ := hSw
                       go_simp
                     simp only [Act.put, List.setIfInBounds_toArray, List.set_cons_zero, List.set_cons_succ]
                     refine take_at (i := 24) (d := some 162) (v := .bool false) (by kernel_rfl) (by kernel_rfl) (by kernel_rfl) (by kernel_rfl) (fun _ _ _ h => h) ?_ hS ?_
                     · intro o ho
                       replace ho := Option.some.inj (Eq.trans (Eq.symm ho) rfl)
                       subst ho
                       refine Or.inl ⟨by rfl, ?_⟩
                       intro w hSw
                       obtain ⟨q0, q1, q2⟩ := hSw
                       go_simp
                     simp only [Act.put, List.setIfInBounds_toArray, List.set_cons_zero, List.set_cons_succ]
                     refine take_at (i := 25) (d := some 163) (v := .int .i64 (j : Nat)) (by kernel_rfl) (by kernel_rfl) (by kernel_rfl) (by kernel_rfl) (fun _ _ _ h => h) ?_ hS ?_
                     · intro o ho
                       replace ho := Option.some.inj (Eq.trans (Eq.symm ho) rfl)
                       subst ho
                       refine Or.inl ⟨by rfl, ?_⟩
                       intro w hSw
                       obtain ⟨q0, q1, q2⟩ := hSw
                       go_simp
                     simp only [Act.put, List.setIfInBounds_toArray, List.set_cons_zero, List.set_cons_succ]
                     refine take_at (i := 26) (d := some 164) (v := .bool false) (by kernel_rfl) (by kernel_rfl) (by kernel_rfl) (by kernel_rfl) (fun _ _ _ h => h) ?_ hS ?_
                     · intro o ho
                       replace ho := Option.some.inj (Eq.trans (Eq.symm ho) rfl)
                       subst ho
                       refine Or.inl ⟨by rfl, ?_⟩
                       intro w hSw
                       obtain ⟨q0, q1, q2⟩ := hSw
                       go_simp
                       try omega
                     simp only [Act.put, List.setIfInBounds_toArray, List.set_cons_zero, List.set_cons_succ]
                     refine take_at (i := 27) (d := some 165) (v := .bool false) (by kernel_rfl) (by kernel_rfl) (by kernel_rfl) (by kernel_rfl) (fun _ _ _ h => h) ?_ hS ?_
                     · intro o ho
                       replace ho := Option.some.inj (Eq.trans (Eq.symm ho) rfl)
                       subst ho
                       refine Or.inl ⟨by rfl, ?_⟩
                       intro w hSw
                       obtain ⟨q0, q1, q2⟩ := hSw
                       go_simp
                     simp only [Act.put, List.setIfInBounds_toArray, List.set_cons_zero, List.set_cons_succ]
                     refine skip_at 28 (d := some 166) (by kernel_rfl) (by kernel_rfl) (by kernel_rfl) (by kernel_rfl) (fun _ _ _ h => h) (by rfl) hS ?_
                     simp only [Act.put, List.setIfInBounds_toArray, List.set_cons_zero, List.set_cons_succ]
                     refine skip_at 29 (d := some 167) (by kernel_rfl) (by kernel_rfl) (by kernel_rfl) (by kernel_rfl) (fun _ _ _ h => h) (by rfl) hS ?_
                     simp only [Act.put, List.setIfInBounds_toArray, List.set_cons_zero, List.set_cons_succ]
                     refine skip_at 30 (d := some 168) (by kernel_rfl) (by kernel_rfl) (by kernel_rfl) (by kernel_rfl) (fun _ _ _ h => h) (by rfl) hS ?_
                     simp only [Act.put, List.setIfInBounds_toArray, List.set_cons_zero, List.set_cons_succ]
                     refine skip_at 31 (d := some 169) (by kernel_rfl) (by kernel_rfl) (by kernel_rfl) (by kernel_rfl) (fun _ _ _ h => h) (by rfl) hS ?_
                     simp only [Act.put, List.setIfInBounds_toArray, List.set_cons_zero, List.set_cons_succ]
                     refine skip_at 32 (d := some 170) (by kernel_rfl) (by kernel_rfl) (by kernel_rfl) (by kernel_rfl) (fun _ _ _ h => h) (by rfl) hS ?_
                     simp only [Act.put, List.setIfInBounds_toArray, List.set_cons_zero, List.set_cons_succ]
                     refine skip_at 33 (d := some 171) (by kernel_rfl) (by kernel_rfl) (by kernel_rfl) (by kernel_rfl) (fun _ _ _ h => h) (by rfl) hS ?_
                     simp only [Act.put, List.setIfInBounds_toArray, List.set_cons_zero, List.set_cons_succ]
                     refine skip_at 34 (d := some 172) (by kernel_rfl) (by kernel_rfl) (by kernel_rfl) (by kernel_rfl) (fun _ _ _ h => h) (by rfl) hS ?_
                     simp only [Act.put, List.setIfInBounds_toArray, List.set_cons_zero, List.set_cons_succ]
                     refine skip_at 35 (d := some 173) (by kernel_rfl) (by kernel_rfl) (by kernel_rfl) (by kernel_rfl) (fun _ _ _ h => h) (by rfl) hS ?_
                     simp only [Act.put, List.setIfInBounds_toArray, List.set_cons_zero, List.set_cons_succ]
                     refine skip_at 36 (d := some 174) (by kernel_rfl) (by kernel_rfl) (by kernel_rfl) (by kernel_rfl) (fun _ _ _ h => h) (by rfl) hS ?_
                     simp only [Act.put, List.setIfInBounds_toArray, List.set_cons_zero, List.set_cons_succ]
                     refine skip_at 37 (d := some 175) (by kernel_rfl) (by kernel_rfl) (by kernel_rfl) (by kernel_rfl) (fun _ _ _ h => h) (by rfl) hS ?_
                     simp only [Act.put, List.setIfInBounds_toArray, List.set_cons_zero, List.set_cons_succ]
                     refine skip_at 38 (d := some 176) (by kernel_rfl) (by kernel_rfl) (by kernel_rfl) (by kernel_rfl) (fun _ _ _ h => h) (by rfl) hS ?_
                     simp only [Act.put, List.setIfInBounds_toArray, List.set_cons_zero, List.set_cons_succ]
                     refine take_at (i := 39) (d := some 177) (v := .bool false) (by kernel_rfl) (by kernel_rfl) (by kernel_rfl) (by kernel_rfl) (fun _ _ _ h => h) ?_ hS ?_
                     · intro o ho
                       replace ho := Option.some.inj (Eq.trans (Eq.symm ho) rfl)
                       subst ho
                       refine Or.inl ⟨by rfl, ?_⟩
                       intro w hSw
                       obtain ⟨q0, q1, q2⟩ := hSw
                       go_simp
                     simp only [Act.put, List.setIfInBounds_toArray, List.set_cons_zero, List.set_cons_succ]
                     refine take_at (i := 40) (d := some 178) (v := .bool false) (by kernel_rfl) (by kernel_rfl) (by kernel_rfl) (by kernel_rfl) (fun _ _ _ h => h) ?_ hS ?_
                     · intro o ho
                       replace ho := Option.some.inj (Eq.trans (Eq.symm ho) rfl)
                       subst ho
                       refine Or.inl ⟨by rfl, ?_⟩
                       intro w hSw
                       obtain ⟨q0, q1, q2⟩ := hSw
                       go_simp
                     simp only [Act.put, List.setIfInBounds_toArray, List.set_cons_zero, List.set_cons_succ]
                     refine wpAnyH_done (by kernel_rfl) ?_ _
                     clear hS
                     go_wp2_with fail
                     exact ⟨⟨j + 1, by omega, by go_num, HU1⟩, by simp [intOf]; omega⟩
                  · have hj0' : (0 : Int) < (j : Int) := by omega
                    obtain ⟨p, hp⟩ : ∃ p, j = p + 1 := ⟨j - 1, by omega⟩
                    have hwp : IntKind.i64.wrap ((j : Int) - 1) = (p : Int) := by rw [IntKind.wrap_i64]; omega
                    have hjp : (j : Int) - 1 = (p : Int) := by omega
                    have hpl : (p : Int) < (L : Int) := by omega
                    have hpl2 : ¬ L ≤ p := by omega
                    obtain ⟨⟨ux, uy, uz⟩, hxp⟩ : ∃ q, (trisL A)[p]? = some q := ⟨_, List.getElem?_eq_getElem (by have := HLn.out; omega)⟩
                    have HXp := Lib.hid hxp
                    have HLt := Lib.hid (tris_next HS3.out.uq (show p < j by omega) hxp HX.out)
                    clear hj0 hp hxp
                    as_aux_lemma =>
                     go_wp2_with fail
                     have HUd := HU1
                     refine wp_region_held_drew (S := (fun X => (X.cell? ⟨tg, j * 3, none⟩ = some (.int .i64 (tx : Nat)) ∧ X.cell? ⟨tg, j * 3 + 1, none⟩ = some (.int .i64 (ty : Nat)) ∧ X.cell? ⟨tg, j * 3 + 2, none⟩ = some (.int .i64 (tz : Nat))) ∧ (X.cell? ⟨tg, p * 3, none⟩ = some (.int .i64 (ux : Nat)) ∧ X.cell? ⟨tg, p * 3 + 1, none⟩ = some (.int .i64 (uy : Nat)) ∧ X.cell? ⟨tg, p * 3 + 2, none⟩ = some (.int .i64 (uz : Nat))))) (by kernel_rfl) ⟨tri_cells HUd.out.r8 HX.out, tri_cells HUd.out.r8 HXp.out⟩ (fun hS => ?_)
                     refine take_at (i := 0) (d := some 138) (v := .slice (some ⟨tg, 0, none⟩) L c8) (by kernel_rfl) (by kernel_rfl) (by kernel_rfl) (by kernel_rfl) (fun _ _ _ h => h) ?_ hS ?_
                     · intro o ho
                       replace ho := Option.some.inj (Eq.trans (Eq.symm ho) rfl)
                       subst ho
                       refine Or.inl ⟨by rfl, ?_⟩
                       intro w hSw
                       obtain ⟨⟨q0, q1, q2⟩, r0, r1, r2⟩ := hSw
                       go_simp
                     simp only [Act.put, List.setIfInBounds_toArray, List.set_cons_zero, List.set_cons_succ]
                     refine take_at (i := 1) (d := some 139) (v := .int .i64 (j : Nat)) (by kernel_rfl) (by kernel_rfl) (by kernel_rfl) (by kernel_rfl) (fun _ _ _ h => h) ?_ hS ?_
                     · intro o ho
                       replace ho := Option.some.inj (Eq.trans (Eq.symm ho) rfl)
                       subst ho
                       refine Or.inl ⟨by rfl, ?_⟩
                       intro w hSw
                       obtain ⟨⟨q0, q1, q2⟩, r0, r1, r2⟩ := hSw
                       go_simp
                     simp only [Act.put, List.setIfInBounds_toArray, List.set_cons_zero, List.set_cons_succ]
                     refine take_at (i := 2) (d := some 140) (v := .pointer (some ⟨tg, j * 3, none⟩)) (by kernel_rfl) (by kernel_rfl) (by kernel_rfl) (by kernel_rfl) (fun _ _ _ h => h) ?_ hS ?_
                     · intro o ho
                       replace ho := Option.some.inj (Eq.trans (Eq.symm ho) rfl)
                       subst ho
                       refine Or.inl ⟨by rfl, ?_⟩
                       intro w hSw
                       obtain ⟨⟨q0, q1, q2⟩, r0, r1, r2⟩ := hSw
                       go_simp
                     simp only [Act.put, List.setIfInBounds_toArray, List.set_cons_zero, List.set_cons_succ]
                     refine take_at (i := 3) (d := some 141) (v := .pointer (some ⟨tg, j * 3, none⟩)) (by kernel_rfl) (by kernel_rfl) (by kernel_rfl) (by kernel_rfl) (fun _ _ _ h => h) ?_ hS ?_
                     · intro o ho
                       replace ho := Option.some.inj (Eq.trans (Eq.symm ho) rfl)
                       subst ho
                       refine Or.inl ⟨by rfl, ?_⟩
                       intro w hSw
                       obtain ⟨⟨q0, q1, q2⟩, r0, r1, r2⟩ := hSw
                       go_simp
                     simp only [Act.put, List.setIfInBounds_toArray, List.set_cons_zero, List.set_cons_succ]
                     refine take_at (i := 4) (d := some 142) (v := .int .i64 (tx : Nat)) (by kernel_rfl) (by kernel_rfl) (by kernel_rfl) (by kernel_rfl) (fun _ _ _ h => h) ?_ hS ?_
                     · intro o ho
                       replace ho := Option.some.inj (Eq.trans (Eq.symm ho) rfl)
                       subst ho
                       refine Or.inl ⟨by rfl, ?_⟩
                       intro w hSw
                       obtain ⟨⟨q0, q1, q2⟩, r0, r1, r2⟩ := hSw
                       go_simp
                     simp only [Act.put, List.setIfInBounds_toArray, List.set_cons_zero, List.set_cons_succ]
                     refine take_at (i := 5) (d := some 143) (v := .slice (some ⟨tg, 0, none⟩) L c8) (by kernel_rfl) (by kernel_rfl) (by kernel_rfl) (by kernel_rfl) (fun _ _ _ h => h) ?_ hS ?_
                     · intro o ho
                       replace ho := Option.some.inj (Eq.trans (Eq.symm ho) rfl)
                       subst ho
                       refine Or.inl ⟨by rfl, ?_⟩
                       intro w hSw
                       obtain ⟨⟨q0, q1, q2⟩, r0, r1, r2⟩ := hSw
                       go_simp
                     simp only [Act.put, List.setIfInBounds_toArray, List.set_cons_zero, List.set_cons_succ]
                     refine take_at (i := 6) (d := some 144) (v := .int .i64 (j : Nat)) (by kernel_rfl) (by kernel_rfl) (by kernel_rfl) (by kernel_rfl) (fun _ _ _ h => h) ?_ hS ?_
                     · intro o ho
                       replace ho := Option.some.inj (Eq.trans (Eq.symm ho) rfl)
                       subst ho
                       refine Or.inl ⟨by rfl, ?_⟩
                       intro w hSw
                       obtain ⟨⟨q0, q1, q2⟩, r0, r1, r2⟩ := hSw
                       go_simp
                     simp only [Act.put, List.setIfInBounds_toArray, List.set_cons_zero, List.set_cons_succ]
                     refine take_at (i := 7) (d := some 145) (v := .pointer (some ⟨tg, j * 3, none⟩)) (by kernel_rfl) (by kernel_rfl) (by kernel_rfl) (by kernel_rfl) (fun _ _ _ h => h) ?_ hS ?_
                     · intro o ho
                       replace ho := Option.some.inj (Eq.trans (Eq.symm ho) rfl)
                       subst ho
                       refine Or.inl ⟨by rfl, ?_⟩
                       intro w hSw
                       obtain ⟨⟨q0, q1, q2⟩, r0, r1, r2⟩ := hSw
                       go_simp
                     simp only [Act.put, List.setIfInBounds_toArray, List.set_cons_zero, List.set_cons_succ]
                     refine take_at (i := 8) (d := some 146) (v := .pointer (some ⟨tg, j * 3 + 1, none⟩)) (by kernel_rfl) (by kernel_rfl) (by kernel_rfl) (by kernel_rfl) (fun _ _ _ h => h) ?_ hS ?_
                     · intro o ho
                       replace ho := Option.some.inj (Eq.trans (Eq.symm ho) rfl)
                       subst ho
                       refine Or.inl ⟨by rfl, ?_⟩
                       intro w hSw
                       obtain ⟨⟨q0, q1, q2⟩, r0, r1, r2⟩ := hSw
                       go_simp
                     simp only [Act.put, List.setIfInBounds_toArray, List.set_cons_zero, List.set_cons_succ]
                     refine take_at (i := 9) (d := some 147) (v := .int .i64 (ty : Nat)) (by kernel_rfl) (by kernel_rfl) (by kernel_rfl) (by kernel_rfl) (fun _ _ _ h => h) ?_ hS ?_
                     · intro o ho
                       replace ho := Option.some.inj (Eq.trans (Eq.symm ho) rfl)
                       subst ho
                       refine Or.inl ⟨by rfl, ?_⟩
                       intro w hSw
                       obtain ⟨⟨q0, q1, q2⟩, r0, r1, r2⟩ := hSw
                       go_simp
                     simp only [Act.put, List.setIfInBounds_toArray, List.set_cons_zero, List.set_cons_succ]
                     refine take_at (i := 10) (d := some 148) (v := .bool false) (by kernel_rfl) (by kernel_rfl) (by kernel_rfl) (by kernel_rfl) (fun _ _ _ h => h) ?_ hS ?_
                     · intro o ho
                       replace ho := Option.some.inj (Eq.trans (Eq.symm ho) rfl)
                       subst ho
                       refine Or.inl ⟨by rfl, ?_⟩
                       intro w hSw
                       obtain ⟨⟨q0, q1, q2⟩, r0, r1, r2⟩ := hSw
                       go_simp
                       try omega
                     simp only [Act.put, List.setIfInBounds_toArray, List.set_cons_zero, List.set_cons_succ]
                     refine take_at (i := 11) (d := some 149) (v := .bool false) (by kernel_rfl) (by kernel_rfl) (by kernel_rfl) (by kernel_rfl) (fun _ _ _ h => h) ?_ hS ?_
                     · intro o ho
                       replace ho := Option.some.inj (Eq.trans (Eq.symm ho) rfl)
                       subst ho
                       refine Or.inl ⟨by rfl, ?_⟩
                       intro w hSw
                       obtain ⟨⟨q0, q1, q2⟩, r0, r1, r2⟩ := hSw
                       go_simp
                     simp only [Act.put, List.setIfInBounds_toArray, List.set_cons_zero, List.set_cons_succ]
                     refine take_at (i := 12) (d := some 150) (v := .slice (some ⟨tg, 0, none⟩) L c8) (by kernel_rfl) (by kernel_rfl) (by kernel_rfl) (by kernel_rfl) (fun _ _ _ h => h) ?_ hS ?_
                     · intro o ho
                       replace ho := Option.some.inj (Eq.trans (Eq.symm ho) rfl)
                       subst ho
                       refine Or.inl ⟨by rfl, ?_⟩
                       intro w hSw
                       obtain ⟨⟨q0, q1, q2⟩, r0, r1, r2⟩ := hSw
                       go_simp
                     simp only [Act.put, List.setIfInBounds_toArray, List.set_cons_zero, List.set_cons_succ]
                     refine take_at (i := 13) (d := some 151) (v := .int .i64 (j : Nat)) (by kernel_rfl) (by kernel_rfl) (by kernel_rfl) (by kernel_rfl) (fun _ _ _ h => h) ?_ hS ?_
                     · intro o ho
                       replace ho := Option.some.inj (Eq.trans (Eq.symm ho) rfl)
                       subst ho
                       refine Or.inl ⟨by rfl, ?_⟩
                       intro w hSw
                       obtain ⟨⟨q0, q1, q2⟩, r0, r1, r2⟩ := hSw
                       go_simp
                     simp only [Act.put, List.setIfInBounds_toArray, List.set_cons_zero, List.set_cons_succ]
                     refine take_at (i := 14) (d := some 152) (v := .pointer (some ⟨tg, j * 3, none⟩)) (by kernel_rfl) (by kernel_rfl) (by kernel_rfl) (by kernel_rfl) (fun _ _ _ h => h) ?_ hS ?_
                     · intro o ho
                       replace ho := Option.some.inj (Eq.trans (Eq.symm ho) rfl)
                       subst ho
                       refine Or.inl ⟨by rfl, ?_⟩
                       intro w hSw
                       obtain ⟨⟨q0, q1, q2⟩, r0, r1, r2⟩ := hSw
                       go_simp
                     simp only [Act.put, List.setIfInBounds_toArray, List.set_cons_zero, List.set_cons_succ]
                     refine take_at (i := 15) (d := some 153) (v := .pointer (some ⟨tg, j * 3, none⟩)) (by kernel_rfl) (by kernel_rfl) (by kernel_rfl) (by kernel_rfl) (fun _ _ _ h => h) ?_ hS ?_
                     · intro o ho
                       replace ho := Option.some.inj (Eq.trans (Eq.symm ho) rfl)
                       subst ho
                       refine Or.inl ⟨by rfl, ?_⟩
                       intro w hSw
                       obtain ⟨⟨q0, q1, q2⟩, r0, r1, r2⟩ := hSw
                       go_simp
                     simp only [Act.put, List.setIfInBounds_toArray, List.set_cons_zero, List.set_cons_succ]
                     refine take_at (i := 16) (d := some 154) (v := .int .i64 (tx : Nat)) (by kernel_rfl) (by kernel_rfl) (by kernel_rfl) (by kernel_rfl) (fun _ _ _ h => h) ?_ hS ?_
                     · intro o ho
                       replace ho := Option.some.inj (Eq.trans (Eq.symm ho) rfl)
                       subst ho
                       refine Or.inl ⟨by rfl, ?_⟩
                       intro w hSw
                       obtain ⟨⟨q0, q1, q2⟩, r0, r1, r2⟩ := hSw
                       go_simp
                     simp only [Act.put, List.setIfInBounds_toArray, List.set_cons_zero, List.set_cons_succ]
                     refine take_at (i := 17) (d := some 155) (v := .slice (some ⟨tg, 0, none⟩) L c8) (by kernel_rfl) (by kernel_rfl) (by kernel_rfl) (by kernel_rfl) (fun _ _ _ h => h) ?_ hS ?_
                     · intro o ho
                       replace ho := Option.some.inj (Eq.trans (Eq.symm ho) rfl)
                       subst ho
                       refine Or.inl ⟨by rfl, ?_⟩
                       intro w hSw
                       obtain ⟨⟨q0, q1, q2⟩, r0, r1, r2⟩ := hSw
                       go_simp
                     simp only [Act.put, List.setIfInBounds_toArray, List.set_cons_zero, List.set_cons_succ]
                     refine take_at (i := 18) (d := some 156) (v := .int .i64 (j : Nat)) (by kernel_rfl) (by kernel_rfl) (by kernel_rfl) (by kernel_rfl) (fun _ _ _ h => h) ?_ hS ?_
                     · intro o ho
                       replace ho := Option.some.inj (Eq.trans (Eq.symm ho) rfl)
                       subst ho
                       refine Or.inl ⟨by rfl, ?_⟩
                       intro w hSw
                       obtain ⟨⟨q0, q1, q2⟩, r0, r1, r2⟩ := hSw
                       go_simp
                     simp only [Act.put, List.setIfInBounds_toArray, List.set_cons_zero, List.set_cons_succ]
                     refine take_at (i := 19) (d := some 157) (v := .pointer (some ⟨tg, j * 3, none⟩)) (by kernel_rfl) (by kernel_rfl) (by kernel_rfl) (by kernel_rfl) (fun _ _ _ h => h) ?_ hS ?_
                     · intro o ho
                       replace ho := Option.some.inj (Eq.trans (Eq.symm ho) rfl)
                       subst ho
                       refine Or.inl ⟨by rfl, ?_⟩
                       intro w hSw
                       obtain ⟨⟨q0, q1, q2⟩, r0, r1, r2⟩ := hSw
                       go_simp
                     simp only [Act.put, List.setIfInBounds_toArray, List.set_cons_zero, List.set_cons_succ]
                     refine take_at (i := 20) (d := some 158) (v := .pointer (some ⟨tg, j * 3 + 2, none⟩)) (by kernel_rfl) (by kernel_rfl) (by kernel_rfl) (by kernel_rfl) (fun _ _ _ h => h) ?_ hS ?_
                     · intro o ho
                       replace ho := Option.some.inj (Eq.trans (Eq.symm ho) rfl)
                       subst ho
                       refine Or.inl ⟨by rfl, ?_⟩
                       intro w hSw
                       obtain ⟨⟨q0, q1, q2⟩, r0, r1, r2⟩ := hSw
                       go_simp
                     simp only [Act.put, List.setIfInBounds_toArray, List.set_cons_zero, List.set_cons_succ]
                     refine take_at (i := 21) (d := some 159) (v := .int .i64 (tz : Nat)) (by kernel_rfl) (by kernel_rfl) (by kernel_rfl) (by kernel_rfl) (fun _ _ _ h => h) ?_ hS ?_
                     · intro o ho
                       replace ho := Option.some.inj (Eq.trans (Eq.symm ho) rfl)
                       subst ho
                       refine Or.inl ⟨by rfl, ?_⟩
                       intro w hSw
                       obtain ⟨⟨q0, q1, q2⟩, r0, r1, r2⟩ := hSw
                       go_simp
                     simp only [Act.put, List.setIfInBounds_toArray, List.set_cons_zero, List.set_cons_succ]
                     refine take_at (i := 22) (d := some 160) (v := .bool false) (by kernel_rfl) (by kernel_rfl) (by kernel_rfl) (by kernel_rfl) (fun _ _ _ h => h) ?_ hS ?_
                     · intro o ho
                       replace ho := Option.some.inj (Eq.trans (Eq.symm ho) rfl)
                       subst ho
                       refine Or.inl ⟨by rfl, ?_⟩
                       intro w hSw
                       obtain ⟨⟨q0, q1, q2⟩, r0, r1, r2⟩ := hSw
                       go_simp
                       try omega
                     simp only [Act.put, List.setIfInBounds_toArray, List.set_cons_zero, List.set_cons_succ]
                     refine take_at (i := 23) (d := some 161) (v := .bool false) (by kernel_rfl) (by kernel_rfl) (by kernel_rfl) (by kernel_rfl) (fun _ _ _ h => h) ?_ hS ?_
                     · intro o ho
                       replace ho := Option.some.inj (Eq.trans (Eq.symm ho) rfl)
                       subst ho
                       refine Or.inl ⟨by rfl, ?_⟩
                       intro w hSw
                       obtain ⟨⟨q0, q1, q2⟩, r0, r1, r2⟩ := hSw
                       go_simp
                     simp only [Act.put, List.setIfInBounds_toArray, List.set_cons_zero, List.set_cons_succ]
                     refine take_at (i := 24) (d := some 162) (v := .bool false) (by kernel_rfl) (by kernel_rfl) (by kernel_rfl) (by kernel_rfl) (fun _ _ _ h => h) ?_ hS ?_
                     · intro o ho
                       replace ho := Option.some.inj (Eq.trans (Eq.symm ho) rfl)
                       subst ho
                       refine Or.inl ⟨by rfl, ?_⟩
                       intro w hSw
                       obtain ⟨⟨q0, q1, q2⟩, r0, r1, r2⟩ := hSw
                       go_simp
                     simp only [Act.put, List.setIfInBounds_toArray, List.set_cons_zero, List.set_cons_succ]
                     refine take_at (i := 25) (d := some 163) (v := .int .i64 (j : Nat)) (by kernel_rfl) (by kernel_rfl) (by kernel_rfl) (by kernel_rfl) (fun _ _ _ h => h) ?_ hS ?_
                     · intro o ho
                       replace ho := Option.some.inj (Eq.trans (Eq.symm ho) rfl)
                       subst ho
                       refine Or.inl ⟨by rfl, ?_⟩
                       intro w hSw
                       obtain ⟨⟨q0, q1, q2⟩, r0, r1, r2⟩ := hSw
                       go_simp
                     simp only [Act.put, List.setIfInBounds_toArray, List.set_cons_zero, List.set_cons_succ]
                     refine take_at (i := 26) (d := some 164) (v := .bool true) (by kernel_rfl) (by kernel_rfl) (by kernel_rfl) (by kernel_rfl) (fun _ _ _ h => h) ?_ hS ?_
                     · intro o ho
                       replace ho := Option.some.inj (Eq.trans (Eq.symm ho) rfl)
                       subst ho
                       refine Or.inl ⟨by rfl, ?_⟩
                       intro w hSw
                       obtain ⟨⟨q0, q1, q2⟩, r0, r1, r2⟩ := hSw
                       go_simp
                       try omega
                     simp only [Act.put, List.setIfInBounds_toArray, List.set_cons_zero, List.set_cons_succ]
                     refine take_at (i := 27) (d := some 165) (v := .bool true) (by kernel_rfl) (by kernel_rfl) (by kernel_rfl) (by kernel_rfl) (fun _ _ _ h => h) ?_ hS ?_
                     · intro o ho
                       replace ho := Option.some.inj (Eq.trans (Eq.symm ho) rfl)
                       subst ho
                       refine Or.inl ⟨by rfl, ?_⟩
                       intro w hSw
                       obtain ⟨⟨q0, q1, q2⟩, r0, r1, r2⟩ := hSw
                       go_simp
                     simp only [Act.put, List.setIfInBounds_toArray, List.set_cons_zero, List.set_cons_succ]
                     refine take_at (i := 28) (d := some 166) (v := .slice (some ⟨tg, 0, none⟩) L c8) (by kernel_rfl) (by kernel_rfl) (by kernel_rfl) (by kernel_rfl) (fun _ _ _ h => h) ?_ hS ?_
                     · intro o ho
                       replace ho := Option.some.inj (Eq.trans (Eq.symm ho) rfl)
                       subst ho
                       refine Or.inl ⟨by rfl, ?_⟩
                       intro w hSw
                       obtain ⟨⟨q0, q1, q2⟩, r0, r1, r2⟩ := hSw
                       go_simp
                     simp only [Act.put, List.setIfInBounds_toArray, List.set_cons_zero, List.set_cons_succ]
                     refine take_at (i := 29) (d := some 167) (v := .int .i64 (j : Nat)) (by kernel_rfl) (by kernel_rfl) (by kernel_rfl) (by kernel_rfl) (fun _ _ _ h => h) ?_ hS ?_
                     · intro o ho
                       replace ho := Option.some.inj (Eq.trans (Eq.symm ho) rfl)
                       subst ho
                       refine Or.inl ⟨by rfl, ?_⟩
                       intro w hSw
                       obtain ⟨⟨q0, q1, q2⟩, r0, r1, r2⟩ := hSw
                       go_simp
                     simp only [Act.put, List.setIfInBounds_toArray, List.set_cons_zero, List.set_cons_succ]
                     refine take_at (i := 30) (d := some 168) (v := .int .i64 (p : Nat)) (by kernel_rfl) (by kernel_rfl) (by kernel_rfl) (by kernel_rfl) (fun _ _ _ h => h) ?_ hS ?_
                     · intro o ho
                       replace ho := Option.some.inj (Eq.trans (Eq.symm ho) rfl)
                       subst ho
                       refine Or.inl ⟨by rfl, ?_⟩
                       intro w hSw
                       obtain ⟨⟨q0, q1, q2⟩, r0, r1, r2⟩ := hSw
                       go_simp
                       try first | omega | (rw [IntKind.wrap_i64]; omega)
                     simp only [Act.put, List.setIfInBounds_toArray, List.set_cons_zero, List.set_cons_succ]
                     refine take_at (i := 31) (d := some 169) (v := .pointer (some ⟨tg, p * 3, none⟩)) (by kernel_rfl) (by kernel_rfl) (by kernel_rfl) (by kernel_rfl) (fun _ _ _ h => h) ?_ hS ?_
                     · intro o ho
                       replace ho := Option.some.inj (Eq.trans (Eq.symm ho) rfl)
                       subst ho
                       refine Or.inl ⟨by rfl, ?_⟩
                       intro w hSw
                       obtain ⟨⟨q0, q1, q2⟩, r0, r1, r2⟩ := hSw
                       go_simp
                     simp only [Act.put, List.setIfInBounds_toArray, List.set_cons_zero, List.set_cons_succ]
                     refine take_at (i := 32) (d := some 170) (v := .agg #[.int .i64 (ux : Nat), .int .i64 (uy : Nat), .int .i64 (uz : Nat)]) (by kernel_rfl) (by kernel_rfl) (by kernel_rfl) (by kernel_rfl) (fun _ _ _ h => h) ?_ hS ?_
                     · intro o ho
                       replace ho := Option.some.inj (Eq.trans (Eq.symm ho) rfl)
                       subst ho
                       refine Or.inl ⟨by rfl, ?_⟩
                       intro w hSw
                       obtain ⟨⟨q0, q1, q2⟩, r0, r1, r2⟩ := hSw
                       go_simp
                     simp only [Act.put, List.setIfInBounds_toArray, List.set_cons_zero, List.set_cons_succ]
                     refine take_at (i := 33) (d := some 171) (v := .slice (some ⟨tg, 0, none⟩) L c8) (by kernel_rfl) (by kernel_rfl) (by kernel_rfl) (by kernel_rfl) (fun _ _ _ h => h) ?_ hS ?_
                     · intro o ho
                       replace ho := Option.some.inj (Eq.trans (Eq.symm ho) rfl)
                       subst ho
                       refine Or.inl ⟨by rfl, ?_⟩
                       intro w hSw
                       obtain ⟨⟨q0, q1, q2⟩, r0, r1, r2⟩ := hSw
                       go_simp
                     simp only [Act.put, List.setIfInBounds_toArray, List.set_cons_zero, List.set_cons_succ]
                     refine take_at (i := 34) (d := some 172) (v := .int .i64 (j : Nat)) (by kernel_rfl) (by kernel_rfl) (by kernel_rfl) (by kernel_rfl) (fun _ _ _ h => h) ?_ hS ?_
                     · intro o ho
                       replace ho := Option.some.inj (Eq.trans (Eq.symm ho) rfl)
                       subst ho
                       refine Or.inl ⟨by rfl, ?_⟩
                       intro w hSw
                       obtain ⟨⟨q0, q1, q2⟩, r0, r1, r2⟩ := hSw
                       go_simp
                     simp only [Act.put, List.setIfInBounds_toArray, List.set_cons_zero, List.set_cons_succ]
                     refine take_at (i := 35) (d := some 173) (v := .pointer (some ⟨tg, j * 3, none⟩)) (by kernel_rfl) (by kernel_rfl) (by kernel_rfl) (by kernel_rfl) (fun _ _ _ h => h) ?_ hS ?_
                     · intro o ho
                       replace ho := Option.some.inj (Eq.trans (Eq.symm ho) rfl)
                       subst ho
                       refine Or.inl ⟨by rfl, ?_⟩
                       intro w hSw
                       obtain ⟨⟨q0, q1, q2⟩, r0, r1, r2⟩ := hSw
                       go_simp
                     simp only [Act.put, List.setIfInBounds_toArray, List.set_cons_zero, List.set_cons_succ]
                     refine take_at (i := 36) (d := some 174) (v := .agg #[.int .i64 (tx : Nat), .int .i64 (ty : Nat), .int .i64 (tz : Nat)]) (by kernel_rfl) (by kernel_rfl) (by kernel_rfl) (by kernel_rfl) (fun _ _ _ h => h) ?_ hS ?_
                     · intro o ho
                       replace ho := Option.some.inj (Eq.trans (Eq.symm ho) rfl)
                       subst ho
                       refine Or.inl ⟨by rfl, ?_⟩
                       intro w hSw
                       obtain ⟨⟨q0, q1, q2⟩, r0, r1, r2⟩ := hSw
                       go_simp
                     simp only [Act.put, List.setIfInBounds_toArray, List.set_cons_zero, List.set_cons_succ]
                     refine call_at 37 (by kernel_rfl) (by kernel_rfl) ?_
                     intro o ho
                     simp only [List.getElem?_toArray, List.getElem?_cons_succ, List.getElem?_cons_zero, Option.some.injEq] at ho
                     subst ho
                     intro KF hK
                     rw [if_pos (by rfl)]
                     go_simp
                     refine (less_any ux uy uz tx ty tz HLt.out _).mono ?_
                     rintro e w' ⟨rfl, hb⟩
                     have HU2 := Lib.hid (HUd.out.later hb)
                     clear hb
                     go_wp2_with fail
                     refine hK.out _ _ ⟨tri_cells HU2.out.r8 HX.out, tri_cells HU2.out.r8 HXp.out⟩ ?_
                     clear hS
                     intro hS
                     clear hK KF
                     try simp only [Act.put, List.setIfInBounds_toArray, List.set_cons_zero, List.set_cons_succ]
                     refine take_at (i := 38) (d := some 176) (v := .bool false) (by kernel_rfl) (by kernel_rfl) (by kernel_rfl) (by kernel_rfl) (fun _ _ _ h => h) ?_ hS ?_
                     · intro o ho
                       replace ho := Option.some.inj (Eq.trans (Eq.symm ho) rfl)
                       subst ho
                       refine Or.inl ⟨by rfl, ?_⟩
                       intro w hSw
                       obtain ⟨⟨q0, q1, q2⟩, r0, r1, r2⟩ := hSw
                       go_simp
                     simp only [Act.put, List.setIfInBounds_toArray, List.set_cons_zero, List.set_cons_succ]
                     refine take_at (i := 39) (d := some 177) (v := .bool false) (by kernel_rfl) (by kernel_rfl) (by kernel_rfl) (by kernel_rfl) (fun _ _ _ h => h) ?_ hS ?_
                     · intro o ho
                       replace ho := Option.some.inj (Eq.trans (Eq.symm ho) rfl)
                       subst ho
                       refine Or.inl ⟨by rfl, ?_⟩
                       intro w hSw
                       obtain ⟨⟨q0, q1, q2⟩, r0, r1, r2⟩ := hSw
                       go_simp
                     simp only [Act.put, List.setIfInBounds_toArray, List.set_cons_zero, List.set_cons_succ]
                     refine take_at (i := 40) (d := some 178) (v := .bool false) (by kernel_rfl) (by kernel_rfl) (by kernel_rfl) (by kernel_rfl) (fun _ _ _ h => h) ?_ hS ?_
                     · intro o ho
                       replace ho := Option.some.inj (Eq.trans (Eq.symm ho) rfl)
                       subst ho
                       refine Or.inl ⟨by rfl, ?_⟩
                       intro w hSw
                       obtain ⟨⟨q0, q1, q2⟩, r0, r1, r2⟩ := hSw
                       go_simp
                     simp only [Act.put, List.setIfInBounds_toArray, List.set_cons_zero, List.set_cons_succ]
                     refine wpAnyH_done (by kernel_rfl) ?_ _
                     clear hS
                     go_wp2_with fail
                     exact ⟨⟨j + 1, by omega, by go_num, HU2⟩, by simp [intOf]; omega⟩
              · obtain rfl : L = j := by omega
                as_aux_lemma =>
                 go_wp2
                 go_ret
                 exact ⟨rfl, HBf.out.trans (hJ.out.b.mono HBf.out.size)⟩
end Go.Proofs.YtcgbnjoajieggaaGreat
