/- Own texts, put together: Oe Of Og Oh Lk. -/
import Derived.Test.YtglcngjllfgdpabQ10
import Derived.Deep.RegionHeld3
/- Package orient: Fast. -/
namespace Go.Proofs.Ytglcngjllfgdpab
open Go.RowKit Go.Shelf
attribute [local go_sem ↓] Go.wp_at_zero Go.wp_at_succ
attribute [local go_sem] run_store_float

/-- A point as it is handed on. -/
abbrev pv (x y : Nat) : Value := .agg #[.float .f64 x, .float .f64 y]
/-- Three points that may be. -/
def P3 (ax ay bx by' cx cy : Nat) : Prop := Pt ax ay ∧ Pt bx by' ∧ Pt cx cy
/-- Words. -/
def W6 (ax ay bx by' cx cy : Nat) : Prop := (ax < 18446744073709551616 ∧ ay < 18446744073709551616) ∧ (bx < 18446744073709551616 ∧ by' < 18446744073709551616) ∧ cx < 18446744073709551616 ∧ cy < 18446744073709551616

/-- Three points, in a row of the call's own. -/
theorem has3 (ax ay bx by' cx cy : Nat) (w : World) (hw : W6 ax ay bx by' cx cy) :
    Calls Try.prog 24 #[.slice (some ⟨w.heap.size, 0, none⟩) 3 3] (w.alloc (.cells #[.float .f64 ax, .float .f64 ay, .float .f64 bx, .float .f64 by', .float .f64 cx, .float .f64 cy] 24)) fun e w' => (∃ t, e = .returned (.bool t) ∧ (t = true ↔ P3 ax ay bx by' cx cy)) ∧ Below w.heap.size w w' := by
  have hb : Below w.heap.size w (w.alloc (.cells #[.float .f64 ax, .float .f64 ay, .float .f64 bx, .float .f64 by', .float .f64 cx, .float .f64 cy] 24)) := (Below.refl _ w).alloc (Nat.le_refl _) _
  refine (has_walk w.heap.size 3 3 (fun k => if k = 0 then ax else if k = 1 then bx else cx) (fun k => if k = 0 then ay else if k = 1 then by' else cy) _ (fun k hk => ?_) (fun k => ?_) (by omega)).mono ?_
  · have : k = 0 ∨ k = 1 ∨ k = 2 := by omega
    rcases this with rfl | rfl | rfl <;> exact ⟨by go_simp, by go_simp⟩
  · constructor
    · show (if k = 0 then ax else if k = 1 then bx else cx) < _
      split
      · exact hw.1.1
      · split
        · exact hw.2.1.1
        · exact hw.2.2.1
    · show (if k = 0 then ay else if k = 1 then by' else cy) < _
      split
      · exact hw.1.2
      · split
        · exact hw.2.1.2
        · exact hw.2.2.2
  · rintro e w' ⟨⟨t, rfl, ht⟩, hb'⟩
    refine ⟨⟨t, rfl, ?_⟩, below_step hb hb'⟩
    rw [ht]
    exact ⟨fun h => ⟨h 0 (by omega), h 1 (by omega), h 2 (by omega)⟩, fun h j hj => by
      have : j = 0 ∨ j = 1 ∨ j = 2 := by omega
      rcases this with rfl | rfl | rfl
      · exact h.1
      · exact h.2.1
      · exact h.2.2⟩

/-- Three points in boxes of the call's own. -/
structure B3 (w W : World) (ax ay bx by' cx cy : Nat) : Prop where
  a0 : W.cell? ⟨w.heap.size, 0, none⟩ = some (.float .f64 ax)
  a1 : W.cell? ⟨w.heap.size, 1, none⟩ = some (.float .f64 ay)
  b0 : W.cell? ⟨w.heap.size + 1, 0, none⟩ = some (.float .f64 bx)
  b1 : W.cell? ⟨w.heap.size + 1, 1, none⟩ = some (.float .f64 by')
  c0 : W.cell? ⟨w.heap.size + 1 + 1, 0, none⟩ = some (.float .f64 cx)
  c1 : W.cell? ⟨w.heap.size + 1 + 1, 1, none⟩ = some (.float .f64 cy)
  bel : Below w.heap.size w W
theorem B3.later {w W W' : World} {ax ay bx by' cx cy : Nat} (h : B3 w W ax ay bx by' cx cy) (hb : Below W.heap.size W W') : B3 w W' ax ay bx by' cx cy :=
  ⟨box_cell hb h.a0, box_cell hb h.a1, box_cell hb h.b0, box_cell hb h.b1, box_cell hb h.c0, box_cell hb h.c1, below_step h.bel hb⟩
theorem B3.start (w : World) (ax ay bx by' cx cy : Nat) : B3 w (((w.alloc (.cells #[.float .f64 ax, .float .f64 ay] 24)).alloc (.cells #[.float .f64 bx, .float .f64 by'] 24)).alloc (.cells #[.float .f64 cx, .float .f64 cy] 24)) ax ay bx by' cx cy :=
  ⟨by go_simp, by go_simp, by go_simp, by go_simp, by go_simp, by go_simp, (((Below.refl _ w).alloc (Nat.le_refl _) _).alloc (by simp) _).alloc (by simp; omega) _⟩
theorem has3' (ax ay bx by' cx cy px py qx qy rx ry : Nat) (w : World) (hw : W6 ax ay bx by' cx cy) :
    Calls Try.prog 24 #[.slice (some ⟨w.heap.size + 1 + 1 + 1, 0, none⟩) 3 3] ((((w.alloc (.cells #[.float .f64 px, .float .f64 py] 24)).alloc (.cells #[.float .f64 qx, .float .f64 qy] 24)).alloc (.cells #[.float .f64 rx, .float .f64 ry] 24)).alloc (.cells #[.float .f64 ax, .float .f64 ay, .float .f64 bx, .float .f64 by', .float .f64 cx, .float .f64 cy] 24)) fun e w' => (∃ t, e = .returned (.bool t) ∧ (t = true ↔ P3 ax ay bx by' cx cy)) ∧ B3 w w' px py qx qy rx ry := by
  have h := has3 ax ay bx by' cx cy (((w.alloc (.cells #[.float .f64 px, .float .f64 py] 24)).alloc (.cells #[.float .f64 qx, .float .f64 qy] 24)).alloc (.cells #[.float .f64 rx, .float .f64 ry] 24)) hw
  have e : (((w.alloc (.cells #[.float .f64 px, .float .f64 py] 24)).alloc (.cells #[.float .f64 qx, .float .f64 qy] 24)).alloc (.cells #[.float .f64 rx, .float .f64 ry] 24)).heap.size = w.heap.size + 1 + 1 + 1 := by simp
  have hs := B3.start w px py qx qy rx ry
  generalize ((w.alloc (.cells #[.float .f64 px, .float .f64 py] 24)).alloc (.cells #[.float .f64 qx, .float .f64 qy] 24)).alloc (.cells #[.float .f64 rx, .float .f64 ry] 24) = W at *
  rw [← e]
  exact h.mono fun e' w' ⟨h1, h2⟩ => ⟨h1, hs.later h2⟩

/-- What Fast answers. -/
def FastR (ax ay bx by' cx cy : Nat) (z : Int) (t : Bool) : Prop :=
  (t = true → P3 ax ay bx by' cx cy ∧ z = sgq (S3 ax ay bx by' cx cy)) ∧ (t = false → z = 0) ∧ (P3 ax ay bx by' cx cy → Sm ax → Sm ay → Sm bx → Sm by' → Sm cx → Sm cy → S3 ax ay bx by' cx cy ≠ 0 → t = true)

set_option maxRecDepth 100000 in
set_option maxHeartbeats 4000000 in
theorem fast_any (ax ay bx by' cx cy : Nat) (w : World) (hw : W6 ax ay bx by' cx cy) :
    Calls Try.prog 10 #[pv ax ay, pv bx by', pv cx cy] w fun e w' => (∃ z t, e = .returned (.tuple #[.int .i64 z, .bool t]) ∧ FastR ax ay bx by' cx cy z t) ∧ Below w.heap.size w w' := by
  have HW : Hid (W6 ax ay bx by' cx cy) := hw
  clear hw
  go_enter Try.func10, Try.ntmps10
  go_wp2_with fail
  refine (has3' ax ay bx by' cx cy ax ay bx by' cx cy w HW.out).mono ?_
  rintro e w1 ⟨⟨t, rfl, ht⟩, hB⟩
  have HB : Hid (Below w.heap.size w w1) := hB.bel
  have HT : Hid (t = true ↔ P3 ax ay bx by' cx cy) := ht
  clear ht
  cases t
  · clear hB
    go_wp2
    go_ret2
    exact ⟨⟨0, false, rfl, fun h => Bool.noConfusion h, fun _ => rfl, fun h => Bool.noConfusion (HT.out.2 h)⟩, HB.out⟩
  · have HP : Hid (P3 ax ay bx by' cx cy) := HT.out.1 rfl
    obtain ⟨u0, u1, u2, u3, u4, u5, _⟩ := hB
    obtain ⟨d1, d2, l, d3, d4, r, s, z, v, e1, e2, el, e3, e4, er, es, ez, ev, wl, wr, ws, fs, hsg, hkn⟩ := fast_words HP.out.1.1 HP.out.1.2 HP.out.2.1.1 HP.out.2.1.2 HP.out.2.2.1 HP.out.2.2.2
    have r1 : ∀ w, (binOp .sub 22 (.float .f64 bx) (.float .f64 ax)).run Try.prog w = .ok (.float .f64 d1) w := fun w => run_float_arith w .sub _ .f64 _ _ _ e1
    have r2 : ∀ w, (binOp .sub 22 (.float .f64 cy) (.float .f64 ay)).run Try.prog w = .ok (.float .f64 d2) w := fun w => run_float_arith w .sub _ .f64 _ _ _ e2
    have r3 : ∀ w, (binOp .mul 22 (.float .f64 d1) (.float .f64 d2)).run Try.prog w = .ok (.float .f64 l) w := fun w => run_float_arith w .mul _ .f64 _ _ _ el
    have r4 : ∀ w, (binOp .sub 22 (.float .f64 by') (.float .f64 ay)).run Try.prog w = .ok (.float .f64 d3) w := fun w => run_float_arith w .sub _ .f64 _ _ _ e3
    have r5 : ∀ w, (binOp .sub 22 (.float .f64 cx) (.float .f64 ax)).run Try.prog w = .ok (.float .f64 d4) w := fun w => run_float_arith w .sub _ .f64 _ _ _ e4
    have r6 : ∀ w, (binOp .mul 22 (.float .f64 d3) (.float .f64 d4)).run Try.prog w = .ok (.float .f64 r) w := fun w => run_float_arith w .mul _ .f64 _ _ _ er
    have r7 : ∀ w, (binOp .sub 22 (.float .f64 l) (.float .f64 r)).run Try.prog w = .ok (.float .f64 s) w := fun w => run_float_arith w .sub _ .f64 _ _ _ es
    have r8 : ∀ w, (binOp .add 22 (.float .f64 (frung l)) (.float .f64 (frung r))).run Try.prog w = .ok (.float .f64 z) w := fun w => run_float_arith w .add _ .f64 _ _ _ ez
    have r9 : ∀ w, (binOp .mul 22 (.float .f64 4377498837804122112) (.float .f64 z)).run Try.prog w = .ok (.float .f64 v) w := fun w => run_float_arith w .mul _ .f64 _ _ _ ev
    have HL : Hid (∀ w, Calls Try.prog 25 #[.float .f64 l] w fun e w' => e = .returned (.float .f64 (frung l)) ∧ w' = w) := fun w => abs_any l w wl
    have HR : Hid (∀ w, Calls Try.prog 25 #[.float .f64 r] w fun e w' => e = .returned (.float .f64 (frung r)) ∧ w' = w) := fun w => abs_any r w wr
    have HS : Hid (∀ w, Calls Try.prog 25 #[.float .f64 s] w fun e w' => e = .returned (.float .f64 (frung s)) ∧ w' = w) := fun w => abs_any s w ws
    have HC : Hid (∀ w, Calls Try.prog 26 #[.float .f64 s, .float .f64 0] w fun e w' => e = .returned (.int .i64 (sgq (fval s))) ∧ w' = w) := fun w => compare_zero s w fs
    obtain ⟨tb, htb⟩ : ∃ tb, (FloatKind.f64.format.order (frung s) v == some .lt) = tb := ⟨_, rfl⟩
    have HSG : Hid (tb = false → sgq (fval s) = sgq (S3 ax ay bx by' cx cy)) := by rw [← htb]; exact hsg
    have HKN : Hid (Sm ax → Sm ay → Sm bx → Sm by' → Sm cx → Sm cy → S3 ax ay bx by' cx cy ≠ 0 → tb = false) := by rw [← htb]; exact hkn
    clear e1 e2 el e3 e4 er es ez ev wl wr ws fs hsg hkn HT
    generalize frung l = fl at *
    generalize frung r = fr at *
    generalize frung s = fs at *
    generalize sgq (fval s) = sg at *
    go_wp2_with fail
    refine (HL.out _).mono ?_
    rintro e w2 ⟨rfl, rfl⟩
    go_wp2_with fail
    refine (HR.out _).mono ?_
    rintro e w2 ⟨rfl, rfl⟩
    go_wp2_with fail
    refine (HS.out _).mono ?_
    rintro e w2 ⟨rfl, rfl⟩
    cases tb
    · go_wp2_with fail
      refine (HC.out _).mono ?_
      rintro e w2 ⟨rfl, rfl⟩
      go_wp2
      go_ret2
      exact ⟨⟨sg, true, rfl, fun _ => ⟨HP.out, HSG.out (by simp)⟩, fun h => Bool.noConfusion h, fun _ _ _ _ _ _ _ _ => rfl⟩, HB.out⟩
    · go_wp2
      go_ret2
      exact ⟨⟨0, false, rfl, fun h => Bool.noConfusion h, fun _ => rfl, fun _ a1 a2 a3 a4 a5 a6 a7 => (HKN.out a1 a2 a3 a4 a5 a6 a7).symm⟩, HB.out⟩

end Go.Proofs.Ytglcngjllfgdpab

/- Package orient: grown, differences as lists. -/
namespace Go.Proofs.Ytglcngjllfgdpab
open Go.RowKit Go.Shelf
attribute [local go_sem ↓] Go.wp_at_zero Go.wp_at_succ
attribute [local go_sem] run_store_float

/-- Those of two floats that are not 0, as far as one has come. -/
def pl (y x : Nat) (k : Nat) : List Nat := if k = 0 then [] else if k = 1 then gw [] y else gw (gw [] y) x
theorem pl_next (y x k : Nat) (hk : k < 2) : pl y x (k + 1) = gw (pl y x k) (if k = 0 then y else x) := by
  have : k = 0 ∨ k = 1 := by omega
  rcases this with rfl | rfl <;> rfl
theorem pl_len (y x k : Nat) : (pl y x k).length ≤ 2 := by
  unfold pl gw
  split
  · simp
  · split
    · split <;> simp
    · split
      · split <;> simp
      · split <;> simp

set_option maxRecDepth 100000 in
set_option maxHeartbeats 2000000 in
theorem grown2_any (g c y x : Nat) (w : World) (h1 : w.cell? ⟨g, 0, none⟩ = some (.float .f64 y)) (h2 : w.cell? ⟨g, 1, none⟩ = some (.float .f64 x)) (hy : y < 18446744073709551616) (hx : x < 18446744073709551616) :
    Calls Try.prog 40 #[.slice (some ⟨g, 0, none⟩) 2 c] w fun e w' => (∃ v, e = .returned v ∧ Fr w' w.heap.size v (gw (gw [] y) x)) ∧ Below w.heap.size w w' := by
  have HC : Hid (∀ k, k < 2 → w.cell? ⟨g, k, none⟩ = some (.float .f64 (if k = 0 then y else x))) := fun k hk => by
    have : k = 0 ∨ k = 1 := by omega
    rcases this with rfl | rfl
    · exact h1
    · exact h2
  have HW : Hid (y < 18446744073709551616 ∧ x < 18446744073709551616) := ⟨hy, hx⟩
  clear h1 h2 hy hx
  obtain ⟨i0, hi0, hz0, hz1, hz2⟩ := info_parts infoF
  go_enter Try.func40, Try.ntmps40
  go_wp2
  go_loopw [3, 8] (fun l i wr => ∃ (k : Nat) (v : Value), k ≤ 2 ∧ i = .int .i64 (k : Nat) ∧ v = l ∧ Hid (Fr wr w.heap.size v (pl y x k) ∧ Below w.heap.size w wr)) (fun _ i _ => 2 - (intOf i).toNat)
  case atStart => exact ⟨0, _, Nat.zero_le _, rfl, rfl, Fr.nil _ _, Below.refl _ _⟩
  case round =>
    obtain ⟨k, v, hk, rfl, rfl, hB⟩ := hrel
    by_cases hlt : k < 2
    · have hlt' : (k : Int) < 2 := by omega
      have hk0 : (0 : Int) ≤ (k : Int) := by omega
      have c1 := box_cell hB.out.2 (HC.out k hlt)
      obtain ⟨z, hz⟩ : ∃ z : Nat, Hid ((if k = 0 then y else x) = z) := ⟨_, rfl⟩
      rw [hz.out] at c1
      have HZ : Hid (z < 18446744073709551616) := by
        rw [← hz.out]
        show (if k = 0 then y else x) < _
        split
        · exact HW.out.1
        · exact HW.out.2
      have q := eql_zero2 z
      by_cases h0 : frung z = 0
      · rw [decide_eq_true h0] at q
        have q' : FloatKind.f64.format.order z 0 = some .eq := by simpa using q
        have HG : Hid (pl y x (k + 1) = pl y x k) := by
          show pl y x (k + 1) = _
          rw [pl_next y x k hlt, hz.out]; unfold gw; rw [if_pos h0]
        clear h0 q
        go_wp2
        exact ⟨⟨k + 1, v, by omega, by go_num, rfl, by rw [HG.out]; exact hB.out⟩, by simp [intOf]; omega⟩
      · rw [decide_eq_false h0] at q
        have HG : Hid (pl y x (k + 1) = pl y x k ++ [z]) := by
          show pl y x (k + 1) = _
          rw [pl_next y x k hlt, hz.out]; unfold gw; rw [if_neg h0]
        have q2 : (FloatKind.f64.format.order z 0 != some .eq) = true := by rw [bne, q]; rfl
        clear h0 q
        go_wp2_with (at_builtin; refine wpList_append_own _ rfl _ _ _ rfl w.heap.size 22 i0 _ 1 8 undF hi0 hz0 hz1 hz2 rfl (by omega) v (pl y x k).length (f64s (pl y x k)) rfl (hB.out.1.own.alloc _) ⟨wr.heap.size, 0, none⟩ 1 1 [.float .f64 z] rfl rfl (World.news_of_block (cs := #[.float .f64 z]) (t := 22) (fr := (0, 0)) (heap_alloc_new wr _)) (by simp [Value.oneCell']) (by unfold maxLen; have := pl_len y x k; omega) (by have := pl_len y x k; omega) (by have := hB.out.2.size; simp; omega) ?_; intro v' w1 hown hgrow hnil)
        have hsz := hB.out.2.size
        refine ⟨⟨k + 1, v', by omega, by go_num, rfl, ?_, ?_⟩, by simp [intOf]; omega⟩
        · rw [HG.out]
          refine ⟨?_, ?_⟩
          · rw [List.length_append]
            simpa [f64s] using hown
          · intro b hb
            rcases List.mem_append.1 hb with hb | hb
            · exact hB.out.1.word b hb
            · rw [List.mem_singleton.1 hb]; exact HZ.out
        · exact (hB.out.2.alloc hsz _).grown hgrow (by simp; omega) (fun k hk => (hB.out.1.own.lt k hk).1)
    · obtain rfl : k = 2 := by omega
      go_wp2
      go_ret
      exact ⟨⟨v, rfl, hB.out.1⟩, hB.out.2⟩

end Go.Proofs.Ytglcngjllfgdpab

/- Package orient: exactSign, Sign. -/
namespace Go.Proofs.Ytglcngjllfgdpab
open Go.RowKit Go.Shelf
attribute [local go_sem ↓] Go.wp_at_zero Go.wp_at_succ
attribute [local go_sem] run_store_float

/-- A number as a list that may be multiplied. -/
structure DL (q : Rat) (bs : List Nat) : Prop where
  may : MayS bs
  sum : (vals bs).sum = q

theorem safe_word {b : Nat} (hf : Fin64 b) (h1 : U 974 ≤ ab (fval b)) (h2 : ab (fval b) ≤ U 1175) : 2580562586483294208 ≤ frung b ∧ frung b ≤ 6633802251116740608 := by
  rw [← ab_fval b hf] at h1 h2
  have f : frung b < 9218868437227405312 := hf
  constructor
  · rcases Nat.lt_or_ge (frung b) 2580562586483294208 with e | e
    · exfalso
      have h3 := fval_lt e (by omega)
      rw [safe_low] at h3
      have h4 := U_lt_iff.2 (show 624 < 974 by omega)
      grind
    · exact e
  · rcases Nat.lt_or_ge 6633802251116740608 (frung b) with e | e
    · exfalso
      have h3 := fval_lt e f
      rw [safe_top, show p2 450 = U 1524 from rfl] at h3
      have h4 := U_lt_iff.2 (show 1175 < 1524 by omega)
      grind
    · exact e

theorem frung_val {b : Nat} : frung b = 0 ↔ fval b = 0 := by
  rw [← fval_zero_iff]

theorem diff_list {a b x y : Nat} (ha : Crd a) (hb : Crd b) (h : Pair (TameW b a) (fval b - fval a) x y) : DL (fval b - fval a) (gw (gw [] y) x) := by
  have hd : TameW b a := ⟨by have := hb.1; omega, by have := ha.1; omega⟩
  obtain ⟨fx, fy, wx, wy, h⟩ := h
  obtain ⟨hr, he⟩ : RV (fval b - fval a) (fval x) ∧ fval x + fval y = fval b - fval a := by
    rcases h with ⟨_, h1, h2⟩ | ⟨h1, _⟩
    · exact ⟨h1, h2⟩
    · exact absurd hd h1
  have hm : M (U 974) (fval b - fval a) := hb.2.sub ha.2
  have hl : ab (fval b - fval a) ≤ U 1175 := by
    have := ab_sub (fval b) (fval a)
    have h1 := crd_ab ha.1
    have h2 := crd_ab hb.1
    have h3 := U_two' 1174
    grind
  have mx := hr.rn.mm hm
  have my : M (U 974) (fval y) := by
    have := hm.sub mx
    rwa [show fval b - fval a - fval x = fval y by grind] at this
  have lx := hr.rn.le hl
  have rel := hr.rn.rel hm
  rw [show fval b - fval a - fval x = fval y by grind] at rel
  have ly : ab (fval y) ≤ U 1175 := by have := ab_nonneg (fval y); grind
  have lo := hr.rn.lo he
  have u := U_pos 974
  have sx : fval x ≠ 0 → 2580562586483294208 ≤ frung x ∧ frung x ≤ 6633802251116740608 := fun h0 => safe_word fx (mx.ge u h0) lx
  have sy : fval y ≠ 0 → 2580562586483294208 ≤ frung y ∧ frung y ≤ 6633802251116740608 := fun h0 => safe_word fy (my.ge u h0) ly
  by_cases x0 : fval x = 0
  · have y0 : fval y = 0 := by
      rw [x0, show ab 0 = 0 by unfold ab; grind] at rel
      exact ab_zero (by have := ab_nonneg (fval y); grind)
    have e : gw (gw [] y) x = [] := by
      unfold gw
      rw [if_pos (frung_val.2 x0), if_pos (frung_val.2 y0)]
    rw [e]
    exact ⟨⟨by simp, fun i hi => by simp at hi⟩, by rw [← he, x0, y0]; show (0 : Rat) = 0 + 0; grind⟩
  · by_cases y0 : fval y = 0
    · have e : gw (gw [] y) x = [x] := by
        unfold gw
        rw [if_neg (fun h => x0 (frung_val.1 h)), if_pos (frung_val.2 y0)]; rfl
      rw [e]
      refine ⟨up_may ⟨by simp [vals], by simp [vals]; exact x0⟩ (by simp) (by simp; exact sx x0), ?_⟩
      rw [← he, y0]
      show fval x + 0 = _
      grind
    · have e : gw (gw [] y) x = [y, x] := by
        unfold gw
        rw [if_neg (fun h => x0 (frung_val.1 h)), if_neg (fun h => y0 (frung_val.1 h))]; rfl
      rw [e]
      refine ⟨up_may ⟨by simp [vals]; exact lo, by simp [vals]; exact ⟨y0, x0⟩⟩ (by simp) (by simp; exact ⟨sy y0, sx x0⟩), ?_⟩
      rw [← he]
      show fval y + (fval x + 0) = _
      grind

set_option maxRecDepth 100000 in
set_option maxHeartbeats 2000000 in
/-- What the closure answers of a point. -/
theorem from_any (ba ax ay px py : Nat) (w : World) (h0 : w.cell? ⟨ba, 0, none⟩ = some (.float .f64 ax)) (h1 : w.cell? ⟨ba, 1, none⟩ = some (.float .f64 ay)) (wa : ax < 18446744073709551616 ∧ ay < 18446744073709551616) (wp : px < 18446744073709551616 ∧ py < 18446744073709551616) (ha : Pt ax ay) (hp : Pt px py) :
    Calls Try.prog 38 #[pv px py, .pointer (some ⟨ba, 0, none⟩)] w fun e w' => (∃ v1 v2 l1 l2, e = .returned (.tuple #[v1, v2]) ∧ Fr w' w.heap.size v1 l1 ∧ Fr w' w.heap.size v2 l2 ∧ DL (fval px - fval ax) l1 ∧ DL (fval py - fval ay) l2) ∧ Below w.heap.size w w' := by
  have HA : Hid (w.cell? ⟨ba, 0, none⟩ = some (.float .f64 ax) ∧ w.cell? ⟨ba, 1, none⟩ = some (.float .f64 ay)) := ⟨h0, h1⟩
  have HW : Hid ((ax < 18446744073709551616 ∧ ay < 18446744073709551616) ∧ px < 18446744073709551616 ∧ py < 18446744073709551616) := ⟨wa, wp⟩
  have HP : Hid (Pt ax ay ∧ Pt px py) := ⟨ha, hp⟩
  have hbA : Hid (Below w.heap.size w (w.alloc (.cells #[.float .f64 px, .float .f64 py] 24))) := (Below.refl _ w).alloc (Nat.le_refl _) _
  have c0 := box_cell hbA.out h0
  have c1 := box_cell hbA.out h1
  clear h0 h1 wa wp ha hp
  go_enter Try.func38, Try.ntmps38
  go_wp2_with fail
  refine (diff_pair px ax _ HW.out.2.1 HW.out.1.1).mono ?_
  rintro e w1 ⟨⟨x1, y1, rfl, hp1⟩, hb1⟩
  have c1' := box_cell hb1 c1
  have d1 : w1.cell? ⟨w.heap.size, 1, none⟩ = some (.float .f64 py) := box_cell hb1 (by go_simp)
  have HB1 : Hid (Below w.heap.size w w1) := below_step hbA.out hb1
  have H1 : Hid (Pair (TameW px ax) (fval px - fval ax) x1 y1) := hp1
  clear hp1 hb1 c0 c1 hbA
  go_wp2_with fail
  refine (diff_pair py ay _ HW.out.2.2 HW.out.1.2).mono ?_
  rintro e w2 ⟨⟨x2, y2, rfl, hp2⟩, hb2⟩
  have HB2 : Hid (Below w.heap.size w w2) := below_step HB1.out hb2
  have H2 : Hid (Pair (TameW py ay) (fval py - fval ay) x2 y2) := hp2
  clear hp2 hb2 c1' d1
  go_wp2_with fail
  refine (grown2_any w2.heap.size 2 y1 x1 _ (by go_simp) (by go_simp) H1.out.2.2.2.1 H1.out.2.2.1).mono ?_
  rintro e w3 ⟨⟨v1, rfl, hF1⟩, hb3⟩
  have HB3 : Hid (Below w.heap.size w w3) := below_step (HB2.out.alloc HB2.out.size _) hb3
  have HF1 : Hid (Fr w3 w.heap.size v1 (gw (gw [] y1) x1)) := hF1.mono (by have := HB2.out.size; simp; omega)
  clear hF1 hb3
  go_wp2_with fail
  refine (grown2_any w3.heap.size 2 y2 x2 _ (by go_simp) (by go_simp) H2.out.2.2.2.1 H2.out.2.2.1).mono ?_
  rintro e w4 ⟨⟨v2, rfl, hF2⟩, hb4⟩
  have HB4 : Hid (Below w.heap.size w w4) := below_step (HB3.out.alloc HB3.out.size _) hb4
  have HF2 : Hid (Fr w4 w.heap.size v2 (gw (gw [] y2) x2)) := hF2.mono (by have := HB3.out.size; simp; omega)
  have HF1' : Hid (Fr w4 w.heap.size v1 (gw (gw [] y1) x1)) := HF1.out.later (below_step ((Below.refl _ w3).alloc (Nat.le_refl _) _) hb4)
  clear hF2 hb4 HF1
  go_wp2
  go_ret2
  exact ⟨⟨v1, v2, _, _, rfl, HF1'.out, HF2.out, diff_list HP.out.1.1 HP.out.2.1 H1.out, diff_list HP.out.1.2 HP.out.2.2 H2.out⟩, HB4.out⟩

set_option maxRecDepth 100000 in
set_option maxHeartbeats 2000000 in
theorem exact_any' (ax ay bx by' cx cy : Nat) (w : World) (hw : W6 ax ay bx by' cx cy) (hp : P3 ax ay bx by' cx cy) :
    Calls Try.prog 27 #[pv ax ay, pv bx by', pv cx cy] w fun e w' => e = .returned (.int .i64 (sgq (S3 ax ay bx by' cx cy))) ∧ Below w.heap.size w w' := by
  have HW : Hid (W6 ax ay bx by' cx cy) := hw
  have HP : Hid (P3 ax ay bx by' cx cy) := hp
  clear hw hp
  have hS := B3.start w ax ay bx by' cx cy
  have HS : Hid (B3 w (((w.alloc (.cells #[.float .f64 ax, .float .f64 ay] 24)).alloc (.cells #[.float .f64 bx, .float .f64 by'] 24)).alloc (.cells #[.float .f64 cx, .float .f64 cy] 24)) ax ay bx by' cx cy) := hS
  clear hS
  go_enter Try.func27, Try.ntmps27
  go_wp2_with fail
  refine (from_any w.heap.size ax ay bx by' _ HS.out.a0 HS.out.a1 HW.out.1 HW.out.2.1 HP.out.1 HP.out.2.1).mono ?_
  rintro e w1 ⟨⟨v1, v2, l1, l2, rfl, hF1, hF2, hd1, hd2⟩, hb1⟩
  have H1 : Hid (B3 w w1 ax ay bx by' cx cy) := HS.out.later hb1
  have HL1 : Hid (Fs w1 v1 l1 ∧ Fs w1 v2 l2 ∧ DL (fval bx - fval ax) l1 ∧ DL (fval by' - fval ay) l2) := ⟨hF1.fs, hF2.fs, hd1, hd2⟩
  have c0 := H1.out.c0
  have c1 := H1.out.c1
  clear hF1 hF2 hd1 hd2 hb1
  go_wp2_with fail
  refine (from_any w.heap.size ax ay cx cy _ H1.out.a0 H1.out.a1 HW.out.1 HW.out.2.2 HP.out.1 HP.out.2.2).mono ?_
  rintro e w2 ⟨⟨v3, v4, l3, l4, rfl, hF3, hF4, hd3, hd4⟩, hb2⟩
  have HL2 : Hid (Fs w2 v3 l3 ∧ Fs w2 v4 l4 ∧ DL (fval cx - fval ax) l3 ∧ DL (fval cy - fval ay) l4 ∧ Fs w2 v1 l1 ∧ Fs w2 v2 l2 ∧ Below w.heap.size w w2) := ⟨hF3.fs, hF4.fs, hd3, hd4, HL1.out.1.later hb2, HL1.out.2.1.later hb2, below_step H1.out.bel hb2⟩
  clear hF3 hF4 hd3 hd4 hb2 c0 c1
  go_wp2_with fail
  refine (mulE_any v1 v4 l1 l4 _ HL2.out.2.2.2.2.1 HL2.out.2.1).mono ?_
  rintro e w3 ⟨⟨v5, b5, t5, rfl, hF5, k1, k2, _⟩, hb3⟩
  obtain rfl := k1.2 ⟨HL1.out.2.2.1.may, HL2.out.2.2.2.1.may⟩
  have HL3 : Hid (Fs w3 v5 b5 ∧ SumS ((vals l1).sum * (vals l4).sum) b5 ∧ Fs w3 v2 l2 ∧ Fs w3 v3 l3 ∧ Below w.heap.size w w3) := ⟨hF5.fs, k2 rfl, HL2.out.2.2.2.2.2.1.later hb3, HL2.out.1.later hb3, below_step HL2.out.2.2.2.2.2.2 hb3⟩
  clear hF5 k1 k2 hb3
  go_wp2_with fail
  refine (mulE_any v2 v3 l2 l3 _ HL3.out.2.2.1 HL3.out.2.2.2.1).mono ?_
  rintro e w4 ⟨⟨v6, b6, t6, rfl, hF6, k1, k2, _⟩, hb4⟩
  obtain rfl := k1.2 ⟨HL1.out.2.2.2.may, HL2.out.2.2.1.may⟩
  have HL4 : Hid (Fs w4 v6 b6 ∧ SumS ((vals l2).sum * (vals l3).sum) b6 ∧ Fs w4 v5 b5 ∧ Below w.heap.size w w4) := ⟨hF6.fs, k2 rfl, HL3.out.1.later hb4, below_step HL3.out.2.2.2.2 hb4⟩
  clear hF6 k1 k2 hb4
  go_wp2_with fail
  refine (cmp_any v5 v6 b5 b6 _ HL4.out.2.2.1 HL4.out.1).mono ?_
  rintro e w5 ⟨⟨z, rfl, hz, _⟩, hb5⟩
  have HZ : Hid (z = sgq (S3 ax ay bx by' cx cy)) := by
    show z = _
    rw [hz HL3.out.2.1.may HL4.out.2.1.may, HL3.out.2.1.sum, HL4.out.2.1.sum, HL1.out.2.2.1.sum, HL1.out.2.2.2.sum, HL2.out.2.2.1.sum, HL2.out.2.2.2.1.sum]
    rfl
  have HB5 : Hid (Below w.heap.size w w5) := below_step HL4.out.2.2.2 hb5
  clear hz hb5
  go_wp2
  go_ret
  exact ⟨by rw [HZ.out]; rfl, HB5.out⟩

/-- The sign of three points, 0 if one may not be. -/
noncomputable def sg3 (ax ay bx by' cx cy : Nat) : Int := @ite _ (P3 ax ay bx by' cx cy) (Classical.propDecidable _) (sgq (S3 ax ay bx by' cx cy)) 0
theorem sg3_yes {ax ay bx by' cx cy : Nat} (h : P3 ax ay bx by' cx cy) : sg3 ax ay bx by' cx cy = sgq (S3 ax ay bx by' cx cy) := by unfold sg3; rw [if_pos h]
theorem sg3_no {ax ay bx by' cx cy : Nat} (h : ¬ P3 ax ay bx by' cx cy) : sg3 ax ay bx by' cx cy = 0 := by unfold sg3; rw [if_neg h]

set_option maxRecDepth 100000 in
set_option maxHeartbeats 2000000 in
theorem sign3_any (ax ay bx by' cx cy : Nat) (w : World) (hw : W6 ax ay bx by' cx cy) :
    Calls Try.prog 11 #[pv ax ay, pv bx by', pv cx cy] w fun e w' => e = .returned (.int .i64 (sg3 ax ay bx by' cx cy)) ∧ Below w.heap.size w w' := by
  have HW : Hid (W6 ax ay bx by' cx cy) := hw
  clear hw
  have hS := B3.start w ax ay bx by' cx cy
  have HS : Hid (B3 w (((w.alloc (.cells #[.float .f64 ax, .float .f64 ay] 24)).alloc (.cells #[.float .f64 bx, .float .f64 by'] 24)).alloc (.cells #[.float .f64 cx, .float .f64 cy] 24)) ax ay bx by' cx cy) := hS
  clear hS
  go_enter Try.func11, Try.ntmps11
  go_wp2_with fail
  refine (fast_any ax ay bx by' cx cy _ HW.out).mono ?_
  rintro e w1 ⟨⟨z, t, rfl, hz⟩, hb1⟩
  have H1 : Hid (B3 w w1 ax ay bx by' cx cy) := HS.out.later hb1
  have HZ : Hid (FastR ax ay bx by' cx cy z t) := hz
  clear hz hb1 HS
  obtain ⟨u0, u1, u2, u3, u4, u5, _⟩ := H1.out
  cases t
  · go_wp2_with fail
    refine (has3 ax ay bx by' cx cy _ HW.out).mono ?_
    rintro e w2 ⟨⟨t, rfl, ht⟩, hb2⟩
    have H2 : Hid (B3 w w2 ax ay bx by' cx cy) := H1.out.later hb2
    have HT : Hid (t = true ↔ P3 ax ay bx by' cx cy) := ht
    clear ht hb2 u0 u1 u2 u3 u4 u5
    cases t
    · go_wp2
      go_ret
      exact ⟨by rw [sg3_no (fun h => Bool.noConfusion (HT.out.2 h))]; rfl, H2.out.bel⟩
    · have HP : Hid (P3 ax ay bx by' cx cy) := HT.out.1 rfl
      obtain ⟨u0, u1, u2, u3, u4, u5, _⟩ := H2.out
      go_wp2_with fail
      refine (exact_any' ax ay bx by' cx cy _ HW.out HP.out).mono ?_
      rintro e w3 ⟨rfl, hb3⟩
      have H3 : Hid (Below w.heap.size w w3) := below_step H2.out.bel hb3
      clear hb3
      go_wp2
      go_ret
      exact ⟨by rw [sg3_yes HP.out]; rfl, H3.out⟩
  · go_wp2
    go_ret
    exact ⟨by rw [sg3_yes (HZ.out.1 rfl).1, (HZ.out.1 rfl).2]; rfl, H1.out.bel⟩

end Go.Proofs.Ytglcngjllfgdpab

/- Package orient: On, Cross. -/
namespace Go.Proofs.Ytglcngjllfgdpab
open Go.RowKit Go.Shelf
attribute [local go_sem ↓] Go.wp_at_zero Go.wp_at_succ
attribute [local go_sem] run_store_float

theorem run_minF {a b : Nat} (fa : Fin64 a) (fb : Fin64 b) : ∃ m, (∀ w, (Builtin.min_ #[22, 22] 22 #[.float .f64 a, .float .f64 b]).run Try.prog w = .ok (.float .f64 m) w) ∧ (m = a ∨ m = b) ∧ fval m ≤ fval a ∧ fval m ≤ fval b := by
  have ho := order_val fa fb
  by_cases h1 : fval a < fval b
  · rw [if_pos h1] at ho
    exact ⟨a, fun w => by simp [Builtin.min_, Builtin.min2, ho], Or.inl rfl, Rat.le_refl, Rat.le_of_lt h1⟩
  · by_cases h2 : fval a = fval b
    · rw [if_neg h1, if_pos h2] at ho
      refine ⟨if (FloatKind.f64.decode a).neg then a else b, fun w => by simp [Builtin.min_, Builtin.min2, ho], ?_, ?_, ?_⟩
      · split
        · exact Or.inl rfl
        · exact Or.inr rfl
      · split
        · exact Rat.le_refl
        · rw [h2]; exact Rat.le_refl
      · split
        · rw [h2]; exact Rat.le_refl
        · exact Rat.le_refl
    · rw [if_neg h1, if_neg h2] at ho
      exact ⟨b, fun w => by simp [Builtin.min_, Builtin.min2, ho], Or.inr rfl, by grind, Rat.le_refl⟩
theorem run_maxF {a b : Nat} (fa : Fin64 a) (fb : Fin64 b) : ∃ m, (∀ w, (Builtin.max_ #[22, 22] 22 #[.float .f64 a, .float .f64 b]).run Try.prog w = .ok (.float .f64 m) w) ∧ (m = a ∨ m = b) ∧ fval a ≤ fval m ∧ fval b ≤ fval m := by
  have ho := order_val fa fb
  by_cases h1 : fval a < fval b
  · rw [if_pos h1] at ho
    exact ⟨b, fun w => by simp [Builtin.max_, Builtin.max2, ho], Or.inr rfl, Rat.le_of_lt h1, Rat.le_refl⟩
  · by_cases h2 : fval a = fval b
    · rw [if_neg h1, if_pos h2] at ho
      refine ⟨if (FloatKind.f64.decode a).neg then b else a, fun w => by simp [Builtin.max_, Builtin.max2, ho], ?_, ?_, ?_⟩
      · split
        · exact Or.inr rfl
        · exact Or.inl rfl
      · split
        · rw [h2]; exact Rat.le_refl
        · exact Rat.le_refl
      · split
        · exact Rat.le_refl
        · rw [h2]; exact Rat.le_refl
    · rw [if_neg h1, if_neg h2] at ho
      exact ⟨a, fun w => by simp [Builtin.max_, Builtin.max2, ho], Or.inl rfl, Rat.le_refl, by grind⟩
theorem leq_val {a b : Nat} (fa : Fin64 a) (fb : Fin64 b) : (FloatKind.f64.format.order a b == some .lt || FloatKind.f64.format.order a b == some .eq) = decide (fval a ≤ fval b) := by
  rw [order_val fa fb]
  by_cases h1 : fval a < fval b
  · rw [if_pos h1, decide_eq_true (Rat.le_of_lt h1)]; rfl
  · by_cases h2 : fval a = fval b
    · rw [if_neg h1, if_pos h2, decide_eq_true (by rw [h2]; exact Rat.le_refl)]; rfl
    · rw [if_neg h1, if_neg h2, decide_eq_false (by grind)]; rfl
/-- A coordinate lies between two. -/
def Btw (a b x : Rat) : Prop := (a ≤ x ∧ x ≤ b) ∨ (b ≤ x ∧ x ≤ a)

set_option maxRecDepth 100000 in
set_option maxHeartbeats 2000000 in
theorem between_any (a b x : Nat) (w : World) (fa : Fin64 a) (fb : Fin64 b) (fx : Fin64 x) :
    Calls Try.prog 29 #[.float .f64 a, .float .f64 b, .float .f64 x] w fun e w' => (∃ t, e = .returned (.bool t) ∧ (t = true ↔ Btw (fval a) (fval b) (fval x))) ∧ w' = w := by
  obtain ⟨m, hm, m1, m2, m3⟩ := run_minF fa fb
  obtain ⟨n, hn, n1, n2, n3⟩ := run_maxF fa fb
  have fm : Fin64 m := by rcases m1 with e | e <;> (rw [e]; assumption)
  have fn : Fin64 n := by rcases n1 with e | e <;> (rw [e]; assumption)
  have q1 := leq_val fm fx
  have q2 := leq_val fx fn
  obtain ⟨t1, e1⟩ : ∃ t, decide (fval m ≤ fval x) = t := ⟨_, rfl⟩
  obtain ⟨t2, e2⟩ : ∃ t, decide (fval x ≤ fval n) = t := ⟨_, rfl⟩
  have HR : Hid ((t1 && t2) = true ↔ Btw (fval a) (fval b) (fval x)) := by
    show (t1 && t2) = true ↔ _
    rw [← e1, ← e2, Bool.and_eq_true, decide_eq_true_iff, decide_eq_true_iff]
    unfold Btw
    clear q1 q2 hm hn e1 e2
    rcases m1 with rfl | rfl <;> rcases n1 with rfl | rfl <;> grind
  rw [e1] at q1
  rw [e2] at q2
  clear e1 e2 fa fb fx fm fn m1 m2 m3 n1 n2 n3
  go_enter Try.func29, Try.ntmps29
  cases t1 <;> cases t2 <;> (go_wp2; go_ret; exact ⟨⟨_, rfl, HR.out⟩, rfl⟩)

/-- A point lies on a segment. -/
def OnP (ax ay bx by' px py : Nat) : Prop := P3 ax ay bx by' px py ∧ Btw (fval ax) (fval bx) (fval px) ∧ Btw (fval ay) (fval by') (fval py) ∧ S3 ax ay bx by' px py = 0
theorem sgq_zero {q : Rat} : sgq q = 0 ↔ q = 0 := by
  unfold sgq
  constructor
  · intro h
    split at h
    · omega
    · split at h
      · assumption
      · omega
  · intro h
    rw [h]; rfl
theorem sign_is (ax ay bx by' cx cy : Nat) (w : World) (z : Int) (hw : W6 ax ay bx by' cx cy) (hz : sg3 ax ay bx by' cx cy = z) :
    Calls Try.prog 11 #[pv ax ay, pv bx by', pv cx cy] w fun e w' => e = .returned (.int .i64 z) ∧ Below w.heap.size w w' := by
  rw [← hz]
  exact sign3_any ax ay bx by' cx cy w hw

set_option maxRecDepth 100000 in
set_option maxHeartbeats 2000000 in
theorem on_any (ax ay bx by' px py : Nat) (w : World) (hw : W6 ax ay bx by' px py) :
    Calls Try.prog 15 #[pv ax ay, pv bx by', pv px py] w fun e w' => (∃ t, e = .returned (.bool t) ∧ (t = true ↔ OnP ax ay bx by' px py)) ∧ Below w.heap.size w w' := by
  have HW : Hid (W6 ax ay bx by' px py) := hw
  clear hw
  go_enter Try.func15, Try.ntmps15
  go_wp2_with fail
  refine (has3' ax ay bx by' px py ax ay bx by' px py w HW.out).mono ?_
  rintro e w1 ⟨⟨t, rfl, ht⟩, hB⟩
  have HB : Hid (B3 w w1 ax ay bx by' px py) := hB
  have HT : Hid (t = true ↔ P3 ax ay bx by' px py) := ht
  obtain ⟨u0, u1, u2, u3, u4, u5, _⟩ := hB
  clear ht
  cases t
  · go_wp2
    go_ret
    exact ⟨⟨false, rfl, fun h => Bool.noConfusion h, fun h => Bool.noConfusion (HT.out.2 h.1)⟩, HB.out.bel⟩
  · have HP : Hid (P3 ax ay bx by' px py) := HT.out.1 rfl
    go_wp2_with fail
    refine (between_any ax bx px _ (crd_fin HP.out.1.1.1) (crd_fin HP.out.2.1.1.1) (crd_fin HP.out.2.2.1.1)).mono ?_
    rintro e w2 ⟨⟨t, rfl, ht⟩, rfl⟩
    have HT1 : Hid (t = true ↔ Btw (fval ax) (fval bx) (fval px)) := ht
    clear ht
    cases t
    · go_wp2
      go_ret
      exact ⟨⟨false, rfl, fun h => Bool.noConfusion h, fun h => Bool.noConfusion (HT1.out.2 h.2.1)⟩, HB.out.bel⟩
    · go_wp2_with fail
      refine (between_any ay by' py _ (crd_fin HP.out.1.2.1) (crd_fin HP.out.2.1.2.1) (crd_fin HP.out.2.2.2.1)).mono ?_
      rintro e w2 ⟨⟨t, rfl, ht⟩, rfl⟩
      have HT2 : Hid (t = true ↔ Btw (fval ay) (fval by') (fval py)) := ht
      clear ht
      cases t
      · go_wp2
        go_ret
        exact ⟨⟨false, rfl, fun h => Bool.noConfusion h, fun h => Bool.noConfusion (HT2.out.2 h.2.2.1)⟩, HB.out.bel⟩
      · obtain ⟨z, hz⟩ : ∃ z, Hid (sg3 ax ay bx by' px py = z) := ⟨_, rfl⟩
        go_wp2_with fail
        refine (sign_is ax ay bx by' px py _ z HW.out hz.out).mono ?_
        rintro e w2 ⟨rfl, hb2⟩
        have HB2 : Hid (Below w.heap.size w w2) := below_step HB.out.bel hb2
        clear hb2
        by_cases hz0 : z = 0
        · have HS : Hid (S3 ax ay bx by' px py = 0) := by
            have := hz.out
            rw [sg3_yes HP.out, hz0] at this
            exact sgq_zero.1 this
          subst hz0
          go_wp2
          go_ret
          exact ⟨⟨true, rfl, fun _ => ⟨HP.out, HT1.out.1 (by simp), HT2.out.1 (by simp), HS.out⟩, fun _ => rfl⟩, HB2.out⟩
        · have HS : Hid (S3 ax ay bx by' px py ≠ 0) := by
            intro h
            have := hz.out
            rw [sg3_yes HP.out, sgq_zero.2 h] at this
            exact hz0 this.symm
          have hzb : (z == 0) = false := by rw [beq_eq_false_iff_ne]; exact hz0
          clear hz0
          go_wp2
          go_ret
          exact ⟨⟨false, rfl, fun h => Bool.noConfusion h, fun h => absurd h.2.2.2 HS.out⟩, HB2.out⟩

end Go.Proofs.Ytglcngjllfgdpab

/- A drawn region, operation by operation, where some are not wanted. -/
namespace Go.Proofs.Ytglcngjllfgdpab
open Go

section
variable {P : Program} {ops : Array Oper} {Q : Exit → Act → World → Prop} {md : Region.Mode} {S : World → Prop}

theorem take_at {i : Nat} {d : Option Tmp} {v : Value} {fuel : Nat} {listed : Array Bool} {a : Act} {w : World} (hd : (ops[i]?).map (·.dst) = some d)
    (hs : Region.noSelect ops = true) (hf : Region.free md ops listed i = true) (hr : (Region.ready md ops listed).contains i = true)
    (hQ : ∀ c a w, Q (.panic c) (a.put d v) w → Q (.panic c) a w) (hy : ∀ oi, ops[i]? = some oi → YieldsIf P ops S oi v a) (hS : S w)
    (h : wpAnyH P md ops Q S fuel (listed.setIfInBounds i true) (a.put d v) w) : wpAnyH P md ops Q S (fuel + 1) listed a w := by
  cases ho : ops[i]? with
  | none => rw [ho] at hd; cases hd
  | some oi =>
    rw [ho] at hd
    have e : oi.dst = d := Option.some.inj hd
    subst e
    exact wpAnyH_take ho hs hf hr hQ (hy oi ho) hS h

/-- What is not wanted is passed by. -/
theorem skip_at (i : Nat) {d : Option Tmp} {fuel : Nat} {listed : Array Bool} {a : Act} {w : World} (hd : (ops[i]?).map (·.dst) = some d)
    (hs : Region.noSelect ops = true) (hf : Region.free md ops listed i = true) (hr : (Region.ready md ops listed).contains i = true)
    (hQ : ∀ c a w, Q (.panic c) (a.put d undef) w → Q (.panic c) a w) (hw : (ops[i]?).map (fun o => Region.wanted o (yielded ops a.tmps)) = some false) (hS : S w)
    (h : wpAnyH P md ops Q S fuel (listed.setIfInBounds i true) (a.put d undef) w) : wpAnyH P md ops Q S (fuel + 1) listed a w :=
  take_at hd hs hf hr hQ (fun oi ho => Or.inr ⟨by rw [ho] at hw; exact Option.some.inj hw, rfl⟩) hS h

theorem call_at (i : Nat) {fuel : Nat} {listed : Array Bool} {a : Act} {w : World} (hr : Region.ready md ops listed = [i])
    (hi : (ops[i]?).isSome = true)
    (h : ∀ o, ops[i]? = some o → ∀ K' : Act → World → Prop, Shut (∀ a w, S w → (S w → wpAnyH P md ops Q S fuel (listed.setIfInBounds i true) a w) → K' a w) → if Region.wanted o (yielded ops a.tmps) = true then Oper.wp P o a w K' Q else K' (a.put o.dst undef) w) :
    wpAnyH P md ops Q S (fuel + 1) listed a w := by
  obtain ⟨o, ho⟩ := Option.isSome_iff_exists.1 hi
  exact wpAnyH_ready hr (by simp) (AllReadyH.cons ho (h o ho) AllReadyH.nil)
end

end Go.Proofs.Ytglcngjllfgdpab
