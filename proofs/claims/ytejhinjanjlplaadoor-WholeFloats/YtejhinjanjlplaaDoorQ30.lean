/- Own texts, put together: Zo. -/
import Derived.Test.YtejhinjanjlplaaDoorQ28
import Derived.BigRegion
/- The reference's Mul: the walk. -/
namespace Go.Proofs.YtejhinjanjlplaaDoor
open Go.RowKit
attribute [local go_sem ↓] Go.wp_at_zero Go.wp_at_succ
theorem boxes5 (w : World) (a b c d e : Obj) : let W := ((((w.alloc a).alloc b).alloc c).alloc d).alloc e
   W.heap[w.heap.size]? = some a ∧ W.heap[w.heap.size + 1]? = some b ∧ W.heap[w.heap.size + 2]? = some c ∧ W.heap[w.heap.size + 3]? = some d ∧ W.heap[w.heap.size + 4]? = some e ∧ Below w.heap.size w W := by
 have h3 := boxes3 w a b c
 have s3 : (((w.alloc a).alloc b).alloc c).heap.size = w.heap.size + 3 := by simp
 have h4 := old_box (((w.alloc a).alloc b).alloc c) d e
 have h5 := new_box (((w.alloc a).alloc b).alloc c) d e
 rw [s3] at h4 h5
 have hk : ∀ k, k < w.heap.size + 3 → (((((w.alloc a).alloc b).alloc c).alloc d).alloc e).heap[k]? = (((w.alloc a).alloc b).alloc c).heap[k]? := fun k hk => by
   rw [Below.heap_alloc _ _ _ (by simp; omega), Below.heap_alloc _ _ _ (by simp; omega)]
 refine ⟨?_, ?_, ?_, h4, h5, ?_⟩
 · rw [hk _ (by omega)]; exact h3.1
 · rw [hk _ (by omega)]; exact h3.2.1
 · rw [hk _ (by omega)]; exact h3.2.2
 · exact ((below3 w a b c).alloc (by simp; omega) _).alloc (by simp; omega) _
set_option maxRecDepth 100000 in
set_option maxHeartbeats 8000000 in
theorem refMul_walk (g1 o1 g2 o2 c1 c2 : Nat) (S1 S2 E1 E2 : Int) (ds1 ds2 : List Nat) (w : World) (hd1 : Dig w (.agg #[.int .i64 S1, .slice (some ⟨g1, o1, none⟩) ds1.length c1, .int .i64 E1]) S1 ds1 E1) (hd2 : Dig w (.agg #[.int .i64 S2, .slice (some ⟨g2, o2, none⟩) ds2.length c2, .int .i64 E2]) S2 ds2 E2)
   (hS1 : S1 = 1 ∨ S1 = -1) (hS2 : S2 = 1 ∨ S2 = -1) (hp : -10000 ≤ E1) (hq : E1 + (ds1.length : Int) ≤ 10000) (hp' : -10000 ≤ E2) (hq' : E2 + (ds2.length : Int) ≤ 10000)
   (k1 : ∀ k, k < ds1.length → w.cell? ⟨g1, o1 + k, none⟩ = some (.int .i64 (ds1.getD k 0 : Nat))) (k2 : ∀ k, k < ds2.length → w.cell? ⟨g2, o2 + k, none⟩ = some (.int .i64 (ds2.getD k 0 : Nat))) :
   Calls Tryd.prog 14 #[.agg #[.int .i64 S1, .slice (some ⟨g1, o1, none⟩) ds1.length c1, .int .i64 E1], .agg #[.int .i64 S2, .slice (some ⟨g2, o2, none⟩) ds2.length c2, .int .i64 E2]] w fun e w' => RfR w w' ((S1 : Rat) * mag ds1 E1 * ((S2 : Rat) * mag ds2 E2)) e := by
 have K1 : Hid (∀ k, k < ds1.length → w.cell? ⟨g1, o1 + k, none⟩ = some (.int .i64 (ds1.getD k 0 : Nat))) := k1
 have K2 : Hid (∀ k, k < ds2.length → w.cell? ⟨g2, o2 + k, none⟩ = some (.int .i64 (ds2.getD k 0 : Nat))) := k2
 have M1 : Hid (∀ d ∈ ds1, d < 16777216) := hd1.small
 have M2 : Hid (∀ d ∈ ds2, d < 16777216) := hd2.small
 have y1 : (S1 == 0) = false := by simp; omega
 have y2 : (S2 == 0) = false := by simp; omega
 have l1 : (ds1.length : Int) ≤ 20000 := by omega
 have l2 : (ds2.length : Int) ≤ 20000 := by omega
 obtain ⟨SS, hSS⟩ : ∃ s, Hid (S1 * S2 = s) := ⟨_, rfl⟩
 have hSe : S1 * S2 = SS := hSS.out
 have hSb : SS = 1 ∨ SS = -1 := by rw [← hSe]; rcases hS1 with rfl | rfl <;> rcases hS2 with rfl | rfl <;> simp
 have hsw : IntKind.i64.wrap SS = SS := wrapE _ (by omega) (by omega)
 have HSB : Hid (SS = 1 ∨ SS = -1) := hSb
 have hlw : IntKind.i64.wrap ((ds1.length : Int) + (ds2.length : Int)) = (ds1.length : Int) + (ds2.length : Int) := wrapE _ (by omega) (by omega)
 have hEw : IntKind.i64.wrap (E1 + E2) = E1 + E2 := wrapE _ (by omega) (by omega)
 obtain ⟨ZS, hZS⟩ : ∃ zs, Hid ((i64s (List.replicate (ds1.length + ds2.length) 0)).toArray = zs) := ⟨_, rfl⟩
 have hmake : ∀ W, (Instr.makeSlice 34 (.int .i64 ((ds1.length : Int) + (ds2.length : Int))) (.int .i64 ((ds1.length : Int) + (ds2.length : Int)))).run Tryd.prog W = .ok (.slice (some ⟨W.heap.size, 0, none⟩) (ds1.length + ds2.length) (ds1.length + ds2.length)) (W.alloc (.cells ZS 2)) := by
   intro W
   have := make64 (ds1.length + ds2.length) (by omega) W
   rw [hZS.out] at this
   simpa using this
 have HB0 : Hid (Below w.heap.size w (((w.alloc (.cells #[.int .i64 S1, .slice (some ⟨g1, o1, none⟩) ds1.length c1, .int .i64 E1] 36)).alloc (.cells #[.int .i64 S2, .slice (some ⟨g2, o2, none⟩) ds2.length c2, .int .i64 E2] 36)).alloc (.cells #[.int .i64 0, .slice none 0 0, .int .i64 0] 36))) := below3 _ _ _ _
 clear hd1 hd2 hS1 hS2 hSb k1 k2
 go_enter Tryd.func14, Tryd.ntmps14
 go_wp2
 go_region_held3 (fun W => W.cell? ⟨w.heap.size, 0, none⟩ = some (.int .i64 S1) ∧ W.cell? ⟨w.heap.size, 1, none⟩ = some (.slice (some ⟨g1, o1, none⟩) ds1.length c1) ∧ W.cell? ⟨w.heap.size, 2, none⟩ = some (.int .i64 E1) ∧ W.cell? ⟨w.heap.size + 1, 0, none⟩ = some (.int .i64 S2) ∧ W.cell? ⟨w.heap.size + 1, 1, none⟩ = some (.slice (some ⟨g2, o2, none⟩) ds2.length c2) ∧ W.cell? ⟨w.heap.size + 1, 2, none⟩ = some (.int .i64 E2))
   (first
     | assumption
     | exact ⟨by go_simp, by go_simp, by go_simp, by go_simp, by go_simp, by go_simp⟩)
   (fail)
 · go_wp2
   go_loopw [6] (fun i wr => ∃ (k : Nat) (zs : List Nat), i = .int .i64 (k : Nat) ∧ k ≤ ds1.length ∧ Hid (MulO ds1 ds2 zs k) ∧ Hid (MulW w (w.heap.size + 4) (w.heap.size + 3) S1 S2 SS E1 E2 (.slice (some ⟨g1, o1, none⟩) ds1.length c1) (.slice (some ⟨g2, o2, none⟩) ds2.length c2) zs wr)) (fun i _ => ds1.length - (intOf i).toNat)
   case atStart =>
     refine ⟨0, List.replicate (ds1.length + ds2.length) 0, rfl, by omega, MulO.start _ _, MulW.drew ⟨(boxes5 _ _ _ _ _ _).1, (boxes5 _ _ _ _ _ _).2.1, (boxes5 _ _ _ _ _ _).2.2.1, ?_, own_made ?_ (by omega), (boxes5 _ _ _ _ _ _).2.2.2.2.2, by omega, by omega, by omega⟩⟩
     · have := (boxes5 w (.cells #[.int .i64 S1, .slice (some ⟨g1, o1, none⟩) ds1.length c1, .int .i64 E1] 36) (.cells #[.int .i64 S2, .slice (some ⟨g2, o2, none⟩) ds2.length c2, .int .i64 E2] 36) (.cells #[.int .i64 0, .slice none 0 0, .int .i64 0] 36) (.cells ZS 2) (.cells #[.int .i64 SS, .slice (some ⟨w.heap.size + 1 + 1 + 1, 0, none⟩) (ds1.length + ds2.length) (ds1.length + ds2.length), .int .i64 (E1 + E2)] 36)).2.2.2.2.1
       simpa [BoxN] using this
     · rw [hZS.out]; exact (boxes5 _ _ _ _ _ _).2.2.2.1
   case round =>
     obtain ⟨k, zs, rfl, hk, hM, hW⟩ := hrel
     obtain ⟨x0, x1, x2, _, _⟩ := hW.out.a.cells
     obtain ⟨y0, y1', y2', _, _⟩ := hW.out.b.cells
     obtain ⟨z0, z1, z2, _, _⟩ := hW.out.o.cells
     have hzl := hM.out.len
     rw [hzl] at z1
     clear hzl
     by_cases hlt : k < ds1.length
     · have hlt' : (k : Int) < (ds1.length : Int) := by omega
       have hk0 : (0 : Int) ≤ (k : Int) := by omega
       go_wp2
       clear x0 x1 x2 y0 y1' y2' z0 z1 z2
       go_loopw [7, 8] (fun c j wr' => ∃ (cc jj : Nat) (zs' : List Nat), c = .int .i64 (cc : Nat) ∧ j = .int .i64 (jj : Nat) ∧ jj ≤ ds2.length ∧ cc < 16777216 ∧ Hid (MulI ds1 ds2 zs zs' k jj cc) ∧ Hid (MulW w (w.heap.size + 4) (w.heap.size + 3) S1 S2 SS E1 E2 (.slice (some ⟨g1, o1, none⟩) ds1.length c1) (.slice (some ⟨g2, o2, none⟩) ds2.length c2) zs' wr')) (fun _ j _ => ds2.length - (intOf j).toNat)
       case atStart => exact ⟨0, 0, zs, rfl, rfl, by omega, by omega, hM.out.begin, hW.out⟩
       case round =>
         clear hW
         obtain ⟨cc, jj, zs', rfl, rfl, hj, hcc, hI, hW⟩ := hrel
         obtain ⟨_, x1, _, _, _⟩ := hW.out.a.cells
         obtain ⟨_, y1', _, _, _⟩ := hW.out.b.cells
         obtain ⟨_, z1, _, _, _⟩ := hW.out.o.cells
         have hzl : zs'.length = ds1.length + ds2.length := hI.out.len
         have HZL : Hid (zs'.length = ds1.length + ds2.length) := hzl
         rw [hzl] at z1
         clear hzl
         by_cases hlt2 : jj < ds2.length
         · have hlt2' : (jj : Int) < (ds2.length : Int) := by omega
           have hj0 : (0 : Int) ≤ (jj : Int) := by omega
           have hkj0 : (0 : Int) ≤ (k : Int) + (jj : Int) := by omega
           have hkj : (k : Int) + (jj : Int) < (ds1.length : Int) + (ds2.length : Int) := by omega
           have hwkj : IntKind.i64.wrap ((k : Int) + (jj : Int)) = (k : Int) + (jj : Int) := wrapE _ (by omega) (by omega)
           have htn : ((k : Int) + (jj : Int)).toNat = k + jj := by omega
           have r1 : wr.cell? ⟨g1, o1 + k, none⟩ = some (.int .i64 (ds1.getD k 0 : Nat)) := box_cell hW.out.bel (K1.out k hlt)
           have r2 : wr.cell? ⟨g2, o2 + jj, none⟩ = some (.int .i64 (ds2.getD jj 0 : Nat)) := box_cell hW.out.bel (K2.out jj hlt2)
           have r3 : wr.cell? ⟨(w.heap.size + 3), k + jj, none⟩ = some (.int .i64 (zs'.getD (k + jj) 0 : Nat)) := own_cell hW.out.row (k + jj) (by have := HZL.out; omega)
           have rf := own_frozen hW.out.row (k + jj)
           obtain ⟨d, hd⟩ : ∃ d : Nat, Hid (ds1.getD k 0 = d) := ⟨_, rfl⟩
           obtain ⟨b, hb⟩ : ∃ b : Nat, Hid (ds2.getD jj 0 = b) := ⟨_, rfl⟩
           obtain ⟨x, hx⟩ : ∃ x : Nat, Hid (zs'.getD (k + jj) 0 = x) := ⟨_, rfl⟩
           rw [hd.out] at r1
           rw [hb.out] at r2
           rw [hx.out] at r3
           have hdl : d < 16777216 := by rw [← hd.out]; exact getD_small M1.out _
           have hbl : b < 16777216 := by rw [← hb.out]; exact getD_small M2.out _
           have hxl : x < 16777216 := by rw [← hx.out]; exact getD_small hI.out.small _
           obtain ⟨p, hpp⟩ : ∃ p : Nat, Hid (d * b = p) := ⟨_, rfl⟩
           have hpI : (d : Int) * (b : Int) = (p : Int) := by rw [← hpp.out]; simp
           have hpl : (p : Int) ≤ 281474943156225 := by
             have : d * b ≤ 16777215 * 16777215 := Nat.mul_le_mul (by omega) (by omega)
             rw [hpp.out] at this
             omega
           have wp1 : IntKind.i64.wrap (p : Int) = (p : Int) := wrapE _ (by omega) (by omega)
           have wp2' : IntKind.i64.wrap ((x : Int) + (p : Int)) = (x : Int) + (p : Int) := wrapE _ (by omega) (by omega)
           have wp3 : IntKind.i64.wrap ((x : Int) + (p : Int) + (cc : Int)) = (x : Int) + (p : Int) + (cc : Int) := wrapE _ (by omega) (by omega)
           go_wp2
           go_region_held3 (fun W => W.cell? ⟨w.heap.size, 1, none⟩ = some (.slice (some ⟨g1, o1, none⟩) ds1.length c1) ∧ W.cell? ⟨w.heap.size + 1, 1, none⟩ = some (.slice (some ⟨g2, o2, none⟩) ds2.length c2) ∧ W.cell? ⟨(w.heap.size + 3), k + jj, none⟩ = some (.int .i64 (x : Nat)) ∧ W.cell? ⟨(w.heap.size + 4), 1, none⟩ = some (.slice (some ⟨(w.heap.size + 3), 0, none⟩) (ds1.length + ds2.length) (ds1.length + ds2.length)) ∧ W.cell? ⟨g1, o1 + k, none⟩ = some (.int .i64 (d : Nat)) ∧ W.cell? ⟨g2, o2 + jj, none⟩ = some (.int .i64 (b : Nat)))
             (first
               | assumption
               | exact ⟨by go_simp, by go_simp, by go_simp, by go_simp, by go_simp, by go_simp⟩)
             (fail)
           go_wp2
           have hst := hI.out.step hlt hlt2 M1.out M2.out (v := x + p + cc) (by rw [hx.out, hd.out, hb.out, hpp.out])
           have hwr := hW.out.drew.wrote (k := k + jj) (d := (x + p + cc) % 16777216) (x := ((x : Int) + (p : Int) + (cc : Int)) % 16777216) (by have := HZL.out; omega) (by omega)
           exact ⟨⟨(x + p + cc) / 16777216, jj + 1, _, by go_num, by go_num, by omega, hst.carry, hst, hwr⟩, by simp [intOf]; omega⟩
         · obtain rfl : jj = ds2.length := by omega
           have hltb : decide ((ds2.length : Int) < (ds2.length : Int)) = false := decide_eq_false (by omega)
           obtain ⟨hz0', hMO⟩ := hI.out.done hM.out hlt
           have r3 : wr.cell? ⟨(w.heap.size + 3), k + ds2.length, none⟩ = some (.int .i64 0) := by
             have := own_cell hW.out.row (k + ds2.length) (by have := HZL.out; omega)
             rw [hz0'] at this; exact this
           have rf := own_frozen hW.out.row (k + ds2.length)
           have hkj0 : (0 : Int) ≤ (k : Int) + (ds2.length : Int) := by omega
           have hkj : (k : Int) + (ds2.length : Int) < (ds1.length : Int) + (ds2.length : Int) := by omega
           have hwkj : IntKind.i64.wrap ((k : Int) + (ds2.length : Int)) = (k : Int) + (ds2.length : Int) := wrapE _ (by omega) (by omega)
           have htn : ((k : Int) + (ds2.length : Int)).toNat = k + ds2.length := by omega
           have wcc : IntKind.i64.wrap (cc : Int) = (cc : Int) := wrapE _ (by omega) (by omega)
           have HMO : Hid _ := hMO
           clear hz0' hMO
           go_wp2
           go_region
           go_wp2
           have hwr := hW.out.drew.wrote (k := k + ds2.length) (d := cc) (x := (cc : Int)) (by have := HZL.out; omega) rfl
           exact ⟨⟨k + 1, _, by go_num, by omega, HMO.out, hwr⟩, by simp [intOf]; omega⟩
     · obtain rfl : k = ds1.length := by omega
       have hltb : decide ((ds1.length : Int) < (ds1.length : Int)) = false := decide_eq_false (by omega)
       have HZL : Hid (zs.length = ds1.length + ds2.length) := hM.out.len
       have HR := hW.out.row
       rw [HZL.out] at HR
       go_wp2_with fail
       refine (trim_any _ SS (E1 + E2) zs _ (by have := own_dig (S := SS) (E := E1 + E2) hW.out.row hM.out.small (by have := HZL.out; omega) (by omega) (by omega); rw [HZL.out] at this; exact this) (by have := HZL.out; omega)).mono ?_
       rintro e w2 hT
       obtain ⟨v9, rfl, hrf, hb9⟩ := trim_rf HSB.out hT
       have hB : BoxN w2 (w.heap.size + 2) 0 (.slice none 0 0) 0 := hW.out.r.block (hb9.block _ hW.out.r.cells.2.2.2.2)
       have hO : Hid (OtherRow w2 (w.heap.size + 2)) := other_box hB
       obtain ⟨t0, t1', t2', tf, tl⟩ := hB.cells
       have HB : Hid (Below w.heap.size w w2) := hW.out.bel.trans (hb9.mono hW.out.bel.size)
       have HV : Hid (Rf w2 v9 ((S1 : Rat) * mag ds1 E1 * ((S2 : Rat) * mag ds2 E2))) := by
         have hv := hM.out.val
         rw [List.take_of_length_le (Nat.le_refl _)] at hv
         have e : (SS : Rat) * mag zs (E1 + E2) = (S1 : Rat) * mag ds1 E1 * ((S2 : Rat) * mag ds2 E2) := by
           unfold mag
           rw [hv, ← hSS.out, show 24 * (E1 + E2) = 24 * E1 + 24 * E2 by omega, p2_add, Rat.natCast_mul, Rat.intCast_mul]
           grind
         rw [e] at hrf
         exact hrf
       obtain ⟨S9, ds9, E9, hd9, _⟩ := HV.out
       obtain ⟨a9, c9, rfl, _⟩ := hd9.form
       clear hb9 hT hrf hB hW hd9 HR x0 x1 x2 y0 y1' y2' z0 z1 z2
       go_wp2
       refine bodyPost_ret (v := .agg #[.int .i64 S9, .slice a9 ds9.length c9, .int .i64 E9]) (by simp [results, Tryd.results14, go_sem, t0, t1', t2']) rfl ?_
       refine ⟨_, rfl, HV.out.boxed hO.out _ _ _, ?_⟩
       repeat (first | exact HB.out | refine Below.drew ?_ | refine Below.setCell ?_ (by show w.heap.size ≤ w.heap.size + 2; omega) _)
 · go_wp2
   go_loopw [6] (fun i wr => ∃ (k : Nat) (zs : List Nat), i = .int .i64 (k : Nat) ∧ k ≤ ds1.length ∧ Hid (MulO ds1 ds2 zs k) ∧ Hid (MulW w (w.heap.size + 3) (w.heap.size + 4) S1 S2 SS E1 E2 (.slice (some ⟨g1, o1, none⟩) ds1.length c1) (.slice (some ⟨g2, o2, none⟩) ds2.length c2) zs wr)) (fun i _ => ds1.length - (intOf i).toNat)
   case atStart =>
     refine ⟨0, List.replicate (ds1.length + ds2.length) 0, rfl, by omega, MulO.start _ _, MulW.drew ⟨(boxes5 _ _ _ _ _ _).1, (boxes5 _ _ _ _ _ _).2.1, (boxes5 _ _ _ _ _ _).2.2.1, ?_, own_made ?_ (by omega), (boxes5 _ _ _ _ _ _).2.2.2.2.2, by omega, by omega, by omega⟩⟩
     · have := (boxes5 w (.cells #[.int .i64 S1, .slice (some ⟨g1, o1, none⟩) ds1.length c1, .int .i64 E1] 36) (.cells #[.int .i64 S2, .slice (some ⟨g2, o2, none⟩) ds2.length c2, .int .i64 E2] 36) (.cells #[.int .i64 0, .slice none 0 0, .int .i64 0] 36) (.cells #[.int .i64 SS, .slice (some ⟨w.heap.size + 1 + 1 + 1 + 1, 0, none⟩) (ds1.length + ds2.length) (ds1.length + ds2.length), .int .i64 (E1 + E2)] 36) (.cells ZS 2)).2.2.2.1
       simpa [BoxN] using this
     · rw [hZS.out]; exact (boxes5 _ _ _ _ _ _).2.2.2.2.1
   case round =>
     obtain ⟨k, zs, rfl, hk, hM, hW⟩ := hrel
     obtain ⟨x0, x1, x2, _, _⟩ := hW.out.a.cells
     obtain ⟨y0, y1', y2', _, _⟩ := hW.out.b.cells
     obtain ⟨z0, z1, z2, _, _⟩ := hW.out.o.cells
     have hzl := hM.out.len
     rw [hzl] at z1
     clear hzl
     by_cases hlt : k < ds1.length
     · have hlt' : (k : Int) < (ds1.length : Int) := by omega
       have hk0 : (0 : Int) ≤ (k : Int) := by omega
       go_wp2
       clear x0 x1 x2 y0 y1' y2' z0 z1 z2
       go_loopw [7, 8] (fun c j wr' => ∃ (cc jj : Nat) (zs' : List Nat), c = .int .i64 (cc : Nat) ∧ j = .int .i64 (jj : Nat) ∧ jj ≤ ds2.length ∧ cc < 16777216 ∧ Hid (MulI ds1 ds2 zs zs' k jj cc) ∧ Hid (MulW w (w.heap.size + 3) (w.heap.size + 4) S1 S2 SS E1 E2 (.slice (some ⟨g1, o1, none⟩) ds1.length c1) (.slice (some ⟨g2, o2, none⟩) ds2.length c2) zs' wr')) (fun _ j _ => ds2.length - (intOf j).toNat)
       case atStart => exact ⟨0, 0, zs, rfl, rfl, by omega, by omega, hM.out.begin, hW.out⟩
       case round =>
         clear hW
         obtain ⟨cc, jj, zs', rfl, rfl, hj, hcc, hI, hW⟩ := hrel
         obtain ⟨_, x1, _, _, _⟩ := hW.out.a.cells
         obtain ⟨_, y1', _, _, _⟩ := hW.out.b.cells
         obtain ⟨_, z1, _, _, _⟩ := hW.out.o.cells
         have hzl : zs'.length = ds1.length + ds2.length := hI.out.len
         have HZL : Hid (zs'.length = ds1.length + ds2.length) := hzl
         rw [hzl] at z1
         clear hzl
         by_cases hlt2 : jj < ds2.length
         · have hlt2' : (jj : Int) < (ds2.length : Int) := by omega
           have hj0 : (0 : Int) ≤ (jj : Int) := by omega
           have hkj0 : (0 : Int) ≤ (k : Int) + (jj : Int) := by omega
           have hkj : (k : Int) + (jj : Int) < (ds1.length : Int) + (ds2.length : Int) := by omega
           have hwkj : IntKind.i64.wrap ((k : Int) + (jj : Int)) = (k : Int) + (jj : Int) := wrapE _ (by omega) (by omega)
           have htn : ((k : Int) + (jj : Int)).toNat = k + jj := by omega
           have r1 : wr.cell? ⟨g1, o1 + k, none⟩ = some (.int .i64 (ds1.getD k 0 : Nat)) := box_cell hW.out.bel (K1.out k hlt)
           have r2 : wr.cell? ⟨g2, o2 + jj, none⟩ = some (.int .i64 (ds2.getD jj 0 : Nat)) := box_cell hW.out.bel (K2.out jj hlt2)
           have r3 : wr.cell? ⟨(w.heap.size + 4), k + jj, none⟩ = some (.int .i64 (zs'.getD (k + jj) 0 : Nat)) := own_cell hW.out.row (k + jj) (by have := HZL.out; omega)
           have rf := own_frozen hW.out.row (k + jj)
           obtain ⟨d, hd⟩ : ∃ d : Nat, Hid (ds1.getD k 0 = d) := ⟨_, rfl⟩
           obtain ⟨b, hb⟩ : ∃ b : Nat, Hid (ds2.getD jj 0 = b) := ⟨_, rfl⟩
           obtain ⟨x, hx⟩ : ∃ x : Nat, Hid (zs'.getD (k + jj) 0 = x) := ⟨_, rfl⟩
           rw [hd.out] at r1
           rw [hb.out] at r2
           rw [hx.out] at r3
           have hdl : d < 16777216 := by rw [← hd.out]; exact getD_small M1.out _
           have hbl : b < 16777216 := by rw [← hb.out]; exact getD_small M2.out _
           have hxl : x < 16777216 := by rw [← hx.out]; exact getD_small hI.out.small _
           obtain ⟨p, hpp⟩ : ∃ p : Nat, Hid (d * b = p) := ⟨_, rfl⟩
           have hpI : (d : Int) * (b : Int) = (p : Int) := by rw [← hpp.out]; simp
           have hpl : (p : Int) ≤ 281474943156225 := by
             have : d * b ≤ 16777215 * 16777215 := Nat.mul_le_mul (by omega) (by omega)
             rw [hpp.out] at this
             omega
           have wp1 : IntKind.i64.wrap (p : Int) = (p : Int) := wrapE _ (by omega) (by omega)
           have wp2' : IntKind.i64.wrap ((x : Int) + (p : Int)) = (x : Int) + (p : Int) := wrapE _ (by omega) (by omega)
           have wp3 : IntKind.i64.wrap ((x : Int) + (p : Int) + (cc : Int)) = (x : Int) + (p : Int) + (cc : Int) := wrapE _ (by omega) (by omega)
           go_wp2
           go_region_held3 (fun W => W.cell? ⟨w.heap.size, 1, none⟩ = some (.slice (some ⟨g1, o1, none⟩) ds1.length c1) ∧ W.cell? ⟨w.heap.size + 1, 1, none⟩ = some (.slice (some ⟨g2, o2, none⟩) ds2.length c2) ∧ W.cell? ⟨(w.heap.size + 4), k + jj, none⟩ = some (.int .i64 (x : Nat)) ∧ W.cell? ⟨(w.heap.size + 3), 1, none⟩ = some (.slice (some ⟨(w.heap.size + 4), 0, none⟩) (ds1.length + ds2.length) (ds1.length + ds2.length)) ∧ W.cell? ⟨g1, o1 + k, none⟩ = some (.int .i64 (d : Nat)) ∧ W.cell? ⟨g2, o2 + jj, none⟩ = some (.int .i64 (b : Nat)))
             (first
               | assumption
               | exact ⟨by go_simp, by go_simp, by go_simp, by go_simp, by go_simp, by go_simp⟩)
             (fail)
           go_wp2
           have hst := hI.out.step hlt hlt2 M1.out M2.out (v := x + p + cc) (by rw [hx.out, hd.out, hb.out, hpp.out])
           have hwr := hW.out.drew.wrote (k := k + jj) (d := (x + p + cc) % 16777216) (x := ((x : Int) + (p : Int) + (cc : Int)) % 16777216) (by have := HZL.out; omega) (by omega)
           exact ⟨⟨(x + p + cc) / 16777216, jj + 1, _, by go_num, by go_num, by omega, hst.carry, hst, hwr⟩, by simp [intOf]; omega⟩
         · obtain rfl : jj = ds2.length := by omega
           have hltb : decide ((ds2.length : Int) < (ds2.length : Int)) = false := decide_eq_false (by omega)
           obtain ⟨hz0', hMO⟩ := hI.out.done hM.out hlt
           have r3 : wr.cell? ⟨(w.heap.size + 4), k + ds2.length, none⟩ = some (.int .i64 0) := by
             have := own_cell hW.out.row (k + ds2.length) (by have := HZL.out; omega)
             rw [hz0'] at this; exact this
           have rf := own_frozen hW.out.row (k + ds2.length)
           have hkj0 : (0 : Int) ≤ (k : Int) + (ds2.length : Int) := by omega
           have hkj : (k : Int) + (ds2.length : Int) < (ds1.length : Int) + (ds2.length : Int) := by omega
           have hwkj : IntKind.i64.wrap ((k : Int) + (ds2.length : Int)) = (k : Int) + (ds2.length : Int) := wrapE _ (by omega) (by omega)
           have htn : ((k : Int) + (ds2.length : Int)).toNat = k + ds2.length := by omega
           have wcc : IntKind.i64.wrap (cc : Int) = (cc : Int) := wrapE _ (by omega) (by omega)
           have HMO : Hid _ := hMO
           clear hz0' hMO
           go_wp2
           go_region
           go_wp2
           have hwr := hW.out.drew.wrote (k := k + ds2.length) (d := cc) (x := (cc : Int)) (by have := HZL.out; omega) rfl
           exact ⟨⟨k + 1, _, by go_num, by omega, HMO.out, hwr⟩, by simp [intOf]; omega⟩
     · obtain rfl : k = ds1.length := by omega
       have hltb : decide ((ds1.length : Int) < (ds1.length : Int)) = false := decide_eq_false (by omega)
       have HZL : Hid (zs.length = ds1.length + ds2.length) := hM.out.len
       have HR := hW.out.row
       rw [HZL.out] at HR
       go_wp2_with fail
       refine (trim_any _ SS (E1 + E2) zs _ (by have := own_dig (S := SS) (E := E1 + E2) hW.out.row hM.out.small (by have := HZL.out; omega) (by omega) (by omega); rw [HZL.out] at this; exact this) (by have := HZL.out; omega)).mono ?_
       rintro e w2 hT
       obtain ⟨v9, rfl, hrf, hb9⟩ := trim_rf HSB.out hT
       have hB : BoxN w2 (w.heap.size + 2) 0 (.slice none 0 0) 0 := hW.out.r.block (hb9.block _ hW.out.r.cells.2.2.2.2)
       have hO : Hid (OtherRow w2 (w.heap.size + 2)) := other_box hB
       obtain ⟨t0, t1', t2', tf, tl⟩ := hB.cells
       have HB : Hid (Below w.heap.size w w2) := hW.out.bel.trans (hb9.mono hW.out.bel.size)
       have HV : Hid (Rf w2 v9 ((S1 : Rat) * mag ds1 E1 * ((S2 : Rat) * mag ds2 E2))) := by
         have hv := hM.out.val
         rw [List.take_of_length_le (Nat.le_refl _)] at hv
         have e : (SS : Rat) * mag zs (E1 + E2) = (S1 : Rat) * mag ds1 E1 * ((S2 : Rat) * mag ds2 E2) := by
           unfold mag
           rw [hv, ← hSS.out, show 24 * (E1 + E2) = 24 * E1 + 24 * E2 by omega, p2_add, Rat.natCast_mul, Rat.intCast_mul]
           grind
         rw [e] at hrf
         exact hrf
       obtain ⟨S9, ds9, E9, hd9, _⟩ := HV.out
       obtain ⟨a9, c9, rfl, _⟩ := hd9.form
       clear hb9 hT hrf hB hW hd9 HR x0 x1 x2 y0 y1' y2' z0 z1 z2
       go_wp2
       refine bodyPost_ret (v := .agg #[.int .i64 S9, .slice a9 ds9.length c9, .int .i64 E9]) (by simp [results, Tryd.results14, go_sem, t0, t1', t2']) rfl ?_
       refine ⟨_, rfl, HV.out.boxed hO.out _ _ _, ?_⟩
       repeat (first | exact HB.out | refine Below.drew ?_ | refine Below.setCell ?_ (by show w.heap.size ≤ w.heap.size + 2; omega) _)
end Go.Proofs.YtejhinjanjlplaaDoor
