/- Own texts, put together: Zo Zp Zq Fb Fc Eo. -/
import Derived.Test.YtmcllgoeldfgmaaDoorQ3
import Derived.BigRegion
import Derived.Deep.DrawnRows
/- The reference's Mul: the walk. -/
namespace Go.Proofs.YtmcllgoeldfgmaaDoor
open Go.RowKit
attribute [local go_sem ↓] Go.wp_at_zero Go.wp_at_succ

theorem boxes5 (w : World) (a b c d e : Obj) : let W := ((((w.alloc a).alloc b).alloc c).alloc d).alloc e
    W.heap[w.heap.size]? = some a ∧ W.heap[w.heap.size + 1]? = some b ∧ W.heap[w.heap.size + 2]? = some c ∧ W.heap[w.heap.size + 3]? = some d ∧ W.heap[w.heap.size + 4]? = some e ∧ Below w.heap.size w W := by
  have h3 := boxes3 w a b c
  have s3 : (((w.alloc a).alloc b).alloc c).heap.size = w.heap.size + 3 := by simp
  have h4 := old_box (((w.alloc a).alloc b).alloc c) d e
  have h5 := new_box (((w.alloc a).alloc b).alloc c) d e
  rw [s3] at h4 h5
  have hk : ∀ k, k < w.heap.size + 3 → (((((w.alloc a).alloc b).alloc c).alloc d).alloc e).heap[k]? = (((w.alloc a).alloc b).alloc c).heap[k]? := fun k hk => by
    rw [Below.heap_alloc _ _ _ (by simp; omega), Below.heap_alloc _ _ _ (by simp; omega)]
  refine ⟨?_, ?_, ?_, h4, h5, ?_⟩
  · rw [hk _ (by omega)]; exact h3.1
  · rw [hk _ (by omega)]; exact h3.2.1
  · rw [hk _ (by omega)]; exact h3.2.2
  · exact ((below3 w a b c).alloc (by simp; omega) _).alloc (by simp; omega) _

set_option maxRecDepth 100000 in
set_option maxHeartbeats 8000000 in
theorem refMul_walk (g1 o1 g2 o2 c1 c2 : Nat) (S1 S2 E1 E2 : Int) (ds1 ds2 : List Nat) (w : World) (hd1 : Dig w (.agg #[.int .i64 S1, .slice (some ⟨g1, o1, none⟩) ds1.length c1, .int .i64 E1]) S1 ds1 E1) (hd2 : Dig w (.agg #[.int .i64 S2, .slice (some ⟨g2, o2, none⟩) ds2.length c2, .int .i64 E2]) S2 ds2 E2)
    (hS1 : S1 = 1 ∨ S1 = -1) (hS2 : S2 = 1 ∨ S2 = -1) (hp : -10000 ≤ E1) (hq : E1 + (ds1.length : Int) ≤ 10000) (hp' : -10000 ≤ E2) (hq' : E2 + (ds2.length : Int) ≤ 10000)
    (k1 : ∀ k, k < ds1.length → w.cell? ⟨g1, o1 + k, none⟩ = some (.int .i64 (ds1.getD k 0 : Nat))) (k2 : ∀ k, k < ds2.length → w.cell? ⟨g2, o2 + k, none⟩ = some (.int .i64 (ds2.getD k 0 : Nat))) :
    Calls Tryd.prog 29 #[.agg #[.int .i64 S1, .slice (some ⟨g1, o1, none⟩) ds1.length c1, .int .i64 E1], .agg #[.int .i64 S2, .slice (some ⟨g2, o2, none⟩) ds2.length c2, .int .i64 E2]] w fun e w' => RfR w w' ((S1 : Rat) * mag ds1 E1 * ((S2 : Rat) * mag ds2 E2)) e := by
  have K1 : Hid (∀ k, k < ds1.length → w.cell? ⟨g1, o1 + k, none⟩ = some (.int .i64 (ds1.getD k 0 : Nat))) := k1
  have K2 : Hid (∀ k, k < ds2.length → w.cell? ⟨g2, o2 + k, none⟩ = some (.int .i64 (ds2.getD k 0 : Nat))) := k2
  have M1 : Hid (∀ d ∈ ds1, d < 16777216) := hd1.small
  have M2 : Hid (∀ d ∈ ds2, d < 16777216) := hd2.small
  have y1 : (S1 == 0) = false := by simp; omega
  have y2 : (S2 == 0) = false := by simp; omega
  have l1 : (ds1.length : Int) ≤ 20000 := by omega
  have l2 : (ds2.length : Int) ≤ 20000 := by omega
  obtain ⟨SS, hSS⟩ : ∃ s, Hid (S1 * S2 = s) := ⟨_, rfl⟩
  have hSe : S1 * S2 = SS := hSS.out
  have hSb : SS = 1 ∨ SS = -1 := by rw [← hSe]; rcases hS1 with rfl | rfl <;> rcases hS2 with rfl | rfl <;> simp
  have hsw : IntKind.i64.wrap SS = SS := wrapE _ (by omega) (by omega)
  have HSB : Hid (SS = 1 ∨ SS = -1) := hSb
  have hlw : IntKind.i64.wrap ((ds1.length : Int) + (ds2.length : Int)) = (ds1.length : Int) + (ds2.length : Int) := wrapE _ (by omega) (by omega)
  have hEw : IntKind.i64.wrap (E1 + E2) = E1 + E2 := wrapE _ (by omega) (by omega)
  obtain ⟨ZS, hZS⟩ : ∃ zs, Hid ((i64s (List.replicate (ds1.length + ds2.length) 0)).toArray = zs) := ⟨_, rfl⟩
  have hmake : ∀ W, (Instr.makeSlice 45 (.int .i64 ((ds1.length : Int) + (ds2.length : Int))) (.int .i64 ((ds1.length : Int) + (ds2.length : Int)))).run Tryd.prog W = .ok (.slice (some ⟨W.heap.size, 0, none⟩) (ds1.length + ds2.length) (ds1.length + ds2.length)) (W.alloc (.cells ZS 2)) := by
    intro W
    have := make64 (ds1.length + ds2.length) (by omega) W
    rw [hZS.out] at this
    simpa using this
  have HB0 : Hid (Below w.heap.size w (((w.alloc (.cells #[.int .i64 S1, .slice (some ⟨g1, o1, none⟩) ds1.length c1, .int .i64 E1] 47)).alloc (.cells #[.int .i64 S2, .slice (some ⟨g2, o2, none⟩) ds2.length c2, .int .i64 E2] 47)).alloc (.cells #[.int .i64 0, .slice none 0 0, .int .i64 0] 47))) := below3 _ _ _ _
  clear hd1 hd2 hS1 hS2 hSb k1 k2
  go_enter Tryd.func29, Tryd.ntmps29
  go_wp2
  go_region_held3 (fun W => W.cell? ⟨w.heap.size, 0, none⟩ = some (.int .i64 S1) ∧ W.cell? ⟨w.heap.size, 1, none⟩ = some (.slice (some ⟨g1, o1, none⟩) ds1.length c1) ∧ W.cell? ⟨w.heap.size, 2, none⟩ = some (.int .i64 E1) ∧ W.cell? ⟨w.heap.size + 1, 0, none⟩ = some (.int .i64 S2) ∧ W.cell? ⟨w.heap.size + 1, 1, none⟩ = some (.slice (some ⟨g2, o2, none⟩) ds2.length c2) ∧ W.cell? ⟨w.heap.size + 1, 2, none⟩ = some (.int .i64 E2))
    (first
      | assumption
      | exact ⟨by go_simp, by go_simp, by go_simp, by go_simp, by go_simp, by go_simp⟩)
    (fail)
  · go_wp2
    go_loopw [6] (fun i wr => ∃ (k : Nat) (zs : List Nat), i = .int .i64 (k : Nat) ∧ k ≤ ds1.length ∧ Hid (MulO ds1 ds2 zs k) ∧ Hid (MulW w (w.heap.size + 4) (w.heap.size + 3) S1 S2 SS E1 E2 (.slice (some ⟨g1, o1, none⟩) ds1.length c1) (.slice (some ⟨g2, o2, none⟩) ds2.length c2) zs wr)) (fun i _ => ds1.length - (intOf i).toNat)
    case atStart =>
      refine ⟨0, List.replicate (ds1.length + ds2.length) 0, rfl, by omega, MulO.start _ _, MulW.drew ⟨(boxes5 _ _ _ _ _ _).1, (boxes5 _ _ _ _ _ _).2.1, (boxes5 _ _ _ _ _ _).2.2.1, ?_, own_made ?_ (by omega), (boxes5 _ _ _ _ _ _).2.2.2.2.2, by omega, by omega, by omega⟩⟩
      · have := (boxes5 w (.cells #[.int .i64 S1, .slice (some ⟨g1, o1, none⟩) ds1.length c1, .int .i64 E1] 47) (.cells #[.int .i64 S2, .slice (some ⟨g2, o2, none⟩) ds2.length c2, .int .i64 E2] 47) (.cells #[.int .i64 0, .slice none 0 0, .int .i64 0] 47) (.cells ZS 2) (.cells #[.int .i64 SS, .slice (some ⟨w.heap.size + 1 + 1 + 1, 0, none⟩) (ds1.length + ds2.length) (ds1.length + ds2.length), .int .i64 (E1 + E2)] 47)).2.2.2.2.1
        simpa [BoxN] using this
      · rw [hZS.out]; exact (boxes5 _ _ _ _ _ _).2.2.2.1
    case round =>
      obtain ⟨k, zs, rfl, hk, hM, hW⟩ := hrel
      obtain ⟨x0, x1, x2, _, _⟩ := hW.out.a.cells
      obtain ⟨y0, y1', y2', _, _⟩ := hW.out.b.cells
      obtain ⟨z0, z1, z2, _, _⟩ := hW.out.o.cells
      have hzl := hM.out.len
      rw [hzl] at z1
      clear hzl
      by_cases hlt : k < ds1.length
      · have hlt' : (k : Int) < (ds1.length : Int) := by omega
        have hk0 : (0 : Int) ≤ (k : Int) := by omega
        go_wp2
        clear x0 x1 x2 y0 y1' y2' z0 z1 z2
        go_loopw [7, 8] (fun c j wr' => ∃ (cc jj : Nat) (zs' : List Nat), c = .int .i64 (cc : Nat) ∧ j = .int .i64 (jj : Nat) ∧ jj ≤ ds2.length ∧ cc < 16777216 ∧ Hid (MulI ds1 ds2 zs zs' k jj cc) ∧ Hid (MulW w (w.heap.size + 4) (w.heap.size + 3) S1 S2 SS E1 E2 (.slice (some ⟨g1, o1, none⟩) ds1.length c1) (.slice (some ⟨g2, o2, none⟩) ds2.length c2) zs' wr')) (fun _ j _ => ds2.length - (intOf j).toNat)
        case atStart => exact ⟨0, 0, zs, rfl, rfl, by omega, by omega, hM.out.begin, hW.out⟩
        case round =>
          clear hW
          obtain ⟨cc, jj, zs', rfl, rfl, hj, hcc, hI, hW⟩ := hrel
          obtain ⟨_, x1, _, _, _⟩ := hW.out.a.cells
          obtain ⟨_, y1', _, _, _⟩ := hW.out.b.cells
          obtain ⟨_, z1, _, _, _⟩ := hW.out.o.cells
          have hzl : zs'.length = ds1.length + ds2.length := hI.out.len
          have HZL : Hid (zs'.length = ds1.length + ds2.length) := hzl
          rw [hzl] at z1
          clear hzl
          by_cases hlt2 : jj < ds2.length
          · have hlt2' : (jj : Int) < (ds2.length : Int) := by omega
            have hj0 : (0 : Int) ≤ (jj : Int) := by omega
            have hkj0 : (0 : Int) ≤ (k : Int) + (jj : Int) := by omega
            have hkj : (k : Int) + (jj : Int) < (ds1.length : Int) + (ds2.length : Int) := by omega
            have hwkj : IntKind.i64.wrap ((k : Int) + (jj : Int)) = (k : Int) + (jj : Int) := wrapE _ (by omega) (by omega)
            have htn : ((k : Int) + (jj : Int)).toNat = k + jj := by omega
            have r1 : wr.cell? ⟨g1, o1 + k, none⟩ = some (.int .i64 (ds1.getD k 0 : Nat)) := box_cell hW.out.bel (K1.out k hlt)
            have r2 : wr.cell? ⟨g2, o2 + jj, none⟩ = some (.int .i64 (ds2.getD jj 0 : Nat)) := box_cell hW.out.bel (K2.out jj hlt2)
            have r3 : wr.cell? ⟨(w.heap.size + 3), k + jj, none⟩ = some (.int .i64 (zs'.getD (k + jj) 0 : Nat)) := own_cell hW.out.row (k + jj) (by have := HZL.out; omega)
            have rf := own_frozen hW.out.row (k + jj)
            obtain ⟨d, hd⟩ : ∃ d : Nat, Hid (ds1.getD k 0 = d) := ⟨_, rfl⟩
            obtain ⟨b, hb⟩ : ∃ b : Nat, Hid (ds2.getD jj 0 = b) := ⟨_, rfl⟩
            obtain ⟨x, hx⟩ : ∃ x : Nat, Hid (zs'.getD (k + jj) 0 = x) := ⟨_, rfl⟩
            rw [hd.out] at r1
            rw [hb.out] at r2
            rw [hx.out] at r3
            have hdl : d < 16777216 := by rw [← hd.out]; exact getD_small M1.out _
            have hbl : b < 16777216 := by rw [← hb.out]; exact getD_small M2.out _
            have hxl : x < 16777216 := by rw [← hx.out]; exact getD_small hI.out.small _
            obtain ⟨p, hpp⟩ : ∃ p : Nat, Hid (d * b = p) := ⟨_, rfl⟩
            have hpI : (d : Int) * (b : Int) = (p : Int) := by rw [← hpp.out]; simp
            have hpl : (p : Int) ≤ 281474943156225 := by
              have : d * b ≤ 16777215 * 16777215 := Nat.mul_le_mul (by omega) (by omega)
              rw [hpp.out] at this
              omega
            have wp1 : IntKind.i64.wrap (p : Int) = (p : Int) := wrapE _ (by omega) (by omega)
            have wp2' : IntKind.i64.wrap ((x : Int) + (p : Int)) = (x : Int) + (p : Int) := wrapE _ (by omega) (by omega)
            have wp3 : IntKind.i64.wrap ((x : Int) + (p : Int) + (cc : Int)) = (x : Int) + (p : Int) + (cc : Int) := wrapE _ (by omega) (by omega)
            go_wp2
            go_region_held3 (fun W => W.cell? ⟨w.heap.size, 1, none⟩ = some (.slice (some ⟨g1, o1, none⟩) ds1.length c1) ∧ W.cell? ⟨w.heap.size + 1, 1, none⟩ = some (.slice (some ⟨g2, o2, none⟩) ds2.length c2) ∧ W.cell? ⟨(w.heap.size + 3), k + jj, none⟩ = some (.int .i64 (x : Nat)) ∧ W.cell? ⟨(w.heap.size + 4), 1, none⟩ = some (.slice (some ⟨(w.heap.size + 3), 0, none⟩) (ds1.length + ds2.length) (ds1.length + ds2.length)) ∧ W.cell? ⟨g1, o1 + k, none⟩ = some (.int .i64 (d : Nat)) ∧ W.cell? ⟨g2, o2 + jj, none⟩ = some (.int .i64 (b : Nat)))
              (first
                | assumption
                | exact ⟨by go_simp, by go_simp, by go_simp, by go_simp, by go_simp, by go_simp⟩)
              (fail)
            go_wp2
            have hst := hI.out.step hlt hlt2 M1.out M2.out (v := x + p + cc) (by rw [hx.out, hd.out, hb.out, hpp.out])
            have hwr := hW.out.drew.wrote (k := k + jj) (d := (x + p + cc) % 16777216) (x := ((x : Int) + (p : Int) + (cc : Int)) % 16777216) (by have := HZL.out; omega) (by omega)
            exact ⟨⟨(x + p + cc) / 16777216, jj + 1, _, by go_num, by go_num, by omega, hst.carry, hst, hwr⟩, by simp [intOf]; omega⟩
          · obtain rfl : jj = ds2.length := by omega
            have hltb : decide ((ds2.length : Int) < (ds2.length : Int)) = false := decide_eq_false (by omega)
            obtain ⟨hz0', hMO⟩ := hI.out.done hM.out hlt
            have r3 : wr.cell? ⟨(w.heap.size + 3), k + ds2.length, none⟩ = some (.int .i64 0) := by
              have := own_cell hW.out.row (k + ds2.length) (by have := HZL.out; omega)
              rw [hz0'] at this; exact this
            have rf := own_frozen hW.out.row (k + ds2.length)
            have hkj0 : (0 : Int) ≤ (k : Int) + (ds2.length : Int) := by omega
            have hkj : (k : Int) + (ds2.length : Int) < (ds1.length : Int) + (ds2.length : Int) := by omega
            have hwkj : IntKind.i64.wrap ((k : Int) + (ds2.length : Int)) = (k : Int) + (ds2.length : Int) := wrapE _ (by omega) (by omega)
            have htn : ((k : Int) + (ds2.length : Int)).toNat = k + ds2.length := by omega
            have wcc : IntKind.i64.wrap (cc : Int) = (cc : Int) := wrapE _ (by omega) (by omega)
            have HMO : Hid _ := hMO
            clear hz0' hMO
            go_wp2
            go_region
            go_wp2
            have hwr := hW.out.drew.wrote (k := k + ds2.length) (d := cc) (x := (cc : Int)) (by have := HZL.out; omega) rfl
            exact ⟨⟨k + 1, _, by go_num, by omega, HMO.out, hwr⟩, by simp [intOf]; omega⟩
      · obtain rfl : k = ds1.length := by omega
        have hltb : decide ((ds1.length : Int) < (ds1.length : Int)) = false := decide_eq_false (by omega)
        have HZL : Hid (zs.length = ds1.length + ds2.length) := hM.out.len
        have HR := hW.out.row
        rw [HZL.out] at HR
        go_wp2_with fail
        refine (trim_any _ SS (E1 + E2) zs _ (by have := own_dig (S := SS) (E := E1 + E2) hW.out.row hM.out.small (by have := HZL.out; omega) (by omega) (by omega); rw [HZL.out] at this; exact this) (by have := HZL.out; omega)).mono ?_
        rintro e w2 hT
        obtain ⟨v9, rfl, hrf, hb9⟩ := trim_rf HSB.out hT
        have hB : BoxN w2 (w.heap.size + 2) 0 (.slice none 0 0) 0 := hW.out.r.block (hb9.block _ hW.out.r.cells.2.2.2.2)
        have hO : Hid (OtherRow w2 (w.heap.size + 2)) := other_box hB
        obtain ⟨t0, t1', t2', tf, tl⟩ := hB.cells
        have HB : Hid (Below w.heap.size w w2) := hW.out.bel.trans (hb9.mono hW.out.bel.size)
        have HV : Hid (Rf w2 v9 ((S1 : Rat) * mag ds1 E1 * ((S2 : Rat) * mag ds2 E2))) := by
          have hv := hM.out.val
          rw [List.take_of_length_le (Nat.le_refl _)] at hv
          have e : (SS : Rat) * mag zs (E1 + E2) = (S1 : Rat) * mag ds1 E1 * ((S2 : Rat) * mag ds2 E2) := by
            unfold mag
            rw [hv, ← hSS.out, show 24 * (E1 + E2) = 24 * E1 + 24 * E2 by omega, p2_add, Rat.natCast_mul, Rat.intCast_mul]
            grind
          rw [e] at hrf
          exact hrf
        obtain ⟨S9, ds9, E9, hd9, _⟩ := HV.out
        obtain ⟨a9, c9, rfl, _⟩ := hd9.form
        clear hb9 hT hrf hB hW hd9 HR x0 x1 x2 y0 y1' y2' z0 z1 z2
        go_wp2
        refine bodyPost_ret (v := .agg #[.int .i64 S9, .slice a9 ds9.length c9, .int .i64 E9]) (by simp [results, Tryd.results29, go_sem, t0, t1', t2']) rfl ?_
        refine ⟨_, rfl, HV.out.boxed hO.out _ _ _, ?_⟩
        repeat (first | exact HB.out | refine Below.drew ?_ | refine Below.setCell ?_ (by show w.heap.size ≤ w.heap.size + 2; omega) _)
  · go_wp2
    go_loopw [6] (fun i wr => ∃ (k : Nat) (zs : List Nat), i = .int .i64 (k : Nat) ∧ k ≤ ds1.length ∧ Hid (MulO ds1 ds2 zs k) ∧ Hid (MulW w (w.heap.size + 3) (w.heap.size + 4) S1 S2 SS E1 E2 (.slice (some ⟨g1, o1, none⟩) ds1.length c1) (.slice (some ⟨g2, o2, none⟩) ds2.length c2) zs wr)) (fun i _ => ds1.length - (intOf i).toNat)
    case atStart =>
      refine ⟨0, List.replicate (ds1.length + ds2.length) 0, rfl, by omega, MulO.start _ _, MulW.drew ⟨(boxes5 _ _ _ _ _ _).1, (boxes5 _ _ _ _ _ _).2.1, (boxes5 _ _ _ _ _ _).2.2.1, ?_, own_made ?_ (by omega), (boxes5 _ _ _ _ _ _).2.2.2.2.2, by omega, by omega, by omega⟩⟩
      · have := (boxes5 w (.cells #[.int .i64 S1, .slice (some ⟨g1, o1, none⟩) ds1.length c1, .int .i64 E1] 47) (.cells #[.int .i64 S2, .slice (some ⟨g2, o2, none⟩) ds2.length c2, .int .i64 E2] 47) (.cells #[.int .i64 0, .slice none 0 0, .int .i64 0] 47) (.cells #[.int .i64 SS, .slice (some ⟨w.heap.size + 1 + 1 + 1 + 1, 0, none⟩) (ds1.length + ds2.length) (ds1.length + ds2.length), .int .i64 (E1 + E2)] 47) (.cells ZS 2)).2.2.2.1
        simpa [BoxN] using this
      · rw [hZS.out]; exact (boxes5 _ _ _ _ _ _).2.2.2.2.1
    case round =>
      obtain ⟨k, zs, rfl, hk, hM, hW⟩ := hrel
      obtain ⟨x0, x1, x2, _, _⟩ := hW.out.a.cells
      obtain ⟨y0, y1', y2', _, _⟩ := hW.out.b.cells
      obtain ⟨z0, z1, z2, _, _⟩ := hW.out.o.cells
      have hzl := hM.out.len
      rw [hzl] at z1
      clear hzl
      by_cases hlt : k < ds1.length
      · have hlt' : (k : Int) < (ds1.length : Int) := by omega
        have hk0 : (0 : Int) ≤ (k : Int) := by omega
        go_wp2
        clear x0 x1 x2 y0 y1' y2' z0 z1 z2
        go_loopw [7, 8] (fun c j wr' => ∃ (cc jj : Nat) (zs' : List Nat), c = .int .i64 (cc : Nat) ∧ j = .int .i64 (jj : Nat) ∧ jj ≤ ds2.length ∧ cc < 16777216 ∧ Hid (MulI ds1 ds2 zs zs' k jj cc) ∧ Hid (MulW w (w.heap.size + 3) (w.heap.size + 4) S1 S2 SS E1 E2 (.slice (some ⟨g1, o1, none⟩) ds1.length c1) (.slice (some ⟨g2, o2, none⟩) ds2.length c2) zs' wr')) (fun _ j _ => ds2.length - (intOf j).toNat)
        case atStart => exact ⟨0, 0, zs, rfl, rfl, by omega, by omega, hM.out.begin, hW.out⟩
        case round =>
          clear hW
          obtain ⟨cc, jj, zs', rfl, rfl, hj, hcc, hI, hW⟩ := hrel
          obtain ⟨_, x1, _, _, _⟩ := hW.out.a.cells
          obtain ⟨_, y1', _, _, _⟩ := hW.out.b.cells
          obtain ⟨_, z1, _, _, _⟩ := hW.out.o.cells
          have hzl : zs'.length = ds1.length + ds2.length := hI.out.len
          have HZL : Hid (zs'.length = ds1.length + ds2.length) := hzl
          rw [hzl] at z1
          clear hzl
          by_cases hlt2 : jj < ds2.length
          · have hlt2' : (jj : Int) < (ds2.length : Int) := by omega
            have hj0 : (0 : Int) ≤ (jj : Int) := by omega
            have hkj0 : (0 : Int) ≤ (k : Int) + (jj : Int) := by omega
            have hkj : (k : Int) + (jj : Int) < (ds1.length : Int) + (ds2.length : Int) := by omega
            have hwkj : IntKind.i64.wrap ((k : Int) + (jj : Int)) = (k : Int) + (jj : Int) := wrapE _ (by omega) (by omega)
            have htn : ((k : Int) + (jj : Int)).toNat = k + jj := by omega
            have r1 : wr.cell? ⟨g1, o1 + k, none⟩ = some (.int .i64 (ds1.getD k 0 : Nat)) := box_cell hW.out.bel (K1.out k hlt)
            have r2 : wr.cell? ⟨g2, o2 + jj, none⟩ = some (.int .i64 (ds2.getD jj 0 : Nat)) := box_cell hW.out.bel (K2.out jj hlt2)
            have r3 : wr.cell? ⟨(w.heap.size + 4), k + jj, none⟩ = some (.int .i64 (zs'.getD (k + jj) 0 : Nat)) := own_cell hW.out.row (k + jj) (by have := HZL.out; omega)
            have rf := own_frozen hW.out.row (k + jj)
            obtain ⟨d, hd⟩ : ∃ d : Nat, Hid (ds1.getD k 0 = d) := ⟨_, rfl⟩
            obtain ⟨b, hb⟩ : ∃ b : Nat, Hid (ds2.getD jj 0 = b) := ⟨_, rfl⟩
            obtain ⟨x, hx⟩ : ∃ x : Nat, Hid (zs'.getD (k + jj) 0 = x) := ⟨_, rfl⟩
            rw [hd.out] at r1
            rw [hb.out] at r2
            rw [hx.out] at r3
            have hdl : d < 16777216 := by rw [← hd.out]; exact getD_small M1.out _
            have hbl : b < 16777216 := by rw [← hb.out]; exact getD_small M2.out _
            have hxl : x < 16777216 := by rw [← hx.out]; exact getD_small hI.out.small _
            obtain ⟨p, hpp⟩ : ∃ p : Nat, Hid (d * b = p) := ⟨_, rfl⟩
            have hpI : (d : Int) * (b : Int) = (p : Int) := by rw [← hpp.out]; simp
            have hpl : (p : Int) ≤ 281474943156225 := by
              have : d * b ≤ 16777215 * 16777215 := Nat.mul_le_mul (by omega) (by omega)
              rw [hpp.out] at this
              omega
            have wp1 : IntKind.i64.wrap (p : Int) = (p : Int) := wrapE _ (by omega) (by omega)
            have wp2' : IntKind.i64.wrap ((x : Int) + (p : Int)) = (x : Int) + (p : Int) := wrapE _ (by omega) (by omega)
            have wp3 : IntKind.i64.wrap ((x : Int) + (p : Int) + (cc : Int)) = (x : Int) + (p : Int) + (cc : Int) := wrapE _ (by omega) (by omega)
            go_wp2
            go_region_held3 (fun W => W.cell? ⟨w.heap.size, 1, none⟩ = some (.slice (some ⟨g1, o1, none⟩) ds1.length c1) ∧ W.cell? ⟨w.heap.size + 1, 1, none⟩ = some (.slice (some ⟨g2, o2, none⟩) ds2.length c2) ∧ W.cell? ⟨(w.heap.size + 4), k + jj, none⟩ = some (.int .i64 (x : Nat)) ∧ W.cell? ⟨(w.heap.size + 3), 1, none⟩ = some (.slice (some ⟨(w.heap.size + 4), 0, none⟩) (ds1.length + ds2.length) (ds1.length + ds2.length)) ∧ W.cell? ⟨g1, o1 + k, none⟩ = some (.int .i64 (d : Nat)) ∧ W.cell? ⟨g2, o2 + jj, none⟩ = some (.int .i64 (b : Nat)))
              (first
                | assumption
                | exact ⟨by go_simp, by go_simp, by go_simp, by go_simp, by go_simp, by go_simp⟩)
              (fail)
            go_wp2
            have hst := hI.out.step hlt hlt2 M1.out M2.out (v := x + p + cc) (by rw [hx.out, hd.out, hb.out, hpp.out])
            have hwr := hW.out.drew.wrote (k := k + jj) (d := (x + p + cc) % 16777216) (x := ((x : Int) + (p : Int) + (cc : Int)) % 16777216) (by have := HZL.out; omega) (by omega)
            exact ⟨⟨(x + p + cc) / 16777216, jj + 1, _, by go_num, by go_num, by omega, hst.carry, hst, hwr⟩, by simp [intOf]; omega⟩
          · obtain rfl : jj = ds2.length := by omega
            have hltb : decide ((ds2.length : Int) < (ds2.length : Int)) = false := decide_eq_false (by omega)
            obtain ⟨hz0', hMO⟩ := hI.out.done hM.out hlt
            have r3 : wr.cell? ⟨(w.heap.size + 4), k + ds2.length, none⟩ = some (.int .i64 0) := by
              have := own_cell hW.out.row (k + ds2.length) (by have := HZL.out; omega)
              rw [hz0'] at this; exact this
            have rf := own_frozen hW.out.row (k + ds2.length)
            have hkj0 : (0 : Int) ≤ (k : Int) + (ds2.length : Int) := by omega
            have hkj : (k : Int) + (ds2.length : Int) < (ds1.length : Int) + (ds2.length : Int) := by omega
            have hwkj : IntKind.i64.wrap ((k : Int) + (ds2.length : Int)) = (k : Int) + (ds2.length : Int) := wrapE _ (by omega) (by omega)
            have htn : ((k : Int) + (ds2.length : Int)).toNat = k + ds2.length := by omega
            have wcc : IntKind.i64.wrap (cc : Int) = (cc : Int) := wrapE _ (by omega) (by omega)
            have HMO : Hid _ := hMO
            clear hz0' hMO
            go_wp2
            go_region
            go_wp2
            have hwr := hW.out.drew.wrote (k := k + ds2.length) (d := cc) (x := (cc : Int)) (by have := HZL.out; omega) rfl
            exact ⟨⟨k + 1, _, by go_num, by omega, HMO.out, hwr⟩, by simp [intOf]; omega⟩
      · obtain rfl : k = ds1.length := by omega
        have hltb : decide ((ds1.length : Int) < (ds1.length : Int)) = false := decide_eq_false (by omega)
        have HZL : Hid (zs.length = ds1.length + ds2.length) := hM.out.len
        have HR := hW.out.row
        rw [HZL.out] at HR
        go_wp2_with fail
        refine (trim_any _ SS (E1 + E2) zs _ (by have := own_dig (S := SS) (E := E1 + E2) hW.out.row hM.out.small (by have := HZL.out; omega) (by omega) (by omega); rw [HZL.out] at this; exact this) (by have := HZL.out; omega)).mono ?_
        rintro e w2 hT
        obtain ⟨v9, rfl, hrf, hb9⟩ := trim_rf HSB.out hT
        have hB : BoxN w2 (w.heap.size + 2) 0 (.slice none 0 0) 0 := hW.out.r.block (hb9.block _ hW.out.r.cells.2.2.2.2)
        have hO : Hid (OtherRow w2 (w.heap.size + 2)) := other_box hB
        obtain ⟨t0, t1', t2', tf, tl⟩ := hB.cells
        have HB : Hid (Below w.heap.size w w2) := hW.out.bel.trans (hb9.mono hW.out.bel.size)
        have HV : Hid (Rf w2 v9 ((S1 : Rat) * mag ds1 E1 * ((S2 : Rat) * mag ds2 E2))) := by
          have hv := hM.out.val
          rw [List.take_of_length_le (Nat.le_refl _)] at hv
          have e : (SS : Rat) * mag zs (E1 + E2) = (S1 : Rat) * mag ds1 E1 * ((S2 : Rat) * mag ds2 E2) := by
            unfold mag
            rw [hv, ← hSS.out, show 24 * (E1 + E2) = 24 * E1 + 24 * E2 by omega, p2_add, Rat.natCast_mul, Rat.intCast_mul]
            grind
          rw [e] at hrf
          exact hrf
        obtain ⟨S9, ds9, E9, hd9, _⟩ := HV.out
        obtain ⟨a9, c9, rfl, _⟩ := hd9.form
        clear hb9 hT hrf hB hW hd9 HR x0 x1 x2 y0 y1' y2' z0 z1 z2
        go_wp2
        refine bodyPost_ret (v := .agg #[.int .i64 S9, .slice a9 ds9.length c9, .int .i64 E9]) (by simp [results, Tryd.results29, go_sem, t0, t1', t2']) rfl ?_
        refine ⟨_, rfl, HV.out.boxed hO.out _ _ _, ?_⟩
        repeat (first | exact HB.out | refine Below.drew ?_ | refine Below.setCell ?_ (by show w.heap.size ≤ w.heap.size + 2; omega) _)

end Go.Proofs.YtmcllgoeldfgmaaDoor

/- The reference's Neg, Sub, Cmp, Abs of whatever numbers. -/
namespace Go.Proofs.YtmcllgoeldfgmaaDoor
open Go.RowKit
attribute [local go_sem ↓] Go.wp_at_zero Go.wp_at_succ

theorem keepN6_set {w W : World} {o1 o2 o3 o4 o5 o6 : Nat} {x1 x2 x3 x4 x5 x6 : Value} (h : W.cell? ⟨w.heap.size, o1, none⟩ = some x1 ∧ W.cell? ⟨w.heap.size, o2, none⟩ = some x2 ∧ W.cell? ⟨w.heap.size, o3, none⟩ = some x3 ∧ W.cell? ⟨w.heap.size + 1, o4, none⟩ = some x4 ∧ W.cell? ⟨w.heap.size + 1, o5, none⟩ = some x5 ∧ W.cell? ⟨w.heap.size + 1, o6, none⟩ = some x6 ∧ Below w.heap.size w W) (u0 u1 u2 : Value) :
    (fun W' : World => W'.cell? ⟨w.heap.size, o1, none⟩ = some x1 ∧ W'.cell? ⟨w.heap.size, o2, none⟩ = some x2 ∧ W'.cell? ⟨w.heap.size, o3, none⟩ = some x3 ∧ W'.cell? ⟨w.heap.size + 1, o4, none⟩ = some x4 ∧ W'.cell? ⟨w.heap.size + 1, o5, none⟩ = some x5 ∧ W'.cell? ⟨w.heap.size + 1, o6, none⟩ = some x6 ∧ Below w.heap.size w W') (((W.setCell ⟨w.heap.size + 1 + 1, 0, none⟩ u0).setCell ⟨w.heap.size + 1 + 1, 1, none⟩ u1).setCell ⟨w.heap.size + 1 + 1, 2, none⟩ u2) := by
  have o : ∀ (W : World) (b i j : Nat) (x v : Value), b ≠ w.heap.size + 1 + 1 → W.cell? ⟨b, i, none⟩ = some x → (W.setCell ⟨w.heap.size + 1 + 1, j, none⟩ v).cell? ⟨b, i, none⟩ = some x := fun W b i j x v hb hx => by
    rw [World.cell?_setCell_other W _ _ v (by intro e; cases e; exact hb rfl)]; exact hx
  have o3 : ∀ (b i : Nat) (x : Value), b ≠ w.heap.size + 1 + 1 → W.cell? ⟨b, i, none⟩ = some x → (((W.setCell ⟨w.heap.size + 1 + 1, 0, none⟩ u0).setCell ⟨w.heap.size + 1 + 1, 1, none⟩ u1).setCell ⟨w.heap.size + 1 + 1, 2, none⟩ u2).cell? ⟨b, i, none⟩ = some x := fun b i x hb hx => o _ b i 2 x u2 hb (o _ b i 1 x u1 hb (o _ b i 0 x u0 hb hx))
  refine ⟨o3 _ _ _ (by omega) h.1, o3 _ _ _ (by omega) h.2.1, o3 _ _ _ (by omega) h.2.2.1, o3 _ _ _ (by omega) h.2.2.2.1, o3 _ _ _ (by omega) h.2.2.2.2.1, o3 _ _ _ (by omega) h.2.2.2.2.2.1, ?_⟩
  exact ((h.2.2.2.2.2.2.setCell (by show w.heap.size ≤ w.heap.size + 1 + 1; omega) _).setCell (by show w.heap.size ≤ w.heap.size + 1 + 1; omega) _).setCell (by show w.heap.size ≤ w.heap.size + 1 + 1; omega) _

set_option maxRecDepth 100000 in
theorem run_fieldS (s E : Int) (a : Option Addr) (n c : Nat) (W : World) : (Instr.field 47 (.agg #[.int .i64 s, .slice a n c, .int .i64 E]) 0).run Tryd.prog W = .ok (.int .i64 s) W := by
  rfl
set_option maxRecDepth 100000 in
theorem run_fieldD (s E : Int) (a : Option Addr) (n c : Nat) (W : World) : (Instr.field 47 (.agg #[.int .i64 s, .slice a n c, .int .i64 E]) 1).run Tryd.prog W = .ok (.slice a n c) W := by
  rfl
set_option maxRecDepth 100000 in
theorem run_fieldE (s E : Int) (a : Option Addr) (n c : Nat) (W : World) : (Instr.field 47 (.agg #[.int .i64 s, .slice a n c, .int .i64 E]) 2).run Tryd.prog W = .ok (.int .i64 E) W := by
  rfl
theorem Canon.neg {S E : Int} {ds : List Nat} (h : Canon S ds E) : Canon (-S) ds E := by
  rcases h with ⟨a, b, c⟩ | ⟨a, b, c, d⟩
  · exact Or.inl ⟨a, by omega, c⟩
  · exact Or.inr ⟨a, by omega, c, d⟩
theorem Rf.sgn {w : World} {v : Value} {q : Rat} (h : Rf w v q) : ∃ S a n c E, v = .agg #[.int .i64 S, .slice a n c, .int .i64 E] ∧ ((S = 0 ∧ q = 0) ∨ (S = 1 ∧ 0 < q) ∨ (S = -1 ∧ q < 0)) := by
  obtain ⟨S, ds, E, h1, h2, rfl⟩ := h
  obtain ⟨a, c, rfl, _⟩ := h1.form
  exact ⟨S, a, _, c, E, rfl, canon_sgn h2⟩

theorem neg_rf (v : Value) (q : Rat) (w : World) (h : Rf w v q) : Calls Tryd.prog 31 #[v] w fun e w' => RfR w w' (-q) e := by
  obtain ⟨S, ds, E, h1, h2, rfl⟩ := h
  refine (refNeg_any v S E ds w h1 (by have := canon_sign h2; omega)).mono ?_
  rintro e w' ⟨⟨v', rfl, hd⟩, hb⟩
  refine ⟨v', rfl, ⟨-S, ds, E, hd, h2.neg, ?_⟩, hb⟩
  rw [Rat.intCast_neg]; grind

set_option maxHeartbeats 2000000 in
theorem sub_rf (v1 v2 : Value) (q1 q2 : Rat) (w : World) (h1 : Rf w v1 q1) (h2 : Rf w v2 q2) (b1 : Fit q1) (b2 : Fit q2) : Calls Tryd.prog 28 #[v1, v2] w fun e w' => RfR w w' (q1 - q2) e := by
  have R1 : Hid (Rf w v1 q1) := h1
  have R2 : Hid (Rf w v2 q2) := h2
  have F1 : Hid (Fit q1) := b1
  have F2 : Hid (Fit (-q2)) := Bd.neg b2
  obtain ⟨S1, ds1, E1, d1, _⟩ := h1
  obtain ⟨S2, ds2, E2, d2, _⟩ := h2
  obtain ⟨a1, c1, rfl, _⟩ := d1.form
  obtain ⟨a2, c2, rfl, _⟩ := d2.form
  have HB0 : Hid (Below w.heap.size w (((w.alloc (.cells #[.int .i64 S1, .slice a1 ds1.length c1, .int .i64 E1] 47)).alloc (.cells #[.int .i64 S2, .slice a2 ds2.length c2, .int .i64 E2] 47)).alloc (.cells #[.int .i64 0, .slice none 0 0, .int .i64 0] 47))) := below3 _ _ _ _
  have HR0 : Hid (BoxN (((w.alloc (.cells #[.int .i64 S1, .slice a1 ds1.length c1, .int .i64 E1] 47)).alloc (.cells #[.int .i64 S2, .slice a2 ds2.length c2, .int .i64 E2] 47)).alloc (.cells #[.int .i64 0, .slice none 0 0, .int .i64 0] 47)) (w.heap.size + 2) 0 (.slice none 0 0) 0) := (boxes3 w _ _ _).2.2
  clear d1 d2 b1 b2
  go_enter Tryd.func28, Tryd.ntmps28
  go_wp2
  go_region_held3 (fun W => W.cell? ⟨w.heap.size, 0, none⟩ = some (.int .i64 S1) ∧ W.cell? ⟨w.heap.size, 1, none⟩ = some (.slice a1 ds1.length c1) ∧ W.cell? ⟨w.heap.size, 2, none⟩ = some (.int .i64 E1) ∧ W.cell? ⟨w.heap.size + 1, 0, none⟩ = some (.int .i64 S2) ∧ W.cell? ⟨w.heap.size + 1, 1, none⟩ = some (.slice a2 ds2.length c2) ∧ W.cell? ⟨w.heap.size + 1, 2, none⟩ = some (.int .i64 E2) ∧ Below w.heap.size w W)
    (first
      | assumption
      | exact ⟨by go_simp, by go_simp, by go_simp, by go_simp, by go_simp, by go_simp, HB0.out.drew⟩
      | exact keepN6 (by assumption) (by assumption)
      | exact keepN6_set (by assumption) _ _ _)
    (first
      | (go_at_call 31; refine (neg_rf _ q2 _ (R2.out.later HB0.out.drew)).mono ?_; rintro e w5 ⟨v5, rfl, hr5, hb5⟩; obtain ⟨S5, ds5, E5, d5, x5⟩ := id hr5; obtain ⟨a5, c5, rfl, _⟩ := d5.form)
      | (go_at_call 27; refine (refAdd_any _ _ q1 (-q2) _ (R1.out.later (by exact (by assumption : _ ∧ _ ∧ _ ∧ _ ∧ _ ∧ _ ∧ Below w.heap.size w _).2.2.2.2.2.2)) hr5 F1.out F2.out).mono ?_; rintro e w6 ⟨v6, rfl, hr6, hb6⟩; obtain ⟨S6, ds6, E6, d6, x6⟩ := id hr6; obtain ⟨a6, c6, rfl, _⟩ := d6.form; have hB6 : BoxN w6 (w.heap.size + 2) 0 (.slice none 0 0) 0 := ((BoxN.block HR0.out rfl : BoxN (World.drew _) _ _ _ _).block (hb5.block _ (by simp))).block (hb6.block _ (by have := hb5.size; simp at this; omega)); obtain ⟨t0, t1, t2, tf, tl⟩ := hB6.cells))
  have hBf := (by assumption : _ ∧ _ ∧ _ ∧ _ ∧ _ ∧ _ ∧ Below w.heap.size w _).2.2.2.2.2.2
  have HBf : Hid _ := hBf
  have HV : Hid (Rf w6 (.agg #[.int .i64 S6, .slice a6 ds6.length c6, .int .i64 E6]) (q1 - q2)) := by rw [show q1 + -q2 = q1 - q2 by grind] at hr6; exact hr6
  have hO : Hid (OtherRow w6 (w.heap.size + 2)) := other_box hB6
  clear hr6 hr5 d5 x5 d6 x6 hb5 hb6 hB6 hBf
  go_wp2
  refine bodyPost_ret (v := .agg #[.int .i64 S6, .slice a6 ds6.length c6, .int .i64 E6]) (by simp [results, Tryd.results28, go_sem, t0, t1, t2]) rfl ?_
  exact ⟨_, rfl, HV.out.boxed hO.out _ _ _, HBf.out⟩

/-- The sign of a number. -/
def sgq (q : Rat) : Int := if q < 0 then -1 else if q = 0 then 0 else 1
theorem sgq_of {S : Int} {q : Rat} (h : (S = 0 ∧ q = 0) ∨ (S = 1 ∧ 0 < q) ∨ (S = -1 ∧ q < 0)) : S = sgq q := by
  unfold sgq
  rcases h with ⟨rfl, rfl⟩ | ⟨rfl, h⟩ | ⟨rfl, h⟩
  · rw [if_neg (by grind), if_pos rfl]
  · rw [if_neg (by grind), if_neg (by grind)]
  · rw [if_pos h]

set_option maxHeartbeats 1000000 in
theorem cmp_rf (v1 v2 : Value) (q1 q2 : Rat) (w : World) (h1 : Rf w v1 q1) (h2 : Rf w v2 q2) (b1 : Fit q1) (b2 : Fit q2) : Calls Tryd.prog 34 #[v1, v2] w fun e w' => e = .returned (.int .i64 (sgq (q1 - q2))) ∧ Below w.heap.size w w' := by
  have R1 : Hid (Rf w v1 q1) := h1
  have R2 : Hid (Rf w v2 q2) := h2
  have F1 : Hid (Fit q1) := b1
  have F2 : Hid (Fit q2) := b2
  obtain ⟨S1, ds1, E1, d1, _⟩ := h1
  obtain ⟨S2, ds2, E2, d2, _⟩ := h2
  obtain ⟨a1, c1, rfl, _⟩ := d1.form
  obtain ⟨a2, c2, rfl, _⟩ := d2.form
  have HB0 : Hid (Below w.heap.size w ((w.alloc (.cells #[.int .i64 S1, .slice a1 ds1.length c1, .int .i64 E1] 47)).alloc (.cells #[.int .i64 S2, .slice a2 ds2.length c2, .int .i64 E2] 47))) := ((Below.refl _ _).alloc (Nat.le_refl _) _).alloc (by simp) _
  clear d1 d2 b1 b2
  go_enter Tryd.func34, Tryd.ntmps34
  go_wp2_with fail
  refine (sub_rf _ _ q1 q2 _ (R1.out.later HB0.out) (R2.out.later HB0.out) F1.out F2.out).mono ?_
  rintro e w5 ⟨v5, rfl, hr5, hb5⟩
  obtain ⟨S5, a5, n5, c5, E5, rfl, hs5⟩ := hr5.sgn
  have hS := sgq_of hs5
  have HB : Hid (Below w.heap.size w w5) := HB0.out.trans (hb5.mono HB0.out.size)
  clear hr5 hb5 hs5
  subst hS
  obtain ⟨s, hs⟩ : ∃ s, Hid (sgq (q1 - q2) = s) := ⟨_, rfl⟩
  rw [hs.out]
  have hfield := run_fieldS s E5 a5 n5 c5
  go_wp2
  go_ret
  exact ⟨by rw [hs.out]; rfl, HB.out⟩


end Go.Proofs.YtmcllgoeldfgmaaDoor

/- The reference's Mul, High and Low of whatever numbers. -/
namespace Go.Proofs.YtmcllgoeldfgmaaDoor
open Go.RowKit

set_option maxHeartbeats 1000000 in
theorem mul_zero (a1 a2 : Option Addr) (n1 n2 c1 c2 : Nat) (S1 S2 E1 E2 : Int) (w : World) (h : S1 = 0 ∨ S2 = 0) :
    Calls Tryd.prog 29 #[.agg #[.int .i64 S1, .slice a1 n1 c1, .int .i64 E1], .agg #[.int .i64 S2, .slice a2 n2 c2, .int .i64 E2]] w fun e w' => e = .returned (.agg #[.int .i64 0, .slice none 0 0, .int .i64 0]) ∧ Below w.heap.size w w' := by
  by_cases h1 : S1 = 0
  · subst h1
    clear h
    go_enter Tryd.func29, Tryd.ntmps29
    go_wp2
    refine bodyPost_ret (v := .agg #[.int .i64 0, .slice none 0 0, .int .i64 0]) (by simp [results, Tryd.results29, go_sem]) rfl ?_
    exact ⟨rfl, below3 _ _ _ _⟩
  · obtain rfl : S2 = 0 := h.resolve_left h1
    have h1' : (S1 == 0) = false := by simpa using h1
    clear h h1
    go_enter Tryd.func29, Tryd.ntmps29
    go_wp2
    refine bodyPost_ret (v := .agg #[.int .i64 0, .slice none 0 0, .int .i64 0]) (by simp [results, Tryd.results29, go_sem]) rfl ?_
    exact ⟨rfl, below3 _ _ _ _⟩

theorem rf_zero (w : World) : Rf w (.agg #[.int .i64 0, .slice none 0 0, .int .i64 0]) 0 :=
  ⟨0, [], 0, ⟨⟨none, 0, rfl, by simp, Or.inl rfl⟩, by simp, by simp, by omega, by omega⟩, Or.inl ⟨rfl, rfl, rfl⟩, by rw [mag_nil]; grind⟩

theorem mul_rf (v1 v2 : Value) (q1 q2 : Rat) (w : World) (h1 : Rf w v1 q1) (h2 : Rf w v2 q2) (b1 : Fit q1) (b2 : Fit q2) : Calls Tryd.prog 29 #[v1, v2] w fun e w' => RfR w w' (q1 * q2) e := by
  obtain ⟨S1, ds1, E1, d1, k1, rfl⟩ := h1
  obtain ⟨S2, ds2, E2, d2, k2, rfl⟩ := h2
  have D1 := d1
  have D2 := d2
  obtain ⟨a1, c1, rfl, _, f1⟩ := d1.form
  obtain ⟨a2, c2, rfl, _, f2⟩ := d2.form
  by_cases z : S1 = 0 ∨ S2 = 0
  · refine (mul_zero a1 a2 ds1.length ds2.length c1 c2 S1 S2 E1 E2 w z).mono ?_
    rintro e w' ⟨rfl, hb⟩
    refine ⟨_, rfl, ?_, hb⟩
    have : (S1 : Rat) * mag ds1 E1 * ((S2 : Rat) * mag ds2 E2) = 0 := by
      rcases z with rfl | rfl
      · rw [show ((0 : Int) : Rat) = 0 from rfl]; grind
      · rw [show ((0 : Int) : Rat) = 0 from rfl]; grind
    rw [this]
    exact rf_zero _
  · have n1 : ds1 ≠ [] := by rintro rfl; rcases k1 with ⟨_, h, _⟩ | ⟨h, _⟩; exact z (Or.inl h); exact h rfl
    have n2 : ds2 ≠ [] := by rintro rfl; rcases k2 with ⟨_, h, _⟩ | ⟨h, _⟩; exact z (Or.inr h); exact h rfl
    obtain ⟨g1, o1, rfl, f1, _⟩ := f1.resolve_left n1
    obtain ⟨g2, o2, rfl, f2, _⟩ := f2.resolve_left n2
    obtain ⟨p1, p1'⟩ := canon_place k1 d1.small b1 n1
    obtain ⟨p2, p2'⟩ := canon_place k2 d2.small b2 n2
    exact refMul_walk g1 o1 g2 o2 c1 c2 S1 S2 E1 E2 ds1 ds2 w D1 D2 ((canon_sign k1).resolve_left (fun h => z (Or.inl h))) ((canon_sign k2).resolve_left (fun h => z (Or.inr h))) (by omega) (by omega) (by omega) (by omega) f1 f2

theorem canon_digit {S E : Int} {ds : List Nat} (h : Canon S ds E) (hn : ds ≠ []) : ∃ j, dgt ds E j ≠ 0 := by
  rcases h with ⟨h, _⟩ | ⟨_, _, h, _⟩
  · exact absurd h hn
  · refine ⟨E, ?_⟩
    have := List.length_pos_iff.2 hn
    unfold dgt
    rw [if_pos ⟨by omega, by omega⟩, show (E - E).toNat = 0 by omega]; exact h

theorem eq_small {ds ds' : List Nat} {E E' : Int} (hs : ∀ d ∈ ds, d < 16777216) (heq : ∀ j, dgt ds' E' j = dgt ds E j) : ∀ i, ds'.getD i 0 < 16777216 := by
  intro i
  by_cases hi : i < ds'.length
  · have h : dgt ds' E' (E' + (i : Int)) = ds'.getD i 0 := by
      unfold dgt; rw [if_pos ⟨by omega, by omega⟩, show (E' + (i : Int) - E').toNat = i by omega]
    rw [← h, heq, dgt_dg]; exact dg_small hs _ _
  · simp [List.getD, List.getElem?_eq_none (Nat.le_of_not_lt hi)]
theorem eq_small' {ds ds' : List Nat} {E E' : Int} (hs : ∀ d ∈ ds, d < 16777216) (heq : ∀ j, dgt ds' E' j = dgt ds E j) : ∀ d ∈ ds', d < 16777216 := by
  intro d hd
  obtain ⟨i, hi, rfl⟩ := List.getElem_of_mem hd
  have := eq_small hs heq i
  rwa [show ds'.getD i 0 = ds'[i] by simp [List.getD, hi]] at this
theorem v24_head (ds : List Nat) : ∃ r, v24 ds = ds.getD 0 0 + 16777216 * r := by
  cases ds with
  | nil => exact ⟨0, by simp [v24]⟩
  | cons a r => exact ⟨v24 r, by simp [v24]⟩

theorem low_rf (v : Value) (q : Rat) (w : World) (h : Rf w v q) (hq : q ≠ 0) (b : Fit q) : Calls Tryd.prog 65 #[v] w fun e w' => (∃ (l : Int) (m : Int), e = .returned (.int .i64 l) ∧ q = (m : Rat) * p2 l ∧ m % 2 = 1) ∧ Below w.heap.size w w' := by
  obtain ⟨S, ds, E, d, k, rfl⟩ := h
  have D := d
  obtain ⟨a, c, rfl, _⟩ := d.form
  have hS : S ≠ 0 := by rintro rfl; exact hq (by rw [show ((0 : Int) : Rat) = 0 from rfl]; grind)
  have hn : ds ≠ [] := by rintro rfl; rcases k with ⟨_, h, _⟩ | ⟨h, _⟩; exact hS h; exact h rfl
  obtain ⟨p1, p1'⟩ := canon_place k d.small b hn
  have s1 := (canon_sign k).resolve_left hS
  refine (refLow_walk a c S E ds w D (by omega) (by simpa using hS) (canon_digit k hn)).mono ?_
  rintro e w' ⟨⟨ds', E', t, x, rfl, heq, hx, hodd⟩, hb⟩
  have hsm := eq_small d.small heq 0
  have hm : mag ds' E' = mag ds E := mag_congr (fun j => by rw [← dgt_dg, ← dgt_dg]; exact heq j)
  obtain ⟨r, hr⟩ := v24_head ds'
  have ht : t < 24 := by
    have e1 : 1 * 2 ^ t ≤ x * 2 ^ t := Nat.mul_le_mul_right _ (by omega)
    have : 2 ^ t < 2 ^ 24 := by omega
    exact (Nat.pow_lt_pow_iff_right (by omega : 1 < 2)).1 this
  have e24 : 16777216 = 2 ^ t * (2 * 2 ^ (23 - t)) := by
    rw [← Nat.pow_succ', ← Nat.pow_add, show t + (23 - t).succ = 24 by omega]
  have hv : v24 ds' = 2 ^ t * (x + 2 * (2 ^ (23 - t) * r)) := by
    rw [hr, hx, e24]; grind
  refine ⟨⟨_, S * ((x + 2 * (2 ^ (23 - t) * r) : Nat) : Int), rfl, ?_, ?_⟩, hb⟩
  · rw [← hm]
    unfold mag
    rw [hv, p2_add, p2_nat, Rat.natCast_mul, Rat.intCast_mul]
    show (S : Rat) * (((2 ^ t : Nat) : Rat) * ((x + 2 * (2 ^ (23 - t) * r) : Nat) : Rat) * p2 (24 * E')) = (S : Rat) * ((x + 2 * (2 ^ (23 - t) * r) : Nat) : Rat) * (p2 (24 * E') * ((2 ^ t : Nat) : Rat))
    grind
  · rcases s1 with rfl | rfl <;> omega

theorem high_rf (v : Value) (q : Rat) (w : World) (h : Rf w v q) (hq : q ≠ 0) (b : Fit q) : Calls Tryd.prog 64 #[v] w fun e w' => (∃ (h : Int), e = .returned (.int .i64 h) ∧ ((p2 h ≤ q ∧ q < p2 (h + 1)) ∨ (p2 h ≤ -q ∧ -q < p2 (h + 1)))) ∧ Below w.heap.size w w' := by
  obtain ⟨S, ds, E, d, k, rfl⟩ := h
  have D := d
  obtain ⟨a, c, rfl, _⟩ := d.form
  have hS : S ≠ 0 := by rintro rfl; exact hq (by rw [show ((0 : Int) : Rat) = 0 from rfl]; grind)
  have hn : ds ≠ [] := by rintro rfl; rcases k with ⟨_, h, _⟩ | ⟨h, _⟩; exact hS h; exact h rfl
  obtain ⟨p1, p1'⟩ := canon_place k d.small b hn
  have s1 := (canon_sign k).resolve_left hS
  refine (refHigh_walk a c S E ds w D (by omega) (by simpa using hS) (canon_digit k hn)).mono ?_
  rintro e w' ⟨⟨ds', E', t, rfl, heq, hne, h1, h2⟩, hb⟩
  have hsm := eq_small' d.small heq
  have hm : mag ds' E' = mag ds E := mag_congr (fun j => by rw [← dgt_dg, ← dgt_dg]; exact heq j)
  have hl := List.length_pos_iff.2 hne
  have hv := v24_take_succ ds' (ds'.length - 1)
  rw [show ds'.length - 1 + 1 = ds'.length by omega, List.take_length] at hv
  have hlow : v24 (ds'.take (ds'.length - 1)) < 2 ^ (24 * (ds'.length - 1)) := by
    have := v24_lt (ds := ds'.take (ds'.length - 1)) (fun d hd => hsm d (List.mem_of_mem_take hd))
    rwa [List.length_take, Nat.min_eq_left (by omega)] at this
  have lo : p2 (24 * (E' + (ds'.length : Int) - 1) + (t : Int)) ≤ mag ds E ∧ mag ds E < p2 (24 * (E' + (ds'.length : Int) - 1) + (t : Int) + 1) := by
    rw [← hm]
    unfold mag
    rw [show 24 * (E' + (ds'.length : Int) - 1) + (t : Int) = ((24 * (ds'.length - 1) + t : Nat) : Int) + 24 * E' by omega, show ((24 * (ds'.length - 1) + t : Nat) : Int) + 24 * E' + 1 = ((24 * (ds'.length - 1) + (t + 1) : Nat) : Int) + 24 * E' by omega, p2_add, p2_add, p2_nat, p2_nat, hv, Nat.pow_add, Nat.pow_add]
    have hp := p2_pos (24 * E')
    have a1 := Nat.mul_le_mul_left (2 ^ (24 * (ds'.length - 1))) h1
    have a2 := Nat.mul_le_mul_left (2 ^ (24 * (ds'.length - 1))) (show ds'.getD (ds'.length - 1) 0 + 1 ≤ 2 ^ (t + 1) from h2)
    rw [Nat.mul_add, Nat.mul_one] at a2
    exact ⟨Rat.mul_le_mul_of_nonneg_right (Rat.natCast_le_natCast.2 (by omega)) (Rat.le_of_lt hp), Rat.mul_lt_mul_of_pos_right (Rat.natCast_lt_natCast.2 (by omega)) hp⟩
  refine ⟨⟨_, rfl, ?_⟩, hb⟩
  rcases s1 with rfl | rfl
  · left
    rw [show ((1 : Int) : Rat) * mag ds E = mag ds E by rw [show ((1 : Int) : Rat) = 1 from rfl]; grind]; exact lo
  · right
    rw [show -(((-1 : Int) : Rat) * mag ds E) = mag ds E by rw [show ((-1 : Int) : Rat) = -1 from rfl]; grind]; exact lo

end Go.Proofs.YtmcllgoeldfgmaaDoor

/- Floats: IsNaN, IsInf, normalize, Frexp, Ldexp of package math, on the words that package whole hands them. -/
namespace Go.Proofs.YtmcllgoeldfgmaaDoor
open Go.RowKit

theorem fin_order_self {b : Nat} (h : Fin64 b) : Ieee.double.order b b = some .eq := by
  rw [order_fin h h, if_neg (by exact Rat.lt_irrefl), if_pos rfl]

/-- Is the word that of no number? -/
def isnan (b : Nat) : Bool := decide (9218868437227405312 < frung b)
def isinf (b : Nat) : Bool := frung b == 9218868437227405312

theorem order_self (b : Nat) : (Ieee.double.order b b != some .eq) = isnan b := by
  unfold isnan
  rcases Nat.lt_trichotomy (frung b) 9218868437227405312 with h | h | h
  · rw [fin_order_self h]; simp; omega
  · rw [order_inf_self h, h]; simp
  · rw [order_nan_left h]; simp [h]

theorem order_big (b : Nat) : (Ieee.double.order (b % 9223372036854775808) 9218868437227405311 == some .gt) = isinf b := by
  unfold isinf
  have e : frung (b % 9223372036854775808) = frung b := by unfold frung; rw [Nat.mod_mod]
  have hm : Fin64 9218868437227405311 := by unfold Fin64 frung; decide
  rcases Nat.lt_trichotomy (frung b) 9218868437227405312 with h | h | h
  · have hr : b % 9223372036854775808 < 9218868437227405312 := h
    rw [order_fin (by unfold Fin64; rw [e]; exact h) hm]
    have h1 := fval_le_max hr
    have h2 : (frung b == 9218868437227405312) = false := by rw [beq_eq_false_iff_ne]; omega
    rw [h2]
    by_cases h3 : fval (b % 9223372036854775808) < fval 9218868437227405311
    · rw [if_pos h3]; rfl
    · rw [if_neg h3, if_pos (by grind)]; rfl
  · rw [order_inf_fin (by rw [e]; exact h) hm, h]
    have : fneg (b % 9223372036854775808) = false := by unfold fneg; rw [Nat.div_eq_of_lt (Nat.mod_lt _ (by omega))]; rfl
    rw [this]; rfl
  · rw [order_nan_left (by rw [e]; exact h)]
    have h2 : (frung b == 9218868437227405312) = false := by rw [beq_eq_false_iff_ne]; omega
    rw [h2]; rfl

set_option maxHeartbeats 1000000 in
theorem isNaN_any (b : Nat) (w : World) : Calls Tryd.prog 55 #[.float .f64 b] w fun e w' => e = .returned (.bool (isnan b)) ∧ w' = w := by
  have h := order_self b
  have h' : (FloatKind.f64.format.order b b != some .eq) = isnan b := h
  go_enter Tryd.func55, Tryd.ntmps55
  go_wp2
  go_ret
  refine ⟨?_, rfl⟩
  rw [← h']
  rfl

set_option maxHeartbeats 1000000 in
theorem isInf0_any (b : Nat) (w : World) (hb : b < 18446744073709551616) : Calls Tryd.prog 21 #[.float .f64 b, .int .i64 0] w fun e w' => e = .returned (.bool (isinf b)) ∧ w' = w := by
  have h' : (FloatKind.f64.format.order (b % 9223372036854775808) 9218868437227405311 == some .gt) = isinf b := order_big b
  have HB : Hid (b < 18446744073709551616) := hb
  clear hb
  go_enter Tryd.func21, Tryd.ntmps21
  go_wp2_with fail
  refine (abs_any b _ HB.out).mono ?_
  rintro e w' ⟨rfl, rfl⟩
  generalize b % 9223372036854775808 = c at *
  go_wp2
  go_ret
  refine ⟨?_, rfl⟩
  rw [← h']
  rfl

set_option maxHeartbeats 1000000 in
theorem normalize_big (r : Nat) (w : World) (h1 : 4503599627370496 ≤ r) (h2 : r < 9218868437227405312) : Calls Tryd.prog 108 #[.float .f64 r] w fun e w' => e = .returned (.tuple #[.float .f64 r, .int .i64 0]) ∧ w' = w := by
  have e1 : r % 9223372036854775808 = r := Nat.mod_eq_of_lt (by omega)
  have e2 : (FloatKind.f64.format.order r 4503599627370496 == some .lt) = false := by
    show (Ieee.double.order r 4503599627370496 == some .lt) = false
    rw [order_fin (by unfold Fin64 frung; omega) (by unfold Fin64 frung; decide), if_neg (by rw [small_iff h2]; omega)]
    split <;> rfl
  have H1 : Hid (r % 9223372036854775808 = r) := e1
  have H2 : Hid (r < 18446744073709551616) := (by omega : r < 18446744073709551616)
  clear e1 h1 h2
  go_enter Tryd.func108, Tryd.ntmps108
  go_wp2_with fail
  refine (abs_any r _ H2.out).mono ?_
  rw [H1.out]
  rintro e w' ⟨rfl, rfl⟩
  go_wp2
  go_ret2
  exact ⟨rfl, rfl⟩

set_option maxHeartbeats 1000000 in
theorem normalize_small (r L : Nat) (w : World) (h0 : r ≠ 0) (h1 : r < 4503599627370496) (hL : Nat.log2 r = L) : Calls Tryd.prog 108 #[.float .f64 r] w fun e w' => e = .returned (.tuple #[.float .f64 (L * 4503599627370496 + r * 2 ^ (52 - L)), .int .i64 (-52)]) ∧ w' = w := by
  have e1 : r % 9223372036854775808 = r := Nat.mod_eq_of_lt (by omega)
  have e2 : (FloatKind.f64.format.order r 4503599627370496 == some .lt) = true := by
    show (Ieee.double.order r 4503599627370496 == some .lt) = true
    rw [order_fin (by unfold Fin64 frung; omega) (by unfold Fin64 frung; decide), if_pos (by rw [small_iff (by omega)]; omega)]
    rfl
  have e3 : ∀ w, (binOp .mul 31 (.float .f64 r) (.float .f64 4841369599423283200)).run Tryd.prog w = .ok (.float .f64 (L * 4503599627370496 + r * 2 ^ (52 - L))) w := fun w => run_float_arith w .mul _ .f64 r 4841369599423283200 _ (mul_up r L h0 h1 hL)
  have H1 : Hid (r % 9223372036854775808 = r) := e1
  have H2 : Hid (r < 18446744073709551616) := (by omega : r < 18446744073709551616)
  clear e1 h1 h0 hL
  generalize L * 4503599627370496 + r * 2 ^ (52 - L) = y at *
  go_enter Tryd.func108, Tryd.ntmps108
  go_wp2_with fail
  refine (abs_any r _ H2.out).mono ?_
  rw [H1.out]
  rintro e w' ⟨rfl, rfl⟩
  go_wp2
  go_ret2
  exact ⟨rfl, rfl⟩

end Go.Proofs.YtmcllgoeldfgmaaDoor

/- Floats: Frexp and Ldexp. -/
namespace Go.Proofs.YtmcllgoeldfgmaaDoor
open Go.RowKit

theorem and_exp (n : Nat) (h : n < 2048) : bits .and .u64 (n : Int) 2047 = (n : Int) := by
  rw [show (2047 : Int) = ((2047 : Nat) : Int) from rfl, u64_and_nat n _ (by omega) (by omega), show (2047 : Nat) = 2 ^ 11 - 1 by decide, Nat.and_two_pow_sub_one_eq_mod, Nat.mod_eq_of_lt h]

theorem and_exp_i (n : Nat) (h : n < 2048) : bits .and .i64 (n : Int) 2047 = (n : Int) := by
  have h127 : (BitVec.ofInt 64 2047).toNat = 2 ^ 11 - 1 := by decide
  have key : (BitVec.ofInt 64 (n : Int) &&& BitVec.ofInt 64 2047).toNat = n := by
    rw [BitVec.toNat_and, BitVec.toNat_ofInt, h127, Nat.and_two_pow_sub_one_eq_mod]
    omega
  show IntKind.i64.wrap ((BitVec.ofInt 64 (n : Int) &&& BitVec.ofInt 64 2047).toNat : Nat) = (n : Int)
  rw [key, IntKind.wrap_i64]
  omega

theorem andNot_exp (r : Nat) (h : r < 9223372036854775808) : bits .andNot .u64 (r : Int) 9218868437227405312 = ((r % 4503599627370496 : Nat) : Int) := by
  rw [show (9218868437227405312 : Int) = ((9218868437227405312 : Nat) : Int) from rfl, u64_andNot_nat r _ (by omega) (by omega)]
  congr 1
  have e : (18446744073709551615 - 9218868437227405312 : Nat) = 2 ^ 63 ||| (2 ^ 52 - 1) := by decide
  rw [e, Nat.and_or_distrib_left, Nat.and_two_pow_sub_one_eq_mod]
  have e2 : r &&& 2 ^ 63 = 0 := by
    apply Nat.eq_of_testBit_eq
    intro i
    rw [Nat.testBit_and, Nat.testBit_two_pow, Nat.zero_testBit]
    by_cases hi : 63 = i
    · subst hi; rw [Nat.testBit_lt_two_pow (by omega)]; rfl
    · simp [hi]
  rw [e2, Nat.zero_or]

theorem or_exp (T u : Nat) (hT : T < 2048) (hu : u < 4503599627370496) : bits .or .u64 (u : Int) ((T * 4503599627370496 : Nat) : Int) = ((T * 4503599627370496 + u : Nat) : Int) := by
  rw [u64_or_nat u _ (by omega) (by omega)]
  congr 1
  rw [show T * 4503599627370496 = 2 ^ 52 * T by rw [Nat.mul_comm], Nat.or_comm, ← Nat.two_pow_add_eq_or_of_lt hu]

theorem zero_order (r : Nat) (h0 : r ≠ 0) (h : r < 9218868437227405312) : (FloatKind.f64.format.order r 0 == some .eq) = false := by
  show (Ieee.double.order r 0 == some .eq) = false
  have hf : Fin64 r := by unfold Fin64 frung; omega
  rw [order_fin hf (by unfold Fin64 frung; decide)]
  have e0 : fval 0 = 0 := fval_zero_iff.2 rfl
  have e1 : fval r ≠ 0 := by rw [Ne, fval_zero_iff]; unfold frung; omega
  rw [e0]
  rw [if_neg e1]
  split <;> rfl

theorem fin_flags (r : Nat) (h : r < 9218868437227405312) : isinf r = false ∧ isnan r = false := by
  have e : frung r = r := Nat.mod_eq_of_lt (by omega)
  unfold isinf isnan
  rw [e]
  exact ⟨by rw [beq_eq_false_iff_ne]; omega, by simp; omega⟩

theorem ret_fi {a : Nat} {b c : Int} (h : b = c) : Ending.returned (.tuple #[.float .f64 a, .int .i64 b]) = .returned (.tuple #[.float .f64 a, .int .i64 c]) := by rw [h]

set_option maxHeartbeats 2000000 in
theorem frexp_core (r y : Nat) (e0 : Int) (w : World) (h0 : r ≠ 0) (h : r < 9218868437227405312) (hy1 : 4503599627370496 ≤ y) (hy2 : y < 9218868437227405312) (he1 : -100 ≤ e0) (he2 : e0 ≤ 100)
    (hn : ∀ w, Calls Tryd.prog 108 #[.float .f64 r] w fun e w' => e = .returned (.tuple #[.float .f64 y, .int .i64 e0]) ∧ w' = w) :
    Calls Tryd.prog 86 #[.float .f64 r] w fun e w' => e = .returned (.tuple #[.float .f64 (1022 * 4503599627370496 + y % 4503599627370496), .int .i64 (e0 + ((y / 4503599627370496 : Nat) : Int) - 1022)]) ∧ w' = w := by
  have z := zero_order r h0 h
  obtain ⟨f1, f2⟩ := fin_flags r h
  have b1 := run_bits y
  have b2 := run_frombits (1022 * 4503599627370496 + y % 4503599627370496)
  have c1 := and_exp (y / 4503599627370496) (by omega)
  have c1' : bits .and .u64 ((y : Int) / 4503599627370496) 2047 = ((y / 4503599627370496 : Nat) : Int) := by rw [show ((y : Int) / 4503599627370496) = ((y / 4503599627370496 : Nat) : Int) by omega]; exact c1
  have c2 := andNot_exp y (by omega)
  have c3 := or_exp 1022 (y % 4503599627370496) (by omega) (Nat.mod_lt _ (by omega))
  have c3' : bits .or .u64 ((y % 4503599627370496 : Nat) : Int) 4602678819172646912 = ((1022 * 4503599627370496 + y % 4503599627370496 : Nat) : Int) := c3
  have HI : Hid (∀ w, Calls Tryd.prog 21 #[.float .f64 r, .int .i64 0] w fun e w' => e = .returned (.bool false) ∧ w' = w) := fun w => by have := isInf0_any r w (by omega); rwa [f1] at this
  have HN : Hid (∀ w, Calls Tryd.prog 55 #[.float .f64 r] w fun e w' => e = .returned (.bool false) ∧ w' = w) := fun w => by have := isNaN_any r w; rwa [f2] at this
  have HM : Hid _ := hn
  have hE : y / 4503599627370496 < 2048 := by omega
  clear hn f1 f2 c1 c3 h0 h hy1 hy2
  generalize 1022 * 4503599627370496 + y % 4503599627370496 = z1 at *
  generalize y % 4503599627370496 = u at *
  generalize hEE : y / 4503599627370496 = E at *
  clear hEE
  have hEi : (E : Int) < 2048 := by omega
  go_enter Tryd.func86, Tryd.ntmps86
  go_wp2_with (first
    | (go_at_call 21; refine (HI.out _).mono ?_; rintro e w' ⟨rfl, rfl⟩)
    | (go_at_call 55; refine (HN.out _).mono ?_; rintro e w' ⟨rfl, rfl⟩)
    | (go_at_call 108; refine (HM.out _).mono ?_; rintro e w' ⟨rfl, rfl⟩))
  go_ret2
  exact ⟨ret_fi (by omega), rfl⟩

/-- The 53 bits and the place of a finite float that is not 0, its highest bit the 53rd. -/
def bits53 (r : Nat) : Nat := if r < 4503599627370496 then r * 2 ^ (52 - Nat.log2 r) else 4503599627370496 + r % 4503599627370496
def place53 (r : Nat) : Int := if r < 4503599627370496 then -1126 + (Nat.log2 r : Int) else -1075 + ((r / 4503599627370496 : Nat) : Int)

theorem bits53_bounds (r : Nat) (h0 : r ≠ 0) : 4503599627370496 ≤ bits53 r ∧ bits53 r < 9007199254740992 := by
  unfold bits53
  split
  · rename_i h
    have a1 := Nat.log2_self_le h0
    have a2 : r < 2 ^ (Nat.log2 r + 1) := Nat.lt_log2_self
    have a3 : Nat.log2 r < 52 := (Nat.log2_lt h0).2 h
    have b1 := Nat.mul_le_mul_right (2 ^ (52 - Nat.log2 r)) a1
    have b2 := Nat.mul_lt_mul_of_pos_right a2 (Nat.two_pow_pos (52 - Nat.log2 r))
    rw [← Nat.pow_add, show Nat.log2 r + (52 - Nat.log2 r) = 52 by omega] at b1
    rw [← Nat.pow_add, show Nat.log2 r + 1 + (52 - Nat.log2 r) = 53 by omega] at b2
    exact ⟨b1, b2⟩
  · omega

theorem bits53_val (r : Nat) (h0 : r ≠ 0) : ((bits53 r : Nat) : Rat) * p2 (place53 r) = (fmag r : Nat) * p2 (fpl r) := by
  unfold bits53 place53 fmag fpl
  split
  · rename_i h
    have a3 : Nat.log2 r < 52 := (Nat.log2_lt h0).2 h
    rw [nat_mul_p2, Rat.mul_assoc, ← p2_add]
    congr 2
    omega
  · congr 2
    omega

/-- Frexp of a finite float above 0. -/
theorem frexp_any (r : Nat) (w : World) (h0 : r ≠ 0) (h : r < 9218868437227405312) :
    Calls Tryd.prog 86 #[.float .f64 r] w fun e w' => e = .returned (.tuple #[.float .f64 (1022 * 4503599627370496 + (bits53 r - 4503599627370496)), .int .i64 (place53 r + 53)]) ∧ w' = w := by
  have hb := bits53_bounds r h0
  by_cases hs : r < 4503599627370496
  · have a3 : Nat.log2 r < 52 := (Nat.log2_lt h0).2 hs
    have e1 : bits53 r = r * 2 ^ (52 - Nat.log2 r) := by unfold bits53; rw [if_pos hs]
    have e2 : place53 r = -1126 + (Nat.log2 r : Int) := by unfold place53; rw [if_pos hs]
    have hc := frexp_core r (Nat.log2 r * 4503599627370496 + r * 2 ^ (52 - Nat.log2 r)) (-52) w h0 h (by omega) (by omega) (by omega) (by omega) (fun w => normalize_small r _ w h0 hs rfl)
    rw [← e1] at hc
    rw [show (Nat.log2 r * 4503599627370496 + bits53 r) % 4503599627370496 = bits53 r - 4503599627370496 by omega, show (Nat.log2 r * 4503599627370496 + bits53 r) / 4503599627370496 = Nat.log2 r + 1 by omega] at hc
    rw [e2, show -1126 + (Nat.log2 r : Int) + 53 = -52 + ((Nat.log2 r + 1 : Nat) : Int) - 1022 by omega]
    exact hc
  · have e1 : bits53 r = 4503599627370496 + r % 4503599627370496 := by unfold bits53; rw [if_neg hs]
    have e2 : place53 r = -1075 + ((r / 4503599627370496 : Nat) : Int) := by unfold place53; rw [if_neg hs]
    have hc := frexp_core r r 0 w h0 h (by omega) h (by omega) (by omega) (fun w => normalize_big r w (by omega) h)
    rw [e1, e2, show 4503599627370496 + r % 4503599627370496 - 4503599627370496 = r % 4503599627370496 by omega, show -1075 + ((r / 4503599627370496 : Nat) : Int) + 53 = 0 + ((r / 4503599627370496 : Nat) : Int) - 1022 by omega]
    exact hc

set_option maxHeartbeats 1000000 in
theorem frexp_zero (w : World) : Calls Tryd.prog 86 #[.float .f64 0] w fun e w' => e = .returned (.tuple #[.float .f64 0, .int .i64 0]) ∧ w' = w := by
  have z : (FloatKind.f64.format.order 0 0 == some .eq) = true := by decide
  go_enter Tryd.func86, Tryd.ntmps86
  go_wp2
  go_ret2
  exact ⟨rfl, rfl⟩

set_option maxHeartbeats 1000000 in
theorem Frexp_of (a b : Nat) (c : Int) (w : World) (hf : ∀ w, Calls Tryd.prog 86 #[.float .f64 a] w fun e w' => e = .returned (.tuple #[.float .f64 b, .int .i64 c]) ∧ w' = w) :
    Calls Tryd.prog 56 #[.float .f64 a] w fun e w' => e = .returned (.tuple #[.float .f64 b, .int .i64 c]) ∧ w' = w := by
  have HF : Hid _ := hf
  clear hf
  go_enter Tryd.func56, Tryd.ntmps56
  go_wp2_with (first | (go_at_call 86; refine (HF.out _).mono ?_; rintro e w' ⟨rfl, rfl⟩))
  go_ret2
  exact ⟨rfl, rfl⟩

theorem conv_norm (u : Nat) (hu : u < 4503599627370496) : floatToIntVal .f64 (1075 * 4503599627370496 + u) .u64 = some ((4503599627370496 + u : Nat) : Int) := by
  unfold floatToIntVal
  have h : FloatKind.f64.decode (1075 * 4503599627370496 + u) = .number false (4503599627370496 + u) 0 := read_norm 1075 u (by omega) (by omega) hu
  rw [h]
  have hn : 4503599627370496 + u ≤ 9007199254740992 := by omega
  generalize 4503599627370496 + u = n at *
  have h2 : Ieee.Datum.toInt .zero (.number false n 0) = some (n : Int) := by
    simp [Ieee.Datum.toInt, Ieee.Datum.integral, Ieee.Toward.cut, Ieee.signed]
  rw [h2]
  have h3 : IntKind.u64.min = 0 := by decide
  have h4 : IntKind.u64.max = 18446744073709551615 := by decide
  simp only [h3, h4]
  rw [if_pos ⟨by omega, by omega⟩]

end Go.Proofs.YtmcllgoeldfgmaaDoor

/- The model's rounding is to the nearest, the even one between two. -/
namespace Go.Proofs.YtmcllgoeldfgmaaDoor

theorem cut_even (neg : Bool) (n d : Nat) : ∃ k, Ieee.Toward.even.cut neg n d = k ∧ 2 * (k * 2 ^ d) ≤ 2 * n + 2 ^ d ∧ 2 * n ≤ 2 * (k * 2 ^ d) + 2 ^ d ∧ (2 * (k * 2 ^ d) = 2 * n + 2 ^ d → k % 2 = 0) ∧ (2 * n = 2 * (k * 2 ^ d) + 2 ^ d → k % 2 = 0) := by
  refine ⟨_, rfl, ?_⟩
  unfold Ieee.Toward.cut
  simp only [Nat.shiftLeft_eq, Nat.one_mul]
  rcases Nat.lt_or_ge (n.log2 + 2) d with h | h
  · rw [Nat.min_eq_right (by omega)]
    have h1 : n < 2 ^ (n.log2 + 1) := Nat.lt_log2_self
    have h2 : 2 ^ (n.log2 + 2) = 2 * 2 ^ (n.log2 + 1) := by rw [Nat.pow_succ]; omega
    have h3 : 2 ^ (n.log2 + 2) ≤ 2 ^ d := Nat.pow_le_pow_right (by omega) (by omega)
    generalize hg : 2 ^ (n.log2 + 2) = g at *
    generalize 2 ^ (n.log2 + 1) = g1 at *
    generalize 2 ^ d = D at *
    have e1 : n / g = 0 := Nat.div_eq_of_lt (by omega)
    have e2 : n % g = n := Nat.mod_eq_of_lt (by omega)
    rw [e1, e2]
    have e3 : (decide (g < 2 * n) || g == 2 * n && 0 % 2 == 1) = false := by simp; omega
    rw [e3]
    simp
    omega
  · rw [Nat.min_eq_left h]
    have hg : 0 < 2 ^ d := Nat.two_pow_pos d
    generalize 2 ^ d = g at *
    have hd := Nat.div_add_mod n g
    have hm := Nat.mod_lt n hg
    generalize n / g = low at *
    generalize n % g = rest at *
    rw [Nat.mul_comm] at hd
    by_cases hmore : g < 2 * rest ∨ (g = 2 * rest ∧ low % 2 = 1)
    · have e3 : (decide (g < 2 * rest) || g == 2 * rest && low % 2 == 1) = true := by simpa using hmore
      rw [e3]
      have : (low + true.toNat) * g = low * g + g := by simp [Nat.add_mul]
      rw [this]
      generalize low * g = P at *
      refine ⟨by omega, by omega, ?_, ?_⟩
      · intro h; simp; omega
      · intro h; simp; omega
    · have e3 : (decide (g < 2 * rest) || g == 2 * rest && low % 2 == 1) = false := by
        rw [Bool.eq_false_iff]; intro h; apply hmore; simpa using h
      rw [e3]
      have : (low + false.toNat) * g = low * g := by simp
      rw [this]
      generalize low * g = P at *
      refine ⟨by omega, by omega, ?_, ?_⟩
      · intro h; simp; omega
      · intro h; simp; omega

theorem int_eq {a b : Int} {u : Rat} (hu : 0 < u) (h : (a : Rat) * u = (b : Rat) * u) : a = b :=
  Int.le_antisymm (int_le hu (le_of_same h)) (int_le hu (le_of_same h.symm))

theorem log_bounds (mag : Nat) (hm : mag ≠ 0) (place : Int) : p2 (place + (mag.log2 : Nat)) ≤ (mag : Nat) * p2 place ∧ ((mag : Nat) : Rat) * p2 place < p2 (place + (mag.log2 : Nat) + 1) := by
  have h1 : 2 ^ mag.log2 ≤ mag := Nat.log2_self_le hm
  have h2 : mag < 2 ^ (mag.log2 + 1) := Nat.lt_log2_self
  have hp := p2_pos place
  constructor
  · rw [p2_add, p2_nat, Rat.mul_comm]
    exact Rat.mul_le_mul_of_nonneg_right (Rat.natCast_le_natCast.2 h1) (Rat.le_of_lt hp)
  · rw [show place + (mag.log2 : Nat) + 1 = place + ((mag.log2 + 1 : Nat) : Int) by omega, p2_add, p2_nat, Rat.mul_comm (p2 place)]
    exact Rat.mul_lt_mul_of_pos_right (Rat.natCast_lt_natCast.2 h2) hp

theorem nearest_near (neg : Bool) (mag : Nat) (place : Int) (hm : mag ≠ 0) : ∃ r, Ieee.double.nearest neg mag place = Ieee.double.word neg r ∧ Near ((mag : Nat) * p2 place) r := by
  unfold Ieee.Format.nearest
  rw [if_neg hm]
  simp only [d_lp, d_bin, d_inf, show Ieee.double.fractionBits = 52 from rfl]
  obtain ⟨last, hlast⟩ : ∃ l : Int, l = max (place + (mag.log2 : Nat) - ((52 : Nat) : Int)) (-1074) := ⟨_, rfl⟩
  rw [← hlast]
  obtain ⟨k, hk, c1, c2, c3, c4⟩ := cut_even neg (mag <<< (place - last).toNat) (last - place).toNat
  rw [hk]
  refine ⟨_, rfl, Or.inr ⟨?_, (last + 1074).toNat, k, ?_, ?_, by rw [show last - -1074 = last + 1074 by omega]⟩⟩
  · exact Rat.mul_pos (Rat.natCast_pos.2 (by omega)) (p2_pos _)
  · have hb := log_bounds mag hm place
    have eT : (((last + 1074).toNat : Nat) : Int) - 1075 = last - 1 := by omega
    rw [Last, eT]
    have x1 : ((9007199254740992 : Int) : Rat) * p2 (last - 1) = p2 (last + 52) := by
      rw [show last + 52 = (last - 1) + ((53 : Nat) : Int) by omega, p2_add, p2_nat, Rat.mul_comm]; rfl
    have x2 : ((18014398509481984 : Int) : Rat) * p2 (last - 1) = p2 (last + 53) := by
      rw [show last + 53 = (last - 1) + ((54 : Nat) : Int) by omega, p2_add, p2_nat, Rat.mul_comm]; rfl
    rw [x1, x2]
    constructor
    · by_cases h : last = -1074
      · left; omega
      · right
        have := p2_mono (a := last + 52) (b := place + (mag.log2 : Nat)) (by omega)
        exact Rat.le_trans this hb.1
    · exact lt_of_lt_le hb.2 (p2_mono (by omega))
  · have eT : (((last + 1074).toNat : Nat) : Int) - 1075 = last - 1 := by omega
    rw [eT]
    generalize hd : (last - place).toNat = d at *
    generalize hn : mag <<< (place - last).toNat = n at *
    rw [Nat.shiftLeft_eq] at hn
    have hv := p2_pos (last - (d : Nat) - 1)
    have e1 : ((mag : Nat) : Rat) * p2 place = ((2 * (n : Int) : Int) : Rat) * p2 (last - (d : Nat) - 1) := by
      have a1 : ((2 * (n : Int) : Int) : Rat) = 2 * ((n : Nat) : Rat) := by rw [Rat.intCast_mul]; rfl
      have a2 : p2 (last - (d : Nat)) = 2 * p2 (last - (d : Nat) - 1) := by
        have := p2_add 1 (last - (d : Nat) - 1)
        rwa [p2_one, show 1 + (last - (d : Nat) - 1) = last - (d : Nat) by omega] at this
      have a3 : ((mag : Nat) : Rat) * p2 place = ((n : Nat) : Rat) * p2 (last - (d : Nat)) := by
        rw [← hn, nat_mul_p2, Rat.mul_assoc, ← p2_add]
        congr 2; omega
      rw [a3, a1, a2]
      generalize p2 (last - (d : Nat) - 1) = v
      grind
    have e2 : ∀ z : Int, (z : Rat) * p2 (last - 1) = ((z * ((2 ^ d : Nat) : Int) : Int) : Rat) * p2 (last - (d : Nat) - 1) := fun z => by
      rw [show last - 1 = (d : Nat) + (last - (d : Nat) - 1) by omega, p2_add, p2_nat, Rat.intCast_mul, Rat.mul_assoc]; rfl
    rw [e1]
    unfold Half
    rw [e2, e2]
    have y1 : (2 * (k : Int) - 1) * ((2 ^ d : Nat) : Int) = 2 * ((k * 2 ^ d : Nat) : Int) - ((2 ^ d : Nat) : Int) := by rw [Int.natCast_mul]; grind
    have y2 : (2 * (k : Int) + 1) * ((2 ^ d : Nat) : Int) = 2 * ((k * 2 ^ d : Nat) : Int) + ((2 ^ d : Nat) : Int) := by rw [Int.natCast_mul]; grind
    rw [y1, y2]
    generalize k * 2 ^ d = P at *
    generalize 2 ^ d = D at *
    refine ⟨le_int hv (by omega), le_int hv (by omega), ?_, ?_⟩
    · intro h
      have := int_eq hv h
      exact c3 (by omega)
    · intro h
      have := int_eq hv h
      exact c4 (by omega)

end Go.Proofs.YtmcllgoeldfgmaaDoor
