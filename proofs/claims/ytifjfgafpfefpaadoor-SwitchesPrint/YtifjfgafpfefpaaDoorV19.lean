/- Own texts, put together: Zm Zn Zo Zp. -/
import Derived.Test.YtifjfgafpfefpaaDoorV17
import Derived.Deep.DrawnRows
import Derived.BigRegion
namespace Go.Proofs.YtifjfgafpfefpaaDoor
/- The reference's Add of whatever numbers; Sub, Cmp, Abs. -/
section
open Go.RowKit
def Fit (q : Rat) : Prop := Bd 100000 (-100000) q
end

/- The reference's Mul: what stands while it goes. -/
section
open Go.RowKit
theorem v24_set {zs : List Nat} {j : Nat} (h : j < zs.length) (x : Nat) : v24 (zs.set j x) + 2 ^ (24 * j) * zs.getD j 0 = v24 zs + 2 ^ (24 * j) * x := by
 induction zs generalizing j with
 | nil => simp at h
 | cons a r ih =>
   cases j with
   | zero => simp [v24]; omega
   | succ j =>
     simp only [List.set_cons_succ, v24, List.getD_cons_succ]
     have := ih (j := j) (by simp at h; omega)
     rw [p24]
     grind
theorem v24_rep (n : Nat) : v24 (List.replicate n 0) = 0 := by
 induction n with
 | zero => rfl
 | succ n ih => rw [List.replicate_succ, v24, ih]
theorem set_small {zs : List Nat} {j x : Nat} (h : ∀ d ∈ zs, d < 16777216) (hx : x < 16777216) : ∀ d ∈ zs.set j x, d < 16777216 := by
 intro d hd
 rcases List.mem_or_eq_of_mem_set hd with hd | rfl
 · exact h d hd
 · exact hx
theorem getD_small {zs : List Nat} (h : ∀ d ∈ zs, d < 16777216) (j : Nat) : zs.getD j 0 < 16777216 := by
 by_cases hj : j < zs.length
 · rw [show zs.getD j 0 = zs[j] by simp [List.getD, hj]]
   exact h _ (List.getElem_mem hj)
 · simp [List.getD, List.getElem?_eq_none (Nat.le_of_not_lt hj)]
theorem set_getD {zs : List Nat} {j k x : Nat} (h : j ≠ k) : (zs.set j x).getD k 0 = zs.getD k 0 := by
 simp only [List.getD, List.getElem?_set]; rw [if_neg h]
structure MulO (ds1 ds2 zs : List Nat) (i : Nat) : Prop where
 len : zs.length = ds1.length + ds2.length
 small : ∀ d ∈ zs, d < 16777216
 val : v24 zs = v24 (ds1.take i) * v24 ds2
 top : ∀ j, i + ds2.length ≤ j → zs.getD j 0 = 0
structure MulI (ds1 ds2 zs0 zs : List Nat) (i k c : Nat) : Prop where
 len : zs.length = ds1.length + ds2.length
 small : ∀ d ∈ zs, d < 16777216
 val : v24 zs + 2 ^ (24 * (i + k)) * c = v24 zs0 + 2 ^ (24 * i) * (ds1.getD i 0 * v24 (ds2.take k))
 rest : ∀ j, i + k ≤ j → zs.getD j 0 = zs0.getD j 0
 carry : c < 16777216
theorem MulO.start (ds1 ds2 : List Nat) : MulO ds1 ds2 (List.replicate (ds1.length + ds2.length) 0) 0 :=
 ⟨by simp, fun d hd => by have := List.eq_of_mem_replicate hd; omega, by simp [v24_rep, v24], fun j _ => by rw [List.getD, List.getElem?_replicate]; split <;> rfl⟩
theorem MulO.begin {ds1 ds2 zs : List Nat} {i : Nat} (h : MulO ds1 ds2 zs i) : MulI ds1 ds2 zs zs i 0 0 :=
 ⟨h.len, h.small, by simp [v24], fun j _ => rfl, by omega⟩
theorem MulI.step {ds1 ds2 zs0 zs : List Nat} {i k c v : Nat} (h : MulI ds1 ds2 zs0 zs i k c) (hi : i < ds1.length) (hk : k < ds2.length) (s1 : ∀ d ∈ ds1, d < 16777216) (s2 : ∀ d ∈ ds2, d < 16777216) (hv : v = zs.getD (i + k) 0 + ds1.getD i 0 * ds2.getD k 0 + c) :
   MulI ds1 ds2 zs0 (zs.set (i + k) (v % 16777216)) i (k + 1) (v / 16777216) := by
 have hl : i + k < zs.length := by rw [h.len]; omega
 have hx := getD_small h.small (i + k)
 have ha := getD_small s1 i
 have hb := getD_small s2 k
 have hc := h.carry
 refine ⟨by simp [h.len], set_small h.small (Nat.mod_lt _ (by omega)), ?_, fun j hj => ?_, ?_⟩
 · have e1 := v24_set hl (v % 16777216)
   have e2 := h.val
   have e3 := Nat.mod_add_div v 16777216
   rw [v24_take_succ, show i + (k + 1) = i + k + 1 by omega, p24]
   have e4 : 2 ^ (24 * (i + k)) = 2 ^ (24 * i) * 2 ^ (24 * k) := by rw [← Nat.pow_add]; congr 1; omega
   generalize v % 16777216 = r at *
   generalize v / 16777216 = q at *
   generalize zs.getD (i + k) 0 = x at *
   generalize ds1.getD i 0 = a at *
   generalize ds2.getD k 0 = b at *
   generalize v24 (zs.set (i + k) r) = V at *
   rw [e4] at e1 e2 ⊢
   generalize 2 ^ (24 * i) = P at *
   generalize 2 ^ (24 * k) = R at *
   subst hv
   grind
 · rw [set_getD (by omega)]; exact h.rest j (by omega)
 · rw [Nat.div_lt_iff_lt_mul (by omega), hv]
   have : ds1.getD i 0 * ds2.getD k 0 ≤ 16777215 * 16777215 := Nat.mul_le_mul (by omega) (by omega)
   omega
theorem MulI.done {ds1 ds2 zs0 zs : List Nat} {i c : Nat} (h : MulI ds1 ds2 zs0 zs i ds2.length c) (h0 : MulO ds1 ds2 zs0 i) (hi : i < ds1.length) : zs.getD (i + ds2.length) 0 = 0 ∧ MulO ds1 ds2 (zs.set (i + ds2.length) c) (i + 1) := by
 have hl : i + ds2.length < zs.length := by rw [h.len]; omega
 have hz : zs.getD (i + ds2.length) 0 = 0 := by rw [h.rest _ (Nat.le_refl _)]; exact h0.top _ (Nat.le_refl _)
 refine ⟨hz, by simp [h.len], set_small h.small h.carry, ?_, fun j hj => ?_⟩
 · have e1 := v24_set hl c
   rw [hz] at e1
   have e2 := h.val
   rw [List.take_of_length_le (Nat.le_refl _)] at e2
   rw [v24_take_succ, h0.val] at *
   grind
 · rw [set_getD (by omega), h.rest j (by omega)]; exact h0.top j (by omega)
structure MulW (w : World) (O R : Nat) (S1 S2 SS E1 E2 : Int) (sv1 sv2 : Value) (zs : List Nat) (W : World) : Prop where
 a : BoxN W w.heap.size S1 sv1 E1
 b : BoxN W (w.heap.size + 1) S2 sv2 E2
 r : BoxN W (w.heap.size + 2) 0 (.slice none 0 0) 0
 o : BoxN W O SS (.slice (some ⟨R, 0, none⟩) zs.length zs.length) (E1 + E2)
 row : W.ownsRow R 2 1 (.slice (some ⟨R, 0, none⟩) zs.length zs.length) zs.length (i64s zs)
 bel : Below w.heap.size w W
 o1 : w.heap.size + 3 ≤ O
 o2 : w.heap.size + 3 ≤ R
 o3 : O ≠ R
theorem MulW.wrote {w W : World} {O R k d : Nat} {S1 S2 SS E1 E2 x : Int} {sv1 sv2 : Value} {zs : List Nat} (h : MulW w O R S1 S2 SS E1 E2 sv1 sv2 zs W) (hk : k < zs.length) (hx : x = (d : Nat)) : MulW w O R S1 S2 SS E1 E2 sv1 sv2 (zs.set k d) (W.setCell ⟨R, k, none⟩ (.int .i64 x)) := by
 subst hx
 have h1 := h.o1
 have h2 := h.o2
 refine ⟨h.a.other (by simp; omega) _, h.b.other (by simp; omega) _, h.r.other (by simp; omega) _, ?_, ?_, h.bel.setCell (by simp; omega) _, h1, h2, h.o3⟩
 · have := h.o.other (a := ⟨R, k, none⟩) h.o3 (.int .i64 (d : Nat))
   simpa using this
 · have := own_set h.row k d hk
   simpa using this
theorem MulW.drew {w W : World} {O R : Nat} {S1 S2 SS E1 E2 : Int} {sv1 sv2 : Value} {zs : List Nat} (h : MulW w O R S1 S2 SS E1 E2 sv1 sv2 zs W) : MulW w O R S1 S2 SS E1 E2 sv1 sv2 zs W.drew := ⟨h.a, h.b, h.r, h.o, h.row, h.bel.drew, h.o1, h.o2, h.o3⟩
set_option maxRecDepth 100000 in
theorem make64 (n : Nat) (hn : n ≤ 100000) (W : World) : (Instr.makeSlice 74 (.int .i64 (n : Int)) (.int .i64 (n : Int))).run Tryd.prog W = .ok (.slice (some ⟨W.heap.size, 0, none⟩) n n) (W.alloc (.cells (i64s (List.replicate n 0)).toArray 2)) := by
 obtain ⟨i0, hi0, hz0, hz1, hz2⟩ := info_parts info64
 have h := run_make (P := Tryd.prog) W 74 2 i0 _ Tryd.underlying74 hi0 hz0 .i64 .i64 n n (by omega) (Int.le_refl _) (by rw [hz2]; omega) (by omega)
 rw [h]
 simp only [Int.toNat_natCast]
 congr 3
 apply Array.toList_inj.1
 rw [hz1, Nat.mul_one, show (Value.int IntKind.i64 0).cells = #[Value.int IntKind.i64 0] from rfl, toList_madeCells_one]
 simp [i64s]
theorem own_made {W : World} {R n : Nat} (h : W.heap[R]? = some (.cells (i64s (List.replicate n 0)).toArray 2 (0, 0))) (hn : n ≤ 100000) : W.ownsRow R 2 1 (.slice (some ⟨R, 0, none⟩) (List.replicate n 0).length (List.replicate n 0).length) (List.replicate n 0).length (i64s (List.replicate n 0)) := by
 refine ⟨by simp [i64s], Or.inr ⟨R, _, _, rfl, Nat.le_refl _, h, Nat.le_refl _, by unfold maxLen; simp; omega, by simp [i64s], ?_⟩⟩
 simp only [Nat.mul_one]
 rw [List.take_of_length_le (by simp [i64s])]
end

/- The reference's Mul: the walk. -/
section
open Go.RowKit
attribute [local go_sem ↓] Go.wp_at_zero Go.wp_at_succ
theorem boxes5 (w : World) (a b c d e : Obj) : let W := ((((w.alloc a).alloc b).alloc c).alloc d).alloc e
   W.heap[w.heap.size]? = some a ∧ W.heap[w.heap.size + 1]? = some b ∧ W.heap[w.heap.size + 2]? = some c ∧ W.heap[w.heap.size + 3]? = some d ∧ W.heap[w.heap.size + 4]? = some e ∧ Below w.heap.size w W := by
 have h3 := boxes3 w a b c
 have s3 : (((w.alloc a).alloc b).alloc c).heap.size = w.heap.size + 3 := by simp
 have h4 := old_box (((w.alloc a).alloc b).alloc c) d e
 have h5 := new_box (((w.alloc a).alloc b).alloc c) d e
 rw [s3] at h4 h5
 have hk : ∀ k, k < w.heap.size + 3 → (((((w.alloc a).alloc b).alloc c).alloc d).alloc e).heap[k]? = (((w.alloc a).alloc b).alloc c).heap[k]? := fun k hk => by
   rw [Below.heap_alloc _ _ _ (by simp; omega), Below.heap_alloc _ _ _ (by simp; omega)]
 refine ⟨?_, ?_, ?_, h4, h5, ?_⟩
 · rw [hk _ (by omega)]; exact h3.1
 · rw [hk _ (by omega)]; exact h3.2.1
 · rw [hk _ (by omega)]; exact h3.2.2
 · exact ((below3 w a b c).alloc (by simp; omega) _).alloc (by simp; omega) _
set_option maxRecDepth 100000 in
set_option maxHeartbeats 8000000 in
theorem refMul_walk (g1 o1 g2 o2 c1 c2 : Nat) (S1 S2 E1 E2 : Int) (ds1 ds2 : List Nat) (w : World) (hd1 : Dig w (.agg #[.int .i64 S1, .slice (some ⟨g1, o1, none⟩) ds1.length c1, .int .i64 E1]) S1 ds1 E1) (hd2 : Dig w (.agg #[.int .i64 S2, .slice (some ⟨g2, o2, none⟩) ds2.length c2, .int .i64 E2]) S2 ds2 E2)
   (hS1 : S1 = 1 ∨ S1 = -1) (hS2 : S2 = 1 ∨ S2 = -1) (hp : -10000 ≤ E1) (hq : E1 + (ds1.length : Int) ≤ 10000) (hp' : -10000 ≤ E2) (hq' : E2 + (ds2.length : Int) ≤ 10000)
   (k1 : ∀ k, k < ds1.length → w.cell? ⟨g1, o1 + k, none⟩ = some (.int .i64 (ds1.getD k 0 : Nat))) (k2 : ∀ k, k < ds2.length → w.cell? ⟨g2, o2 + k, none⟩ = some (.int .i64 (ds2.getD k 0 : Nat))) :
   Calls Tryd.prog 39 #[.agg #[.int .i64 S1, .slice (some ⟨g1, o1, none⟩) ds1.length c1, .int .i64 E1], .agg #[.int .i64 S2, .slice (some ⟨g2, o2, none⟩) ds2.length c2, .int .i64 E2]] w fun e w' => RfR w w' ((S1 : Rat) * mag ds1 E1 * ((S2 : Rat) * mag ds2 E2)) e := by
 have K1 : Hid (∀ k, k < ds1.length → w.cell? ⟨g1, o1 + k, none⟩ = some (.int .i64 (ds1.getD k 0 : Nat))) := k1
 have K2 : Hid (∀ k, k < ds2.length → w.cell? ⟨g2, o2 + k, none⟩ = some (.int .i64 (ds2.getD k 0 : Nat))) := k2
 have M1 : Hid (∀ d ∈ ds1, d < 16777216) := hd1.small
 have M2 : Hid (∀ d ∈ ds2, d < 16777216) := hd2.small
 have y1 : (S1 == 0) = false := by simp; omega
 have y2 : (S2 == 0) = false := by simp; omega
 have l1 : (ds1.length : Int) ≤ 20000 := by omega
 have l2 : (ds2.length : Int) ≤ 20000 := by omega
 obtain ⟨SS, hSS⟩ : ∃ s, Hid (S1 * S2 = s) := ⟨_, rfl⟩
 have hSe : S1 * S2 = SS := hSS.out
 have hSb : SS = 1 ∨ SS = -1 := by rw [← hSe]; rcases hS1 with rfl | rfl <;> rcases hS2 with rfl | rfl <;> simp
 have hsw : IntKind.i64.wrap SS = SS := wrapE _ (by omega) (by omega)
 have HSB : Hid (SS = 1 ∨ SS = -1) := hSb
 have hlw : IntKind.i64.wrap ((ds1.length : Int) + (ds2.length : Int)) = (ds1.length : Int) + (ds2.length : Int) := wrapE _ (by omega) (by omega)
 have hEw : IntKind.i64.wrap (E1 + E2) = E1 + E2 := wrapE _ (by omega) (by omega)
 obtain ⟨ZS, hZS⟩ : ∃ zs, Hid ((i64s (List.replicate (ds1.length + ds2.length) 0)).toArray = zs) := ⟨_, rfl⟩
 have hmake : ∀ W, (Instr.makeSlice 74 (.int .i64 ((ds1.length : Int) + (ds2.length : Int))) (.int .i64 ((ds1.length : Int) + (ds2.length : Int)))).run Tryd.prog W = .ok (.slice (some ⟨W.heap.size, 0, none⟩) (ds1.length + ds2.length) (ds1.length + ds2.length)) (W.alloc (.cells ZS 2)) := by
   intro W
   have := make64 (ds1.length + ds2.length) (by omega) W
   rw [hZS.out] at this
   simpa using this
 have HB0 : Hid (Below w.heap.size w (((w.alloc (.cells #[.int .i64 S1, .slice (some ⟨g1, o1, none⟩) ds1.length c1, .int .i64 E1] 76)).alloc (.cells #[.int .i64 S2, .slice (some ⟨g2, o2, none⟩) ds2.length c2, .int .i64 E2] 76)).alloc (.cells #[.int .i64 0, .slice none 0 0, .int .i64 0] 76))) := below3 _ _ _ _
 clear hd1 hd2 hS1 hS2 hSb k1 k2
 go_enter Tryd.func39, Tryd.ntmps39
 go_wp2
 go_region_held3 (fun W => W.cell? ⟨w.heap.size, 0, none⟩ = some (.int .i64 S1) ∧ W.cell? ⟨w.heap.size, 1, none⟩ = some (.slice (some ⟨g1, o1, none⟩) ds1.length c1) ∧ W.cell? ⟨w.heap.size, 2, none⟩ = some (.int .i64 E1) ∧ W.cell? ⟨w.heap.size + 1, 0, none⟩ = some (.int .i64 S2) ∧ W.cell? ⟨w.heap.size + 1, 1, none⟩ = some (.slice (some ⟨g2, o2, none⟩) ds2.length c2) ∧ W.cell? ⟨w.heap.size + 1, 2, none⟩ = some (.int .i64 E2))
   (first
     | assumption
     | exact ⟨by go_simp, by go_simp, by go_simp, by go_simp, by go_simp, by go_simp⟩)
   (fail)
 · go_wp2
   go_loopw [6] (fun i wr => ∃ (k : Nat) (zs : List Nat), i = .int .i64 (k : Nat) ∧ k ≤ ds1.length ∧ Hid (MulO ds1 ds2 zs k) ∧ Hid (MulW w (w.heap.size + 4) (w.heap.size + 3) S1 S2 SS E1 E2 (.slice (some ⟨g1, o1, none⟩) ds1.length c1) (.slice (some ⟨g2, o2, none⟩) ds2.length c2) zs wr)) (fun i _ => ds1.length - (intOf i).toNat)
   case atStart =>
     refine ⟨0, List.replicate (ds1.length + ds2.length) 0, rfl, by omega, MulO.start _ _, MulW.drew ⟨(boxes5 _ _ _ _ _ _).1, (boxes5 _ _ _ _ _ _).2.1, (boxes5 _ _ _ _ _ _).2.2.1, ?_, own_made ?_ (by omega), (boxes5 _ _ _ _ _ _).2.2.2.2.2, by omega, by omega, by omega⟩⟩
     · have := (boxes5 w (.cells #[.int .i64 S1, .slice (some ⟨g1, o1, none⟩) ds1.length c1, .int .i64 E1] 76) (.cells #[.int .i64 S2, .slice (some ⟨g2, o2, none⟩) ds2.length c2, .int .i64 E2] 76) (.cells #[.int .i64 0, .slice none 0 0, .int .i64 0] 76) (.cells ZS 2) (.cells #[.int .i64 SS, .slice (some ⟨w.heap.size + 1 + 1 + 1, 0, none⟩) (ds1.length + ds2.length) (ds1.length + ds2.length), .int .i64 (E1 + E2)] 76)).2.2.2.2.1
       simpa [BoxN] using this
     · rw [hZS.out]; exact (boxes5 _ _ _ _ _ _).2.2.2.1
   case round =>
     obtain ⟨k, zs, rfl, hk, hM, hW⟩ := hrel
     obtain ⟨x0, x1, x2, _, _⟩ := hW.out.a.cells
     obtain ⟨y0, y1', y2', _, _⟩ := hW.out.b.cells
     obtain ⟨z0, z1, z2, _, _⟩ := hW.out.o.cells
     have hzl := hM.out.len
     rw [hzl] at z1
     clear hzl
     by_cases hlt : k < ds1.length
     · have hlt' : (k : Int) < (ds1.length : Int) := by omega
       have hk0 : (0 : Int) ≤ (k : Int) := by omega
       go_wp2
       clear x0 x1 x2 y0 y1' y2' z0 z1 z2
       go_loopw [7, 8] (fun c j wr' => ∃ (cc jj : Nat) (zs' : List Nat), c = .int .i64 (cc : Nat) ∧ j = .int .i64 (jj : Nat) ∧ jj ≤ ds2.length ∧ cc < 16777216 ∧ Hid (MulI ds1 ds2 zs zs' k jj cc) ∧ Hid (MulW w (w.heap.size + 4) (w.heap.size + 3) S1 S2 SS E1 E2 (.slice (some ⟨g1, o1, none⟩) ds1.length c1) (.slice (some ⟨g2, o2, none⟩) ds2.length c2) zs' wr')) (fun _ j _ => ds2.length - (intOf j).toNat)
       case atStart => exact ⟨0, 0, zs, rfl, rfl, by omega, by omega, hM.out.begin, hW.out⟩
       case round =>
         clear hW
         obtain ⟨cc, jj, zs', rfl, rfl, hj, hcc, hI, hW⟩ := hrel
         obtain ⟨_, x1, _, _, _⟩ := hW.out.a.cells
         obtain ⟨_, y1', _, _, _⟩ := hW.out.b.cells
         obtain ⟨_, z1, _, _, _⟩ := hW.out.o.cells
         have hzl : zs'.length = ds1.length + ds2.length := hI.out.len
         have HZL : Hid (zs'.length = ds1.length + ds2.length) := hzl
         rw [hzl] at z1
         clear hzl
         by_cases hlt2 : jj < ds2.length
         · have hlt2' : (jj : Int) < (ds2.length : Int) := by omega
           have hj0 : (0 : Int) ≤ (jj : Int) := by omega
           have hkj0 : (0 : Int) ≤ (k : Int) + (jj : Int) := by omega
           have hkj : (k : Int) + (jj : Int) < (ds1.length : Int) + (ds2.length : Int) := by omega
           have hwkj : IntKind.i64.wrap ((k : Int) + (jj : Int)) = (k : Int) + (jj : Int) := wrapE _ (by omega) (by omega)
           have htn : ((k : Int) + (jj : Int)).toNat = k + jj := by omega
           have r1 : wr.cell? ⟨g1, o1 + k, none⟩ = some (.int .i64 (ds1.getD k 0 : Nat)) := box_cell hW.out.bel (K1.out k hlt)
           have r2 : wr.cell? ⟨g2, o2 + jj, none⟩ = some (.int .i64 (ds2.getD jj 0 : Nat)) := box_cell hW.out.bel (K2.out jj hlt2)
           have r3 : wr.cell? ⟨(w.heap.size + 3), k + jj, none⟩ = some (.int .i64 (zs'.getD (k + jj) 0 : Nat)) := own_cell hW.out.row (k + jj) (by have := HZL.out; omega)
           have rf := own_frozen hW.out.row (k + jj)
           obtain ⟨d, hd⟩ : ∃ d : Nat, Hid (ds1.getD k 0 = d) := ⟨_, rfl⟩
           obtain ⟨b, hb⟩ : ∃ b : Nat, Hid (ds2.getD jj 0 = b) := ⟨_, rfl⟩
           obtain ⟨x, hx⟩ : ∃ x : Nat, Hid (zs'.getD (k + jj) 0 = x) := ⟨_, rfl⟩
           rw [hd.out] at r1
           rw [hb.out] at r2
           rw [hx.out] at r3
           have hdl : d < 16777216 := by rw [← hd.out]; exact getD_small M1.out _
           have hbl : b < 16777216 := by rw [← hb.out]; exact getD_small M2.out _
           have hxl : x < 16777216 := by rw [← hx.out]; exact getD_small hI.out.small _
           obtain ⟨p, hpp⟩ : ∃ p : Nat, Hid (d * b = p) := ⟨_, rfl⟩
           have hpI : (d : Int) * (b : Int) = (p : Int) := by rw [← hpp.out]; simp
           have hpl : (p : Int) ≤ 281474943156225 := by
             have : d * b ≤ 16777215 * 16777215 := Nat.mul_le_mul (by omega) (by omega)
             rw [hpp.out] at this
             omega
           have wp1 : IntKind.i64.wrap (p : Int) = (p : Int) := wrapE _ (by omega) (by omega)
           have wp2' : IntKind.i64.wrap ((x : Int) + (p : Int)) = (x : Int) + (p : Int) := wrapE _ (by omega) (by omega)
           have wp3 : IntKind.i64.wrap ((x : Int) + (p : Int) + (cc : Int)) = (x : Int) + (p : Int) + (cc : Int) := wrapE _ (by omega) (by omega)
           go_wp2
           go_region_held3 (fun W => W.cell? ⟨w.heap.size, 1, none⟩ = some (.slice (some ⟨g1, o1, none⟩) ds1.length c1) ∧ W.cell? ⟨w.heap.size + 1, 1, none⟩ = some (.slice (some ⟨g2, o2, none⟩) ds2.length c2) ∧ W.cell? ⟨(w.heap.size + 3), k + jj, none⟩ = some (.int .i64 (x : Nat)) ∧ W.cell? ⟨(w.heap.size + 4), 1, none⟩ = some (.slice (some ⟨(w.heap.size + 3), 0, none⟩) (ds1.length + ds2.length) (ds1.length + ds2.length)) ∧ W.cell? ⟨g1, o1 + k, none⟩ = some (.int .i64 (d : Nat)) ∧ W.cell? ⟨g2, o2 + jj, none⟩ = some (.int .i64 (b : Nat)))
             (first
               | assumption
               | exact ⟨by go_simp, by go_simp, by go_simp, by go_simp, by go_simp, by go_simp⟩)
             (fail)
           go_wp2
           have hst := hI.out.step hlt hlt2 M1.out M2.out (v := x + p + cc) (by rw [hx.out, hd.out, hb.out, hpp.out])
           have hwr := hW.out.drew.wrote (k := k + jj) (d := (x + p + cc) % 16777216) (x := ((x : Int) + (p : Int) + (cc : Int)) % 16777216) (by have := HZL.out; omega) (by omega)
           exact ⟨⟨(x + p + cc) / 16777216, jj + 1, _, by go_num, by go_num, by omega, hst.carry, hst, hwr⟩, by simp [intOf]; omega⟩
         · obtain rfl : jj = ds2.length := by omega
           have hltb : decide ((ds2.length : Int) < (ds2.length : Int)) = false := decide_eq_false (by omega)
           obtain ⟨hz0', hMO⟩ := hI.out.done hM.out hlt
           have r3 : wr.cell? ⟨(w.heap.size + 3), k + ds2.length, none⟩ = some (.int .i64 0) := by
             have := own_cell hW.out.row (k + ds2.length) (by have := HZL.out; omega)
             rw [hz0'] at this; exact this
           have rf := own_frozen hW.out.row (k + ds2.length)
           have hkj0 : (0 : Int) ≤ (k : Int) + (ds2.length : Int) := by omega
           have hkj : (k : Int) + (ds2.length : Int) < (ds1.length : Int) + (ds2.length : Int) := by omega
           have hwkj : IntKind.i64.wrap ((k : Int) + (ds2.length : Int)) = (k : Int) + (ds2.length : Int) := wrapE _ (by omega) (by omega)
           have htn : ((k : Int) + (ds2.length : Int)).toNat = k + ds2.length := by omega
           have wcc : IntKind.i64.wrap (cc : Int) = (cc : Int) := wrapE _ (by omega) (by omega)
           have HMO : Hid _ := hMO
           clear hz0' hMO
           go_wp2
           go_region
           go_wp2
           have hwr := hW.out.drew.wrote (k := k + ds2.length) (d := cc) (x := (cc : Int)) (by have := HZL.out; omega) rfl
           exact ⟨⟨k + 1, _, by go_num, by omega, HMO.out, hwr⟩, by simp [intOf]; omega⟩
     · obtain rfl : k = ds1.length := by omega
       have hltb : decide ((ds1.length : Int) < (ds1.length : Int)) = false := decide_eq_false (by omega)
       have HZL : Hid (zs.length = ds1.length + ds2.length) := hM.out.len
       have HR := hW.out.row
       rw [HZL.out] at HR
       go_wp2_with fail
       refine (trim_any _ SS (E1 + E2) zs _ (by have := own_dig (S := SS) (E := E1 + E2) hW.out.row hM.out.small (by have := HZL.out; omega) (by omega) (by omega); rw [HZL.out] at this; exact this) (by have := HZL.out; omega)).mono ?_
       rintro e w2 hT
       obtain ⟨v9, rfl, hrf, hb9⟩ := trim_rf HSB.out hT
       have hB : BoxN w2 (w.heap.size + 2) 0 (.slice none 0 0) 0 := hW.out.r.block (hb9.block _ hW.out.r.cells.2.2.2.2)
       have hO : Hid (OtherRow w2 (w.heap.size + 2)) := other_box hB
       obtain ⟨t0, t1', t2', tf, tl⟩ := hB.cells
       have HB : Hid (Below w.heap.size w w2) := hW.out.bel.trans (hb9.mono hW.out.bel.size)
       have HV : Hid (Rf w2 v9 ((S1 : Rat) * mag ds1 E1 * ((S2 : Rat) * mag ds2 E2))) := by
         have hv := hM.out.val
         rw [List.take_of_length_le (Nat.le_refl _)] at hv
         have e : (SS : Rat) * mag zs (E1 + E2) = (S1 : Rat) * mag ds1 E1 * ((S2 : Rat) * mag ds2 E2) := by
           unfold mag
           rw [hv, ← hSS.out, show 24 * (E1 + E2) = 24 * E1 + 24 * E2 by omega, p2_add, Rat.natCast_mul, Rat.intCast_mul]
           grind
         rw [e] at hrf
         exact hrf
       obtain ⟨S9, ds9, E9, hd9, _⟩ := HV.out
       obtain ⟨a9, c9, rfl, _⟩ := hd9.form
       clear hb9 hT hrf hB hW hd9 HR x0 x1 x2 y0 y1' y2' z0 z1 z2
       go_wp2
       refine bodyPost_ret (v := .agg #[.int .i64 S9, .slice a9 ds9.length c9, .int .i64 E9]) (by simp [results, Tryd.results39, go_sem, t0, t1', t2']) rfl ?_
       refine ⟨_, rfl, HV.out.boxed hO.out _ _ _, ?_⟩
       repeat (first | exact HB.out | refine Below.drew ?_ | refine Below.setCell ?_ (by show w.heap.size ≤ w.heap.size + 2; omega) _)
 · go_wp2
   go_loopw [6] (fun i wr => ∃ (k : Nat) (zs : List Nat), i = .int .i64 (k : Nat) ∧ k ≤ ds1.length ∧ Hid (MulO ds1 ds2 zs k) ∧ Hid (MulW w (w.heap.size + 3) (w.heap.size + 4) S1 S2 SS E1 E2 (.slice (some ⟨g1, o1, none⟩) ds1.length c1) (.slice (some ⟨g2, o2, none⟩) ds2.length c2) zs wr)) (fun i _ => ds1.length - (intOf i).toNat)
   case atStart =>
     refine ⟨0, List.replicate (ds1.length + ds2.length) 0, rfl, by omega, MulO.start _ _, MulW.drew ⟨(boxes5 _ _ _ _ _ _).1, (boxes5 _ _ _ _ _ _).2.1, (boxes5 _ _ _ _ _ _).2.2.1, ?_, own_made ?_ (by omega), (boxes5 _ _ _ _ _ _).2.2.2.2.2, by omega, by omega, by omega⟩⟩
     · have := (boxes5 w (.cells #[.int .i64 S1, .slice (some ⟨g1, o1, none⟩) ds1.length c1, .int .i64 E1] 76) (.cells #[.int .i64 S2, .slice (some ⟨g2, o2, none⟩) ds2.length c2, .int .i64 E2] 76) (.cells #[.int .i64 0, .slice none 0 0, .int .i64 0] 76) (.cells #[.int .i64 SS, .slice (some ⟨w.heap.size + 1 + 1 + 1 + 1, 0, none⟩) (ds1.length + ds2.length) (ds1.length + ds2.length), .int .i64 (E1 + E2)] 76) (.cells ZS 2)).2.2.2.1
       simpa [BoxN] using this
     · rw [hZS.out]; exact (boxes5 _ _ _ _ _ _).2.2.2.2.1
   case round =>
     obtain ⟨k, zs, rfl, hk, hM, hW⟩ := hrel
     obtain ⟨x0, x1, x2, _, _⟩ := hW.out.a.cells
     obtain ⟨y0, y1', y2', _, _⟩ := hW.out.b.cells
     obtain ⟨z0, z1, z2, _, _⟩ := hW.out.o.cells
     have hzl := hM.out.len
     rw [hzl] at z1
     clear hzl
     by_cases hlt : k < ds1.length
     · have hlt' : (k : Int) < (ds1.length : Int) := by omega
       have hk0 : (0 : Int) ≤ (k : Int) := by omega
       go_wp2
       clear x0 x1 x2 y0 y1' y2' z0 z1 z2
       go_loopw [7, 8] (fun c j wr' => ∃ (cc jj : Nat) (zs' : List Nat), c = .int .i64 (cc : Nat) ∧ j = .int .i64 (jj : Nat) ∧ jj ≤ ds2.length ∧ cc < 16777216 ∧ Hid (MulI ds1 ds2 zs zs' k jj cc) ∧ Hid (MulW w (w.heap.size + 3) (w.heap.size + 4) S1 S2 SS E1 E2 (.slice (some ⟨g1, o1, none⟩) ds1.length c1) (.slice (some ⟨g2, o2, none⟩) ds2.length c2) zs' wr')) (fun _ j _ => ds2.length - (intOf j).toNat)
       case atStart => exact ⟨0, 0, zs, rfl, rfl, by omega, by omega, hM.out.begin, hW.out⟩
       case round =>
         clear hW
         obtain ⟨cc, jj, zs', rfl, rfl, hj, hcc, hI, hW⟩ := hrel
         obtain ⟨_, x1, _, _, _⟩ := hW.out.a.cells
         obtain ⟨_, y1', _, _, _⟩ := hW.out.b.cells
         obtain ⟨_, z1, _, _, _⟩ := hW.out.o.cells
         have hzl : zs'.length = ds1.length + ds2.length := hI.out.len
         have HZL : Hid (zs'.length = ds1.length + ds2.length) := hzl
         rw [hzl] at z1
         clear hzl
         by_cases hlt2 : jj < ds2.length
         · have hlt2' : (jj : Int) < (ds2.length : Int) := by omega
           have hj0 : (0 : Int) ≤ (jj : Int) := by omega
           have hkj0 : (0 : Int) ≤ (k : Int) + (jj : Int) := by omega
           have hkj : (k : Int) + (jj : Int) < (ds1.length : Int) + (ds2.length : Int) := by omega
           have hwkj : IntKind.i64.wrap ((k : Int) + (jj : Int)) = (k : Int) + (jj : Int) := wrapE _ (by omega) (by omega)
           have htn : ((k : Int) + (jj : Int)).toNat = k + jj := by omega
           have r1 : wr.cell? ⟨g1, o1 + k, none⟩ = some (.int .i64 (ds1.getD k 0 : Nat)) := box_cell hW.out.bel (K1.out k hlt)
           have r2 : wr.cell? ⟨g2, o2 + jj, none⟩ = some (.int .i64 (ds2.getD jj 0 : Nat)) := box_cell hW.out.bel (K2.out jj hlt2)
           have r3 : wr.cell? ⟨(w.heap.size + 4), k + jj, none⟩ = some (.int .i64 (zs'.getD (k + jj) 0 : Nat)) := own_cell hW.out.row (k + jj) (by have := HZL.out; omega)
           have rf := own_frozen hW.out.row (k + jj)
           obtain ⟨d, hd⟩ : ∃ d : Nat, Hid (ds1.getD k 0 = d) := ⟨_, rfl⟩
           obtain ⟨b, hb⟩ : ∃ b : Nat, Hid (ds2.getD jj 0 = b) := ⟨_, rfl⟩
           obtain ⟨x, hx⟩ : ∃ x : Nat, Hid (zs'.getD (k + jj) 0 = x) := ⟨_, rfl⟩
           rw [hd.out] at r1
           rw [hb.out] at r2
           rw [hx.out] at r3
           have hdl : d < 16777216 := by rw [← hd.out]; exact getD_small M1.out _
           have hbl : b < 16777216 := by rw [← hb.out]; exact getD_small M2.out _
           have hxl : x < 16777216 := by rw [← hx.out]; exact getD_small hI.out.small _
           obtain ⟨p, hpp⟩ : ∃ p : Nat, Hid (d * b = p) := ⟨_, rfl⟩
           have hpI : (d : Int) * (b : Int) = (p : Int) := by rw [← hpp.out]; simp
           have hpl : (p : Int) ≤ 281474943156225 := by
             have : d * b ≤ 16777215 * 16777215 := Nat.mul_le_mul (by omega) (by omega)
             rw [hpp.out] at this
             omega
           have wp1 : IntKind.i64.wrap (p : Int) = (p : Int) := wrapE _ (by omega) (by omega)
           have wp2' : IntKind.i64.wrap ((x : Int) + (p : Int)) = (x : Int) + (p : Int) := wrapE _ (by omega) (by omega)
           have wp3 : IntKind.i64.wrap ((x : Int) + (p : Int) + (cc : Int)) = (x : Int) + (p : Int) + (cc : Int) := wrapE _ (by omega) (by omega)
           go_wp2
           go_region_held3 (fun W => W.cell? ⟨w.heap.size, 1, none⟩ = some (.slice (some ⟨g1, o1, none⟩) ds1.length c1) ∧ W.cell? ⟨w.heap.size + 1, 1, none⟩ = some (.slice (some ⟨g2, o2, none⟩) ds2.length c2) ∧ W.cell? ⟨(w.heap.size + 4), k + jj, none⟩ = some (.int .i64 (x : Nat)) ∧ W.cell? ⟨(w.heap.size + 3), 1, none⟩ = some (.slice (some ⟨(w.heap.size + 4), 0, none⟩) (ds1.length + ds2.length) (ds1.length + ds2.length)) ∧ W.cell? ⟨g1, o1 + k, none⟩ = some (.int .i64 (d : Nat)) ∧ W.cell? ⟨g2, o2 + jj, none⟩ = some (.int .i64 (b : Nat)))
             (first
               | assumption
               | exact ⟨by go_simp, by go_simp, by go_simp, by go_simp, by go_simp, by go_simp⟩)
             (fail)
           go_wp2
           have hst := hI.out.step hlt hlt2 M1.out M2.out (v := x + p + cc) (by rw [hx.out, hd.out, hb.out, hpp.out])
           have hwr := hW.out.drew.wrote (k := k + jj) (d := (x + p + cc) % 16777216) (x := ((x : Int) + (p : Int) + (cc : Int)) % 16777216) (by have := HZL.out; omega) (by omega)
           exact ⟨⟨(x + p + cc) / 16777216, jj + 1, _, by go_num, by go_num, by omega, hst.carry, hst, hwr⟩, by simp [intOf]; omega⟩
         · obtain rfl : jj = ds2.length := by omega
           have hltb : decide ((ds2.length : Int) < (ds2.length : Int)) = false := decide_eq_false (by omega)
           obtain ⟨hz0', hMO⟩ := hI.out.done hM.out hlt
           have r3 : wr.cell? ⟨(w.heap.size + 4), k + ds2.length, none⟩ = some (.int .i64 0) := by
             have := own_cell hW.out.row (k + ds2.length) (by have := HZL.out; omega)
             rw [hz0'] at this; exact this
           have rf := own_frozen hW.out.row (k + ds2.length)
           have hkj0 : (0 : Int) ≤ (k : Int) + (ds2.length : Int) := by omega
           have hkj : (k : Int) + (ds2.length : Int) < (ds1.length : Int) + (ds2.length : Int) := by omega
           have hwkj : IntKind.i64.wrap ((k : Int) + (ds2.length : Int)) = (k : Int) + (ds2.length : Int) := wrapE _ (by omega) (by omega)
           have htn : ((k : Int) + (ds2.length : Int)).toNat = k + ds2.length := by omega
           have wcc : IntKind.i64.wrap (cc : Int) = (cc : Int) := wrapE _ (by omega) (by omega)
           have HMO : Hid _ := hMO
           clear hz0' hMO
           go_wp2
           go_region
           go_wp2
           have hwr := hW.out.drew.wrote (k := k + ds2.length) (d := cc) (x := (cc : Int)) (by have := HZL.out; omega) rfl
           exact ⟨⟨k + 1, _, by go_num, by omega, HMO.out, hwr⟩, by simp [intOf]; omega⟩
     · obtain rfl : k = ds1.length := by omega
       have hltb : decide ((ds1.length : Int) < (ds1.length : Int)) = false := decide_eq_false (by omega)
       have HZL : Hid (zs.length = ds1.length + ds2.length) := hM.out.len
       have HR := hW.out.row
       rw [HZL.out] at HR
       go_wp2_with fail
       refine (trim_any _ SS (E1 + E2) zs _ (by have := own_dig (S := SS) (E := E1 + E2) hW.out.row hM.out.small (by have := HZL.out; omega) (by omega) (by omega); rw [HZL.out] at this; exact this) (by have := HZL.out; omega)).mono ?_
       rintro e w2 hT
       obtain ⟨v9, rfl, hrf, hb9⟩ := trim_rf HSB.out hT
       have hB : BoxN w2 (w.heap.size + 2) 0 (.slice none 0 0) 0 := hW.out.r.block (hb9.block _ hW.out.r.cells.2.2.2.2)
       have hO : Hid (OtherRow w2 (w.heap.size + 2)) := other_box hB
       obtain ⟨t0, t1', t2', tf, tl⟩ := hB.cells
       have HB : Hid (Below w.heap.size w w2) := hW.out.bel.trans (hb9.mono hW.out.bel.size)
       have HV : Hid (Rf w2 v9 ((S1 : Rat) * mag ds1 E1 * ((S2 : Rat) * mag ds2 E2))) := by
         have hv := hM.out.val
         rw [List.take_of_length_le (Nat.le_refl _)] at hv
         have e : (SS : Rat) * mag zs (E1 + E2) = (S1 : Rat) * mag ds1 E1 * ((S2 : Rat) * mag ds2 E2) := by
           unfold mag
           rw [hv, ← hSS.out, show 24 * (E1 + E2) = 24 * E1 + 24 * E2 by omega, p2_add, Rat.natCast_mul, Rat.intCast_mul]
           grind
         rw [e] at hrf
         exact hrf
       obtain ⟨S9, ds9, E9, hd9, _⟩ := HV.out
       obtain ⟨a9, c9, rfl, _⟩ := hd9.form
       clear hb9 hT hrf hB hW hd9 HR x0 x1 x2 y0 y1' y2' z0 z1 z2
       go_wp2
       refine bodyPost_ret (v := .agg #[.int .i64 S9, .slice a9 ds9.length c9, .int .i64 E9]) (by simp [results, Tryd.results39, go_sem, t0, t1', t2']) rfl ?_
       refine ⟨_, rfl, HV.out.boxed hO.out _ _ _, ?_⟩
       repeat (first | exact HB.out | refine Below.drew ?_ | refine Below.setCell ?_ (by show w.heap.size ≤ w.heap.size + 2; omega) _)
end

/- The reference's Neg, Sub, Cmp, Abs of whatever numbers. -/
section
open Go.RowKit
attribute [local go_sem ↓] Go.wp_at_zero Go.wp_at_succ
theorem Canon.neg {S E : Int} {ds : List Nat} (h : Canon S ds E) : Canon (-S) ds E := by
 rcases h with ⟨a, b, c⟩ | ⟨a, b, c, d⟩
 · exact Or.inl ⟨a, by omega, c⟩
 · exact Or.inr ⟨a, by omega, c, d⟩
theorem Rf.sgn {w : World} {v : Value} {q : Rat} (h : Rf w v q) : ∃ S a n c E, v = .agg #[.int .i64 S, .slice a n c, .int .i64 E] ∧ ((S = 0 ∧ q = 0) ∨ (S = 1 ∧ 0 < q) ∨ (S = -1 ∧ q < 0)) := by
 obtain ⟨S, ds, E, h1, h2, rfl⟩ := h
 obtain ⟨a, c, rfl, _⟩ := h1.form
 exact ⟨S, a, _, c, E, rfl, canon_sgn h2⟩
end
end Go.Proofs.YtifjfgafpfefpaaDoor
