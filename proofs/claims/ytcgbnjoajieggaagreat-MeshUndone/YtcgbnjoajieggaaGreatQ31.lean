/- Own texts, put together: Ml Mn Mo Mp. -/
import Derived.Test.YtcgbnjoajieggaaGreatQ4
import Derived.Test.YtcgbnjoajieggaaGreatQ29
import Derived.Test.YtcgbnjoajieggaaGreatQ30
namespace Go.Proofs.YtcgbnjoajieggaaGreat
/- Package mesh: a row's tail sorted. -/
section
open Go.RowKit Go.Shelf Go.Sort Go.Lib
theorem flat_at {α : Type} (enc : α → List Value) {k : Nat} (hk : ∀ x, (enc x).length = k) (h0 : 0 < k) : ∀ (l : List α) (t : Nat), (l.flatMap enc)[t]? = (l[t / k]?).bind fun x => (enc x)[t % k]? := by
 intro l
 induction l with
 | nil => intro t; simp
 | cons a r ih =>
   intro t
   rw [List.flatMap_cons]
   by_cases h : t < k
   · rw [List.getElem?_append_left (by rw [hk]; exact h), Nat.div_eq_of_lt h, Nat.mod_eq_of_lt h]; rfl
   · rw [List.getElem?_append_right (by rw [hk]; omega), hk, ih]
     have e1 : t / k = (t - k) / k + 1 := by
       rw [Nat.div_eq t k, if_pos ⟨h0, by omega⟩]
     have e2 : t % k = (t - k) % k := Nat.mod_eq_sub_mod (by omega)
     rw [e1, e2, List.getElem?_cons_succ]
theorem flat_len {α : Type} (enc : α → List Value) {k : Nat} (hk : ∀ x, (enc x).length = k) : ∀ (l : List α), (l.flatMap enc).length = l.length * k := by
 intro l
 induction l with
 | nil => simp
 | cons a r ih => rw [List.flatMap_cons, List.length_append, hk, ih, List.length_cons, Nat.add_mul, Nat.one_mul, Nat.add_comm]
theorem grown_sort {α : Type} [Inhabited α] (enc : α → List Value) (k : Nat) (W : World) (g off m : Nat) (dk : Array α) (os : Array Obj) : W.grownBy (sortWorldK enc k W g off m dk os) (some g) := by
 refine ⟨rfl, rfl, rfl, ?_, fun b hb hn => ?_⟩
 · simp [sortWorldK, grow, putRowK, putRow, mapBlock, Sort.ahead]
 · have hn' : b ≠ g := fun e => hn (by rw [e])
   show (((W.heap.modify g _) ++ os))[b]? = _
   rw [Array.getElem?_append_left (by simpa using hb), Array.getElem?_modify]
   rw [if_neg (Ne.symm hn')]
theorem holds_tail {α : Type} [Inhabited α] (enc : α → List Value) {k : Nat} (hk : ∀ x, (enc x).length = k) (h0 : 0 < k) {W : World} {B T g n cap m : Nat} {xs : List α} (h : W.ownsRow B T k (.slice (some ⟨g, 0, none⟩) n cap) n (xs.flatMap enc)) (hl : xs.length = n) (hm : m ≤ n) :
   HoldsK enc k W g (m * k) (xs.drop m).toArray := by
 intro j hj
 have hj' : j < (n - m) * k := by simpa [flatK, hl] using hj
 have hlt : m * k + j < n * k := by
   have : m * k + (n - m) * k = n * k := by rw [← Nat.add_mul]; congr 1; omega
   omega
 refine ⟨?_, h.frozenAt _⟩
 rw [h.cellAt _ hlt, flat_at enc hk h0]
 have e1 : (m * k + j) / k = m + j / k := by rw [Nat.add_comm, Nat.mul_comm, Nat.add_mul_div_left _ _ h0, Nat.add_comm]
 have e2 : (m * k + j) % k = j % k := by rw [Nat.add_comm, Nat.mul_comm, Nat.add_mul_mod_self_left]
 have hjk : j / k < n - m := Nat.div_lt_of_lt_mul (by rw [Nat.mul_comm]; exact hj')
 rw [e1, e2, get_flatK _ _ _ _ (by simpa [hl] using hj')]
 obtain ⟨x, hx⟩ : ∃ x, xs[m + j / k]? = some x := ⟨_, List.getElem?_eq_getElem (by omega)⟩
 have hd : (xs.drop m).toArray[j / k]! = x := by
   rw [getElem!_pos _ _ (by simp; omega)]
   have := (List.getElem?_eq_some_iff.1 hx).2
   simpa using this
 rw [hx, hd, Option.bind_some, List.getElem?_eq_getElem (by rw [hk]; exact Nat.mod_lt _ h0)]
 rw [getElem!_pos _ _ (by rw [hk]; exact Nat.mod_lt _ h0)]
 rfl
theorem own_sorted {α : Type} [Inhabited α] (enc : α → List Value) {k : Nat} (hk : ∀ x, (enc x).length = k) (h0 : 0 < k) {W : World} {B T g n cap m q : Nat} {xs s : List α} {os : Array Obj} (h : W.ownsRow B T k (.slice (some ⟨g, 0, none⟩) n cap) n (xs.flatMap enc)) (hl : xs.length = n) (hm : m ≤ n) (hs : s.length = n - m) :
   (sortWorldK enc k W g (m * k) q s.toArray os).ownsRow B T k (.slice (some ⟨g, 0, none⟩) n cap) n ((xs.take m ++ s).flatMap enc) := by
 have hlen : (xs.take m ++ s).length = n := by rw [List.length_append, List.length_take, hs]; omega
 refine ⟨by rw [flat_len enc hk, hlen], ?_⟩
 rcases h.2 with ⟨e, _⟩ | ⟨g', cap', cur, e, h1, h2, h3, h4, h5, h6⟩
 · cases e
 · injection e with e1 _ e3
   injection e1 with e1
   injection e1 with e1
   subst e1 e3
   refine Or.inr ⟨g, cap, putCells id (m * k) (flatK enc k s.toArray) cur, rfl, h1, ?_, h3, h4, by simp [putCells, h5], ?_⟩
   · have hg := (Array.getElem?_eq_some_iff.1 h2).1
     show ((W.heap.modify g _) ++ os)[g]? = _
     rw [Array.getElem?_append_left (by simpa using hg), Array.getElem?_modify, if_pos rfl, h2]
     rfl
   · apply List.ext_getElem?
     intro t
     rw [flat_at enc hk h0]
     by_cases ht : t < n * k
     · rw [List.getElem?_take_of_lt ht, Array.getElem?_toList]
       have htc : t < cur.size := by rw [h5]; exact Nat.lt_of_lt_of_le ht (Nat.mul_le_mul_right _ h3)
       unfold putCells
       rw [Array.getElem?_mapIdx]
       have hold : cur[t]? = (xs[t / k]?).bind fun x => (enc x)[t % k]? := by
         rw [← flat_at enc hk h0, ← h6, List.getElem?_take_of_lt ht, Array.getElem?_toList]
       have hmn : m * k + (n - m) * k = n * k := by rw [← Nat.add_mul]; congr 1; omega
       by_cases hlo : m * k ≤ t
       · have ec : (m * k ≤ t ∧ t < m * k + (flatK enc k s.toArray).size) := ⟨hlo, by simp [flatK, hs]; omega⟩
         rw [Array.getElem?_eq_getElem htc, Option.map_some, if_pos ec]
         have e1 : t = m * k + (t - m * k) := by omega
         obtain ⟨j, hj⟩ : ∃ j, t - m * k = j := ⟨_, rfl⟩
         rw [hj] at e1 ⊢
         have f1 : t / k = m + j / k := by rw [e1, Nat.add_comm, Nat.mul_comm, Nat.add_mul_div_left _ _ h0, Nat.add_comm]
         have f2 : t % k = j % k := by rw [e1, Nat.add_comm, Nat.mul_comm, Nat.add_mul_mod_self_left]
         have hj' : j < (n - m) * k := by omega
         have hjk : j / k < s.length := by rw [hs]; exact Nat.div_lt_of_lt_mul (by rw [Nat.mul_comm]; exact hj')
         rw [f1, f2, List.getElem?_append_right (by rw [List.length_take]; exact Nat.le_trans (Nat.min_le_left _ _) (Nat.le_add_right _ _)), List.length_take, Nat.min_eq_left (by omega), Nat.add_sub_cancel_left, List.getElem?_eq_getElem hjk, Option.bind_some]
         have := get_flatK enc k s.toArray j (by simpa [hs] using hj')
         rw [this, List.getElem?_eq_getElem (by rw [hk]; exact Nat.mod_lt _ h0)]
         have hd : s.toArray[j / k]! = s[j / k] := by rw [getElem!_pos _ _ (by simpa using hjk)]; simp
         rw [hd, getElem!_pos _ _ (by rw [hk]; exact Nat.mod_lt _ h0)]
         rfl
       · have hlt : t / k < m := Nat.div_lt_of_lt_mul (by rw [Nat.mul_comm]; omega)
         rw [Array.getElem?_eq_getElem htc, Option.map_some, if_neg (fun e => hlo e.1), ← Array.getElem?_eq_getElem htc, hold, List.getElem?_append_left (by rw [List.length_take]; omega), List.getElem?_take_of_lt hlt]
     · rw [List.getElem?_eq_none (by rw [List.length_take]; omega)]
       have : n ≤ t / k := by
         rw [Nat.le_div_iff_mul_le h0]; omega
       rw [List.getElem?_eq_none (by rw [hlen]; exact this)]; rfl
end

/- Package mesh: rows of numbers held against each other; the sort at pairs and triples. (gen_mn.py) -/
section
open Go.RowKit Go.Shelf Go.Sort Go.Lib
attribute [local go_sem ↓] Go.wp_at_zero Go.wp_at_succ
set_option maxRecDepth 100000
def hl : List Int → List Int → Int
 | x :: xs, y :: ys => if Lib.compareInt x y = 0 then hl xs ys else Lib.compareInt x y
 | _, _ => 0
theorem cmp_zero (x y : Int) : Lib.compareInt x y = 0 ↔ x = y := by unfold Lib.compareInt; split <;> (try split) <;> omega
theorem cmp_neg (x y : Int) : Lib.compareInt x y < 0 ↔ x < y := by unfold Lib.compareInt; split <;> (try split) <;> omega
theorem hl_nil (a : List Int) : hl [] a = 0 := by cases a <;> rfl
theorem hl_neg : ∀ (xs ys : List Int), xs.length = ys.length → (hl xs ys < 0 ↔ ∃ i x y, xs[i]? = some x ∧ ys[i]? = some y ∧ x < y ∧ xs.take i = ys.take i) := by
 intro xs
 induction xs with
 | nil => intro ys h; rw [hl_nil]; simp
 | cons a r ih =>
   intro ys h
   cases ys with
   | nil => simp at h
   | cons b s =>
     unfold hl
     by_cases e : Lib.compareInt a b = 0
     · rw [if_pos e, ih s (by simpa using h)]
       have ab := (cmp_zero a b).1 e
       subst ab
       constructor
       · rintro ⟨i, x, y, h1, h2, h3, h4⟩
         exact ⟨i + 1, x, y, h1, h2, h3, by rw [List.take_succ_cons, List.take_succ_cons, h4]⟩
       · rintro ⟨i, x, y, h1, h2, h3, h4⟩
         cases i with
         | zero => simp at h1 h2; omega
         | succ i =>
           rw [List.take_succ_cons, List.take_succ_cons] at h4
           exact ⟨i, x, y, h1, h2, h3, (List.cons.inj h4).2⟩
     · rw [if_neg e, cmp_neg]
       constructor
       · intro hh; exact ⟨0, a, b, rfl, rfl, hh, rfl⟩
       · rintro ⟨i, x, y, h1, h2, h3, h4⟩
         cases i with
         | zero => simp at h1 h2; omega
         | succ i =>
           rw [List.take_succ_cons, List.take_succ_cons] at h4
           exact absurd ((cmp_zero a b).2 (List.cons.inj h4).1) e
set_option maxHeartbeats 2000000 in
theorem held_pair (a b d f : Int) (W : World) : Calls Tryz.prog 65 #[.agg #[.int .i64 a, .int .i64 b], .agg #[.int .i64 d, .int .i64 f]] W fun e w' => e = .returned (.int .i64 (hl [a, b] [d, f])) ∧ GrW W w' := by
 obtain ⟨z, hz⟩ : ∃ z, hl [a, b] [d, f] = z := ⟨_, rfl⟩
 rw [hz]
 have HZ := Lib.hid hz
 obtain ⟨xs, hxs⟩ : ∃ xs, [a, b] = xs := ⟨_, rfl⟩
 obtain ⟨ys, hys⟩ : ∃ ys, [d, f] = ys := ⟨_, rfl⟩
 obtain ⟨W2, hW2⟩ : ∃ X, (W.alloc (.cells #[.int .i64 a, .int .i64 b] 71)).alloc (.cells #[.int .i64 d, .int .i64 f] 71) = X := ⟨_, rfl⟩
 have G2 : Hid (GrW W W2) := Lib.hid (by rw [← hW2]; exact ((GrW.refl W).alloc _).alloc _)
 have k1 : CB W2 W.heap.size #[.int .i64 a, .int .i64 b] 71 := by rw [← hW2]; exact (CB.new W _ _).later ((Below.refl _ _).alloc (Nat.le_refl _) _)
 have k2 : CB W2 (W.heap.size + 1) #[.int .i64 d, .int .i64 f] 71 := by
   have := CB.new (W.alloc (.cells #[.int .i64 a, .int .i64 b] 71)) #[.int .i64 d, .int .i64 f] 71
   rw [hW2] at this
   have e : (W.alloc (.cells #[.int .i64 a, .int .i64 b] 71)).heap.size = W.heap.size + 1 := by simp
   rw [e] at this; exact this
 have HX : Hid (∀ (k : Nat), k < 2 → ∃ x y, xs[k]? = some x ∧ ys[k]? = some y ∧ W2.cell? ⟨W.heap.size, k, none⟩ = some (.int .i64 x) ∧ W2.cell? ⟨W.heap.size + 1, k, none⟩ = some (.int .i64 y)) := Lib.hid (fun k hk => by
   subst hxs hys
   rcases (show k = 0 ∨ k = 1 by omega) with rfl | rfl
   · exact ⟨_, _, rfl, rfl, k1.cell 0 (by simp), k2.cell 0 (by simp)⟩
   · exact ⟨_, _, rfl, rfl, k1.cell 1 (by simp), k2.cell 1 (by simp)⟩)
 have HL : Hid (xs.length = 2 ∧ ys.length = 2 ∧ hl xs ys = z) := Lib.hid (by subst hxs hys; exact ⟨rfl, rfl, hz⟩)
 clear hxs hys hz HZ
 have kc1 : W2.cell? ⟨W.heap.size, 0, none⟩ = some (.int .i64 a) := k1.cell 0 (by simp)
 have kc2 : W2.cell? ⟨W.heap.size, 1, none⟩ = some (.int .i64 b) := k1.cell 1 (by simp)
 clear k1 k2
 go_enter Tryz.func65, Tryz.ntmps65
 go_wp2_with fail
 try rw [hW2]
 clear hW2 kc1 kc2
 obtain ⟨b1, hb1⟩ : ∃ q, W.heap.size = q := ⟨_, rfl⟩
 rw [hb1] at HX
 try rw [hb1]
 clear hb1
 go_loopw [9] (fun i wr => ∃ k : Nat, k ≤ 2 ∧ i = .int .i64 (k : Nat) ∧ Hid (GrW W2 wr ∧ hl (xs.drop k) (ys.drop k) = z)) (fun i _ => 2 - (intOf i).toNat)
 case atStart => exact ⟨0, Nat.zero_le _, rfl, Lib.hid ⟨GrW.refl _, HL.out.2.2⟩⟩
 case round =>
   obtain ⟨k, hk, rfl, hB⟩ := hrel
   by_cases hlt : k < 2
   · have hlt' : (k : Int) < 2 := by omega
     have hlt2 : ¬ (2 : Int) ≤ (k : Int) := by omega
     have hlt3 : ¬ 2 ≤ k := by omega
     have hk0 : (0 : Int) ≤ (k : Int) := by omega
     obtain ⟨x, y, hx, hy, c1, c2⟩ := HX.out k hlt
     have HD : Hid (hl (xs.drop k) (ys.drop k) = if Lib.compareInt x y = 0 then hl (xs.drop (k + 1)) (ys.drop (k + 1)) else Lib.compareInt x y) := Lib.hid (by
       obtain ⟨l1, e1⟩ := List.getElem?_eq_some_iff.1 hx
       obtain ⟨l2, e2⟩ := List.getElem?_eq_some_iff.1 hy
       rw [List.drop_eq_getElem_cons l1, List.drop_eq_getElem_cons l2, e1, e2]; rfl)
     obtain ⟨v, hv⟩ : ∃ v, Lib.compareInt x y = v := ⟨_, rfl⟩
     rw [hv] at HD
     have q1 := box_cell hB.out.1.below c1
     have q2 := box_cell hB.out.1.below c2
     have HS := Lib.hid (And.intro q1 (And.intro q2 hB.out.1.drew))
     clear hx hy c1 c2 q1 q2
     go_wp2_with fail
     refine wp_region_held_drew (S := (fun W => W.cell? ⟨b1, k, none⟩ = some (.int .i64 x) ∧ W.cell? ⟨b1 + 1, k, none⟩ = some (.int .i64 y) ∧ GrW W2 W)) (by kernel_rfl) HS.out (fun hS => ?_)
     refine take_at (i := 0) (d := some 12) (v := .int .i64 (k : Nat)) (by kernel_rfl) (by kernel_rfl) (by kernel_rfl) (by kernel_rfl) (fun _ _ _ h => h) ?_ hS ?_
     · intro o ho
       replace ho := Option.some.inj (Eq.trans (Eq.symm ho) rfl)
       subst ho
       refine Or.inl ⟨by rfl, ?_⟩
       intro w hSw
       obtain ⟨q1, q2, _⟩ := hSw
       go_simp
     simp only [Act.put, List.setIfInBounds_toArray, List.set_cons_zero, List.set_cons_succ]
     refine take_at (i := 1) (d := some 13) (v := .pointer (some ⟨b1, k, none⟩)) (by kernel_rfl) (by kernel_rfl) (by kernel_rfl) (by kernel_rfl) (fun _ _ _ h => h) ?_ hS ?_
     · intro o ho
       replace ho := Option.some.inj (Eq.trans (Eq.symm ho) rfl)
       subst ho
       refine Or.inl ⟨by rfl, ?_⟩
       intro w hSw
       obtain ⟨q1, q2, _⟩ := hSw
       go_simp
     simp only [Act.put, List.setIfInBounds_toArray, List.set_cons_zero, List.set_cons_succ]
     refine take_at (i := 2) (d := some 14) (v := .int .i64 x) (by kernel_rfl) (by kernel_rfl) (by kernel_rfl) (by kernel_rfl) (fun _ _ _ h => h) ?_ hS ?_
     · intro o ho
       replace ho := Option.some.inj (Eq.trans (Eq.symm ho) rfl)
       subst ho
       refine Or.inl ⟨by rfl, ?_⟩
       intro w hSw
       obtain ⟨q1, q2, _⟩ := hSw
       go_simp
     simp only [Act.put, List.setIfInBounds_toArray, List.set_cons_zero, List.set_cons_succ]
     refine take_at (i := 3) (d := some 15) (v := .int .i64 (k : Nat)) (by kernel_rfl) (by kernel_rfl) (by kernel_rfl) (by kernel_rfl) (fun _ _ _ h => h) ?_ hS ?_
     · intro o ho
       replace ho := Option.some.inj (Eq.trans (Eq.symm ho) rfl)
       subst ho
       refine Or.inl ⟨by rfl, ?_⟩
       intro w hSw
       obtain ⟨q1, q2, _⟩ := hSw
       go_simp
     simp only [Act.put, List.setIfInBounds_toArray, List.set_cons_zero, List.set_cons_succ]
     refine take_at (i := 4) (d := some 16) (v := .pointer (some ⟨b1 + 1, k, none⟩)) (by kernel_rfl) (by kernel_rfl) (by kernel_rfl) (by kernel_rfl) (fun _ _ _ h => h) ?_ hS ?_
     · intro o ho
       replace ho := Option.some.inj (Eq.trans (Eq.symm ho) rfl)
       subst ho
       refine Or.inl ⟨by rfl, ?_⟩
       intro w hSw
       obtain ⟨q1, q2, _⟩ := hSw
       go_simp
     simp only [Act.put, List.setIfInBounds_toArray, List.set_cons_zero, List.set_cons_succ]
     refine take_at (i := 5) (d := some 17) (v := .int .i64 y) (by kernel_rfl) (by kernel_rfl) (by kernel_rfl) (by kernel_rfl) (fun _ _ _ h => h) ?_ hS ?_
     · intro o ho
       replace ho := Option.some.inj (Eq.trans (Eq.symm ho) rfl)
       subst ho
       refine Or.inl ⟨by rfl, ?_⟩
       intro w hSw
       obtain ⟨q1, q2, _⟩ := hSw
       go_simp
     simp only [Act.put, List.setIfInBounds_toArray, List.set_cons_zero, List.set_cons_succ]
     refine call_at 6 (by kernel_rfl) (by kernel_rfl) ?_
     intro o ho
     replace ho := Option.some.inj (Eq.trans (Eq.symm ho) rfl)
     subst ho
     intro KF hK
     rw [if_pos (by rfl)]
     go_simp
     refine (Tryz.cmp_Compare_int x y _).mono ?_
     rintro e wx ⟨rfl, hbx⟩
     subst hbx
     rw [hv]
     go_wp2_with fail
     refine hK.out _ _ hS ?_
     clear hS
     intro hS
     clear hK KF
     try simp only [Act.put, List.setIfInBounds_toArray, List.set_cons_zero, List.set_cons_succ]
     refine take_at (i := 7) (d := some 6) (v := .int .i64 v) (by kernel_rfl) (by kernel_rfl) (by kernel_rfl) (by kernel_rfl) (fun _ _ _ h => h) ?_ hS ?_
     · intro o ho
       replace ho := Option.some.inj (Eq.trans (Eq.symm ho) rfl)
       subst ho
       refine Or.inl ⟨by rfl, ?_⟩
       intro w hSw
       obtain ⟨q1, q2, _⟩ := hSw
       go_simp
     simp only [Act.put, List.setIfInBounds_toArray, List.set_cons_zero, List.set_cons_succ]
     refine wpAnyH_done (by kernel_rfl) ?_ _
     obtain ⟨w3, hw3⟩ : ∃ X, wr.drew = X := ⟨_, rfl⟩
     rw [hw3] at hS
     try rw [hw3]
     have HG := Lib.hid hS.2.2
     clear hS hw3
     by_cases h0 : v = 0
     · subst h0
       have HE := Lib.hid (hB.out.2.symm.trans HD.out)
       clear HD
       go_wp2
       refine ⟨⟨k + 1, by omega, by go_num, Lib.hid ⟨HG.out, ?_⟩⟩, by simp [intOf]; omega⟩
       have := HE.out; rw [if_pos rfl] at this; exact this.symm
     · have HE := Lib.hid (hB.out.2.symm.trans (HD.out.trans (if_neg h0)))
       have h0' : (v == 0) = false := by rw [beq_eq_false_iff_ne]; exact h0
       clear HD
       go_wp2
       go_ret
       exact ⟨by rw [HE.out]; rfl, G2.out.trans HG.out⟩
   · obtain rfl : k = 2 := by omega
     have HE : Hid (z = 0) := Lib.hid (by have h := hB.out.2; rw [List.drop_of_length_le (by have := HL.out.1; omega), hl_nil] at h; exact h.symm)
     go_wp2
     go_ret
     exact ⟨by rw [HE.out]; rfl, G2.out.trans hB.out.1⟩
def enc_pair (x : Nat × Nat) : List Value := [.int .i64 ((x.1 : Nat) : Int), .int .i64 ((x.2 : Nat) : Int)]
def cf_pair (x y : Nat × Nat) : Int := hl [((x.1 : Nat) : Int), ((x.2 : Nat) : Int)] [((y.1 : Nat) : Int), ((y.2 : Nat) : Int)]
theorem lt_pair (x y : Nat × Nat) : ltOf cf_pair x y = true ↔ x.1 < y.1 ∨ (x.1 = y.1 ∧ x.2 < y.2) := by
 unfold ltOf cf_pair
 rw [decide_eq_true_iff, hl_neg [((x.1 : Nat) : Int), ((x.2 : Nat) : Int)] [((y.1 : Nat) : Int), ((y.2 : Nat) : Int)] rfl]
 constructor
 · rintro ⟨i, u, v, h1, h2, h3, h4⟩
   have hi := (List.getElem?_eq_some_iff.1 h1).1
   simp only [List.length_cons, List.length_nil] at hi
   rcases (show i = 0 ∨ i = 1 by omega) with rfl | rfl
   · simp at h1 h2 h4
     omega
   · simp at h1 h2 h4
     omega
 · intro h
   rcases h with h | ⟨h, h'⟩
   · exact ⟨0, _, _, rfl, rfl, by omega, rfl⟩
   · exact ⟨1, _, _, rfl, rfl, by omega, by simp; omega⟩
theorem enc_pair_len (x : Nat × Nat) : (enc_pair x).length = 2 := rfl
theorem swo_pair : Sort.SWO (ltOf cf_pair) where
 irrefl x := by rw [← Bool.not_eq_true, lt_pair]; omega
 trans x y z h1 h2 := by rw [lt_pair] at *; omega
 ntrans x y z h1 h2 := by rw [← Bool.not_eq_true, lt_pair] at *; omega
theorem tot_pair (x y : Nat × Nat) (h1 : ltOf cf_pair x y = false) (h2 : ltOf cf_pair y x = false) : x = y := by
 rw [← Bool.not_eq_true, lt_pair] at h1 h2
 obtain ⟨x1, x2⟩ := x
 obtain ⟨y1, y2⟩ := y
 dsimp only at h1 h2
 have : x1 = y1 ∧ x2 = y2 := by omega
 simp only [this]
def srt_pair (l : List (Nat × Nat)) : List (Nat × Nat) := l.mergeSort fun x y => !(ltOf cf_pair) y x
theorem sort_pair {W : World} {B n m : Nat} {v : Value} {xs : List (Nat × Nat)} (h : W.ownsRow B 71 2 v n (xs.flatMap enc_pair)) (hl : xs.length = n) (hm : m ≤ n) (hn : n < 4611686018427387904) (p : Option Addr) (c : Nat) (hp : n - m = 0 ∨ ∃ g, v.ownBlock = some g ∧ p = some ⟨g, m * 2, none⟩) :
   Calls Tryz.prog 88 #[.slice p (n - m) c, .func (.func 65) #[] #[]] W fun e w' => e = .returned (.tuple #[]) ∧ w'.ownsRow B 71 2 v n ((xs.take m ++ srt_pair (xs.drop m)).flatMap enc_pair) ∧ W.grownBy w' v.ownBlock := by
 by_cases h0 : n - m = 0
 · rw [h0]
   have hd : xs.drop m = [] := List.drop_of_length_le (by omega)
   have e0 : xs.take m ++ srt_pair (xs.drop m) = xs := by rw [hd]; unfold srt_pair; rw [List.mergeSort_nil, List.append_nil, List.take_of_length_le (by omega)]
   rw [e0]
   refine (AnyF.slices_SortFunc_none Tryz.sortPair p c _ W).mono ?_
   rintro e w' ⟨rfl, rfl⟩
   exact ⟨rfl, h, ⟨rfl, rfl, rfl, Nat.le_refl _, fun _ _ _ => rfl⟩⟩
 · obtain ⟨g, hg, rfl⟩ := hp.resolve_left h0
   obtain ⟨cap, rfl⟩ : ∃ cap, v = .slice (some ⟨g, 0, none⟩) n cap := by
     rcases h.2 with ⟨rfl, _⟩ | ⟨g', cap, cur, rfl, _⟩
     · cases hg
     · have : g' = g := by simpa [Value.ownBlock] using hg
       rw [this]; exact ⟨cap, rfl⟩
   have hH := holds_tail enc_pair enc_pair_len (by decide) h hl hm
   have hsz : (xs.drop m).toArray.size = n - m := by simp [hl]
   have eg : ∀ args w, (callFunc 65 args).run Tryz.prog w = .ok (.enter 65 args) w := enters_of Tryz.func65 (by kernel_rfl) rfl
   have hcmp : CmpLays Tryz.prog 65 #[] enc_pair 2 cf_pair g (m * 2) (xs.drop m).toArray.size W := fun _ _ _ _ x y => held_pair ((x.1 : Nat) : Int) ((x.2 : Nat) : Int) ((y.1 : Nat) : Int) ((y.2 : Nat) : Int) _
   have hS := AnyQ.slices_SortFunc_total Tryz.sortPair 2 Tryz.isAgg71 Tryz.sizeOf71 enc_pair enc_pair_len (fun x v hv => by simp [enc_pair] at hv; rcases hv with rfl | rfl <;> rfl) cf_pair swo_pair 65 #[] g (m * 2) c (xs.drop m).toArray W eg hcmp hH (h.lt g rfl).2 (by rw [hsz]; omega) tot_pair
   rw [hsz] at hS
   refine hS.mono ?_
   rintro e w' ⟨rfl, q, os, rfl⟩
   have hlen : (srt_pair (xs.drop m)).length = n - m := by unfold srt_pair; rw [(List.mergeSort_perm _ _).length_eq]; simp [hl]
   exact ⟨rfl, own_sorted enc_pair enc_pair_len (by decide) h hl hm hlen, grown_sort enc_pair _ W g _ q _ os⟩
set_option maxHeartbeats 2000000 in
theorem held_tri (a b c d f g : Int) (W : World) : Calls Tryz.prog 87 #[.agg #[.int .i64 a, .int .i64 b, .int .i64 c], .agg #[.int .i64 d, .int .i64 f, .int .i64 g]] W fun e w' => e = .returned (.int .i64 (hl [a, b, c] [d, f, g])) ∧ GrW W w' := by
 obtain ⟨z, hz⟩ : ∃ z, hl [a, b, c] [d, f, g] = z := ⟨_, rfl⟩
 rw [hz]
 have HZ := Lib.hid hz
 obtain ⟨xs, hxs⟩ : ∃ xs, [a, b, c] = xs := ⟨_, rfl⟩
 obtain ⟨ys, hys⟩ : ∃ ys, [d, f, g] = ys := ⟨_, rfl⟩
 obtain ⟨W2, hW2⟩ : ∃ X, (W.alloc (.cells #[.int .i64 a, .int .i64 b, .int .i64 c] 30)).alloc (.cells #[.int .i64 d, .int .i64 f, .int .i64 g] 30) = X := ⟨_, rfl⟩
 have G2 : Hid (GrW W W2) := Lib.hid (by rw [← hW2]; exact ((GrW.refl W).alloc _).alloc _)
 have k1 : CB W2 W.heap.size #[.int .i64 a, .int .i64 b, .int .i64 c] 30 := by rw [← hW2]; exact (CB.new W _ _).later ((Below.refl _ _).alloc (Nat.le_refl _) _)
 have k2 : CB W2 (W.heap.size + 1) #[.int .i64 d, .int .i64 f, .int .i64 g] 30 := by
   have := CB.new (W.alloc (.cells #[.int .i64 a, .int .i64 b, .int .i64 c] 30)) #[.int .i64 d, .int .i64 f, .int .i64 g] 30
   rw [hW2] at this
   have e : (W.alloc (.cells #[.int .i64 a, .int .i64 b, .int .i64 c] 30)).heap.size = W.heap.size + 1 := by simp
   rw [e] at this; exact this
 have HX : Hid (∀ (k : Nat), k < 3 → ∃ x y, xs[k]? = some x ∧ ys[k]? = some y ∧ W2.cell? ⟨W.heap.size, k, none⟩ = some (.int .i64 x) ∧ W2.cell? ⟨W.heap.size + 1, k, none⟩ = some (.int .i64 y)) := Lib.hid (fun k hk => by
   subst hxs hys
   rcases (show k = 0 ∨ k = 1 ∨ k = 2 by omega) with rfl | rfl | rfl
   · exact ⟨_, _, rfl, rfl, k1.cell 0 (by simp), k2.cell 0 (by simp)⟩
   · exact ⟨_, _, rfl, rfl, k1.cell 1 (by simp), k2.cell 1 (by simp)⟩
   · exact ⟨_, _, rfl, rfl, k1.cell 2 (by simp), k2.cell 2 (by simp)⟩)
 have HL : Hid (xs.length = 3 ∧ ys.length = 3 ∧ hl xs ys = z) := Lib.hid (by subst hxs hys; exact ⟨rfl, rfl, hz⟩)
 clear hxs hys hz HZ
 have kc1 : W2.cell? ⟨W.heap.size, 0, none⟩ = some (.int .i64 a) := k1.cell 0 (by simp)
 have kc2 : W2.cell? ⟨W.heap.size, 1, none⟩ = some (.int .i64 b) := k1.cell 1 (by simp)
 have kc3 : W2.cell? ⟨W.heap.size, 2, none⟩ = some (.int .i64 c) := k1.cell 2 (by simp)
 clear k1 k2
 go_enter Tryz.func87, Tryz.ntmps87
 go_wp2_with fail
 try rw [hW2]
 clear hW2 kc1 kc2 kc3
 obtain ⟨b1, hb1⟩ : ∃ q, W.heap.size = q := ⟨_, rfl⟩
 rw [hb1] at HX
 try rw [hb1]
 clear hb1
 go_loopw [9] (fun i wr => ∃ k : Nat, k ≤ 3 ∧ i = .int .i64 (k : Nat) ∧ Hid (GrW W2 wr ∧ hl (xs.drop k) (ys.drop k) = z)) (fun i _ => 3 - (intOf i).toNat)
 case atStart => exact ⟨0, Nat.zero_le _, rfl, Lib.hid ⟨GrW.refl _, HL.out.2.2⟩⟩
 case round =>
   obtain ⟨k, hk, rfl, hB⟩ := hrel
   by_cases hlt : k < 3
   · have hlt' : (k : Int) < 3 := by omega
     have hlt2 : ¬ (3 : Int) ≤ (k : Int) := by omega
     have hlt3 : ¬ 3 ≤ k := by omega
     have hk0 : (0 : Int) ≤ (k : Int) := by omega
     obtain ⟨x, y, hx, hy, c1, c2⟩ := HX.out k hlt
     have HD : Hid (hl (xs.drop k) (ys.drop k) = if Lib.compareInt x y = 0 then hl (xs.drop (k + 1)) (ys.drop (k + 1)) else Lib.compareInt x y) := Lib.hid (by
       obtain ⟨l1, e1⟩ := List.getElem?_eq_some_iff.1 hx
       obtain ⟨l2, e2⟩ := List.getElem?_eq_some_iff.1 hy
       rw [List.drop_eq_getElem_cons l1, List.drop_eq_getElem_cons l2, e1, e2]; rfl)
     obtain ⟨v, hv⟩ : ∃ v, Lib.compareInt x y = v := ⟨_, rfl⟩
     rw [hv] at HD
     have q1 := box_cell hB.out.1.below c1
     have q2 := box_cell hB.out.1.below c2
     have HS := Lib.hid (And.intro q1 (And.intro q2 hB.out.1.drew))
     clear hx hy c1 c2 q1 q2
     go_wp2_with fail
     refine wp_region_held_drew (S := (fun W => W.cell? ⟨b1, k, none⟩ = some (.int .i64 x) ∧ W.cell? ⟨b1 + 1, k, none⟩ = some (.int .i64 y) ∧ GrW W2 W)) (by kernel_rfl) HS.out (fun hS => ?_)
     refine take_at (i := 0) (d := some 12) (v := .int .i64 (k : Nat)) (by kernel_rfl) (by kernel_rfl) (by kernel_rfl) (by kernel_rfl) (fun _ _ _ h => h) ?_ hS ?_
     · intro o ho
       replace ho := Option.some.inj (Eq.trans (Eq.symm ho) rfl)
       subst ho
       refine Or.inl ⟨by rfl, ?_⟩
       intro w hSw
       obtain ⟨q1, q2, _⟩ := hSw
       go_simp
     simp only [Act.put, List.setIfInBounds_toArray, List.set_cons_zero, List.set_cons_succ]
     refine take_at (i := 1) (d := some 13) (v := .pointer (some ⟨b1, k, none⟩)) (by kernel_rfl) (by kernel_rfl) (by kernel_rfl) (by kernel_rfl) (fun _ _ _ h => h) ?_ hS ?_
     · intro o ho
       replace ho := Option.some.inj (Eq.trans (Eq.symm ho) rfl)
       subst ho
       refine Or.inl ⟨by rfl, ?_⟩
       intro w hSw
       obtain ⟨q1, q2, _⟩ := hSw
       go_simp
     simp only [Act.put, List.setIfInBounds_toArray, List.set_cons_zero, List.set_cons_succ]
     refine take_at (i := 2) (d := some 14) (v := .int .i64 x) (by kernel_rfl) (by kernel_rfl) (by kernel_rfl) (by kernel_rfl) (fun _ _ _ h => h) ?_ hS ?_
     · intro o ho
       replace ho := Option.some.inj (Eq.trans (Eq.symm ho) rfl)
       subst ho
       refine Or.inl ⟨by rfl, ?_⟩
       intro w hSw
       obtain ⟨q1, q2, _⟩ := hSw
       go_simp
     simp only [Act.put, List.setIfInBounds_toArray, List.set_cons_zero, List.set_cons_succ]
     refine take_at (i := 3) (d := some 15) (v := .int .i64 (k : Nat)) (by kernel_rfl) (by kernel_rfl) (by kernel_rfl) (by kernel_rfl) (fun _ _ _ h => h) ?_ hS ?_
     · intro o ho
       replace ho := Option.some.inj (Eq.trans (Eq.symm ho) rfl)
       subst ho
       refine Or.inl ⟨by rfl, ?_⟩
       intro w hSw
       obtain ⟨q1, q2, _⟩ := hSw
       go_simp
     simp only [Act.put, List.setIfInBounds_toArray, List.set_cons_zero, List.set_cons_succ]
     refine take_at (i := 4) (d := some 16) (v := .pointer (some ⟨b1 + 1, k, none⟩)) (by kernel_rfl) (by kernel_rfl) (by kernel_rfl) (by kernel_rfl) (fun _ _ _ h => h) ?_ hS ?_
     · intro o ho
       replace ho := Option.some.inj (Eq.trans (Eq.symm ho) rfl)
       subst ho
       refine Or.inl ⟨by rfl, ?_⟩
       intro w hSw
       obtain ⟨q1, q2, _⟩ := hSw
       go_simp
     simp only [Act.put, List.setIfInBounds_toArray, List.set_cons_zero, List.set_cons_succ]
     refine take_at (i := 5) (d := some 17) (v := .int .i64 y) (by kernel_rfl) (by kernel_rfl) (by kernel_rfl) (by kernel_rfl) (fun _ _ _ h => h) ?_ hS ?_
     · intro o ho
       replace ho := Option.some.inj (Eq.trans (Eq.symm ho) rfl)
       subst ho
       refine Or.inl ⟨by rfl, ?_⟩
       intro w hSw
       obtain ⟨q1, q2, _⟩ := hSw
       go_simp
     simp only [Act.put, List.setIfInBounds_toArray, List.set_cons_zero, List.set_cons_succ]
     refine call_at 6 (by kernel_rfl) (by kernel_rfl) ?_
     intro o ho
     replace ho := Option.some.inj (Eq.trans (Eq.symm ho) rfl)
     subst ho
     intro KF hK
     rw [if_pos (by rfl)]
     go_simp
     refine (Tryz.cmp_Compare_int x y _).mono ?_
     rintro e wx ⟨rfl, hbx⟩
     subst hbx
     rw [hv]
     go_wp2_with fail
     refine hK.out _ _ hS ?_
     clear hS
     intro hS
     clear hK KF
     try simp only [Act.put, List.setIfInBounds_toArray, List.set_cons_zero, List.set_cons_succ]
     refine take_at (i := 7) (d := some 6) (v := .int .i64 v) (by kernel_rfl) (by kernel_rfl) (by kernel_rfl) (by kernel_rfl) (fun _ _ _ h => h) ?_ hS ?_
     · intro o ho
       replace ho := Option.some.inj (Eq.trans (Eq.symm ho) rfl)
       subst ho
       refine Or.inl ⟨by rfl, ?_⟩
       intro w hSw
       obtain ⟨q1, q2, _⟩ := hSw
       go_simp
     simp only [Act.put, List.setIfInBounds_toArray, List.set_cons_zero, List.set_cons_succ]
     refine wpAnyH_done (by kernel_rfl) ?_ _
     obtain ⟨w3, hw3⟩ : ∃ X, wr.drew = X := ⟨_, rfl⟩
     rw [hw3] at hS
     try rw [hw3]
     have HG := Lib.hid hS.2.2
     clear hS hw3
     by_cases h0 : v = 0
     · subst h0
       have HE := Lib.hid (hB.out.2.symm.trans HD.out)
       clear HD
       go_wp2
       refine ⟨⟨k + 1, by omega, by go_num, Lib.hid ⟨HG.out, ?_⟩⟩, by simp [intOf]; omega⟩
       have := HE.out; rw [if_pos rfl] at this; exact this.symm
     · have HE := Lib.hid (hB.out.2.symm.trans (HD.out.trans (if_neg h0)))
       have h0' : (v == 0) = false := by rw [beq_eq_false_iff_ne]; exact h0
       clear HD
       go_wp2
       go_ret
       exact ⟨by rw [HE.out]; rfl, G2.out.trans HG.out⟩
   · obtain rfl : k = 3 := by omega
     have HE : Hid (z = 0) := Lib.hid (by have h := hB.out.2; rw [List.drop_of_length_le (by have := HL.out.1; omega), hl_nil] at h; exact h.symm)
     go_wp2
     go_ret
     exact ⟨by rw [HE.out]; rfl, G2.out.trans hB.out.1⟩
def enc_tri (x : Nat × Nat × Nat) : List Value := [.int .i64 ((x.1 : Nat) : Int), .int .i64 ((x.2.1 : Nat) : Int), .int .i64 ((x.2.2 : Nat) : Int)]
def cf_tri (x y : Nat × Nat × Nat) : Int := hl [((x.1 : Nat) : Int), ((x.2.1 : Nat) : Int), ((x.2.2 : Nat) : Int)] [((y.1 : Nat) : Int), ((y.2.1 : Nat) : Int), ((y.2.2 : Nat) : Int)]
theorem lt_tri (x y : Nat × Nat × Nat) : ltOf cf_tri x y = true ↔ x.1 < y.1 ∨ (x.1 = y.1 ∧ (x.2.1 < y.2.1 ∨ (x.2.1 = y.2.1 ∧ x.2.2 < y.2.2))) := by
 unfold ltOf cf_tri
 rw [decide_eq_true_iff, hl_neg [((x.1 : Nat) : Int), ((x.2.1 : Nat) : Int), ((x.2.2 : Nat) : Int)] [((y.1 : Nat) : Int), ((y.2.1 : Nat) : Int), ((y.2.2 : Nat) : Int)] rfl]
 constructor
 · rintro ⟨i, u, v, h1, h2, h3, h4⟩
   have hi := (List.getElem?_eq_some_iff.1 h1).1
   simp only [List.length_cons, List.length_nil] at hi
   rcases (show i = 0 ∨ i = 1 ∨ i = 2 by omega) with rfl | rfl | rfl
   · simp at h1 h2 h4
     omega
   · simp at h1 h2 h4
     omega
   · simp at h1 h2 h4
     omega
 · intro h
   rcases h with h | ⟨h, h' | ⟨h', h''⟩⟩
   · exact ⟨0, _, _, rfl, rfl, by omega, rfl⟩
   · exact ⟨1, _, _, rfl, rfl, by omega, by simp; omega⟩
   · exact ⟨2, _, _, rfl, rfl, by omega, by simp; omega⟩
theorem enc_tri_len (x : Nat × Nat × Nat) : (enc_tri x).length = 3 := rfl
theorem swo_tri : Sort.SWO (ltOf cf_tri) where
 irrefl x := by rw [← Bool.not_eq_true, lt_tri]; omega
 trans x y z h1 h2 := by rw [lt_tri] at *; omega
 ntrans x y z h1 h2 := by rw [← Bool.not_eq_true, lt_tri] at *; omega
theorem tot_tri (x y : Nat × Nat × Nat) (h1 : ltOf cf_tri x y = false) (h2 : ltOf cf_tri y x = false) : x = y := by
 rw [← Bool.not_eq_true, lt_tri] at h1 h2
 obtain ⟨x1, x2, x3⟩ := x
 obtain ⟨y1, y2, y3⟩ := y
 dsimp only at h1 h2
 have : x1 = y1 ∧ x2 = y2 ∧ x3 = y3 := by omega
 simp only [this]
def srt_tri (l : List (Nat × Nat × Nat)) : List (Nat × Nat × Nat) := l.mergeSort fun x y => !(ltOf cf_tri) y x
theorem sort_tri {W : World} {B n m : Nat} {v : Value} {xs : List (Nat × Nat × Nat)} (h : W.ownsRow B 30 3 v n (xs.flatMap enc_tri)) (hl : xs.length = n) (hm : m ≤ n) (hn : n < 4611686018427387904) (p : Option Addr) (c : Nat) (hp : n - m = 0 ∨ ∃ g, v.ownBlock = some g ∧ p = some ⟨g, m * 3, none⟩) :
   Calls Tryz.prog 86 #[.slice p (n - m) c, .func (.func 87) #[] #[]] W fun e w' => e = .returned (.tuple #[]) ∧ w'.ownsRow B 30 3 v n ((xs.take m ++ srt_tri (xs.drop m)).flatMap enc_tri) ∧ W.grownBy w' v.ownBlock := by
 by_cases h0 : n - m = 0
 · rw [h0]
   have hd : xs.drop m = [] := List.drop_of_length_le (by omega)
   have e0 : xs.take m ++ srt_tri (xs.drop m) = xs := by rw [hd]; unfold srt_tri; rw [List.mergeSort_nil, List.append_nil, List.take_of_length_le (by omega)]
   rw [e0]
   refine (AnyF.slices_SortFunc_none Tryz.sortTri p c _ W).mono ?_
   rintro e w' ⟨rfl, rfl⟩
   exact ⟨rfl, h, ⟨rfl, rfl, rfl, Nat.le_refl _, fun _ _ _ => rfl⟩⟩
 · obtain ⟨g, hg, rfl⟩ := hp.resolve_left h0
   obtain ⟨cap, rfl⟩ : ∃ cap, v = .slice (some ⟨g, 0, none⟩) n cap := by
     rcases h.2 with ⟨rfl, _⟩ | ⟨g', cap, cur, rfl, _⟩
     · cases hg
     · have : g' = g := by simpa [Value.ownBlock] using hg
       rw [this]; exact ⟨cap, rfl⟩
   have hH := holds_tail enc_tri enc_tri_len (by decide) h hl hm
   have hsz : (xs.drop m).toArray.size = n - m := by simp [hl]
   have eg : ∀ args w, (callFunc 87 args).run Tryz.prog w = .ok (.enter 87 args) w := enters_of Tryz.func87 (by kernel_rfl) rfl
   have hcmp : CmpLays Tryz.prog 87 #[] enc_tri 3 cf_tri g (m * 3) (xs.drop m).toArray.size W := fun _ _ _ _ x y => held_tri ((x.1 : Nat) : Int) ((x.2.1 : Nat) : Int) ((x.2.2 : Nat) : Int) ((y.1 : Nat) : Int) ((y.2.1 : Nat) : Int) ((y.2.2 : Nat) : Int) _
   have hS := AnyQ.slices_SortFunc_total Tryz.sortTri 3 Tryz.isAgg30 Tryz.sizeOf30 enc_tri enc_tri_len (fun x v hv => by simp [enc_tri] at hv; rcases hv with rfl | rfl | rfl <;> rfl) cf_tri swo_tri 87 #[] g (m * 3) c (xs.drop m).toArray W eg hcmp hH (h.lt g rfl).2 (by rw [hsz]; omega) tot_tri
   rw [hsz] at hS
   refine hS.mono ?_
   rintro e w' ⟨rfl, q, os, rfl⟩
   have hlen : (srt_tri (xs.drop m)).length = n - m := by unfold srt_tri; rw [(List.mergeSort_perm _ _).length_eq]; simp [hl]
   exact ⟨rfl, own_sorted enc_tri enc_tri_len (by decide) h hl hm hlen, grown_sort enc_tri _ W g _ q _ os⟩
end

/- Package mesh: what a triangle tells: the closures of Tris, Edges, Border. (gen_mo.py) -/
section
open Go.RowKit Go.Shelf Go.Lib
attribute [local go_sem ↓] Go.wp_at_zero Go.wp_at_succ
set_option maxRecDepth 100000
def fTri (a : Nat) (w : Wg) : List (Nat × Nat × Nat) := if a < w.1 ∧ a < w.2 then [(a, w.1, w.2)] else []
def fEdge (A : List (List Wg)) (a : Nat) (w : Wg) : List (Nat × Nat) := (if a < w.1 then [(a, w.1)] else []) ++ (if a < w.2 ∧ plc A (a : Nat) (w.2 : Nat) = none then [(a, w.2)] else [])
def fBord (A : List (List Wg)) (a : Nat) (w : Wg) : List (Nat × Nat) := if plc A (w.1 : Nat) (a : Nat) = none then [(a, w.1)] else []
def Rk {α : Type} (enc : α → List Value) (T k : Nat) (W : World) (B : Nat) (v : Value) (xs : List α) : Prop := W.ownsRow B T k v xs.length (xs.flatMap enc)
theorem below_grown {B : Nat} {W V : World} {row : Option Nat} (h : W.grownBy V row) (hr : ∀ g, row = some g → B ≤ g) (hB : B ≤ W.heap.size) : Below B W V :=
 ⟨h.os, h.tape, h.output, h.size, fun k hk => h.block k (by omega) (fun e => by have := hr k e.symm; omega)⟩
theorem own_later' {W V : World} {B e s n : Nat} {v : Value} {xs : List Value} (h : W.ownsRow B e s v n xs) (hb : Below W.heap.size W V) : V.ownsRow B e s v n xs := own_same h (fun g hg => hb.block g (h.lt g hg).2)
theorem grown_trans {W V U : World} {r : Option Nat} (h : W.grownBy V none) (g : V.grownBy U r) : W.grownBy U r :=
 ⟨g.os.trans h.os, g.tape.trans h.tape, g.output.trans h.output, Nat.le_trans h.size g.size, fun k hk hn => (g.block k (Nat.lt_of_lt_of_le hk h.size) hn).trans (h.block k hk (by simp))⟩
set_option maxHeartbeats 1000000 in
theorem tris_cl {W : World} {B : Nat} {v : Value} {xs : List (Nat × Nat × Nat)} (h : Rk enc_tri 30 3 W B v xs) (hB : B ≤ W.heap.size) (hn : xs.length ≤ 4000000000000) (a b c : Nat) :
   Calls Tryz.prog 59 #[v, .int .i64 (a : Nat), .agg #[.int .i64 (b : Nat), .int .i64 (c : Nat)]] W fun e w' => ∃ v', e = .returned v' ∧ Rk enc_tri 30 3 w' B v' (xs ++ fTri a (b, c)) ∧ Below B W w' := by
 obtain ⟨W1, hW1⟩ : ∃ X, W.alloc (.cells #[.int .i64 (b : Nat), .int .i64 (c : Nat)] 90) = X := ⟨_, rfl⟩
 have b1 : Below W.heap.size W W1 := by rw [← hW1]; exact (Below.refl _ W).alloc (Nat.le_refl _) _
 have k1 : CB W1 W.heap.size #[.int .i64 (b : Nat), .int .i64 (c : Nat)] 90 := by rw [← hW1]; exact CB.new W _ _
 have c1 := k1.cell 0 (by simp)
 have c2 := k1.cell 1 (by simp)
 have HO := Lib.hid (own_later' h b1)
 have HB := Lib.hid (b1.mono hB)
 have HBs := Lib.hid (Nat.le_trans hB b1.size)
 clear k1 b1 hB
 by_cases g1 : a < b
 · have g1' : (a : Int) < (b : Int) := by omega
   by_cases g2 : a < c
   · have g2' : (a : Int) < (c : Int) := by omega
     have HF : Hid (fTri a (b, c) = [(a, b, c)]) := Lib.hid (if_pos ⟨g1, g2⟩)
     have HL : Hid ((xs ++ fTri a (b, c)).length = xs.length + 1 ∧ (xs ++ fTri a (b, c)).flatMap enc_tri = xs.flatMap enc_tri ++ [.int .i64 (a : Nat), .int .i64 (b : Nat), .int .i64 (c : Nat)]) := Lib.hid (by rw [HF.out]; exact ⟨by simp, by rw [List.flatMap_append]; rfl⟩)
     obtain ⟨i0, hi0, hz0, hz1, hz2⟩ := info_parts (show (Tryz.prog.info? 30).map (fun i => (i.zero, i.size, i.bytes)) = some (some (.agg #[.int .i64 0, .int .i64 0, .int .i64 0]), 3, 24) by kernel_rfl)
     clear h
     go_enter Tryz.func59, Tryz.ntmps59
     go_wp2_with (at_builtin; refine wpList_append_own _ rfl _ _ 31 rfl B 30 i0 (.agg #[.int .i64 0, .int .i64 0, .int .i64 0]) 3 24 Tryz.underlying31 hi0 hz0 hz1 hz2 rfl (by decide) v _ (xs.flatMap enc_tri) rfl (World.ownsRow.alloc HO.out _) ⟨W1.heap.size, 0, none⟩ 1 1 [.int .i64 (a : Nat), .int .i64 (b : Nat), .int .i64 (c : Nat)] rfl rfl (World.news_of_block (cs := #[.int .i64 (a : Nat), .int .i64 (b : Nat), .int .i64 (c : Nat)]) (t := 30) (fr := (0, 0)) (heap_alloc_new W1 _)) (by simp [Value.oneCell']) (by unfold maxLen; omega) (by omega) (by have := HBs.out; simp; omega) ?_; intro v9 w9 hw9 hg9 hv9; have HV := Lib.hid (And.intro hw9 hg9); clear hw9 hg9 hv9)
     go_ret
     refine ⟨_, rfl, ?_, HB.out.trans (below_grown (grown_trans (World.grownBy_alloc _ _ none) HV.out.2) (fun g hg => (HO.out.lt g hg).1) HBs.out)⟩
     unfold Rk
     rw [HL.out.1, HL.out.2]
     exact HV.out.1
   · have g2' : ¬ (a : Int) < (c : Int) := by omega
     have HF : Hid (fTri a (b, c) = []) := Lib.hid (if_neg (fun e => g2 e.2))
     clear h
     go_enter Tryz.func59, Tryz.ntmps59
     go_wp2_with fail
     try rw [hW1]
     clear hW1
     go_wp2
     go_ret
     refine ⟨_, rfl, ?_, HB.out⟩
     rw [HF.out, List.append_nil]; exact HO.out
 · have g1' : ¬ (a : Int) < (b : Int) := by omega
   have HF : Hid (fTri a (b, c) = []) := Lib.hid (if_neg (fun e => g1 e.1))
   clear h
   go_enter Tryz.func59, Tryz.ntmps59
   go_wp2_with fail
   try rw [hW1]
   clear hW1
   go_wp2
   go_ret
   refine ⟨_, rfl, ?_, HB.out⟩
   rw [HF.out, List.append_nil]; exact HO.out
theorem rk_app {w : World} {B a u : Nat} {v : Value} {xs : List (Nat × Nat)} (h : w.ownsRow B 71 2 v (xs.length + 1) (xs.flatMap enc_pair ++ [.int .i64 (a : Nat), .int .i64 (u : Nat)])) : Rk enc_pair 71 2 w B v (xs ++ [(a, u)]) := by
 unfold Rk
 rw [List.flatMap_append, List.length_append]
 exact h
set_option maxHeartbeats 4000000 in
theorem bord_cl {S : Nat → Prop} {W0 W : World} {x : Gx} {P : List (Nat × Nat)} {A : List (List Wg)} {F : Int → Int → Option Int} {vs : List Value} (hG : Gd S W0 x P A F vs) {cB : Nat} (hc : W0.cell? ⟨cB, 0, none⟩ = some (.pointer (some ⟨x.gB, 0, none⟩))) (hW : Below W0.heap.size W0 W)
   {v : Value} {xs : List (Nat × Nat)} (h : Rk enc_pair 71 2 W W0.heap.size v xs) (hn : xs.length ≤ 4000000000000) (a b c : Nat) :
   Calls Tryz.prog 62 #[v, .int .i64 (a : Nat), .agg #[.int .i64 (b : Nat), .int .i64 (c : Nat)], .pointer (some ⟨cB, 0, none⟩)] W fun e w' => ∃ v', e = .returned v' ∧ Rk enc_pair 71 2 w' W0.heap.size v' (xs ++ fBord A a (b, c)) ∧ Below W0.heap.size W0 w' := by
 obtain ⟨B, hB⟩ : ∃ B, W0.heap.size = B := ⟨_, rfl⟩
 have HG : Hid (∀ w, Below B W0 w → Gd S w x P A F vs ∧ w.cell? ⟨cB, 0, none⟩ = some (.pointer (some ⟨x.gB, 0, none⟩))) := Lib.hid (fun w hw => by rw [← hB] at hw; exact ⟨hG.later hw, cell_later hw hc⟩)
 rw [hB] at hW h ⊢
 obtain ⟨W1, hW1⟩ : ∃ X, W.alloc (.cells #[.int .i64 (b : Nat), .int .i64 (c : Nat)] 90) = X := ⟨_, rfl⟩
 have b1 : Below W.heap.size W W1 := by rw [← hW1]; exact (Below.refl _ W).alloc (Nat.le_refl _) _
 have k1 : CB W1 W.heap.size #[.int .i64 (b : Nat), .int .i64 (c : Nat)] 90 := by rw [← hW1]; exact CB.new W _ _
 have hBW : B ≤ W.heap.size := by have := hW.size; omega
 have HO := Lib.hid (own_later' h b1)
 have HB := Lib.hid (hW.trans (b1.mono hBW))
 have HBs := Lib.hid (Nat.le_trans hBW b1.size)
 have HK := Lib.hid k1
 have c1 : W1.cell? ⟨W.heap.size, 0, none⟩ = some (.int .i64 (b : Nat)) := k1.cell 0 (by simp)
 have c2 : W1.cell? ⟨W.heap.size, 1, none⟩ = some (.int .i64 (c : Nat)) := k1.cell 1 (by simp)
 have hcW := (HG.out W1 HB.out).2
 clear hG hc hW h b1 k1 hB
 have HL1 := True.intro
 have HL2 := True.intro
 obtain ⟨i0, hi0, hz0, hz1, hz2⟩ := info_parts (show (Tryz.prog.info? 71).map (fun i => (i.zero, i.size, i.bytes)) = some (some (.agg #[.int .i64 0, .int .i64 0]), 2, 16) by kernel_rfl)
 cases hp : (plc A (b : Nat) (a : Nat)).isSome with
 | true =>
   have HF : Hid (fBord A a (b, c) = []) := Lib.hid (if_neg (fun e => by dsimp only at e; rw [e] at hp; cases hp))
   go_enter Tryz.func62, Tryz.ntmps62
   go_wp2_with fail
   try rw [hW1]
   refine (there_any (HG.out _ HB.out).1 (b : Nat) (a : Nat)).mono ?_
   rintro e w' ⟨rfl, hq⟩
   rw [hq]
   clear hq w'
   rw [hp]
   go_wp2
   go_ret
   refine ⟨_, rfl, ?_, HB.out⟩
   rw [HF.out, List.append_nil]; exact HO.out
 | false =>
   have HF : Hid (fBord A a (b, c) = [(a, b)]) := Lib.hid (if_pos (by cases hq : plc A (b : Nat) (a : Nat); rfl; rw [hq] at hp; cases hp))
   have HE : Hid ((xs ++ fBord A a (b, c)).length = xs.length + 1 ∧ (xs ++ fBord A a (b, c)).flatMap enc_pair = xs.flatMap enc_pair ++ [.int .i64 (a : Nat), .int .i64 (b : Nat)]) := Lib.hid (by rw [HF.out]; exact ⟨by simp, by rw [List.flatMap_append]; rfl⟩)
   go_enter Tryz.func62, Tryz.ntmps62
   go_wp2_with fail
   try rw [hW1]
   refine (there_any (HG.out _ HB.out).1 (b : Nat) (a : Nat)).mono ?_
   rintro e w' ⟨rfl, hq⟩
   rw [hq]
   clear hq w'
   rw [hp]
   go_wp2_with (at_builtin; have _t := HL1; refine wpList_append_own _ rfl _ _ 50 rfl B 71 i0 (.agg #[.int .i64 0, .int .i64 0]) 2 16 Tryz.underlying50 hi0 hz0 hz1 hz2 rfl (by decide) v _ (xs.flatMap enc_pair) rfl (World.ownsRow.alloc HO.out _) ⟨W1.heap.size, 0, none⟩ 1 1 [.int .i64 (a : Nat), .int .i64 (b : Nat)] rfl rfl (World.news_of_block (cs := #[.int .i64 (a : Nat), .int .i64 (b : Nat)]) (t := 71) (fr := (0, 0)) (heap_alloc_new W1 _)) (by simp [Value.oneCell']) (by unfold maxLen; omega) (by omega) (by have := HBs.out; simp; omega) ?_; intro v1 w1 hw9 hg9 hv9; have HV1 := Lib.hid (And.intro hw9 hg9); clear hw9 hg9 hv9)
   go_ret
   refine ⟨_, rfl, ?_, HB.out.trans (below_grown (grown_trans (World.grownBy_alloc _ _ none) HV1.out.2) (fun g hg => (HO.out.lt g hg).1) HBs.out)⟩
   unfold Rk
   rw [HE.out.1, HE.out.2]
   exact HV1.out.1
end

/- Package mesh: what a triangle tells: the closures of Tris, Edges, Border. Edges. (gen_mo.py) -/
section
open Go.RowKit Go.Shelf Go.Lib
attribute [local go_sem ↓] Go.wp_at_zero Go.wp_at_succ
set_option maxRecDepth 100000
set_option maxHeartbeats 4000000 in
theorem edge_cl {S : Nat → Prop} {W0 W : World} {x : Gx} {P : List (Nat × Nat)} {A : List (List Wg)} {F : Int → Int → Option Int} {vs : List Value} (hG : Gd S W0 x P A F vs) {cB : Nat} (hc : W0.cell? ⟨cB, 0, none⟩ = some (.pointer (some ⟨x.gB, 0, none⟩))) (hW : Below W0.heap.size W0 W)
   {v : Value} {xs : List (Nat × Nat)} (h : Rk enc_pair 71 2 W W0.heap.size v xs) (hn : xs.length ≤ 4000000000000) (a b c : Nat) :
   Calls Tryz.prog 61 #[v, .int .i64 (a : Nat), .agg #[.int .i64 (b : Nat), .int .i64 (c : Nat)], .pointer (some ⟨cB, 0, none⟩)] W fun e w' => ∃ v', e = .returned v' ∧ Rk enc_pair 71 2 w' W0.heap.size v' (xs ++ fEdge A a (b, c)) ∧ Below W0.heap.size W0 w' := by
 obtain ⟨B, hB⟩ : ∃ B, W0.heap.size = B := ⟨_, rfl⟩
 have HG : Hid (∀ w, Below B W0 w → Gd S w x P A F vs ∧ w.cell? ⟨cB, 0, none⟩ = some (.pointer (some ⟨x.gB, 0, none⟩))) := Lib.hid (fun w hw => by rw [← hB] at hw; exact ⟨hG.later hw, cell_later hw hc⟩)
 rw [hB] at hW h ⊢
 obtain ⟨W1, hW1⟩ : ∃ X, W.alloc (.cells #[.int .i64 (b : Nat), .int .i64 (c : Nat)] 90) = X := ⟨_, rfl⟩
 have b1 : Below W.heap.size W W1 := by rw [← hW1]; exact (Below.refl _ W).alloc (Nat.le_refl _) _
 have k1 : CB W1 W.heap.size #[.int .i64 (b : Nat), .int .i64 (c : Nat)] 90 := by rw [← hW1]; exact CB.new W _ _
 have hBW : B ≤ W.heap.size := by have := hW.size; omega
 have HO := Lib.hid (own_later' h b1)
 have HB := Lib.hid (hW.trans (b1.mono hBW))
 have HBs := Lib.hid (Nat.le_trans hBW b1.size)
 have HK := Lib.hid k1
 have c1 : W1.cell? ⟨W.heap.size, 0, none⟩ = some (.int .i64 (b : Nat)) := k1.cell 0 (by simp)
 have c2 : W1.cell? ⟨W.heap.size, 1, none⟩ = some (.int .i64 (c : Nat)) := k1.cell 1 (by simp)
 have hcW := (HG.out W1 HB.out).2
 clear hG hc hW h b1 k1 hB
 have HL1 := True.intro
 have HL2 := True.intro
 obtain ⟨i0, hi0, hz0, hz1, hz2⟩ := info_parts (show (Tryz.prog.info? 71).map (fun i => (i.zero, i.size, i.bytes)) = some (some (.agg #[.int .i64 0, .int .i64 0]), 2, 16) by kernel_rfl)
 by_cases g1 : a < b
 · have g1' : (a : Int) < (b : Int) := by omega
   by_cases g2 : a < c
   · cases hp : (plc A (a : Nat) (c : Nat)).isSome with
     | true =>
       as_aux_lemma =>
        have g2' : (a : Int) < (c : Int) := by omega
        have HF : Hid (xs ++ fEdge A a (b, c) = (xs ++ [(a, b)]) ++ []) := Lib.hid (by unfold fEdge; rw [if_pos g1, if_neg (fun e => by have := e.2; dsimp only at this; rw [this] at hp; cases hp)]; simp)
        go_enter Tryz.func61, Tryz.ntmps61
        go_wp2_with (first | (at_builtin; have _t := HL1; refine wpList_append_own _ rfl _ _ 50 rfl B 71 i0 (.agg #[.int .i64 0, .int .i64 0]) 2 16 Tryz.underlying50 hi0 hz0 hz1 hz2 rfl (by decide) v _ (xs.flatMap enc_pair) rfl (World.ownsRow.alloc HO.out _) ⟨W1.heap.size, 0, none⟩ 1 1 [.int .i64 (a : Nat), .int .i64 (b : Nat)] rfl rfl (World.news_of_block (cs := #[.int .i64 (a : Nat), .int .i64 (b : Nat)]) (t := 71) (fr := (0, 0)) (heap_alloc_new W1 _)) (by simp [Value.oneCell']) (by unfold maxLen; omega) (by omega) (by have := HBs.out; simp; omega) ?_; intro v1 w1 hw9 hg9 hv9; have HV1 := Lib.hid (And.intro hw9 hg9); clear hw9 hg9 hv9; clear HL1; have HB9 := Lib.hid (HB.out.trans (below_grown (grown_trans (World.grownBy_alloc _ _ none) HV1.out.2) (fun g hg => (HO.out.lt g hg).1) HBs.out)); have HBs9 := Lib.hid (Nat.le_trans HBs.out (Nat.le_trans (World.grownBy_alloc W1 _ none).size HV1.out.2.size)); have hx1 := (HG.out w1 HB9.out).2; have hx2 : w1.cell? ⟨W.heap.size, 1, none⟩ = some (.int .i64 (c : Nat)) := HV1.out.2.cell (cell_later ((Below.refl _ W1).alloc (Nat.le_refl _) _) c2) (fun e => own_cb HO.out HK.out (by decide) e.symm); have HO9 := Lib.hid (rk_app HV1.out.1)) | fail)
        refine (there_any (HG.out _ HB9.out).1 (a : Nat) (c : Nat)).mono ?_
        rintro e w' ⟨rfl, hq⟩
        rw [hq]
        clear hq w'
        rw [hp]
        go_wp2
        go_ret
        refine ⟨_, rfl, ?_, HB9.out⟩
        rw [HF.out, List.append_nil]; exact HO9.out
     | false =>
       as_aux_lemma =>
        have g2' : (a : Int) < (c : Int) := by omega
        have HF : Hid (xs ++ fEdge A a (b, c) = (xs ++ [(a, b)]) ++ [(a, c)]) := Lib.hid (by unfold fEdge; rw [if_pos g1, if_pos ⟨g2, by cases hq : plc A (a : Nat) (c : Nat); rfl; rw [hq] at hp; cases hp⟩]; simp)
        go_enter Tryz.func61, Tryz.ntmps61
        go_wp2_with (first | (at_builtin; have _t := HL1; refine wpList_append_own _ rfl _ _ 50 rfl B 71 i0 (.agg #[.int .i64 0, .int .i64 0]) 2 16 Tryz.underlying50 hi0 hz0 hz1 hz2 rfl (by decide) v _ (xs.flatMap enc_pair) rfl (World.ownsRow.alloc HO.out _) ⟨W1.heap.size, 0, none⟩ 1 1 [.int .i64 (a : Nat), .int .i64 (b : Nat)] rfl rfl (World.news_of_block (cs := #[.int .i64 (a : Nat), .int .i64 (b : Nat)]) (t := 71) (fr := (0, 0)) (heap_alloc_new W1 _)) (by simp [Value.oneCell']) (by unfold maxLen; omega) (by omega) (by have := HBs.out; simp; omega) ?_; intro v1 w1 hw9 hg9 hv9; have HV1 := Lib.hid (And.intro hw9 hg9); clear hw9 hg9 hv9; clear HL1; have HB9 := Lib.hid (HB.out.trans (below_grown (grown_trans (World.grownBy_alloc _ _ none) HV1.out.2) (fun g hg => (HO.out.lt g hg).1) HBs.out)); have HBs9 := Lib.hid (Nat.le_trans HBs.out (Nat.le_trans (World.grownBy_alloc W1 _ none).size HV1.out.2.size)); have hx1 := (HG.out w1 HB9.out).2; have hx2 : w1.cell? ⟨W.heap.size, 1, none⟩ = some (.int .i64 (c : Nat)) := HV1.out.2.cell (cell_later ((Below.refl _ W1).alloc (Nat.le_refl _) _) c2) (fun e => own_cb HO.out HK.out (by decide) e.symm); have HO9 := Lib.hid (rk_app HV1.out.1)) | fail)
        refine (there_any (HG.out _ HB9.out).1 (a : Nat) (c : Nat)).mono ?_
        rintro e w' ⟨rfl, hq⟩
        rw [hq]
        clear hq w'
        rw [hp]
        go_wp2_with (at_builtin; have _t := HL2; refine wpList_append_own _ rfl _ _ 50 rfl B 71 i0 (.agg #[.int .i64 0, .int .i64 0]) 2 16 Tryz.underlying50 hi0 hz0 hz1 hz2 rfl (by decide) v1 _ ((xs ++ [(a, b)]).flatMap enc_pair) rfl (World.ownsRow.alloc HO9.out _) ⟨w1.heap.size, 0, none⟩ 1 1 [.int .i64 (a : Nat), .int .i64 (c : Nat)] rfl rfl (World.news_of_block (cs := #[.int .i64 (a : Nat), .int .i64 (c : Nat)]) (t := 71) (fr := (0, 0)) (heap_alloc_new w1 _)) (by simp [Value.oneCell']) (by unfold maxLen; simp; omega) (by simp; omega) (by have := HBs9.out; simp; omega) ?_; intro v2 w2 hw9 hg9 hv9; have HV2 := Lib.hid (And.intro hw9 hg9); clear hw9 hg9 hv9)
        go_ret
        refine ⟨_, rfl, ?_, HB9.out.trans (below_grown (grown_trans (World.grownBy_alloc _ _ none) HV2.out.2) (fun g hg => (HO9.out.lt g hg).1) HBs9.out)⟩
        rw [HF.out]; exact rk_app HV2.out.1
   · as_aux_lemma =>
      have g2' : ¬ (a : Int) < (c : Int) := by omega
      have HF : Hid (xs ++ fEdge A a (b, c) = (xs ++ [(a, b)]) ++ []) := Lib.hid (by unfold fEdge; rw [if_pos g1, if_neg (fun e => g2 e.1)]; simp)
      go_enter Tryz.func61, Tryz.ntmps61
      go_wp2_with (at_builtin; have _t := HL1; refine wpList_append_own _ rfl _ _ 50 rfl B 71 i0 (.agg #[.int .i64 0, .int .i64 0]) 2 16 Tryz.underlying50 hi0 hz0 hz1 hz2 rfl (by decide) v _ (xs.flatMap enc_pair) rfl (World.ownsRow.alloc HO.out _) ⟨W1.heap.size, 0, none⟩ 1 1 [.int .i64 (a : Nat), .int .i64 (b : Nat)] rfl rfl (World.news_of_block (cs := #[.int .i64 (a : Nat), .int .i64 (b : Nat)]) (t := 71) (fr := (0, 0)) (heap_alloc_new W1 _)) (by simp [Value.oneCell']) (by unfold maxLen; omega) (by omega) (by have := HBs.out; simp; omega) ?_; intro v1 w1 hw9 hg9 hv9; have HV1 := Lib.hid (And.intro hw9 hg9); clear hw9 hg9 hv9; clear HL1; have HB9 := Lib.hid (HB.out.trans (below_grown (grown_trans (World.grownBy_alloc _ _ none) HV1.out.2) (fun g hg => (HO.out.lt g hg).1) HBs.out)); have HBs9 := Lib.hid (Nat.le_trans HBs.out (Nat.le_trans (World.grownBy_alloc W1 _ none).size HV1.out.2.size)); have hx1 := (HG.out w1 HB9.out).2; have hx2 : w1.cell? ⟨W.heap.size, 1, none⟩ = some (.int .i64 (c : Nat)) := HV1.out.2.cell (cell_later ((Below.refl _ W1).alloc (Nat.le_refl _) _) c2) (fun e => own_cb HO.out HK.out (by decide) e.symm); have HO9 := Lib.hid (rk_app HV1.out.1))
      go_ret
      refine ⟨_, rfl, ?_, HB9.out⟩
      rw [HF.out, List.append_nil]; exact HO9.out
 · have g1' : ¬ (a : Int) < (b : Int) := by omega
   by_cases g2 : a < c
   · cases hp : (plc A (a : Nat) (c : Nat)).isSome with
     | true =>
       as_aux_lemma =>
        have g2' : (a : Int) < (c : Int) := by omega
        have HF : Hid (xs ++ fEdge A a (b, c) = xs ++ []) := Lib.hid (by unfold fEdge; rw [if_neg g1, if_neg (fun e => by have := e.2; dsimp only at this; rw [this] at hp; cases hp)]; simp)
        go_enter Tryz.func61, Tryz.ntmps61
        go_wp2_with fail
        try rw [hW1]
        refine (there_any (HG.out _ HB.out).1 (a : Nat) (c : Nat)).mono ?_
        rintro e w' ⟨rfl, hq⟩
        rw [hq]
        clear hq w'
        rw [hp]
        go_wp2
        go_ret
        refine ⟨_, rfl, ?_, HB.out⟩
        rw [HF.out, List.append_nil]; exact HO.out
     | false =>
       as_aux_lemma =>
        have g2' : (a : Int) < (c : Int) := by omega
        have HF : Hid (xs ++ fEdge A a (b, c) = xs ++ [(a, c)]) := Lib.hid (by unfold fEdge; rw [if_neg g1, if_pos ⟨g2, by cases hq : plc A (a : Nat) (c : Nat); rfl; rw [hq] at hp; cases hp⟩]; simp)
        go_enter Tryz.func61, Tryz.ntmps61
        go_wp2_with fail
        try rw [hW1]
        refine (there_any (HG.out _ HB.out).1 (a : Nat) (c : Nat)).mono ?_
        rintro e w' ⟨rfl, hq⟩
        rw [hq]
        clear hq w'
        rw [hp]
        go_wp2_with (at_builtin; have _t := HL1; refine wpList_append_own _ rfl _ _ 50 rfl B 71 i0 (.agg #[.int .i64 0, .int .i64 0]) 2 16 Tryz.underlying50 hi0 hz0 hz1 hz2 rfl (by decide) v _ (xs.flatMap enc_pair) rfl (World.ownsRow.alloc HO.out _) ⟨W1.heap.size, 0, none⟩ 1 1 [.int .i64 (a : Nat), .int .i64 (c : Nat)] rfl rfl (World.news_of_block (cs := #[.int .i64 (a : Nat), .int .i64 (c : Nat)]) (t := 71) (fr := (0, 0)) (heap_alloc_new W1 _)) (by simp [Value.oneCell']) (by unfold maxLen; omega) (by omega) (by have := HBs.out; simp; omega) ?_; intro v1 w1 hw9 hg9 hv9; have HV1 := Lib.hid (And.intro hw9 hg9); clear hw9 hg9 hv9)
        go_ret
        refine ⟨_, rfl, ?_, HB.out.trans (below_grown (grown_trans (World.grownBy_alloc _ _ none) HV1.out.2) (fun g hg => (HO.out.lt g hg).1) HBs.out)⟩
        rw [HF.out]; exact rk_app HV1.out.1
   · as_aux_lemma =>
      have g2' : ¬ (a : Int) < (c : Int) := by omega
      have HF : Hid (xs ++ fEdge A a (b, c) = xs ++ []) := Lib.hid (by unfold fEdge; rw [if_neg g1, if_neg (fun e => g2 e.1)]; simp)
      go_enter Tryz.func61, Tryz.ntmps61
      go_wp2
      go_ret
      refine ⟨_, rfl, ?_, HB.out⟩
      rw [HF.out, List.append_nil]; exact HO.out
end
end Go.Proofs.YtcgbnjoajieggaaGreat
