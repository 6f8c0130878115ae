import Derived.Test.YtgpbfhennineiaaQ29
import Derived.Laws.AppendOwn
import Derived.Laws.OwnMore
/- AdmitNames: what it asks of package math; lists of all lengths. -/
namespace Go.Proofs.Ytgpbfhennineiaa
open Go.RowKit Go.Shelf Go.Sort Go.Lib
attribute [local go_sem ↓] Go.wp_at_zero Go.wp_at_succ
attribute [local go_sem] run_store_float

theorem AllR.fun' {n : Nat} {f : Nat → Nat × Nat} {z e z' e' : Int} (h : AllR n f z e) (h' : AllR n f z' e') : z = z' ∧ e = e' := by
 rcases h with ⟨h1, rfl, rfl⟩ | ⟨h1, h2, rfl, rfl⟩ | ⟨h1, k, hk, h2, h3, rfl, rfl⟩ <;> rcases h' with ⟨g1, rfl, rfl⟩ | ⟨g1, g2, rfl, rfl⟩ | ⟨g1, j, hj, g2, g3, rfl, rfl⟩
 · exact ⟨rfl, rfl⟩
 · omega
 · omega
 · omega
 · exact ⟨rfl, rfl⟩
 · exact absurd (h2 j hj) g2
 · omega
 · exact absurd (g2 k hk) h2
 · refine ⟨?_, rfl⟩
   rcases Nat.lt_trichotomy k j with e | e | e
   · exact absurd (g3 k e) h2
   · rw [e]
   · exact absurd (h3 j e) g2
set_option maxRecDepth 100000 in
theorem nan7_is (w : World) : Calls Try.prog 10 #[] w fun e w' => e = .returned (.float .f64 9221120237041090561) ∧ w' = w := by
 have b1 := run_frombits 9221120237041090561
 rw [show ((9221120237041090561 : Nat) : Int) = 9221120237041090561 from rfl] at b1
 go_enter Try.func10, Try.ntmps10
 go_wp2
 go_ret
 exact ⟨rfl, rfl⟩
set_option maxRecDepth 100000 in
theorem inf7_is (w : World) : Calls Try.prog 15 #[.int .i64 1] w fun e w' => e = .returned (.float .f64 9218868437227405312) ∧ w' = w := by
 have b1 := run_frombits 9218868437227405312
 rw [show ((9218868437227405312 : Nat) : Int) = 9218868437227405312 from rfl] at b1
 go_enter Try.func15, Try.ntmps15
 go_wp2
 go_ret
 exact ⟨rfl, rfl⟩
set_option maxRecDepth 100000 in
theorem next7_is (w : World) : Calls Try.prog 14 #[.float .f64 5057542381537067008, .float .f64 9218868437227405312] w fun e w' => e = .returned (.float .f64 5057542381537067009) ∧ w' = w := by
 have c1 : isnan 5057542381537067008 = false := by decide +kernel
 have c2 : isnan 9218868437227405312 = false := by decide +kernel
 have HN1 : Hid (∀ w, Calls Try.prog 27 #[.float .f64 5057542381537067008] w fun e w' => e = .returned (.bool false) ∧ w' = w) := fun w => by have := isNaN_any 5057542381537067008 w; rwa [c1] at this
 have HN2 : Hid (∀ w, Calls Try.prog 27 #[.float .f64 9218868437227405312] w fun e w' => e = .returned (.bool false) ∧ w' = w) := fun w => by have := isNaN_any 9218868437227405312 w; rwa [c2] at this
 have o1 : FloatKind.f64.format.order 5057542381537067008 9218868437227405312 = some .lt := by decide +kernel
 have o2 : FloatKind.f64.format.order 5057542381537067008 0 = some .gt := by decide +kernel
 have o3 : FloatKind.f64.format.order 9218868437227405312 5057542381537067008 = some .gt := by decide +kernel
 have b1 := run_bits 5057542381537067008
 have b2 := run_frombits 5057542381537067009
 rw [show ((5057542381537067008 : Nat) : Int) = 5057542381537067008 from rfl] at b1
 rw [show ((5057542381537067009 : Nat) : Int) = 5057542381537067009 from rfl] at b2
 have wr : IntKind.u64.wrap 5057542381537067009 = 5057542381537067009 := by decide
 clear c1 c2
 go_enter Try.func14, Try.ntmps14
 go_wp2_with fail
 refine (HN1.out _).mono ?_
 rintro e w1 ⟨rfl, rfl⟩
 go_wp2_with fail
 refine (HN2.out _).mono ?_
 rintro e w1 ⟨rfl, rfl⟩
 go_wp2
 go_ret
 exact ⟨rfl, rfl⟩

set_option maxRecDepth 100000 in
theorem infm_is (w : World) : Calls Try.prog 15 #[.int .i64 (-1)] w fun e w' => e = .returned (.float .f64 18442240474082181120) ∧ w' = w := by
 have b1 := run_frombits 18442240474082181120
 rw [show ((18442240474082181120 : Nat) : Int) = 18442240474082181120 from rfl] at b1
 go_enter Try.func15, Try.ntmps15
 go_wp2
 go_ret
 exact ⟨rfl, rfl⟩
set_option maxRecDepth 100000 in
theorem csign7_is (w : World) : Calls Try.prog 11 #[.float .f64 0, .float .f64 13830554455654793216] w fun e w' => e = .returned (.float .f64 9223372036854775808) ∧ w' = w := by
 have b1 := run_bits 0
 have b2 := run_bits 13830554455654793216
 have b3 := run_frombits 9223372036854775808
 rw [show ((0 : Nat) : Int) = 0 from rfl] at b1
 rw [show ((13830554455654793216 : Nat) : Int) = 13830554455654793216 from rfl] at b2
 rw [show ((9223372036854775808 : Nat) : Int) = 9223372036854775808 from rfl] at b3
 have e3 : bits .or .u64 (bits .andNot .u64 0 9223372036854775808) (bits .and .u64 13830554455654793216 9223372036854775808) = 9223372036854775808 := by decide +kernel
 go_enter Try.func11, Try.ntmps11
 go_wp2
 go_ret
 exact ⟨rfl, rfl⟩
theorem allBig_any (a : Option Addr) (n c : Nat) (w : World) (h : 1048576 < n) : Calls Try.prog 9 #[.slice a n c] w fun e w' => e = .returned (.tuple #[.int .i64 0, .int .i64 3]) ∧ w' = w := by
 have hbig' : (1048576 : Int) < (n : Int) := by omega
 go_enter Try.func9, Try.ntmps9
 go_wp2
 go_ret2
 exact ⟨rfl, rfl⟩

set_option maxRecDepth 100000 in
theorem big_gen (n : Nat) (hn : n ≤ 1048576) : ∃ B : Array Value, B.size = n * 2 ∧ (∀ k, k < n * 2 → B[k]? = some (.float .f64 0)) ∧
   ∀ W : World, (Instr.makeSlice 30 (.int .i64 (n : Int)) (.int .i64 (n : Int))).run Try.prog W = .ok (.slice (some ⟨W.heap.size, 0, none⟩) n n) (W.alloc (.cells B 28)) := by
 obtain ⟨i0, hi0, hz0, hz1, hz2⟩ := info_parts (show (Try.prog.info? 28).map (fun i => (i.zero, i.size, i.bytes)) = some (some (.agg #[.float .f64 0, .float .f64 0]), 2, 16) by kernel_rfl)
 refine ⟨madeCells #[.float .f64 0, .float .f64 0] (n * 2), size_madeCells _ _, fun k hk => ?_, fun W => ?_⟩
 · have h2 : k < (madeCells #[.float .f64 0, .float .f64 0] (n * 2)).size := by rw [size_madeCells]; exact hk
   rw [Array.getElem?_eq_getElem h2]
   congr 1
   simp only [madeCells, Array.getElem_map, Array.getElem_range]
   show (#[Value.float .f64 0, Value.float .f64 0] : Array Value)[k % 2]! = _
   rcases Nat.mod_two_eq_zero_or_one k with h | h <;> rw [h] <;> rfl
 · have h := run_make (P := Try.prog) W 30 28 i0 _ Try.underlying30 hi0 hz0 .i64 .i64 n n (by omega) (Int.le_refl _) (by rw [hz2]; omega) (by omega)
   rw [h, hz1]
   simp only [Int.toNat_natCast]
   rfl
structure Big (B : Array Value) : Prop where
 size : B.size = 2097152
 at' : ∀ k, k < 2097152 → B[k]? = some (.float .f64 0)
theorem Big.ps {B : Array Value} (h : Big B) (W : World) : Ps (W.alloc (.cells B 28)) (.slice (some ⟨W.heap.size, 0, none⟩) 1048576 1048576) 1048576 (fun _ => (0, 0)) :=
 ⟨⟨some ⟨W.heap.size, 0, none⟩, 1048576, rfl, Nat.le_refl _, by omega, Or.inr ⟨W.heap.size, 0, rfl, by simp, fun k hk => by
   have h2 := heap_new W (.cells B 28)
   simp only [World.cell?, h2]
   exact ⟨h.at' _ (by omega), h.at' _ (by omega)⟩⟩⟩, fun _ => by unfold WdP; decide⟩
theorem pt00 : PtP (0, 0) := by decide +kernel
theorem nbig : AllR 1048576 (fun _ => (0, 0)) 0 0 := Or.inr (Or.inl ⟨Nat.le_refl _, fun _ _ => pt00, rfl, rfl⟩)
theorem Big.own {B : Array Value} (h : Big B) {W : World} {base b : Nat} (hb : base ≤ b) (hh : W.heap[b]? = some (.cells B 28 (0, 0))) : W.ownsRow base 28 2 (.slice (some ⟨b, 0, none⟩) 1048576 1048576) 1048576 B.toList :=
 ⟨by rw [Array.length_toList, h.size], Or.inr ⟨b, 1048576, B, rfl, hb, hh, Nat.le_refl _, by unfold maxLen; omega, h.size, List.take_of_length_le (by rw [Array.length_toList, h.size]; exact Nat.le_refl _)⟩⟩
theorem big_ex : ∃ B : Array Value, Big B ∧ ∀ W : World, (Instr.makeSlice 30 (.int .i64 1048576) (.int .i64 1048576)).run Try.prog W = .ok (.slice (some ⟨W.heap.size, 0, none⟩) 1048576 1048576) (W.alloc (.cells B 28)) := by
 obtain ⟨B, h1, h2, h3⟩ := big_gen 1048576 (Nat.le_refl _)
 exact ⟨B, ⟨h1, h2⟩, h3⟩
section
variable {P : Program} {ops : Array Oper} {Q : Exit → Act → World → Prop} {md : Region.Mode} {S : World → Prop}
theorem call_at2 (i j : Nat) {fuel : Nat} {listed : Array Bool} {a : Act} {w : World} (hr : Region.ready md ops listed = [i, j])
   (hi : (ops[i]?).isSome = true) (hj : (ops[j]?).isSome = true)
   (h : ∀ o, ops[i]? = some o → ∀ K' : Act → World → Prop, Shut (∀ a w, S w → (S w → wpAnyH P md ops Q S fuel (listed.setIfInBounds i true) a w) → K' a w) → if Region.wanted o (yielded ops a.tmps) = true then Oper.wp P o a w K' Q else K' (a.put o.dst undef) w)
   (h' : ∀ o, ops[j]? = some o → ∀ K' : Act → World → Prop, Shut (∀ a w, S w → (S w → wpAnyH P md ops Q S fuel (listed.setIfInBounds j true) a w) → K' a w) → if Region.wanted o (yielded ops a.tmps) = true then Oper.wp P o a w K' Q else K' (a.put o.dst undef) w) :
   wpAnyH P md ops Q S (fuel + 1) listed a w := by
 obtain ⟨o, ho⟩ := Option.isSome_iff_exists.1 hi
 obtain ⟨o', ho'⟩ := Option.isSome_iff_exists.1 hj
 exact wpAnyH_ready hr (by simp) (AllReadyH.cons ho (h o ho) (AllReadyH.cons ho' (h' o' ho') AllReadyH.nil))
end
theorem psNew2 (w : World) (x0 y0 x1 y1 : Nat) (hw : ∀ p ∈ [(x0, y0), (x1, y1)], WdP p) : Ps (w.alloc (.cells #[.float .f64 x0, .float .f64 y0, .float .f64 x1, .float .f64 y1] 28)) (.slice (some ⟨w.heap.size, 0, none⟩) 2 2) 2 (fL [(x0, y0), (x1, y1)]) :=
 ⟨⟨some ⟨w.heap.size, 0, none⟩, 2, rfl, by omega, by omega, Or.inr ⟨w.heap.size, 0, rfl, by simp, fun k hk => by
   have : k = 0 ∨ k = 1 := by omega
   rcases this with rfl | rfl
   · exact ⟨by go_simp; rfl, by go_simp; rfl⟩
   · exact ⟨by go_simp; rfl, by go_simp; rfl⟩⟩⟩, fL_word hw⟩

end Go.Proofs.Ytgpbfhennineiaa
