/- Own texts, put together: Zc Zd. -/
import Derived.Test.YtgfloegaoofbbaaDoorQ6
namespace Go.Proofs.YtgfloegaoofbbaaDoor
/- The reference's trim. -/
section
open Go.RowKit
theorem dgt_eq (ds : List Nat) (E j : Int) : dgt ds E j = if E ≤ j then ds.getD (j - E).toNat 0 else 0 := by
 unfold dgt
 by_cases h : E ≤ j
 · by_cases h2 : j < E + (ds.length : Int)
   · rw [if_pos ⟨h, h2⟩, if_pos h]
   · rw [if_neg (by omega), if_pos h]
     simp [List.getD, List.getElem?_eq_none (by omega : ds.length ≤ (j - E).toNat)]
 · rw [if_neg (by omega), if_neg h]
theorem dgt_nil (E j : Int) : dgt [] E j = 0 := by rw [dgt_eq]; split <;> simp
theorem dgt_zero {ds : List Nat} {E j : Int} (h : ∀ i, ds.getD i 0 = 0) : dgt ds E j = 0 := by rw [dgt_eq]; split; exact h _; rfl
theorem cut_getD {ds : List Nat} {n k i : Nat} (h : k + i < n) : ((ds.take n).drop k).getD i 0 = ds.getD (k + i) 0 := by
 simp [List.getD, List.getElem?_drop, h]
theorem dgt_cut {ds : List Nat} {E : Int} {n k : Nat} (_hk : k ≤ n) (h1 : ∀ j, j < k → ds.getD j 0 = 0) (h2 : ∀ j, n ≤ j → ds.getD j 0 = 0) (j : Int) : dgt ((ds.take n).drop k) (E + (k : Int)) j = dgt ds E j := by
 rw [dgt_eq, dgt_eq]
 by_cases a : E ≤ j
 · by_cases b : E + (k : Int) ≤ j
   · rw [if_pos a, if_pos b]
     by_cases c : (j - E).toNat < n
     · rw [cut_getD (by omega)]; congr 1; omega
     · rw [h2 _ (by omega)]
       simp [List.getD, List.getElem?_drop, List.getElem?_take]
       rw [if_neg (by omega)]; rfl
   · rw [if_pos a, if_neg b, h1 _ (by omega)]
 · rw [if_neg a, if_neg (by omega)]
def TrimR (w w' : World) (S : Int) (ds : List Nat) (E : Int) (e : Ending) : Prop :=
 ∃ v S' ds' E', e = .returned v ∧ Dig w' v S' ds' E' ∧ (∀ j, dgt ds' E' j = dgt ds E j) ∧ ((ds' = [] ∧ S' = 0 ∧ E' = 0) ∨ (ds' ≠ [] ∧ S' = S ∧ ds'.getD 0 0 ≠ 0 ∧ ds'.getD (ds'.length - 1) 0 ≠ 0)) ∧ Below w.heap.size w w'
set_option maxHeartbeats 4000000 in
theorem trim_walk (g off c : Nat) (S E : Int) (ds : List Nat) (w : World) (hc : ∀ k, k < ds.length → w.cell? ⟨g, off + k, none⟩ = some (.int .i64 (ds.getD k 0 : Nat))) (hsm : ∀ d ∈ ds, d < 16777216) (hlen : ds.length ≤ 1000000) (hcap : ds.length ≤ c) (h1 : -1000000 ≤ E) (h2 : E + (ds.length : Int) ≤ 1000000) (hir : IntRow w g) :
   Calls Tryd.prog 36 #[.agg #[.int .i64 S, .slice (some ⟨g, off, none⟩) ds.length c, .int .i64 E]] w fun e w' => TrimR w w' S ds E e := by
 have hg : g < w.heap.size := hir.lt
 have HIR : Hid (IntRow w g) := hir
 clear hir
 have HC : Hid (∀ k, k < ds.length → w.cell? ⟨g, off + k, none⟩ = some (.int .i64 (ds.getD k 0 : Nat))) := hc
 have l1 : (ds.length : Int) ≤ 1000000 := by omega
 clear hc
 go_enter Tryd.func36, Tryd.ntmps36
 go_wp2
 go_loop [3] (fun s => ∃ n : Nat, n ≤ ds.length ∧ s = .slice (some ⟨g, off, none⟩) n c ∧ Hid (∀ j, n ≤ j → ds.getD j 0 = 0)) (fun s => match s with | .slice _ n _ => n | _ => 0)
 case atStart => exact ⟨_, Nat.le_refl _, rfl, fun j hj => by simp [List.getD, List.getElem?_eq_none hj]⟩
 case round =>
   obtain ⟨n, hn, rfl, hz⟩ := hrel
   by_cases h0 : n = 0
   · subst h0
     have HL : Hid (0 < 0 → ds.getD (0 - 1) 0 ≠ 0) := fun h => by omega
     go_wp2
     go_loop [3, 4] (fun s e => ∃ (k m cc : Nat) (ad : Option Addr), k + m = 0 ∧ m ≤ cc ∧ (m = 0 ∨ ad = some ⟨g, off + k, none⟩) ∧ s = .slice ad m cc ∧ e = .int .i64 (E + (k : Int)) ∧ Hid (∀ j, j < k → ds.getD j 0 = 0)) (fun s _ => match s with | .slice _ n _ => n | _ => 0)
     case atStart => exact ⟨0, 0, c, _, by omega, by omega, Or.inr rfl, rfl, by simp, fun j hj => by omega⟩
     case round =>
       obtain ⟨k, m, cc, ad, hkm, hmc, had, rfl, rfl, hy⟩ := hrel
       by_cases m0 : m = 0
       · subst m0
         clear had
         go_wp2
         refine bodyPost_ret (v := .agg #[.int .i64 0, .slice none 0 0, .int .i64 0]) (by simp [results, Tryd.results36, go_sem]) rfl ?_
         refine ⟨_, 0, [], 0, rfl, ⟨⟨none, 0, rfl, by simp, Or.inl rfl⟩, by simp, by simp, by omega, by omega⟩, ?_, Or.inl ⟨rfl, rfl, rfl⟩, ?_⟩
         · intro j
           rw [dgt_nil]
           exact (dgt_zero (fun i => by
             by_cases hi : i < k
             · exact hy.out i hi
             · exact hz.out i (by omega))).symm
         · repeat (first | exact Below.refl _ _ | refine Below.alloc ?_ (by simp) _ | refine Below.setCell ?_ (by simp) _)
       · exact absurd hkm (by omega)
   · obtain ⟨q, rfl⟩ : ∃ q, n = q + 1 := ⟨n - 1, by omega⟩
     have hcq : ((w.alloc (.cells #[.int .i64 S, .slice (some ⟨g, off, none⟩) ds.length c, .int .i64 E] 67)).alloc (.cells #[.int .i64 0, .slice none 0 0, .int .i64 0] 67)).cell? ⟨g, off + q, none⟩ = some (.int .i64 (ds.getD q 0 : Nat)) := by
       rw [World.cell?_alloc_lt _ _ _ (by simp; omega), World.cell?_alloc_lt _ _ _ hg]; exact HC.out q (by omega)
     by_cases hw : ds.getD q 0 = 0
     · rw [hw] at hcq
       have hz' : Hid (∀ j, q ≤ j → ds.getD j 0 = 0) := fun j hj => by
         by_cases e : j = q
         · rw [e]; exact hw
         · exact hz.out j (by omega)
       clear hw hz
       go_wp2
       go_round
       case rel => exact ⟨q, by omega, by go_num, hz'⟩
       case measure => simp
     · have HL : Hid (0 < q + 1 → ds.getD (q + 1 - 1) 0 ≠ 0) := fun _ => hw
       have hwq : (((ds.getD q 0 : Nat) : Int) == 0) = false := by rw [beq_eq_false_iff_ne]; omega
       obtain ⟨x0, hx0⟩ : ∃ x, Hid (ds.getD q 0 = x) := ⟨_, rfl⟩
       rw [hx0.out] at hcq hwq
       clear hw
       go_wp2
       clear hcq hwq
       go_loop [3, 4] (fun s e => ∃ (k m cc : Nat) (ad : Option Addr), k + m = (q + 1) ∧ m ≤ cc ∧ (m = 0 ∨ ad = some ⟨g, off + k, none⟩) ∧ s = .slice ad m cc ∧ e = .int .i64 (E + (k : Int)) ∧ Hid (∀ j, j < k → ds.getD j 0 = 0)) (fun s _ => match s with | .slice _ n _ => n | _ => 0)
       case atStart => exact ⟨0, (q + 1), c, _, by omega, by omega, Or.inr rfl, rfl, by simp, fun j hj => by omega⟩
       case round =>
         obtain ⟨k, m, cc, ad, hkm, hmc, had, rfl, rfl, hy⟩ := hrel
         by_cases m0 : m = 0
         · subst m0
           clear had
           go_wp2
           refine bodyPost_ret (v := .agg #[.int .i64 0, .slice none 0 0, .int .i64 0]) (by simp [results, Tryd.results36, go_sem]) rfl ?_
           refine ⟨_, 0, [], 0, rfl, ⟨⟨none, 0, rfl, by simp, Or.inl rfl⟩, by simp, by simp, by omega, by omega⟩, ?_, Or.inl ⟨rfl, rfl, rfl⟩, ?_⟩
           · intro j
             rw [dgt_nil]
             exact (dgt_zero (fun i => by
               by_cases hi : i < k
               · exact hy.out i hi
               · exact hz.out i (by omega))).symm
           · repeat (first | exact Below.refl _ _ | refine Below.alloc ?_ (by simp) _ | refine Below.setCell ?_ (by simp) _)
         · obtain ⟨p, rfl⟩ : ∃ p, m = p + 1 := ⟨m - 1, by omega⟩
           obtain rfl : ad = some ⟨g, off + k, none⟩ := had.resolve_left m0
           clear had
           have hck : ((w.alloc (.cells #[.int .i64 S, .slice (some ⟨g, off, none⟩) ds.length c, .int .i64 E] 67)).alloc (.cells #[.int .i64 0, .slice none 0 0, .int .i64 0] 67)).cell? ⟨g, off + k, none⟩ = some (.int .i64 (ds.getD k 0 : Nat)) := by
             rw [World.cell?_alloc_lt _ _ _ (by simp; omega), World.cell?_alloc_lt _ _ _ hg]; exact HC.out k (by omega)
           by_cases hw : ds.getD k 0 = 0
           · rw [hw] at hck
             have hki : (k : Int) ≤ 1000000 := by omega
             have hy' : Hid (∀ j, j < k + 1 → ds.getD j 0 = 0) := fun j hj => by
               by_cases e : j = k
               · rw [e]; exact hw
               · exact hy.out j (by omega)
             have wk : IntKind.i64.wrap (E + (k : Int) + 1) = E + ((k + 1 : Nat) : Int) := by rw [show E + (k : Int) + 1 = E + ((k + 1 : Nat) : Int) by omega]; exact wrapE _ (by omega) (by omega)
             have hcc : (1 : Int) ≤ (cc : Int) := by omega
             have hpp : (p : Int) + 1 ≤ (cc : Int) := by omega
             clear hw hy
             go_wp2
             go_round
             case rel =>
               refine ⟨k + 1, p, cc - 1, _, by omega, by omega, ?_, rfl, by simp, hy'⟩
               by_cases e : cc = 1
               · left; omega
               · right; rw [if_neg e]; rfl
             case measure => simp
           · have hwq : (((ds.getD k 0 : Nat) : Int) == 0) = false := by rw [beq_eq_false_iff_ne]; omega
             have HW : Hid (ds.getD k 0 ≠ 0) := hw
             obtain ⟨x, hx⟩ : ∃ x, Hid (ds.getD k 0 = x) := ⟨_, rfl⟩
             rw [hx.out] at hck hwq
             clear hw
             go_wp2
             refine bodyPost_ret (v := .agg #[.int .i64 S, .slice (some ⟨g, off + k, none⟩) (p + 1) cc, .int .i64 (E + (k : Int))]) (by simp [results, Tryd.results36, go_sem]) rfl ?_
             have hl : ((ds.take ((q + 1))).drop k).length = p + 1 := by simp; omega
             refine ⟨_, S, (ds.take ((q + 1))).drop k, E + (k : Int), rfl, ⟨⟨some ⟨g, off + k, none⟩, cc, by rw [hl], by rw [hl]; exact hmc, Or.inr ⟨g, off + k, rfl, ?_, (HIR.out.alloc _).alloc _⟩⟩, fun d hd => hsm d (List.mem_of_mem_take (List.mem_of_mem_drop hd)), by omega, by omega, by omega⟩, fun j => dgt_cut (by omega) hy.out hz.out j, Or.inr ⟨by intro h; rw [h] at hl; simp at hl, rfl, ?_, ?_⟩, ?_⟩
             · intro i hi
               rw [cut_getD (by omega), show off + k + i = off + (k + i) by omega]
               rw [World.cell?_alloc_lt _ _ _ (by simp; omega), World.cell?_alloc_lt _ _ _ hg]; exact HC.out (k + i) (by omega)
             · rw [cut_getD (by omega)]; exact HW.out
             · rw [hl, cut_getD (by omega), show k + (p + 1 - 1) = (q + 1) - 1 by omega]; exact HL.out (by omega)
             · repeat (first | exact Below.refl _ _ | refine Below.alloc ?_ (by simp) _ | refine Below.setCell ?_ (by simp) _)
end

/- The reference's Neg; trim of any number. -/
section
open Go.RowKit
theorem wrap_neg1 {S : Int} (h : S = -1 ∨ S = 0 ∨ S = 1) : IntKind.i64.wrap (-S) = -S := wrapE _ (by omega) (by omega)
set_option maxHeartbeats 1000000 in
theorem refNeg_walk (a : Option Addr) (n c : Nat) (S E : Int) (w : World) (hS : S = -1 ∨ S = 0 ∨ S = 1) :
   Calls Tryd.prog 34 #[.agg #[.int .i64 S, .slice a n c, .int .i64 E]] w fun e w' => e = .returned (.agg #[.int .i64 (-S), .slice a n c, .int .i64 E]) ∧ Below w.heap.size w w' := by
 have hw := wrap_neg1 hS
 clear hS
 go_enter Tryd.func34, Tryd.ntmps34
 go_wp2
 refine bodyPost_ret (v := .agg #[.int .i64 (-S), .slice a n c, .int .i64 E]) (by simp [results, Tryd.results34, go_sem]) rfl ?_
 refine ⟨rfl, ?_⟩
 repeat (first | exact Below.refl _ _ | refine Below.drew ?_ | refine Below.alloc ?_ (by simp) _ | refine Below.setCell ?_ (by simp) _)
set_option maxHeartbeats 1000000 in
theorem trim_nil (a : Option Addr) (c : Nat) (S E : Int) (w : World) :
   Calls Tryd.prog 36 #[.agg #[.int .i64 S, .slice a 0 c, .int .i64 E]] w fun e w' => TrimR w w' S [] E e := by
 go_enter Tryd.func36, Tryd.ntmps36
 go_wp2
 go_loop [3] (fun s => s = .slice a 0 c) (fun _ => 0)
 case atStart => rfl
 case round =>
   subst hrel
   go_wp2
   go_loop [3, 4] (fun s e => s = .slice a 0 c ∧ e = .int .i64 E) (fun _ _ => 0)
   case atStart => exact ⟨rfl, rfl⟩
   case round =>
     obtain ⟨rfl, rfl⟩ := hrel
     go_wp2
     refine bodyPost_ret (v := .agg #[.int .i64 0, .slice none 0 0, .int .i64 0]) (by simp [results, Tryd.results36, go_sem]) rfl ?_
     refine ⟨_, 0, [], 0, rfl, ⟨⟨none, 0, rfl, by simp, Or.inl rfl⟩, by simp, by simp, by omega, by omega⟩, fun j => by rw [dgt_nil, dgt_nil], Or.inl ⟨rfl, rfl, rfl⟩, ?_⟩
     repeat (first | exact Below.refl _ _ | refine Below.alloc ?_ (by simp) _ | refine Below.setCell ?_ (by simp) _)
theorem trim_any (v : Value) (S E : Int) (ds : List Nat) (w : World) (h : Dig w v S ds E) (hE : E + (ds.length : Int) ≤ 1000000) :
   Calls Tryd.prog 36 #[v] w fun e w' => TrimR w w' S ds E e := by
 obtain ⟨⟨a, c, rfl, hcap, hf⟩, h2, h3, h4, h5⟩ := h
 by_cases h0 : ds = []
 · subst h0
   exact trim_nil a c S E w
 · rcases hf with hf | ⟨g, off, rfl, hf, hr⟩
   · exact absurd hf h0
   · have hl : 0 < ds.length := List.length_pos_iff.2 h0
     exact trim_walk g off c S E ds w hf h2 h3 hcap h4 hE hr
theorem refNeg_any (v : Value) (S E : Int) (ds : List Nat) (w : World) (h : Dig w v S ds E) (hS : S = -1 ∨ S = 0 ∨ S = 1) :
   Calls Tryd.prog 34 #[v] w fun e w' => (∃ v', e = .returned v' ∧ Dig w' v' (-S) ds E) ∧ Below w.heap.size w w' := by
 obtain ⟨⟨a, c, rfl, hcap, hf⟩, h2, h3, h4, h5⟩ := h
 refine (refNeg_walk a ds.length c S E w hS).mono ?_
 rintro e w' ⟨rfl, hb⟩
 have hd : Dig w (.agg #[.int .i64 (-S), .slice a ds.length c, .int .i64 E]) (-S) ds E := ⟨⟨a, c, rfl, hcap, hf⟩, h2, h3, h4, h5⟩
 exact ⟨⟨_, rfl, hd.later hb⟩, hb⟩
end
end Go.Proofs.YtgfloegaoofbbaaDoor
