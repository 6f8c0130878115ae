/- Own texts, put together: Xh Xi. -/
import Derived.Test.YtcgbnjoajieggaaGreatQ26
namespace Go.Proofs.YtcgbnjoajieggaaGreat
/- Package expand: lists of its own; a list that grows; a list turned about. -/
section
open Go.RowKit
def f64s (bs : List Nat) : List Value := bs.map (Value.float .f64)
theorem infoF : (Tryz.prog.info? 33).map (fun i => (i.zero, i.size, i.bytes)) = some (some (.float .f64 0), 1, 8) := by kernel_rfl
theorem undF : Tryz.prog.underlying 134 = some (.slice 33) := by kernel_rfl
structure Fr (w : World) (B : Nat) (v : Value) (bs : List Nat) : Prop where
 own : w.ownsRow B 33 1 v bs.length (f64s bs)
 word : ∀ b ∈ bs, b < 18446744073709551616
theorem Fr.fs {w : World} {B : Nat} {v : Value} {bs : List Nat} (h : Fr w B v bs) : Fs w v bs := by
 refine ⟨?_, h.word⟩
 rcases h.own.2 with ⟨h1, h2⟩ | ⟨g, cap, cur, h1, h2, h3, h4, h5, _⟩
 · exact ⟨none, 0, by rw [h1, h2], by omega, by omega, Or.inl (List.eq_nil_of_length_eq_zero h2)⟩
 · refine ⟨_, cap, h1, h4, by unfold maxLen at h5; omega, Or.inr ⟨g, 0, rfl, fun k hk => ?_⟩⟩
   have := h.own.cells (g := g) (by rw [h1]; rfl) k (.float .f64 (bs.getD k 0)) (by simp [f64s, List.getD, hk])
   rwa [show (⟨g, 0, none⟩ : Addr).add k = ⟨g, 0 + k, none⟩ by unfold Addr.add; split <;> simp_all] at this
theorem Fr.mono {w : World} {B B' : Nat} {v : Value} {bs : List Nat} (h : Fr w B v bs) (hB : B' ≤ B) : Fr w B' v bs := by
 refine ⟨⟨h.own.1, ?_⟩, h.word⟩
 rcases h.own.2 with h1 | ⟨g, cap, cur, h1, h2, h3⟩
 · exact Or.inl h1
 · exact Or.inr ⟨g, cap, cur, h1, by omega, h3⟩
theorem Fr.later {w w' : World} {B : Nat} {v : Value} {bs : List Nat} (h : Fr w B v bs) (hb : Below w.heap.size w w') : Fr w' B v bs := by
 refine ⟨⟨h.own.1, ?_⟩, h.word⟩
 rcases h.own.2 with h1 | ⟨g, cap, cur, h1, h2, h3, h4⟩
 · exact Or.inl h1
 · refine Or.inr ⟨g, cap, cur, h1, h2, ?_, h4⟩
   rw [hb.block g (Array.getElem?_eq_some_iff.1 h3).1]; exact h3
theorem Fr.nil (w : World) (B : Nat) : Fr w B (.slice none 0 0) [] := ⟨World.ownsRow_nil w B _ 1, fun b hb => by cases hb⟩
theorem Fr.low {w : World} {B : Nat} {v : Value} {bs : List Nat} (h : Fr w B v bs) {a : Addr} (hb : a.block < B) (x : Value) : Fr (w.setCell a x) B v bs :=
 ⟨ownsRow_setCell_below h.own hb x, h.word⟩
def gw (bs : List Nat) (x : Nat) : List Nat := if frung x = 0 then bs else bs ++ [x]
set_option maxRecDepth 100000 in
set_option maxHeartbeats 1000000 in
theorem grown_any (B : Nat) (v : Value) (bs : List Nat) (x : Nat) (w : World) (h : Fr w B v bs) (hB : B ≤ w.heap.size) (hx : x < 18446744073709551616) (hl : bs.length ≤ 1000000) :
   Calls Tryz.prog 175 #[v, .float .f64 x] w fun e w' => (∃ v', e = .returned v' ∧ Fr w' B v' (gw bs x)) ∧ Below B w w' := by
 have H : Hid (Fr w B v bs) := h
 have HX : Hid (x < 18446744073709551616) := hx
 have q := eql_zero2 x
 clear h hx
 by_cases h0 : frung x = 0
 · rw [decide_eq_true h0] at q
   have HG : Hid (gw bs x = bs) := by show gw bs x = bs; unfold gw; rw [if_pos h0]
   clear h0
   go_enter Tryz.func175, Tryz.ntmps175
   go_wp2
   go_ret
   exact ⟨⟨v, rfl, by rw [HG.out]; exact H.out⟩, Below.refl _ _⟩
 · rw [decide_eq_false h0] at q
   have HG : Hid (gw bs x = bs ++ [x]) := by show gw bs x = _; unfold gw; rw [if_neg h0]
   clear h0
   obtain ⟨i0, hi0, hz0, hz1, hz2⟩ := info_parts infoF
   go_enter Tryz.func175, Tryz.ntmps175
   go_wp2_with (at_builtin; refine wpList_append_own _ rfl _ _ _ rfl B 33 i0 _ 1 8 undF hi0 hz0 hz1 hz2 rfl (by omega) v bs.length (f64s bs) rfl (H.out.own.alloc _) ⟨w.heap.size, 0, none⟩ 1 1 [.float .f64 x] rfl rfl (World.news_of_block (cs := #[.float .f64 x]) (t := 33) (fr := (0, 0)) (heap_alloc_new w _)) (by simp [Value.oneCell']) (by unfold maxLen; omega) (by omega) (by simp; omega) ?_; intro v' w1 hown hgrow hnil)
   go_ret
   refine ⟨⟨v', rfl, ?_⟩, ?_⟩
   · rw [HG.out]
     refine ⟨?_, ?_⟩
     · rw [List.length_append]
       simpa [f64s] using hown
     · intro b hb
       rcases List.mem_append.1 hb with hb | hb
       · exact H.out.word b hb
       · rw [List.mem_singleton.1 hb]; exact HX.out
   · exact ((Below.refl B w).alloc hB _).grown hgrow (by simp; omega) (fun k hk => (H.out.own.lt k hk).1)
end

/- Package expand: the next float of two lists. -/
section
open Go.RowKit
attribute [local go_sem ↓] Go.wp_at_zero Go.wp_at_succ
set_option maxRecDepth 100000 in
set_option maxHeartbeats 4000000 in
theorem next_A (be bf ge oe ne ce cf x : Nat) (af ao : Option Addr) (w : World) (ha : (if ce = 1 then some (⟨ge, oe, none⟩ : Addr) else some ⟨ge, oe + 1, none⟩) = ao)
   (h1 : w.cell? ⟨be, 0, none⟩ = some (.slice (some ⟨ge, oe, none⟩) (ne + 1) ce)) (h2 : w.cell? ⟨bf, 0, none⟩ = some (.slice af 0 cf)) (h3 : w.cell? ⟨ge, oe, none⟩ = some (.float .f64 x)) (h4 : w.frozen? ⟨be, 0, none⟩ = false) (h5 : ne + 1 ≤ ce) (h6 : ce ≤ 9223372036854775807) :
   Calls Tryz.prog 174 #[.pointer (some ⟨bf, 0, none⟩), .pointer (some ⟨be, 0, none⟩)] w fun e w' => e = .returned (.float .f64 x) ∧ w' = (w.setCell ⟨be, 0, none⟩ (.slice ao ne (ce - 1))).drew.drew := by
 have l1 : (ne : Int) + 1 ≤ (ce : Int) := by omega
 have l2 : (ce : Int) ≤ 9223372036854775807 := by omega
 clear h5 h6
 go_enter Tryz.func174, Tryz.ntmps174
 go_wp2
 go_region
 go_wp2
 go_region
 clear h1 h2 h3 h4 l1 l2 ha
 go_wp2
 go_ret
 exact ⟨rfl, rfl⟩
set_option maxRecDepth 100000 in
set_option maxHeartbeats 4000000 in
theorem next_B (be bf gf of nf cf ce x : Nat) (ae ao : Option Addr) (w : World) (ha : (if cf = 1 then some (⟨gf, of, none⟩ : Addr) else some ⟨gf, of + 1, none⟩) = ao)
   (h1 : w.cell? ⟨bf, 0, none⟩ = some (.slice (some ⟨gf, of, none⟩) (nf + 1) cf)) (h2 : w.cell? ⟨be, 0, none⟩ = some (.slice ae 0 ce)) (h3 : w.cell? ⟨gf, of, none⟩ = some (.float .f64 x)) (h4 : w.frozen? ⟨bf, 0, none⟩ = false) (h5 : nf + 1 ≤ cf) (h6 : cf ≤ 9223372036854775807) :
   Calls Tryz.prog 174 #[.pointer (some ⟨bf, 0, none⟩), .pointer (some ⟨be, 0, none⟩)] w fun e w' => e = .returned (.float .f64 x) ∧ w' = (w.setCell ⟨bf, 0, none⟩ (.slice ao nf (cf - 1))).drew.drew := by
 have l1 : (nf : Int) + 1 ≤ (cf : Int) := by omega
 have l2 : (cf : Int) ≤ 9223372036854775807 := by omega
 have e0 : ((nf : Int) + 1 == 0) = false := by simp; omega
 clear h5 h6
 go_enter Tryz.func174, Tryz.ntmps174
 go_wp2
 go_region
 go_wp2
 go_region
 clear h1 h2 h3 h4 l1 l2 ha
 go_wp2
 go_ret
 exact ⟨rfl, rfl⟩
set_option maxRecDepth 100000 in
set_option maxHeartbeats 4000000 in
theorem next_C (be bf ge oe ne ce gf of nf cf x y : Nat) (ae af : Option Addr) (w : World) (hae : (if ce = 1 then some (⟨ge, oe, none⟩ : Addr) else some ⟨ge, oe + 1, none⟩) = ae) (haf : (if cf = 1 then some (⟨gf, of, none⟩ : Addr) else some ⟨gf, of + 1, none⟩) = af)
   (h1 : w.cell? ⟨be, 0, none⟩ = some (.slice (some ⟨ge, oe, none⟩) (ne + 1) ce)) (h2 : w.cell? ⟨bf, 0, none⟩ = some (.slice (some ⟨gf, of, none⟩) (nf + 1) cf)) (h3 : w.cell? ⟨ge, oe, none⟩ = some (.float .f64 x)) (h4 : w.cell? ⟨gf, of, none⟩ = some (.float .f64 y)) (f1 : w.frozen? ⟨be, 0, none⟩ = false) (f2 : w.frozen? ⟨bf, 0, none⟩ = false)
   (n1 : ne + 1 ≤ ce) (n2 : ce ≤ 9223372036854775807) (m1 : nf + 1 ≤ cf) (m2 : cf ≤ 9223372036854775807) (hx : x < 18446744073709551616) (hy : y < 18446744073709551616) (fy : Fin64 y) :
   Calls Tryz.prog 174 #[.pointer (some ⟨bf, 0, none⟩), .pointer (some ⟨be, 0, none⟩)] w fun e w' =>
     (frung x ≤ frung y ∧ e = .returned (.float .f64 x) ∧ w' = (w.setCell ⟨be, 0, none⟩ (.slice ae ne (ce - 1))).drew.drew) ∨ (¬ frung x ≤ frung y ∧ e = .returned (.float .f64 y) ∧ w' = (w.setCell ⟨bf, 0, none⟩ (.slice af nf (cf - 1))).drew.drew) := by
 have l1 : (ne : Int) + 1 ≤ (ce : Int) := by omega
 have l2 : (ce : Int) ≤ 9223372036854775807 := by omega
 have l3 : (nf : Int) + 1 ≤ (cf : Int) := by omega
 have l4 : (cf : Int) ≤ 9223372036854775807 := by omega
 have e0 : ((nf : Int) + 1 == 0) = false := by simp; omega
 have e1 : decide (0 < (ne : Int) + 1) = true := decide_eq_true (by omega)
 have HA : Hid (∀ w, Calls Tryz.prog 96 #[.float .f64 x] w fun e w' => e = .returned (.float .f64 (frung x)) ∧ w' = w) := fun w => abs_any x w hx
 have HB : Hid (∀ w, Calls Tryz.prog 96 #[.float .f64 y] w fun e w' => e = .returned (.float .f64 (frung y)) ∧ w' = w) := fun w => abs_any y w hy
 have q := leq_word (r := frung x) (c := frung y) (Nat.mod_lt _ (by omega)) fy
 clear n1 n2 m1 m2 hx hy fy
 by_cases hle : frung x ≤ frung y
 · rw [decide_eq_true hle] at q
   have HL : Hid (frung x ≤ frung y) := hle
   clear hle
   go_enter Tryz.func174, Tryz.ntmps174
   go_wp2
   go_region_held3 (fun W => W.cell? ⟨be, 0, none⟩ = some (.slice (some ⟨ge, oe, none⟩) (ne + 1) ce) ∧ W.cell? ⟨bf, 0, none⟩ = some (.slice (some ⟨gf, of, none⟩) (nf + 1) cf) ∧ W.cell? ⟨ge, oe, none⟩ = some (.float .f64 x) ∧ W.cell? ⟨gf, of, none⟩ = some (.float .f64 y))
     (first
       | assumption
       | exact ⟨by go_simp, by go_simp, by go_simp, by go_simp⟩)
     (first
       | (refine (HA.out _).mono ?_; rintro e w3 ⟨rfl, rfl⟩)
       | (refine (HB.out _).mono ?_; rintro e w3 ⟨rfl, rfl⟩))
   go_wp2
   go_region
   clear h1 h2 h3 h4 l1 l2 l3 l4
   go_wp2
   go_ret
   exact Or.inl ⟨HL.out, rfl, rfl⟩
 · rw [decide_eq_false hle] at q
   have HL : Hid (¬ frung x ≤ frung y) := hle
   clear hle
   go_enter Tryz.func174, Tryz.ntmps174
   go_wp2
   go_region_held3 (fun W => W.cell? ⟨be, 0, none⟩ = some (.slice (some ⟨ge, oe, none⟩) (ne + 1) ce) ∧ W.cell? ⟨bf, 0, none⟩ = some (.slice (some ⟨gf, of, none⟩) (nf + 1) cf) ∧ W.cell? ⟨ge, oe, none⟩ = some (.float .f64 x) ∧ W.cell? ⟨gf, of, none⟩ = some (.float .f64 y))
     (first
       | assumption
       | exact ⟨by go_simp, by go_simp, by go_simp, by go_simp⟩)
     (first
       | (refine (HA.out _).mono ?_; rintro e w3 ⟨rfl, rfl⟩)
       | (refine (HB.out _).mono ?_; rintro e w3 ⟨rfl, rfl⟩))
   go_wp2
   go_region
   clear h1 h2 h3 h4 l1 l2 l3 l4
   go_wp2
   go_ret
   exact Or.inr ⟨HL.out, rfl, rfl⟩
end
end Go.Proofs.YtcgbnjoajieggaaGreat
