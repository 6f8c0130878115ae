/- Own texts, put together: Zd Ze Zf Zg. -/
import Derived.Test.YtofklahgpkmfmaaGreatDoorQ6
import Derived.Test.YtofklahgpkmfmaaGreatDoorQ7
namespace Go.Proofs.YtofklahgpkmfmaaGreatDoor
/- The reference's Neg; trim of any number. -/
section
open Go.RowKit
theorem wrap_neg1 {S : Int} (h : S = -1 ∨ S = 0 ∨ S = 1) : IntKind.i64.wrap (-S) = -S := wrapE _ (by omega) (by omega)
set_option maxHeartbeats 1000000 in
theorem refNeg_walk (a : Option Addr) (n c : Nat) (S E : Int) (w : World) (hS : S = -1 ∨ S = 0 ∨ S = 1) :
   Calls Tryz.prog 129 #[.agg #[.int .i64 S, .slice a n c, .int .i64 E]] w fun e w' => e = .returned (.agg #[.int .i64 (-S), .slice a n c, .int .i64 E]) ∧ Below w.heap.size w w' := by
 have hw := wrap_neg1 hS
 clear hS
 go_enter Tryz.func129, Tryz.ntmps129
 go_wp2
 refine bodyPost_ret (v := .agg #[.int .i64 (-S), .slice a n c, .int .i64 E]) (by simp [results, Tryz.results129, go_sem]) rfl ?_
 refine ⟨rfl, ?_⟩
 repeat (first | exact Below.refl _ _ | refine Below.drew ?_ | refine Below.alloc ?_ (by simp) _ | refine Below.setCell ?_ (by simp) _)
set_option maxHeartbeats 1000000 in
theorem trim_nil (a : Option Addr) (c : Nat) (S E : Int) (w : World) :
   Calls Tryz.prog 117 #[.agg #[.int .i64 S, .slice a 0 c, .int .i64 E]] w fun e w' => TrimR w w' S [] E e := by
 go_enter Tryz.func117, Tryz.ntmps117
 go_wp2
 go_loop [3] (fun s => s = .slice a 0 c) (fun _ => 0)
 case atStart => rfl
 case round =>
   subst hrel
   go_wp2
   go_loop [3, 4] (fun s e => s = .slice a 0 c ∧ e = .int .i64 E) (fun _ _ => 0)
   case atStart => exact ⟨rfl, rfl⟩
   case round =>
     obtain ⟨rfl, rfl⟩ := hrel
     go_wp2
     refine bodyPost_ret (v := .agg #[.int .i64 0, .slice none 0 0, .int .i64 0]) (by simp [results, Tryz.results117, go_sem]) rfl ?_
     refine ⟨_, 0, [], 0, rfl, ⟨⟨none, 0, rfl, by simp, Or.inl rfl⟩, by simp, by simp, by omega, by omega⟩, fun j => by rw [dgt_nil, dgt_nil], Or.inl ⟨rfl, rfl, rfl⟩, ?_⟩
     repeat (first | exact Below.refl _ _ | refine Below.alloc ?_ (by simp) _ | refine Below.setCell ?_ (by simp) _)
theorem trim_any (v : Value) (S E : Int) (ds : List Nat) (w : World) (h : Dig w v S ds E) (hE : E + (ds.length : Int) ≤ 1000000) :
   Calls Tryz.prog 117 #[v] w fun e w' => TrimR w w' S ds E e := by
 obtain ⟨⟨a, c, rfl, hcap, hf⟩, h2, h3, h4, h5⟩ := h
 by_cases h0 : ds = []
 · subst h0
   exact trim_nil a c S E w
 · rcases hf with hf | ⟨g, off, rfl, hf, hr⟩
   · exact absurd hf h0
   · have hl : 0 < ds.length := List.length_pos_iff.2 h0
     exact trim_walk g off c S E ds w hf h2 h3 hcap h4 hE hr
theorem refNeg_any (v : Value) (S E : Int) (ds : List Nat) (w : World) (h : Dig w v S ds E) (hS : S = -1 ∨ S = 0 ∨ S = 1) :
   Calls Tryz.prog 129 #[v] w fun e w' => (∃ v', e = .returned v' ∧ Dig w' v' (-S) ds E) ∧ Below w.heap.size w w' := by
 obtain ⟨⟨a, c, rfl, hcap, hf⟩, h2, h3, h4, h5⟩ := h
 refine (refNeg_walk a ds.length c S E w hS).mono ?_
 rintro e w' ⟨rfl, hb⟩
 have hd : Dig w (.agg #[.int .i64 (-S), .slice a ds.length c, .int .i64 E]) (-S) ds E := ⟨⟨a, c, rfl, hcap, hf⟩, h2, h3, h4, h5⟩
 exact ⟨⟨_, rfl, hd.later hb⟩, hb⟩
end

/- The reference's Low. -/
section
open Go.RowKit
def LowR (ds : List Nat) (E : Int) (e : Ending) : Prop := ∃ (ds' : List Nat) (E' : Int) (t x : Nat), e = .returned (.int .i64 (24 * E' + (t : Int))) ∧ (∀ j, dgt ds' E' j = dgt ds E j) ∧ ds'.getD 0 0 = x * 2 ^ t ∧ x % 2 = 1
set_option maxHeartbeats 2000000 in
theorem refLow_walk (a : Option Addr) (c : Nat) (S E : Int) (ds : List Nat) (w : World) (hd : Dig w (.agg #[.int .i64 S, .slice a ds.length c, .int .i64 E]) S ds E) (hE : E + (ds.length : Int) ≤ 1000000) (hS : (S == 0) = false) (hne : ∃ j, dgt ds E j ≠ 0) :
   Calls Tryz.prog 75 #[.agg #[.int .i64 S, .slice a ds.length c, .int .i64 E]] w fun e w' => LowR ds E e ∧ Below w.heap.size w w' := by
 have HD : Hid (Dig w (.agg #[.int .i64 S, .slice a ds.length c, .int .i64 E]) S ds E) := hd
 have HN : Hid (∃ j, dgt ds E j ≠ 0) := hne
 have HA : Hid (Below w.heap.size w (w.alloc (.cells #[.int .i64 S, .slice a ds.length c, .int .i64 E] 138))) := (Below.refl _ _).alloc (Nat.le_refl _) _
 clear hd hne
 go_enter Tryz.func75, Tryz.ntmps75
 go_wp2_with fail
 refine (trim_any _ S E ds _ (HD.out.later HA.out) hE).mono ?_
 rintro e w1 ⟨v1, S1, ds1, E1, rfl, hd1, heq, hcase, hb1⟩
 rcases hcase with ⟨rfl, _, _⟩ | ⟨hn1, rfl, hf0, _⟩
 · exfalso
   obtain ⟨j, hj⟩ := HN.out
   rw [← heq j, dgt_nil] at hj
   exact hj rfl
 obtain ⟨⟨a1, c1, rfl, hcap, hf⟩, hsm, hl1, he1, he2⟩ := hd1
 rcases hf with hf | ⟨g, off, rfl, hf, _⟩
 · exact absurd hf hn1
 have hlen : 0 < ds1.length := List.length_pos_iff.2 hn1
 have hc0 : w1.cell? ⟨g, off, none⟩ = some (.int .i64 (ds1.getD 0 0 : Nat)) := hf 0 hlen
 have hg : g < w1.heap.size := World.block_lt_of_cell? _ _ hc0
 have hlen' : (0 : Int) < (ds1.length : Int) := by omega
 have HB1 : Hid (Below w.heap.size w w1) := HA.out.trans (hb1.mono HA.out.size)
 have HQ : Hid (∀ j, dgt ds1 E1 j = dgt ds E j) := heq
 obtain ⟨x0, hx0⟩ : ∃ x, Hid (ds1.getD 0 0 = x) := ⟨_, rfl⟩
 have hxs : x0 < 16777216 := by
   have := hsm (ds1.getD 0 0) (by rw [List.getD_eq_getElem?_getD, List.getElem?_eq_getElem hlen]; simp)
   rwa [hx0.out] at this
 have hxp : x0 ≠ 0 := by rw [← hx0.out]; exact hf0
 rw [hx0.out] at hc0
 have hw24 : IntKind.i64.wrap (24 * E1) = 24 * E1 := wrapE _ (by omega) (by omega)
 clear hf hsm heq hf0 hb1
 go_wp2
 go_loop [4, 5] (fun n d => ∃ x t : Nat, x ≠ 0 ∧ Hid (x0 = x * 2 ^ t) ∧ t ≤ 24 ∧ x < 16777216 ∧ n = .int .i64 (24 * E1 + (t : Int)) ∧ d = .int .i64 (x : Int)) (fun _ d => (intOf d).toNat)
 case atStart => exact ⟨x0, 0, hxp, by simp [Hid], by omega, hxs, by simp, rfl⟩
 case round =>
   obtain ⟨x, t, hx, hxt, ht, hxl, rfl, rfl⟩ := hrel
   by_cases he : x % 2 = 0
   · have t1 : (((x : Nat) : Int) % 2 == 0) = true := by simp; omega
     have ht2 : t + 1 ≤ 24 := by
       have e1 : 2 ^ (t + 1) ≤ x * 2 ^ t := by rw [Nat.pow_succ, Nat.mul_comm]; exact Nat.mul_le_mul_right _ (by omega)
       rw [← hxt.out] at e1
       have : 2 ^ (t + 1) < 2 ^ 24 := Nat.lt_of_le_of_lt e1 hxs
       have := (Nat.pow_lt_pow_iff_right (by omega : 1 < 2)).1 this
       omega
     have hxt' : Hid (x0 = x / 2 * 2 ^ (t + 1)) := by
       have h2 : x = x / 2 * 2 := by omega
       show x0 = x / 2 * 2 ^ (t + 1)
       rw [hxt.out, Nat.pow_succ, Nat.mul_comm (2 ^ t) 2, ← Nat.mul_assoc, ← h2]
     have wk : IntKind.i64.wrap (24 * E1 + (t : Int) + 1) = 24 * E1 + ((t + 1 : Nat) : Int) := by rw [show 24 * E1 + (t : Int) + 1 = 24 * E1 + ((t + 1 : Nat) : Int) by omega]; exact wrapE _ (by omega) (by omega)
     clear hxt
     go_wp2
     go_round
     case rel => exact ⟨x / 2, t + 1, by omega, hxt', ht2, by omega, by first | rfl | simp, by simp⟩
     case measure => simp [intOf]; omega
   · have t1 : (((x : Nat) : Int) % 2 == 0) = false := by simp; omega
     go_wp2
     go_ret
     exact ⟨⟨ds1, E1, t, x, rfl, HQ.out, by rw [hx0.out]; exact hxt.out, by omega⟩, (HB1.out.trans (((Below.refl _ _).alloc (Nat.le_refl _) _).mono HB1.out.size))⟩
end

/- The reference's High. -/
section
open Go.RowKit
end

/- A number of the reference stands for a rational number. -/
section
open Go.RowKit
theorem dgt_dg (ds : List Nat) (E j : Int) : dgt ds E j = dg ds E j := by rw [dgt_eq]; rfl
def Canon (S : Int) (ds : List Nat) (E : Int) : Prop := (ds = [] ∧ S = 0 ∧ E = 0) ∨ (ds ≠ [] ∧ (S = 1 ∨ S = -1) ∧ ds.getD 0 0 ≠ 0 ∧ ds.getD (ds.length - 1) 0 ≠ 0)
def Rf (w : World) (v : Value) (q : Rat) : Prop := ∃ S ds E, Dig w v S ds E ∧ Canon S ds E ∧ q = (S : Rat) * mag ds E
theorem Rf.later {w w' : World} {v : Value} {q : Rat} (h : Rf w v q) (hb : Below w.heap.size w w') : Rf w' v q := by
 obtain ⟨S, ds, E, h1, h2, h3⟩ := h
 exact ⟨S, ds, E, h1.later hb, h2, h3⟩
def RfR (w w' : World) (q : Rat) (e : Ending) : Prop := ∃ v, e = .returned v ∧ Rf w' v q ∧ Below w.heap.size w w'
theorem trim_rf {w w' : World} {S E : Int} {ds : List Nat} {e : Ending} (hS : S = 1 ∨ S = -1) (h : TrimR w w' S ds E e) : RfR w w' ((S : Rat) * mag ds E) e := by
 obtain ⟨v, S', ds', E', he, hd, heq, hc, hb⟩ := h
 have hm : mag ds' E' = mag ds E := mag_congr (fun j => by rw [← dgt_dg, ← dgt_dg]; exact heq j)
 refine ⟨v, he, ⟨S', ds', E', hd, ?_, ?_⟩, hb⟩
 · rcases hc with h | ⟨a, rfl, b, c⟩
   · exact Or.inl h
   · exact Or.inr ⟨a, hS, b, c⟩
 · rw [hm]
   rcases hc with ⟨rfl, rfl, rfl⟩ | ⟨_, rfl, _⟩
   · rw [mag_nil] at hm
     rw [← hm]; grind
   · rfl
theorem canon_sign {S E : Int} {ds : List Nat} (h : Canon S ds E) : S = 0 ∨ S = 1 ∨ S = -1 := by
 rcases h with ⟨_, h, _⟩ | ⟨_, h, _⟩
 · exact Or.inl h
 · exact Or.inr h
theorem canon_sgn {S E : Int} {ds : List Nat} (h : Canon S ds E) : (S = 0 ∧ (S : Rat) * mag ds E = 0) ∨ (S = 1 ∧ 0 < (S : Rat) * mag ds E) ∨ (S = -1 ∧ (S : Rat) * mag ds E < 0) := by
 rcases h with ⟨rfl, rfl, rfl⟩ | ⟨a, h, _, b⟩
 · left; exact ⟨rfl, by rw [mag_nil]; grind⟩
 · have := mag_pos (E := E) a b
   rcases h with rfl | rfl
   · right; left; exact ⟨rfl, by rw [show ((1 : Int) : Rat) = 1 from rfl]; grind⟩
   · right; right; exact ⟨rfl, by rw [show ((-1 : Int) : Rat) = -1 from rfl]; grind⟩
theorem canon_place {S E h l : Int} {ds : List Nat} (hc : Canon S ds E) (hs : ∀ d ∈ ds, d < 16777216) (hb : Bd h l ((S : Rat) * mag ds E)) (h0 : ds ≠ []) : 24 * (E + (ds.length : Int)) < h + 24 ∧ l < 24 * E + 24 := by
 rcases hc with ⟨h, _⟩ | ⟨hne, hS, hf, ht⟩
 · exact absurd h h0
 · obtain ⟨b1, b2, n, b3⟩ := hb
   rcases hS with rfl | rfl
   · rw [show ((1 : Int) : Rat) * mag ds E = mag ds E by rw [show ((1 : Int) : Rat) = 1 from rfl]; grind] at b1 b2 b3
     exact ⟨mag_top hne ht b1, mag_low hs hf ⟨n, b3⟩⟩
   · rw [show ((-1 : Int) : Rat) * mag ds E = -mag ds E by rw [show ((-1 : Int) : Rat) = -1 from rfl]; grind] at b1 b2 b3
     exact ⟨mag_top hne ht (by grind), mag_low hs hf ⟨-n, by rw [Rat.intCast_neg]; grind⟩⟩
def BoxN (w : World) (b : Nat) (S : Int) (sv : Value) (E : Int) : Prop := w.heap[b]? = some (.cells #[.int .i64 S, sv, .int .i64 E] 138 (0, 0))
theorem BoxN.cells {w : World} {b : Nat} {S E : Int} {sv : Value} (h : BoxN w b S sv E) : w.cell? ⟨b, 0, none⟩ = some (.int .i64 S) ∧ w.cell? ⟨b, 1, none⟩ = some sv ∧ w.cell? ⟨b, 2, none⟩ = some (.int .i64 E) ∧ (∀ i, w.frozen? ⟨b, i, none⟩ = false) ∧ b < w.heap.size := by
 unfold BoxN at h
 refine ⟨by simp [World.cell?, h], by simp [World.cell?, h], by simp [World.cell?, h], fun i => by simp [World.frozen?, h], ?_⟩
 exact (Array.getElem?_eq_some_iff.1 h).1
theorem BoxN.set {w : World} {b : Nat} {S E : Int} {sv sv' : Value} (h : BoxN w b S sv E) : BoxN (w.setCell ⟨b, 1, none⟩ sv') b S sv' E := by
 unfold BoxN at *
 simp [World.setCell, Array.getElem?_modify, h]
theorem BoxN.block {w w' : World} {b : Nat} {S E : Int} {sv : Value} (h : BoxN w b S sv E) (he : w'.heap[b]? = w.heap[b]?) : BoxN w' b S sv E := by
 unfold BoxN at *; rw [he]; exact h
theorem BoxN.alloc {w : World} {b : Nat} {S E : Int} {sv : Value} (h : BoxN w b S sv E) (o : Obj) : BoxN (w.alloc o) b S sv E := h.block (Below.heap_alloc w o b h.cells.2.2.2.2)
theorem BoxN.grown {w w' : World} {b : Nat} {S E : Int} {sv : Value} {row : Option Nat} (h : BoxN w b S sv E) (hg : w.grownBy w' row) (hne : some b ≠ row) : BoxN w' b S sv E := h.block (hg.block b h.cells.2.2.2.2 hne)
theorem BoxN.other {w : World} {b : Nat} {S E : Int} {sv : Value} (h : BoxN w b S sv E) {a : Addr} (hn : b ≠ a.block) (v : Value) : BoxN (w.setCell a v) b S sv E := h.block (Below.heap_setCell w a v b hn)
def i64s (ds : List Nat) : List Value := ds.map (fun d => .int .i64 (d : Nat))
theorem i64s_snoc (ds : List Nat) (d : Nat) : i64s ds ++ [.int .i64 (d : Nat)] = i64s (ds ++ [d]) := by simp [i64s]
theorem own_cell {w : World} {base : Nat} {g cap : Nat} {ds : List Nat} (h : w.ownsRow base 2 1 (.slice (some ⟨g, 0, none⟩) ds.length cap) ds.length (i64s ds)) (k : Nat) (hk : k < ds.length) : w.cell? ⟨g, k, none⟩ = some (.int .i64 (ds.getD k 0 : Nat)) := by
 have := h.cells (g := g) rfl k (.int .i64 (ds.getD k 0 : Nat)) (by simp [i64s, List.getD, hk])
 rwa [show (⟨g, 0, none⟩ : Addr).add k = ⟨g, k, none⟩ by unfold Addr.add; split <;> simp_all] at this
theorem own_form {w : World} {base : Nat} {sv : Value} {ds : List Nat} (h : w.ownsRow base 2 1 sv ds.length (i64s ds)) : (ds = [] ∧ ∃ a c, sv = .slice a 0 c ∧ (a = none ∨ ∃ g, a = some ⟨g, 0, none⟩)) ∨ (ds ≠ [] ∧ ∃ g cap, sv = .slice (some ⟨g, 0, none⟩) ds.length cap ∧ ds.length ≤ cap ∧ base ≤ g ∧ g < w.heap.size ∧ w.frozen? ⟨g, 0, none⟩ = false) := by
 rcases h.2 with ⟨h1, h2⟩ | ⟨g, cap, cur, h1, h2, h3, h4, _⟩
 · left
   exact ⟨List.eq_nil_of_length_eq_zero h2, none, 0, h1, Or.inl rfl⟩
 · by_cases e : ds = []
   · left
     subst e
     exact ⟨rfl, _, cap, h1, Or.inr ⟨g, rfl⟩⟩
   · right
     exact ⟨e, g, cap, h1, h4, h2, (Array.getElem?_eq_some_iff.1 h3).1, by simp [World.frozen?, h3]⟩
theorem own_frozen {w : World} {base : Nat} {g cap : Nat} {ds : List Nat} (h : w.ownsRow base 2 1 (.slice (some ⟨g, 0, none⟩) ds.length cap) ds.length (i64s ds)) (k : Nat) : w.frozen? ⟨g, k, none⟩ = false := by
 rcases h.2 with ⟨h1, _⟩ | ⟨g', cap', cur, h1, h2, h3, h4, _⟩
 · cases h1
 · cases h1
   simp [World.frozen?, h3]
theorem own_set {w : World} {base : Nat} {g cap : Nat} {ds : List Nat} (h : w.ownsRow base 2 1 (.slice (some ⟨g, 0, none⟩) ds.length cap) ds.length (i64s ds)) (k d : Nat) (_hk : k < ds.length) : (w.setCell ⟨g, k, none⟩ (.int .i64 (d : Nat))).ownsRow base 2 1 (.slice (some ⟨g, 0, none⟩) (ds.set k d).length cap) (ds.set k d).length (i64s (ds.set k d)) := by
 refine ⟨by simp [i64s], ?_⟩
 rcases h.2 with ⟨h1, _⟩ | ⟨g', cap', cur, h1, h2, h3, h4, h5, h6, h7⟩
 · cases h1
 · cases h1
   refine Or.inr ⟨g, cap, cur.set! k (.int .i64 (d : Nat)), by simp, h2, ?_, by simpa using h4, h5, by simpa using h6, ?_⟩
   · simp [World.setCell, Array.getElem?_modify, h3]
   · rw [Nat.mul_one] at h7
     have : i64s (ds.set k d) = (i64s ds).set k (.int .i64 (d : Nat)) := by simp [i64s, List.map_set]
     rw [this, ← h7]
     simp [List.take_set]
theorem own_int {w : World} {base : Nat} {g cap : Nat} {ds : List Nat} (h : w.ownsRow base 2 1 (.slice (some ⟨g, 0, none⟩) ds.length cap) ds.length (i64s ds)) : IntRow w g := by
 rcases h.2 with ⟨h1, _⟩ | ⟨g', cap', cur, h1, h2, h3, h4, _⟩
 · cases h1
 · cases h1
   exact ⟨cur, _, h3⟩
theorem own_dig {w : World} {base : Nat} {sv : Value} {S E : Int} {ds : List Nat} (h : w.ownsRow base 2 1 sv ds.length (i64s ds)) (hs : ∀ d ∈ ds, d < 16777216) (hl : ds.length ≤ 1000000) (e1 : -1000000 ≤ E) (e2 : E ≤ 1000000) : Dig w (.agg #[.int .i64 S, sv, .int .i64 E]) S ds E := by
 rcases own_form h with ⟨rfl, a, c, rfl, _⟩ | ⟨hne, g, cap, rfl, hcap, _, _⟩
 · exact ⟨⟨a, c, rfl, by simp, Or.inl rfl⟩, hs, hl, e1, e2⟩
 · exact ⟨⟨_, cap, rfl, hcap, Or.inr ⟨g, 0, rfl, fun k hk => by rw [Nat.zero_add]; exact own_cell h k hk, own_int h⟩⟩, hs, hl, e1, e2⟩
theorem own_apart {w : World} {base b : Nat} {sv : Value} {n : Nat} {xs : List Value} (h : w.ownsRow base 2 1 sv n xs) (hb : b < base) : some b ≠ sv.ownBlock := fun e => by
 have := (h.lt b e.symm).1
 omega
theorem own_other {w : World} {base : Nat} {sv : Value} {n : Nat} {xs : List Value} (h : w.ownsRow base 2 1 sv n xs) {a : Addr} (hb : a.block < base) (v : Value) : (w.setCell a v).ownsRow base 2 1 sv n xs :=
 h.kept (row := some a.block) ⟨rfl, rfl, rfl, by simp [World.setCell], fun k _ hne => Below.heap_setCell w a v k (by intro e; exact hne (by rw [e]))⟩ (Or.inr (Ne.symm (own_apart h hb)))
def OtherRow (w : World) (b : Nat) : Prop := ∃ cur t fr, w.heap[b]? = some (.cells cur t fr) ∧ t ≠ 2
theorem OtherRow.apart {w : World} {b g : Nat} (h : OtherRow w b) (h2 : IntRow w g) : g ≠ b := by
 rintro rfl
 obtain ⟨cur, t, fr, h, ht⟩ := h
 obtain ⟨cur', fr', h2⟩ := h2
 rw [h] at h2
 simp at h2
 exact ht h2.2.1
theorem OtherRow.set {w : World} {b : Nat} (h : OtherRow w b) (i : Nat) (v : Value) : OtherRow (w.setCell ⟨b, i, none⟩ v) b := by
 obtain ⟨cur, t, fr, h, ht⟩ := h
 exact ⟨cur.set! i v, t, fr, by simp [World.setCell, Array.getElem?_modify, h], ht⟩
theorem Dig.set {w : World} {v : Value} {S E : Int} {ds : List Nat} {b : Nat} (h : Dig w v S ds E) (ho : OtherRow w b) (i : Nat) (u : Value) : Dig (w.setCell ⟨b, i, none⟩ u) v S ds E := by
 obtain ⟨⟨a, c, hv, hcap, hf⟩, h2, h3, h4, h5⟩ := h
 refine ⟨⟨a, c, hv, hcap, ?_⟩, h2, h3, h4, h5⟩
 rcases hf with hf | ⟨g, off, ha, hf, hr⟩
 · exact Or.inl hf
 · have hne := ho.apart hr
   have hh := Below.heap_setCell w ⟨b, i, none⟩ u g hne
   exact Or.inr ⟨g, off, ha, fun k hk => by rw [World.cell?_of_block (a := ⟨g, off + k, none⟩) hh]; exact hf k hk, hr.block hh⟩
theorem Rf.set {w : World} {v : Value} {q : Rat} {b : Nat} (h : Rf w v q) (ho : OtherRow w b) (i : Nat) (u : Value) : Rf (w.setCell ⟨b, i, none⟩ u) v q := by
 obtain ⟨S, ds, E, h1, h2, h3⟩ := h
 exact ⟨S, ds, E, h1.set ho i u, h2, h3⟩
theorem Rf.boxed {w : World} {v : Value} {q : Rat} {b : Nat} (h : Rf w v q) (ho : OtherRow w b) (x y z : Value) : Rf (((w.setCell ⟨b, 0, none⟩ x).setCell ⟨b, 1, none⟩ y).setCell ⟨b, 2, none⟩ z) v q :=
 ((h.set ho 0 x).set (ho.set 0 x) 1 y).set ((ho.set 0 x).set 1 y) 2 z
theorem other_box {w : World} {b : Nat} {cs : Array Value} {fr : Nat × Nat} (h : w.heap[b]? = some (.cells cs 138 fr)) : OtherRow w b := ⟨_, _, _, h, by decide⟩
end
end Go.Proofs.YtofklahgpkmfmaaGreatDoor
