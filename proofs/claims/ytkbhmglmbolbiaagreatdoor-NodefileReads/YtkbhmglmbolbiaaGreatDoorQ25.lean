/- Own texts, put together: Zi Zj Zk. -/
import Derived.Test.YtkbhmglmbolbiaaGreatDoorQ20
import Derived.Deep.RegionHeld3
namespace Go.Proofs.YtkbhmglmbolbiaaGreatDoor
/- The reference's Add: the digits. -/
section
open Go.RowKit
theorem keepN6 {w W W' : World} {p1 p2 p3 p4 p5 p6 : Addr} {x1 x2 x3 x4 x5 x6 : Value} (h : W.cell? p1 = some x1 ∧ W.cell? p2 = some x2 ∧ W.cell? p3 = some x3 ∧ W.cell? p4 = some x4 ∧ W.cell? p5 = some x5 ∧ W.cell? p6 = some x6 ∧ Below w.heap.size w W) (hb : Below W.heap.size W W') :
   W'.cell? p1 = some x1 ∧ W'.cell? p2 = some x2 ∧ W'.cell? p3 = some x3 ∧ W'.cell? p4 = some x4 ∧ W'.cell? p5 = some x5 ∧ W'.cell? p6 = some x6 ∧ Below w.heap.size w W' :=
 ⟨box_cell hb h.1, box_cell hb h.2.1, box_cell hb h.2.2.1, box_cell hb h.2.2.2.1, box_cell hb h.2.2.2.2.1, box_cell hb h.2.2.2.2.2.1, h.2.2.2.2.2.2.trans (hb.mono h.2.2.2.2.2.2.size)⟩
structure AddW (w : World) (O : Nat) (S1 S2 E1 E2 F : Int) (sv1 sv2 : Value) (ds : List Nat) (wr : World) (sv : Value) : Prop where
 a : BoxN wr w.heap.size S1 sv1 E1
 b : BoxN wr (w.heap.size + 1) S2 sv2 E2
 r : BoxN wr (w.heap.size + 2) 0 (.slice none 0 0) 0
 o : BoxN wr O S1 sv F
 row : wr.ownsRow (O + 1) 2 1 sv ds.length (i64s ds)
 bel : Below w.heap.size w wr
 siz : O + 1 ≤ wr.heap.size
 ord : w.heap.size + 3 ≤ O
theorem AddW.later {w W W' : World} {O : Nat} {S1 S2 E1 E2 F : Int} {sv1 sv2 : Value} {ds : List Nat} {sv : Value} (h : AddW w O S1 S2 E1 E2 F sv1 sv2 ds W sv) (hb : Below W.heap.size W W') : AddW w O S1 S2 E1 E2 F sv1 sv2 ds W' sv := by
 have hs := h.siz
 have ho := h.ord
 have hz := hb.size
 exact ⟨h.a.block (hb.block _ (by omega)), h.b.block (hb.block _ (by omega)), h.r.block (hb.block _ (by omega)), h.o.block (hb.block _ (by omega)), h.row.kept (row := none) ⟨hb.os, hb.tape, hb.output, hb.size, fun k hk _ => hb.block k hk⟩ (by cases sv.ownBlock <;> simp), h.bel.trans (hb.mono (by omega)), by omega, ho⟩
theorem AddW.boxed {w W w1 : World} {O : Nat} {S1 S2 E1 E2 F : Int} {sv1 sv2 : Value} {ds : List Nat} {sv : Value} {o : Obj} (h : AddW w O S1 S2 E1 E2 F sv1 sv2 ds W sv) (hg : (W.alloc o).grownBy w1 sv.ownBlock) : BoxN w1 O S1 sv F :=
 (h.o.alloc o).grown hg (own_apart h.row (show O < O + 1 by omega))
theorem AddW.pushed {w W w1 : World} {O g cap d : Nat} {S1 S2 E1 E2 F x : Int} {sv1 sv2 : Value} {ds : List Nat} {sv : Value} {o : Obj} (h : AddW w O S1 S2 E1 E2 F sv1 sv2 ds W sv) (hg : (W.alloc o).grownBy w1 sv.ownBlock)
   (ho : w1.ownsRow (O + 1) 2 1 (.slice (some ⟨g, 0, none⟩) (ds.length + 1) cap) (ds.length + 1) (i64s ds ++ [.int .i64 x])) (hx : x = (d : Nat)) :
   AddW w O S1 S2 E1 E2 F sv1 sv2 (ds ++ [d]) (w1.setCell ⟨O, 1, none⟩ (.slice (some ⟨g, 0, none⟩) (ds.length + 1) cap)) (.slice (some ⟨g, 0, none⟩) (ds.length + 1) cap) := by
 subst hx
 have hs := h.siz
 have hod := h.ord
 refine ⟨?_, ?_, ?_, (h.boxed hg).set, ?_, ?_, ?_, hod⟩
 · exact ((h.a.alloc o).grown hg (own_apart h.row (by omega))).other (by simp; omega) _
 · exact ((h.b.alloc o).grown hg (own_apart h.row (by omega))).other (by simp; omega) _
 · exact ((h.r.alloc o).grown hg (own_apart h.row (by omega))).other (by simp; omega) _
 · rw [i64s_snoc] at ho
   have := own_other ho (a := ⟨O, 1, none⟩) (by simp) (.slice (some ⟨g, 0, none⟩) (ds.length + 1) cap)
   simpa using this
 · refine Below.setCell ?_ (by simp; omega) _
   have h1 : Below w.heap.size w (W.alloc o) := h.bel.alloc (by omega) o
   exact h1.grown hg (by simp; omega) (fun k hk => by have := (h.row.lt k hk).1; omega)
 · have := hg.size
   simp [World.setCell] at *
   omega
theorem addW_start {w W : World} {O : Nat} {S1 S2 E1 E2 F : Int} {sv1 sv2 : Value} (a : BoxN W w.heap.size S1 sv1 E1) (b : BoxN W (w.heap.size + 1) S2 sv2 E2) (r : BoxN W (w.heap.size + 2) 0 (.slice none 0 0) 0) (bel : Below w.heap.size w W) (hO : W.heap.size = O) (hs : w.heap.size + 3 ≤ O) :
   AddW w O S1 S2 E1 E2 F sv1 sv2 [] (W.alloc (.cells #[.int .i64 S1, .slice none 0 0, .int .i64 F] 145)) (.slice none 0 0) := by
 subst hO
 exact ⟨a.alloc _, b.alloc _, r.alloc _, heap_alloc_new W _, World.ownsRow_nil _ _ _ _, bel.alloc (by omega) _, by simp, hs⟩
theorem boxes3 (w : World) (a b c : Obj) : (((w.alloc a).alloc b).alloc c).heap[w.heap.size]? = some a ∧ (((w.alloc a).alloc b).alloc c).heap[w.heap.size + 1]? = some b ∧ (((w.alloc a).alloc b).alloc c).heap[w.heap.size + 2]? = some c := by
 refine ⟨?_, ?_, ?_⟩
 · rw [Below.heap_alloc _ _ _ (by simp; omega)]; exact old_box w a b
 · rw [Below.heap_alloc _ _ _ (by simp)]; exact new_box w a b
 · have := heap_alloc_new ((w.alloc a).alloc b) c
   simpa using this
theorem below3 (w : World) (a b c : Obj) : Below w.heap.size w (((w.alloc a).alloc b).alloc c) := (((Below.refl _ _).alloc (Nat.le_refl _) _).alloc (by simp) _).alloc (by simp; omega) _
structure AddD (A B : Nat → Nat) (s : Int) (i : Nat) (zs : List Nat) (c : Int) : Prop where
 len : zs.length = i
 small : ∀ d ∈ zs, d < 16777216
 val : (v24 zs : Int) + ((2 ^ (24 * i) : Nat) : Int) * c = (A i : Int) + s * (B i : Int)
 c1 : -1 ≤ c
 c2 : c ≤ 1
theorem AddD.step {A B : Nat → Nat} {s c c' v : Int} {i a b d : Nat} {zs : List Nat} (h : AddD A B s i zs c) (hA : A (i + 1) = A i + 2 ^ (24 * i) * a) (hB : B (i + 1) = B i + 2 ^ (24 * i) * b) (hv : v = (a : Int) + s * (b : Int) + c) (hd : v = (d : Int) + 16777216 * c') (hdl : d < 16777216) (h1 : -1 ≤ c') (h2 : c' ≤ 1) : AddD A B s (i + 1) (zs ++ [d]) c' := by
 refine ⟨by simp [h.len], snoc_small h.small hdl, ?_, h1, h2⟩
 rw [v24_snoc, h.len, hA, hB, p24]
 have hval := h.val
 simp only [Int.natCast_add, Int.natCast_mul]
 generalize ((2 ^ (24 * i) : Nat) : Int) = P at *
 subst hv
 have e : ((16777216 : Nat) : Int) = 16777216 := rfl
 rw [e]
 grind
end

/- The reference's Add: the walk, the same sign. -/
section
open Go.RowKit
set_option maxRecDepth 100000 in
set_option maxHeartbeats 8000000 in
theorem add_same (a1 a2 : Option Addr) (c1 c2 : Nat) (S1 E1 E2 from' to : Int) (ds1 ds2 : List Nat) (w : World) (hd1 : Dig w (.agg #[.int .i64 S1, .slice a1 ds1.length c1, .int .i64 E1]) S1 ds1 E1) (hd2 : Dig w (.agg #[.int .i64 S1, .slice a2 ds2.length c2, .int .i64 E2]) S1 ds2 E2)
   (hS : (S1 == 0) = false) (hS1 : S1 = 1 ∨ S1 = -1) (hfrom : (if E2 < E1 then E2 else E1) = from') (hto : (if E1 + (ds1.length : Int) < E2 + (ds2.length : Int) then E2 + (ds2.length : Int) else E1 + (ds1.length : Int)) = to) (hp : -10000 ≤ from') (hq : to ≤ 10000) :
   Calls Tryz.prog 104 #[.agg #[.int .i64 S1, .slice a1 ds1.length c1, .int .i64 E1], .agg #[.int .i64 S1, .slice a2 ds2.length c2, .int .i64 E2]] w fun e w' => ∃ zs c, AddD (fun i => ms (dgt ds1 E1) from' i) (fun i => ms (dgt ds2 E2) from' i) 1 (to - from' + 1).toNat zs c ∧ RfR w w' ((S1 : Rat) * mag zs from') e := by
 obtain ⟨i0, hi0, hz0, hz1, hz2⟩ := info_parts info64
 have D1 : Hid (Dig w (.agg #[.int .i64 S1, .slice a1 ds1.length c1, .int .i64 E1]) S1 ds1 E1) := hd1
 have D2 : Hid (Dig w (.agg #[.int .i64 S1, .slice a2 ds2.length c2, .int .i64 E2]) S1 ds2 E2) := hd2
 have s1 : ∀ j, dgt ds1 E1 j < 16777216 := fun j => by rw [dgt_dg]; exact dg_small hd1.small _ _
 have s2 : ∀ j, dgt ds2 E2 j < 16777216 := fun j => by rw [dgt_dg]; exact dg_small hd2.small _ _
 have l1 : (ds1.length : Int) ≤ 1000000 := by have := hd1.len; omega
 have l2 : (ds2.length : Int) ≤ 1000000 := by have := hd2.len; omega
 have f1 : from' ≤ E1 := by rw [← hfrom]; split <;> omega
 have f2 : from' ≤ E2 := by rw [← hfrom]; split <;> omega
 have t1 : E1 + (ds1.length : Int) ≤ to := by rw [← hto]; split <;> omega
 have t2 : E2 + (ds2.length : Int) ≤ to := by rw [← hto]; split <;> omega
 have HS1 : Hid (∀ j, dgt ds1 E1 j < 16777216) := s1
 have HS2' : Hid (∀ j, dgt ds2 E2 j < 16777216) := s2
 have hSS : (!(S1 == S1)) = false := by simp
 have HSS : Hid (S1 = 1 ∨ S1 = -1) := hS1
 clear hd1 hd2 s1 s2 hS1
 go_enter Tryz.func104, Tryz.ntmps104
 go_wp2
 clear hfrom hto
 go_loopw [9, 10] (fun c i wr => ∃ (k : Nat) (cc : Int) (zs : List Nat) (sv : Value), c = .int .i64 cc ∧ i = .int .i64 (from' + (k : Int)) ∧ (k : Int) ≤ to - from' + 1 ∧ -1 ≤ cc ∧ cc ≤ 1 ∧ Hid (AddD (fun i => ms (dgt ds1 E1) from' i) (fun i => ms (dgt ds2 E2) from' i) 1 k zs cc) ∧ Hid (AddW w (w.heap.size + 3) S1 S1 E1 E2 from' (.slice a1 ds1.length c1) (.slice a2 ds2.length c2) zs wr sv)) (fun _ i _ => (to + 1 - intOf i).toNat)
 case atStart => exact ⟨0, 0, [], .slice none 0 0, rfl, by simp, by omega, by omega, by omega, ⟨rfl, by simp, by simp [v24, ms], by omega, by omega⟩, addW_start (boxes3 _ _ _ _).1 (boxes3 _ _ _ _).2.1 (boxes3 _ _ _ _).2.2 (below3 _ _ _ _) (by simp) (by omega)⟩
 case round =>
   obtain ⟨k, cc, zs, sv, rfl, rfl, hk, hc1, hc2, hD, hW⟩ := hrel
   by_cases hlt : from' + (k : Int) ≤ to
   · have HWW := hW.out
     have hbel : Hid (Below w.heap.size w wr) := HWW.bel
     obtain ⟨x0, x1, x2, _, _⟩ := HWW.a.cells
     obtain ⟨y0, y1, y2, _, _⟩ := HWW.b.cells
     clear HWW
     have hrefl : Hid (Below wr.heap.size wr wr) := Below.refl _ _
     have hkl : (k : Int) ≤ 20001 := by omega
     obtain ⟨p, hpd⟩ : ∃ p : Nat, Hid (dgt ds1 E1 (from' + (k : Int)) = p) := ⟨_, rfl⟩
     obtain ⟨q, hqd⟩ : ∃ q : Nat, Hid (dgt ds2 E2 (from' + (k : Int)) = q) := ⟨_, rfl⟩
     have hp1 : p < 16777216 := by rw [← hpd.out]; exact HS1.out _
     have hq1 : q < 16777216 := by rw [← hqd.out]; exact HS2'.out _
     have hp2 : (p : Int) < 16777216 := by omega
     have hq2 : (q : Int) < 16777216 := by omega
     have CA : Hid (∀ W, Below wr.heap.size wr W → Calls Tryz.prog 127 #[.agg #[.int .i64 S1, .slice a1 ds1.length c1, .int .i64 E1], .int .i64 (from' + (k : Int))] W fun e w' => e = .returned (.int .i64 (p : Nat)) ∧ Below W.heap.size W w') := by
       intro W hb
       have := digit_any _ S1 E1 (from' + (k : Int)) ds1 W (D1.out.later (hbel.out.trans (hb.mono hbel.out.size)))
       rwa [hpd.out] at this
     have CB : Hid (∀ W, Below wr.heap.size wr W → Calls Tryz.prog 127 #[.agg #[.int .i64 S1, .slice a2 ds2.length c2, .int .i64 E2], .int .i64 (from' + (k : Int))] W fun e w' => e = .returned (.int .i64 (q : Nat)) ∧ Below W.heap.size W w') := by
       intro W hb
       have := digit_any _ S1 E2 (from' + (k : Int)) ds2 W (D2.out.later (hbel.out.trans (hb.mono hbel.out.size)))
       rwa [hqd.out] at this
     have wq : IntKind.i64.wrap (q : Int) = (q : Int) := wrapE _ (by omega) (by omega)
     have wp : IntKind.i64.wrap ((p : Int) + (q : Int)) = (p : Int) + (q : Int) := wrapE _ (by omega) (by omega)
     have wv : IntKind.i64.wrap ((p : Int) + (q : Int) + cc) = (p : Int) + (q : Int) + cc := wrapE _ (by omega) (by omega)
     go_wp2
     go_region_held3 (fun W => W.cell? ⟨w.heap.size, 0, none⟩ = some (.int .i64 S1) ∧ W.cell? ⟨w.heap.size, 1, none⟩ = some (.slice a1 ds1.length c1) ∧ W.cell? ⟨w.heap.size, 2, none⟩ = some (.int .i64 E1) ∧ W.cell? ⟨w.heap.size + 1, 0, none⟩ = some (.int .i64 S1) ∧ W.cell? ⟨w.heap.size + 1, 1, none⟩ = some (.slice a2 ds2.length c2) ∧ W.cell? ⟨w.heap.size + 1, 2, none⟩ = some (.int .i64 E2) ∧ Below wr.heap.size wr W)
       (first
         | assumption
         | exact ⟨by go_simp, by go_simp, by go_simp, by go_simp, by go_simp, by go_simp, hrefl.out.drew⟩
         | exact keepN6 (by assumption) (by assumption))
       (first
         | (go_at_call_of 127 E1; refine (CA.out _ (by exact (by assumption : _ ∧ _ ∧ _ ∧ _ ∧ _ ∧ _ ∧ Below wr.heap.size wr _).2.2.2.2.2.2)).mono ?_; rintro e wA ⟨rfl, hbA⟩)
         | (go_at_call_of 127 E2; refine (CB.out _ (by exact (by assumption : _ ∧ _ ∧ _ ∧ _ ∧ _ ∧ _ ∧ Below wr.heap.size wr _).2.2.2.2.2.2)).mono ?_; rintro e wB ⟨rfl, hbB⟩))
     all_goals
       have hbf := (by assumption : _ ∧ _ ∧ _ ∧ _ ∧ _ ∧ _ ∧ Below wr.heap.size wr _).2.2.2.2.2.2
       have HW2 : Hid _ := hW.out.later hbf
       obtain ⟨z0, z1, z2, zf, zl⟩ := HW2.out.o.cells
       have zf1 := zf 1
       have HR := HW2.out.row
       have hsz : (w.heap.size + 3) + 1 ≤ _ := HW2.out.siz
       have HDX : Hid (AddD (fun i => ms (dgt ds1 E1) from' i) (fun i => ms (dgt ds2 E2) from' i) 1 k zs cc) := hD
       have hzl : zs.length ≤ 20001 := by have := hD.out.len; omega
       clear hbf zf hW hD x0 x1 x2 y0 y1 y2 CA CB
       go_wp2
       go_loop [9, 11] (fun c v => ∃ v' c' : Int, v = .int .i64 v' ∧ c = .int .i64 c' ∧ Hid (v' + 16777216 * c' = (p : Int) + 1 * (q : Int) + cc) ∧ -16777217 ≤ v' ∧ v' ≤ 33554431 ∧ Hid (v' < 0 → c' = 0) ∧ -1 ≤ c' ∧ c' ≤ 0) (fun _ v => (0 - intOf v).toNat)
       case atStart => exact ⟨_, 0, rfl, rfl, by show _ = _; omega, by omega, by omega, fun _ => rfl, by omega, by omega⟩
       case round =>
         obtain ⟨v', c', rfl, rfl, hv, b1, b2, b3, b4, b5⟩ := hrel
         by_cases hneg : v' < 0
         · have hc0 := b3.out hneg
           have hv' : Hid (v' + 16777216 + 16777216 * (c' - 1) = (p : Int) + 1 * (q : Int) + cc) := by have := hv.out; show _ = _; omega
           have hb3 : Hid (v' + 16777216 < 0 → c' - 1 = 0) := by intro h; have := hv.out; omega
           have hb4 : -1 ≤ c' - 1 := by omega
           clear hc0 b3 hv
           go_wp2
           go_round
           case rel => exact ⟨v' + 16777216, c' - 1, rfl, rfl, hv', by omega, by omega, hb3, hb4, by omega⟩
           case measure => simp [intOf]; omega
         · go_wp2
           go_loop [9, 11] (fun c v => ∃ v' c' : Int, v = .int .i64 v' ∧ c = .int .i64 c' ∧ Hid (v' + 16777216 * c' = (p : Int) + 1 * (q : Int) + cc) ∧ 0 ≤ v' ∧ v' ≤ 33554431 ∧ Hid (16777216 ≤ v' → c' ≤ 0) ∧ -1 ≤ c' ∧ c' ≤ 1) (fun _ v => (intOf v).toNat)
           case atStart => exact ⟨v', c', rfl, rfl, hv, by omega, by omega, fun _ => b5, by omega, by omega⟩
           case round =>
             clear hv b1 b2 b3 b4 b5 hneg
             obtain ⟨v', c', rfl, rfl, hv, b1, b2, b3, b4, b5⟩ := hrel
             by_cases hbig : 16777216 ≤ v'
             · have hc0 := b3.out hbig
               have hv' : Hid (v' - 16777216 + 16777216 * (c' + 1) = (p : Int) + 1 * (q : Int) + cc) := by have := hv.out; show _ = _; omega
               have hb3 : Hid (16777216 ≤ v' - 16777216 → c' + 1 ≤ 0) := by intro h; omega
               have hb5 : c' + 1 ≤ 1 := by omega
               clear hc0 b3 hv
               go_wp2
               go_round
               case rel => exact ⟨v' - 16777216, c' + 1, rfl, rfl, hv', by omega, by omega, hb3, by omega, hb5⟩
               case measure => simp [intOf]; omega
             · obtain ⟨d, rfl⟩ : ∃ d : Nat, v' = (d : Int) := ⟨v'.toNat, by omega⟩
               have hbigb : decide ((16777216 : Int) ≤ (d : Int)) = false := decide_eq_false hbig
               go_wp2_with (at_builtin; refine wpList_append_lies _ rfl _ _ _ rfl ((w.heap.size + 3) + 1) 2 i0 _ 1 8 Tryz.underlying143 hi0 hz0 hz1 hz2 rfl (by omega) sv zs.length (i64s zs) rfl (HR.alloc _) ⟨_, 0, none⟩ 1 1 [.int .i64 (d : Nat)] rfl rfl (World.news_of_block (cs := #[.int .i64 (d : Nat)]) (t := 2) (fr := (0, 0)) (heap_alloc_new _ _)) (by simp [Value.oneCell']) (by omega) (by unfold maxLen; omega) (by omega) (by simp; omega) _ rfl ?_; intro g cap w9 hown1 hgrow hat hlt9; obtain ⟨hc0, hc1', hc2', hcf, hcl⟩ := (HW2.out.boxed hgrow).cells; have hcf1 := hcf 1; clear hcf)
               have HP := HW2.out.pushed hgrow hown1 rfl
               refine ⟨⟨k + 1, c', zs ++ [d], _, rfl, by go_num, by omega, b4, b5, HDX.out.step (a := p) (b := q) (v := (d : Int) + 16777216 * c') (by simp only [ms]; rw [hpd.out]) (by simp only [ms]; rw [hqd.out]) hv.out rfl (by omega) b4 b5, HP⟩, by simp [intOf]; omega⟩
   · obtain rfl : k = (to - from' + 1).toNat := by omega
     have hltb : decide (from' + ((to - from' + 1).toNat : Int) ≤ to) = false := decide_eq_false hlt
     obtain ⟨z0, z1, z2, zf, zl⟩ := hW.out.o.cells
     clear zf
     have hzl : zs.length = (to - from' + 1).toNat := hD.out.len
     have hform : ∃ a c, sv = .slice a zs.length c := by
       rcases own_form hW.out.row with ⟨rfl, a, c, rfl, _⟩ | ⟨_, g, cap, rfl, _⟩
       · exact ⟨_, _, rfl⟩
       · exact ⟨_, _, rfl⟩
     obtain ⟨sa, sc, rfl⟩ := hform
     have HZ : Hid (zs.length = (to - from' + 1).toNat) := hzl
     clear hzl
     go_wp2_with fail
     refine (trim_any _ S1 from' zs _ (own_dig hW.out.row hD.out.small (by have := HZ.out; omega) (by omega) (by omega)) (by have := HZ.out; omega)).mono ?_
     rintro e w2 hT
     obtain ⟨v9, rfl, hrf, hb9⟩ := trim_rf HSS.out hT
     have hB : BoxN w2 (w.heap.size + 2) 0 (.slice none 0 0) 0 := hW.out.r.block (hb9.block _ (by have := hW.out.siz; have := hW.out.ord; omega))
     have hO : Hid (OtherRow w2 (w.heap.size + 2)) := other_box hB
     obtain ⟨t0, t1', t2', tf, tl⟩ := hB.cells
     have HB : Hid (Below w.heap.size w w2) := hW.out.bel.trans (hb9.mono (by have := hW.out.siz; have := hW.out.ord; omega))
     have HV : Hid (Rf w2 v9 ((S1 : Rat) * mag zs from')) := hrf
     obtain ⟨S9, ds9, E9, hd9, _⟩ := HV.out
     obtain ⟨a9, c9, rfl, _⟩ := hd9.form
     clear hb9 hT hrf hB hW hd9
     go_wp2
     refine bodyPost_ret (v := .agg #[.int .i64 S9, .slice a9 ds9.length c9, .int .i64 E9]) (by simp [results, Tryz.results104, go_sem, t0, t1', t2']) rfl ?_
     refine ⟨zs, cc, hD.out, _, rfl, HV.out.boxed hO.out _ _ _, ?_⟩
     repeat (first | exact HB.out | refine Below.drew ?_ | refine Below.setCell ?_ (by show w.heap.size ≤ w.heap.size + 2; omega) _)
end

/- The reference's Add: the walk, other signs. -/
section
open Go.RowKit
set_option maxRecDepth 100000 in
set_option maxHeartbeats 8000000 in
theorem add_other (a1 a2 : Option Addr) (c1 c2 : Nat) (S1 S2 E1 E2 from' to : Int) (ds1 ds2 : List Nat) (w : World) (hd1 : Dig w (.agg #[.int .i64 S1, .slice a1 ds1.length c1, .int .i64 E1]) S1 ds1 E1) (hd2 : Dig w (.agg #[.int .i64 S2, .slice a2 ds2.length c2, .int .i64 E2]) S2 ds2 E2)
   (hS : (S1 == 0) = false) (hS1 : S1 = 1 ∨ S1 = -1) (hS2 : (S2 == 0) = false) (hne : (S1 == S2) = false) (hsz : ∀ r, SizeOf ds1 E1 ds2 E2 r → ¬ r < 0) (hfrom : (if E2 < E1 then E2 else E1) = from') (hto : (if E1 + (ds1.length : Int) < E2 + (ds2.length : Int) then E2 + (ds2.length : Int) else E1 + (ds1.length : Int)) = to) (hp : -10000 ≤ from') (hq : to ≤ 10000) :
   Calls Tryz.prog 104 #[.agg #[.int .i64 S1, .slice a1 ds1.length c1, .int .i64 E1], .agg #[.int .i64 S2, .slice a2 ds2.length c2, .int .i64 E2]] w fun e w' => ∃ zs c, AddD (fun i => ms (dgt ds1 E1) from' i) (fun i => ms (dgt ds2 E2) from' i) (-1) (to - from' + 1).toNat zs c ∧ RfR w w' ((S1 : Rat) * mag zs from') e := by
 obtain ⟨i0, hi0, hz0, hz1, hz2⟩ := info_parts info64
 have D1 : Hid (Dig w (.agg #[.int .i64 S1, .slice a1 ds1.length c1, .int .i64 E1]) S1 ds1 E1) := hd1
 have D2 : Hid (Dig w (.agg #[.int .i64 S2, .slice a2 ds2.length c2, .int .i64 E2]) S2 ds2 E2) := hd2
 have s1 : ∀ j, dgt ds1 E1 j < 16777216 := fun j => by rw [dgt_dg]; exact dg_small hd1.small _ _
 have s2 : ∀ j, dgt ds2 E2 j < 16777216 := fun j => by rw [dgt_dg]; exact dg_small hd2.small _ _
 have l1 : (ds1.length : Int) ≤ 1000000 := by have := hd1.len; omega
 have l2 : (ds2.length : Int) ≤ 1000000 := by have := hd2.len; omega
 have f1 : from' ≤ E1 := by rw [← hfrom]; split <;> omega
 have f2 : from' ≤ E2 := by rw [← hfrom]; split <;> omega
 have t1 : E1 + (ds1.length : Int) ≤ to := by rw [← hto]; split <;> omega
 have t2 : E2 + (ds2.length : Int) ≤ to := by rw [← hto]; split <;> omega
 have HS1 : Hid (∀ j, dgt ds1 E1 j < 16777216) := s1
 have HS2' : Hid (∀ j, dgt ds2 E2 j < 16777216) := s2
 have hSS : (S1 != S2) = true := by unfold bne; rw [hne]; rfl
 clear hne
 have HB0 : Hid (Below w.heap.size w (((w.alloc (.cells #[.int .i64 S1, .slice a1 ds1.length c1, .int .i64 E1] 145)).alloc (.cells #[.int .i64 S2, .slice a2 ds2.length c2, .int .i64 E2] 145)).alloc (.cells #[.int .i64 0, .slice none 0 0, .int .i64 0] 145))) := below3 _ _ _ _
 have HSZ : Hid (∀ r, SizeOf ds1 E1 ds2 E2 r → ¬ r < 0) := hsz
 clear hsz
 have HSS : Hid (S1 = 1 ∨ S1 = -1) := hS1
 clear hd1 hd2 s1 s2 hS1
 go_enter Tryz.func104, Tryz.ntmps104
 go_wp2_with fail
 refine (size_walk a1 a2 c1 c2 S1 S2 E1 E2 ds1 ds2 _ (D1.out.later HB0.out) (D2.out.later HB0.out)).mono ?_
 rintro e w1 ⟨⟨r, rfl, hsz'⟩, hb1⟩
 have hr : decide (r < 0) = false := decide_eq_false (by have := HSZ.out r hsz'; omega)
 have hs3 : w.heap.size + 3 ≤ w1.heap.size := by have := hb1.size; simp at this; omega
 have HA : Hid (BoxN w1 w.heap.size S1 (.slice a1 ds1.length c1) E1) := BoxN.block (boxes3 w _ _ _).1 (hb1.block _ (by simp; omega))
 have HBb : Hid (BoxN w1 (w.heap.size + 1) S2 (.slice a2 ds2.length c2) E2) := BoxN.block (boxes3 w _ _ _).2.1 (hb1.block _ (by simp))
 have HRr : Hid (BoxN w1 (w.heap.size + 2) 0 (.slice none 0 0) 0) := BoxN.block (boxes3 w _ _ _).2.2 (hb1.block _ (by simp))
 have HBL : Hid (Below w.heap.size w w1) := HB0.out.trans (hb1.mono (by simp; omega))
 obtain ⟨b0, b1', b2', _, _⟩ := HA.out.cells
 obtain ⟨d0, d1', d2', _, _⟩ := HBb.out.cells
 obtain ⟨_, _, _, rf, _⟩ := HRr.out.cells
 clear hb1 hsz' HSZ
 go_wp2
 clear hfrom hto
 go_loopw [9, 10] (fun c i wr => ∃ (k : Nat) (cc : Int) (zs : List Nat) (sv : Value), c = .int .i64 cc ∧ i = .int .i64 (from' + (k : Int)) ∧ (k : Int) ≤ to - from' + 1 ∧ -1 ≤ cc ∧ cc ≤ 1 ∧ Hid (AddD (fun i => ms (dgt ds1 E1) from' i) (fun i => ms (dgt ds2 E2) from' i) (-1) k zs cc) ∧ Hid (AddW w w1.heap.size S1 S2 E1 E2 from' (.slice a1 ds1.length c1) (.slice a2 ds2.length c2) zs wr sv)) (fun _ i _ => (to + 1 - intOf i).toNat)
 case atStart => exact ⟨0, 0, [], .slice none 0 0, rfl, by simp, by omega, by omega, by omega, ⟨rfl, by simp, by simp [v24, ms], by omega, by omega⟩, addW_start HA.out HBb.out HRr.out HBL.out rfl hs3⟩
 case round =>
   obtain ⟨k, cc, zs, sv, rfl, rfl, hk, hc1, hc2, hD, hW⟩ := hrel
   by_cases hlt : from' + (k : Int) ≤ to
   · have HWW := hW.out
     have hbel : Hid (Below w.heap.size w wr) := HWW.bel
     obtain ⟨x0, x1, x2, _, _⟩ := HWW.a.cells
     obtain ⟨y0, y1, y2, _, _⟩ := HWW.b.cells
     clear HWW
     have hrefl : Hid (Below wr.heap.size wr wr) := Below.refl _ _
     have hkl : (k : Int) ≤ 20001 := by omega
     obtain ⟨p, hpd⟩ : ∃ p : Nat, Hid (dgt ds1 E1 (from' + (k : Int)) = p) := ⟨_, rfl⟩
     obtain ⟨q, hqd⟩ : ∃ q : Nat, Hid (dgt ds2 E2 (from' + (k : Int)) = q) := ⟨_, rfl⟩
     have hp1 : p < 16777216 := by rw [← hpd.out]; exact HS1.out _
     have hq1 : q < 16777216 := by rw [← hqd.out]; exact HS2'.out _
     have hp2 : (p : Int) < 16777216 := by omega
     have hq2 : (q : Int) < 16777216 := by omega
     have CA : Hid (∀ W, Below wr.heap.size wr W → Calls Tryz.prog 127 #[.agg #[.int .i64 S1, .slice a1 ds1.length c1, .int .i64 E1], .int .i64 (from' + (k : Int))] W fun e w' => e = .returned (.int .i64 (p : Nat)) ∧ Below W.heap.size W w') := by
       intro W hb
       have := digit_any _ S1 E1 (from' + (k : Int)) ds1 W (D1.out.later (hbel.out.trans (hb.mono hbel.out.size)))
       rwa [hpd.out] at this
     have CB : Hid (∀ W, Below wr.heap.size wr W → Calls Tryz.prog 127 #[.agg #[.int .i64 S2, .slice a2 ds2.length c2, .int .i64 E2], .int .i64 (from' + (k : Int))] W fun e w' => e = .returned (.int .i64 (q : Nat)) ∧ Below W.heap.size W w') := by
       intro W hb
       have := digit_any _ S2 E2 (from' + (k : Int)) ds2 W (D2.out.later (hbel.out.trans (hb.mono hbel.out.size)))
       rwa [hqd.out] at this
     have wq : IntKind.i64.wrap (-(q : Int)) = -(q : Int) := wrapE _ (by omega) (by omega)
     have wp : IntKind.i64.wrap ((p : Int) + -(q : Int)) = (p : Int) + -(q : Int) := wrapE _ (by omega) (by omega)
     have wv : IntKind.i64.wrap ((p : Int) + -(q : Int) + cc) = (p : Int) + -(q : Int) + cc := wrapE _ (by omega) (by omega)
     go_wp2
     go_region_held3 (fun W => W.cell? ⟨w.heap.size, 0, none⟩ = some (.int .i64 S1) ∧ W.cell? ⟨w.heap.size, 1, none⟩ = some (.slice a1 ds1.length c1) ∧ W.cell? ⟨w.heap.size, 2, none⟩ = some (.int .i64 E1) ∧ W.cell? ⟨w.heap.size + 1, 0, none⟩ = some (.int .i64 S2) ∧ W.cell? ⟨w.heap.size + 1, 1, none⟩ = some (.slice a2 ds2.length c2) ∧ W.cell? ⟨w.heap.size + 1, 2, none⟩ = some (.int .i64 E2) ∧ Below wr.heap.size wr W)
       (first
         | assumption
         | exact ⟨by go_simp, by go_simp, by go_simp, by go_simp, by go_simp, by go_simp, hrefl.out.drew⟩
         | exact keepN6 (by assumption) (by assumption))
       (first
         | (go_at_call_of 127 E1; refine (CA.out _ (by exact (by assumption : _ ∧ _ ∧ _ ∧ _ ∧ _ ∧ _ ∧ Below wr.heap.size wr _).2.2.2.2.2.2)).mono ?_; rintro e wA ⟨rfl, hbA⟩)
         | (go_at_call_of 127 E2; refine (CB.out _ (by exact (by assumption : _ ∧ _ ∧ _ ∧ _ ∧ _ ∧ _ ∧ Below wr.heap.size wr _).2.2.2.2.2.2)).mono ?_; rintro e wB ⟨rfl, hbB⟩))
     all_goals
       have hbf := (by assumption : _ ∧ _ ∧ _ ∧ _ ∧ _ ∧ _ ∧ Below wr.heap.size wr _).2.2.2.2.2.2
       have HW2 : Hid _ := hW.out.later hbf
       obtain ⟨z0, z1, z2, zf, zl⟩ := HW2.out.o.cells
       have zf1 := zf 1
       have HR := HW2.out.row
       have hsz : w1.heap.size + 1 ≤ _ := HW2.out.siz
       have HDX : Hid (AddD (fun i => ms (dgt ds1 E1) from' i) (fun i => ms (dgt ds2 E2) from' i) (-1) k zs cc) := hD
       have hzl : zs.length ≤ 20001 := by have := hD.out.len; omega
       clear hbf zf hW hD x0 x1 x2 y0 y1 y2 CA CB
       go_wp2
       go_loop [9, 11] (fun c v => ∃ v' c' : Int, v = .int .i64 v' ∧ c = .int .i64 c' ∧ Hid (v' + 16777216 * c' = (p : Int) + (-1) * (q : Int) + cc) ∧ -16777217 ≤ v' ∧ v' ≤ 33554431 ∧ Hid (v' < 0 → c' = 0) ∧ -1 ≤ c' ∧ c' ≤ 0) (fun _ v => (0 - intOf v).toNat)
       case atStart => exact ⟨_, 0, rfl, rfl, by show _ = _; omega, by omega, by omega, fun _ => rfl, by omega, by omega⟩
       case round =>
         obtain ⟨v', c', rfl, rfl, hv, b1, b2, b3, b4, b5⟩ := hrel
         by_cases hneg : v' < 0
         · have hc0 := b3.out hneg
           have hv' : Hid (v' + 16777216 + 16777216 * (c' - 1) = (p : Int) + (-1) * (q : Int) + cc) := by have := hv.out; show _ = _; omega
           have hb3 : Hid (v' + 16777216 < 0 → c' - 1 = 0) := by intro h; have := hv.out; omega
           have hb4 : -1 ≤ c' - 1 := by omega
           clear hc0 b3 hv
           go_wp2
           go_round
           case rel => exact ⟨v' + 16777216, c' - 1, rfl, rfl, hv', by omega, by omega, hb3, hb4, by omega⟩
           case measure => simp [intOf]; omega
         · go_wp2
           go_loop [9, 11] (fun c v => ∃ v' c' : Int, v = .int .i64 v' ∧ c = .int .i64 c' ∧ Hid (v' + 16777216 * c' = (p : Int) + (-1) * (q : Int) + cc) ∧ 0 ≤ v' ∧ v' ≤ 33554431 ∧ Hid (16777216 ≤ v' → c' ≤ 0) ∧ -1 ≤ c' ∧ c' ≤ 1) (fun _ v => (intOf v).toNat)
           case atStart => exact ⟨v', c', rfl, rfl, hv, by omega, by omega, fun _ => b5, by omega, by omega⟩
           case round =>
             clear hv b1 b2 b3 b4 b5 hneg
             obtain ⟨v', c', rfl, rfl, hv, b1, b2, b3, b4, b5⟩ := hrel
             by_cases hbig : 16777216 ≤ v'
             · have hc0 := b3.out hbig
               have hv' : Hid (v' - 16777216 + 16777216 * (c' + 1) = (p : Int) + (-1) * (q : Int) + cc) := by have := hv.out; show _ = _; omega
               have hb3 : Hid (16777216 ≤ v' - 16777216 → c' + 1 ≤ 0) := by intro h; omega
               have hb5 : c' + 1 ≤ 1 := by omega
               clear hc0 b3 hv
               go_wp2
               go_round
               case rel => exact ⟨v' - 16777216, c' + 1, rfl, rfl, hv', by omega, by omega, hb3, by omega, hb5⟩
               case measure => simp [intOf]; omega
             · obtain ⟨d, rfl⟩ : ∃ d : Nat, v' = (d : Int) := ⟨v'.toNat, by omega⟩
               have hbigb : decide ((16777216 : Int) ≤ (d : Int)) = false := decide_eq_false hbig
               go_wp2_with (at_builtin; refine wpList_append_lies _ rfl _ _ _ rfl (w1.heap.size + 1) 2 i0 _ 1 8 Tryz.underlying143 hi0 hz0 hz1 hz2 rfl (by omega) sv zs.length (i64s zs) rfl (HR.alloc _) ⟨_, 0, none⟩ 1 1 [.int .i64 (d : Nat)] rfl rfl (World.news_of_block (cs := #[.int .i64 (d : Nat)]) (t := 2) (fr := (0, 0)) (heap_alloc_new _ _)) (by simp [Value.oneCell']) (by omega) (by unfold maxLen; omega) (by omega) (by simp; omega) _ rfl ?_; intro g cap w9 hown1 hgrow hat hlt9; obtain ⟨hc0, hc1', hc2', hcf, hcl⟩ := (HW2.out.boxed hgrow).cells; have hcf1 := hcf 1; clear hcf)
               have HP := HW2.out.pushed hgrow hown1 rfl
               refine ⟨⟨k + 1, c', zs ++ [d], _, rfl, by go_num, by omega, b4, b5, HDX.out.step (a := p) (b := q) (v := (d : Int) + 16777216 * c') (by simp only [ms]; rw [hpd.out]) (by simp only [ms]; rw [hqd.out]) hv.out rfl (by omega) b4 b5, HP⟩, by simp [intOf]; omega⟩
   · obtain rfl : k = (to - from' + 1).toNat := by omega
     have hltb : decide (from' + ((to - from' + 1).toNat : Int) ≤ to) = false := decide_eq_false hlt
     obtain ⟨z0, z1, z2, zf, zl⟩ := hW.out.o.cells
     clear zf
     have hzl : zs.length = (to - from' + 1).toNat := hD.out.len
     have hform : ∃ a c, sv = .slice a zs.length c := by
       rcases own_form hW.out.row with ⟨rfl, a, c, rfl, _⟩ | ⟨_, g, cap, rfl, _⟩
       · exact ⟨_, _, rfl⟩
       · exact ⟨_, _, rfl⟩
     obtain ⟨sa, sc, rfl⟩ := hform
     have HZ : Hid (zs.length = (to - from' + 1).toNat) := hzl
     clear hzl
     go_wp2_with fail
     refine (trim_any _ S1 from' zs _ (own_dig hW.out.row hD.out.small (by have := HZ.out; omega) (by omega) (by omega)) (by have := HZ.out; omega)).mono ?_
     rintro e w2 hT
     obtain ⟨v9, rfl, hrf, hb9⟩ := trim_rf HSS.out hT
     have hB : BoxN w2 (w.heap.size + 2) 0 (.slice none 0 0) 0 := hW.out.r.block (hb9.block _ (by have := hW.out.siz; have := hW.out.ord; omega))
     have hO : Hid (OtherRow w2 (w.heap.size + 2)) := other_box hB
     obtain ⟨t0, t1', t2', tf, tl⟩ := hB.cells
     have HB : Hid (Below w.heap.size w w2) := hW.out.bel.trans (hb9.mono (by have := hW.out.siz; have := hW.out.ord; omega))
     have HV : Hid (Rf w2 v9 ((S1 : Rat) * mag zs from')) := hrf
     obtain ⟨S9, ds9, E9, hd9, _⟩ := HV.out
     obtain ⟨a9, c9, rfl, _⟩ := hd9.form
     clear hb9 hT hrf hB hW hd9
     go_wp2
     refine bodyPost_ret (v := .agg #[.int .i64 S9, .slice a9 ds9.length c9, .int .i64 E9]) (by simp [results, Tryz.results104, go_sem, t0, t1', t2']) rfl ?_
     refine ⟨zs, cc, hD.out, _, rfl, HV.out.boxed hO.out _ _ _, ?_⟩
     repeat (first | exact HB.out | refine Below.drew ?_ | refine Below.setCell ?_ (by show w.heap.size ≤ w.heap.size + 2; omega) _)
end
end Go.Proofs.YtkbhmglmbolbiaaGreatDoor
