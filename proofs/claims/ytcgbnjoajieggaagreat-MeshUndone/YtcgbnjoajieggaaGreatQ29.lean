/- Own texts, put together: Mg Mh Mi Mj. -/
import Derived.Test.YtcgbnjoajieggaaGreatQ26
import Derived.Test.YtcgbnjoajieggaaGreatQ28
namespace Go.Proofs.YtcgbnjoajieggaaGreat
/- Package mesh: lift. (gen_mf.py) -/
section
open Go.RowKit
attribute [local go_sem ↓] Go.wp_at_zero Go.wp_at_succ
set_option maxRecDepth 100000
theorem lift_end {S : Nat → Prop} {W W1 W2 : World} {gB pm fm ag n ac a b c k e fg fc l1 l2 : Nat} {pv : Value} {P : List (Nat × Nat)} {A : List (List Wg)} {F : Int → Int → Option Int} {vs : List Value} {fan : List Wg} (h : Gd S W ⟨gB, pv, .slice (some ⟨ag, 0, none⟩) n ac, pm, fm⟩ P A F vs)
   (hv : vs[a]? = some (.slice (some ⟨fg, 0, none⟩) (e + 1) fc)) (hA : A[a]? = some fan) (hk : fan[k]? = some (b, c)) (hl : fan.length = e + 1) (hlast : fan[e]? = some (l1, l2)) (hn : A.length = n)
   (h1 : W1.heap = W.heap ∧ W1.os = W.os ∧ W1.tape = W.tape ∧ W1.output = W.output)
   (h2 : W2 = (W1.setCell ⟨fg, k * 2, none⟩ (.int .i64 (l1 : Nat))).setCell ⟨fg, k * 2 + 1, none⟩ (.int .i64 (l2 : Nat))) :
   MapF W2 pm (plcI A) (cnt A) ∧ (∀ (W3 : World) (c3 : Nat), MapF W3 pm (putF (plcI A) (a : Nat) (l1 : Nat) (some (k : Nat))) c3 → ObM pm W2 W3 → ∀ W4 : World, MapF W4 pm (putF (putF (plcI A) (a : Nat) (l1 : Nat) (some (k : Nat))) (a : Nat) (b : Nat) none) (cnt A - 1) → ObM pm W3 W4 →
   Gd (Upx S W (W4.setCell ⟨ag, a, none⟩ (.slice (some ⟨fg, 0, none⟩) e fc))) (W4.setCell ⟨ag, a, none⟩ (.slice (some ⟨fg, 0, none⟩) e fc)) ⟨gB, pv, .slice (some ⟨ag, 0, none⟩) n ac, pm, fm⟩ P (liftA A a k) F (vs.set a (.slice (some ⟨fg, 0, none⟩) e fc)) ∧ Frm S W (W4.setCell ⟨ag, a, none⟩ (.slice (some ⟨fg, 0, none⟩) e fc))) := by
 have ha : a < A.length := (List.getElem?_eq_some_iff.1 hA).1
 have hgA : A.getD a [] = fan := by rw [List.getD_eq_getElem?_getD, hA]; rfl
 have hkl : k < fan.length := (List.getElem?_eq_some_iff.1 hk).1
 have g1 : Gm S W1 ⟨gB, pv, .slice (some ⟨ag, 0, none⟩) n ac, pm, fm⟩ P A (plcI A) (cnt A) F vs := h.m.same S (fun k _ _ => by rw [h1.1]) (fun _ hk _ => hk)
 have fr := g1.fans a _ hv
 rw [hgA, hl] at fr
 have s1 := fr.stored (k * 2) (.int .i64 (l1 : Nat))
 have s2 := s1.1.stored (k * 2 + 1) (.int .i64 (l2 : Nat))
 have hset : ((wcs fan).set (k * 2) (.int .i64 (l1 : Nat))).set (k * 2 + 1) (.int .i64 (l2 : Nat)) = wcs (fan.set k (l1, l2)) := pairs_set (fun w : Wg => Value.int .i64 (w.1 : Nat)) (fun w : Wg => Value.int .i64 (w.2 : Nat)) fan k (l1, l2) hkl
 rw [hset] at s2
 have oth : ∀ j, j ≠ fg → W2.heap[j]? = W1.heap[j]? := fun j hj => by
   rw [h2, heap_setCell_other _ ⟨fg, k * 2 + 1, none⟩ j _ (fun e => hj e), heap_setCell_other _ ⟨fg, k * 2, none⟩ j _ (fun e => hj e)]
 have nag : ag ≠ fg := fun e => own_type g1.row fr (by decide) (g := ag) rfl (by rw [e]; rfl)
 have r2 : W2.ownsRow 0 94 1 (.slice (some ⟨ag, 0, none⟩) n ac) A.length vs := own_same g1.row (fun g hg => oth g (fun e => by
   have : g = ag := by simpa [Value.ownBlock] using hg.symm
   exact nag (this.symm.trans e)))
 have hvs : vs.set a (.slice (some ⟨fg, 0, none⟩) (e + 1) fc) = vs := by
   apply List.ext_getElem?
   intro i
   rw [List.getElem?_set]
   by_cases ei : a = i
   · subst ei
     rw [if_pos rfl, if_pos (List.getElem?_eq_some_iff.1 hv).1, hv]
   · rw [if_neg ei]
 have g2 := g1.fan (W' := W2) (v' := .slice (some ⟨fg, 0, none⟩) (e + 1) fc) (fan := fan.set k (l1, l2)) hv
   (fun j _ _ hj => oth j (fun e => hj (by rw [e]; rfl)))
   (by rw [List.length_set, hl, h2]; exact s2.1) (Or.inl rfl) (by rw [hvs]; exact r2)
 rw [hvs] at g2
 have z2 : W2.heap.size = W1.heap.size := by rw [h2]; simp [World.setCell]
 have g2' : Gm S W2 ⟨gB, pv, .slice (some ⟨ag, 0, none⟩) n ac, pm, fm⟩ P (A.set a (fan.set k (l1, l2))) (plcI A) (cnt A) F vs := g2.same S (fun _ _ _ => rfl) (fun j hj _ => by rcases hj with hj | hj; exact hj; omega)
 refine ⟨g2'.map, fun W3 c3 hm3 o3 W4 hm4 o4 => ?_⟩
 have g4 := (g2'.put hm3 o3).put hm4 o4
 have r4 := g4.row
 rw [List.length_set] at r4
 have r5 := (hn ▸ r4 : W4.ownsRow 0 94 1 (.slice (some ⟨ag, 0, none⟩) n ac) n vs).stored a (.slice (some ⟨fg, 0, none⟩) e fc)
 have oth4 : ∀ j, j ≠ ag → (W4.setCell ⟨ag, a, none⟩ (.slice (some ⟨fg, 0, none⟩) e fc)).heap[j]? = W4.heap[j]? := fun j hj => heap_setCell_other W4 ⟨ag, a, none⟩ j _ (fun e => hj e)
 have f4 := g4.fans a _ hv
 have hgs : (A.set a (fan.set k (l1, l2))).getD a [] = fan.set k (l1, l2) := by rw [List.getD_eq_getElem?_getD, List.getElem?_set, if_pos rfl, if_pos ha]; rfl
 rw [hgs, List.length_set, hl] at f4
 have hout : outF fan k = (fan.set k (l1, l2)).dropLast := by
   unfold outF
   have := last_at hkl
   rw [hl, Nat.add_sub_cancel, hlast] at this
   rw [← Option.some.inj this]
 have hsp : fan.set k (l1, l2) = outF fan k ++ [(l1, l2)] := by
   rw [hout]
   have hl2 : (fan.set k (l1, l2)).getLast? = some (l1, l2) := by
     rw [List.getLast?_eq_getElem?, List.length_set, hl, Nat.add_sub_cancel, List.getElem?_set]
     by_cases ek : k = e
     · rw [if_pos ek, if_pos hkl]
     · rw [if_neg ek]; exact hlast
   obtain ⟨ys, hy⟩ := List.getLast?_eq_some_iff.1 hl2
   rw [hy, List.dropLast_concat]
 have hol : (outF fan k).length = e := by rw [len_out, hl]; rfl
 have hw : wcs (fan.set k (l1, l2)) = wcs (outF fan k) ++ [.int .i64 (l1 : Nat), .int .i64 (l2 : Nat)] := by rw [hsp]; unfold wcs; rw [List.flatMap_append]; rfl
 rw [hw] at f4
 have fp := ownsRow_pop (by rw [wcs_len, hol]) f4
 have g5 := g4.fan (W' := W4.setCell ⟨ag, a, none⟩ (.slice (some ⟨fg, 0, none⟩) e fc)) (v' := .slice (some ⟨fg, 0, none⟩) e fc) (fan := outF fan k) hv
   (fun j _ hj _ => oth4 j (fun e => hj (by rw [e]; rfl)))
   (by rw [hol]; exact own_same fp (fun g hg => oth4 g (fun e => by
     have : g = fg := by simpa [Value.ownBlock] using hg.symm
     exact nag (e.symm.trans this)))) (Or.inl rfl) (by rw [List.length_set, hn]; exact r5.1)
 rw [List.set_set] at g5
 have e1 : putF (putF (plcI A) (a : Nat) (l1 : Nat) (some (k : Nat))) (a : Nat) (b : Nat) none = plcI (liftA A a k) := by
   funext x y
   unfold putF plcI
   rw [plc_lift h.uq hA hk]
   have hla := last_at hkl
   rw [hl, Nat.add_sub_cancel, hlast] at hla
   rw [← Option.some.inj hla]
   by_cases e0 : x = (a : Nat) ∧ y = (b : Nat)
   · rw [if_pos e0, if_pos e0]; rfl
   · rw [if_neg e0, if_neg e0]
     by_cases e2 : x = (a : Nat) ∧ y = (l1 : Nat)
     · rw [if_pos e2, if_pos e2]; rfl
     · rw [if_neg e2, if_neg e2]
 have e2 : cnt A - 1 = cnt (liftA A a k) := by
   have := cnt_lift ha (k := k) (by rw [hgA]; exact hkl)
   omega
 have e3 : A.set a (outF fan k) = liftA A a k := by unfold liftA; rw [hgA]
 rw [e1, e2, e3] at g5
 have sz : W4.heap.size = W.heap.size := by rw [o4.size, o3.size, z2, h1.1]
 refine ⟨⟨g5.more (fun j hj => ?_), uq_lift h.uq hA hkl, by rw [len_lift]; exact h.len, h.few, fun x y z hx => ?_⟩, ?_⟩
 · rcases hj with hj | hj
   · exact Or.inl hj
   · exact Or.inr ⟨by omega, hj.2⟩
 · rw [len_lift]
   exact h.nums x y z ((Hw_lift h.uq hA hk).1 hx).1
 · have hs4 : (W4.setCell ⟨ag, a, none⟩ (.slice (some ⟨fg, 0, none⟩) e fc)).heap.size = W4.heap.size := by simp [World.setCell]
   refine ⟨?_, ?_, ?_, by omega, fun j hj hs => ?_⟩
   · show W4.os = W.os
     rw [o4.os, o3.os, h2]
     exact h1.2.1
   · show W4.tape = W.tape
     rw [o4.tape, o3.tape, h2]
     exact h1.2.2.1
   · show W4.output = W.output
     rw [o4.output, o3.output, h2]
     exact h1.2.2.2
   · rw [oth4 j (fun e => hs (by rw [e]; exact h.m.sA ag rfl)), o4.keep j (fun e => hs (by rw [e]; exact h.m.sP)), o3.keep j (fun e => hs (by rw [e]; exact h.m.sP)), oth j (fun e => hs (by rw [e]; exact h.m.sV a _ fg hv rfl)), h1.1]
section
variable {aa : Act} {W : World} {o : Oper} {K : Act → World → Prop} {Q : Exit → Act → World → Prop}
end
set_option maxHeartbeats 8000000 in
theorem lift_any {S : Nat → Prop} {W : World} {x : Gx} {P : List (Nat × Nat)} {A : List (List Wg)} {F : Int → Int → Option Int} {vs : List Value} (h : Gd S W x P A F vs) (a b k : Nat) (hp : plc A (a : Nat) (b : Nat) = some k) :
   Calls Tryz.prog 52 #[.pointer (some ⟨x.gB, 0, none⟩), .int .i64 (a : Nat), .int .i64 (b : Nat)] W fun e w' => e = .returned (.tuple #[]) ∧ ∃ vs', Gd (Upx S W w') w' x P (liftA A a k) F vs' ∧ Frm S W w' := by
 obtain ⟨a', fan, c, ea, hA, b', eb, hk⟩ := plc_some hp
 obtain rfl : a = a' := by omega
 obtain rfl : b = b' := by omega
 have ha : a < A.length := (List.getElem?_eq_some_iff.1 hA).1
 have hgA : A.getD a [] = fan := by rw [List.getD_eq_getElem?_getD, hA]; rfl
 have hkl : k < fan.length := (List.getElem?_eq_some_iff.1 hk).1
 obtain ⟨e, hl⟩ : ∃ e, fan.length = e + 1 := ⟨fan.length - 1, by omega⟩
 obtain ⟨⟨l1, l2⟩, hlast⟩ : ∃ w, fan[e]? = some w := ⟨_, List.getElem?_eq_getElem (by omega)⟩
 have hsm : e ≤ 2000000 := by have := Uq.len h.uq h.nums a; rw [hgA] at this; have := h.len; have := h.few; omega
 obtain ⟨v, hv⟩ : ∃ v, vs[a]? = some v := ⟨_, List.getElem?_eq_getElem (by have := h.m.len; omega)⟩
 obtain ⟨gB, pv, av, pm, fm⟩ := x
 obtain ⟨_, c1, c2, _⟩ := h.m.cells
 obtain ⟨aa, ac, hav, hAs⟩ := h.m.aslice
 obtain ⟨ag, rfl, hag, hcv, hfz, hob⟩ := hAs a v hv
 dsimp only at hav c1 c2
 subst hav
 obtain ⟨fa, fc, rfl, hF⟩ := h.m.fslice hv
 rw [hgA] at hF
 obtain ⟨fg, rfl, hfg, d1, d2, z1, z2, _⟩ := hF k _ hk
 obtain ⟨fg', ef, _, d3, d4, _⟩ := hF e _ hlast
 obtain rfl : fg = fg' := by
   have := Option.some.inj ef
   injection this
 obtain ⟨n, hn⟩ : ∃ n, A.length = n := ⟨_, rfl⟩
 have hlen : (A.getD a []).length = e + 1 := by rw [hgA]; exact hl
 rw [hlen] at hv hcv
 rw [hn] at c1 h ⊢
 have hfc : e + 1 ≤ fc := by
   have fr := h.m.fans a _ hv
   rcases fr.2 with ⟨q, _⟩ | ⟨g, cap, cur, q, _, _, q2, _⟩
   · cases q
   · injection q with _ _ q
     rw [hlen] at q2; omega
 dsimp only at d1 d2 d3 d4
 have he : plc A (a : Nat) (l1 : Nat) = some e := plc_at h.uq hA hlast
 have pe : plcI A (a : Nat) (l1 : Nat) = some (e : Nat) := by unfold plcI; rw [he]; rfl
 have pk : plcI A (a : Nat) (b : Nat) = some (k : Nat) := by unfold plcI; rw [hp]; rfl
 obtain ⟨V1, hV1⟩ : ∃ V, W.drew = V := ⟨_, rfl⟩
 obtain ⟨W2, hW2⟩ : ∃ X, (V1.setCell ⟨fg, k * 2, none⟩ (.int .i64 (l1 : Nat))).setCell ⟨fg, k * 2 + 1, none⟩ (.int .i64 (l2 : Nat)) = X := ⟨_, rfl⟩
 have LE := lift_end h hv hA hk hl hlast hn (W1 := V1) (by rw [← hV1]; exact ⟨rfl, rfl, rfl, rfl⟩) hW2.symm
 obtain ⟨W3, hmu, hm3, o3'⟩ := (LE.1.same (w' := W2.drew) rfl).put (a : Nat) (l1 : Nat) (k : Nat)
 have o3 : ObM pm W2 W3 := ⟨o3'.os, o3'.tape, o3'.output, o3'.size, o3'.keep⟩
 obtain ⟨W4, hdel, hm4, o4⟩ := hm3.del (a : Nat) (b : Nat) 0
 have e4 : (if (putF (plcI A) (a : Nat) (l1 : Nat) (some (k : Nat)) (a : Nat) (b : Nat)).isSome then (if (plcI A (a : Nat) (l1 : Nat)).isSome then cnt A else cnt A + 1) - 1 else (if (plcI A (a : Nat) (l1 : Nat)).isSome then cnt A else cnt A + 1)) = cnt A - 1 := by
   have : (putF (plcI A) (a : Nat) (l1 : Nat) (some (k : Nat)) (a : Nat) (b : Nat)).isSome = true := by
     unfold putF
     split
     · rfl
     · rw [pk]; rfl
   rw [if_pos this, pe]; rfl
 rw [e4] at hm4
 have HEnd := Lib.hid (LE.2 W3 _ hm3 o3 W4.drew (hm4.same rfl) ⟨o4.os, o4.tape, o4.output, o4.size, o4.keep⟩)
 have n1 : gB ≠ pm := cb_mp h.m.box h.m.map
 have n2 : ag ≠ pm := fun e => own_mp h.m.row h.m.map (by rw [← e]; rfl)
 have fr := h.m.fans a _ hv
 have n3 : fg ≠ pm := fun e => own_mp fr h.m.map (by rw [← e]; rfl)
 have n4 : gB ≠ ag := fun e => own_cb h.m.row h.m.box (by decide) (by rw [e]; rfl)
 have n5 : gB ≠ fg := fun e => own_cb fr h.m.box (by decide) (by rw [e]; rfl)
 have n6 : ag ≠ fg := fun e => own_type h.m.row fr (by decide) (g := ag) rfl (by rw [e]; rfl)
 have s2 : ∀ {g i : Nat}, g ≠ fg → W2.cell? ⟨g, i, none⟩ = V1.cell? ⟨g, i, none⟩ ∧ W2.frozen? ⟨g, i, none⟩ = V1.frozen? ⟨g, i, none⟩ := fun {g i} hg => by
   have : W2.heap[g]? = V1.heap[g]? := by rw [← hW2, heap_setCell_other _ ⟨fg, k * 2 + 1, none⟩ g _ (fun e => hg e), heap_setCell_other _ ⟨fg, k * 2, none⟩ g _ (fun e => hg e)]
   exact ⟨World.cell?_of_block this, World.frozen?_of_block this⟩
 have s3 : ∀ {g i : Nat}, g ≠ pm → W3.cell? ⟨g, i, none⟩ = W2.cell? ⟨g, i, none⟩ ∧ W3.frozen? ⟨g, i, none⟩ = W2.frozen? ⟨g, i, none⟩ := fun {g i} hg => ⟨World.cell?_of_block (o3.keep g hg), World.frozen?_of_block (o3.keep g hg)⟩
 have s4 : ∀ {g i : Nat}, g ≠ pm → W4.cell? ⟨g, i, none⟩ = W3.cell? ⟨g, i, none⟩ ∧ W4.frozen? ⟨g, i, none⟩ = W3.frozen? ⟨g, i, none⟩ := fun {g i} hg => ⟨World.cell?_of_block (o4.keep g hg), World.frozen?_of_block (o4.keep g hg)⟩
 have x1 : V1.cell? ⟨gB, 1, none⟩ = some (.slice (some ⟨ag, 0, none⟩) n ac) := by rw [← hV1]; exact c1
 have x2 : V1.cell? ⟨gB, 2, none⟩ = some (.map (some pm)) := by rw [← hV1]; exact c2
 have x3 : V1.cell? ⟨ag, a, none⟩ = some (.slice (some ⟨fg, 0, none⟩) (e + 1) fc) := by rw [← hV1]; exact hcv
 have xz : V1.frozen? ⟨ag, a, none⟩ = false := by rw [← hV1]; exact hfz
 have x4 : V1.cell? ⟨fg, e * 2, none⟩ = some (.int .i64 (l1 : Nat)) := by rw [← hV1]; exact d3
 have x5 : V1.cell? ⟨fg, e * 2 + 1, none⟩ = some (.int .i64 (l2 : Nat)) := by rw [← hV1]; exact d4
 have x6 : V1.cell? ⟨fg, k * 2, none⟩ = some (.int .i64 (b : Nat)) := by rw [← hV1]; exact d1
 have x7 : V1.cell? ⟨fg, k * 2 + 1, none⟩ = some (.int .i64 (c : Nat)) := by rw [← hV1]; exact d2
 have z6 : V1.frozen? ⟨fg, k * 2, none⟩ = false := by rw [← hV1]; exact z1
 have z7 : V1.frozen? ⟨fg, k * 2 + 1, none⟩ = false := by rw [← hV1]; exact z2
 have y4 : W2.cell? ⟨fg, e * 2, none⟩ = some (.int .i64 (l1 : Nat)) := by
   rw [← hW2, World.cell?_setCell_other _ _ _ _ (by intro h; have h := congrArg Addr.off h; dsimp only at h; omega)]
   by_cases ek : k = e
   · rw [ek]; exact World.cell?_setCell_same _ _ _ (by rw [x4])
   · rw [World.cell?_setCell_other _ _ _ _ (by intro h; have h := congrArg Addr.off h; dsimp only at h; omega)]; exact x4
 have hlk : (Instr.lookup 85 (.map (some pm)) (.agg #[.int .i64 (a : Nat), .int .i64 (b : Nat)]) false).run Tryz.prog V1 = .ok (.int .i64 (k : Nat)) V1 := by
   have := (h.m.map.same (w' := V1) (by rw [← hV1]; rfl)).look1 (a : Nat) (b : Nat)
   rw [pk] at this
   exact this
 have R0 := Lib.hid (And.intro x1 (And.intro x2 (And.intro x3 hlk)))
 have R2 := Lib.hid (And.intro x4 (And.intro x5 (And.intro x6 (And.intro x7 (And.intro z6 z7)))))
 have R3 := Lib.hid (And.intro ((s2 n5).1.trans x2) y4)
 have R3' := Lib.hid (And.intro ((s3 n1).1.trans ((s2 n5).1.trans x2)) ((s3 n3).1.trans y4))
 have R4 := Lib.hid (show (Instr.mapUpdate 85 (.map (some pm)) (.agg #[.int .i64 (a : Nat), .int .i64 (l1 : Nat)]) (.int .i64 (k : Nat))).run Tryz.prog W2.drew = .ok () W3 from hmu)
 have HDel := Lib.hid (show (Builtin.delete_ #[85, 71] 0 #[.map (some pm), .agg #[.int .i64 (a : Nat), .int .i64 (b : Nat)]]).run Tryz.prog W3 = .ok (.tuple #[]) W4 from hdel)
 have R5 := Lib.hid (And.intro ((s4 (i := 1) n1).1.trans ((s3 n1).1.trans ((s2 n5).1.trans x1))) (And.intro ((s4 (i := a) n2).1.trans ((s3 n2).1.trans ((s2 n6).1.trans x3))) ((s4 (i := a) n2).2.trans ((s3 n2).2.trans ((s2 n6).2.trans xz)))))
 have R6 : Hid ((W4.drew.setCell ⟨ag, a, none⟩ (.slice (some ⟨fg, 0, none⟩) e fc)).cell? ⟨gB, 1, none⟩ = some (.slice (some ⟨ag, 0, none⟩) n ac)) := Lib.hid (by
   rw [World.cell?_of_block (heap_setCell_other W4.drew ⟨ag, a, none⟩ gB _ (fun e => n4 e))]
   exact R5.out.1)
 have han : a < n := by omega
 have han2 : (a : Int) < (n : Int) := by omega
 have han3 : ¬ n ≤ a := by omega
 have hk1 : k < e + 1 := by omega
 have hk2 : (k : Int) < ((e + 1 : Nat) : Int) := by omega
 have hk3 : ¬ e + 1 ≤ k := by omega
 have hc1 : ¬ fc < e := by omega
 have hc2 : e ≤ fc := by omega
 have hc3 : (e : Int) ≤ (fc : Int) := by omega
 have hc4 : ¬ (fc : Int) < (e : Int) := by omega
 have hk4 : ¬ (e : Int) + 1 ≤ (e : Int) := by omega
 have hk5 : (e : Int) < (e : Int) + 1 := by omega
 have hk6 : (k : Int) < (e : Int) + 1 := by omega
 have hk7 : ¬ (e : Int) + 1 ≤ (k : Int) := by omega
 clear x1 x2 x3 x4 x5 x6 x7 xz z6 z7 y4 hlk s2 s3 s4 n1 n2 n3 n4 n5 n6 fr hm4 e4 hdel o4 hm3 hmu o3 o3' LE pe pk he hcv hfz hF hAs hob d1 d2 d3 d4 z1 z2 c1 c2 h hA hk hlast hv ea eb hp hl hkl hgA ha hn
 go_enter Tryz.func52, Tryz.ntmps52
 go_wp2_with fail
 refine wp_region_held_drew (S := (fun X => X = V1)) (by kernel_rfl) hV1 (fun hS => ?_)
 rw [hV1]
 rw [hV1] at hS
 refine take_at (i := 0) (d := some 9) (v := .pointer (some ⟨gB, 0, none⟩)) (by kernel_rfl) (by kernel_rfl) (by kernel_rfl) (by kernel_rfl) (fun _ _ _ h => h) ?_ hS ?_
 · intro o ho
   replace ho := Option.some.inj (Eq.trans (Eq.symm ho) rfl)
   subst ho
   refine Or.inl ⟨by rfl, ?_⟩
   intro w hSw
   (try dsimp only at hSw)
   subst hSw
   obtain ⟨q1, q2, q3, q4⟩ := R0.out
   go_simp
 simp only [Act.put, List.setIfInBounds_toArray, List.set_cons_zero, List.set_cons_succ]
 refine take_at (i := 1) (d := some 10) (v := .pointer (some ⟨gB, 0, none⟩)) (by kernel_rfl) (by kernel_rfl) (by kernel_rfl) (by kernel_rfl) (fun _ _ _ h => h) ?_ hS ?_
 · intro o ho
   replace ho := Option.some.inj (Eq.trans (Eq.symm ho) rfl)
   subst ho
   refine Or.inl ⟨by rfl, ?_⟩
   intro w hSw
   (try dsimp only at hSw)
   subst hSw
   obtain ⟨q1, q2, q3, q4⟩ := R0.out
   go_simp
 simp only [Act.put, List.setIfInBounds_toArray, List.set_cons_zero, List.set_cons_succ]
 refine take_at (i := 2) (d := some 11) (v := .pointer (some ⟨gB, 1, none⟩)) (by kernel_rfl) (by kernel_rfl) (by kernel_rfl) (by kernel_rfl) (fun _ _ _ h => h) ?_ hS ?_
 · intro o ho
   replace ho := Option.some.inj (Eq.trans (Eq.symm ho) rfl)
   subst ho
   refine Or.inl ⟨by rfl, ?_⟩
   intro w hSw
   (try dsimp only at hSw)
   subst hSw
   obtain ⟨q1, q2, q3, q4⟩ := R0.out
   go_simp
 simp only [Act.put, List.setIfInBounds_toArray, List.set_cons_zero, List.set_cons_succ]
 refine take_at (i := 3) (d := some 12) (v := .slice (some ⟨ag, 0, none⟩) n ac) (by kernel_rfl) (by kernel_rfl) (by kernel_rfl) (by kernel_rfl) (fun _ _ _ h => h) ?_ hS ?_
 · intro o ho
   replace ho := Option.some.inj (Eq.trans (Eq.symm ho) rfl)
   subst ho
   refine Or.inl ⟨by rfl, ?_⟩
   intro w hSw
   (try dsimp only at hSw)
   subst hSw
   obtain ⟨q1, q2, q3, q4⟩ := R0.out
   go_simp
 simp only [Act.put, List.setIfInBounds_toArray, List.set_cons_zero, List.set_cons_succ]
 refine take_at (i := 4) (d := some 13) (v := .int .i64 (a : Nat)) (by kernel_rfl) (by kernel_rfl) (by kernel_rfl) (by kernel_rfl) (fun _ _ _ h => h) ?_ hS ?_
 · intro o ho
   replace ho := Option.some.inj (Eq.trans (Eq.symm ho) rfl)
   subst ho
   refine Or.inl ⟨by rfl, ?_⟩
   intro w hSw
   (try dsimp only at hSw)
   subst hSw
   obtain ⟨q1, q2, q3, q4⟩ := R0.out
   go_simp
 simp only [Act.put, List.setIfInBounds_toArray, List.set_cons_zero, List.set_cons_succ]
 refine take_at (i := 5) (d := some 14) (v := .pointer (some ⟨ag, a, none⟩)) (by kernel_rfl) (by kernel_rfl) (by kernel_rfl) (by kernel_rfl) (fun _ _ _ h => h) ?_ hS ?_
 · intro o ho
   replace ho := Option.some.inj (Eq.trans (Eq.symm ho) rfl)
   subst ho
   refine Or.inl ⟨by rfl, ?_⟩
   intro w hSw
   (try dsimp only at hSw)
   subst hSw
   obtain ⟨q1, q2, q3, q4⟩ := R0.out
   go_simp
 simp only [Act.put, List.setIfInBounds_toArray, List.set_cons_zero, List.set_cons_succ]
 refine take_at (i := 6) (d := some 15) (v := .slice (some ⟨fg, 0, none⟩) (e + 1) fc) (by kernel_rfl) (by kernel_rfl) (by kernel_rfl) (by kernel_rfl) (fun _ _ _ h => h) ?_ hS ?_
 · intro o ho
   replace ho := Option.some.inj (Eq.trans (Eq.symm ho) rfl)
   subst ho
   refine Or.inl ⟨by rfl, ?_⟩
   intro w hSw
   (try dsimp only at hSw)
   subst hSw
   obtain ⟨q1, q2, q3, q4⟩ := R0.out
   go_simp
 simp only [Act.put, List.setIfInBounds_toArray, List.set_cons_zero, List.set_cons_succ]
 refine take_at (i := 7) (d := some 16) (v := .pointer (some ⟨gB, 0, none⟩)) (by kernel_rfl) (by kernel_rfl) (by kernel_rfl) (by kernel_rfl) (fun _ _ _ h => h) ?_ hS ?_
 · intro o ho
   replace ho := Option.some.inj (Eq.trans (Eq.symm ho) rfl)
   subst ho
   refine Or.inl ⟨by rfl, ?_⟩
   intro w hSw
   (try dsimp only at hSw)
   subst hSw
   obtain ⟨q1, q2, q3, q4⟩ := R0.out
   go_simp
 simp only [Act.put, List.setIfInBounds_toArray, List.set_cons_zero, List.set_cons_succ]
 refine take_at (i := 8) (d := some 17) (v := .pointer (some ⟨gB, 0, none⟩)) (by kernel_rfl) (by kernel_rfl) (by kernel_rfl) (by kernel_rfl) (fun _ _ _ h => h) ?_ hS ?_
 · intro o ho
   replace ho := Option.some.inj (Eq.trans (Eq.symm ho) rfl)
   subst ho
   refine Or.inl ⟨by rfl, ?_⟩
   intro w hSw
   (try dsimp only at hSw)
   subst hSw
   obtain ⟨q1, q2, q3, q4⟩ := R0.out
   go_simp
 simp only [Act.put, List.setIfInBounds_toArray, List.set_cons_zero, List.set_cons_succ]
 refine take_at (i := 9) (d := some 18) (v := .pointer (some ⟨gB, 2, none⟩)) (by kernel_rfl) (by kernel_rfl) (by kernel_rfl) (by kernel_rfl) (fun _ _ _ h => h) ?_ hS ?_
 · intro o ho
   replace ho := Option.some.inj (Eq.trans (Eq.symm ho) rfl)
   subst ho
   refine Or.inl ⟨by rfl, ?_⟩
   intro w hSw
   (try dsimp only at hSw)
   subst hSw
   obtain ⟨q1, q2, q3, q4⟩ := R0.out
   go_simp
 simp only [Act.put, List.setIfInBounds_toArray, List.set_cons_zero, List.set_cons_succ]
 refine take_at (i := 10) (d := some 19) (v := .map (some pm)) (by kernel_rfl) (by kernel_rfl) (by kernel_rfl) (by kernel_rfl) (fun _ _ _ h => h) ?_ hS ?_
 · intro o ho
   replace ho := Option.some.inj (Eq.trans (Eq.symm ho) rfl)
   subst ho
   refine Or.inl ⟨by rfl, ?_⟩
   intro w hSw
   (try dsimp only at hSw)
   subst hSw
   obtain ⟨q1, q2, q3, q4⟩ := R0.out
   go_simp
 simp only [Act.put, List.setIfInBounds_toArray, List.set_cons_zero, List.set_cons_succ]
 refine take_at (i := 11) (d := some 20) (v := .int .i64 (a : Nat)) (by kernel_rfl) (by kernel_rfl) (by kernel_rfl) (by kernel_rfl) (fun _ _ _ h => h) ?_ hS ?_
 · intro o ho
   replace ho := Option.some.inj (Eq.trans (Eq.symm ho) rfl)
   subst ho
   refine Or.inl ⟨by rfl, ?_⟩
   intro w hSw
   (try dsimp only at hSw)
   subst hSw
   obtain ⟨q1, q2, q3, q4⟩ := R0.out
   go_simp
 simp only [Act.put, List.setIfInBounds_toArray, List.set_cons_zero, List.set_cons_succ]
 refine take_at (i := 12) (d := some 21) (v := .int .i64 (b : Nat)) (by kernel_rfl) (by kernel_rfl) (by kernel_rfl) (by kernel_rfl) (fun _ _ _ h => h) ?_ hS ?_
 · intro o ho
   replace ho := Option.some.inj (Eq.trans (Eq.symm ho) rfl)
   subst ho
   refine Or.inl ⟨by rfl, ?_⟩
   intro w hSw
   (try dsimp only at hSw)
   subst hSw
   obtain ⟨q1, q2, q3, q4⟩ := R0.out
   go_simp
 simp only [Act.put, List.setIfInBounds_toArray, List.set_cons_zero, List.set_cons_succ]
 refine take_at (i := 13) (d := some 22) (v := .agg #[.int .i64 (a : Nat), .int .i64 (b : Nat)]) (by kernel_rfl) (by kernel_rfl) (by kernel_rfl) (by kernel_rfl) (fun _ _ _ h => h) ?_ hS ?_
 · intro o ho
   replace ho := Option.some.inj (Eq.trans (Eq.symm ho) rfl)
   subst ho
   refine Or.inl ⟨by rfl, ?_⟩
   intro w hSw
   (try dsimp only at hSw)
   subst hSw
   obtain ⟨q1, q2, q3, q4⟩ := R0.out
   go_simp
 simp only [Act.put, List.setIfInBounds_toArray, List.set_cons_zero, List.set_cons_succ]
 refine take_at (i := 14) (d := some 23) (v := .int .i64 (k : Nat)) (by kernel_rfl) (by kernel_rfl) (by kernel_rfl) (by kernel_rfl) (fun _ _ _ h => h) ?_ hS ?_
 · intro o ho
   replace ho := Option.some.inj (Eq.trans (Eq.symm ho) rfl)
   subst ho
   refine Or.inl ⟨by rfl, ?_⟩
   intro w hSw
   (try dsimp only at hSw)
   subst hSw
   obtain ⟨q1, q2, q3, q4⟩ := R0.out
   go_simp
 simp only [Act.put, List.setIfInBounds_toArray, List.set_cons_zero, List.set_cons_succ]
 refine take_at (i := 15) (d := some 6) (v := .slice (some ⟨fg, 0, none⟩) (e + 1) fc) (by kernel_rfl) (by kernel_rfl) (by kernel_rfl) (by kernel_rfl) (fun _ _ _ h => h) ?_ hS ?_
 · intro o ho
   replace ho := Option.some.inj (Eq.trans (Eq.symm ho) rfl)
   subst ho
   refine Or.inl ⟨by rfl, ?_⟩
   intro w hSw
   (try dsimp only at hSw)
   subst hSw
   obtain ⟨q1, q2, q3, q4⟩ := R0.out
   go_simp
 simp only [Act.put, List.setIfInBounds_toArray, List.set_cons_zero, List.set_cons_succ]
 refine take_at (i := 16) (d := some 7) (v := .int .i64 (k : Nat)) (by kernel_rfl) (by kernel_rfl) (by kernel_rfl) (by kernel_rfl) (fun _ _ _ h => h) ?_ hS ?_
 · intro o ho
   replace ho := Option.some.inj (Eq.trans (Eq.symm ho) rfl)
   subst ho
   refine Or.inl ⟨by rfl, ?_⟩
   intro w hSw
   (try dsimp only at hSw)
   subst hSw
   obtain ⟨q1, q2, q3, q4⟩ := R0.out
   go_simp
 simp only [Act.put, List.setIfInBounds_toArray, List.set_cons_zero, List.set_cons_succ]
 refine wpAnyH_done (by kernel_rfl) ?_ _
 clear hS
 obtain ⟨x4, x5, x6, x7, z6, z7⟩ := R2.out
 go_wp2_with fail
 try rw [hW2]
 clear x4 x5 x6 x7 z6 z7
 refine wp_region_held_drew (S := (fun W => W.cell? ⟨gB, 2, none⟩ = some (.map (some pm)) ∧ W.cell? ⟨fg, e * 2, none⟩ = some (.int .i64 (l1 : Nat)))) (by kernel_rfl) ⟨R3.out.1, R3.out.2⟩ (fun hS => ?_)
 refine take_at (i := 0) (d := some 34) (v := .pointer (some ⟨gB, 0, none⟩)) (by kernel_rfl) (by kernel_rfl) (by kernel_rfl) (by kernel_rfl) (fun _ _ _ h => h) ?_ hS ?_
 · intro o ho
   replace ho := Option.some.inj (Eq.trans (Eq.symm ho) rfl)
   subst ho
   refine Or.inl ⟨by rfl, ?_⟩
   intro w hSw
   obtain ⟨q1, q2⟩ := hSw
   go_simp
 simp only [Act.put, List.setIfInBounds_toArray, List.set_cons_zero, List.set_cons_succ]
 refine take_at (i := 1) (d := some 35) (v := .pointer (some ⟨gB, 0, none⟩)) (by kernel_rfl) (by kernel_rfl) (by kernel_rfl) (by kernel_rfl) (fun _ _ _ h => h) ?_ hS ?_
 · intro o ho
   replace ho := Option.some.inj (Eq.trans (Eq.symm ho) rfl)
   subst ho
   refine Or.inl ⟨by rfl, ?_⟩
   intro w hSw
   obtain ⟨q1, q2⟩ := hSw
   go_simp
 simp only [Act.put, List.setIfInBounds_toArray, List.set_cons_zero, List.set_cons_succ]
 refine take_at (i := 2) (d := some 36) (v := .pointer (some ⟨gB, 2, none⟩)) (by kernel_rfl) (by kernel_rfl) (by kernel_rfl) (by kernel_rfl) (fun _ _ _ h => h) ?_ hS ?_
 · intro o ho
   replace ho := Option.some.inj (Eq.trans (Eq.symm ho) rfl)
   subst ho
   refine Or.inl ⟨by rfl, ?_⟩
   intro w hSw
   obtain ⟨q1, q2⟩ := hSw
   go_simp
 simp only [Act.put, List.setIfInBounds_toArray, List.set_cons_zero, List.set_cons_succ]
 refine take_at (i := 3) (d := some 37) (v := .map (some pm)) (by kernel_rfl) (by kernel_rfl) (by kernel_rfl) (by kernel_rfl) (fun _ _ _ h => h) ?_ hS ?_
 · intro o ho
   replace ho := Option.some.inj (Eq.trans (Eq.symm ho) rfl)
   subst ho
   refine Or.inl ⟨by rfl, ?_⟩
   intro w hSw
   obtain ⟨q1, q2⟩ := hSw
   go_simp
 simp only [Act.put, List.setIfInBounds_toArray, List.set_cons_zero, List.set_cons_succ]
 refine take_at (i := 4) (d := some 38) (v := .int .i64 (a : Nat)) (by kernel_rfl) (by kernel_rfl) (by kernel_rfl) (by kernel_rfl) (fun _ _ _ h => h) ?_ hS ?_
 · intro o ho
   replace ho := Option.some.inj (Eq.trans (Eq.symm ho) rfl)
   subst ho
   refine Or.inl ⟨by rfl, ?_⟩
   intro w hSw
   obtain ⟨q1, q2⟩ := hSw
   go_simp
 simp only [Act.put, List.setIfInBounds_toArray, List.set_cons_zero, List.set_cons_succ]
 refine take_at (i := 5) (d := some 39) (v := .slice (some ⟨fg, 0, none⟩) (e + 1) fc) (by kernel_rfl) (by kernel_rfl) (by kernel_rfl) (by kernel_rfl) (fun _ _ _ h => h) ?_ hS ?_
 · intro o ho
   replace ho := Option.some.inj (Eq.trans (Eq.symm ho) rfl)
   subst ho
   refine Or.inl ⟨by rfl, ?_⟩
   intro w hSw
   obtain ⟨q1, q2⟩ := hSw
   go_simp
 simp only [Act.put, List.setIfInBounds_toArray, List.set_cons_zero, List.set_cons_succ]
 refine take_at (i := 6) (d := some 40) (v := .int .i64 (e : Nat)) (by kernel_rfl) (by kernel_rfl) (by kernel_rfl) (by kernel_rfl) (fun _ _ _ h => h) ?_ hS ?_
 · intro o ho
   replace ho := Option.some.inj (Eq.trans (Eq.symm ho) rfl)
   subst ho
   refine Or.inl ⟨by rfl, ?_⟩
   intro w hSw
   obtain ⟨q1, q2⟩ := hSw
   go_simp
 simp only [Act.put, List.setIfInBounds_toArray, List.set_cons_zero, List.set_cons_succ]
 refine take_at (i := 7) (d := some 41) (v := .pointer (some ⟨fg, e * 2, none⟩)) (by kernel_rfl) (by kernel_rfl) (by kernel_rfl) (by kernel_rfl) (fun _ _ _ h => h) ?_ hS ?_
 · intro o ho
   replace ho := Option.some.inj (Eq.trans (Eq.symm ho) rfl)
   subst ho
   refine Or.inl ⟨by rfl, ?_⟩
   intro w hSw
   obtain ⟨q1, q2⟩ := hSw
   go_simp
 simp only [Act.put, List.setIfInBounds_toArray, List.set_cons_zero, List.set_cons_succ]
 refine take_at (i := 8) (d := some 42) (v := .pointer (some ⟨fg, e * 2, none⟩)) (by kernel_rfl) (by kernel_rfl) (by kernel_rfl) (by kernel_rfl) (fun _ _ _ h => h) ?_ hS ?_
 · intro o ho
   replace ho := Option.some.inj (Eq.trans (Eq.symm ho) rfl)
   subst ho
   refine Or.inl ⟨by rfl, ?_⟩
   intro w hSw
   obtain ⟨q1, q2⟩ := hSw
   go_simp
 simp only [Act.put, List.setIfInBounds_toArray, List.set_cons_zero, List.set_cons_succ]
 refine take_at (i := 9) (d := some 43) (v := .int .i64 (l1 : Nat)) (by kernel_rfl) (by kernel_rfl) (by kernel_rfl) (by kernel_rfl) (fun _ _ _ h => h) ?_ hS ?_
 · intro o ho
   replace ho := Option.some.inj (Eq.trans (Eq.symm ho) rfl)
   subst ho
   refine Or.inl ⟨by rfl, ?_⟩
   intro w hSw
   obtain ⟨q1, q2⟩ := hSw
   go_simp
 simp only [Act.put, List.setIfInBounds_toArray, List.set_cons_zero, List.set_cons_succ]
 refine take_at (i := 10) (d := some 44) (v := .agg #[.int .i64 (a : Nat), .int .i64 (l1 : Nat)]) (by kernel_rfl) (by kernel_rfl) (by kernel_rfl) (by kernel_rfl) (fun _ _ _ h => h) ?_ hS ?_
 · intro o ho
   replace ho := Option.some.inj (Eq.trans (Eq.symm ho) rfl)
   subst ho
   refine Or.inl ⟨by rfl, ?_⟩
   intro w hSw
   obtain ⟨q1, q2⟩ := hSw
   go_simp
 simp only [Act.put, List.setIfInBounds_toArray, List.set_cons_zero, List.set_cons_succ]
 refine take_at (i := 11) (d := some 45) (v := .int .i64 (k : Nat)) (by kernel_rfl) (by kernel_rfl) (by kernel_rfl) (by kernel_rfl) (fun _ _ _ h => h) ?_ hS ?_
 · intro o ho
   replace ho := Option.some.inj (Eq.trans (Eq.symm ho) rfl)
   subst ho
   refine Or.inl ⟨by rfl, ?_⟩
   intro w hSw
   obtain ⟨q1, q2⟩ := hSw
   go_simp
 simp only [Act.put, List.setIfInBounds_toArray, List.set_cons_zero, List.set_cons_succ]
 refine call_at 12 (by kernel_rfl) (by kernel_rfl) ?_
 intro o ho
 replace ho := Option.some.inj (Eq.trans (Eq.symm ho) rfl)
 subst ho
 intro KF hK
 rw [if_pos (by rfl)]
 refine ok_mapUpdate rfl rfl rfl rfl R4.out ?_
 refine hK.out _ _ R3'.out ?_
 clear hS
 intro hS
 clear hK KF
 try simp only [Act.put]
 refine wpAnyH_done (by kernel_rfl) ?_ _
 clear hS
 have q1 := R3'.out.1
 have hdel := HDel.out
 go_wp2_with fail
 clear q1 hdel
 refine wp_region_held_drew (S := (fun W => W.cell? ⟨gB, 1, none⟩ = some (.slice (some ⟨ag, 0, none⟩) n ac))) (by kernel_rfl) R5.out.1 (fun hS => ?_)
 refine take_at (i := 0) (d := some 53) (v := .pointer (some ⟨gB, 0, none⟩)) (by kernel_rfl) (by kernel_rfl) (by kernel_rfl) (by kernel_rfl) (fun _ _ _ h => h) ?_ hS ?_
 · intro o ho
   replace ho := Option.some.inj (Eq.trans (Eq.symm ho) rfl)
   subst ho
   refine Or.inl ⟨by rfl, ?_⟩
   intro w hSw
   have q1 := hSw
   go_simp
 simp only [Act.put, List.setIfInBounds_toArray, List.set_cons_zero, List.set_cons_succ]
 refine take_at (i := 1) (d := some 54) (v := .pointer (some ⟨gB, 0, none⟩)) (by kernel_rfl) (by kernel_rfl) (by kernel_rfl) (by kernel_rfl) (fun _ _ _ h => h) ?_ hS ?_
 · intro o ho
   replace ho := Option.some.inj (Eq.trans (Eq.symm ho) rfl)
   subst ho
   refine Or.inl ⟨by rfl, ?_⟩
   intro w hSw
   have q1 := hSw
   go_simp
 simp only [Act.put, List.setIfInBounds_toArray, List.set_cons_zero, List.set_cons_succ]
 refine take_at (i := 2) (d := some 55) (v := .pointer (some ⟨gB, 1, none⟩)) (by kernel_rfl) (by kernel_rfl) (by kernel_rfl) (by kernel_rfl) (fun _ _ _ h => h) ?_ hS ?_
 · intro o ho
   replace ho := Option.some.inj (Eq.trans (Eq.symm ho) rfl)
   subst ho
   refine Or.inl ⟨by rfl, ?_⟩
   intro w hSw
   have q1 := hSw
   go_simp
 simp only [Act.put, List.setIfInBounds_toArray, List.set_cons_zero, List.set_cons_succ]
 refine take_at (i := 3) (d := some 56) (v := .slice (some ⟨ag, 0, none⟩) n ac) (by kernel_rfl) (by kernel_rfl) (by kernel_rfl) (by kernel_rfl) (fun _ _ _ h => h) ?_ hS ?_
 · intro o ho
   replace ho := Option.some.inj (Eq.trans (Eq.symm ho) rfl)
   subst ho
   refine Or.inl ⟨by rfl, ?_⟩
   intro w hSw
   have q1 := hSw
   go_simp
 simp only [Act.put, List.setIfInBounds_toArray, List.set_cons_zero, List.set_cons_succ]
 refine take_at (i := 4) (d := some 57) (v := .int .i64 (a : Nat)) (by kernel_rfl) (by kernel_rfl) (by kernel_rfl) (by kernel_rfl) (fun _ _ _ h => h) ?_ hS ?_
 · intro o ho
   replace ho := Option.some.inj (Eq.trans (Eq.symm ho) rfl)
   subst ho
   refine Or.inl ⟨by rfl, ?_⟩
   intro w hSw
   have q1 := hSw
   go_simp
 simp only [Act.put, List.setIfInBounds_toArray, List.set_cons_zero, List.set_cons_succ]
 refine take_at (i := 5) (d := some 58) (v := .slice (some ⟨fg, 0, none⟩) (e + 1) fc) (by kernel_rfl) (by kernel_rfl) (by kernel_rfl) (by kernel_rfl) (fun _ _ _ h => h) ?_ hS ?_
 · intro o ho
   replace ho := Option.some.inj (Eq.trans (Eq.symm ho) rfl)
   subst ho
   refine Or.inl ⟨by rfl, ?_⟩
   intro w hSw
   have q1 := hSw
   go_simp
 simp only [Act.put, List.setIfInBounds_toArray, List.set_cons_zero, List.set_cons_succ]
 refine take_at (i := 6) (d := some 59) (v := .int .i64 (e : Nat)) (by kernel_rfl) (by kernel_rfl) (by kernel_rfl) (by kernel_rfl) (fun _ _ _ h => h) ?_ hS ?_
 · intro o ho
   replace ho := Option.some.inj (Eq.trans (Eq.symm ho) rfl)
   subst ho
   refine Or.inl ⟨by rfl, ?_⟩
   intro w hSw
   have q1 := hSw
   go_simp
 simp only [Act.put, List.setIfInBounds_toArray, List.set_cons_zero, List.set_cons_succ]
 refine take_at (i := 7) (d := some 60) (v := .slice (some ⟨fg, 0, none⟩) e fc) (by kernel_rfl) (by kernel_rfl) (by kernel_rfl) (by kernel_rfl) (fun _ _ _ h => h) ?_ hS ?_
 · intro o ho
   replace ho := Option.some.inj (Eq.trans (Eq.symm ho) rfl)
   subst ho
   refine Or.inl ⟨by rfl, ?_⟩
   intro w hSw
   have q1 := hSw
   go_simp
 simp only [Act.put, List.setIfInBounds_toArray, List.set_cons_zero, List.set_cons_succ]
 refine take_at (i := 8) (d := some 61) (v := .pointer (some ⟨ag, a, none⟩)) (by kernel_rfl) (by kernel_rfl) (by kernel_rfl) (by kernel_rfl) (fun _ _ _ h => h) ?_ hS ?_
 · intro o ho
   replace ho := Option.some.inj (Eq.trans (Eq.symm ho) rfl)
   subst ho
   refine Or.inl ⟨by rfl, ?_⟩
   intro w hSw
   have q1 := hSw
   go_simp
 simp only [Act.put, List.setIfInBounds_toArray, List.set_cons_zero, List.set_cons_succ]
 refine call_at 9 (by kernel_rfl) (by kernel_rfl) ?_
 intro o ho
 replace ho := Option.some.inj (Eq.trans (Eq.symm ho) rfl)
 subst ho
 intro KF hK
 rw [if_pos (by rfl)]
 refine ok_stFan rfl rfl rfl R5.out.2.1 R5.out.2.2 ?_
 refine hK.out _ _ R6.out ?_
 clear hS
 intro hS
 clear hK KF
 try simp only [Act.put]
 refine wpAnyH_done (by kernel_rfl) ?_ _
 clear hS
 go_wp2
 go_end0
 first | exact ⟨rfl, ⟨_, HEnd.out.1⟩, HEnd.out.2⟩ | exact ⟨rfl, _, HEnd.out⟩
end

/- Package mesh: Apex, Count. -/
section
open Go.RowKit
attribute [local go_sem ↓] Go.wp_at_zero Go.wp_at_succ
set_option maxRecDepth 100000
structure Msh (S : Nat → Prop) (W : World) (mB : Nat) (x : Gx) (P : List (Nat × Nat)) (A : List (List Wg)) (F : Int → Int → Option Int) (vs : List Value) : Prop where
 box : Mh W mB x.gB
 out : ¬ S mB
 g : Gd S W x P A F vs
def apx (A : List (List Wg)) (a b : Int) : Option Nat := (plc A a b).bind fun k => ((A.getD a.toNat [])[k]?).map (·.2)
theorem apx_at {A : List (List Wg)} {a b : Int} {k : Nat} (h : plc A a b = some k) : ∃ (a' b' c : Nat) (fan : List Wg), a = (a' : Int) ∧ b = (b' : Int) ∧ A[a']? = some fan ∧ A.getD a' [] = fan ∧ fan[k]? = some (b', c) ∧ apx A a b = some c := by
 obtain ⟨a', fan, c, rfl, h1, b', rfl, h2⟩ := plc_some h
 have hg : A.getD a' [] = fan := by rw [List.getD_eq_getElem?_getD, h1]; rfl
 refine ⟨a', b', c, fan, rfl, rfl, h1, hg, h2, ?_⟩
 unfold apx
 rw [h, Option.bind_some, Int.toNat_natCast, hg, h2]; rfl
theorem apx_some {A : List (List Wg)} (hu : Uq A) {a b : Int} {c : Nat} : apx A a b = some c ↔ ∃ a' b' : Nat, a = (a' : Int) ∧ b = (b' : Int) ∧ Hw A a' b' c := by
 constructor
 · intro h
   cases hp : plc A a b with
   | none => unfold apx at h; rw [hp] at h; cases h
   | some k =>
     obtain ⟨a', b', c', fan, h1, h2, h3, _, h4, h5⟩ := apx_at hp
     rw [h] at h5; cases h5
     exact ⟨a', b', h1, h2, fan, h3, List.mem_of_getElem? h4⟩
 · rintro ⟨a', b', rfl, rfl, h⟩
   obtain ⟨k, fan, h1, h2, h3⟩ := h.plc hu
   obtain ⟨a2, b2, c2, fan2, e1, e2, g1, _, g2, g3⟩ := apx_at h1
   obtain rfl : a' = a2 := by omega
   rw [h2] at g1; cases g1
   rw [h3] at g2; cases g2
   exact g3
section
variable {S : Nat → Prop} {W : World} {mB : Nat} {x : Gx} {P : List (Nat × Nat)} {A : List (List Wg)} {F : Int → Int → Option Int} {vs : List Value}
theorem apex_any (h : Msh S W mB x P A F vs) (a b : Int) :
   Calls Tryz.prog 23 #[.pointer (some ⟨mB, 0, none⟩), .int .i64 a, .int .i64 b] W fun e w' => e = .returned (.tuple #[.int .i64 (((apx A a b).getD 0 : Nat) : Int), .bool (apx A a b).isSome]) ∧ w' = W := by
 have HB := Lib.hid h.box
 obtain ⟨gB, pv, av, pm, fm⟩ := x
 obtain ⟨_, c1, c2, _⟩ := h.g.m.cells
 dsimp only at c1 c2
 have hL := h.g.m.map.look a b
 cases hp : plc A a b with
 | none =>
   have hz : apx A a b = none := by unfold apx; rw [hp]; rfl
   have hL' : (Instr.lookup 85 (.map (some pm)) (.agg #[.int .i64 a, .int .i64 b]) true).run Tryz.prog W = .ok (.tuple #[.int .i64 0, .bool false]) W := by
     have : plcI A a b = none := by unfold plcI; rw [hp]; rfl
     rw [this] at hL; exact hL
   rw [hz]
   clear hL h hp hz
   go_enter Tryz.func23, Tryz.ntmps23
   go_wp2_with fail
   refine (see_some HB.out).mono ?_
   rintro e w' ⟨rfl, rfl⟩
   go_wp2
   go_ret2
   exact ⟨rfl, rfl⟩
 | some k =>
   obtain ⟨a', b', c, fan, rfl, rfl, hA, hgA, hk, hz⟩ := apx_at hp
   rw [hz]
   have hL' : (Instr.lookup 85 (.map (some pm)) (.agg #[.int .i64 (a' : Nat), .int .i64 (b' : Nat)]) true).run Tryz.prog W = .ok (.tuple #[.int .i64 (k : Nat), .bool true]) W := by
     have : plcI A (a' : Nat) (b' : Nat) = some (k : Nat) := by unfold plcI; rw [hp]; rfl
     rw [this] at hL; exact hL
   have ha : a' < A.length := (List.getElem?_eq_some_iff.1 hA).1
   have hkl : k < fan.length := (List.getElem?_eq_some_iff.1 hk).1
   obtain ⟨v, hv⟩ : ∃ v, vs[a']? = some v := ⟨_, List.getElem?_eq_getElem (by have := h.g.m.len; omega)⟩
   obtain ⟨aa, ac, hav, hAs⟩ := h.g.m.aslice
   obtain ⟨ag, rfl, hag, hcv, hfz, hob⟩ := hAs a' v hv
   obtain ⟨fa, fc, rfl, hF⟩ := h.g.m.fslice hv
   rw [hgA] at hF hcv
   obtain ⟨fg, rfl, hfg, d1, d2, _⟩ := hF k _ hk
   dsimp only at hav
   rw [hav] at c1
   obtain ⟨n, hn⟩ : ∃ n, A.length = n := ⟨_, rfl⟩
   obtain ⟨m, hm⟩ : ∃ m, fan.length = m := ⟨_, rfl⟩
   rw [hn] at c1 ha
   rw [hm] at hcv hkl
   have ha1 : (a' : Int) < (n : Int) := by omega
   have ha2 : ¬ n ≤ a' := by omega
   have hk1 : (k : Int) < (m : Int) := by omega
   have hk2 : ¬ m ≤ k := by omega
   dsimp only at d2
   clear hL h hp hz hAs hF hA hgA hk hn hm hav hob hfz hv
   go_enter Tryz.func23, Tryz.ntmps23
   go_wp2_with fail
   refine (see_some HB.out).mono ?_
   rintro e w' ⟨rfl, rfl⟩
   go_wp2
   go_ret2
   exact ⟨rfl, rfl⟩
theorem count_any (h : Msh S W mB x P A F vs) (hs : cnt A < 1000000000) :
   Calls Tryz.prog 20 #[.pointer (some ⟨mB, 0, none⟩)] W fun e w' => e = .returned (.int .i64 ((cnt A / 3 : Nat) : Int)) ∧ w' = W := by
 have HB := Lib.hid h.box
 obtain ⟨gB, pv, av, pm, fm⟩ := x
 obtain ⟨_, _, c2, _⟩ := h.g.m.cells
 dsimp only at c2
 obtain ⟨es, clock, L, h1, h2, _, h4, _⟩ := h.g.m.map
 have hlen : (Builtin.len_ #[85] 3 #[.map (some pm)]).run Tryz.prog W = .ok (.int .i64 (cnt A : Nat)) W := by
   have hel : es.size = cnt A := by have := congrArg List.length h2; rw [← h4]; simpa using this
   simp [Builtin.len_, run_underlying Tryz.underlying85, get_map2 h1, hel, goInt]
 obtain ⟨n, hn⟩ : ∃ n, cnt A = n := ⟨_, rfl⟩
 rw [hn] at hlen hs ⊢
 have hq : Int.tdiv (n : Int) 3 = ((n / 3 : Nat) : Int) := by
   rw [Int.tdiv_eq_ediv_of_nonneg (by omega)]; omega
 clear h h1 h2 h4 hn
 go_enter Tryz.func20, Tryz.ntmps20
 go_wp2_with fail
 refine (see_some HB.out).mono ?_
 rintro e w' ⟨rfl, rfl⟩
 go_wp2
 go_ret
 exact ⟨rfl, rfl⟩
end
end

/- Package mesh: Make. (gen_mi.py) -/
section
open Go.RowKit
attribute [local go_sem ↓] Go.wp_at_zero Go.wp_at_succ
set_option maxRecDepth 100000
theorem sg_same (p q : Nat) : sg3 p q p q p q ≤ 0 := by
 by_cases h : P3 p q p q p q
 · rw [sg3_yes h]
   have : S3 p q p q p q = 0 := by unfold S3; grind
   rw [this]; decide
 · rw [sg3_no h]; omega
noncomputable def sgP (P : List (Nat × Nat)) (a b c : Nat) : Int := sg3 (P.getD a (0, 0)).1 (P.getD a (0, 0)).2 (P.getD b (0, 0)).1 (P.getD b (0, 0)).2 (P.getD c (0, 0)).1 (P.getD c (0, 0)).2
noncomputable def mkE (P : List (Nat × Nat)) (A : List (List Wg)) (a b c : Int) : Int :=
 if [a, b, c].all (hasB P.length) = true then
   if sgP P a.toNat b.toNat c.toNat ≤ 0 then 14
   else if ((plc A a b).isSome || (plc A b c).isSome || (plc A c a).isSome) = true then 14 else 0
 else 11
def mkA (A : List (List Wg)) (a b c : Nat) : List (List Wg) := layA (layA (layA A a (b, c)) b (c, a)) c (a, b)
noncomputable def mkS (P : List (Nat × Nat)) (A : List (List Wg)) (a b c : Int) : List (List Wg) := if mkE P A a b c = 0 then mkA A a.toNat b.toNat c.toNat else A
theorem mkS_no {P : List (Nat × Nat)} {A : List (List Wg)} {a b c : Int} (h : mkE P A a b c ≠ 0) : mkS P A a b c = A := if_neg h
theorem mkS_yes {P : List (Nat × Nat)} {A : List (List Wg)} {a b c : Nat} (h : mkE P A (a : Nat) (b : Nat) (c : Nat) = 0) : mkS P A (a : Nat) (b : Nat) (c : Nat) = mkA A a b c := if_pos h
theorem lay3_none {A : List (List Wg)} (hu : Uq A) {a b c : Nat} (ha : a < A.length) (hb : b < A.length) (_hc : c < A.length) (hne : ¬ (a = b ∧ b = c)) (h0 : plc A (a : Nat) (b : Nat) = none) (h1 : plc A (b : Nat) (c : Nat) = none) (h2 : plc A (c : Nat) (a : Nat) = none) :
   plc A (a : Nat) (b : Nat) = none ∧ plc (layA A a (b, c)) (b : Nat) (c : Nat) = none ∧ plc (layA (layA A a (b, c)) b (c, a)) (c : Nat) (a : Nat) = none := by
 have g1 : plc (layA A a (b, c)) (b : Nat) (c : Nat) = none := by
   rw [plc_lay hu (w := (b, c)) ha h0, if_neg (by dsimp only; omega)]; exact h1
 refine ⟨h0, g1, ?_⟩
 rw [plc_lay (uq_lay hu ha h0) (w := (c, a)) (by rw [len_lay]; exact hb) g1, if_neg (by dsimp only; omega), plc_lay hu (w := (b, c)) ha h0, if_neg (by dsimp only; omega)]
 exact h2
theorem frm4 {S : Nat → Prop} {W w2 w3 w4 w5 : World} (b : Below W.heap.size W w2) (f3 : Frm S w2 w3) (f4 : Frm (Upx S w2 w3) w3 w4) (f5 : Frm (Upx (Upx S w2 w3) w3 w4) w4 w5) : Frm S W w5 ∧ ∀ k, Upx (Upx (Upx S w2 w3) w3 w4) w4 w5 k → Upx S W w5 k := by
 have s := b.size
 have s3 := f3.size
 have s4 := f4.size
 have s5 := f5.size
 have e1 : Frm S w2 w5 := (f3.trans f4).trans (f5.mono (Upx.up s3 s4))
 refine ⟨(Frm.later b).trans (e1.mono (fun k hk => Or.inl hk)), fun k hk => ?_⟩
 rcases hk with ((hk | hk) | hk) | hk
 · exact Or.inl hk
 · exact Or.inr ⟨by omega, by omega⟩
 · exact Or.inr ⟨by omega, by omega⟩
 · exact Or.inr ⟨by omega, hk.2⟩
section
variable {S : Nat → Prop} {W : World} {mB : Nat} {x : Gx} {P : List (Nat × Nat)} {A : List (List Wg)} {F : Int → Int → Option Int} {vs : List Value}
theorem Msh.step {W' : World} {A' : List (List Wg)} {vs' : List Value} (h : Msh S W mB x P A F vs) (hf : Frm S W W') (hg : Gd (Upx S W W') W' x P A' F vs') : Msh (Upx S W W') W' mB x P A' F vs' :=
 ⟨by have := h.box; unfold Mh CB at this ⊢; rw [hf.keep mB h.box.lt h.out]; exact this, fun e => by rcases e with e | e; exact h.out e; have := h.box.lt; omega, hg⟩
theorem Msh.later {W' : World} (h : Msh S W mB x P A F vs) (hb : Below W.heap.size W W') : Msh (Upx S W W') W' mB x P A F vs ∧ Frm S W W' :=
 ⟨h.step (Frm.later hb) ((h.g.later hb).more fun _ hk => Or.inl hk), Frm.later hb⟩
set_option maxHeartbeats 8000000 in
theorem make_any (h : Msh S W mB x P A F vs) (hw : ∀ (i : Nat) (p : Nat × Nat), P[i]? = some p → WdP p) (a b c : Int) :
   Calls Tryz.prog 15 #[.pointer (some ⟨mB, 0, none⟩), .int .i64 a, .int .i64 b, .int .i64 c] W fun e w' => e = .returned (.int .i64 (mkE P A a b c)) ∧ ∃ vs', Msh (Upx S W w') w' mB x P (mkS P A a b c) F vs' ∧ Frm S W w' := by
 have HM := Lib.hid h
 obtain ⟨W1, hW1⟩ : ∃ W1, W.alloc (.cells #[.int .i64 a, .int .i64 b, .int .i64 c] 3) = W1 := ⟨_, rfl⟩
 have b1 : Below W.heap.size W W1 := by rw [← hW1]; exact (Below.refl _ W).alloc (Nat.le_refl _) _
 have k1 : CB W1 W.heap.size #[.int .i64 a, .int .i64 b, .int .i64 c] 3 := by rw [← hW1]; exact CB.new W _ _
 have HG1 := Lib.hid (h.g.later b1)
 have HC : Hid (∀ (i : Nat) (y : Int), [a, b, c][i]? = some y → W1.cell? ⟨W.heap.size, i, none⟩ = some (.int .i64 y)) := Lib.hid (fun i y hi => by
   have hl := (List.getElem?_eq_some_iff.1 hi).1
   simp only [List.length_cons, List.length_nil] at hl
   rcases (show i = 0 ∨ i = 1 ∨ i = 2 by omega) with rfl | rfl | rfl
   · simp at hi; subst hi; exact k1.cell 0 (by simp)
   · simp at hi; subst hi; exact k1.cell 1 (by simp)
   · simp at hi; subst hi; exact k1.cell 2 (by simp))
 have HB1 := Lib.hid b1
 have HB := Lib.hid h.box
 have hmb : W.cell? ⟨mB, 0, none⟩ = some (.pointer (some ⟨x.gB, 0, none⟩)) := h.box.cell 0 (by simp)
 have HX : Hid (∃ n pa pc, P.length = n ∧ x.pv = .slice pa n pc) := Lib.hid (by obtain ⟨pa, pc, h1, _⟩ := h.g.m.pslice; exact ⟨_, pa, pc, rfl, h1⟩)
 clear b1 k1
 cases hh : [a, b, c].all (hasB P.length) with
 | false =>
   have hE : mkE P A a b c = 11 := by unfold mkE; rw [hh]; rfl
   rw [mkS_no (by rw [hE]; decide), hE]
   clear h hw
   go_enter Tryz.func15, Tryz.ntmps15
   go_wp2_with fail
   refine (none_some HB.out).mono ?_
   rintro e w' ⟨rfl, rfl⟩
   go_wp2_with fail
   try rw [hW1]
   refine (has_any HG1.out _ 3 3 [a, b, c] rfl (by omega) HC.out).mono ?_
   rintro e w' ⟨rfl, rfl⟩
   rw [hh]
   go_wp2
   go_ret
   exact ⟨rfl, _, (HM.out.later HB1.out).1, (HM.out.later HB1.out).2⟩
 | true =>
   have hall : ∀ y ∈ [a, b, c], hasB P.length y = true := List.all_eq_true.1 hh
   have la := of_decide_eq_true (hall a (by simp))
   have lb := of_decide_eq_true (hall b (by simp))
   have lc := of_decide_eq_true (hall c (by simp))
   obtain ⟨a, rfl⟩ : ∃ q : Nat, a = (q : Int) := ⟨a.toNat, by omega⟩
   obtain ⟨b, rfl⟩ : ∃ q : Nat, b = (q : Int) := ⟨b.toNat, by omega⟩
   obtain ⟨c, rfl⟩ : ∃ q : Nat, c = (q : Int) := ⟨c.toNat, by omega⟩
   clear hall
   have hPl := h.g.len
   have ha : a < A.length := by omega
   have hb : b < A.length := by omega
   have hc : c < A.length := by omega
   obtain ⟨z, hz'⟩ : ∃ z, sgP P a b c = z := ⟨_, rfl⟩
   have HE1 : Hid (z ≤ 0 → mkE P A (a : Nat) (b : Nat) (c : Nat) = 14) := Lib.hid (fun hz => by unfold mkE; rw [if_pos hh, if_pos (by simpa [hz'] using hz)])
   have HE2 : Hid (¬ z ≤ 0 → ((plc A (a : Nat) (b : Nat)).isSome || (plc A (b : Nat) (c : Nat)).isSome || (plc A (c : Nat) (a : Nat)).isSome) = true → mkE P A (a : Nat) (b : Nat) (c : Nat) = 14) := Lib.hid (fun hz ht => by unfold mkE; rw [if_pos hh, if_neg (by simpa [hz'] using hz), if_pos ht])
   have HE3 : Hid (¬ z ≤ 0 → ((plc A (a : Nat) (b : Nat)).isSome || (plc A (b : Nat) (c : Nat)).isSome || (plc A (c : Nat) (a : Nat)).isSome) = false → mkE P A (a : Nat) (b : Nat) (c : Nat) = 0) := Lib.hid (fun hz ht => by unfold mkE; rw [if_pos hh, if_neg (by simpa [hz'] using hz), if_neg (by rw [ht]; decide)])
   have HNE : Hid (¬ z ≤ 0 → ¬ (a = b ∧ b = c)) := Lib.hid (fun hz e => hz (by rw [← hz']; obtain ⟨rfl, rfl⟩ := e; exact sg_same _ _))
   obtain ⟨⟨ax, ay⟩, pa⟩ : ∃ p, P[a]? = some p := ⟨_, List.getElem?_eq_getElem (by omega)⟩
   obtain ⟨⟨bx, by'⟩, pb⟩ : ∃ p, P[b]? = some p := ⟨_, List.getElem?_eq_getElem (by omega)⟩
   obtain ⟨⟨cx, cy⟩, pc'⟩ : ∃ p, P[c]? = some p := ⟨_, List.getElem?_eq_getElem (by omega)⟩
   have hz : sg3 ax ay bx by' cx cy = z := by
     rw [← hz']; unfold sgP
     rw [List.getD_eq_getElem?_getD, List.getD_eq_getElem?_getD, List.getD_eq_getElem?_getD, pa, pb, pc']; rfl
   have HW6 : Hid (W6 ax ay bx by' cx cy) := Lib.hid ⟨hw a _ pa, hw b _ pb, hw c _ pc'⟩
   obtain ⟨gB, pv, av, pm, fm⟩ := x
   obtain ⟨qa, pc, hpv, hcell⟩ := HG1.out.m.pslice
   dsimp only at hpv
   subst hpv
   obtain ⟨pg, rfl, _, a1, a2⟩ := hcell a _ pa
   obtain ⟨pg', e1, _, b1, b2⟩ := hcell b _ pb
   obtain rfl : pg = pg' := by have := Option.some.inj e1; injection this
   obtain ⟨pg', e1, _, c1, c2⟩ := hcell c _ pc'
   obtain rfl : pg = pg' := by have := Option.some.inj e1; injection this
   obtain ⟨c0, _⟩ := HG1.out.m.cells
   obtain ⟨n, hn⟩ : ∃ n, P.length = n := ⟨_, rfl⟩
   dsimp only at a1 a2 b1 b2 c1 c2 c0
   rw [hn] at c0
   have HS0 := Lib.hid (show W1.drew.cell? ⟨gB, 0, none⟩ = some (.slice (some ⟨pg, 0, none⟩) n pc) ∧ W1.drew.cell? ⟨pg, a * 2, none⟩ = some (.float .f64 ax) ∧ W1.drew.cell? ⟨pg, a * 2 + 1, none⟩ = some (.float .f64 ay) ∧ W1.drew.cell? ⟨pg, b * 2, none⟩ = some (.float .f64 bx) ∧ W1.drew.cell? ⟨pg, b * 2 + 1, none⟩ = some (.float .f64 by') ∧ W1.drew.cell? ⟨pg, c * 2, none⟩ = some (.float .f64 cx) ∧ W1.drew.cell? ⟨pg, c * 2 + 1, none⟩ = some (.float .f64 cy) ∧ Below W1.heap.size W1 W1.drew from ⟨c0, a1, a2, b1, b2, c1, c2, (Below.refl _ _).drew⟩)
   have la1 : (a : Int) < (n : Int) := by omega
   have la2 : ¬ n ≤ a := by omega
   have lb1 : (b : Int) < (n : Int) := by omega
   have lb2 : ¬ n ≤ b := by omega
   have lc1 : (c : Int) < (n : Int) := by omega
   have lc2 : ¬ n ≤ c := by omega
   have hmb1 : W1.cell? ⟨mB, 0, none⟩ = some (.pointer (some ⟨gB, 0, none⟩)) := cell_later HB1.out hmb
   clear e1 hcell a1 a2 b1 b2 c1 c2 c0 pa pb pc' hz' h hw la lb lc hn hPl HX
   go_enter Tryz.func15, Tryz.ntmps15
   go_wp2_with fail
   refine (none_some HB.out).mono ?_
   rintro e w' ⟨rfl, rfl⟩
   go_wp2_with fail
   try rw [hW1]
   refine (has_any HG1.out _ 3 3 [(a : Int), (b : Int), (c : Int)] rfl (by omega) HC.out).mono ?_
   rintro e w' ⟨rfl, hq⟩
   rw [hq]
   clear hq w'
   rw [hh]
   go_wp2_with fail
   refine wp_region_held_drew (S := (fun W => W.cell? ⟨gB, 0, none⟩ = some (.slice (some ⟨pg, 0, none⟩) n pc) ∧ W.cell? ⟨pg, a * 2, none⟩ = some (.float .f64 ax) ∧ W.cell? ⟨pg, a * 2 + 1, none⟩ = some (.float .f64 ay) ∧ W.cell? ⟨pg, b * 2, none⟩ = some (.float .f64 bx) ∧ W.cell? ⟨pg, b * 2 + 1, none⟩ = some (.float .f64 by') ∧ W.cell? ⟨pg, c * 2, none⟩ = some (.float .f64 cx) ∧ W.cell? ⟨pg, c * 2 + 1, none⟩ = some (.float .f64 cy) ∧ Below W1.heap.size W1 W)) (by kernel_rfl) HS0.out (fun hS => ?_)
   refine take_at (i := 0) (d := some 25) (v := .pointer (some ⟨gB, 0, none⟩)) (by kernel_rfl) (by kernel_rfl) (by kernel_rfl) (by kernel_rfl) (fun _ _ _ h => h) ?_ hS ?_
   · intro o ho
     replace ho := Option.some.inj (Eq.trans (Eq.symm ho) rfl)
     subst ho
     refine Or.inl ⟨by rfl, ?_⟩
     intro w hSw
     obtain ⟨q0, q1, q2, q3, q4, q5, q6, q7⟩ := hSw
     go_simp
   simp only [Act.put, List.setIfInBounds_toArray, List.set_cons_zero, List.set_cons_succ]
   refine take_at (i := 1) (d := some 26) (v := .pointer (some ⟨gB, 0, none⟩)) (by kernel_rfl) (by kernel_rfl) (by kernel_rfl) (by kernel_rfl) (fun _ _ _ h => h) ?_ hS ?_
   · intro o ho
     replace ho := Option.some.inj (Eq.trans (Eq.symm ho) rfl)
     subst ho
     refine Or.inl ⟨by rfl, ?_⟩
     intro w hSw
     obtain ⟨q0, q1, q2, q3, q4, q5, q6, q7⟩ := hSw
     go_simp
   simp only [Act.put, List.setIfInBounds_toArray, List.set_cons_zero, List.set_cons_succ]
   refine take_at (i := 2) (d := some 27) (v := .pointer (some ⟨gB, 0, none⟩)) (by kernel_rfl) (by kernel_rfl) (by kernel_rfl) (by kernel_rfl) (fun _ _ _ h => h) ?_ hS ?_
   · intro o ho
     replace ho := Option.some.inj (Eq.trans (Eq.symm ho) rfl)
     subst ho
     refine Or.inl ⟨by rfl, ?_⟩
     intro w hSw
     obtain ⟨q0, q1, q2, q3, q4, q5, q6, q7⟩ := hSw
     go_simp
   simp only [Act.put, List.setIfInBounds_toArray, List.set_cons_zero, List.set_cons_succ]
   refine take_at (i := 3) (d := some 28) (v := .slice (some ⟨pg, 0, none⟩) n pc) (by kernel_rfl) (by kernel_rfl) (by kernel_rfl) (by kernel_rfl) (fun _ _ _ h => h) ?_ hS ?_
   · intro o ho
     replace ho := Option.some.inj (Eq.trans (Eq.symm ho) rfl)
     subst ho
     refine Or.inl ⟨by rfl, ?_⟩
     intro w hSw
     obtain ⟨q0, q1, q2, q3, q4, q5, q6, q7⟩ := hSw
     go_simp
   simp only [Act.put, List.setIfInBounds_toArray, List.set_cons_zero, List.set_cons_succ]
   refine take_at (i := 4) (d := some 29) (v := .int .i64 (a : Nat)) (by kernel_rfl) (by kernel_rfl) (by kernel_rfl) (by kernel_rfl) (fun _ _ _ h => h) ?_ hS ?_
   · intro o ho
     replace ho := Option.some.inj (Eq.trans (Eq.symm ho) rfl)
     subst ho
     refine Or.inl ⟨by rfl, ?_⟩
     intro w hSw
     obtain ⟨q0, q1, q2, q3, q4, q5, q6, q7⟩ := hSw
     go_simp
   simp only [Act.put, List.setIfInBounds_toArray, List.set_cons_zero, List.set_cons_succ]
   refine take_at (i := 5) (d := some 30) (v := .pointer (some ⟨pg, a * 2, none⟩)) (by kernel_rfl) (by kernel_rfl) (by kernel_rfl) (by kernel_rfl) (fun _ _ _ h => h) ?_ hS ?_
   · intro o ho
     replace ho := Option.some.inj (Eq.trans (Eq.symm ho) rfl)
     subst ho
     refine Or.inl ⟨by rfl, ?_⟩
     intro w hSw
     obtain ⟨q0, q1, q2, q3, q4, q5, q6, q7⟩ := hSw
     go_simp
   simp only [Act.put, List.setIfInBounds_toArray, List.set_cons_zero, List.set_cons_succ]
   refine take_at (i := 6) (d := some 31) (v := .agg #[.float .f64 ax, .float .f64 ay]) (by kernel_rfl) (by kernel_rfl) (by kernel_rfl) (by kernel_rfl) (fun _ _ _ h => h) ?_ hS ?_
   · intro o ho
     replace ho := Option.some.inj (Eq.trans (Eq.symm ho) rfl)
     subst ho
     refine Or.inl ⟨by rfl, ?_⟩
     intro w hSw
     obtain ⟨q0, q1, q2, q3, q4, q5, q6, q7⟩ := hSw
     go_simp
   simp only [Act.put, List.setIfInBounds_toArray, List.set_cons_zero, List.set_cons_succ]
   refine take_at (i := 7) (d := some 32) (v := .pointer (some ⟨gB, 0, none⟩)) (by kernel_rfl) (by kernel_rfl) (by kernel_rfl) (by kernel_rfl) (fun _ _ _ h => h) ?_ hS ?_
   · intro o ho
     replace ho := Option.some.inj (Eq.trans (Eq.symm ho) rfl)
     subst ho
     refine Or.inl ⟨by rfl, ?_⟩
     intro w hSw
     obtain ⟨q0, q1, q2, q3, q4, q5, q6, q7⟩ := hSw
     go_simp
   simp only [Act.put, List.setIfInBounds_toArray, List.set_cons_zero, List.set_cons_succ]
   refine take_at (i := 8) (d := some 33) (v := .pointer (some ⟨gB, 0, none⟩)) (by kernel_rfl) (by kernel_rfl) (by kernel_rfl) (by kernel_rfl) (fun _ _ _ h => h) ?_ hS ?_
   · intro o ho
     replace ho := Option.some.inj (Eq.trans (Eq.symm ho) rfl)
     subst ho
     refine Or.inl ⟨by rfl, ?_⟩
     intro w hSw
     obtain ⟨q0, q1, q2, q3, q4, q5, q6, q7⟩ := hSw
     go_simp
   simp only [Act.put, List.setIfInBounds_toArray, List.set_cons_zero, List.set_cons_succ]
   refine take_at (i := 9) (d := some 34) (v := .pointer (some ⟨gB, 0, none⟩)) (by kernel_rfl) (by kernel_rfl) (by kernel_rfl) (by kernel_rfl) (fun _ _ _ h => h) ?_ hS ?_
   · intro o ho
     replace ho := Option.some.inj (Eq.trans (Eq.symm ho) rfl)
     subst ho
     refine Or.inl ⟨by rfl, ?_⟩
     intro w hSw
     obtain ⟨q0, q1, q2, q3, q4, q5, q6, q7⟩ := hSw
     go_simp
   simp only [Act.put, List.setIfInBounds_toArray, List.set_cons_zero, List.set_cons_succ]
   refine take_at (i := 10) (d := some 35) (v := .slice (some ⟨pg, 0, none⟩) n pc) (by kernel_rfl) (by kernel_rfl) (by kernel_rfl) (by kernel_rfl) (fun _ _ _ h => h) ?_ hS ?_
   · intro o ho
     replace ho := Option.some.inj (Eq.trans (Eq.symm ho) rfl)
     subst ho
     refine Or.inl ⟨by rfl, ?_⟩
     intro w hSw
     obtain ⟨q0, q1, q2, q3, q4, q5, q6, q7⟩ := hSw
     go_simp
   simp only [Act.put, List.setIfInBounds_toArray, List.set_cons_zero, List.set_cons_succ]
   refine take_at (i := 11) (d := some 36) (v := .int .i64 (b : Nat)) (by kernel_rfl) (by kernel_rfl) (by kernel_rfl) (by kernel_rfl) (fun _ _ _ h => h) ?_ hS ?_
   · intro o ho
     replace ho := Option.some.inj (Eq.trans (Eq.symm ho) rfl)
     subst ho
     refine Or.inl ⟨by rfl, ?_⟩
     intro w hSw
     obtain ⟨q0, q1, q2, q3, q4, q5, q6, q7⟩ := hSw
     go_simp
   simp only [Act.put, List.setIfInBounds_toArray, List.set_cons_zero, List.set_cons_succ]
   refine take_at (i := 12) (d := some 37) (v := .pointer (some ⟨pg, b * 2, none⟩)) (by kernel_rfl) (by kernel_rfl) (by kernel_rfl) (by kernel_rfl) (fun _ _ _ h => h) ?_ hS ?_
   · intro o ho
     replace ho := Option.some.inj (Eq.trans (Eq.symm ho) rfl)
     subst ho
     refine Or.inl ⟨by rfl, ?_⟩
     intro w hSw
     obtain ⟨q0, q1, q2, q3, q4, q5, q6, q7⟩ := hSw
     go_simp
   simp only [Act.put, List.setIfInBounds_toArray, List.set_cons_zero, List.set_cons_succ]
   refine take_at (i := 13) (d := some 38) (v := .agg #[.float .f64 bx, .float .f64 by']) (by kernel_rfl) (by kernel_rfl) (by kernel_rfl) (by kernel_rfl) (fun _ _ _ h => h) ?_ hS ?_
   · intro o ho
     replace ho := Option.some.inj (Eq.trans (Eq.symm ho) rfl)
     subst ho
     refine Or.inl ⟨by rfl, ?_⟩
     intro w hSw
     obtain ⟨q0, q1, q2, q3, q4, q5, q6, q7⟩ := hSw
     go_simp
   simp only [Act.put, List.setIfInBounds_toArray, List.set_cons_zero, List.set_cons_succ]
   refine take_at (i := 14) (d := some 39) (v := .pointer (some ⟨gB, 0, none⟩)) (by kernel_rfl) (by kernel_rfl) (by kernel_rfl) (by kernel_rfl) (fun _ _ _ h => h) ?_ hS ?_
   · intro o ho
     replace ho := Option.some.inj (Eq.trans (Eq.symm ho) rfl)
     subst ho
     refine Or.inl ⟨by rfl, ?_⟩
     intro w hSw
     obtain ⟨q0, q1, q2, q3, q4, q5, q6, q7⟩ := hSw
     go_simp
   simp only [Act.put, List.setIfInBounds_toArray, List.set_cons_zero, List.set_cons_succ]
   refine take_at (i := 15) (d := some 40) (v := .pointer (some ⟨gB, 0, none⟩)) (by kernel_rfl) (by kernel_rfl) (by kernel_rfl) (by kernel_rfl) (fun _ _ _ h => h) ?_ hS ?_
   · intro o ho
     replace ho := Option.some.inj (Eq.trans (Eq.symm ho) rfl)
     subst ho
     refine Or.inl ⟨by rfl, ?_⟩
     intro w hSw
     obtain ⟨q0, q1, q2, q3, q4, q5, q6, q7⟩ := hSw
     go_simp
   simp only [Act.put, List.setIfInBounds_toArray, List.set_cons_zero, List.set_cons_succ]
   refine take_at (i := 16) (d := some 41) (v := .pointer (some ⟨gB, 0, none⟩)) (by kernel_rfl) (by kernel_rfl) (by kernel_rfl) (by kernel_rfl) (fun _ _ _ h => h) ?_ hS ?_
   · intro o ho
     replace ho := Option.some.inj (Eq.trans (Eq.symm ho) rfl)
     subst ho
     refine Or.inl ⟨by rfl, ?_⟩
     intro w hSw
     obtain ⟨q0, q1, q2, q3, q4, q5, q6, q7⟩ := hSw
     go_simp
   simp only [Act.put, List.setIfInBounds_toArray, List.set_cons_zero, List.set_cons_succ]
   refine take_at (i := 17) (d := some 42) (v := .slice (some ⟨pg, 0, none⟩) n pc) (by kernel_rfl) (by kernel_rfl) (by kernel_rfl) (by kernel_rfl) (fun _ _ _ h => h) ?_ hS ?_
   · intro o ho
     replace ho := Option.some.inj (Eq.trans (Eq.symm ho) rfl)
     subst ho
     refine Or.inl ⟨by rfl, ?_⟩
     intro w hSw
     obtain ⟨q0, q1, q2, q3, q4, q5, q6, q7⟩ := hSw
     go_simp
   simp only [Act.put, List.setIfInBounds_toArray, List.set_cons_zero, List.set_cons_succ]
   refine take_at (i := 18) (d := some 43) (v := .int .i64 (c : Nat)) (by kernel_rfl) (by kernel_rfl) (by kernel_rfl) (by kernel_rfl) (fun _ _ _ h => h) ?_ hS ?_
   · intro o ho
     replace ho := Option.some.inj (Eq.trans (Eq.symm ho) rfl)
     subst ho
     refine Or.inl ⟨by rfl, ?_⟩
     intro w hSw
     obtain ⟨q0, q1, q2, q3, q4, q5, q6, q7⟩ := hSw
     go_simp
   simp only [Act.put, List.setIfInBounds_toArray, List.set_cons_zero, List.set_cons_succ]
   refine take_at (i := 19) (d := some 44) (v := .pointer (some ⟨pg, c * 2, none⟩)) (by kernel_rfl) (by kernel_rfl) (by kernel_rfl) (by kernel_rfl) (fun _ _ _ h => h) ?_ hS ?_
   · intro o ho
     replace ho := Option.some.inj (Eq.trans (Eq.symm ho) rfl)
     subst ho
     refine Or.inl ⟨by rfl, ?_⟩
     intro w hSw
     obtain ⟨q0, q1, q2, q3, q4, q5, q6, q7⟩ := hSw
     go_simp
   simp only [Act.put, List.setIfInBounds_toArray, List.set_cons_zero, List.set_cons_succ]
   refine take_at (i := 20) (d := some 45) (v := .agg #[.float .f64 cx, .float .f64 cy]) (by kernel_rfl) (by kernel_rfl) (by kernel_rfl) (by kernel_rfl) (fun _ _ _ h => h) ?_ hS ?_
   · intro o ho
     replace ho := Option.some.inj (Eq.trans (Eq.symm ho) rfl)
     subst ho
     refine Or.inl ⟨by rfl, ?_⟩
     intro w hSw
     obtain ⟨q0, q1, q2, q3, q4, q5, q6, q7⟩ := hSw
     go_simp
   simp only [Act.put, List.setIfInBounds_toArray, List.set_cons_zero, List.set_cons_succ]
   refine call_at 21 (by kernel_rfl) (by kernel_rfl) ?_
   intro o ho
   replace ho := Option.some.inj (Eq.trans (Eq.symm ho) rfl)
   subst ho
   intro KF hK
   rw [if_pos (by rfl)]
   go_simp
   refine (sign3_any ax ay bx by' cx cy _ HW6.out).mono ?_
   rintro e w2 ⟨rfl, hbx⟩
   rw [hz]
   go_wp2_with fail
   have hb2 := below_step hS.2.2.2.2.2.2.2 hbx
   refine hK.out _ _ ⟨box_cell hbx hS.1, box_cell hbx hS.2.1, box_cell hbx hS.2.2.1, box_cell hbx hS.2.2.2.1, box_cell hbx hS.2.2.2.2.1, box_cell hbx hS.2.2.2.2.2.1, box_cell hbx hS.2.2.2.2.2.2.1, hb2⟩ ?_
   have HB2 := Lib.hid hb2
   clear hS hbx hb2
   intro hS
   clear hK KF
   try simp only [Act.put, List.setIfInBounds_toArray, List.set_cons_zero, List.set_cons_succ]
   have HBW := Lib.hid (HB1.out.trans (HB2.out.mono HB1.out.size))
   by_cases hle : z ≤ 0
   · have hE : mkE P A (a : Nat) (b : Nat) (c : Nat) = 14 := HE1.out hle
     have hd : decide (z ≤ 0) = true := decide_eq_true hle
     as_aux_lemma =>
      refine take_at (i := 22) (d := some 47) (v := .bool true) (by kernel_rfl) (by kernel_rfl) (by kernel_rfl) (by kernel_rfl) (fun _ _ _ h => h) ?_ hS ?_
      · intro o ho
        replace ho := Option.some.inj (Eq.trans (Eq.symm ho) rfl)
        subst ho
        refine Or.inl ⟨by rfl, ?_⟩
        intro w hSw
        obtain ⟨q0, q1, q2, q3, q4, q5, q6, q7⟩ := hSw
        go_simp
      simp only [Act.put, List.setIfInBounds_toArray, List.set_cons_zero, List.set_cons_succ]
      refine take_at (i := 23) (d := some 24) (v := .bool true) (by kernel_rfl) (by kernel_rfl) (by kernel_rfl) (by kernel_rfl) (fun _ _ _ h => h) ?_ hS ?_
      · intro o ho
        replace ho := Option.some.inj (Eq.trans (Eq.symm ho) rfl)
        subst ho
        refine Or.inl ⟨by rfl, ?_⟩
        intro w hSw
        obtain ⟨q0, q1, q2, q3, q4, q5, q6, q7⟩ := hSw
        go_simp
      simp only [Act.put, List.setIfInBounds_toArray, List.set_cons_zero, List.set_cons_succ]
      refine wpAnyH_done (by kernel_rfl) ?_ _
      clear hS
      go_wp2
      go_ret
      rw [mkS_no (by rw [hE]; decide), hE]
      exact ⟨rfl, _, (HM.out.later HBW.out).1, (HM.out.later HBW.out).2⟩
   · have hd : decide (z ≤ 0) = false := decide_eq_false hle
     have HG2 := Lib.hid (HG1.out.later HB2.out)
     refine take_at (i := 22) (d := some 47) (v := .bool false) (by kernel_rfl) (by kernel_rfl) (by kernel_rfl) (by kernel_rfl) (fun _ _ _ h => h) ?_ hS ?_
     · intro o ho
       replace ho := Option.some.inj (Eq.trans (Eq.symm ho) rfl)
       subst ho
       refine Or.inl ⟨by rfl, ?_⟩
       intro w hSw
       obtain ⟨q0, q1, q2, q3, q4, q5, q6, q7⟩ := hSw
       go_simp
     simp only [Act.put, List.setIfInBounds_toArray, List.set_cons_zero, List.set_cons_succ]
     refine take_at (i := 23) (d := some 24) (v := .bool false) (by kernel_rfl) (by kernel_rfl) (by kernel_rfl) (by kernel_rfl) (fun _ _ _ h => h) ?_ hS ?_
     · intro o ho
       replace ho := Option.some.inj (Eq.trans (Eq.symm ho) rfl)
       subst ho
       refine Or.inl ⟨by rfl, ?_⟩
       intro w hSw
       obtain ⟨q0, q1, q2, q3, q4, q5, q6, q7⟩ := hSw
       go_simp
     simp only [Act.put, List.setIfInBounds_toArray, List.set_cons_zero, List.set_cons_succ]
     refine wpAnyH_done (by kernel_rfl) ?_ _
     clear hS
     go_wp2_with fail
     refine (there_any HG2.out (a : Nat) (b : Nat)).mono ?_
     rintro e w' ⟨rfl, hq⟩
     rw [hq]
     clear hq w'
     cases ht0 : (plc A (a : Nat) (b : Nat)).isSome
     case true =>
       have hE : mkE P A (a : Nat) (b : Nat) (c : Nat) = 14 := HE2.out hle (by simp [ht0])
       as_aux_lemma =>
        go_wp2
        go_ret
        rw [mkS_no (by rw [hE]; decide), hE]
        exact ⟨rfl, _, (HM.out.later HBW.out).1, (HM.out.later HBW.out).2⟩
     go_wp2_with fail
     refine (there_any HG2.out (b : Nat) (c : Nat)).mono ?_
     rintro e w' ⟨rfl, hq⟩
     rw [hq]
     clear hq w'
     cases ht1 : (plc A (b : Nat) (c : Nat)).isSome
     case true =>
       have hE : mkE P A (a : Nat) (b : Nat) (c : Nat) = 14 := HE2.out hle (by simp [ht1])
       as_aux_lemma =>
        go_wp2
        go_ret
        rw [mkS_no (by rw [hE]; decide), hE]
        exact ⟨rfl, _, (HM.out.later HBW.out).1, (HM.out.later HBW.out).2⟩
     go_wp2_with fail
     refine (there_any HG2.out (c : Nat) (a : Nat)).mono ?_
     rintro e w' ⟨rfl, hq⟩
     rw [hq]
     clear hq w'
     cases ht2 : (plc A (c : Nat) (a : Nat)).isSome
     case true =>
       have hE : mkE P A (a : Nat) (b : Nat) (c : Nat) = 14 := HE2.out hle (by simp [ht2])
       as_aux_lemma =>
        go_wp2
        go_ret
        rw [mkS_no (by rw [hE]; decide), hE]
        exact ⟨rfl, _, (HM.out.later HBW.out).1, (HM.out.later HBW.out).2⟩
     have HN := Lib.hid (lay3_none HG2.out.uq ha hb hc (HNE.out hle) (by simpa using ht0) (by simpa using ht1) (by simpa using ht2))
     have hE : mkE P A (a : Nat) (b : Nat) (c : Nat) = 0 := HE3.out hle (by simp [ht0, ht1, ht2])
     have HSt := Lib.hid (And.intro hE (mkS_yes hE))
     clear hE ht0 ht1 ht2
     go_wp2_with fail
     refine (lay_any HG2.out a b c ha hb hc HN.out.1).mono ?_
     rintro e w3 ⟨rfl, v3, g3, f3⟩
     have H3 := Lib.hid (And.intro g3 f3)
     clear g3 f3
     go_wp2_with fail
     refine (lay_any H3.out.1 b c a (by rw [len_lay]; exact hb) (by rw [len_lay]; exact hc) (by rw [len_lay]; exact ha) HN.out.2.1).mono ?_
     rintro e w4 ⟨rfl, v4, g4, f4⟩
     have H4 := Lib.hid (And.intro g4 f4)
     clear g4 f4
     go_wp2_with fail
     refine (lay_any H4.out.1 c a b (by rw [len_lay, len_lay]; exact hc) (by rw [len_lay, len_lay]; exact ha) (by rw [len_lay, len_lay]; exact hb) HN.out.2.2).mono ?_
     rintro e w5 ⟨rfl, v5, g5, f5⟩
     have H5 := Lib.hid (And.intro g5 f5)
     clear g5 f5
     have HF := Lib.hid (frm4 HBW.out H3.out.2 H4.out.2 H5.out.2)
     go_wp2
     go_ret
     rw [HSt.out.2, HSt.out.1]
     exact ⟨rfl, _, HM.out.step HF.out.1 (H5.out.1.more HF.out.2), HF.out.1⟩
end
end

/- Package mesh: Kill. -/
section
open Go.RowKit
attribute [local go_sem ↓] Go.wp_at_zero Go.wp_at_succ
set_option maxRecDepth 100000
structure Tri3 (P : List (Nat × Nat)) (A : List (List Wg)) : Prop where
 turn : ∀ a b c, Hw A a b c → Hw A b c a
 pos : ∀ a b c, Hw A a b c → 0 < sgP P a b c
def Rot (a b c x y z : Nat) : Prop := (x = a ∧ y = b ∧ z = c) ∨ (x = b ∧ y = c ∧ z = a) ∨ (x = c ∧ y = a ∧ z = b)
theorem sg_ab (p q r s : Nat) : sg3 p q p q r s ≤ 0 := by
 by_cases h : P3 p q p q r s
 · rw [sg3_yes h]
   have : S3 p q p q r s = 0 := by unfold S3; grind
   rw [this]; decide
 · rw [sg3_no h]; omega
theorem sg_bc (p q r s : Nat) : sg3 p q r s r s ≤ 0 := by
 by_cases h : P3 p q r s r s
 · rw [sg3_yes h]
   have : S3 p q r s r s = 0 := by unfold S3; grind
   rw [this]; decide
 · rw [sg3_no h]; omega
theorem sg_ca (p q r s : Nat) : sg3 p q r s p q ≤ 0 := by
 by_cases h : P3 p q r s p q
 · rw [sg3_yes h]
   have : S3 p q r s p q = 0 := by unfold S3; grind
   rw [this]; decide
 · rw [sg3_no h]; omega
theorem sgP_ne {P : List (Nat × Nat)} {a b c : Nat} (h : 0 < sgP P a b c) : a ≠ b ∧ b ≠ c ∧ c ≠ a := by
 unfold sgP at h
 refine ⟨?_, ?_, ?_⟩
 · rintro rfl; have := sg_ab (P.getD a (0, 0)).1 (P.getD a (0, 0)).2 (P.getD c (0, 0)).1 (P.getD c (0, 0)).2; omega
 · rintro rfl; have := sg_bc (P.getD a (0, 0)).1 (P.getD a (0, 0)).2 (P.getD b (0, 0)).1 (P.getD b (0, 0)).2; omega
 · rintro rfl; have := sg_ca (P.getD c (0, 0)).1 (P.getD c (0, 0)).2 (P.getD b (0, 0)).1 (P.getD b (0, 0)).2; omega
theorem sgq_rot (p q : Rat) (h : p = q) : sgq p = sgq q := by rw [h]
theorem sg_turn (ax ay bx by' cx cy : Nat) : sg3 bx by' cx cy ax ay = sg3 ax ay bx by' cx cy := by
 by_cases h : P3 ax ay bx by' cx cy
 · rw [sg3_yes h, sg3_yes ⟨h.2.1, h.2.2, h.1⟩]
   exact sgq_rot _ _ (by unfold S3; grind)
 · rw [sg3_no h, sg3_no (fun e => h ⟨e.2.2, e.1, e.2.1⟩)]
theorem sgP_turn (P : List (Nat × Nat)) (a b c : Nat) : sgP P b c a = sgP P a b c := sg_turn _ _ _ _ _ _
theorem Tri3.ne {P : List (Nat × Nat)} {A : List (List Wg)} (h : Tri3 P A) {a b c : Nat} (hw : Hw A a b c) : a ≠ b ∧ b ≠ c ∧ c ≠ a := sgP_ne (h.pos a b c hw)
noncomputable def kiE (A : List (List Wg)) (a b c : Int) : Int := if (apx A a b).map (fun k : Nat => (k : Int)) = some c then 0 else 5
theorem lift3 {P : List (Nat × Nat)} {A : List (List Wg)} (hu : Uq A) (ht : Tri3 P A) {a b c : Nat} (h : Hw A a b c) :
   ∃ k1 k2 k3, plc A (a : Nat) (b : Nat) = some k1 ∧ plc (liftA A a k1) (b : Nat) (c : Nat) = some k2 ∧ plc (liftA (liftA A a k1) b k2) (c : Nat) (a : Nat) = some k3 ∧
     (∀ x y z, Hw (liftA (liftA (liftA A a k1) b k2) c k3) x y z ↔ Hw A x y z ∧ ¬ Rot a b c x y z) ∧ cnt (liftA (liftA (liftA A a k1) b k2) c k3) + 3 = cnt A := by
 obtain ⟨n1, n2, n3⟩ := ht.ne h
 have h2 := ht.turn _ _ _ h
 have h3 := ht.turn _ _ _ h2
 obtain ⟨k1, f1, p1, A1, e1⟩ := h.plc hu
 have l1 := (List.getElem?_eq_some_iff.1 e1).1
 have u1 := uq_lift hu A1 l1
 have w1 : ∀ x y z, Hw (liftA A a k1) x y z ↔ Hw A x y z ∧ ¬ (x = a ∧ y = b) := fun x y z => Hw_lift hu A1 e1
 have q2 : Hw (liftA A a k1) b c a := (w1 _ _ _).2 ⟨h2, fun e => n1 e.1.symm⟩
 obtain ⟨k2, f2, p2, A2, e2⟩ := q2.plc u1
 have l2 := (List.getElem?_eq_some_iff.1 e2).1
 have u2 := uq_lift u1 A2 l2
 have w2 : ∀ x y z, Hw (liftA (liftA A a k1) b k2) x y z ↔ Hw (liftA A a k1) x y z ∧ ¬ (x = b ∧ y = c) := fun x y z => Hw_lift u1 A2 e2
 have q3 : Hw (liftA (liftA A a k1) b k2) c a b := (w2 _ _ _).2 ⟨(w1 _ _ _).2 ⟨h3, fun e => n3 e.1⟩, fun e => n2 e.1.symm⟩
 obtain ⟨k3, f3, p3, A3, e3⟩ := q3.plc u2
 have l3 := (List.getElem?_eq_some_iff.1 e3).1
 have w3 : ∀ x y z, Hw (liftA (liftA (liftA A a k1) b k2) c k3) x y z ↔ Hw (liftA (liftA A a k1) b k2) x y z ∧ ¬ (x = c ∧ y = a) := fun x y z => Hw_lift u2 A3 e3
 have gd : ∀ {B : List (List Wg)} {i : Nat} {f : List Wg}, B[i]? = some f → B.getD i [] = f := fun hb => by rw [List.getD_eq_getElem?_getD, hb]; rfl
 refine ⟨k1, k2, k3, p1, p2, p3, fun x y z => ?_, ?_⟩
 · rw [w3, w2, w1]
   constructor
   · rintro ⟨⟨⟨g, g1⟩, g2⟩, g3⟩
     refine ⟨g, ?_⟩
     rintro (⟨r1, r2, _⟩ | ⟨r1, r2, _⟩ | ⟨r1, r2, _⟩)
     · exact g1 ⟨r1, r2⟩
     · exact g2 ⟨r1, r2⟩
     · exact g3 ⟨r1, r2⟩
   · rintro ⟨g, gr⟩
     refine ⟨⟨⟨g, fun e => gr ?_⟩, fun e => gr ?_⟩, fun e => gr ?_⟩
     · obtain ⟨rfl, rfl⟩ := e; exact Or.inl ⟨rfl, rfl, g.fn hu h⟩
     · obtain ⟨rfl, rfl⟩ := e; exact Or.inr (Or.inl ⟨rfl, rfl, g.fn hu h2⟩)
     · obtain ⟨rfl, rfl⟩ := e; exact Or.inr (Or.inr ⟨rfl, rfl, g.fn hu h3⟩)
 · have c1 := cnt_lift (List.getElem?_eq_some_iff.1 A1).1 (k := k1) (by rw [gd A1]; exact l1)
   have c2 := cnt_lift (List.getElem?_eq_some_iff.1 A2).1 (k := k2) (by rw [gd A2]; exact l2)
   have c3 := cnt_lift (List.getElem?_eq_some_iff.1 A3).1 (k := k3) (by rw [gd A3]; exact l3)
   omega
section
variable {S : Nat → Prop} {W : World} {mB : Nat} {x : Gx} {P : List (Nat × Nat)} {A : List (List Wg)} {F : Int → Int → Option Int} {vs : List Value}
set_option maxHeartbeats 4000000 in
theorem kill_any (h : Msh S W mB x P A F vs) (ht : Tri3 P A) (a b c : Int) :
   Calls Tryz.prog 16 #[.pointer (some ⟨mB, 0, none⟩), .int .i64 a, .int .i64 b, .int .i64 c] W fun e w' => e = .returned (.int .i64 (kiE A a b c)) ∧ ∃ A' vs', Msh (Upx S W w') w' mB x P A' F vs' ∧ Frm S W w' ∧ (kiE A a b c = 5 → A' = A) ∧
     (kiE A a b c = 0 → ∃ a' b' c' : Nat, a = (a' : Int) ∧ b = (b' : Int) ∧ c = (c' : Int) ∧ Hw A a' b' c' ∧ (∀ x y z, Hw A' x y z ↔ Hw A x y z ∧ ¬ Rot a' b' c' x y z) ∧ cnt A' + 3 = cnt A) := by
 have HM := Lib.hid h
 have HT := Lib.hid ht
 have HB := Lib.hid h.box
 have hmb : W.cell? ⟨mB, 0, none⟩ = some (.pointer (some ⟨x.gB, 0, none⟩)) := h.box.cell 0 (by simp)
 have HX : Hid (∀ w', w' = W → Msh (Upx S W w') w' mB x P A F vs ∧ Frm S W w') := Lib.hid (fun w' e => by rw [e]; exact h.later (Below.refl _ _))
 by_cases hx : (apx A a b).map (fun k : Nat => (k : Int)) = some c
 · have hE : kiE A a b c = 0 := if_pos hx
   cases hp : apx A a b with
   | none => rw [hp] at hx; cases hx
   | some d =>
     rw [hp] at hx
     obtain rfl : (d : Int) = c := by simpa using hx
     obtain ⟨a, b, rfl, rfl, hw⟩ := (apx_some h.g.uq).1 hp
     obtain ⟨k1, k2, k3, p1, p2, p3, hw3, hc3⟩ := lift3 h.g.uq ht hw
     have HR := Lib.hid (And.intro hw (And.intro hw3 hc3))
     have hr := apex_any h (a : Nat) (b : Nat)
     rw [hp] at hr
     have HR1 := Lib.hid hr
     rw [hE]
     clear h ht hx hp hw hw3 hc3 hE hr
     go_enter Tryz.func16, Tryz.ntmps16
     go_wp2_with fail
     refine (none_some HB.out).mono ?_
     rintro e w' ⟨rfl, hq⟩
     rw [hq]
     clear hq w'
     go_wp2_with fail
     refine HR1.out.mono ?_
     rintro e w' ⟨rfl, hq⟩
     rw [hq]
     clear hq w'
     go_wp2_with fail
     refine (lift_any HM.out.g a b k1 p1).mono ?_
     rintro e w3 ⟨rfl, v3, g3, f3⟩
     have H3 := Lib.hid (And.intro (HM.out.step f3 g3) f3)
     have hm3 : w3.cell? ⟨mB, 0, none⟩ = some (.pointer (some ⟨x.gB, 0, none⟩)) := H3.out.1.box.cell 0 (by simp)
     clear g3 f3
     go_wp2_with fail
     refine (lift_any H3.out.1.g b d k2 p2).mono ?_
     rintro e w4 ⟨rfl, v4, g4, f4⟩
     have H4 := Lib.hid (And.intro (H3.out.1.step f4 g4) f4)
     have hm4 : w4.cell? ⟨mB, 0, none⟩ = some (.pointer (some ⟨x.gB, 0, none⟩)) := H4.out.1.box.cell 0 (by simp)
     clear g4 f4
     go_wp2_with fail
     refine (lift_any H4.out.1.g d a k3 p3).mono ?_
     rintro e w5 ⟨rfl, v5, g5, f5⟩
     have H5 := Lib.hid (And.intro g5 f5)
     clear g5 f5
     have HF := Lib.hid (frm4 (Below.refl W.heap.size W) H3.out.2 H4.out.2 H5.out.2)
     go_wp2
     go_ret
     exact ⟨rfl, _, _, HM.out.step HF.out.1 (H5.out.1.more HF.out.2), HF.out.1, fun e => absurd e (by decide), fun _ => ⟨a, b, d, rfl, rfl, rfl, HR.out.1, HR.out.2.1, HR.out.2.2⟩⟩
 · have hE : kiE A a b c = 5 := if_neg hx
   have hr := apex_any h a b
   rw [hE]
   cases hp : apx A a b with
   | none =>
     rw [hp] at hr
     have HR1 := Lib.hid hr
     clear h ht hx hp hE hr
     go_enter Tryz.func16, Tryz.ntmps16
     go_wp2_with fail
     refine (none_some HB.out).mono ?_
     rintro e w' ⟨rfl, hq⟩
     rw [hq]
     clear hq w'
     go_wp2_with fail
     refine HR1.out.mono ?_
     rintro e w' ⟨rfl, hq⟩
     rw [hq]
     clear hq w'
     go_wp2
     go_ret
     exact ⟨rfl, _, _, (HX.out _ rfl).1, (HX.out _ rfl).2, fun _ => rfl, fun e => absurd e (by decide)⟩
   | some d =>
     have hne : (d : Int) ≠ c := fun e => hx (by rw [hp, ← e]; rfl)
     have hne2 : ((d : Int) == c) = false := by rw [beq_eq_false_iff_ne]; exact hne
     rw [hp] at hr
     have HR1 := Lib.hid hr
     clear h ht hx hp hE hr
     go_enter Tryz.func16, Tryz.ntmps16
     go_wp2_with fail
     refine (none_some HB.out).mono ?_
     rintro e w' ⟨rfl, hq⟩
     rw [hq]
     clear hq w'
     go_wp2_with fail
     refine HR1.out.mono ?_
     rintro e w' ⟨rfl, hq⟩
     rw [hq]
     clear hq w'
     go_wp2
     go_ret
     exact ⟨rfl, _, _, (HX.out _ rfl).1, (HX.out _ rfl).2, fun _ => rfl, fun e => absurd e (by decide)⟩
end
end
end Go.Proofs.YtcgbnjoajieggaaGreat
