/- Own texts, put together: Mg Mh. -/
import Derived.Test.YtcgbnjoajieggaaGreatQ29
namespace Go.Proofs.YtcgbnjoajieggaaGreat
/- Package mesh: lift. (gen_mf.py) -/
section
open Go.RowKit
attribute [local go_sem ↓] Go.wp_at_zero Go.wp_at_succ
set_option maxRecDepth 100000
section
variable {aa : Act} {W : World} {o : Oper} {K : Act → World → Prop} {Q : Exit → Act → World → Prop}
end
end

/- Package mesh: Apex, Count. -/
section
open Go.RowKit
attribute [local go_sem ↓] Go.wp_at_zero Go.wp_at_succ
set_option maxRecDepth 100000
structure Msh (S : Nat → Prop) (W : World) (mB : Nat) (x : Gx) (P : List (Nat × Nat)) (A : List (List Wg)) (F : Int → Int → Option Int) (vs : List Value) : Prop where
 box : Mh W mB x.gB
 out : ¬ S mB
 g : Gd S W x P A F vs
def apx (A : List (List Wg)) (a b : Int) : Option Nat := (plc A a b).bind fun k => ((A.getD a.toNat [])[k]?).map (·.2)
theorem apx_at {A : List (List Wg)} {a b : Int} {k : Nat} (h : plc A a b = some k) : ∃ (a' b' c : Nat) (fan : List Wg), a = (a' : Int) ∧ b = (b' : Int) ∧ A[a']? = some fan ∧ A.getD a' [] = fan ∧ fan[k]? = some (b', c) ∧ apx A a b = some c := by
 obtain ⟨a', fan, c, rfl, h1, b', rfl, h2⟩ := plc_some h
 have hg : A.getD a' [] = fan := by rw [List.getD_eq_getElem?_getD, h1]; rfl
 refine ⟨a', b', c, fan, rfl, rfl, h1, hg, h2, ?_⟩
 unfold apx
 rw [h, Option.bind_some, Int.toNat_natCast, hg, h2]; rfl
theorem apx_some {A : List (List Wg)} (hu : Uq A) {a b : Int} {c : Nat} : apx A a b = some c ↔ ∃ a' b' : Nat, a = (a' : Int) ∧ b = (b' : Int) ∧ Hw A a' b' c := by
 constructor
 · intro h
   cases hp : plc A a b with
   | none => unfold apx at h; rw [hp] at h; cases h
   | some k =>
     obtain ⟨a', b', c', fan, h1, h2, h3, _, h4, h5⟩ := apx_at hp
     rw [h] at h5; cases h5
     exact ⟨a', b', h1, h2, fan, h3, List.mem_of_getElem? h4⟩
 · rintro ⟨a', b', rfl, rfl, h⟩
   obtain ⟨k, fan, h1, h2, h3⟩ := h.plc hu
   obtain ⟨a2, b2, c2, fan2, e1, e2, g1, _, g2, g3⟩ := apx_at h1
   obtain rfl : a' = a2 := by omega
   rw [h2] at g1; cases g1
   rw [h3] at g2; cases g2
   exact g3
section
variable {S : Nat → Prop} {W : World} {mB : Nat} {x : Gx} {P : List (Nat × Nat)} {A : List (List Wg)} {F : Int → Int → Option Int} {vs : List Value}
theorem apex_any (h : Msh S W mB x P A F vs) (a b : Int) :
   Calls Tryz.prog 23 #[.pointer (some ⟨mB, 0, none⟩), .int .i64 a, .int .i64 b] W fun e w' => e = .returned (.tuple #[.int .i64 (((apx A a b).getD 0 : Nat) : Int), .bool (apx A a b).isSome]) ∧ w' = W := by
 have HB := Lib.hid h.box
 obtain ⟨gB, pv, av, pm, fm⟩ := x
 obtain ⟨_, c1, c2, _⟩ := h.g.m.cells
 dsimp only at c1 c2
 have hL := h.g.m.map.look a b
 cases hp : plc A a b with
 | none =>
   have hz : apx A a b = none := by unfold apx; rw [hp]; rfl
   have hL' : (Instr.lookup 85 (.map (some pm)) (.agg #[.int .i64 a, .int .i64 b]) true).run Tryz.prog W = .ok (.tuple #[.int .i64 0, .bool false]) W := by
     have : plcI A a b = none := by unfold plcI; rw [hp]; rfl
     rw [this] at hL; exact hL
   rw [hz]
   clear hL h hp hz
   go_enter Tryz.func23, Tryz.ntmps23
   go_wp2_with fail
   refine (see_some HB.out).mono ?_
   rintro e w' ⟨rfl, rfl⟩
   go_wp2
   go_ret2
   exact ⟨rfl, rfl⟩
 | some k =>
   obtain ⟨a', b', c, fan, rfl, rfl, hA, hgA, hk, hz⟩ := apx_at hp
   rw [hz]
   have hL' : (Instr.lookup 85 (.map (some pm)) (.agg #[.int .i64 (a' : Nat), .int .i64 (b' : Nat)]) true).run Tryz.prog W = .ok (.tuple #[.int .i64 (k : Nat), .bool true]) W := by
     have : plcI A (a' : Nat) (b' : Nat) = some (k : Nat) := by unfold plcI; rw [hp]; rfl
     rw [this] at hL; exact hL
   have ha : a' < A.length := (List.getElem?_eq_some_iff.1 hA).1
   have hkl : k < fan.length := (List.getElem?_eq_some_iff.1 hk).1
   obtain ⟨v, hv⟩ : ∃ v, vs[a']? = some v := ⟨_, List.getElem?_eq_getElem (by have := h.g.m.len; omega)⟩
   obtain ⟨aa, ac, hav, hAs⟩ := h.g.m.aslice
   obtain ⟨ag, rfl, hag, hcv, hfz, hob⟩ := hAs a' v hv
   obtain ⟨fa, fc, rfl, hF⟩ := h.g.m.fslice hv
   rw [hgA] at hF hcv
   obtain ⟨fg, rfl, hfg, d1, d2, _⟩ := hF k _ hk
   dsimp only at hav
   rw [hav] at c1
   obtain ⟨n, hn⟩ : ∃ n, A.length = n := ⟨_, rfl⟩
   obtain ⟨m, hm⟩ : ∃ m, fan.length = m := ⟨_, rfl⟩
   rw [hn] at c1 ha
   rw [hm] at hcv hkl
   have ha1 : (a' : Int) < (n : Int) := by omega
   have ha2 : ¬ n ≤ a' := by omega
   have hk1 : (k : Int) < (m : Int) := by omega
   have hk2 : ¬ m ≤ k := by omega
   dsimp only at d2
   clear hL h hp hz hAs hF hA hgA hk hn hm hav hob hfz hv
   go_enter Tryz.func23, Tryz.ntmps23
   go_wp2_with fail
   refine (see_some HB.out).mono ?_
   rintro e w' ⟨rfl, rfl⟩
   go_wp2
   go_ret2
   exact ⟨rfl, rfl⟩
theorem count_any (h : Msh S W mB x P A F vs) (hs : cnt A < 1000000000) :
   Calls Tryz.prog 20 #[.pointer (some ⟨mB, 0, none⟩)] W fun e w' => e = .returned (.int .i64 ((cnt A / 3 : Nat) : Int)) ∧ w' = W := by
 have HB := Lib.hid h.box
 obtain ⟨gB, pv, av, pm, fm⟩ := x
 obtain ⟨_, _, c2, _⟩ := h.g.m.cells
 dsimp only at c2
 obtain ⟨es, clock, L, h1, h2, _, h4, _⟩ := h.g.m.map
 have hlen : (Builtin.len_ #[85] 3 #[.map (some pm)]).run Tryz.prog W = .ok (.int .i64 (cnt A : Nat)) W := by
   have hel : es.size = cnt A := by have := congrArg List.length h2; rw [← h4]; simpa using this
   simp [Builtin.len_, run_underlying Tryz.underlying85, get_map2 h1, hel, goInt]
 obtain ⟨n, hn⟩ : ∃ n, cnt A = n := ⟨_, rfl⟩
 rw [hn] at hlen hs ⊢
 have hq : Int.tdiv (n : Int) 3 = ((n / 3 : Nat) : Int) := by
   rw [Int.tdiv_eq_ediv_of_nonneg (by omega)]; omega
 clear h h1 h2 h4 hn
 go_enter Tryz.func20, Tryz.ntmps20
 go_wp2_with fail
 refine (see_some HB.out).mono ?_
 rintro e w' ⟨rfl, rfl⟩
 go_wp2
 go_ret
 exact ⟨rfl, rfl⟩
end
end
end Go.Proofs.YtcgbnjoajieggaaGreat
