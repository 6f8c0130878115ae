/- Own texts, put together: Qo. -/
import Derived.Test.YtkbhmglmbolbiaaGreatDoorQ8
import Derived.Test.YtkbhmglmbolbiaaGreatDoorQ41
/- Package nodefile: files that are handed in; why a file may not be. -/
namespace Go.Proofs.YtkbhmglmbolbiaaGreatDoor
set_option maxRecDepth 100000
open Go.RowKit Go.Shelf Go.Lib
structure Nv (W : World) (v : Value) (ns : List Nt) : Prop where
 form : ∃ a c, v = .slice a ns.length c ∧ ns.length ≤ c ∧ c ≤ 9223372036854775807 ∧ (ns = [] ∨ ∃ g off, a = some ⟨g, off, none⟩ ∧ g < W.heap.size ∧ ∀ k p, ns[k]? = some p → W.cell? ⟨g, off + k * 4, none⟩ = some (.float .f64 p.1.x) ∧ W.cell? ⟨g, off + k * 4 + 1, none⟩ = some (.float .f64 p.1.y) ∧ W.cell? ⟨g, off + k * 4 + 2, none⟩ = some p.2 ∧ W.cell? ⟨g, off + k * 4 + 3, none⟩ = some (.int .i64 p.1.m))
 sub : ∀ p ∈ ns, Fs W p.2 p.1.a
 wrd : ∀ p ∈ ns, wdN p.1
theorem Nv.later {W W' : World} {v : Value} {ns : List Nt} (h : Nv W v ns) (hb : Below W.heap.size W W') : Nv W' v ns := by
 obtain ⟨⟨a, c, h1, h2, h3, h4⟩, h5, h6⟩ := h
 refine ⟨⟨a, c, h1, h2, h3, ?_⟩, fun p hp => (h5 p hp).later hb, h6⟩
 rcases h4 with h4 | ⟨g, off, h6, h7, h8⟩
 · exact Or.inl h4
 · exact Or.inr ⟨g, off, h6, Nat.lt_of_lt_of_le h7 hb.size, fun k p hp => ⟨cell_later hb h7 (h8 k p hp).1, cell_later hb h7 (h8 k p hp).2.1, cell_later hb h7 (h8 k p hp).2.2.1, cell_later hb h7 (h8 k p hp).2.2.2⟩⟩
theorem Nr.nv {W : World} {B : Nat} {v : Value} {ns : List Nt} (h : Nr W B v ns) : Nv W v ns := by
 refine ⟨?_, fun p hp => (h.sub p hp).fs, h.wrd⟩
 have h0 := h.own
 rcases h.own.2 with ⟨h1, h2⟩ | ⟨g, cap, cur, rfl, _, h3, h4, h5, _⟩
 · have : ns = [] := List.length_eq_zero_iff.1 h2
   subst this
   exact ⟨none, 0, h1, by simp, by omega, Or.inl rfl⟩
 · refine ⟨_, cap, rfl, h4, by unfold maxLen at h5; omega, Or.inr ⟨g, 0, rfl, (World.ownsRow.lt h0 g rfl).2, fun k p hk => ?_⟩⟩
   have := ncs_at ns k p hk
   refine ⟨own_cellL h0 this.1, ?_, ?_, ?_⟩
   · rw [Nat.add_assoc]; exact own_cellL h0 this.2.1
   · rw [Nat.add_assoc]; exact own_cellL h0 this.2.2.1
   · rw [Nat.add_assoc]; exact own_cellL h0 this.2.2.2
def endl (x : Nat) : Bool := isnan x || isinf x
def amiss (k : Int) (m : Bool) (p : Nd) : Bool := decide ((p.a.length : Int) ≠ k) || p.a.any endl || (decide (p.m ≠ 0) && !m)
def wrongN (p : Pm) (f : Fd) : Int :=
 if 1048576 < f.ns.length then 3 else if f.k < 0 ∨ 16 < f.k ∨ (f.z = true ∧ f.ns.length = 0) then 1 else if f.ns.any (amiss f.k f.m) then 1 else if f.ns.any (fun q => !p.pt q.x q.y) then 10 else 0
theorem endless_any (x : Nat) (w : World) (lx : x < 18446744073709551616) : Calls Tryz.prog 85 #[.float .f64 x] w fun e w' => e = .returned (.bool (endl x)) ∧ w' = w := by
 have HN : Hid (∀ w, Calls Tryz.prog 110 #[.float .f64 x] w fun e w' => e = .returned (.bool (isnan x)) ∧ w' = w) := Lib.hid fun w => isNaN_any x w
 have HI : Hid (∀ w, Calls Tryz.prog 111 #[.float .f64 x, .int .i64 0] w fun e w' => e = .returned (.bool (isinf x)) ∧ w' = w) := Lib.hid fun w => isInf0_any x w lx
 unfold endl
 obtain ⟨b1, hb1⟩ : ∃ b, isnan x = b := ⟨_, rfl⟩
 obtain ⟨b2, hb2⟩ : ∃ b, isinf x = b := ⟨_, rfl⟩
 rw [hb1] at HN
 rw [hb2] at HI
 rw [hb1, hb2]
 clear hb1 hb2
 cases b1
 · go_enter Tryz.func85, Tryz.ntmps85
   go_wp2_with (first
     | (go_at_call 110; refine (HN.out _).mono ?_; rintro e w' ⟨rfl, rfl⟩)
     | (go_at_call 111; refine (HI.out _).mono ?_; rintro e w' ⟨rfl, rfl⟩))
   go_ret
   exact ⟨rfl, rfl⟩
 · go_enter Tryz.func85, Tryz.ntmps85
   go_wp2_with (first
     | (go_at_call 110; refine (HN.out _).mono ?_; rintro e w' ⟨rfl, rfl⟩)
     | (go_at_call 111; refine (HI.out _).mono ?_; rintro e w' ⟨rfl, rfl⟩))
   go_ret
   exact ⟨rfl, rfl⟩
theorem astray_any {p : Pm} (hp : p.Ok) (q : Nd) (av : Value) (w : World) (hw : wdN q) : Calls Tryz.prog 87 #[.agg #[.float .f64 q.x, .float .f64 q.y, av, .int .i64 q.m]] w fun e w' => e = .returned (.bool (!p.pt q.x q.y)) ∧ Below w.heap.size w w' := by
 have hb : Below w.heap.size w (w.alloc (.cells #[.float .f64 q.x, .float .f64 q.y, av, .int .i64 q.m] 53)) := (Below.refl _ w).alloc (Nat.le_refl _) _
 have HB := Lib.hid hb
 have HM : Hid (∀ W, Calls Tryz.prog 64 #[pv q.x q.y] W fun e w' => e = .returned (.bool (p.pt q.x q.y)) ∧ Below W.heap.size W w') := Lib.hid fun W => by
   refine (may1_any q.x q.y W ⟨hw.1, hw.2.1⟩).mono ?_
   rintro e w' ⟨⟨t, rfl, ht⟩, hb⟩
   have : t = p.pt q.x q.y := by
     have h2 := hp.pt q.x q.y
     cases t <;> cases hq : p.pt q.x q.y
     · rfl
     · exact absurd (ht.2 (h2.1 hq)) (by simp)
     · exact absurd (h2.2 (ht.1 rfl)) (by rw [hq]; simp)
     · rfl
   rw [this]; exact ⟨rfl, hb⟩
 obtain ⟨b, hbb⟩ : ∃ b, p.pt q.x q.y = b := ⟨_, rfl⟩
 rw [hbb] at HM ⊢
 clear hb hbb hw hp
 go_enter Tryz.func87, Tryz.ntmps87
 go_wp2_with (go_at_call 64; refine (HM.out _).mono ?_; rintro e w' ⟨rfl, hb2⟩; have HB2 := Lib.hid hb2; clear hb2)
 go_ret
 exact ⟨rfl, HB.out.trans (HB2.out.mono HB.out.size)⟩
end Go.Proofs.YtkbhmglmbolbiaaGreatDoor
