/- Own texts, put together: Bf. -/
import Derived.Test.YtkbhmglmbolbiaaGreatDoorQ17
import Derived.Deep.QuietTactic
import Derived.BigQuiet
/- Package lines: Read. -/
namespace Go.Proofs.YtkbhmglmbolbiaaGreatDoor
set_option maxRecDepth 100000
open Go.RowKit Go.Shelf Go.Lib
theorem run_store_str (P : Program) (w : World) (a : Addr) (m : Mode) (s : ByteArray) : (store a (.string s) m).run P w = stored P w a (.string s) m := run_store P w a _ m rfl
attribute [local go_sem] run_store_str
set_option maxHeartbeats 1000000 in
theorem nextL_any (N : Nat) (s : ByteArray) (r : Bs) (hr : s.data.toList = r) (hl : r.length ≤ 100000000) (m : Bool) (k : Nat) (hk : k ≤ 1000000000) (w : World) (b0 : Boxed w N 3 (.int .i64 (k : Nat))) (b1 : Boxed w (N + 1) 9 (.string s)) (b2 : Boxed w (N + 1 + 1) 4 (.bool m)) :
   Calls Tryz.prog 16 #[.pointer (some ⟨N + 1, 0, none⟩), .pointer (some ⟨N + 1 + 1, 0, none⟩), .pointer (some ⟨N, 0, none⟩)] w fun e w' => e = .returned (sv (cutT 10 r)) ∧
     (∃ w0, (w0 = w ∨ w0 = w.drew) ∧ w' = ((w0.setCell ⟨N + 1, 0, none⟩ (sv (cutD 10 r))).setCell ⟨N + 1 + 1, 0, none⟩ (.bool (cutF 10 r))).setCell ⟨N, 0, none⟩ (.int .i64 ((k + 1 : Nat) : Int))) := by
 have hk' : (k : Int) ≤ 1000000000 := by omega
 obtain ⟨q1, h1⟩ : ∃ q : ByteArray, (⟨(cutT 10 r).toArray⟩ : ByteArray) = q := ⟨_, rfl⟩
 obtain ⟨q2, h2⟩ : ∃ q : ByteArray, (⟨(cutD 10 r).toArray⟩ : ByteArray) = q := ⟨_, rfl⟩
 obtain ⟨f, h3⟩ : ∃ f, cutF 10 r = f := ⟨_, rfl⟩
 have HC : Hid (∀ w, Calls Tryz.prog 17 #[.string s, .string ⟨#[10]⟩] w fun e w' => e = .returned (.tuple #[.string q1, .string q2, .bool f]) ∧ (w' = w ∨ w' = w.drew)) := fun w => by
   have := cutL_any s 10 w (by rw [Lib.size_eq, hr]; omega)
   rw [hr] at this
   unfold cutVL sv at this
   rwa [h1, h2, h3] at this
 show Calls Tryz.prog 16 _ w fun e w' => e = .returned (.string ⟨(cutT 10 r).toArray⟩) ∧ (∃ w0, (w0 = w ∨ w0 = w.drew) ∧ w' = ((w0.setCell ⟨N + 1, 0, none⟩ (.string ⟨(cutD 10 r).toArray⟩)).setCell ⟨N + 1 + 1, 0, none⟩ (.bool (cutF 10 r))).setCell ⟨N, 0, none⟩ (.int .i64 ((k + 1 : Nat) : Int)))
 rw [h1, h2, h3]
 have B0 := Lib.hid b0
 have B1 := Lib.hid b1
 have B2 := Lib.hid b2
 have HD : Hid (∀ W1, (W1 = w ∨ W1 = w.drew) → (((W1.setCell ⟨N + 1, 0, none⟩ (.string q2)).setCell ⟨N + 1 + 1, 0, none⟩ (.bool f)).cell? ⟨N, 0, none⟩ = some (.int .i64 (k : Nat)) ∧ ((W1.setCell ⟨N + 1, 0, none⟩ (.string q2)).setCell ⟨N + 1 + 1, 0, none⟩ (.bool f)).frozen? ⟨N, 0, none⟩ = false) ∧ (W1.cell? ⟨N + 1, 0, none⟩ = some (.string s) ∧ W1.frozen? ⟨N + 1, 0, none⟩ = false) ∧ (W1.setCell ⟨N + 1, 0, none⟩ (.string q2)).cell? ⟨N + 1 + 1, 0, none⟩ = some (.bool m) ∧ (W1.setCell ⟨N + 1, 0, none⟩ (.string q2)).frozen? ⟨N + 1 + 1, 0, none⟩ = false) := fun W1 hw => by
   have d0 : Boxed W1 N 3 (.int .i64 (k : Nat)) := by rcases hw with rfl | rfl <;> exact b0
   have d1 : Boxed W1 (N + 1) 9 (.string s) := by rcases hw with rfl | rfl <;> exact b1
   have d2 : Boxed W1 (N + 1 + 1) 4 (.bool m) := by rcases hw with rfl | rfl <;> exact b2
   have e0 := ((d0.other (B' := N + 1) (by omega) (.string q2)).other (B' := N + 1 + 1) (by omega) (.bool f))
   have e2 := d2.other (B' := N + 1) (by omega) (.string q2)
   exact ⟨⟨e0.cell, e0.frozen⟩, ⟨d1.cell, d1.frozen⟩, e2.cell, e2.frozen⟩
 have c1 := b1.cell
 clear h1 h2 h3 b0 b1 b2 B0 B1 B2
 go_enter Tryz.func16, Tryz.ntmps16
 go_wp2_with (go_at_call 17; refine (HC.out _).mono ?_; rintro e W1 ⟨rfl, hw⟩; have HW := Lib.hid hw; obtain ⟨⟨g0, g1⟩, ⟨c11, c12⟩, c21, c22⟩ := HD.out W1 hw; clear hw)
 go_ret
 exact ⟨rfl, W1, HW.out, by go_num⟩
abbrev Lt := Nat × List Bs × Value
def lcs (ps : List Lt) : List Value := ps.flatMap fun p => [.int .i64 (p.1 : Nat), p.2.2]
def tell (ps : List Lt) : List (Nat × List Bs) := ps.map fun p => (p.1, p.2.1)
theorem lcs_app (ps : List Lt) (p : Lt) : lcs (ps ++ [p]) = lcs ps ++ [.int .i64 (p.1 : Nat), p.2.2] := by simp [lcs]
theorem lcs_at : ∀ (ps : List Lt) (k : Nat) (h : k < ps.length), (lcs ps)[2 * k]? = some (.int .i64 (ps[k].1 : Nat)) ∧ (lcs ps)[2 * k + 1]? = some ps[k].2.2 := by
 intro ps
 induction ps with
 | nil => intro k h; simp at h
 | cons p r ih =>
   intro k h
   cases k with
   | zero => exact ⟨rfl, rfl⟩
   | succ k =>
     have := ih k (by simpa using h)
     have e : lcs (p :: r) = [.int .i64 (p.1 : Nat), p.2.2] ++ lcs r := rfl
     rw [e, show 2 * (k + 1) = 2 * k + 2 by omega]
     exact ⟨by simpa using this.1, by simpa using this.2⟩
structure Lr (e : TypeId) (W : World) (B : Nat) (v : Value) (ps : List Lt) : Prop where
 own : W.ownsRow B e 2 v ps.length (lcs ps)
 sub : ∀ p ∈ ps, Sr W B p.2.2 p.2.1
 dis : ps.Pairwise (fun p q => p.2.2.ownBlock ≠ q.2.2.ownBlock)
theorem Lr.nil (e : TypeId) (W : World) (B : Nat) : Lr e W B (.slice none 0 0) [] := ⟨World.ownsRow_nil _ _ _ _, fun p hp => by simp at hp, List.Pairwise.nil⟩
theorem Lr.later {e : TypeId} {W W' : World} {B : Nat} {v : Value} {ps : List Lt} (h : Lr e W B v ps) (hb : Below W.heap.size W W') : Lr e W' B v ps := ⟨own_later h.own hb, fun p hp => (h.sub p hp).later hb, h.dis⟩
theorem Lr.base {e : TypeId} {W : World} {B B' : Nat} {v : Value} {ps : List Lt} (h : Lr e W B v ps) (hb : B' ≤ B) : Lr e W B' v ps := ⟨own_base h.own hb, fun p hp => (h.sub p hp).base hb, h.dis⟩
theorem Lr.set {e : TypeId} {W : World} {B : Nat} {v : Value} {ps : List Lt} (h : Lr e W B v ps) {a : Addr} (ha : a.block < B) (x : Value) : Lr e (W.setCell a x) B v ps := ⟨own_setL h.own ha x, fun p hp => own_setL (h.sub p hp) ha x, h.dis⟩
theorem Lr.drew {e : TypeId} {W : World} {B : Nat} {v : Value} {ps : List Lt} (h : Lr e W B v ps) : Lr e W.drew B v ps := h.later (Below.refl _ W).drew
theorem Sr.kept {W W' : World} {B : Nat} {v : Value} {ws : List Bs} {base e size n : Nat} {v2 : Value} {xs : List Value} (h : Sr W B v ws) (h2 : W.ownsRow base e size v2 n xs) (he : e ≠ 9) (hg : W.grownBy W' v2.ownBlock) : Sr W' B v ws := by
 refine World.ownsRow.kept h hg ?_
 rcases h.2 with ⟨rfl, _⟩ | ⟨g, cap, cur, rfl, _, hgb, _⟩
 · exact .inl rfl
 · refine .inr fun e' => ?_
   rcases h2.2 with ⟨rfl, _⟩ | ⟨g2, cap2, cur2, rfl, _, hgb2, _⟩
   · simp [Value.ownBlock] at e'
   · obtain rfl : g = g2 := by simpa [Value.ownBlock] using e'
     rw [hgb] at hgb2
     simp at hgb2
     exact he hgb2.2.symm
theorem Lr.grew {e : TypeId} {W W2 : World} {B : Nat} {v v' : Value} {ps : List Lt} {p : Lt} {tmp : Obj} (h : Lr e W B v ps) (he : e ≠ 9) (hp : Sr W B p.2.2 p.2.1) (hd : ∀ q ∈ ps, q.2.2.ownBlock ≠ p.2.2.ownBlock) (hown : W2.ownsRow B e 2 v' (ps.length + 1) (lcs ps ++ [.int .i64 (p.1 : Nat), p.2.2])) (hg : (W.alloc tmp).grownBy W2 v.ownBlock) : Lr e W2 B v' (ps ++ [p]) := by
 refine ⟨?_, fun q hq => ?_, List.pairwise_append.2 ⟨h.dis, by simp, fun q hq r hr => by rw [List.mem_singleton.1 hr]; exact hd q hq⟩⟩
 · rw [List.length_append, lcs_app]; exact hown
 · have hs : Sr W B q.2.2 q.2.1 := by
     rcases List.mem_append.1 hq with e | e
     · exact h.sub q e
     · rw [List.mem_singleton.1 e]; exact hp
   exact Sr.kept (World.ownsRow.alloc hs tmp) (h.own.alloc tmp) he hg
theorem Lr.fresh {e : TypeId} {W W2 : World} {B B2 : Nat} {v x : Value} {ps : List Lt} {ws : List Bs} (h : Lr e W B v ps) (hS : Sr W2 B2 x ws) (hB : W.heap.size ≤ B2) (hne : ws ≠ []) : ∀ q ∈ ps, q.2.2.ownBlock ≠ x.ownBlock := by
 intro q hq e
 rcases hS.2 with ⟨_, h2⟩ | ⟨g, cap, cur, rfl, h1, _⟩
 · exact hne (List.length_eq_zero_iff.1 h2)
 · have := World.ownsRow.lt (h.sub q hq) g (by rw [e]; rfl)
   omega
theorem cell_two_new (w : World) (x y : Value) (e : TypeId) (j : Nat) (u : Value) (h : [x, y][j]? = some u) : (w.alloc (.cells #[x, y] e)).cell? ((⟨w.heap.size, 0, none⟩ : Addr).add j) = some u := by
 have hb : (w.alloc (.cells #[x, y] e)).heap[w.heap.size]? = some (.cells #[x, y] e (0, 0)) := World.alloc_heap_new w _
 match j, h with
 | 0, h =>
   obtain rfl : x = u := by simpa using h
   show (w.alloc (.cells #[x, y] e)).cell? ⟨w.heap.size, 0, none⟩ = _
   unfold World.cell?
   rw [hb]; rfl
 | 1, h =>
   obtain rfl : y = u := by simpa using h
   show (w.alloc (.cells #[x, y] e)).cell? ⟨w.heap.size, 1, none⟩ = _
   unfold World.cell?
   rw [hb]; rfl
 | (n + 2), h => simp at h
def ReadR (e : TypeId) (w w' : World) (t : Bs) (en : Ending) : Prop := ∃ v ps, en = .returned (.tuple #[v, .int .i64 ((rdV t).2.1 : Nat), .int .i64 ((rdV t).2.2 : Nat)]) ∧ Lr e w' w.heap.size v ps ∧ tell ps = (rdV t).1 ∧ Below w.heap.size w w'
theorem rdV_long {t : Bs} (h : 16777216 < t.length) : rdV t = ([], 0, 3) := by unfold rdV; rw [if_pos h]
theorem rdV_bad {t : Bs} {n e : Nat} (h : t.length ≤ 16777216) (hb : bad 1 (lns t) = some (n, e)) : rdV t = ([], n, e) := by unfold rdV; rw [if_neg (by omega), hb]
theorem rdV_good {t : Bs} (h : t.length ≤ 16777216) (hb : bad 1 (lns t) = none) : rdV t = (good 1 (lns t), 0, 0) := by unfold rdV; rw [if_neg (by omega), hb]
def leftR (N : Nat) (W : World) : Nat := match W.cell? ⟨N + 1 + 1, 0, none⟩, W.cell? ⟨N + 1, 0, none⟩ with
 | some (.bool true), some (.string s) => s.size + 1
 | _, _ => 0
structure RI (t : Bs) (m : Bool) (r : Bs) (done : List Bs) : Prop where
 all : lns t = done ++ (if m then lns r else [])
 none : bad 1 done = none
 len : r.length ≤ t.length
theorem lns_len (t : Bs) : (lns t).length ≤ t.length + 1 := spl_len _ _
theorem RI.dlen {t : Bs} {m : Bool} {r : Bs} {done : List Bs} (h : RI t m r done) : done.length ≤ t.length + 1 := by
 have := lns_len t
 rw [h.all, List.length_append] at this
 omega
theorem lns_step (r : Bs) : lns r = cutT 10 r :: (if cutF 10 r then lns (cutD 10 r) else []) := by
 by_cases h : (10 : UInt8) ∈ r
 · rw [lns_cut h]; simp [cutF, h]
 · rw [lns_none h, (cut_none h).1]; simp [cutF, h]
theorem RI.bad {t r : Bs} {done : List Bs} (h : RI t true r done) (he : lineE (cutT 10 r) ≠ 0) : bad 1 (lns t) = some (1 + done.length, lineE (cutT 10 r)) := by
 rw [h.all, if_pos rfl, bad_app h.none, lns_step, Go.Proofs.YtkbhmglmbolbiaaGreatDoor.bad, if_neg he]
theorem RI.step {t r : Bs} {done : List Bs} (h : RI t true r done) (he : lineE (cutT 10 r) = 0) : RI t (cutF 10 r) (cutD 10 r) (done ++ [cutT 10 r]) := by
 refine ⟨?_, ?_, Nat.le_trans (cutD_len _ _) h.len⟩
 · have := h.all
   rw [if_pos rfl, lns_step r] at this
   rw [this, List.append_assoc]; rfl
 · rw [bad_app h.none, Go.Proofs.YtkbhmglmbolbiaaGreatDoor.bad, if_pos he]; rfl
theorem good_step {done : List Bs} {l : Bs} : good 1 (done ++ [l]) = good 1 done ++ (if (lineW l).isEmpty then [] else [(done.length + 1, lineW l)]) := by
 rw [good_app, good, good, List.append_nil, Nat.add_comm 1 done.length]
end Go.Proofs.YtkbhmglmbolbiaaGreatDoor
