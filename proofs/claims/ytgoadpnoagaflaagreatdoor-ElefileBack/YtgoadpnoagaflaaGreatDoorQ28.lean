/- Own texts, put together: Bf Bg. -/
import Derived.Test.YtgoadpnoagaflaaGreatDoorQ27
import Derived.Deep.QuietTactic
import Derived.BigQuiet
namespace Go.Proofs.YtgoadpnoagaflaaGreatDoor
/- Package lines: Read. -/
section
set_option maxRecDepth 100000
open Go.RowKit Go.Shelf Go.Lib
theorem run_store_str (P : Program) (w : World) (a : Addr) (m : Mode) (s : ByteArray) : (store a (.string s) m).run P w = stored P w a (.string s) m := run_store P w a _ m rfl
attribute [local go_sem] run_store_str
set_option maxHeartbeats 1000000 in
theorem nextL_any (N : Nat) (s : ByteArray) (r : Bs) (hr : s.data.toList = r) (hl : r.length ≤ 100000000) (m : Bool) (k : Nat) (hk : k ≤ 1000000000) (w : World) (b0 : Boxed w N 3 (.int .i64 (k : Nat))) (b1 : Boxed w (N + 1) 9 (.string s)) (b2 : Boxed w (N + 1 + 1) 4 (.bool m)) :
   Calls Tryz.prog 34 #[.pointer (some ⟨N + 1, 0, none⟩), .pointer (some ⟨N + 1 + 1, 0, none⟩), .pointer (some ⟨N, 0, none⟩)] w fun e w' => e = .returned (sv (cutT 10 r)) ∧
     (∃ w0, (w0 = w ∨ w0 = w.drew) ∧ w' = ((w0.setCell ⟨N + 1, 0, none⟩ (sv (cutD 10 r))).setCell ⟨N + 1 + 1, 0, none⟩ (.bool (cutF 10 r))).setCell ⟨N, 0, none⟩ (.int .i64 ((k + 1 : Nat) : Int))) := by
 have hk' : (k : Int) ≤ 1000000000 := by omega
 obtain ⟨q1, h1⟩ : ∃ q : ByteArray, (⟨(cutT 10 r).toArray⟩ : ByteArray) = q := ⟨_, rfl⟩
 obtain ⟨q2, h2⟩ : ∃ q : ByteArray, (⟨(cutD 10 r).toArray⟩ : ByteArray) = q := ⟨_, rfl⟩
 obtain ⟨f, h3⟩ : ∃ f, cutF 10 r = f := ⟨_, rfl⟩
 have HC : Hid (∀ w, Calls Tryz.prog 35 #[.string s, .string ⟨#[10]⟩] w fun e w' => e = .returned (.tuple #[.string q1, .string q2, .bool f]) ∧ (w' = w ∨ w' = w.drew)) := fun w => by
   have := cutL_any s 10 w (by rw [Lib.size_eq, hr]; omega)
   rw [hr] at this
   unfold cutVL sv at this
   rwa [h1, h2, h3] at this
 show Calls Tryz.prog 34 _ w fun e w' => e = .returned (.string ⟨(cutT 10 r).toArray⟩) ∧ (∃ w0, (w0 = w ∨ w0 = w.drew) ∧ w' = ((w0.setCell ⟨N + 1, 0, none⟩ (.string ⟨(cutD 10 r).toArray⟩)).setCell ⟨N + 1 + 1, 0, none⟩ (.bool (cutF 10 r))).setCell ⟨N, 0, none⟩ (.int .i64 ((k + 1 : Nat) : Int)))
 rw [h1, h2, h3]
 have B0 := Lib.hid b0
 have B1 := Lib.hid b1
 have B2 := Lib.hid b2
 have HD : Hid (∀ W1, (W1 = w ∨ W1 = w.drew) → (((W1.setCell ⟨N + 1, 0, none⟩ (.string q2)).setCell ⟨N + 1 + 1, 0, none⟩ (.bool f)).cell? ⟨N, 0, none⟩ = some (.int .i64 (k : Nat)) ∧ ((W1.setCell ⟨N + 1, 0, none⟩ (.string q2)).setCell ⟨N + 1 + 1, 0, none⟩ (.bool f)).frozen? ⟨N, 0, none⟩ = false) ∧ (W1.cell? ⟨N + 1, 0, none⟩ = some (.string s) ∧ W1.frozen? ⟨N + 1, 0, none⟩ = false) ∧ (W1.setCell ⟨N + 1, 0, none⟩ (.string q2)).cell? ⟨N + 1 + 1, 0, none⟩ = some (.bool m) ∧ (W1.setCell ⟨N + 1, 0, none⟩ (.string q2)).frozen? ⟨N + 1 + 1, 0, none⟩ = false) := fun W1 hw => by
   have d0 : Boxed W1 N 3 (.int .i64 (k : Nat)) := by rcases hw with rfl | rfl <;> exact b0
   have d1 : Boxed W1 (N + 1) 9 (.string s) := by rcases hw with rfl | rfl <;> exact b1
   have d2 : Boxed W1 (N + 1 + 1) 4 (.bool m) := by rcases hw with rfl | rfl <;> exact b2
   have e0 := ((d0.other (B' := N + 1) (by omega) (.string q2)).other (B' := N + 1 + 1) (by omega) (.bool f))
   have e2 := d2.other (B' := N + 1) (by omega) (.string q2)
   exact ⟨⟨e0.cell, e0.frozen⟩, ⟨d1.cell, d1.frozen⟩, e2.cell, e2.frozen⟩
 have c1 := b1.cell
 clear h1 h2 h3 b0 b1 b2 B0 B1 B2
 go_enter Tryz.func34, Tryz.ntmps34
 go_wp2_with (go_at_call 35; refine (HC.out _).mono ?_; rintro e W1 ⟨rfl, hw⟩; have HW := Lib.hid hw; obtain ⟨⟨g0, g1⟩, ⟨c11, c12⟩, c21, c22⟩ := HD.out W1 hw; clear hw)
 go_ret
 exact ⟨rfl, W1, HW.out, by go_num⟩
abbrev Lt := Nat × List Bs × Value
def lcs (ps : List Lt) : List Value := ps.flatMap fun p => [.int .i64 (p.1 : Nat), p.2.2]
def tell (ps : List Lt) : List (Nat × List Bs) := ps.map fun p => (p.1, p.2.1)
theorem lcs_app (ps : List Lt) (p : Lt) : lcs (ps ++ [p]) = lcs ps ++ [.int .i64 (p.1 : Nat), p.2.2] := by simp [lcs]
theorem lcs_at : ∀ (ps : List Lt) (k : Nat) (h : k < ps.length), (lcs ps)[2 * k]? = some (.int .i64 (ps[k].1 : Nat)) ∧ (lcs ps)[2 * k + 1]? = some ps[k].2.2 := by
 intro ps
 induction ps with
 | nil => intro k h; simp at h
 | cons p r ih =>
   intro k h
   cases k with
   | zero => exact ⟨rfl, rfl⟩
   | succ k =>
     have := ih k (by simpa using h)
     have e : lcs (p :: r) = [.int .i64 (p.1 : Nat), p.2.2] ++ lcs r := rfl
     rw [e, show 2 * (k + 1) = 2 * k + 2 by omega]
     exact ⟨by simpa using this.1, by simpa using this.2⟩
structure Lr (e : TypeId) (W : World) (B : Nat) (v : Value) (ps : List Lt) : Prop where
 own : W.ownsRow B e 2 v ps.length (lcs ps)
 sub : ∀ p ∈ ps, Sr W B p.2.2 p.2.1
 dis : ps.Pairwise (fun p q => p.2.2.ownBlock ≠ q.2.2.ownBlock)
theorem Lr.nil (e : TypeId) (W : World) (B : Nat) : Lr e W B (.slice none 0 0) [] := ⟨World.ownsRow_nil _ _ _ _, fun p hp => by simp at hp, List.Pairwise.nil⟩
theorem Lr.later {e : TypeId} {W W' : World} {B : Nat} {v : Value} {ps : List Lt} (h : Lr e W B v ps) (hb : Below W.heap.size W W') : Lr e W' B v ps := ⟨own_later h.own hb, fun p hp => (h.sub p hp).later hb, h.dis⟩
theorem Lr.base {e : TypeId} {W : World} {B B' : Nat} {v : Value} {ps : List Lt} (h : Lr e W B v ps) (hb : B' ≤ B) : Lr e W B' v ps := ⟨own_base h.own hb, fun p hp => (h.sub p hp).base hb, h.dis⟩
theorem Lr.set {e : TypeId} {W : World} {B : Nat} {v : Value} {ps : List Lt} (h : Lr e W B v ps) {a : Addr} (ha : a.block < B) (x : Value) : Lr e (W.setCell a x) B v ps := ⟨own_setL h.own ha x, fun p hp => own_setL (h.sub p hp) ha x, h.dis⟩
theorem Lr.drew {e : TypeId} {W : World} {B : Nat} {v : Value} {ps : List Lt} (h : Lr e W B v ps) : Lr e W.drew B v ps := h.later (Below.refl _ W).drew
theorem Sr.kept {W W' : World} {B : Nat} {v : Value} {ws : List Bs} {base e size n : Nat} {v2 : Value} {xs : List Value} (h : Sr W B v ws) (h2 : W.ownsRow base e size v2 n xs) (he : e ≠ 9) (hg : W.grownBy W' v2.ownBlock) : Sr W' B v ws := by
 refine World.ownsRow.kept h hg ?_
 rcases h.2 with ⟨rfl, _⟩ | ⟨g, cap, cur, rfl, _, hgb, _⟩
 · exact .inl rfl
 · refine .inr fun e' => ?_
   rcases h2.2 with ⟨rfl, _⟩ | ⟨g2, cap2, cur2, rfl, _, hgb2, _⟩
   · simp [Value.ownBlock] at e'
   · obtain rfl : g = g2 := by simpa [Value.ownBlock] using e'
     rw [hgb] at hgb2
     simp at hgb2
     exact he hgb2.2.symm
theorem Lr.grew {e : TypeId} {W W2 : World} {B : Nat} {v v' : Value} {ps : List Lt} {p : Lt} {tmp : Obj} (h : Lr e W B v ps) (he : e ≠ 9) (hp : Sr W B p.2.2 p.2.1) (hd : ∀ q ∈ ps, q.2.2.ownBlock ≠ p.2.2.ownBlock) (hown : W2.ownsRow B e 2 v' (ps.length + 1) (lcs ps ++ [.int .i64 (p.1 : Nat), p.2.2])) (hg : (W.alloc tmp).grownBy W2 v.ownBlock) : Lr e W2 B v' (ps ++ [p]) := by
 refine ⟨?_, fun q hq => ?_, List.pairwise_append.2 ⟨h.dis, by simp, fun q hq r hr => by rw [List.mem_singleton.1 hr]; exact hd q hq⟩⟩
 · rw [List.length_append, lcs_app]; exact hown
 · have hs : Sr W B q.2.2 q.2.1 := by
     rcases List.mem_append.1 hq with e | e
     · exact h.sub q e
     · rw [List.mem_singleton.1 e]; exact hp
   exact Sr.kept (World.ownsRow.alloc hs tmp) (h.own.alloc tmp) he hg
theorem Lr.fresh {e : TypeId} {W W2 : World} {B B2 : Nat} {v x : Value} {ps : List Lt} {ws : List Bs} (h : Lr e W B v ps) (hS : Sr W2 B2 x ws) (hB : W.heap.size ≤ B2) (hne : ws ≠ []) : ∀ q ∈ ps, q.2.2.ownBlock ≠ x.ownBlock := by
 intro q hq e
 rcases hS.2 with ⟨_, h2⟩ | ⟨g, cap, cur, rfl, h1, _⟩
 · exact hne (List.length_eq_zero_iff.1 h2)
 · have := World.ownsRow.lt (h.sub q hq) g (by rw [e]; rfl)
   omega
theorem cell_two_new (w : World) (x y : Value) (e : TypeId) (j : Nat) (u : Value) (h : [x, y][j]? = some u) : (w.alloc (.cells #[x, y] e)).cell? ((⟨w.heap.size, 0, none⟩ : Addr).add j) = some u := by
 have hb : (w.alloc (.cells #[x, y] e)).heap[w.heap.size]? = some (.cells #[x, y] e (0, 0)) := World.alloc_heap_new w _
 match j, h with
 | 0, h =>
   obtain rfl : x = u := by simpa using h
   show (w.alloc (.cells #[x, y] e)).cell? ⟨w.heap.size, 0, none⟩ = _
   unfold World.cell?
   rw [hb]; rfl
 | 1, h =>
   obtain rfl : y = u := by simpa using h
   show (w.alloc (.cells #[x, y] e)).cell? ⟨w.heap.size, 1, none⟩ = _
   unfold World.cell?
   rw [hb]; rfl
 | (n + 2), h => simp at h
def ReadR (e : TypeId) (w w' : World) (t : Bs) (en : Ending) : Prop := ∃ v ps, en = .returned (.tuple #[v, .int .i64 ((rdV t).2.1 : Nat), .int .i64 ((rdV t).2.2 : Nat)]) ∧ Lr e w' w.heap.size v ps ∧ tell ps = (rdV t).1 ∧ Below w.heap.size w w'
theorem rdV_long {t : Bs} (h : 16777216 < t.length) : rdV t = ([], 0, 3) := by unfold rdV; rw [if_pos h]
theorem rdV_bad {t : Bs} {n e : Nat} (h : t.length ≤ 16777216) (hb : bad 1 (lns t) = some (n, e)) : rdV t = ([], n, e) := by unfold rdV; rw [if_neg (by omega), hb]
theorem rdV_good {t : Bs} (h : t.length ≤ 16777216) (hb : bad 1 (lns t) = none) : rdV t = (good 1 (lns t), 0, 0) := by unfold rdV; rw [if_neg (by omega), hb]
def leftR (N : Nat) (W : World) : Nat := match W.cell? ⟨N + 1 + 1, 0, none⟩, W.cell? ⟨N + 1, 0, none⟩ with
 | some (.bool true), some (.string s) => s.size + 1
 | _, _ => 0
structure RI (t : Bs) (m : Bool) (r : Bs) (done : List Bs) : Prop where
 all : lns t = done ++ (if m then lns r else [])
 none : bad 1 done = none
 len : r.length ≤ t.length
theorem lns_len (t : Bs) : (lns t).length ≤ t.length + 1 := spl_len _ _
theorem RI.dlen {t : Bs} {m : Bool} {r : Bs} {done : List Bs} (h : RI t m r done) : done.length ≤ t.length + 1 := by
 have := lns_len t
 rw [h.all, List.length_append] at this
 omega
theorem lns_step (r : Bs) : lns r = cutT 10 r :: (if cutF 10 r then lns (cutD 10 r) else []) := by
 by_cases h : (10 : UInt8) ∈ r
 · rw [lns_cut h]; simp [cutF, h]
 · rw [lns_none h, (cut_none h).1]; simp [cutF, h]
theorem RI.bad {t r : Bs} {done : List Bs} (h : RI t true r done) (he : lineE (cutT 10 r) ≠ 0) : bad 1 (lns t) = some (1 + done.length, lineE (cutT 10 r)) := by
 rw [h.all, if_pos rfl, bad_app h.none, lns_step, Go.Proofs.YtgoadpnoagaflaaGreatDoor.bad, if_neg he]
theorem RI.step {t r : Bs} {done : List Bs} (h : RI t true r done) (he : lineE (cutT 10 r) = 0) : RI t (cutF 10 r) (cutD 10 r) (done ++ [cutT 10 r]) := by
 refine ⟨?_, ?_, Nat.le_trans (cutD_len _ _) h.len⟩
 · have := h.all
   rw [if_pos rfl, lns_step r] at this
   rw [this, List.append_assoc]; rfl
 · rw [bad_app h.none, Go.Proofs.YtgoadpnoagaflaaGreatDoor.bad, if_pos he]; rfl
theorem good_step {done : List Bs} {l : Bs} : good 1 (done ++ [l]) = good 1 done ++ (if (lineW l).isEmpty then [] else [(done.length + 1, lineW l)]) := by
 rw [good_app, good, good, List.append_nil, Nat.add_comm 1 done.length]
end

/- Package lines: Read, the walk. -/
section
set_option maxRecDepth 100000
open Go.RowKit Go.Shelf Go.Lib
attribute [local go_sem] run_store_str
theorem Sr.form {W : World} {B : Nat} {v : Value} {ws : List Bs} (h : Sr W B v ws) : ∃ a c, v = .slice a ws.length c ∧ ws.length ≤ c ∧ c ≤ 9223372036854775807 := by
 rcases h.2 with ⟨h1, h2⟩ | ⟨g, cap, cur, h1, _, _, h3, h4, _⟩
 · exact ⟨none, 0, by rw [h1, h2], by omega, by omega⟩
 · exact ⟨_, _, h1, h3, by unfold maxLen at h4; omega⟩
structure RW (w wr : World) (m : Bool) (s : ByteArray) (k : Nat) (v : Value) (ps : List Lt) : Prop where
 b0 : Boxed wr w.heap.size 3 (.int .i64 (k : Nat))
 b1 : Boxed wr (w.heap.size + 1) 9 (.string s)
 b2 : Boxed wr (w.heap.size + 1 + 1) 4 (.bool m)
 row : Lr 56 wr (w.heap.size + 3) v ps
 bel : Below w.heap.size w wr
 siz : w.heap.size + 3 ≤ wr.heap.size
theorem RW.later {w wr W' : World} {m : Bool} {s : ByteArray} {k : Nat} {v : Value} {ps : List Lt} (h : RW w wr m s k v ps) (hb : Below wr.heap.size wr W') : RW w W' m s k v ps :=
 ⟨boxed_belowB h.b0 hb h.b0.lt, boxed_belowB h.b1 hb h.b1.lt, boxed_belowB h.b2 hb h.b2.lt, h.row.later hb, h.bel.trans (hb.mono h.bel.size), Nat.le_trans h.siz hb.size⟩
theorem RW.left {w wr : World} {m : Bool} {s : ByteArray} {k : Nat} {v : Value} {ps : List Lt} (h : RW w wr m s k v ps) : leftR w.heap.size wr = if m then s.size + 1 else 0 := by
 unfold leftR
 rw [h.b1.cell, h.b2.cell]
 cases m <;> rfl
theorem RW.next {w wr : World} {m m' : Bool} {s s' : ByteArray} {k : Nat} {v : Value} {ps : List Lt} (h : RW w wr m s k v ps) {w0 : World} (hw0 : w0 = wr ∨ w0 = wr.drew) :
   RW w (((w0.setCell ⟨w.heap.size + 1, 0, none⟩ (.string s')).setCell ⟨w.heap.size + 1 + 1, 0, none⟩ (.bool m')).setCell ⟨w.heap.size, 0, none⟩ (.int .i64 ((k + 1 : Nat) : Int))) m' s' (k + 1) v ps := by
 have h : RW w w0 m s k v ps := by
   rcases hw0 with rfl | rfl
   · exact h
   · exact h.later (Below.refl _ wr).drew
 refine ⟨((h.b0.other (by omega) _).other (by omega) _).set _, ((h.b1.set _).other (by omega) _).other (by omega) _, ((h.b2.other (by omega) _).set _).other (by omega) _, ((h.row.set (by show w.heap.size + 1 < _; omega) _).set (by show w.heap.size + 1 + 1 < _; omega) _).set (by show w.heap.size < _; omega) _, ?_, ?_⟩
 · exact ((h.bel.setCell (p := ⟨w.heap.size + 1, 0, none⟩) (by show w.heap.size ≤ w.heap.size + 1; omega) _).setCell (p := ⟨w.heap.size + 1 + 1, 0, none⟩) (by show w.heap.size ≤ w.heap.size + 1 + 1; omega) _).setCell (p := ⟨w.heap.size, 0, none⟩) (Nat.le_refl _) _
 · have := h.siz; simpa [World.setCell] using this
theorem RW.grew {w wr W2 : World} {m : Bool} {s : ByteArray} {k : Nat} {v v' : Value} {ps : List Lt} {p : Lt} {tmp : Obj} (h : RW w wr m s k v ps) (hp : Sr wr (w.heap.size + 3) p.2.2 p.2.1) (hd : ∀ q ∈ ps, q.2.2.ownBlock ≠ p.2.2.ownBlock) (hown : W2.ownsRow (w.heap.size + 3) 56 2 v' (ps.length + 1) (lcs ps ++ [.int .i64 (p.1 : Nat), p.2.2])) (hg : (wr.alloc tmp).grownBy W2 v.ownBlock) : RW w W2 m s k v' (ps ++ [p]) := by
 have ap : ∀ k, v.ownBlock = some k → w.heap.size + 3 ≤ k := fun k hk => (World.ownsRow.lt h.row.own k hk).1
 have hs2 := hg.size
 simp only [World.size_alloc] at hs2
 have hz := h.siz
 refine ⟨(h.b0.alloc tmp).kept hg (fun e => by have := ap _ e.symm; omega), (h.b1.alloc tmp).kept hg (fun e => by have := ap _ e.symm; omega), (h.b2.alloc tmp).kept hg (fun e => by have := ap _ e.symm; omega), h.row.grew (by decide) hp hd hown hg, ?_, by omega⟩
 exact h.bel.trans (((Below.refl _ wr).alloc (by omega) _).grown hg (by simp; omega) (fun k hk => by have := ap k hk; omega))
theorem rw_start (w : World) (s : ByteArray) : RW w (((w.alloc (.cells #[.int .i64 0] 3)).alloc (.cells #[.string s] 9)).alloc (.cells #[.bool true] 4)) true s 0 (.slice none 0 0) [] := by
 have b3 := Boxed.new w 3 (.int .i64 0)
 have b4 := Boxed.new (w.alloc (.cells #[.int .i64 0] 3)) 9 (.string s)
 have b5 := Boxed.new ((w.alloc (.cells #[.int .i64 0] 3)).alloc (.cells #[.string s] 9)) 4 (.bool true)
 simp only [World.size_alloc] at b4 b5
 exact ⟨(b3.alloc _).alloc _, b4.alloc _, b5, Lr.nil _ _ _, (((Below.refl _ w).alloc (Nat.le_refl _) _).alloc (by simp) _).alloc (by simp; omega) _, by simp⟩
set_option maxRecDepth 100000 in
set_option maxHeartbeats 4000000 in
theorem read_long (s : ByteArray) (t : Bs) (w : World) (ht : s.data.toList = t) (hl : t.length ≤ 9223372036854775807) (hlong : 16777216 < t.length) :
   Calls Tryz.prog 15 #[.string s] w fun e w' => ReadR 56 w w' t e := by
 have hsz : s.size = t.length := by rw [Lib.size_eq, ht]
 have h1 : (16777216 : Int) < (s.size : Int) := by omega
 have h2 : (s.size : Int) ≤ 9223372036854775807 := by omega
 have HE := Lib.hid (rdV_long hlong)
 clear hsz ht hl hlong
 go_enter Tryz.func15, Tryz.ntmps15
 go_wp2
 go_ret3
 exact ⟨_, [], by rw [HE.out]; rfl, Lr.nil _ _ _, by rw [HE.out]; rfl, Below.refl _ _⟩
set_option maxRecDepth 100000 in
set_option maxHeartbeats 8000000 in
theorem read_short (s0 : ByteArray) (t : Bs) (w : World) (ht : s0.data.toList = t) (hl : t.length ≤ 16777216) :
   Calls Tryz.prog 15 #[.string s0] w fun e w' => ReadR 56 w w' t e := by
 have hsz : s0.size = t.length := by rw [Lib.size_eq, ht]
 have h1 : ¬ ((16777216 : Int) < (s0.size : Int)) := by omega
 have h2 : (s0.size : Int) ≤ 16777216 := by omega
 have HT := Lib.hid (And.intro ht hl)
 obtain ⟨i0, hi0, hz0, hz1, hz2⟩ := info_parts (show (Tryz.prog.info? 56).map (fun i => (i.zero, i.size, i.bytes)) = some (some (.agg #[.int .i64 0, .slice none 0 0]), 2, 32) by kernel_rfl)
 clear hsz ht hl
 go_enter Tryz.func15, Tryz.ntmps15
 go_wp2_with fail
 have hS := Lib.hid (rw_start w s0)
 obtain ⟨W0, hW0⟩ : ∃ W0, ((w.alloc (.cells #[.int .i64 0] 3)).alloc (.cells #[.string s0] 9)).alloc (.cells #[.bool true] 4) = W0 := ⟨_, rfl⟩
 rw [hW0] at hS ⊢
 clear hW0
 go_loopw [9] (fun s9 wr => ∃ (m : Bool) (s : ByteArray) (ps : List Lt) (done : List Bs), Hid (RW w wr m s done.length s9 ps ∧ RI t m s.data.toList done ∧ tell ps = good 1 done)) (fun _ wr => leftR w.heap.size wr)
 case atStart => exact ⟨true, s0, [], [], hS.out, ⟨by rw [HT.out.1]; rfl, rfl, by rw [HT.out.1]; exact Nat.le_refl _⟩, rfl⟩
 case round =>
   obtain ⟨m, s, ps, done, hI⟩ := hrel
   have kb2 := hI.out.1.b2.cell
   cases m
   · have HF : Hid (rdV t = (good 1 done, 0, 0)) := by
       show rdV t = _
       have h := hI.out.2.1
       have e : lns t = done := by rw [h.all]; simp
       rw [rdV_good HT.out.2 (by rw [e]; exact h.none), e]
     go_wp2
     go_ret3
     exact ⟨_, ps, by rw [HF.out]; rfl, hI.out.1.row.base (by omega), by rw [HF.out]; exact hI.out.2.2, hI.out.1.bel⟩
   · obtain ⟨r, hr⟩ : ∃ r, Hid (s.data.toList = r) := ⟨_, Lib.hid rfl⟩
     obtain ⟨ln, hln⟩ : ∃ ln, Hid (cutT 10 r = ln) := ⟨_, Lib.hid rfl⟩
     have HRI : Hid (RI t true r done) := by show RI t true r done; rw [← hr.out]; exact hI.out.2.1
     have hrl : r.length ≤ 16777216 := Nat.le_trans HRI.out.len HT.out.2
     have hdl : done.length ≤ 16777217 := by have := HRI.out.dlen; have := HT.out.2; omega
     have hlnl : ln.length ≤ 16777216 := by rw [← hln.out]; exact Nat.le_trans (cutT_len _ _) hrl
     obtain ⟨q, hq⟩ : ∃ q : ByteArray, (⟨ln.toArray⟩ : ByteArray) = q := ⟨_, rfl⟩
     have HN : Hid (∀ wr, RW w wr true s done.length u9 ps → Calls Tryz.prog 34 #[.pointer (some ⟨w.heap.size + 1, 0, none⟩), .pointer (some ⟨w.heap.size + 1 + 1, 0, none⟩), .pointer (some ⟨w.heap.size, 0, none⟩)] wr fun e w' => e = .returned (.string q) ∧ RW w w' (cutF 10 r) ⟨(cutD 10 r).toArray⟩ (done.length + 1) u9 ps) := fun wr h => by
       refine (nextL_any w.heap.size s r hr.out (by omega) true done.length (by omega) wr h.b0 h.b1 h.b2).mono ?_
       rintro e w' ⟨rfl, w0, hw0, rfl⟩
       exact ⟨by rw [hln.out, ← hq], h.next hw0⟩
     have HQ : Hid (q.data.toList = ln) := (by rw [← hq] : q.data.toList = ln)
     have HWo : Hid (∀ W, Calls Tryz.prog 36 #[.string q] W fun e w' => WordsR W w' ln e) := fun W => wordsOf_any q ln W HQ.out (by omega)
     have LN : Hid (done.length ≤ 16777217 ∧ ps.length ≤ 16777217) := by
       refine ⟨hdl, ?_⟩
       have e := congrArg List.length hI.out.2.2
       have := good_len done 1
       rw [← e] at this
       simp [tell] at this
       omega
     have hdl' : (done.length : Int) ≤ 16777217 := by omega
     clear hq hlnl hrl
     have hcase : lineE ln = 0 ∨ ∃ ee : Nat, (ee = 3 ∨ ee = 4) ∧ lineE ln = ee := by
       rcases lineE_cases ln with e | e | e
       · exact Or.inl e
       · exact Or.inr ⟨3, Or.inl rfl, e⟩
       · exact Or.inr ⟨4, Or.inr rfl, e⟩
     rcases hcase with hee | ⟨ee, h34, hee⟩
     · have HST : Hid (RI t (cutF 10 r) (cutD 10 r) (done ++ [ln])) := by
         have := HRI.out.step (by rw [hln.out]; exact hee)
         rwa [hln.out] at this
       have HLT : Hid ((if cutF 10 r then (⟨(cutD 10 r).toArray⟩ : ByteArray).size + 1 else 0) < s.size + 1) := by
         show (if cutF 10 r then (⟨(cutD 10 r).toArray⟩ : ByteArray).size + 1 else 0) < s.size + 1
         have hz : s.size = r.length := by rw [Lib.size_eq, hr.out]
         split
         · rename_i h
           rw [sv_size, hz]
           have hm : (10 : UInt8) ∈ r := by simpa [cutF] using h
           have := congrArg List.length (cut_some hm)
           rw [List.length_append, List.length_cons] at this
           omega
         · omega
       have HW2 : Hid (∀ W, Calls Tryz.prog 36 #[.string q] W fun e w' => ∃ a c, e = .returned (.tuple #[.slice a (lineW ln).length c, .int .i64 0]) ∧ Sr w' W.heap.size (.slice a (lineW ln).length c) (lineW ln) ∧ Below W.heap.size W w') := fun W => by
         refine (HWo.out W).mono ?_
         rintro e w' ⟨⟨v, rfl, h1, h2⟩, hb⟩
         have hS := h1 hee
         obtain ⟨a, c, rfl, _, _⟩ := hS.form
         exact ⟨a, c, by rw [hee]; rfl, hS, hb⟩
       obtain ⟨ws, hws⟩ : ∃ ws, Hid (lineW ln = ws) := ⟨_, Lib.hid rfl⟩
       rw [hws.out] at HW2
       have HG : Hid (good 1 (done ++ [ln]) = good 1 done ++ (if ws.isEmpty then [] else [(done.length + 1, ws)])) := by
         show good 1 (done ++ [ln]) = _
         rw [good_step, hws.out]
       have hwl : ws.length ≤ 16777217 := by
         rw [← hws.out]
         have h1 := toks_len (ahd ln)
         have h2 : (ahd ln).length ≤ ln.length := cutT_len _ _
         have h3 : ln.length ≤ 16777216 := by rw [← hln.out]; exact Nat.le_trans (cutT_len _ _) (Nat.le_trans HRI.out.len HT.out.2)
         show (toks (ahd ln)).length ≤ _
         omega
       have HI2 : Hid (∀ W2, RW w W2 (cutF 10 r) ⟨(cutD 10 r).toArray⟩ (done.length + 1) u9 ps → ws = [] → ∃ (m : Bool) (s : ByteArray) (ps' : List Lt) (done' : List Bs), Hid (RW w W2 m s done'.length u9 ps' ∧ RI t m s.data.toList done' ∧ tell ps' = good 1 done')) := fun W2 h he => by
         refine ⟨cutF 10 r, ⟨(cutD 10 r).toArray⟩, ps, done ++ [ln], ?_, HST.out, ?_⟩
         · rw [List.length_append]; exact h
         · rw [HG.out, he]; simp [hI.out.2.2]
       have HI3 : Hid (∀ W4 v' wv, RW w W4 (cutF 10 r) ⟨(cutD 10 r).toArray⟩ (done.length + 1) v' (ps ++ [(done.length + 1, ws, wv)]) → ws ≠ [] → ∃ (m : Bool) (s : ByteArray) (ps' : List Lt) (done' : List Bs), Hid (RW w W4 m s done'.length v' ps' ∧ RI t m s.data.toList done' ∧ tell ps' = good 1 done')) := fun W4 v' wv h he => by
         refine ⟨cutF 10 r, ⟨(cutD 10 r).toArray⟩, ps ++ [(done.length + 1, ws, wv)], done ++ [ln], ?_, HST.out, ?_⟩
         · rw [List.length_append]; exact h
         · rw [HG.out, ← hI.out.2.2]
           cases ws with
           | nil => exact absurd rfl he
           | cons x r => simp [tell]
       have HL := Lib.hid hI.out.1.left
       clear hee HWo
       by_cases hw0 : ws = []
       · have hwz : (ws.length : Int) = 0 := by rw [hw0]; rfl
         have hwn : ws.length = 0 := by rw [hw0]; rfl
         rw [hwn] at HW2
         have HW0 := Lib.hid hw0
         clear hw0 hwz hwn hwl
         go_wp2_with (first
           | (go_at_call 34; refine (HN.out _ hI.out.1).mono ?_; rintro e W1 ⟨rfl, hR1⟩; have HR1 := Lib.hid hR1; have kn := hR1.b0.cell; clear hR1)
           | (go_at_call 36; refine (HW2.out _).mono ?_; rintro e W2 ⟨wa, wc, rfl, hS2, hb2⟩; have HR2 := Lib.hid (HR1.out.later hb2); clear hS2 hb2))
         go_roundw
         case rel => exact HI2.out _ HR2.out HW0.out
         case measure => rw [HR2.out.left, HL.out]; exact HLT.out
       · have hwz : (0 : Int) < (ws.length : Int) := by
           have := List.length_pos_iff.2 hw0
           omega
         have hwl' : (ws.length : Int) ≤ 16777217 := by omega
         have HW0 := Lib.hid hw0
         clear hw0 hwl
         go_wp2_with (first
           | (go_at_call 34; refine (HN.out _ hI.out.1).mono ?_; rintro e W1 ⟨rfl, hR1⟩; have HR1 := Lib.hid hR1; have kn := hR1.b0.cell; clear hR1)
           | (go_at_call 36; refine (HW2.out _).mono ?_; rintro e W2 ⟨wa, wc, rfl, hS2, hb2⟩; have HR2 := Lib.hid (HR1.out.later hb2); have HS2 := Lib.hid (hS2.base (show w.heap.size + 3 ≤ W1.heap.size from HR1.out.siz)); have HFr := Lib.hid (HR1.out.row.fresh hS2 (Nat.le_refl _) HW0.out); have kn2 := HR2.out.b0.cell; clear hS2 hb2)
           | (at_builtin; refine wpList_append_own _ rfl _ _ 51 rfl (w.heap.size + 3) 56 i0 (.agg #[.int .i64 0, .slice none 0 0]) 2 32 Tryz.underlying51 hi0 hz0 hz1 hz2 rfl (by decide) u9 ps.length (lcs ps) rfl (World.ownsRow.alloc HR2.out.row.own _) ⟨W2.heap.size, 0, none⟩ 1 1 [.int .i64 ((done.length + 1 : Nat) : Int), .slice wa ws.length wc] rfl rfl (cell_two_new _ _ _ _) (by simp [Value.oneCell']) (by unfold maxLen; have := LN.out; omega) (by have := LN.out; omega) (by have := HR2.out.siz; simp; omega) ?_; intro v' W4 hown hgrow _; have HR4 := Lib.hid (HR2.out.grew (p := (done.length + 1, ws, .slice wa ws.length wc)) HS2.out HFr.out hown hgrow); clear hown hgrow))
         go_roundw
         case rel => exact HI3.out _ _ _ HR4.out HW0.out
         case measure => rw [HR4.out.left, HL.out]; exact HLT.out
     · have HE : Hid (rdV t = ([], done.length + 1, ee)) := by
         show rdV t = _
         have := HRI.out.bad (by rw [hln.out, hee]; omega)
         rw [hln.out, hee, Nat.add_comm] at this
         exact rdV_bad HT.out.2 this
       have HW2 : Hid (∀ W, Calls Tryz.prog 36 #[.string q] W fun e w' => e = .returned (.tuple #[.slice none 0 0, .int .i64 (ee : Nat)]) ∧ Below W.heap.size W w') := fun W => by
         refine (HWo.out W).mono ?_
         rintro e w' ⟨⟨v, rfl, h1, h2⟩, hb⟩
         rw [h2 (by omega), hee]
         exact ⟨rfl, hb⟩
       have hee2 : ((ee : Int) != 0) = true := by rcases h34 with rfl | rfl <;> rfl
       have hee3 : ¬ ((ee : Int) = 0) := by omega
       clear hee HWo
       rcases h34 with rfl | rfl
       all_goals
         go_wp2_with (first
           | (go_at_call 34; refine (HN.out _ hI.out.1).mono ?_; rintro e W1 ⟨rfl, hR1⟩; have HR1 := Lib.hid hR1; have kn := hR1.b0.cell; clear hR1)
           | (go_at_call 36; refine (HW2.out _).mono ?_; rintro e W2 ⟨rfl, hb2⟩; have HR2 := Lib.hid (HR1.out.later hb2); have kn2 := HR2.out.b0.cell; clear hb2))
         go_region
         go_wp2
         go_ret3
         exact ⟨_, [], by rw [HE.out]; rfl, Lr.nil _ _ _, by rw [HE.out]; rfl, HR2.out.bel.drew⟩
theorem read_any (s : ByteArray) (t : Bs) (w : World) (ht : s.data.toList = t) (hl : t.length ≤ 9223372036854775807) :
   Calls Tryz.prog 15 #[.string s] w fun e w' => ReadR 56 w w' t e := by
 by_cases h : 16777216 < t.length
 · exact read_long s t w ht hl h
 · exact read_short s t w ht (by omega)
end
end Go.Proofs.YtgoadpnoagaflaaGreatDoor
