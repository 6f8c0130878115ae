/- Own texts, put together: Bg Bh Bi Bj Bp Bpw. -/
import Derived.Test.YtkbhmglmbolbiaaGreatDoorQ23
import Derived.Lib.Join
import Derived.ProofKit
import Derived.OpenShut
import Derived.Laws.Cover2
import Derived.ChangeOld
import Derived.ChangeMaps5
import Derived.Below
import Derived.Carry
import Derived.Deep.Strs
import Derived.Deep.Slices
import Derived.SizedLaws
namespace Go.Proofs.YtkbhmglmbolbiaaGreatDoor
/- Package lines: Read, the walk. -/
section
set_option maxRecDepth 100000
open Go.RowKit Go.Shelf Go.Lib
attribute [local go_sem] run_store_str
theorem Sr.form {W : World} {B : Nat} {v : Value} {ws : List Bs} (h : Sr W B v ws) : ∃ a c, v = .slice a ws.length c ∧ ws.length ≤ c ∧ c ≤ 9223372036854775807 := by
 rcases h.2 with ⟨h1, h2⟩ | ⟨g, cap, cur, h1, _, _, h3, h4, _⟩
 · exact ⟨none, 0, by rw [h1, h2], by omega, by omega⟩
 · exact ⟨_, _, h1, h3, by unfold maxLen at h4; omega⟩
structure RW (w wr : World) (m : Bool) (s : ByteArray) (k : Nat) (v : Value) (ps : List Lt) : Prop where
 b0 : Boxed wr w.heap.size 3 (.int .i64 (k : Nat))
 b1 : Boxed wr (w.heap.size + 1) 9 (.string s)
 b2 : Boxed wr (w.heap.size + 1 + 1) 4 (.bool m)
 row : Lr 57 wr (w.heap.size + 3) v ps
 bel : Below w.heap.size w wr
 siz : w.heap.size + 3 ≤ wr.heap.size
theorem RW.later {w wr W' : World} {m : Bool} {s : ByteArray} {k : Nat} {v : Value} {ps : List Lt} (h : RW w wr m s k v ps) (hb : Below wr.heap.size wr W') : RW w W' m s k v ps :=
 ⟨boxed_belowB h.b0 hb h.b0.lt, boxed_belowB h.b1 hb h.b1.lt, boxed_belowB h.b2 hb h.b2.lt, h.row.later hb, h.bel.trans (hb.mono h.bel.size), Nat.le_trans h.siz hb.size⟩
theorem RW.left {w wr : World} {m : Bool} {s : ByteArray} {k : Nat} {v : Value} {ps : List Lt} (h : RW w wr m s k v ps) : leftR w.heap.size wr = if m then s.size + 1 else 0 := by
 unfold leftR
 rw [h.b1.cell, h.b2.cell]
 cases m <;> rfl
theorem RW.next {w wr : World} {m m' : Bool} {s s' : ByteArray} {k : Nat} {v : Value} {ps : List Lt} (h : RW w wr m s k v ps) {w0 : World} (hw0 : w0 = wr ∨ w0 = wr.drew) :
   RW w (((w0.setCell ⟨w.heap.size + 1, 0, none⟩ (.string s')).setCell ⟨w.heap.size + 1 + 1, 0, none⟩ (.bool m')).setCell ⟨w.heap.size, 0, none⟩ (.int .i64 ((k + 1 : Nat) : Int))) m' s' (k + 1) v ps := by
 have h : RW w w0 m s k v ps := by
   rcases hw0 with rfl | rfl
   · exact h
   · exact h.later (Below.refl _ wr).drew
 refine ⟨((h.b0.other (by omega) _).other (by omega) _).set _, ((h.b1.set _).other (by omega) _).other (by omega) _, ((h.b2.other (by omega) _).set _).other (by omega) _, ((h.row.set (by show w.heap.size + 1 < _; omega) _).set (by show w.heap.size + 1 + 1 < _; omega) _).set (by show w.heap.size < _; omega) _, ?_, ?_⟩
 · exact ((h.bel.setCell (p := ⟨w.heap.size + 1, 0, none⟩) (by show w.heap.size ≤ w.heap.size + 1; omega) _).setCell (p := ⟨w.heap.size + 1 + 1, 0, none⟩) (by show w.heap.size ≤ w.heap.size + 1 + 1; omega) _).setCell (p := ⟨w.heap.size, 0, none⟩) (Nat.le_refl _) _
 · have := h.siz; simpa [World.setCell] using this
theorem RW.grew {w wr W2 : World} {m : Bool} {s : ByteArray} {k : Nat} {v v' : Value} {ps : List Lt} {p : Lt} {tmp : Obj} (h : RW w wr m s k v ps) (hp : Sr wr (w.heap.size + 3) p.2.2 p.2.1) (hd : ∀ q ∈ ps, q.2.2.ownBlock ≠ p.2.2.ownBlock) (hown : W2.ownsRow (w.heap.size + 3) 57 2 v' (ps.length + 1) (lcs ps ++ [.int .i64 (p.1 : Nat), p.2.2])) (hg : (wr.alloc tmp).grownBy W2 v.ownBlock) : RW w W2 m s k v' (ps ++ [p]) := by
 have ap : ∀ k, v.ownBlock = some k → w.heap.size + 3 ≤ k := fun k hk => (World.ownsRow.lt h.row.own k hk).1
 have hs2 := hg.size
 simp only [World.size_alloc] at hs2
 have hz := h.siz
 refine ⟨(h.b0.alloc tmp).kept hg (fun e => by have := ap _ e.symm; omega), (h.b1.alloc tmp).kept hg (fun e => by have := ap _ e.symm; omega), (h.b2.alloc tmp).kept hg (fun e => by have := ap _ e.symm; omega), h.row.grew (by decide) hp hd hown hg, ?_, by omega⟩
 exact h.bel.trans (((Below.refl _ wr).alloc (by omega) _).grown hg (by simp; omega) (fun k hk => by have := ap k hk; omega))
theorem rw_start (w : World) (s : ByteArray) : RW w (((w.alloc (.cells #[.int .i64 0] 3)).alloc (.cells #[.string s] 9)).alloc (.cells #[.bool true] 4)) true s 0 (.slice none 0 0) [] := by
 have b3 := Boxed.new w 3 (.int .i64 0)
 have b4 := Boxed.new (w.alloc (.cells #[.int .i64 0] 3)) 9 (.string s)
 have b5 := Boxed.new ((w.alloc (.cells #[.int .i64 0] 3)).alloc (.cells #[.string s] 9)) 4 (.bool true)
 simp only [World.size_alloc] at b4 b5
 exact ⟨(b3.alloc _).alloc _, b4.alloc _, b5, Lr.nil _ _ _, (((Below.refl _ w).alloc (Nat.le_refl _) _).alloc (by simp) _).alloc (by simp; omega) _, by simp⟩
set_option maxRecDepth 100000 in
set_option maxHeartbeats 4000000 in
theorem read_long (s : ByteArray) (t : Bs) (w : World) (ht : s.data.toList = t) (hl : t.length ≤ 9223372036854775807) (hlong : 16777216 < t.length) :
   Calls Tryz.prog 10 #[.string s] w fun e w' => ReadR 57 w w' t e := by
 have hsz : s.size = t.length := by rw [Lib.size_eq, ht]
 have h1 : (16777216 : Int) < (s.size : Int) := by omega
 have h2 : (s.size : Int) ≤ 9223372036854775807 := by omega
 have HE := Lib.hid (rdV_long hlong)
 clear hsz ht hl hlong
 go_enter Tryz.func10, Tryz.ntmps10
 go_wp2
 go_ret3
 exact ⟨_, [], by rw [HE.out]; rfl, Lr.nil _ _ _, by rw [HE.out]; rfl, Below.refl _ _⟩
set_option maxRecDepth 100000 in
set_option maxHeartbeats 8000000 in
theorem read_short (s0 : ByteArray) (t : Bs) (w : World) (ht : s0.data.toList = t) (hl : t.length ≤ 16777216) :
   Calls Tryz.prog 10 #[.string s0] w fun e w' => ReadR 57 w w' t e := by
 have hsz : s0.size = t.length := by rw [Lib.size_eq, ht]
 have h1 : ¬ ((16777216 : Int) < (s0.size : Int)) := by omega
 have h2 : (s0.size : Int) ≤ 16777216 := by omega
 have HT := Lib.hid (And.intro ht hl)
 obtain ⟨i0, hi0, hz0, hz1, hz2⟩ := info_parts (show (Tryz.prog.info? 57).map (fun i => (i.zero, i.size, i.bytes)) = some (some (.agg #[.int .i64 0, .slice none 0 0]), 2, 32) by kernel_rfl)
 clear hsz ht hl
 go_enter Tryz.func10, Tryz.ntmps10
 go_wp2_with fail
 have hS := Lib.hid (rw_start w s0)
 obtain ⟨W0, hW0⟩ : ∃ W0, ((w.alloc (.cells #[.int .i64 0] 3)).alloc (.cells #[.string s0] 9)).alloc (.cells #[.bool true] 4) = W0 := ⟨_, rfl⟩
 rw [hW0] at hS ⊢
 clear hW0
 go_loopw [9] (fun s9 wr => ∃ (m : Bool) (s : ByteArray) (ps : List Lt) (done : List Bs), Hid (RW w wr m s done.length s9 ps ∧ RI t m s.data.toList done ∧ tell ps = good 1 done)) (fun _ wr => leftR w.heap.size wr)
 case atStart => exact ⟨true, s0, [], [], hS.out, ⟨by rw [HT.out.1]; rfl, rfl, by rw [HT.out.1]; exact Nat.le_refl _⟩, rfl⟩
 case round =>
   obtain ⟨m, s, ps, done, hI⟩ := hrel
   have kb2 := hI.out.1.b2.cell
   cases m
   · have HF : Hid (rdV t = (good 1 done, 0, 0)) := by
       show rdV t = _
       have h := hI.out.2.1
       have e : lns t = done := by rw [h.all]; simp
       rw [rdV_good HT.out.2 (by rw [e]; exact h.none), e]
     go_wp2
     go_ret3
     exact ⟨_, ps, by rw [HF.out]; rfl, hI.out.1.row.base (by omega), by rw [HF.out]; exact hI.out.2.2, hI.out.1.bel⟩
   · obtain ⟨r, hr⟩ : ∃ r, Hid (s.data.toList = r) := ⟨_, Lib.hid rfl⟩
     obtain ⟨ln, hln⟩ : ∃ ln, Hid (cutT 10 r = ln) := ⟨_, Lib.hid rfl⟩
     have HRI : Hid (RI t true r done) := by show RI t true r done; rw [← hr.out]; exact hI.out.2.1
     have hrl : r.length ≤ 16777216 := Nat.le_trans HRI.out.len HT.out.2
     have hdl : done.length ≤ 16777217 := by have := HRI.out.dlen; have := HT.out.2; omega
     have hlnl : ln.length ≤ 16777216 := by rw [← hln.out]; exact Nat.le_trans (cutT_len _ _) hrl
     obtain ⟨q, hq⟩ : ∃ q : ByteArray, (⟨ln.toArray⟩ : ByteArray) = q := ⟨_, rfl⟩
     have HN : Hid (∀ wr, RW w wr true s done.length u9 ps → Calls Tryz.prog 16 #[.pointer (some ⟨w.heap.size + 1, 0, none⟩), .pointer (some ⟨w.heap.size + 1 + 1, 0, none⟩), .pointer (some ⟨w.heap.size, 0, none⟩)] wr fun e w' => e = .returned (.string q) ∧ RW w w' (cutF 10 r) ⟨(cutD 10 r).toArray⟩ (done.length + 1) u9 ps) := fun wr h => by
       refine (nextL_any w.heap.size s r hr.out (by omega) true done.length (by omega) wr h.b0 h.b1 h.b2).mono ?_
       rintro e w' ⟨rfl, w0, hw0, rfl⟩
       exact ⟨by rw [hln.out, ← hq], h.next hw0⟩
     have HQ : Hid (q.data.toList = ln) := (by rw [← hq] : q.data.toList = ln)
     have HWo : Hid (∀ W, Calls Tryz.prog 18 #[.string q] W fun e w' => WordsR W w' ln e) := fun W => wordsOf_any q ln W HQ.out (by omega)
     have LN : Hid (done.length ≤ 16777217 ∧ ps.length ≤ 16777217) := by
       refine ⟨hdl, ?_⟩
       have e := congrArg List.length hI.out.2.2
       have := good_len done 1
       rw [← e] at this
       simp [tell] at this
       omega
     have hdl' : (done.length : Int) ≤ 16777217 := by omega
     clear hq hlnl hrl
     have hcase : lineE ln = 0 ∨ ∃ ee : Nat, (ee = 3 ∨ ee = 4) ∧ lineE ln = ee := by
       rcases lineE_cases ln with e | e | e
       · exact Or.inl e
       · exact Or.inr ⟨3, Or.inl rfl, e⟩
       · exact Or.inr ⟨4, Or.inr rfl, e⟩
     rcases hcase with hee | ⟨ee, h34, hee⟩
     · have HST : Hid (RI t (cutF 10 r) (cutD 10 r) (done ++ [ln])) := by
         have := HRI.out.step (by rw [hln.out]; exact hee)
         rwa [hln.out] at this
       have HLT : Hid ((if cutF 10 r then (⟨(cutD 10 r).toArray⟩ : ByteArray).size + 1 else 0) < s.size + 1) := by
         show (if cutF 10 r then (⟨(cutD 10 r).toArray⟩ : ByteArray).size + 1 else 0) < s.size + 1
         have hz : s.size = r.length := by rw [Lib.size_eq, hr.out]
         split
         · rename_i h
           rw [sv_size, hz]
           have hm : (10 : UInt8) ∈ r := by simpa [cutF] using h
           have := congrArg List.length (cut_some hm)
           rw [List.length_append, List.length_cons] at this
           omega
         · omega
       have HW2 : Hid (∀ W, Calls Tryz.prog 18 #[.string q] W fun e w' => ∃ a c, e = .returned (.tuple #[.slice a (lineW ln).length c, .int .i64 0]) ∧ Sr w' W.heap.size (.slice a (lineW ln).length c) (lineW ln) ∧ Below W.heap.size W w') := fun W => by
         refine (HWo.out W).mono ?_
         rintro e w' ⟨⟨v, rfl, h1, h2⟩, hb⟩
         have hS := h1 hee
         obtain ⟨a, c, rfl, _, _⟩ := hS.form
         exact ⟨a, c, by rw [hee]; rfl, hS, hb⟩
       obtain ⟨ws, hws⟩ : ∃ ws, Hid (lineW ln = ws) := ⟨_, Lib.hid rfl⟩
       rw [hws.out] at HW2
       have HG : Hid (good 1 (done ++ [ln]) = good 1 done ++ (if ws.isEmpty then [] else [(done.length + 1, ws)])) := by
         show good 1 (done ++ [ln]) = _
         rw [good_step, hws.out]
       have hwl : ws.length ≤ 16777217 := by
         rw [← hws.out]
         have h1 := toks_len (ahd ln)
         have h2 : (ahd ln).length ≤ ln.length := cutT_len _ _
         have h3 : ln.length ≤ 16777216 := by rw [← hln.out]; exact Nat.le_trans (cutT_len _ _) (Nat.le_trans HRI.out.len HT.out.2)
         show (toks (ahd ln)).length ≤ _
         omega
       have HI2 : Hid (∀ W2, RW w W2 (cutF 10 r) ⟨(cutD 10 r).toArray⟩ (done.length + 1) u9 ps → ws = [] → ∃ (m : Bool) (s : ByteArray) (ps' : List Lt) (done' : List Bs), Hid (RW w W2 m s done'.length u9 ps' ∧ RI t m s.data.toList done' ∧ tell ps' = good 1 done')) := fun W2 h he => by
         refine ⟨cutF 10 r, ⟨(cutD 10 r).toArray⟩, ps, done ++ [ln], ?_, HST.out, ?_⟩
         · rw [List.length_append]; exact h
         · rw [HG.out, he]; simp [hI.out.2.2]
       have HI3 : Hid (∀ W4 v' wv, RW w W4 (cutF 10 r) ⟨(cutD 10 r).toArray⟩ (done.length + 1) v' (ps ++ [(done.length + 1, ws, wv)]) → ws ≠ [] → ∃ (m : Bool) (s : ByteArray) (ps' : List Lt) (done' : List Bs), Hid (RW w W4 m s done'.length v' ps' ∧ RI t m s.data.toList done' ∧ tell ps' = good 1 done')) := fun W4 v' wv h he => by
         refine ⟨cutF 10 r, ⟨(cutD 10 r).toArray⟩, ps ++ [(done.length + 1, ws, wv)], done ++ [ln], ?_, HST.out, ?_⟩
         · rw [List.length_append]; exact h
         · rw [HG.out, ← hI.out.2.2]
           cases ws with
           | nil => exact absurd rfl he
           | cons x r => simp [tell]
       have HL := Lib.hid hI.out.1.left
       clear hee HWo
       by_cases hw0 : ws = []
       · have hwz : (ws.length : Int) = 0 := by rw [hw0]; rfl
         have hwn : ws.length = 0 := by rw [hw0]; rfl
         rw [hwn] at HW2
         have HW0 := Lib.hid hw0
         clear hw0 hwz hwn hwl
         go_wp2_with (first
           | (go_at_call 16; refine (HN.out _ hI.out.1).mono ?_; rintro e W1 ⟨rfl, hR1⟩; have HR1 := Lib.hid hR1; have kn := hR1.b0.cell; clear hR1)
           | (go_at_call 18; refine (HW2.out _).mono ?_; rintro e W2 ⟨wa, wc, rfl, hS2, hb2⟩; have HR2 := Lib.hid (HR1.out.later hb2); clear hS2 hb2))
         go_roundw
         case rel => exact HI2.out _ HR2.out HW0.out
         case measure => rw [HR2.out.left, HL.out]; exact HLT.out
       · have hwz : (0 : Int) < (ws.length : Int) := by
           have := List.length_pos_iff.2 hw0
           omega
         have hwl' : (ws.length : Int) ≤ 16777217 := by omega
         have HW0 := Lib.hid hw0
         clear hw0 hwl
         go_wp2_with (first
           | (go_at_call 16; refine (HN.out _ hI.out.1).mono ?_; rintro e W1 ⟨rfl, hR1⟩; have HR1 := Lib.hid hR1; have kn := hR1.b0.cell; clear hR1)
           | (go_at_call 18; refine (HW2.out _).mono ?_; rintro e W2 ⟨wa, wc, rfl, hS2, hb2⟩; have HR2 := Lib.hid (HR1.out.later hb2); have HS2 := Lib.hid (hS2.base (show w.heap.size + 3 ≤ W1.heap.size from HR1.out.siz)); have HFr := Lib.hid (HR1.out.row.fresh hS2 (Nat.le_refl _) HW0.out); have kn2 := HR2.out.b0.cell; clear hS2 hb2)
           | (at_builtin; refine wpList_append_own _ rfl _ _ 35 rfl (w.heap.size + 3) 57 i0 (.agg #[.int .i64 0, .slice none 0 0]) 2 32 Tryz.underlying35 hi0 hz0 hz1 hz2 rfl (by decide) u9 ps.length (lcs ps) rfl (World.ownsRow.alloc HR2.out.row.own _) ⟨W2.heap.size, 0, none⟩ 1 1 [.int .i64 ((done.length + 1 : Nat) : Int), .slice wa ws.length wc] rfl rfl (cell_two_new _ _ _ _) (by simp [Value.oneCell']) (by unfold maxLen; have := LN.out; omega) (by have := LN.out; omega) (by have := HR2.out.siz; simp; omega) ?_; intro v' W4 hown hgrow _; have HR4 := Lib.hid (HR2.out.grew (p := (done.length + 1, ws, .slice wa ws.length wc)) HS2.out HFr.out hown hgrow); clear hown hgrow))
         go_roundw
         case rel => exact HI3.out _ _ _ HR4.out HW0.out
         case measure => rw [HR4.out.left, HL.out]; exact HLT.out
     · have HE : Hid (rdV t = ([], done.length + 1, ee)) := by
         show rdV t = _
         have := HRI.out.bad (by rw [hln.out, hee]; omega)
         rw [hln.out, hee, Nat.add_comm] at this
         exact rdV_bad HT.out.2 this
       have HW2 : Hid (∀ W, Calls Tryz.prog 18 #[.string q] W fun e w' => e = .returned (.tuple #[.slice none 0 0, .int .i64 (ee : Nat)]) ∧ Below W.heap.size W w') := fun W => by
         refine (HWo.out W).mono ?_
         rintro e w' ⟨⟨v, rfl, h1, h2⟩, hb⟩
         rw [h2 (by omega), hee]
         exact ⟨rfl, hb⟩
       have hee2 : ((ee : Int) != 0) = true := by rcases h34 with rfl | rfl <;> rfl
       have hee3 : ¬ ((ee : Int) = 0) := by omega
       clear hee HWo
       rcases h34 with rfl | rfl
       all_goals
         go_wp2_with (first
           | (go_at_call 16; refine (HN.out _ hI.out.1).mono ?_; rintro e W1 ⟨rfl, hR1⟩; have HR1 := Lib.hid hR1; have kn := hR1.b0.cell; clear hR1)
           | (go_at_call 18; refine (HW2.out _).mono ?_; rintro e W2 ⟨rfl, hb2⟩; have HR2 := Lib.hid (HR1.out.later hb2); have kn2 := HR2.out.b0.cell; clear hb2))
         go_region
         go_wp2
         go_ret3
         exact ⟨_, [], by rw [HE.out]; rfl, Lr.nil _ _ _, by rw [HE.out]; rfl, HR2.out.bel.drew⟩
theorem read_any (s : ByteArray) (t : Bs) (w : World) (ht : s.data.toList = t) (hl : t.length ≤ 9223372036854775807) :
   Calls Tryz.prog 10 #[.string s] w fun e w' => ReadR 57 w w' t e := by
 by_cases h : 16777216 < t.length
 · exact read_long s t w ht hl h
 · exact read_short s t w ht (by omega)
end

/- Package lines: what is written; allMayBe, sizeOf. -/
section
set_option maxRecDepth 100000
open Go.RowKit Go.Shelf Go.Lib
def jn (ws : List Bs) : Bs := join ws [32]
def wrT (L : List (List Bs)) : Bs := (L.map fun ws => jn ws ++ [10]).flatten
def okL (ws : List Bs) : Bool := ws.all mayW && !ws.isEmpty
def fits (L : List (List Bs)) : Bool := L.all (fun ws => decide ((jn ws).length ≤ 65536)) && decide ((wrT L).length ≤ 16777216)
def wrV (L : List (List Bs)) : Bs × Nat := if L.all okL then (if fits L then (wrT L, 0) else ([], 3)) else ([], 1)
theorem jn_len {ws : List Bs} (h : ws ≠ []) : ((jn ws).length : Int) = (ws.length : Int) - 1 + lens ws := by
 cases ws with
 | nil => exact absurd rfl h
 | cons x r =>
   unfold jn
   rw [join_cons, List.length_append, joinTail_length]
   simp [lens]
   omega
theorem wrT_snoc (L : List (List Bs)) (ws : List Bs) : wrT (L ++ [ws]) = wrT L ++ (jn ws ++ [10]) := by simp [wrT]
theorem wrT_take {L : List (List Bs)} {k : Nat} (h : k < L.length) : wrT (L.take (k + 1)) = wrT (L.take k) ++ (jn L[k] ++ [10]) := by
 rw [List.take_succ_eq_append_getElem h, wrT_snoc]
theorem wrT_take_le (L : List (List Bs)) (k : Nat) : (wrT (L.take k)).length ≤ (wrT L).length := by
 have : wrT L = wrT (L.take k) ++ wrT (L.drop k) := by
   unfold wrT
   rw [← List.flatten_append, ← List.map_append, List.take_append_drop]
 rw [this, List.length_append]; omega
theorem fits_no {L : List (List Bs)} {k : Nat} (h : k < L.length) (hb : 65536 < (jn L[k]).length ∨ 16777216 < (wrT (L.take (k + 1))).length) : fits L = false := by
 unfold fits
 rcases hb with hb | hb
 · have : L.all (fun ws => decide ((jn ws).length ≤ 65536)) = false := by
     rw [List.all_eq_false]
     exact ⟨L[k], List.getElem_mem h, by simp; omega⟩
   rw [this]; rfl
 · have := wrT_take_le L (k + 1)
   rw [decide_eq_false (by omega : ¬ (wrT L).length ≤ 16777216), Bool.and_false]
theorem fits_yes {L : List (List Bs)} (h1 : ∀ k (h : k < L.length), (jn L[k]).length ≤ 65536) (h2 : (wrT L).length ≤ 16777216) : fits L = true := by
 unfold fits
 have : L.all (fun ws => decide ((jn ws).length ≤ 65536)) = true := by
   rw [List.all_eq_true]
   intro x hx
   obtain ⟨k, hk, rfl⟩ := List.mem_iff_getElem.1 hx
   simp [h1 k hk]
 rw [this, decide_eq_true h2]; rfl
theorem lens_le {ws : List Bs} {m : Nat} (h : ∀ x ∈ ws, x.length ≤ m) : lens ws ≤ ws.length * m := by
 induction ws with
 | nil => simp [lens]
 | cons x r ih =>
   have h1 := ih (fun y hy => h y (by simp [hy]))
   have h2 := h x (by simp)
   simp only [lens, List.map_cons, List.sum_cons, List.length_cons] at h1 ⊢
   rw [Nat.add_mul]
   omega
theorem lens_take {ws : List Bs} {k : Nat} (h : k < ws.length) : lens (ws.take (k + 1)) = lens (ws.take k) + ws[k].length := lens_take_succ ws k _ (List.getElem?_eq_getElem h)
structure Sl (W : World) (v : Value) (ws : List Bs) : Prop where
 form : ∃ a c, v = .slice a ws.length c ∧ ws.length ≤ c ∧ c ≤ 9223372036854775807 ∧ (ws = [] ∨ ∃ g off, a = some ⟨g, off, none⟩ ∧ g < W.heap.size ∧ ∀ k x, ws[k]? = some x → W.cell? ⟨g, off + k, none⟩ = some (sv x))
 len : ∀ x ∈ ws, x.length ≤ 9223372036854775807
abbrev Lv := List Bs × Value
structure Ll (W : World) (v : Value) (ls : List Lv) : Prop where
 form : ∃ a c, v = .slice a ls.length c ∧ ls.length ≤ c ∧ c ≤ 9223372036854775807 ∧ (ls = [] ∨ ∃ g off, a = some ⟨g, off, none⟩ ∧ g < W.heap.size ∧ ∀ k p, ls[k]? = some p → W.cell? ⟨g, off + k, none⟩ = some p.2)
 sub : ∀ p ∈ ls, Sl W p.2 p.1
abbrev ls1 (ls : List Lv) : List (List Bs) := ls.map (·.1)
theorem cell_later {w w' : World} {n : Nat} (hb : Below n w w') {g o : Nat} (hg : g < n) {v : Value} (h : w.cell? ⟨g, o, none⟩ = some v) : w'.cell? ⟨g, o, none⟩ = some v := (hb.cell (p := ⟨g, o, none⟩) hg).trans h
theorem Sl.later {W W' : World} {v : Value} {ws : List Bs} (h : Sl W v ws) (hb : Below W.heap.size W W') : Sl W' v ws := by
 obtain ⟨⟨a, c, h1, h2, h3, h4⟩, h5⟩ := h
 refine ⟨⟨a, c, h1, h2, h3, ?_⟩, h5⟩
 rcases h4 with h4 | ⟨g, off, h6, h7, h8⟩
 · exact Or.inl h4
 · exact Or.inr ⟨g, off, h6, Nat.lt_of_lt_of_le h7 hb.size, fun k x hk => cell_later hb h7 (h8 k x hk)⟩
theorem Ll.later {W W' : World} {v : Value} {ls : List Lv} (h : Ll W v ls) (hb : Below W.heap.size W W') : Ll W' v ls := by
 obtain ⟨⟨a, c, h1, h2, h3, h4⟩, h5⟩ := h
 refine ⟨⟨a, c, h1, h2, h3, ?_⟩, fun p hp => (h5 p hp).later hb⟩
 rcases h4 with h4 | ⟨g, off, h6, h7, h8⟩
 · exact Or.inl h4
 · exact Or.inr ⟨g, off, h6, Nat.lt_of_lt_of_le h7 hb.size, fun k x hk => cell_later hb h7 (h8 k x hk)⟩
theorem own_cellL {w : World} {base e size n g c j : Nat} {u : Value} {xs : List Value} (h : w.ownsRow base e size (.slice (some ⟨g, 0, none⟩) n c) n xs) (hj : xs[j]? = some u) : w.cell? ⟨g, 0 + j, none⟩ = some u := by
 have := h.cells (g := g) rfl j u hj
 rw [← this]; unfold Addr.add; split
 · rename_i e; rw [e]
 · rfl
theorem Sr.sl {W : World} {B : Nat} {v : Value} {ws : List Bs} (h : Sr W B v ws) (hl : ∀ x ∈ ws, x.length ≤ 9223372036854775807) : Sl W v ws := by
 refine ⟨?_, hl⟩
 have h0 := h
 rcases h.2 with ⟨h1, h2⟩ | ⟨g, cap, cur, rfl, h2, h3, h4, h5, _⟩
 · exact ⟨none, 0, by rw [h1, h2], by omega, by omega, Or.inl (List.length_eq_zero_iff.1 h2)⟩
 · refine ⟨_, cap, rfl, h4, by unfold maxLen at h5; omega, Or.inr ⟨g, 0, rfl, (World.ownsRow.lt h0 g rfl).2, fun k x hk => ?_⟩⟩
   exact own_cellL h0 (by rw [List.getElem?_map, hk]; rfl)
theorem all_no {ws : List Bs} {k : Nat} (h : k < ws.length) (hm : mayW ws[k] = false) : okL ws = false := by
 unfold okL
 have : ws.all mayW = false := by
   rw [List.all_eq_false]
   exact ⟨ws[k], List.getElem_mem h, by simp [hm]⟩
 rw [this]; rfl
theorem all_yes {ws : List Bs} (h : ∀ j (hj : j < ws.length), mayW ws[j] = true) : okL ws = decide (0 < ws.length) := by
 unfold okL
 have : ws.all mayW = true := by
   rw [List.all_eq_true]
   intro x hx
   obtain ⟨k, hk, rfl⟩ := List.mem_iff_getElem.1 hx
   exact h k hk
 rw [this]
 cases ws with
 | nil => rfl
 | cons a r =>
   rw [decide_eq_true (by simp)]; rfl
set_option maxHeartbeats 4000000 in
theorem allMayBe_any (v : Value) (ws : List Bs) (w : World) (h : Sl w v ws) : Calls Tryz.prog 45 #[v] w fun e w' => e = .returned (.bool (okL ws)) ∧ w' = w := by
 obtain ⟨⟨a, c, rfl, hc1, hc2, hm⟩, hlen⟩ := h
 have HL := Lib.hid hlen
 have HM := Lib.hid hm
 have l1 : (ws.length : Int) ≤ 9223372036854775807 := by omega
 clear hlen hm
 obtain ⟨n, hn⟩ : ∃ n, Hid (ws.length = n) := ⟨_, Lib.hid rfl⟩
 rw [hn.out] at l1 hc1 ⊢
 go_enter Tryz.func45, Tryz.ntmps45
 go_wp2
 go_loop [7] (fun s7 => ∃ k : Nat, k ≤ n ∧ s7 = .int .i64 (k : Nat) ∧ Hid (∀ j (hj : j < k) (h2 : j < ws.length), mayW ws[j] = true)) (fun s7 => n - (RowKit.intOf s7).toNat)
 case atStart => exact ⟨0, Nat.zero_le _, rfl, fun j hj _ => by omega⟩
 case round =>
   obtain ⟨k, hk, rfl, hI⟩ := hrel
   by_cases hlt : k < n
   · have hk2 : k < ws.length := by rw [hn.out]; exact hlt
     have hlt' : (k : Int) < (n : Int) := by omega
     have hk0 : (0 : Int) ≤ (k : Int) := by omega
     obtain ⟨g, off, rfl, hg, hcell⟩ := HM.out.resolve_left (fun e => by rw [e] at hk2; simp at hk2)
     have b1 := hcell k ws[k] (List.getElem?_eq_getElem hk2)
     obtain ⟨m, hm⟩ : ∃ m, Hid (mayW ws[k] = m) := ⟨_, Lib.hid rfl⟩
     have HY : Hid (∀ w, Calls Tryz.prog 30 #[.string ⟨(ws[k]).toArray⟩] w fun e w' => e = .returned (.bool m) ∧ w' = w) := fun w => by
       rw [← hm.out]; exact mayBeL_any _ w (HL.out _ (List.getElem_mem hk2))
     clear hcell
     cases m
     · have HN := Lib.hid (all_no hk2 hm.out)
       go_wp2_with (go_at_call 30; refine (HY.out _).mono ?_; rintro e w' ⟨rfl, rfl⟩)
       go_ret
       rw [HN.out]; exact ⟨rfl, rfl⟩
     · go_wp2_with (go_at_call 30; refine (HY.out _).mono ?_; rintro e w' ⟨rfl, rfl⟩)
       refine ⟨⟨k + 1, by omega, by go_num, fun j hj hjl => ?_⟩, ?_⟩
       · by_cases e : j = k
         · subst e; exact hm.out
         · exact hI.out j (by omega) hjl
       · simp [RowKit.intOf]; omega
   · obtain rfl : k = n := by omega
     have HN := Lib.hid (all_yes (ws := ws) (fun j hj => hI.out j (by rw [← hn.out]; exact hj) hj))
     rw [hn.out] at HN
     go_wp2
     go_ret
     rw [HN.out]; exact ⟨rfl, rfl⟩
end

/- Package lines: sizeOf, Write. -/
section
set_option maxRecDepth 100000
open Go.RowKit Go.Shelf Go.Lib
def Mod (ls : List Lv) : Prop := ls.length ≤ 300000 ∧ ∀ p ∈ ls, p.1.length ≤ 300000
theorem ok_may {ws : List Bs} (h : okL ws = true) : ws ≠ [] ∧ ∀ x ∈ ws, mayW x = true := by
 unfold okL at h
 rw [Bool.and_eq_true, List.all_eq_true] at h
 exact ⟨by simpa using h.2, h.1⟩
theorem may_len {x : Bs} (h : mayW x = true) : x.length ≤ 400 := by
 unfold mayW at h
 rw [Bool.and_eq_true, Bool.and_eq_true] at h
 simpa using h.1.2
def szR (L : List (List Bs)) : Value := if fits L then .tuple #[.int .i64 ((wrT L).length : Nat), .bool true] else .tuple #[.int .i64 0, .bool false]
theorem szR_yes {L : List (List Bs)} (h : fits L = true) : szR L = .tuple #[.int .i64 ((wrT L).length : Nat), .bool true] := by unfold szR; rw [if_pos h]
theorem szR_no {L : List (List Bs)} (h : fits L = false) : szR L = .tuple #[.int .i64 0, .bool false] := by unfold szR; rw [h]; rfl
set_option maxRecDepth 100000 in
set_option maxHeartbeats 4000000 in
theorem sizeOf_any (v : Value) (ls : List Lv) (w : World) (h : Ll w v ls) (hM : Mod ls) (hok : (ls1 ls).all okL = true) : Calls Tryz.prog 46 #[v] w fun e w' => e = .returned (szR (ls1 ls)) ∧ w' = w := by
 obtain ⟨⟨a, c, rfl, hc1, hc2, hm⟩, hsub⟩ := h
 have HO : Hid (∀ p ∈ ls, okL p.1 = true) := fun p hp => by
   rw [List.all_eq_true] at hok
   exact hok p.1 (List.mem_map.2 ⟨p, hp, rfl⟩)
 have HM := Lib.hid hm
 have HU := Lib.hid hsub
 have HMo := Lib.hid hM
 have l0 : (ls.length : Int) ≤ 300000 := by have := hM.1; omega
 clear hsub hm hok hM
 obtain ⟨n, hn⟩ : ∃ n, Hid (ls.length = n) := ⟨_, Lib.hid rfl⟩
 rw [hn.out] at l0 hc1 ⊢
 have HLen : Hid ((ls1 ls).length = n) := (by rw [List.length_map, hn.out] : (ls1 ls).length = n)
 go_enter Tryz.func46, Tryz.ntmps46
 go_wp2
 go_loop [4, 12] (fun s4 s12 => ∃ k z : Nat, k ≤ n ∧ s12 = .int .i64 (k : Nat) ∧ s4 = .int .i64 (z : Nat) ∧ z ≤ 16777216 ∧ Hid (z = (wrT ((ls1 ls).take k)).length ∧ ∀ j (_ : j < k) (h2 : j < (ls1 ls).length), (jn (ls1 ls)[j]).length ≤ 65536)) (fun _ s12 => n - (RowKit.intOf s12).toNat)
 case atStart => exact ⟨0, 0, Nat.zero_le _, rfl, rfl, by omega, rfl, fun j hj _ => by omega⟩
 case round =>
   obtain ⟨k, z, hk, rfl, rfl, hz, hI⟩ := hrel
   have hz' : (z : Int) ≤ 16777216 := by omega
   by_cases hlt : k < n
   · have hk2 : k < ls.length := by rw [hn.out]; exact hlt
     have hk3 : k < (ls1 ls).length := by rw [HLen.out]; exact hlt
     have hlt' : (k : Int) < (n : Int) := by omega
     have hk0 : (0 : Int) ≤ (k : Int) := by omega
     obtain ⟨g, off, rfl, hg, hcell⟩ := HM.out.resolve_left (fun e => by rw [e] at hk2; simp at hk2)
     have b1 := hcell k ls[k] (List.getElem?_eq_getElem hk2)
     obtain ⟨⟨ws, wv⟩, hp⟩ : ∃ p, Hid (ls[k] = p) := ⟨_, Lib.hid rfl⟩
     rw [hp.out] at b1
     have hmem : (ws, wv) ∈ ls := by rw [← hp.out]; exact List.getElem_mem hk2
     have hS : Sl w wv ws := HU.out _ hmem
     have HK := Lib.hid (ok_may (HO.out _ hmem))
     have hwl : ws.length ≤ 300000 := HMo.out.2 _ hmem
     have HJ : Hid ((ls1 ls)[k] = ws) := (by rw [List.getElem_map, hp.out] : (ls1 ls)[k] = ws)
     have HLe : Hid (lens ws ≤ 300000 * 400) := by
       show lens ws ≤ 300000 * 400
       exact Nat.le_trans (lens_le (m := 400) (fun x hx => may_len (HK.out.2 x hx))) (Nat.mul_le_mul_right _ hwl)
     obtain ⟨⟨a2, c2, rfl, hd1, hd2, hm2⟩, hlen2⟩ := hS
     have HM2 := Lib.hid hm2
     have hwl' : (ws.length : Int) ≤ 300000 := by omega
     have hw0 : 0 < ws.length := List.length_pos_iff.2 HK.out.1
     have hw0' : (1 : Int) ≤ (ws.length : Int) := by omega
     obtain ⟨nw, hnw⟩ : ∃ nw, Hid (ws.length = nw) := ⟨_, Lib.hid rfl⟩
     have HST : Hid ((wrT ((ls1 ls).take (k + 1))).length = z + ((jn ws).length + 1)) := by
       show _ = _
       rw [wrT_take hk3, List.length_append, List.length_append, ← hI.out.1, HJ.out]; rfl
     have HJL : Hid (((jn ws).length : Int) = (nw : Int) - 1 + (lens ws : Int)) := by
       show _ = _
       rw [← hnw.out]; exact jn_len HK.out.1
     rw [hnw.out] at hwl' hw0' hd1 b1
     have hnl : nw ≤ 300000 := by omega
     clear hcell hm2 hlen2 hmem hwl hw0
     go_wp2
     go_loop [7, 21] (fun s7 s21 => ∃ j y : Nat, j ≤ nw ∧ s21 = .int .i64 (j : Nat) ∧ s7 = .int .i64 ((nw : Int) - 1 + (y : Nat)) ∧ y ≤ 120000000 ∧ Hid (y = lens (ws.take j))) (fun _ s21 => nw - (RowKit.intOf s21).toNat)
     case atStart => exact ⟨0, 0, Nat.zero_le _, rfl, by go_num, by omega, rfl⟩
     case round =>
       obtain ⟨j, y, hj, rfl, rfl, hy, hY⟩ := hrel
       have hy' : (y : Int) ≤ 120000000 := by omega
       by_cases hlt2 : j < nw
       · have hj2 : j < ws.length := by rw [hnw.out]; exact hlt2
         have hlt2' : (j : Int) < (nw : Int) := by omega
         have hj0 : (0 : Int) ≤ (j : Int) := by omega
         obtain ⟨g2, off2, rfl, hg2, hcell2⟩ := HM2.out.resolve_left (fun e => by rw [e] at hj2; simp at hj2)
         have b2 := hcell2 j ws[j] (List.getElem?_eq_getElem hj2)
         obtain ⟨q, hq⟩ : ∃ q : ByteArray, (⟨(ws[j]).toArray⟩ : ByteArray) = q := ⟨_, rfl⟩
         have b3 : w.cell? ⟨g2, off2 + j, none⟩ = some (.string q) := by rw [b2, ← hq]
         have hqs : q.size = (ws[j]).length := by rw [← hq]; exact sv_size _
         have hq4 : (ws[j]).length ≤ 400 := may_len (HK.out.2 _ (List.getElem_mem hj2))
         have hq5 : (q.size : Int) ≤ 400 := by omega
         have HQ : Hid (lens (ws.take (j + 1)) = y + q.size) := (by rw [lens_take hj2, ← hY.out, hqs] : lens (ws.take (j + 1)) = y + q.size)
         have HQ2 : Hid (y + q.size ≤ 120000000) := by
           show y + q.size ≤ _
           rw [← HQ.out]
           have h1 := lens_take_le ws (j + 1)
           have h2 := HLe.out
           omega
         clear hcell2 b2 hq hqs hq4
         go_wp2
         refine ⟨⟨j + 1, y + q.size, by omega, by go_num, by go_num, HQ2.out, HQ.out.symm⟩, ?_⟩
         simp [RowKit.intOf]; omega
       · obtain rfl : nw = j := by omega
         have HT : Hid (y = lens ws) := by
           show y = _
           rw [hY.out, List.take_of_length_le (by rw [hnw.out]; exact Nat.le_refl _)]
         have HF : Hid (65536 < (nw : Int) - 1 + (y : Int) ∨ 16777216 < (z : Int) + ((nw : Int) - 1 + (y : Int) + 1) → fits (ls1 ls) = false) := fun h => by
           refine fits_no hk3 ?_
           rw [HST.out, HJ.out]
           have := HJL.out
           rw [← HT.out] at this
           omega
         have HG : Hid ((nw : Int) - 1 + (y : Int) ≤ 65536 → (z : Int) + ((nw : Int) - 1 + (y : Int) + 1) ≤ 16777216 → ∃ k' z' : Nat, k' ≤ n ∧ Value.int .i64 ((k : Int) + 1) = .int .i64 (k' : Nat) ∧ Value.int .i64 ((z : Int) + ((nw : Int) - 1 + (y : Int) + 1)) = .int .i64 (z' : Nat) ∧ z' ≤ 16777216 ∧ Hid (z' = (wrT ((ls1 ls).take k')).length ∧ ∀ j (_ : j < k') (h2 : j < (ls1 ls).length), (jn (ls1 ls)[j]).length ≤ 65536)) := fun h1 h2 => by
           have e1 := HJL.out
           rw [← HT.out] at e1
           refine ⟨k + 1, z + ((jn ws).length + 1), by omega, by simp, ?_, by omega, HST.out.symm, fun j hj hjl => ?_⟩
           · congr 1; omega
           · by_cases e : j = k
             · subst e; rw [HJ.out]; omega
             · exact hI.out.2 j (by omega) hjl
         by_cases g1 : (65536 : Int) < (nw : Int) - 1 + (y : Int)
         · have HN := Lib.hid (HF.out (Or.inl g1))
           go_wp2
           go_ret2
           rw [szR_no HN.out]; exact ⟨rfl, rfl⟩
         · by_cases g2 : (16777216 : Int) < (z : Int) + ((nw : Int) - 1 + (y : Int) + 1)
           · have HN := Lib.hid (HF.out (Or.inr g2))
             go_wp2
             go_ret2
             rw [szR_no HN.out]; exact ⟨rfl, rfl⟩
           · have HX := Lib.hid (HG.out (by omega) (by omega))
             clear HG HF
             go_wp2
             refine ⟨HX.out, ?_⟩
             simp [RowKit.intOf]; omega
   · obtain rfl : k = n := by omega
     have HF : Hid (fits (ls1 ls) = true ∧ z = (wrT (ls1 ls)).length) := by
       have e : (ls1 ls).take k = ls1 ls := List.take_of_length_le (by rw [HLen.out]; exact Nat.le_refl _)
       have h := hI.out
       rw [e] at h
       exact ⟨fits_yes (fun j hj => h.2 j (by rw [← HLen.out]; exact hj) hj) (by rw [← h.1]; exact hz), h.1⟩
     go_wp2
     go_ret2
     rw [szR_yes HF.out.1, ← HF.out.2]
     exact ⟨rfl, rfl⟩
end

/- Package lines: Write. -/
section
set_option maxRecDepth 100000
open Go.RowKit Go.Shelf Go.Lib
theorem wrV_arg {L : List (List Bs)} {k : Nat} (h : k < L.length) (ho : okL L[k] = false) : wrV L = ([], 1) := by
 unfold wrV
 rw [if_neg]
 rw [List.all_eq_true]
 intro h2
 have := h2 _ (List.getElem_mem h)
 rw [ho] at this; cases this
theorem wrV_full {L : List (List Bs)} (h : L.all okL = true) (hf : fits L = false) : wrV L = ([], 3) := by
 unfold wrV; rw [if_pos h, hf]; rfl
theorem wrV_good {L : List (List Bs)} (h : L.all okL = true) (hf : fits L = true) : wrV L = (wrT L, 0) := by
 unfold wrV; rw [if_pos h, if_pos hf]
theorem fits_len {L : List (List Bs)} (h : fits L = true) : (wrT L).length ≤ 16777216 := by
 unfold fits at h; rw [Bool.and_eq_true] at h; simpa using h.2
theorem join_texts {ws : List Bs} {g off c : Nat} {W : World} (hc : ∀ k x, ws[k]? = some x → W.cell? ⟨g, off + k, none⟩ = some (sv x)) (hg : g < W.heap.size) (hn : ws.length ≤ 300000) (hcap : ws.length ≤ c) (hl : (jn ws).length ≤ 1000000000) :
   Calls Tryz.prog 49 #[.slice (some ⟨g, off, none⟩) ws.length c, .string ⟨#[32]⟩] W fun e w' => e = .returned (sv (jn ws)) ∧ Below W.heap.size W w' := by
 have e1 : (ws.map fun x => (⟨x.toArray⟩ : ByteArray)).length = ws.length := List.length_map _
 have e2 : (ws.map fun x => (⟨x.toArray⟩ : ByteArray)).map (·.data.toList) = ws := by
   rw [List.map_map]
   conv => rhs; rw [← List.map_id ws]
   exact List.map_congr_left fun x _ => rfl
 have e3 : (⟨#[32]⟩ : ByteArray).data.toList = [32] := rfl
 have h := Tryz.strings_Join g off c (ws.map fun x => (⟨x.toArray⟩ : ByteArray)) ⟨#[32]⟩ W (fun j x hj => by
   rw [List.getElem?_map] at hj
   cases hw : ws[j]? with
   | none => rw [hw] at hj; cases hj
   | some y =>
     rw [hw] at hj
     obtain rfl : (⟨y.toArray⟩ : ByteArray) = x := by simpa using hj
     exact hc j y hw) hg (by rw [e1]; omega) (by rw [e1]; exact hcap) (by rw [e2, e3]; exact Nat.le_trans hl (by omega))
 rw [e1, e2, e3] at h
 exact h
theorem builder_later {T e B b : Nat} {bs : List Value} {w w' : World} (h : Lib.IsBuilder T e B b bs w) (hb : Below w.heap.size w w') : Lib.IsBuilder T e B b bs w' := by
 have key : ∀ p, Lib.BuilderAt T e B b p bs w → Lib.BuilderAt T e B b p bs w' := by
   rintro p ⟨h1, v, h2, h3, h4⟩
   exact ⟨h1, v, (hb.block b (Array.getElem?_eq_some_iff.1 h2).1).trans h2, own_later h3 hb, h4⟩
 rcases h with h | h
 · exact Or.inl (key _ h)
 · exact Or.inr (key _ h)
set_option maxRecDepth 100000 in
set_option maxHeartbeats 8000000 in
theorem write_any (v : Value) (ls : List Lv) (w : World) (h : Ll w v ls) (hM : Mod ls) : Calls Tryz.prog 26 #[v] w fun e w' => e = .returned (.tuple #[sv (wrV (ls1 ls)).1, .int .i64 ((wrV (ls1 ls)).2 : Nat)]) ∧ Below w.heap.size w w' := by
 have HA := Lib.hid h
 obtain ⟨⟨a, c, rfl, hc1, hc2, hm⟩, hsub⟩ := h
 have HM := Lib.hid hm
 have HU := Lib.hid hsub
 have HMo := Lib.hid hM
 have l0 : (ls.length : Int) ≤ 300000 := by have := hM.1; omega
 clear hsub hm hM
 obtain ⟨n, hn⟩ : ∃ n, Hid (ls.length = n) := ⟨_, Lib.hid rfl⟩
 rw [hn.out] at l0 hc1 HA ⊢
 obtain ⟨L, hL⟩ : ∃ L, Hid (ls1 ls = L) := ⟨_, Lib.hid rfl⟩
 have HLen : Hid (L.length = n) := (by rw [← hL.out, List.length_map, hn.out] : L.length = n)
 have HLk : Hid (∀ k (h : k < ls.length) (h2 : k < L.length), L[k] = ls[k].1) := fun k h h2 => by
   have e := hL.out
   subst e
   rw [List.getElem_map]
 have HSz : Hid (L.all okL = true → ∀ w', w' = w → Calls Tryz.prog 46 #[.slice a n c] w' fun e w'' => e = .returned (szR L) ∧ w'' = w') := fun hok w' e => by
   subst e
   have := sizeOf_any (.slice a n c) ls w' HA.out HMo.out (by rw [hL.out]; exact hok)
   rwa [hL.out] at this
 obtain ⟨R, hR⟩ : ∃ R, Hid (wrV L = R) := ⟨_, Lib.hid rfl⟩
 rw [hL.out, hR.out]
 go_enter Tryz.func26, Tryz.ntmps26
 go_wp2
 go_loop [13] (fun s13 => ∃ k : Nat, k ≤ n ∧ s13 = .int .i64 (k : Nat) ∧ Hid (∀ j (_ : j < k) (h2 : j < L.length), okL L[j] = true)) (fun s13 => n - (RowKit.intOf s13).toNat)
 case atStart => exact ⟨0, Nat.zero_le _, rfl, fun j hj _ => by omega⟩
 case round =>
   obtain ⟨k, hk, rfl, hI⟩ := hrel
   by_cases hlt : k < n
   · have hk2 : k < ls.length := by rw [hn.out]; exact hlt
     have hk3 : k < L.length := by rw [HLen.out]; exact hlt
     have hlt' : (k : Int) < (n : Int) := by omega
     have hk0 : (0 : Int) ≤ (k : Int) := by omega
     obtain ⟨g, off, rfl, hg, hcell⟩ := HM.out.resolve_left (fun e => by rw [e] at hk2; simp at hk2)
     have b1 := hcell k ls[k] (List.getElem?_eq_getElem hk2)
     obtain ⟨⟨ws, wv⟩, hp⟩ : ∃ p, Hid (ls[k] = p) := ⟨_, Lib.hid rfl⟩
     rw [hp.out] at b1
     have hmem : (ws, wv) ∈ ls := by rw [← hp.out]; exact List.getElem_mem hk2
     have hS : Sl w wv ws := HU.out _ hmem
     have HJ : Hid (L[k] = ws) := (by rw [HLk.out k hk2 hk3, hp.out] : L[k] = ws)
     obtain ⟨m, hm⟩ : ∃ m, Hid (okL ws = m) := ⟨_, Lib.hid rfl⟩
     have HY : Hid (Calls Tryz.prog 45 #[wv] w fun e w' => e = .returned (.bool m) ∧ w' = w) := by
       have := allMayBe_any wv ws w hS
       rwa [hm.out] at this
     obtain ⟨⟨a2, c2, rfl, hd1, hd2, hm2⟩, hlen2⟩ := hS
     clear hcell hmem hm2 hlen2 HA
     cases m
     · have HN : Hid (R = ([], 1)) := by
         show R = _
         rw [← hR.out]; exact wrV_arg hk3 (by rw [HJ.out]; exact hm.out)
       go_wp2_with (go_at_call 45; refine HY.out.mono ?_; rintro e w' ⟨rfl, rfl⟩)
       go_ret2
       rw [HN.out]; exact ⟨rfl, Below.refl _ _⟩
     · go_wp2_with (go_at_call 45; refine HY.out.mono ?_; rintro e w' ⟨rfl, rfl⟩)
       refine ⟨⟨k + 1, by omega, by go_num, fun j hj hjl => ?_⟩, ?_⟩
       · by_cases e : j = k
         · subst e; rw [HJ.out]; exact hm.out
         · exact hI.out j (by omega) hjl
       · simp [RowKit.intOf]; omega
   · obtain rfl : n = k := by omega
     have hok : L.all okL = true := by
       rw [List.all_eq_true]
       intro x hx
       obtain ⟨j, hj, rfl⟩ := List.mem_iff_getElem.1 hx
       exact hI.out j (by rw [← HLen.out]; exact hj) hj
     have HOK := Lib.hid hok
     have HZ := Lib.hid (HSz.out hok)
     clear hok HSz HA hI
     obtain ⟨f, hf⟩ : ∃ f, Hid (fits L = f) := ⟨_, Lib.hid rfl⟩
     cases f
     · rw [szR_no hf.out] at HZ
       have HN : Hid (R = ([], 3)) := by
         show R = _
         rw [← hR.out]; exact wrV_full HOK.out hf.out
       go_wp2_with (go_at_call 46; refine (HZ.out _ rfl).mono ?_; rintro e w' ⟨rfl, rfl⟩)
       go_ret2
       rw [HN.out]; exact ⟨rfl, Below.refl _ _⟩
     · rw [szR_yes hf.out] at HZ
       have HN : Hid (R = (wrT L, 0)) := by
         show R = _
         rw [← hR.out]; exact wrV_good HOK.out hf.out
       have HFl := Lib.hid (fits_len hf.out)
       obtain ⟨z, hz⟩ : ∃ z, Hid ((wrT L).length = z) := ⟨_, Lib.hid rfl⟩
       rw [hz.out] at HZ HFl
       have hzl : (z : Int) ≤ 16777216 := by have := HFl.out; omega
       go_wp2_with (first
         | (go_at_call 46; refine (HZ.out _ rfl).mono ?_; rintro e w' ⟨rfl, rfl⟩)
         | (go_at_call 47; refine (Tryz.Builder_Grow_fresh w'.heap.size w'.heap.size z _ (Nat.le_refl _) (World.alloc_heap_new _ _) (by simp) (by have := HFl.out; omega)).mono ?_; rintro e W1 ⟨rfl, hB1, hb1⟩; have HB1 := Lib.hid (And.intro (Or.inr hB1 : Lib.IsBuilder 112 5 w'.heap.size w'.heap.size (Lib.byteCells (wrT (L.take 0))) W1) (((Below.refl _ w').alloc (Nat.le_refl _) _).trans hb1)); clear hB1 hb1))
       go_loopw [32] (fun s32 wr => ∃ k : Nat, k ≤ n ∧ s32 = .int .i64 (k : Nat) ∧ Hid (Lib.IsBuilder 112 5 w'.heap.size w'.heap.size (Lib.byteCells (wrT (L.take k))) wr ∧ Below w'.heap.size w' wr)) (fun s32 _ => n - (RowKit.intOf s32).toNat)
       case atStart => exact ⟨0, Nat.zero_le _, rfl, HB1⟩
       case round =>
         obtain ⟨k, hk, rfl, hI⟩ := hrel
         by_cases hlt : k < n
         · have hk2 : k < ls.length := by rw [hn.out]; exact hlt
           have hk3 : k < L.length := by rw [HLen.out]; exact hlt
           have hlt' : (k : Int) < (n : Int) := by omega
           have hk0 : (0 : Int) ≤ (k : Int) := by omega
           obtain ⟨g, off, rfl, hg, hcell⟩ := HM.out.resolve_left (fun e => by rw [e] at hk2; simp at hk2)
           have b1 := cell_later hI.out.2 hg (hcell k ls[k] (List.getElem?_eq_getElem hk2))
           obtain ⟨⟨ws, wv⟩, hp⟩ : ∃ p, Hid (ls[k] = p) := ⟨_, Lib.hid rfl⟩
           rw [hp.out] at b1
           have hmem : (ws, wv) ∈ ls := by rw [← hp.out]; exact List.getElem_mem hk2
           have hS : Sl wr wv ws := (HU.out _ hmem).later hI.out.2
           have HJ : Hid (L[k] = ws) := (by rw [HLk.out k hk2 hk3, hp.out] : L[k] = ws)
           have hwn : ws ≠ [] := by
             have := HOK.out
             rw [List.all_eq_true] at this
             have := this _ (List.getElem_mem hk3)
             rw [HJ.out] at this
             exact (ok_may this).1
           have hwl : ws.length ≤ 300000 := HMo.out.2 _ hmem
           have HT : Hid (wrT (L.take (k + 1)) = wrT (L.take k) ++ (jn ws ++ [10])) := by
             show _ = _
             rw [wrT_take hk3, HJ.out]
           have HLl : Hid ((wrT (L.take k)).length + ((jn ws).length + 1) ≤ 16777216) := by
             show _ ≤ _
             have h1 := wrT_take_le L (k + 1)
             rw [HT.out, List.length_append, List.length_append] at h1
             have h2 := HFl.out
             rw [hz.out] at h1
             have : ([10] : Bs).length = 1 := rfl
             omega
           obtain ⟨⟨a2, c2, rfl, hd1, hd2, hm2⟩, hlen2⟩ := hS
           obtain ⟨g2, off2, rfl, hg2, hcell2⟩ := hm2.resolve_left hwn
           obtain ⟨q, hq⟩ : ∃ q : ByteArray, (⟨(jn ws).toArray⟩ : ByteArray) = q := ⟨_, rfl⟩
           have HJn : Hid (Calls Tryz.prog 49 #[.slice (some ⟨g2, off2, none⟩) ws.length c2, .string ⟨#[32]⟩] wr fun e w' => e = .returned (.string q) ∧ Below wr.heap.size wr w') := by
             have := join_texts (W := wr) hcell2 hg2 hwl hd1 (by have := HLl.out; omega)
             unfold sv at this
             rwa [hq] at this
           have HQ : Hid (q.size = (jn ws).length ∧ strCells q = Lib.byteCells (jn ws)) := ⟨by rw [← hq]; exact sv_size _, by rw [← hq]; rfl⟩
           have hwl' : (ws.length : Int) ≤ 300000 := by omega
           clear hcell hmem hlen2 hcell2 hm2 hq
           go_wp2_with (first
             | (go_at_call 49; refine HJn.out.mono ?_; rintro e W2 ⟨rfl, hb2⟩; have HB2 := Lib.hid hb2; clear hb2)
             | (go_at_call 48; refine (Tryz.Builder_WriteString w'.heap.size w'.heap.size (Lib.byteCells (wrT (L.take k))) q W2 (builder_later hI.out.1 HB2.out) (by rw [Lib.byteCells_length, HQ.out.1]; have := HLl.out; omega) (Nat.le_trans hI.out.2.size HB2.out.size)).mono ?_; rintro e W3 ⟨rfl, hB3, hb3⟩; have HB3 := Lib.hid (And.intro hB3 ((hI.out.2.trans (HB2.out.mono hI.out.2.size)).trans hb3)); clear hB3 hb3)
             | (go_at_call 50; refine (Tryz.Builder_WriteByte w'.heap.size w'.heap.size (Lib.byteCells (wrT (L.take k)) ++ strCells q) 10 W3 (Or.inr HB3.out.1) (by rw [List.length_append, Lib.byteCells_length, strCells_length, HQ.out.1]; have := HLl.out; omega) HB3.out.2.size).mono ?_; rintro e W4 ⟨rfl, hB4, hb4⟩; have HB4 := Lib.hid (And.intro hB4 (HB3.out.2.trans hb4)); clear hB4 hb4))
           refine ⟨⟨k + 1, by omega, by go_num, ?_, HB4.out.2⟩, ?_⟩
           · rw [HT.out, byteCells_append, byteCells_append, ← HQ.out.2, ← List.append_assoc]
             exact Or.inr HB4.out.1
           · simp [RowKit.intOf]; omega
         · obtain rfl : n = k := by omega
           have HTk : Hid (L.take n = L) := List.take_of_length_le (by rw [HLen.out]; exact Nat.le_refl _)
           rw [HTk.out] at hI
           obtain ⟨q, hq⟩ : ∃ q : ByteArray, (⟨(wrT L).toArray⟩ : ByteArray) = q := ⟨_, rfl⟩
           have HSt : Hid (Calls Tryz.prog 51 #[.pointer (some ⟨w'.heap.size, 0, none⟩)] wr fun e w'' => e = .returned (.string q) ∧ Below w'.heap.size wr w'') := by
             have := Tryz.Builder_String_any w'.heap.size w'.heap.size (wrT L) wr hI.out.1 hI.out.2.size
             rwa [hq] at this
           have HQ := Lib.hid hq
           clear hq
           go_wp2_with (go_at_call 51; refine HSt.out.mono ?_; rintro e W5 ⟨rfl, hb5⟩)
           go_ret2
           rw [HN.out]
           show Ending.returned (.tuple #[.string q, .int .i64 0]) = .returned (.tuple #[.string ⟨(wrT L).toArray⟩, .int .i64 0]) ∧ _
           rw [HQ.out]
           exact ⟨rfl, hI.out.2.trans hb5⟩
end

/- Lists of lists of texts that are handed in, opened. -/
section
set_option maxRecDepth 100000
open Go.ChangeShapes Go.WideShapes Go.ChangeAt Go.RowKit Go.Deep Go.Lib
end

/- Lists of lists of texts that are handed in, opened, with their bounds. -/
section
set_option maxRecDepth 100000
open Go.ChangeShapes Go.WideShapes Go.ChangeAt Go.RowKit Go.Deep Go.Lib
end
end Go.Proofs.YtkbhmglmbolbiaaGreatDoor
