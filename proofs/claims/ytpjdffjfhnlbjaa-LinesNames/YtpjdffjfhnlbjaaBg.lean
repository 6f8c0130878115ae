/- Package lines: Read, the walk. -/
import Derived.Test.YtpjdffjfhnlbjaaBf
namespace Go.Proofs.Ytpjdffjfhnlbjaa
open Go.RowKit Go.Shelf Go.Lib
attribute [local go_sem] run_store_str

theorem Sr.form {W : World} {B : Nat} {v : Value} {ws : List Bs} (h : Sr W B v ws) : ∃ a c, v = .slice a ws.length c ∧ ws.length ≤ c ∧ c ≤ 9223372036854775807 := by
  rcases h.2 with ⟨h1, h2⟩ | ⟨g, cap, cur, h1, _, _, h3, h4, _⟩
  · exact ⟨none, 0, by rw [h1, h2], by omega, by omega⟩
  · exact ⟨_, _, h1, h3, by unfold maxLen at h4; omega⟩

structure RW (w wr : World) (m : Bool) (s : ByteArray) (k : Nat) (v : Value) (ps : List Lt) : Prop where
  b0 : Boxed wr w.heap.size 3 (.int .i64 (k : Nat))
  b1 : Boxed wr (w.heap.size + 1) 9 (.string s)
  b2 : Boxed wr (w.heap.size + 1 + 1) 4 (.bool m)
  row : Lr 33 wr (w.heap.size + 3) v ps
  bel : Below w.heap.size w wr
  siz : w.heap.size + 3 ≤ wr.heap.size
theorem RW.later {w wr W' : World} {m : Bool} {s : ByteArray} {k : Nat} {v : Value} {ps : List Lt} (h : RW w wr m s k v ps) (hb : Below wr.heap.size wr W') : RW w W' m s k v ps :=
  ⟨boxed_belowK h.b0 hb h.b0.lt, boxed_belowK h.b1 hb h.b1.lt, boxed_belowK h.b2 hb h.b2.lt, h.row.later hb, h.bel.trans (hb.mono h.bel.size), Nat.le_trans h.siz hb.size⟩
theorem RW.left {w wr : World} {m : Bool} {s : ByteArray} {k : Nat} {v : Value} {ps : List Lt} (h : RW w wr m s k v ps) : leftR w.heap.size wr = if m then s.size + 1 else 0 := by
  unfold leftR
  rw [h.b1.cell, h.b2.cell]
  cases m <;> rfl
theorem RW.next {w wr : World} {m m' : Bool} {s s' : ByteArray} {k : Nat} {v : Value} {ps : List Lt} (h : RW w wr m s k v ps) {w0 : World} (hw0 : w0 = wr ∨ w0 = wr.drew) :
    RW w (((w0.setCell ⟨w.heap.size + 1, 0, none⟩ (.string s')).setCell ⟨w.heap.size + 1 + 1, 0, none⟩ (.bool m')).setCell ⟨w.heap.size, 0, none⟩ (.int .i64 ((k + 1 : Nat) : Int))) m' s' (k + 1) v ps := by
  have h : RW w w0 m s k v ps := by
    rcases hw0 with rfl | rfl
    · exact h
    · exact h.later (Below.refl _ wr).drew
  refine ⟨((h.b0.other (by omega) _).other (by omega) _).set _, ((h.b1.set _).other (by omega) _).other (by omega) _, ((h.b2.other (by omega) _).set _).other (by omega) _, ((h.row.set (by show w.heap.size + 1 < _; omega) _).set (by show w.heap.size + 1 + 1 < _; omega) _).set (by show w.heap.size < _; omega) _, ?_, ?_⟩
  · exact ((h.bel.setCell (p := ⟨w.heap.size + 1, 0, none⟩) (by show w.heap.size ≤ w.heap.size + 1; omega) _).setCell (p := ⟨w.heap.size + 1 + 1, 0, none⟩) (by show w.heap.size ≤ w.heap.size + 1 + 1; omega) _).setCell (p := ⟨w.heap.size, 0, none⟩) (Nat.le_refl _) _
  · have := h.siz; simpa [World.setCell] using this
theorem RW.grew {w wr W2 : World} {m : Bool} {s : ByteArray} {k : Nat} {v v' : Value} {ps : List Lt} {p : Lt} {tmp : Obj} (h : RW w wr m s k v ps) (hp : Sr wr (w.heap.size + 3) p.2.2 p.2.1) (hd : ∀ q ∈ ps, q.2.2.ownBlock ≠ p.2.2.ownBlock) (hown : W2.ownsRow (w.heap.size + 3) 33 2 v' (ps.length + 1) (lcs ps ++ [.int .i64 (p.1 : Nat), p.2.2])) (hg : (wr.alloc tmp).grownBy W2 v.ownBlock) : RW w W2 m s k v' (ps ++ [p]) := by
  have ap : ∀ k, v.ownBlock = some k → w.heap.size + 3 ≤ k := fun k hk => (World.ownsRow.lt h.row.own k hk).1
  have hs2 := hg.size
  simp only [World.size_alloc] at hs2
  have hz := h.siz
  refine ⟨(h.b0.alloc tmp).kept hg (fun e => by have := ap _ e.symm; omega), (h.b1.alloc tmp).kept hg (fun e => by have := ap _ e.symm; omega), (h.b2.alloc tmp).kept hg (fun e => by have := ap _ e.symm; omega), h.row.grew (by decide) hp hd hown hg, ?_, by omega⟩
  exact h.bel.trans (((Below.refl _ wr).alloc (by omega) _).grown hg (by simp; omega) (fun k hk => by have := ap k hk; omega))
theorem rw_start (w : World) (s : ByteArray) : RW w (((w.alloc (.cells #[.int .i64 0] 3)).alloc (.cells #[.string s] 9)).alloc (.cells #[.bool true] 4)) true s 0 (.slice none 0 0) [] := by
  have b3 := Boxed.new w 3 (.int .i64 0)
  have b4 := Boxed.new (w.alloc (.cells #[.int .i64 0] 3)) 9 (.string s)
  have b5 := Boxed.new ((w.alloc (.cells #[.int .i64 0] 3)).alloc (.cells #[.string s] 9)) 4 (.bool true)
  simp only [World.size_alloc] at b4 b5
  exact ⟨(b3.alloc _).alloc _, b4.alloc _, b5, Lr.nil _ _ _, (((Below.refl _ w).alloc (Nat.le_refl _) _).alloc (by simp) _).alloc (by simp; omega) _, by simp⟩

set_option maxRecDepth 100000 in
set_option maxHeartbeats 4000000 in
theorem read_long (s : ByteArray) (t : Bs) (w : World) (ht : s.data.toList = t) (hl : t.length ≤ 9223372036854775807) (hlong : 16777216 < t.length) :
    Calls Try.prog 9 #[.string s] w fun e w' => ReadR 33 w w' t e := by
  have hsz : s.size = t.length := by rw [Lib.size_eq, ht]
  have h1 : (16777216 : Int) < (s.size : Int) := by omega
  have h2 : (s.size : Int) ≤ 9223372036854775807 := by omega
  have HE := Lib.hid (rdV_long hlong)
  clear hsz ht hl hlong
  go_enter Try.func9, Try.ntmps9
  go_wp2
  go_ret3
  exact ⟨_, [], by rw [HE.out]; rfl, Lr.nil _ _ _, by rw [HE.out]; rfl, Below.refl _ _⟩

set_option maxRecDepth 100000 in
set_option maxHeartbeats 8000000 in
theorem read_short (s0 : ByteArray) (t : Bs) (w : World) (ht : s0.data.toList = t) (hl : t.length ≤ 16777216) :
    Calls Try.prog 9 #[.string s0] w fun e w' => ReadR 33 w w' t e := by
  have hsz : s0.size = t.length := by rw [Lib.size_eq, ht]
  have h1 : ¬ ((16777216 : Int) < (s0.size : Int)) := by omega
  have h2 : (s0.size : Int) ≤ 16777216 := by omega
  have HT := Lib.hid (And.intro ht hl)
  obtain ⟨i0, hi0, hz0, hz1, hz2⟩ := info_parts (show (Try.prog.info? 33).map (fun i => (i.zero, i.size, i.bytes)) = some (some (.agg #[.int .i64 0, .slice none 0 0]), 2, 32) by kernel_rfl)
  clear hsz ht hl
  go_enter Try.func9, Try.ntmps9
  go_wp2_with fail
  have hS := Lib.hid (rw_start w s0)
  obtain ⟨W0, hW0⟩ : ∃ W0, ((w.alloc (.cells #[.int .i64 0] 3)).alloc (.cells #[.string s0] 9)).alloc (.cells #[.bool true] 4) = W0 := ⟨_, rfl⟩
  rw [hW0] at hS ⊢
  clear hW0
  go_loopw [9] (fun s9 wr => ∃ (m : Bool) (s : ByteArray) (ps : List Lt) (done : List Bs), Hid (RW w wr m s done.length s9 ps ∧ RI t m s.data.toList done ∧ tell ps = good 1 done)) (fun _ wr => leftR w.heap.size wr)
  case atStart => exact ⟨true, s0, [], [], hS.out, ⟨by rw [HT.out.1]; rfl, rfl, by rw [HT.out.1]; exact Nat.le_refl _⟩, rfl⟩
  case round =>
    obtain ⟨m, s, ps, done, hI⟩ := hrel
    have kb2 := hI.out.1.b2.cell
    cases m
    · have HF : Hid (rdV t = (good 1 done, 0, 0)) := by
        show rdV t = _
        have h := hI.out.2.1
        have e : lns t = done := by rw [h.all]; simp
        rw [rdV_good HT.out.2 (by rw [e]; exact h.none), e]
      go_wp2
      go_ret3
      exact ⟨_, ps, by rw [HF.out]; rfl, hI.out.1.row.base (by omega), by rw [HF.out]; exact hI.out.2.2, hI.out.1.bel⟩
    · obtain ⟨r, hr⟩ : ∃ r, Hid (s.data.toList = r) := ⟨_, Lib.hid rfl⟩
      obtain ⟨ln, hln⟩ : ∃ ln, Hid (cutT 10 r = ln) := ⟨_, Lib.hid rfl⟩
      have HRI : Hid (RI t true r done) := by show RI t true r done; rw [← hr.out]; exact hI.out.2.1
      have hrl : r.length ≤ 16777216 := Nat.le_trans HRI.out.len HT.out.2
      have hdl : done.length ≤ 16777217 := by have := HRI.out.dlen; have := HT.out.2; omega
      have hlnl : ln.length ≤ 16777216 := by rw [← hln.out]; exact Nat.le_trans (cutT_len _ _) hrl
      obtain ⟨q, hq⟩ : ∃ q : ByteArray, (⟨ln.toArray⟩ : ByteArray) = q := ⟨_, rfl⟩
      have HN : Hid (∀ wr, RW w wr true s done.length u9 ps → Calls Try.prog 15 #[.pointer (some ⟨w.heap.size + 1, 0, none⟩), .pointer (some ⟨w.heap.size + 1 + 1, 0, none⟩), .pointer (some ⟨w.heap.size, 0, none⟩)] wr fun e w' => e = .returned (.string q) ∧ RW w w' (cutF 10 r) ⟨(cutD 10 r).toArray⟩ (done.length + 1) u9 ps) := fun wr h => by
        refine (next_any w.heap.size s r hr.out (by omega) true done.length (by omega) wr h.b0 h.b1 h.b2).mono ?_
        rintro e w' ⟨rfl, w0, hw0, rfl⟩
        exact ⟨by rw [hln.out, ← hq], h.next hw0⟩
      have HQ : Hid (q.data.toList = ln) := (by rw [← hq] : q.data.toList = ln)
      have HWo : Hid (∀ W, Calls Try.prog 17 #[.string q] W fun e w' => WordsR W w' ln e) := fun W => wordsOf_any q ln W HQ.out (by omega)
      have LN : Hid (done.length ≤ 16777217 ∧ ps.length ≤ 16777217) := by
        refine ⟨hdl, ?_⟩
        have e := congrArg List.length hI.out.2.2
        have := good_len done 1
        rw [← e] at this
        simp [tell] at this
        omega
      have hdl' : (done.length : Int) ≤ 16777217 := by omega
      clear hq hlnl hrl
      have hcase : lineE ln = 0 ∨ ∃ ee : Nat, (ee = 3 ∨ ee = 4) ∧ lineE ln = ee := by
        rcases lineE_cases ln with e | e | e
        · exact Or.inl e
        · exact Or.inr ⟨3, Or.inl rfl, e⟩
        · exact Or.inr ⟨4, Or.inr rfl, e⟩
      rcases hcase with hee | ⟨ee, h34, hee⟩
      · have HST : Hid (RI t (cutF 10 r) (cutD 10 r) (done ++ [ln])) := by
          have := HRI.out.step (by rw [hln.out]; exact hee)
          rwa [hln.out] at this
        have HLT : Hid ((if cutF 10 r then (⟨(cutD 10 r).toArray⟩ : ByteArray).size + 1 else 0) < s.size + 1) := by
          show (if cutF 10 r then (⟨(cutD 10 r).toArray⟩ : ByteArray).size + 1 else 0) < s.size + 1
          have hz : s.size = r.length := by rw [Lib.size_eq, hr.out]
          split
          · rename_i h
            rw [sv_size, hz]
            have hm : (10 : UInt8) ∈ r := by simpa [cutF] using h
            have := congrArg List.length (cut_some hm)
            rw [List.length_append, List.length_cons] at this
            omega
          · omega
        have HW2 : Hid (∀ W, Calls Try.prog 17 #[.string q] W fun e w' => ∃ a c, e = .returned (.tuple #[.slice a (lineW ln).length c, .int .i64 0]) ∧ Sr w' W.heap.size (.slice a (lineW ln).length c) (lineW ln) ∧ Below W.heap.size W w') := fun W => by
          refine (HWo.out W).mono ?_
          rintro e w' ⟨⟨v, rfl, h1, h2⟩, hb⟩
          have hS := h1 hee
          obtain ⟨a, c, rfl, _, _⟩ := hS.form
          exact ⟨a, c, by rw [hee]; rfl, hS, hb⟩
        obtain ⟨ws, hws⟩ : ∃ ws, Hid (lineW ln = ws) := ⟨_, Lib.hid rfl⟩
        rw [hws.out] at HW2
        have HG : Hid (good 1 (done ++ [ln]) = good 1 done ++ (if ws.isEmpty then [] else [(done.length + 1, ws)])) := by
          show good 1 (done ++ [ln]) = _
          rw [good_step, hws.out]
        have hwl : ws.length ≤ 16777217 := by
          rw [← hws.out]
          have h1 := toks_len (ahd ln)
          have h2 : (ahd ln).length ≤ ln.length := cutT_len _ _
          have h3 : ln.length ≤ 16777216 := by rw [← hln.out]; exact Nat.le_trans (cutT_len _ _) (Nat.le_trans HRI.out.len HT.out.2)
          show (toks (ahd ln)).length ≤ _
          omega
        have HI2 : Hid (∀ W2, RW w W2 (cutF 10 r) ⟨(cutD 10 r).toArray⟩ (done.length + 1) u9 ps → ws = [] → ∃ (m : Bool) (s : ByteArray) (ps' : List Lt) (done' : List Bs), Hid (RW w W2 m s done'.length u9 ps' ∧ RI t m s.data.toList done' ∧ tell ps' = good 1 done')) := fun W2 h he => by
          refine ⟨cutF 10 r, ⟨(cutD 10 r).toArray⟩, ps, done ++ [ln], ?_, HST.out, ?_⟩
          · rw [List.length_append]; exact h
          · rw [HG.out, he]; simp [hI.out.2.2]
        have HI3 : Hid (∀ W4 v' wv, RW w W4 (cutF 10 r) ⟨(cutD 10 r).toArray⟩ (done.length + 1) v' (ps ++ [(done.length + 1, ws, wv)]) → ws ≠ [] → ∃ (m : Bool) (s : ByteArray) (ps' : List Lt) (done' : List Bs), Hid (RW w W4 m s done'.length v' ps' ∧ RI t m s.data.toList done' ∧ tell ps' = good 1 done')) := fun W4 v' wv h he => by
          refine ⟨cutF 10 r, ⟨(cutD 10 r).toArray⟩, ps ++ [(done.length + 1, ws, wv)], done ++ [ln], ?_, HST.out, ?_⟩
          · rw [List.length_append]; exact h
          · rw [HG.out, ← hI.out.2.2]
            cases ws with
            | nil => exact absurd rfl he
            | cons x r => simp [tell]
        have HL := Lib.hid hI.out.1.left
        clear hee HWo
        by_cases hw0 : ws = []
        · have hwz : (ws.length : Int) = 0 := by rw [hw0]; rfl
          have hwn : ws.length = 0 := by rw [hw0]; rfl
          rw [hwn] at HW2
          have HW0 := Lib.hid hw0
          clear hw0 hwz hwn hwl
          go_wp2_with (first
            | (go_at_call 15; refine (HN.out _ hI.out.1).mono ?_; rintro e W1 ⟨rfl, hR1⟩; have HR1 := Lib.hid hR1; have kn := hR1.b0.cell; clear hR1)
            | (go_at_call 17; refine (HW2.out _).mono ?_; rintro e W2 ⟨wa, wc, rfl, hS2, hb2⟩; have HR2 := Lib.hid (HR1.out.later hb2); clear hS2 hb2))
          go_roundw
          case rel => exact HI2.out _ HR2.out HW0.out
          case measure => rw [HR2.out.left, HL.out]; exact HLT.out
        · have hwz : (0 : Int) < (ws.length : Int) := by
            have := List.length_pos_iff.2 hw0
            omega
          have hwl' : (ws.length : Int) ≤ 16777217 := by omega
          have HW0 := Lib.hid hw0
          clear hw0 hwl
          go_wp2_with (first
            | (go_at_call 15; refine (HN.out _ hI.out.1).mono ?_; rintro e W1 ⟨rfl, hR1⟩; have HR1 := Lib.hid hR1; have kn := hR1.b0.cell; clear hR1)
            | (go_at_call 17; refine (HW2.out _).mono ?_; rintro e W2 ⟨wa, wc, rfl, hS2, hb2⟩; have HR2 := Lib.hid (HR1.out.later hb2); have HS2 := Lib.hid (hS2.base (show w.heap.size + 3 ≤ W1.heap.size from HR1.out.siz)); have HFr := Lib.hid (HR1.out.row.fresh hS2 (Nat.le_refl _) HW0.out); have kn2 := HR2.out.b0.cell; clear hS2 hb2)
            | (at_builtin; refine wpList_append_own _ rfl _ _ 23 rfl (w.heap.size + 3) 33 i0 (.agg #[.int .i64 0, .slice none 0 0]) 2 32 Try.underlying23 hi0 hz0 hz1 hz2 rfl (by decide) u9 ps.length (lcs ps) rfl (World.ownsRow.alloc HR2.out.row.own _) ⟨W2.heap.size, 0, none⟩ 1 1 [.int .i64 ((done.length + 1 : Nat) : Int), .slice wa ws.length wc] rfl rfl (cell_two_new _ _ _ _) (by simp [Value.oneCell']) (by unfold maxLen; have := LN.out; omega) (by have := LN.out; omega) (by have := HR2.out.siz; simp; omega) ?_; intro v' W4 hown hgrow _; have HR4 := Lib.hid (HR2.out.grew (p := (done.length + 1, ws, .slice wa ws.length wc)) HS2.out HFr.out hown hgrow); clear hown hgrow))
          go_roundw
          case rel => exact HI3.out _ _ _ HR4.out HW0.out
          case measure => rw [HR4.out.left, HL.out]; exact HLT.out
      · have HE : Hid (rdV t = ([], done.length + 1, ee)) := by
          show rdV t = _
          have := HRI.out.bad (by rw [hln.out, hee]; omega)
          rw [hln.out, hee, Nat.add_comm] at this
          exact rdV_bad HT.out.2 this
        have HW2 : Hid (∀ W, Calls Try.prog 17 #[.string q] W fun e w' => e = .returned (.tuple #[.slice none 0 0, .int .i64 (ee : Nat)]) ∧ Below W.heap.size W w') := fun W => by
          refine (HWo.out W).mono ?_
          rintro e w' ⟨⟨v, rfl, h1, h2⟩, hb⟩
          rw [h2 (by omega), hee]
          exact ⟨rfl, hb⟩
        have hee2 : ((ee : Int) != 0) = true := by rcases h34 with rfl | rfl <;> rfl
        have hee3 : ¬ ((ee : Int) = 0) := by omega
        clear hee HWo
        rcases h34 with rfl | rfl
        all_goals
          go_wp2_with (first
            | (go_at_call 15; refine (HN.out _ hI.out.1).mono ?_; rintro e W1 ⟨rfl, hR1⟩; have HR1 := Lib.hid hR1; have kn := hR1.b0.cell; clear hR1)
            | (go_at_call 17; refine (HW2.out _).mono ?_; rintro e W2 ⟨rfl, hb2⟩; have HR2 := Lib.hid (HR1.out.later hb2); have kn2 := HR2.out.b0.cell; clear hb2))
          go_region
          go_wp2
          go_ret3
          exact ⟨_, [], by rw [HE.out]; rfl, Lr.nil _ _ _, by rw [HE.out]; rfl, HR2.out.bel.drew⟩

theorem read_any (s : ByteArray) (t : Bs) (w : World) (ht : s.data.toList = t) (hl : t.length ≤ 9223372036854775807) :
    Calls Try.prog 9 #[.string s] w fun e w' => ReadR 33 w w' t e := by
  by_cases h : 16777216 < t.length
  · exact read_long s t w ht hl h
  · exact read_short s t w ht (by omega)
end Go.Proofs.Ytpjdffjfhnlbjaa
