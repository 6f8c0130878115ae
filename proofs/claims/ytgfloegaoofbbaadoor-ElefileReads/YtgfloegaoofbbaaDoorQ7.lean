/- Own texts, put together: Be Bf Bg Bh Bi Bj Bk Br Bl Bm Bp Bpw. -/
import Derived.Test.YtgfloegaoofbbaaDoorQ4
import Derived.Maps.AppendAt
import Derived.Deep.QuietTactic
import Derived.BigQuiet
import Derived.Lib.Join
import Derived.ProofKit
import Derived.OpenShut
import Derived.Laws.Cover2
import Derived.Lib.ItoaMem
import Derived.ChangeOld
import Derived.ChangeMaps5
import Derived.Below
import Derived.Carry
import Derived.Deep.Strs
import Derived.Deep.Slices
import Derived.SizedLaws
namespace Go.Proofs.YtgfloegaoofbbaaDoor
/- Package lines: wordsOf. -/
section
set_option maxRecDepth 100000
open Go.RowKit Go.Shelf Go.Lib
attribute [local go_sem] Oper.semAt_some
theorem own_later {w w' : World} {base e size n : Nat} {v : Value} {xs : List Value} (h : w.ownsRow base e size v n xs) (hb : Below w.heap.size w w') : w'.ownsRow base e size v n xs := by
 obtain ⟨hl, h⟩ := h
 refine ⟨hl, ?_⟩
 rcases h with h | ⟨g, cap, cur, e1, h1, h2, h3⟩
 · exact Or.inl h
 · refine Or.inr ⟨g, cap, cur, e1, h1, ?_, h3⟩
   have hg : g < w.heap.size := by
     rcases Nat.lt_or_ge g w.heap.size with e | e
     · exact e
     · rw [Array.getElem?_eq_none e] at h2; cases h2
   rw [hb.block g hg]; exact h2
theorem own_base {w : World} {base base' e size n : Nat} {v : Value} {xs : List Value} (h : w.ownsRow base e size v n xs) (hb : base' ≤ base) : w.ownsRow base' e size v n xs := by
 obtain ⟨hl, h⟩ := h
 refine ⟨hl, ?_⟩
 rcases h with h | ⟨g, cap, cur, e1, h1, h3⟩
 · exact Or.inl h
 · exact Or.inr ⟨g, cap, cur, e1, by omega, h3⟩
theorem own_setL {w : World} {base e size n : Nat} {v : Value} {xs : List Value} (h : w.ownsRow base e size v n xs) {a : Addr} (ha : a.block < base) (x : Value) : (w.setCell a x).ownsRow base e size v n xs := by
 obtain ⟨hl, h⟩ := h
 refine ⟨hl, ?_⟩
 rcases h with h | ⟨g, cap, cur, e1, h1, h2, h3⟩
 · exact Or.inl h
 · refine Or.inr ⟨g, cap, cur, e1, h1, ?_, h3⟩
   rw [Below.heap_setCell _ _ _ _ (by omega)]; exact h2
abbrev svs (ws : List Bs) : List Value := ws.map sv
def Sr (W : World) (B : Nat) (v : Value) (ws : List Bs) : Prop := W.ownsRow B 9 1 v ws.length (svs ws)
theorem Sr.later {W W' : World} {B : Nat} {v : Value} {ws : List Bs} (h : Sr W B v ws) (hb : Below W.heap.size W W') : Sr W' B v ws := own_later h hb
theorem Sr.base {W : World} {B B' : Nat} {v : Value} {ws : List Bs} (h : Sr W B v ws) (hb : B' ≤ B) : Sr W B' v ws := own_base h hb
structure Wo (w W : World) (v : Value) (ws : List Bs) : Prop where
 b2 : Boxed W w.heap.size 44 (.slice none 0 0)
 b3 : Boxed W (w.heap.size + 1) 25 (.int .i64 0)
 b4 : Boxed W (w.heap.size + 1 + 1) 44 v
 row : Sr W (w.heap.size + 4) v ws
 bel : Below w.heap.size w W
 siz : w.heap.size + 4 ≤ W.heap.size
theorem boxed_belowB {W W' : World} {B b : Nat} {t : TypeId} {v : Value} (h : Boxed W b t v) (hb : Below B W W') (hl : b < B) : Boxed W' b t v := (hb.block b hl).trans h
theorem keeps_below {W W' : World} (h : Below W.heap.size W W') : KeepsOthers W W' := ⟨h.size, fun k _ hk _ => (h.block k (Array.getElem?_eq_some_iff.1 hk).1).trans hk⟩
theorem Wo.later {w W W' : World} {v : Value} {ws : List Bs} (h : Wo w W v ws) (hb : Below W.heap.size W W') : Wo w W' v ws :=
 ⟨boxed_belowB h.b2 hb h.b2.lt, boxed_belowB h.b3 hb h.b3.lt, boxed_belowB h.b4 hb h.b4.lt, h.row.later hb, h.bel.trans (hb.mono h.bel.size), Nat.le_trans h.siz hb.size⟩
theorem Wo.own {w A A' : World} {v : Value} {ws : List Bs} {row : Option Nat} {B : Nat} (h : Wo w A v ws) (hB : w.heap.size ≤ B) (hg : A.grownBy A' row) (hr : ∀ r, row = some r → B ≤ r ∧ ∃ o : Obj, A.heap[r]? = some o ∧ o.isCells = false) : Wo w A' v ws := by
 have key : ∀ (b : Nat) (cs : Array Value) (t : TypeId) (f : Nat × Nat), A.heap[b]? = some (.cells cs t f) → some b ≠ row := fun b cs t f hb e => by
   obtain ⟨_, o, ho, hc⟩ := hr b e.symm
   rw [hb] at ho
   cases ho
   cases hc
 refine ⟨h.b2.kept hg (key _ _ _ _ h.b2), h.b3.kept hg (key _ _ _ _ h.b3), h.b4.kept hg (key _ _ _ _ h.b4), World.ownsRow.kept h.row hg ?_, h.bel.grown hg h.bel.size (fun k e => Nat.le_trans hB (hr k e).1), Nat.le_trans h.siz hg.size⟩
 rcases h.row.2 with ⟨h1, _⟩ | ⟨g, cap, cur, h1, h2, h3, h4⟩
 · left; rw [h1]; rfl
 · right
   rw [h1]
   exact key g _ _ _ h3
theorem Wo.grew {w W W2 : World} {v v' : Value} {ws : List Bs} {x : Bs} {tmp : Obj} (h : Wo w W v ws) (hown : W2.ownsRow (w.heap.size + 4) 9 1 v' (ws.length + 1) (svs ws ++ [sv x])) (hg : (W.alloc tmp).grownBy W2 v.ownBlock) :
   Boxed W2 (w.heap.size + 1 + 1) 44 v ∧ Wo w (W2.setCell ⟨w.heap.size + 1 + 1, 0, none⟩ v') v' (ws ++ [x]) ∧ KeepsOthers W (W2.setCell ⟨w.heap.size + 1 + 1, 0, none⟩ v') := by
 have ap : ∀ k, v.ownBlock = some k → w.heap.size + 4 ≤ k := fun k hk => (World.ownsRow.lt h.row k hk).1
 have h2 : Boxed W2 w.heap.size 44 (.slice none 0 0) := (h.b2.alloc tmp).kept hg (fun e => by have := ap _ e.symm; omega)
 have h3 : Boxed W2 (w.heap.size + 1) 25 (.int .i64 0) := (h.b3.alloc tmp).kept hg (fun e => by have := ap _ e.symm; omega)
 have h4 : Boxed W2 (w.heap.size + 1 + 1) 44 v := (h.b4.alloc tmp).kept hg (fun e => by have := ap _ e.symm; omega)
 have hs2 := hg.size
 simp only [World.size_alloc] at hs2
 have hz := h.siz
 have hb2 : Below w.heap.size W W2 := ((Below.refl _ W).alloc (by omega) _).grown hg (by simp; omega) (fun k hk => by have := ap k hk; omega)
 have hF : Sr W2 (w.heap.size + 4) v' (ws ++ [x]) := by
   unfold Sr
   rw [List.length_append]
   simpa [svs] using hown
 have hk : KeepsOthers W W2 := ⟨by omega, fun k o hk ho => by
   have hlt := (Array.getElem?_eq_some_iff.1 hk).1
   rw [hg.block k (by simp; omega) (fun e => ?_), Below.heap_alloc _ _ _ hlt]
   · exact hk
   · rcases h.row.2 with ⟨h1, _⟩ | ⟨g, cap, cur, h1, h2, h3', h4'⟩
     · rw [h1] at e; simp [Value.ownBlock] at e
     · rw [h1] at e
       obtain rfl : k = g := by simpa [Value.ownBlock] using e
       rw [h3'] at hk
       cases hk
       cases ho⟩
 exact ⟨h4, ⟨h2.other (by omega) _, h3.other (by omega) _, h4.set _, own_setL hF (by show w.heap.size + 1 + 1 < _; omega) _, (h.bel.trans hb2).setCell (by show w.heap.size ≤ w.heap.size + 1 + 1; omega) _, by simp only [World.setCell, Array.size_modify]; omega⟩, hk.trans (KeepsOthers.setCell _ _ _)⟩
theorem wo_start (w : World) (x : Value) : Wo w ((((w.alloc (.cells #[.slice none 0 0] 44)).alloc (.cells #[.int .i64 0] 25)).alloc (.cells #[.slice none 0 0] 44)).alloc (.cells #[x] 9)) (.slice none 0 0) [] ∧
   Boxed ((((w.alloc (.cells #[.slice none 0 0] 44)).alloc (.cells #[.int .i64 0] 25)).alloc (.cells #[.slice none 0 0] 44)).alloc (.cells #[x] 9)) (w.heap.size + 1 + 1 + 1) 9 x := by
 have b3 := Boxed.new w 44 (.slice none 0 0)
 have b4 := Boxed.new (w.alloc (.cells #[.slice none 0 0] 44)) 25 (.int .i64 0)
 have b5 := Boxed.new ((w.alloc (.cells #[.slice none 0 0] 44)).alloc (.cells #[.int .i64 0] 25)) 44 (.slice none 0 0)
 have b6 := Boxed.new (((w.alloc (.cells #[.slice none 0 0] 44)).alloc (.cells #[.int .i64 0] 25)).alloc (.cells #[.slice none 0 0] 44)) 9 x
 simp only [World.size_alloc] at b4 b5 b6
 exact ⟨⟨((b3.alloc _).alloc _).alloc _, (b4.alloc _).alloc _, b5.alloc _, World.ownsRow_nil _ _ _ _, ((((Below.refl _ w).alloc (Nat.le_refl _) _).alloc (by simp) _).alloc (by simp; omega) _).alloc (by simp; omega) _, by simp⟩, b6⟩
def WordsR (w w' : World) (t : Bs) (e : Ending) : Prop := (∃ v, e = .returned (.tuple #[v, .int .i64 (lineE t : Nat)]) ∧ (lineE t = 0 → Sr w' w.heap.size v (lineW t)) ∧ (lineE t ≠ 0 → v = .slice none 0 0)) ∧ Below w.heap.size w w'
theorem res_words (W : World) (B0 B1 : Nat) (a : Option Addr) (n c : Nat) (e : Int) (tmps : Array Value) (h0 : W.cell? ⟨B0, 0, none⟩ = some (.slice a n c)) (h1 : W.cell? ⟨B1, 0, none⟩ = some (.int .i64 e))
   (t2 : tmps[2]? = some (.pointer (some ⟨B0, 0, none⟩))) (t3 : tmps[3]? = some (.pointer (some ⟨B1, 0, none⟩))) : (results Tryd.f29 tmps).run Tryd.prog W = .ok (.tuple #[.slice a n c, .int .i64 e]) W := by
 simp [results, Tryd.f29, go_sem, h0, h1, t2, t3]
set_option maxRecDepth 100000 in
set_option maxHeartbeats 4000000 in
theorem wordsOf_long (s : ByteArray) (t : Bs) (w : World) (ht : s.data.toList = t) (hlen : t.length ≤ 1000000000) (hl : 65536 < t.length) :
   Calls Tryd.prog 29 #[.string s] w fun e w' => WordsR w w' t e := by
 have hsz : s.size = t.length := by rw [Lib.size_eq, ht]
 have h1 : (65536 : Int) < (s.size : Int) := by omega
 have h2 : (s.size : Int) ≤ 1000000000 := by omega
 have HE : Hid (lineE t = 3) := (by unfold lineE; rw [if_pos hl] : lineE t = 3)
 clear hsz ht hl hlen
 go_enter Tryd.func29, Tryd.ntmps29
 go_wp2
 have b3 := Boxed.new w 44 (.slice none 0 0)
 have b4 := Boxed.new (w.alloc (.cells #[.slice none 0 0] 44)) 25 (.int .i64 3)
 rw [World.size_alloc] at b4
 refine bodyPost_ret (res_words _ w.heap.size (w.heap.size + 1) none 0 0 3 _ (b3.alloc _).cell b4.cell rfl rfl) rfl ?_
 refine ⟨⟨_, by rw [HE.out]; rfl, fun h => ?_, fun _ => rfl⟩, ((Below.refl _ w).alloc (Nat.le_refl _) _).alloc (by simp) _⟩
 rw [HE.out] at h; cases h
def WI (w : World) (pre : List Wl) (W : World) : Prop := ∃ v ws, ws = pre.map (·.1) ∧ Wo w W v ws ∧ ∀ x ∈ pre, mayW x.1 = true
theorem lineE_four {t : Bs} {pre : List Wl} {x : Wl} (hl : t.length ≤ 65536) (hp : (pre ++ [x]).map (·.1) <+: toks (ahd t)) (hx : mayW x.1 = false) : lineE t = 4 := by
 unfold lineE
 rw [if_neg (by omega), if_neg]
 intro h
 rw [List.all_eq_true] at h
 have := h x.1 (hp.subset (by simp))
 rw [hx] at this; cases this
set_option maxRecDepth 100000 in
set_option maxHeartbeats 4000000 in
theorem wordsOf_short (s : ByteArray) (t : Bs) (w : World) (ht : s.data.toList = t) (hl : t.length ≤ 65536) :
   Calls Tryd.prog 29 #[.string s] w fun e w' => WordsR w w' t e := by
 have hsz : s.size = t.length := by rw [Lib.size_eq, ht]
 have h1 : ¬ ((65536 : Int) < (s.size : Int)) := by omega
 have h2 : (s.size : Int) ≤ 65536 := by omega
 have HT := Lib.hid (And.intro ht hl)
 obtain ⟨i0, hi0, hz0, hz1, hz2⟩ := info_parts (show (Tryd.prog.info? 9).map (fun i => (i.zero, i.size, i.bytes)) = some (some (.string ⟨#[]⟩), 1, 16) by kernel_rfl)
 clear hsz ht hl
 refine (callsIn_wide (n := 5)).1 ?_
 refine callsIn_of_wp_marks Tryd.func29 rfl trivial ?_ rfl
 simp only [Tryd.ntmps29, List.size_toArray, List.length_cons, List.length_nil, Nat.reduceAdd, Nat.reduceSub, Array.replicate_succ, Array.replicate_zero, List.push_toArray, List.append_toArray, List.nil_append, List.cons_append]
 gi_wp2_with (first
   | (refine ⟨trivial, ?_⟩; gi_at_call 40; refine (told_in _ _ _).mono ?_; rintro e w' ⟨rfl, rfl⟩))
 obtain ⟨z0, b6⟩ := wo_start w (.string s)
 obtain ⟨W0, hW0⟩ : ∃ W0, ((((w.alloc (.cells #[.slice none 0 0] 44)).alloc (.cells #[.int .i64 0] 25)).alloc (.cells #[.slice none 0 0] 44)).alloc (.cells #[.string s] 9)) = W0 := ⟨_, rfl⟩
 have hs0 : W0.heap.size = w.heap.size + 4 := by rw [← hW0]; simp
 rw [hW0] at z0 b6 ⊢
 refine wpIn_rangeFunc_ownG rfl (by omega) (gf := 51) (lb := #[.pointer (some ⟨w.heap.size + 1 + 1 + 1, 0, none⟩)]) rfl trivial (enters_of Tryd.func51 (by kernel_rfl) rfl)
   (tell_stops _ (by omega) (w.heap.size + 1 + 1 + 1) s t HT.out.1 (by have := HT.out.2; omega) W0 b6)
   (fun _ _ => trivial)
   (fun _ _ _ _ _ _ _ _ => trivial)
   (Below.refl _ _) (fun _ => rfl)
   (WI w)
   (fun c pre W => c = .ret ∧ (∃ (p : List Wl) (x : Wl), pre = p ++ [x] ∧ mayW x.1 = false) ∧ W.cell? ⟨w.heap.size, 0, none⟩ = some (.slice none 0 0) ∧ W.cell? ⟨w.heap.size + 1, 0, none⟩ = some (.int .i64 4) ∧ Below w.heap.size w W)
   (fun s A B row hs hg hr => by obtain ⟨v, ws, h0, h1, h2⟩ := hs; exact ⟨v, ws, h0, h1.own z0.bel.size hg hr, h2⟩)
   (fun c s A B row hs hg hr => ⟨hs.1, hs.2.1, cell_kept hs.2.2.1 hg (fun r e => (hr r e).2), cell_kept hs.2.2.2.1 hg (fun r e => (hr r e).2), hs.2.2.2.2.grown hg hs.2.2.2.2.size (fun k e => Nat.le_trans z0.bel.size (hr k e).1)⟩)
   ⟨_, [], rfl, z0, fun x hx => by simp at hx⟩
   (fun x => { tmps := #[.string s, undef, .pointer (some ⟨w.heap.size, 0, none⟩), .pointer (some ⟨w.heap.size + 1, 0, none⟩), .pointer (some ⟨w.heap.size + 1 + 1, 0, none⟩), .string ⟨x.1.toArray⟩, .string s, .int .i64 (s.size : Int), .bool false, .string s, .func (.func 51) #[] #[.pointer (some ⟨w.heap.size + 1 + 1 + 1, 0, none⟩)], .string ⟨x.1.toArray⟩, undef, undef, undef, undef, undef, undef, undef, undef, undef], defers := [] }) ?assign ?body ?done ?stop
 case assign =>
   intro l x W K hK
   gi_wp2
   exact hK
 case body =>
   rintro l pre x W ⟨v, ws, hws, hZ, hall⟩ hlt
   have HWS := Lib.hid hws
   have HZW : Hid (Wo w W v ws) := hZ
   have HA := Lib.hid hall
   have HL := Lib.hid hlt
   have k4 := hZ.b4.cell
   obtain ⟨m, hm⟩ : ∃ m, Hid (mayW x.1 = m) := ⟨mayW x.1, Lib.hid rfl⟩
   have HM : Hid (∀ w, Calls Tryd.prog 41 #[.string ⟨x.1.toArray⟩] w fun e w' => e = .returned (.bool m) ∧ w' = w) := fun w => by
     rw [← hm.out]; exact mayBeL_any x.1 w (by have := x.2; omega)
   clear hZ hall hlt z0 b6 hW0 hs0 hws
   cases m
   · have j2 := HZW.out.b2.cell
     have j3 := HZW.out.b3.cell
     have f2 := HZW.out.b2.frozen
     have f3 := HZW.out.b3.frozen
     gi_wp2_with (first
       | (refine ⟨trivial, ?_⟩; gi_at_call 41; refine (CallsIn.inRound l (callsIn_wide.2 (HM.out _))).mono ?_; rintro e W1 ⟨rfl, rfl⟩))
     have q2 := HZW.out.b2.set (.slice none 0 0)
     have q3 := ((HZW.out.b3.other (by omega) _).set (.int .i64 4) : Boxed ((W1.setCell ⟨w.heap.size, 0, none⟩ (.slice none 0 0)).setCell ⟨w.heap.size + 1, 0, none⟩ (.int .i64 4)) (w.heap.size + 1) 25 (.int .i64 4))
     exact ⟨((KeepsOthers.setCell _ _ _).trans (KeepsOthers.setCell _ _ _)).from _, rfl, ⟨pre, x, rfl, hm.out⟩, (q2.other (by omega) _).cell, q3.cell, (HZW.out.bel.setCell (p := ⟨w.heap.size, 0, none⟩) (Nat.le_refl _) _).setCell (p := ⟨w.heap.size + 1, 0, none⟩) (by show w.heap.size ≤ w.heap.size + 1; omega) _⟩
   · gi_wp2_with (first
       | (refine ⟨trivial, ?_⟩; gi_at_call 41; refine (CallsIn.inRound l (callsIn_wide.2 (HM.out _))).mono ?_; rintro e W1 ⟨rfl, rfl⟩)
       | fail)
     have HN : Hid (ws.length ≤ 70000) := by
       show ws.length ≤ 70000
       rw [HWS.out, List.length_map]
       have h1 := HL.out
       have h2 := toks_len (ahd t)
       have h3 : (ahd t).length ≤ t.length := cutT_len _ _
       have h4 := HT.out.2
       omega
     have HZD : Hid (Wo w W1.drew v ws) := HZW.out.later (Below.refl _ W1).drew
     have HKD := Lib.hid (KeepsOthers.drew W1)
     obtain ⟨Wd, hWd⟩ : ∃ Wd, W1.drew = Wd := ⟨_, rfl⟩
     rw [hWd] at HZD HKD
     have kd := HZD.out.b4.cell
     refine region6x4 (by kernel_rfl) (by kernel_rfl) ?_ ?_ ?_ ?_
     all_goals
       rw [hWd]
       clear hWd
       gi_wp2_with (first
         | (refine ⟨trivial, ?_⟩; gi_at_call 42; refine (CallsIn.inRound l (callsIn_wide.2 (clone_any _ _ (by rw [sv_size]; have := x.2; omega)))).mono ?_; rintro e W2 ⟨rfl, hb2⟩; have HZ2 := Lib.hid (HZD.out.later hb2); have HK2 := Lib.hid (HKD.out.trans (keeps_below hb2)); have k42 := HZ2.out.b4.cell; have k43 := (HZ2.out.b4.alloc (.cells #[.string ⟨x.1.toArray⟩] 9)).cell; clear hb2)
         | (gi_at_builtin; refine wpListIn_append_own _ rfl _ _ 44 rfl (w.heap.size + 4) 9 i0 (.string ⟨#[]⟩) 1 16 Tryd.underlying44 hi0 hz0 hz1 hz2 rfl (by decide) v ws.length (svs ws) rfl (World.ownsRow.alloc HZ2.out.row _) ⟨W2.heap.size, 0, none⟩ 1 1 [sv x.1] rfl rfl (cell_one_new _ _ _) (by simp [Value.oneCell']) (by unfold maxLen; have := HN.out; omega) (by have := HN.out; omega) (by have := HZ2.out.siz; simp; omega) ?_; intro v' W4 hown hgrow _; obtain ⟨g', cap', rfl⟩ := ownsRow_succ hown; obtain ⟨y4, hz5, hk5⟩ := HZ2.out.grew hown hgrow; have n4 := y4.cell; have u4 := y4.frozen; have HZ5 := Lib.hid (And.intro hz5 (HK2.out.trans hk5)); clear y4 hz5 hk5 hown hgrow))
       refine ⟨HZ5.out.2.from _, trivial, _, _, ?_, HZ5.out.1, fun y hy => ?_⟩
       · rw [List.map_append, ← HWS.out]; rfl
       · rcases List.mem_append.1 hy with e | e
         · exact HA.out y e
         · rw [List.mem_singleton.1 e]; exact hm.out
 case done =>
   rintro D ys W hD hys ⟨v, ws, hws, hZ, hall⟩ hK
   rw [hys] at hws
   have HZW : Hid (Wo w W v ws) := hZ
   have HK : Hid (W.heap[D]? = some (.deferred (some []))) := hK
   have HD : Hid (w.heap.size + 4 ≤ D) := by show _ ≤ _; omega
   have HE : Hid (lineE t = 0 ∧ ws = lineW t) := by
     refine ⟨lineE_zero.2 ⟨HT.out.2, ?_⟩, hws⟩
     rw [List.all_eq_true]
     intro x hx
     have hx' : x ∈ ys.map (·.1) := by rw [hys]; exact hx
     obtain ⟨y, hy, rfl⟩ := List.mem_map.1 hx'
     exact hall y hy
   have m4 := hZ.b4.cell
   have m2 := hZ.b2.cell
   have m3 := hZ.b3.cell
   have f2 := hZ.b2.frozen
   have f3 := hZ.b3.frozen
   obtain ⟨a, n, c, rfl⟩ : ∃ a n c, v = .slice a n c := by
     rcases hZ.row.2 with ⟨h1, _⟩ | ⟨g, cap, cur, h1, _⟩
     · exact ⟨none, 0, 0, h1⟩
     · exact ⟨_, _, _, h1⟩
   clear hZ hall hws hys hK hD z0 b6 hW0 hs0
   gi_wp2
   have q2 := (HZW.out.b2.set (.slice a n c)).other (B' := w.heap.size + 1) (by omega) (.int .i64 0)
   have q3 : Boxed ((W.setCell ⟨w.heap.size, 0, none⟩ (.slice a n c)).setCell ⟨w.heap.size + 1, 0, none⟩ (.int .i64 0)) (w.heap.size + 1) 25 (.int .i64 0) := ((HZW.out.b3.other (by omega) _).set (.int .i64 0))
   obtain ⟨W5, hW5⟩ : ∃ W5, (W.setCell ⟨w.heap.size, 0, none⟩ (.slice a n c)).setCell ⟨w.heap.size + 1, 0, none⟩ (.int .i64 0) = W5 := ⟨_, rfl⟩
   have hK5 : W5.heap[D]? = some (.deferred (some [])) := by
     rw [← hW5]; exact (KeepsOthers.setCell _ _ _).same D _ ((KeepsOthers.setCell _ _ _).same D _ HK.out rfl) rfl
   have hb5 : Below w.heap.size w W5 := by
     rw [← hW5]; exact (HZW.out.bel.setCell (p := ⟨w.heap.size, 0, none⟩) (Nat.le_refl _) _).setCell (p := ⟨w.heap.size + 1, 0, none⟩) (by show w.heap.size ≤ w.heap.size + 1; omega) _
   have hr5 : Sr W5 (w.heap.size + 4) (.slice a n c) ws := by
     rw [← hW5]; exact own_setL (own_setL HZW.out.row (by show w.heap.size < _; omega) _) (by show w.heap.size + 1 < _; omega) _
   rw [hW5] at q2 q3 ⊢
   refine ⟨by simp, .inl ⟨_, _, rfl, run_takeDeferred hK5, ?_⟩⟩
   have c2 := cell_kept q2.cell (grownBy_putObj' _ D (.deferred none)) (fun r e => by cases e; exact ⟨_, hK5, rfl⟩)
   have c3 := cell_kept q3.cell (grownBy_putObj' _ D (.deferred none)) (fun r e => by cases e; exact ⟨_, hK5, rfl⟩)
   refine ⟨_, res_words _ w.heap.size (w.heap.size + 1) a n c 0 _ c2 c3 rfl rfl, ⟨_, by rw [HE.out.1]; rfl, fun _ => ?_, fun h => absurd HE.out.1 h⟩, hb5.trans (belowK_b (w := w) (Nat.le_refl _) W5 D _ _ (by have := HD.out; omega) hK5 rfl rfl)⟩
   rw [← HE.out.2]
   exact Sr.base (ownsRow_putObj hr5 _ hK5 rfl) (by omega)
 case stop =>
   rintro D c pre W hD hpre ⟨rfl, ⟨p, x, rfl, hx⟩, c2, c3, hB⟩ hK
   have HE := Lib.hid (lineE_four HT.out.2 hpre hx)
   have HD : Hid (w.heap.size + 4 ≤ D) := by show _ ≤ _; omega
   clear hpre hD z0 b6 hW0 hs0
   gi_wp2
   refine ⟨by simp, .inl ⟨_, _, rfl, run_takeDeferred hK, ?_⟩⟩
   have d2 := cell_kept c2 (grownBy_putObj' _ D (.deferred none)) (fun r e => by cases e; exact ⟨_, hK, rfl⟩)
   have d3 := cell_kept c3 (grownBy_putObj' _ D (.deferred none)) (fun r e => by cases e; exact ⟨_, hK, rfl⟩)
   refine ⟨_, res_words _ w.heap.size (w.heap.size + 1) none 0 0 4 _ d2 d3 rfl rfl, ⟨_, by rw [HE.out]; rfl, fun h => ?_, fun _ => rfl⟩, hB.trans (belowK_b (w := w) (Nat.le_refl _) W D _ _ (by have := HD.out; omega) hK rfl rfl)⟩
   rw [HE.out] at h; cases h
theorem wordsOf_any (s : ByteArray) (t : Bs) (w : World) (ht : s.data.toList = t) (hl : t.length ≤ 1000000000) :
   Calls Tryd.prog 29 #[.string s] w fun e w' => WordsR w w' t e := by
 by_cases h : 65536 < t.length
 · exact wordsOf_long s t w ht hl h
 · exact wordsOf_short s t w ht (by omega)
end

/- Package lines: Read. -/
section
set_option maxRecDepth 100000
open Go.RowKit Go.Shelf Go.Lib
theorem run_store_str (P : Program) (w : World) (a : Addr) (m : Mode) (s : ByteArray) : (store a (.string s) m).run P w = stored P w a (.string s) m := run_store P w a _ m rfl
attribute [local go_sem] run_store_str
set_option maxHeartbeats 1000000 in
theorem nextL_any (N : Nat) (s : ByteArray) (r : Bs) (hr : s.data.toList = r) (hl : r.length ≤ 100000000) (m : Bool) (k : Nat) (hk : k ≤ 1000000000) (w : World) (b0 : Boxed w N 3 (.int .i64 (k : Nat))) (b1 : Boxed w (N + 1) 9 (.string s)) (b2 : Boxed w (N + 1 + 1) 4 (.bool m)) :
   Calls Tryd.prog 27 #[.pointer (some ⟨N + 1, 0, none⟩), .pointer (some ⟨N + 1 + 1, 0, none⟩), .pointer (some ⟨N, 0, none⟩)] w fun e w' => e = .returned (sv (cutT 10 r)) ∧
     (∃ w0, (w0 = w ∨ w0 = w.drew) ∧ w' = ((w0.setCell ⟨N + 1, 0, none⟩ (sv (cutD 10 r))).setCell ⟨N + 1 + 1, 0, none⟩ (.bool (cutF 10 r))).setCell ⟨N, 0, none⟩ (.int .i64 ((k + 1 : Nat) : Int))) := by
 have hk' : (k : Int) ≤ 1000000000 := by omega
 obtain ⟨q1, h1⟩ : ∃ q : ByteArray, (⟨(cutT 10 r).toArray⟩ : ByteArray) = q := ⟨_, rfl⟩
 obtain ⟨q2, h2⟩ : ∃ q : ByteArray, (⟨(cutD 10 r).toArray⟩ : ByteArray) = q := ⟨_, rfl⟩
 obtain ⟨f, h3⟩ : ∃ f, cutF 10 r = f := ⟨_, rfl⟩
 have HC : Hid (∀ w, Calls Tryd.prog 28 #[.string s, .string ⟨#[10]⟩] w fun e w' => e = .returned (.tuple #[.string q1, .string q2, .bool f]) ∧ (w' = w ∨ w' = w.drew)) := fun w => by
   have := cutL_any s 10 w (by rw [Lib.size_eq, hr]; omega)
   rw [hr] at this
   unfold cutVL sv at this
   rwa [h1, h2, h3] at this
 show Calls Tryd.prog 27 _ w fun e w' => e = .returned (.string ⟨(cutT 10 r).toArray⟩) ∧ (∃ w0, (w0 = w ∨ w0 = w.drew) ∧ w' = ((w0.setCell ⟨N + 1, 0, none⟩ (.string ⟨(cutD 10 r).toArray⟩)).setCell ⟨N + 1 + 1, 0, none⟩ (.bool (cutF 10 r))).setCell ⟨N, 0, none⟩ (.int .i64 ((k + 1 : Nat) : Int)))
 rw [h1, h2, h3]
 have B0 := Lib.hid b0
 have B1 := Lib.hid b1
 have B2 := Lib.hid b2
 have HD : Hid (∀ W1, (W1 = w ∨ W1 = w.drew) → (((W1.setCell ⟨N + 1, 0, none⟩ (.string q2)).setCell ⟨N + 1 + 1, 0, none⟩ (.bool f)).cell? ⟨N, 0, none⟩ = some (.int .i64 (k : Nat)) ∧ ((W1.setCell ⟨N + 1, 0, none⟩ (.string q2)).setCell ⟨N + 1 + 1, 0, none⟩ (.bool f)).frozen? ⟨N, 0, none⟩ = false) ∧ (W1.cell? ⟨N + 1, 0, none⟩ = some (.string s) ∧ W1.frozen? ⟨N + 1, 0, none⟩ = false) ∧ (W1.setCell ⟨N + 1, 0, none⟩ (.string q2)).cell? ⟨N + 1 + 1, 0, none⟩ = some (.bool m) ∧ (W1.setCell ⟨N + 1, 0, none⟩ (.string q2)).frozen? ⟨N + 1 + 1, 0, none⟩ = false) := fun W1 hw => by
   have d0 : Boxed W1 N 3 (.int .i64 (k : Nat)) := by rcases hw with rfl | rfl <;> exact b0
   have d1 : Boxed W1 (N + 1) 9 (.string s) := by rcases hw with rfl | rfl <;> exact b1
   have d2 : Boxed W1 (N + 1 + 1) 4 (.bool m) := by rcases hw with rfl | rfl <;> exact b2
   have e0 := ((d0.other (B' := N + 1) (by omega) (.string q2)).other (B' := N + 1 + 1) (by omega) (.bool f))
   have e2 := d2.other (B' := N + 1) (by omega) (.string q2)
   exact ⟨⟨e0.cell, e0.frozen⟩, ⟨d1.cell, d1.frozen⟩, e2.cell, e2.frozen⟩
 have c1 := b1.cell
 clear h1 h2 h3 b0 b1 b2 B0 B1 B2
 go_enter Tryd.func27, Tryd.ntmps27
 go_wp2_with (go_at_call 28; refine (HC.out _).mono ?_; rintro e W1 ⟨rfl, hw⟩; have HW := Lib.hid hw; obtain ⟨⟨g0, g1⟩, ⟨c11, c12⟩, c21, c22⟩ := HD.out W1 hw; clear hw)
 go_ret
 exact ⟨rfl, W1, HW.out, by go_num⟩
abbrev Lt := Nat × List Bs × Value
def lcs (ps : List Lt) : List Value := ps.flatMap fun p => [.int .i64 (p.1 : Nat), p.2.2]
def tell (ps : List Lt) : List (Nat × List Bs) := ps.map fun p => (p.1, p.2.1)
theorem lcs_app (ps : List Lt) (p : Lt) : lcs (ps ++ [p]) = lcs ps ++ [.int .i64 (p.1 : Nat), p.2.2] := by simp [lcs]
theorem lcs_at : ∀ (ps : List Lt) (k : Nat) (h : k < ps.length), (lcs ps)[2 * k]? = some (.int .i64 (ps[k].1 : Nat)) ∧ (lcs ps)[2 * k + 1]? = some ps[k].2.2 := by
 intro ps
 induction ps with
 | nil => intro k h; simp at h
 | cons p r ih =>
   intro k h
   cases k with
   | zero => exact ⟨rfl, rfl⟩
   | succ k =>
     have := ih k (by simpa using h)
     have e : lcs (p :: r) = [.int .i64 (p.1 : Nat), p.2.2] ++ lcs r := rfl
     rw [e, show 2 * (k + 1) = 2 * k + 2 by omega]
     exact ⟨by simpa using this.1, by simpa using this.2⟩
structure Lr (e : TypeId) (W : World) (B : Nat) (v : Value) (ps : List Lt) : Prop where
 own : W.ownsRow B e 2 v ps.length (lcs ps)
 sub : ∀ p ∈ ps, Sr W B p.2.2 p.2.1
 dis : ps.Pairwise (fun p q => p.2.2.ownBlock ≠ q.2.2.ownBlock)
theorem Lr.nil (e : TypeId) (W : World) (B : Nat) : Lr e W B (.slice none 0 0) [] := ⟨World.ownsRow_nil _ _ _ _, fun p hp => by simp at hp, List.Pairwise.nil⟩
theorem Lr.later {e : TypeId} {W W' : World} {B : Nat} {v : Value} {ps : List Lt} (h : Lr e W B v ps) (hb : Below W.heap.size W W') : Lr e W' B v ps := ⟨own_later h.own hb, fun p hp => (h.sub p hp).later hb, h.dis⟩
theorem Lr.base {e : TypeId} {W : World} {B B' : Nat} {v : Value} {ps : List Lt} (h : Lr e W B v ps) (hb : B' ≤ B) : Lr e W B' v ps := ⟨own_base h.own hb, fun p hp => (h.sub p hp).base hb, h.dis⟩
theorem Lr.set {e : TypeId} {W : World} {B : Nat} {v : Value} {ps : List Lt} (h : Lr e W B v ps) {a : Addr} (ha : a.block < B) (x : Value) : Lr e (W.setCell a x) B v ps := ⟨own_setL h.own ha x, fun p hp => own_setL (h.sub p hp) ha x, h.dis⟩
theorem Lr.drew {e : TypeId} {W : World} {B : Nat} {v : Value} {ps : List Lt} (h : Lr e W B v ps) : Lr e W.drew B v ps := h.later (Below.refl _ W).drew
theorem Sr.kept {W W' : World} {B : Nat} {v : Value} {ws : List Bs} {base e size n : Nat} {v2 : Value} {xs : List Value} (h : Sr W B v ws) (h2 : W.ownsRow base e size v2 n xs) (he : e ≠ 9) (hg : W.grownBy W' v2.ownBlock) : Sr W' B v ws := by
 refine World.ownsRow.kept h hg ?_
 rcases h.2 with ⟨rfl, _⟩ | ⟨g, cap, cur, rfl, _, hgb, _⟩
 · exact .inl rfl
 · refine .inr fun e' => ?_
   rcases h2.2 with ⟨rfl, _⟩ | ⟨g2, cap2, cur2, rfl, _, hgb2, _⟩
   · simp [Value.ownBlock] at e'
   · obtain rfl : g = g2 := by simpa [Value.ownBlock] using e'
     rw [hgb] at hgb2
     simp at hgb2
     exact he hgb2.2.symm
theorem Lr.grew {e : TypeId} {W W2 : World} {B : Nat} {v v' : Value} {ps : List Lt} {p : Lt} {tmp : Obj} (h : Lr e W B v ps) (he : e ≠ 9) (hp : Sr W B p.2.2 p.2.1) (hd : ∀ q ∈ ps, q.2.2.ownBlock ≠ p.2.2.ownBlock) (hown : W2.ownsRow B e 2 v' (ps.length + 1) (lcs ps ++ [.int .i64 (p.1 : Nat), p.2.2])) (hg : (W.alloc tmp).grownBy W2 v.ownBlock) : Lr e W2 B v' (ps ++ [p]) := by
 refine ⟨?_, fun q hq => ?_, List.pairwise_append.2 ⟨h.dis, by simp, fun q hq r hr => by rw [List.mem_singleton.1 hr]; exact hd q hq⟩⟩
 · rw [List.length_append, lcs_app]; exact hown
 · have hs : Sr W B q.2.2 q.2.1 := by
     rcases List.mem_append.1 hq with e | e
     · exact h.sub q e
     · rw [List.mem_singleton.1 e]; exact hp
   exact Sr.kept (World.ownsRow.alloc hs tmp) (h.own.alloc tmp) he hg
theorem Lr.fresh {e : TypeId} {W W2 : World} {B B2 : Nat} {v x : Value} {ps : List Lt} {ws : List Bs} (h : Lr e W B v ps) (hS : Sr W2 B2 x ws) (hB : W.heap.size ≤ B2) (hne : ws ≠ []) : ∀ q ∈ ps, q.2.2.ownBlock ≠ x.ownBlock := by
 intro q hq e
 rcases hS.2 with ⟨_, h2⟩ | ⟨g, cap, cur, rfl, h1, _⟩
 · exact hne (List.length_eq_zero_iff.1 h2)
 · have := World.ownsRow.lt (h.sub q hq) g (by rw [e]; rfl)
   omega
theorem cell_two_new (w : World) (x y : Value) (e : TypeId) (j : Nat) (u : Value) (h : [x, y][j]? = some u) : (w.alloc (.cells #[x, y] e)).cell? ((⟨w.heap.size, 0, none⟩ : Addr).add j) = some u := by
 have hb : (w.alloc (.cells #[x, y] e)).heap[w.heap.size]? = some (.cells #[x, y] e (0, 0)) := World.alloc_heap_new w _
 match j, h with
 | 0, h =>
   obtain rfl : x = u := by simpa using h
   show (w.alloc (.cells #[x, y] e)).cell? ⟨w.heap.size, 0, none⟩ = _
   unfold World.cell?
   rw [hb]; rfl
 | 1, h =>
   obtain rfl : y = u := by simpa using h
   show (w.alloc (.cells #[x, y] e)).cell? ⟨w.heap.size, 1, none⟩ = _
   unfold World.cell?
   rw [hb]; rfl
 | (n + 2), h => simp at h
def ReadR (e : TypeId) (w w' : World) (t : Bs) (en : Ending) : Prop := ∃ v ps, en = .returned (.tuple #[v, .int .i64 ((rdV t).2.1 : Nat), .int .i64 ((rdV t).2.2 : Nat)]) ∧ Lr e w' w.heap.size v ps ∧ tell ps = (rdV t).1 ∧ Below w.heap.size w w'
theorem rdV_long {t : Bs} (h : 16777216 < t.length) : rdV t = ([], 0, 3) := by unfold rdV; rw [if_pos h]
theorem rdV_bad {t : Bs} {n e : Nat} (h : t.length ≤ 16777216) (hb : bad 1 (lns t) = some (n, e)) : rdV t = ([], n, e) := by unfold rdV; rw [if_neg (by omega), hb]
theorem rdV_good {t : Bs} (h : t.length ≤ 16777216) (hb : bad 1 (lns t) = none) : rdV t = (good 1 (lns t), 0, 0) := by unfold rdV; rw [if_neg (by omega), hb]
def leftR (N : Nat) (W : World) : Nat := match W.cell? ⟨N + 1 + 1, 0, none⟩, W.cell? ⟨N + 1, 0, none⟩ with
 | some (.bool true), some (.string s) => s.size + 1
 | _, _ => 0
structure RI (t : Bs) (m : Bool) (r : Bs) (done : List Bs) : Prop where
 all : lns t = done ++ (if m then lns r else [])
 none : bad 1 done = none
 len : r.length ≤ t.length
theorem lns_len (t : Bs) : (lns t).length ≤ t.length + 1 := spl_len _ _
theorem RI.dlen {t : Bs} {m : Bool} {r : Bs} {done : List Bs} (h : RI t m r done) : done.length ≤ t.length + 1 := by
 have := lns_len t
 rw [h.all, List.length_append] at this
 omega
theorem lns_step (r : Bs) : lns r = cutT 10 r :: (if cutF 10 r then lns (cutD 10 r) else []) := by
 by_cases h : (10 : UInt8) ∈ r
 · rw [lns_cut h]; simp [cutF, h]
 · rw [lns_none h, (cut_none h).1]; simp [cutF, h]
theorem RI.bad {t r : Bs} {done : List Bs} (h : RI t true r done) (he : lineE (cutT 10 r) ≠ 0) : bad 1 (lns t) = some (1 + done.length, lineE (cutT 10 r)) := by
 rw [h.all, if_pos rfl, bad_app h.none, lns_step, Go.Proofs.YtgfloegaoofbbaaDoor.bad, if_neg he]
theorem RI.step {t r : Bs} {done : List Bs} (h : RI t true r done) (he : lineE (cutT 10 r) = 0) : RI t (cutF 10 r) (cutD 10 r) (done ++ [cutT 10 r]) := by
 refine ⟨?_, ?_, Nat.le_trans (cutD_len _ _) h.len⟩
 · have := h.all
   rw [if_pos rfl, lns_step r] at this
   rw [this, List.append_assoc]; rfl
 · rw [bad_app h.none, Go.Proofs.YtgfloegaoofbbaaDoor.bad, if_pos he]; rfl
theorem good_step {done : List Bs} {l : Bs} : good 1 (done ++ [l]) = good 1 done ++ (if (lineW l).isEmpty then [] else [(done.length + 1, lineW l)]) := by
 rw [good_app, good, good, List.append_nil, Nat.add_comm 1 done.length]
end

/- Package lines: Read, the walk. -/
section
set_option maxRecDepth 100000
open Go.RowKit Go.Shelf Go.Lib
attribute [local go_sem] run_store_str
theorem Sr.form {W : World} {B : Nat} {v : Value} {ws : List Bs} (h : Sr W B v ws) : ∃ a c, v = .slice a ws.length c ∧ ws.length ≤ c ∧ c ≤ 9223372036854775807 := by
 rcases h.2 with ⟨h1, h2⟩ | ⟨g, cap, cur, h1, _, _, h3, h4, _⟩
 · exact ⟨none, 0, by rw [h1, h2], by omega, by omega⟩
 · exact ⟨_, _, h1, h3, by unfold maxLen at h4; omega⟩
structure RW (w wr : World) (m : Bool) (s : ByteArray) (k : Nat) (v : Value) (ps : List Lt) : Prop where
 b0 : Boxed wr w.heap.size 3 (.int .i64 (k : Nat))
 b1 : Boxed wr (w.heap.size + 1) 9 (.string s)
 b2 : Boxed wr (w.heap.size + 1 + 1) 4 (.bool m)
 row : Lr 56 wr (w.heap.size + 3) v ps
 bel : Below w.heap.size w wr
 siz : w.heap.size + 3 ≤ wr.heap.size
theorem RW.later {w wr W' : World} {m : Bool} {s : ByteArray} {k : Nat} {v : Value} {ps : List Lt} (h : RW w wr m s k v ps) (hb : Below wr.heap.size wr W') : RW w W' m s k v ps :=
 ⟨boxed_belowB h.b0 hb h.b0.lt, boxed_belowB h.b1 hb h.b1.lt, boxed_belowB h.b2 hb h.b2.lt, h.row.later hb, h.bel.trans (hb.mono h.bel.size), Nat.le_trans h.siz hb.size⟩
theorem RW.left {w wr : World} {m : Bool} {s : ByteArray} {k : Nat} {v : Value} {ps : List Lt} (h : RW w wr m s k v ps) : leftR w.heap.size wr = if m then s.size + 1 else 0 := by
 unfold leftR
 rw [h.b1.cell, h.b2.cell]
 cases m <;> rfl
theorem RW.next {w wr : World} {m m' : Bool} {s s' : ByteArray} {k : Nat} {v : Value} {ps : List Lt} (h : RW w wr m s k v ps) {w0 : World} (hw0 : w0 = wr ∨ w0 = wr.drew) :
   RW w (((w0.setCell ⟨w.heap.size + 1, 0, none⟩ (.string s')).setCell ⟨w.heap.size + 1 + 1, 0, none⟩ (.bool m')).setCell ⟨w.heap.size, 0, none⟩ (.int .i64 ((k + 1 : Nat) : Int))) m' s' (k + 1) v ps := by
 have h : RW w w0 m s k v ps := by
   rcases hw0 with rfl | rfl
   · exact h
   · exact h.later (Below.refl _ wr).drew
 refine ⟨((h.b0.other (by omega) _).other (by omega) _).set _, ((h.b1.set _).other (by omega) _).other (by omega) _, ((h.b2.other (by omega) _).set _).other (by omega) _, ((h.row.set (by show w.heap.size + 1 < _; omega) _).set (by show w.heap.size + 1 + 1 < _; omega) _).set (by show w.heap.size < _; omega) _, ?_, ?_⟩
 · exact ((h.bel.setCell (p := ⟨w.heap.size + 1, 0, none⟩) (by show w.heap.size ≤ w.heap.size + 1; omega) _).setCell (p := ⟨w.heap.size + 1 + 1, 0, none⟩) (by show w.heap.size ≤ w.heap.size + 1 + 1; omega) _).setCell (p := ⟨w.heap.size, 0, none⟩) (Nat.le_refl _) _
 · have := h.siz; simpa [World.setCell] using this
theorem RW.grew {w wr W2 : World} {m : Bool} {s : ByteArray} {k : Nat} {v v' : Value} {ps : List Lt} {p : Lt} {tmp : Obj} (h : RW w wr m s k v ps) (hp : Sr wr (w.heap.size + 3) p.2.2 p.2.1) (hd : ∀ q ∈ ps, q.2.2.ownBlock ≠ p.2.2.ownBlock) (hown : W2.ownsRow (w.heap.size + 3) 56 2 v' (ps.length + 1) (lcs ps ++ [.int .i64 (p.1 : Nat), p.2.2])) (hg : (wr.alloc tmp).grownBy W2 v.ownBlock) : RW w W2 m s k v' (ps ++ [p]) := by
 have ap : ∀ k, v.ownBlock = some k → w.heap.size + 3 ≤ k := fun k hk => (World.ownsRow.lt h.row.own k hk).1
 have hs2 := hg.size
 simp only [World.size_alloc] at hs2
 have hz := h.siz
 refine ⟨(h.b0.alloc tmp).kept hg (fun e => by have := ap _ e.symm; omega), (h.b1.alloc tmp).kept hg (fun e => by have := ap _ e.symm; omega), (h.b2.alloc tmp).kept hg (fun e => by have := ap _ e.symm; omega), h.row.grew (by decide) hp hd hown hg, ?_, by omega⟩
 exact h.bel.trans (((Below.refl _ wr).alloc (by omega) _).grown hg (by simp; omega) (fun k hk => by have := ap k hk; omega))
theorem rw_start (w : World) (s : ByteArray) : RW w (((w.alloc (.cells #[.int .i64 0] 3)).alloc (.cells #[.string s] 9)).alloc (.cells #[.bool true] 4)) true s 0 (.slice none 0 0) [] := by
 have b3 := Boxed.new w 3 (.int .i64 0)
 have b4 := Boxed.new (w.alloc (.cells #[.int .i64 0] 3)) 9 (.string s)
 have b5 := Boxed.new ((w.alloc (.cells #[.int .i64 0] 3)).alloc (.cells #[.string s] 9)) 4 (.bool true)
 simp only [World.size_alloc] at b4 b5
 exact ⟨(b3.alloc _).alloc _, b4.alloc _, b5, Lr.nil _ _ _, (((Below.refl _ w).alloc (Nat.le_refl _) _).alloc (by simp) _).alloc (by simp; omega) _, by simp⟩
set_option maxRecDepth 100000 in
set_option maxHeartbeats 4000000 in
theorem read_long (s : ByteArray) (t : Bs) (w : World) (ht : s.data.toList = t) (hl : t.length ≤ 9223372036854775807) (hlong : 16777216 < t.length) :
   Calls Tryd.prog 11 #[.string s] w fun e w' => ReadR 56 w w' t e := by
 have hsz : s.size = t.length := by rw [Lib.size_eq, ht]
 have h1 : (16777216 : Int) < (s.size : Int) := by omega
 have h2 : (s.size : Int) ≤ 9223372036854775807 := by omega
 have HE := Lib.hid (rdV_long hlong)
 clear hsz ht hl hlong
 go_enter Tryd.func11, Tryd.ntmps11
 go_wp2
 go_ret3
 exact ⟨_, [], by rw [HE.out]; rfl, Lr.nil _ _ _, by rw [HE.out]; rfl, Below.refl _ _⟩
set_option maxRecDepth 100000 in
set_option maxHeartbeats 8000000 in
theorem read_short (s0 : ByteArray) (t : Bs) (w : World) (ht : s0.data.toList = t) (hl : t.length ≤ 16777216) :
   Calls Tryd.prog 11 #[.string s0] w fun e w' => ReadR 56 w w' t e := by
 have hsz : s0.size = t.length := by rw [Lib.size_eq, ht]
 have h1 : ¬ ((16777216 : Int) < (s0.size : Int)) := by omega
 have h2 : (s0.size : Int) ≤ 16777216 := by omega
 have HT := Lib.hid (And.intro ht hl)
 obtain ⟨i0, hi0, hz0, hz1, hz2⟩ := info_parts (show (Tryd.prog.info? 56).map (fun i => (i.zero, i.size, i.bytes)) = some (some (.agg #[.int .i64 0, .slice none 0 0]), 2, 32) by kernel_rfl)
 clear hsz ht hl
 go_enter Tryd.func11, Tryd.ntmps11
 go_wp2_with fail
 have hS := Lib.hid (rw_start w s0)
 obtain ⟨W0, hW0⟩ : ∃ W0, ((w.alloc (.cells #[.int .i64 0] 3)).alloc (.cells #[.string s0] 9)).alloc (.cells #[.bool true] 4) = W0 := ⟨_, rfl⟩
 rw [hW0] at hS ⊢
 clear hW0
 go_loopw [9] (fun s9 wr => ∃ (m : Bool) (s : ByteArray) (ps : List Lt) (done : List Bs), Hid (RW w wr m s done.length s9 ps ∧ RI t m s.data.toList done ∧ tell ps = good 1 done)) (fun _ wr => leftR w.heap.size wr)
 case atStart => exact ⟨true, s0, [], [], hS.out, ⟨by rw [HT.out.1]; rfl, rfl, by rw [HT.out.1]; exact Nat.le_refl _⟩, rfl⟩
 case round =>
   obtain ⟨m, s, ps, done, hI⟩ := hrel
   have kb2 := hI.out.1.b2.cell
   cases m
   · have HF : Hid (rdV t = (good 1 done, 0, 0)) := by
       show rdV t = _
       have h := hI.out.2.1
       have e : lns t = done := by rw [h.all]; simp
       rw [rdV_good HT.out.2 (by rw [e]; exact h.none), e]
     go_wp2
     go_ret3
     exact ⟨_, ps, by rw [HF.out]; rfl, hI.out.1.row.base (by omega), by rw [HF.out]; exact hI.out.2.2, hI.out.1.bel⟩
   · obtain ⟨r, hr⟩ : ∃ r, Hid (s.data.toList = r) := ⟨_, Lib.hid rfl⟩
     obtain ⟨ln, hln⟩ : ∃ ln, Hid (cutT 10 r = ln) := ⟨_, Lib.hid rfl⟩
     have HRI : Hid (RI t true r done) := by show RI t true r done; rw [← hr.out]; exact hI.out.2.1
     have hrl : r.length ≤ 16777216 := Nat.le_trans HRI.out.len HT.out.2
     have hdl : done.length ≤ 16777217 := by have := HRI.out.dlen; have := HT.out.2; omega
     have hlnl : ln.length ≤ 16777216 := by rw [← hln.out]; exact Nat.le_trans (cutT_len _ _) hrl
     obtain ⟨q, hq⟩ : ∃ q : ByteArray, (⟨ln.toArray⟩ : ByteArray) = q := ⟨_, rfl⟩
     have HN : Hid (∀ wr, RW w wr true s done.length u9 ps → Calls Tryd.prog 27 #[.pointer (some ⟨w.heap.size + 1, 0, none⟩), .pointer (some ⟨w.heap.size + 1 + 1, 0, none⟩), .pointer (some ⟨w.heap.size, 0, none⟩)] wr fun e w' => e = .returned (.string q) ∧ RW w w' (cutF 10 r) ⟨(cutD 10 r).toArray⟩ (done.length + 1) u9 ps) := fun wr h => by
       refine (nextL_any w.heap.size s r hr.out (by omega) true done.length (by omega) wr h.b0 h.b1 h.b2).mono ?_
       rintro e w' ⟨rfl, w0, hw0, rfl⟩
       exact ⟨by rw [hln.out, ← hq], h.next hw0⟩
     have HQ : Hid (q.data.toList = ln) := (by rw [← hq] : q.data.toList = ln)
     have HWo : Hid (∀ W, Calls Tryd.prog 29 #[.string q] W fun e w' => WordsR W w' ln e) := fun W => wordsOf_any q ln W HQ.out (by omega)
     have LN : Hid (done.length ≤ 16777217 ∧ ps.length ≤ 16777217) := by
       refine ⟨hdl, ?_⟩
       have e := congrArg List.length hI.out.2.2
       have := good_len done 1
       rw [← e] at this
       simp [tell] at this
       omega
     have hdl' : (done.length : Int) ≤ 16777217 := by omega
     clear hq hlnl hrl
     have hcase : lineE ln = 0 ∨ ∃ ee : Nat, (ee = 3 ∨ ee = 4) ∧ lineE ln = ee := by
       rcases lineE_cases ln with e | e | e
       · exact Or.inl e
       · exact Or.inr ⟨3, Or.inl rfl, e⟩
       · exact Or.inr ⟨4, Or.inr rfl, e⟩
     rcases hcase with hee | ⟨ee, h34, hee⟩
     · have HST : Hid (RI t (cutF 10 r) (cutD 10 r) (done ++ [ln])) := by
         have := HRI.out.step (by rw [hln.out]; exact hee)
         rwa [hln.out] at this
       have HLT : Hid ((if cutF 10 r then (⟨(cutD 10 r).toArray⟩ : ByteArray).size + 1 else 0) < s.size + 1) := by
         show (if cutF 10 r then (⟨(cutD 10 r).toArray⟩ : ByteArray).size + 1 else 0) < s.size + 1
         have hz : s.size = r.length := by rw [Lib.size_eq, hr.out]
         split
         · rename_i h
           rw [sv_size, hz]
           have hm : (10 : UInt8) ∈ r := by simpa [cutF] using h
           have := congrArg List.length (cut_some hm)
           rw [List.length_append, List.length_cons] at this
           omega
         · omega
       have HW2 : Hid (∀ W, Calls Tryd.prog 29 #[.string q] W fun e w' => ∃ a c, e = .returned (.tuple #[.slice a (lineW ln).length c, .int .i64 0]) ∧ Sr w' W.heap.size (.slice a (lineW ln).length c) (lineW ln) ∧ Below W.heap.size W w') := fun W => by
         refine (HWo.out W).mono ?_
         rintro e w' ⟨⟨v, rfl, h1, h2⟩, hb⟩
         have hS := h1 hee
         obtain ⟨a, c, rfl, _, _⟩ := hS.form
         exact ⟨a, c, by rw [hee]; rfl, hS, hb⟩
       obtain ⟨ws, hws⟩ : ∃ ws, Hid (lineW ln = ws) := ⟨_, Lib.hid rfl⟩
       rw [hws.out] at HW2
       have HG : Hid (good 1 (done ++ [ln]) = good 1 done ++ (if ws.isEmpty then [] else [(done.length + 1, ws)])) := by
         show good 1 (done ++ [ln]) = _
         rw [good_step, hws.out]
       have hwl : ws.length ≤ 16777217 := by
         rw [← hws.out]
         have h1 := toks_len (ahd ln)
         have h2 : (ahd ln).length ≤ ln.length := cutT_len _ _
         have h3 : ln.length ≤ 16777216 := by rw [← hln.out]; exact Nat.le_trans (cutT_len _ _) (Nat.le_trans HRI.out.len HT.out.2)
         show (toks (ahd ln)).length ≤ _
         omega
       have HI2 : Hid (∀ W2, RW w W2 (cutF 10 r) ⟨(cutD 10 r).toArray⟩ (done.length + 1) u9 ps → ws = [] → ∃ (m : Bool) (s : ByteArray) (ps' : List Lt) (done' : List Bs), Hid (RW w W2 m s done'.length u9 ps' ∧ RI t m s.data.toList done' ∧ tell ps' = good 1 done')) := fun W2 h he => by
         refine ⟨cutF 10 r, ⟨(cutD 10 r).toArray⟩, ps, done ++ [ln], ?_, HST.out, ?_⟩
         · rw [List.length_append]; exact h
         · rw [HG.out, he]; simp [hI.out.2.2]
       have HI3 : Hid (∀ W4 v' wv, RW w W4 (cutF 10 r) ⟨(cutD 10 r).toArray⟩ (done.length + 1) v' (ps ++ [(done.length + 1, ws, wv)]) → ws ≠ [] → ∃ (m : Bool) (s : ByteArray) (ps' : List Lt) (done' : List Bs), Hid (RW w W4 m s done'.length v' ps' ∧ RI t m s.data.toList done' ∧ tell ps' = good 1 done')) := fun W4 v' wv h he => by
         refine ⟨cutF 10 r, ⟨(cutD 10 r).toArray⟩, ps ++ [(done.length + 1, ws, wv)], done ++ [ln], ?_, HST.out, ?_⟩
         · rw [List.length_append]; exact h
         · rw [HG.out, ← hI.out.2.2]
           cases ws with
           | nil => exact absurd rfl he
           | cons x r => simp [tell]
       have HL := Lib.hid hI.out.1.left
       clear hee HWo
       by_cases hw0 : ws = []
       · have hwz : (ws.length : Int) = 0 := by rw [hw0]; rfl
         have hwn : ws.length = 0 := by rw [hw0]; rfl
         rw [hwn] at HW2
         have HW0 := Lib.hid hw0
         clear hw0 hwz hwn hwl
         go_wp2_with (first
           | (go_at_call 27; refine (HN.out _ hI.out.1).mono ?_; rintro e W1 ⟨rfl, hR1⟩; have HR1 := Lib.hid hR1; have kn := hR1.b0.cell; clear hR1)
           | (go_at_call 29; refine (HW2.out _).mono ?_; rintro e W2 ⟨wa, wc, rfl, hS2, hb2⟩; have HR2 := Lib.hid (HR1.out.later hb2); clear hS2 hb2))
         go_roundw
         case rel => exact HI2.out _ HR2.out HW0.out
         case measure => rw [HR2.out.left, HL.out]; exact HLT.out
       · have hwz : (0 : Int) < (ws.length : Int) := by
           have := List.length_pos_iff.2 hw0
           omega
         have hwl' : (ws.length : Int) ≤ 16777217 := by omega
         have HW0 := Lib.hid hw0
         clear hw0 hwl
         go_wp2_with (first
           | (go_at_call 27; refine (HN.out _ hI.out.1).mono ?_; rintro e W1 ⟨rfl, hR1⟩; have HR1 := Lib.hid hR1; have kn := hR1.b0.cell; clear hR1)
           | (go_at_call 29; refine (HW2.out _).mono ?_; rintro e W2 ⟨wa, wc, rfl, hS2, hb2⟩; have HR2 := Lib.hid (HR1.out.later hb2); have HS2 := Lib.hid (hS2.base (show w.heap.size + 3 ≤ W1.heap.size from HR1.out.siz)); have HFr := Lib.hid (HR1.out.row.fresh hS2 (Nat.le_refl _) HW0.out); have kn2 := HR2.out.b0.cell; clear hS2 hb2)
           | (at_builtin; refine wpList_append_own _ rfl _ _ 52 rfl (w.heap.size + 3) 56 i0 (.agg #[.int .i64 0, .slice none 0 0]) 2 32 Tryd.underlying52 hi0 hz0 hz1 hz2 rfl (by decide) u9 ps.length (lcs ps) rfl (World.ownsRow.alloc HR2.out.row.own _) ⟨W2.heap.size, 0, none⟩ 1 1 [.int .i64 ((done.length + 1 : Nat) : Int), .slice wa ws.length wc] rfl rfl (cell_two_new _ _ _ _) (by simp [Value.oneCell']) (by unfold maxLen; have := LN.out; omega) (by have := LN.out; omega) (by have := HR2.out.siz; simp; omega) ?_; intro v' W4 hown hgrow _; have HR4 := Lib.hid (HR2.out.grew (p := (done.length + 1, ws, .slice wa ws.length wc)) HS2.out HFr.out hown hgrow); clear hown hgrow))
         go_roundw
         case rel => exact HI3.out _ _ _ HR4.out HW0.out
         case measure => rw [HR4.out.left, HL.out]; exact HLT.out
     · have HE : Hid (rdV t = ([], done.length + 1, ee)) := by
         show rdV t = _
         have := HRI.out.bad (by rw [hln.out, hee]; omega)
         rw [hln.out, hee, Nat.add_comm] at this
         exact rdV_bad HT.out.2 this
       have HW2 : Hid (∀ W, Calls Tryd.prog 29 #[.string q] W fun e w' => e = .returned (.tuple #[.slice none 0 0, .int .i64 (ee : Nat)]) ∧ Below W.heap.size W w') := fun W => by
         refine (HWo.out W).mono ?_
         rintro e w' ⟨⟨v, rfl, h1, h2⟩, hb⟩
         rw [h2 (by omega), hee]
         exact ⟨rfl, hb⟩
       have hee2 : ((ee : Int) != 0) = true := by rcases h34 with rfl | rfl <;> rfl
       have hee3 : ¬ ((ee : Int) = 0) := by omega
       clear hee HWo
       rcases h34 with rfl | rfl
       all_goals
         go_wp2_with (first
           | (go_at_call 27; refine (HN.out _ hI.out.1).mono ?_; rintro e W1 ⟨rfl, hR1⟩; have HR1 := Lib.hid hR1; have kn := hR1.b0.cell; clear hR1)
           | (go_at_call 29; refine (HW2.out _).mono ?_; rintro e W2 ⟨rfl, hb2⟩; have HR2 := Lib.hid (HR1.out.later hb2); have kn2 := HR2.out.b0.cell; clear hb2))
         go_region
         go_wp2
         go_ret3
         exact ⟨_, [], by rw [HE.out]; rfl, Lr.nil _ _ _, by rw [HE.out]; rfl, HR2.out.bel.drew⟩
theorem read_any (s : ByteArray) (t : Bs) (w : World) (ht : s.data.toList = t) (hl : t.length ≤ 9223372036854775807) :
   Calls Tryd.prog 11 #[.string s] w fun e w' => ReadR 56 w w' t e := by
 by_cases h : 16777216 < t.length
 · exact read_long s t w ht hl h
 · exact read_short s t w ht (by omega)
end

/- Package lines: what is written; allMayBe, sizeOf. -/
section
set_option maxRecDepth 100000
open Go.RowKit Go.Shelf Go.Lib
def jn (ws : List Bs) : Bs := join ws [32]
def wrT (L : List (List Bs)) : Bs := (L.map fun ws => jn ws ++ [10]).flatten
def okL (ws : List Bs) : Bool := ws.all mayW && !ws.isEmpty
structure Sl (W : World) (v : Value) (ws : List Bs) : Prop where
 form : ∃ a c, v = .slice a ws.length c ∧ ws.length ≤ c ∧ c ≤ 9223372036854775807 ∧ (ws = [] ∨ ∃ g off, a = some ⟨g, off, none⟩ ∧ g < W.heap.size ∧ ∀ k x, ws[k]? = some x → W.cell? ⟨g, off + k, none⟩ = some (sv x))
 len : ∀ x ∈ ws, x.length ≤ 9223372036854775807
abbrev Lv := List Bs × Value
structure Ll (W : World) (v : Value) (ls : List Lv) : Prop where
 form : ∃ a c, v = .slice a ls.length c ∧ ls.length ≤ c ∧ c ≤ 9223372036854775807 ∧ (ls = [] ∨ ∃ g off, a = some ⟨g, off, none⟩ ∧ g < W.heap.size ∧ ∀ k p, ls[k]? = some p → W.cell? ⟨g, off + k, none⟩ = some p.2)
 sub : ∀ p ∈ ls, Sl W p.2 p.1
theorem cell_later {w w' : World} {n : Nat} (hb : Below n w w') {g o : Nat} (hg : g < n) {v : Value} (h : w.cell? ⟨g, o, none⟩ = some v) : w'.cell? ⟨g, o, none⟩ = some v := (hb.cell (p := ⟨g, o, none⟩) hg).trans h
theorem Sl.later {W W' : World} {v : Value} {ws : List Bs} (h : Sl W v ws) (hb : Below W.heap.size W W') : Sl W' v ws := by
 obtain ⟨⟨a, c, h1, h2, h3, h4⟩, h5⟩ := h
 refine ⟨⟨a, c, h1, h2, h3, ?_⟩, h5⟩
 rcases h4 with h4 | ⟨g, off, h6, h7, h8⟩
 · exact Or.inl h4
 · exact Or.inr ⟨g, off, h6, Nat.lt_of_lt_of_le h7 hb.size, fun k x hk => cell_later hb h7 (h8 k x hk)⟩
theorem Ll.later {W W' : World} {v : Value} {ls : List Lv} (h : Ll W v ls) (hb : Below W.heap.size W W') : Ll W' v ls := by
 obtain ⟨⟨a, c, h1, h2, h3, h4⟩, h5⟩ := h
 refine ⟨⟨a, c, h1, h2, h3, ?_⟩, fun p hp => (h5 p hp).later hb⟩
 rcases h4 with h4 | ⟨g, off, h6, h7, h8⟩
 · exact Or.inl h4
 · exact Or.inr ⟨g, off, h6, Nat.lt_of_lt_of_le h7 hb.size, fun k x hk => cell_later hb h7 (h8 k x hk)⟩
theorem own_cellL {w : World} {base e size n g c j : Nat} {u : Value} {xs : List Value} (h : w.ownsRow base e size (.slice (some ⟨g, 0, none⟩) n c) n xs) (hj : xs[j]? = some u) : w.cell? ⟨g, 0 + j, none⟩ = some u := by
 have := h.cells (g := g) rfl j u hj
 rw [← this]; unfold Addr.add; split
 · rename_i e; rw [e]
 · rfl
theorem Sr.sl {W : World} {B : Nat} {v : Value} {ws : List Bs} (h : Sr W B v ws) (hl : ∀ x ∈ ws, x.length ≤ 9223372036854775807) : Sl W v ws := by
 refine ⟨?_, hl⟩
 have h0 := h
 rcases h.2 with ⟨h1, h2⟩ | ⟨g, cap, cur, rfl, h2, h3, h4, h5, _⟩
 · exact ⟨none, 0, by rw [h1, h2], by omega, by omega, Or.inl (List.length_eq_zero_iff.1 h2)⟩
 · refine ⟨_, cap, rfl, h4, by unfold maxLen at h5; omega, Or.inr ⟨g, 0, rfl, (World.ownsRow.lt h0 g rfl).2, fun k x hk => ?_⟩⟩
   exact own_cellL h0 (by rw [List.getElem?_map, hk]; rfl)
end

/- Package lines: sizeOf, Write. -/
section
set_option maxRecDepth 100000
open Go.RowKit Go.Shelf Go.Lib
theorem ok_may {ws : List Bs} (h : okL ws = true) : ws ≠ [] ∧ ∀ x ∈ ws, mayW x = true := by
 unfold okL at h
 rw [Bool.and_eq_true, List.all_eq_true] at h
 exact ⟨by simpa using h.2, h.1⟩
end

/- Package lines: Write. -/
section
set_option maxRecDepth 100000
open Go.RowKit Go.Shelf Go.Lib
end

/- The document's side of layer 9: words. -/
section
set_option maxRecDepth 100000
open Go.RowKit Go.Shelf Go.Lib
theorem ahd_app {a r : Bs} (h : ∀ x ∈ a, x ≠ 35) : ahd (a ++ r) = a ++ ahd r := by
 unfold ahd cutT
 induction a with
 | nil => rfl
 | cons x a ih =>
   rw [List.cons_append, List.takeWhile_cons_of_pos (p := fun y => y != 35) (by simpa using h x (by simp)), ih (fun y hy => h y (by simp [hy])), List.cons_append]
theorem ahd_stop (r : Bs) : ahd (35 :: r) = [] := by simp [ahd, cutT]
theorem ahd_cons {c : UInt8} {r : Bs} (h : c ≠ 35) : ahd (c :: r) = c :: ahd r := ahd_app (a := [c]) (fun x hx => by rw [List.mem_singleton.1 hx]; exact h)
theorem tok_mem {c : UInt8} (hc : bl c = false) : ∀ {l : Bs}, c ∈ l → ∃ t ∈ toks l, c ∈ t := by
 have key : ∀ {l : Bs}, c ∈ l → ∃ t ∈ spl bl l, c ∈ t := by
   intro l
   induction l with
   | nil => intro h; simp at h
   | cons a r ih =>
     intro h
     rw [spl]
     by_cases hp : bl a = true
     · rw [if_pos hp]
       rcases List.mem_cons.1 h with e | e
       · rw [e, hp] at hc; cases hc
       · obtain ⟨t, h1, h2⟩ := ih e
         exact ⟨t, by simp [h1], h2⟩
     · rw [if_neg hp]
       split
       · rename_i e; exact absurd e (spl_ne _ _)
       · rename_i x y e
         rcases List.mem_cons.1 h with e2 | e2
         · exact ⟨a :: x, by simp, by simp [e2]⟩
         · obtain ⟨t, h1, h2⟩ := ih e2
           rw [e] at h1
           rcases List.mem_cons.1 h1 with e3 | e3
           · exact ⟨a :: x, by simp, by rw [e3] at h2; simp [h2]⟩
           · exact ⟨t, by simp [e3], h2⟩
 intro l h
 obtain ⟨t, h1, h2⟩ := key h
 refine ⟨t, ?_, h2⟩
 unfold toks
 rw [List.mem_filter]
 refine ⟨h1, ?_⟩
 cases t with
 | nil => simp at h2
 | cons a r => rfl
theorem gd_ne {c : UInt8} (h : gd c = true) : c ≠ 35 ∧ bl c = false := by
 unfold gd at h
 simp at h
 refine ⟨fun e => ?_, ?_⟩
 · rw [e] at h; exact absurd h.2 (by decide)
 · unfold bl; simp; omega
structure WInv (l : Bs) (st k : Nat) (ts : List Bs) : Prop where
 all : ts ++ toks (ahd (l.drop st)) = lineW l
 may : ∀ x ∈ ts, mayW x = true
 gds : ∀ c ∈ (l.drop st).take (k - st), gd c = true
 le : st ≤ k
theorem WInv.start (l : Bs) : WInv l 0 0 [] := ⟨rfl, fun x hx => by simp at hx, fun c hc => by simp at hc, Nat.le_refl _⟩
abbrev cw (l : Bs) (st k : Nat) : Bs := (l.drop st).take (k - st)
theorem cw_len {l : Bs} {st k : Nat} (hk : k ≤ l.length) : (cw l st k).length = k - st := by
 rw [List.length_take, List.length_drop]; omega
theorem cw_drop {l : Bs} {st k : Nat} (h : st ≤ k) : l.drop st = cw l st k ++ l.drop k := by
 have := (List.take_append_drop (k - st) (l.drop st)).symm
 rw [List.drop_drop, show st + (k - st) = k by omega] at this
 exact this
theorem WInv.ahd {l : Bs} {st k : Nat} {ts : List Bs} (h : WInv l st k ts) : Go.Proofs.YtgfloegaoofbbaaDoor.ahd (l.drop st) = cw l st k ++ Go.Proofs.YtgfloegaoofbbaaDoor.ahd (l.drop k) := by
 rw [cw_drop (l := l) h.le, ahd_app (fun x hx => (gd_ne (h.gds x hx)).1)]
theorem mayW_gds {x : Bs} (h : ∀ c ∈ x, gd c = true) (h0 : x ≠ []) (hl : x.length ≤ 400) : mayW x = true := mayW_yes h0 hl (fun _ hj => h _ (List.getElem_mem hj))
theorem WInv.long {l : Bs} {st k : Nat} {ts r : List Bs} (h : WInv l st k ts) (he : toks (Go.Proofs.YtgfloegaoofbbaaDoor.ahd (l.drop st)) = one (cw l st k) ++ r) (hl : 400 < (cw l st k).length) : (lineW l).all mayW = false := by
 rw [List.all_eq_false]
 refine ⟨cw l st k, ?_, ?_⟩
 · rw [← h.all, he, one_ne (fun e => by rw [e] at hl; simp at hl)]; simp
 · unfold mayW; rw [decide_eq_false (by omega : ¬ (cw l st k).length ≤ 400)]; simp
theorem WInv.more {l : Bs} {st k : Nat} {ts : List Bs} {r : List Bs} (h : WInv l st k ts) (he : toks (Go.Proofs.YtgfloegaoofbbaaDoor.ahd (l.drop st)) = one (cw l st k) ++ r) (hl : (cw l st k).length ≤ 400) : (ts ++ one (cw l st k)) ++ r = lineW l ∧ ∀ x ∈ ts ++ one (cw l st k), mayW x = true := by
 refine ⟨by rw [← h.all, he, List.append_assoc], fun x hx => ?_⟩
 rcases List.mem_append.1 hx with e | e
 · exact h.may x e
 · by_cases h0 : cw l st k = []
   · rw [h0] at e; simp [one] at e
   · rw [one_ne h0, List.mem_singleton] at e
     rw [e]; exact mayW_gds h.gds h0 hl
theorem WInv.fin {l : Bs} {st k : Nat} {ts : List Bs} (h : WInv l st k ts) (hk : k ≤ l.length) (he : ∀ hk : k < l.length, l[k] = 35) : toks (Go.Proofs.YtgfloegaoofbbaaDoor.ahd (l.drop st)) = one (cw l st k) ++ [] := by
 have e : Go.Proofs.YtgfloegaoofbbaaDoor.ahd (l.drop k) = [] := by
   by_cases hlt : k < l.length
   · rw [List.drop_eq_getElem_cons hlt, he hlt, ahd_stop]
   · rw [List.drop_of_length_le (by omega)]; rfl
 rw [h.ahd, e, List.append_nil, List.append_nil, toks_none (fun c hc => (gd_ne (h.gds c hc)).2)]
theorem WInv.blank {l : Bs} {st k : Nat} {ts : List Bs} (h : WInv l st k ts) (hk : k < l.length) (hb : bl l[k] = true) : toks (Go.Proofs.YtgfloegaoofbbaaDoor.ahd (l.drop st)) = one (cw l st k) ++ toks (Go.Proofs.YtgfloegaoofbbaaDoor.ahd (l.drop (k + 1))) := by
 have hne : l[k] ≠ 35 := fun e => by rw [e] at hb; cases hb
 rw [h.ahd, List.drop_eq_getElem_cons hk, ahd_cons hne, toks_app (fun c hc => (gd_ne (h.gds c hc)).2) hb]
theorem WInv.next {l : Bs} {st k : Nat} {ts : List Bs} (h : WInv l st k ts) (hk : k < l.length) (hb : bl l[k] = true) (hl : (cw l st k).length ≤ 400) : WInv l (k + 1) (k + 1) (ts ++ one (cw l st k)) := by
 have := h.more (h.blank hk hb) hl
 exact ⟨this.1, this.2, fun c hc => by simp at hc, Nat.le_refl _⟩
theorem WInv.bad {l : Bs} {st k : Nat} {ts : List Bs} (h : WInv l st k ts) (hk : k < l.length) (hne : l[k] ≠ 35) (hb : bl l[k] = false) (hg : gd l[k] = false) : (lineW l).all mayW = false := by
 have hm : l[k] ∈ Go.Proofs.YtgfloegaoofbbaaDoor.ahd (l.drop st) := by
   rw [h.ahd, List.drop_eq_getElem_cons hk, ahd_cons hne]; simp
 obtain ⟨t, h1, h2⟩ := tok_mem hb hm
 rw [List.all_eq_false]
 refine ⟨t, by rw [← h.all]; simp [h1], ?_⟩
 obtain ⟨j, hj, e⟩ := List.mem_iff_getElem.1 h2
 rw [mayW_no hj (by rw [e]; exact hg)]; simp
theorem WInv.good {l : Bs} {st k : Nat} {ts : List Bs} (h : WInv l st k ts) (hk : k < l.length) (hg : gd l[k] = true) : WInv l st (k + 1) ts := by
 refine ⟨h.all, h.may, fun c hc => ?_, by have := h.le; omega⟩
 have := h.le
 rw [show k + 1 - st = (k - st) + 1 by omega, List.take_add_one] at hc
 rcases List.mem_append.1 hc with e | e
 · exact h.gds c e
 · rw [List.getElem?_drop, show st + (k - st) = k by omega, List.getElem?_eq_getElem hk] at e
   obtain rfl : c = l[k] := by simpa using e
   exact hg
def WdR (w w' : World) (l : Bs) (e : Ending) : Prop := (∃ v, e = .returned (.tuple #[v, .bool ((lineW l).all mayW)]) ∧ ((lineW l).all mayW = true → Sr w' w.heap.size v (lineW l)) ∧ ((lineW l).all mayW = false → v = .slice none 0 0)) ∧ Below w.heap.size w w'
theorem WdR.no {w w' : World} {l : Bs} (h : (lineW l).all mayW = false) (hb : Below w.heap.size w w') : WdR w w' l (.returned (.tuple #[.slice none 0 0, .bool false])) := by
 refine ⟨⟨_, by rw [h], fun e => ?_, fun _ => rfl⟩, hb⟩
 rw [h] at e; cases e
theorem WdR.yes {w w' : World} {l : Bs} {v : Value} {ts : List Bs} (h : ts = lineW l) (hm : ∀ x ∈ ts, mayW x = true) (hS : Sr w' w.heap.size v ts) (hb : Below w.heap.size w w') : WdR w w' l (.returned (.tuple #[v, .bool true])) := by
 have e : (lineW l).all mayW = true := by rw [← h, List.all_eq_true]; exact hm
 refine ⟨⟨v, by rw [e], fun _ => by rw [← h]; exact hS, fun e2 => ?_⟩, hb⟩
 rw [e] at e2; cases e2
end

/- What is written is read: plain facts. -/
section
set_option maxRecDepth 100000
open Go.RowKit Go.Shelf Go.Lib
theorem jn_cons2 (x y : Bs) (r : List Bs) : jn (x :: y :: r) = x ++ 32 :: jn (y :: r) := by
 unfold jn
 rw [join_cons, join_cons]
 simp [joinTail]
theorem jn_one (x : Bs) : jn [x] = x := join_one x [32]
theorem may_gd {x : Bs} (h : mayW x = true) : x ≠ [] ∧ ∀ c ∈ x, gd c = true := by
 unfold mayW at h
 rw [Bool.and_eq_true, Bool.and_eq_true, List.all_eq_true] at h
 exact ⟨by simpa using h.1.1, h.2⟩
def wts (l : List Bs) : Nat := (l.map fun x => x.length + 1).sum
theorem spl_wts (p : UInt8 → Bool) : ∀ l : Bs, wts (spl p l) = l.length + 1 := by
 intro l
 induction l with
 | nil => rfl
 | cons a r ih =>
   rw [spl]
   split
   · simp only [wts, List.map_cons, List.sum_cons] at ih ⊢
     rw [ih]; simp; omega
   · split
     · rename_i e; exact absurd e (spl_ne _ _)
     · rename_i e
       rw [e] at ih
       simp only [wts, List.map_cons, List.sum_cons, List.length_cons] at ih ⊢
       omega
theorem filter_wts (q : Bs → Bool) : ∀ l : List Bs, wts (l.filter q) ≤ wts l := by
 intro l
 induction l with
 | nil => exact Nat.le_refl _
 | cons a r ih =>
   rw [List.filter_cons]
   split
   · simp only [wts, List.map_cons, List.sum_cons] at ih ⊢; omega
   · simp only [wts, List.map_cons, List.sum_cons] at ih ⊢; omega
theorem jn_wts : ∀ {ws : List Bs}, ws ≠ [] → (jn ws).length + 1 = wts ws := by
 intro ws
 induction ws with
 | nil => intro h; exact absurd rfl h
 | cons x r ih =>
   intro _
   cases r with
   | nil => rw [jn_one]; simp [wts]
   | cons y r =>
     have := ih (by simp)
     rw [jn_cons2, List.length_append, List.length_cons]
     simp only [wts, List.map_cons, List.sum_cons] at this ⊢
     omega
theorem jn_lineW (l : Bs) : (jn (lineW l)).length ≤ l.length := by
 by_cases h : lineW l = []
 · rw [h]; simp [jn, join_nil]
 · have h1 := jn_wts h
   have h2 : wts (lineW l) ≤ wts (spl bl (ahd l)) := filter_wts _ _
   rw [spl_wts] at h2
   have h3 : (ahd l).length ≤ l.length := cutT_len _ _
   omega
theorem good_fits : ∀ (ls : List Bs) (n : Nat), bad n ls = none → (∀ p ∈ good n ls, okL p.2 = true ∧ (jn p.2).length ≤ 65536) ∧ (wrT ((good n ls).map (·.2))).length ≤ wts ls := by
 intro ls
 induction ls with
 | nil => intro n _; exact ⟨fun p hp => by simp [good] at hp, by simp [good, wrT]⟩
 | cons l r ih =>
   intro n h
   rw [bad] at h
   by_cases he : lineE l = 0
   · rw [if_pos he] at h
     have hz := lineE_zero.1 he
     have hi := ih (n + 1) h
     rw [good]
     by_cases h0 : (lineW l).isEmpty = true
     · rw [if_pos h0, List.nil_append]
       refine ⟨hi.1, ?_⟩
       simp only [wts, List.map_cons, List.sum_cons] at hi ⊢
       omega
     · rw [if_neg h0]
       have hj := jn_lineW l
       refine ⟨fun p hp => ?_, ?_⟩
       · rcases List.mem_append.1 hp with e | e
         · rw [List.mem_singleton.1 e]
           refine ⟨?_, by show (jn (lineW l)).length ≤ 65536; omega⟩
           unfold okL
           rw [hz.2]; simpa using h0
         · exact hi.1 p e
       · rw [List.map_append, show wrT ((([(n, lineW l)] : List (Nat × List Bs)).map (·.2)) ++ (good (n + 1) r).map (·.2)) = (jn (lineW l) ++ [10]) ++ wrT ((good (n + 1) r).map (·.2)) by simp [wrT]]
         have := hi.2
         simp only [wts, List.map_cons, List.sum_cons, List.length_append, List.length_singleton] at this ⊢
         omega
   · rw [if_neg he] at h; cases h
end

/- The document's side of layer 9: words, the walk. -/
section
set_option maxRecDepth 100000
open Go.RowKit Go.Shelf Go.Lib
theorem Sr.grew {W W2 : World} {B : Nat} {v v' : Value} {ts : List Bs} {x : Bs} (hown : W2.ownsRow B 9 1 v' (ts.length + 1) (svs ts ++ [sv x])) (_ : Sr W B v ts) : Sr W2 B v' (ts ++ [x]) := by
 unfold Sr
 rw [List.length_append]
 simpa [svs] using hown
theorem own_ap {W : World} {B e size n : Nat} {v : Value} {xs : List Value} (h : W.ownsRow B e size v n xs) : ∀ k, v.ownBlock = some k → B ≤ k := fun k hk => (World.ownsRow.lt h k hk).1
theorem below_grew {w W W2 : World} {e size n : Nat} {v : Value} {xs : List Value} {tmp : Obj} (hb : Below w.heap.size w W) (h : W.ownsRow w.heap.size e size v n xs) (hg : (W.alloc tmp).grownBy W2 v.ownBlock) : Below w.heap.size w W2 :=
 hb.trans (((Below.refl _ W).alloc hb.size _).grown hg (by simp; have := hb.size; omega) (fun k hk => own_ap h k hk))
theorem empty_is {q : ByteArray} {x : Bs} (h : q.data.toList = x) : (q.toList == []) = x.isEmpty := by
 rw [Lib.toList_data, h]; cases x <;> rfl
set_option maxRecDepth 100000 in
set_option maxHeartbeats 8000000 in
theorem refWords_any (s : ByteArray) (l : Bs) (w : World) (hl : s.data.toList = l) (hlen : l.length ≤ 1000000000) : Calls Tryd.prog 15 #[.string s] w fun e w' => WdR w w' l e := by
 have hsz : s.size = l.length := by rw [Lib.size_eq, hl]
 have HZ := Lib.hid hsz
 have HB : Hid (∀ (k : Nat) (h1 : k < s.size) (h2 : k < l.length), s[k]'h1 = l[k]) := fun k h1 h2 => by
   have e : s = ⟨l.toArray⟩ := by rw [← hl]
   subst e
   exact byte_atL h1 h2
 have HX : Hid (∀ st k, s.extract st k = ⟨((l.drop st).take (k - st)).toArray⟩) := fun st k => by rw [Lib.extract_eq, hl]
 have hs1 : (s.size : Int) ≤ 1000000000 := by omega
 obtain ⟨i0, hi0, hz0, hz1, hz2⟩ := info_parts (show (Tryd.prog.info? 9).map (fun i => (i.zero, i.size, i.bytes)) = some (some (.string ⟨#[]⟩), 1, 16) by kernel_rfl)
 have HLn := Lib.hid hlen
 clear hl hsz hlen
 go_enter Tryd.func15, Tryd.ntmps15
 go_wp2
 go_loopw [4, 5, 6] (fun s4 s5 s6 wr => ∃ (k st : Nat) (q : ByteArray) (ts : List Bs), k ≤ s.size ∧ s6 = .int .i64 (k : Nat) ∧ s5 = .string q ∧ q.size + st = k ∧ Hid (q.data.toList = cw l st k ∧ WInv l st k ts ∧ ts.length ≤ k ∧ Sr wr w.heap.size s4 ts ∧ Below w.heap.size w wr)) (fun _ _ s6 _ => s.size - (RowKit.intOf s6).toNat)
 case atStart => exact ⟨0, 0, ⟨#[]⟩, [], Nat.zero_le _, rfl, rfl, rfl, rfl, WInv.start l, Nat.le_refl _, World.ownsRow_nil _ _ _ _, Below.refl _ _⟩
 case round =>
   obtain ⟨k, st, q, ts, hk, rfl, rfl, hq, hI⟩ := hrel
   have hk0 : (0 : Int) ≤ (k : Int) := by omega
   have hkl : (k : Int) ≤ (s.size : Int) := by omega
   have hqk : (q.size : Int) ≤ (k : Int) := by omega
   obtain ⟨x, hx⟩ : ∃ x, Hid (cw l st k = x) := ⟨_, Lib.hid rfl⟩
   have HQ : Hid (q.data.toList = x) := (by rw [hI.out.1, hx.out] : q.data.toList = x)
   have HQS : Hid (q.size = x.length) := (by rw [Lib.size_eq, HQ.out] : q.size = x.length)
   have HQE : Hid ((q.toList == []) = x.isEmpty) := empty_is HQ.out
   have HSV : Hid ((⟨x.toArray⟩ : ByteArray) = q) := (by rw [← HQ.out] : (⟨x.toArray⟩ : ByteArray) = q)
   have HTL : Hid (ts.length ≤ 1000000000) := by
     show ts.length ≤ _
     have h1 := hI.out.2.2.1
     have h2 := HZ.out
     have h3 := HLn.out
     omega
   by_cases hfin : ∀ h : k < l.length, l[k] = 35
   · have hfin2 : (k = s.size) ∨ (∃ h : k < s.size, ((s[k]'h).toNat : Int) = 35) := by
       by_cases e : k = s.size
       · exact Or.inl e
       · have h1 : k < s.size := by omega
         have h2 : k < l.length := by rw [← HZ.out]; exact h1
         exact Or.inr ⟨h1, by rw [HB.out k h1 h2, hfin h2]; rfl⟩
     have HF := Lib.hid (hI.out.2.1.fin (by have := HZ.out; omega) hfin)
     clear hfin
     by_cases hlong : 400 < q.size
     · have hlong' : (400 : Int) < (q.size : Int) := by omega
       have HN := Lib.hid (hI.out.2.1.long HF.out (by rw [hx.out, ← HQS.out]; exact hlong))
       rcases hfin2 with e | ⟨h1, h2⟩
       · have e1 : (k : Int) = (s.size : Int) := by omega
         subst e
         go_wp2
         go_ret2
         exact WdR.no HN.out hI.out.2.2.2.2
       · have e1 : ¬ ((k : Int) = (s.size : Int)) := by omega
         have e2 : (k : Int) < (s.size : Int) := by omega
         have f0 : ((k : Int) == (s.size : Int)) = false := by simp; omega
         go_wp2
         go_ret2
         exact WdR.no HN.out hI.out.2.2.2.2
     · have hlong' : ¬ ((400 : Int) < (q.size : Int)) := by omega
       have HM := Lib.hid (hI.out.2.1.more HF.out (by rw [hx.out, ← HQS.out]; omega))
       rw [hx.out] at HM
       by_cases h0 : x = []
       · have e3 : (q.toList == []) = true := by rw [HQE.out, h0]; rfl
         have HE : Hid (ts = lineW l ∧ ∀ x ∈ ts, mayW x = true) := by
           have := HM.out
           rw [h0] at this
           refine Lib.hid ?_
           simpa [one] using this
         clear HM HQE
         rcases hfin2 with e | ⟨h1, h2⟩
         · have e1 : (k : Int) = (s.size : Int) := by omega
           subst e
           go_wp2
           go_ret2
           exact WdR.yes HE.out.1 HE.out.2 hI.out.2.2.2.1 hI.out.2.2.2.2
         · have e1 : ¬ ((k : Int) = (s.size : Int)) := by omega
           have e2 : (k : Int) < (s.size : Int) := by omega
           have f0 : ((k : Int) == (s.size : Int)) = false := by simp; omega
           go_wp2
           go_ret2
           exact WdR.yes HE.out.1 HE.out.2 hI.out.2.2.2.1 hI.out.2.2.2.2
       · have e3 : (q.toList == []) = false := by rw [HQE.out]; cases x with
           | nil => exact absurd rfl h0
           | cons a r => rfl
         have HE : Hid (ts ++ [x] = lineW l ∧ ∀ y ∈ ts ++ [x], mayW y = true) := by
           have := HM.out
           rw [one_ne h0, List.append_nil] at this
           exact this
         clear HM HQE
         rcases hfin2 with e | ⟨h1, h2⟩
         · have e1 : (k : Int) = (s.size : Int) := by omega
           subst e
           go_wp2_with (at_builtin; refine wpList_append_own _ rfl _ _ 44 rfl w.heap.size 9 i0 (.string ⟨#[]⟩) 1 16 Tryd.underlying44 hi0 hz0 hz1 hz2 rfl (by decide) u4 ts.length (svs ts) rfl (World.ownsRow.alloc hI.out.2.2.2.1 _) ⟨wr.heap.size, 0, none⟩ 1 1 [.string q] rfl rfl (cell_one_new _ _ _) (by simp [Value.oneCell']) (by unfold maxLen; have := HTL.out; omega) (by have := HTL.out; omega) (by have := hI.out.2.2.2.2.size; simp; omega) ?_; intro v' W4 hown hgrow _; rw [← HSV.out] at hown; have HR := Lib.hid (And.intro (Sr.grew hown hI.out.2.2.2.1) (below_grew hI.out.2.2.2.2 hI.out.2.2.2.1 hgrow)); clear hown hgrow)
           go_ret2
           exact WdR.yes HE.out.1 HE.out.2 HR.out.1 HR.out.2
         · have e1 : ¬ ((k : Int) = (s.size : Int)) := by omega
           have e2 : (k : Int) < (s.size : Int) := by omega
           have f0 : ((k : Int) == (s.size : Int)) = false := by simp; omega
           go_wp2_with (at_builtin; refine wpList_append_own _ rfl _ _ 44 rfl w.heap.size 9 i0 (.string ⟨#[]⟩) 1 16 Tryd.underlying44 hi0 hz0 hz1 hz2 rfl (by decide) u4 ts.length (svs ts) rfl (World.ownsRow.alloc hI.out.2.2.2.1 _) ⟨wr.heap.size, 0, none⟩ 1 1 [.string q] rfl rfl (cell_one_new _ _ _) (by simp [Value.oneCell']) (by unfold maxLen; have := HTL.out; omega) (by have := HTL.out; omega) (by have := hI.out.2.2.2.2.size; simp; omega) ?_; intro v' W4 hown hgrow _; rw [← HSV.out] at hown; have HR := Lib.hid (And.intro (Sr.grew hown hI.out.2.2.2.1) (below_grew hI.out.2.2.2.2 hI.out.2.2.2.1 hgrow)); clear hown hgrow)
           go_ret2
           exact WdR.yes HE.out.1 HE.out.2 HR.out.1 HR.out.2
   · have hklt : k < l.length := Nat.lt_of_not_le fun e => hfin fun h => absurd h (Nat.not_lt.2 e)
     have hne : l[k] ≠ 35 := fun e => hfin (fun _ => e)
     have hks : k < s.size := by rw [HZ.out]; exact hklt
     have e1 : ¬ ((k : Int) = (s.size : Int)) := by omega
     have e2 : (k : Int) < (s.size : Int) := by omega
     have f0 : ((k : Int) == (s.size : Int)) = false := by simp; omega
     obtain ⟨n, hn⟩ : ∃ n, Hid (l[k].toNat = n) := ⟨_, Lib.hid rfl⟩
     have hv : (((s[k]'hks).toNat : Nat) : Int) = (n : Int) := by rw [HB.out k hks hklt, hn.out]
     have n35 : ¬ ((n : Int) = 35) := fun e => hne (UInt8.toNat.inj (by rw [hn.out]; show n = 35; omega))
     have HG : Hid (gd l[k] = (decide (33 ≤ n) && decide (n ≤ 126) && !(n == 35))) := (by unfold gd; rw [hn.out] : gd l[k] = _)
     have HBl : Hid (bl l[k] = (n == 32 || n == 9 || n == 13)) := (by unfold bl; rw [hn.out] : bl l[k] = _)
     have HNE := Lib.hid hne
     clear hfin hne
     by_cases hblk : n = 32 ∨ n = 9 ∨ n = 13
     · have hbl : bl l[k] = true := by rw [HBl.out]; rcases hblk with rfl | rfl | rfl <;> rfl
       by_cases hlong : 400 < q.size
       · have hlong' : (400 : Int) < (q.size : Int) := by omega
         have HN := Lib.hid (hI.out.2.1.long (hI.out.2.1.blank hklt hbl) (by rw [hx.out, ← HQS.out]; exact hlong))
         clear HG HBl n35 hbl
         rcases hblk with rfl | rfl | rfl
         all_goals
           go_wp2
           go_ret2
           exact WdR.no HN.out hI.out.2.2.2.2
       · have hlong' : ¬ ((400 : Int) < (q.size : Int)) := by omega
         have HNx := Lib.hid (hI.out.2.1.next hklt hbl (by rw [hx.out, ← HQS.out]; omega))
         rw [hx.out] at HNx
         clear HG HBl n35 hbl
         by_cases h0 : x = []
         · have e3 : (q.toList == []) = true := by rw [HQE.out, h0]; rfl
           have HE : Hid (WInv l (k + 1) (k + 1) ts) := by
             have := HNx.out
             rw [h0] at this
             refine Lib.hid ?_
             simpa [one] using this
           have HS2 := Lib.hid (And.intro hI.out.2.2.1 hI.out.2.2.2)
           clear HNx HQE
           rcases hblk with rfl | rfl | rfl
           all_goals
             go_wp2
             refine ⟨⟨k + 1, k + 1, ⟨#[]⟩, ts, by omega, by go_num, rfl, ?_, ?_, HE.out, Nat.le_succ_of_le HS2.out.1, HS2.out.2⟩, ?_⟩
             · show 0 + (k + 1) = k + 1; omega
             · simp
             · simp [RowKit.intOf]; omega
         · have e3 : (q.toList == []) = false := by rw [HQE.out]; cases x with
             | nil => exact absurd rfl h0
             | cons a r => rfl
           have HE : Hid (WInv l (k + 1) (k + 1) (ts ++ [x])) := by
             have := HNx.out
             rw [one_ne h0] at this
             exact this
           clear HNx HQE
           rcases hblk with rfl | rfl | rfl
           all_goals
             go_wp2_with (at_builtin; refine wpList_append_own _ rfl _ _ 44 rfl w.heap.size 9 i0 (.string ⟨#[]⟩) 1 16 Tryd.underlying44 hi0 hz0 hz1 hz2 rfl (by decide) u4 ts.length (svs ts) rfl (World.ownsRow.alloc hI.out.2.2.2.1 _) ⟨wr.heap.size, 0, none⟩ 1 1 [.string q] rfl rfl (cell_one_new _ _ _) (by simp [Value.oneCell']) (by unfold maxLen; have := HTL.out; omega) (by have := HTL.out; omega) (by have := hI.out.2.2.2.2.size; simp; omega) ?_; intro v' W4 hown hgrow _; rw [← HSV.out] at hown; have HR := Lib.hid (And.intro (Sr.grew hown hI.out.2.2.2.1) (below_grew hI.out.2.2.2.2 hI.out.2.2.2.1 hgrow)); clear hown hgrow)
             refine ⟨⟨k + 1, k + 1, ⟨#[]⟩, ts ++ [x], by omega, by go_num, rfl, ?_, ?_, HE.out, ?_, HR.out⟩, ?_⟩
             · show 0 + (k + 1) = k + 1; omega
             · simp
             · have := hI.out.2.2.1; simp; omega
             · simp [RowKit.intOf]; omega
     · have hbl : bl l[k] = false := by rw [HBl.out]; simp; omega
       have d1 : ¬ ((n : Int) = 32) := by omega
       have d2 : ¬ ((n : Int) = 9) := by omega
       have d3 : ¬ ((n : Int) = 13) := by omega
       have f1 : ((n : Int) == 32) = false := by simp; omega
       have f2 : ((n : Int) == 9) = false := by simp; omega
       have f3 : ((n : Int) == 13) = false := by simp; omega
       have f4 : ((n : Int) == 35) = false := by simp; omega
       by_cases hg : 33 ≤ n ∧ n ≤ 126
       · have hgd : gd l[k] = true := by rw [HG.out]; simp; omega
         have HNx := Lib.hid (hI.out.2.1.good hklt hgd)
         have d4 : ¬ ((n : Int) < 33) := by omega
         have d5 : ¬ ((126 : Int) < (n : Int)) := by omega
         have hst : (k : Int) - (q.size : Int) = (st : Int) := by omega
         have hst0 : (0 : Int) ≤ (st : Int) := by omega
         have hst1 : (st : Int) ≤ (k : Int) + 1 := by omega
         have hst2 : (k : Int) + 1 ≤ (s.size : Int) := by omega
         have HX1 := Lib.hid (HX.out st (k + 1))
         have hX2 : (s.extract st (k + 1)).size = k + 1 - st := by
           rw [Lib.size_eq, HX1.out]
           show ((l.drop st).take (k + 1 - st)).length = _
           rw [List.length_take, List.length_drop]; omega
         have HX2 := Lib.hid hX2
         have HS2 := Lib.hid (And.intro hI.out.2.2.1 hI.out.2.2.2)
         have HKS : Hid (st ≤ k) := (by omega : st ≤ k)
         clear HG HBl hbl hgd hX2 HX HQE
         go_wp2
         refine ⟨⟨k + 1, st, s.extract st (k + 1), ts, by omega, by go_num, rfl, ?_, ?_, HNx.out, Nat.le_succ_of_le HS2.out.1, HS2.out.2⟩, ?_⟩
         · rw [HX2.out]; have := HKS.out; omega
         · rw [HX1.out]
         · simp [RowKit.intOf]; omega
       · have hgd : gd l[k] = false := by rw [HG.out]; simp; omega
         have HN := Lib.hid (hI.out.2.1.bad hklt HNE.out hbl hgd)
         clear HG HBl hbl hgd HQE HX
         have hd : (n : Int) < 33 ∨ (126 : Int) < (n : Int) := by omega
         rcases hd with d4 | d4
         · go_wp2
           go_ret2
           exact WdR.no HN.out hI.out.2.2.2.2
         · have d5 : ¬ ((n : Int) < 33) := by omega
           go_wp2
           go_ret2
           exact WdR.no HN.out hI.out.2.2.2.2
end

/- The document's side of layer 9: Read. -/
section
set_option maxRecDepth 100000
open Go.RowKit Go.Shelf Go.Lib
structure RdI (t : Bs) (st k : Nat) (done : List Bs) : Prop where
 all : lns t = done ++ (if st ≤ t.length then lns (t.drop st) else [])
 free : ∀ c ∈ cw t st k, c ≠ 10
 none : bad 1 done = none
 le : st ≤ k
 fin : k = t.length + 1 → st = k
theorem RdI.start (t : Bs) : RdI t 0 0 [] := ⟨rfl, fun c hc => by simp [cw] at hc, rfl, Nat.le_refl _, fun h => by omega⟩
theorem RdI.done {t : Bs} {st : Nat} {done : List Bs} (h : RdI t st (t.length + 1) done) : lns t = done := by
 have := h.all
 rw [h.fin rfl, if_neg (by omega), List.append_nil] at this
 exact this
theorem RdI.go {t : Bs} {st k : Nat} {done : List Bs} (h : RdI t st k done) (hk : k < t.length) (hc : t[k] ≠ 10) : RdI t st (k + 1) done := by
 refine ⟨h.all, fun c hc' => ?_, h.none, by have := h.le; omega, fun e => by omega⟩
 have := h.le
 unfold cw at hc'
 rw [show k + 1 - st = (k - st) + 1 by omega, List.take_add_one] at hc'
 rcases List.mem_append.1 hc' with e | e
 · exact h.free c e
 · rw [List.getElem?_drop, show st + (k - st) = k by omega, List.getElem?_eq_getElem hk] at e
   obtain rfl : c = t[k] := by simpa using e
   exact hc
theorem RdI.line {t : Bs} {st k : Nat} {done : List Bs} (h : RdI t st k done) (hk : k ≤ t.length) (hc : ∀ hk : k < t.length, t[k] = 10) : lns t = done ++ cw t st k :: (if k + 1 ≤ t.length then lns (t.drop (k + 1)) else []) := by
 rw [h.all, if_pos (by have := h.le; omega)]
 congr 1
 have e := cw_drop (l := t) h.le
 by_cases hlt : k < t.length
 · rw [e, List.drop_eq_getElem_cons hlt, hc hlt, lns_app h.free, if_pos (by omega : k + 1 ≤ t.length)]
 · rw [if_neg (by omega : ¬ k + 1 ≤ t.length), e, List.drop_of_length_le (by omega), List.append_nil, lns_none (fun hm => h.free 10 hm rfl)]
theorem RdI.bad {t : Bs} {st k : Nat} {done : List Bs} (h : RdI t st k done) (hk : k ≤ t.length) (hc : ∀ hk : k < t.length, t[k] = 10) (he : lineE (cw t st k) ≠ 0) : bad 1 (lns t) = some (done.length + 1, lineE (cw t st k)) := by
 rw [h.line hk hc, bad_app h.none, Go.Proofs.YtgfloegaoofbbaaDoor.bad, if_neg he, Nat.add_comm]
theorem RdI.step {t : Bs} {st k : Nat} {done : List Bs} (h : RdI t st k done) (hk : k ≤ t.length) (hc : ∀ hk : k < t.length, t[k] = 10) (he : lineE (cw t st k) = 0) : RdI t (k + 1) (k + 1) (done ++ [cw t st k]) := by
 refine ⟨by rw [h.line hk hc, List.append_assoc]; rfl, fun c hc => by simp [cw] at hc, ?_, Nat.le_refl _, fun _ => rfl⟩
 rw [bad_app h.none, Go.Proofs.YtgfloegaoofbbaaDoor.bad, if_pos he]; rfl
theorem RdI.dlen {t : Bs} {st k : Nat} {done : List Bs} (h : RdI t st k done) : done.length ≤ t.length + 1 := by
 have := lns_len t
 rw [h.all, List.length_append] at this
 omega
theorem lineE_is {l : Bs} : lineE l = if 65536 < l.length then 3 else if (lineW l).all mayW then 0 else 4 := rfl
theorem Lr.below_grew {e : TypeId} {w W W2 : World} {v : Value} {ps : List Lt} {tmp : Obj} (hb : Below w.heap.size w W) (h : Lr e W w.heap.size v ps) (hg : (W.alloc tmp).grownBy W2 v.ownBlock) : Below w.heap.size w W2 := Go.Proofs.YtgfloegaoofbbaaDoor.below_grew hb h.own hg
set_option maxRecDepth 100000 in
set_option maxHeartbeats 8000000 in
theorem refRead_any (s : ByteArray) (t : Bs) (w : World) (ht : s.data.toList = t) (hl : t.length ≤ 16777216) :
   Calls Tryd.prog 8 #[.string s] w fun e w' => ReadR 46 w w' t e := by
 have hsz : s.size = t.length := by rw [Lib.size_eq, ht]
 have h1 : ¬ ((16777216 : Int) < (s.size : Int)) := by omega
 have h2 : (s.size : Int) ≤ 16777216 := by omega
 have HL := Lib.hid hl
 have HZ := Lib.hid hsz
 have HB : Hid (∀ (k : Nat) (h1 : k < s.size) (h2 : k < t.length), s[k]'h1 = t[k]) := fun k g1 g2 => by
   have e : s = ⟨t.toArray⟩ := by rw [← ht]
   subst e
   exact byte_atL g1 g2
 have HX : Hid (∀ st k, (s.extract st k).data.toList = cw t st k) := fun st k => by rw [Lib.extract_eq, ht]
 obtain ⟨i0, hi0, hz0, hz1, hz2⟩ := info_parts (show (Tryd.prog.info? 46).map (fun i => (i.zero, i.size, i.bytes)) = some (some (.agg #[.int .i64 0, .slice none 0 0]), 2, 32) by kernel_rfl)
 clear ht hl hsz
 go_enter Tryd.func8, Tryd.ntmps8
 go_wp2
 go_loopw [5, 6, 7, 8] (fun s5 s6 s7 s8 wr => ∃ (k st : Nat) (ps : List Lt) (done : List Bs), k ≤ s.size + 1 ∧ s8 = .int .i64 (k : Nat) ∧ s7 = .int .i64 (st : Nat) ∧ st ≤ k ∧ s6 = .int .i64 ((done.length + 1 : Nat) : Int) ∧ Hid (RdI t st k done ∧ tell ps = good 1 done ∧ Lr 46 wr w.heap.size s5 ps ∧ Below w.heap.size w wr)) (fun _ _ _ s8 _ => s.size + 1 - (RowKit.intOf s8).toNat)
 case atStart => exact ⟨0, 0, [], [], Nat.zero_le _, rfl, rfl, Nat.le_refl _, rfl, RdI.start t, rfl, Lr.nil _ _ _, Below.refl _ _⟩
 case round =>
   obtain ⟨k, st, ps, done, hk, rfl, rfl, hst, rfl, hI⟩ := hrel
   have hk0 : (0 : Int) ≤ (k : Int) := by omega
   have hst0 : (0 : Int) ≤ (st : Int) := by omega
   have hst' : (st : Int) ≤ (k : Int) := by omega
   have hdl : done.length ≤ 16777217 := by have := hI.out.1.dlen; have := HL.out; omega
   have hdl' : (done.length : Int) ≤ 16777217 := by omega
   have LN : Hid (ps.length ≤ 16777217) := by
     show ps.length ≤ _
     have e := congrArg List.length hI.out.2.1
     have := good_len done 1
     rw [← e] at this
     simp [tell] at this
     omega
   by_cases hend : k = s.size + 1
   · have HF : Hid (rdV t = (good 1 done, 0, 0)) := by
       show rdV t = _
       have h := hI.out.1
       rw [hend, HZ.out] at h
       rw [rdV_good HL.out (by rw [h.done]; exact h.none), h.done]
     have hgt : ¬ ((k : Int) ≤ (s.size : Int)) := by omega
     go_wp2
     go_ret3
     exact ⟨_, ps, by rw [HF.out]; rfl, hI.out.2.2.1, by rw [HF.out]; exact hI.out.2.1, hI.out.2.2.2⟩
   · have hkl : (k : Int) ≤ (s.size : Int) := by omega
     have hks : k ≤ t.length := by have := HZ.out; omega
     by_cases hnl : ∀ h : k < t.length, t[k] = 10
     · have hnl2 : (¬ ((k : Int) < (s.size : Int))) ∨ ((k : Int) < (s.size : Int) ∧ ∃ h : k < s.size, ((s[k]'h).toNat : Int) = 10) := by
         by_cases e : k = s.size
         · exact Or.inl (by omega)
         · have h1 : k < s.size := by omega
           have h2 : k < t.length := by rw [← HZ.out]; exact h1
           exact Or.inr ⟨by omega, h1, by rw [HB.out k h1 h2, hnl h2]; rfl⟩
       obtain ⟨ln, hln⟩ : ∃ ln, Hid (cw t st k = ln) := ⟨_, Lib.hid rfl⟩
       have HLL : Hid (ln.length = k - st) := (by rw [← hln.out]; exact cw_len hks : ln.length = k - st)
       have HBad : Hid (∀ e : Nat, e ≠ 0 → lineE ln = e → rdV t = ([], done.length + 1, e)) := fun e h0 he => by
         have := hI.out.1.bad hks hnl (by rw [hln.out, he]; exact h0)
         rw [hln.out, he] at this
         exact rdV_bad HL.out this
       have HStep : Hid (lineE ln = 0 → RdI t (k + 1) (k + 1) (done ++ [ln])) := fun he => by
         have := hI.out.1.step hks hnl (by rw [hln.out]; exact he)
         rwa [hln.out] at this
       clear hnl
       by_cases hlong : 65536 < k - st
       · have hlong' : (65536 : Int) < (k : Int) - (st : Int) := by omega
         have HE := Lib.hid (HBad.out 3 (by omega) (by rw [lineE_is, if_pos (by rw [HLL.out]; exact hlong)]))
         clear HBad HStep
         rcases hnl2 with e1 | ⟨e1, q1, q2⟩
         · go_wp2
           go_ret3
           exact ⟨_, [], by rw [HE.out]; rfl, Lr.nil _ _ _, by rw [HE.out]; rfl, hI.out.2.2.2⟩
         · go_wp2
           go_ret3
           exact ⟨_, [], by rw [HE.out]; rfl, Lr.nil _ _ _, by rw [HE.out]; rfl, hI.out.2.2.2⟩
       · have hlong' : ¬ ((65536 : Int) < (k : Int) - (st : Int)) := by omega
         obtain ⟨q, hq⟩ : ∃ q, s.extract st k = q := ⟨_, rfl⟩
         have HWo : Hid (∀ W, Calls Tryd.prog 15 #[.string q] W fun e w' => WdR W w' ln e) := fun W => by
           refine refWords_any q ln W (by rw [← hq, HX.out, hln.out]) ?_
           rw [HLL.out]; omega
         clear HX
         obtain ⟨ok, hok⟩ : ∃ ok, Hid ((lineW ln).all mayW = ok) := ⟨_, Lib.hid rfl⟩
         cases ok
         · have HE := Lib.hid (HBad.out 4 (by omega) (by rw [lineE_is, if_neg (by rw [HLL.out]; exact hlong), hok.out]; rfl))
           have HW2 : Hid (∀ W, Calls Tryd.prog 15 #[.string q] W fun e w' => e = .returned (.tuple #[.slice none 0 0, .bool false]) ∧ Below W.heap.size W w') := fun W => by
             refine (HWo.out W).mono ?_
             rintro e w' ⟨⟨v, rfl, g1, g2⟩, hb⟩
             rw [g2 hok.out, hok.out]
             exact ⟨rfl, hb⟩
           clear HBad HStep HWo
           rcases hnl2 with e1 | ⟨e1, q1, q2⟩
           all_goals
             go_wp2_with (go_at_call 15; refine (HW2.out _).mono ?_; rintro e W2 ⟨rfl, hb2⟩; have HB2 := Lib.hid (hI.out.2.2.2.trans (hb2.mono hI.out.2.2.2.size)); clear hb2)
             go_ret3
             exact ⟨_, [], by rw [HE.out]; rfl, Lr.nil _ _ _, by rw [HE.out]; rfl, HB2.out⟩
         · have hst2 := HStep.out (by rw [lineE_is, if_neg (by rw [HLL.out]; exact hlong), hok.out]; rfl)
           have HST := Lib.hid hst2
           have HW2 : Hid (∀ W, Calls Tryd.prog 15 #[.string q] W fun e w' => ∃ a c, e = .returned (.tuple #[.slice a (lineW ln).length c, .bool true]) ∧ Sr w' W.heap.size (.slice a (lineW ln).length c) (lineW ln) ∧ Below W.heap.size W w') := fun W => by
             refine (HWo.out W).mono ?_
             rintro e w' ⟨⟨v, rfl, g1, g2⟩, hb⟩
             have hS := g1 hok.out
             obtain ⟨a, c, rfl, _, _⟩ := hS.form
             exact ⟨a, c, by rw [hok.out], hS, hb⟩
           obtain ⟨ws, hws⟩ : ∃ ws, Hid (lineW ln = ws) := ⟨_, Lib.hid rfl⟩
           rw [hws.out] at HW2
           have HG : Hid (good 1 (done ++ [ln]) = good 1 done ++ (if ws.isEmpty then [] else [(done.length + 1, ws)])) := by
             show good 1 (done ++ [ln]) = _
             rw [good_step, hws.out]
           have hwl : ws.length ≤ 65537 := by
             rw [← hws.out]
             have g1 := toks_len (ahd ln)
             have g2 : (ahd ln).length ≤ ln.length := cutT_len _ _
             have g3 := HLL.out
             show (toks (ahd ln)).length ≤ _
             omega
           have hkk : k + 1 ≤ s.size + 1 := by omega
           have HMs : Hid (s.size + 1 - (k + 1) < s.size + 1 - k) := (by omega : s.size + 1 - (k + 1) < s.size + 1 - k)
           clear HBad HStep HWo hst2
           by_cases hw0 : ws = []
           · have hwn : ws.length = 0 := by rw [hw0]; rfl
             rw [hwn] at HW2
             have HI2 : Hid (tell ps = good 1 (done ++ [ln])) := by
               show tell ps = _
               rw [HG.out, hw0]; simp [hI.out.2.1]
             clear hw0 hwn hwl
             rcases hnl2 with e1 | ⟨e1, q1, q2⟩
             all_goals
               go_wp2_with (go_at_call 15; refine (HW2.out _).mono ?_; rintro e W2 ⟨wa, wc, rfl, hS2, hb2⟩; have HB2 := Lib.hid (And.intro (hI.out.2.2.1.later hb2) (hI.out.2.2.2.trans (hb2.mono hI.out.2.2.2.size))); clear hb2 hS2)
               go_roundw
               case rel => exact ⟨k + 1, k + 1, ps, done ++ [ln], hkk, by go_num, by go_num, Nat.le_refl _, by rw [List.length_append]; go_num, HST.out, HI2.out, HB2.out⟩
               case measure => simp [RowKit.intOf]; omega
           · have hwz : (0 : Int) < (ws.length : Int) := by
               have := List.length_pos_iff.2 hw0
               omega
             have hwl' : (ws.length : Int) ≤ 65537 := by omega
             have HI2 : Hid (∀ wv, tell (ps ++ [(done.length + 1, ws, wv)]) = good 1 (done ++ [ln])) := fun wv => by
               rw [HG.out, ← hI.out.2.1]
               cases ws with
               | nil => exact absurd rfl hw0
               | cons x r => simp [tell]
             have HWN := Lib.hid hw0
             clear hw0 hwl
             rcases hnl2 with e1 | ⟨e1, q1, q2⟩
             all_goals
               go_wp2_with (first
                 | (go_at_call 15; refine (HW2.out _).mono ?_; rintro e W2 ⟨wa, wc, rfl, hS2, hb2⟩; have HB2 := Lib.hid (And.intro (hI.out.2.2.1.later hb2) (hI.out.2.2.2.trans (hb2.mono hI.out.2.2.2.size))); have HS2 := Lib.hid (hS2.base (show w.heap.size ≤ wr.heap.size from hI.out.2.2.2.size)); have HFr := Lib.hid (hI.out.2.2.1.fresh hS2 (Nat.le_refl _) HWN.out); clear hb2 hS2)
                 | (at_builtin; refine wpList_append_own _ rfl _ _ 41 rfl w.heap.size 46 i0 (.agg #[.int .i64 0, .slice none 0 0]) 2 32 Tryd.underlying41 hi0 hz0 hz1 hz2 rfl (by decide) u5 ps.length (lcs ps) rfl (World.ownsRow.alloc HB2.out.1.own _) ⟨W2.heap.size, 0, none⟩ 1 1 [.int .i64 ((done.length + 1 : Nat) : Int), .slice wa ws.length wc] rfl rfl (cell_two_new _ _ _ _) (by simp [Value.oneCell']) (by unfold maxLen; have := LN.out; omega) (by have := LN.out; omega) (by have := HB2.out.2.size; simp; omega) ?_; intro v' W4 hown hgrow _; have HR4 := Lib.hid (And.intro (HB2.out.1.grew (p := (done.length + 1, ws, .slice wa ws.length wc)) (by decide) HS2.out HFr.out hown hgrow) (HB2.out.1.below_grew HB2.out.2 hgrow)); clear hown hgrow))
               go_roundw
               case rel => exact ⟨k + 1, k + 1, ps ++ [(done.length + 1, ws, .slice wa ws.length wc)], done ++ [ln], hkk, by go_num, by go_num, Nat.le_refl _, by rw [List.length_append]; go_num, HST.out, HI2.out _, HR4.out⟩
               case measure => simp [RowKit.intOf]; omega
     · have hklt : k < t.length := Nat.lt_of_not_le fun e => hnl fun h => absurd h (Nat.not_lt.2 e)
       have hne : t[k] ≠ 10 := fun e => hnl (fun _ => e)
       have hks2 : k < s.size := by rw [HZ.out]; exact hklt
       have e1 : (k : Int) < (s.size : Int) := by omega
       have HGo := Lib.hid (hI.out.1.go hklt hne)
       have d1 : ¬ ((((s[k]'hks2).toNat : Nat) : Int) = 10) := by
         rw [HB.out k hks2 hklt]
         exact fun e => hne (UInt8.toNat.inj (by show t[k].toNat = 10; omega))
       have d2 : ((((s[k]'hks2).toNat : Nat) : Int) == 10) = false := by simpa using d1
       have d3 : ((((s[k]'hks2).toNat : Nat) : Int) != 10) = true := by simpa using d1
       have HI3 := Lib.hid hI.out.2
       clear hnl hne HX
       go_wp2
       go_roundw
       case rel => exact ⟨k + 1, st, ps, done, by omega, by go_num, rfl, by omega, rfl, HGo.out, HI3.out⟩
       case measure => simp [RowKit.intOf]; omega
end

/- Lists of lists of texts that are handed in, opened. -/
section
set_option maxRecDepth 100000
open Go.ChangeShapes Go.WideShapes Go.ChangeAt Go.RowKit Go.Deep Go.Lib
end

/- Lists of lists of texts that are handed in, opened, with their bounds. -/
section
set_option maxRecDepth 100000
open Go.ChangeShapes Go.WideShapes Go.ChangeAt Go.RowKit Go.Deep Go.Lib
end
end Go.Proofs.YtgfloegaoofbbaaDoor
