/- Own texts, put together: Be. -/
import Derived.Test.YtgoadpnoagaflaaGreatDoorQ4
import Derived.Test.YtgoadpnoagaflaaGreatDoorQ18
import Derived.Maps.AppendAt
/- Package lines: wordsOf. -/
namespace Go.Proofs.YtgoadpnoagaflaaGreatDoor
set_option maxRecDepth 100000
open Go.RowKit Go.Shelf Go.Lib
attribute [local go_sem] Oper.semAt_some
theorem own_later {w w' : World} {base e size n : Nat} {v : Value} {xs : List Value} (h : w.ownsRow base e size v n xs) (hb : Below w.heap.size w w') : w'.ownsRow base e size v n xs := by
 obtain ⟨hl, h⟩ := h
 refine ⟨hl, ?_⟩
 rcases h with h | ⟨g, cap, cur, e1, h1, h2, h3⟩
 · exact Or.inl h
 · refine Or.inr ⟨g, cap, cur, e1, h1, ?_, h3⟩
   have hg : g < w.heap.size := by
     rcases Nat.lt_or_ge g w.heap.size with e | e
     · exact e
     · rw [Array.getElem?_eq_none e] at h2; cases h2
   rw [hb.block g hg]; exact h2
theorem own_base {w : World} {base base' e size n : Nat} {v : Value} {xs : List Value} (h : w.ownsRow base e size v n xs) (hb : base' ≤ base) : w.ownsRow base' e size v n xs := by
 obtain ⟨hl, h⟩ := h
 refine ⟨hl, ?_⟩
 rcases h with h | ⟨g, cap, cur, e1, h1, h3⟩
 · exact Or.inl h
 · exact Or.inr ⟨g, cap, cur, e1, by omega, h3⟩
theorem own_setL {w : World} {base e size n : Nat} {v : Value} {xs : List Value} (h : w.ownsRow base e size v n xs) {a : Addr} (ha : a.block < base) (x : Value) : (w.setCell a x).ownsRow base e size v n xs := by
 obtain ⟨hl, h⟩ := h
 refine ⟨hl, ?_⟩
 rcases h with h | ⟨g, cap, cur, e1, h1, h2, h3⟩
 · exact Or.inl h
 · refine Or.inr ⟨g, cap, cur, e1, h1, ?_, h3⟩
   rw [Below.heap_setCell _ _ _ _ (by omega)]; exact h2
abbrev svs (ws : List Bs) : List Value := ws.map sv
def Sr (W : World) (B : Nat) (v : Value) (ws : List Bs) : Prop := W.ownsRow B 9 1 v ws.length (svs ws)
theorem Sr.later {W W' : World} {B : Nat} {v : Value} {ws : List Bs} (h : Sr W B v ws) (hb : Below W.heap.size W W') : Sr W' B v ws := own_later h hb
theorem Sr.base {W : World} {B B' : Nat} {v : Value} {ws : List Bs} (h : Sr W B v ws) (hb : B' ≤ B) : Sr W B' v ws := own_base h hb
structure Wo (w W : World) (v : Value) (ws : List Bs) : Prop where
 b2 : Boxed W w.heap.size 48 (.slice none 0 0)
 b3 : Boxed W (w.heap.size + 1) 27 (.int .i64 0)
 b4 : Boxed W (w.heap.size + 1 + 1) 48 v
 row : Sr W (w.heap.size + 4) v ws
 bel : Below w.heap.size w W
 siz : w.heap.size + 4 ≤ W.heap.size
theorem boxed_belowB {W W' : World} {B b : Nat} {t : TypeId} {v : Value} (h : Boxed W b t v) (hb : Below B W W') (hl : b < B) : Boxed W' b t v := (hb.block b hl).trans h
theorem keeps_below {W W' : World} (h : Below W.heap.size W W') : KeepsOthers W W' := ⟨h.size, fun k _ hk _ => (h.block k (Array.getElem?_eq_some_iff.1 hk).1).trans hk⟩
theorem Wo.later {w W W' : World} {v : Value} {ws : List Bs} (h : Wo w W v ws) (hb : Below W.heap.size W W') : Wo w W' v ws :=
 ⟨boxed_belowB h.b2 hb h.b2.lt, boxed_belowB h.b3 hb h.b3.lt, boxed_belowB h.b4 hb h.b4.lt, h.row.later hb, h.bel.trans (hb.mono h.bel.size), Nat.le_trans h.siz hb.size⟩
theorem Wo.own {w A A' : World} {v : Value} {ws : List Bs} {row : Option Nat} {B : Nat} (h : Wo w A v ws) (hB : w.heap.size ≤ B) (hg : A.grownBy A' row) (hr : ∀ r, row = some r → B ≤ r ∧ ∃ o : Obj, A.heap[r]? = some o ∧ o.isCells = false) : Wo w A' v ws := by
 have key : ∀ (b : Nat) (cs : Array Value) (t : TypeId) (f : Nat × Nat), A.heap[b]? = some (.cells cs t f) → some b ≠ row := fun b cs t f hb e => by
   obtain ⟨_, o, ho, hc⟩ := hr b e.symm
   rw [hb] at ho
   cases ho
   cases hc
 refine ⟨h.b2.kept hg (key _ _ _ _ h.b2), h.b3.kept hg (key _ _ _ _ h.b3), h.b4.kept hg (key _ _ _ _ h.b4), World.ownsRow.kept h.row hg ?_, h.bel.grown hg h.bel.size (fun k e => Nat.le_trans hB (hr k e).1), Nat.le_trans h.siz hg.size⟩
 rcases h.row.2 with ⟨h1, _⟩ | ⟨g, cap, cur, h1, h2, h3, h4⟩
 · left; rw [h1]; rfl
 · right
   rw [h1]
   exact key g _ _ _ h3
theorem Wo.grew {w W W2 : World} {v v' : Value} {ws : List Bs} {x : Bs} {tmp : Obj} (h : Wo w W v ws) (hown : W2.ownsRow (w.heap.size + 4) 9 1 v' (ws.length + 1) (svs ws ++ [sv x])) (hg : (W.alloc tmp).grownBy W2 v.ownBlock) :
   Boxed W2 (w.heap.size + 1 + 1) 48 v ∧ Wo w (W2.setCell ⟨w.heap.size + 1 + 1, 0, none⟩ v') v' (ws ++ [x]) ∧ KeepsOthers W (W2.setCell ⟨w.heap.size + 1 + 1, 0, none⟩ v') := by
 have ap : ∀ k, v.ownBlock = some k → w.heap.size + 4 ≤ k := fun k hk => (World.ownsRow.lt h.row k hk).1
 have h2 : Boxed W2 w.heap.size 48 (.slice none 0 0) := (h.b2.alloc tmp).kept hg (fun e => by have := ap _ e.symm; omega)
 have h3 : Boxed W2 (w.heap.size + 1) 27 (.int .i64 0) := (h.b3.alloc tmp).kept hg (fun e => by have := ap _ e.symm; omega)
 have h4 : Boxed W2 (w.heap.size + 1 + 1) 48 v := (h.b4.alloc tmp).kept hg (fun e => by have := ap _ e.symm; omega)
 have hs2 := hg.size
 simp only [World.size_alloc] at hs2
 have hz := h.siz
 have hb2 : Below w.heap.size W W2 := ((Below.refl _ W).alloc (by omega) _).grown hg (by simp; omega) (fun k hk => by have := ap k hk; omega)
 have hF : Sr W2 (w.heap.size + 4) v' (ws ++ [x]) := by
   unfold Sr
   rw [List.length_append]
   simpa [svs] using hown
 have hk : KeepsOthers W W2 := ⟨by omega, fun k o hk ho => by
   have hlt := (Array.getElem?_eq_some_iff.1 hk).1
   rw [hg.block k (by simp; omega) (fun e => ?_), Below.heap_alloc _ _ _ hlt]
   · exact hk
   · rcases h.row.2 with ⟨h1, _⟩ | ⟨g, cap, cur, h1, h2, h3', h4'⟩
     · rw [h1] at e; simp [Value.ownBlock] at e
     · rw [h1] at e
       obtain rfl : k = g := by simpa [Value.ownBlock] using e
       rw [h3'] at hk
       cases hk
       cases ho⟩
 exact ⟨h4, ⟨h2.other (by omega) _, h3.other (by omega) _, h4.set _, own_setL hF (by show w.heap.size + 1 + 1 < _; omega) _, (h.bel.trans hb2).setCell (by show w.heap.size ≤ w.heap.size + 1 + 1; omega) _, by simp only [World.setCell, Array.size_modify]; omega⟩, hk.trans (KeepsOthers.setCell _ _ _)⟩
theorem wo_start (w : World) (x : Value) : Wo w ((((w.alloc (.cells #[.slice none 0 0] 48)).alloc (.cells #[.int .i64 0] 27)).alloc (.cells #[.slice none 0 0] 48)).alloc (.cells #[x] 9)) (.slice none 0 0) [] ∧
   Boxed ((((w.alloc (.cells #[.slice none 0 0] 48)).alloc (.cells #[.int .i64 0] 27)).alloc (.cells #[.slice none 0 0] 48)).alloc (.cells #[x] 9)) (w.heap.size + 1 + 1 + 1) 9 x := by
 have b3 := Boxed.new w 48 (.slice none 0 0)
 have b4 := Boxed.new (w.alloc (.cells #[.slice none 0 0] 48)) 27 (.int .i64 0)
 have b5 := Boxed.new ((w.alloc (.cells #[.slice none 0 0] 48)).alloc (.cells #[.int .i64 0] 27)) 48 (.slice none 0 0)
 have b6 := Boxed.new (((w.alloc (.cells #[.slice none 0 0] 48)).alloc (.cells #[.int .i64 0] 27)).alloc (.cells #[.slice none 0 0] 48)) 9 x
 simp only [World.size_alloc] at b4 b5 b6
 exact ⟨⟨((b3.alloc _).alloc _).alloc _, (b4.alloc _).alloc _, b5.alloc _, World.ownsRow_nil _ _ _ _, ((((Below.refl _ w).alloc (Nat.le_refl _) _).alloc (by simp) _).alloc (by simp; omega) _).alloc (by simp; omega) _, by simp⟩, b6⟩
def WordsR (w w' : World) (t : Bs) (e : Ending) : Prop := (∃ v, e = .returned (.tuple #[v, .int .i64 (lineE t : Nat)]) ∧ (lineE t = 0 → Sr w' w.heap.size v (lineW t)) ∧ (lineE t ≠ 0 → v = .slice none 0 0)) ∧ Below w.heap.size w w'
theorem res_words (W : World) (B0 B1 : Nat) (a : Option Addr) (n c : Nat) (e : Int) (tmps : Array Value) (h0 : W.cell? ⟨B0, 0, none⟩ = some (.slice a n c)) (h1 : W.cell? ⟨B1, 0, none⟩ = some (.int .i64 e))
   (t2 : tmps[2]? = some (.pointer (some ⟨B0, 0, none⟩))) (t3 : tmps[3]? = some (.pointer (some ⟨B1, 0, none⟩))) : (results Tryz.f36 tmps).run Tryz.prog W = .ok (.tuple #[.slice a n c, .int .i64 e]) W := by
 simp [results, Tryz.f36, go_sem, h0, h1, t2, t3]
set_option maxRecDepth 100000 in
set_option maxHeartbeats 4000000 in
theorem wordsOf_long (s : ByteArray) (t : Bs) (w : World) (ht : s.data.toList = t) (hlen : t.length ≤ 1000000000) (hl : 65536 < t.length) :
   Calls Tryz.prog 36 #[.string s] w fun e w' => WordsR w w' t e := by
 have hsz : s.size = t.length := by rw [Lib.size_eq, ht]
 have h1 : (65536 : Int) < (s.size : Int) := by omega
 have h2 : (s.size : Int) ≤ 1000000000 := by omega
 have HE : Hid (lineE t = 3) := (by unfold lineE; rw [if_pos hl] : lineE t = 3)
 clear hsz ht hl hlen
 go_enter Tryz.func36, Tryz.ntmps36
 go_wp2
 have b3 := Boxed.new w 48 (.slice none 0 0)
 have b4 := Boxed.new (w.alloc (.cells #[.slice none 0 0] 48)) 27 (.int .i64 3)
 rw [World.size_alloc] at b4
 refine bodyPost_ret (res_words _ w.heap.size (w.heap.size + 1) none 0 0 3 _ (b3.alloc _).cell b4.cell rfl rfl) rfl ?_
 refine ⟨⟨_, by rw [HE.out]; rfl, fun h => ?_, fun _ => rfl⟩, ((Below.refl _ w).alloc (Nat.le_refl _) _).alloc (by simp) _⟩
 rw [HE.out] at h; cases h
def WI (w : World) (pre : List Wl) (W : World) : Prop := ∃ v ws, ws = pre.map (·.1) ∧ Wo w W v ws ∧ ∀ x ∈ pre, mayW x.1 = true
theorem lineE_four {t : Bs} {pre : List Wl} {x : Wl} (hl : t.length ≤ 65536) (hp : (pre ++ [x]).map (·.1) <+: toks (ahd t)) (hx : mayW x.1 = false) : lineE t = 4 := by
 unfold lineE
 rw [if_neg (by omega), if_neg]
 intro h
 rw [List.all_eq_true] at h
 have := h x.1 (hp.subset (by simp))
 rw [hx] at this; cases this
set_option maxRecDepth 100000 in
set_option maxHeartbeats 4000000 in
theorem wordsOf_short (s : ByteArray) (t : Bs) (w : World) (ht : s.data.toList = t) (hl : t.length ≤ 65536) :
   Calls Tryz.prog 36 #[.string s] w fun e w' => WordsR w w' t e := by
 have hsz : s.size = t.length := by rw [Lib.size_eq, ht]
 have h1 : ¬ ((65536 : Int) < (s.size : Int)) := by omega
 have h2 : (s.size : Int) ≤ 65536 := by omega
 have HT := Lib.hid (And.intro ht hl)
 obtain ⟨i0, hi0, hz0, hz1, hz2⟩ := info_parts (show (Tryz.prog.info? 9).map (fun i => (i.zero, i.size, i.bytes)) = some (some (.string ⟨#[]⟩), 1, 16) by kernel_rfl)
 clear hsz ht hl
 refine (callsIn_wide (n := 5)).1 ?_
 refine callsIn_of_wp_marks Tryz.func36 rfl trivial ?_ rfl
 simp only [Tryz.ntmps36, List.size_toArray, List.length_cons, List.length_nil, Nat.reduceAdd, Nat.reduceSub, Array.replicate_succ, Array.replicate_zero, List.push_toArray, List.append_toArray, List.nil_append, List.cons_append]
 gi_wp2_with (first
   | (refine ⟨trivial, ?_⟩; gi_at_call 56; refine (told_in _ _ _).mono ?_; rintro e w' ⟨rfl, rfl⟩))
 obtain ⟨z0, b6⟩ := wo_start w (.string s)
 obtain ⟨W0, hW0⟩ : ∃ W0, ((((w.alloc (.cells #[.slice none 0 0] 48)).alloc (.cells #[.int .i64 0] 27)).alloc (.cells #[.slice none 0 0] 48)).alloc (.cells #[.string s] 9)) = W0 := ⟨_, rfl⟩
 have hs0 : W0.heap.size = w.heap.size + 4 := by rw [← hW0]; simp
 rw [hW0] at z0 b6 ⊢
 refine wpIn_rangeFunc_ownG rfl (by omega) (gf := 74) (lb := #[.pointer (some ⟨w.heap.size + 1 + 1 + 1, 0, none⟩)]) rfl trivial (enters_of Tryz.func74 (by kernel_rfl) rfl)
   (tell_stops _ (by omega) (w.heap.size + 1 + 1 + 1) s t HT.out.1 (by have := HT.out.2; omega) W0 b6)
   (fun _ _ => trivial)
   (fun _ _ _ _ _ _ _ _ => trivial)
   (Below.refl _ _) (fun _ => rfl)
   (WI w)
   (fun c pre W => c = .ret ∧ (∃ (p : List Wl) (x : Wl), pre = p ++ [x] ∧ mayW x.1 = false) ∧ W.cell? ⟨w.heap.size, 0, none⟩ = some (.slice none 0 0) ∧ W.cell? ⟨w.heap.size + 1, 0, none⟩ = some (.int .i64 4) ∧ Below w.heap.size w W)
   (fun s A B row hs hg hr => by obtain ⟨v, ws, h0, h1, h2⟩ := hs; exact ⟨v, ws, h0, h1.own z0.bel.size hg hr, h2⟩)
   (fun c s A B row hs hg hr => ⟨hs.1, hs.2.1, cell_kept hs.2.2.1 hg (fun r e => (hr r e).2), cell_kept hs.2.2.2.1 hg (fun r e => (hr r e).2), hs.2.2.2.2.grown hg hs.2.2.2.2.size (fun k e => Nat.le_trans z0.bel.size (hr k e).1)⟩)
   ⟨_, [], rfl, z0, fun x hx => by simp at hx⟩
   (fun x => { tmps := #[.string s, undef, .pointer (some ⟨w.heap.size, 0, none⟩), .pointer (some ⟨w.heap.size + 1, 0, none⟩), .pointer (some ⟨w.heap.size + 1 + 1, 0, none⟩), .string ⟨x.1.toArray⟩, .string s, .int .i64 (s.size : Int), .bool false, .string s, .func (.func 74) #[] #[.pointer (some ⟨w.heap.size + 1 + 1 + 1, 0, none⟩)], .string ⟨x.1.toArray⟩, undef, undef, undef, undef, undef, undef, undef, undef, undef], defers := [] }) ?assign ?body ?done ?stop
 case assign =>
   intro l x W K hK
   gi_wp2
   exact hK
 case body =>
   rintro l pre x W ⟨v, ws, hws, hZ, hall⟩ hlt
   have HWS := Lib.hid hws
   have HZW : Hid (Wo w W v ws) := hZ
   have HA := Lib.hid hall
   have HL := Lib.hid hlt
   have k4 := hZ.b4.cell
   obtain ⟨m, hm⟩ : ∃ m, Hid (mayW x.1 = m) := ⟨mayW x.1, Lib.hid rfl⟩
   have HM : Hid (∀ w, Calls Tryz.prog 52 #[.string ⟨x.1.toArray⟩] w fun e w' => e = .returned (.bool m) ∧ w' = w) := fun w => by
     rw [← hm.out]; exact mayBeL_any x.1 w (by have := x.2; omega)
   clear hZ hall hlt z0 b6 hW0 hs0 hws
   cases m
   · have j2 := HZW.out.b2.cell
     have j3 := HZW.out.b3.cell
     have f2 := HZW.out.b2.frozen
     have f3 := HZW.out.b3.frozen
     gi_wp2_with (first
       | (refine ⟨trivial, ?_⟩; gi_at_call 52; refine (CallsIn.inRound l (callsIn_wide.2 (HM.out _))).mono ?_; rintro e W1 ⟨rfl, rfl⟩))
     have q2 := HZW.out.b2.set (.slice none 0 0)
     have q3 := ((HZW.out.b3.other (by omega) _).set (.int .i64 4) : Boxed ((W1.setCell ⟨w.heap.size, 0, none⟩ (.slice none 0 0)).setCell ⟨w.heap.size + 1, 0, none⟩ (.int .i64 4)) (w.heap.size + 1) 27 (.int .i64 4))
     exact ⟨((KeepsOthers.setCell _ _ _).trans (KeepsOthers.setCell _ _ _)).from _, rfl, ⟨pre, x, rfl, hm.out⟩, (q2.other (by omega) _).cell, q3.cell, (HZW.out.bel.setCell (p := ⟨w.heap.size, 0, none⟩) (Nat.le_refl _) _).setCell (p := ⟨w.heap.size + 1, 0, none⟩) (by show w.heap.size ≤ w.heap.size + 1; omega) _⟩
   · gi_wp2_with (first
       | (refine ⟨trivial, ?_⟩; gi_at_call 52; refine (CallsIn.inRound l (callsIn_wide.2 (HM.out _))).mono ?_; rintro e W1 ⟨rfl, rfl⟩)
       | fail)
     have HN : Hid (ws.length ≤ 70000) := by
       show ws.length ≤ 70000
       rw [HWS.out, List.length_map]
       have h1 := HL.out
       have h2 := toks_len (ahd t)
       have h3 : (ahd t).length ≤ t.length := cutT_len _ _
       have h4 := HT.out.2
       omega
     have HZD : Hid (Wo w W1.drew v ws) := HZW.out.later (Below.refl _ W1).drew
     have HKD := Lib.hid (KeepsOthers.drew W1)
     obtain ⟨Wd, hWd⟩ : ∃ Wd, W1.drew = Wd := ⟨_, rfl⟩
     rw [hWd] at HZD HKD
     have kd := HZD.out.b4.cell
     refine region6x4 (by kernel_rfl) (by kernel_rfl) ?_ ?_ ?_ ?_
     all_goals
       rw [hWd]
       clear hWd
       gi_wp2_with (first
         | (refine ⟨trivial, ?_⟩; gi_at_call 57; refine (CallsIn.inRound l (callsIn_wide.2 (clone_any _ _ (by rw [sv_size]; have := x.2; omega)))).mono ?_; rintro e W2 ⟨rfl, hb2⟩; have HZ2 := Lib.hid (HZD.out.later hb2); have HK2 := Lib.hid (HKD.out.trans (keeps_below hb2)); have k42 := HZ2.out.b4.cell; have k43 := (HZ2.out.b4.alloc (.cells #[.string ⟨x.1.toArray⟩] 9)).cell; clear hb2)
         | (gi_at_builtin; refine wpListIn_append_own _ rfl _ _ 48 rfl (w.heap.size + 4) 9 i0 (.string ⟨#[]⟩) 1 16 Tryz.underlying48 hi0 hz0 hz1 hz2 rfl (by decide) v ws.length (svs ws) rfl (World.ownsRow.alloc HZ2.out.row _) ⟨W2.heap.size, 0, none⟩ 1 1 [sv x.1] rfl rfl (cell_one_new _ _ _) (by simp [Value.oneCell']) (by unfold maxLen; have := HN.out; omega) (by have := HN.out; omega) (by have := HZ2.out.siz; simp; omega) ?_; intro v' W4 hown hgrow _; obtain ⟨g', cap', rfl⟩ := ownsRow_succ hown; obtain ⟨y4, hz5, hk5⟩ := HZ2.out.grew hown hgrow; have n4 := y4.cell; have u4 := y4.frozen; have HZ5 := Lib.hid (And.intro hz5 (HK2.out.trans hk5)); clear y4 hz5 hk5 hown hgrow))
       refine ⟨HZ5.out.2.from _, trivial, _, _, ?_, HZ5.out.1, fun y hy => ?_⟩
       · rw [List.map_append, ← HWS.out]; rfl
       · rcases List.mem_append.1 hy with e | e
         · exact HA.out y e
         · rw [List.mem_singleton.1 e]; exact hm.out
 case done =>
   rintro D ys W hD hys ⟨v, ws, hws, hZ, hall⟩ hK
   rw [hys] at hws
   have HZW : Hid (Wo w W v ws) := hZ
   have HK : Hid (W.heap[D]? = some (.deferred (some []))) := hK
   have HD : Hid (w.heap.size + 4 ≤ D) := by show _ ≤ _; omega
   have HE : Hid (lineE t = 0 ∧ ws = lineW t) := by
     refine ⟨lineE_zero.2 ⟨HT.out.2, ?_⟩, hws⟩
     rw [List.all_eq_true]
     intro x hx
     have hx' : x ∈ ys.map (·.1) := by rw [hys]; exact hx
     obtain ⟨y, hy, rfl⟩ := List.mem_map.1 hx'
     exact hall y hy
   have m4 := hZ.b4.cell
   have m2 := hZ.b2.cell
   have m3 := hZ.b3.cell
   have f2 := hZ.b2.frozen
   have f3 := hZ.b3.frozen
   obtain ⟨a, n, c, rfl⟩ : ∃ a n c, v = .slice a n c := by
     rcases hZ.row.2 with ⟨h1, _⟩ | ⟨g, cap, cur, h1, _⟩
     · exact ⟨none, 0, 0, h1⟩
     · exact ⟨_, _, _, h1⟩
   clear hZ hall hws hys hK hD z0 b6 hW0 hs0
   gi_wp2
   have q2 := (HZW.out.b2.set (.slice a n c)).other (B' := w.heap.size + 1) (by omega) (.int .i64 0)
   have q3 : Boxed ((W.setCell ⟨w.heap.size, 0, none⟩ (.slice a n c)).setCell ⟨w.heap.size + 1, 0, none⟩ (.int .i64 0)) (w.heap.size + 1) 27 (.int .i64 0) := ((HZW.out.b3.other (by omega) _).set (.int .i64 0))
   obtain ⟨W5, hW5⟩ : ∃ W5, (W.setCell ⟨w.heap.size, 0, none⟩ (.slice a n c)).setCell ⟨w.heap.size + 1, 0, none⟩ (.int .i64 0) = W5 := ⟨_, rfl⟩
   have hK5 : W5.heap[D]? = some (.deferred (some [])) := by
     rw [← hW5]; exact (KeepsOthers.setCell _ _ _).same D _ ((KeepsOthers.setCell _ _ _).same D _ HK.out rfl) rfl
   have hb5 : Below w.heap.size w W5 := by
     rw [← hW5]; exact (HZW.out.bel.setCell (p := ⟨w.heap.size, 0, none⟩) (Nat.le_refl _) _).setCell (p := ⟨w.heap.size + 1, 0, none⟩) (by show w.heap.size ≤ w.heap.size + 1; omega) _
   have hr5 : Sr W5 (w.heap.size + 4) (.slice a n c) ws := by
     rw [← hW5]; exact own_setL (own_setL HZW.out.row (by show w.heap.size < _; omega) _) (by show w.heap.size + 1 < _; omega) _
   rw [hW5] at q2 q3 ⊢
   refine ⟨by simp, .inl ⟨_, _, rfl, run_takeDeferred hK5, ?_⟩⟩
   have c2 := cell_kept q2.cell (grownBy_putObj' _ D (.deferred none)) (fun r e => by cases e; exact ⟨_, hK5, rfl⟩)
   have c3 := cell_kept q3.cell (grownBy_putObj' _ D (.deferred none)) (fun r e => by cases e; exact ⟨_, hK5, rfl⟩)
   refine ⟨_, res_words _ w.heap.size (w.heap.size + 1) a n c 0 _ c2 c3 rfl rfl, ⟨_, by rw [HE.out.1]; rfl, fun _ => ?_, fun h => absurd HE.out.1 h⟩, hb5.trans (belowK_b (w := w) (Nat.le_refl _) W5 D _ _ (by have := HD.out; omega) hK5 rfl rfl)⟩
   rw [← HE.out.2]
   exact Sr.base (ownsRow_putObj hr5 _ hK5 rfl) (by omega)
 case stop =>
   rintro D c pre W hD hpre ⟨rfl, ⟨p, x, rfl, hx⟩, c2, c3, hB⟩ hK
   have HE := Lib.hid (lineE_four HT.out.2 hpre hx)
   have HD : Hid (w.heap.size + 4 ≤ D) := by show _ ≤ _; omega
   clear hpre hD z0 b6 hW0 hs0
   gi_wp2
   refine ⟨by simp, .inl ⟨_, _, rfl, run_takeDeferred hK, ?_⟩⟩
   have d2 := cell_kept c2 (grownBy_putObj' _ D (.deferred none)) (fun r e => by cases e; exact ⟨_, hK, rfl⟩)
   have d3 := cell_kept c3 (grownBy_putObj' _ D (.deferred none)) (fun r e => by cases e; exact ⟨_, hK, rfl⟩)
   refine ⟨_, res_words _ w.heap.size (w.heap.size + 1) none 0 0 4 _ d2 d3 rfl rfl, ⟨_, by rw [HE.out]; rfl, fun h => ?_, fun _ => rfl⟩, hB.trans (belowK_b (w := w) (Nat.le_refl _) W D _ _ (by have := HD.out; omega) hK rfl rfl)⟩
   rw [HE.out] at h; cases h
theorem wordsOf_any (s : ByteArray) (t : Bs) (w : World) (ht : s.data.toList = t) (hl : t.length ≤ 1000000000) :
   Calls Tryz.prog 36 #[.string s] w fun e w' => WordsR w w' t e := by
 by_cases h : 65536 < t.length
 · exact wordsOf_long s t w ht hl h
 · exact wordsOf_short s t w ht (by omega)
end Go.Proofs.YtgoadpnoagaflaaGreatDoor
