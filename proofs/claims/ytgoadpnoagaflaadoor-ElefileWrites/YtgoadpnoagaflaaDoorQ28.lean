/- Own texts, put together: Bm Bn Bo Bq Bt Bw Bx. -/
import Derived.Test.YtgoadpnoagaflaaDoorQ22
import Derived.Test.YtgoadpnoagaflaaDoorQ25
import Derived.Test.YtgoadpnoagaflaaDoorQ26
import Derived.Deep.Draws
import Derived.Deep.QuietTactic
import Derived.BigQuiet
import Derived.Deep.DeepCutAuto
import Derived.Laws.IdiomStrings
import Derived.Laws.BytesArg
import Derived.Lib.AppendStr
namespace Go.Proofs.YtgoadpnoagaflaaDoor
/- The document's side of layer 9: Read. -/
section
set_option maxRecDepth 100000
open Go.RowKit Go.Shelf Go.Lib
structure RdI (t : Bs) (st k : Nat) (done : List Bs) : Prop where
 all : lns t = done ++ (if st ≤ t.length then lns (t.drop st) else [])
 free : ∀ c ∈ cw t st k, c ≠ 10
 none : bad 1 done = none
 le : st ≤ k
 fin : k = t.length + 1 → st = k
theorem RdI.start (t : Bs) : RdI t 0 0 [] := ⟨rfl, fun c hc => by simp [cw] at hc, rfl, Nat.le_refl _, fun h => by omega⟩
theorem RdI.done {t : Bs} {st : Nat} {done : List Bs} (h : RdI t st (t.length + 1) done) : lns t = done := by
 have := h.all
 rw [h.fin rfl, if_neg (by omega), List.append_nil] at this
 exact this
theorem RdI.line {t : Bs} {st k : Nat} {done : List Bs} (h : RdI t st k done) (hk : k ≤ t.length) (hc : ∀ hk : k < t.length, t[k] = 10) : lns t = done ++ cw t st k :: (if k + 1 ≤ t.length then lns (t.drop (k + 1)) else []) := by
 rw [h.all, if_pos (by have := h.le; omega)]
 congr 1
 have e := cw_drop (l := t) h.le
 by_cases hlt : k < t.length
 · rw [e, List.drop_eq_getElem_cons hlt, hc hlt, lns_app h.free, if_pos (by omega : k + 1 ≤ t.length)]
 · rw [if_neg (by omega : ¬ k + 1 ≤ t.length), e, List.drop_of_length_le (by omega), List.append_nil, lns_none (fun hm => h.free 10 hm rfl)]
theorem RdI.bad {t : Bs} {st k : Nat} {done : List Bs} (h : RdI t st k done) (hk : k ≤ t.length) (hc : ∀ hk : k < t.length, t[k] = 10) (he : lineE (cw t st k) ≠ 0) : bad 1 (lns t) = some (done.length + 1, lineE (cw t st k)) := by
 rw [h.line hk hc, bad_app h.none, Go.Proofs.YtgoadpnoagaflaaDoor.bad, if_neg he, Nat.add_comm]
theorem RdI.step {t : Bs} {st k : Nat} {done : List Bs} (h : RdI t st k done) (hk : k ≤ t.length) (hc : ∀ hk : k < t.length, t[k] = 10) (he : lineE (cw t st k) = 0) : RdI t (k + 1) (k + 1) (done ++ [cw t st k]) := by
 refine ⟨by rw [h.line hk hc, List.append_assoc]; rfl, fun c hc => by simp [cw] at hc, ?_, Nat.le_refl _, fun _ => rfl⟩
 rw [bad_app h.none, Go.Proofs.YtgoadpnoagaflaaDoor.bad, if_pos he]; rfl
theorem Lr.below_grew {e : TypeId} {w W W2 : World} {v : Value} {ps : List Lt} {tmp : Obj} (hb : Below w.heap.size w W) (h : Lr e W w.heap.size v ps) (hg : (W.alloc tmp).grownBy W2 v.ownBlock) : Below w.heap.size w W2 := Go.Proofs.YtgoadpnoagaflaaDoor.below_grew hb h.own hg
end

/- The document's side of layer 9: Texts. -/
section
set_option maxRecDepth 100000
open Go.RowKit Go.Shelf Go.Lib
theorem below_drewN (n : Nat) (w : World) (m : Nat) : Below n w (w.drewN m) := ⟨rfl, rfl, rfl, Nat.le_refl _, fun _ _ => rfl⟩
end

/- The law LinesRead. -/
section
set_option maxRecDepth 100000
open Go.RowKit Go.Shelf Go.Lib
attribute [local go_sem] run_store_str
theorem Lr.form {e : TypeId} {W : World} {B : Nat} {v : Value} {ps : List Lt} (h : Lr e W B v ps) : ∃ a c, v = .slice a ps.length c ∧ ps.length ≤ c ∧ c ≤ 9223372036854775807 ∧ (ps = [] ∨ ∃ g, a = some ⟨g, 0, none⟩ ∧ B ≤ g) := by
 rcases h.own.2 with ⟨h1, h2⟩ | ⟨g, cap, cur, h1, h0, _, h3, h4, _⟩
 · exact ⟨none, 0, by rw [h1, h2], by omega, by omega, Or.inl (List.length_eq_zero_iff.1 h2)⟩
 · exact ⟨_, _, h1, h3, by unfold maxLen at h4; omega, Or.inr ⟨g, rfl, h0⟩⟩
theorem good_word : ∀ (ls : List Bs) (n : Nat) {p : Nat × List Bs}, p ∈ good n ls → p.2 ≠ [] ∧ ∃ l ∈ ls, p.2 = lineW l := by
 intro ls
 induction ls with
 | nil => intro n p hp; simp [good] at hp
 | cons l r ih =>
   intro n p hp
   rw [good] at hp
   rcases List.mem_append.1 hp with e | e
   · by_cases h : (lineW l).isEmpty = true
     · rw [if_pos h] at e; simp at e
     · rw [if_neg h] at e
       rw [List.mem_singleton.1 e]
       exact ⟨by simpa using h, l, by simp, rfl⟩
   · obtain ⟨h1, x, h2, h3⟩ := ih _ e
     exact ⟨h1, x, by simp [h2], h3⟩
theorem rdV_word {t : Bs} {p : Nat × List Bs} (hp : p ∈ (rdV t).1) : p.2 ≠ [] ∧ (∀ x ∈ p.2, x.length ≤ 16777216) ∧ (rdV t).2.2 = 0 ∧ ∃ l ∈ lns t, p.2 = lineW l := by
 unfold rdV at hp ⊢
 split at hp
 · simp at hp
 · rename_i hl
   rw [if_neg hl]
   split at hp
   · simp at hp
   · obtain ⟨h1, l, h2, h3⟩ := good_word _ _ hp
     refine ⟨h1, fun x hx => ?_, rfl, l, h2, h3⟩
     rw [h3] at hx
     have g1 := (toks_word hx).2.2.1
     have g2 : (ahd l).length ≤ l.length := cutT_len _ _
     have g3 := (spl_word h2).2.1
     omega
structure HoldI (w wo W : World) (v gv : Value) (ps gps : List Lt) (i : Nat) : Prop where
 want : Lr 70 W w.heap.size v ps
 row : W.ownsRow wo.heap.size 58 2 gv gps.length (lcs gps)
 sub : ∀ j (h : j < gps.length), i ≤ j → Sr W wo.heap.size gps[j].2.2 gps[j].2.1
 bel : Below w.heap.size w W
 old : ∀ p ∈ ps, ∀ k, p.2.2.ownBlock = some k → k < wo.heap.size
 oldv : ∀ k, v.ownBlock = some k → k < wo.heap.size
theorem HoldI.drewN {w wo W : World} {v gv : Value} {ps gps : List Lt} {i : Nat} (h : HoldI w wo W v gv ps gps i) (m : Nat) : HoldI w wo (W.drewN m) v gv ps gps i :=
 have hb := below_drewN W.heap.size W m
 ⟨h.want.later hb, own_later h.row hb, fun j hj hi => (h.sub j hj hi).later hb, h.bel.trans (hb.mono h.bel.size), h.old, h.oldv⟩
end

/- What package lines is asked first: works. -/
section
set_option maxRecDepth 100000
open Go.RowKit Go.Shelf Go.Lib
end

/- The law LinesBack. -/
section
open Go.RowKit Go.Shelf Go.Lib
theorem Lr.sl {e : TypeId} {W : World} {B : Nat} {v : Value} {ps : List Lt} (h : Lr e W B v ps) {t : Bs} (ht : tell ps = (rdV t).1) : ∀ p ∈ ps, Sl W p.2.2 p.2.1 := fun p hp => by
 refine (h.sub p hp).sl (fun x hx => ?_)
 have hm : (p.1, p.2.1) ∈ (rdV t).1 := by rw [← ht]; exact List.mem_map.2 ⟨p, hp, rfl⟩
 have := (rdV_word hm).2.1 x hx
 omega
end

/- The document's side of layer 9: Write. -/
section
open Go.RowKit Go.Shelf Go.Lib
theorem lineW_may {x : Bs} (h : mayW x = true) : lineW x = [x] := by
 have hg := may_gd h
 unfold lineW ahd
 rw [(cut_none (fun e => (gd_ne (hg.2 _ e)).1 rfl)).1, toks_none (fun c hc => (gd_ne (hg.2 c hc)).2), one_ne hg.1]
theorem mayL_iff (x : Bs) : mayW x = true ↔ (lineW x).all mayW = true ∧ (lineW x).length = 1 ∧ (lineW x).head? = some x := by
 constructor
 · intro h
   rw [lineW_may h]
   exact ⟨by simp [h], rfl, rfl⟩
 · rintro ⟨h1, h2, h3⟩
   rw [List.all_eq_true] at h1
   refine h1 x ?_
   cases hl : lineW x with
   | nil => rw [hl] at h3; cases h3
   | cons a r =>
     rw [hl] at h3
     obtain rfl : a = x := by simpa using h3
     simp
theorem refWord_any (q : ByteArray) (x : Bs) (W : World) (hq : q.data.toList = x) (hl : x.length ≤ 1000000000) : Calls Tryd.prog 54 #[.string q] W fun e w' => Below W.heap.size W w' ∧
   ((mayW x = true ∧ ∃ g c, e = .returned (.tuple #[.slice (some ⟨g, 0, none⟩) 1 c, .bool true]) ∧ w'.cell? ⟨g, 0, none⟩ = some (.string q) ∧ 1 ≤ c ∧ c ≤ 9223372036854775807) ∨
    (mayW x = false ∧ (e = .returned (.tuple #[.slice none 0 0, .bool false]) ∨ (∃ a n c, e = .returned (.tuple #[.slice a n c, .bool true]) ∧ n ≠ 1 ∧ n ≤ 1000000001) ∨ ∃ g c q', e = .returned (.tuple #[.slice (some ⟨g, 0, none⟩) 1 c, .bool true]) ∧ w'.cell? ⟨g, 0, none⟩ = some (.string q') ∧ (q'.toList == q.toList) = false ∧ 1 ≤ c ∧ c ≤ 9223372036854775807))) := by
 refine (refWords_any q x W hq hl).mono ?_
 rintro e w' ⟨⟨v, rfl, h1, h2⟩, hb⟩
 refine ⟨hb, ?_⟩
 have hi := mayL_iff x
 cases hall : (lineW x).all mayW with
 | false =>
   refine Or.inr ⟨?_, Or.inl ?_⟩
   · cases hm : mayW x with
     | false => rfl
     | true => have := (hi.1 hm).1; rw [hall] at this; cases this
   · rw [h2 hall]
 | true =>
   have hS := h1 hall
   by_cases hn : (lineW x).length = 1
   · have hpos : 0 < (lineW x).length := by omega
     obtain ⟨g, c, rfl, hc1, hc2⟩ : ∃ g c, v = .slice (some ⟨g, 0, none⟩) 1 c ∧ 1 ≤ c ∧ c ≤ 9223372036854775807 := by
       rcases hS.2 with ⟨_, h7⟩ | ⟨g, cap, cur, h7, _, _, h8, h9, _⟩
       · omega
       · rw [hn] at h7 h8
         exact ⟨g, cap, h7, h8, by unfold maxLen at h9; omega⟩
     have hS' := hS
     unfold Sr at hS'
     rw [hn] at hS'
     have hc := own_cellL (j := 0) hS' (by rw [List.getElem?_map, List.getElem?_eq_getElem hpos]; rfl)
     have hc' : w'.cell? ⟨g, 0, none⟩ = some (sv (lineW x)[0]) := hc
     by_cases he : (lineW x)[0] = x
     · refine Or.inl ⟨hi.2 ⟨hall, hn, by rw [List.head?_eq_getElem?, List.getElem?_eq_getElem hpos, he]⟩, g, c, rfl, ?_, hc1, hc2⟩
       rw [hc', he, ← hq]
     · refine Or.inr ⟨?_, Or.inr (Or.inr ⟨g, c, ⟨(lineW x)[0].toArray⟩, rfl, hc', ?_, hc1, hc2⟩)⟩
       · cases hm : mayW x with
         | false => rfl
         | true =>
           have := (hi.1 hm).2.2
           rw [List.head?_eq_getElem?, List.getElem?_eq_getElem hpos] at this
           exact absurd (Option.some.inj this) he
       · rw [Lib.toList_data, Lib.toList_data, hq, beq_eq_false_iff_ne]; exact he
   · obtain ⟨a, c, rfl, _, _⟩ := hS.form
     refine Or.inr ⟨?_, Or.inr (Or.inl ⟨a, _, c, rfl, hn, ?_⟩)⟩
     · cases hm : mayW x with
       | false => rfl
       | true => exact absurd (hi.1 hm).2.1 hn
     · have g1 := toks_len (ahd x)
       have g2 : (ahd x).length ≤ x.length := cutT_len _ _
       show (toks (ahd x)).length ≤ _
       omega
end

/- The document's side of layer 9: Write, the walk. -/
section
open Go.RowKit Go.Shelf Go.Lib
def ByR (W : World) (B : Nat) (v : Value) (l : Bs) : Prop := W.ownsRow B 5 1 v l.length (Lib.byteCells l)
theorem ByR.form {W : World} {B : Nat} {v : Value} {l : Bs} (h : ByR W B v l) : ∃ a c, v = .slice a l.length c := by
 rcases h.2 with ⟨h1, h2⟩ | ⟨g, cap, cur, h1, _⟩
 · exact ⟨none, 0, by rw [h1, h2]⟩
 · exact ⟨_, _, h1⟩
theorem ByR.conv {W : World} {B : Nat} {v : Value} {l : Bs} (h : ByR W B v l) : (convert 101 9 v).run Tryd.prog W = .ok (.string ⟨l.toArray⟩) W := by
 have h0 := h
 rcases h.2 with ⟨h1, h2⟩ | ⟨g, cap, cur, h1, _⟩
 · have : l = [] := List.length_eq_zero_iff.1 h2
   subst this
   rw [h1]
   exact run_convert_bytes_nil W 101 5 Tryd.underlying101 Tryd.underlying5 0 0 _ Tryd.underlying9
 · rw [h1]
   refine run_convert_bytes_back W 101 9 5 ⟨g, 0, none⟩ cap l Tryd.underlying101 Tryd.underlying5 Tryd.underlying9 (fun j hj => ?_)
   have := World.ownsRow.cells h0 (g := g) (by rw [h1]; rfl) j (.int .u8 (l[j].toNat : Int)) (by simp [Lib.byteCells, hj])
   exact this
theorem ByR.grew1 {w W W2 : World} {v v' : Value} {l : Bs} {c : UInt8} {tmp : Obj} (hb : Below w.heap.size w W) (h : ByR W w.heap.size v l) (hown : W2.ownsRow w.heap.size 5 1 v' (l.length + 1) (Lib.byteCells l ++ [.int .u8 (c.toNat : Int)])) (hg : (W.alloc tmp).grownBy W2 v.ownBlock) : ByR W2 w.heap.size v' (l ++ [c]) ∧ Below w.heap.size w W2 := by
 refine ⟨?_, below_grew hb h hg⟩
 unfold ByR
 rw [List.length_append, byteCells_append]
 exact hown
theorem ByR.grewS {w W W2 : World} {v v' : Value} {l x : Bs} {q : ByteArray} (hq : (⟨x.toArray⟩ : ByteArray) = q) (hb : Below w.heap.size w W) (h : ByR W w.heap.size v l) (hown : W2.ownsRow w.heap.size 5 1 v' (l.length + q.size) (Lib.byteCells l ++ strCells q)) (hg : W.grownBy W2 v.ownBlock) : ByR W2 w.heap.size v' (l ++ x) ∧ Below w.heap.size w W2 := by
 subst hq
 refine ⟨?_, hb.trans ((Below.refl _ W).grown hg hb.size (fun k hk => own_ap h k hk))⟩
 unfold ByR
 rw [List.length_append, byteCells_append, ← sv_size x]
 exact hown
theorem jn_take {ws : List Bs} {k : Nat} (hk : k < ws.length) : jn (ws.take (k + 1)) = jn (ws.take k) ++ ((if 0 < k then [32] else []) ++ ws[k]) := by
 have key : ∀ (a : List Bs) (x : Bs), a ≠ [] → jn (a ++ [x]) = jn a ++ 32 :: x := by
   intro a x
   induction a with
   | nil => intro h; exact absurd rfl h
   | cons y r ih =>
     intro _
     cases r with
     | nil => simp only [List.cons_append, List.nil_append]; rw [jn_cons2, jn_one, jn_one]
     | cons z r =>
       rw [List.cons_append, List.cons_append, jn_cons2, jn_cons2, ← List.cons_append, ih (by simp)]; simp
 rw [List.take_succ_eq_append_getElem hk]
 cases k with
 | zero => rw [List.take_zero, List.nil_append, jn_one]; rfl
 | succ k =>
   rw [if_pos (by omega), key]
   · simp
   · intro e
     have := congrArg List.length e
     rw [List.length_take, List.length_nil] at this
     omega
theorem jn_take_len {ws : List Bs} {m : Nat} (h : ∀ x ∈ ws, x.length ≤ m) (k : Nat) : (jn (ws.take k)).length ≤ ws.length * (m + 1) := by
 by_cases h0 : ws.take k = []
 · rw [h0]; simp [jn, join_nil]
 · have h1 := jn_len h0
   have h2 := lens_le (ws := ws.take k) (m := m) (fun x hx => h x (List.mem_of_mem_take hx))
   have h3 : (ws.take k).length ≤ ws.length := by rw [List.length_take]; omega
   have h4 : (ws.take k).length * m ≤ ws.length * m := Nat.mul_le_mul_right _ h3
   rw [Nat.mul_add, Nat.mul_one]
   omega
set_option maxRecDepth 100000 in
set_option maxHeartbeats 16000000 in
theorem refWrite_any (v : Value) (ls : List Lv) (w : World) (h : Ll w v ls) (hM : Mod ls) (hX : ∀ p ∈ ls, ∀ x ∈ p.1, x.length ≤ 200000) : Calls Tryd.prog 31 #[v] w fun e w' => e = .returned (.tuple #[sv (wrV (ls1 ls)).1, .int .i64 ((wrV (ls1 ls)).2 : Nat)]) ∧ Below w.heap.size w w' := by
 obtain ⟨⟨a, c, rfl, hc1, hc2, hm⟩, hsub⟩ := h
 have HM := Lib.hid hm
 have HU := Lib.hid hsub
 have HMo := Lib.hid hM
 have HXl := Lib.hid hX
 have l0 : (ls.length : Int) ≤ 300000 := by have := hM.1; omega
 clear hsub hm hM hX
 obtain ⟨n, hn⟩ : ∃ n, Hid (ls.length = n) := ⟨_, Lib.hid rfl⟩
 rw [hn.out] at l0 hc1 ⊢
 obtain ⟨L, hL⟩ : ∃ L, Hid (ls1 ls = L) := ⟨_, Lib.hid rfl⟩
 have HLen : Hid (L.length = n) := (by rw [← hL.out, List.length_map, hn.out] : L.length = n)
 have HLk : Hid (∀ k (h : k < ls.length) (h2 : k < L.length), L[k] = ls[k].1) := fun k h h2 => by
   have e := hL.out
   subst e
   rw [List.getElem_map]
 obtain ⟨R, hR⟩ : ∃ R, Hid (wrV L = R) := ⟨_, Lib.hid rfl⟩
 rw [hL.out, hR.out]
 go_enter Tryd.func31, Tryd.ntmps31
 go_wp2_with fail
 go_loopw [4] (fun s4 wr => ∃ i : Nat, i ≤ n ∧ s4 = .int .i64 (i : Nat) ∧ Hid ((∀ j (_ : j < i) (h2 : j < L.length), okL L[j] = true) ∧ Below w.heap.size w wr)) (fun s4 _ => n - (RowKit.intOf s4).toNat)
 case atStart => exact ⟨0, Nat.zero_le _, rfl, fun j hj _ => by omega, Below.refl _ _⟩
 case round =>
   obtain ⟨i, hi, rfl, hI⟩ := hrel
   by_cases hlt : i < n
   · have hi2 : i < ls.length := by rw [hn.out]; exact hlt
     have hi3 : i < L.length := by rw [HLen.out]; exact hlt
     have hlt' : (i : Int) < (n : Int) := by omega
     have hi0 : (0 : Int) ≤ (i : Int) := by omega
     obtain ⟨g, off, rfl, hg, hcell⟩ := HM.out.resolve_left (fun e => by rw [e] at hi2; simp at hi2)
     have hc0 := hcell i ls[i] (List.getElem?_eq_getElem hi2)
     obtain ⟨⟨ws, wv⟩, hp⟩ : ∃ p, Hid (ls[i] = p) := ⟨_, Lib.hid rfl⟩
     rw [hp.out] at hc0
     have hmem : (ws, wv) ∈ ls := by rw [← hp.out]; exact List.getElem_mem hi2
     have hS : Sl w wv ws := HU.out _ hmem
     have HJ : Hid (L[i] = ws) := (by rw [HLk.out i hi2 hi3, hp.out] : L[i] = ws)
     have hwl : ws.length ≤ 300000 := HMo.out.2 _ hmem
     have HXw : Hid (∀ x ∈ ws, x.length ≤ 200000) := HXl.out _ hmem
     have hc0' : w.cell? ⟨g, off + i, none⟩ = some wv := hc0
     obtain ⟨⟨a2, c2, rfl, hd1, hd2, hm2⟩, hlen2⟩ := hS
     have HC0 := Lib.hid (And.intro hc0' hg)
     have HM2 := Lib.hid hm2
     obtain ⟨nw, hnw⟩ : ∃ nw, Hid (ws.length = nw) := ⟨_, Lib.hid rfl⟩
     rw [hnw.out] at HC0 hd1 hwl
     have hwl' : (nw : Int) ≤ 300000 := by omega
     have b1 := cell_later hI.out.2 hg HC0.out.1
     clear hcell hmem hm2 hlen2 hc0 hc0'
     by_cases h0 : nw = 0
     · have HN : Hid (R = ([], 1)) := by
         show R = _
         rw [← hR.out]
         refine wrV_arg hi3 ?_
         rw [HJ.out, List.length_eq_zero_iff.1 (hnw.out.trans h0)]; rfl
       subst h0
       go_wp2
       go_ret2
       rw [HN.out]; exact ⟨rfl, hI.out.2⟩
     · have h0' : ((nw : Int) == 0) = false := by simp; omega
       have h0'' : ¬ ((nw : Int) = 0) := by omega
       obtain ⟨wo, hwo⟩ : ∃ wo, wr = wo := ⟨_, rfl⟩
       rw [hwo] at hI b1 ⊢
       clear hwo
       go_wp2_with fail
       go_loopw [5] (fun s5 wr => ∃ k : Nat, k ≤ nw ∧ s5 = .int .i64 (k : Nat) ∧ Hid ((∀ j (_ : j < k) (h2 : j < ws.length), mayW ws[j] = true) ∧ Below w.heap.size w wr)) (fun s5 _ => nw - (RowKit.intOf s5).toNat)
       case atStart => exact ⟨0, Nat.zero_le _, rfl, fun j hj _ => by omega, hI.out.2⟩
       case round =>
         obtain ⟨k, hk, rfl, hK⟩ := hrel
         clear b1
         have b1 := cell_later hK.out.2 HC0.out.2 HC0.out.1
         by_cases hlt2 : k < nw
         · have hk2 : k < ws.length := by rw [hnw.out]; exact hlt2
           have hlt2' : (k : Int) < (nw : Int) := by omega
           have hk0 : (0 : Int) ≤ (k : Int) := by omega
           obtain ⟨g2, off2, rfl, hg2, hcell2⟩ := HM2.out.resolve_left (fun e => by rw [e] at hk2; simp at hk2)
           obtain ⟨q, hq⟩ : ∃ q : ByteArray, (⟨(ws[k]).toArray⟩ : ByteArray) = q := ⟨_, rfl⟩
           have b2w : w.cell? ⟨g2, off2 + k, none⟩ = some (.string q) := by rw [hcell2 k ws[k] (List.getElem?_eq_getElem hk2), ← hq]
           have b2 := cell_later hK.out.2 hg2 b2w
           have HB2 := Lib.hid (And.intro b2w hg2)
           have HWd := Lib.hid (refWord_any q ws[k] wr (by rw [← hq]) (by have := HXw.out _ (List.getElem_mem hk2); omega))
           have HArg : Hid (mayW ws[k] = false → R = ([], 1)) := fun hm => by
             rw [← hR.out]
             exact wrV_arg hi3 (by rw [HJ.out]; exact all_no hk2 hm)
           clear hcell2 hq b2w
           go_wp2_with fail
           refine HWd.out.mono ?_
           rintro e W2 ⟨hb, ⟨hm, g3, c3, rfl, hc3, _, _⟩ | ⟨hm, (rfl | ⟨a3, n3, c3, rfl, hne, hn3⟩ | ⟨g3, c3, q', rfl, hc3, hneq, _, _⟩)⟩⟩
           · have HB3 := Lib.hid (hK.out.2.trans (hb.mono hK.out.2.size))
             have HMy := Lib.hid hm
             have b5 := cell_later HB3.out HC0.out.2 HC0.out.1
             have b6 := cell_later HB3.out HB2.out.2 HB2.out.1
             clear hb hm b1 b2
             go_wp2_with fail
             go_quiet (fail)
             go_wp2
             go_roundw
             case rel =>
               refine ⟨k + 1, by omega, by go_num, fun j hj h2 => ?_, HB3.out.trans (below_drewN _ W2 nq)⟩
               by_cases e : j = k
               · subst e; exact HMy.out
               · exact hK.out.1 j (by omega) h2
             case measure => simp [RowKit.intOf]; omega
           · have HB3 := Lib.hid (hK.out.2.trans (hb.mono hK.out.2.size))
             have HN := Lib.hid (HArg.out hm)
             clear hb hm b1 b2
             go_wp2_with fail
             go_quiet (fail)
             go_wp2
             go_ret2
             rw [HN.out]; exact ⟨rfl, HB3.out.trans (below_drewN _ W2 nq)⟩
           · have HB3 := Lib.hid (hK.out.2.trans (hb.mono hK.out.2.size))
             have HN := Lib.hid (HArg.out hm)
             have hn3' : (n3 : Int) ≤ 1000000001 := by omega
             have f1 : ((n3 : Int) == 1) = false := by simp; omega
             have f2 : ((n3 : Int) != 1) = true := by simp; omega
             clear hb hm b1 b2
             go_wp2_with fail
             go_quiet (fail)
             go_wp2
             go_ret2
             rw [HN.out]; exact ⟨rfl, HB3.out.trans (below_drewN _ W2 nq)⟩
           · have HB3 := Lib.hid (hK.out.2.trans (hb.mono hK.out.2.size))
             have HN := Lib.hid (HArg.out hm)
             have b5 := cell_later HB3.out HC0.out.2 HC0.out.1
             have b6 := cell_later HB3.out HB2.out.2 HB2.out.1
             clear hb hm b1 b2
             go_wp2_with fail
             go_quiet (fail)
             go_wp2
             go_ret2
             rw [HN.out]; exact ⟨rfl, HB3.out.trans (below_drewN _ W2 nq)⟩
         · obtain rfl : nw = k := by omega
           have HOk : Hid (okL ws = true) := by
             show okL ws = true
             rw [all_yes (fun j hj => hK.out.1 j (by rw [← hnw.out]; exact hj) hj), hnw.out]
             exact decide_eq_true (by omega)
           go_wp2
           go_roundw
           case rel =>
             refine ⟨i + 1, by omega, by go_num, fun j hj h2 => ?_, hK.out.2⟩
             by_cases e : j = i
             · subst e; rw [HJ.out]; exact HOk.out
             · exact hI.out.1 j (by omega) h2
           case measure => simp [RowKit.intOf]; omega
   · obtain rfl : n = i := by omega
     have hok : L.all okL = true := by
       rw [List.all_eq_true]
       intro x hx
       obtain ⟨j, hj, rfl⟩ := List.mem_iff_getElem.1 hx
       exact hI.out.1 j (by rw [← HLen.out]; exact hj) hj
     have HOK := Lib.hid hok
     have HBo := Lib.hid hI.out.2
     clear hok hI
     obtain ⟨i0, hi0, hz0, hz1, hz2⟩ := info_parts (show (Tryd.prog.info? 5).map (fun i => (i.zero, i.size, i.bytes)) = some (some (.int .u8 0), 1, 1) by kernel_rfl)
     go_wp2_with fail
     go_loopw [8, 9] (fun s8 s9 wr => ∃ i : Nat, i ≤ n ∧ s9 = .int .i64 (i : Nat) ∧ Hid (ByR wr w.heap.size s8 (wrT (L.take i)) ∧ Below w.heap.size w wr ∧ (wrT (L.take i)).length ≤ 16777216 ∧ ∀ j (_ : j < i) (h2 : j < L.length), (jn L[j]).length ≤ 65536)) (fun _ s9 _ => n - (RowKit.intOf s9).toNat)
     case atStart => exact ⟨0, Nat.zero_le _, rfl, World.ownsRow_nil _ _ _ _, HBo.out, by simp [wrT], fun j hj _ => by omega⟩
     case round =>
       obtain ⟨i, hi, rfl, hI⟩ := hrel
       by_cases hlt : i < n
       · have hi2 : i < ls.length := by rw [hn.out]; exact hlt
         have hi3 : i < L.length := by rw [HLen.out]; exact hlt
         have hlt' : (i : Int) < (n : Int) := by omega
         have hi00 : (0 : Int) ≤ (i : Int) := by omega
         obtain ⟨g, off, rfl, hg, hcell⟩ := HM.out.resolve_left (fun e => by rw [e] at hi2; simp at hi2)
         have hc0 := hcell i ls[i] (List.getElem?_eq_getElem hi2)
         obtain ⟨⟨ws, wv⟩, hp⟩ : ∃ p, Hid (ls[i] = p) := ⟨_, Lib.hid rfl⟩
         rw [hp.out] at hc0
         have hmem : (ws, wv) ∈ ls := by rw [← hp.out]; exact List.getElem_mem hi2
         have hS : Sl w wv ws := HU.out _ hmem
         have HJ : Hid (L[i] = ws) := (by rw [HLk.out i hi2 hi3, hp.out] : L[i] = ws)
         have hwl : ws.length ≤ 300000 := HMo.out.2 _ hmem
         have hoks : okL ws = true := by
           have := HOK.out
           rw [List.all_eq_true] at this
           have := this _ (List.getElem_mem hi3)
           rwa [HJ.out] at this
         have HW4 : Hid (∀ x ∈ ws, x.length ≤ 400) := fun x hx => may_len ((ok_may hoks).2 x hx)
         have HJL : Hid (∀ k, (jn (ws.take k)).length ≤ 120300000) := fun k => by
           have h1 := jn_take_len HW4.out k
           have h2 : ws.length * (400 + 1) ≤ 300000 * (400 + 1) := Nat.mul_le_mul_right _ hwl
           omega
         have hc0' : w.cell? ⟨g, off + i, none⟩ = some wv := hc0
         obtain ⟨⟨a2, c2, rfl, hd1, hd2, hm2⟩, hlen2⟩ := hS
         have HC0 := Lib.hid (And.intro hc0' hg)
         have HM2 := Lib.hid hm2
         obtain ⟨nw, hnw⟩ : ∃ nw, Hid (ws.length = nw) := ⟨_, Lib.hid rfl⟩
         rw [hnw.out] at HC0 hd1 hwl
         have hwl' : (nw : Int) ≤ 300000 := by omega
         have HTk := Lib.hid (wrT_take hi3)
         rw [HJ.out] at HTk
         obtain ⟨T0, hT0⟩ : ∃ T, Hid (wrT (L.take i) = T) := ⟨_, Lib.hid rfl⟩
         rw [hT0.out] at hI HTk
         obtain ⟨a8, c8, rfl⟩ := hI.out.1.form
         obtain ⟨p0, hp0⟩ : ∃ p, Hid (T0.length = p) := ⟨_, Lib.hid rfl⟩
         have hI1 := hI.out.1
         rw [hp0.out] at hI1
         have HI1 := Lib.hid hI1
         have hp0l : (p0 : Int) ≤ 16777216 := by have := hI.out.2.2.1; rw [hp0.out] at this; omega
         have HI2 := Lib.hid hI.out.2
         have HFs := Lib.hid (fun (hb : 65536 < (jn ws).length ∨ 16777216 < T0.length + ((jn ws).length + 1)) => (by
           refine wrV_full HOK.out (fits_no hi3 ?_)
           rw [HJ.out, HTk.out]
           simp only [List.length_append, List.length_singleton]
           exact hb : wrV L = ([], 3)))
         clear hcell hmem hm2 hlen2 hc0 hc0' hoks hI1
         obtain ⟨wo, hwo⟩ : ∃ wo, wr = wo := ⟨_, rfl⟩
         rw [hwo] at HI1 HI2 ⊢
         clear hwo hI
         rw [hp0.out]
         go_wp2_with fail
         go_loopw [8, 11] (fun s8 s11 wr => ∃ k : Nat, k ≤ nw ∧ s11 = .int .i64 (k : Nat) ∧ Hid (ByR wr w.heap.size s8 (T0 ++ jn (ws.take k)) ∧ Below w.heap.size w wr)) (fun _ s11 _ => nw - (RowKit.intOf s11).toNat)
         case atStart =>
           refine ⟨0, Nat.zero_le _, rfl, ?_, HI2.out.1⟩
           rw [show jn (ws.take 0) = [] from rfl, List.append_nil]
           exact HI1.out
         case round =>
           obtain ⟨k, hk, rfl, hK⟩ := hrel
           have b1 := cell_later hK.out.2 HC0.out.2 HC0.out.1
           obtain ⟨l0, hl0⟩ : ∃ l, Hid (T0 ++ jn (ws.take k) = l) := ⟨_, Lib.hid rfl⟩
           rw [hl0.out] at hK
           have hl0l : l0.length ≤ 140000000 := by
             rw [← hl0.out, List.length_append]
             have h1 := HJL.out k
             have h2 := HI2.out.2.1
             omega
           have HL0 := Lib.hid hl0l
           by_cases hlt2 : k < nw
           · have hk2 : k < ws.length := by rw [hnw.out]; exact hlt2
             have hlt2' : (k : Int) < (nw : Int) := by omega
             have hk0 : (0 : Int) ≤ (k : Int) := by omega
             obtain ⟨g2, off2, rfl, hg2, hcell2⟩ := HM2.out.resolve_left (fun e => by rw [e] at hk2; simp at hk2)
             obtain ⟨q, hq⟩ : ∃ q : ByteArray, (⟨(ws[k]).toArray⟩ : ByteArray) = q := ⟨_, rfl⟩
             have b2w : w.cell? ⟨g2, off2 + k, none⟩ = some (.string q) := by rw [hcell2 k ws[k] (List.getElem?_eq_getElem hk2), ← hq]
             have HB2 := Lib.hid (And.intro b2w hg2)
             have HQ := Lib.hid hq
             have hqs : q.size ≤ 400 := by rw [← hq, sv_size]; exact HW4.out _ (List.getElem_mem hk2)
             have HQS := Lib.hid hqs
             have HJT := Lib.hid (jn_take hk2)
             clear hcell2 hq b2w
             by_cases h0 : 0 < k
             · have h0' : (0 : Int) < (k : Int) := by omega
               rw [if_pos h0] at HJT
               obtain ⟨l1, hl1⟩ : ∃ l, Hid (l0 ++ [32] = l) := ⟨_, Lib.hid rfl⟩
               have HL1 : Hid (l1.length ≤ 140000001) := (by rw [← hl1.out, List.length_append]; have := HL0.out; simp; omega : l1.length ≤ 140000001)
               go_wp2_with (first
                 | (at_builtin; refine wpList_append_own _ rfl _ _ 101 rfl w.heap.size 5 i0 (.int .u8 0) 1 1 Tryd.underlying101 hi0 hz0 hz1 hz2 rfl (by decide) u8 l0.length (Lib.byteCells l0) rfl (World.ownsRow.alloc hK.out.1 _) ⟨wr.heap.size, 0, none⟩ 1 1 [.int .u8 32] rfl rfl (cell_one_new _ _ _) (by simp [Value.oneCell']) (by unfold maxLen; have := HL0.out; omega) (by have := HL0.out; omega) (by have := hK.out.2.size; simp; omega) ?_; intro v1 W4 hown hgrow _; have HR4 := Lib.hid (ByR.grew1 (c := 32) hK.out.2 hK.out.1 hown hgrow); rw [hl1.out] at HR4; have b3 := cell_later HR4.out.2 HC0.out.2 HC0.out.1; have b4 := cell_later HR4.out.2 HB2.out.2 HB2.out.1; clear hown hgrow)
                 | (at_builtin; refine wpList_append_own_string _ rfl _ _ 101 9 rfl w.heap.size 5 i0 Tryd.underlying101 Tryd.underlying9 hi0 hz0 hz1 hz2 v1 l1.length (Lib.byteCells l1) rfl HR4.out.1 q rfl (by unfold maxLen; have := HL1.out; have := HQS.out; omega) (by have := HL1.out; have := HQS.out; omega) HR4.out.2.size ?_; intro v2 W5 hown hgrow _; have HR5 := Lib.hid (ByR.grewS HQ.out HR4.out.2 HR4.out.1 hown hgrow); clear hown hgrow))
               go_roundw
               case rel =>
                 refine ⟨k + 1, by omega, by go_num, ?_, HR5.out.2⟩
                 rw [HJT.out, ← List.append_assoc, hl0.out, ← List.append_assoc, hl1.out]
                 exact HR5.out.1
               case measure => simp [RowKit.intOf]; omega
             · have h0' : ¬ ((0 : Int) < (k : Int)) := by omega
               rw [if_neg h0] at HJT
               have b2 := cell_later hK.out.2 HB2.out.2 HB2.out.1
               go_wp2_with (first
                 | (at_builtin; refine wpList_append_own_string _ rfl _ _ 101 9 rfl w.heap.size 5 i0 Tryd.underlying101 Tryd.underlying9 hi0 hz0 hz1 hz2 u8 l0.length (Lib.byteCells l0) rfl hK.out.1 q rfl (by unfold maxLen; have := HL0.out; have := HQS.out; omega) (by have := HL0.out; have := HQS.out; omega) hK.out.2.size ?_; intro v2 W5 hown hgrow _; have HR5 := Lib.hid (ByR.grewS HQ.out hK.out.2 hK.out.1 hown hgrow); clear hown hgrow))
               go_roundw
               case rel =>
                 refine ⟨k + 1, by omega, by go_num, ?_, HR5.out.2⟩
                 rw [HJT.out, ← List.append_assoc, hl0.out]
                 exact HR5.out.1
               case measure => simp [RowKit.intOf]; omega
           · obtain rfl : nw = k := by omega
             have HL1 : Hid (l0 = T0 ++ jn ws) := by
               show l0 = _
               rw [← hl0.out, List.take_of_length_le (by rw [hnw.out]; exact Nat.le_refl _)]
             obtain ⟨jl, hjl⟩ : ∃ j, Hid ((jn ws).length = j) := ⟨_, Lib.hid rfl⟩
             have hlen : l0.length = p0 + jl := by rw [HL1.out, List.length_append, hp0.out, hjl.out]
             obtain ⟨a9, c9, hu9⟩ := hK.out.1.form
             rw [hlen] at hu9
             subst hu9
             have hjl' : (jl : Int) ≤ 140000000 := by omega
             rw [hjl.out, hp0.out] at HFs
             have HLn := Lib.hid hlen
             clear hlen hl0l
             by_cases hf : 65536 < jl ∨ 16777216 < p0 + (jl + 1)
             · have HN : Hid (R = ([], 3)) := by
                 show R = _
                 rw [← hR.out]; exact HFs.out hf
               by_cases hf1 : 65536 < jl
               · have d1 : (65536 : Int) < ((p0 + jl : Nat) : Int) - (p0 : Int) := by omega
                 have d1' : (65536 : Int) < (p0 : Int) + (jl : Int) - (p0 : Int) := by omega
                 clear hf
                 go_wp2
                 go_ret2
                 rw [HN.out]; exact ⟨rfl, hK.out.2⟩
               · have d1 : ¬ ((65536 : Int) < (p0 : Int) + (jl : Int) - (p0 : Int)) := by omega
                 have d2 : (16777216 : Int) < (p0 : Int) + (jl : Int) + 1 := by omega
                 clear hf
                 go_wp2
                 go_ret2
                 rw [HN.out]; exact ⟨rfl, hK.out.2⟩
             · have d1 : ¬ ((65536 : Int) < (p0 : Int) + (jl : Int) - (p0 : Int)) := by omega
               have d2 : ¬ ((16777216 : Int) < (p0 : Int) + (jl : Int) + 1) := by omega
               have HOk2 : Hid (jl ≤ 65536 ∧ p0 + (jl + 1) ≤ 16777216) := (by omega : jl ≤ 65536 ∧ p0 + (jl + 1) ≤ 16777216)
               clear hf
               go_wp2_with (at_builtin; refine wpList_append_own _ rfl _ _ 101 rfl w.heap.size 5 i0 (.int .u8 0) 1 1 Tryd.underlying101 hi0 hz0 hz1 hz2 rfl (by decide) (.slice a9 (p0 + jl) c9) l0.length (Lib.byteCells l0) rfl (World.ownsRow.alloc hK.out.1 _) ⟨wr.heap.size, 0, none⟩ 1 1 [.int .u8 10] rfl rfl (cell_one_new _ _ _) (by simp [Value.oneCell']) (by unfold maxLen; have := HL0.out; omega) (by have := HL0.out; omega) (by have := hK.out.2.size; simp; omega) ?_; intro v1 W4 hown hgrow _; have HR4 := Lib.hid (ByR.grew1 (c := 10) hK.out.2 hK.out.1 hown hgrow); clear hown hgrow)
               go_roundw
               case rel =>
                 refine ⟨i + 1, by omega, by go_num, ?_, HR4.out.2, ?_, fun j hj h2 => ?_⟩
                 · have := HR4.out.1
                   rw [HL1.out, List.append_assoc, ← HTk.out] at this
                   exact this
                 · rw [HTk.out]
                   simp only [List.length_append, List.length_singleton]
                   rw [hp0.out, hjl.out]
                   exact HOk2.out.2
                 · by_cases e : j = i
                   · subst e; rw [HJ.out, hjl.out]; exact HOk2.out.1
                   · exact HI2.out.2.2 j (by omega) h2
               case measure => simp [RowKit.intOf]; omega
       · obtain rfl : n = i := by omega
         have eT : L.take n = L := List.take_of_length_le (by rw [HLen.out]; exact Nat.le_refl _)
         rw [eT] at hI
         have HN : Hid (R = (wrT L, 0)) := by
           show R = _
           rw [← hR.out]
           exact wrV_good HOK.out (fits_yes (fun j hj => hI.out.2.2.2 j (by rw [← HLen.out]; exact hj) hj) hI.out.2.2.1)
         have hconv := hI.out.1.conv
         obtain ⟨q, hq⟩ : ∃ q : ByteArray, (⟨(wrT L).toArray⟩ : ByteArray) = q := ⟨_, rfl⟩
         rw [hq] at hconv
         have HQ := Lib.hid hq
         clear hq eT
         go_wp2
         go_ret2
         rw [HN.out]
         show Ending.returned (.tuple #[.string q, .int .i64 0]) = .returned (.tuple #[.string ⟨(wrT L).toArray⟩, .int .i64 0]) ∧ _
         rw [HQ.out]
         exact ⟨rfl, hI.out.2.1⟩
end
end Go.Proofs.YtgoadpnoagaflaaDoor
