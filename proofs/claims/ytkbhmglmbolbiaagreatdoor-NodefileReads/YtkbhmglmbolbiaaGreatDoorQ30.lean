/- Own texts, put together: Bk Br Bl Bm. -/
import Derived.Test.YtkbhmglmbolbiaaGreatDoorQ26
namespace Go.Proofs.YtkbhmglmbolbiaaGreatDoor
/- The document's side of layer 9: words. -/
section
set_option maxRecDepth 100000
open Go.RowKit Go.Shelf Go.Lib
theorem ahd_app {a r : Bs} (h : ∀ x ∈ a, x ≠ 35) : ahd (a ++ r) = a ++ ahd r := by
 unfold ahd cutT
 induction a with
 | nil => rfl
 | cons x a ih =>
   rw [List.cons_append, List.takeWhile_cons_of_pos (p := fun y => y != 35) (by simpa using h x (by simp)), ih (fun y hy => h y (by simp [hy])), List.cons_append]
theorem ahd_stop (r : Bs) : ahd (35 :: r) = [] := by simp [ahd, cutT]
theorem ahd_cons {c : UInt8} {r : Bs} (h : c ≠ 35) : ahd (c :: r) = c :: ahd r := ahd_app (a := [c]) (fun x hx => by rw [List.mem_singleton.1 hx]; exact h)
theorem tok_mem {c : UInt8} (hc : bl c = false) : ∀ {l : Bs}, c ∈ l → ∃ t ∈ toks l, c ∈ t := by
 have key : ∀ {l : Bs}, c ∈ l → ∃ t ∈ spl bl l, c ∈ t := by
   intro l
   induction l with
   | nil => intro h; simp at h
   | cons a r ih =>
     intro h
     rw [spl]
     by_cases hp : bl a = true
     · rw [if_pos hp]
       rcases List.mem_cons.1 h with e | e
       · rw [e, hp] at hc; cases hc
       · obtain ⟨t, h1, h2⟩ := ih e
         exact ⟨t, by simp [h1], h2⟩
     · rw [if_neg hp]
       split
       · rename_i e; exact absurd e (spl_ne _ _)
       · rename_i x y e
         rcases List.mem_cons.1 h with e2 | e2
         · exact ⟨a :: x, by simp, by simp [e2]⟩
         · obtain ⟨t, h1, h2⟩ := ih e2
           rw [e] at h1
           rcases List.mem_cons.1 h1 with e3 | e3
           · exact ⟨a :: x, by simp, by rw [e3] at h2; simp [h2]⟩
           · exact ⟨t, by simp [e3], h2⟩
 intro l h
 obtain ⟨t, h1, h2⟩ := key h
 refine ⟨t, ?_, h2⟩
 unfold toks
 rw [List.mem_filter]
 refine ⟨h1, ?_⟩
 cases t with
 | nil => simp at h2
 | cons a r => rfl
theorem gd_ne {c : UInt8} (h : gd c = true) : c ≠ 35 ∧ bl c = false := by
 unfold gd at h
 simp at h
 refine ⟨fun e => ?_, ?_⟩
 · rw [e] at h; exact absurd h.2 (by decide)
 · unfold bl; simp; omega
structure WInv (l : Bs) (st k : Nat) (ts : List Bs) : Prop where
 all : ts ++ toks (ahd (l.drop st)) = lineW l
 may : ∀ x ∈ ts, mayW x = true
 gds : ∀ c ∈ (l.drop st).take (k - st), gd c = true
 le : st ≤ k
theorem WInv.start (l : Bs) : WInv l 0 0 [] := ⟨rfl, fun x hx => by simp at hx, fun c hc => by simp at hc, Nat.le_refl _⟩
abbrev cw (l : Bs) (st k : Nat) : Bs := (l.drop st).take (k - st)
theorem cw_len {l : Bs} {st k : Nat} (hk : k ≤ l.length) : (cw l st k).length = k - st := by
 rw [List.length_take, List.length_drop]; omega
theorem cw_drop {l : Bs} {st k : Nat} (h : st ≤ k) : l.drop st = cw l st k ++ l.drop k := by
 have := (List.take_append_drop (k - st) (l.drop st)).symm
 rw [List.drop_drop, show st + (k - st) = k by omega] at this
 exact this
theorem WInv.ahd {l : Bs} {st k : Nat} {ts : List Bs} (h : WInv l st k ts) : Go.Proofs.YtkbhmglmbolbiaaGreatDoor.ahd (l.drop st) = cw l st k ++ Go.Proofs.YtkbhmglmbolbiaaGreatDoor.ahd (l.drop k) := by
 rw [cw_drop (l := l) h.le, ahd_app (fun x hx => (gd_ne (h.gds x hx)).1)]
theorem mayW_gds {x : Bs} (h : ∀ c ∈ x, gd c = true) (h0 : x ≠ []) (hl : x.length ≤ 400) : mayW x = true := mayW_yes h0 hl (fun _ hj => h _ (List.getElem_mem hj))
theorem WInv.long {l : Bs} {st k : Nat} {ts r : List Bs} (h : WInv l st k ts) (he : toks (Go.Proofs.YtkbhmglmbolbiaaGreatDoor.ahd (l.drop st)) = one (cw l st k) ++ r) (hl : 400 < (cw l st k).length) : (lineW l).all mayW = false := by
 rw [List.all_eq_false]
 refine ⟨cw l st k, ?_, ?_⟩
 · rw [← h.all, he, one_ne (fun e => by rw [e] at hl; simp at hl)]; simp
 · unfold mayW; rw [decide_eq_false (by omega : ¬ (cw l st k).length ≤ 400)]; simp
theorem WInv.more {l : Bs} {st k : Nat} {ts : List Bs} {r : List Bs} (h : WInv l st k ts) (he : toks (Go.Proofs.YtkbhmglmbolbiaaGreatDoor.ahd (l.drop st)) = one (cw l st k) ++ r) (hl : (cw l st k).length ≤ 400) : (ts ++ one (cw l st k)) ++ r = lineW l ∧ ∀ x ∈ ts ++ one (cw l st k), mayW x = true := by
 refine ⟨by rw [← h.all, he, List.append_assoc], fun x hx => ?_⟩
 rcases List.mem_append.1 hx with e | e
 · exact h.may x e
 · by_cases h0 : cw l st k = []
   · rw [h0] at e; simp [one] at e
   · rw [one_ne h0, List.mem_singleton] at e
     rw [e]; exact mayW_gds h.gds h0 hl
theorem WInv.fin {l : Bs} {st k : Nat} {ts : List Bs} (h : WInv l st k ts) (hk : k ≤ l.length) (he : ∀ hk : k < l.length, l[k] = 35) : toks (Go.Proofs.YtkbhmglmbolbiaaGreatDoor.ahd (l.drop st)) = one (cw l st k) ++ [] := by
 have e : Go.Proofs.YtkbhmglmbolbiaaGreatDoor.ahd (l.drop k) = [] := by
   by_cases hlt : k < l.length
   · rw [List.drop_eq_getElem_cons hlt, he hlt, ahd_stop]
   · rw [List.drop_of_length_le (by omega)]; rfl
 rw [h.ahd, e, List.append_nil, List.append_nil, toks_none (fun c hc => (gd_ne (h.gds c hc)).2)]
theorem WInv.blank {l : Bs} {st k : Nat} {ts : List Bs} (h : WInv l st k ts) (hk : k < l.length) (hb : bl l[k] = true) : toks (Go.Proofs.YtkbhmglmbolbiaaGreatDoor.ahd (l.drop st)) = one (cw l st k) ++ toks (Go.Proofs.YtkbhmglmbolbiaaGreatDoor.ahd (l.drop (k + 1))) := by
 have hne : l[k] ≠ 35 := fun e => by rw [e] at hb; cases hb
 rw [h.ahd, List.drop_eq_getElem_cons hk, ahd_cons hne, toks_app (fun c hc => (gd_ne (h.gds c hc)).2) hb]
theorem WInv.next {l : Bs} {st k : Nat} {ts : List Bs} (h : WInv l st k ts) (hk : k < l.length) (hb : bl l[k] = true) (hl : (cw l st k).length ≤ 400) : WInv l (k + 1) (k + 1) (ts ++ one (cw l st k)) := by
 have := h.more (h.blank hk hb) hl
 exact ⟨this.1, this.2, fun c hc => by simp at hc, Nat.le_refl _⟩
theorem WInv.bad {l : Bs} {st k : Nat} {ts : List Bs} (h : WInv l st k ts) (hk : k < l.length) (hne : l[k] ≠ 35) (hb : bl l[k] = false) (hg : gd l[k] = false) : (lineW l).all mayW = false := by
 have hm : l[k] ∈ Go.Proofs.YtkbhmglmbolbiaaGreatDoor.ahd (l.drop st) := by
   rw [h.ahd, List.drop_eq_getElem_cons hk, ahd_cons hne]; simp
 obtain ⟨t, h1, h2⟩ := tok_mem hb hm
 rw [List.all_eq_false]
 refine ⟨t, by rw [← h.all]; simp [h1], ?_⟩
 obtain ⟨j, hj, e⟩ := List.mem_iff_getElem.1 h2
 rw [mayW_no hj (by rw [e]; exact hg)]; simp
theorem WInv.good {l : Bs} {st k : Nat} {ts : List Bs} (h : WInv l st k ts) (hk : k < l.length) (hg : gd l[k] = true) : WInv l st (k + 1) ts := by
 refine ⟨h.all, h.may, fun c hc => ?_, by have := h.le; omega⟩
 have := h.le
 rw [show k + 1 - st = (k - st) + 1 by omega, List.take_add_one] at hc
 rcases List.mem_append.1 hc with e | e
 · exact h.gds c e
 · rw [List.getElem?_drop, show st + (k - st) = k by omega, List.getElem?_eq_getElem hk] at e
   obtain rfl : c = l[k] := by simpa using e
   exact hg
def WdR (w w' : World) (l : Bs) (e : Ending) : Prop := (∃ v, e = .returned (.tuple #[v, .bool ((lineW l).all mayW)]) ∧ ((lineW l).all mayW = true → Sr w' w.heap.size v (lineW l)) ∧ ((lineW l).all mayW = false → v = .slice none 0 0)) ∧ Below w.heap.size w w'
theorem WdR.no {w w' : World} {l : Bs} (h : (lineW l).all mayW = false) (hb : Below w.heap.size w w') : WdR w w' l (.returned (.tuple #[.slice none 0 0, .bool false])) := by
 refine ⟨⟨_, by rw [h], fun e => ?_, fun _ => rfl⟩, hb⟩
 rw [h] at e; cases e
theorem WdR.yes {w w' : World} {l : Bs} {v : Value} {ts : List Bs} (h : ts = lineW l) (hm : ∀ x ∈ ts, mayW x = true) (hS : Sr w' w.heap.size v ts) (hb : Below w.heap.size w w') : WdR w w' l (.returned (.tuple #[v, .bool true])) := by
 have e : (lineW l).all mayW = true := by rw [← h, List.all_eq_true]; exact hm
 refine ⟨⟨v, by rw [e], fun _ => by rw [← h]; exact hS, fun e2 => ?_⟩, hb⟩
 rw [e] at e2; cases e2
end

/- What is written is read: plain facts. -/
section
set_option maxRecDepth 100000
open Go.RowKit Go.Shelf Go.Lib
theorem jn_cons2 (x y : Bs) (r : List Bs) : jn (x :: y :: r) = x ++ 32 :: jn (y :: r) := by
 unfold jn
 rw [join_cons, join_cons]
 simp [joinTail]
theorem jn_one (x : Bs) : jn [x] = x := join_one x [32]
theorem may_gd {x : Bs} (h : mayW x = true) : x ≠ [] ∧ ∀ c ∈ x, gd c = true := by
 unfold mayW at h
 rw [Bool.and_eq_true, Bool.and_eq_true, List.all_eq_true] at h
 exact ⟨by simpa using h.1.1, h.2⟩
def wts (l : List Bs) : Nat := (l.map fun x => x.length + 1).sum
theorem spl_wts (p : UInt8 → Bool) : ∀ l : Bs, wts (spl p l) = l.length + 1 := by
 intro l
 induction l with
 | nil => rfl
 | cons a r ih =>
   rw [spl]
   split
   · simp only [wts, List.map_cons, List.sum_cons] at ih ⊢
     rw [ih]; simp; omega
   · split
     · rename_i e; exact absurd e (spl_ne _ _)
     · rename_i e
       rw [e] at ih
       simp only [wts, List.map_cons, List.sum_cons, List.length_cons] at ih ⊢
       omega
theorem filter_wts (q : Bs → Bool) : ∀ l : List Bs, wts (l.filter q) ≤ wts l := by
 intro l
 induction l with
 | nil => exact Nat.le_refl _
 | cons a r ih =>
   rw [List.filter_cons]
   split
   · simp only [wts, List.map_cons, List.sum_cons] at ih ⊢; omega
   · simp only [wts, List.map_cons, List.sum_cons] at ih ⊢; omega
theorem jn_wts : ∀ {ws : List Bs}, ws ≠ [] → (jn ws).length + 1 = wts ws := by
 intro ws
 induction ws with
 | nil => intro h; exact absurd rfl h
 | cons x r ih =>
   intro _
   cases r with
   | nil => rw [jn_one]; simp [wts]
   | cons y r =>
     have := ih (by simp)
     rw [jn_cons2, List.length_append, List.length_cons]
     simp only [wts, List.map_cons, List.sum_cons] at this ⊢
     omega
theorem jn_lineW (l : Bs) : (jn (lineW l)).length ≤ l.length := by
 by_cases h : lineW l = []
 · rw [h]; simp [jn, join_nil]
 · have h1 := jn_wts h
   have h2 : wts (lineW l) ≤ wts (spl bl (ahd l)) := filter_wts _ _
   rw [spl_wts] at h2
   have h3 : (ahd l).length ≤ l.length := cutT_len _ _
   omega
theorem good_fits : ∀ (ls : List Bs) (n : Nat), bad n ls = none → (∀ p ∈ good n ls, okL p.2 = true ∧ (jn p.2).length ≤ 65536) ∧ (wrT ((good n ls).map (·.2))).length ≤ wts ls := by
 intro ls
 induction ls with
 | nil => intro n _; exact ⟨fun p hp => by simp [good] at hp, by simp [good, wrT]⟩
 | cons l r ih =>
   intro n h
   rw [bad] at h
   by_cases he : lineE l = 0
   · rw [if_pos he] at h
     have hz := lineE_zero.1 he
     have hi := ih (n + 1) h
     rw [good]
     by_cases h0 : (lineW l).isEmpty = true
     · rw [if_pos h0, List.nil_append]
       refine ⟨hi.1, ?_⟩
       simp only [wts, List.map_cons, List.sum_cons] at hi ⊢
       omega
     · rw [if_neg h0]
       have hj := jn_lineW l
       refine ⟨fun p hp => ?_, ?_⟩
       · rcases List.mem_append.1 hp with e | e
         · rw [List.mem_singleton.1 e]
           refine ⟨?_, by show (jn (lineW l)).length ≤ 65536; omega⟩
           unfold okL
           rw [hz.2]; simpa using h0
         · exact hi.1 p e
       · rw [List.map_append, show wrT ((([(n, lineW l)] : List (Nat × List Bs)).map (·.2)) ++ (good (n + 1) r).map (·.2)) = (jn (lineW l) ++ [10]) ++ wrT ((good (n + 1) r).map (·.2)) by simp [wrT]]
         have := hi.2
         simp only [wts, List.map_cons, List.sum_cons, List.length_append, List.length_singleton] at this ⊢
         omega
   · rw [if_neg he] at h; cases h
end

/- The document's side of layer 9: words, the walk. -/
section
set_option maxRecDepth 100000
open Go.RowKit Go.Shelf Go.Lib
theorem Sr.grew {W W2 : World} {B : Nat} {v v' : Value} {ts : List Bs} {x : Bs} (hown : W2.ownsRow B 9 1 v' (ts.length + 1) (svs ts ++ [sv x])) (_ : Sr W B v ts) : Sr W2 B v' (ts ++ [x]) := by
 unfold Sr
 rw [List.length_append]
 simpa [svs] using hown
theorem own_ap {W : World} {B e size n : Nat} {v : Value} {xs : List Value} (h : W.ownsRow B e size v n xs) : ∀ k, v.ownBlock = some k → B ≤ k := fun k hk => (World.ownsRow.lt h k hk).1
theorem below_grew {w W W2 : World} {e size n : Nat} {v : Value} {xs : List Value} {tmp : Obj} (hb : Below w.heap.size w W) (h : W.ownsRow w.heap.size e size v n xs) (hg : (W.alloc tmp).grownBy W2 v.ownBlock) : Below w.heap.size w W2 :=
 hb.trans (((Below.refl _ W).alloc hb.size _).grown hg (by simp; have := hb.size; omega) (fun k hk => own_ap h k hk))
theorem empty_is {q : ByteArray} {x : Bs} (h : q.data.toList = x) : (q.toList == []) = x.isEmpty := by
 rw [Lib.toList_data, h]; cases x <;> rfl
set_option maxRecDepth 100000 in
set_option maxHeartbeats 8000000 in
theorem refWords_any (s : ByteArray) (l : Bs) (w : World) (hl : s.data.toList = l) (hlen : l.length ≤ 1000000000) : Calls Tryz.prog 19 #[.string s] w fun e w' => WdR w w' l e := by
 have hsz : s.size = l.length := by rw [Lib.size_eq, hl]
 have HZ := Lib.hid hsz
 have HB : Hid (∀ (k : Nat) (h1 : k < s.size) (h2 : k < l.length), s[k]'h1 = l[k]) := fun k h1 h2 => by
   have e : s = ⟨l.toArray⟩ := by rw [← hl]
   subst e
   exact byte_atL h1 h2
 have HX : Hid (∀ st k, s.extract st k = ⟨((l.drop st).take (k - st)).toArray⟩) := fun st k => by rw [Lib.extract_eq, hl]
 have hs1 : (s.size : Int) ≤ 1000000000 := by omega
 obtain ⟨i0, hi0, hz0, hz1, hz2⟩ := info_parts (show (Tryz.prog.info? 9).map (fun i => (i.zero, i.size, i.bytes)) = some (some (.string ⟨#[]⟩), 1, 16) by kernel_rfl)
 have HLn := Lib.hid hlen
 clear hl hsz hlen
 go_enter Tryz.func19, Tryz.ntmps19
 go_wp2
 go_loopw [4, 5, 6] (fun s4 s5 s6 wr => ∃ (k st : Nat) (q : ByteArray) (ts : List Bs), k ≤ s.size ∧ s6 = .int .i64 (k : Nat) ∧ s5 = .string q ∧ q.size + st = k ∧ Hid (q.data.toList = cw l st k ∧ WInv l st k ts ∧ ts.length ≤ k ∧ Sr wr w.heap.size s4 ts ∧ Below w.heap.size w wr)) (fun _ _ s6 _ => s.size - (RowKit.intOf s6).toNat)
 case atStart => exact ⟨0, 0, ⟨#[]⟩, [], Nat.zero_le _, rfl, rfl, rfl, rfl, WInv.start l, Nat.le_refl _, World.ownsRow_nil _ _ _ _, Below.refl _ _⟩
 case round =>
   obtain ⟨k, st, q, ts, hk, rfl, rfl, hq, hI⟩ := hrel
   have hk0 : (0 : Int) ≤ (k : Int) := by omega
   have hkl : (k : Int) ≤ (s.size : Int) := by omega
   have hqk : (q.size : Int) ≤ (k : Int) := by omega
   obtain ⟨x, hx⟩ : ∃ x, Hid (cw l st k = x) := ⟨_, Lib.hid rfl⟩
   have HQ : Hid (q.data.toList = x) := (by rw [hI.out.1, hx.out] : q.data.toList = x)
   have HQS : Hid (q.size = x.length) := (by rw [Lib.size_eq, HQ.out] : q.size = x.length)
   have HQE : Hid ((q.toList == []) = x.isEmpty) := empty_is HQ.out
   have HSV : Hid ((⟨x.toArray⟩ : ByteArray) = q) := (by rw [← HQ.out] : (⟨x.toArray⟩ : ByteArray) = q)
   have HTL : Hid (ts.length ≤ 1000000000) := by
     show ts.length ≤ _
     have h1 := hI.out.2.2.1
     have h2 := HZ.out
     have h3 := HLn.out
     omega
   by_cases hfin : ∀ h : k < l.length, l[k] = 35
   · have hfin2 : (k = s.size) ∨ (∃ h : k < s.size, ((s[k]'h).toNat : Int) = 35) := by
       by_cases e : k = s.size
       · exact Or.inl e
       · have h1 : k < s.size := by omega
         have h2 : k < l.length := by rw [← HZ.out]; exact h1
         exact Or.inr ⟨h1, by rw [HB.out k h1 h2, hfin h2]; rfl⟩
     have HF := Lib.hid (hI.out.2.1.fin (by have := HZ.out; omega) hfin)
     clear hfin
     by_cases hlong : 400 < q.size
     · have hlong' : (400 : Int) < (q.size : Int) := by omega
       have HN := Lib.hid (hI.out.2.1.long HF.out (by rw [hx.out, ← HQS.out]; exact hlong))
       rcases hfin2 with e | ⟨h1, h2⟩
       · have e1 : (k : Int) = (s.size : Int) := by omega
         subst e
         go_wp2
         go_ret2
         exact WdR.no HN.out hI.out.2.2.2.2
       · have e1 : ¬ ((k : Int) = (s.size : Int)) := by omega
         have e2 : (k : Int) < (s.size : Int) := by omega
         have f0 : ((k : Int) == (s.size : Int)) = false := by simp; omega
         go_wp2
         go_ret2
         exact WdR.no HN.out hI.out.2.2.2.2
     · have hlong' : ¬ ((400 : Int) < (q.size : Int)) := by omega
       have HM := Lib.hid (hI.out.2.1.more HF.out (by rw [hx.out, ← HQS.out]; omega))
       rw [hx.out] at HM
       by_cases h0 : x = []
       · have e3 : (q.toList == []) = true := by rw [HQE.out, h0]; rfl
         have HE : Hid (ts = lineW l ∧ ∀ x ∈ ts, mayW x = true) := by
           have := HM.out
           rw [h0] at this
           refine Lib.hid ?_
           simpa [one] using this
         clear HM HQE
         rcases hfin2 with e | ⟨h1, h2⟩
         · have e1 : (k : Int) = (s.size : Int) := by omega
           subst e
           go_wp2
           go_ret2
           exact WdR.yes HE.out.1 HE.out.2 hI.out.2.2.2.1 hI.out.2.2.2.2
         · have e1 : ¬ ((k : Int) = (s.size : Int)) := by omega
           have e2 : (k : Int) < (s.size : Int) := by omega
           have f0 : ((k : Int) == (s.size : Int)) = false := by simp; omega
           go_wp2
           go_ret2
           exact WdR.yes HE.out.1 HE.out.2 hI.out.2.2.2.1 hI.out.2.2.2.2
       · have e3 : (q.toList == []) = false := by rw [HQE.out]; cases x with
           | nil => exact absurd rfl h0
           | cons a r => rfl
         have HE : Hid (ts ++ [x] = lineW l ∧ ∀ y ∈ ts ++ [x], mayW y = true) := by
           have := HM.out
           rw [one_ne h0, List.append_nil] at this
           exact this
         clear HM HQE
         rcases hfin2 with e | ⟨h1, h2⟩
         · have e1 : (k : Int) = (s.size : Int) := by omega
           subst e
           go_wp2_with (at_builtin; refine wpList_append_own _ rfl _ _ 54 rfl w.heap.size 9 i0 (.string ⟨#[]⟩) 1 16 Tryz.underlying54 hi0 hz0 hz1 hz2 rfl (by decide) u4 ts.length (svs ts) rfl (World.ownsRow.alloc hI.out.2.2.2.1 _) ⟨wr.heap.size, 0, none⟩ 1 1 [.string q] rfl rfl (cell_one_new _ _ _) (by simp [Value.oneCell']) (by unfold maxLen; have := HTL.out; omega) (by have := HTL.out; omega) (by have := hI.out.2.2.2.2.size; simp; omega) ?_; intro v' W4 hown hgrow _; rw [← HSV.out] at hown; have HR := Lib.hid (And.intro (Sr.grew hown hI.out.2.2.2.1) (below_grew hI.out.2.2.2.2 hI.out.2.2.2.1 hgrow)); clear hown hgrow)
           go_ret2
           exact WdR.yes HE.out.1 HE.out.2 HR.out.1 HR.out.2
         · have e1 : ¬ ((k : Int) = (s.size : Int)) := by omega
           have e2 : (k : Int) < (s.size : Int) := by omega
           have f0 : ((k : Int) == (s.size : Int)) = false := by simp; omega
           go_wp2_with (at_builtin; refine wpList_append_own _ rfl _ _ 54 rfl w.heap.size 9 i0 (.string ⟨#[]⟩) 1 16 Tryz.underlying54 hi0 hz0 hz1 hz2 rfl (by decide) u4 ts.length (svs ts) rfl (World.ownsRow.alloc hI.out.2.2.2.1 _) ⟨wr.heap.size, 0, none⟩ 1 1 [.string q] rfl rfl (cell_one_new _ _ _) (by simp [Value.oneCell']) (by unfold maxLen; have := HTL.out; omega) (by have := HTL.out; omega) (by have := hI.out.2.2.2.2.size; simp; omega) ?_; intro v' W4 hown hgrow _; rw [← HSV.out] at hown; have HR := Lib.hid (And.intro (Sr.grew hown hI.out.2.2.2.1) (below_grew hI.out.2.2.2.2 hI.out.2.2.2.1 hgrow)); clear hown hgrow)
           go_ret2
           exact WdR.yes HE.out.1 HE.out.2 HR.out.1 HR.out.2
   · have hklt : k < l.length := Nat.lt_of_not_le fun e => hfin fun h => absurd h (Nat.not_lt.2 e)
     have hne : l[k] ≠ 35 := fun e => hfin (fun _ => e)
     have hks : k < s.size := by rw [HZ.out]; exact hklt
     have e1 : ¬ ((k : Int) = (s.size : Int)) := by omega
     have e2 : (k : Int) < (s.size : Int) := by omega
     have f0 : ((k : Int) == (s.size : Int)) = false := by simp; omega
     obtain ⟨n, hn⟩ : ∃ n, Hid (l[k].toNat = n) := ⟨_, Lib.hid rfl⟩
     have hv : (((s[k]'hks).toNat : Nat) : Int) = (n : Int) := by rw [HB.out k hks hklt, hn.out]
     have n35 : ¬ ((n : Int) = 35) := fun e => hne (UInt8.toNat.inj (by rw [hn.out]; show n = 35; omega))
     have HG : Hid (gd l[k] = (decide (33 ≤ n) && decide (n ≤ 126) && !(n == 35))) := (by unfold gd; rw [hn.out] : gd l[k] = _)
     have HBl : Hid (bl l[k] = (n == 32 || n == 9 || n == 13)) := (by unfold bl; rw [hn.out] : bl l[k] = _)
     have HNE := Lib.hid hne
     clear hfin hne
     by_cases hblk : n = 32 ∨ n = 9 ∨ n = 13
     · have hbl : bl l[k] = true := by rw [HBl.out]; rcases hblk with rfl | rfl | rfl <;> rfl
       by_cases hlong : 400 < q.size
       · have hlong' : (400 : Int) < (q.size : Int) := by omega
         have HN := Lib.hid (hI.out.2.1.long (hI.out.2.1.blank hklt hbl) (by rw [hx.out, ← HQS.out]; exact hlong))
         clear HG HBl n35 hbl
         rcases hblk with rfl | rfl | rfl
         all_goals
           go_wp2
           go_ret2
           exact WdR.no HN.out hI.out.2.2.2.2
       · have hlong' : ¬ ((400 : Int) < (q.size : Int)) := by omega
         have HNx := Lib.hid (hI.out.2.1.next hklt hbl (by rw [hx.out, ← HQS.out]; omega))
         rw [hx.out] at HNx
         clear HG HBl n35 hbl
         by_cases h0 : x = []
         · have e3 : (q.toList == []) = true := by rw [HQE.out, h0]; rfl
           have HE : Hid (WInv l (k + 1) (k + 1) ts) := by
             have := HNx.out
             rw [h0] at this
             refine Lib.hid ?_
             simpa [one] using this
           have HS2 := Lib.hid (And.intro hI.out.2.2.1 hI.out.2.2.2)
           clear HNx HQE
           rcases hblk with rfl | rfl | rfl
           all_goals
             go_wp2
             refine ⟨⟨k + 1, k + 1, ⟨#[]⟩, ts, by omega, by go_num, rfl, ?_, ?_, HE.out, Nat.le_succ_of_le HS2.out.1, HS2.out.2⟩, ?_⟩
             · show 0 + (k + 1) = k + 1; omega
             · simp
             · simp [RowKit.intOf]; omega
         · have e3 : (q.toList == []) = false := by rw [HQE.out]; cases x with
             | nil => exact absurd rfl h0
             | cons a r => rfl
           have HE : Hid (WInv l (k + 1) (k + 1) (ts ++ [x])) := by
             have := HNx.out
             rw [one_ne h0] at this
             exact this
           clear HNx HQE
           rcases hblk with rfl | rfl | rfl
           all_goals
             go_wp2_with (at_builtin; refine wpList_append_own _ rfl _ _ 54 rfl w.heap.size 9 i0 (.string ⟨#[]⟩) 1 16 Tryz.underlying54 hi0 hz0 hz1 hz2 rfl (by decide) u4 ts.length (svs ts) rfl (World.ownsRow.alloc hI.out.2.2.2.1 _) ⟨wr.heap.size, 0, none⟩ 1 1 [.string q] rfl rfl (cell_one_new _ _ _) (by simp [Value.oneCell']) (by unfold maxLen; have := HTL.out; omega) (by have := HTL.out; omega) (by have := hI.out.2.2.2.2.size; simp; omega) ?_; intro v' W4 hown hgrow _; rw [← HSV.out] at hown; have HR := Lib.hid (And.intro (Sr.grew hown hI.out.2.2.2.1) (below_grew hI.out.2.2.2.2 hI.out.2.2.2.1 hgrow)); clear hown hgrow)
             refine ⟨⟨k + 1, k + 1, ⟨#[]⟩, ts ++ [x], by omega, by go_num, rfl, ?_, ?_, HE.out, ?_, HR.out⟩, ?_⟩
             · show 0 + (k + 1) = k + 1; omega
             · simp
             · have := hI.out.2.2.1; simp; omega
             · simp [RowKit.intOf]; omega
     · have hbl : bl l[k] = false := by rw [HBl.out]; simp; omega
       have d1 : ¬ ((n : Int) = 32) := by omega
       have d2 : ¬ ((n : Int) = 9) := by omega
       have d3 : ¬ ((n : Int) = 13) := by omega
       have f1 : ((n : Int) == 32) = false := by simp; omega
       have f2 : ((n : Int) == 9) = false := by simp; omega
       have f3 : ((n : Int) == 13) = false := by simp; omega
       have f4 : ((n : Int) == 35) = false := by simp; omega
       by_cases hg : 33 ≤ n ∧ n ≤ 126
       · have hgd : gd l[k] = true := by rw [HG.out]; simp; omega
         have HNx := Lib.hid (hI.out.2.1.good hklt hgd)
         have d4 : ¬ ((n : Int) < 33) := by omega
         have d5 : ¬ ((126 : Int) < (n : Int)) := by omega
         have hst : (k : Int) - (q.size : Int) = (st : Int) := by omega
         have hst0 : (0 : Int) ≤ (st : Int) := by omega
         have hst1 : (st : Int) ≤ (k : Int) + 1 := by omega
         have hst2 : (k : Int) + 1 ≤ (s.size : Int) := by omega
         have HX1 := Lib.hid (HX.out st (k + 1))
         have hX2 : (s.extract st (k + 1)).size = k + 1 - st := by
           rw [Lib.size_eq, HX1.out]
           show ((l.drop st).take (k + 1 - st)).length = _
           rw [List.length_take, List.length_drop]; omega
         have HX2 := Lib.hid hX2
         have HS2 := Lib.hid (And.intro hI.out.2.2.1 hI.out.2.2.2)
         have HKS : Hid (st ≤ k) := (by omega : st ≤ k)
         clear HG HBl hbl hgd hX2 HX HQE
         go_wp2
         refine ⟨⟨k + 1, st, s.extract st (k + 1), ts, by omega, by go_num, rfl, ?_, ?_, HNx.out, Nat.le_succ_of_le HS2.out.1, HS2.out.2⟩, ?_⟩
         · rw [HX2.out]; have := HKS.out; omega
         · rw [HX1.out]
         · simp [RowKit.intOf]; omega
       · have hgd : gd l[k] = false := by rw [HG.out]; simp; omega
         have HN := Lib.hid (hI.out.2.1.bad hklt HNE.out hbl hgd)
         clear HG HBl hbl hgd HQE HX
         have hd : (n : Int) < 33 ∨ (126 : Int) < (n : Int) := by omega
         rcases hd with d4 | d4
         · go_wp2
           go_ret2
           exact WdR.no HN.out hI.out.2.2.2.2
         · have d5 : ¬ ((n : Int) < 33) := by omega
           go_wp2
           go_ret2
           exact WdR.no HN.out hI.out.2.2.2.2
end

/- The document's side of layer 9: Read. -/
section
set_option maxRecDepth 100000
open Go.RowKit Go.Shelf Go.Lib
structure RdI (t : Bs) (st k : Nat) (done : List Bs) : Prop where
 all : lns t = done ++ (if st ≤ t.length then lns (t.drop st) else [])
 free : ∀ c ∈ cw t st k, c ≠ 10
 none : bad 1 done = none
 le : st ≤ k
 fin : k = t.length + 1 → st = k
theorem RdI.start (t : Bs) : RdI t 0 0 [] := ⟨rfl, fun c hc => by simp [cw] at hc, rfl, Nat.le_refl _, fun h => by omega⟩
theorem RdI.done {t : Bs} {st : Nat} {done : List Bs} (h : RdI t st (t.length + 1) done) : lns t = done := by
 have := h.all
 rw [h.fin rfl, if_neg (by omega), List.append_nil] at this
 exact this
theorem RdI.go {t : Bs} {st k : Nat} {done : List Bs} (h : RdI t st k done) (hk : k < t.length) (hc : t[k] ≠ 10) : RdI t st (k + 1) done := by
 refine ⟨h.all, fun c hc' => ?_, h.none, by have := h.le; omega, fun e => by omega⟩
 have := h.le
 unfold cw at hc'
 rw [show k + 1 - st = (k - st) + 1 by omega, List.take_add_one] at hc'
 rcases List.mem_append.1 hc' with e | e
 · exact h.free c e
 · rw [List.getElem?_drop, show st + (k - st) = k by omega, List.getElem?_eq_getElem hk] at e
   obtain rfl : c = t[k] := by simpa using e
   exact hc
theorem RdI.line {t : Bs} {st k : Nat} {done : List Bs} (h : RdI t st k done) (hk : k ≤ t.length) (hc : ∀ hk : k < t.length, t[k] = 10) : lns t = done ++ cw t st k :: (if k + 1 ≤ t.length then lns (t.drop (k + 1)) else []) := by
 rw [h.all, if_pos (by have := h.le; omega)]
 congr 1
 have e := cw_drop (l := t) h.le
 by_cases hlt : k < t.length
 · rw [e, List.drop_eq_getElem_cons hlt, hc hlt, lns_app h.free, if_pos (by omega : k + 1 ≤ t.length)]
 · rw [if_neg (by omega : ¬ k + 1 ≤ t.length), e, List.drop_of_length_le (by omega), List.append_nil, lns_none (fun hm => h.free 10 hm rfl)]
theorem RdI.bad {t : Bs} {st k : Nat} {done : List Bs} (h : RdI t st k done) (hk : k ≤ t.length) (hc : ∀ hk : k < t.length, t[k] = 10) (he : lineE (cw t st k) ≠ 0) : bad 1 (lns t) = some (done.length + 1, lineE (cw t st k)) := by
 rw [h.line hk hc, bad_app h.none, Go.Proofs.YtkbhmglmbolbiaaGreatDoor.bad, if_neg he, Nat.add_comm]
theorem RdI.step {t : Bs} {st k : Nat} {done : List Bs} (h : RdI t st k done) (hk : k ≤ t.length) (hc : ∀ hk : k < t.length, t[k] = 10) (he : lineE (cw t st k) = 0) : RdI t (k + 1) (k + 1) (done ++ [cw t st k]) := by
 refine ⟨by rw [h.line hk hc, List.append_assoc]; rfl, fun c hc => by simp [cw] at hc, ?_, Nat.le_refl _, fun _ => rfl⟩
 rw [bad_app h.none, Go.Proofs.YtkbhmglmbolbiaaGreatDoor.bad, if_pos he]; rfl
theorem RdI.dlen {t : Bs} {st k : Nat} {done : List Bs} (h : RdI t st k done) : done.length ≤ t.length + 1 := by
 have := lns_len t
 rw [h.all, List.length_append] at this
 omega
theorem lineE_is {l : Bs} : lineE l = if 65536 < l.length then 3 else if (lineW l).all mayW then 0 else 4 := rfl
theorem Lr.below_grew {e : TypeId} {w W W2 : World} {v : Value} {ps : List Lt} {tmp : Obj} (hb : Below w.heap.size w W) (h : Lr e W w.heap.size v ps) (hg : (W.alloc tmp).grownBy W2 v.ownBlock) : Below w.heap.size w W2 := Go.Proofs.YtkbhmglmbolbiaaGreatDoor.below_grew hb h.own hg
set_option maxRecDepth 100000 in
set_option maxHeartbeats 8000000 in
theorem refRead_any (s : ByteArray) (t : Bs) (w : World) (ht : s.data.toList = t) (hl : t.length ≤ 16777216) :
   Calls Tryz.prog 11 #[.string s] w fun e w' => ReadR 56 w w' t e := by
 have hsz : s.size = t.length := by rw [Lib.size_eq, ht]
 have h1 : ¬ ((16777216 : Int) < (s.size : Int)) := by omega
 have h2 : (s.size : Int) ≤ 16777216 := by omega
 have HL := Lib.hid hl
 have HZ := Lib.hid hsz
 have HB : Hid (∀ (k : Nat) (h1 : k < s.size) (h2 : k < t.length), s[k]'h1 = t[k]) := fun k g1 g2 => by
   have e : s = ⟨t.toArray⟩ := by rw [← ht]
   subst e
   exact byte_atL g1 g2
 have HX : Hid (∀ st k, (s.extract st k).data.toList = cw t st k) := fun st k => by rw [Lib.extract_eq, ht]
 obtain ⟨i0, hi0, hz0, hz1, hz2⟩ := info_parts (show (Tryz.prog.info? 56).map (fun i => (i.zero, i.size, i.bytes)) = some (some (.agg #[.int .i64 0, .slice none 0 0]), 2, 32) by kernel_rfl)
 clear ht hl hsz
 go_enter Tryz.func11, Tryz.ntmps11
 go_wp2
 go_loopw [5, 6, 7, 8] (fun s5 s6 s7 s8 wr => ∃ (k st : Nat) (ps : List Lt) (done : List Bs), k ≤ s.size + 1 ∧ s8 = .int .i64 (k : Nat) ∧ s7 = .int .i64 (st : Nat) ∧ st ≤ k ∧ s6 = .int .i64 ((done.length + 1 : Nat) : Int) ∧ Hid (RdI t st k done ∧ tell ps = good 1 done ∧ Lr 56 wr w.heap.size s5 ps ∧ Below w.heap.size w wr)) (fun _ _ _ s8 _ => s.size + 1 - (RowKit.intOf s8).toNat)
 case atStart => exact ⟨0, 0, [], [], Nat.zero_le _, rfl, rfl, Nat.le_refl _, rfl, RdI.start t, rfl, Lr.nil _ _ _, Below.refl _ _⟩
 case round =>
   obtain ⟨k, st, ps, done, hk, rfl, rfl, hst, rfl, hI⟩ := hrel
   have hk0 : (0 : Int) ≤ (k : Int) := by omega
   have hst0 : (0 : Int) ≤ (st : Int) := by omega
   have hst' : (st : Int) ≤ (k : Int) := by omega
   have hdl : done.length ≤ 16777217 := by have := hI.out.1.dlen; have := HL.out; omega
   have hdl' : (done.length : Int) ≤ 16777217 := by omega
   have LN : Hid (ps.length ≤ 16777217) := by
     show ps.length ≤ _
     have e := congrArg List.length hI.out.2.1
     have := good_len done 1
     rw [← e] at this
     simp [tell] at this
     omega
   by_cases hend : k = s.size + 1
   · have HF : Hid (rdV t = (good 1 done, 0, 0)) := by
       show rdV t = _
       have h := hI.out.1
       rw [hend, HZ.out] at h
       rw [rdV_good HL.out (by rw [h.done]; exact h.none), h.done]
     have hgt : ¬ ((k : Int) ≤ (s.size : Int)) := by omega
     go_wp2
     go_ret3
     exact ⟨_, ps, by rw [HF.out]; rfl, hI.out.2.2.1, by rw [HF.out]; exact hI.out.2.1, hI.out.2.2.2⟩
   · have hkl : (k : Int) ≤ (s.size : Int) := by omega
     have hks : k ≤ t.length := by have := HZ.out; omega
     by_cases hnl : ∀ h : k < t.length, t[k] = 10
     · have hnl2 : (¬ ((k : Int) < (s.size : Int))) ∨ ((k : Int) < (s.size : Int) ∧ ∃ h : k < s.size, ((s[k]'h).toNat : Int) = 10) := by
         by_cases e : k = s.size
         · exact Or.inl (by omega)
         · have h1 : k < s.size := by omega
           have h2 : k < t.length := by rw [← HZ.out]; exact h1
           exact Or.inr ⟨by omega, h1, by rw [HB.out k h1 h2, hnl h2]; rfl⟩
       obtain ⟨ln, hln⟩ : ∃ ln, Hid (cw t st k = ln) := ⟨_, Lib.hid rfl⟩
       have HLL : Hid (ln.length = k - st) := (by rw [← hln.out]; exact cw_len hks : ln.length = k - st)
       have HBad : Hid (∀ e : Nat, e ≠ 0 → lineE ln = e → rdV t = ([], done.length + 1, e)) := fun e h0 he => by
         have := hI.out.1.bad hks hnl (by rw [hln.out, he]; exact h0)
         rw [hln.out, he] at this
         exact rdV_bad HL.out this
       have HStep : Hid (lineE ln = 0 → RdI t (k + 1) (k + 1) (done ++ [ln])) := fun he => by
         have := hI.out.1.step hks hnl (by rw [hln.out]; exact he)
         rwa [hln.out] at this
       clear hnl
       by_cases hlong : 65536 < k - st
       · have hlong' : (65536 : Int) < (k : Int) - (st : Int) := by omega
         have HE := Lib.hid (HBad.out 3 (by omega) (by rw [lineE_is, if_pos (by rw [HLL.out]; exact hlong)]))
         clear HBad HStep
         rcases hnl2 with e1 | ⟨e1, q1, q2⟩
         · go_wp2
           go_ret3
           exact ⟨_, [], by rw [HE.out]; rfl, Lr.nil _ _ _, by rw [HE.out]; rfl, hI.out.2.2.2⟩
         · go_wp2
           go_ret3
           exact ⟨_, [], by rw [HE.out]; rfl, Lr.nil _ _ _, by rw [HE.out]; rfl, hI.out.2.2.2⟩
       · have hlong' : ¬ ((65536 : Int) < (k : Int) - (st : Int)) := by omega
         obtain ⟨q, hq⟩ : ∃ q, s.extract st k = q := ⟨_, rfl⟩
         have HWo : Hid (∀ W, Calls Tryz.prog 19 #[.string q] W fun e w' => WdR W w' ln e) := fun W => by
           refine refWords_any q ln W (by rw [← hq, HX.out, hln.out]) ?_
           rw [HLL.out]; omega
         clear HX
         obtain ⟨ok, hok⟩ : ∃ ok, Hid ((lineW ln).all mayW = ok) := ⟨_, Lib.hid rfl⟩
         cases ok
         · have HE := Lib.hid (HBad.out 4 (by omega) (by rw [lineE_is, if_neg (by rw [HLL.out]; exact hlong), hok.out]; rfl))
           have HW2 : Hid (∀ W, Calls Tryz.prog 19 #[.string q] W fun e w' => e = .returned (.tuple #[.slice none 0 0, .bool false]) ∧ Below W.heap.size W w') := fun W => by
             refine (HWo.out W).mono ?_
             rintro e w' ⟨⟨v, rfl, g1, g2⟩, hb⟩
             rw [g2 hok.out, hok.out]
             exact ⟨rfl, hb⟩
           clear HBad HStep HWo
           rcases hnl2 with e1 | ⟨e1, q1, q2⟩
           all_goals
             go_wp2_with (go_at_call 19; refine (HW2.out _).mono ?_; rintro e W2 ⟨rfl, hb2⟩; have HB2 := Lib.hid (hI.out.2.2.2.trans (hb2.mono hI.out.2.2.2.size)); clear hb2)
             go_ret3
             exact ⟨_, [], by rw [HE.out]; rfl, Lr.nil _ _ _, by rw [HE.out]; rfl, HB2.out⟩
         · have hst2 := HStep.out (by rw [lineE_is, if_neg (by rw [HLL.out]; exact hlong), hok.out]; rfl)
           have HST := Lib.hid hst2
           have HW2 : Hid (∀ W, Calls Tryz.prog 19 #[.string q] W fun e w' => ∃ a c, e = .returned (.tuple #[.slice a (lineW ln).length c, .bool true]) ∧ Sr w' W.heap.size (.slice a (lineW ln).length c) (lineW ln) ∧ Below W.heap.size W w') := fun W => by
             refine (HWo.out W).mono ?_
             rintro e w' ⟨⟨v, rfl, g1, g2⟩, hb⟩
             have hS := g1 hok.out
             obtain ⟨a, c, rfl, _, _⟩ := hS.form
             exact ⟨a, c, by rw [hok.out], hS, hb⟩
           obtain ⟨ws, hws⟩ : ∃ ws, Hid (lineW ln = ws) := ⟨_, Lib.hid rfl⟩
           rw [hws.out] at HW2
           have HG : Hid (good 1 (done ++ [ln]) = good 1 done ++ (if ws.isEmpty then [] else [(done.length + 1, ws)])) := by
             show good 1 (done ++ [ln]) = _
             rw [good_step, hws.out]
           have hwl : ws.length ≤ 65537 := by
             rw [← hws.out]
             have g1 := toks_len (ahd ln)
             have g2 : (ahd ln).length ≤ ln.length := cutT_len _ _
             have g3 := HLL.out
             show (toks (ahd ln)).length ≤ _
             omega
           have hkk : k + 1 ≤ s.size + 1 := by omega
           have HMs : Hid (s.size + 1 - (k + 1) < s.size + 1 - k) := (by omega : s.size + 1 - (k + 1) < s.size + 1 - k)
           clear HBad HStep HWo hst2
           by_cases hw0 : ws = []
           · have hwn : ws.length = 0 := by rw [hw0]; rfl
             rw [hwn] at HW2
             have HI2 : Hid (tell ps = good 1 (done ++ [ln])) := by
               show tell ps = _
               rw [HG.out, hw0]; simp [hI.out.2.1]
             clear hw0 hwn hwl
             rcases hnl2 with e1 | ⟨e1, q1, q2⟩
             all_goals
               go_wp2_with (go_at_call 19; refine (HW2.out _).mono ?_; rintro e W2 ⟨wa, wc, rfl, hS2, hb2⟩; have HB2 := Lib.hid (And.intro (hI.out.2.2.1.later hb2) (hI.out.2.2.2.trans (hb2.mono hI.out.2.2.2.size))); clear hb2 hS2)
               go_roundw
               case rel => exact ⟨k + 1, k + 1, ps, done ++ [ln], hkk, by go_num, by go_num, Nat.le_refl _, by rw [List.length_append]; go_num, HST.out, HI2.out, HB2.out⟩
               case measure => simp [RowKit.intOf]; omega
           · have hwz : (0 : Int) < (ws.length : Int) := by
               have := List.length_pos_iff.2 hw0
               omega
             have hwl' : (ws.length : Int) ≤ 65537 := by omega
             have HI2 : Hid (∀ wv, tell (ps ++ [(done.length + 1, ws, wv)]) = good 1 (done ++ [ln])) := fun wv => by
               rw [HG.out, ← hI.out.2.1]
               cases ws with
               | nil => exact absurd rfl hw0
               | cons x r => simp [tell]
             have HWN := Lib.hid hw0
             clear hw0 hwl
             rcases hnl2 with e1 | ⟨e1, q1, q2⟩
             all_goals
               go_wp2_with (first
                 | (go_at_call 19; refine (HW2.out _).mono ?_; rintro e W2 ⟨wa, wc, rfl, hS2, hb2⟩; have HB2 := Lib.hid (And.intro (hI.out.2.2.1.later hb2) (hI.out.2.2.2.trans (hb2.mono hI.out.2.2.2.size))); have HS2 := Lib.hid (hS2.base (show w.heap.size ≤ wr.heap.size from hI.out.2.2.2.size)); have HFr := Lib.hid (hI.out.2.2.1.fresh hS2 (Nat.le_refl _) HWN.out); clear hb2 hS2)
                 | (at_builtin; refine wpList_append_own _ rfl _ _ 38 rfl w.heap.size 56 i0 (.agg #[.int .i64 0, .slice none 0 0]) 2 32 Tryz.underlying38 hi0 hz0 hz1 hz2 rfl (by decide) u5 ps.length (lcs ps) rfl (World.ownsRow.alloc HB2.out.1.own _) ⟨W2.heap.size, 0, none⟩ 1 1 [.int .i64 ((done.length + 1 : Nat) : Int), .slice wa ws.length wc] rfl rfl (cell_two_new _ _ _ _) (by simp [Value.oneCell']) (by unfold maxLen; have := LN.out; omega) (by have := LN.out; omega) (by have := HB2.out.2.size; simp; omega) ?_; intro v' W4 hown hgrow _; have HR4 := Lib.hid (And.intro (HB2.out.1.grew (p := (done.length + 1, ws, .slice wa ws.length wc)) (by decide) HS2.out HFr.out hown hgrow) (HB2.out.1.below_grew HB2.out.2 hgrow)); clear hown hgrow))
               go_roundw
               case rel => exact ⟨k + 1, k + 1, ps ++ [(done.length + 1, ws, .slice wa ws.length wc)], done ++ [ln], hkk, by go_num, by go_num, Nat.le_refl _, by rw [List.length_append]; go_num, HST.out, HI2.out _, HR4.out⟩
               case measure => simp [RowKit.intOf]; omega
     · have hklt : k < t.length := Nat.lt_of_not_le fun e => hnl fun h => absurd h (Nat.not_lt.2 e)
       have hne : t[k] ≠ 10 := fun e => hnl (fun _ => e)
       have hks2 : k < s.size := by rw [HZ.out]; exact hklt
       have e1 : (k : Int) < (s.size : Int) := by omega
       have HGo := Lib.hid (hI.out.1.go hklt hne)
       have d1 : ¬ ((((s[k]'hks2).toNat : Nat) : Int) = 10) := by
         rw [HB.out k hks2 hklt]
         exact fun e => hne (UInt8.toNat.inj (by show t[k].toNat = 10; omega))
       have d2 : ((((s[k]'hks2).toNat : Nat) : Int) == 10) = false := by simpa using d1
       have d3 : ((((s[k]'hks2).toNat : Nat) : Int) != 10) = true := by simpa using d1
       have HI3 := Lib.hid hI.out.2
       clear hnl hne HX
       go_wp2
       go_roundw
       case rel => exact ⟨k + 1, st, ps, done, by omega, by go_num, rfl, by omega, rfl, HGo.out, HI3.out⟩
       case measure => simp [RowKit.intOf]; omega
end
end Go.Proofs.YtkbhmglmbolbiaaGreatDoor
