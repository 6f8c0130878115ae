/- Own texts, put together: Bk Br Bl. -/
import Derived.Test.YtofklahgpkmfmaaGreatDoorQ26
namespace Go.Proofs.YtofklahgpkmfmaaGreatDoor
/- The document's side of layer 9: words. -/
section
set_option maxRecDepth 100000
open Go.RowKit Go.Shelf Go.Lib
theorem ahd_app {a r : Bs} (h : ∀ x ∈ a, x ≠ 35) : ahd (a ++ r) = a ++ ahd r := by
 unfold ahd cutT
 induction a with
 | nil => rfl
 | cons x a ih =>
   rw [List.cons_append, List.takeWhile_cons_of_pos (p := fun y => y != 35) (by simpa using h x (by simp)), ih (fun y hy => h y (by simp [hy])), List.cons_append]
theorem ahd_stop (r : Bs) : ahd (35 :: r) = [] := by simp [ahd, cutT]
theorem ahd_cons {c : UInt8} {r : Bs} (h : c ≠ 35) : ahd (c :: r) = c :: ahd r := ahd_app (a := [c]) (fun x hx => by rw [List.mem_singleton.1 hx]; exact h)
theorem tok_mem {c : UInt8} (hc : bl c = false) : ∀ {l : Bs}, c ∈ l → ∃ t ∈ toks l, c ∈ t := by
 have key : ∀ {l : Bs}, c ∈ l → ∃ t ∈ spl bl l, c ∈ t := by
   intro l
   induction l with
   | nil => intro h; simp at h
   | cons a r ih =>
     intro h
     rw [spl]
     by_cases hp : bl a = true
     · rw [if_pos hp]
       rcases List.mem_cons.1 h with e | e
       · rw [e, hp] at hc; cases hc
       · obtain ⟨t, h1, h2⟩ := ih e
         exact ⟨t, by simp [h1], h2⟩
     · rw [if_neg hp]
       split
       · rename_i e; exact absurd e (spl_ne _ _)
       · rename_i x y e
         rcases List.mem_cons.1 h with e2 | e2
         · exact ⟨a :: x, by simp, by simp [e2]⟩
         · obtain ⟨t, h1, h2⟩ := ih e2
           rw [e] at h1
           rcases List.mem_cons.1 h1 with e3 | e3
           · exact ⟨a :: x, by simp, by rw [e3] at h2; simp [h2]⟩
           · exact ⟨t, by simp [e3], h2⟩
 intro l h
 obtain ⟨t, h1, h2⟩ := key h
 refine ⟨t, ?_, h2⟩
 unfold toks
 rw [List.mem_filter]
 refine ⟨h1, ?_⟩
 cases t with
 | nil => simp at h2
 | cons a r => rfl
theorem gd_ne {c : UInt8} (h : gd c = true) : c ≠ 35 ∧ bl c = false := by
 unfold gd at h
 simp at h
 refine ⟨fun e => ?_, ?_⟩
 · rw [e] at h; exact absurd h.2 (by decide)
 · unfold bl; simp; omega
structure WInv (l : Bs) (st k : Nat) (ts : List Bs) : Prop where
 all : ts ++ toks (ahd (l.drop st)) = lineW l
 may : ∀ x ∈ ts, mayW x = true
 gds : ∀ c ∈ (l.drop st).take (k - st), gd c = true
 le : st ≤ k
abbrev cw (l : Bs) (st k : Nat) : Bs := (l.drop st).take (k - st)
theorem cw_drop {l : Bs} {st k : Nat} (h : st ≤ k) : l.drop st = cw l st k ++ l.drop k := by
 have := (List.take_append_drop (k - st) (l.drop st)).symm
 rw [List.drop_drop, show st + (k - st) = k by omega] at this
 exact this
theorem WInv.ahd {l : Bs} {st k : Nat} {ts : List Bs} (h : WInv l st k ts) : Go.Proofs.YtofklahgpkmfmaaGreatDoor.ahd (l.drop st) = cw l st k ++ Go.Proofs.YtofklahgpkmfmaaGreatDoor.ahd (l.drop k) := by
 rw [cw_drop (l := l) h.le, ahd_app (fun x hx => (gd_ne (h.gds x hx)).1)]
theorem mayW_gds {x : Bs} (h : ∀ c ∈ x, gd c = true) (h0 : x ≠ []) (hl : x.length ≤ 400) : mayW x = true := mayW_yes h0 hl (fun _ hj => h _ (List.getElem_mem hj))
theorem WInv.more {l : Bs} {st k : Nat} {ts : List Bs} {r : List Bs} (h : WInv l st k ts) (he : toks (Go.Proofs.YtofklahgpkmfmaaGreatDoor.ahd (l.drop st)) = one (cw l st k) ++ r) (hl : (cw l st k).length ≤ 400) : (ts ++ one (cw l st k)) ++ r = lineW l ∧ ∀ x ∈ ts ++ one (cw l st k), mayW x = true := by
 refine ⟨by rw [← h.all, he, List.append_assoc], fun x hx => ?_⟩
 rcases List.mem_append.1 hx with e | e
 · exact h.may x e
 · by_cases h0 : cw l st k = []
   · rw [h0] at e; simp [one] at e
   · rw [one_ne h0, List.mem_singleton] at e
     rw [e]; exact mayW_gds h.gds h0 hl
theorem WInv.fin {l : Bs} {st k : Nat} {ts : List Bs} (h : WInv l st k ts) (hk : k ≤ l.length) (he : ∀ hk : k < l.length, l[k] = 35) : toks (Go.Proofs.YtofklahgpkmfmaaGreatDoor.ahd (l.drop st)) = one (cw l st k) ++ [] := by
 have e : Go.Proofs.YtofklahgpkmfmaaGreatDoor.ahd (l.drop k) = [] := by
   by_cases hlt : k < l.length
   · rw [List.drop_eq_getElem_cons hlt, he hlt, ahd_stop]
   · rw [List.drop_of_length_le (by omega)]; rfl
 rw [h.ahd, e, List.append_nil, List.append_nil, toks_none (fun c hc => (gd_ne (h.gds c hc)).2)]
theorem WInv.blank {l : Bs} {st k : Nat} {ts : List Bs} (h : WInv l st k ts) (hk : k < l.length) (hb : bl l[k] = true) : toks (Go.Proofs.YtofklahgpkmfmaaGreatDoor.ahd (l.drop st)) = one (cw l st k) ++ toks (Go.Proofs.YtofklahgpkmfmaaGreatDoor.ahd (l.drop (k + 1))) := by
 have hne : l[k] ≠ 35 := fun e => by rw [e] at hb; cases hb
 rw [h.ahd, List.drop_eq_getElem_cons hk, ahd_cons hne, toks_app (fun c hc => (gd_ne (h.gds c hc)).2) hb]
theorem WInv.next {l : Bs} {st k : Nat} {ts : List Bs} (h : WInv l st k ts) (hk : k < l.length) (hb : bl l[k] = true) (hl : (cw l st k).length ≤ 400) : WInv l (k + 1) (k + 1) (ts ++ one (cw l st k)) := by
 have := h.more (h.blank hk hb) hl
 exact ⟨this.1, this.2, fun c hc => by simp at hc, Nat.le_refl _⟩
theorem WInv.bad {l : Bs} {st k : Nat} {ts : List Bs} (h : WInv l st k ts) (hk : k < l.length) (hne : l[k] ≠ 35) (hb : bl l[k] = false) (hg : gd l[k] = false) : (lineW l).all mayW = false := by
 have hm : l[k] ∈ Go.Proofs.YtofklahgpkmfmaaGreatDoor.ahd (l.drop st) := by
   rw [h.ahd, List.drop_eq_getElem_cons hk, ahd_cons hne]; simp
 obtain ⟨t, h1, h2⟩ := tok_mem hb hm
 rw [List.all_eq_false]
 refine ⟨t, by rw [← h.all]; simp [h1], ?_⟩
 obtain ⟨j, hj, e⟩ := List.mem_iff_getElem.1 h2
 rw [mayW_no hj (by rw [e]; exact hg)]; simp
theorem WInv.good {l : Bs} {st k : Nat} {ts : List Bs} (h : WInv l st k ts) (hk : k < l.length) (hg : gd l[k] = true) : WInv l st (k + 1) ts := by
 refine ⟨h.all, h.may, fun c hc => ?_, by have := h.le; omega⟩
 have := h.le
 rw [show k + 1 - st = (k - st) + 1 by omega, List.take_add_one] at hc
 rcases List.mem_append.1 hc with e | e
 · exact h.gds c e
 · rw [List.getElem?_drop, show st + (k - st) = k by omega, List.getElem?_eq_getElem hk] at e
   obtain rfl : c = l[k] := by simpa using e
   exact hg
def WdR (w w' : World) (l : Bs) (e : Ending) : Prop := (∃ v, e = .returned (.tuple #[v, .bool ((lineW l).all mayW)]) ∧ ((lineW l).all mayW = true → Sr w' w.heap.size v (lineW l)) ∧ ((lineW l).all mayW = false → v = .slice none 0 0)) ∧ Below w.heap.size w w'
theorem WdR.no {w w' : World} {l : Bs} (h : (lineW l).all mayW = false) (hb : Below w.heap.size w w') : WdR w w' l (.returned (.tuple #[.slice none 0 0, .bool false])) := by
 refine ⟨⟨_, by rw [h], fun e => ?_, fun _ => rfl⟩, hb⟩
 rw [h] at e; cases e
end

/- What is written is read: plain facts. -/
section
set_option maxRecDepth 100000
open Go.RowKit Go.Shelf Go.Lib
theorem jn_cons2 (x y : Bs) (r : List Bs) : jn (x :: y :: r) = x ++ 32 :: jn (y :: r) := by
 unfold jn
 rw [join_cons, join_cons]
 simp [joinTail]
theorem jn_one (x : Bs) : jn [x] = x := join_one x [32]
theorem may_gd {x : Bs} (h : mayW x = true) : x ≠ [] ∧ ∀ c ∈ x, gd c = true := by
 unfold mayW at h
 rw [Bool.and_eq_true, Bool.and_eq_true, List.all_eq_true] at h
 exact ⟨by simpa using h.1.1, h.2⟩
theorem jn_chars : ∀ {ws : List Bs}, (∀ x ∈ ws, mayW x = true) → ∀ c ∈ jn ws, gd c = true ∨ c = 32 := by
 intro ws
 induction ws with
 | nil => intro _ c hc; simp [jn, join_nil] at hc
 | cons x r ih =>
   intro h c hc
   cases r with
   | nil => rw [jn_one] at hc; exact Or.inl ((may_gd (h x (by simp))).2 c hc)
   | cons y r =>
     rw [jn_cons2] at hc
     rcases List.mem_append.1 hc with e | e
     · exact Or.inl ((may_gd (h x (by simp))).2 c e)
     · rcases List.mem_cons.1 e with e | e
       · exact Or.inr e
       · exact ih (fun z hz => h z (by simp [hz])) c e
theorem gd_ne10 {c : UInt8} (h : gd c = true ∨ c = 32) : c ≠ 10 ∧ c ≠ 35 := by
 rcases h with h | rfl
 · refine ⟨fun e => ?_, (gd_ne h).1⟩
   rw [e] at h; exact absurd h (by decide)
 · decide
theorem toks_jn : ∀ {ws : List Bs}, (∀ x ∈ ws, mayW x = true) → toks (jn ws) = ws := by
 intro ws
 induction ws with
 | nil => intro _; rfl
 | cons x r ih =>
   intro h
   have hx := may_gd (h x (by simp))
   have hb : ∀ c ∈ x, bl c = false := fun c hc => (gd_ne (hx.2 c hc)).2
   cases r with
   | nil => rw [jn_one, toks_none hb, one_ne hx.1]
   | cons y r =>
     rw [jn_cons2, toks_app hb (by decide), one_ne hx.1, ih (fun z hz => h z (by simp [hz]))]
     rfl
theorem lineW_jn {ws : List Bs} (h : ∀ x ∈ ws, mayW x = true) : lineW (jn ws) = ws := by
 unfold lineW ahd
 rw [(cut_none (fun hc => (gd_ne10 (jn_chars h _ hc)).2 rfl)).1, toks_jn h]
theorem lineE_jn {ws : List Bs} (h : ∀ x ∈ ws, mayW x = true) (hl : (jn ws).length ≤ 65536) : lineE (jn ws) = 0 := by
 rw [lineE_zero, lineW_jn h]
 exact ⟨hl, List.all_eq_true.2 h⟩
theorem lns_wrT : ∀ {L : List (List Bs)}, (∀ ws ∈ L, okL ws = true) → lns (wrT L) = L.map jn ++ [[]] := by
 intro L
 induction L with
 | nil => intro _; rfl
 | cons ws r ih =>
   intro h
   have e : wrT (ws :: r) = jn ws ++ 10 :: wrT r := by simp [wrT]
   rw [e, lns_app (fun c hc => (gd_ne10 (jn_chars (ok_may (h ws (by simp))).2 c hc)).1), ih (fun z hz => h z (by simp [hz]))]
   rfl
def nums : Nat → List (List Bs) → List (Nat × List Bs)
 | _, [] => []
 | n, ws :: r => (n, ws) :: nums (n + 1) r
theorem nums_len : ∀ (L : List (List Bs)) (n : Nat), (nums n L).length = L.length := by
 intro L
 induction L with
 | nil => intro n; rfl
 | cons a r ih => intro n; simp [nums, ih]
theorem empty_line : lineE [] = 0 ∧ lineW [] = [] := by decide
theorem rd_wrT_aux : ∀ {L : List (List Bs)} (n : Nat), (∀ ws ∈ L, okL ws = true ∧ (jn ws).length ≤ 65536) → bad n (L.map jn ++ [[]]) = none ∧ good n (L.map jn ++ [[]]) = nums n L := by
 intro L
 induction L with
 | nil => intro n _; exact ⟨by simp [bad, empty_line], by simp [good, empty_line, nums]⟩
 | cons ws r ih =>
   intro n h
   have hw := h ws (by simp)
   have hm := ok_may hw.1
   have := ih (n + 1) (fun z hz => h z (by simp [hz]))
   refine ⟨?_, ?_⟩
   · rw [List.map_cons, List.cons_append, bad, if_pos (lineE_jn hm.2 hw.2)]; exact this.1
   · rw [List.map_cons, List.cons_append, good, this.2, lineW_jn hm.2]
     cases ws with
     | nil => exact absurd rfl hm.1
     | cons x y => rfl
theorem fits_parts {L : List (List Bs)} (h : fits L = true) : (∀ ws ∈ L, (jn ws).length ≤ 65536) ∧ (wrT L).length ≤ 16777216 := by
 unfold fits at h
 rw [Bool.and_eq_true, List.all_eq_true] at h
 exact ⟨fun ws hw => by simpa using h.1 ws hw, by simpa using h.2⟩
theorem rd_wr {L : List (List Bs)} (ho : L.all okL = true) (hf : fits L = true) : rdV (wrT L) = (nums 1 L, 0, 0) := by
 rw [List.all_eq_true] at ho
 have hp := fits_parts hf
 have := rd_wrT_aux (L := L) 1 (fun ws hw => ⟨ho ws hw, hp.1 ws hw⟩)
 rw [← lns_wrT ho] at this
 rw [rdV_good hp.2 this.1, this.2]
def wts (l : List Bs) : Nat := (l.map fun x => x.length + 1).sum
theorem spl_wts (p : UInt8 → Bool) : ∀ l : Bs, wts (spl p l) = l.length + 1 := by
 intro l
 induction l with
 | nil => rfl
 | cons a r ih =>
   rw [spl]
   split
   · simp only [wts, List.map_cons, List.sum_cons] at ih ⊢
     rw [ih]; simp; omega
   · split
     · rename_i e; exact absurd e (spl_ne _ _)
     · rename_i e
       rw [e] at ih
       simp only [wts, List.map_cons, List.sum_cons, List.length_cons] at ih ⊢
       omega
theorem filter_wts (q : Bs → Bool) : ∀ l : List Bs, wts (l.filter q) ≤ wts l := by
 intro l
 induction l with
 | nil => exact Nat.le_refl _
 | cons a r ih =>
   rw [List.filter_cons]
   split
   · simp only [wts, List.map_cons, List.sum_cons] at ih ⊢; omega
   · simp only [wts, List.map_cons, List.sum_cons] at ih ⊢; omega
theorem jn_wts : ∀ {ws : List Bs}, ws ≠ [] → (jn ws).length + 1 = wts ws := by
 intro ws
 induction ws with
 | nil => intro h; exact absurd rfl h
 | cons x r ih =>
   intro _
   cases r with
   | nil => rw [jn_one]; simp [wts]
   | cons y r =>
     have := ih (by simp)
     rw [jn_cons2, List.length_append, List.length_cons]
     simp only [wts, List.map_cons, List.sum_cons] at this ⊢
     omega
theorem jn_lineW (l : Bs) : (jn (lineW l)).length ≤ l.length := by
 by_cases h : lineW l = []
 · rw [h]; simp [jn, join_nil]
 · have h1 := jn_wts h
   have h2 : wts (lineW l) ≤ wts (spl bl (ahd l)) := filter_wts _ _
   rw [spl_wts] at h2
   have h3 : (ahd l).length ≤ l.length := cutT_len _ _
   omega
theorem good_fits : ∀ (ls : List Bs) (n : Nat), bad n ls = none → (∀ p ∈ good n ls, okL p.2 = true ∧ (jn p.2).length ≤ 65536) ∧ (wrT ((good n ls).map (·.2))).length ≤ wts ls := by
 intro ls
 induction ls with
 | nil => intro n _; exact ⟨fun p hp => by simp [good] at hp, by simp [good, wrT]⟩
 | cons l r ih =>
   intro n h
   rw [bad] at h
   by_cases he : lineE l = 0
   · rw [if_pos he] at h
     have hz := lineE_zero.1 he
     have hi := ih (n + 1) h
     rw [good]
     by_cases h0 : (lineW l).isEmpty = true
     · rw [if_pos h0, List.nil_append]
       refine ⟨hi.1, ?_⟩
       simp only [wts, List.map_cons, List.sum_cons] at hi ⊢
       omega
     · rw [if_neg h0]
       have hj := jn_lineW l
       refine ⟨fun p hp => ?_, ?_⟩
       · rcases List.mem_append.1 hp with e | e
         · rw [List.mem_singleton.1 e]
           refine ⟨?_, by show (jn (lineW l)).length ≤ 65536; omega⟩
           unfold okL
           rw [hz.2]; simpa using h0
         · exact hi.1 p e
       · rw [List.map_append, show wrT ((([(n, lineW l)] : List (Nat × List Bs)).map (·.2)) ++ (good (n + 1) r).map (·.2)) = (jn (lineW l) ++ [10]) ++ wrT ((good (n + 1) r).map (·.2)) by simp [wrT]]
         have := hi.2
         simp only [wts, List.map_cons, List.sum_cons, List.length_append, List.length_singleton] at this ⊢
         omega
   · rw [if_neg he] at h; cases h
end

/- The document's side of layer 9: words, the walk. -/
section
set_option maxRecDepth 100000
open Go.RowKit Go.Shelf Go.Lib
theorem Sr.grew {W W2 : World} {B : Nat} {v v' : Value} {ts : List Bs} {x : Bs} (hown : W2.ownsRow B 9 1 v' (ts.length + 1) (svs ts ++ [sv x])) (_ : Sr W B v ts) : Sr W2 B v' (ts ++ [x]) := by
 unfold Sr
 rw [List.length_append]
 simpa [svs] using hown
theorem own_ap {W : World} {B e size n : Nat} {v : Value} {xs : List Value} (h : W.ownsRow B e size v n xs) : ∀ k, v.ownBlock = some k → B ≤ k := fun k hk => (World.ownsRow.lt h k hk).1
theorem below_grew {w W W2 : World} {e size n : Nat} {v : Value} {xs : List Value} {tmp : Obj} (hb : Below w.heap.size w W) (h : W.ownsRow w.heap.size e size v n xs) (hg : (W.alloc tmp).grownBy W2 v.ownBlock) : Below w.heap.size w W2 :=
 hb.trans (((Below.refl _ W).alloc hb.size _).grown hg (by simp; have := hb.size; omega) (fun k hk => own_ap h k hk))
end
end Go.Proofs.YtofklahgpkmfmaaGreatDoor
