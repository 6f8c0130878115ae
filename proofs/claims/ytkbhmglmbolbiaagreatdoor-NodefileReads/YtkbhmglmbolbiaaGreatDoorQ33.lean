/- Own texts, put together: Bn Bo Bq Bt. -/
import Derived.Test.YtkbhmglmbolbiaaGreatDoorQ26
import Derived.Test.YtkbhmglmbolbiaaGreatDoorQ30
import Derived.Deep.Draws
import Derived.Deep.QuietTactic
import Derived.BigQuiet
import Derived.Deep.DeepCutAuto
namespace Go.Proofs.YtkbhmglmbolbiaaGreatDoor
/- The document's side of layer 9: Texts. -/
section
set_option maxRecDepth 100000
open Go.RowKit Go.Shelf Go.Lib
theorem below_drewN (n : Nat) (w : World) (m : Nat) : Below n w (w.drewN m) := ⟨rfl, rfl, rfl, Nat.le_refl _, fun _ _ => rfl⟩
end

/- The law LinesRead. -/
section
set_option maxRecDepth 100000
open Go.RowKit Go.Shelf Go.Lib
attribute [local go_sem] run_store_str
theorem own_otherL {w : World} {base e size n : Nat} {v : Value} {xs : List Value} (h : w.ownsRow base e size v n xs) {a : Addr} (hne : v.ownBlock ≠ some a.block) (x : Value) : (w.setCell a x).ownsRow base e size v n xs := by
 obtain ⟨hl, h⟩ := h
 refine ⟨hl, ?_⟩
 rcases h with h | ⟨g, cap, cur, e1, h1, h2, h3⟩
 · exact Or.inl h
 · refine Or.inr ⟨g, cap, cur, e1, h1, ?_, h3⟩
   rw [Below.heap_setCell _ _ _ _ (fun e => hne (by rw [e1]; simp [Value.ownBlock, e]))]; exact h2
theorem Lr.form {e : TypeId} {W : World} {B : Nat} {v : Value} {ps : List Lt} (h : Lr e W B v ps) : ∃ a c, v = .slice a ps.length c ∧ ps.length ≤ c ∧ c ≤ 9223372036854775807 ∧ (ps = [] ∨ ∃ g, a = some ⟨g, 0, none⟩ ∧ B ≤ g) := by
 rcases h.own.2 with ⟨h1, h2⟩ | ⟨g, cap, cur, h1, h0, _, h3, h4, _⟩
 · exact ⟨none, 0, by rw [h1, h2], by omega, by omega, Or.inl (List.length_eq_zero_iff.1 h2)⟩
 · exact ⟨_, _, h1, h3, by unfold maxLen at h4; omega, Or.inr ⟨g, rfl, h0⟩⟩
theorem good_word : ∀ (ls : List Bs) (n : Nat) {p : Nat × List Bs}, p ∈ good n ls → p.2 ≠ [] ∧ ∃ l ∈ ls, p.2 = lineW l := by
 intro ls
 induction ls with
 | nil => intro n p hp; simp [good] at hp
 | cons l r ih =>
   intro n p hp
   rw [good] at hp
   rcases List.mem_append.1 hp with e | e
   · by_cases h : (lineW l).isEmpty = true
     · rw [if_pos h] at e; simp at e
     · rw [if_neg h] at e
       rw [List.mem_singleton.1 e]
       exact ⟨by simpa using h, l, by simp, rfl⟩
   · obtain ⟨h1, x, h2, h3⟩ := ih _ e
     exact ⟨h1, x, by simp [h2], h3⟩
theorem rdV_word {t : Bs} {p : Nat × List Bs} (hp : p ∈ (rdV t).1) : p.2 ≠ [] ∧ (∀ x ∈ p.2, x.length ≤ 16777216) ∧ (rdV t).2.2 = 0 ∧ ∃ l ∈ lns t, p.2 = lineW l := by
 unfold rdV at hp ⊢
 split at hp
 · simp at hp
 · rename_i hl
   rw [if_neg hl]
   split at hp
   · simp at hp
   · obtain ⟨h1, l, h2, h3⟩ := good_word _ _ hp
     refine ⟨h1, fun x hx => ?_, rfl, l, h2, h3⟩
     rw [h3] at hx
     have g1 := (toks_word hx).2.2.1
     have g2 : (ahd l).length ≤ l.length := cutT_len _ _
     have g3 := (spl_word h2).2.1
     omega
structure HoldI (w wo W : World) (v gv : Value) (ps gps : List Lt) (i : Nat) : Prop where
 want : Lr 56 W w.heap.size v ps
 row : W.ownsRow wo.heap.size 57 2 gv gps.length (lcs gps)
 sub : ∀ j (h : j < gps.length), i ≤ j → Sr W wo.heap.size gps[j].2.2 gps[j].2.1
 bel : Below w.heap.size w W
 old : ∀ p ∈ ps, ∀ k, p.2.2.ownBlock = some k → k < wo.heap.size
 oldv : ∀ k, v.ownBlock = some k → k < wo.heap.size
theorem HoldI.drewN {w wo W : World} {v gv : Value} {ps gps : List Lt} {i : Nat} (h : HoldI w wo W v gv ps gps i) (m : Nat) : HoldI w wo (W.drewN m) v gv ps gps i :=
 have hb := below_drewN W.heap.size W m
 ⟨h.want.later hb, own_later h.row hb, fun j hj hi => (h.sub j hj hi).later hb, h.bel.trans (hb.mono h.bel.size), h.old, h.oldv⟩
theorem HoldI.mark {w wo W : World} {v gv : Value} {ps gps : List Lt} {i g n c : Nat} (h : HoldI w wo W v gv ps gps i) (hd : gps.Pairwise (fun p q => p.2.2.ownBlock ≠ q.2.2.ownBlock)) (hi : i < gps.length) (hg : gps[i].2.2 = .slice (some ⟨g, 0, none⟩) n c) (hgo : wo.heap.size ≤ g) (hws : w.heap.size ≤ wo.heap.size) (x : Value) : HoldI w wo (W.setCell ⟨g, 0, none⟩ x) v gv ps gps (i + 1) := by
 have hgi : gps[i].2.2.ownBlock = some g := by rw [hg]; rfl
 refine ⟨⟨own_otherL h.want.own (fun e => ?_) x, fun p hp => own_otherL (h.want.sub p hp) (fun e => ?_) x, h.want.dis⟩, own_otherL h.row (fun e => ?_) x, fun j hj hij => own_otherL (h.sub j hj (by omega)) (fun e => ?_) x, h.bel.setCell (p := ⟨g, 0, none⟩) (by show w.heap.size ≤ g; omega) _, h.old, h.oldv⟩
 · have := h.oldv _ e
   have e2 : (⟨g, 0, none⟩ : Addr).block = g := rfl
   omega
 · have := h.old p hp _ e
   have e2 : (⟨g, 0, none⟩ : Addr).block = g := rfl
   omega
 · have hS := h.sub i hi (Nat.le_refl _)
   rw [hg] at hS
   rcases hS.2 with ⟨h1, _⟩ | ⟨g1, _, cur, h1, _, h2, _⟩
   · cases h1
   · obtain ⟨rfl, _⟩ : g = g1 ∧ _ := by simpa using h1
     rcases h.row.2 with ⟨h3, _⟩ | ⟨g3, _, cur3, h3, _, h4, _⟩
     · rw [h3] at e; cases e
     · rw [h3] at e
       obtain rfl : g3 = g := by simpa [Value.ownBlock] using e
       rw [h2] at h4
       simp at h4
 · have h1 := List.pairwise_iff_getElem.1 hd i j hi hj (by omega)
   rw [hgi] at h1
   exact h1 e.symm
end

/- What package lines is asked first: works. -/
section
set_option maxRecDepth 100000
open Go.RowKit Go.Shelf Go.Lib
end

/- The law LinesBack. -/
section
open Go.RowKit Go.Shelf Go.Lib
theorem Lr.sl {e : TypeId} {W : World} {B : Nat} {v : Value} {ps : List Lt} (h : Lr e W B v ps) {t : Bs} (ht : tell ps = (rdV t).1) : ∀ p ∈ ps, Sl W p.2.2 p.2.1 := fun p hp => by
 refine (h.sub p hp).sl (fun x hx => ?_)
 have hm : (p.1, p.2.1) ∈ (rdV t).1 := by rw [← ht]; exact List.mem_map.2 ⟨p, hp, rfl⟩
 have := (rdV_word hm).2.1 x hx
 omega
def RdS (W : World) (t : Bs) (e : Ending) (w' : World) : Prop := ∃ a c ps, e = .returned (.tuple #[.slice a (rdV t).1.length c, .int .i64 ((rdV t).2.1 : Nat), .int .i64 ((rdV t).2.2 : Nat)]) ∧ Lr 57 w' W.heap.size (.slice a (rdV t).1.length c) ps ∧ tell ps = (rdV t).1 ∧ ps.length = (rdV t).1.length ∧ Below W.heap.size W w'
theorem readS (s : ByteArray) (t : Bs) (W : World) (ht : s.data.toList = t) (hl : t.length ≤ 9223372036854775807) : Calls Tryz.prog 10 #[.string s] W fun e w' => RdS W t e w' := by
 refine (read_any s t W ht hl).mono ?_
 rintro e w' ⟨v, ps, rfl, h2, h3, h4⟩
 have hlen : ps.length = (rdV t).1.length := by rw [← h3]; simp [tell]
 obtain ⟨a, c, rfl, _, _, _⟩ := h2.form
 rw [hlen] at h2 ⊢
 exact ⟨a, c, ps, rfl, h2, h3, hlen, h4⟩
end
end Go.Proofs.YtkbhmglmbolbiaaGreatDoor
