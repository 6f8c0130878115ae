/- Own texts, put together: Ye. -/
import Derived.Test.YtifjfgafpfefpaaDoorV22
/- Package switches: the map of what each letter does. -/
namespace Go.Proofs.YtifjfgafpfefpaaDoor
set_option maxRecDepth 100000
open Go.RowKit Go.Shelf Go.Lib
def MpB (W : World) (M : Nat) (L : List (Int × Value)) : Prop := ∃ es clock, W.heap[M]? = some (.map es clock) ∧ es.toList.map (fun e => (e.key, e.val)) = L.map (fun q => (Value.int .u8 q.1, q.2))
theorem get_mapY {w : World} {r : Nat} {es : Array MapEntry} {clock : Nat} (h : w.heap[r]? = some (.map es clock)) : (getObj r).run Tryd.prog w = .ok (.map es clock) w := by simp [getObj, Sem.run, h]
theorem set_mapY {w : World} {r : Nat} {es : Array MapEntry} {clock : Nat} (o : Obj) (h : w.heap[r]? = some (.map es clock)) : (setObj r o).run Tryd.prog w = .ok () { w with heap := w.heap.setIfInBounds r o } := by simp [setObj, Sem.run, h]
theorem find_nowY (c : Int) : ∀ (L : List (Int × Value)) (es : List MapEntry) (i : Nat), es.map (fun e => (e.key, e.val)) = L.map (fun q => (Value.int .u8 q.1, q.2)) → ∃ r, Instr.findNow (.int .u8) (.int .u8 c) es i = some r ∧ r.map (·.2) = (L.find? (·.1 == c)).map (·.2) := by
 intro L
 induction L with
 | nil =>
   intro es i h
   have : es = [] := by simpa using h
   subst this
   exact ⟨none, rfl, rfl⟩
 | cons q L ih =>
   intro es i h
   cases es with
   | nil => simp at h
   | cons e es =>
     simp only [List.map_cons, List.cons.injEq, Prod.mk.injEq] at h
     obtain ⟨⟨hk, hv⟩, hr⟩ := h
     rw [Instr.findNow, hk]
     by_cases hq : q.1 = c
     · refine ⟨some (i, e.val), ?_, ?_⟩
       · simp [Instr.sameNow, hq]
       · rw [List.find?_cons]
         simp [hq, hv]
     · obtain ⟨r, h1, h2⟩ := ih es (i + 1) hr
       refine ⟨r, ?_, ?_⟩
       · have : (c == q.1) = false := by simpa using fun e => hq e.symm
         simp [Instr.sameNow, this, h1]
       · rw [List.find?_cons]
         have : (q.1 == c) = false := by simpa using hq
         rw [this]; exact h2
theorem find_keyY {w : World} {L : List (Int × Value)} {es : List MapEntry} (h : es.map (fun e => (e.key, e.val)) = L.map (fun q => (Value.int .u8 q.1, q.2))) (c : Int) :
   ∃ r, (Instr.findKey 5 (.int .u8 c) es).run Tryd.prog w = .ok r w ∧ r.map (·.2) = (L.find? (·.1 == c)).map (·.2) := by
 obtain ⟨r, h1, h2⟩ := find_nowY c L es 0 h
 refine ⟨r, ?_, h2⟩
 simp only [Instr.findKey, Sem.run_bind, run_underlying Tryd.underlying5, Result.andThen_ok, h1]
 rfl
theorem check_keyY (b : Bool) (c : Int) (w : World) : (Instr.checkKey b 10000 5 (.int .u8 c)).run Tryd.prog w = .ok () w := by
 rw [show (10000 : Nat) = 9999 + 1 from rfl, Instr.checkKey]
 simp only [Sem.run_bind, run_underlying Tryd.underlying5, Result.andThen_ok]
 rfl
theorem MpB.look {W : World} {M : Nat} {L : List (Int × Value)} (h : MpB W M L) (c : Int) : (Instr.lookup 58 (.map (some M)) (.int .u8 c) false).run Tryd.prog W = .ok (((L.find? (·.1 == c)).map (·.2)).getD .nilFunc) W := by
 obtain ⟨es, clock, h1, h2⟩ := h
 obtain ⟨r, h3, h4⟩ := find_keyY (w := W) h2 c
 have hz : (zeroValue 61).run Tryd.prog W = .ok .nilFunc W := Tryd.zeroValue61 W
 simp only [Instr.lookup, Sem.run_bind, run_underlying Tryd.underlying58, Result.andThen_ok, get_mapY h1]
 simp only [Sem.run_pure, Result.andThen_ok, check_keyY, h3]
 rw [← h4]
 cases r with
 | none => simp [hz]
 | some x => simp
theorem MpB.ins {W : World} {M : Nat} {L : List (Int × Value)} (h : MpB W M L) (c : Int) (v : Value) (hn : c ∉ L.map (·.1)) : ∃ W', (Instr.mapUpdate 58 (.map (some M)) (.int .u8 c) v).run Tryd.prog W = .ok () W' ∧ MpB W' M (L ++ [(c, v)]) ∧ Oy M W W' ∧ W'.heap.size = W.heap.size := by
 obtain ⟨es, clock, h1, h2⟩ := h
 obtain ⟨r, h3, h4⟩ := find_keyY (w := W) h2 c
 have hr : r = none := by
   have : L.find? (·.1 == c) = none := by
     rw [List.find?_eq_none]
     intro q hq
     simp only [beq_iff_eq]
     exact fun e => hn (List.mem_map.2 ⟨q, hq, e⟩)
   rw [this] at h4
   cases r with
   | none => rfl
   | some x => simp at h4
 subst hr
 have hB : M < W.heap.size := (Array.getElem?_eq_some_iff.1 h1).1
 have hs := set_mapY (.map (es.push { key := .int .u8 c, val := v, born := clock }) (clock + 1)) h1
 refine ⟨{ W with heap := W.heap.setIfInBounds M (.map (es.push { key := .int .u8 c, val := v, born := clock }) (clock + 1)) }, ?_, ⟨es.push { key := .int .u8 c, val := v, born := clock }, clock + 1, ?_, ?_⟩, ⟨rfl, rfl, rfl, by simp, ?_⟩, by simp⟩
 · simp only [Instr.mapUpdate, Sem.run_bind, run_underlying Tryd.underlying58, Result.andThen_ok, get_mapY h1, check_keyY, h3]
   exact hs
 · show (W.heap.setIfInBounds M _)[M]? = _
   rw [Array.getElem?_setIfInBounds_self_of_lt hB]
 · simp [h2]
 · intro b _ hb
   show (W.heap.setIfInBounds M _)[b]? = _
   rw [Array.getElem?_setIfInBounds_ne (Ne.symm hb)]
def methY (R : Nat) (k : Int) : Value := .func (.func (if k = 113 then 43 else if k = 97 then 44 else if k = 83 then 45 else 46)) #[.pointer (some ⟨R, 0, none⟩)] #[]
def FlY (w0 W : World) (R M j b : Nat) : Prop := CB W b #[.pointer (some ⟨R, j, none⟩)] 83 ∧ w0.heap.size ≤ b ∧ b ≠ M
def entY (w0 W : World) (R M : Nat) (q : Int × Value) : Prop :=
 (∃ j b, letIx (UInt8.ofNat q.1.toNat) = some j ∧ q.2 = .func (.func 60) #[] #[.pointer (some ⟨b, 0, none⟩)] ∧ FlY w0 W R M j b) ∨ (letIx (UInt8.ofNat q.1.toNat) = none ∧ q.2 = methY R q.1)
structure Ls (w0 W : World) (R M : Nat) (ks : List Int) : Prop where
 bel : Below w0.heap.size w0 W
 hM : w0.heap.size ≤ M
 lt : M < W.heap.size
 ent : ∃ L, (∀ k, k ∈ L.map (·.1) ↔ k ∈ ks) ∧ MpB W M L ∧ ∀ q ∈ L, entY w0 W R M q
theorem entY.keep {w0 W W' : World} {R M : Nat} {q : Int × Value} (h : entY w0 W R M q) (hk : ∀ b, w0.heap.size ≤ b → b ≠ M → b < W.heap.size → W'.heap[b]? = W.heap[b]?) : entY w0 W' R M q := by
 rcases h with ⟨j, b, h1, h2, h3, h4, h5⟩ | h
 · refine Or.inl ⟨j, b, h1, h2, ?_, h4, h5⟩
   unfold CB
   rw [hk b h4 h5 h3.lt]; exact h3
 · exact Or.inr h
theorem MpB.keep {W W' : World} {M : Nat} {L : List (Int × Value)} (h : MpB W M L) (hk : W'.heap[M]? = W.heap[M]?) : MpB W' M L := by
 obtain ⟨es, c, h1, h2⟩ := h
 exact ⟨es, c, by rw [hk]; exact h1, h2⟩
theorem Ls.later {w0 W W' : World} {R M : Nat} {ks : List Int} (h : Ls w0 W R M ks) (hb : Below W.heap.size W W') : Ls w0 W' R M ks := by
 obtain ⟨L, h1, h2, h3⟩ := h.ent
 exact ⟨h.bel.trans (hb.mono h.bel.size), h.hM, Nat.lt_of_lt_of_le h.lt hb.size, L, h1, h2.keep (hb.block M h.lt), fun q hq => (h3 q hq).keep fun b _ _ hlt => hb.block b hlt⟩
theorem Ls.oy {w0 W W' : World} {R M : Nat} {ks : List Int} (h : Ls w0 W R M ks) (ho : Oy R W W') (hR : R < w0.heap.size) : (∃ L, (∀ k, k ∈ L.map (·.1) ↔ k ∈ ks) ∧ MpB W' M L ∧ ∀ q ∈ L, entY w0 W' R M q) ∧ M < W'.heap.size := by
 obtain ⟨L, h1, h2, h3⟩ := h.ent
 have hM := h.hM
 exact ⟨⟨L, h1, h2.keep (ho.block M h.lt (by omega)), fun q hq => (h3 q hq).keep fun b hb _ hlt => ho.block b hlt (by omega)⟩, Nat.lt_of_lt_of_le h.lt ho.size⟩
theorem Ls.congr {w0 W : World} {R M : Nat} {ks ks' : List Int} (h : Ls w0 W R M ks) (hk : ∀ k, k ∈ ks ↔ k ∈ ks') : Ls w0 W R M ks' := by
 obtain ⟨L, h1, h2, h3⟩ := h.ent
 exact ⟨h.bel, h.hM, h.lt, L, fun k => (h1 k).trans (hk k), h2, h3⟩
theorem Ls.cb {w0 W : World} {R M b t : Nat} {ks : List Int} {cs : Array Value} (h : Ls w0 W R M ks) (hb : CB W b cs t) : b ≠ M := by
 intro e
 subst e
 obtain ⟨L, h1, ⟨es, c, h2, _⟩, h3⟩ := h.ent
 unfold CB at hb
 rw [hb] at h2; cases h2
theorem Ls.ins {w0 W W' : World} {R M : Nat} {ks : List Int} {L : List (Int × Value)} {q : Int × Value} (h : Ls w0 W R M ks) (h1 : ∀ k, k ∈ L.map (·.1) ↔ k ∈ ks) (h3 : ∀ q ∈ L, entY w0 W R M q) (hm : MpB W' M (L ++ [q])) (ho : Oy M W W') (hs : W'.heap.size = W.heap.size) (hq : entY w0 W R M q) : Ls w0 W' R M (ks ++ [q.1]) := by
 have hM := h.hM
 have kp : ∀ b, w0.heap.size ≤ b → b ≠ M → b < W.heap.size → W'.heap[b]? = W.heap[b]? := fun b _ hb hlt => ho.block b hlt hb
 refine ⟨h.bel.trans (ho.below hM h.bel.size), hM, by rw [hs]; exact h.lt, L ++ [q], fun k => ?_, hm, fun x hx => ?_⟩
 · rw [List.map_append, List.mem_append, List.mem_append, h1]; rfl
 · rcases List.mem_append.1 hx with hx | hx
   · exact (h3 x hx).keep kp
   · rw [List.mem_singleton.1 hx]; exact hq.keep kp
section
variable {o : Oper} {a : Act} {w w0 : World} {K : Act → World → Prop} {Q : Exit → Act → World → Prop} {R M : Nat} {ks : List Int}
theorem op_insY (m k x : Operand) (ho : o.op = .insert 58 m k x) (hm : a.eval m = .map (some M)) (kk : Int) (hk : a.eval k = .int .u8 kk) (v : Value) (hx : a.eval x = v) (h : Ls w0 w R M ks) (hn : kk ∉ ks) (he : entY w0 w R M (kk, v))
   (hK : ∀ w', Ls w0 w' R M (ks ++ [kk]) → Oy M w w' → K (a.put o.dst undef) w') : Oper.wp Tryd.prog o a w K Q := by
 obtain ⟨L, h1, h2, h3⟩ := h.ent
 obtain ⟨w', hrun, r1, r2, r3⟩ := h2.ins kk v (by rw [h1]; exact hn)
 unfold Oper.wp
 simp [execOp, ho, hm, hk, hx, hrun, Result.andThen]
 exact hK w' (h.ins h1 h3 r1 r2 r3 he) r2
end
theorem once_is (R j : Nat) (w : World) : Calls Tryd.prog 42 #[.pointer (some ⟨R, j, none⟩)] w fun e w' => ∃ b, e = .returned (.func (.func 60) #[] #[.pointer (some ⟨b, 0, none⟩)]) ∧ CB w' b #[.pointer (some ⟨R, j, none⟩)] 83 ∧ w.heap.size ≤ b ∧ Below w.heap.size w w' := by
 refine (once_any R j w).mono ?_
 rintro e w' ⟨rfl, rfl⟩
 exact ⟨_, rfl, CB.new _ _ _, Nat.le_refl _, (Below.refl _ w).alloc (Nat.le_refl _) _⟩
def lts : List Int := [112, 114, 113, 97, 68, 99, 79, 89, 83, 105, 70, 108, 101, 110, 118, 122, 111, 106, 65]
end Go.Proofs.YtifjfgafpfefpaaDoor
