/- Own texts, put together: Qk Qo Qka. -/
import Derived.Test.YtofklahgpkmfmaaGreatDoorQ16
import Derived.Test.YtofklahgpkmfmaaGreatDoorQ39
namespace Go.Proofs.YtofklahgpkmfmaaGreatDoor
/- Package nodefile: nodes in memory; lines handed in. -/
section
set_option maxRecDepth 100000
open Go.RowKit Go.Shelf Go.Lib
abbrev Nt := Nd × Value
def ncs (ns : List Nt) : List Value := ns.flatMap fun p => [.float .f64 p.1.x, .float .f64 p.1.y, p.2, .int .i64 p.1.m]
theorem ncs_app (ns : List Nt) (p : Nt) : ncs (ns ++ [p]) = ncs ns ++ [.float .f64 p.1.x, .float .f64 p.1.y, p.2, .int .i64 p.1.m] := by simp [ncs]
theorem ncs_at : ∀ (ns : List Nt) (k : Nat) (p : Nt), ns[k]? = some p → (ncs ns)[k * 4]? = some (.float .f64 p.1.x) ∧ (ncs ns)[k * 4 + 1]? = some (.float .f64 p.1.y) ∧ (ncs ns)[k * 4 + 2]? = some p.2 ∧ (ncs ns)[k * 4 + 3]? = some (.int .i64 p.1.m) := by
 intro ns
 induction ns with
 | nil => intro k p h; simp at h
 | cons a r ih =>
   intro k p h
   have e : ncs (a :: r) = [.float .f64 a.1.x, .float .f64 a.1.y, a.2, .int .i64 a.1.m] ++ ncs r := rfl
   cases k with
   | zero =>
     obtain rfl : a = p := by simpa using h
     exact ⟨rfl, rfl, rfl, rfl⟩
   | succ k =>
     have := ih k p (by simpa using h)
     rw [e, show (k + 1) * 4 = k * 4 + 4 by omega]
     exact ⟨by simpa using this.1, by simpa using this.2.1, by simpa using this.2.2.1, by simpa using this.2.2.2⟩
def wdN (p : Nd) : Prop := p.x < 18446744073709551616 ∧ p.y < 18446744073709551616 ∧ InR p.m
theorem inR_nd {p : Pm} {k : Nat} {m : Bool} {ws : List Bs} {x y : Nat} {ls : List Nat} {mk : Int} (h : ndV p k m ws = ⟨x, y, ls, mk⟩) : InR mk := by
 unfold ndV at h
 have hm : (if m then (rdInt (ws.getD (3 + k) [])).getD 0 else 0) = mk := congrArg Nd.m h
 rw [← hm]
 split
 · cases hr : rdInt (ws.getD (3 + k) []) with
   | none => exact ⟨by decide, by decide⟩
   | some n => exact (itoa_rd hr).1
 · exact ⟨by decide, by decide⟩
structure Nr (W : World) (B : Nat) (v : Value) (ns : List Nt) : Prop where
 own : W.ownsRow B 62 4 v ns.length (ncs ns)
 sub : ∀ p ∈ ns, Fr W B p.2 p.1.a
 wrd : ∀ p ∈ ns, wdN p.1
theorem Nr.nil {W : World} {B : Nat} {v : Value} (h : W.ownsRow B 62 4 v 0 []) : Nr W B v [] := ⟨h, fun p hp => by simp at hp, fun p hp => by simp at hp⟩
theorem Nr.later {W W' : World} {B : Nat} {v : Value} {ns : List Nt} (h : Nr W B v ns) (hb : Below W.heap.size W W') : Nr W' B v ns := ⟨own_later h.own hb, fun p hp => (h.sub p hp).later hb, h.wrd⟩
theorem Nr.base {W : World} {B B' : Nat} {v : Value} {ns : List Nt} (h : Nr W B v ns) (hb : B' ≤ B) : Nr W B' v ns := ⟨own_base h.own hb, fun p hp => (h.sub p hp).mono hb, h.wrd⟩
theorem Nr.ob {W W' : World} {B C : Nat} {v : Value} {ns : List Nt} (h : Nr W B v ns) (ho : Ob C W W') (hC : C < B) : Nr W' B v ns := ⟨own_ob h.own ho hC, fun p hp => ⟨own_ob (h.sub p hp).own ho hC, (h.sub p hp).word⟩, h.wrd⟩
theorem Nr.form {W : World} {B : Nat} {v : Value} {ns : List Nt} (h : Nr W B v ns) : ∃ a c, v = .slice a ns.length c := own_slice h.own
theorem Fr.keptN {W W' : World} {B : Nat} {v : Value} {ls : List Nat} {base size n : Nat} {v2 : Value} {xs : List Value} (h : Fr W B v ls) (h2 : W.ownsRow base 62 size v2 n xs) (hg : W.grownBy W' v2.ownBlock) : Fr W' B v ls := by
 refine ⟨World.ownsRow.kept h.own hg ?_, h.word⟩
 rcases h.own.2 with ⟨rfl, _⟩ | ⟨g, cap, cur, rfl, _, hgb, _⟩
 · exact .inl rfl
 · refine .inr fun e' => ?_
   rcases h2.2 with ⟨rfl, _⟩ | ⟨g2, cap2, cur2, rfl, _, hgb2, _⟩
   · simp [Value.ownBlock] at e'
   · obtain rfl : g = g2 := by simpa [Value.ownBlock] using e'
     rw [hgb] at hgb2
     simp at hgb2
theorem Nr.grew {W W2 : World} {B : Nat} {v v' : Value} {ns : List Nt} {p : Nt} {tmp : Obj} (h : Nr W B v ns) (hp : Fr W B p.2 p.1.a) (hw : wdN p.1) (hown : W2.ownsRow B 62 4 v' (ns.length + 1) (ncs ns ++ [.float .f64 p.1.x, .float .f64 p.1.y, p.2, .int .i64 p.1.m])) (hg : (W.alloc tmp).grownBy W2 v.ownBlock) : Nr W2 B v' (ns ++ [p]) := by
 refine ⟨by rw [List.length_append, ncs_app]; exact hown, fun q hq => ?_, fun q hq => ?_⟩
 · have hs : Fr W B q.2 q.1.a := by
     rcases List.mem_append.1 hq with e | e
     · exact h.sub q e
     · rw [List.mem_singleton.1 e]; exact hp
   exact Fr.keptN ⟨World.ownsRow.alloc hs.own tmp, hs.word⟩ (h.own.alloc tmp) hg
 · rcases List.mem_append.1 hq with e | e
   · exact h.wrd q e
   · rw [List.mem_singleton.1 e]; exact hw
structure Lw (W : World) (v : Value) (ps : List Lt) : Prop where
 form : ∃ a c, v = .slice a ps.length c ∧ ps.length ≤ c ∧ c ≤ 9223372036854775807 ∧ (ps = [] ∨ ∃ g off, a = some ⟨g, off, none⟩ ∧ g < W.heap.size ∧ ∀ k p, ps[k]? = some p → W.cell? ⟨g, off + k * 2, none⟩ = some (.int .i64 (p.1 : Nat)) ∧ W.cell? ⟨g, off + k * 2 + 1, none⟩ = some p.2.2)
 sub : ∀ p ∈ ps, Sl W p.2.2 p.2.1 ∧ Bk W.heap.size p.2.2
theorem Lw.later {W W' : World} {v : Value} {ps : List Lt} (h : Lw W v ps) (hb : Below W.heap.size W W') : Lw W' v ps := by
 obtain ⟨⟨a, c, h1, h2, h3, h4⟩, h5⟩ := h
 refine ⟨⟨a, c, h1, h2, h3, ?_⟩, fun p hp => ⟨(h5 p hp).1.later hb, fun b hbb => Nat.lt_of_lt_of_le ((h5 p hp).2 b hbb) hb.size⟩⟩
 rcases h4 with h4 | ⟨g, off, h6, h7, h8⟩
 · exact Or.inl h4
 · exact Or.inr ⟨g, off, h6, Nat.lt_of_lt_of_le h7 hb.size, fun k p hp => ⟨cell_later hb h7 (h8 k p hp).1, cell_later hb h7 (h8 k p hp).2⟩⟩
theorem Lr.lw {e : TypeId} {W : World} {B : Nat} {v : Value} {ps : List Lt} (h : Lr e W B v ps) (hl : ∀ p ∈ ps, ∀ x ∈ p.2.1, x.length ≤ 900000) : Lw W v ps := by
 refine ⟨?_, fun p hp => ⟨(h.sub p hp).sl (fun x hx => by have := hl p hp x hx; omega), fun b hb => (World.ownsRow.lt (h.sub p hp) b hb).2⟩⟩
 have h0 := h.own
 rcases h.own.2 with ⟨h1, h2⟩ | ⟨g, cap, cur, rfl, _, h3, h4, h5, _⟩
 · have : ps = [] := List.length_eq_zero_iff.1 h2
   subst this
   exact ⟨none, 0, h1, by simp, by omega, Or.inl rfl⟩
 · refine ⟨_, cap, rfl, h4, by unfold maxLen at h5; omega, Or.inr ⟨g, 0, rfl, (World.ownsRow.lt h0 g rfl).2, fun k p hk => ?_⟩⟩
   obtain ⟨hlt, rfl⟩ := List.getElem?_eq_some_iff.1 hk
   have := lcs_at ps k hlt
   refine ⟨?_, ?_⟩
   · rw [show k * 2 = 2 * k by omega]; exact own_cellL h0 this.1
   · rw [Nat.add_assoc, show k * 2 + 1 = 2 * k + 1 by omega]; exact own_cellL h0 this.2
structure Tk (w0 W : World) (Bf : Nat) (nv : Value) (ns : List Nt) (z : Bool) (k : Nat) (m : Bool) : Prop where
 bel : Below w0.heap.size w0 W
 r0 : CB W w0.heap.size #[.slice none 0 0, .bool false, .int .i64 0, .bool false] 29
 fb : CB W Bf #[nv, .bool z, .int .i64 (k : Nat), .bool m] 29
 hB : w0.heap.size < Bf
 nr : Nr W (Bf + 1) nv ns
 tab : Tab W
 tl : 3 < w0.heap.size
theorem Tk.later {w0 W W' : World} {Bf : Nat} {nv : Value} {ns : List Nt} {z : Bool} {k : Nat} {m : Bool} (h : Tk w0 W Bf nv ns z k m) (hb : Below W.heap.size W W') : Tk w0 W' Bf nv ns z k m :=
 ⟨h.bel.trans (hb.mono h.bel.size), h.r0.later hb, h.fb.later hb, h.hB, h.nr.later hb, h.tab.later hb, h.tl⟩
theorem Tk.node {w0 W W' : World} {Bf : Nat} {nv : Value} {ns : List Nt} {z z' : Bool} {k : Nat} {m : Bool} (h : Tk w0 W Bf nv ns z k m) (ho : Ob Bf W W') (hf : CB W' Bf #[nv, .bool z', .int .i64 (k : Nat), .bool m] 29) (hT : Tab W') : Tk w0 W' Bf nv ns z' k m :=
 ⟨h.bel.trans (ho.below (Nat.le_of_lt h.hB) h.bel.size), ho.cb h.r0 (by have := h.hB; omega), hf, h.hB, h.nr.ob ho (by omega), hT, h.tl⟩
theorem Tk.set {w0 W W' : World} {Bf b : Nat} {nv : Value} {ns : List Nt} {z : Bool} {k : Nat} {m : Bool} (h : Tk w0 W Bf nv ns z k m) (ho : Ob b W W') (hb : Bf < b) (hn : ∀ q ∈ ns, q.2.ownBlock ≠ some b) (hv : nv.ownBlock ≠ some b) : Tk w0 W' Bf nv ns z k m := by
 have hB := h.hB
 have key : ∀ {base e size n : Nat} {v : Value} {xs : List Value}, W.ownsRow base e size v n xs → v.ownBlock ≠ some b → W'.ownsRow base e size v n xs := fun hr hne => by
   refine ⟨hr.1, ?_⟩
   rcases hr.2 with h1 | ⟨g, cap, cur, h1, h2, h3, h4⟩
   · exact Or.inl h1
   · refine Or.inr ⟨g, cap, cur, h1, h2, ?_, h4⟩
     rw [ho.block g (Array.getElem?_eq_some_iff.1 h3).1 (fun e => hne (by rw [h1, ← e]; rfl))]; exact h3
 refine ⟨h.bel.trans (ho.below (by omega) h.bel.size), ho.cb h.r0 (by omega), ho.cb h.fb (by omega), hB, ⟨key h.nr.own hv, fun q hq => ⟨key (h.nr.sub q hq).own (hn q hq), (h.nr.sub q hq).word⟩, h.nr.wrd⟩, h.tab.ob ho (by have := h.tl; omega), h.tl⟩
theorem Tk.boxA {w0 W W1 : World} {Bf : Nat} {nv : Value} {ns : List Nt} {z z' : Bool} {k : Nat} {m : Bool} {x y : Nat} {av : Value} {ls : List Nat} {mk : Int} (h : Tk w0 W Bf nv ns z k m) (ho : Ob Bf (W.alloc (.cells nz 62)) W1) (hf : CB W1 Bf #[nv, .bool z', .int .i64 (k : Nat), .bool m] 29) (hT : Tab W1) (ha : Fr W1 (W.alloc (.cells nz 62)).heap.size av ls) :
   CB W1 W.heap.size nz 62 ∧ Tk w0 W1 Bf nv ns z' k m ∧ ∀ W2, W2 = (((W1.setCell ⟨W.heap.size, 0, none⟩ (.float .f64 x)).setCell ⟨W.heap.size, 1, none⟩ (.float .f64 y)).setCell ⟨W.heap.size, 2, none⟩ av).setCell ⟨W.heap.size, 3, none⟩ (.int .i64 mk) → Tk w0 W2 Bf nv ns z' k m ∧ CB W2 W.heap.size #[.float .f64 x, .float .f64 y, av, .int .i64 mk] 62 ∧ Fr W2 (Bf + 1) av ls := by
 have hlt := h.fb.lt
 have hb : Below W.heap.size W (W.alloc (.cells nz 62)) := (Below.refl _ W).alloc (Nat.le_refl _) _
 have c1 : CB W1 W.heap.size nz 62 := ho.cb (CB.new W _ _) (by omega)
 have t1 := (h.later hb).node ho hf hT
 refine ⟨c1, t1, ?_⟩
 rintro W2 rfl
 have o2 := ob_set4 W1 W.heap.size (.float .f64 x) (.float .f64 y) av (.int .i64 mk)
 refine ⟨t1.set o2 hlt (fun q hq e => ?_) (fun e => ?_), set4 c1 _ _ _ _, ⟨own_base (own_ob ha.own o2 (by simp)) (by simp; omega), ha.word⟩⟩
 · have := ((h.nr.sub q hq).own.lt _ e).2; omega
 · have := (h.nr.own.lt _ e).2; omega
theorem Tk.boxC {w0 W W1 W2 : World} {Bf : Nat} {nv : Value} {ns : List Nt} {z z' : Bool} {k : Nat} {m : Bool} {x y : Nat} {av : Value} {ls : List Nat} {mk : Int} (h : Tk w0 W Bf nv ns z k m) (ho : Ob Bf W W1) (hf : CB W1 Bf #[nv, .bool z', .int .i64 (k : Nat), .bool m] 29) (hT : Tab W1) (ha : Fr W1 W.heap.size av ls) (hW : W1.alloc (.cells #[.float .f64 x, .float .f64 y, av, .int .i64 mk] 62) = W2) :
   Tk w0 W2 Bf nv ns z' k m ∧ CB W2 W1.heap.size #[.float .f64 x, .float .f64 y, av, .int .i64 mk] 62 ∧ Fr W2 (Bf + 1) av ls := by
 have hlt := h.fb.lt
 have hb : Below W1.heap.size W1 W2 := by rw [← hW]; exact (Below.refl _ W1).alloc (Nat.le_refl _) _
 exact ⟨(h.node ho hf hT).later hb, by rw [← hW]; exact CB.new W1 _ _, ⟨own_base (ha.later hb).own (by omega), ha.word⟩⟩
theorem Tk.append {w0 W W2 : World} {Bf : Nat} {nv nv' : Value} {ns : List Nt} {z : Bool} {k : Nat} {m : Bool} {p : Nt} {tmp : Obj} (h : Tk w0 W Bf nv ns z k m) (hp : Fr W (Bf + 1) p.2 p.1.a) (hw : wdN p.1) (hown : W2.ownsRow (Bf + 1) 62 4 nv' (ns.length + 1) (ncs ns ++ [.float .f64 p.1.x, .float .f64 p.1.y, p.2, .int .i64 p.1.m])) (hg : (W.alloc tmp).grownBy W2 nv.ownBlock) :
   (W2.cell? ⟨Bf, 0, none⟩ = some nv ∧ W2.frozen? ⟨Bf, 0, none⟩ = false) ∧ Tk w0 (W2.setCell ⟨Bf, 0, none⟩ nv') Bf nv' (ns ++ [p]) z k m := by
 have hB := h.hB
 have hlow : ∀ b, nv.ownBlock = some b → Bf + 1 ≤ b := fun b hb => (h.nr.own.lt b hb).1
 have hlt := h.fb.lt
 have hbl : ∀ b, b < Bf + 1 → W2.heap[b]? = W.heap[b]? := fun b hb => by
   rw [hg.block b (by simp; omega) (fun e => by have := hlow b e.symm; omega), Below.heap_alloc _ _ _ (by omega)]
 have hsz' : W.heap.size + 1 ≤ W2.heap.size := by have := hg.size; simpa using this
 have hBl : Below (Bf + 1) W W2 := ⟨hg.os, hg.tape, hg.output, by omega, hbl⟩
 have cb : ∀ {b t : Nat} {cs : Array Value}, CB W b cs t → b < Bf + 1 → CB W2 b cs t := fun hc hb => by unfold CB; rw [hbl _ hb]; exact hc
 have h8 := cb h.fb (by omega)
 have hn2 : Nr W2 (Bf + 1) nv' (ns ++ [p]) := h.nr.grew hp hw hown hg
 have ho := Ob.set Bf 0 W2 nv'
 refine ⟨⟨h8.cell 0 (by simp), h8.frozen 0⟩, ?_, (cb h.r0 (by omega)).other (by omega) _, by have := h8.set 0 nv'; simpa using this, hB, hn2.ob ho (by omega), ?_, h.tl⟩
 · exact (h.bel.trans (hBl.mono (by omega))).setCell (by show w0.heap.size ≤ Bf; omega) _
 · refine Tab.ob (fun q hq => ?_) ho (by have := h.tl; omega)
   exact (hBl.cell (p := ⟨3, q, none⟩) (by have := h.tl; show 3 < _; omega)).trans (h.tab q hq)
end

/- Package nodefile: files that are handed in; why a file may not be. -/
section
set_option maxRecDepth 100000
open Go.RowKit Go.Shelf Go.Lib
structure Nv (W : World) (v : Value) (ns : List Nt) : Prop where
 form : ∃ a c, v = .slice a ns.length c ∧ ns.length ≤ c ∧ c ≤ 9223372036854775807 ∧ (ns = [] ∨ ∃ g off, a = some ⟨g, off, none⟩ ∧ g < W.heap.size ∧ ∀ k p, ns[k]? = some p → W.cell? ⟨g, off + k * 4, none⟩ = some (.float .f64 p.1.x) ∧ W.cell? ⟨g, off + k * 4 + 1, none⟩ = some (.float .f64 p.1.y) ∧ W.cell? ⟨g, off + k * 4 + 2, none⟩ = some p.2 ∧ W.cell? ⟨g, off + k * 4 + 3, none⟩ = some (.int .i64 p.1.m))
 sub : ∀ p ∈ ns, Fs W p.2 p.1.a
 wrd : ∀ p ∈ ns, wdN p.1
theorem Nv.later {W W' : World} {v : Value} {ns : List Nt} (h : Nv W v ns) (hb : Below W.heap.size W W') : Nv W' v ns := by
 obtain ⟨⟨a, c, h1, h2, h3, h4⟩, h5, h6⟩ := h
 refine ⟨⟨a, c, h1, h2, h3, ?_⟩, fun p hp => (h5 p hp).later hb, h6⟩
 rcases h4 with h4 | ⟨g, off, h6, h7, h8⟩
 · exact Or.inl h4
 · exact Or.inr ⟨g, off, h6, Nat.lt_of_lt_of_le h7 hb.size, fun k p hp => ⟨cell_later hb h7 (h8 k p hp).1, cell_later hb h7 (h8 k p hp).2.1, cell_later hb h7 (h8 k p hp).2.2.1, cell_later hb h7 (h8 k p hp).2.2.2⟩⟩
theorem Nr.nv {W : World} {B : Nat} {v : Value} {ns : List Nt} (h : Nr W B v ns) : Nv W v ns := by
 refine ⟨?_, fun p hp => (h.sub p hp).fs, h.wrd⟩
 have h0 := h.own
 rcases h.own.2 with ⟨h1, h2⟩ | ⟨g, cap, cur, rfl, _, h3, h4, h5, _⟩
 · have : ns = [] := List.length_eq_zero_iff.1 h2
   subst this
   exact ⟨none, 0, h1, by simp, by omega, Or.inl rfl⟩
 · refine ⟨_, cap, rfl, h4, by unfold maxLen at h5; omega, Or.inr ⟨g, 0, rfl, (World.ownsRow.lt h0 g rfl).2, fun k p hk => ?_⟩⟩
   have := ncs_at ns k p hk
   refine ⟨own_cellL h0 this.1, ?_, ?_, ?_⟩
   · rw [Nat.add_assoc]; exact own_cellL h0 this.2.1
   · rw [Nat.add_assoc]; exact own_cellL h0 this.2.2.1
   · rw [Nat.add_assoc]; exact own_cellL h0 this.2.2.2
def endl (x : Nat) : Bool := isnan x || isinf x
def amiss (k : Int) (m : Bool) (p : Nd) : Bool := decide ((p.a.length : Int) ≠ k) || p.a.any endl || (decide (p.m ≠ 0) && !m)
def wrongN (p : Pm) (f : Fd) : Int :=
 if 1048576 < f.ns.length then 3 else if f.k < 0 ∨ 16 < f.k ∨ (f.z = true ∧ f.ns.length = 0) then 1 else if f.ns.any (amiss f.k f.m) then 1 else if f.ns.any (fun q => !p.pt q.x q.y) then 10 else 0
theorem endless_any (x : Nat) (w : World) (lx : x < 18446744073709551616) : Calls Tryz.prog 68 #[.float .f64 x] w fun e w' => e = .returned (.bool (endl x)) ∧ w' = w := by
 have HN : Hid (∀ w, Calls Tryz.prog 108 #[.float .f64 x] w fun e w' => e = .returned (.bool (isnan x)) ∧ w' = w) := Lib.hid fun w => isNaN_any x w
 have HI : Hid (∀ w, Calls Tryz.prog 109 #[.float .f64 x, .int .i64 0] w fun e w' => e = .returned (.bool (isinf x)) ∧ w' = w) := Lib.hid fun w => isInf0_any x w lx
 unfold endl
 obtain ⟨b1, hb1⟩ : ∃ b, isnan x = b := ⟨_, rfl⟩
 obtain ⟨b2, hb2⟩ : ∃ b, isinf x = b := ⟨_, rfl⟩
 rw [hb1] at HN
 rw [hb2] at HI
 rw [hb1, hb2]
 clear hb1 hb2
 cases b1
 · go_enter Tryz.func68, Tryz.ntmps68
   go_wp2_with (first
     | (go_at_call 108; refine (HN.out _).mono ?_; rintro e w' ⟨rfl, rfl⟩)
     | (go_at_call 109; refine (HI.out _).mono ?_; rintro e w' ⟨rfl, rfl⟩))
   go_ret
   exact ⟨rfl, rfl⟩
 · go_enter Tryz.func68, Tryz.ntmps68
   go_wp2_with (first
     | (go_at_call 108; refine (HN.out _).mono ?_; rintro e w' ⟨rfl, rfl⟩)
     | (go_at_call 109; refine (HI.out _).mono ?_; rintro e w' ⟨rfl, rfl⟩))
   go_ret
   exact ⟨rfl, rfl⟩
theorem astray_any {p : Pm} (hp : p.Ok) (q : Nd) (av : Value) (w : World) (hw : wdN q) : Calls Tryz.prog 70 #[.agg #[.float .f64 q.x, .float .f64 q.y, av, .int .i64 q.m]] w fun e w' => e = .returned (.bool (!p.pt q.x q.y)) ∧ Below w.heap.size w w' := by
 have hb : Below w.heap.size w (w.alloc (.cells #[.float .f64 q.x, .float .f64 q.y, av, .int .i64 q.m] 62)) := (Below.refl _ w).alloc (Nat.le_refl _) _
 have HB := Lib.hid hb
 have HM : Hid (∀ W, Calls Tryz.prog 90 #[pv q.x q.y] W fun e w' => e = .returned (.bool (p.pt q.x q.y)) ∧ Below W.heap.size W w') := Lib.hid fun W => by
   refine (may1_any q.x q.y W ⟨hw.1, hw.2.1⟩).mono ?_
   rintro e w' ⟨⟨t, rfl, ht⟩, hb⟩
   have : t = p.pt q.x q.y := by
     have h2 := hp.pt q.x q.y
     cases t <;> cases hq : p.pt q.x q.y
     · rfl
     · exact absurd (ht.2 (h2.1 hq)) (by simp)
     · exact absurd (h2.2 (ht.1 rfl)) (by rw [hq]; simp)
     · rfl
   rw [this]; exact ⟨rfl, hb⟩
 obtain ⟨b, hbb⟩ : ∃ b, p.pt q.x q.y = b := ⟨_, rfl⟩
 rw [hbb] at HM ⊢
 clear hb hbb hw hp
 go_enter Tryz.func70, Tryz.ntmps70
 go_wp2_with (go_at_call 90; refine (HM.out _).mono ?_; rintro e w' ⟨rfl, hb2⟩; have HB2 := Lib.hid hb2; clear hb2)
 go_ret
 exact ⟨rfl, HB.out.trans (HB2.out.mono HB.out.size)⟩
end

/- Package nodefile: taken. -/
section
set_option maxRecDepth 100000
open Go.RowKit Go.Shelf Go.Lib
attribute [local go_sem] run_store_float
abbrev fz4 : Array Value := #[.slice none 0 0, .bool false, .int .i64 0, .bool false]
def ndsO (ns : List Nt) : List Nd := ns.map (·.1)
def TakenR (p : Pm) (w w' : World) (L : List (Nat × List Bs)) (v : Ending) : Prop :=
 Below w.heap.size w w' ∧ (((tkV p L).2.2.2 = 0 ∧ ∃ a c ns z k m, v = .returned (.tuple #[.agg #[.slice a ns.length c, .bool z, .int .i64 (k : Nat), .bool m], .nilIface]) ∧ Nr w' w.heap.size (.slice a ns.length c) ns ∧ (tkV p L).1 = ⟨ndsO ns, z, (k : Nat), m⟩ ∧ (tkV p L).2.1 = 1 + ns.length ∧ (tkV p L).2.2.1 = 0 ∧ k ≤ 16 ∧ ns.length ≤ 1048576) ∨
   ((tkV p L).2.2.2 ≠ 0 ∧ v = .returned (.tuple #[.agg fz4, .iface 104 (.agg #[.int .i64 ((tkV p L).2.2.1 : Nat), erI (tkV p L).2.2.2])]) ∧ (tkV p L).1 = ⟨[], false, 0, false⟩ ∧ (tkV p L).2.1 = 0))
theorem res_taken (W : World) (B : Nat) (a b c d : Value) (ev : Value) (tmps : Array Value) (h : CB W B #[a, b, c, d] 29)
   (t2 : tmps[2]? = some (.pointer (some ⟨B, 0, none⟩))) (t3 : tmps[3]? = some ev) : (results Tryz.f30 tmps).run Tryz.prog W = .ok (.tuple #[.agg #[a, b, c, d], ev]) W := by
 have c0 := h.cell 0 (by simp)
 have c1 := h.cell 1 (by simp)
 have c2 := h.cell 2 (by simp)
 have c3 := h.cell 3 (by simp)
 simp [results, Tryz.f30, go_sem, c0, c1, c2, c3, t2, t3]
set_option maxHeartbeats 2000000 in
theorem taken_nil (p : Pm) (a : Option Addr) (c : Nat) (w : World) : Calls Tryz.prog 30 #[.slice a 0 c] w fun v w' => TakenR p w w' [] v := by
 go_enter Tryz.func30, Tryz.ntmps30
 go_wp2
 have hc := CB.new w fz4 29
 refine bodyPost_ret (res_taken _ w.heap.size (.slice none 0 0) (.bool false) (.int .i64 0) (.bool false) _ _ hc rfl rfl) rfl ?_
 exact ⟨(Below.refl _ w).alloc (Nat.le_refl _) _, Or.inr ⟨(by show (4 : Int) ≠ 0; decide), rfl, rfl, rfl⟩⟩
theorem getLast_bang : ∀ (l : List (Nat × List Bs)) (h : l ≠ []), l.getLast! = l.getLast h := by
 intro l h
 cases l with
 | nil => exact absurd rfl h
 | cons a r => rfl
theorem last_tell {p0 : Lt} {rs : List Lt} {q : Lt} (h : (p0 :: rs)[rs.length]? = some q) : (tell (p0 :: rs)).getLast!.1 = q.1 := by
 have hne : tell (p0 :: rs) ≠ [] := by simp [tell]
 have e : (tell (p0 :: rs)).getLast! = (tell (p0 :: rs)).getLast hne := by
   exact getLast_bang _ hne
 rw [e, List.getLast_eq_getElem]
 obtain ⟨h1, h2⟩ := List.getElem?_eq_some_iff.1 h
 unfold tell
 simp only [List.getElem_map, List.length_map, List.length_cons, Nat.add_sub_cancel]
 rw [h2]
structure Shr (P : Prop) : Prop where
 get : P
theorem share {P Q : Prop} (h1 : Shr P → Q) (h2 : P) : Q := h1 ⟨h2⟩
set_option maxHeartbeats 16000000 in
theorem taken_some {p : Pm} (hp : p.Ok) (v : Value) (p0 : Lt) (rs : List Lt) (w : World) (hL : Lw w v (p0 :: rs)) (hl : ∀ q ∈ p0 :: rs, ∀ x ∈ q.2.1, x.length ≤ 900000) (hn : rs.length ≤ 20000000) (hno : ∀ q ∈ p0 :: rs, q.1 ≤ 20000000) (hT : Tab w) :
   Calls Tryz.prog 30 #[v] w fun e w' => TakenR p w w' (tell (p0 :: rs)) e := by
 have HP := Lib.hid hp
 have HL := Lib.hid hl
 have HLw := Lib.hid hL
 have HNo := Lib.hid hno
 have htl := hT.lt
 obtain ⟨⟨a, c, rfl, hc1, hc2, hm⟩, hsub⟩ := hL
 obtain ⟨g, off, rfl, hg, hcell⟩ := hm.resolve_left (by simp)
 rw [List.length_cons] at *
 obtain ⟨N, hN⟩ : ∃ N, Hid (rs.length = N) := ⟨_, Lib.hid rfl⟩
 rw [hN.out] at hc1 hn ⊢
 have HCe := Lib.hid hcell
 obtain ⟨W0, hW0⟩ : ∃ W0, w.alloc (.cells fz4 29) = W0 := ⟨_, rfl⟩
 have b0 : Below w.heap.size w W0 := by rw [← hW0]; exact (Below.refl _ w).alloc (Nat.le_refl _) _
 have z0 : W0.heap.size = w.heap.size + 1 := by rw [← hW0]; simp
 have c0 : CB W0 w.heap.size fz4 29 := by rw [← hW0]; exact CB.new w _ _
 obtain ⟨hS0, hK0⟩ := hsub p0 (by simp)
 have HHd : Hid (Calls Tryz.prog 50 #[p0.2.2] W0 fun v w' => HeadR W0 w' p0.2.1 v) := Lib.hid (head_any p0.2.2 p0.2.1 W0 (hS0.later b0) (fun b hb => by have := hK0 b hb; omega) (hl p0 (by simp)))
 have k00 : W0.cell? ⟨g, off, none⟩ = some (.int .i64 (p0.1 : Nat)) := by have := cell_later b0 hg (hcell 0 p0 rfl).1; simpa using this
 have k01 : W0.cell? ⟨g, off + 1, none⟩ = some p0.2.2 := by have := cell_later b0 hg (hcell 0 p0 rfl).2; simpa using this
 have H0 : Hid (Below w.heap.size w W0 ∧ CB W0 w.heap.size fz4 29 ∧ W0.heap.size = w.heap.size + 1) := Lib.hid ⟨b0, c0, z0⟩
 have HTb := Lib.hid (hT.later b0)
 have hn' : (N : Int) ≤ 20000000 := by omega
 clear hS0 hK0 hl hno hT hsub hcell b0 z0 c0 hm hp
 obtain ⟨no0, ws0, wv0⟩ := p0
 go_enter Tryz.func30, Tryz.ntmps30
 go_wp2_with fail
 try rw [hW0]
 clear hW0
 refine HHd.out.mono ?_
 rintro e W1 ⟨n, k, b, rfl, hb1, hh⟩
 obtain ⟨W2, hW2⟩ : ∃ W2, W1.alloc (.cells #[.slice none 0 0, .bool false, .int .i64 k, .bool b] 29) = W2 := ⟨_, rfl⟩
 have hb2 : Below W1.heap.size W1 W2 := by rw [← hW2]; exact (Below.refl _ _).alloc (Nat.le_refl _) _
 have hb02 : Below W0.heap.size W0 W2 := hb1.trans (hb2.mono hb1.size)
 have hw2 : Below w.heap.size w W2 := H0.out.1.trans (hb02.mono H0.out.1.size)
 have HC2 : Hid (CB W2 W1.heap.size #[.slice none 0 0, .bool false, .int .i64 k, .bool b] 29 ∧ CB W2 w.heap.size fz4 29 ∧ Below w.heap.size w W2 ∧ Tab W2 ∧ w.heap.size < W1.heap.size ∧ W1.heap.size < W2.heap.size) := Lib.hid ⟨by rw [← hW2]; exact CB.new _ _ _, H0.out.2.1.later hb02, hw2, HTb.out.later hb02, by have := hb1.size; have := H0.out.2.2; omega, by rw [← hW2]; simp⟩
 have k00' : W2.drew.cell? ⟨g, off, none⟩ = some (.int .i64 (no0 : Nat)) := cell_later hb02 (by have := H0.out.2.2; omega) k00
 clear k00 k01 hb1 hb2 hb02 hw2 HHd H0 HTb
 by_cases hE : hdE ws0 = 0
 · obtain ⟨hp1, hp2, hp3⟩ := hh hE
   obtain ⟨cn, rfl⟩ : ∃ cn : Nat, n = (cn : Nat) := ⟨n.toNat, by omega⟩
   obtain ⟨kn, rfl⟩ : ∃ kn : Nat, k = (kn : Nat) := ⟨k.toNat, by omega⟩
   have HHP : Hid (hdP ws0 = some (cn, kn, b)) := Lib.hid (by simpa using hp3)
   have hck : cn ≤ 1048576 ∧ kn ≤ 16 := by
     unfold hdE at hE
     rw [HHP.out] at hE
     by_cases hq : cn ≤ 1048576 ∧ kn ≤ 16
     · exact hq
     · simp only [if_neg hq] at hE; cases hE
   have HE0 := Lib.hid hE
   rw [hE, show erV ((0 : Nat) : Int) = .nilIface from rfl]
   clear hE hh hp1 hp2 hp3 k00'
   have hcn : (cn : Int) ≤ 1048576 := by omega
   obtain ⟨k40, k41, k42, k43⟩ := HC2.out.1.cells4
   have f40 := HC2.out.1.frozen 0
   have HGr : Hid (Calls Tryz.prog 53 #[.slice none 0 0, .int .i64 (min (cn : Int) (N : Int))] W2 fun e w' => ∃ a c, e = .returned (.slice a 0 c) ∧ w'.ownsRow W2.heap.size 62 4 (.slice a 0 c) 0 [] ∧ Below W2.heap.size W2 w') := Lib.hid (by
     have := growN_any (min cn N) W2 (by omega)
     rwa [show ((min cn N : Nat) : Int) = min (cn : Int) (N : Int) by omega] at this)
   go_wp2_with fail
   clear hW2
   refine HGr.out.mono ?_
   rintro e W3 ⟨ga, gc, rfl, hgo, hgb⟩
   clear k40 k41 k42 k43 f40
   obtain ⟨W4, hW4⟩ : ∃ W4, W3.setCell ⟨W1.heap.size, 0, none⟩ (.slice ga 0 gc) = W4 := ⟨_, rfl⟩
   have fb3 := HC2.out.1.later hgb
   have hT0 : Tk w W4 W1.heap.size (.slice ga 0 gc) [] false kn b := by
     have ho := Ob.set W1.heap.size 0 W3 (.slice ga 0 gc)
     rw [hW4] at ho
     obtain ⟨q1, q2, q3, q4, q5, q6⟩ := HC2.out
     have hfb : CB W4 W1.heap.size #[.slice ga 0 gc, .bool false, .int .i64 (kn : Nat), .bool b] 29 := by
       have := fb3.set 0 (.slice ga 0 gc)
       rw [hW4] at this
       simpa using this
     refine ⟨(q3.trans (hgb.mono q3.size)).trans (ho.below (by omega) (by have := hgb.size; omega)), ho.cb (q2.later hgb) (by omega), hfb, q5, Nr.nil (own_base (own_ob hgo ho q6) (by omega)), (q4.later hgb).ob ho (by omega), htl⟩
   have k40 := fb3.cell 0 (by simp)
   have f40 := fb3.frozen 0
   have HT0 := Lib.hid hT0
   clear hgo hgb HGr hT0 fb3
   go_wp2_with fail
   try rw [hW4]
   clear hW4 k40 f40
   obtain ⟨i0, hi0, hz0, hz1, hz2⟩ := info_parts (show (Tryz.prog.info? 62).map (fun i => (i.zero, i.size, i.bytes)) = some (some (.agg nz), 4, 48) by kernel_rfl)
   have hwB : Hid (w.heap.size < W1.heap.size) := Lib.hid HC2.out.2.2.2.2.1
   clear HC2
   go_loopw [48] (fun s48 wr => ∃ (i : Nat) (nv : Value) (ns : List Nt) (z : Bool), s48 = .int .i64 (i : Nat) ∧ i ≤ cn ∧ i ≤ N ∧ Hid (Tk w wr W1.heap.size nv ns z kn b ∧ ns.length = i ∧ goN p kn b 0 false ((tell rs).take i) = .inr (ndsO ns, z))) (fun s48 _ => cn - (RowKit.intOf s48).toNat)
   case atStart => exact ⟨0, _, [], false, rfl, by omega, by omega, HT0.out, rfl, rfl⟩
   case round =>
     obtain ⟨i, nv, ns, z, rfl, hi1, hi2, hI⟩ := hrel
     have HTL : Hid ((tell rs).length = N) := Lib.hid (by unfold tell; rw [List.length_map]; exact hN.out)
     by_cases hlt : i < cn
     · have hlt' : (i : Int) < (cn : Int) := by omega
       by_cases hiN : i = N
       · 
         obtain ⟨q, hq⟩ : ∃ q, ((no0, ws0, wv0) :: rs)[i]? = some q := ⟨_, List.getElem?_eq_getElem (by rw [List.length_cons, hN.out]; omega)⟩
         have hqn : q.1 ≤ 20000000 := HNo.out q (List.mem_of_getElem? hq)
         have kno : wr.drew.cell? ⟨g, off + i * 2, none⟩ = some (.int .i64 (q.1 : Nat)) := cell_later hI.out.1.bel hg (HCe.out i q hq).1
         have HR0 : Hid (CB wr.drew w.heap.size fz4 29 ∧ Below w.heap.size w wr.drew) := Lib.hid ⟨hI.out.1.r0, hI.out.1.bel.drew⟩
         have HTV : Hid (tkV p (tell ((no0, ws0, wv0) :: rs)) = (⟨[], false, 0, false⟩, 0, q.1 + 1, 4)) := Lib.hid (by
           have hla := last_tell (p0 := (no0, ws0, wv0)) (rs := rs) (q := q) (by rw [hN.out, ← hiN]; exact hq)
           have hg2 := hI.out.2.2
           rw [List.take_of_length_le (by rw [HTL.out]; omega)] at hg2
           show tkV p ((no0, ws0) :: tell rs) = _
           unfold tkV
           simp only [HE0.out, if_pos, HHP.out]
           rw [List.take_of_length_le (by rw [HTL.out]; omega), hg2]
           simp only []
           rw [if_pos (by rw [HTL.out]; omega)]
           exact congrArg (fun n => ((⟨[], false, 0, false⟩ : Fd), 0, n + 1, (4 : Int))) hla)
         obtain ⟨W, hW⟩ : ∃ W, wr.drew = W := ⟨_, rfl⟩
         rw [hW] at kno HR0
         obtain ⟨k20, k21, k22, k23⟩ := HR0.out.1.cells4
         have f20 := HR0.out.1.frozen 0
         have f21 := HR0.out.1.frozen 1
         have f22 := HR0.out.1.frozen 2
         have f23 := HR0.out.1.frozen 3
         obtain ⟨nq, hnq⟩ : ∃ n : Nat, q.1 = n := ⟨_, rfl⟩
         rw [hnq] at kno hqn HTV
         have hqn' : (nq : Int) ≤ 20000000 := by omega
         have hi3 : (i : Int) < (N : Int) + 1 := by omega
         have hi4 : (0 : Int) ≤ (i : Int) := by omega
         have hee : (((i : Nat) : Int) + 1 == (N : Int) + 1) = true := by rw [beq_iff_eq]; omega
         clear hI hq hnq hiN
         go_wp2_with fail
         go_region
         all_goals
           go_wp2
           refine bodyPost_ret (res_taken _ w.heap.size _ _ _ _ _ _ (set4 HR0.out.1 _ _ _ _) rfl rfl) rfl ?_
           refine ⟨(((HR0.out.2.setCell (Nat.le_refl _) _).setCell (Nat.le_refl _) _).setCell (Nat.le_refl _) _).setCell (Nat.le_refl _) _, Or.inr ⟨(by rw [HTV.out]; show (4 : Int) ≠ 0; decide), by rw [HTV.out]; rfl, by rw [HTV.out], by rw [HTV.out]⟩⟩
       · 
         have hi5 : i < N := by omega
         obtain ⟨i1, h11⟩ : ∃ i1 : Nat, ((i : Nat) : Int) + 1 = ((i1 : Nat) : Int) := ⟨i + 1, by omega⟩
         have e11 : Hid (i1 = i + 1) := Lib.hid (by omega)
         obtain ⟨q, hq⟩ : ∃ q, ((no0, ws0, wv0) :: rs)[i1]? = some q := ⟨_, List.getElem?_eq_getElem (by rw [List.length_cons, hN.out]; omega)⟩
         have hqm := List.mem_of_getElem? hq
         have hqn : q.1 ≤ 20000000 := HNo.out q hqm
         obtain ⟨W, hW⟩ : ∃ W, wr.drew = W := ⟨_, rfl⟩
         have hTk : Tk w W W1.heap.size nv ns z kn b := by rw [← hW]; exact hI.out.1.later (Below.refl _ wr).drew
         have kno : ∀ W', Below w.heap.size w W' → W'.cell? ⟨g, off + i1 * 2, none⟩ = some (.int .i64 (q.1 : Nat)) := fun W' hb => cell_later hb hg (HCe.out i1 q hq).1
         have kwd : W.cell? ⟨g, off + i1 * 2 + 1, none⟩ = some q.2.2 := cell_later hTk.bel hg (HCe.out i1 q hq).2
         have HKno := Lib.hid kno
         have HGo := Lib.hid hI.out.2.2
         have HLn := Lib.hid hI.out.2.1
         obtain ⟨na, nc, hnv⟩ := hI.out.1.nr.form
         rw [HLn.out] at hnv
         subst hnv
         have hsl := HLw.out.sub q hqm
         have hlq := HL.out q hqm
         obtain ⟨nq, ws, wv⟩ := q
         have hA : ∀ W', Tk w W' W1.heap.size (.slice na i nc) ns z kn b → Calls Tryz.prog 54 #[wv, .agg #[.slice na i nc, .bool z, .int .i64 (kn : Nat), .bool b], .func (.func 51) #[] #[.pointer (some ⟨W1.heap.size, 0, none⟩)]] W' fun v w' => NodeR p W' w' W1.heap.size na i nc z kn b ws v := fun W' h => nodeOf_any HP.out wv ws W1.heap.size na i nc z kn b W' (hsl.1.later h.bel) (fun bb hbb => Nat.lt_of_lt_of_le (hsl.2 bb hbb) h.bel.size) hlq h.fb (by omega) hck.2 h.tab
         have HA := Lib.hid (hA W hTk)
         have HB := Lib.hid (hA (W.alloc (.cells nz 62)) (hTk.later ((Below.refl _ W).alloc (Nat.le_refl _) _)))
         have HTk := Lib.hid hTk
         obtain ⟨k40, k41, k42, k43⟩ := hTk.fb.cells4
         have hlt4 := hTk.fb.lt
         have hgW : g < W.heap.size := Nat.lt_of_lt_of_le hg hTk.bel.size
         have hqn' : (nq : Int) ≤ 20000000 := by have : nq ≤ 20000000 := hqn; omega
         have hi3 : (i1 : Int) < (N : Int) + 1 := by omega
         have hi4 : (0 : Int) ≤ (i1 : Int) := by omega
         have hi6 : (i1 : Int) ≤ 20000000 := by omega
         have hi8 : i1 < N + 1 := by omega
         have ix1 : ∀ w, (Instr.indexAt 35 (.slice (some ⟨g, off, none⟩) (N + 1) c) (.int .i64 (i1 : Nat))).run Tryz.prog w = .ok (.pointer (some ⟨g, off + i1 * 2, none⟩)) w := fun w => by go_simp
         have ix : ∀ w, (Instr.indexAt 35 (.slice (some ⟨g, off, none⟩) (N + 1) c) (.int .i64 (((i : Nat) : Int) + 1))).run Tryz.prog w = .ok (.pointer (some ⟨g, off + i1 * 2, none⟩)) w := fun w => by rw [h11]; exact ix1 w
         have hee : (((i : Nat) : Int) + 1 == (N : Int) + 1) = false := by rw [beq_eq_false_iff_ne]; omega
         have hwr : IntKind.i64.wrap (((i : Nat) : Int) + 1) = ((i : Nat) : Int) + 1 := by rw [IntKind.wrap_i64]; omega
         have hi10 : (i : Int) ≤ 20000000 := by omega
         clear h11 ix1 hi3 hi4 hi6
         have hQ : Hid ((tell rs)[i]? = some (nq, ws)) := Lib.hid (by
           have : rs[i]? = some (nq, ws, wv) := by rw [e11.out] at hq; simpa using hq
           unfold tell
           rw [List.getElem?_map, this]; rfl)
         clear hI hq hqm hA hTk hsl hlq kno
         obtain ⟨E, hEE⟩ : ∃ E : Int, Hid (ndE p kn b (mayN i z) ws = E) := ⟨_, Lib.hid rfl⟩
         by_cases hE1 : E = 0
         · have HEV : Hid (erV (ndE p kn b (mayN i z) ws) = .nilIface) := Lib.hid (by rw [hEE.out, hE1]; rfl)
           go_wp2_with fail
           go_region_with (go_at_call 54; first | (refine HA.out.mono ?_; rintro e W5 ⟨x, y, av, ls, mk, rfl, ha, hx, hy, ho, hT5, ⟨z', hf, hz⟩, hv⟩; rw [HEV.out]; obtain ⟨ae, ac, rfl⟩ := own_slice ha.own; obtain ⟨W6, hW6⟩ : ∃ W6, W5.alloc (.cells #[.float .f64 x, .float .f64 y, .slice ae ls.length ac, .int .i64 mk] 62) = W6 := ⟨_, rfl⟩; have h6 := HTk.out.boxC ho hf hT5 ha hW6; obtain ⟨m0, m1, m2, m3⟩ := h6.2.1.cells4; have H6 := Lib.hid (And.intro h6.1 h6.2.2); have n0 := h6.1.fb.cell 0 (by simp); clear h6; have HXY := Lib.hid (And.intro hx hy); have HZ := Lib.hid hz; have HVV := Lib.hid hv; clear ha hx hy ho hT5 hf hz hv) | (refine HB.out.mono ?_; rintro e W5 ⟨x, y, av, ls, mk, rfl, ha, hx, hy, ho, hT5, ⟨z', hf, hz⟩, hv⟩; rw [HEV.out]; obtain ⟨ae, ac, rfl⟩ := own_slice ha.own; obtain ⟨W6, hW6⟩ : ∃ W6, (((W5.setCell ⟨W.heap.size, 0, none⟩ (.float .f64 x)).setCell ⟨W.heap.size, 1, none⟩ (.float .f64 y)).setCell ⟨W.heap.size, 2, none⟩ (.slice ae ls.length ac)).setCell ⟨W.heap.size, 3, none⟩ (.int .i64 mk) = W6 := ⟨_, rfl⟩; have h5 := HTk.out.boxA (x := x) (y := y) (mk := mk) ho hf hT5 ha; have h6 := h5.2.2 W6 hW6.symm; obtain ⟨q0, q1, q2, q3⟩ := h5.1.cells4; have g0 := h5.1.frozen 0; have g1 := h5.1.frozen 1; have g2 := h5.1.frozen 2; have g3 := h5.1.frozen 3; obtain ⟨m0, m1, m2, m3⟩ := h6.2.1.cells4; have H6 := Lib.hid (And.intro h6.1 h6.2.2); have n0 := h6.1.fb.cell 0 (by simp); clear h6 h5; have HXY := Lib.hid (And.intro hx hy); have HZ := Lib.hid hz; have HVV := Lib.hid hv; clear ha hx hy ho hT5 hf hz hv))
           all_goals
             clear hW6
             go_wp2_with (at_builtin; refine wpList_append_own _ rfl _ _ 23 rfl (W1.heap.size + 1) 62 i0 (.agg nz) 4 48 Tryz.underlying23 hi0 hz0 hz1 hz2 rfl (by decide) (.slice na i nc) ns.length (ncs ns) rfl (World.ownsRow.alloc H6.out.1.nr.own _) ⟨W6.heap.size, 0, none⟩ 1 1 [.float .f64 x, .float .f64 y, .slice ae ls.length ac, .int .i64 mk] rfl rfl (World.news_of_block (cs := #[.float .f64 x, .float .f64 y, .slice ae ls.length ac, .int .i64 mk]) (t := 62) (fr := (0, 0)) (heap_alloc_new W6 _)) (by simp [Value.oneCell']) (by unfold maxLen; have := HLn.out; omega) (by have := HLn.out; omega) (by have := H6.out.1.fb.lt; simp; omega) ?_; intro v' W8 hown hgrow _; obtain ⟨va, vc, rfl⟩ := own_slice hown; obtain ⟨⟨s1, s2⟩, h8⟩ := H6.out.1.append (p := (⟨x, y, ls, mk⟩, .slice ae ls.length ac)) H6.out.2 ⟨HXY.out.1, HXY.out.2, inR_nd (HVV.out (hEE.out.trans hE1))⟩ hown hgrow; have H8 := Lib.hid h8; clear hown hgrow h8)
             refine ⟨⟨i + 1, _, ns ++ [(⟨x, y, ls, mk⟩, .slice ae ls.length ac)], z', by go_num, by omega, by omega, H8.out, by rw [List.length_append, HLn.out]; rfl, ?_⟩, by simp [RowKit.intOf]; omega⟩
             have hl1 : ((tell rs).take i).length = i := by rw [List.length_take, HTL.out]; omega
             rw [show (tell rs).take (i + 1) = (tell rs).take i ++ [(nq, ws)] by
               obtain ⟨g1, g2⟩ := List.getElem?_eq_some_iff.1 hQ.out
               rw [List.take_succ_eq_append_getElem g1, g2], goN_snoc, HGo.out]
             simp only [hl1, Nat.zero_add]
             rw [if_pos (hEE.out.trans hE1), HVV.out (hEE.out.trans hE1), ← HZ.out (hEE.out.trans hE1)]
             simp [ndsO]
         · have HEV : Hid (erV (ndE p kn b (mayN i z) ws) = erI E) := Lib.hid (by rw [hEE.out, erV_no hE1])
           go_wp2_with fail
           apply share
           · intro key
             go_region_with (go_at_call 54; first | (refine HA.out.mono ?_; rintro e W5 ⟨x, y, av, ls, mk, rfl, ha, hx, hy, ho, hT5, ⟨z', hf, hz⟩, hv⟩; rw [HEV.out]; obtain ⟨ae, ac, rfl⟩ := own_slice ha.own; obtain ⟨W6, hW6⟩ : ∃ W6, W5.alloc (.cells #[.float .f64 x, .float .f64 y, .slice ae ls.length ac, .int .i64 mk] 62) = W6 := ⟨_, rfl⟩; have h6 := HTk.out.boxC ho hf hT5 ha hW6; obtain ⟨m0, m1, m2, m3⟩ := h6.2.1.cells4; have H6 := Lib.hid (And.intro h6.1 h6.2.2); have n0 := h6.1.fb.cell 0 (by simp); clear h6; have HXY := Lib.hid (And.intro hx hy); have HZ := Lib.hid hz; have HVV := Lib.hid hv; clear ha hx hy ho hT5 hf hz hv; obtain ⟨bq, hbq⟩ : ∃ bq, Hid (W5.heap.size = bq) := ⟨_, Lib.hid rfl⟩) | (refine HB.out.mono ?_; rintro e W5 ⟨x, y, av, ls, mk, rfl, ha, hx, hy, ho, hT5, ⟨z', hf, hz⟩, hv⟩; rw [HEV.out]; obtain ⟨ae, ac, rfl⟩ := own_slice ha.own; obtain ⟨W6, hW6⟩ : ∃ W6, (((W5.setCell ⟨W.heap.size, 0, none⟩ (.float .f64 x)).setCell ⟨W.heap.size, 1, none⟩ (.float .f64 y)).setCell ⟨W.heap.size, 2, none⟩ (.slice ae ls.length ac)).setCell ⟨W.heap.size, 3, none⟩ (.int .i64 mk) = W6 := ⟨_, rfl⟩; have h5 := HTk.out.boxA (x := x) (y := y) (mk := mk) ho hf hT5 ha; have h6 := h5.2.2 W6 hW6.symm; obtain ⟨q0, q1, q2, q3⟩ := h5.1.cells4; have g0 := h5.1.frozen 0; have g1 := h5.1.frozen 1; have g2 := h5.1.frozen 2; have g3 := h5.1.frozen 3; obtain ⟨m0, m1, m2, m3⟩ := h6.2.1.cells4; have H6 := Lib.hid (And.intro h6.1 h6.2.2); have n0 := h6.1.fb.cell 0 (by simp); clear h6 h5; have HXY := Lib.hid (And.intro hx hy); have HZ := Lib.hid hz; have HVV := Lib.hid hv; clear ha hx hy ho hT5 hf hz hv; obtain ⟨bq, hbq⟩ : ∃ bq, Hid (W.heap.size = bq) := ⟨_, Lib.hid rfl⟩))
             all_goals
               have HR0 : Hid (CB W6.drew w.heap.size fz4 29 ∧ Below w.heap.size w W6.drew) := Lib.hid ⟨H6.out.1.r0, H6.out.1.bel.drew⟩
               have kno := HKno.out W6.drew H6.out.1.bel.drew
               rw [hbq.out]
               clear hbq hW6 H6 m0 m1 m2 m3 n0 HZ HVV HXY
               revert HR0 kno W6 x y ls mk ae ac bq
               exact key.get
           · intro x y ls mk ae ac W6 bq HR0 kno
             have HTV : Hid (tkV p (tell ((no0, ws0, wv0) :: rs)) = ((⟨[], false, 0, false⟩ : Fd), 0, nq, E)) := Lib.hid (by
               have hl1 : ((tell rs).take i).length = i := by rw [List.length_take, HTL.out]; omega
               have h1 : goN p kn b 0 false ((tell rs).take (i + 1)) = .inl (nq, E) := by
                 rw [show (tell rs).take (i + 1) = (tell rs).take i ++ [(nq, ws)] by
                   obtain ⟨g1, g2⟩ := List.getElem?_eq_some_iff.1 hQ.out
                   rw [List.take_succ_eq_append_getElem g1, g2], goN_snoc, HGo.out]
                 simp only [hl1, Nat.zero_add]
                 rw [if_neg (by rw [hEE.out]; exact hE1), hEE.out]
               have h2 : goN p kn b 0 false ((tell rs).take cn) = .inl (nq, E) := by
                 rw [← List.take_append_drop (i + 1) ((tell rs).take cn), List.take_take, Nat.min_eq_left (by omega)]
                 exact goN_bad _ h1
               show tkV p ((no0, ws0) :: tell rs) = _
               simp only [tkV, HE0.out, if_pos, HHP.out, h2])
             obtain ⟨Wd, hWd⟩ : ∃ Wd, W6.drew = Wd := ⟨_, rfl⟩
             rw [hWd] at kno HR0
             obtain ⟨k20, k21, k22, k23⟩ := HR0.out.1.cells4
             have f20 := HR0.out.1.frozen 0
             have f21 := HR0.out.1.frozen 1
             have f22 := HR0.out.1.frozen 2
             have f23 := HR0.out.1.frozen 3
             have HE1 := Lib.hid hE1
             have hgn : g ≠ w.heap.size := by omega
             have hgn2 : w.heap.size ≠ g := by omega
             clear hE1 HA HB HTk k40 k41 k42 k43 kwd HKno hlt4 hgW HGo hee hi8 hi10 hwr hQ hEE HEV
             go_wp2_with fail
             go_region
             all_goals
               go_wp2
               refine bodyPost_ret (res_taken _ w.heap.size _ _ _ _ _ _ (set4 HR0.out.1 _ _ _ _) rfl rfl) rfl ?_
               refine ⟨(((HR0.out.2.setCell (Nat.le_refl _) _).setCell (Nat.le_refl _) _).setCell (Nat.le_refl _) _).setCell (Nat.le_refl _) _, Or.inr ⟨by rw [HTV.out]; exact HE1.out, by rw [HTV.out]; rfl, by rw [HTV.out], by rw [HTV.out]⟩⟩
     · obtain rfl : i = cn := by omega
       obtain ⟨k40, k41, k42, k43⟩ := hI.out.1.fb.cells4
       obtain ⟨k20, k21, k22, k23⟩ := hI.out.1.r0.cells4
       have f20 := hI.out.1.r0.frozen 0
       have f21 := hI.out.1.r0.frozen 1
       have f22 := hI.out.1.r0.frozen 2
       have f23 := hI.out.1.r0.frozen 3
       obtain ⟨na, nc, rfl⟩ := hI.out.1.nr.form
       have HTV : Hid (tkV p (tell ((no0, ws0, wv0) :: rs)) = (⟨ndsO ns, z, (kn : Nat), b⟩, 1 + ns.length, 0, 0)) := Lib.hid (by
         show tkV p ((no0, ws0) :: tell rs) = _
         unfold tkV
         simp only [HE0.out, if_pos, HHP.out, hI.out.2.2]
         rw [if_neg (by rw [HTL.out]; omega)]
         simp [ndsO])
       have HI1 := Lib.hid hI.out.1
       have HLn := Lib.hid hI.out.2.1
       clear hI
       go_wp2
       refine bodyPost_ret (res_taken _ w.heap.size _ _ _ _ _ _ (set4 HI1.out.r0 _ _ _ _) rfl rfl) rfl ?_
       have hwb := HI1.out.hB
       refine ⟨(((HI1.out.bel.setCell (Nat.le_refl _) _).setCell (Nat.le_refl _) _).setCell (Nat.le_refl _) _).setCell (Nat.le_refl _) _, Or.inl ⟨by rw [HTV.out], na, nc, ns, z, kn, b, rfl, ?_, by rw [HTV.out], by rw [HTV.out], by rw [HTV.out], hck.2, by rw [HLn.out]; exact hck.1⟩⟩
       exact (HI1.out.nr.ob (ob_set4 _ _ _ _ _ _) (by omega)).base (by omega)
 · have HE0 := Lib.hid hE
   have hE' : ((hdE ws0 : Nat) : Int) ≠ 0 := by omega
   rw [erV_no hE']
   have HTV : Hid (tkV p (tell ((no0, ws0, wv0) :: rs)) = ((⟨[], false, 0, false⟩ : Fd), 0, no0, ((hdE ws0 : Nat) : Int))) := Lib.hid (by
     show tkV p ((no0, ws0) :: tell rs) = _
     simp only [tkV, if_neg HE0.out])
   have HR0 : Hid (CB W2.drew w.heap.size fz4 29 ∧ Below w.heap.size w W2.drew) := Lib.hid ⟨HC2.out.2.1, HC2.out.2.2.1.drew⟩
   obtain ⟨ex, hex⟩ : ∃ ex : Int, ((hdE ws0 : Nat) : Int) = ex := ⟨_, rfl⟩
   rw [hex] at HTV hE' ⊢
   obtain ⟨W, hW⟩ : ∃ W, W2.drew = W := ⟨_, rfl⟩
   rw [hW] at k00' HR0
   obtain ⟨k20, k21, k22, k23⟩ := HR0.out.1.cells4
   have f20 := HR0.out.1.frozen 0
   have f21 := HR0.out.1.frozen 1
   have f22 := HR0.out.1.frozen 2
   have f23 := HR0.out.1.frozen 3
   have HE' := Lib.hid hE'
   clear hE hh hE' hex HC2
   go_wp2_with fail
   go_region
   all_goals
     go_wp2
     refine bodyPost_ret (res_taken _ w.heap.size _ _ _ _ _ _ (set4 HR0.out.1 _ _ _ _) rfl rfl) rfl ?_
     refine ⟨(((HR0.out.2.setCell (Nat.le_refl _) _).setCell (Nat.le_refl _) _).setCell (Nat.le_refl _) _).setCell (Nat.le_refl _) _, Or.inr ⟨by rw [HTV.out]; exact HE'.out, by rw [HTV.out]; rfl, by rw [HTV.out], by rw [HTV.out]⟩⟩
end
end Go.Proofs.YtofklahgpkmfmaaGreatDoor
