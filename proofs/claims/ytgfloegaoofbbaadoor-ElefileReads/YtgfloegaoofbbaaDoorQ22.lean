/- Own texts, put together: Qw Qy Eeb Eec Eed Efa Efb Efc Efd Efe Eff Efg Efh Efl Qze Efx Efi. -/
import Derived.Test.YtgfloegaoofbbaaDoorQ7
import Derived.Test.YtgfloegaoofbbaaDoorQ8
import Derived.Test.YtgfloegaoofbbaaDoorQ21
namespace Go.Proofs.YtgfloegaoofbbaaDoor
/- The first example of chapter 10: plain. -/
section
set_option maxRecDepth 100000
open Go.RowKit Go.Shelf Go.Lib
end

/- Package nodefile: what is written is read, what is read is written: plain. -/
section
set_option maxRecDepth 100000
open Go.RowKit Go.Shelf Go.Lib
def cz (x : Nat) : Nat := if fval x = 0 then 0 else x
theorem endl_fin {x : Nat} (h : endl x = false) : Fin64 x := by
 unfold endl isnan isinf at h
 unfold Fin64
 simp at h
 omega
theorem fin_endl {x : Nat} (h : Fin64 x) : endl x = false := by
 have := flagsS h
 unfold endl
 rw [this.1, this.2]; rfl
def cn (q : Nd) : Nd := ⟨cz q.x, cz q.y, q.a.map cz, q.m⟩
theorem fst0_zero {l : List Int} : fst0 l = 0 ↔ ∀ e ∈ l, e = 0 := by
 induction l with
 | nil => simp [fst0]
 | cons a r ih =>
   rw [fst0]
   by_cases h : a = 0
   · rw [if_pos h, ih]; simp [h]
   · rw [if_neg h]; simp [h]
section
variable {p : Pm} {k : Nat} {m z : Bool} {i : Nat} {q : Nd}
end
/-! ### What is read may be written. -/
theorem rf_fin {p : Pm} (hp : p.Ok) {l : Bs} (h : (p.rf l).2 = 0) : Fin64 (p.rf l).1 ∧ (p.rf l).1 < 18446744073709551616 := by
 rcases hp.rf l with ⟨_, _, h2⟩ | ⟨n, e, ok, _, ht, h2⟩
 · rw [h2] at h; cases h
 · rcases ht with ⟨_, h3, h4, _⟩ | ⟨rfl, _⟩
   · exact ⟨h3, h4⟩
   · rw [h] at h2; cases h2
theorem wrT_ge {L : List (List Bs)} (h : ∀ ws ∈ L, 1 ≤ (jn ws).length) : 2 * L.length ≤ (wrT L).length := by
 induction L with
 | nil => simp [wrT]
 | cons a r ih =>
   have := ih (fun ws hws => h ws (by simp [hws]))
   have h1 := h a (by simp)
   rw [show wrT (a :: r) = (jn a ++ [10]) ++ wrT r by simp [wrT], List.length_append, List.length_append, List.length_cons]
   simp
   omega
theorem jn_ge {ws : List Bs} (h : okL ws = true) : 1 ≤ (jn ws).length := by
 obtain ⟨h1, h2⟩ := ok_may h
 cases ws with
 | nil => exact absurd rfl h1
 | cons x r =>
   have hx := (may_gd (h2 x (by simp))).1
   have : 1 ≤ x.length := by cases x with
     | nil => exact absurd rfl hx
     | cons => simp
   cases r with
   | nil => rw [jn_one]; exact this
   | cons y r => rw [jn_cons2, List.length_append]; omega
theorem rd_len {t : Bs} (ht : t.length ≤ 20000) : (rdV t).1.length ≤ 10000 := by
 cases hb : bad 1 (lns t) with
 | some q => obtain ⟨n, e⟩ := q; rw [rdV_bad (by omega) hb]; simp
 | none =>
   rw [rdV_good (by omega) hb]
   have hg := good_fits (lns t) 1 hb
   have hw : wts (lns t) = t.length + 1 := spl_wts _ _
   have h2 := wrT_ge (L := (good 1 (lns t)).map (·.2)) (fun ws hws => by
     obtain ⟨q, hq, rfl⟩ := List.mem_map.1 hws
     exact jn_ge (hg.1 q hq).1)
   rw [List.length_map] at h2
   have := hg.2
   show (good 1 (lns t)).length ≤ 10000
   omega
end

/- Package elefile: what is written: plain. -/
section
set_option maxRecDepth 100000
open Go.RowKit Go.Shelf Go.Lib
def strayE (n : Int) : Bool := decide (n < 0) || decide (1048576 ≤ n)
def amissE (c k : Int) (r : Rw) : Bool := decide ((r.t.length : Int) ≠ c) || r.t.any strayE || decide ((r.a.length : Int) ≠ k) || r.a.any endl
end

/- Package elefile: what is written is read: plain. -/
section
set_option maxRecDepth 100000
open Go.RowKit Go.Shelf Go.Lib
theorem amissE_no {c k : Int} {r : Rw} : amissE c k r = false ↔ (r.t.length : Int) = c ∧ (∀ n ∈ r.t, strayE n = false) ∧ (r.a.length : Int) = k ∧ ∀ x ∈ r.a, endl x = false := by
 unfold amissE
 simp only [Bool.or_eq_false_iff, decide_eq_false_iff_not, List.any_eq_false]
 constructor
 · rintro ⟨⟨⟨h1, h2⟩, h3⟩, h4⟩
   exact ⟨by simpa using h1, fun n hn => by simpa using h2 n hn, by simpa using h3, fun x hx => by simpa using h4 x hx⟩
 · rintro ⟨h1, h2, h3, h4⟩
   exact ⟨⟨⟨by simpa using h1, fun n hn => by simpa using h2 n hn⟩, by simpa using h3⟩, fun x hx => by simpa using h4 x hx⟩
section
variable {p : Pm} {F c k i : Nat} {r : Rw}
end
end

/- Package elefile: what is written is read: plain. -/
section
set_option maxRecDepth 100000
open Go.RowKit Go.Shelf Go.Lib
end

/- Package elefile: words are handed out one by one. -/
section
set_option maxRecDepth 100000
open Go.RowKit Go.Shelf Go.Lib
attribute [local go_sem] run_store_str
theorem own_obE {w w' : World} {B base e size n : Nat} {v : Value} {xs : List Value} (h : w.ownsRow base e size v n xs) (ho : Ob B w w') (hB : B < base) : w'.ownsRow base e size v n xs := by
 refine ⟨h.1, ?_⟩
 rcases h.2 with h1 | ⟨g, cap, cur, h1, h2, h3, h4⟩
 · exact Or.inl h1
 · refine Or.inr ⟨g, cap, cur, h1, h2, ?_, h4⟩
   rw [ho.block g (Array.getElem?_eq_some_iff.1 h3).1 (by omega)]; exact h3
theorem own_sliceE {w : World} {base e size n : Nat} {v : Value} {xs : List Value} (h : w.ownsRow base e size v n xs) : ∃ a c, v = .slice a n c := by
 rcases h.2 with ⟨rfl, rfl⟩ | ⟨g, cap, cur, rfl, _⟩
 · exact ⟨_, _, rfl⟩
 · exact ⟨_, _, rfl⟩
theorem own_cellE {w : World} {base e n : Nat} {v : Value} {xs : List Value} (h : w.ownsRow base e 1 v n xs) (hn : 0 < n) : ∃ g c, v = .slice (some ⟨g, 0, none⟩) n c ∧ base ≤ g ∧ g < w.heap.size ∧ n ≤ c ∧ c ≤ 9223372036854775807 ∧ (∀ i u, xs[i]? = some u → w.cell? ⟨g, i, none⟩ = some u) ∧ ∀ i, w.frozen? ⟨g, i, none⟩ = false := by
 have h0 := h
 rcases h.2 with ⟨rfl, e⟩ | ⟨g, cap, cur, rfl, h2, h3, h4, h5, _⟩
 · omega
 · refine ⟨g, cap, rfl, h2, (h0.lt g rfl).2, h4, by unfold maxLen at h5; omega, fun i u hu => ?_, fun i => by simp [World.frozen?, h3]⟩
   simpa using own_cellL h0 hu
theorem Ob.grew {B : Nat} {w W W' : World} {e size n : Nat} {v : Value} {xs : List Value} {tmp : Obj} (h : Ob B w W) (ho : W.ownsRow w.heap.size e size v n xs) (hg : (W.alloc tmp).grownBy W' v.ownBlock) : Ob B w W' := by
 have hs := h.size
 refine ⟨hg.os.trans h.os, hg.tape.trans h.tape, hg.output.trans h.output, ?_, fun k hk hn => ?_⟩
 · have := hg.size; simp at this; omega
 · rw [hg.block k (by simp; omega) (fun e => by have := (ho.lt k e.symm).1; omega), Below.heap_alloc _ _ _ (by omega)]
   exact h.block k hk hn
theorem CB.grewE {W W' : World} {b t M : Nat} {cs : Array Value} {e size n : Nat} {v : Value} {xs : List Value} {tmp : Obj} (h : CB W b cs t) (ho : W.ownsRow M e size v n xs) (hb : b < M) (hg : (W.alloc tmp).grownBy W' v.ownBlock) : CB W' b cs t := by
 have hl := h.lt
 unfold CB at h ⊢
 rw [hg.block b (by simp; omega) (fun e => by have := (ho.lt b e.symm).1; omega), Below.heap_alloc _ _ _ (by omega)]
 exact h
def Tr (N : Nat) (W : World) (B : Nat) (ws : List Bs) : Prop := ∃ l, CB W B #[l] 44 ∧ Sl W l ws ∧ Bk N l ∧ N ≤ B
theorem Tr.lt {N : Nat} {W : World} {B : Nat} {ws : List Bs} (h : Tr N W B ws) : B < W.heap.size := by obtain ⟨l, h1, _⟩ := h; exact h1.lt
theorem Tr.later {N : Nat} {W W' : World} {B : Nat} {ws : List Bs} (h : Tr N W B ws) (hb : Below W.heap.size W W') : Tr N W' B ws := by
 obtain ⟨l, h1, h2, h3, h4⟩ := h
 exact ⟨l, h1.later hb, h2.later hb, h3, h4⟩
theorem Tr.grew {N M : Nat} {W W' : World} {B : Nat} {ws : List Bs} {e size n : Nat} {v : Value} {xs : List Value} {tmp : Obj} (h : Tr N W B ws) (ho : W.ownsRow M e size v n xs) (hb : B < M) (hg : (W.alloc tmp).grownBy W' v.ownBlock) : Tr N W' B ws := by
 have hl := h.lt
 obtain ⟨l, h1, h2, h3, h4⟩ := h
 have hB : Below N W W' := ⟨hg.os, hg.tape, hg.output, by have := hg.size; simp at this; omega, fun k hk => by
   rw [hg.block k (by simp; omega) (fun e => by have := (ho.lt k e.symm).1; omega), Below.heap_alloc _ _ _ (by omega)]⟩
 exact ⟨l, h1.grewE ho hb hg, h2.below h3 hB, h3, h4⟩
theorem next_end (B : Nat) (l : Value) (w : World) (h : CB w B #[l] 44) (hS : Sl w l []) :
   Calls Tryd.prog 43 #[.pointer (some ⟨B, 0, none⟩)] w fun e w' => e = .returned (.tuple #[.string ⟨#[]⟩, .bool false]) ∧ w' = w := by
 obtain ⟨a, c, rfl, _⟩ := hS.form
 have c0 : w.cell? ⟨B, 0, none⟩ = some (.slice a 0 c) := h.cell 0 (by simp)
 clear h hS
 go_enter Tryd.func43, Tryd.ntmps43
 go_wp2
 go_ret2
 exact ⟨rfl, rfl⟩
set_option maxHeartbeats 1000000 in
theorem next_take (B : Nat) (l : Value) (x : Bs) (r : List Bs) (w : World) (h : CB w B #[l] 44) (hS : Sl w l (x :: r)) :
   ∃ l', Sl (w.setCell ⟨B, 0, none⟩ l') l' r ∧ l'.ownBlock = l.ownBlock ∧ Calls Tryd.prog 43 #[.pointer (some ⟨B, 0, none⟩)] w fun e w' => e = .returned (.tuple #[sv x, .bool true]) ∧ w' = w.setCell ⟨B, 0, none⟩ l' := by
 obtain ⟨a, c, rfl, h2, h3, h4⟩ := hS.form
 obtain ⟨g, off, rfl, hg, hc⟩ := h4.resolve_left (by simp)
 simp only [List.length_cons] at h2
 rw [List.length_cons] at hS
 have hT := hS.tail
 have c0 : w.cell? ⟨B, 0, none⟩ = some (.slice (some ⟨g, off, none⟩) (r.length + 1) c) := h.cell 0 (by simp)
 have f0 : w.frozen? ⟨B, 0, none⟩ = false := h.frozen 0
 have cx : w.cell? ⟨g, off, none⟩ = some (sv x) := hc 0 x rfl
 obtain ⟨ad, had⟩ : ∃ ad : Addr, (if c = 1 then (⟨g, off, none⟩ : Addr) else ⟨g, off + 1, none⟩) = ad := ⟨_, rfl⟩
 rw [had] at hT
 refine ⟨.slice (some ad) r.length (c - 1), hT.set c0 (by simp) _, by rw [← had]; split <;> rfl, ?_⟩
 have l1 : (r.length : Int) + 1 ≤ c := by omega
 have l2 : (c : Int) ≤ 9223372036854775807 := by omega
 obtain ⟨n, hn⟩ : ∃ n, r.length = n := ⟨_, rfl⟩
 rw [hn] at c0 l1 h2 ⊢
 have hne : ¬ ((n : Int) + 1 = 0) := by omega
 have hne2 : ((n : Int) + 1 == 0) = false := by simpa using hne
 clear hS hT h hc h4 hn
 go_enter Tryd.func43, Tryd.ntmps43
 go_wp2
 all_goals
   go_ret2
   refine ⟨rfl, ?_⟩
   rw [← had]
   simp_all
theorem nextE_any {N : Nat} (B : Nat) (ws : List Bs) (w : World) (h : Tr N w B ws) :
   Calls Tryd.prog 43 #[.pointer (some ⟨B, 0, none⟩)] w fun e w' => e = .returned (.tuple #[sv (ws.headD []), .bool (!ws.isEmpty)]) ∧ Tr N w' B ws.tail ∧ Ob B w w' := by
 obtain ⟨l, h1, h2, h3, h4⟩ := h
 cases ws with
 | nil =>
   refine (next_end B l w h1 h2).mono ?_
   rintro e w' ⟨rfl, rfl⟩
   exact ⟨rfl, ⟨l, h1, h2, h3, h4⟩, Ob.refl _ _⟩
 | cons x r =>
   obtain ⟨l', g1, g2, g3⟩ := next_take B l x r w h1 h2
   refine g3.mono ?_
   rintro e w' ⟨rfl, rfl⟩
   refine ⟨rfl, ⟨l', by have := h1.set 0 l'; simpa using this, g1, fun b hb => h3 b (by rw [← g2]; exact hb), h4⟩, Ob.set _ _ _ _⟩
theorem oneByOne_any (v : Value) (ws : List Bs) (w : World) (hS : Sl w v ws) (hK : Bk w.heap.size v) :
   Calls Tryd.prog 30 #[v] w fun e w' => e = .returned (.func (.func 43) #[] #[.pointer (some ⟨w.heap.size, 0, none⟩)]) ∧ Tr w.heap.size w' w.heap.size ws ∧ Below w.heap.size w w' ∧ w'.heap.size = w.heap.size + 1 := by
 obtain ⟨a, c, rfl, _⟩ := hS.form
 have HT : Hid (Tr w.heap.size (w.alloc (.cells #[.slice a ws.length c] 44)) w.heap.size ws) := Lib.hid ⟨_, CB.new w _ _, hS.later ((Below.refl _ w).alloc (Nat.le_refl _) _), hK, Nat.le_refl _⟩
 clear hS hK
 go_enter Tryd.func30, Tryd.ntmps30
 go_wp2
 go_ret
 exact ⟨rfl, HT.out, (Below.refl _ w).alloc (Nat.le_refl _) _, by simp⟩
end

/- Package elefile: wholes. -/
section
set_option maxRecDepth 100000
open Go.RowKit Go.Shelf Go.Lib
attribute [local go_sem] run_store_str
def isV (ns : List Int) : List Value := ns.map (.int .i64 ·)
theorem isV_app (ns : List Int) (n : Int) : isV (ns ++ [n]) = isV ns ++ [.int .i64 n] := by simp [isV]
theorem makeI_ex (n : Nat) (hn : n ≤ 1000) : ∃ cs : Array Value, cs.size = n ∧ ∀ W : World, (Instr.makeSlice 35 (.int .i64 0) (.int .i64 (n : Int))).run Tryd.prog W = .ok (.slice (some ⟨W.heap.size, 0, none⟩) 0 n) (W.alloc (.cells cs 3)) := by
 obtain ⟨i0, hi0, hz0, hz1, hz2⟩ := info_parts (show (Tryd.prog.info? 3).map (fun i => (i.zero, i.size, i.bytes)) = some (some (.int .i64 0), 1, 8) by kernel_rfl)
 refine ⟨madeCells (.int .i64 0 : Value).cells n, size_madeCells _ _, fun W => ?_⟩
 have h := run_make (P := Tryd.prog) W 35 3 i0 _ Tryd.underlying35 hi0 hz0 .i64 .i64 0 (n : Int) (by omega) (by omega) (by rw [hz2]; omega) (by omega)
 rw [hz1, Nat.mul_one] at h
 exact h
theorem drop_headE {ws : List Bs} {j : Nat} {x : Bs} {r : List Bs} (h : ws.drop j = x :: r) : j < ws.length ∧ ws.take (j + 1) = ws.take j ++ [x] ∧ ws.drop (j + 1) = r ∧ x ∈ ws := by
 have hl : j < ws.length := by
   rcases Nat.lt_or_ge j ws.length with h1 | h1
   · exact h1
   · rw [List.drop_eq_nil_of_le h1] at h; cases h
 have hx : ws[j] = x := by
   have := congrArg (·[0]?) h
   simp only [List.getElem?_drop, Nat.add_zero, List.getElem?_eq_getElem hl] at this
   simpa using this
 refine ⟨hl, by rw [List.take_succ_eq_append_getElem hl, hx], ?_, by rw [← hx]; exact List.getElem_mem hl⟩
 rw [← List.drop_drop, h]; rfl
def WhR (N : Nat) (w w' : World) (B : Nat) (ws : List Bs) (count : Nat) (e : Ending) : Prop :=
 ∃ v ok, e = .returned (.tuple #[v, .bool ok]) ∧ Ob B w w' ∧
   ((ok = true ∧ ∃ ns, count ≤ ws.length ∧ intsE (ws.take count) = some ns ∧ w'.ownsRow w.heap.size 3 1 v count (isV ns) ∧ Tr N w' B (ws.drop count)) ∨
    (ok = false ∧ v = .slice none 0 0 ∧ (ws.length < count ∨ intsE (ws.take count) = none) ∧ ∃ ws', Tr N w' B ws' ∧ ∀ x ∈ ws', x ∈ ws))
set_option maxHeartbeats 8000000 in
theorem wholes_any {N : Nat} (B : Nat) (ws : List Bs) (count : Nat) (w : World) (h : Tr N w B ws) (hl : ∀ x ∈ ws, x.length ≤ 900000) (hc : count ≤ 1000) :
   Calls Tryd.prog 31 #[.func (.func 43) #[] #[.pointer (some ⟨B, 0, none⟩)], .int .i64 (count : Nat)] w fun e w' => WhR N w w' B ws count e := by
 obtain ⟨cs, hcs, hmk⟩ := makeI_ex count hc
 obtain ⟨i0, hi0, hz0, hz1, hz2⟩ := info_parts (show (Tryd.prog.info? 3).map (fun i => (i.zero, i.size, i.bytes)) = some (some (.int .i64 0), 1, 8) by kernel_rfl)
 have HL := Lib.hid hl
 have hBl := h.lt
 obtain ⟨W1, hW1⟩ : ∃ W1, w.alloc (.cells cs 3) = W1 := ⟨_, rfl⟩
 have b1 : Below w.heap.size w W1 := by rw [← hW1]; exact (Below.refl _ w).alloc (Nat.le_refl _) _
 have H1 : Hid (Tr N W1 B ws ∧ W1.ownsRow w.heap.size 3 1 (.slice (some ⟨w.heap.size, 0, none⟩) 0 count) 0 [] ∧ Ob B w W1) := Lib.hid ⟨h.later b1, by rw [← hW1]; exact own_room hcs (by omega), Ob.of_below b1⟩
 have hc' : (count : Int) ≤ 1000 := by omega
 clear h hl b1 hcs
 go_enter Tryd.func31, Tryd.ntmps31
 go_wp2_with fail
 try rw [hW1]
 clear hW1 hmk
 go_loopw [6, 14] (fun s6 s14 wr => ∃ (j : Nat) (nv : Value) (ns : List Int), s14 = .int .i64 (j : Nat) ∧ s6 = nv ∧ j ≤ count ∧ Hid (Tr N wr B (ws.drop j) ∧ j ≤ ws.length ∧ ns.length = j ∧ intsE (ws.take j) = some ns ∧ wr.ownsRow w.heap.size 3 1 nv j (isV ns) ∧ Ob B w wr)) (fun _ s14 _ => count - (RowKit.intOf s14).toNat)
 case atStart => exact ⟨0, _, [], rfl, rfl, by omega, H1.out.1, by omega, rfl, rfl, H1.out.2.1, H1.out.2.2⟩
 case round =>
   obtain ⟨j, nv, ns, rfl, rfl, hj, hI⟩ := hrel
   by_cases hlt : j < count
   · have hlt' : (j : Int) < (count : Int) := by omega
     have HNx := Lib.hid (nextE_any B (ws.drop j) wr hI.out.1)
     obtain ⟨d, hd⟩ : ∃ d, Hid (ws.drop j = d) := ⟨_, Lib.hid rfl⟩
     rw [hd.out] at HNx
     have HI0 := Lib.hid hI.out.2
     clear hI
     rcases d with _ | ⟨x, r⟩
     · have HIn := Lib.hid (fun W => int_sv [] W (by simp))
       have HBad : Hid (ws.length < count ∨ intsE (ws.take count) = none) := Lib.hid (Or.inl (by
         have : ws.length ≤ j := by
           have := congrArg List.length hd.out
           rw [List.length_drop] at this; simp at this; omega
         omega))
       obtain ⟨o, ho⟩ : ∃ o, Hid (rdInt [] = o) := ⟨_, Lib.hid rfl⟩
       rw [ho.out] at HIn
       cases o
       all_goals
         unfold intR at HIn
         try dsimp only at HIn
         try dsimp only [List.headD, List.isEmpty] at HNx
         go_wp2_with fail
         refine HNx.out.mono ?_
         rintro e W2 ⟨rfl, hT2, ho2⟩
         have H2 := Lib.hid (And.intro hT2 (HI0.out.2.2.2.2.trans ho2))
         clear hT2 ho2 HNx
         go_wp2_with fail
         refine (HIn.out _).mono ?_
         rintro e W3 ⟨rfl, rfl⟩
         go_wp2
         go_ret2
         exact ⟨_, false, rfl, H2.out.2, Or.inr ⟨rfl, rfl, HBad.out, _, H2.out.1, fun x hx => by simp at hx⟩⟩
     · have HD := Lib.hid (drop_headE hd.out)
       have HIn := Lib.hid (fun W => int_sv x W (by have := HL.out x HD.out.2.2.2; omega))
       obtain ⟨o, ho⟩ : ∃ o, Hid (rdInt x = o) := ⟨_, Lib.hid rfl⟩
       rw [ho.out] at HIn
       try dsimp only [List.headD, List.isEmpty, List.tail] at HNx
       rcases o with _ | n
       · have HBad : Hid (ws.length < count ∨ intsE (ws.take count) = none) := Lib.hid (Or.inr (by
           have h1 : intsE (ws.take (j + 1)) = none := by rw [HD.out.2.1, intsE_snoc, HI0.out.2.2.1, ho.out]
           rw [← List.take_append_drop (j + 1) (ws.take count), List.take_take, Nat.min_eq_left (by omega)]
           exact intsE_app_none _ h1))
         unfold intR at HIn
         try dsimp only at HIn
         go_wp2_with fail
         refine HNx.out.mono ?_
         rintro e W2 ⟨rfl, hT2, ho2⟩
         have H2 := Lib.hid (And.intro hT2 (HI0.out.2.2.2.2.trans ho2))
         clear hT2 ho2 HNx
         go_wp2_with fail
         refine (HIn.out _).mono ?_
         rintro e W3 ⟨rfl, rfl⟩
         go_wp2
         go_ret2
         refine ⟨_, false, rfl, H2.out.2, Or.inr ⟨rfl, rfl, HBad.out, _, H2.out.1, fun y hy => ?_⟩⟩
         have : y ∈ ws.drop j := by rw [hd.out]; exact List.mem_cons_of_mem _ hy
         exact List.mem_of_mem_drop this
       · unfold intR at HIn
         try dsimp only at HIn
         go_wp2_with fail
         refine HNx.out.mono ?_
         rintro e W2 ⟨rfl, hT2, ho2⟩
         have H2 := Lib.hid (And.intro hT2 (And.intro (own_obE HI0.out.2.2.2.1 ho2 hBl) (HI0.out.2.2.2.2.trans ho2)))
         clear hT2 ho2 HNx
         go_wp2_with fail
         refine (HIn.out _).mono ?_
         rintro e W3 ⟨rfl, rfl⟩
         have hWs : Hid (w.heap.size ≤ W3.heap.size) := Lib.hid H2.out.2.2.size
         go_wp2_with (at_builtin; refine wpList_append_own _ rfl _ _ 35 rfl w.heap.size 3 i0 (.int .i64 0) 1 8 Tryd.underlying35 hi0 hz0 hz1 hz2 rfl (by decide) u6 j (isV ns) rfl (World.ownsRow.alloc H2.out.2.1 _) ⟨W3.heap.size, 0, none⟩ 1 1 [.int .i64 n] rfl rfl (World.news_of_block (cs := #[.int .i64 n]) (t := 3) (fr := (0, 0)) (heap_alloc_new W3 _)) (by simp [Value.oneCell']) (by unfold maxLen; omega) (by omega) (by have := hWs.out; simp; omega) ?_; intro v' W4 hown hgrow _; have H4 := Lib.hid (And.intro (H2.out.1.grew H2.out.2.1 hBl hgrow) (And.intro hown (H2.out.2.2.grew H2.out.2.1 hgrow))); clear hown hgrow)
         refine ⟨⟨j + 1, _, ns ++ [n], by go_num, rfl, by omega, ?_, HD.out.1, by rw [List.length_append, HI0.out.2.1]; rfl, ?_, ?_, H4.out.2.2⟩, by simp [RowKit.intOf]; omega⟩
         · rw [HD.out.2.2.1]; exact H4.out.1
         · rw [HD.out.2.1, intsE_snoc, HI0.out.2.2.1, ho.out]
         · rw [isV_app]; exact H4.out.2.1
   · obtain rfl : j = count := by omega
     have HI0 := Lib.hid hI.out
     obtain ⟨na, nc, rfl⟩ := own_sliceE hI.out.2.2.2.2.1
     clear hI
     go_wp2
     go_ret2
     exact ⟨_, true, rfl, HI0.out.2.2.2.2.2, Or.inl ⟨rfl, ns, HI0.out.2.1, HI0.out.2.2.2.1, HI0.out.2.2.2.2.1, HI0.out.1⟩⟩
end

/- Package elefile: texts. -/
section
set_option maxRecDepth 100000
open Go.RowKit Go.Shelf Go.Lib
attribute [local go_sem] run_store_str
def TxR (w w' : World) (B : Nat) (ws : List Bs) (count : Nat) (e : Ending) : Prop :=
 ∃ v, e = .returned (.tuple #[v, .bool (decide (ws.length = count))]) ∧ Ob B w w' ∧ (ws.length = count → w'.ownsRow w.heap.size 9 1 v count (svs ws))
set_option maxHeartbeats 8000000 in
theorem texts_anyE {N : Nat} (B : Nat) (ws : List Bs) (count : Nat) (w : World) (h : Tr N w B ws) (hc : count ≤ 1000) :
   Calls Tryd.prog 32 #[.func (.func 43) #[] #[.pointer (some ⟨B, 0, none⟩)], .int .i64 (count : Nat)] w fun e w' => TxR w w' B ws count e := by
 obtain ⟨cs, hcs, hmk⟩ := makeS_ex count hc
 obtain ⟨i0, hi0, hz0, hz1, hz2⟩ := info_parts (show (Tryd.prog.info? 9).map (fun i => (i.zero, i.size, i.bytes)) = some (some (.string ⟨#[]⟩), 1, 16) by kernel_rfl)
 have hBl := h.lt
 obtain ⟨W1, hW1⟩ : ∃ W1, w.alloc (.cells cs 9) = W1 := ⟨_, rfl⟩
 have b1 : Below w.heap.size w W1 := by rw [← hW1]; exact (Below.refl _ w).alloc (Nat.le_refl _) _
 have H1 : Hid (Tr N W1 B ws ∧ W1.ownsRow w.heap.size 9 1 (.slice (some ⟨w.heap.size, 0, none⟩) 0 count) 0 [] ∧ Ob B w W1) := Lib.hid ⟨h.later b1, by rw [← hW1]; exact own_room hcs (by omega), Ob.of_below b1⟩
 have hc' : (count : Int) ≤ 1000 := by omega
 clear h b1 hcs
 go_enter Tryd.func32, Tryd.ntmps32
 go_wp2_with fail
 try rw [hW1]
 clear hW1 hmk
 go_loopw [6, 14] (fun s6 s14 wr => ∃ (j : Nat) (nv : Value), s14 = .int .i64 (j : Nat) ∧ s6 = nv ∧ j ≤ count ∧ Hid (Tr N wr B (ws.drop j) ∧ j ≤ ws.length ∧ wr.ownsRow w.heap.size 9 1 nv j (svs (ws.take j)) ∧ Ob B w wr)) (fun _ s14 _ => count - (RowKit.intOf s14).toNat)
 case atStart => exact ⟨0, _, rfl, rfl, by omega, H1.out.1, by omega, H1.out.2.1, H1.out.2.2⟩
 case round =>
   obtain ⟨j, nv, rfl, rfl, hj, hI⟩ := hrel
   have HNx := Lib.hid (nextE_any B (ws.drop j) wr hI.out.1)
   obtain ⟨d, hd⟩ : ∃ d, Hid (ws.drop j = d) := ⟨_, Lib.hid rfl⟩
   rw [hd.out] at HNx
   by_cases hlt : j < count
   · have hlt' : (j : Int) < (count : Int) := by omega
     have HI0 := Lib.hid hI.out.2
     clear hI
     rcases d with _ | ⟨x, r⟩
     · have HBad : Hid (decide (ws.length = count) = false ∧ ws.length ≠ count) := Lib.hid (by
         have : ws.length ≤ j := by
           have := congrArg List.length hd.out
           rw [List.length_drop] at this; simp at this; omega
         have h2 : ws.length ≠ count := by omega
         exact ⟨by simpa using h2, h2⟩)
       try dsimp only [List.headD, List.isEmpty] at HNx
       go_wp2_with fail
       refine HNx.out.mono ?_
       rintro e W2 ⟨rfl, hT2, ho2⟩
       have H2 := Lib.hid (And.intro hT2 (HI0.out.2.2.trans ho2))
       clear hT2 ho2 HNx
       go_wp2
       go_ret2
       exact ⟨_, by rw [HBad.out.1]; rfl, H2.out.2, fun h => absurd h HBad.out.2⟩
     · have HD := Lib.hid (drop_headE hd.out)
       try dsimp only [List.headD, List.isEmpty, List.tail] at HNx
       go_wp2_with fail
       refine HNx.out.mono ?_
       rintro e W2 ⟨rfl, hT2, ho2⟩
       have H2 := Lib.hid (And.intro hT2 (And.intro (own_obE HI0.out.2.1 ho2 hBl) (HI0.out.2.2.trans ho2)))
       clear hT2 ho2 HNx
       have hWs : Hid (w.heap.size ≤ W2.heap.size) := Lib.hid H2.out.2.2.size
       go_wp2_with (at_builtin; refine wpList_append_own _ rfl _ _ 44 rfl w.heap.size 9 i0 (.string ⟨#[]⟩) 1 16 Tryd.underlying44 hi0 hz0 hz1 hz2 rfl (by decide) u6 j (svs (ws.take j)) rfl (World.ownsRow.alloc H2.out.2.1 _) ⟨W2.heap.size, 0, none⟩ 1 1 [sv x] rfl rfl (cell_one_new _ _ _) (by simp [Value.oneCell']) (by unfold maxLen; omega) (by omega) (by have := hWs.out; simp; omega) ?_; intro v' W4 hown hgrow _; have H4 := Lib.hid (And.intro (H2.out.1.grew H2.out.2.1 hBl hgrow) (And.intro hown (H2.out.2.2.grew H2.out.2.1 hgrow))); clear hown hgrow)
       refine ⟨⟨j + 1, _, by go_num, rfl, by omega, ?_, HD.out.1, ?_, H4.out.2.2⟩, by simp [RowKit.intOf]; omega⟩
       · rw [HD.out.2.2.1]; exact H4.out.1
       · rw [HD.out.2.1]
         have := H4.out.2.1
         simpa [svs] using this
   · obtain rfl : j = count := by omega
     have HI0 := Lib.hid hI.out.2
     obtain ⟨na, nc, rfl⟩ := own_sliceE hI.out.2.2.1
     clear hI
     rcases d with _ | ⟨x, r⟩
     · have hln : Hid (ws.length = j) := Lib.hid (by
         have := congrArg List.length hd.out
         rw [List.length_drop] at this; simp at this
         have := HI0.out.1; omega)
       try dsimp only [List.headD, List.isEmpty] at HNx
       go_wp2_with fail
       refine HNx.out.mono ?_
       rintro e W2 ⟨rfl, hT2, ho2⟩
       have H2 := Lib.hid (And.intro (own_obE HI0.out.2.1 ho2 hBl) (HI0.out.2.2.trans ho2))
       clear hT2 ho2 HNx
       go_wp2
       go_ret2
       refine ⟨_, by rw [decide_eq_true hln.out]; rfl, H2.out.2, fun _ => ?_⟩
       have := H2.out.1
       rwa [List.take_of_length_le (by rw [hln.out]; omega)] at this
     · have hln : Hid (ws.length ≠ j) := Lib.hid (by have := (drop_headE hd.out).1; omega)
       try dsimp only [List.headD, List.isEmpty, List.tail] at HNx
       go_wp2_with fail
       refine HNx.out.mono ?_
       rintro e W2 ⟨rfl, hT2, ho2⟩
       have H2 := Lib.hid (HI0.out.2.2.trans ho2)
       clear hT2 ho2 HNx
       go_wp2
       go_ret2
       exact ⟨_, by rw [decide_eq_false hln.out]; rfl, H2.out, fun h => absurd h hln.out⟩
end

/- Package elefile: head. -/
section
set_option maxRecDepth 100000
open Go.RowKit Go.Shelf Go.Lib
abbrev fe4 : Array Value := #[.int .i64 0, .int .i64 0, .int .i64 0, .slice none 0 0]
theorem CB.cells4E {W : World} {B t : Nat} {a b c d : Value} (h : CB W B #[a, b, c, d] t) : W.cell? ⟨B, 0, none⟩ = some a ∧ W.cell? ⟨B, 1, none⟩ = some b ∧ W.cell? ⟨B, 2, none⟩ = some c ∧ W.cell? ⟨B, 3, none⟩ = some d := ⟨h.cell 0 (by simp), h.cell 1 (by simp), h.cell 2 (by simp), h.cell 3 (by simp)⟩
theorem set4E {W : World} {B t : Nat} {a b c d : Value} (h : CB W B #[a, b, c, d] t) (a' b' c' d' : Value) : CB ((((W.setCell ⟨B, 0, none⟩ a').setCell ⟨B, 1, none⟩ b').setCell ⟨B, 2, none⟩ c').setCell ⟨B, 3, none⟩ d') B #[a', b', c', d'] t := by
 have := (((h.set 0 a').set 1 b').set 2 c').set 3 d'
 simpa using this
theorem heP_no {ws : List Bs} (h : ws.length ≠ 3 ∨ intsE (ws.take 3) = none) : heP ws = none := by
 unfold heP
 split
 · rename_i a b c
   split
   · rename_i n t k h1 h2 h3
     rcases h with h | h
     · simp at h
     · simp [intsE, h1, h2, h3] at h
   · rfl
 · rfl
theorem heP_is {ws : List Bs} {n t k : Int} (hl : ws.length = 3) (h : intsE (ws.take 3) = some [n, t, k]) : heP ws = if 0 ≤ n ∧ 0 ≤ k ∧ (t = 3 ∨ t = 6) then some (n.toNat, t.toNat, k.toNat) else none := by
 rcases ws with _ | ⟨a, _ | ⟨b, _ | ⟨c, _ | ⟨d, r⟩⟩⟩⟩ <;> simp at hl
 simp only [List.take, intsE] at h
 cases h1 : rdInt a with
 | none => rw [h1] at h; cases h
 | some n' =>
   cases h2 : rdInt b with
   | none => rw [h1, h2] at h; cases h
   | some t' =>
     cases h3 : rdInt c with
     | none => rw [h1, h2, h3] at h; cases h
     | some k' =>
       rw [h1, h2, h3] at h
       simp at h
       obtain ⟨rfl, rfl, rfl⟩ := h
       unfold heP
       simp only [h1, h2, h3]
theorem ints3 {ws : List Bs} {ns : List Int} (hl : 3 ≤ ws.length) (h : intsE (ws.take 3) = some ns) : ∃ n t k, ns = [n, t, k] := by
 have := intsE_len h
 rw [List.length_take, Nat.min_eq_left hl] at this
 rcases ns with _ | ⟨a, _ | ⟨b, _ | ⟨c, _ | ⟨d, r⟩⟩⟩⟩ <;> simp at this
 exact ⟨a, b, c, rfl⟩
def HeR (w w' : World) (ws : List Bs) (e : Ending) : Prop := Below w.heap.size w w' ∧
 ∃ (n c k : Nat), e = .returned (.tuple #[.agg #[.int .i64 0, .int .i64 (c : Nat), .int .i64 (k : Nat), .slice none 0 0], .int .i64 (n : Nat), .int .i64 (heE ws : Nat)]) ∧ (heE ws = 0 → heP ws = some (n, c, k) ∧ n ≤ 1048576 ∧ k ≤ 16 ∧ (c = 3 ∨ c = 6)) ∧ (heE ws ≠ 0 → n = 0 ∧ c = 0 ∧ k = 0)
theorem HeR.bad {w W : World} {ws : List Bs} {e : Nat} (hb : Below w.heap.size w W) (he : heE ws = e) (h0 : e ≠ 0) : HeR w W ws (.returned (.tuple #[.agg fe4, .int .i64 0, .int .i64 (e : Nat)])) :=
 ⟨hb, 0, 0, 0, by rw [he]; rfl, fun h => absurd (he ▸ h) h0, fun _ => ⟨rfl, rfl, rfl⟩⟩
theorem res_headE (W : World) (B : Nat) (a b c d : Value) (n1 n2 : Int) (tmps : Array Value) (h : CB W B #[a, b, c, d] 30)
   (t2 : tmps[2]? = some (.pointer (some ⟨B, 0, none⟩))) (t3 : tmps[3]? = some (.int .i64 n1)) (t4 : tmps[4]? = some (.int .i64 n2)) : (results Tryd.f12 tmps).run Tryd.prog W = .ok (.tuple #[.agg #[a, b, c, d], .int .i64 n1, .int .i64 n2]) W := by
 have c0 := h.cell 0 (by simp)
 have c1 := h.cell 1 (by simp)
 have c2 := h.cell 2 (by simp)
 have c3 := h.cell 3 (by simp)
 simp [results, Tryd.f12, go_sem, c0, c1, c2, c3, t2, t3, t4]
set_option maxHeartbeats 16000000 in
theorem headE_any (v : Value) (ws : List Bs) (w : World) (hS : Sl w v ws) (hK : Bk w.heap.size v) (hl : ∀ x ∈ ws, x.length ≤ 900000) :
   Calls Tryd.prog 12 #[v] w fun e w' => HeR w w' ws e := by
 obtain ⟨W0, hW0⟩ : ∃ W0, w.alloc (.cells fe4 30) = W0 := ⟨_, rfl⟩
 have b0 : Below w.heap.size w W0 := by rw [← hW0]; exact (Below.refl _ w).alloc (Nat.le_refl _) _
 have c0 : CB W0 w.heap.size fe4 30 := by rw [← hW0]; exact CB.new w _ _
 have z0 : W0.heap.size = w.heap.size + 1 := by rw [← hW0]; simp
 have H1 := Lib.hid (oneByOne_any v ws W0 (hS.later b0) (fun b hb => by have := hK b hb; omega))
 have H0 := Lib.hid (And.intro c0 (And.intro b0 z0))
 have HL := Lib.hid hl
 obtain ⟨a, c, rfl, _⟩ := hS.form
 clear hS hK hl b0 c0
 rw [z0] at H1
 go_enter Tryd.func12, Tryd.ntmps12
 go_wp2_with fail
 try rw [hW0]
 clear hW0
 refine H1.out.mono ?_
 rintro e W1 ⟨rfl, hT1, hb1, hz1⟩
 have hb1' : Below W0.heap.size W0 W1 := by rw [z0]; exact hb1
 have HB1 : Hid (CB W1 w.heap.size fe4 30 ∧ Below w.heap.size w W1) := Lib.hid ⟨H0.out.1.later hb1', H0.out.2.1.trans (hb1'.mono H0.out.2.1.size)⟩
 have HW := Lib.hid (wholes_any (w.heap.size + 1) ws 3 W1 hT1 HL.out (by omega))
 clear hT1 hb1 hb1' H1 z0
 go_wp2_with fail
 refine HW.out.mono ?_
 rintro e W2 ⟨nv, ok, rfl, hob2, hcase⟩
 have HB2 : Hid (CB W2 w.heap.size fe4 30 ∧ Below w.heap.size w W2 ∧ w.heap.size < W2.heap.size) := Lib.hid ⟨hob2.cb HB1.out.1 (by omega), HB1.out.2.trans (hob2.below (by omega) HB1.out.2.size), Nat.lt_of_lt_of_le HB1.out.1.lt hob2.size⟩
 have HW1s : Hid (W1.heap.size = w.heap.size + 2) := Lib.hid (by rw [hz1])
 clear HW HB1 hob2 hz1
 rcases hcase with ⟨rfl, ns, hle, hns, hown, hT2⟩ | ⟨rfl, rfl, hbad, ws', hT2, hsub⟩
 · obtain ⟨n, t, k, rfl⟩ := ints3 hle hns
   have HTx := Lib.hid (texts_anyE (w.heap.size + 1) (ws.drop 3) 0 W2 hT2 (by omega))
   obtain ⟨g, gc, hnv, hg1, hg2, hg3, hg4, hcell, _⟩ := own_cellE hown (by omega)
   subst hnv
   have HCe : Hid (∀ (W : World), (∀ b, b < W2.heap.size → b ≠ w.heap.size + 1 → W.heap[b]? = W2.heap[b]?) → W.cell? ⟨g, 0, none⟩ = some (.int .i64 n) ∧ W.cell? ⟨g, 1, none⟩ = some (.int .i64 t) ∧ W.cell? ⟨g, 2, none⟩ = some (.int .i64 k)) := Lib.hid (fun W hW => by
     have hh : W.heap[g]? = W2.heap[g]? := hW g hg2 (by have := HW1s.out; omega)
     have key : ∀ i, W.cell? ⟨g, i, none⟩ = W2.cell? ⟨g, i, none⟩ := fun i => World.cell?_of_block (w := W2) hh
     exact ⟨(key 0).trans (hcell 0 _ rfl), (key 1).trans (hcell 1 _ rfl), (key 2).trans (hcell 2 _ rfl)⟩)
   have HNs := Lib.hid hns
   have HLe := Lib.hid hle
   have hgw : g ≠ w.heap.size := by have := HW1s.out; omega
   have hgw2 : w.heap.size ≠ g := fun e => hgw e.symm
   have hg3' : (3 : Int) ≤ (gc : Int) := by omega
   clear hown hT2 hns hle hg1 hg2 hcell
   go_wp2_with fail
   refine HTx.out.mono ?_
   rintro e W3 ⟨tv, rfl, hob3, _⟩
   have HB3 : Hid (CB W3 w.heap.size fe4 30 ∧ Below w.heap.size w W3) := Lib.hid ⟨hob3.cb HB2.out.1 (by omega), HB2.out.2.1.trans (hob3.below (by omega) HB2.out.2.1.size)⟩
   have hce := HCe.out W3 hob3.block
   have hced := HCe.out W3.drew hob3.block
   clear HTx hob3 HB2 hce
   by_cases hlen : ws.length = 3
   rotate_left
   · have hd : decide ((ws.drop 3).length = 0) = false := by
       rw [decide_eq_false_iff_not, List.length_drop]; have := HLe.out; omega
     rw [hd]
     have HE := Lib.hid (show heE ws = 4 by unfold heE; rw [heP_no (Or.inl hlen)])
     obtain ⟨k0, k1, k2, k3⟩ := HB3.out.1.cells4E
     have f0 := HB3.out.1.frozen 0
     have f1 := HB3.out.1.frozen 1
     have f2 := HB3.out.1.frozen 2
     have f3 := HB3.out.1.frozen 3
     clear hd hlen hced
     go_wp2
     refine bodyPost_ret (res_headE _ w.heap.size _ _ _ _ _ _ _ (set4E HB3.out.1 _ _ _ _) rfl rfl rfl) rfl ?_
     exact HeR.bad ((((HB3.out.2.setCell (Nat.le_refl _) _).setCell (Nat.le_refl _) _).setCell (Nat.le_refl _) _).setCell (Nat.le_refl _) _) HE.out (by decide)
   · have hd : decide ((ws.drop 3).length = 0) = true := by
       rw [decide_eq_true_iff, List.length_drop]; omega
     rw [hd]
     have HP := Lib.hid (heP_is hlen HNs.out)
     obtain ⟨W4, hW4⟩ : ∃ W, W3.drew = W := ⟨_, rfl⟩
     have HB4 : Hid (CB W4 w.heap.size fe4 30 ∧ Below w.heap.size w W4) := Lib.hid ⟨by rw [← hW4]; exact HB3.out.1, by rw [← hW4]; exact HB3.out.2.drew⟩
     rw [hW4] at hced
     obtain ⟨q0, q1, q2⟩ := hced
     obtain ⟨k0, k1, k2, k3⟩ := HB4.out.1.cells4E
     have f0 := HB4.out.1.frozen 0
     have f1 := HB4.out.1.frozen 1
     have f2 := HB4.out.1.frozen 2
     have f3 := HB4.out.1.frozen 3
     clear hd hlen HB3
     go_wp2_with fail
     go_region
     have HBd : Hid (∀ (W : World) (e : Nat), Below w.heap.size w W → heE ws = e → e ≠ 0 → HeR w W ws (.returned (.tuple #[.agg fe4, .int .i64 0, .int .i64 (e : Nat)]))) := Lib.hid fun W e hb he h0 => HeR.bad hb he h0
     have HS4 := Lib.hid ((((HB4.out.2.setCell (p := ⟨w.heap.size, 0, none⟩) (Nat.le_refl _) (.int .i64 0)).setCell (p := ⟨w.heap.size, 1, none⟩) (Nat.le_refl _) (.int .i64 0)).setCell (p := ⟨w.heap.size, 2, none⟩) (Nat.le_refl _) (.int .i64 0)).setCell (p := ⟨w.heap.size, 3, none⟩) (Nat.le_refl _) (.slice none 0 0))
     by_cases hn : n < 0
     · have HE := Lib.hid (show heE ws = 4 by unfold heE; rw [HP.out, if_neg (by omega)])
       go_wp2
       refine bodyPost_ret (res_headE _ w.heap.size _ _ _ _ _ _ _ (set4E HB4.out.1 _ _ _ _) rfl rfl rfl) rfl ?_
       exact HBd.out _ 4 HS4.out HE.out (by decide)
     by_cases hk : k < 0
     · have HE := Lib.hid (show heE ws = 4 by unfold heE; rw [HP.out, if_neg (by omega)])
       go_wp2
       refine bodyPost_ret (res_headE _ w.heap.size _ _ _ _ _ _ _ (set4E HB4.out.1 _ _ _ _) rfl rfl rfl) rfl ?_
       exact HBd.out _ 4 HS4.out HE.out (by decide)
     by_cases ht : t = 3 ∨ t = 6
     rotate_left
     · have HE := Lib.hid (show heE ws = 4 by unfold heE; rw [HP.out, if_neg (by rintro ⟨_, _, h⟩; exact ht h)])
       have ht3 : ¬ t = 3 := fun h => ht (Or.inl h)
       have ht6 : ¬ t = 6 := fun h => ht (Or.inr h)
       have ht3' : (t == 3) = false := by simpa using ht3
       have ht6' : (t == 6) = false := by simpa using ht6
       have ht3n : (t != 3) = true := by simpa using ht3
       have ht6n : (t != 6) = true := by simpa using ht6
       have hn0 : 0 ≤ n := by omega
       have hk0 : 0 ≤ k := by omega
       have hn0' : decide (n < 0) = false := by simpa using hn0
       have hk0' : decide (k < 0) = false := by simpa using hk0
       clear ht
       go_wp2
       refine bodyPost_ret (res_headE _ w.heap.size _ _ _ _ _ _ _ (set4E HB4.out.1 _ _ _ _) rfl rfl rfl) rfl ?_
       exact HBd.out _ 4 HS4.out HE.out (by decide)
     obtain ⟨n', rfl⟩ : ∃ m : Nat, n = (m : Nat) := ⟨n.toNat, by omega⟩
     obtain ⟨k', rfl⟩ : ∃ m : Nat, k = (m : Nat) := ⟨k.toNat, by omega⟩
     have HP2 : Hid (heP ws = some (n', t.toNat, k')) := Lib.hid (by rw [HP.out, if_pos ⟨by omega, by omega, ht⟩]; simp)
     by_cases hbig : n' ≤ 1048576 ∧ k' ≤ 16
     rotate_left
     · have HE := Lib.hid (show heE ws = 3 by unfold heE; rw [HP2.out]; simp only [if_neg hbig])
       by_cases h1 : (1048576 : Int) < (n' : Int)
       · clear hbig
         rcases ht with rfl | rfl
         all_goals
           go_wp2
           refine bodyPost_ret (res_headE _ w.heap.size _ _ _ _ _ _ _ (set4E HB4.out.1 _ _ _ _) rfl rfl rfl) rfl ?_
           exact HBd.out _ 3 HS4.out HE.out (by decide)
       · have h2 : (16 : Int) < (k' : Int) := by omega
         clear hbig
         rcases ht with rfl | rfl
         all_goals
           go_wp2
           refine bodyPost_ret (res_headE _ w.heap.size _ _ _ _ _ _ _ (set4E HB4.out.1 _ _ _ _) rfl rfl rfl) rfl ?_
           exact HBd.out _ 3 HS4.out HE.out (by decide)
     · have HE := Lib.hid (show heE ws = 0 by unfold heE; rw [HP2.out]; simp only [if_pos hbig])
       have h1 : ¬ ((1048576 : Int) < (n' : Int)) := by omega
       have h2 : ¬ ((16 : Int) < (k' : Int)) := by omega
       have HBg := Lib.hid hbig
       clear hbig
       rcases ht with rfl | rfl
       all_goals
         go_wp2
         refine bodyPost_ret (res_headE _ w.heap.size _ _ _ _ _ _ _ (set4E HB4.out.1 _ _ _ _) rfl rfl rfl) rfl ?_
       · exact ⟨(((HB4.out.2.setCell (Nat.le_refl _) _).setCell (Nat.le_refl _) _).setCell (Nat.le_refl _) _).setCell (Nat.le_refl _) _, n', 3, k', by rw [HE.out]; rfl, fun _ => ⟨HP2.out, HBg.out.1, HBg.out.2, Or.inl rfl⟩, fun h => absurd HE.out h⟩
       · exact ⟨(((HB4.out.2.setCell (Nat.le_refl _) _).setCell (Nat.le_refl _) _).setCell (Nat.le_refl _) _).setCell (Nat.le_refl _) _, n', 6, k', by rw [HE.out]; rfl, fun _ => ⟨HP2.out, HBg.out.1, HBg.out.2, Or.inr rfl⟩, fun h => absurd HE.out h⟩
 · have HTx := Lib.hid (texts_anyE (w.heap.size + 1) ws' 0 W2 hT2 (by omega))
   have HE := Lib.hid (show heE ws = 4 by
     unfold heE
     rw [heP_no]
     rcases hbad with h | h
     · exact Or.inl (by omega)
     · exact Or.inr h)
   clear hT2 hsub hbad
   go_wp2_with fail
   refine HTx.out.mono ?_
   rintro e W3 ⟨tv, rfl, hob3, _⟩
   have HB3 : Hid (CB W3 w.heap.size fe4 30 ∧ Below w.heap.size w W3) := Lib.hid ⟨hob3.cb HB2.out.1 (by omega), HB2.out.2.1.trans (hob3.below (by omega) HB2.out.2.1.size)⟩
   obtain ⟨dd, hdd⟩ : ∃ d, decide (ws'.length = 0) = d := ⟨_, rfl⟩
   rw [hdd]
   obtain ⟨k0, k1, k2, k3⟩ := HB3.out.1.cells4E
   have f0 := HB3.out.1.frozen 0
   have f1 := HB3.out.1.frozen 1
   have f2 := HB3.out.1.frozen 2
   have f3 := HB3.out.1.frozen 3
   clear HTx hob3 HB2 hdd
   go_wp2
   refine bodyPost_ret (res_headE _ w.heap.size _ _ _ _ _ _ _ (set4E HB3.out.1 _ _ _ _) rfl rfl rfl) rfl ?_
   exact HeR.bad ((((HB3.out.2.setCell (Nat.le_refl _) _).setCell (Nat.le_refl _) _).setCell (Nat.le_refl _) _).setCell (Nat.le_refl _) _) HE.out (by decide)
end

/- Package elefile: floats. -/
section
set_option maxRecDepth 100000
open Go.RowKit Go.Shelf Go.Lib
attribute [local go_sem] run_store_float
def Co (W : World) (B t : Nat) (v : Value) (xs : List Value) : Prop :=
 ∃ a c, v = .slice a xs.length c ∧ xs.length ≤ c ∧ c ≤ 9223372036854775807 ∧ ((xs = [] ∧ c = 0) ∨ ∃ g off cur, a = some ⟨g, off, none⟩ ∧ (B ≤ g ∧ off + c ≤ cur.size) ∧ CB W g cur t ∧ ∀ (i : Nat) (u : Value), xs[i]? = some u → cur[off + i]? = some u)
theorem Co.nil (W : World) (B t : Nat) : Co W B t (.slice none 0 0) [] := ⟨none, 0, rfl, by simp, by omega, Or.inl ⟨rfl, rfl⟩⟩
theorem Co.later {W W' : World} {B t : Nat} {v : Value} {xs : List Value} (h : Co W B t v xs) (hb : Below W.heap.size W W') : Co W' B t v xs := by
 obtain ⟨a, c, h1, h2, h3, h4⟩ := h
 refine ⟨a, c, h1, h2, h3, ?_⟩
 rcases h4 with h4 | ⟨g, off, cur, h5, h6, h7, h8⟩
 · exact Or.inl h4
 · exact Or.inr ⟨g, off, cur, h5, h6, h7.later hb, h8⟩
theorem Co.base {W : World} {B B' t : Nat} {v : Value} {xs : List Value} (h : Co W B t v xs) (hb : B' ≤ B) : Co W B' t v xs := by
 obtain ⟨a, c, h1, h2, h3, h4⟩ := h
 refine ⟨a, c, h1, h2, h3, ?_⟩
 rcases h4 with h4 | ⟨g, off, cur, h5, h6, h7, h8⟩
 · exact Or.inl h4
 · exact Or.inr ⟨g, off, cur, h5, by omega, h7, h8⟩
theorem Co.ob {W W' : World} {B t C : Nat} {v : Value} {xs : List Value} (h : Co W B t v xs) (ho : Ob C W W') (hC : C < B) : Co W' B t v xs := by
 obtain ⟨a, c, h1, h2, h3, h4⟩ := h
 refine ⟨a, c, h1, h2, h3, ?_⟩
 rcases h4 with h4 | ⟨g, off, cur, h5, h6, h7, h8⟩
 · exact Or.inl h4
 · exact Or.inr ⟨g, off, cur, h5, h6, ho.cb h7 (by omega), h8⟩
theorem Co.of_own {W : World} {B t n c : Nat} {a : Option Addr} {xs : List Value} (h : W.ownsRow B t 1 (.slice a n c) n xs) : Co W B t (.slice a n n) xs ∧ n ≤ c := by
 have hl : xs.length = n := by have := h.1; omega
 rcases h.2 with ⟨h1, h2⟩ | ⟨g, cap, cur, h1, h2, h3, h4, h5, h6, h7⟩
 · cases h1
   have : xs = [] := List.length_eq_zero_iff.1 hl
   subst this
   exact ⟨Co.nil _ _ _, Nat.le_refl _⟩
 · cases h1
   refine ⟨⟨_, n, by rw [hl], by omega, by unfold maxLen at h5; omega, Or.inr ⟨g, 0, cur, rfl, ⟨h2, by omega⟩, h3, fun i u hu => ?_⟩⟩, h4⟩
   rw [← h7, List.getElem?_take] at hu
   split at hu
   · rw [Nat.zero_add]; simpa using hu
   · cases hu
theorem makeF_ex (n : Nat) (hn : n ≤ 1000) : ∃ cs : Array Value, cs.size = n ∧ ∀ W : World, (Instr.makeSlice 36 (.int .i64 0) (.int .i64 (n : Int))).run Tryd.prog W = .ok (.slice (some ⟨W.heap.size, 0, none⟩) 0 n) (W.alloc (.cells cs 39)) := by
 obtain ⟨i0, hi0, hz0, hz1, hz2⟩ := info_parts infoF
 refine ⟨madeCells (.float .f64 0 : Value).cells n, size_madeCells _ _, fun W => ?_⟩
 have h := run_make (P := Tryd.prog) W 36 39 i0 _ undF hi0 hz0 .i64 .i64 0 (n : Int) (by omega) (by omega) (by rw [hz2]; omega) (by omega)
 rw [hz1, Nat.mul_one] at h
 exact h
theorem fst0_pre {l : List Int} {r : List Int} (h : fst0 l = 0) : fst0 (l ++ r) = fst0 r := by rw [fst0_app, if_pos h]
def FlR (p : Pm) (w w' : World) (ts : List Bs) (e : Ending) : Prop := Below w.heap.size w w' ∧
 ∃ v, e = .returned (.tuple #[v, .int .i64 (fst0 (ts.map fun x => (p.rf x).2))]) ∧ (fst0 (ts.map fun x => (p.rf x).2) = 0 → Co w' w.heap.size 39 v (f64s (ts.map fun x => (p.rf x).1))) ∧ (fst0 (ts.map fun x => (p.rf x).2) ≠ 0 → v = .slice none 0 0)
set_option maxHeartbeats 8000000 in
theorem floatsE_any {p : Pm} (hp : p.Ok) (v : Value) (ts : List Bs) (w : World) (hS : Sl w v ts) (hl : ∀ x ∈ ts, x.length ≤ 900000) (hn : ts.length ≤ 1000) (hT : Tab w) :
   Calls Tryd.prog 45 #[v] w fun e w' => FlR p w w' ts e := by
 obtain ⟨n, hnn⟩ : ∃ n, Hid (ts.length = n) := ⟨_, Lib.hid rfl⟩
 rw [hnn.out] at hn
 obtain ⟨cs, hcs, hmk⟩ := makeF_ex n hn
 obtain ⟨i0, hi0, hz0, hz1, hz2⟩ := info_parts infoF
 have HP := Lib.hid hp
 have HL := Lib.hid hl
 obtain ⟨W1, hW1⟩ : ∃ W1, w.alloc (.cells cs 39) = W1 := ⟨_, rfl⟩
 have b1 : Below w.heap.size w W1 := by rw [← hW1]; exact (Below.refl _ w).alloc (Nat.le_refl _) _
 have H1 : Hid (W1.ownsRow w.heap.size 39 1 (.slice (some ⟨w.heap.size, 0, none⟩) 0 n) 0 [] ∧ Below w.heap.size w W1) := Lib.hid ⟨by rw [← hW1]; exact own_room hcs (by omega), b1⟩
 have HSl := Lib.hid hS
 have HTb := Lib.hid hT
 obtain ⟨a, c, rfl, hc1, hc2, hm⟩ := hS.form
 have HM := Lib.hid hm
 rw [hnn.out] at hc1 ⊢
 have hn' : (n : Int) ≤ 1000 := by omega
 clear hS hl b1 hcs hp hT hm
 go_enter Tryd.func45, Tryd.ntmps45
 go_wp2_with fail
 try rw [hW1]
 clear hW1 hmk
 go_loopw [4, 14] (fun s4 s14 wr => ∃ (j : Nat) (nv : Value), s14 = .int .i64 (j : Nat) ∧ s4 = nv ∧ j ≤ n ∧ Hid (wr.ownsRow w.heap.size 39 1 nv j (f64s ((ts.take j).map fun x => (p.rf x).1)) ∧ fst0 ((ts.take j).map fun x => (p.rf x).2) = 0 ∧ Below w.heap.size w wr)) (fun _ s14 _ => n - (RowKit.intOf s14).toNat)
 case atStart => exact ⟨0, _, rfl, rfl, by omega, H1.out.1, rfl, H1.out.2⟩
 case round =>
   obtain ⟨j, nv, rfl, rfl, hj, hI⟩ := hrel
   by_cases hlt : j < n
   · have hlt' : (j : Int) < (n : Int) := by omega
     have hj0 : (0 : Int) ≤ (j : Int) := by omega
     have hjl : Hid (j < ts.length) := Lib.hid (by rw [hnn.out]; exact hlt)
     obtain ⟨x, hx⟩ : ∃ x, Hid (ts[j]? = some x) := ⟨_, Lib.hid (List.getElem?_eq_getElem hjl.out)⟩
     obtain ⟨g, off, hga, hg, hcell⟩ := HM.out.resolve_left (fun e => by have := hjl.out; rw [e] at this; simp at this)
     subst hga
     have q0 := cell_later hI.out.2.2 hg (hcell j x hx.out)
     have HTk : Hid (ts.take (j + 1) = ts.take j ++ [x]) := Lib.hid (by
       obtain ⟨g1, g2⟩ := List.getElem?_eq_some_iff.1 hx.out
       rw [List.take_succ_eq_append_getElem g1, g2])
     obtain ⟨y, er, hr⟩ : ∃ y e, Hid (p.rf x = (y, e)) := ⟨_, _, Lib.hid rfl⟩
     have HF := Lib.hid (float_is HP.out x (HL.out x (List.mem_of_getElem? hx.out)) wr (HTb.out.later hI.out.2.2))
     rw [hr.out] at HF
     have HY : Hid (y < 18446744073709551616) := Lib.hid (by have := (HP.out.rf x).word; rwa [hr.out] at this)
     have HI0 := Lib.hid hI.out
     clear hI hcell
     go_wp2_with fail
     refine HF.out.mono ?_
     rintro e W2 ⟨rfl, hb2⟩
     have H2 := Lib.hid (And.intro (own_later HI0.out.1 hb2) (HI0.out.2.2.trans (hb2.mono HI0.out.2.2.size)))
     clear hb2 q0 HF
     by_cases he : er = 0
     rotate_left
     · have he' : (er == 0) = false := by simpa using he
       have HE : Hid (fst0 (ts.map fun x => (p.rf x).2) = er) := Lib.hid (by
         rw [← List.take_append_drop (j + 1) ts, HTk.out, List.map_append, List.map_append, fst0_app, fst0_app, HI0.out.2.1]
         simp [fst0, hr.out, he])
       go_wp2
       go_ret2
       exact ⟨H2.out.2, _, by rw [HE.out]; rfl, fun h => absurd (HE.out.symm.trans h) he, fun _ => rfl⟩
     · subst he
       have hWs : Hid (w.heap.size ≤ W2.heap.size) := Lib.hid H2.out.2.size
       go_wp2_with (at_builtin; refine wpList_append_own _ rfl _ _ _ rfl w.heap.size 39 i0 _ 1 8 undF hi0 hz0 hz1 hz2 rfl (by omega) u4 j (f64s ((ts.take j).map fun x => (p.rf x).1)) rfl (World.ownsRow.alloc H2.out.1 _) ⟨W2.heap.size, 0, none⟩ 1 1 [.float .f64 y] rfl rfl (World.news_of_block (cs := #[.float .f64 y]) (t := 39) (fr := (0, 0)) (heap_alloc_new W2 _)) (by simp [Value.oneCell']) (by unfold maxLen; omega) (by omega) (by have := hWs.out; simp; omega) ?_; intro v' W4 hown hgrow _; have H4 := Lib.hid (And.intro hown (below_grew H2.out.2 H2.out.1 hgrow)); clear hown hgrow)
       refine ⟨⟨j + 1, _, by go_num, rfl, by omega, ?_, ?_, H4.out.2⟩, by simp [RowKit.intOf]; omega⟩
       · rw [HTk.out]
         have := H4.out.1
         simpa [f64s, hr.out] using this
       · rw [HTk.out, List.map_append, fst0_app, HI0.out.2.1]
         simp [fst0, hr.out]
   · obtain rfl : j = n := by omega
     obtain ⟨na, nc, rfl⟩ := own_sliceE hI.out.1
     have HI0 := Lib.hid hI.out
     have hco := Co.of_own hI.out.1
     have hnc1 : (j : Int) ≤ (nc : Int) := by omega
     have HCo := Lib.hid hco.1
     have HTk : Hid (ts.take j = ts) := Lib.hid (List.take_of_length_le (by rw [hnn.out]; omega))
     clear hI hco
     go_wp2
     all_goals
       go_ret2
       have h1 := HI0.out.2.1
       have h2 := HCo.out
       rw [HTk.out] at h1 h2
       exact ⟨HI0.out.2.2, _, by rw [h1]; rfl, fun _ => h2, fun h => absurd h1 h⟩
end

/- Package elefile: rowOf. -/
section
set_option maxRecDepth 100000
open Go.RowKit Go.Shelf Go.Lib
attribute [local go_sem] run_store_float
abbrev rw2 : Array Value := #[.slice none 0 0, .slice none 0 0]
theorem fst0_first {l r : List Int} {e : Int} (h : ∀ e ∈ l, e = 0) (he : e ≠ 0) : fst0 (l ++ e :: r) = e := by
 rw [fst0_app, if_pos (fst0_zero.2 h), fst0, if_neg he]
theorem rwE_no {p : Pm} {f c k i : Nat} {ws : List Bs} (h : ws.length < 1 + c ∨ intsE (ws.take (1 + c)) = none) : rwE p f c k i ws = 4 := by
 unfold rwE
 split
 · rename_i n ns hn
   rcases h with h | h
   · have := intsE_len hn
     rw [List.length_take, List.length_cons] at this
     rw [if_neg (by omega)]
   · rw [hn] at h; cases h
 · rfl
theorem rwE_len {p : Pm} {f c k i : Nat} {ws : List Bs} (h : ws.length ≠ 1 + c + k) : rwE p f c k i ws = 4 := by
 unfold rwE
 split
 · rw [if_neg (fun e => h e.1)]
 · rfl
theorem rwE_num {p : Pm} {f c k i : Nat} {ws : List Bs} {n : Int} {ns : List Int} (hi : intsE (ws.take (1 + c)) = some (n :: ns)) (h : n ≠ (f : Int) + (i : Int)) : rwE p f c k i ws = 4 := by
 unfold rwE
 rw [hi]
 simp only []
 rw [if_neg (fun e => h e.2)]
theorem rwE_is {p : Pm} {f c k i : Nat} {ws : List Bs} {n : Int} {ns : List Int} (hi : intsE (ws.take (1 + c)) = some (n :: ns)) (hl : ws.length = 1 + c + k) (h : n = (f : Int) + (i : Int)) : rwE p f c k i ws = fst0 (ns.map (corE f) ++ ((ws.drop (1 + c)).map fun w => (p.rf w).2)) := by
 unfold rwE
 rw [hi]
 simp only []
 rw [if_pos ⟨hl, h⟩]
theorem corE_no {f : Nat} {n : Int} (h : n < (f : Int) ∨ (f : Int) + 1048576 ≤ n) : corE f n = 11 := by unfold corE; rw [if_neg (by omega)]
theorem corE_ok {f : Nat} {n : Int} (h1 : (f : Int) ≤ n) (h2 : n < (f : Int) + 1048576) : corE f n = 0 := by unfold corE; rw [if_pos ⟨h1, h2⟩]
theorem CB.cells2E {W : World} {B t : Nat} {a b : Value} (h : CB W B #[a, b] t) : W.cell? ⟨B, 0, none⟩ = some a ∧ W.cell? ⟨B, 1, none⟩ = some b := ⟨h.cell 0 (by simp), h.cell 1 (by simp)⟩
def RoR (p : Pm) (w w' : World) (f c k i : Nat) (ws : List Bs) (e : Ending) : Prop := Below w.heap.size w w' ∧
 ∃ tv av, e = .returned (.tuple #[.agg #[tv, av], .int .i64 (rwE p f c k i ws)]) ∧ (rwE p f c k i ws = 0 → Co w' w.heap.size 3 tv (isV (rwV p f c ws).t) ∧ Co w' w.heap.size 39 av (f64s (rwV p f c ws).a)) ∧ (rwE p f c k i ws ≠ 0 → tv = .slice none 0 0 ∧ av = .slice none 0 0)
theorem RoR.bad {p : Pm} {w W : World} {f c k i : Nat} {ws : List Bs} {e : Int} (hb : Below w.heap.size w W) (he : rwE p f c k i ws = e) (h0 : e ≠ 0) : RoR p w W f c k i ws (.returned (.tuple #[.agg rw2, .int .i64 e])) :=
 ⟨hb, _, _, by rw [he], fun h => absurd (he ▸ h) h0, fun _ => ⟨rfl, rfl⟩⟩
theorem res_rowE (W : World) (B : Nat) (a b : Value) (n1 : Int) (tmps : Array Value) (h : CB W B #[a, b] 38)
   (t4 : tmps[4]? = some (.pointer (some ⟨B, 0, none⟩))) (t5 : tmps[5]? = some (.int .i64 n1)) : (results Tryd.f33 tmps).run Tryd.prog W = .ok (.tuple #[.agg #[a, b], .int .i64 n1]) W := by
 have c0 := h.cell 0 (by simp)
 have c1 := h.cell 1 (by simp)
 simp [results, Tryd.f33, go_sem, c0, c1, t4, t5]
structure Cn (w W : World) (g : Nat) (f c j : Nat) (ns : List Int) (fl : Array Value) (tv : Value) (ts : List Bs) : Prop where
 bel : Below w.heap.size w W
 fb : CB W w.heap.size fl 30
 rb : CB W (w.heap.size + 1) rw2 38
 row : ∃ cur, CB W g cur 3 ∧ (∀ (i : Nat) (n : Int), ns[i]? = some n → cur[1 + i]? = some (.int .i64 (if i < j then n - (f : Int) else n)))
 gw : w.heap.size + 1 < g
 tx : Sl W tv ts
theorem Cn.at {w W : World} {g f c j : Nat} {ns : List Int} {fl : Array Value} {tv : Value} {ts : List Bs} (h : Cn w W g f c j ns fl tv ts) {n : Int} (hn : ns[j]? = some n) : W.cell? ⟨g, 1 + j, none⟩ = some (.int .i64 n) ∧ W.frozen? ⟨g, 1 + j, none⟩ = false := by
 obtain ⟨cur, h1, h2⟩ := h.row
 have h3 := h2 j n hn
 rw [if_neg (by omega)] at h3
 obtain ⟨hl, he⟩ := Array.getElem?_eq_some_iff.1 h3
 exact ⟨by have := h1.cell (1 + j) hl; rw [this, he], h1.frozen _⟩
theorem Cn.step {w W : World} {g f c j : Nat} {ns : List Int} {fl : Array Value} {tv : Value} {ts : List Bs} (h : Cn w W g f c j ns fl tv ts) {n : Int} (hn : ns[j]? = some n) : Cn w (W.setCell ⟨g, 1 + j, none⟩ (.int .i64 (n - (f : Int)))) g f c (j + 1) ns fl tv ts := by
 obtain ⟨ha, _⟩ := h.at hn
 have hg := h.gw
 obtain ⟨cur, h1, h2⟩ := h.row
 refine ⟨h.bel.setCell (by show w.heap.size ≤ g; omega) _, h.fb.other (by omega) _, h.rb.other (by omega) _, ⟨_, h1.set (1 + j) _, fun i m hm => ?_⟩, hg, h.tx.set ha (by simp) _⟩
 have h3 := h2 i m hm
 obtain ⟨hl, he⟩ := Array.getElem?_eq_some_iff.1 h3
 by_cases e : i = j
 · subst e
   rw [hn] at hm
   cases hm
   rw [if_pos (by omega)]
   simp [hl]
 · rw [Array.set!_eq_setIfInBounds, Array.getElem?_setIfInBounds, if_neg (by omega), h3]
   congr 2
   by_cases h4 : i < j
   · rw [if_pos h4, if_pos (by omega)]
   · rw [if_neg h4, if_neg (by omega)]
theorem Cn.later {w W W' : World} {g f c j : Nat} {ns : List Int} {fl : Array Value} {tv : Value} {ts : List Bs} (h : Cn w W g f c j ns fl tv ts) (hb : Below W.heap.size W W') : Cn w W' g f c j ns fl tv ts := by
 obtain ⟨cur, h1, h2⟩ := h.row
 exact ⟨h.bel.trans (hb.mono h.bel.size), h.fb.later hb, h.rb.later hb, ⟨cur, h1.later hb, h2⟩, h.gw, h.tx.later hb⟩
theorem Cn.co {w W : World} {g f c j : Nat} {ns : List Int} {fl : Array Value} {tv : Value} {ts : List Bs} (h : Cn w W g f c j ns fl tv ts) (hj : ns.length ≤ j) (hc : ns.length = c) (hm : c ≤ 1000) : Co W w.heap.size 3 (.slice (some ⟨g, 1, none⟩) c c) (isV (ns.map (· - (f : Int)))) := by
 have hg := h.gw
 obtain ⟨cur, h1, h2⟩ := h.row
 refine ⟨some ⟨g, 1, none⟩, c, by simp [isV, hc], by simp [isV, hc], by omega, ?_⟩
 by_cases hc0 : c = 0
 · exact Or.inl ⟨by rw [List.length_eq_zero_iff.1 (show ns.length = 0 by omega)]; rfl, hc0⟩
 have hsz : 1 + c ≤ cur.size := by
   have h3 := h2 (c - 1) _ (List.getElem?_eq_getElem (show c - 1 < ns.length by omega))
   obtain ⟨h4, _⟩ := Array.getElem?_eq_some_iff.1 h3
   omega
 refine Or.inr ⟨g, 1, cur, rfl, by omega, h1, fun i u hu => ?_⟩
 unfold isV at hu
 rw [List.map_map, List.getElem?_map, Option.map_eq_some_iff] at hu
 obtain ⟨n, hn, rfl⟩ := hu
 have h3 := h2 i n hn
 have hi := (List.getElem?_eq_some_iff.1 hn).1
 rw [if_pos (by omega)] at h3
 exact h3
end

/- Package elefile: rowOf, its walk. -/
section
set_option maxRecDepth 100000
open Go.RowKit Go.Shelf Go.Lib
attribute [local go_sem] run_store_float
theorem Cn.coOb {w W W' : World} {g f c j : Nat} {ns : List Int} {fl : Array Value} {tv : Value} {ts : List Bs} (h : Cn w W g f c j ns fl tv ts) (ho : Ob (w.heap.size + 1) W W') (hj : ns.length ≤ j) (hc : ns.length = c) (hm : c ≤ 1000) : Co W' w.heap.size 3 (.slice (some ⟨g, 1, none⟩) c c) (isV (ns.map (· - (f : Int)))) := by
 have hg := h.gw
 obtain ⟨cur, h1, h2⟩ := h.row
 refine ⟨some ⟨g, 1, none⟩, c, by simp [isV, hc], by simp [isV, hc], by omega, ?_⟩
 by_cases hc0 : c = 0
 · exact Or.inl ⟨by rw [List.length_eq_zero_iff.1 (show ns.length = 0 by omega)]; rfl, hc0⟩
 have hsz : 1 + c ≤ cur.size := by
   have h3 := h2 (c - 1) _ (List.getElem?_eq_getElem (show c - 1 < ns.length by omega))
   obtain ⟨h4, _⟩ := Array.getElem?_eq_some_iff.1 h3
   omega
 refine Or.inr ⟨g, 1, cur, rfl, by omega, ho.cb h1 (by omega), fun i u hu => ?_⟩
 unfold isV at hu
 rw [List.map_map, List.getElem?_map, Option.map_eq_some_iff] at hu
 obtain ⟨n, hn, rfl⟩ := hu
 have h3 := h2 i n hn
 have hi := (List.getElem?_eq_some_iff.1 hn).1
 rw [if_pos (by omega)] at h3
 exact h3
set_option maxHeartbeats 16000000 in
theorem rowOfE_any {p : Pm} (hp : p.Ok) (v : Value) (ws : List Bs) (f c k i : Nat) (la : Option Addr) (lc : Nat) (w : World) (hS : Sl w v ws) (hK : Bk w.heap.size v) (hl : ∀ x ∈ ws, x.length ≤ 900000) (hf : f ≤ 1) (hc0 : 3 ≤ c) (hc : c ≤ 6) (hk : k ≤ 16) (hi : i ≤ 1048576) (hT : Tab w) :
   Calls Tryd.prog 33 #[v, .agg #[.int .i64 (f : Nat), .int .i64 (c : Nat), .int .i64 (k : Nat), .slice la i lc]] w fun e w' => RoR p w w' f c k i ws e := by
 have HP := Lib.hid hp
 obtain ⟨fl, hfl⟩ : ∃ fl : Array Value, fl = #[.int .i64 (f : Nat), .int .i64 (c : Nat), .int .i64 (k : Nat), .slice la i lc] := ⟨_, rfl⟩
 obtain ⟨W0, hW0⟩ : ∃ W0, (w.alloc (.cells #[.int .i64 (f : Nat), .int .i64 (c : Nat), .int .i64 (k : Nat), .slice la i lc] 30)).alloc (.cells rw2 38) = W0 := ⟨_, rfl⟩
 have b0 : Below w.heap.size w W0 := by rw [← hW0]; exact ((Below.refl _ w).alloc (Nat.le_refl _) _).alloc (by simp) _
 have z0 : W0.heap.size = w.heap.size + 2 := by rw [← hW0]; simp
 have q3 : CB W0 w.heap.size fl 30 := by rw [← hW0, hfl]; exact (CB.new w _ _).later ((Below.refl _ _).alloc (Nat.le_refl _) _)
 have q4 : CB W0 (w.heap.size + 1) rw2 38 := by
   rw [← hW0]
   have := CB.new (w.alloc (.cells #[.int .i64 (f : Nat), .int .i64 (c : Nat), .int .i64 (k : Nat), .slice la i lc] 30)) rw2 38
   rwa [World.size_alloc] at this
 have H1 := Lib.hid (oneByOne_any v ws W0 (hS.later b0) (fun b hb => by have := hK b hb; omega))
 have H0 := Lib.hid (And.intro q3 (And.intro q4 b0))
 have HL := Lib.hid hl
 have HTb := Lib.hid hT
 obtain ⟨va, vc, rfl, _⟩ := hS.form
 obtain ⟨c1, h1c⟩ : ∃ c1 : Nat, (1 : Int) + ((c : Nat) : Int) = ((c1 : Nat) : Int) := ⟨1 + c, by omega⟩
 have e1c : Hid (c1 = 1 + c) := Lib.hid (by omega)
 have hwr : IntKind.i64.wrap ((1 : Int) + ((c : Nat) : Int)) = ((c1 : Nat) : Int) := by rw [IntKind.wrap_i64]; omega
 have hc1' : (c1 : Int) ≤ 7 := by omega
 have hf' : (f : Int) ≤ 1 := by omega
 have hk' : (k : Int) ≤ 16 := by omega
 have hi' : (i : Int) ≤ 1048576 := by omega
 rw [z0] at H1
 have HFl := Lib.hid hfl
 clear hS hK hl hp hT b0 q3 q4 hfl h1c
 obtain ⟨n, hn⟩ : ∃ n, ws.length = n := ⟨_, rfl⟩
 have HN := Lib.hid hn
 rw [hn]
 rw [hn] at H1
 clear hn
 go_enter Tryd.func33, Tryd.ntmps33
 go_wp2_with fail
 try rw [hW0]
 clear hW0
 refine H1.out.mono ?_
 rintro e W1 ⟨rfl, hT1, hb1, hz1⟩
 have hb1' : Below W0.heap.size W0 W1 := by rw [z0]; exact hb1
 have HB1 : Hid (CB W1 w.heap.size fl 30 ∧ CB W1 (w.heap.size + 1) rw2 38 ∧ Below w.heap.size w W1) := Lib.hid ⟨H0.out.1.later hb1', H0.out.2.1.later hb1', H0.out.2.2.trans (hb1'.mono H0.out.2.2.size)⟩
 have HW := Lib.hid (wholes_any (w.heap.size + 2) ws c1 W1 hT1 HL.out (by omega))
 have cf := HB1.out.1
 rw [HFl.out] at cf
 obtain ⟨j0, j1, j2, j3⟩ := cf.cells4E
 clear hT1 hb1 hb1' H1 z0 cf H0
 go_wp2_with fail
 refine HW.out.mono ?_
 rintro e W2 ⟨nv, ok, rfl, hob2, hcase⟩
 have HB2 : Hid (CB W2 w.heap.size fl 30 ∧ CB W2 (w.heap.size + 1) rw2 38 ∧ Below w.heap.size w W2 ∧ W1.heap.size ≤ W2.heap.size) := Lib.hid ⟨hob2.cb HB1.out.1 (by omega), hob2.cb HB1.out.2.1 (by omega), HB1.out.2.2.trans (hob2.below (by omega) HB1.out.2.2.size), hob2.size⟩
 have HW1s : Hid (W1.heap.size = w.heap.size + 3) := Lib.hid (by rw [hz1])
 clear HW HB1 hob2 hz1 j0 j1 j2 j3
 have cf := HB2.out.1
 rw [HFl.out] at cf
 obtain ⟨j0, j1, j2, j3⟩ := cf.cells4E
 clear cf
 rcases hcase with ⟨rfl, nn, hle, hns, hown, hT2⟩ | ⟨rfl, rfl, hbad, ws', hT2, hsub⟩
 · have HTx := Lib.hid (texts_anyE (w.heap.size + 2) (ws.drop c1) k W2 hT2 (by omega))
   have hnl := intsE_len hns
   rw [List.length_take, Nat.min_eq_left hle] at hnl
   obtain ⟨n0, ns, rfl⟩ : ∃ n0 ns, nn = n0 :: ns := by
     rcases nn with _ | ⟨a, r⟩
     · simp at hnl; have := e1c.out; omega
     · exact ⟨a, r, rfl⟩
   have HNs := Lib.hid (And.intro hns (show ns.length = c by have := e1c.out; simp at hnl; omega))
   rw [e1c.out] at HNs
   obtain ⟨g, gc, hnv, hg1, hg2, hg3, hg4, hcell, _⟩ := own_cellE hown (by have := e1c.out; omega)
   have hgb : ∃ cur, CB W2 g cur 3 ∧ ∀ (i : Nat) (u : Value), (isV (n0 :: ns))[i]? = some u → cur[i]? = some u := by
     rcases hown.2 with ⟨h1, h2⟩ | ⟨g', cap, cur, h1, h2, h3, h4, h5, h6, h7⟩
     · have := e1c.out; omega
     · rw [hnv] at h1
       cases h1
       refine ⟨cur, h3, fun i u hu => ?_⟩
       rw [← h7, List.getElem?_take] at hu
       split at hu
       · simpa using hu
       · cases hu
   have HGb := Lib.hid hgb
   have HGw : Hid (w.heap.size + 2 < g) := Lib.hid (by have := HW1s.out; omega)
   have HGl := Lib.hid hg2
   subst hnv
   have HLe := Lib.hid hle
   have hg3' : (c1 : Int) ≤ (gc : Int) := by omega
   have hg4' : (gc : Int) ≤ 9223372036854775807 := by omega
   have hc1p : (0 : Int) < (c1 : Int) := by have := e1c.out; omega
   have hcn : Hid (∀ W', Ob (w.heap.size + 2) W2 W' → CB W' w.heap.size fl 30 ∧ CB W' (w.heap.size + 1) rw2 38 ∧ Below w.heap.size w W' ∧ W'.cell? ⟨g, 0, none⟩ = some (.int .i64 n0) ∧ ∃ cur, CB W' g cur 3 ∧ ∀ (i : Nat) (u : Value), (isV (n0 :: ns))[i]? = some u → cur[i]? = some u) := Lib.hid fun W' ho => by
     obtain ⟨cur, h1, h2⟩ := HGb.out
     refine ⟨ho.cb HB2.out.1 (by omega), ho.cb HB2.out.2.1 (by omega), HB2.out.2.2.1.trans (ho.below (by omega) HB2.out.2.2.1.size), ho.cell (hcell 0 _ rfl) (by have := HGw.out; omega), cur, ho.cb h1 (by have := HGw.out; omega), h2⟩
   clear hown hT2 hns hle hcell hgb hg1 hg2 hnl
   go_wp2_with fail
   refine HTx.out.mono ?_
   rintro e W3 ⟨tv, rfl, hob3, htx⟩
   have H3 := Lib.hid (hcn.out W3 hob3)
   have HTv := Lib.hid htx
   have HW3 : Hid (g < W3.heap.size) := Lib.hid (Nat.lt_of_lt_of_le HGl.out hob3.size)
   have HW23 : Hid (W2.heap.size ≤ W3.heap.size) := Lib.hid hob3.size
   clear HTx hob3 htx hcn HGb j0 j1 j2 j3
   obtain ⟨W4, hW4⟩ : ∃ W, W3.drew = W := ⟨_, rfl⟩
   have H4 : Hid (CB W4 w.heap.size fl 30 ∧ CB W4 (w.heap.size + 1) rw2 38 ∧ Below w.heap.size w W4) := Lib.hid (by rw [← hW4]; exact ⟨H3.out.1, H3.out.2.1, H3.out.2.2.1.drew⟩)
   have cf := H4.out.1
   rw [HFl.out] at cf
   obtain ⟨j0, j1, j2, j3⟩ := cf.cells4E
   have q0 : W4.cell? ⟨g, 0, none⟩ = some (.int .i64 n0) := by rw [← hW4]; exact H3.out.2.2.2.1
   obtain ⟨k0, k1⟩ := H4.out.2.1.cells2E
   have f0 := H4.out.2.1.frozen 0
   have f1 := H4.out.2.1.frozen 1
   clear cf
   have HBad : Hid (∀ e : Int, rwE p f c k i ws = e → e ≠ 0 → RoR p w ((W4.setCell ⟨w.heap.size + 1, 0, none⟩ (.slice none 0 0)).setCell ⟨w.heap.size + 1, 1, none⟩ (.slice none 0 0)) f c k i ws (.returned (.tuple #[.agg rw2, .int .i64 e]))) := Lib.hid fun e he h0 => RoR.bad ((H4.out.2.2.setCell (p := ⟨w.heap.size + 1, 0, none⟩) (by show w.heap.size ≤ w.heap.size + 1; omega) _).setCell (p := ⟨w.heap.size + 1, 1, none⟩) (by show w.heap.size ≤ w.heap.size + 1; omega) _) he h0
   by_cases hlen : ws.length = 1 + c + k
   rotate_left
   · have hd : decide ((ws.drop c1).length = k) = false := by
       rw [decide_eq_false_iff_not, List.length_drop]; have := e1c.out; have := HLe.out; omega
     rw [hd]
     have HE : Hid (rwE p f c k i ws = 4) := Lib.hid (rwE_len hlen)
     clear hd hlen
     go_wp2_with fail
     go_region
     all_goals
       go_wp2
       refine bodyPost_ret (res_rowE _ (w.heap.size + 1) _ _ 4 _ (H4.out.2.1.set2 _ _) rfl rfl) rfl ?_
       exact HBad.out 4 HE.out (by decide)
   have hd : decide ((ws.drop c1).length = k) = true := by
     rw [decide_eq_true_iff, List.length_drop]; have := e1c.out; omega
   rw [hd]
   have HTl : Hid ((ws.drop c1).length = k) := Lib.hid (of_decide_eq_true hd)
   have HLen := Lib.hid hlen
   clear hd hlen
   by_cases hnum : n0 = (f : Int) + (i : Int)
   rotate_left
   · have HE : Hid (rwE p f c k i ws = 4) := Lib.hid (rwE_num HNs.out.1 hnum)
     have hnum' : (n0 == (f : Int) + (i : Int)) = false := by simpa using hnum
     go_wp2_with fail
     go_region
     all_goals
       go_wp2
       refine bodyPost_ret (res_rowE _ (w.heap.size + 1) _ _ 4 _ (H4.out.2.1.set2 _ _) rfl rfl) rfl ?_
       exact HBad.out 4 HE.out (by decide)
   subst hnum
   have HE := Lib.hid (rwE_is (p := p) (k := k) HNs.out.1 HLen.out rfl)
   have HTs : Hid (Sl W4 tv (ws.drop c1)) := Lib.hid (by
     have h1 := HTv.out HTl.out
     have h2 : Sr W3 W2.heap.size tv (ws.drop c1) := by unfold Sr; rw [HTl.out]; exact h1
     have h3 := h2.sl (fun x hx => by have := HL.out x (List.mem_of_mem_drop hx); omega)
     rw [← hW4]; exact h3.later ((Below.refl _ W3).drew))
   have HC0 : Hid (Cn w W4 g f c 0 ns fl tv (ws.drop c1)) := Lib.hid ⟨H4.out.2.2, H4.out.1, H4.out.2.1, by
     obtain ⟨cur, g1, g2⟩ := H3.out.2.2.2.2
     refine ⟨cur, by rw [← hW4]; exact g1, fun a m hm => ?_⟩
     rw [if_neg (by omega)]
     refine g2 (1 + a) _ ?_
     rw [Nat.add_comm]
     simp [isV, hm], by have := HGw.out; omega, HTs.out⟩
   obtain ⟨ta, tc, htv⟩ : ∃ ta tc, tv = .slice ta k tc := by
     obtain ⟨a, c', e, _⟩ := HTs.out.form
     rw [HTl.out] at e
     exact ⟨a, c', e⟩
   subst htv
   have hcc : (c1 : Int) - 1 = (c : Int) := by have := e1c.out; omega
   go_wp2_with fail
   go_region
   clear q0
   go_wp2_with fail
   go_loopw [62] (fun s62 wr => ∃ j : Nat, s62 = .int .i64 (j : Nat) ∧ j ≤ c ∧ Hid (Cn w wr g f c j ns fl (.slice ta k tc) (ws.drop c1) ∧ ∀ e ∈ (ns.take j).map (corE f), e = 0)) (fun s62 _ => c - (RowKit.intOf s62).toNat)
   case atStart => exact ⟨0, rfl, by omega, by first | exact HC0.out | (rw [hW4]; exact HC0.out), fun e he => by simp at he⟩
   case round =>
     obtain ⟨j, rfl, hj, hI⟩ := hrel
     have cf := hI.out.1.fb
     rw [HFl.out] at cf
     clear j0 j1 j2 j3 k0 k1 f0 f1
     obtain ⟨j0, j1, j2, j3⟩ := cf.cells4E
     obtain ⟨k0, k1⟩ := hI.out.1.rb.cells2E
     have f0 := hI.out.1.rb.frozen 0
     have f1 := hI.out.1.rb.frozen 1
     clear cf
     by_cases hlt : j < c
     · have hlt' : (j : Int) < (c : Int) := by omega
       have hjj : (0 : Int) ≤ (j : Int) := by omega
       obtain ⟨m, hm⟩ : ∃ m, Hid (ns[j]? = some m) := ⟨_, Lib.hid (List.getElem?_eq_getElem (by rw [HNs.out.2]; exact hlt))⟩
       obtain ⟨x0, x1⟩ := hI.out.1.at hm.out
       have HTk : Hid (ns.take (j + 1) = ns.take j ++ [m]) := Lib.hid (by
         obtain ⟨g1, g2⟩ := List.getElem?_eq_some_iff.1 hm.out
         rw [List.take_succ_eq_append_getElem g1, g2])
       have HSt := Lib.hid (hI.out.1.step hm.out)
       have HI0 := Lib.hid hI.out
       clear hI
       by_cases hbad : m < (f : Int) ∨ (f : Int) + 1048576 ≤ m
       · have HE2 : Hid (rwE p f c k i ws = 11) := Lib.hid (by
           rw [HE.out, ← List.take_append_drop (j + 1) ns, HTk.out, List.map_append, List.map_append, List.append_assoc, List.append_assoc]
           show fst0 ((ns.take j).map (corE f) ++ corE f m :: _) = 11
           rw [corE_no hbad]
           exact fst0_first HI0.out.2 (by decide))
         by_cases hb1 : m < (f : Int)
         · go_wp2
           refine bodyPost_ret (res_rowE _ (w.heap.size + 1) _ _ 11 _ (HI0.out.1.rb.set2 _ _) rfl rfl) rfl ?_
           exact RoR.bad ((HI0.out.1.bel.setCell (p := ⟨w.heap.size + 1, 0, none⟩) (by show w.heap.size ≤ w.heap.size + 1; omega) _).setCell (p := ⟨w.heap.size + 1, 1, none⟩) (by show w.heap.size ≤ w.heap.size + 1; omega) _) HE2.out (by decide)
         · have hb2 : (f : Int) + 1048576 ≤ m := by omega
           go_wp2
           refine bodyPost_ret (res_rowE _ (w.heap.size + 1) _ _ 11 _ (HI0.out.1.rb.set2 _ _) rfl rfl) rfl ?_
           exact RoR.bad ((HI0.out.1.bel.setCell (p := ⟨w.heap.size + 1, 0, none⟩) (by show w.heap.size ≤ w.heap.size + 1; omega) _).setCell (p := ⟨w.heap.size + 1, 1, none⟩) (by show w.heap.size ≤ w.heap.size + 1; omega) _) HE2.out (by decide)
       · have hb1 : ¬ (m < (f : Int)) := fun h => hbad (Or.inl h)
         have hb2 : ¬ ((f : Int) + 1048576 ≤ m) := fun h => hbad (Or.inr h)
         have hb3 : (f : Int) ≤ m := by omega
         have hb4 : m < (f : Int) + 1048576 := by omega
         clear hbad
         go_wp2
         refine ⟨⟨j + 1, by go_num, by omega, HSt.out, ?_⟩, by simp [RowKit.intOf]; omega⟩
         intro e he
         rw [HTk.out, List.map_append] at he
         rcases List.mem_append.1 he with h | h
         · exact HI0.out.2 e h
         · rw [List.mem_singleton.1 h]; exact corE_ok hb3 hb4
     · obtain rfl : j = c := by omega
       have HI0 := Lib.hid hI.out
       have HFt := Lib.hid (floatsE_any HP.out _ (ws.drop c1) wr hI.out.1.tx (fun x hx => HL.out x (List.mem_of_mem_drop hx)) (by rw [HTl.out]; omega) (HTb.out.later hI.out.1.bel))
       have hlt' : ¬ ((j : Int) < (j : Int)) := by omega
       clear hI
       go_wp2_with fail
       refine HFt.out.mono ?_
       rintro e W7 ⟨hb7, av, rfl, hav, hav2⟩
       have C7 := HI0.out.1.later hb7
       have HC7 := Lib.hid C7
       have HCz : Hid (∀ e ∈ ns.map (corE f), e = 0) := Lib.hid (by have := HI0.out.2; rwa [List.take_of_length_le (by rw [HNs.out.2]; omega)] at this)
       have HE2 : Hid (rwE p f j k i ws = fst0 ((ws.drop c1).map fun x => (p.rf x).2)) := Lib.hid (by rw [HE.out, e1c.out, fst0_pre (fst0_zero.2 HCz.out)])
       have HAv := Lib.hid (And.intro hav hav2)
       obtain ⟨er, her⟩ : ∃ er, Hid (fst0 ((ws.drop c1).map fun x => (p.rf x).2) = er) := ⟨_, Lib.hid rfl⟩
       rw [her.out] at HE2 HAv ⊢
       clear k0 k1 f0 f1 j0 j1 j2 j3
       obtain ⟨k0, k1⟩ := C7.rb.cells2E
       have f0 := C7.rb.frozen 0
       have f1 := C7.rb.frozen 1
       clear C7 hav hav2 HFt
       by_cases her0 : er = 0
       rotate_left
       · have her1 : (er == 0) = false := by simpa using her0
         have her2 : (er != 0) = true := by simpa using her0
         go_wp2
         refine bodyPost_ret (res_rowE _ (w.heap.size + 1) _ _ er _ (HC7.out.rb.set2 _ _) rfl rfl) rfl ?_
         exact RoR.bad ((HC7.out.bel.setCell (p := ⟨w.heap.size + 1, 0, none⟩) (by show w.heap.size ≤ w.heap.size + 1; omega) _).setCell (p := ⟨w.heap.size + 1, 1, none⟩) (by show w.heap.size ≤ w.heap.size + 1; omega) _) HE2.out her0
       · subst her0
         have HCo := Lib.hid (HC7.out.co (by rw [HNs.out.2]; omega) HNs.out.2 (by omega))
         have HAo := Lib.hid (HAv.out.1 (by first | rfl | trivial))
         obtain ⟨aa, ac, hav3⟩ : ∃ aa ac, av = .slice aa (f64s ((ws.drop c1).map fun x => (p.rf x).1)).length ac := by
           obtain ⟨a, c', e, _⟩ := HAo.out
           exact ⟨a, c', e⟩
         obtain ⟨L, hL⟩ : ∃ L, (f64s ((ws.drop c1).map fun x => (p.rf x).1)).length = L := ⟨_, rfl⟩
         rw [hL] at hav3
         subst hav3
         have hcj : c1 - 1 = j := by have := e1c.out; omega
         have HCj := Lib.hid hcj
         clear hcj hL
         go_wp2
         refine bodyPost_ret (res_rowE _ (w.heap.size + 1) _ _ 0 _ (HC7.out.rb.set2 _ _) rfl rfl) rfl ?_
         have ho : Ob (w.heap.size + 1) W7 ((W7.setCell ⟨w.heap.size + 1, 0, none⟩ (.slice (some ⟨g, 1, none⟩) (c1 - 1) (c1 - 1))).setCell ⟨w.heap.size + 1, 1, none⟩ (.slice aa L ac)) := (Ob.set _ _ _ _).trans (Ob.set _ _ _ _)
         have hgw := HC7.out.gw
         have hwr2 : w.heap.size + 2 ≤ wr.heap.size := by have := HI0.out.1.rb.lt; omega
         refine ⟨HC7.out.bel.trans (ho.below (by omega) HC7.out.bel.size), _, _, by rw [HE2.out], fun _ => ⟨?_, ?_⟩, fun h => absurd HE2.out h⟩
         · have h1 := HCo.out.base (Nat.le_refl _)
           rw [HCj.out]
           have h2 : (rwV p f j ws).t = ns.map (· - (f : Int)) := by unfold rwV; rw [HNs.out.1]; rfl
           rw [h2]
           rw [HCj.out] at ho
           exact HC7.out.coOb ho (by rw [HNs.out.2]; omega) HNs.out.2 (by omega)
         · have h2 : (rwV p f j ws).a = (ws.drop c1).map fun x => (p.rf x).1 := by unfold rwV; rw [e1c.out]
           rw [h2]
           exact (HAo.out.ob ho (by omega)).base (by omega)
 · have HTx := Lib.hid (texts_anyE (w.heap.size + 2) ws' k W2 hT2 (by omega))
   have HE : Hid (rwE p f c k i ws = 4) := Lib.hid (rwE_no (by rw [← e1c.out]; exact hbad))
   clear hT2 hsub hbad
   go_wp2_with fail
   refine HTx.out.mono ?_
   rintro e W3 ⟨tv, rfl, hob3, _⟩
   obtain ⟨W4, hW4⟩ : ∃ W, W3.drew = W := ⟨_, rfl⟩
   have H4 : Hid (CB W4 (w.heap.size + 1) rw2 38 ∧ Below w.heap.size w W4) := Lib.hid (by rw [← hW4]; exact ⟨hob3.cb HB2.out.2.1 (by omega), (HB2.out.2.2.1.trans (hob3.below (by omega) HB2.out.2.2.1.size)).drew⟩)
   obtain ⟨dd, hdd⟩ : ∃ d, decide (ws'.length = k) = d := ⟨_, rfl⟩
   rw [hdd]
   obtain ⟨k0, k1⟩ := H4.out.1.cells2E
   have f0 := H4.out.1.frozen 0
   have f1 := H4.out.1.frozen 1
   clear HTx hob3 HB2 hdd j0 j1 j2 j3
   go_wp2_with fail
   go_region
   all_goals
     go_wp2
     refine bodyPost_ret (res_rowE _ (w.heap.size + 1) _ _ 4 _ (H4.out.1.set2 _ _) rfl rfl) rfl ?_
     exact RoR.bad ((H4.out.2.setCell (p := ⟨w.heap.size + 1, 0, none⟩) (by show w.heap.size ≤ w.heap.size + 1; omega) _).setCell (p := ⟨w.heap.size + 1, 1, none⟩) (by show w.heap.size ≤ w.heap.size + 1; omega) _) HE.out (by decide)
end

/- Package elefile: triangles in memory; what filled tells. -/
section
set_option maxRecDepth 100000
open Go.RowKit Go.Shelf Go.Lib
abbrev Rt := Rw × Value × Value
def rcs (rs : List Rt) : List Value := rs.flatMap fun q => [q.2.1, q.2.2]
theorem rcs_app (rs : List Rt) (q : Rt) : rcs (rs ++ [q]) = rcs rs ++ [q.2.1, q.2.2] := by simp [rcs]
theorem rcs_at : ∀ (rs : List Rt) (k : Nat) (q : Rt), rs[k]? = some q → (rcs rs)[k * 2]? = some q.2.1 ∧ (rcs rs)[k * 2 + 1]? = some q.2.2 := by
 intro rs
 induction rs with
 | nil => intro k q h; simp at h
 | cons a r ih =>
   intro k q h
   have e : rcs (a :: r) = [a.2.1, a.2.2] ++ rcs r := rfl
   cases k with
   | zero =>
     obtain rfl : a = q := by simpa using h
     exact ⟨rfl, rfl⟩
   | succ k =>
     have := ih k q (by simpa using h)
     rw [e, show (k + 1) * 2 = k * 2 + 2 by omega]
     exact ⟨by simpa using this.1, by simpa using this.2⟩
theorem Co.kept {W W' : World} {B t base e size n : Nat} {v v2 : Value} {xs ys : List Value} (h : Co W B t v xs) (h2 : W.ownsRow base e size v2 n ys) (ht : t ≠ e) (hg : W.grownBy W' v2.ownBlock) : Co W' B t v xs := by
 obtain ⟨a, c, h1, h3, h4, h5⟩ := h
 refine ⟨a, c, h1, h3, h4, ?_⟩
 rcases h5 with h5 | ⟨g, off, cur, g1, g2, g3, g4⟩
 · exact Or.inl h5
 · refine Or.inr ⟨g, off, cur, g1, g2, ?_, g4⟩
   have hl := g3.lt
   unfold CB at g3 ⊢
   rw [hg.block g hl (fun e' => ?_)]
   · exact g3
   · rcases h2.2 with ⟨rfl, _⟩ | ⟨g5, cap2, cur2, rfl, _, hgb2, _⟩
     · simp [Value.ownBlock] at e'
     · obtain rfl : g = g5 := by simpa [Value.ownBlock] using e'
       rw [g3] at hgb2
       simp at hgb2
       exact ht hgb2.2
theorem Co.alloc {W : World} {B t : Nat} {v : Value} {xs : List Value} (h : Co W B t v xs) (o : Obj) : Co (W.alloc o) B t v xs := h.later ((Below.refl _ W).alloc (Nat.le_refl _) o)
structure Er (W : World) (B : Nat) (v : Value) (rs : List Rt) : Prop where
 own : W.ownsRow B 38 2 v rs.length (rcs rs)
 sub : ∀ q ∈ rs, Co W B 3 q.2.1 (isV q.1.t) ∧ Co W B 39 q.2.2 (f64s q.1.a)
theorem Er.nil {W : World} {B : Nat} {v : Value} (h : W.ownsRow B 38 2 v 0 []) : Er W B v [] := ⟨h, fun q hq => by simp at hq⟩
theorem Er.later {W W' : World} {B : Nat} {v : Value} {rs : List Rt} (h : Er W B v rs) (hb : Below W.heap.size W W') : Er W' B v rs := ⟨own_later h.own hb, fun q hq => ⟨(h.sub q hq).1.later hb, (h.sub q hq).2.later hb⟩⟩
theorem Er.base {W : World} {B B' : Nat} {v : Value} {rs : List Rt} (h : Er W B v rs) (hb : B' ≤ B) : Er W B' v rs := ⟨own_base h.own hb, fun q hq => ⟨(h.sub q hq).1.base hb, (h.sub q hq).2.base hb⟩⟩
theorem Er.ob {W W' : World} {B C : Nat} {v : Value} {rs : List Rt} (h : Er W B v rs) (ho : Ob C W W') (hC : C < B) : Er W' B v rs := ⟨own_obE h.own ho hC, fun q hq => ⟨(h.sub q hq).1.ob ho hC, (h.sub q hq).2.ob ho hC⟩⟩
theorem Er.grew {W W2 : World} {B : Nat} {v v' : Value} {rs : List Rt} {q : Rt} {tmp : Obj} (h : Er W B v rs) (hq : Co W B 3 q.2.1 (isV q.1.t) ∧ Co W B 39 q.2.2 (f64s q.1.a)) (hown : W2.ownsRow B 38 2 v' (rs.length + 1) (rcs rs ++ [q.2.1, q.2.2])) (hg : (W.alloc tmp).grownBy W2 v.ownBlock) : Er W2 B v' (rs ++ [q]) := by
 refine ⟨by rw [List.length_append, rcs_app]; exact hown, fun s hs => ?_⟩
 have key : Co W B 3 s.2.1 (isV s.1.t) ∧ Co W B 39 s.2.2 (f64s s.1.a) := by
   rcases List.mem_append.1 hs with e | e
   · exact h.sub s e
   · rw [List.mem_singleton.1 e]; exact hq
 exact ⟨(key.1.alloc tmp).kept (h.own.alloc tmp) (by decide) hg, (key.2.alloc tmp).kept (h.own.alloc tmp) (by decide) hg⟩
structure Fi (w W : World) (f c k : Nat) (lv : Value) (rs : List Rt) : Prop where
 bel : Below w.heap.size w W
 fb : CB W w.heap.size #[.int .i64 (f : Nat), .int .i64 (c : Nat), .int .i64 (k : Nat), lv] 30
 rb : CB W (w.heap.size + 1) fe4 30
 er : Er W (w.heap.size + 2) lv rs
theorem Fi.later {w W W' : World} {f c k : Nat} {lv : Value} {rs : List Rt} (h : Fi w W f c k lv rs) (hb : Below W.heap.size W W') : Fi w W' f c k lv rs := ⟨h.bel.trans (hb.mono h.bel.size), h.fb.later hb, h.rb.later hb, h.er.later hb⟩
theorem Fi.first {w W : World} {f c k : Nat} {lv : Value} {rs : List Rt} (h : Fi w W f c k lv rs) : Fi w (W.setCell ⟨w.heap.size, 0, none⟩ (.int .i64 1)) 1 c k lv rs := by
 have ho := Ob.set w.heap.size 0 W (.int .i64 1)
 exact ⟨h.bel.setCell (Nat.le_refl _) _, by have := h.fb.set 0 (.int .i64 1); simpa using this, h.rb.other (by omega) _, h.er.ob ho (by omega)⟩
theorem Fi.append {w W W2 : World} {f c k : Nat} {lv lv' : Value} {rs : List Rt} {q : Rt} {tmp : Obj} (h : Fi w W f c k lv rs) (hq : Co W (w.heap.size + 2) 3 q.2.1 (isV q.1.t) ∧ Co W (w.heap.size + 2) 39 q.2.2 (f64s q.1.a)) (hown : W2.ownsRow (w.heap.size + 2) 38 2 lv' (rs.length + 1) (rcs rs ++ [q.2.1, q.2.2])) (hg : (W.alloc tmp).grownBy W2 lv.ownBlock) :
   (W2.cell? ⟨w.heap.size, 3, none⟩ = some lv ∧ W2.frozen? ⟨w.heap.size, 3, none⟩ = false) ∧ Fi w (W2.setCell ⟨w.heap.size, 3, none⟩ lv') f c k lv' (rs ++ [q]) := by
 have hfb := h.fb.grewE h.er.own (by omega) hg
 have hrb := h.rb.grewE h.er.own (by omega) hg
 have her := h.er.grew hq hown hg
 have ho := Ob.set w.heap.size 3 W2 lv'
 have hob : Ob (w.heap.size + 1) w W2 := ⟨hg.os.trans h.bel.os, hg.tape.trans h.bel.tape, hg.output.trans h.bel.output, by have := hg.size; have := h.bel.size; simp at *; omega, fun b hb hn => by
   have hs := h.bel.size
   rw [hg.block b (by simp; omega) (fun e => by have := (h.er.own.lt b e.symm).1; omega), Below.heap_alloc _ _ _ (by omega)]
   exact h.bel.block b hb⟩
 exact ⟨⟨hfb.cell 3 (by simp), hfb.frozen 3⟩, (hob.below (by omega) (Nat.le_refl _)).setCell (Nat.le_refl _) _, by have := hfb.set 3 lv'; simpa using this, hrb.other (by omega) _, her.ob ho (by omega)⟩
def FiR (p : Pm) (w w' : World) (n c k : Nat) (L : List (Nat × List Bs)) (e : Ending) : Prop := Below w.heap.size w w' ∧
 ∃ a cap rs f' c' k', e = .returned (.tuple #[.agg #[.int .i64 (f' : Nat), .int .i64 (c' : Nat), .int .i64 (k' : Nat), .slice a rs.length cap], .int .i64 ((flV p n c k L).2.1 : Nat), .int .i64 (flV p n c k L).2.2]) ∧ (flV p n c k L).1 = ⟨(f' : Nat), (c' : Nat), (k' : Nat), rs.map (·.1)⟩ ∧ Er w' w.heap.size (.slice a rs.length cap) rs
theorem FiR.bad {p : Pm} {w W : World} {n c k at' : Nat} {L : List (Nat × List Bs)} {e : Int} (hb : Below w.heap.size w W) (h : flV p n c k L = (fe0, at', e)) : FiR p w W n c k L (.returned (.tuple #[.agg fe4, .int .i64 (at' : Nat), .int .i64 e])) := by
 unfold FiR
 rw [h]
 exact ⟨hb, none, 0, [], 0, 0, 0, rfl, rfl, Er.nil (World.ownsRow_nil _ _ _ _)⟩
theorem fl_bad {p : Pm} {n c k j nq : Nat} {L : List (Nat × List Bs)} {rs : List Rw} {ws : List Bs} {E : Int} (hq : L[j]? = some (nq, ws)) (hj : j < n) (hg : goE p (fst1 L) c k 0 (L.take j) = .inr rs) (he : rwE p (fst1 L) c k j ws = E) (h0 : E ≠ 0) : flV p n c k L = (fe0, nq, E) := by
 obtain ⟨g1, g2⟩ := List.getElem?_eq_some_iff.1 hq
 have hl1 : (L.take j).length = j := by rw [List.length_take]; omega
 have h1 : goE p (fst1 L) c k 0 (L.take (j + 1)) = .inl (nq, E) := by
   rw [List.take_succ_eq_append_getElem g1, g2, goE_snoc, hg]
   simp only [hl1, Nat.zero_add]
   rw [if_neg (by rw [he]; exact h0), he]
 have h2 : goE p (fst1 L) c k 0 (L.take n) = .inl (nq, E) := by
   rw [← List.take_append_drop (j + 1) (L.take n), List.take_take, Nat.min_eq_left (by omega)]
   exact goE_bad _ h1
 unfold flV
 rw [h2]
theorem fl_step {p : Pm} {c k j nq : Nat} {L : List (Nat × List Bs)} {rs : List Rw} {ws : List Bs} (hq : L[j]? = some (nq, ws)) (hg : goE p (fst1 L) c k 0 (L.take j) = .inr rs) (he : rwE p (fst1 L) c k j ws = 0) : goE p (fst1 L) c k 0 (L.take (j + 1)) = .inr (rs ++ [rwV p (fst1 L) c ws]) := by
 obtain ⟨g1, g2⟩ := List.getElem?_eq_some_iff.1 hq
 have hl1 : (L.take j).length = j := by rw [List.length_take]; omega
 rw [List.take_succ_eq_append_getElem g1, g2, goE_snoc, hg]
 simp only [hl1, Nat.zero_add]
 rw [if_pos he]
theorem fl_more {p : Pm} {n c k nq : Nat} {L : List (Nat × List Bs)} {rs : List Rw} {ws : List Bs} (hq : L[n]? = some (nq, ws)) (hg : goE p (fst1 L) c k 0 (L.take n) = .inr rs) : flV p n c k L = (fe0, nq, 4) := by
 obtain ⟨g1, g2⟩ := List.getElem?_eq_some_iff.1 hq
 unfold flV
 rw [hg]
 simp only []
 rw [if_pos g1, List.getD_eq_getElem?_getD, hq]
 rfl
theorem fl_end {p : Pm} {n c k : Nat} {L : List (Nat × List Bs)} {rs : List Rw} (hl : L.length ≤ n) (hg : goE p (fst1 L) c k 0 L = .inr rs) : flV p n c k L = if L.length < n then (fe0, 0, 4) else (⟨(fst1 L : Nat), (c : Nat), (k : Nat), rs⟩, 0, 0) := by
 unfold flV
 rw [List.take_of_length_le hl, hg]
 simp only []
 rw [if_neg (by omega)]
end

/- Package elefile: numbers and triangles that are handed in; slices.ContainsFunc as the package asks it. -/
section
set_option maxRecDepth 100000
open Go.RowKit Go.Shelf Go.Lib
structure Is (W : World) (v : Value) (ns : List Int) : Prop where
 form : ∃ a c, v = .slice a ns.length c ∧ ns.length ≤ c ∧ c ≤ 9223372036854775807 ∧ (ns = [] ∨ ∃ g off, a = some ⟨g, off, none⟩ ∧ ∀ k, k < ns.length → W.cell? ⟨g, off + k, none⟩ = some (.int .i64 (ns.getD k 0)))
 rng : ∀ n ∈ ns, InR n
theorem Is.later {w w' : World} {s : Value} {bs : List Int} (h : Is w s bs) (hb : Below w.heap.size w w') : Is w' s bs := by
 obtain ⟨⟨a, c, hs, hc, hm, hf⟩, h2⟩ := h
 refine ⟨⟨a, c, hs, hc, hm, ?_⟩, h2⟩
 rcases hf with hf | ⟨g, off, ha, hf⟩
 · exact Or.inl hf
 · exact Or.inr ⟨g, off, ha, fun k hk => box_cell hb (hf k hk)⟩
theorem Co.is {W : World} {B t : Nat} {v : Value} {ns : List Int} (h : Co W B t v (isV ns)) (hr : ∀ n ∈ ns, InR n) : Is W v ns := by
 obtain ⟨a, c, h1, h2, h3, h4⟩ := h
 have hl : (isV ns).length = ns.length := by simp [isV]
 rw [hl] at h1 h2
 refine ⟨⟨a, c, h1, h2, h3, ?_⟩, hr⟩
 rcases h4 with h4 | ⟨g, off, cur, h5, h6, h7, h8⟩
 · exact Or.inl (List.length_eq_zero_iff.1 (by rw [← hl, h4.1]; rfl))
 · refine Or.inr ⟨g, off, h5, fun k hk => ?_⟩
   have h9 := h8 k (.int .i64 (ns.getD k 0)) (by simp [isV, List.getD, List.getElem?_eq_getElem hk])
   obtain ⟨hlt, he⟩ := Array.getElem?_eq_some_iff.1 h9
   rw [h7.cell (off + k) hlt, he]
theorem Co.fs {W : World} {B t : Nat} {v : Value} {ns : List Nat} (h : Co W B t v (f64s ns)) (hr : ∀ n ∈ ns, n < 18446744073709551616) : Fs W v ns := by
 obtain ⟨a, c, h1, h2, h3, h4⟩ := h
 have hl : (f64s ns).length = ns.length := by simp [f64s]
 rw [hl] at h1 h2
 refine ⟨⟨a, c, h1, h2, h3, ?_⟩, hr⟩
 rcases h4 with h4 | ⟨g, off, cur, h5, h6, h7, h8⟩
 · exact Or.inl (List.length_eq_zero_iff.1 (by rw [← hl, h4.1]; rfl))
 · refine Or.inr ⟨g, off, h5, fun k hk => ?_⟩
   have h9 := h8 k (.float .f64 (ns.getD k 0)) (by simp [f64s, List.getD, List.getElem?_eq_getElem hk])
   obtain ⟨hlt, he⟩ := Array.getElem?_eq_some_iff.1 h9
   rw [h7.cell (off + k) hlt, he]
structure Rv (W : World) (v : Value) (rs : List Rt) : Prop where
 form : ∃ a c, v = .slice a rs.length c ∧ rs.length ≤ c ∧ c ≤ 9223372036854775807 ∧ (rs = [] ∨ ∃ g off, a = some ⟨g, off, none⟩ ∧ g < W.heap.size ∧ ∀ k p, rs[k]? = some p → W.cell? ⟨g, off + k * 2, none⟩ = some p.2.1 ∧ W.cell? ⟨g, off + k * 2 + 1, none⟩ = some p.2.2)
 sub : ∀ p ∈ rs, Is W p.2.1 p.1.t ∧ Fs W p.2.2 p.1.a
theorem Rv.later {W W' : World} {v : Value} {ns : List Rt} (h : Rv W v ns) (hb : Below W.heap.size W W') : Rv W' v ns := by
 obtain ⟨⟨a, c, h1, h2, h3, h4⟩, h5⟩ := h
 refine ⟨⟨a, c, h1, h2, h3, ?_⟩, fun p hp => ⟨(h5 p hp).1.later hb, (h5 p hp).2.later hb⟩⟩
 rcases h4 with h4 | ⟨g, off, h6, h7, h8⟩
 · exact Or.inl h4
 · exact Or.inr ⟨g, off, h6, Nat.lt_of_lt_of_le h7 hb.size, fun k p hp => ⟨cell_later hb h7 (h8 k p hp).1, cell_later hb h7 (h8 k p hp).2⟩⟩
theorem Er.rv {W : World} {B : Nat} {v : Value} {rs : List Rt} (h : Er W B v rs) (hr : ∀ q ∈ rs, (∀ n ∈ q.1.t, InR n) ∧ ∀ x ∈ q.1.a, x < 18446744073709551616) : Rv W v rs := by
 refine ⟨?_, fun p hp => ⟨(h.sub p hp).1.is (hr p hp).1, (h.sub p hp).2.fs (hr p hp).2⟩⟩
 have h0 := h.own
 rcases h.own.2 with ⟨h1, h2⟩ | ⟨g, cap, cur, rfl, _, h3, h4, h5, _⟩
 · have : rs = [] := List.length_eq_zero_iff.1 h2
   subst this
   exact ⟨none, 0, h1, by simp, by omega, Or.inl rfl⟩
 · refine ⟨_, cap, rfl, h4, by unfold maxLen at h5; omega, Or.inr ⟨g, 0, rfl, (World.ownsRow.lt h0 g rfl).2, fun k p hk => ?_⟩⟩
   have := rcs_at rs k p hk
   refine ⟨own_cellL h0 this.1, ?_⟩
   rw [Nat.add_assoc]; exact own_cellL h0 this.2
end

/- The laws of layer 10: what is read again is the same: plain. -/
section
set_option maxRecDepth 100000
open Go.RowKit Go.Shelf Go.Lib
end

/- ElefileNames: its tables, and what package elefile tells of them; the first example. (gen_efx.py) -/
section
set_option maxRecDepth 100000
open Go.RowKit Go.Shelf Go.Lib
theorem flV_bad {p : Pm} {n c k : Nat} {L : List (Nat × List Bs)} (h : (flV p n c k L).2.2 ≠ 0) : (flV p n c k L).1 = fe0 := by
 unfold flV at h ⊢
 split
 · rfl
 · rename_i rs hg
   rw [hg] at h
   simp only [] at h ⊢
   split
   · rfl
   · rename_i h1
     rw [if_neg h1] at h
     split
     · rfl
     · rename_i h2
       rw [if_neg h2] at h
       exact absurd rfl h
theorem reV_bad {p : Pm} {t : Bs} (h : (reV p t).2.2 ≠ 0) : (reV p t).1 = fe0 := by
 unfold reV at h ⊢
 by_cases h0 : (rdV t).2.2 = 0
 · rw [if_pos h0] at h ⊢
   cases hl : (rdV t).1 with
   | nil => rfl
   | cons q r =>
     obtain ⟨no, ws⟩ := q
     rw [hl] at h
     simp only [] at h ⊢
     by_cases h1 : heE ws = 0
     · rw [if_pos h1] at h ⊢
       cases hp : heP ws with
       | none => rfl
       | some q =>
         obtain ⟨n, c, k⟩ := q
         rw [hp] at h
         exact flV_bad h
     · rw [if_neg h1]
 · rw [if_neg h0]
end

/- Package elefile: filled. -/
section
set_option maxRecDepth 100000
open Go.RowKit Go.Shelf Go.Lib
attribute [local go_sem] run_store_str
theorem makeR_ex (n : Nat) (hn : n ≤ 2000000) : ∃ cs : Array Value, cs.size = n * 2 ∧ ∀ W : World, (Instr.makeSlice 28 (.int .i64 0) (.int .i64 (n : Int))).run Tryd.prog W = .ok (.slice (some ⟨W.heap.size, 0, none⟩) 0 n) (W.alloc (.cells cs 38)) := by
 obtain ⟨i0, hi0, hz0, hz1, hz2⟩ := info_parts (show (Tryd.prog.info? 38).map (fun i => (i.zero, i.size, i.bytes)) = some (some (.agg rw2), 2, 48) by kernel_rfl)
 refine ⟨madeCells (.agg rw2 : Value).cells (n * 2), size_madeCells _ _, fun W => ?_⟩
 have h := run_make (P := Tryd.prog) W 28 38 i0 _ Tryd.underlying28 hi0 hz0 .i64 .i64 0 (n : Int) (by omega) (by omega) (by rw [hz2]; omega) (by omega)
 rw [hz1] at h
 exact h
theorem own_room2 {W : World} {cs : Array Value} {n t : Nat} (h : cs.size = n * 2) (hn : n ≤ 2000000) : (W.alloc (.cells cs t)).ownsRow W.heap.size t 2 (.slice (some ⟨W.heap.size, 0, none⟩) 0 n) 0 [] :=
 ⟨by simp, Or.inr ⟨W.heap.size, n, cs, rfl, Nat.le_refl _, heap_alloc_new W _, by omega, by unfold maxLen; omega, by omega, by simp⟩⟩
structure Lf (W : World) (v : Value) (ps : List Lt) : Prop where
 form : ∃ a c, v = .slice a ps.length c ∧ ps.length ≤ c ∧ c ≤ 9223372036854775807 ∧ (ps = [] ∨ ∃ g off, a = some ⟨g, off, none⟩ ∧ g < W.heap.size ∧ ∀ k p, ps[k]? = some p → W.cell? ⟨g, off + k * 2, none⟩ = some (.int .i64 (p.1 : Nat)) ∧ W.cell? ⟨g, off + k * 2 + 1, none⟩ = some p.2.2)
 sub : ∀ p ∈ ps, Sl W p.2.2 p.2.1 ∧ Bk W.heap.size p.2.2
theorem res_filE (W : World) (B : Nat) (a b c d : Value) (n1 n2 : Int) (tmps : Array Value) (h : CB W B #[a, b, c, d] 30)
   (t6 : tmps[6]? = some (.pointer (some ⟨B, 0, none⟩))) (t7 : tmps[7]? = some (.int .i64 n1)) (t8 : tmps[8]? = some (.int .i64 n2)) : (results Tryd.f13 tmps).run Tryd.prog W = .ok (.tuple #[.agg #[a, b, c, d], .int .i64 n1, .int .i64 n2]) W := by
 have c0 := h.cell 0 (by simp)
 have c1 := h.cell 1 (by simp)
 have c2 := h.cell 2 (by simp)
 have c3 := h.cell 3 (by simp)
 simp [results, Tryd.f13, go_sem, c0, c1, c2, c3, t6, t7, t8]
set_option maxHeartbeats 32000000 in
theorem filledE_any {p : Pm} (hp : p.Ok) (v : Value) (ps : List Lt) (n c k : Nat) (w : World) (hL : Lf w v ps) (hl : ∀ q ∈ ps, ∀ x ∈ q.2.1, x.length ≤ 900000) (hne : ∀ q ∈ ps, q.2.1 ≠ []) (hps : ps.length ≤ 20000000) (hno : ∀ q ∈ ps, q.1 ≤ 20000000) (hn : n ≤ 1048576) (hc0 : 3 ≤ c) (hc : c ≤ 6) (hk : k ≤ 16) (hT : Tab w) :
   Calls Tryd.prog 13 #[.agg #[.int .i64 0, .int .i64 (c : Nat), .int .i64 (k : Nat), .slice none 0 0], .int .i64 (n : Nat), v] w fun e w' => FiR p w w' n c k (tell ps) e := by
 have HP := Lib.hid hp
 have HL := Lib.hid hl
 have HNe := Lib.hid hne
 have HNo := Lib.hid hno
 have HTb := Lib.hid hT
 obtain ⟨⟨va, vc, rfl, hv1, hv2, hm⟩, hsub⟩ := hL
 have HM := Lib.hid hm
 have HSub := Lib.hid hsub
 obtain ⟨N, hN⟩ : ∃ N, Hid (ps.length = N) := ⟨_, Lib.hid rfl⟩
 rw [hN.out] at hv1 hps ⊢
 obtain ⟨mn, hmn⟩ : ∃ mn : Nat, min ((n : Nat) : Int) ((N : Nat) : Int) = ((mn : Nat) : Int) := ⟨min n N, by omega⟩
 obtain ⟨cs, hcs, hmk0⟩ := makeR_ex mn (by omega)
 have hmk : ∀ W : World, (Instr.makeSlice 28 (.int .i64 0) (.int .i64 (min ((n : Nat) : Int) ((N : Nat) : Int)))).run Tryd.prog W = .ok (.slice (some ⟨W.heap.size, 0, none⟩) 0 mn) (W.alloc (.cells cs 38)) := fun W => by rw [hmn]; exact hmk0 W
 obtain ⟨W0, hW0⟩ : ∃ W0, (w.alloc (.cells #[.int .i64 0, .int .i64 (c : Nat), .int .i64 (k : Nat), .slice none 0 0] 30)).alloc (.cells fe4 30) = W0 := ⟨_, rfl⟩
 have b0 : Below w.heap.size w W0 := by rw [← hW0]; exact ((Below.refl _ w).alloc (Nat.le_refl _) _).alloc (by simp) _
 have z0 : W0.heap.size = w.heap.size + 2 := by rw [← hW0]; simp
 have q3 : CB W0 w.heap.size #[.int .i64 0, .int .i64 (c : Nat), .int .i64 (k : Nat), .slice none 0 0] 30 := by rw [← hW0]; exact (CB.new w _ _).later ((Below.refl _ _).alloc (Nat.le_refl _) _)
 have q4 : CB W0 (w.heap.size + 1) fe4 30 := by
   rw [← hW0]
   have := CB.new (w.alloc (.cells #[.int .i64 0, .int .i64 (c : Nat), .int .i64 (k : Nat), .slice none 0 0] 30)) fe4 30
   rwa [World.size_alloc] at this
 obtain ⟨W1, hW1⟩ : ∃ W1, W0.alloc (.cells cs 38) = W1 := ⟨_, rfl⟩
 have b1 : Below W0.heap.size W0 W1 := by rw [← hW1]; exact (Below.refl _ _).alloc (Nat.le_refl _) _
 have q3' := q3.later b1
 have r3 := q3'.cell 3 (by simp)
 have f3 := q3'.frozen 3
 obtain ⟨W2, hW2⟩ : ∃ W2, W1.setCell ⟨w.heap.size, 3, none⟩ (.slice (some ⟨w.heap.size + 2, 0, none⟩) 0 mn) = W2 := ⟨_, rfl⟩
 have HF0 : Hid (Fi w W2 0 c k (.slice (some ⟨w.heap.size + 2, 0, none⟩) 0 mn) []) := Lib.hid (by
   have ho := Ob.set w.heap.size 3 W1 (.slice (some ⟨w.heap.size + 2, 0, none⟩) 0 mn)
   have hrow : W1.ownsRow (w.heap.size + 2) 38 2 (.slice (some ⟨w.heap.size + 2, 0, none⟩) 0 mn) 0 [] := by
     have := own_room2 (W := W0) (t := 38) hcs (by omega)
     rw [hW1, z0] at this
     exact this
   rw [← hW2]
   refine ⟨(b0.trans (b1.mono (by omega))).setCell (Nat.le_refl _) _, by have := q3'.set 3 (.slice (some ⟨w.heap.size + 2, 0, none⟩) 0 mn); simpa using this, (q4.later b1).other (by omega) _, (Er.nil hrow).ob ho (by omega)⟩)
 have hz : W0.heap.size = w.heap.size + 2 := z0
 have hn' : (n : Int) ≤ 1048576 := by omega
 have hN' : (N : Int) ≤ 20000000 := by omega
 clear hl hne hno hT hm hsub hp b0 q3 q4 b1 q3' hmn hmk0 hcs z0
 obtain ⟨L, hLL⟩ : ∃ L, Hid (tell ps = L) := ⟨_, Lib.hid rfl⟩
 rw [hLL.out]
 go_enter Tryd.func13, Tryd.ntmps13
 go_wp2_with fail
 try rw [hW2]
 clear hW0 hW1 hW2 hmk r3 f3 hz
 obtain ⟨i0, hi0, hz0, hz1, hz2⟩ := info_parts (show (Tryd.prog.info? 38).map (fun i => (i.zero, i.size, i.bytes)) = some (some (.agg rw2), 2, 48) by kernel_rfl)
 have HLl : Hid (L.length = N) := Lib.hid (by rw [← hLL.out, ← hN.out]; simp [tell])
 have HF1 : Hid (fst1 L ≤ 1) := Lib.hid (by unfold fst1; split <;> (try split) <;> omega)
 go_loopw [21] (fun s21 wr => ∃ (j : Nat) (f : Nat) (lv : Value) (rs : List Rt), s21 = .int .i64 (j : Nat) ∧ j ≤ N ∧ j ≤ n ∧ f ≤ 1 ∧ Hid (Fi w wr f c k lv rs ∧ rs.length = j ∧ f = (if j = 0 then 0 else fst1 L) ∧ goE p (fst1 L) c k 0 (L.take j) = .inr (rs.map (·.1)))) (fun s21 _ => N - (RowKit.intOf s21).toNat)
 case atStart => exact ⟨0, 0, _, [], rfl, by omega, by omega, by omega, HF0.out, rfl, rfl, rfl⟩
 case round =>
   obtain ⟨j, f, lv, rs, rfl, hj1, hj2, hf1, hI⟩ := hrel
   obtain ⟨la, lc, hlv⟩ := own_sliceE hI.out.1.er.own
   have HLn := Lib.hid hI.out.2.1
   rw [HLn.out] at hlv
   subst hlv
   have HGo := Lib.hid hI.out.2.2.2
   have HFf0 := Lib.hid hI.out.2.2.1
   have HFi := Lib.hid hI.out.1
   clear hI
   by_cases hlt : j < N
   · have hlt' : (j : Int) < (N : Int) := by omega
     have hj0 : (0 : Int) ≤ (j : Int) := by omega
     obtain ⟨q, hq⟩ : ∃ q, Hid (ps[j]? = some q) := ⟨_, Lib.hid (List.getElem?_eq_getElem (by rw [hN.out]; exact hlt))⟩
     have hqm : Hid (q ∈ ps) := Lib.hid (List.mem_of_getElem? hq.out)
     obtain ⟨g, off, hga, hg, hcell⟩ := HM.out.resolve_left (fun e => by have := hq.out; rw [e] at this; simp at this)
     subst hga
     obtain ⟨c0, c1⟩ := hcell j q hq.out
     have x0 := cell_later HFi.out.bel hg c0
     have x1 := cell_later HFi.out.bel hg c1
     have hqn : q.1 ≤ 20000000 := HNo.out q hqm.out
     obtain ⟨nq, ws, wv⟩ := q
     have hQ : Hid (L[j]? = some (nq, ws)) := Lib.hid (by rw [← hLL.out]; unfold tell; rw [List.getElem?_map, hq.out]; rfl)
     try dsimp only at x0 x1 hqn
     obtain ⟨wa, wc, hwv⟩ : ∃ wa wc, wv = .slice wa ws.length wc := by
       obtain ⟨a, c', e, _⟩ := (HSub.out _ hqm.out).1.form
       exact ⟨a, c', e⟩
     obtain ⟨W3, hW3⟩ : ∃ W, wr.alloc (.cells #[.int .i64 (nq : Nat), wv] 56) = W := ⟨_, rfl⟩
     obtain ⟨Bl, hBl⟩ : ∃ b, wr.heap.size = b := ⟨_, rfl⟩
     have b3 : Below wr.heap.size wr W3 := by rw [← hW3]; exact (Below.refl _ _).alloc (Nat.le_refl _) _
     have HF3 := Lib.hid (HFi.out.later b3)
     have HLb : Hid (CB W3 Bl #[.int .i64 (nq : Nat), wv] 56) := Lib.hid (by rw [← hBl, ← hW3]; exact CB.new _ _ _)
     have HBl : Hid (Bl ≠ w.heap.size + 1) := Lib.hid (by rw [← hBl]; have := HFi.out.rb.lt; omega)
     obtain ⟨l0, l1⟩ := HLb.out.cells2E
     have HWv := Lib.hid hwv
     clear c0 c1 hcell b3
     by_cases hjn : j = n
     · have hjn' : ((j : Int) == (n : Int)) = true := by rw [beq_iff_eq]; omega
       have HTV := Lib.hid (fl_more (n := n) (by rw [← hjn]; exact hQ.out) (by rw [← hjn]; exact HGo.out))
       obtain ⟨W4, hW4⟩ : ∃ W, W3.drew = W := ⟨_, rfl⟩
       have HR : Hid (CB W4 (w.heap.size + 1) fe4 30 ∧ Below w.heap.size w W4) := Lib.hid (by rw [← hW4]; exact ⟨HF3.out.rb, HF3.out.bel.drew⟩)
       have l2 : W4.cell? ⟨Bl, 0, none⟩ = some (.int .i64 (nq : Nat)) := by rw [← hW4]; exact l0
       obtain ⟨k20, k21, k22, k23⟩ := HR.out.1.cells4E
       have f20 := HR.out.1.frozen 0
       have f21 := HR.out.1.frozen 1
       have f22 := HR.out.1.frozen 2
       have f23 := HR.out.1.frozen 3
       have hBn : Bl ≠ w.heap.size + 1 := HBl.out
       have hBn2 : w.heap.size + 1 ≠ Bl := fun e => hBn e.symm
       subst hwv
       clear hjn
       go_wp2_with fail
       go_region
       all_goals
         go_wp2
         refine bodyPost_ret (res_filE _ (w.heap.size + 1) _ _ _ _ _ _ _ (set4E HR.out.1 _ _ _ _) rfl rfl rfl) rfl ?_
         exact FiR.bad ((((HR.out.2.setCell (p := ⟨w.heap.size + 1, 0, none⟩) (by show w.heap.size ≤ w.heap.size + 1; omega) _).setCell (p := ⟨w.heap.size + 1, 1, none⟩) (by show w.heap.size ≤ w.heap.size + 1; omega) _).setCell (p := ⟨w.heap.size + 1, 2, none⟩) (by show w.heap.size ≤ w.heap.size + 1; omega) _).setCell (p := ⟨w.heap.size + 1, 3, none⟩) (by show w.heap.size ≤ w.heap.size + 1; omega) _) HTV.out
     · have hjn' : ((j : Int) == (n : Int)) = false := by rw [beq_eq_false_iff_ne]; omega
       have hjlt : j < n := by omega
       by_cases hjz : j = 0
       · have hjz' : ((j : Int) == 0) = true := by rw [beq_iff_eq]; omega
         obtain ⟨y, r, hws⟩ : ∃ y r, ws = y :: r := by
           rcases hw : ws with _ | ⟨y, r⟩
           · exact absurd hw (HNe.out _ hqm.out)
           · exact ⟨y, r, rfl⟩
         obtain ⟨wg, woff, hwa, hwg, hwc⟩ := ((HSub.out _ hqm.out).1.form).elim fun a h => h.elim fun c' h => by
           obtain ⟨e, _, _, h4⟩ := h
           rw [hwv] at e
           cases e
           rcases h4 with h4 | ⟨g', o', e1, e2, e3⟩
           · rw [hws] at h4; cases h4
           · exact (⟨g', o', e1, e2, e3 0 y (by rw [hws]; rfl)⟩ : ∃ g' o', wa = some ⟨g', o', none⟩ ∧ g' < w.heap.size ∧ w.cell? ⟨g', o' + 0, none⟩ = some (sv y))
         have xw := cell_later HF3.out.bel hwg hwc
         rw [Nat.add_zero] at xw
         have hwl : (0 : Int) < (ws.length : Int) := by rw [hws]; simp only [List.length_cons]; omega
         have HF1' : Hid (fst1 L = if y = [49] then 1 else 0) := Lib.hid (by
           have h := hQ.out
           rw [hjz] at h
           rcases L with _ | ⟨⟨n', ws'⟩, L'⟩
           · simp at h
           · simp at h
             obtain ⟨rfl, rfl⟩ := h
             unfold fst1
             rw [hws]
             rfl)
         subst hwa
         have HWs := Lib.hid hws
         have HJz := Lib.hid hjz
         clear hws hwc hjz
         subst hwv
         by_cases hy : y = [49]
         · have hyb : (y == [49]) = true := by simpa using hy
           obtain ⟨W4, hW4⟩ : ∃ W, W3.setCell ⟨w.heap.size, 0, none⟩ (.int .i64 1) = W := ⟨_, rfl⟩
           have HW : Hid (Fi w W4 1 c k (.slice la j lc) rs) := Lib.hid (by rw [← hW4]; exact HF3.out.first)
           have r0 := HF3.out.fb.cell 0 (by simp)
           have fr0 := HF3.out.fb.frozen 0
           have HLb4 : Hid (CB W4 Bl #[.int .i64 (nq : Nat), .slice (some ⟨wg, woff, none⟩) ws.length wc] 56) := Lib.hid (by rw [← hW4]; exact HLb.out.other (by rw [← hBl]; have := HFi.out.fb.lt; omega) _)
           have HLb := HLb4
           obtain ⟨l2, l3⟩ := HLb4.out.cells2E
           have HFf : Hid (1 = fst1 L) := Lib.hid (by rw [HF1'.out, if_pos hy])
           subst hy
           have HRo := Lib.hid (rowOfE_any HP.out _ ws 1 c k j la lc W4 ((HSub.out _ hqm.out).1.later HW.out.bel) (fun b hb => Nat.lt_of_lt_of_le ((HSub.out _ hqm.out).2 b hb) HW.out.bel.size) (HL.out _ hqm.out) (by omega) hc0 hc hk (by omega) (HTb.out.later HW.out.bel))
           obtain ⟨y0, y1, y2, y3⟩ := HW.out.fb.cells4E
           go_wp2_with fail
           try rw [hW3]
           try rw [hBl]
           try rw [hW4]
           refine HRo.out.mono ?_
           rintro e W5 ⟨hb5, tv, av, rfl, hgo, hno5⟩
           obtain ⟨E, hE⟩ : ∃ E, Hid (rwE p 1 c k j ws = E) := ⟨_, Lib.hid rfl⟩
           rw [hE.out] at hgo hno5 ⊢
           have HF5 := Lib.hid (HW.out.later hb5)
           have HK5 := Lib.hid (HLb.out.later hb5)
           have HBs : Hid (w.heap.size + 2 ≤ W4.heap.size) := Lib.hid (by have := HW.out.rb.lt; omega)
           clear HRo hb5 y0 y1 y2 y3
           by_cases hE0 : E = 0
           · subst hE0
             obtain ⟨hg1, hg2⟩ := hgo rfl
             obtain ⟨ta, tc, htv⟩ : ∃ a c', tv = .slice a (isV (rwV p 1 c ws).t).length c' := by obtain ⟨a, c', e, _⟩ := hg1; exact ⟨a, c', e⟩
             obtain ⟨ua, uc, hav⟩ : ∃ a c', av = .slice a (f64s (rwV p 1 c ws).a).length c' := by obtain ⟨a, c', e, _⟩ := hg2; exact ⟨a, c', e⟩
             obtain ⟨L1, hL1⟩ : ∃ L1, (isV (rwV p 1 c ws).t).length = L1 := ⟨_, rfl⟩
             obtain ⟨L2, hL2⟩ : ∃ L2, (f64s (rwV p 1 c ws).a).length = L2 := ⟨_, rfl⟩
             rw [hL1] at htv
             rw [hL2] at hav
             subst htv hav
             obtain ⟨W6, hW6⟩ : ∃ W, W5.alloc (.cells #[.slice ta L1 tc, .slice ua L2 uc] 38) = W := ⟨_, rfl⟩
             obtain ⟨Br, hBr⟩ : ∃ b, W5.heap.size = b := ⟨_, rfl⟩
             have b6 : Below W5.heap.size W5 W6 := by rw [← hW6]; exact (Below.refl _ _).alloc (Nat.le_refl _) _
             have H6 : Hid (Fi w W6 1 c k (.slice la j lc) rs ∧ CB W6 Br #[.slice ta L1 tc, .slice ua L2 uc] 38 ∧ Co W6 (w.heap.size + 2) 3 (.slice ta L1 tc) (isV (rwV p 1 c ws).t) ∧ Co W6 (w.heap.size + 2) 39 (.slice ua L2 uc) (f64s (rwV p 1 c ws).a)) := Lib.hid ⟨HF5.out.later b6, by rw [← hBr, ← hW6]; exact CB.new _ _ _, (hg1.later b6).base HBs.out, (hg2.later b6).base HBs.out⟩
             obtain ⟨m0, m1⟩ := H6.out.2.1.cells2E
             have n3 := H6.out.1.fb.cell 3 (by simp)
             clear hgo hno5 hg1 hg2 b6 hL1 hL2
             go_wp2_with (at_builtin; refine wpList_append_own _ rfl _ _ 28 rfl (w.heap.size + 2) 38 i0 (.agg rw2) 2 48 Tryd.underlying28 hi0 hz0 hz1 hz2 rfl (by decide) (.slice la j lc) rs.length (rcs rs) rfl (World.ownsRow.alloc H6.out.1.er.own _) ⟨W6.heap.size, 0, none⟩ 1 1 [.slice ta L1 tc, .slice ua L2 uc] rfl rfl (World.news_of_block (cs := #[.slice ta L1 tc, .slice ua L2 uc]) (t := 38) (fr := (0, 0)) (heap_alloc_new W6 _)) (by simp [Value.oneCell']) (by unfold maxLen; have := HLn.out; omega) (by have := HLn.out; omega) (by have := H6.out.1.rb.lt; simp; omega) ?_; intro v' W9 hown hgrow _; obtain ⟨na, nc, rfl⟩ := own_sliceE hown; obtain ⟨⟨s1, s2⟩, h9⟩ := H6.out.1.append (q := (rwV p 1 c ws, .slice ta L1 tc, .slice ua L2 uc)) H6.out.2.2 hown hgrow; have H9 := Lib.hid h9; clear hown hgrow h9)
             refine ⟨⟨j + 1, 1, _, rs ++ [(rwV p 1 c ws, .slice ta L1 tc, .slice ua L2 uc)], by go_num, by omega, by omega, by omega, H9.out, by rw [List.length_append, HLn.out]; rfl, by rw [if_neg (by omega)]; exact HFf.out, ?_⟩, by simp [RowKit.intOf]; omega⟩
             have h1 := fl_step hQ.out HGo.out (by rw [← HFf.out]; exact hE.out)
             rw [h1, ← HFf.out]
             simp
           · obtain ⟨rfl, rfl⟩ := hno5 hE0
             have hE1 : (E == 0) = false := by simpa using hE0
             have hE2 : (E != 0) = true := by simpa using hE0
             have HTV := Lib.hid (fl_bad hQ.out (show j < n by omega) HGo.out (by rw [← HFf.out]; exact hE.out) hE0)
             obtain ⟨W6, hW6⟩ : ∃ W, (W5.alloc (.cells rw2 38)).drew = W := ⟨_, rfl⟩
             have b6 : Below W5.heap.size W5 W6 := by rw [← hW6]; exact ((Below.refl _ _).alloc (Nat.le_refl _) _).drew
             have HR : Hid (CB W6 (w.heap.size + 1) fe4 30 ∧ Below w.heap.size w W6) := Lib.hid ⟨HF5.out.rb.later b6, (HF5.out.later b6).bel⟩
             obtain ⟨z0, z1⟩ := (HK5.out.later b6).cells2E
             obtain ⟨k20, k21, k22, k23⟩ := HR.out.1.cells4E
             have f20 := HR.out.1.frozen 0
             have f21 := HR.out.1.frozen 1
             have f22 := HR.out.1.frozen 2
             have f23 := HR.out.1.frozen 3
             have hBn : Bl ≠ w.heap.size + 1 := HBl.out
             have hBn2 : w.heap.size + 1 ≠ Bl := fun e => hBn e.symm
             clear hgo hno5 b6 hE0
             go_wp2_with fail
             go_region
             all_goals
               go_wp2
               refine bodyPost_ret (res_filE _ (w.heap.size + 1) _ _ _ _ _ _ _ (set4E HR.out.1 _ _ _ _) rfl rfl rfl) rfl ?_
               exact FiR.bad ((((HR.out.2.setCell (p := ⟨w.heap.size + 1, 0, none⟩) (by show w.heap.size ≤ w.heap.size + 1; omega) _).setCell (p := ⟨w.heap.size + 1, 1, none⟩) (by show w.heap.size ≤ w.heap.size + 1; omega) _).setCell (p := ⟨w.heap.size + 1, 2, none⟩) (by show w.heap.size ≤ w.heap.size + 1; omega) _).setCell (p := ⟨w.heap.size + 1, 3, none⟩) (by show w.heap.size ≤ w.heap.size + 1; omega) _) HTV.out
         · have hyb : (y == [49]) = false := by simpa using hy
           have HFf : Hid (f = fst1 L) := Lib.hid (by rw [HF1'.out, if_neg hy, HFf0.out, if_pos HJz.out])
           have HW := HF3
           obtain ⟨W4, hW4⟩ : ∃ W, W3 = W := ⟨_, rfl⟩
           clear hW4
           have HRo := Lib.hid (rowOfE_any HP.out _ ws f c k j la lc W3 ((HSub.out _ hqm.out).1.later HW.out.bel) (fun b hb => Nat.lt_of_lt_of_le ((HSub.out _ hqm.out).2 b hb) HW.out.bel.size) (HL.out _ hqm.out) (by omega) hc0 hc hk (by omega) (HTb.out.later HW.out.bel))
           obtain ⟨y0, y1, y2, y3⟩ := HW.out.fb.cells4E
           go_wp2_with fail
           try rw [hW3]
           try rw [hBl]
           try rw [hW4]
           refine HRo.out.mono ?_
           rintro e W5 ⟨hb5, tv, av, rfl, hgo, hno5⟩
           obtain ⟨E, hE⟩ : ∃ E, Hid (rwE p f c k j ws = E) := ⟨_, Lib.hid rfl⟩
           rw [hE.out] at hgo hno5 ⊢
           have HF5 := Lib.hid (HW.out.later hb5)
           have HK5 := Lib.hid (HLb.out.later hb5)
           have HBs : Hid (w.heap.size + 2 ≤ W3.heap.size) := Lib.hid (by have := HW.out.rb.lt; omega)
           clear HRo hb5 y0 y1 y2 y3
           by_cases hE0 : E = 0
           · subst hE0
             obtain ⟨hg1, hg2⟩ := hgo rfl
             obtain ⟨ta, tc, htv⟩ : ∃ a c', tv = .slice a (isV (rwV p f c ws).t).length c' := by obtain ⟨a, c', e, _⟩ := hg1; exact ⟨a, c', e⟩
             obtain ⟨ua, uc, hav⟩ : ∃ a c', av = .slice a (f64s (rwV p f c ws).a).length c' := by obtain ⟨a, c', e, _⟩ := hg2; exact ⟨a, c', e⟩
             obtain ⟨L1, hL1⟩ : ∃ L1, (isV (rwV p f c ws).t).length = L1 := ⟨_, rfl⟩
             obtain ⟨L2, hL2⟩ : ∃ L2, (f64s (rwV p f c ws).a).length = L2 := ⟨_, rfl⟩
             rw [hL1] at htv
             rw [hL2] at hav
             subst htv hav
             obtain ⟨W6, hW6⟩ : ∃ W, W5.alloc (.cells #[.slice ta L1 tc, .slice ua L2 uc] 38) = W := ⟨_, rfl⟩
             obtain ⟨Br, hBr⟩ : ∃ b, W5.heap.size = b := ⟨_, rfl⟩
             have b6 : Below W5.heap.size W5 W6 := by rw [← hW6]; exact (Below.refl _ _).alloc (Nat.le_refl _) _
             have H6 : Hid (Fi w W6 f c k (.slice la j lc) rs ∧ CB W6 Br #[.slice ta L1 tc, .slice ua L2 uc] 38 ∧ Co W6 (w.heap.size + 2) 3 (.slice ta L1 tc) (isV (rwV p f c ws).t) ∧ Co W6 (w.heap.size + 2) 39 (.slice ua L2 uc) (f64s (rwV p f c ws).a)) := Lib.hid ⟨HF5.out.later b6, by rw [← hBr, ← hW6]; exact CB.new _ _ _, (hg1.later b6).base HBs.out, (hg2.later b6).base HBs.out⟩
             obtain ⟨m0, m1⟩ := H6.out.2.1.cells2E
             have n3 := H6.out.1.fb.cell 3 (by simp)
             clear hgo hno5 hg1 hg2 b6 hL1 hL2
             go_wp2_with (at_builtin; refine wpList_append_own _ rfl _ _ 28 rfl (w.heap.size + 2) 38 i0 (.agg rw2) 2 48 Tryd.underlying28 hi0 hz0 hz1 hz2 rfl (by decide) (.slice la j lc) rs.length (rcs rs) rfl (World.ownsRow.alloc H6.out.1.er.own _) ⟨W6.heap.size, 0, none⟩ 1 1 [.slice ta L1 tc, .slice ua L2 uc] rfl rfl (World.news_of_block (cs := #[.slice ta L1 tc, .slice ua L2 uc]) (t := 38) (fr := (0, 0)) (heap_alloc_new W6 _)) (by simp [Value.oneCell']) (by unfold maxLen; have := HLn.out; omega) (by have := HLn.out; omega) (by have := H6.out.1.rb.lt; simp; omega) ?_; intro v' W9 hown hgrow _; obtain ⟨na, nc, rfl⟩ := own_sliceE hown; obtain ⟨⟨s1, s2⟩, h9⟩ := H6.out.1.append (q := (rwV p f c ws, .slice ta L1 tc, .slice ua L2 uc)) H6.out.2.2 hown hgrow; have H9 := Lib.hid h9; clear hown hgrow h9)
             refine ⟨⟨j + 1, f, _, rs ++ [(rwV p f c ws, .slice ta L1 tc, .slice ua L2 uc)], by go_num, by omega, by omega, by omega, H9.out, by rw [List.length_append, HLn.out]; rfl, by rw [if_neg (by omega)]; exact HFf.out, ?_⟩, by simp [RowKit.intOf]; omega⟩
             have h1 := fl_step hQ.out HGo.out (by rw [← HFf.out]; exact hE.out)
             rw [h1, ← HFf.out]
             simp
           · obtain ⟨rfl, rfl⟩ := hno5 hE0
             have hE1 : (E == 0) = false := by simpa using hE0
             have hE2 : (E != 0) = true := by simpa using hE0
             have HTV := Lib.hid (fl_bad hQ.out (show j < n by omega) HGo.out (by rw [← HFf.out]; exact hE.out) hE0)
             obtain ⟨W6, hW6⟩ : ∃ W, (W5.alloc (.cells rw2 38)).drew = W := ⟨_, rfl⟩
             have b6 : Below W5.heap.size W5 W6 := by rw [← hW6]; exact ((Below.refl _ _).alloc (Nat.le_refl _) _).drew
             have HR : Hid (CB W6 (w.heap.size + 1) fe4 30 ∧ Below w.heap.size w W6) := Lib.hid ⟨HF5.out.rb.later b6, (HF5.out.later b6).bel⟩
             obtain ⟨z0, z1⟩ := (HK5.out.later b6).cells2E
             obtain ⟨k20, k21, k22, k23⟩ := HR.out.1.cells4E
             have f20 := HR.out.1.frozen 0
             have f21 := HR.out.1.frozen 1
             have f22 := HR.out.1.frozen 2
             have f23 := HR.out.1.frozen 3
             have hBn : Bl ≠ w.heap.size + 1 := HBl.out
             have hBn2 : w.heap.size + 1 ≠ Bl := fun e => hBn e.symm
             clear hgo hno5 b6 hE0
             go_wp2_with fail
             go_region
             all_goals
               go_wp2
               refine bodyPost_ret (res_filE _ (w.heap.size + 1) _ _ _ _ _ _ _ (set4E HR.out.1 _ _ _ _) rfl rfl rfl) rfl ?_
               exact FiR.bad ((((HR.out.2.setCell (p := ⟨w.heap.size + 1, 0, none⟩) (by show w.heap.size ≤ w.heap.size + 1; omega) _).setCell (p := ⟨w.heap.size + 1, 1, none⟩) (by show w.heap.size ≤ w.heap.size + 1; omega) _).setCell (p := ⟨w.heap.size + 1, 2, none⟩) (by show w.heap.size ≤ w.heap.size + 1; omega) _).setCell (p := ⟨w.heap.size + 1, 3, none⟩) (by show w.heap.size ≤ w.heap.size + 1; omega) _) HTV.out
       · have hjz' : ((j : Int) == 0) = false := by rw [beq_eq_false_iff_ne]; omega
         have HFf : Hid (f = fst1 L) := Lib.hid (by rw [HFf0.out, if_neg hjz])
         have HW := HF3
         obtain ⟨W4, hW4⟩ : ∃ W, W3 = W := ⟨_, rfl⟩
         clear hW4
         subst hwv
         have HRo := Lib.hid (rowOfE_any HP.out _ ws f c k j la lc W3 ((HSub.out _ hqm.out).1.later HW.out.bel) (fun b hb => Nat.lt_of_lt_of_le ((HSub.out _ hqm.out).2 b hb) HW.out.bel.size) (HL.out _ hqm.out) (by omega) hc0 hc hk (by omega) (HTb.out.later HW.out.bel))
         obtain ⟨y0, y1, y2, y3⟩ := HW.out.fb.cells4E
         go_wp2_with fail
         try rw [hW3]
         try rw [hBl]
         try rw [hW4]
         refine HRo.out.mono ?_
         rintro e W5 ⟨hb5, tv, av, rfl, hgo, hno5⟩
         obtain ⟨E, hE⟩ : ∃ E, Hid (rwE p f c k j ws = E) := ⟨_, Lib.hid rfl⟩
         rw [hE.out] at hgo hno5 ⊢
         have HF5 := Lib.hid (HW.out.later hb5)
         have HK5 := Lib.hid (HLb.out.later hb5)
         have HBs : Hid (w.heap.size + 2 ≤ W3.heap.size) := Lib.hid (by have := HW.out.rb.lt; omega)
         clear HRo hb5 y0 y1 y2 y3
         by_cases hE0 : E = 0
         · subst hE0
           obtain ⟨hg1, hg2⟩ := hgo rfl
           obtain ⟨ta, tc, htv⟩ : ∃ a c', tv = .slice a (isV (rwV p f c ws).t).length c' := by obtain ⟨a, c', e, _⟩ := hg1; exact ⟨a, c', e⟩
           obtain ⟨ua, uc, hav⟩ : ∃ a c', av = .slice a (f64s (rwV p f c ws).a).length c' := by obtain ⟨a, c', e, _⟩ := hg2; exact ⟨a, c', e⟩
           obtain ⟨L1, hL1⟩ : ∃ L1, (isV (rwV p f c ws).t).length = L1 := ⟨_, rfl⟩
           obtain ⟨L2, hL2⟩ : ∃ L2, (f64s (rwV p f c ws).a).length = L2 := ⟨_, rfl⟩
           rw [hL1] at htv
           rw [hL2] at hav
           subst htv hav
           obtain ⟨W6, hW6⟩ : ∃ W, W5.alloc (.cells #[.slice ta L1 tc, .slice ua L2 uc] 38) = W := ⟨_, rfl⟩
           obtain ⟨Br, hBr⟩ : ∃ b, W5.heap.size = b := ⟨_, rfl⟩
           have b6 : Below W5.heap.size W5 W6 := by rw [← hW6]; exact (Below.refl _ _).alloc (Nat.le_refl _) _
           have H6 : Hid (Fi w W6 f c k (.slice la j lc) rs ∧ CB W6 Br #[.slice ta L1 tc, .slice ua L2 uc] 38 ∧ Co W6 (w.heap.size + 2) 3 (.slice ta L1 tc) (isV (rwV p f c ws).t) ∧ Co W6 (w.heap.size + 2) 39 (.slice ua L2 uc) (f64s (rwV p f c ws).a)) := Lib.hid ⟨HF5.out.later b6, by rw [← hBr, ← hW6]; exact CB.new _ _ _, (hg1.later b6).base HBs.out, (hg2.later b6).base HBs.out⟩
           obtain ⟨m0, m1⟩ := H6.out.2.1.cells2E
           have n3 := H6.out.1.fb.cell 3 (by simp)
           clear hgo hno5 hg1 hg2 b6 hL1 hL2
           go_wp2_with (at_builtin; refine wpList_append_own _ rfl _ _ 28 rfl (w.heap.size + 2) 38 i0 (.agg rw2) 2 48 Tryd.underlying28 hi0 hz0 hz1 hz2 rfl (by decide) (.slice la j lc) rs.length (rcs rs) rfl (World.ownsRow.alloc H6.out.1.er.own _) ⟨W6.heap.size, 0, none⟩ 1 1 [.slice ta L1 tc, .slice ua L2 uc] rfl rfl (World.news_of_block (cs := #[.slice ta L1 tc, .slice ua L2 uc]) (t := 38) (fr := (0, 0)) (heap_alloc_new W6 _)) (by simp [Value.oneCell']) (by unfold maxLen; have := HLn.out; omega) (by have := HLn.out; omega) (by have := H6.out.1.rb.lt; simp; omega) ?_; intro v' W9 hown hgrow _; obtain ⟨na, nc, rfl⟩ := own_sliceE hown; obtain ⟨⟨s1, s2⟩, h9⟩ := H6.out.1.append (q := (rwV p f c ws, .slice ta L1 tc, .slice ua L2 uc)) H6.out.2.2 hown hgrow; have H9 := Lib.hid h9; clear hown hgrow h9)
           refine ⟨⟨j + 1, f, _, rs ++ [(rwV p f c ws, .slice ta L1 tc, .slice ua L2 uc)], by go_num, by omega, by omega, by omega, H9.out, by rw [List.length_append, HLn.out]; rfl, by rw [if_neg (by omega)]; exact HFf.out, ?_⟩, by simp [RowKit.intOf]; omega⟩
           have h1 := fl_step hQ.out HGo.out (by rw [← HFf.out]; exact hE.out)
           rw [h1, ← HFf.out]
           simp
         · obtain ⟨rfl, rfl⟩ := hno5 hE0
           have hE1 : (E == 0) = false := by simpa using hE0
           have hE2 : (E != 0) = true := by simpa using hE0
           have HTV := Lib.hid (fl_bad hQ.out (show j < n by omega) HGo.out (by rw [← HFf.out]; exact hE.out) hE0)
           obtain ⟨W6, hW6⟩ : ∃ W, (W5.alloc (.cells rw2 38)).drew = W := ⟨_, rfl⟩
           have b6 : Below W5.heap.size W5 W6 := by rw [← hW6]; exact ((Below.refl _ _).alloc (Nat.le_refl _) _).drew
           have HR : Hid (CB W6 (w.heap.size + 1) fe4 30 ∧ Below w.heap.size w W6) := Lib.hid ⟨HF5.out.rb.later b6, (HF5.out.later b6).bel⟩
           obtain ⟨z0, z1⟩ := (HK5.out.later b6).cells2E
           obtain ⟨k20, k21, k22, k23⟩ := HR.out.1.cells4E
           have f20 := HR.out.1.frozen 0
           have f21 := HR.out.1.frozen 1
           have f22 := HR.out.1.frozen 2
           have f23 := HR.out.1.frozen 3
           have hBn : Bl ≠ w.heap.size + 1 := HBl.out
           have hBn2 : w.heap.size + 1 ≠ Bl := fun e => hBn e.symm
           clear hgo hno5 b6 hE0
           go_wp2_with fail
           go_region
           all_goals
             go_wp2
             refine bodyPost_ret (res_filE _ (w.heap.size + 1) _ _ _ _ _ _ _ (set4E HR.out.1 _ _ _ _) rfl rfl rfl) rfl ?_
             exact FiR.bad ((((HR.out.2.setCell (p := ⟨w.heap.size + 1, 0, none⟩) (by show w.heap.size ≤ w.heap.size + 1; omega) _).setCell (p := ⟨w.heap.size + 1, 1, none⟩) (by show w.heap.size ≤ w.heap.size + 1; omega) _).setCell (p := ⟨w.heap.size + 1, 2, none⟩) (by show w.heap.size ≤ w.heap.size + 1; omega) _).setCell (p := ⟨w.heap.size + 1, 3, none⟩) (by show w.heap.size ≤ w.heap.size + 1; omega) _) HTV.out
   · obtain rfl : j = N := by omega
     have hlt' : ¬ ((j : Int) < (j : Int)) := by omega
     have HFL : Hid (f = fst1 L) := Lib.hid (by
       rw [HFf0.out]
       split
       · rename_i h
         have h1 := HLl.out
         rw [h] at h1
         rw [List.length_eq_zero_iff.1 h1]; rfl
       · rfl)
     have HEn := Lib.hid (fl_end (n := n) (by rw [HLl.out]; exact hj2) (by have := HGo.out; rwa [List.take_of_length_le (by rw [HLl.out]; omega)] at this))
     rw [HLl.out] at HEn
     have HR : Hid (CB wr (w.heap.size + 1) fe4 30 ∧ Below w.heap.size w wr) := Lib.hid ⟨HFi.out.rb, HFi.out.bel⟩
     obtain ⟨y0, y1, y2, y3⟩ := HFi.out.fb.cells4E
     obtain ⟨k20, k21, k22, k23⟩ := HR.out.1.cells4E
     have f20 := HR.out.1.frozen 0
     have f21 := HR.out.1.frozen 1
     have f22 := HR.out.1.frozen 2
     have f23 := HR.out.1.frozen 3
     by_cases hjn : j < n
     · have hjn' : (j : Int) < (n : Int) := by omega
       have HTV : Hid (flV p n c k L = (fe0, 0, 4)) := Lib.hid (by rw [HEn.out, if_pos hjn])
       go_wp2
       refine bodyPost_ret (res_filE _ (w.heap.size + 1) _ _ _ _ _ _ _ (set4E HR.out.1 _ _ _ _) rfl rfl rfl) rfl ?_
       exact FiR.bad ((((HR.out.2.setCell (p := ⟨w.heap.size + 1, 0, none⟩) (by show w.heap.size ≤ w.heap.size + 1; omega) _).setCell (p := ⟨w.heap.size + 1, 1, none⟩) (by show w.heap.size ≤ w.heap.size + 1; omega) _).setCell (p := ⟨w.heap.size + 1, 2, none⟩) (by show w.heap.size ≤ w.heap.size + 1; omega) _).setCell (p := ⟨w.heap.size + 1, 3, none⟩) (by show w.heap.size ≤ w.heap.size + 1; omega) _) HTV.out
     · have hjn' : ¬ ((j : Int) < (n : Int)) := by omega
       have HTV : Hid (flV p n c k L = (⟨(f : Nat), (c : Nat), (k : Nat), rs.map (·.1)⟩, 0, 0)) := Lib.hid (by rw [HEn.out, if_neg hjn, HFL.out])
       go_wp2
       refine bodyPost_ret (res_filE _ (w.heap.size + 1) _ _ _ _ _ _ _ (set4E HR.out.1 _ _ _ _) rfl rfl rfl) rfl ?_
       unfold FiR
       rw [HTV.out]
       have ho : ∀ a b c' d, Ob (w.heap.size + 1) wr ((((wr.setCell ⟨w.heap.size + 1, 0, none⟩ a).setCell ⟨w.heap.size + 1, 1, none⟩ b).setCell ⟨w.heap.size + 1, 2, none⟩ c').setCell ⟨w.heap.size + 1, 3, none⟩ d) := fun a b c' d => (((Ob.set _ _ _ _).trans (Ob.set _ _ _ _)).trans (Ob.set _ _ _ _)).trans (Ob.set _ _ _ _)
       exact ⟨((((HR.out.2.setCell (p := ⟨w.heap.size + 1, 0, none⟩) (by show w.heap.size ≤ w.heap.size + 1; omega) _).setCell (p := ⟨w.heap.size + 1, 1, none⟩) (by show w.heap.size ≤ w.heap.size + 1; omega) _).setCell (p := ⟨w.heap.size + 1, 2, none⟩) (by show w.heap.size ≤ w.heap.size + 1; omega) _).setCell (p := ⟨w.heap.size + 1, 3, none⟩) (by show w.heap.size ≤ w.heap.size + 1; omega) _), la, lc, rs, f, c, k, by rw [HLn.out]; rfl, rfl, by rw [HLn.out]; exact (HFi.out.er.ob (ho _ _ _ _) (by omega)).base (show w.heap.size ≤ w.heap.size + 2 by omega)⟩
end
end Go.Proofs.YtgfloegaoofbbaaDoor
