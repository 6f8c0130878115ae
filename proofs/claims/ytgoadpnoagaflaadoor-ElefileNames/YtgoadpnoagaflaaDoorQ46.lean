/- Own texts, put together: Efw Efy Efya Efz. -/
import Derived.Test.YtgoadpnoagaflaaDoorQ1
import Derived.Test.YtgoadpnoagaflaaDoorQ4
import Derived.Test.YtgoadpnoagaflaaDoorQ42
import Derived.Test.YtgoadpnoagaflaaDoorQ44
import Derived.Test.YtgoadpnoagaflaaDoorQ45
namespace Go.Proofs.YtgoadpnoagaflaaDoor
/- The first example of chapter 11: read and written: works. -/
section
set_option maxRecDepth 100000
open Go.RowKit Go.Shelf Go.Lib
theorem readXE {p : Pm} (hp : p.Ok) (w : World) (hT : Tab w) : Calls Tryd.prog 7 #[.string ⟨exE.toArray⟩] w fun e w' => ∃ a c q0 q1, e = .returned (.tuple #[.agg #[.int .i64 1, .int .i64 3, .int .i64 1, .slice a 2 c], .int .i64 0, .int .i64 0]) ∧ Rv w' (.slice a 2 c) [q0, q1] ∧ q0.1 = ⟨[0, 1, 2], [4602678819172646912]⟩ ∧ q1.1 = ⟨[1, 3, 2], [13830554455654793216]⟩ ∧ Below w.heap.size w w' := by
 refine (readE_any hp ⟨exE.toArray⟩ exE w (by simp) (by decide) hT).mono ?_
 rintro e w' ⟨hb, a, c, rs, f', c', k', rfl, hF, hE⟩
 rw [exE_re hp] at hF ⊢
 have e1 : (1 : Int) = ((f' : Nat) : Int) := congrArg Fe.f hF
 have e2 : (3 : Int) = ((c' : Nat) : Int) := congrArg Fe.c hF
 have e3 : (1 : Int) = ((k' : Nat) : Int) := congrArg Fe.k hF
 have e4 : feX.l = rs.map (·.1) := congrArg Fe.l hF
 rcases rs with _ | ⟨q0, _ | ⟨q1, _ | ⟨q2, r⟩⟩⟩ <;> simp at e4
 obtain ⟨d0, d1⟩ := e4
 refine ⟨a, c, q0, q1, by rw [← e1, ← e2, ← e3]; rfl, hE.rv (fun q hq => ?_), d0.symm, d1.symm, hb⟩
 rcases List.mem_cons.1 hq with rfl | hq
 · rw [← d0]
   refine ⟨fun n hn => ?_, fun x hx => ?_⟩
   · have : 0 ≤ n ∧ n ≤ 2 := by simp at hn; omega
     exact ⟨by omega, by omega⟩
   · rw [List.mem_singleton.1 hx]; decide
 · rw [List.mem_singleton.1 hq, ← d1]
   refine ⟨fun n hn => ?_, fun x hx => ?_⟩
   · have : 0 ≤ n ∧ n ≤ 3 := by simp at hn; omega
     exact ⟨by omega, by omega⟩
   · rw [List.mem_singleton.1 hx]; decide
set_option maxHeartbeats 8000000 in
theorem works11 (w : World) (hT : T8 w) : Calls Tryd.prog 6 #[] w fun e w' => e = .returned (.bool true) ∧ Below w.heap.size w w' := by
 obtain ⟨p, hp⟩ := pm_ex
 have HP := Lib.hid hp
 have HT := Lib.hid hT
 have HA := Lib.hid (readXE hp w hT.1)
 clear hp hT
 go_enter Tryd.func6, Tryd.ntmps6
 go_wp2_with fail
 refine HA.out.mono ?_
 rintro e W1 ⟨a, c, q0, q1, rfl, hR, d0, d1, hb1⟩
 obtain ⟨W2, hW2⟩ : ∃ W2, Hid (W1.alloc (.cells #[.int .i64 1, .int .i64 3, .int .i64 1, .slice a 2 c] 28) = W2) := ⟨_, Lib.hid rfl⟩
 have hb2 : Below W1.heap.size W1 W2 := by rw [← hW2.out]; exact (Below.refl _ _).alloc (Nat.le_refl _) _
 have hb02 : Below w.heap.size w W2 := hb1.trans (hb2.mono hb1.size)
 have cf : CB W2 W1.heap.size #[.int .i64 1, .int .i64 3, .int .i64 1, .slice a 2 c] 28 := by rw [← hW2.out]; exact CB.new _ _ _
 have hR2 := hR.later hb2
 have HWr : Hid (Calls Tryd.prog 9 #[.agg #[.int .i64 1, .int .i64 3, .int .i64 1, .slice a 2 c]] W2 fun e w' => e = .returned (.tuple #[.string ⟨exE.toArray⟩, .int .i64 0]) ∧ Below W2.heap.size W2 w') := Lib.hid (by
   have := writeE_any HP.out 1 3 1 _ [q0, q1] W2 hR2 (by simp) (HT.out.later hb02)
   rw [show ([q0, q1].map (·.1) : List Rw) = feX.l by simp [d0, d1], exE_wr HP.out] at this
   exact this)
 obtain ⟨⟨a', c', e', h2, h3, hm⟩, hsub⟩ := hR2
 cases e'
 obtain ⟨g, off, rfl, hg, hcell⟩ := hm.resolve_left (by simp)
 obtain ⟨x0, x1⟩ := hcell 1 q1 rfl
 obtain ⟨hi, hf⟩ := hsub q1 (by simp)
 obtain ⟨d, tv, av⟩ := q1
 try dsimp only at d1 x0 x1 hi hf
 subst d1
 obtain ⟨⟨ta, tc, rfl, ht2, ht3, htm⟩, _⟩ := hi
 obtain ⟨⟨fa, fc, rfl, hf2, hf3, hfm⟩, _⟩ := hf
 obtain ⟨gt, ot, rfl, hct⟩ := htm.resolve_left (by simp)
 obtain ⟨gf, og, rfl, hcf⟩ := hfm.resolve_left (by simp)
 have y1 := hct 1 (by simp)
 have y2 := hcf 0 (by simp)
 try simp only [List.getD_cons_succ, List.getD_cons_zero, Nat.add_zero, Nat.one_mul, List.length_cons, List.length_nil, Nat.zero_add, Nat.reduceAdd] at x0 x1 y1 y2
 obtain ⟨k0, k1, k2, k3⟩ := cf.cells4E
 have H02 := Lib.hid hb02
 clear hR hb1 hb2 hb02 cf hm hcell hsub htm hfm hct hcf HA d0
 rw [← hW2.out] at HWr H02 x0 x1 y1 y2 k0 k1 k2 k3
 go_wp2_with fail
 refine HWr.out.mono ?_
 rintro e W3 ⟨rfl, hb3⟩
 have HB := Lib.hid (H02.out.trans (hb3.mono H02.out.size))
 clear hb3 HWr
 go_wp2
 go_ret
 exact ⟨rfl, HB.out⟩
end

/- ElefileNames: what the literals of its second table hold. (gen_efy.py) -/
section
set_option maxRecDepth 100000
open Go.RowKit Go.Shelf Go.Lib
def Rws (W : World) (v : Value) (l : List Rw) : Prop := ∃ rs, Rv W v rs ∧ rs.map (·.1) = l
def Rwv (W : World) (v : Value) (r : Rw) : Prop := ∃ tv av, v = .agg #[tv, av] ∧ Is W tv r.t ∧ Fs W av r.a
def Fis (W : World) (v : Value) (f : Fe) : Prop := ∃ lv, v = .agg #[.int .i64 f.f, .int .i64 f.c, .int .i64 f.k, lv] ∧ Rws W lv f.l
def Cf (W : World) (g : Nat) : Prop := g < W.heap.size ∧ ∀ k, k < 10 → ∃ lv, W.cell? ⟨g, k * 4, none⟩ = some (.int .i64 (fE k).f) ∧ W.cell? ⟨g, k * 4 + 1, none⟩ = some (.int .i64 (fE k).c) ∧ W.cell? ⟨g, k * 4 + 2, none⟩ = some (.int .i64 (fE k).k) ∧ W.cell? ⟨g, k * 4 + 3, none⟩ = some lv ∧ Rws W lv (fE k).l
theorem Rws.later {W W' : World} {v : Value} {l : List Rw} (h : Rws W v l) (hb : Below W.heap.size W W') : Rws W' v l := by
 obtain ⟨rs, h1, h2⟩ := h
 exact ⟨rs, h1.later hb, h2⟩
theorem Rws.nil (W : World) : Rws W (.slice none 0 0) [] := ⟨[], ⟨⟨none, 0, rfl, by simp, by omega, Or.inl rfl⟩, fun p hp => by simp at hp⟩, rfl⟩
theorem Rwv.later {W W' : World} {v : Value} {r : Rw} (h : Rwv W v r) (hb : Below W.heap.size W W') : Rwv W' v r := by
 obtain ⟨tv, av, h1, h2, h3⟩ := h
 exact ⟨tv, av, h1, h2.later hb, h3.later hb⟩
theorem Fis.later {W W' : World} {v : Value} {f : Fe} (h : Fis W v f) (hb : Below W.heap.size W W') : Fis W' v f := by
 obtain ⟨lv, h1, h2⟩ := h
 exact ⟨lv, h1, h2.later hb⟩
theorem Cf.later {W W' : World} {g : Nat} (h : Cf W g) (hb : Below W.heap.size W W') : Cf W' g := ⟨Nat.lt_of_lt_of_le h.1 hb.size, fun k hk => by
 obtain ⟨lv, h1, h2, h3, h4, h5⟩ := h.2 k hk
 exact ⟨lv, cell_later hb h.1 h1, cell_later hb h.1 h2, cell_later hb h.1 h3, cell_later hb h.1 h4, h5.later hb⟩⟩
theorem fs_nilE (W : World) : Fs W (.slice none 0 0) [] := ⟨⟨none, 0, rfl, by simp, by omega, Or.inl rfl⟩, fun p hp => by simp at hp⟩
theorem Rws.one {W' : World} {tv av : Value} {r : Rw} {b : Nat} (h : CB W' b #[tv, av] 34) (ht : Is W' tv r.t) (ha : Fs W' av r.a) : Rws W' (.slice (some ⟨b, 0, none⟩) 1 1) [r] := by
 refine ⟨[(r, tv, av)], ⟨⟨_, 1, rfl, by simp, by omega, Or.inr ⟨b, 0, rfl, h.lt, fun k p hk => ?_⟩⟩, fun p hp => ?_⟩, rfl⟩
 · cases k with
   | zero =>
     obtain rfl : (r, tv, av) = p := by simpa using hk
     exact h.cells2E
   | succ k => simp at hk
 · rw [List.mem_singleton.1 hp]; exact ⟨ht, ha⟩
theorem Is.of3 {W : World} {b : Nat} {x y z : Int} (h : CB W b #[.int .i64 x, .int .i64 y, .int .i64 z] 3) (hx : InR x) (hy : InR y) (hz : InR z) : Is W (.slice (some ⟨b, 0, none⟩) 3 3) [x, y, z] := by
 refine ⟨⟨_, 3, rfl, by simp, by omega, Or.inr ⟨b, 0, rfl, fun k hk => ?_⟩⟩, fun n hn => ?_⟩
 · have hc : k = 0 ∨ k = 1 ∨ k = 2 := by simp at hk; omega
   rcases hc with rfl | rfl | rfl
   · exact h.cell 0 (by simp)
   · exact h.cell 1 (by simp)
   · exact h.cell 2 (by simp)
 · simp at hn
   rcases hn with rfl | rfl | rfl
   · exact hx
   · exact hy
   · exact hz
theorem Is.of2 {W : World} {b : Nat} {x y z : Int} (h : CB W b #[.int .i64 x, .int .i64 y, .int .i64 z] 3) (hx : InR x) (hy : InR y) : Is W (.slice (some ⟨b, 0, none⟩) 2 3) [x, y] := by
 refine ⟨⟨_, 3, rfl, by simp, by omega, Or.inr ⟨b, 0, rfl, fun k hk => ?_⟩⟩, fun n hn => ?_⟩
 · have hc : k = 0 ∨ k = 1 := by simp at hk; omega
   rcases hc with rfl | rfl
   · exact h.cell 0 (by simp)
   · exact h.cell 1 (by simp)
 · simp at hn
   rcases hn with rfl | rfl
   · exact hx
   · exact hy
theorem fs_of1 {W : World} {b x : Nat} (h : CB W b #[.float .f64 x] 35) (hx : x < 18446744073709551616) : Fs W (.slice (some ⟨b, 0, none⟩) 1 1) [x] :=
 ⟨⟨_, 1, rfl, by simp, by omega, Or.inr ⟨b, 0, rfl, fun j hj => by
   obtain rfl : j = 0 := by simpa using hj
   exact h.cell 0 (by simp)⟩⟩, fun b hb => by rw [List.mem_singleton.1 hb]; exact hx⟩
theorem writeF {p : Pm} (hp : p.Ok) {k : Nat} (hk : k < 10) (lv : Value) (w : World) (hR : Rws w lv (fE k).l) (hT : T8 w) :
   Calls Tryd.prog 9 #[.agg #[.int .i64 (fE k).f, .int .i64 (fE k).c, .int .i64 (fE k).k, lv]] w fun r w' => r = .returned (.tuple #[sv [], .int .i64 1]) ∧ Below w.heap.size w w' := by
 obtain ⟨rs, h1, h2⟩ := hR
 have hl : rs.length ≤ 1 := by
   have e : rs.length = (fE k).l.length := by rw [← h2]; simp
   rw [e]
   have : ∀ k, k < 10 → (fE k).l.length ≤ 1 := by decide
   exact this k hk
 have := writeE_any hp (fE k).f (fE k).c (fE k).k lv rs w h1 (by omega) hT
 rw [h2, show (⟨(fE k).f, (fE k).c, (fE k).k, (fE k).l⟩ : Fe) = fE k from rfl, wE_no p hk] at this
 exact this
def FX (g3 : Nat) (j : Nat) (v : Value) (W : World) : Prop := match j with
 | 0 => Fis W v (fE 0)
 | 1 => Fis W v (fE 1)
 | 2 => Fis W v (fE 2)
 | 3 => Fis W v (fE 3)
 | 4 => Fis W v (fE 4)
 | 5 => v = .slice (some ⟨g3, 0, none⟩) 3 3
 | 6 => v = .slice (some ⟨g3, 0, none⟩) 2 3
 | 7 => Rwv W v ⟨[0, 1], []⟩
 | 8 => Rws W v [⟨[0, 1], []⟩]
 | 9 => Fis W v (fE 5)
 | 10 => Is W v [0, 1, 1048576]
 | 11 => Rwv W v ⟨[0, 1, 1048576], []⟩
 | 12 => Rws W v [⟨[0, 1, 1048576], []⟩]
 | 13 => Fis W v (fE 6)
 | 14 => Is W v [0, -1, 2]
 | 15 => Rwv W v ⟨[0, -1, 2], []⟩
 | 16 => Rws W v [⟨[0, -1, 2], []⟩]
 | 17 => Fis W v (fE 7)
 | 18 => v = .slice (some ⟨g3, 0, none⟩) 3 3
 | 19 => Rwv W v ⟨[0, 1, 2], []⟩
 | 20 => Rws W v [⟨[0, 1, 2], []⟩]
 | 21 => Fis W v (fE 8)
 | 22 => v = .slice (some ⟨g3, 0, none⟩) 3 3
 | 23 => v = .float .f64 9218868437227405312
 | 24 => Fs W v [9218868437227405312]
 | 25 => Rwv W v ⟨[0, 1, 2], [9218868437227405312]⟩
 | 26 => Rws W v [⟨[0, 1, 2], [9218868437227405312]⟩]
 | 27 => Fis W v (fE 9)
 | 28 => ∃ g, v = .slice (some ⟨g, 0, none⟩) 10 10 ∧ Cf W g
 | 29 => v = .int .i64 10
 | 30 => v = .int .i64 0
 | _ => True
theorem FX_stab (g3 : Nat) : ∀ j v w w', FX g3 j v w → Below w.heap.size w w' → FX g3 j v w' := by
 intro j v w w' h hb
 by_cases hj : j < 31
 · have hc : j = 0 ∨ j = 1 ∨ j = 2 ∨ j = 3 ∨ j = 4 ∨ j = 5 ∨ j = 6 ∨ j = 7 ∨ j = 8 ∨ j = 9 ∨ j = 10 ∨ j = 11 ∨ j = 12 ∨ j = 13 ∨ j = 14 ∨ j = 15 ∨ j = 16 ∨ j = 17 ∨ j = 18 ∨ j = 19 ∨ j = 20 ∨ j = 21 ∨ j = 22 ∨ j = 23 ∨ j = 24 ∨ j = 25 ∨ j = 26 ∨ j = 27 ∨ j = 28 ∨ j = 29 ∨ j = 30 := by omega
   rcases hc with rfl | rfl | rfl | rfl | rfl | rfl | rfl | rfl | rfl | rfl | rfl | rfl | rfl | rfl | rfl | rfl | rfl | rfl | rfl | rfl | rfl | rfl | rfl | rfl | rfl | rfl | rfl | rfl | rfl | rfl | rfl
   · exact Fis.later h hb
   · exact Fis.later h hb
   · exact Fis.later h hb
   · exact Fis.later h hb
   · exact Fis.later h hb
   · exact h
   · exact h
   · exact Rwv.later h hb
   · exact Rws.later h hb
   · exact Fis.later h hb
   · exact Is.later h hb
   · exact Rwv.later h hb
   · exact Rws.later h hb
   · exact Fis.later h hb
   · exact Is.later h hb
   · exact Rwv.later h hb
   · exact Rws.later h hb
   · exact Fis.later h hb
   · exact h
   · exact Rwv.later h hb
   · exact Rws.later h hb
   · exact Fis.later h hb
   · exact h
   · exact h
   · exact Fs.later h hb
   · exact Rwv.later h hb
   · exact Rws.later h hb
   · exact Fis.later h hb
   · obtain ⟨g, h1, h2⟩ := h
     exact ⟨g, h1, h2.later hb⟩
   · exact h
   · exact h
 · have e : ∀ j, ¬ j < 31 → ∀ v W, FX g3 j v W := fun j hj v W => by
     unfold FX
     split <;> first | trivial | omega
   exact e j hj v w'
end

/- ElefileNames: the operations that make its literals. (gen_efya.py) -/
section
set_option maxRecDepth 100000
open Go.RowKit Go.Shelf Go.Lib
section
variable {a : Act} {W : World} {o : Oper} {K : Act → World → Prop} {Q : Exit → Act → World → Prop} {x y : Option Addr} {n m c d : Nat}
theorem op_row1 {t : Nat} (ho : o.op = .build 34 #[(0, .tmp t)]) (hv : a.eval (.tmp t) = .slice x n c) (h : K (a.put o.dst (.agg #[.slice x n c, .slice none 0 0])) W) : Oper.wp Tryd.prog o a W K Q := by
 unfold Oper.wp execOp
 rw [ho]
 simp only [List.map_toArray, List.map_cons, List.map_nil, hv]
 go_simp
 exact h
theorem op_row2 {t u : Nat} (ho : o.op = .build 34 #[(0, .tmp t), (1, .tmp u)]) (hv : a.eval (.tmp t) = .slice x n c) (hu : a.eval (.tmp u) = .slice y m d) (h : K (a.put o.dst (.agg #[.slice x n c, .slice y m d])) W) : Oper.wp Tryd.prog o a W K Q := by
 unfold Oper.wp execOp
 rw [ho]
 simp only [List.map_toArray, List.map_cons, List.map_nil, hv, hu]
 go_simp
 exact h
theorem op_rows {t : Nat} (ho : o.op = .buildSlice 26 1 #[(0, .tmp t)]) (hv : a.eval (.tmp t) = .agg #[.slice x n c, .slice y m d]) (h : K (a.put o.dst (.slice (some ⟨W.heap.size, 0, none⟩) 1 1)) (W.alloc (.cells #[.slice x n c, .slice y m d] 34))) : Oper.wp Tryd.prog o a W K Q := by
 unfold Oper.wp execOp
 rw [ho]
 simp only [List.map_toArray, List.map_cons, List.map_nil, hv]
 go_simp
 exact h
theorem op_ints {p q r : Int} (ho : o.op = .buildSlice 31 3 #[(0, .const (.int .i64 p)), (1, .const (.int .i64 q)), (2, .const (.int .i64 r))]) (h : K (a.put o.dst (.slice (some ⟨W.heap.size, 0, none⟩) 3 3)) (W.alloc (.cells #[.int .i64 p, .int .i64 q, .int .i64 r] 3))) : Oper.wp Tryd.prog o a W K Q := by
 unfold Oper.wp execOp
 rw [ho]
 simp only [List.map_toArray, List.map_cons, List.map_nil]
 go_simp
 exact h
theorem op_flt {t b : Nat} (ho : o.op = .buildSlice 32 1 #[(0, .tmp t)]) (hv : a.eval (.tmp t) = .float .f64 b) (h : K (a.put o.dst (.slice (some ⟨W.heap.size, 0, none⟩) 1 1)) (W.alloc (.cells #[.float .f64 b] 35))) : Oper.wp Tryd.prog o a W K Q := by
 unfold Oper.wp execOp
 rw [ho]
 simp only [List.map_toArray, List.map_cons, List.map_nil, hv]
 go_simp
 exact h
theorem op_file0 {p q : Int} (ho : o.op = .build 28 #[(0, .const (.int .i64 p)), (1, .const (.int .i64 q))]) (h : K (a.put o.dst (.agg #[.int .i64 p, .int .i64 q, .int .i64 0, .slice none 0 0])) W) : Oper.wp Tryd.prog o a W K Q := by
 unfold Oper.wp execOp
 rw [ho]
 simp only [List.map_toArray, List.map_cons, List.map_nil]
 go_simp
 exact h
theorem op_file1 {p : Int} (ho : o.op = .build 28 #[(1, .const (.int .i64 p))]) (h : K (a.put o.dst (.agg #[.int .i64 0, .int .i64 p, .int .i64 0, .slice none 0 0])) W) : Oper.wp Tryd.prog o a W K Q := by
 unfold Oper.wp execOp
 rw [ho]
 simp only [List.map_toArray, List.map_cons, List.map_nil]
 go_simp
 exact h
theorem op_file2 {p q : Int} (ho : o.op = .build 28 #[(1, .const (.int .i64 p)), (2, .const (.int .i64 q))]) (h : K (a.put o.dst (.agg #[.int .i64 0, .int .i64 p, .int .i64 q, .slice none 0 0])) W) : Oper.wp Tryd.prog o a W K Q := by
 unfold Oper.wp execOp
 rw [ho]
 simp only [List.map_toArray, List.map_cons, List.map_nil]
 go_simp
 exact h
theorem op_file3 {p : Int} {t : Nat} (ho : o.op = .build 28 #[(1, .const (.int .i64 p)), (3, .tmp t)]) (hv : a.eval (.tmp t) = .slice x n c) (h : K (a.put o.dst (.agg #[.int .i64 0, .int .i64 p, .int .i64 0, .slice x n c])) W) : Oper.wp Tryd.prog o a W K Q := by
 unfold Oper.wp execOp
 rw [ho]
 simp only [List.map_toArray, List.map_cons, List.map_nil, hv]
 go_simp
 exact h
theorem op_file4 {p q : Int} {t : Nat} (ho : o.op = .build 28 #[(1, .const (.int .i64 p)), (2, .const (.int .i64 q)), (3, .tmp t)]) (hv : a.eval (.tmp t) = .slice x n c) (h : K (a.put o.dst (.agg #[.int .i64 0, .int .i64 p, .int .i64 q, .slice x n c])) W) : Oper.wp Tryd.prog o a W K Q := by
 unfold Oper.wp execOp
 rw [ho]
 simp only [List.map_toArray, List.map_cons, List.map_nil, hv]
 go_simp
 exact h
theorem op_move {e : Operand} (ho : o.op = .move e) (h : K (a.put o.dst (a.eval e)) W) : Oper.wp Tryd.prog o a W K Q := by
 unfold Oper.wp execOp
 rw [ho]
 exact h
theorem op_two {t g : Nat} (ho : o.op = .slice 31 (.tmp t) none (some (.const (.int .i64 2))) none) (hv : a.eval (.tmp t) = .slice (some ⟨g, 0, none⟩) 3 3) (h : K (a.put o.dst (.slice (some ⟨g, 0, none⟩) 2 3)) W) : Oper.wp Tryd.prog o a W K Q := by
 unfold Oper.wp execOp
 rw [ho]
 simp only [Option.map_none, Option.map_some, hv]
 go_simp
 exact h
theorem op_len {t : Nat} (ho : o.op = .call { callee := .builtin .len, args := #[.tmp t], argTypes := #[37] }) (hv : a.eval (.tmp t) = .slice x 10 c) (h : K (a.put o.dst (.int .i64 10)) W) : Oper.wp Tryd.prog o a W K Q := by
 unfold Oper.wp execOp
 rw [ho]
 have hv' : a.tmps[t]?.getD undef = .slice x 10 c := by
   have := hv
   rwa [show a.eval (.tmp t) = a.tmps.getD t undef from rfl, Array.getD_eq_getD_getElem?] at this
 go_simp
 exact h
theorem infE_is (w : World) : Calls Tryd.prog 8 #[.int .i64 1] w fun e w' => e = .returned (.float .f64 9218868437227405312) ∧ w' = w := by
 have b1 := run_frombits 9218868437227405312
 rw [show ((9218868437227405312 : Nat) : Int) = 9218868437227405312 from rfl] at b1
 go_enter Tryd.func8, Tryd.ntmps8
 go_wp2
 go_ret
 exact ⟨rfl, rfl⟩
theorem op_inf {y : TypeId} (ho : o.op = .call { callee := .value (.func 8), args := #[.const (.int .i64 1)], argTypes := #[y] }) (h : K (a.put o.dst (.float .f64 9218868437227405312)) W) : Oper.wp Tryd.prog o a W K Q := by
 unfold Oper.wp execOp
 rw [ho]
 go_simp
 refine (infE_is W).mono ?_
 rintro e w' ⟨rfl, rfl⟩
 exact h
theorem op_files {t0 t1 t2 t3 t4 t5 t6 t7 t8 t9 : Nat} {f0 c0 k0 f1 c1 k1 f2 c2 k2 f3 c3 k3 f4 c4 k4 f5 c5 k5 f6 c6 k6 f7 c7 k7 f8 c8 k8 f9 c9 k9 : Int} {x0 x1 x2 x3 x4 x5 x6 x7 x8 x9 : Option Addr} {n0 d0 n1 d1 n2 d2 n3 d3 n4 d4 n5 d5 n6 d6 n7 d7 n8 d8 n9 d9 : Nat} (ho : o.op = .buildSlice 37 10 #[(0, .tmp t0), (1, .tmp t1), (2, .tmp t2), (3, .tmp t3), (4, .tmp t4), (5, .tmp t5), (6, .tmp t6), (7, .tmp t7), (8, .tmp t8), (9, .tmp t9)]) (h0 : a.eval (.tmp t0) = .agg #[.int .i64 f0, .int .i64 c0, .int .i64 k0, .slice x0 n0 d0]) (h1 : a.eval (.tmp t1) = .agg #[.int .i64 f1, .int .i64 c1, .int .i64 k1, .slice x1 n1 d1]) (h2 : a.eval (.tmp t2) = .agg #[.int .i64 f2, .int .i64 c2, .int .i64 k2, .slice x2 n2 d2]) (h3 : a.eval (.tmp t3) = .agg #[.int .i64 f3, .int .i64 c3, .int .i64 k3, .slice x3 n3 d3]) (h4 : a.eval (.tmp t4) = .agg #[.int .i64 f4, .int .i64 c4, .int .i64 k4, .slice x4 n4 d4]) (h5 : a.eval (.tmp t5) = .agg #[.int .i64 f5, .int .i64 c5, .int .i64 k5, .slice x5 n5 d5]) (h6 : a.eval (.tmp t6) = .agg #[.int .i64 f6, .int .i64 c6, .int .i64 k6, .slice x6 n6 d6]) (h7 : a.eval (.tmp t7) = .agg #[.int .i64 f7, .int .i64 c7, .int .i64 k7, .slice x7 n7 d7]) (h8 : a.eval (.tmp t8) = .agg #[.int .i64 f8, .int .i64 c8, .int .i64 k8, .slice x8 n8 d8]) (h9 : a.eval (.tmp t9) = .agg #[.int .i64 f9, .int .i64 c9, .int .i64 k9, .slice x9 n9 d9]) (h : K (a.put o.dst (.slice (some ⟨W.heap.size, 0, none⟩) 10 10)) (W.alloc (.cells #[.int .i64 f0, .int .i64 c0, .int .i64 k0, .slice x0 n0 d0, .int .i64 f1, .int .i64 c1, .int .i64 k1, .slice x1 n1 d1, .int .i64 f2, .int .i64 c2, .int .i64 k2, .slice x2 n2 d2, .int .i64 f3, .int .i64 c3, .int .i64 k3, .slice x3 n3 d3, .int .i64 f4, .int .i64 c4, .int .i64 k4, .slice x4 n4 d4, .int .i64 f5, .int .i64 c5, .int .i64 k5, .slice x5 n5 d5, .int .i64 f6, .int .i64 c6, .int .i64 k6, .slice x6 n6 d6, .int .i64 f7, .int .i64 c7, .int .i64 k7, .slice x7 n7 d7, .int .i64 f8, .int .i64 c8, .int .i64 k8, .slice x8 n8 d8, .int .i64 f9, .int .i64 c9, .int .i64 k9, .slice x9 n9 d9] 28))) : Oper.wp Tryd.prog o a W K Q := by
 unfold Oper.wp execOp
 rw [ho]
 simp only [List.map_toArray, List.map_cons, List.map_nil, h0, h1, h2, h3, h4, h5, h6, h7, h8, h9]
 go_simp
 exact h
end
end

/- The law ElefileNames. (gen_efz.py) -/
section
set_option maxRecDepth 100000
open Go.RowKit Go.Shelf Go.Lib
theorem run_store_strE (P : Program) (w : World) (a : Addr) (m : Mode) (b : ByteArray) : (store a (.string b) m).run P w = stored P w a (.string b) m := run_store P w a _ m rfl
attribute [local go_sem] run_store_float run_store_strE
def aaE : Array Value := #[.string ⟨#[]⟩, .int .i64 0, .int .i64 4, .string ⟨#[49, 32, 51, 32, 48, 10]⟩, .int .i64 0, .int .i64 4, .string ⟨#[49, 32, 52, 32, 48, 10]⟩, .int .i64 1, .int .i64 4, .string ⟨#[49, 32, 51, 32, 48, 32, 48, 10]⟩, .int .i64 1, .int .i64 4, .string ⟨#[45, 49, 32, 51, 32, 48, 10]⟩, .int .i64 1, .int .i64 4, .string ⟨#[49, 32, 51, 32, 48, 10, 50, 32, 49, 32, 50, 32, 51, 10]⟩, .int .i64 2, .int .i64 4, .string ⟨#[49, 32, 51, 32, 48, 10, 49, 32, 49, 32, 50, 10]⟩, .int .i64 2, .int .i64 4, .string ⟨#[49, 32, 51, 32, 48, 10, 49, 32, 48, 32, 49, 32, 50, 10]⟩, .int .i64 2, .int .i64 11, .string ⟨#[48, 32, 51, 32, 49, 55, 10]⟩, .int .i64 1, .int .i64 3, .string ⟨#[48, 32, 51, 32, 49, 54, 10]⟩, .int .i64 0, .int .i64 0, .string ⟨#[49, 48, 52, 56, 53, 55, 55, 32, 51, 32, 48, 10]⟩, .int .i64 1, .int .i64 3, .string ⟨#[48, 32, 51, 32, 48, 10, 10, 49, 10]⟩, .int .i64 3, .int .i64 4, .string ⟨#[49, 32, 51, 32, 48, 10, 48, 32, 48, 32, 49, 32, 49, 48, 52, 56, 53, 55, 53, 10]⟩, .int .i64 0, .int .i64 0, .string ⟨#[49, 32, 51, 32, 48, 10, 48, 32, 48, 32, 49, 32, 49, 48, 52, 56, 53, 55, 54, 10]⟩, .int .i64 2, .int .i64 11, .string ⟨#[49, 32, 51, 32, 49, 10, 48, 32, 48, 32, 49, 32, 50, 32, 120, 10]⟩, .int .i64 2, .int .i64 4, .string ⟨#[49, 32, 51, 32, 49, 10, 48, 32, 48, 32, 49, 32, 50, 32, 49, 98, 57, 57, 57, 57, 10]⟩, .int .i64 2, .int .i64 10, .string ⟨#[49, 32, 51, 32, 48, 10, 48, 32, 48, 32, 49, 32, 48, 49, 10]⟩, .int .i64 2, .int .i64 4, .string ⟨#[48, 32, 51, 32, 48, 10, 1, 10]⟩, .int .i64 2, .int .i64 4, .string ⟨#[50, 32, 51, 32, 48, 10, 48, 32, 48, 32, 49, 32, 50, 10, 48, 32, 48, 32, 49, 32, 50, 10]⟩, .int .i64 3, .int .i64 4, .string ⟨#[50, 32, 51, 32, 48, 10, 48, 32, 48, 32, 49, 32, 50, 10, 50, 32, 48, 32, 49, 32, 50, 10]⟩, .int .i64 3, .int .i64 4]
def CE (W : World) (g : Nat) : Prop := g < W.heap.size ∧ ∀ k, k < 20 → W.cell? ⟨g, k * 3, none⟩ = some (sv (sE k)) ∧ W.cell? ⟨g, k * 3 + 1, none⟩ = some (.int .i64 (aE k : Nat)) ∧ W.cell? ⟨g, k * 3 + 2, none⟩ = some (.int .i64 (eE k))
theorem CE.later {W W' : World} {g : Nat} (h : CE W g) (hb : Below W.heap.size W W') : CE W' g := ⟨Nat.lt_of_lt_of_le h.1 hb.size, fun k hk => ⟨cell_later hb h.1 (h.2 k hk).1, cell_later hb h.1 (h.2 k hk).2.1, cell_later hb h.1 (h.2 k hk).2.2⟩⟩
theorem cell_newE (w : World) (cs : Array Value) (t : TypeId) (i : Nat) (x : Value) (h : cs[i]? = some x) : (w.alloc (.cells cs t)).cell? ⟨w.heap.size, i, none⟩ = some x := by
 have := heap_alloc_new w (.cells cs t)
 unfold World.cell?
 rw [this]
 exact h
theorem CE.new (w : World) (t : TypeId) : CE (w.alloc (.cells aaE t)) w.heap.size := by
 refine ⟨by simp, ?_⟩
 intro k hk
 have hc : k = 0 ∨ k = 1 ∨ k = 2 ∨ k = 3 ∨ k = 4 ∨ k = 5 ∨ k = 6 ∨ k = 7 ∨ k = 8 ∨ k = 9 ∨ k = 10 ∨ k = 11 ∨ k = 12 ∨ k = 13 ∨ k = 14 ∨ k = 15 ∨ k = 16 ∨ k = 17 ∨ k = 18 ∨ k = 19 := by omega
 rcases hc with rfl | rfl | rfl | rfl | rfl | rfl | rfl | rfl | rfl | rfl | rfl | rfl | rfl | rfl | rfl | rfl | rfl | rfl | rfl | rfl
 all_goals exact ⟨cell_newE w aaE t _ _ rfl, cell_newE w aaE t _ _ rfl, cell_newE w aaE t _ _ rfl⟩
theorem readE_X {p : Pm} (hp : p.Ok) (k : Nat) (hk : k < 20) (w : World) (hT : Tab w) : Calls Tryd.prog 7 #[sv (sE k)] w fun e w' => ∃ a n c f' c' k', e = .returned (.tuple #[.agg #[.int .i64 (f' : Nat), .int .i64 (c' : Nat), .int .i64 (k' : Nat), .slice a n c], .int .i64 (aE k : Nat), .int .i64 (eE k)]) ∧ (eE k ≠ 0 → n = 0 ∧ c' = 0) ∧ Below w.heap.size w w' := by
 refine (readE_any hp ⟨(sE k).toArray⟩ (sE k) w (by simp) (Nat.le_trans (sE_len k hk) (by decide)) hT).mono ?_
 rintro e w' ⟨hb, a, c, rs, f', c', k', rfl, hF, hE⟩
 have h2 := rE_all hp k hk
 rw [h2]
 refine ⟨a, rs.length, c, f', c', k', rfl, fun he => ?_, hb⟩
 have h3 := reV_bad (p := p) (t := sE k) (by rw [h2]; exact he)
 rw [h3] at hF
 have e1 : (0 : Int) = ((c' : Nat) : Int) := congrArg Fe.c hF
 have e2 : ([] : List Rw) = rs.map (·.1) := congrArg Fe.l hF
 have e3 := congrArg List.length e2
 simp at e3
 exact ⟨by omega, by omega⟩
theorem j31 (j : Nat) (hj : j < 31) : j = 0 ∨ j = 1 ∨ j = 2 ∨ j = 3 ∨ j = 4 ∨ j = 5 ∨ j = 6 ∨ j = 7 ∨ j = 8 ∨ j = 9 ∨ j = 10 ∨ j = 11 ∨ j = 12 ∨ j = 13 ∨ j = 14 ∨ j = 15 ∨ j = 16 ∨ j = 17 ∨ j = 18 ∨ j = 19 ∨ j = 20 ∨ j = 21 ∨ j = 22 ∨ j = 23 ∨ j = 24 ∨ j = 25 ∨ j = 26 ∨ j = 27 ∨ j = 28 ∨ j = 29 ∨ j = 30 := by omega
theorem bAl (W : World) (o : Obj) : Below W.heap.size W (W.alloc o) := (Below.refl _ _).alloc (Nat.le_refl _) _
def GX (w : World) (g3 : Nat) (W : World) : Prop := CB W g3 #[.int .i64 0, .int .i64 1, .int .i64 2] 3 ∧ T8 W ∧ Below w.heap.size w W
theorem GX.later {w : World} {g3 : Nat} {W W' : World} (h : GX w g3 W) (hb : Below W.heap.size W W') : GX w g3 W' := ⟨h.1.later hb, h.2.1.later hb, h.2.2.trans (hb.mono h.2.2.size)⟩
set_option maxHeartbeats 16000000 in
theorem names11 (w : World) (hT : T8 w) : Calls Tryd.prog 3 #[] w fun e w' => e = .returned (.bool true) ∧ Below w.heap.size w w' := by
 obtain ⟨p, hp⟩ := pm_ex
 have HP := Lib.hid hp
 have HWk := Lib.hid (works11 w hT)
 have HT0 := Lib.hid hT
 clear hT hp
 go_enter Tryd.func3, Tryd.ntmps3
 go_wp2_with fail
 refine HWk.out.mono ?_
 rintro e W0 ⟨rfl, hb0⟩
 obtain ⟨W1, hW1⟩ : ∃ W, W0.alloc (.cells #[.string ⟨#[]⟩, .int .i64 0, .int .i64 4, .string ⟨#[49, 32, 51, 32, 48, 10]⟩, .int .i64 0, .int .i64 4, .string ⟨#[49, 32, 52, 32, 48, 10]⟩, .int .i64 1, .int .i64 4, .string ⟨#[49, 32, 51, 32, 48, 32, 48, 10]⟩, .int .i64 1, .int .i64 4, .string ⟨#[45, 49, 32, 51, 32, 48, 10]⟩, .int .i64 1, .int .i64 4, .string ⟨#[49, 32, 51, 32, 48, 10, 50, 32, 49, 32, 50, 32, 51, 10]⟩, .int .i64 2, .int .i64 4, .string ⟨#[49, 32, 51, 32, 48, 10, 49, 32, 49, 32, 50, 10]⟩, .int .i64 2, .int .i64 4, .string ⟨#[49, 32, 51, 32, 48, 10, 49, 32, 48, 32, 49, 32, 50, 10]⟩, .int .i64 2, .int .i64 11, .string ⟨#[48, 32, 51, 32, 49, 55, 10]⟩, .int .i64 1, .int .i64 3, .string ⟨#[48, 32, 51, 32, 49, 54, 10]⟩, .int .i64 0, .int .i64 0, .string ⟨#[49, 48, 52, 56, 53, 55, 55, 32, 51, 32, 48, 10]⟩, .int .i64 1, .int .i64 3, .string ⟨#[48, 32, 51, 32, 48, 10, 10, 49, 10]⟩, .int .i64 3, .int .i64 4, .string ⟨#[49, 32, 51, 32, 48, 10, 48, 32, 48, 32, 49, 32, 49, 48, 52, 56, 53, 55, 53, 10]⟩, .int .i64 0, .int .i64 0, .string ⟨#[49, 32, 51, 32, 48, 10, 48, 32, 48, 32, 49, 32, 49, 48, 52, 56, 53, 55, 54, 10]⟩, .int .i64 2, .int .i64 11, .string ⟨#[49, 32, 51, 32, 49, 10, 48, 32, 48, 32, 49, 32, 50, 32, 120, 10]⟩, .int .i64 2, .int .i64 4, .string ⟨#[49, 32, 51, 32, 49, 10, 48, 32, 48, 32, 49, 32, 50, 32, 49, 98, 57, 57, 57, 57, 10]⟩, .int .i64 2, .int .i64 10, .string ⟨#[49, 32, 51, 32, 48, 10, 48, 32, 48, 32, 49, 32, 48, 49, 10]⟩, .int .i64 2, .int .i64 4, .string ⟨#[48, 32, 51, 32, 48, 10, 1, 10]⟩, .int .i64 2, .int .i64 4, .string ⟨#[50, 32, 51, 32, 48, 10, 48, 32, 48, 32, 49, 32, 50, 10, 48, 32, 48, 32, 49, 32, 50, 10]⟩, .int .i64 3, .int .i64 4, .string ⟨#[50, 32, 51, 32, 48, 10, 48, 32, 48, 32, 49, 32, 50, 10, 50, 32, 48, 32, 49, 32, 50, 10]⟩, .int .i64 3, .int .i64 4] 24) = W := ⟨_, rfl⟩
 have HC1 : Hid (CE W1 W0.heap.size) := hW1 ▸ CE.new W0 24
 have HB1 : Hid (Below w.heap.size w W1) := hW1 ▸ hb0.trans ((bAl W0 _).mono hb0.size)
 have HT1 := Lib.hid (HT0.out.later HB1.out)
 clear HWk hb0 HT0
 go_wp2_with fail
 try rw [hW1]
 clear hW1
 go_loopw [49] (fun i wr => ∃ k : Nat, k ≤ 20 ∧ i = .int .i64 (k : Nat) ∧ Hid (CE wr W0.heap.size ∧ T8 wr ∧ Below w.heap.size w wr)) (fun i _ => 20 - (RowKit.intOf i).toNat)
 case atStart => exact ⟨0, by omega, rfl, HC1.out, HT1.out, HB1.out⟩
 case round =>
   obtain ⟨k, hk, rfl, hw⟩ := hrel
   by_cases hlt : k < 20
   · have hlti : (k : Int) < 20 := by omega
     obtain ⟨y0, y1, y2⟩ := hw.out.1.2 k hlt
     have hbA := bAl wr (.cells #[sv (sE k), .int .i64 (aE k : Nat), .int .i64 (eE k)] 24)
     have HWA := Lib.hid (And.intro (hw.out.1.later hbA) (And.intro (hw.out.2.1.later hbA) (hw.out.2.2.trans (hbA.mono hw.out.2.2.size))))
     clear hbA hw
     have HFL : Hid (∀ w, Tab w → Calls Tryd.prog 7 #[sv (sE k)] w fun e w' => ∃ a n c f' c' k', e = .returned (.tuple #[.agg #[.int .i64 (f' : Nat), .int .i64 (c' : Nat), .int .i64 (k' : Nat), .slice a n c], .int .i64 (aE k : Nat), .int .i64 (eE k)]) ∧ (eE k ≠ 0 → n = 0 ∧ c' = 0) ∧ Below w.heap.size w w') := Lib.hid (readE_X HP.out k hlt)
     generalize hs : sE k = l at *
     generalize aE k = x at *
     generalize eE k = er at *
     clear hs
     go_wp2_with fail
     refine (HFL.out _ HWA.out.2.1.1).mono ?_
     rintro r w2 ⟨fa, fn, fc, ff, f', fk, rfl, hz, hb2⟩
     have hsz : wr.heap.size < (wr.alloc (.cells #[sv l, .int .i64 (x : Nat), .int .i64 er] 24)).heap.size := by simp
     have hb3 := bAl w2 (.cells #[.int .i64 (ff : Nat), .int .i64 (f' : Nat), .int .i64 (fk : Nat), .slice fa fn fc] 28)
     have z0 : (w2.alloc (.cells #[.int .i64 (ff : Nat), .int .i64 (f' : Nat), .int .i64 (fk : Nat), .slice fa fn fc] 28)).cell? ⟨wr.heap.size, 1, none⟩ = some (.int .i64 (x : Nat)) := cell_later hb3 (Nat.lt_of_lt_of_le hsz hb2.size) (cell_later hb2 hsz (cell_newE wr #[sv l, .int .i64 (x : Nat), .int .i64 er] 24 1 _ rfl))
     have z1 : (w2.alloc (.cells #[.int .i64 (ff : Nat), .int .i64 (f' : Nat), .int .i64 (fk : Nat), .slice fa fn fc] 28)).cell? ⟨wr.heap.size, 2, none⟩ = some (.int .i64 er) := cell_later hb3 (Nat.lt_of_lt_of_le hsz hb2.size) (cell_later hb2 hsz (cell_newE wr #[sv l, .int .i64 (x : Nat), .int .i64 er] 24 2 _ rfl))
     have HWB := Lib.hid (And.intro ((HWA.out.1.later hb2).later hb3) (And.intro ((HWA.out.2.1.later hb2).later hb3) ((HWA.out.2.2.trans (hb2.mono HWA.out.2.2.size)).trans (hb3.mono (Nat.le_trans HWA.out.2.2.size hb2.size)))))
     clear hb2 hb3 HWA y0 y1 y2 hsz HFL
     by_cases he : er = 0
     · subst he
       clear hz
       go_wp2
       exact ⟨⟨k + 1, by omega, by go_num, HWB.out⟩, by show 20 - ((k : Int) + 1).toNat < 20 - ((k : Int)).toNat; omega⟩
     · have hs1 : (fn : Int) + (f' : Int) = 0 := by obtain ⟨h1, h2⟩ := hz he; omega
       have hs2 : (fn : Int) ≤ 100 := by omega
       have hs3 : (f' : Int) ≤ 100 := by omega
       clear hz
       have he1 : (er == 0) = false := by simpa using he
       have he2 : (er != 0) = true := by simpa using he
       go_wp2
       exact ⟨⟨k + 1, by omega, by go_num, HWB.out⟩, by show 20 - ((k : Int) + 1).toNat < 20 - ((k : Int)).toNat; omega⟩
   · obtain rfl : k = 20 := by omega
     obtain ⟨g3, hg3⟩ : ∃ g3, wr.heap.size = g3 := ⟨_, rfl⟩
     obtain ⟨W3, hW3⟩ : ∃ W, wr.alloc (.cells #[.int .i64 0, .int .i64 1, .int .i64 2] 3) = W := ⟨_, rfl⟩
     have HG3 : Hid (GX w g3 W3) := Lib.hid (by
       have hb := bAl wr (.cells #[.int .i64 0, .int .i64 1, .int .i64 2] 3)
       rw [← hW3, ← hg3]
       exact ⟨CB.new wr _ _, hw.out.2.1.later hb, hw.out.2.2.trans (hb.mono hw.out.2.2.size)⟩)
     clear hw hlt hk HC1 HB1 HT1
     go_wp2_with fail
     try rw [hW3]
     try rw [hg3]
     clear hW3 hg3
     refine region_facts 85 31 (GX w g3) (FX g3) (by kernel_rfl) (by kernel_rfl) (by kernel_rfl) (Nat.le_of_ble_eq_true (by kernel_rfl)) (GX.later HG3.out (Below.refl _ _).drew) (FX_stab g3) ?_ ?_
     · intro Q' j o ho a W hG hout hd
       have h6 : ∀ t, t = 6 → a.eval (.tmp t) = .slice (some ⟨g3, 0, none⟩) 3 3 := fun t ht => by subst ht; exact (hout 6 (by omega)).trans rfl
       clear hout HG3
       have hj : j < 31 := by simpa using (Array.getElem?_eq_some_iff.1 ho).1
       have hc := j31 j hj
       clear hj
       rcases hc with rfl | rfl | rfl | rfl | rfl | rfl | rfl | rfl | rfl | rfl | rfl | rfl | rfl | rfl | rfl | rfl | rfl | rfl | rfl | rfl | rfl | rfl | rfl | rfl | rfl | rfl | rfl | rfl | rfl | rfl | rfl
       · replace ho := Option.some.inj (Eq.trans (Eq.symm ho) rfl)
         subst ho
         refine op_file0 rfl ⟨_, rfl, hG, Below.refl _ _, (show Fis W _ (fE 0) from ⟨_, rfl, Rws.nil _⟩)⟩
       · replace ho := Option.some.inj (Eq.trans (Eq.symm ho) rfl)
         subst ho
         refine op_file0 rfl ⟨_, rfl, hG, Below.refl _ _, (show Fis W _ (fE 1) from ⟨_, rfl, Rws.nil _⟩)⟩
       · replace ho := Option.some.inj (Eq.trans (Eq.symm ho) rfl)
         subst ho
         refine op_file1 rfl ⟨_, rfl, hG, Below.refl _ _, (show Fis W _ (fE 2) from ⟨_, rfl, Rws.nil _⟩)⟩
       · replace ho := Option.some.inj (Eq.trans (Eq.symm ho) rfl)
         subst ho
         refine op_file2 rfl ⟨_, rfl, hG, Below.refl _ _, (show Fis W _ (fE 3) from ⟨_, rfl, Rws.nil _⟩)⟩
       · replace ho := Option.some.inj (Eq.trans (Eq.symm ho) rfl)
         subst ho
         refine op_file2 rfl ⟨_, rfl, hG, Below.refl _ _, (show Fis W _ (fE 4) from ⟨_, rfl, Rws.nil _⟩)⟩
       · replace ho := Option.some.inj (Eq.trans (Eq.symm ho) rfl)
         subst ho
         refine op_move rfl ⟨_, rfl, hG, Below.refl _ _, h6 6 rfl⟩
       · replace ho := Option.some.inj (Eq.trans (Eq.symm ho) rfl)
         subst ho
         have d5 : FX g3 5 (a.eval (.tmp 90)) W := hd ⟨5, .data⟩ (by simp) rfl
         refine op_two rfl d5 ⟨_, rfl, hG, Below.refl _ _, rfl⟩
       · replace ho := Option.some.inj (Eq.trans (Eq.symm ho) rfl)
         subst ho
         have d6 : FX g3 6 (a.eval (.tmp 91)) W := hd ⟨6, .data⟩ (by simp) rfl
         refine op_row1 rfl d6 ⟨_, rfl, hG, Below.refl _ _, (show Rwv W _ ⟨[0, 1], []⟩ from ⟨_, _, rfl, Is.of2 hG.1 ⟨by omega, by omega⟩ ⟨by omega, by omega⟩, fs_nilE _⟩)⟩
       · replace ho := Option.some.inj (Eq.trans (Eq.symm ho) rfl)
         subst ho
         have d7 : FX g3 7 (a.eval (.tmp 92)) W := hd ⟨7, .data⟩ (by simp) rfl
         obtain ⟨tv, av, e, ht, ha⟩ := d7
         obtain ⟨ta, tc, rfl, _⟩ := ht.form
         obtain ⟨aa, ac, rfl, _⟩ := ha.form
         refine op_rows rfl e ⟨_, rfl, GX.later hG (bAl _ _), bAl _ _, (show Rws _ _ [⟨[0, 1], []⟩] from Rws.one (CB.new W _ _) (ht.later (bAl _ _)) (ha.later (bAl _ _)))⟩
       · replace ho := Option.some.inj (Eq.trans (Eq.symm ho) rfl)
         subst ho
         have d8 : FX g3 8 (a.eval (.tmp 93)) W := hd ⟨8, .data⟩ (by simp) rfl
         obtain ⟨rs, hr, hm⟩ := d8
         obtain ⟨x, c, e, _⟩ := hr.form
         refine op_file3 rfl e ⟨_, rfl, hG, Below.refl _ _, (show Fis W _ (fE 5) from ⟨_, rfl, rs, by rw [← e]; exact hr, hm⟩)⟩
       · replace ho := Option.some.inj (Eq.trans (Eq.symm ho) rfl)
         subst ho
         refine op_ints rfl ⟨_, rfl, GX.later hG (bAl _ _), bAl _ _, (show Is _ _ [0, 1, 1048576] from Is.of3 (CB.new W _ _) ⟨by omega, by omega⟩ ⟨by omega, by omega⟩ ⟨by omega, by omega⟩)⟩
       · replace ho := Option.some.inj (Eq.trans (Eq.symm ho) rfl)
         subst ho
         have d10 : FX g3 10 (a.eval (.tmp 95)) W := hd ⟨10, .data⟩ (by simp) rfl
         obtain ⟨x, c, e, _⟩ := (show Is W _ [0, 1, 1048576] from d10).form
         refine op_row1 rfl e ⟨_, rfl, hG, Below.refl _ _, (show Rwv W _ ⟨[0, 1, 1048576], []⟩ from ⟨_, _, rfl, by rw [← e]; exact (show Is W _ [0, 1, 1048576] from d10), fs_nilE _⟩)⟩
       · replace ho := Option.some.inj (Eq.trans (Eq.symm ho) rfl)
         subst ho
         have d11 : FX g3 11 (a.eval (.tmp 96)) W := hd ⟨11, .data⟩ (by simp) rfl
         obtain ⟨tv, av, e, ht, ha⟩ := d11
         obtain ⟨ta, tc, rfl, _⟩ := ht.form
         obtain ⟨aa, ac, rfl, _⟩ := ha.form
         refine op_rows rfl e ⟨_, rfl, GX.later hG (bAl _ _), bAl _ _, (show Rws _ _ [⟨[0, 1, 1048576], []⟩] from Rws.one (CB.new W _ _) (ht.later (bAl _ _)) (ha.later (bAl _ _)))⟩
       · replace ho := Option.some.inj (Eq.trans (Eq.symm ho) rfl)
         subst ho
         have d12 : FX g3 12 (a.eval (.tmp 97)) W := hd ⟨12, .data⟩ (by simp) rfl
         obtain ⟨rs, hr, hm⟩ := d12
         obtain ⟨x, c, e, _⟩ := hr.form
         refine op_file3 rfl e ⟨_, rfl, hG, Below.refl _ _, (show Fis W _ (fE 6) from ⟨_, rfl, rs, by rw [← e]; exact hr, hm⟩)⟩
       · replace ho := Option.some.inj (Eq.trans (Eq.symm ho) rfl)
         subst ho
         refine op_ints rfl ⟨_, rfl, GX.later hG (bAl _ _), bAl _ _, (show Is _ _ [0, -1, 2] from Is.of3 (CB.new W _ _) ⟨by omega, by omega⟩ ⟨by omega, by omega⟩ ⟨by omega, by omega⟩)⟩
       · replace ho := Option.some.inj (Eq.trans (Eq.symm ho) rfl)
         subst ho
         have d14 : FX g3 14 (a.eval (.tmp 99)) W := hd ⟨14, .data⟩ (by simp) rfl
         obtain ⟨x, c, e, _⟩ := (show Is W _ [0, -1, 2] from d14).form
         refine op_row1 rfl e ⟨_, rfl, hG, Below.refl _ _, (show Rwv W _ ⟨[0, -1, 2], []⟩ from ⟨_, _, rfl, by rw [← e]; exact (show Is W _ [0, -1, 2] from d14), fs_nilE _⟩)⟩
       · replace ho := Option.some.inj (Eq.trans (Eq.symm ho) rfl)
         subst ho
         have d15 : FX g3 15 (a.eval (.tmp 100)) W := hd ⟨15, .data⟩ (by simp) rfl
         obtain ⟨tv, av, e, ht, ha⟩ := d15
         obtain ⟨ta, tc, rfl, _⟩ := ht.form
         obtain ⟨aa, ac, rfl, _⟩ := ha.form
         refine op_rows rfl e ⟨_, rfl, GX.later hG (bAl _ _), bAl _ _, (show Rws _ _ [⟨[0, -1, 2], []⟩] from Rws.one (CB.new W _ _) (ht.later (bAl _ _)) (ha.later (bAl _ _)))⟩
       · replace ho := Option.some.inj (Eq.trans (Eq.symm ho) rfl)
         subst ho
         have d16 : FX g3 16 (a.eval (.tmp 101)) W := hd ⟨16, .data⟩ (by simp) rfl
         obtain ⟨rs, hr, hm⟩ := d16
         obtain ⟨x, c, e, _⟩ := hr.form
         refine op_file3 rfl e ⟨_, rfl, hG, Below.refl _ _, (show Fis W _ (fE 7) from ⟨_, rfl, rs, by rw [← e]; exact hr, hm⟩)⟩
       · replace ho := Option.some.inj (Eq.trans (Eq.symm ho) rfl)
         subst ho
         refine op_move rfl ⟨_, rfl, hG, Below.refl _ _, h6 6 rfl⟩
       · replace ho := Option.some.inj (Eq.trans (Eq.symm ho) rfl)
         subst ho
         have d18 : FX g3 18 (a.eval (.tmp 103)) W := hd ⟨18, .data⟩ (by simp) rfl
         refine op_row1 rfl d18 ⟨_, rfl, hG, Below.refl _ _, (show Rwv W _ ⟨[0, 1, 2], []⟩ from ⟨_, _, rfl, Is.of3 hG.1 ⟨by omega, by omega⟩ ⟨by omega, by omega⟩ ⟨by omega, by omega⟩, fs_nilE _⟩)⟩
       · replace ho := Option.some.inj (Eq.trans (Eq.symm ho) rfl)
         subst ho
         have d19 : FX g3 19 (a.eval (.tmp 104)) W := hd ⟨19, .data⟩ (by simp) rfl
         obtain ⟨tv, av, e, ht, ha⟩ := d19
         obtain ⟨ta, tc, rfl, _⟩ := ht.form
         obtain ⟨aa, ac, rfl, _⟩ := ha.form
         refine op_rows rfl e ⟨_, rfl, GX.later hG (bAl _ _), bAl _ _, (show Rws _ _ [⟨[0, 1, 2], []⟩] from Rws.one (CB.new W _ _) (ht.later (bAl _ _)) (ha.later (bAl _ _)))⟩
       · replace ho := Option.some.inj (Eq.trans (Eq.symm ho) rfl)
         subst ho
         have d20 : FX g3 20 (a.eval (.tmp 105)) W := hd ⟨20, .data⟩ (by simp) rfl
         obtain ⟨rs, hr, hm⟩ := d20
         obtain ⟨x, c, e, _⟩ := hr.form
         refine op_file4 rfl e ⟨_, rfl, hG, Below.refl _ _, (show Fis W _ (fE 8) from ⟨_, rfl, rs, by rw [← e]; exact hr, hm⟩)⟩
       · replace ho := Option.some.inj (Eq.trans (Eq.symm ho) rfl)
         subst ho
         refine op_move rfl ⟨_, rfl, hG, Below.refl _ _, h6 6 rfl⟩
       · replace ho := Option.some.inj (Eq.trans (Eq.symm ho) rfl)
         subst ho
         refine op_inf rfl ⟨_, rfl, hG, Below.refl _ _, rfl⟩
       · replace ho := Option.some.inj (Eq.trans (Eq.symm ho) rfl)
         subst ho
         have d23 : FX g3 23 (a.eval (.tmp 108)) W := hd ⟨23, .data⟩ (by simp) rfl
         refine op_flt rfl d23 ⟨_, rfl, GX.later hG (bAl _ _), bAl _ _, (show Fs _ _ [9218868437227405312] from fs_of1 (CB.new W _ _) (by decide))⟩
       · replace ho := Option.some.inj (Eq.trans (Eq.symm ho) rfl)
         subst ho
         have d22 : FX g3 22 (a.eval (.tmp 107)) W := hd ⟨22, .data⟩ (by simp) rfl
         have d24 : FX g3 24 (a.eval (.tmp 109)) W := hd ⟨24, .data⟩ (by simp) rfl
         obtain ⟨x, c, e, _⟩ := (show Fs W _ [9218868437227405312] from d24).form
         refine op_row2 rfl d22 e ⟨_, rfl, hG, Below.refl _ _, (show Rwv W _ ⟨[0, 1, 2], [9218868437227405312]⟩ from ⟨_, _, rfl, Is.of3 hG.1 ⟨by omega, by omega⟩ ⟨by omega, by omega⟩ ⟨by omega, by omega⟩, by rw [← e]; exact (show Fs W _ [9218868437227405312] from d24)⟩)⟩
       · replace ho := Option.some.inj (Eq.trans (Eq.symm ho) rfl)
         subst ho
         have d25 : FX g3 25 (a.eval (.tmp 110)) W := hd ⟨25, .data⟩ (by simp) rfl
         obtain ⟨tv, av, e, ht, ha⟩ := d25
         obtain ⟨ta, tc, rfl, _⟩ := ht.form
         obtain ⟨aa, ac, rfl, _⟩ := ha.form
         refine op_rows rfl e ⟨_, rfl, GX.later hG (bAl _ _), bAl _ _, (show Rws _ _ [⟨[0, 1, 2], [9218868437227405312]⟩] from Rws.one (CB.new W _ _) (ht.later (bAl _ _)) (ha.later (bAl _ _)))⟩
       · replace ho := Option.some.inj (Eq.trans (Eq.symm ho) rfl)
         subst ho
         have d26 : FX g3 26 (a.eval (.tmp 111)) W := hd ⟨26, .data⟩ (by simp) rfl
         obtain ⟨rs, hr, hm⟩ := d26
         obtain ⟨x, c, e, _⟩ := hr.form
         refine op_file4 rfl e ⟨_, rfl, hG, Below.refl _ _, (show Fis W _ (fE 9) from ⟨_, rfl, rs, by rw [← e]; exact hr, hm⟩)⟩
       · replace ho := Option.some.inj (Eq.trans (Eq.symm ho) rfl)
         subst ho
         have d0 : FX g3 0 (a.eval (.tmp 85)) W := hd ⟨0, .data⟩ (by simp) rfl
         obtain ⟨lv0, e0, rs0, hr0, hm0⟩ := d0
         obtain ⟨x0, c0, rfl, _⟩ := hr0.form
         have d1 : FX g3 1 (a.eval (.tmp 86)) W := hd ⟨1, .data⟩ (by simp) rfl
         obtain ⟨lv1, e1, rs1, hr1, hm1⟩ := d1
         obtain ⟨x1, c1, rfl, _⟩ := hr1.form
         have d2 : FX g3 2 (a.eval (.tmp 87)) W := hd ⟨2, .data⟩ (by simp) rfl
         obtain ⟨lv2, e2, rs2, hr2, hm2⟩ := d2
         obtain ⟨x2, c2, rfl, _⟩ := hr2.form
         have d3 : FX g3 3 (a.eval (.tmp 88)) W := hd ⟨3, .data⟩ (by simp) rfl
         obtain ⟨lv3, e3, rs3, hr3, hm3⟩ := d3
         obtain ⟨x3, c3, rfl, _⟩ := hr3.form
         have d4 : FX g3 4 (a.eval (.tmp 89)) W := hd ⟨4, .data⟩ (by simp) rfl
         obtain ⟨lv4, e4, rs4, hr4, hm4⟩ := d4
         obtain ⟨x4, c4, rfl, _⟩ := hr4.form
         have d9 : FX g3 9 (a.eval (.tmp 94)) W := hd ⟨9, .data⟩ (by simp) rfl
         obtain ⟨lv5, e5, rs5, hr5, hm5⟩ := d9
         obtain ⟨x5, c5, rfl, _⟩ := hr5.form
         have d13 : FX g3 13 (a.eval (.tmp 98)) W := hd ⟨13, .data⟩ (by simp) rfl
         obtain ⟨lv6, e6, rs6, hr6, hm6⟩ := d13
         obtain ⟨x6, c6, rfl, _⟩ := hr6.form
         have d17 : FX g3 17 (a.eval (.tmp 102)) W := hd ⟨17, .data⟩ (by simp) rfl
         obtain ⟨lv7, e7, rs7, hr7, hm7⟩ := d17
         obtain ⟨x7, c7, rfl, _⟩ := hr7.form
         have d21 : FX g3 21 (a.eval (.tmp 106)) W := hd ⟨21, .data⟩ (by simp) rfl
         obtain ⟨lv8, e8, rs8, hr8, hm8⟩ := d21
         obtain ⟨x8, c8, rfl, _⟩ := hr8.form
         have d27 : FX g3 27 (a.eval (.tmp 112)) W := hd ⟨27, .data⟩ (by simp) rfl
         obtain ⟨lv9, e9, rs9, hr9, hm9⟩ := d27
         obtain ⟨x9, c9, rfl, _⟩ := hr9.form
         refine op_files rfl e0 e1 e2 e3 e4 e5 e6 e7 e8 e9 ⟨_, rfl, GX.later hG (bAl _ _), bAl _ _, (show ∃ g, _ = _ ∧ Cf _ g from ⟨W.heap.size, rfl, by simp, fun k hk => ?_⟩)⟩
         have hc : k = 0 ∨ k = 1 ∨ k = 2 ∨ k = 3 ∨ k = 4 ∨ k = 5 ∨ k = 6 ∨ k = 7 ∨ k = 8 ∨ k = 9 := by omega
         rcases hc with rfl | rfl | rfl | rfl | rfl | rfl | rfl | rfl | rfl | rfl
         · exact ⟨_, (CB.new W _ _).cell 0 (by simp), (CB.new W _ _).cell 1 (by simp), (CB.new W _ _).cell 2 (by simp), (CB.new W _ _).cell 3 (by simp), rs0, hr0.later (bAl _ _), hm0⟩
         · exact ⟨_, (CB.new W _ _).cell 4 (by simp), (CB.new W _ _).cell 5 (by simp), (CB.new W _ _).cell 6 (by simp), (CB.new W _ _).cell 7 (by simp), rs1, hr1.later (bAl _ _), hm1⟩
         · exact ⟨_, (CB.new W _ _).cell 8 (by simp), (CB.new W _ _).cell 9 (by simp), (CB.new W _ _).cell 10 (by simp), (CB.new W _ _).cell 11 (by simp), rs2, hr2.later (bAl _ _), hm2⟩
         · exact ⟨_, (CB.new W _ _).cell 12 (by simp), (CB.new W _ _).cell 13 (by simp), (CB.new W _ _).cell 14 (by simp), (CB.new W _ _).cell 15 (by simp), rs3, hr3.later (bAl _ _), hm3⟩
         · exact ⟨_, (CB.new W _ _).cell 16 (by simp), (CB.new W _ _).cell 17 (by simp), (CB.new W _ _).cell 18 (by simp), (CB.new W _ _).cell 19 (by simp), rs4, hr4.later (bAl _ _), hm4⟩
         · exact ⟨_, (CB.new W _ _).cell 20 (by simp), (CB.new W _ _).cell 21 (by simp), (CB.new W _ _).cell 22 (by simp), (CB.new W _ _).cell 23 (by simp), rs5, hr5.later (bAl _ _), hm5⟩
         · exact ⟨_, (CB.new W _ _).cell 24 (by simp), (CB.new W _ _).cell 25 (by simp), (CB.new W _ _).cell 26 (by simp), (CB.new W _ _).cell 27 (by simp), rs6, hr6.later (bAl _ _), hm6⟩
         · exact ⟨_, (CB.new W _ _).cell 28 (by simp), (CB.new W _ _).cell 29 (by simp), (CB.new W _ _).cell 30 (by simp), (CB.new W _ _).cell 31 (by simp), rs7, hr7.later (bAl _ _), hm7⟩
         · exact ⟨_, (CB.new W _ _).cell 32 (by simp), (CB.new W _ _).cell 33 (by simp), (CB.new W _ _).cell 34 (by simp), (CB.new W _ _).cell 35 (by simp), rs8, hr8.later (bAl _ _), hm8⟩
         · exact ⟨_, (CB.new W _ _).cell 36 (by simp), (CB.new W _ _).cell 37 (by simp), (CB.new W _ _).cell 38 (by simp), (CB.new W _ _).cell 39 (by simp), rs9, hr9.later (bAl _ _), hm9⟩
       · replace ho := Option.some.inj (Eq.trans (Eq.symm ho) rfl)
         subst ho
         have d28 : FX g3 28 (a.eval (.tmp 113)) W := hd ⟨28, .data⟩ (by simp) rfl
         obtain ⟨g, e, _⟩ := d28
         refine op_len rfl e ⟨_, rfl, hG, Below.refl _ _, rfl⟩
       · replace ho := Option.some.inj (Eq.trans (Eq.symm ho) rfl)
         subst ho
         refine op_move rfl ⟨_, rfl, hG, Below.refl _ _, rfl⟩
     · intro vs W hG hF
       obtain ⟨g, e28, hcf⟩ : ∃ g, vs 28 = .slice (some ⟨g, 0, none⟩) 10 10 ∧ Cf W g := hF 28 (by omega)
       have e29 : vs 29 = .int .i64 10 := hF 29 (by omega)
       have e30 : vs 30 = .int .i64 0 := hF 30 (by omega)
       have HCf := Lib.hid hcf
       have HG := Lib.hid hG
       clear hF hcf hG HG3
       generalize hA : actF _ 85 31 (fun _ => true) vs = A
       simp only [actF, fillL, Nat.reduceAdd, Nat.reduceSub, Nat.reduceLeDiff, Nat.reduceLT, if_true, if_false, and_true, and_false, and_self, e28, e29, e30] at hA
       subst hA
       clear e28 e29 e30
       go_wp2_with fail
       go_loopw [115] (fun i wr => ∃ k : Nat, k ≤ 10 ∧ i = .int .i64 (k : Nat) ∧ Hid (Cf wr g ∧ T8 wr ∧ Below w.heap.size w wr)) (fun i _ => 10 - (RowKit.intOf i).toNat)
       case atStart => exact ⟨0, by omega, rfl, HCf.out, HG.out.2.1, HG.out.2.2⟩
       case round =>
         obtain ⟨k, hk, rfl, hw⟩ := hrel
         by_cases hlt : k < 10
         · have hlti : (k : Int) < 10 := by omega
           obtain ⟨lv, y0, y1, y2, y3, y4⟩ := hw.out.1.2 k hlt
           obtain ⟨rs, hr, hm⟩ := y4
           obtain ⟨lx, lc, rfl, _⟩ := hr.form
           have HWr : Hid (∀ W, Below wr.heap.size wr W → Calls Tryd.prog 9 #[.agg #[.int .i64 (fE k).f, .int .i64 (fE k).c, .int .i64 (fE k).k, .slice lx rs.length lc]] W fun r w' => r = .returned (.tuple #[sv [], .int .i64 1]) ∧ Below W.heap.size W w') := Lib.hid (fun W hW => writeF HP.out hlt _ W ⟨rs, hr.later hW, hm⟩ (hw.out.2.1.later hW))
           have HW := Lib.hid hw.out
           clear hw hr hm
           generalize (fE k).f = f0 at *
           generalize (fE k).c = c0 at *
           generalize (fE k).k = k0 at *
           generalize rs.length = n0 at *
           have hbA := bAl wr (.cells #[.int .i64 f0, .int .i64 c0, .int .i64 k0, .slice lx n0 lc] 28)
           have HBA := Lib.hid hbA
           have HWr2 := Lib.hid (HWr.out _ hbA)
           clear HWr hbA
           go_wp2_with fail
           refine HWr2.out.mono ?_
           rintro r w2 ⟨rfl, hb2⟩
           have HWB := Lib.hid (And.intro ((HW.out.1.later HBA.out).later hb2) (And.intro ((HW.out.2.1.later HBA.out).later hb2) ((HW.out.2.2.trans (HBA.out.mono HW.out.2.2.size)).trans (hb2.mono (Nat.le_trans HW.out.2.2.size HBA.out.size)))))
           clear hb2 HW HBA HWr2 y0 y1 y2 y3
           go_wp2
           first
             | refine ⟨⟨_, _, _, _, _, _, _, _, _, _, _, _, _, _, _, ⟨k + 1, by omega, ?_, HWB.out⟩, rfl⟩, ?_⟩
             | refine ⟨⟨_, _, _, _, _, _, _, _, _, _, _, _, _, _, _, _, ⟨k + 1, by omega, ?_, HWB.out⟩, rfl⟩, ?_⟩
             | refine ⟨⟨_, _, _, _, _, _, _, _, _, _, _, _, _, _, _, _, _, ⟨k + 1, by omega, ?_, HWB.out⟩, rfl⟩, ?_⟩
             | refine ⟨⟨_, _, _, _, _, _, _, _, _, _, _, _, _, _, _, _, _, _, ⟨k + 1, by omega, ?_, HWB.out⟩, rfl⟩, ?_⟩
             | refine ⟨⟨_, _, _, _, _, _, _, _, _, _, _, _, _, _, _, _, _, _, _, ⟨k + 1, by omega, ?_, HWB.out⟩, rfl⟩, ?_⟩
             | refine ⟨⟨_, _, _, _, _, _, _, _, _, _, _, _, _, _, _, _, _, _, _, _, ⟨k + 1, by omega, ?_, HWB.out⟩, rfl⟩, ?_⟩
             | refine ⟨⟨_, _, _, _, _, _, _, _, _, _, _, _, _, _, _, _, _, _, _, _, _, ⟨k + 1, by omega, ?_, HWB.out⟩, rfl⟩, ?_⟩
           · go_num
           · show 10 - ((k : Int) + 1).toNat < 10 - ((k : Int)).toNat
             omega
         · obtain rfl : k = 10 := by omega
           have HW6 : Hid (Calls Tryd.prog 9 #[.agg #[.int .i64 1, .int .i64 6, .int .i64 0, .slice none 0 0]] wr fun r w' => r = .returned (.tuple #[sv [48, 32, 54, 32, 48, 10], .int .i64 0]) ∧ Below wr.heap.size wr w') := Lib.hid (by
             have := writeE_any HP.out 1 6 0 (.slice none 0 0) [] wr ⟨⟨none, 0, rfl, by simp, by omega, Or.inl rfl⟩, fun p hp => by simp at hp⟩ (by simp) hw.out.2.1
             rw [show (⟨1, 6, 0, ([] : List Rt).map (·.1)⟩ : Fe) = ⟨1, 6, 0, []⟩ from rfl, wE_six p] at this
             exact this)
           have HB := Lib.hid hw.out.2.2
           clear hw HCf HG
           go_wp2_with fail
           refine HW6.out.mono ?_
           rintro r w2 ⟨rfl, hb2⟩
           have HB2 := Lib.hid (HB.out.trans (hb2.mono HB.out.size))
           clear hb2 HB
           go_wp2
           go_ret
           exact ⟨rfl, HB2.out⟩
end
end Go.Proofs.YtgoadpnoagaflaaDoor
