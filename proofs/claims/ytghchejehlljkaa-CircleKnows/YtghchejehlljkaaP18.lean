/- Own texts, put together: Cp. -/
import Derived.Test.YtghchejehlljkaaP16
import Derived.Test.YtghchejehlljkaaP17
/- The document's side of layer 5: Sum. -/
namespace Go.Proofs.Ytghchejehlljkaa
open Go.RowKit Go.Shelf
attribute [local go_sem] run_store_float

structure NumD where
  S : Int
  a : Option Addr
  n : Nat
  c : Nat
  E : Int
abbrev NumD.ag (d : NumD) : Value := (.agg #[.int .i64 d.S, .slice d.a d.n d.c, .int .i64 d.E])
abbrev NumD.cs (d : NumD) : List Value := [.int .i64 d.S, .slice d.a d.n d.c, .int .i64 d.E]
theorem Rf.num {w : World} {v : Value} {q : Rat} (h : Rf w v q) : ∃ d : NumD, v = (.agg #[.int .i64 d.S, .slice d.a d.n d.c, .int .i64 d.E]) := by
  obtain ⟨S, a, n, c, E, rfl⟩ := h.agg
  exact ⟨⟨S, a, n, c, E⟩, rfl⟩

def Row3 (W : World) (g : Nat) (d0 d1 d2 : NumD) (q0 q1 q2 : Rat) : Prop := CB W g #[.int .i64 d0.S, .slice d0.a d0.n d0.c, .int .i64 d0.E, .int .i64 d1.S, .slice d1.a d1.n d1.c, .int .i64 d1.E, .int .i64 d2.S, .slice d2.a d2.n d2.c, .int .i64 d2.E] 56 ∧ Rf W d0.ag q0 ∧ Rf W d1.ag q1 ∧ Rf W d2.ag q2
theorem Row3.later {W W' : World} {g : Nat} {d0 d1 d2 : NumD} {q0 q1 q2 : Rat} (h : Row3 W g d0 d1 d2 q0 q1 q2) (hb : Below W.heap.size W W') : Row3 W' g d0 d1 d2 q0 q1 q2 := ⟨h.1.later hb, h.2.1.later hb, h.2.2.1.later hb, h.2.2.2.later hb⟩
theorem Row3.drew {W : World} {g : Nat} {d0 d1 d2 : NumD} {q0 q1 q2 : Rat} (h : Row3 W g d0 d1 d2 q0 q1 q2) : Row3 W.drew g d0 d1 d2 q0 q1 q2 := ⟨h.1.drew, h.2.1.drew, h.2.2.1.drew, h.2.2.2.drew⟩
theorem Row3.boxed {W W' : World} {g b : Nat} {d0 d1 d2 : NumD} {q0 q1 q2 : Rat} (h : Row3 W g d0 d1 d2 q0 q1 q2) (ho : OtherRow W b) (hmb : MB W W' b) (hn : g ≠ b) : Row3 W' g d0 d1 d2 q0 q1 q2 := ⟨h.1.mb hmb hn, h.2.1.mb ho hmb, h.2.2.1.mb ho hmb, h.2.2.2.mb ho hmb⟩

structure SW1 (w W : World) (ax ay bx by' cx cy dx dy : Nat) : Prop where
  pts : B4 w W ax ay bx by' cx cy dx dy
  res : ∃ cs, CB W (w.heap.size + 1 + 1 + 1 + 1) cs 56 ∧ cs.size = 3
theorem SW1.later {w W W' : World} {ax ay bx by' cx cy dx dy : Nat} (h : SW1 w W ax ay bx by' cx cy dx dy) (hb : Below W.heap.size W W') : SW1 w W' ax ay bx by' cx cy dx dy := ⟨h.pts.later hb, by obtain ⟨cs, h1, h2⟩ := h.res; exact ⟨cs, h1.later hb, h2⟩⟩
theorem SW1.drew {w W : World} {ax ay bx by' cx cy dx dy : Nat} (h : SW1 w W ax ay bx by' cx cy dx dy) : SW1 w W.drew ax ay bx by' cx cy dx dy := ⟨h.pts.drew, by obtain ⟨cs, h1, h2⟩ := h.res; exact ⟨cs, h1.drew, h2⟩⟩
theorem SW1.lt {w W : World} {ax ay bx by' cx cy dx dy : Nat} (h : SW1 w W ax ay bx by' cx cy dx dy) : w.heap.size + 1 + 1 + 1 + 1 < W.heap.size := by obtain ⟨cs, h1, _⟩ := h.res; exact h1.lt
theorem SW1.boxed {w W W' : World} {ax ay bx by' cx cy dx dy g : Nat} (h : SW1 w W ax ay bx by' cx cy dx dy) (hm : Moved W W' g) (hl : w.heap.size + 1 + 1 + 1 + 1 < g) : SW1 w W' ax ay bx by' cx cy dx dy := ⟨h.pts.moved hm (by omega), by obtain ⟨cs, h1, h2⟩ := h.res; exact ⟨cs, hm.box _ _ _ (by omega) h1, h2⟩⟩
def SW2 (w W : World) (ax ay bx by' cx cy dx dy gx : Nat) (x0 x1 x2 : NumD) (X0 X1 X2 : Rat) : Prop := SW1 w W ax ay bx by' cx cy dx dy ∧ Row3 W gx x0 x1 x2 X0 X1 X2
theorem SW2.later {w W W' : World} {ax ay bx by' cx cy dx dy gx : Nat} {x0 x1 x2 : NumD} {X0 X1 X2 : Rat} (h : SW2 w W ax ay bx by' cx cy dx dy gx x0 x1 x2 X0 X1 X2) (hb : Below W.heap.size W W') : SW2 w W' ax ay bx by' cx cy dx dy gx x0 x1 x2 X0 X1 X2 := ⟨h.1.later hb, h.2.later hb⟩
theorem SW2.drew {w W : World} {ax ay bx by' cx cy dx dy gx : Nat} {x0 x1 x2 : NumD} {X0 X1 X2 : Rat} (h : SW2 w W ax ay bx by' cx cy dx dy gx x0 x1 x2 X0 X1 X2) : SW2 w W.drew ax ay bx by' cx cy dx dy gx x0 x1 x2 X0 X1 X2 := ⟨h.1.drew, h.2.drew⟩

structure ZZ (B : Nat) (W : World) (z : Value) (ds : List NumD) (qs : List Rat) : Prop where
  len : ds.length = qs.length
  own : W.ownsRow B 56 3 z ds.length (ds.flatMap NumD.cs)
  num : ∀ p ∈ ds.zip qs, Rf W p.1.ag p.2
theorem ZZ.nil (B : Nat) (W : World) : ZZ B W (.slice none 0 0) [] [] := ⟨rfl, World.ownsRow_nil W B _ 3, by simp⟩
theorem own_later {W W' : World} {B e s n : Nat} {z : Value} {xs : List Value} (h : W.ownsRow B e s z n xs) (hb : Below W.heap.size W W') : W'.ownsRow B e s z n xs := by
  refine ⟨h.1, ?_⟩
  rcases h.2 with h1 | ⟨g, cap, cur, h1, h2, h3, h4⟩
  · exact Or.inl h1
  · refine Or.inr ⟨g, cap, cur, h1, h2, ?_, h4⟩
    rw [hb.block g (Array.getElem?_eq_some_iff.1 h3).1]; exact h3
theorem ZZ.later {B : Nat} {W W' : World} {z : Value} {ds : List NumD} {qs : List Rat} (h : ZZ B W z ds qs) (hb : Below W.heap.size W W') : ZZ B W' z ds qs := ⟨h.len, own_later h.own hb, fun p hp => (h.num p hp).later hb⟩
theorem Rf.grown {W W' : World} {v : Value} {q : Rat} {row : Option Nat} (h : Rf W v q) (hg : W.grownBy W' row) (hr : ∀ g, IntRow W g → some g ≠ row) : Rf W' v q := by
  obtain ⟨S, ds, E, h1, h2, h3⟩ := h
  refine ⟨S, ds, E, ?_, h2, h3⟩
  obtain ⟨⟨a, c, hv, hcap, hf⟩, k2, k3, k4, k5⟩ := h1
  refine ⟨⟨a, c, hv, hcap, ?_⟩, k2, k3, k4, k5⟩
  rcases hf with hf | ⟨g, off, ha, hf, hi⟩
  · exact Or.inl hf
  · have hh := hg.block g hi.lt (hr g hi)
    exact Or.inr ⟨g, off, ha, fun k hk => by rw [World.cell?_of_block (a := ⟨g, off + k, none⟩) hh]; exact hf k hk, hi.block hh⟩
theorem own_type {W : World} {B n : Nat} {z : Value} {xs : List Value} (h : W.ownsRow B 56 3 z n xs) : ∀ g, IntRow W g → some g ≠ z.ownBlock := by
  intro g hi e
  rcases h.2 with ⟨rfl, _⟩ | ⟨g', cap, cur, rfl, _, h3, _⟩
  · cases e
  · obtain rfl : g = g' := by simpa [Value.ownBlock] using e
    obtain ⟨cur', fr', h4⟩ := hi
    rw [h3] at h4
    simp at h4
theorem ZZ.grow {B : Nat} {W W' : World} {z z' : Value} {ds : List NumD} {qs : List Rat} {d : NumD} {q : Rat} (h : ZZ B W z ds qs) (hr : Rf W d.ag q) (hg : W.grownBy W' z.ownBlock) (ho : W'.ownsRow B 56 3 z' (ds.length + 1) (ds.flatMap NumD.cs ++ d.cs)) : ZZ B W' z' (ds ++ [d]) (qs ++ [q]) := by
  have ht := own_type h.own
  refine ⟨by simp [h.len], by simpa using ho, fun p hp => ?_⟩
  rw [List.zip_append h.len] at hp
  rcases List.mem_append.1 hp with hp | hp
  · exact (h.num p hp).grown hg ht
  · simp at hp
    rw [hp]
    exact hr.grown hg ht
theorem infoN : (Try.prog.info? 56).map (fun i => (i.zero, i.size, i.bytes)) = some (some (.agg #[.int .i64 0, .slice none 0 0, .int .i64 0]), 3, 40) := by kernel_rfl
theorem undN : Try.prog.underlying 70 = some (.slice 56) := by kernel_rfl
theorem wp_append_own {P : Program} {o : Oper} {aa : Act} {w : World} {K : Act → World → Prop} {Q : Exit → Act → World → Prop} (s x : Operand) (t : TypeId) (ho : o.op = .call { callee := .builtin .append, args := #[s, x], argTypes := #[t, t] })
    (base : Nat) (e : TypeId) (i : TypeInfo) (z : Value) (size bytes : Nat) (ht : P.underlying t = some (.slice e)) (hi : P.info? e = some i) (hz : i.zero = some z) (hsize : i.size = size) (hby : i.bytes = bytes) (hzs : z.cells.size = size) (hsz : 0 < size)
    (v : Value) (n : Nat) (xs : List Value) (hs : aa.eval s = v) (hown : w.ownsRow base e size v n xs) (ad : Addr) (m c : Nat) (news : List Value) (hx : aa.eval x = .slice (some ad) m c) (hl : news.length = m * size) (hnews : ∀ j u, news[j]? = some u → w.cell? (ad.add j) = some u) (h1 : ∀ u ∈ news, u.oneCell' = true)
    (h63 : n + m ≤ maxLen) (hbytes : (n + m) * bytes ≤ 140737488355328) (hbase : base ≤ w.heap.size)
    (h : ∀ v' w', w'.ownsRow base e size v' (n + m) (xs ++ news) → w.grownBy w' v.ownBlock → K (aa.put o.dst v') w') : Oper.wp P o aa w K Q := by
  obtain ⟨v', w', hr, h2, h3, h4⟩ := run_append_own (P := P) w base t o.type e i z size bytes ht hi hz hsize hby hzs hsz v n xs hown ad m c news hl hnews h1 h63 hbytes hbase
  unfold Oper.wp execOp
  simp only [ho, resolve, invoke, builtin, Sem.run_bind, Sem.run_pure, Result.andThen_ok, List.map_toArray, List.map_cons, List.map_nil, hs, hx, hr]
  exact h v' w' h2 h3
theorem three' {ds : List NumD} (h : ds.length = 3) : ∃ x y z, ds = [x, y, z] := by
  match ds, h with
  | [x, y, z], _ => exact ⟨x, y, z, rfl⟩
theorem own_three {W : World} {B : Nat} {z : Value} {z0 z1 z2 : NumD} (h : W.ownsRow B 56 3 z [z0, z1, z2].length ([z0, z1, z2].flatMap NumD.cs)) : ∃ g c, z = .slice (some ⟨g, 0, none⟩) 3 c := by
  rcases h.2 with ⟨_, h0⟩ | ⟨g, cap, _, rfl, _⟩
  · simp at h0
  · exact ⟨g, cap, rfl⟩
def ZC (W : World) (gz : Nat) (z0 z1 z2 : NumD) : Prop := W.cell? ⟨gz, 0, none⟩ = some (.int .i64 z0.S) ∧ W.cell? ⟨gz, 1, none⟩ = some (.slice z0.a z0.n z0.c) ∧ W.cell? ⟨gz, 2, none⟩ = some (.int .i64 z0.E) ∧ W.cell? ⟨gz, 3, none⟩ = some (.int .i64 z1.S) ∧ W.cell? ⟨gz, 4, none⟩ = some (.slice z1.a z1.n z1.c) ∧ W.cell? ⟨gz, 5, none⟩ = some (.int .i64 z1.E) ∧ W.cell? ⟨gz, 6, none⟩ = some (.int .i64 z2.S) ∧ W.cell? ⟨gz, 7, none⟩ = some (.slice z2.a z2.n z2.c) ∧ W.cell? ⟨gz, 8, none⟩ = some (.int .i64 z2.E)
theorem own_cells {W : World} {B gz cz : Nat} {z0 z1 z2 : NumD} (h : W.ownsRow B 56 3 (.slice (some ⟨gz, 0, none⟩) 3 cz) [z0, z1, z2].length ([z0, z1, z2].flatMap NumD.cs)) : ZC W gz z0 z1 z2 := by
  have k : ∀ j u, ([z0, z1, z2].flatMap NumD.cs)[j]? = some u → W.cell? ⟨gz, j, none⟩ = some u := fun j u hj => by
    have := h.cells (g := gz) rfl j u hj
    rwa [show (⟨gz, 0, none⟩ : Addr).add j = ⟨gz, j, none⟩ by unfold Addr.add; split <;> simp_all] at this
  exact ⟨k 0 _ rfl, k 1 _ rfl, k 2 _ rfl, k 3 _ rfl, k 4 _ rfl, k 5 _ rfl, k 6 _ rfl, k 7 _ rfl, k 8 _ rfl⟩
theorem ZZ.drew {B : Nat} {W : World} {z : Value} {ds : List NumD} {qs : List Rat} (h : ZZ B W z ds qs) : ZZ B W.drew z ds qs := ⟨h.len, h.own.drew, fun p hp => (h.num p hp).drew⟩
structure SF (w W : World) (ax ay bx by' cx cy dx dy gx gy gz : Nat) (x0 x1 x2 y0 y1 y2 z0 z1 z2 : NumD) (X0 X1 X2 Y0 Y1 Y2 : Rat) : Prop where
  one : SW1 w W ax ay bx by' cx cy dx dy
  rx : Row3 W gx x0 x1 x2 X0 X1 X2
  ry : Row3 W gy y0 y1 y2 Y0 Y1 Y2
  zc : ZC W gz z0 z1 z2
  rz0 : Rf W z0.ag (X0 * X0 + Y0 * Y0)
  rz1 : Rf W z1.ag (X1 * X1 + Y1 * Y1)
  rz2 : Rf W z2.ag (X2 * X2 + Y2 * Y2)
variable {w W W' : World} {ax ay bx by' cx cy dx dy gx gy gz : Nat} {x0 x1 x2 y0 y1 y2 z0 z1 z2 : NumD} {X0 X1 X2 Y0 Y1 Y2 : Rat}
theorem SF.later (h : SF w W ax ay bx by' cx cy dx dy gx gy gz x0 x1 x2 y0 y1 y2 z0 z1 z2 X0 X1 X2 Y0 Y1 Y2) (hb : Below W.heap.size W W') : SF w W' ax ay bx by' cx cy dx dy gx gy gz x0 x1 x2 y0 y1 y2 z0 z1 z2 X0 X1 X2 Y0 Y1 Y2 := ⟨h.one.later hb, h.rx.later hb, h.ry.later hb, ⟨box_cell hb h.zc.1, box_cell hb h.zc.2.1, box_cell hb h.zc.2.2.1, box_cell hb h.zc.2.2.2.1, box_cell hb h.zc.2.2.2.2.1, box_cell hb h.zc.2.2.2.2.2.1, box_cell hb h.zc.2.2.2.2.2.2.1, box_cell hb h.zc.2.2.2.2.2.2.2.1, box_cell hb h.zc.2.2.2.2.2.2.2.2⟩, h.rz0.later hb, h.rz1.later hb, h.rz2.later hb⟩
theorem SF.drew (h : SF w W ax ay bx by' cx cy dx dy gx gy gz x0 x1 x2 y0 y1 y2 z0 z1 z2 X0 X1 X2 Y0 Y1 Y2) : SF w W.drew ax ay bx by' cx cy dx dy gx gy gz x0 x1 x2 y0 y1 y2 z0 z1 z2 X0 X1 X2 Y0 Y1 Y2 := ⟨h.one.drew, h.rx.drew, h.ry.drew, h.zc, h.rz0.drew, h.rz1.drew, h.rz2.drew⟩
theorem SF.lt (h : SF w W ax ay bx by' cx cy dx dy gx gy gz x0 x1 x2 y0 y1 y2 z0 z1 z2 X0 X1 X2 Y0 Y1 Y2) : gz < W.heap.size := World.block_lt_of_cell? _ _ h.zc.1
theorem SF.boxed' {g : Nat} (h : SF w W ax ay bx by' cx cy dx dy gx gy gz x0 x1 x2 y0 y1 y2 z0 z1 z2 X0 X1 X2 Y0 Y1 Y2) (ho : OtherRow W g) (hm : Moved W W' g) (hmb : MB W W' g) (h1 : w.heap.size + 1 + 1 + 1 + 1 < g) (h2 : gx < g) (h3 : gy < g) (h4 : gz < g) : SF w W' ax ay bx by' cx cy dx dy gx gy gz x0 x1 x2 y0 y1 y2 z0 z1 z2 X0 X1 X2 Y0 Y1 Y2 := ⟨h.one.boxed hm h1, h.rx.boxed ho hmb (by omega), h.ry.boxed ho hmb (by omega), ⟨hm.cell _ _ _ (by omega) h.zc.1, hm.cell _ _ _ (by omega) h.zc.2.1, hm.cell _ _ _ (by omega) h.zc.2.2.1, hm.cell _ _ _ (by omega) h.zc.2.2.2.1, hm.cell _ _ _ (by omega) h.zc.2.2.2.2.1, hm.cell _ _ _ (by omega) h.zc.2.2.2.2.2.1, hm.cell _ _ _ (by omega) h.zc.2.2.2.2.2.2.1, hm.cell _ _ _ (by omega) h.zc.2.2.2.2.2.2.2.1, hm.cell _ _ _ (by omega) h.zc.2.2.2.2.2.2.2.2⟩, h.rz0.mb ho hmb, h.rz1.mb ho hmb, h.rz2.mb ho hmb⟩
def NB (W : World) (b : Nat) (v : Value) (q : Rat) (low : Nat) : Prop := (∃ S a n c E, v = .agg #[.int .i64 S, .slice a n c, .int .i64 E] ∧ CB W b #[.int .i64 S, .slice a n c, .int .i64 E] 56) ∧ Rf W v q ∧ low < b
theorem NB.later {b low : Nat} {v : Value} {q : Rat} (h : NB W b v q low) (hb : Below W.heap.size W W') : NB W' b v q low := ⟨by obtain ⟨S, a, n, c, E, e, k⟩ := h.1; exact ⟨S, a, n, c, E, e, k.later hb⟩, h.2.1.later hb, h.2.2⟩
theorem NB.drew {b low : Nat} {v : Value} {q : Rat} (h : NB W b v q low) : NB W.drew b v q low := ⟨by obtain ⟨S, a, n, c, E, e, k⟩ := h.1; exact ⟨S, a, n, c, E, e, k.drew⟩, h.2.1.drew, h.2.2⟩
theorem NB.lt {b low : Nat} {v : Value} {q : Rat} (h : NB W b v q low) : b < W.heap.size := by obtain ⟨S, a, n, c, E, e, k⟩ := h.1; exact k.lt
theorem NB.boxed {b g low : Nat} {v : Value} {q : Rat} (h : NB W b v q low) (ho : OtherRow W g) (hmb : MB W W' g) (hn : b ≠ g) : NB W' b v q low := ⟨by obtain ⟨S, a, n, c, E, e, k⟩ := h.1; exact ⟨S, a, n, c, E, e, k.mb hmb hn⟩, h.2.1.mb ho hmb, h.2.2⟩
def SF2 (w W : World) (ax ay bx by' cx cy dx dy gx gy gz : Nat) (x0 x1 x2 y0 y1 y2 z0 z1 z2 : NumD) (X0 X1 X2 Y0 Y1 Y2 : Rat) (b1 : Nat) (v1 : Value) (q1 : Rat) : Prop := SF w W ax ay bx by' cx cy dx dy gx gy gz x0 x1 x2 y0 y1 y2 z0 z1 z2 X0 X1 X2 Y0 Y1 Y2 ∧ NB W b1 v1 q1 gz
variable {b1 b2 : Nat} {v1 v2 : Value} {q1 q2 : Rat}
theorem SF2.later (h : SF2 w W ax ay bx by' cx cy dx dy gx gy gz x0 x1 x2 y0 y1 y2 z0 z1 z2 X0 X1 X2 Y0 Y1 Y2 b1 v1 q1) (hb : Below W.heap.size W W') : SF2 w W' ax ay bx by' cx cy dx dy gx gy gz x0 x1 x2 y0 y1 y2 z0 z1 z2 X0 X1 X2 Y0 Y1 Y2 b1 v1 q1 := ⟨h.1.later hb, h.2.later hb⟩
theorem SF2.drew (h : SF2 w W ax ay bx by' cx cy dx dy gx gy gz x0 x1 x2 y0 y1 y2 z0 z1 z2 X0 X1 X2 Y0 Y1 Y2 b1 v1 q1) : SF2 w W.drew ax ay bx by' cx cy dx dy gx gy gz x0 x1 x2 y0 y1 y2 z0 z1 z2 X0 X1 X2 Y0 Y1 Y2 b1 v1 q1 := ⟨h.1.drew, h.2.drew⟩
theorem SF2.lt (h : SF2 w W ax ay bx by' cx cy dx dy gx gy gz x0 x1 x2 y0 y1 y2 z0 z1 z2 X0 X1 X2 Y0 Y1 Y2 b1 v1 q1) : b1 < W.heap.size := h.2.lt
theorem SF2.boxed' {g : Nat} (h : SF2 w W ax ay bx by' cx cy dx dy gx gy gz x0 x1 x2 y0 y1 y2 z0 z1 z2 X0 X1 X2 Y0 Y1 Y2 b1 v1 q1) (ho : OtherRow W g) (hm : Moved W W' g) (hmb : MB W W' g) (h1 : w.heap.size + 1 + 1 + 1 + 1 < g) (h2 : gx < g) (h3 : gy < g) (h4 : b1 < g) : SF2 w W' ax ay bx by' cx cy dx dy gx gy gz x0 x1 x2 y0 y1 y2 z0 z1 z2 X0 X1 X2 Y0 Y1 Y2 b1 v1 q1 := ⟨h.1.boxed' ho hm hmb h1 h2 h3 (by have := h.2.2.2; omega), h.2.boxed ho hmb (by omega)⟩
def SF3 (w W : World) (ax ay bx by' cx cy dx dy gx gy gz : Nat) (x0 x1 x2 y0 y1 y2 z0 z1 z2 : NumD) (X0 X1 X2 Y0 Y1 Y2 : Rat) (b1 b2 : Nat) (v1 v2 : Value) (q1 q2 : Rat) : Prop := SF2 w W ax ay bx by' cx cy dx dy gx gy gz x0 x1 x2 y0 y1 y2 z0 z1 z2 X0 X1 X2 Y0 Y1 Y2 b1 v1 q1 ∧ NB W b2 v2 q2 b1
theorem SF3.later (h : SF3 w W ax ay bx by' cx cy dx dy gx gy gz x0 x1 x2 y0 y1 y2 z0 z1 z2 X0 X1 X2 Y0 Y1 Y2 b1 b2 v1 v2 q1 q2) (hb : Below W.heap.size W W') : SF3 w W' ax ay bx by' cx cy dx dy gx gy gz x0 x1 x2 y0 y1 y2 z0 z1 z2 X0 X1 X2 Y0 Y1 Y2 b1 b2 v1 v2 q1 q2 := ⟨h.1.later hb, h.2.later hb⟩
theorem SF3.drew (h : SF3 w W ax ay bx by' cx cy dx dy gx gy gz x0 x1 x2 y0 y1 y2 z0 z1 z2 X0 X1 X2 Y0 Y1 Y2 b1 b2 v1 v2 q1 q2) : SF3 w W.drew ax ay bx by' cx cy dx dy gx gy gz x0 x1 x2 y0 y1 y2 z0 z1 z2 X0 X1 X2 Y0 Y1 Y2 b1 b2 v1 v2 q1 q2 := ⟨h.1.drew, h.2.drew⟩
theorem SF3.lt (h : SF3 w W ax ay bx by' cx cy dx dy gx gy gz x0 x1 x2 y0 y1 y2 z0 z1 z2 X0 X1 X2 Y0 Y1 Y2 b1 b2 v1 v2 q1 q2) : b2 < W.heap.size := h.2.lt
theorem SF3.boxed' {g : Nat} (h : SF3 w W ax ay bx by' cx cy dx dy gx gy gz x0 x1 x2 y0 y1 y2 z0 z1 z2 X0 X1 X2 Y0 Y1 Y2 b1 b2 v1 v2 q1 q2) (ho : OtherRow W g) (hm : Moved W W' g) (hmb : MB W W' g) (h1 : w.heap.size + 1 + 1 + 1 + 1 < g) (h2 : gx < g) (h3 : gy < g) (h4 : b2 < g) : SF3 w W' ax ay bx by' cx cy dx dy gx gy gz x0 x1 x2 y0 y1 y2 z0 z1 z2 X0 X1 X2 Y0 Y1 Y2 b1 b2 v1 v2 q1 q2 := ⟨h.1.boxed' ho hm hmb h1 h2 h3 (by have := h.2.2.2; omega), h.2.boxed ho hmb (by omega)⟩
structure SF4 (w W : World) (ax ay bx by' cx cy dx dy : Nat) (v1 v2 v3 : Value) (q1 q2 q3 : Rat) : Prop where
  one : SW1 w W ax ay bx by' cx cy dx dy
  p : Rf W v1 q1
  r : Rf W v2 q2
  t : Rf W v3 q3
theorem SF4.later {v3 : Value} {q3 : Rat} (h : SF4 w W ax ay bx by' cx cy dx dy v1 v2 v3 q1 q2 q3) (hb : Below W.heap.size W W') : SF4 w W' ax ay bx by' cx cy dx dy v1 v2 v3 q1 q2 q3 := ⟨h.one.later hb, h.p.later hb, h.r.later hb, h.t.later hb⟩
theorem SF4.drew {v3 : Value} {q3 : Rat} (h : SF4 w W ax ay bx by' cx cy dx dy v1 v2 v3 q1 q2 q3) : SF4 w W.drew ax ay bx by' cx cy dx dy v1 v2 v3 q1 q2 q3 := ⟨h.one.drew, h.p.drew, h.r.drew, h.t.drew⟩

set_option maxRecDepth 100000 in
set_option maxHeartbeats 16000000 in
theorem sum4_rf (ax ay bx by' cx cy dx dy : Nat) (w : World) (hw : W8 ax ay bx by' cx cy dx dy) (hp : P4 ax ay bx by' cx cy dx dy) :
    Calls Try.prog 33 #[pv ax ay, pv bx by', pv cx cy, pv dx dy] w fun e w' => RfR w w' (S4 ax ay bx by' cx cy dx dy) e := by
  have HW : Hid (W8 ax ay bx by' cx cy dx dy) := hw
  have HP : Hid (P4 ax ay bx by' cx cy dx dy) := hp
  clear hw hp
  go_enter Try.func33, Try.ntmps33
  go_wp2_with fail
  have hS0 := B4.start w ax ay bx by' cx cy dx dy
  obtain ⟨W4, hW4⟩ : ∃ W4, W4 = ((((w.alloc (.cells #[.float .f64 ax, .float .f64 ay] 24)).alloc (.cells #[.float .f64 bx, .float .f64 by'] 24)).alloc (.cells #[.float .f64 cx, .float .f64 cy] 24)).alloc (.cells #[.float .f64 dx, .float .f64 dy] 24)) := ⟨_, rfl⟩
  have hsz : W4.heap.size = w.heap.size + 1 + 1 + 1 + 1 := by rw [hW4]; simp
  rw [← hW4] at hS0 ⊢
  clear hW4
  obtain ⟨W0, hW0⟩ : ∃ W0, W0 = W4.alloc (.cells #[.int .i64 0, .slice none 0 0, .int .i64 0] 56) := ⟨_, rfl⟩
  have hc0 := CB.new W4 #[.int .i64 0, .slice none 0 0, .int .i64 0] 56
  rw [hsz, ← hW0] at hc0
  have hB0 : B4 w W0 ax ay bx by' cx cy dx dy := hS0.later (by rw [hW0]; exact (Below.refl _ W4).alloc (Nat.le_refl _) _)
  have HX0 : Hid (SW1 w W0 ax ay bx by' cx cy dx dy) := ⟨hB0, ⟨_, hc0, rfl⟩⟩
  obtain ⟨za0, za1, zb0, zb1, zc0, zc1, zd0, zd1, _⟩ := hB0
  try rw [hsz]
  rw [← hW0]
  clear hW0 hS0 hc0 hsz
  refine wp_region_held_drew (S := (fun W => W.cell? ⟨w.heap.size, 0, none⟩ = some (.float .f64 ax) ∧ W.cell? ⟨w.heap.size, 1, none⟩ = some (.float .f64 ay) ∧ W.cell? ⟨w.heap.size + 1, 0, none⟩ = some (.float .f64 bx) ∧ W.cell? ⟨w.heap.size + 1, 1, none⟩ = some (.float .f64 by') ∧ W.cell? ⟨w.heap.size + 1 + 1, 0, none⟩ = some (.float .f64 cx) ∧ W.cell? ⟨w.heap.size + 1 + 1, 1, none⟩ = some (.float .f64 cy) ∧ W.cell? ⟨w.heap.size + 1 + 1 + 1, 0, none⟩ = some (.float .f64 dx) ∧ W.cell? ⟨w.heap.size + 1 + 1 + 1, 1, none⟩ = some (.float .f64 dy) ∧ SW1 w W ax ay bx by' cx cy dx dy)) (by kernel_rfl) ⟨za0, za1, zb0, zb1, zc0, zc1, zd0, zd1, HX0.out.drew⟩ (fun hS => ?_)
  refine take_at (i := 0) (d := some 16) (v := .pointer (some ⟨w.heap.size, 0, none⟩)) (by kernel_rfl) (by kernel_rfl) (by kernel_rfl) (by kernel_rfl) (fun _ _ _ h => h) ?_ hS ?_
  · intro o ho
    simp only [List.getElem?_toArray, List.getElem?_cons_zero, Option.some.injEq] at ho
    subst ho
    refine Or.inl ⟨by rfl, ?_⟩
    intro w hSw
    (try dsimp only at hSw)
    go_simp
  simp only [Act.put, List.setIfInBounds_toArray, List.set_cons_zero, List.set_cons_succ]
  refine take_at (i := 1) (d := some 17) (v := .float .f64 ax) (by kernel_rfl) (by kernel_rfl) (by kernel_rfl) (by kernel_rfl) (fun _ _ _ h => h) ?_ hS ?_
  · intro o ho
    simp only [List.getElem?_toArray, List.getElem?_cons_succ, List.getElem?_cons_zero, Option.some.injEq] at ho
    subst ho
    refine Or.inl ⟨by rfl, ?_⟩
    intro w hSw
    (try dsimp only at hSw)
    go_simp
  simp only [Act.put, List.setIfInBounds_toArray, List.set_cons_zero, List.set_cons_succ]
  refine take_at (i := 2) (d := some 18) (v := .pointer (some ⟨w.heap.size + 1 + 1 + 1, 0, none⟩)) (by kernel_rfl) (by kernel_rfl) (by kernel_rfl) (by kernel_rfl) (fun _ _ _ h => h) ?_ hS ?_
  · intro o ho
    simp only [List.getElem?_toArray, List.getElem?_cons_succ, List.getElem?_cons_zero, Option.some.injEq] at ho
    subst ho
    refine Or.inl ⟨by rfl, ?_⟩
    intro w hSw
    (try dsimp only at hSw)
    go_simp
  simp only [Act.put, List.setIfInBounds_toArray, List.set_cons_zero, List.set_cons_succ]
  refine take_at (i := 3) (d := some 19) (v := .float .f64 dx) (by kernel_rfl) (by kernel_rfl) (by kernel_rfl) (by kernel_rfl) (fun _ _ _ h => h) ?_ hS ?_
  · intro o ho
    simp only [List.getElem?_toArray, List.getElem?_cons_succ, List.getElem?_cons_zero, Option.some.injEq] at ho
    subst ho
    refine Or.inl ⟨by rfl, ?_⟩
    intro w hSw
    (try dsimp only at hSw)
    go_simp
  simp only [Act.put, List.setIfInBounds_toArray, List.set_cons_zero, List.set_cons_succ]
  refine take_at (i := 5) (d := some 21) (v := .pointer (some ⟨w.heap.size + 1, 0, none⟩)) (by kernel_rfl) (by kernel_rfl) (by kernel_rfl) (by kernel_rfl) (fun _ _ _ h => h) ?_ hS ?_
  · intro o ho
    simp only [List.getElem?_toArray, List.getElem?_cons_succ, List.getElem?_cons_zero, Option.some.injEq] at ho
    subst ho
    refine Or.inl ⟨by rfl, ?_⟩
    intro w hSw
    (try dsimp only at hSw)
    go_simp
  simp only [Act.put, List.setIfInBounds_toArray, List.set_cons_zero, List.set_cons_succ]
  refine take_at (i := 6) (d := some 22) (v := .float .f64 bx) (by kernel_rfl) (by kernel_rfl) (by kernel_rfl) (by kernel_rfl) (fun _ _ _ h => h) ?_ hS ?_
  · intro o ho
    simp only [List.getElem?_toArray, List.getElem?_cons_succ, List.getElem?_cons_zero, Option.some.injEq] at ho
    subst ho
    refine Or.inl ⟨by rfl, ?_⟩
    intro w hSw
    (try dsimp only at hSw)
    go_simp
  simp only [Act.put, List.setIfInBounds_toArray, List.set_cons_zero, List.set_cons_succ]
  refine take_at (i := 7) (d := some 23) (v := .pointer (some ⟨w.heap.size + 1 + 1 + 1, 0, none⟩)) (by kernel_rfl) (by kernel_rfl) (by kernel_rfl) (by kernel_rfl) (fun _ _ _ h => h) ?_ hS ?_
  · intro o ho
    simp only [List.getElem?_toArray, List.getElem?_cons_succ, List.getElem?_cons_zero, Option.some.injEq] at ho
    subst ho
    refine Or.inl ⟨by rfl, ?_⟩
    intro w hSw
    (try dsimp only at hSw)
    go_simp
  simp only [Act.put, List.setIfInBounds_toArray, List.set_cons_zero, List.set_cons_succ]
  refine take_at (i := 8) (d := some 24) (v := .float .f64 dx) (by kernel_rfl) (by kernel_rfl) (by kernel_rfl) (by kernel_rfl) (fun _ _ _ h => h) ?_ hS ?_
  · intro o ho
    simp only [List.getElem?_toArray, List.getElem?_cons_succ, List.getElem?_cons_zero, Option.some.injEq] at ho
    subst ho
    refine Or.inl ⟨by rfl, ?_⟩
    intro w hSw
    (try dsimp only at hSw)
    go_simp
  simp only [Act.put, List.setIfInBounds_toArray, List.set_cons_zero, List.set_cons_succ]
  refine take_at (i := 10) (d := some 26) (v := .pointer (some ⟨w.heap.size + 1 + 1, 0, none⟩)) (by kernel_rfl) (by kernel_rfl) (by kernel_rfl) (by kernel_rfl) (fun _ _ _ h => h) ?_ hS ?_
  · intro o ho
    simp only [List.getElem?_toArray, List.getElem?_cons_succ, List.getElem?_cons_zero, Option.some.injEq] at ho
    subst ho
    refine Or.inl ⟨by rfl, ?_⟩
    intro w hSw
    (try dsimp only at hSw)
    go_simp
  simp only [Act.put, List.setIfInBounds_toArray, List.set_cons_zero, List.set_cons_succ]
  refine take_at (i := 11) (d := some 27) (v := .float .f64 cx) (by kernel_rfl) (by kernel_rfl) (by kernel_rfl) (by kernel_rfl) (fun _ _ _ h => h) ?_ hS ?_
  · intro o ho
    simp only [List.getElem?_toArray, List.getElem?_cons_succ, List.getElem?_cons_zero, Option.some.injEq] at ho
    subst ho
    refine Or.inl ⟨by rfl, ?_⟩
    intro w hSw
    (try dsimp only at hSw)
    go_simp
  simp only [Act.put, List.setIfInBounds_toArray, List.set_cons_zero, List.set_cons_succ]
  refine take_at (i := 12) (d := some 28) (v := .pointer (some ⟨w.heap.size + 1 + 1 + 1, 0, none⟩)) (by kernel_rfl) (by kernel_rfl) (by kernel_rfl) (by kernel_rfl) (fun _ _ _ h => h) ?_ hS ?_
  · intro o ho
    simp only [List.getElem?_toArray, List.getElem?_cons_succ, List.getElem?_cons_zero, Option.some.injEq] at ho
    subst ho
    refine Or.inl ⟨by rfl, ?_⟩
    intro w hSw
    (try dsimp only at hSw)
    go_simp
  simp only [Act.put, List.setIfInBounds_toArray, List.set_cons_zero, List.set_cons_succ]
  refine take_at (i := 13) (d := some 29) (v := .float .f64 dx) (by kernel_rfl) (by kernel_rfl) (by kernel_rfl) (by kernel_rfl) (fun _ _ _ h => h) ?_ hS ?_
  · intro o ho
    simp only [List.getElem?_toArray, List.getElem?_cons_succ, List.getElem?_cons_zero, Option.some.injEq] at ho
    subst ho
    refine Or.inl ⟨by rfl, ?_⟩
    intro w hSw
    (try dsimp only at hSw)
    go_simp
  simp only [Act.put, List.setIfInBounds_toArray, List.set_cons_zero, List.set_cons_succ]
  refine call_at 4 (by kernel_rfl) (by kernel_rfl) ?_
  intro o ho
  simp only [List.getElem?_toArray, List.getElem?_cons_succ, List.getElem?_cons_zero, Option.some.injEq] at ho
  subst ho
  intro KF hK
  go_simp
  refine (less_any ax dx _ HW.out.1.1.1 HW.out.2.1 (crd_fin HP.out.1.1.1.1) (crd_fin HP.out.2.1.1)).mono ?_
  rintro e wx ⟨v, rfl, hx0, hbx⟩
  obtain ⟨x0, rfl⟩ := hx0.num
  go_wp2_with fail
  refine hK.out _ _ ⟨box_cell hbx hS.1, box_cell hbx hS.2.1, box_cell hbx hS.2.2.1, box_cell hbx hS.2.2.2.1, box_cell hbx hS.2.2.2.2.1, box_cell hbx hS.2.2.2.2.2.1, box_cell hbx hS.2.2.2.2.2.2.1, box_cell hbx hS.2.2.2.2.2.2.2.1, hS.2.2.2.2.2.2.2.2.later hbx⟩ ?_
  clear hS hbx
  intro hS
  clear hK KF
  try simp only [Act.put, List.setIfInBounds_toArray, List.set_cons_zero, List.set_cons_succ]
  refine call_at 9 (by kernel_rfl) (by kernel_rfl) ?_
  intro o ho
  simp only [List.getElem?_toArray, List.getElem?_cons_succ, List.getElem?_cons_zero, Option.some.injEq] at ho
  subst ho
  intro KF hK
  go_simp
  refine (less_any bx dx _ HW.out.1.2.1.1 HW.out.2.1 (crd_fin HP.out.1.2.1.1.1) (crd_fin HP.out.2.1.1)).mono ?_
  rintro e wx ⟨v, rfl, hx1, hbx⟩
  obtain ⟨x1, rfl⟩ := hx1.num
  have hx0 := hx0.later hbx
  go_wp2_with fail
  refine hK.out _ _ ⟨box_cell hbx hS.1, box_cell hbx hS.2.1, box_cell hbx hS.2.2.1, box_cell hbx hS.2.2.2.1, box_cell hbx hS.2.2.2.2.1, box_cell hbx hS.2.2.2.2.2.1, box_cell hbx hS.2.2.2.2.2.2.1, box_cell hbx hS.2.2.2.2.2.2.2.1, hS.2.2.2.2.2.2.2.2.later hbx⟩ ?_
  clear hS hbx
  intro hS
  clear hK KF
  try simp only [Act.put, List.setIfInBounds_toArray, List.set_cons_zero, List.set_cons_succ]
  refine call_at 14 (by kernel_rfl) (by kernel_rfl) ?_
  intro o ho
  simp only [List.getElem?_toArray, List.getElem?_cons_succ, List.getElem?_cons_zero, Option.some.injEq] at ho
  subst ho
  intro KF hK
  go_simp
  refine (less_any cx dx _ HW.out.1.2.2.1 HW.out.2.1 (crd_fin HP.out.1.2.2.1.1) (crd_fin HP.out.2.1.1)).mono ?_
  rintro e wx ⟨v, rfl, hx2, hbx⟩
  obtain ⟨x2, rfl⟩ := hx2.num
  have hx0 := hx0.later hbx
  have hx1 := hx1.later hbx
  go_wp2_with fail
  refine hK.out _ _ ⟨box_cell hbx hS.1, box_cell hbx hS.2.1, box_cell hbx hS.2.2.1, box_cell hbx hS.2.2.2.1, box_cell hbx hS.2.2.2.2.1, box_cell hbx hS.2.2.2.2.2.1, box_cell hbx hS.2.2.2.2.2.2.1, box_cell hbx hS.2.2.2.2.2.2.2.1, hS.2.2.2.2.2.2.2.2.later hbx⟩ ?_
  clear hS hbx
  intro hS
  clear hK KF
  try simp only [Act.put, List.setIfInBounds_toArray, List.set_cons_zero, List.set_cons_succ]
  have hC := CB.new wx #[.int .i64 x0.S, .slice x0.a x0.n x0.c, .int .i64 x0.E, .int .i64 x1.S, .slice x1.a x1.n x1.c, .int .i64 x1.E, .int .i64 x2.S, .slice x2.a x2.n x2.c, .int .i64 x2.E] 56
  have hbx : Below wx.heap.size wx (wx.alloc (.cells #[.int .i64 x0.S, .slice x0.a x0.n x0.c, .int .i64 x0.E, .int .i64 x1.S, .slice x1.a x1.n x1.c, .int .i64 x1.E, .int .i64 x2.S, .slice x2.a x2.n x2.c, .int .i64 x2.E] 56)) := (Below.refl _ wx).alloc (Nat.le_refl _) _
  have hx0 := hx0.later hbx
  have hx1 := hx1.later hbx
  have hx2 := hx2.later hbx
  have hS2 : (fun W => W.cell? ⟨w.heap.size, 0, none⟩ = some (.float .f64 ax) ∧ W.cell? ⟨w.heap.size, 1, none⟩ = some (.float .f64 ay) ∧ W.cell? ⟨w.heap.size + 1, 0, none⟩ = some (.float .f64 bx) ∧ W.cell? ⟨w.heap.size + 1, 1, none⟩ = some (.float .f64 by') ∧ W.cell? ⟨w.heap.size + 1 + 1, 0, none⟩ = some (.float .f64 cx) ∧ W.cell? ⟨w.heap.size + 1 + 1, 1, none⟩ = some (.float .f64 cy) ∧ W.cell? ⟨w.heap.size + 1 + 1 + 1, 0, none⟩ = some (.float .f64 dx) ∧ W.cell? ⟨w.heap.size + 1 + 1 + 1, 1, none⟩ = some (.float .f64 dy) ∧ SW1 w W ax ay bx by' cx cy dx dy) (wx.alloc (.cells #[.int .i64 x0.S, .slice x0.a x0.n x0.c, .int .i64 x0.E, .int .i64 x1.S, .slice x1.a x1.n x1.c, .int .i64 x1.E, .int .i64 x2.S, .slice x2.a x2.n x2.c, .int .i64 x2.E] 56)) := ⟨box_cell hbx hS.1, box_cell hbx hS.2.1, box_cell hbx hS.2.2.1, box_cell hbx hS.2.2.2.1, box_cell hbx hS.2.2.2.2.1, box_cell hbx hS.2.2.2.2.2.1, box_cell hbx hS.2.2.2.2.2.2.1, box_cell hbx hS.2.2.2.2.2.2.2.1, hS.2.2.2.2.2.2.2.2.later hbx⟩
  have hlow : w.heap.size + 1 + 1 + 1 + 1 < wx.heap.size := hS.2.2.2.2.2.2.2.2.lt
  obtain ⟨gx, hg⟩ : ∃ g, wx.heap.size = g := ⟨_, rfl⟩
  rw [hg] at hC hlow
  refine call_at 15 (by kernel_rfl) (by kernel_rfl) ?_
  intro o ho
  simp only [List.getElem?_toArray, List.getElem?_cons_succ, List.getElem?_cons_zero, Option.some.injEq] at ho
  subst ho
  intro KF hK
  go_simp
  go_wp2_with fail
  refine hK.out _ _ hS2 ?_
  clear hS hbx hS2
  intro hS
  clear hK KF
  try simp only [Act.put, List.setIfInBounds_toArray, List.set_cons_zero, List.set_cons_succ]
  try rw [hg]
  clear hg
  generalize (wx.alloc (.cells #[.int .i64 x0.S, .slice x0.a x0.n x0.c, .int .i64 x0.E, .int .i64 x1.S, .slice x1.a x1.n x1.c, .int .i64 x1.E, .int .i64 x2.S, .slice x2.a x2.n x2.c, .int .i64 x2.E] 56)) = WR at *
  refine take_at (i := 16) (d := some 9) (v := .slice (some ⟨gx, 0, none⟩) 3 3) (by kernel_rfl) (by kernel_rfl) (by kernel_rfl) (by kernel_rfl) (fun _ _ _ h => h) ?_ hS ?_
  · intro o ho
    simp only [List.getElem?_toArray, List.getElem?_cons_succ, List.getElem?_cons_zero, Option.some.injEq] at ho
    subst ho
    refine Or.inl ⟨by rfl, ?_⟩
    intro w hSw
    (try dsimp only at hSw)
    go_simp
  simp only [Act.put, List.setIfInBounds_toArray, List.set_cons_zero, List.set_cons_succ]
  refine wpAnyH_done (by kernel_rfl) ?_ _
  have HX1 : Hid (SW2 w WR ax ay bx by' cx cy dx dy gx x0 x1 x2 (fval ax - fval dx) (fval bx - fval dx) (fval cx - fval dx)) := ⟨hS.2.2.2.2.2.2.2.2, hC, hx0, hx1, hx2⟩
  have HLX : Hid (w.heap.size + 1 + 1 + 1 + 1 < gx) := hlow
  have za0 := hS.1
  have za1 := hS.2.1
  have zb0 := hS.2.2.1
  have zb1 := hS.2.2.2.1
  have zc0 := hS.2.2.2.2.1
  have zc1 := hS.2.2.2.2.2.1
  have zd0 := hS.2.2.2.2.2.2.1
  have zd1 := hS.2.2.2.2.2.2.2.1
  clear hS hC hx0 hx1 hx2 hlow
  go_wp2_with fail
  refine wp_region_held_drew (S := (fun W => W.cell? ⟨w.heap.size, 0, none⟩ = some (.float .f64 ax) ∧ W.cell? ⟨w.heap.size, 1, none⟩ = some (.float .f64 ay) ∧ W.cell? ⟨w.heap.size + 1, 0, none⟩ = some (.float .f64 bx) ∧ W.cell? ⟨w.heap.size + 1, 1, none⟩ = some (.float .f64 by') ∧ W.cell? ⟨w.heap.size + 1 + 1, 0, none⟩ = some (.float .f64 cx) ∧ W.cell? ⟨w.heap.size + 1 + 1, 1, none⟩ = some (.float .f64 cy) ∧ W.cell? ⟨w.heap.size + 1 + 1 + 1, 0, none⟩ = some (.float .f64 dx) ∧ W.cell? ⟨w.heap.size + 1 + 1 + 1, 1, none⟩ = some (.float .f64 dy) ∧ SW2 w W ax ay bx by' cx cy dx dy gx x0 x1 x2 (fval ax - fval dx) (fval bx - fval dx) (fval cx - fval dx))) (by kernel_rfl) ⟨za0, za1, zb0, zb1, zc0, zc1, zd0, zd1, HX1.out.drew⟩ (fun hS => ?_)
  refine take_at (i := 0) (d := some 32) (v := .pointer (some ⟨w.heap.size, 1, none⟩)) (by kernel_rfl) (by kernel_rfl) (by kernel_rfl) (by kernel_rfl) (fun _ _ _ h => h) ?_ hS ?_
  · intro o ho
    simp only [List.getElem?_toArray, List.getElem?_cons_zero, Option.some.injEq] at ho
    subst ho
    refine Or.inl ⟨by rfl, ?_⟩
    intro w hSw
    (try dsimp only at hSw)
    go_simp
  simp only [Act.put, List.setIfInBounds_toArray, List.set_cons_zero, List.set_cons_succ]
  refine take_at (i := 1) (d := some 33) (v := .float .f64 ay) (by kernel_rfl) (by kernel_rfl) (by kernel_rfl) (by kernel_rfl) (fun _ _ _ h => h) ?_ hS ?_
  · intro o ho
    simp only [List.getElem?_toArray, List.getElem?_cons_succ, List.getElem?_cons_zero, Option.some.injEq] at ho
    subst ho
    refine Or.inl ⟨by rfl, ?_⟩
    intro w hSw
    (try dsimp only at hSw)
    go_simp
  simp only [Act.put, List.setIfInBounds_toArray, List.set_cons_zero, List.set_cons_succ]
  refine take_at (i := 2) (d := some 34) (v := .pointer (some ⟨w.heap.size + 1 + 1 + 1, 1, none⟩)) (by kernel_rfl) (by kernel_rfl) (by kernel_rfl) (by kernel_rfl) (fun _ _ _ h => h) ?_ hS ?_
  · intro o ho
    simp only [List.getElem?_toArray, List.getElem?_cons_succ, List.getElem?_cons_zero, Option.some.injEq] at ho
    subst ho
    refine Or.inl ⟨by rfl, ?_⟩
    intro w hSw
    (try dsimp only at hSw)
    go_simp
  simp only [Act.put, List.setIfInBounds_toArray, List.set_cons_zero, List.set_cons_succ]
  refine take_at (i := 3) (d := some 35) (v := .float .f64 dy) (by kernel_rfl) (by kernel_rfl) (by kernel_rfl) (by kernel_rfl) (fun _ _ _ h => h) ?_ hS ?_
  · intro o ho
    simp only [List.getElem?_toArray, List.getElem?_cons_succ, List.getElem?_cons_zero, Option.some.injEq] at ho
    subst ho
    refine Or.inl ⟨by rfl, ?_⟩
    intro w hSw
    (try dsimp only at hSw)
    go_simp
  simp only [Act.put, List.setIfInBounds_toArray, List.set_cons_zero, List.set_cons_succ]
  refine take_at (i := 5) (d := some 37) (v := .pointer (some ⟨w.heap.size + 1, 1, none⟩)) (by kernel_rfl) (by kernel_rfl) (by kernel_rfl) (by kernel_rfl) (fun _ _ _ h => h) ?_ hS ?_
  · intro o ho
    simp only [List.getElem?_toArray, List.getElem?_cons_succ, List.getElem?_cons_zero, Option.some.injEq] at ho
    subst ho
    refine Or.inl ⟨by rfl, ?_⟩
    intro w hSw
    (try dsimp only at hSw)
    go_simp
  simp only [Act.put, List.setIfInBounds_toArray, List.set_cons_zero, List.set_cons_succ]
  refine take_at (i := 6) (d := some 38) (v := .float .f64 by') (by kernel_rfl) (by kernel_rfl) (by kernel_rfl) (by kernel_rfl) (fun _ _ _ h => h) ?_ hS ?_
  · intro o ho
    simp only [List.getElem?_toArray, List.getElem?_cons_succ, List.getElem?_cons_zero, Option.some.injEq] at ho
    subst ho
    refine Or.inl ⟨by rfl, ?_⟩
    intro w hSw
    (try dsimp only at hSw)
    go_simp
  simp only [Act.put, List.setIfInBounds_toArray, List.set_cons_zero, List.set_cons_succ]
  refine take_at (i := 7) (d := some 39) (v := .pointer (some ⟨w.heap.size + 1 + 1 + 1, 1, none⟩)) (by kernel_rfl) (by kernel_rfl) (by kernel_rfl) (by kernel_rfl) (fun _ _ _ h => h) ?_ hS ?_
  · intro o ho
    simp only [List.getElem?_toArray, List.getElem?_cons_succ, List.getElem?_cons_zero, Option.some.injEq] at ho
    subst ho
    refine Or.inl ⟨by rfl, ?_⟩
    intro w hSw
    (try dsimp only at hSw)
    go_simp
  simp only [Act.put, List.setIfInBounds_toArray, List.set_cons_zero, List.set_cons_succ]
  refine take_at (i := 8) (d := some 40) (v := .float .f64 dy) (by kernel_rfl) (by kernel_rfl) (by kernel_rfl) (by kernel_rfl) (fun _ _ _ h => h) ?_ hS ?_
  · intro o ho
    simp only [List.getElem?_toArray, List.getElem?_cons_succ, List.getElem?_cons_zero, Option.some.injEq] at ho
    subst ho
    refine Or.inl ⟨by rfl, ?_⟩
    intro w hSw
    (try dsimp only at hSw)
    go_simp
  simp only [Act.put, List.setIfInBounds_toArray, List.set_cons_zero, List.set_cons_succ]
  refine take_at (i := 10) (d := some 42) (v := .pointer (some ⟨w.heap.size + 1 + 1, 1, none⟩)) (by kernel_rfl) (by kernel_rfl) (by kernel_rfl) (by kernel_rfl) (fun _ _ _ h => h) ?_ hS ?_
  · intro o ho
    simp only [List.getElem?_toArray, List.getElem?_cons_succ, List.getElem?_cons_zero, Option.some.injEq] at ho
    subst ho
    refine Or.inl ⟨by rfl, ?_⟩
    intro w hSw
    (try dsimp only at hSw)
    go_simp
  simp only [Act.put, List.setIfInBounds_toArray, List.set_cons_zero, List.set_cons_succ]
  refine take_at (i := 11) (d := some 43) (v := .float .f64 cy) (by kernel_rfl) (by kernel_rfl) (by kernel_rfl) (by kernel_rfl) (fun _ _ _ h => h) ?_ hS ?_
  · intro o ho
    simp only [List.getElem?_toArray, List.getElem?_cons_succ, List.getElem?_cons_zero, Option.some.injEq] at ho
    subst ho
    refine Or.inl ⟨by rfl, ?_⟩
    intro w hSw
    (try dsimp only at hSw)
    go_simp
  simp only [Act.put, List.setIfInBounds_toArray, List.set_cons_zero, List.set_cons_succ]
  refine take_at (i := 12) (d := some 44) (v := .pointer (some ⟨w.heap.size + 1 + 1 + 1, 1, none⟩)) (by kernel_rfl) (by kernel_rfl) (by kernel_rfl) (by kernel_rfl) (fun _ _ _ h => h) ?_ hS ?_
  · intro o ho
    simp only [List.getElem?_toArray, List.getElem?_cons_succ, List.getElem?_cons_zero, Option.some.injEq] at ho
    subst ho
    refine Or.inl ⟨by rfl, ?_⟩
    intro w hSw
    (try dsimp only at hSw)
    go_simp
  simp only [Act.put, List.setIfInBounds_toArray, List.set_cons_zero, List.set_cons_succ]
  refine take_at (i := 13) (d := some 45) (v := .float .f64 dy) (by kernel_rfl) (by kernel_rfl) (by kernel_rfl) (by kernel_rfl) (fun _ _ _ h => h) ?_ hS ?_
  · intro o ho
    simp only [List.getElem?_toArray, List.getElem?_cons_succ, List.getElem?_cons_zero, Option.some.injEq] at ho
    subst ho
    refine Or.inl ⟨by rfl, ?_⟩
    intro w hSw
    (try dsimp only at hSw)
    go_simp
  simp only [Act.put, List.setIfInBounds_toArray, List.set_cons_zero, List.set_cons_succ]
  refine call_at 4 (by kernel_rfl) (by kernel_rfl) ?_
  intro o ho
  simp only [List.getElem?_toArray, List.getElem?_cons_succ, List.getElem?_cons_zero, Option.some.injEq] at ho
  subst ho
  intro KF hK
  go_simp
  refine (less_any ay dy _ HW.out.1.1.2 HW.out.2.2 (crd_fin HP.out.1.1.2.1) (crd_fin HP.out.2.2.1)).mono ?_
  rintro e wx ⟨v, rfl, hy0, hbx⟩
  obtain ⟨y0, rfl⟩ := hy0.num
  go_wp2_with fail
  refine hK.out _ _ ⟨box_cell hbx hS.1, box_cell hbx hS.2.1, box_cell hbx hS.2.2.1, box_cell hbx hS.2.2.2.1, box_cell hbx hS.2.2.2.2.1, box_cell hbx hS.2.2.2.2.2.1, box_cell hbx hS.2.2.2.2.2.2.1, box_cell hbx hS.2.2.2.2.2.2.2.1, hS.2.2.2.2.2.2.2.2.later hbx⟩ ?_
  clear hS hbx
  intro hS
  clear hK KF
  try simp only [Act.put, List.setIfInBounds_toArray, List.set_cons_zero, List.set_cons_succ]
  refine call_at 9 (by kernel_rfl) (by kernel_rfl) ?_
  intro o ho
  simp only [List.getElem?_toArray, List.getElem?_cons_succ, List.getElem?_cons_zero, Option.some.injEq] at ho
  subst ho
  intro KF hK
  go_simp
  refine (less_any by' dy _ HW.out.1.2.1.2 HW.out.2.2 (crd_fin HP.out.1.2.1.2.1) (crd_fin HP.out.2.2.1)).mono ?_
  rintro e wx ⟨v, rfl, hy1, hbx⟩
  obtain ⟨y1, rfl⟩ := hy1.num
  have hy0 := hy0.later hbx
  go_wp2_with fail
  refine hK.out _ _ ⟨box_cell hbx hS.1, box_cell hbx hS.2.1, box_cell hbx hS.2.2.1, box_cell hbx hS.2.2.2.1, box_cell hbx hS.2.2.2.2.1, box_cell hbx hS.2.2.2.2.2.1, box_cell hbx hS.2.2.2.2.2.2.1, box_cell hbx hS.2.2.2.2.2.2.2.1, hS.2.2.2.2.2.2.2.2.later hbx⟩ ?_
  clear hS hbx
  intro hS
  clear hK KF
  try simp only [Act.put, List.setIfInBounds_toArray, List.set_cons_zero, List.set_cons_succ]
  refine call_at 14 (by kernel_rfl) (by kernel_rfl) ?_
  intro o ho
  simp only [List.getElem?_toArray, List.getElem?_cons_succ, List.getElem?_cons_zero, Option.some.injEq] at ho
  subst ho
  intro KF hK
  go_simp
  refine (less_any cy dy _ HW.out.1.2.2.2 HW.out.2.2 (crd_fin HP.out.1.2.2.2.1) (crd_fin HP.out.2.2.1)).mono ?_
  rintro e wx ⟨v, rfl, hy2, hbx⟩
  obtain ⟨y2, rfl⟩ := hy2.num
  have hy0 := hy0.later hbx
  have hy1 := hy1.later hbx
  go_wp2_with fail
  refine hK.out _ _ ⟨box_cell hbx hS.1, box_cell hbx hS.2.1, box_cell hbx hS.2.2.1, box_cell hbx hS.2.2.2.1, box_cell hbx hS.2.2.2.2.1, box_cell hbx hS.2.2.2.2.2.1, box_cell hbx hS.2.2.2.2.2.2.1, box_cell hbx hS.2.2.2.2.2.2.2.1, hS.2.2.2.2.2.2.2.2.later hbx⟩ ?_
  clear hS hbx
  intro hS
  clear hK KF
  try simp only [Act.put, List.setIfInBounds_toArray, List.set_cons_zero, List.set_cons_succ]
  have hC := CB.new wx #[.int .i64 y0.S, .slice y0.a y0.n y0.c, .int .i64 y0.E, .int .i64 y1.S, .slice y1.a y1.n y1.c, .int .i64 y1.E, .int .i64 y2.S, .slice y2.a y2.n y2.c, .int .i64 y2.E] 56
  have hbx : Below wx.heap.size wx (wx.alloc (.cells #[.int .i64 y0.S, .slice y0.a y0.n y0.c, .int .i64 y0.E, .int .i64 y1.S, .slice y1.a y1.n y1.c, .int .i64 y1.E, .int .i64 y2.S, .slice y2.a y2.n y2.c, .int .i64 y2.E] 56)) := (Below.refl _ wx).alloc (Nat.le_refl _) _
  have hy0 := hy0.later hbx
  have hy1 := hy1.later hbx
  have hy2 := hy2.later hbx
  have hS2 : (fun W => W.cell? ⟨w.heap.size, 0, none⟩ = some (.float .f64 ax) ∧ W.cell? ⟨w.heap.size, 1, none⟩ = some (.float .f64 ay) ∧ W.cell? ⟨w.heap.size + 1, 0, none⟩ = some (.float .f64 bx) ∧ W.cell? ⟨w.heap.size + 1, 1, none⟩ = some (.float .f64 by') ∧ W.cell? ⟨w.heap.size + 1 + 1, 0, none⟩ = some (.float .f64 cx) ∧ W.cell? ⟨w.heap.size + 1 + 1, 1, none⟩ = some (.float .f64 cy) ∧ W.cell? ⟨w.heap.size + 1 + 1 + 1, 0, none⟩ = some (.float .f64 dx) ∧ W.cell? ⟨w.heap.size + 1 + 1 + 1, 1, none⟩ = some (.float .f64 dy) ∧ SW2 w W ax ay bx by' cx cy dx dy gx x0 x1 x2 (fval ax - fval dx) (fval bx - fval dx) (fval cx - fval dx)) (wx.alloc (.cells #[.int .i64 y0.S, .slice y0.a y0.n y0.c, .int .i64 y0.E, .int .i64 y1.S, .slice y1.a y1.n y1.c, .int .i64 y1.E, .int .i64 y2.S, .slice y2.a y2.n y2.c, .int .i64 y2.E] 56)) := ⟨box_cell hbx hS.1, box_cell hbx hS.2.1, box_cell hbx hS.2.2.1, box_cell hbx hS.2.2.2.1, box_cell hbx hS.2.2.2.2.1, box_cell hbx hS.2.2.2.2.2.1, box_cell hbx hS.2.2.2.2.2.2.1, box_cell hbx hS.2.2.2.2.2.2.2.1, hS.2.2.2.2.2.2.2.2.later hbx⟩
  have hlow : w.heap.size + 1 + 1 + 1 + 1 < wx.heap.size := hS.2.2.2.2.2.2.2.2.1.lt
  have hgx : gx < wx.heap.size := hS.2.2.2.2.2.2.2.2.2.1.lt
  obtain ⟨gy, hg⟩ : ∃ g, wx.heap.size = g := ⟨_, rfl⟩
  rw [hg] at hC hlow hgx
  refine call_at 15 (by kernel_rfl) (by kernel_rfl) ?_
  intro o ho
  simp only [List.getElem?_toArray, List.getElem?_cons_succ, List.getElem?_cons_zero, Option.some.injEq] at ho
  subst ho
  intro KF hK
  go_simp
  go_wp2_with fail
  refine hK.out _ _ hS2 ?_
  clear hS hbx hS2
  intro hS
  clear hK KF
  try simp only [Act.put, List.setIfInBounds_toArray, List.set_cons_zero, List.set_cons_succ]
  try rw [hg]
  clear hg
  generalize (wx.alloc (.cells #[.int .i64 y0.S, .slice y0.a y0.n y0.c, .int .i64 y0.E, .int .i64 y1.S, .slice y1.a y1.n y1.c, .int .i64 y1.E, .int .i64 y2.S, .slice y2.a y2.n y2.c, .int .i64 y2.E] 56)) = WR at *
  refine take_at (i := 16) (d := some 10) (v := .slice (some ⟨gy, 0, none⟩) 3 3) (by kernel_rfl) (by kernel_rfl) (by kernel_rfl) (by kernel_rfl) (fun _ _ _ h => h) ?_ hS ?_
  · intro o ho
    simp only [List.getElem?_toArray, List.getElem?_cons_succ, List.getElem?_cons_zero, Option.some.injEq] at ho
    subst ho
    refine Or.inl ⟨by rfl, ?_⟩
    intro w hSw
    (try dsimp only at hSw)
    go_simp
  simp only [Act.put, List.setIfInBounds_toArray, List.set_cons_zero, List.set_cons_succ]
  refine wpAnyH_done (by kernel_rfl) ?_ _
  have HX2 : Hid (SW2 w WR ax ay bx by' cx cy dx dy gx x0 x1 x2 (fval ax - fval dx) (fval bx - fval dx) (fval cx - fval dx) ∧ Row3 WR gy y0 y1 y2 (fval ay - fval dy) (fval by' - fval dy) (fval cy - fval dy)) := ⟨hS.2.2.2.2.2.2.2.2, hC, hy0, hy1, hy2⟩
  have HLY : Hid (w.heap.size + 1 + 1 + 1 + 1 < gx ∧ gx < gy) := ⟨HLX.out, hgx⟩
  clear hS hC hy0 hy1 hy2 hlow hgx HLX HX1 za0 za1 zb0 zb1 zc0 zc1 zd0 zd1
  obtain ⟨X0, hX0⟩ : ∃ X, (fval ax - fval dx) = X := ⟨_, rfl⟩
  obtain ⟨X1, hX1⟩ : ∃ X, (fval bx - fval dx) = X := ⟨_, rfl⟩
  obtain ⟨X2, hX2⟩ : ∃ X, (fval cx - fval dx) = X := ⟨_, rfl⟩
  obtain ⟨Y0, hY0⟩ : ∃ X, (fval ay - fval dy) = X := ⟨_, rfl⟩
  obtain ⟨Y1, hY1⟩ : ∃ X, (fval by' - fval dy) = X := ⟨_, rfl⟩
  obtain ⟨Y2, hY2⟩ : ∃ X, (fval cy - fval dy) = X := ⟨_, rfl⟩
  have HS4 : Hid (S4 ax ay bx by' cx cy dx dy = det3 X0 Y0 X1 Y1 X2 Y2) := by
    show S4 ax ay bx by' cx cy dx dy = _
    unfold S4
    rw [hX0, hY0, hX1, hY1, hX2, hY2]
  have HBD : Hid ((Bd 1025 (-1074) X0 ∧ Bd 1025 (-1074) X1 ∧ Bd 1025 (-1074) X2) ∧ Bd 1025 (-1074) Y0 ∧ Bd 1025 (-1074) Y1 ∧ Bd 1025 (-1074) Y2) := by
    show _ ∧ _
    rw [← hX0, ← hY0, ← hX1, ← hY1, ← hX2, ← hY2]
    exact ⟨⟨bd_diff (crd_fin HP.out.1.1.1.1) (crd_fin HP.out.2.1.1), bd_diff (crd_fin HP.out.1.2.1.1.1) (crd_fin HP.out.2.1.1), bd_diff (crd_fin HP.out.1.2.2.1.1) (crd_fin HP.out.2.1.1)⟩, bd_diff (crd_fin HP.out.1.1.2.1) (crd_fin HP.out.2.2.1), bd_diff (crd_fin HP.out.1.2.1.2.1) (crd_fin HP.out.2.2.1), bd_diff (crd_fin HP.out.1.2.2.2.1) (crd_fin HP.out.2.2.1)⟩
  have HX3 : Hid ((SW1 w WR ax ay bx by' cx cy dx dy ∧ Row3 WR gx x0 x1 x2 X0 X1 X2) ∧ Row3 WR gy y0 y1 y2 Y0 Y1 Y2) := by
    rw [← hX0, ← hY0, ← hX1, ← hY1, ← hX2, ← hY2]
    exact HX2.out
  clear HX2 hX0 hY0 hX1 hY1 hX2 hY2
  have wp1 : IntKind.i64.wrap 1 = 1 := by decide
  have wp2 : IntKind.i64.wrap 2 = 2 := by decide
  have wp3 : IntKind.i64.wrap 3 = 3 := by decide
  go_wp2_with fail
  go_loopw [11, 12] (fun z i wr => ((i = .int .i64 0 ∧ ∃ ds, Hid (ZZ WR.heap.size wr z ds [])) ∨ (i = .int .i64 1 ∧ ∃ ds, Hid (ZZ WR.heap.size wr z ds [(X0 * X0 + Y0 * Y0)])) ∨ (i = .int .i64 2 ∧ ∃ ds, Hid (ZZ WR.heap.size wr z ds [(X0 * X0 + Y0 * Y0), (X1 * X1 + Y1 * Y1)])) ∨ (i = .int .i64 3 ∧ ∃ ds, Hid (ZZ WR.heap.size wr z ds [(X0 * X0 + Y0 * Y0), (X1 * X1 + Y1 * Y1), (X2 * X2 + Y2 * Y2)]))) ∧ Hid (Below WR.heap.size WR wr)) (fun _ i _ => 3 - (intOf i).toNat)
  case atStart => exact ⟨Or.inl ⟨rfl, [], ZZ.nil _ _⟩, Below.refl _ _⟩
  case round =>
    obtain ⟨hcase, hB⟩ := hrel
    rcases hcase with ⟨rfl, ds, hZ⟩ | ⟨rfl, ds, hZ⟩ | ⟨rfl, ds, hZ⟩ | ⟨rfl, ds, hZ⟩
    · have hx3 := HX3.out.1.2.later hB.out
      have hy3 := HX3.out.2.later hB.out
      obtain ⟨g0, g1, g2, g3, g4, g5, g6, g7, g8⟩ := hx3.1.cells9
      obtain ⟨h0, h1, h2, h3, h4, h5, h6, h7, h8⟩ := hy3.1.cells9
      have hz := hZ.out.drew
      go_wp2_with fail
      refine wp_region_held_drew (S := (fun W => World.cell? W ⟨gx, 0, none⟩ = some (.int .i64 x0.S) ∧ World.cell? W ⟨gx, 1, none⟩ = some (.slice x0.a x0.n x0.c) ∧ World.cell? W ⟨gx, 2, none⟩ = some (.int .i64 x0.E) ∧ World.cell? W ⟨gy, 0, none⟩ = some (.int .i64 y0.S) ∧ World.cell? W ⟨gy, 1, none⟩ = some (.slice y0.a y0.n y0.c) ∧ World.cell? W ⟨gy, 2, none⟩ = some (.int .i64 y0.E) ∧ Below WR.heap.size WR W)) (by kernel_rfl) ⟨g0, g1, g2, h0, h1, h2, hB.out.drew⟩ (fun hS => ?_)
      refine take_at (i := 0) (d := some 52) (v := u11) (by kernel_rfl) (by kernel_rfl) (by kernel_rfl) (by kernel_rfl) (fun _ _ _ h => h) ?_ hS ?_
      · intro o ho
        simp only [List.getElem?_toArray, List.getElem?_cons_zero, Option.some.injEq] at ho
        subst ho
        refine Or.inl ⟨by rfl, ?_⟩
        intro w hSw
        (try dsimp only at hSw)
        go_simp
      simp only [Act.put, List.setIfInBounds_toArray, List.set_cons_zero, List.set_cons_succ]
      refine take_at (i := 1) (d := some 53) (v := .slice (some ⟨gx, 0, none⟩) 3 3) (by kernel_rfl) (by kernel_rfl) (by kernel_rfl) (by kernel_rfl) (fun _ _ _ h => h) ?_ hS ?_
      · intro o ho
        simp only [List.getElem?_toArray, List.getElem?_cons_succ, List.getElem?_cons_zero, Option.some.injEq] at ho
        subst ho
        refine Or.inl ⟨by rfl, ?_⟩
        intro w hSw
        (try dsimp only at hSw)
        go_simp
      simp only [Act.put, List.setIfInBounds_toArray, List.set_cons_zero, List.set_cons_succ]
      refine take_at (i := 2) (d := some 54) (v := .int .i64 0) (by kernel_rfl) (by kernel_rfl) (by kernel_rfl) (by kernel_rfl) (fun _ _ _ h => h) ?_ hS ?_
      · intro o ho
        simp only [List.getElem?_toArray, List.getElem?_cons_succ, List.getElem?_cons_zero, Option.some.injEq] at ho
        subst ho
        refine Or.inl ⟨by rfl, ?_⟩
        intro w hSw
        (try dsimp only at hSw)
        go_simp
      simp only [Act.put, List.setIfInBounds_toArray, List.set_cons_zero, List.set_cons_succ]
      refine take_at (i := 3) (d := some 55) (v := .pointer (some ⟨gx, 0, none⟩)) (by kernel_rfl) (by kernel_rfl) (by kernel_rfl) (by kernel_rfl) (fun _ _ _ h => h) ?_ hS ?_
      · intro o ho
        simp only [List.getElem?_toArray, List.getElem?_cons_succ, List.getElem?_cons_zero, Option.some.injEq] at ho
        subst ho
        refine Or.inl ⟨by rfl, ?_⟩
        intro w hSw
        (try dsimp only at hSw)
        go_simp
      simp only [Act.put, List.setIfInBounds_toArray, List.set_cons_zero, List.set_cons_succ]
      refine take_at (i := 4) (d := some 56) (v := .agg #[.int .i64 x0.S, .slice x0.a x0.n x0.c, .int .i64 x0.E]) (by kernel_rfl) (by kernel_rfl) (by kernel_rfl) (by kernel_rfl) (fun _ _ _ h => h) ?_ hS ?_
      · intro o ho
        simp only [List.getElem?_toArray, List.getElem?_cons_succ, List.getElem?_cons_zero, Option.some.injEq] at ho
        subst ho
        refine Or.inl ⟨by rfl, ?_⟩
        intro w hSw
        (try dsimp only at hSw)
        go_simp
      simp only [Act.put, List.setIfInBounds_toArray, List.set_cons_zero, List.set_cons_succ]
      refine take_at (i := 5) (d := some 57) (v := .slice (some ⟨gx, 0, none⟩) 3 3) (by kernel_rfl) (by kernel_rfl) (by kernel_rfl) (by kernel_rfl) (fun _ _ _ h => h) ?_ hS ?_
      · intro o ho
        simp only [List.getElem?_toArray, List.getElem?_cons_succ, List.getElem?_cons_zero, Option.some.injEq] at ho
        subst ho
        refine Or.inl ⟨by rfl, ?_⟩
        intro w hSw
        (try dsimp only at hSw)
        go_simp
      simp only [Act.put, List.setIfInBounds_toArray, List.set_cons_zero, List.set_cons_succ]
      refine take_at (i := 6) (d := some 58) (v := .int .i64 0) (by kernel_rfl) (by kernel_rfl) (by kernel_rfl) (by kernel_rfl) (fun _ _ _ h => h) ?_ hS ?_
      · intro o ho
        simp only [List.getElem?_toArray, List.getElem?_cons_succ, List.getElem?_cons_zero, Option.some.injEq] at ho
        subst ho
        refine Or.inl ⟨by rfl, ?_⟩
        intro w hSw
        (try dsimp only at hSw)
        go_simp
      simp only [Act.put, List.setIfInBounds_toArray, List.set_cons_zero, List.set_cons_succ]
      refine take_at (i := 7) (d := some 59) (v := .pointer (some ⟨gx, 0, none⟩)) (by kernel_rfl) (by kernel_rfl) (by kernel_rfl) (by kernel_rfl) (fun _ _ _ h => h) ?_ hS ?_
      · intro o ho
        simp only [List.getElem?_toArray, List.getElem?_cons_succ, List.getElem?_cons_zero, Option.some.injEq] at ho
        subst ho
        refine Or.inl ⟨by rfl, ?_⟩
        intro w hSw
        (try dsimp only at hSw)
        go_simp
      simp only [Act.put, List.setIfInBounds_toArray, List.set_cons_zero, List.set_cons_succ]
      refine take_at (i := 8) (d := some 60) (v := .agg #[.int .i64 x0.S, .slice x0.a x0.n x0.c, .int .i64 x0.E]) (by kernel_rfl) (by kernel_rfl) (by kernel_rfl) (by kernel_rfl) (fun _ _ _ h => h) ?_ hS ?_
      · intro o ho
        simp only [List.getElem?_toArray, List.getElem?_cons_succ, List.getElem?_cons_zero, Option.some.injEq] at ho
        subst ho
        refine Or.inl ⟨by rfl, ?_⟩
        intro w hSw
        (try dsimp only at hSw)
        go_simp
      simp only [Act.put, List.setIfInBounds_toArray, List.set_cons_zero, List.set_cons_succ]
      refine take_at (i := 10) (d := some 62) (v := .slice (some ⟨gy, 0, none⟩) 3 3) (by kernel_rfl) (by kernel_rfl) (by kernel_rfl) (by kernel_rfl) (fun _ _ _ h => h) ?_ hS ?_
      · intro o ho
        simp only [List.getElem?_toArray, List.getElem?_cons_succ, List.getElem?_cons_zero, Option.some.injEq] at ho
        subst ho
        refine Or.inl ⟨by rfl, ?_⟩
        intro w hSw
        (try dsimp only at hSw)
        go_simp
      simp only [Act.put, List.setIfInBounds_toArray, List.set_cons_zero, List.set_cons_succ]
      refine take_at (i := 11) (d := some 63) (v := .int .i64 0) (by kernel_rfl) (by kernel_rfl) (by kernel_rfl) (by kernel_rfl) (fun _ _ _ h => h) ?_ hS ?_
      · intro o ho
        simp only [List.getElem?_toArray, List.getElem?_cons_succ, List.getElem?_cons_zero, Option.some.injEq] at ho
        subst ho
        refine Or.inl ⟨by rfl, ?_⟩
        intro w hSw
        (try dsimp only at hSw)
        go_simp
      simp only [Act.put, List.setIfInBounds_toArray, List.set_cons_zero, List.set_cons_succ]
      refine take_at (i := 12) (d := some 64) (v := .pointer (some ⟨gy, 0, none⟩)) (by kernel_rfl) (by kernel_rfl) (by kernel_rfl) (by kernel_rfl) (fun _ _ _ h => h) ?_ hS ?_
      · intro o ho
        simp only [List.getElem?_toArray, List.getElem?_cons_succ, List.getElem?_cons_zero, Option.some.injEq] at ho
        subst ho
        refine Or.inl ⟨by rfl, ?_⟩
        intro w hSw
        (try dsimp only at hSw)
        go_simp
      simp only [Act.put, List.setIfInBounds_toArray, List.set_cons_zero, List.set_cons_succ]
      refine take_at (i := 13) (d := some 65) (v := .agg #[.int .i64 y0.S, .slice y0.a y0.n y0.c, .int .i64 y0.E]) (by kernel_rfl) (by kernel_rfl) (by kernel_rfl) (by kernel_rfl) (fun _ _ _ h => h) ?_ hS ?_
      · intro o ho
        simp only [List.getElem?_toArray, List.getElem?_cons_succ, List.getElem?_cons_zero, Option.some.injEq] at ho
        subst ho
        refine Or.inl ⟨by rfl, ?_⟩
        intro w hSw
        (try dsimp only at hSw)
        go_simp
      simp only [Act.put, List.setIfInBounds_toArray, List.set_cons_zero, List.set_cons_succ]
      refine take_at (i := 14) (d := some 66) (v := .slice (some ⟨gy, 0, none⟩) 3 3) (by kernel_rfl) (by kernel_rfl) (by kernel_rfl) (by kernel_rfl) (fun _ _ _ h => h) ?_ hS ?_
      · intro o ho
        simp only [List.getElem?_toArray, List.getElem?_cons_succ, List.getElem?_cons_zero, Option.some.injEq] at ho
        subst ho
        refine Or.inl ⟨by rfl, ?_⟩
        intro w hSw
        (try dsimp only at hSw)
        go_simp
      simp only [Act.put, List.setIfInBounds_toArray, List.set_cons_zero, List.set_cons_succ]
      refine take_at (i := 15) (d := some 67) (v := .int .i64 0) (by kernel_rfl) (by kernel_rfl) (by kernel_rfl) (by kernel_rfl) (fun _ _ _ h => h) ?_ hS ?_
      · intro o ho
        simp only [List.getElem?_toArray, List.getElem?_cons_succ, List.getElem?_cons_zero, Option.some.injEq] at ho
        subst ho
        refine Or.inl ⟨by rfl, ?_⟩
        intro w hSw
        (try dsimp only at hSw)
        go_simp
      simp only [Act.put, List.setIfInBounds_toArray, List.set_cons_zero, List.set_cons_succ]
      refine take_at (i := 16) (d := some 68) (v := .pointer (some ⟨gy, 0, none⟩)) (by kernel_rfl) (by kernel_rfl) (by kernel_rfl) (by kernel_rfl) (fun _ _ _ h => h) ?_ hS ?_
      · intro o ho
        simp only [List.getElem?_toArray, List.getElem?_cons_succ, List.getElem?_cons_zero, Option.some.injEq] at ho
        subst ho
        refine Or.inl ⟨by rfl, ?_⟩
        intro w hSw
        (try dsimp only at hSw)
        go_simp
      simp only [Act.put, List.setIfInBounds_toArray, List.set_cons_zero, List.set_cons_succ]
      refine take_at (i := 17) (d := some 69) (v := .agg #[.int .i64 y0.S, .slice y0.a y0.n y0.c, .int .i64 y0.E]) (by kernel_rfl) (by kernel_rfl) (by kernel_rfl) (by kernel_rfl) (fun _ _ _ h => h) ?_ hS ?_
      · intro o ho
        simp only [List.getElem?_toArray, List.getElem?_cons_succ, List.getElem?_cons_zero, Option.some.injEq] at ho
        subst ho
        refine Or.inl ⟨by rfl, ?_⟩
        intro w hSw
        (try dsimp only at hSw)
        go_simp
      simp only [Act.put, List.setIfInBounds_toArray, List.set_cons_zero, List.set_cons_succ]
      refine call_at 9 (by kernel_rfl) (by kernel_rfl) ?_
      intro o ho
      simp only [List.getElem?_toArray, List.getElem?_cons_succ, List.getElem?_cons_zero, Option.some.injEq] at ho
      subst ho
      intro KF hK
      go_simp
      refine (mul_rf _ _ X0 X0 _ (HX3.out.1.2.later hS.2.2.2.2.2.2).2.1 (HX3.out.1.2.later hS.2.2.2.2.2.2).2.1 (HBD.out.1.1.mono (by omega) (by omega)) (HBD.out.1.1.mono (by omega) (by omega))).mono ?_
      rintro e wx ⟨u1, rfl, hu1, hbx⟩
      have hz := hz.later hbx
      go_wp2_with fail
      refine hK.out _ _ ⟨box_cell hbx hS.1, box_cell hbx hS.2.1, box_cell hbx hS.2.2.1, box_cell hbx hS.2.2.2.1, box_cell hbx hS.2.2.2.2.1, box_cell hbx hS.2.2.2.2.2.1, below_step hS.2.2.2.2.2.2 hbx⟩ ?_
      clear hS hbx
      intro hS
      clear hK KF
      try simp only [Act.put, List.setIfInBounds_toArray, List.set_cons_zero, List.set_cons_succ]
      refine call_at 18 (by kernel_rfl) (by kernel_rfl) ?_
      intro o ho
      simp only [List.getElem?_toArray, List.getElem?_cons_succ, List.getElem?_cons_zero, Option.some.injEq] at ho
      subst ho
      intro KF hK
      go_simp
      refine (mul_rf _ _ Y0 Y0 _ (HX3.out.2.later hS.2.2.2.2.2.2).2.1 (HX3.out.2.later hS.2.2.2.2.2.2).2.1 (HBD.out.2.1.mono (by omega) (by omega)) (HBD.out.2.1.mono (by omega) (by omega))).mono ?_
      rintro e wx ⟨u2, rfl, hu2, hbx⟩
      have hu1 := hu1.later hbx
      have hz := hz.later hbx
      go_wp2_with fail
      refine hK.out _ _ ⟨box_cell hbx hS.1, box_cell hbx hS.2.1, box_cell hbx hS.2.2.1, box_cell hbx hS.2.2.2.1, box_cell hbx hS.2.2.2.2.1, box_cell hbx hS.2.2.2.2.2.1, below_step hS.2.2.2.2.2.2 hbx⟩ ?_
      clear hS hbx
      intro hS
      clear hK KF
      try simp only [Act.put, List.setIfInBounds_toArray, List.set_cons_zero, List.set_cons_succ]
      refine call_at 19 (by kernel_rfl) (by kernel_rfl) ?_
      intro o ho
      simp only [List.getElem?_toArray, List.getElem?_cons_succ, List.getElem?_cons_zero, Option.some.injEq] at ho
      subst ho
      intro KF hK
      go_simp
      refine (refAdd_any u1 u2 (X0 * X0) (Y0 * Y0) _ hu1 hu2 ((HBD.out.1.1.mul HBD.out.1.1).mono (by omega) (by omega)) ((HBD.out.2.1.mul HBD.out.2.1).mono (by omega) (by omega))).mono ?_
      rintro e wx ⟨u3, rfl, hu3, hbx⟩
      obtain ⟨dz, rfl⟩ := hu3.num
      have hz := hz.later hbx
      go_wp2_with fail
      refine hK.out _ _ ⟨box_cell hbx hS.1, box_cell hbx hS.2.1, box_cell hbx hS.2.2.1, box_cell hbx hS.2.2.2.1, box_cell hbx hS.2.2.2.2.1, box_cell hbx hS.2.2.2.2.2.1, below_step hS.2.2.2.2.2.2 hbx⟩ ?_
      clear hS hbx
      intro hS
      clear hK KF
      try simp only [Act.put, List.setIfInBounds_toArray, List.set_cons_zero, List.set_cons_succ]
      clear hu1 hu2 g0 g1 g2 g3 g4 g5 g6 g7 g8 h0 h1 h2 h3 h4 h5 h6 h7 h8 hx3 hy3
      have hbx : Below wx.heap.size wx (wx.alloc (.cells #[.int .i64 dz.S, .slice dz.a dz.n dz.c, .int .i64 dz.E] 56)) := (Below.refl _ wx).alloc (Nat.le_refl _) _
      have hN := World.news_of_block (cs := #[.int .i64 dz.S, .slice dz.a dz.n dz.c, .int .i64 dz.E]) (t := 56) (fr := (0, 0)) (heap_alloc_new wx (.cells #[.int .i64 dz.S, .slice dz.a dz.n dz.c, .int .i64 dz.E] 56))
      have hS2 : (fun W => World.cell? W ⟨gx, 0, none⟩ = some (.int .i64 x0.S) ∧ World.cell? W ⟨gx, 1, none⟩ = some (.slice x0.a x0.n x0.c) ∧ World.cell? W ⟨gx, 2, none⟩ = some (.int .i64 x0.E) ∧ World.cell? W ⟨gy, 0, none⟩ = some (.int .i64 y0.S) ∧ World.cell? W ⟨gy, 1, none⟩ = some (.slice y0.a y0.n y0.c) ∧ World.cell? W ⟨gy, 2, none⟩ = some (.int .i64 y0.E) ∧ Below WR.heap.size WR W) (wx.alloc (.cells #[.int .i64 dz.S, .slice dz.a dz.n dz.c, .int .i64 dz.E] 56)) := ⟨box_cell hbx hS.1, box_cell hbx hS.2.1, box_cell hbx hS.2.2.1, box_cell hbx hS.2.2.2.1, box_cell hbx hS.2.2.2.2.1, box_cell hbx hS.2.2.2.2.2.1, below_step hS.2.2.2.2.2.2 hbx⟩
      have hu3 := hu3.later hbx
      have hz := hz.later hbx
      obtain ⟨gn, hg⟩ : ∃ g, wx.heap.size = g := ⟨_, rfl⟩
      rw [hg] at hN
      refine call_at 20 (by kernel_rfl) (by kernel_rfl) ?_
      intro o ho
      simp only [List.getElem?_toArray, List.getElem?_cons_succ, List.getElem?_cons_zero, Option.some.injEq] at ho
      subst ho
      intro KF hK
      go_simp
      go_wp2_with fail
      refine hK.out _ _ hS2 ?_
      clear hS hS2 hbx
      intro hS
      clear hK KF
      try simp only [Act.put, List.setIfInBounds_toArray, List.set_cons_zero, List.set_cons_succ]
      try rw [hg]
      clear hg
      generalize (wx.alloc (.cells #[.int .i64 dz.S, .slice dz.a dz.n dz.c, .int .i64 dz.E] 56)) = WG at *
      refine call_at 21 (by kernel_rfl) (by kernel_rfl) ?_
      intro o ho
      simp only [List.getElem?_toArray, List.getElem?_cons_succ, List.getElem?_cons_zero, Option.some.injEq] at ho
      subst ho
      intro KF hK
      rw [if_pos (by rfl)]
      obtain ⟨i0, hi0, hz0, hz1, hz2⟩ := info_parts infoN
      have hl : ds.length = 0 := hz.len
      have hsz := hS.2.2.2.2.2.2.size
      refine wp_append_own _ _ _ rfl WR.heap.size 56 i0 _ 3 40 undN hi0 hz0 hz1 hz2 rfl (by omega) u11 ds.length (ds.flatMap NumD.cs) rfl hz.own ⟨gn, 0, none⟩ 1 1 dz.cs rfl rfl hN (by simp [Value.oneCell']) (by rw [hl]; unfold maxLen; omega) (by rw [hl]; omega) hsz ?_
      intro v' w1 hown hgrow
      have hRow : ∀ k, u11.ownBlock = some k → WR.heap.size ≤ k := fun k hk => (hz.own.lt k hk).1
      have hbw : Below WR.heap.size WR w1 := hS.2.2.2.2.2.2.grown hgrow hsz hRow
      have hZ2 := hz.grow hu3 hgrow hown
      have hx3 := HX3.out.1.2.later hbw
      have hy3 := HX3.out.2.later hbw
      obtain ⟨g0, g1, g2, g3, g4, g5, g6, g7, g8⟩ := hx3.1.cells9
      obtain ⟨h0, h1, h2, h3, h4, h5, h6, h7, h8⟩ := hy3.1.cells9
      refine hK.out _ _ ⟨g0, g1, g2, h0, h1, h2, hbw⟩ ?_
      clear hS
      intro hS
      have HE : Hid (ZZ WR.heap.size w1 v' (ds ++ [dz]) [(X0 * X0 + Y0 * Y0)] ∧ Below WR.heap.size WR w1) := ⟨hZ2, hbw⟩
      clear hK KF hZ2 hbw hx3 hy3 g0 g1 g2 g3 g4 g5 g6 g7 g8 h0 h1 h2 h3 h4 h5 h6 h7 h8 hown hgrow hRow hN hu3 hz hi0 hz0 hz1 hz2
      try simp only [Act.put, List.setIfInBounds_toArray, List.set_cons_zero, List.set_cons_succ]
      refine take_at (i := 22) (d := some 11) (v := v') (by kernel_rfl) (by kernel_rfl) (by kernel_rfl) (by kernel_rfl) (fun _ _ _ h => h) ?_ hS ?_
      · intro o ho
        simp only [List.getElem?_toArray, List.getElem?_cons_succ, List.getElem?_cons_zero, Option.some.injEq] at ho
        subst ho
        refine Or.inl ⟨by rfl, ?_⟩
        intro w hSw
        (try dsimp only at hSw)
        go_simp
      simp only [Act.put, List.setIfInBounds_toArray, List.set_cons_zero, List.set_cons_succ]
      refine wpAnyH_done (by kernel_rfl) ?_ _
      clear hS
      go_wp2
      exact ⟨⟨Or.inr (Or.inl ⟨by go_num, _, HE.out.1⟩), HE.out.2⟩, by simp [intOf]⟩
    · have hx3 := HX3.out.1.2.later hB.out
      have hy3 := HX3.out.2.later hB.out
      obtain ⟨g0, g1, g2, g3, g4, g5, g6, g7, g8⟩ := hx3.1.cells9
      obtain ⟨h0, h1, h2, h3, h4, h5, h6, h7, h8⟩ := hy3.1.cells9
      have hz := hZ.out.drew
      go_wp2_with fail
      refine wp_region_held_drew (S := (fun W => World.cell? W ⟨gx, 3, none⟩ = some (.int .i64 x1.S) ∧ World.cell? W ⟨gx, 4, none⟩ = some (.slice x1.a x1.n x1.c) ∧ World.cell? W ⟨gx, 5, none⟩ = some (.int .i64 x1.E) ∧ World.cell? W ⟨gy, 3, none⟩ = some (.int .i64 y1.S) ∧ World.cell? W ⟨gy, 4, none⟩ = some (.slice y1.a y1.n y1.c) ∧ World.cell? W ⟨gy, 5, none⟩ = some (.int .i64 y1.E) ∧ Below WR.heap.size WR W)) (by kernel_rfl) ⟨g3, g4, g5, h3, h4, h5, hB.out.drew⟩ (fun hS => ?_)
      refine take_at (i := 0) (d := some 52) (v := u11) (by kernel_rfl) (by kernel_rfl) (by kernel_rfl) (by kernel_rfl) (fun _ _ _ h => h) ?_ hS ?_
      · intro o ho
        simp only [List.getElem?_toArray, List.getElem?_cons_zero, Option.some.injEq] at ho
        subst ho
        refine Or.inl ⟨by rfl, ?_⟩
        intro w hSw
        (try dsimp only at hSw)
        go_simp
      simp only [Act.put, List.setIfInBounds_toArray, List.set_cons_zero, List.set_cons_succ]
      refine take_at (i := 1) (d := some 53) (v := .slice (some ⟨gx, 0, none⟩) 3 3) (by kernel_rfl) (by kernel_rfl) (by kernel_rfl) (by kernel_rfl) (fun _ _ _ h => h) ?_ hS ?_
      · intro o ho
        simp only [List.getElem?_toArray, List.getElem?_cons_succ, List.getElem?_cons_zero, Option.some.injEq] at ho
        subst ho
        refine Or.inl ⟨by rfl, ?_⟩
        intro w hSw
        (try dsimp only at hSw)
        go_simp
      simp only [Act.put, List.setIfInBounds_toArray, List.set_cons_zero, List.set_cons_succ]
      refine take_at (i := 2) (d := some 54) (v := .int .i64 1) (by kernel_rfl) (by kernel_rfl) (by kernel_rfl) (by kernel_rfl) (fun _ _ _ h => h) ?_ hS ?_
      · intro o ho
        simp only [List.getElem?_toArray, List.getElem?_cons_succ, List.getElem?_cons_zero, Option.some.injEq] at ho
        subst ho
        refine Or.inl ⟨by rfl, ?_⟩
        intro w hSw
        (try dsimp only at hSw)
        go_simp
      simp only [Act.put, List.setIfInBounds_toArray, List.set_cons_zero, List.set_cons_succ]
      refine take_at (i := 3) (d := some 55) (v := .pointer (some ⟨gx, 3, none⟩)) (by kernel_rfl) (by kernel_rfl) (by kernel_rfl) (by kernel_rfl) (fun _ _ _ h => h) ?_ hS ?_
      · intro o ho
        simp only [List.getElem?_toArray, List.getElem?_cons_succ, List.getElem?_cons_zero, Option.some.injEq] at ho
        subst ho
        refine Or.inl ⟨by rfl, ?_⟩
        intro w hSw
        (try dsimp only at hSw)
        go_simp
      simp only [Act.put, List.setIfInBounds_toArray, List.set_cons_zero, List.set_cons_succ]
      refine take_at (i := 4) (d := some 56) (v := .agg #[.int .i64 x1.S, .slice x1.a x1.n x1.c, .int .i64 x1.E]) (by kernel_rfl) (by kernel_rfl) (by kernel_rfl) (by kernel_rfl) (fun _ _ _ h => h) ?_ hS ?_
      · intro o ho
        simp only [List.getElem?_toArray, List.getElem?_cons_succ, List.getElem?_cons_zero, Option.some.injEq] at ho
        subst ho
        refine Or.inl ⟨by rfl, ?_⟩
        intro w hSw
        (try dsimp only at hSw)
        go_simp
      simp only [Act.put, List.setIfInBounds_toArray, List.set_cons_zero, List.set_cons_succ]
      refine take_at (i := 5) (d := some 57) (v := .slice (some ⟨gx, 0, none⟩) 3 3) (by kernel_rfl) (by kernel_rfl) (by kernel_rfl) (by kernel_rfl) (fun _ _ _ h => h) ?_ hS ?_
      · intro o ho
        simp only [List.getElem?_toArray, List.getElem?_cons_succ, List.getElem?_cons_zero, Option.some.injEq] at ho
        subst ho
        refine Or.inl ⟨by rfl, ?_⟩
        intro w hSw
        (try dsimp only at hSw)
        go_simp
      simp only [Act.put, List.setIfInBounds_toArray, List.set_cons_zero, List.set_cons_succ]
      refine take_at (i := 6) (d := some 58) (v := .int .i64 1) (by kernel_rfl) (by kernel_rfl) (by kernel_rfl) (by kernel_rfl) (fun _ _ _ h => h) ?_ hS ?_
      · intro o ho
        simp only [List.getElem?_toArray, List.getElem?_cons_succ, List.getElem?_cons_zero, Option.some.injEq] at ho
        subst ho
        refine Or.inl ⟨by rfl, ?_⟩
        intro w hSw
        (try dsimp only at hSw)
        go_simp
      simp only [Act.put, List.setIfInBounds_toArray, List.set_cons_zero, List.set_cons_succ]
      refine take_at (i := 7) (d := some 59) (v := .pointer (some ⟨gx, 3, none⟩)) (by kernel_rfl) (by kernel_rfl) (by kernel_rfl) (by kernel_rfl) (fun _ _ _ h => h) ?_ hS ?_
      · intro o ho
        simp only [List.getElem?_toArray, List.getElem?_cons_succ, List.getElem?_cons_zero, Option.some.injEq] at ho
        subst ho
        refine Or.inl ⟨by rfl, ?_⟩
        intro w hSw
        (try dsimp only at hSw)
        go_simp
      simp only [Act.put, List.setIfInBounds_toArray, List.set_cons_zero, List.set_cons_succ]
      refine take_at (i := 8) (d := some 60) (v := .agg #[.int .i64 x1.S, .slice x1.a x1.n x1.c, .int .i64 x1.E]) (by kernel_rfl) (by kernel_rfl) (by kernel_rfl) (by kernel_rfl) (fun _ _ _ h => h) ?_ hS ?_
      · intro o ho
        simp only [List.getElem?_toArray, List.getElem?_cons_succ, List.getElem?_cons_zero, Option.some.injEq] at ho
        subst ho
        refine Or.inl ⟨by rfl, ?_⟩
        intro w hSw
        (try dsimp only at hSw)
        go_simp
      simp only [Act.put, List.setIfInBounds_toArray, List.set_cons_zero, List.set_cons_succ]
      refine take_at (i := 10) (d := some 62) (v := .slice (some ⟨gy, 0, none⟩) 3 3) (by kernel_rfl) (by kernel_rfl) (by kernel_rfl) (by kernel_rfl) (fun _ _ _ h => h) ?_ hS ?_
      · intro o ho
        simp only [List.getElem?_toArray, List.getElem?_cons_succ, List.getElem?_cons_zero, Option.some.injEq] at ho
        subst ho
        refine Or.inl ⟨by rfl, ?_⟩
        intro w hSw
        (try dsimp only at hSw)
        go_simp
      simp only [Act.put, List.setIfInBounds_toArray, List.set_cons_zero, List.set_cons_succ]
      refine take_at (i := 11) (d := some 63) (v := .int .i64 1) (by kernel_rfl) (by kernel_rfl) (by kernel_rfl) (by kernel_rfl) (fun _ _ _ h => h) ?_ hS ?_
      · intro o ho
        simp only [List.getElem?_toArray, List.getElem?_cons_succ, List.getElem?_cons_zero, Option.some.injEq] at ho
        subst ho
        refine Or.inl ⟨by rfl, ?_⟩
        intro w hSw
        (try dsimp only at hSw)
        go_simp
      simp only [Act.put, List.setIfInBounds_toArray, List.set_cons_zero, List.set_cons_succ]
      refine take_at (i := 12) (d := some 64) (v := .pointer (some ⟨gy, 3, none⟩)) (by kernel_rfl) (by kernel_rfl) (by kernel_rfl) (by kernel_rfl) (fun _ _ _ h => h) ?_ hS ?_
      · intro o ho
        simp only [List.getElem?_toArray, List.getElem?_cons_succ, List.getElem?_cons_zero, Option.some.injEq] at ho
        subst ho
        refine Or.inl ⟨by rfl, ?_⟩
        intro w hSw
        (try dsimp only at hSw)
        go_simp
      simp only [Act.put, List.setIfInBounds_toArray, List.set_cons_zero, List.set_cons_succ]
      refine take_at (i := 13) (d := some 65) (v := .agg #[.int .i64 y1.S, .slice y1.a y1.n y1.c, .int .i64 y1.E]) (by kernel_rfl) (by kernel_rfl) (by kernel_rfl) (by kernel_rfl) (fun _ _ _ h => h) ?_ hS ?_
      · intro o ho
        simp only [List.getElem?_toArray, List.getElem?_cons_succ, List.getElem?_cons_zero, Option.some.injEq] at ho
        subst ho
        refine Or.inl ⟨by rfl, ?_⟩
        intro w hSw
        (try dsimp only at hSw)
        go_simp
      simp only [Act.put, List.setIfInBounds_toArray, List.set_cons_zero, List.set_cons_succ]
      refine take_at (i := 14) (d := some 66) (v := .slice (some ⟨gy, 0, none⟩) 3 3) (by kernel_rfl) (by kernel_rfl) (by kernel_rfl) (by kernel_rfl) (fun _ _ _ h => h) ?_ hS ?_
      · intro o ho
        simp only [List.getElem?_toArray, List.getElem?_cons_succ, List.getElem?_cons_zero, Option.some.injEq] at ho
        subst ho
        refine Or.inl ⟨by rfl, ?_⟩
        intro w hSw
        (try dsimp only at hSw)
        go_simp
      simp only [Act.put, List.setIfInBounds_toArray, List.set_cons_zero, List.set_cons_succ]
      refine take_at (i := 15) (d := some 67) (v := .int .i64 1) (by kernel_rfl) (by kernel_rfl) (by kernel_rfl) (by kernel_rfl) (fun _ _ _ h => h) ?_ hS ?_
      · intro o ho
        simp only [List.getElem?_toArray, List.getElem?_cons_succ, List.getElem?_cons_zero, Option.some.injEq] at ho
        subst ho
        refine Or.inl ⟨by rfl, ?_⟩
        intro w hSw
        (try dsimp only at hSw)
        go_simp
      simp only [Act.put, List.setIfInBounds_toArray, List.set_cons_zero, List.set_cons_succ]
      refine take_at (i := 16) (d := some 68) (v := .pointer (some ⟨gy, 3, none⟩)) (by kernel_rfl) (by kernel_rfl) (by kernel_rfl) (by kernel_rfl) (fun _ _ _ h => h) ?_ hS ?_
      · intro o ho
        simp only [List.getElem?_toArray, List.getElem?_cons_succ, List.getElem?_cons_zero, Option.some.injEq] at ho
        subst ho
        refine Or.inl ⟨by rfl, ?_⟩
        intro w hSw
        (try dsimp only at hSw)
        go_simp
      simp only [Act.put, List.setIfInBounds_toArray, List.set_cons_zero, List.set_cons_succ]
      refine take_at (i := 17) (d := some 69) (v := .agg #[.int .i64 y1.S, .slice y1.a y1.n y1.c, .int .i64 y1.E]) (by kernel_rfl) (by kernel_rfl) (by kernel_rfl) (by kernel_rfl) (fun _ _ _ h => h) ?_ hS ?_
      · intro o ho
        simp only [List.getElem?_toArray, List.getElem?_cons_succ, List.getElem?_cons_zero, Option.some.injEq] at ho
        subst ho
        refine Or.inl ⟨by rfl, ?_⟩
        intro w hSw
        (try dsimp only at hSw)
        go_simp
      simp only [Act.put, List.setIfInBounds_toArray, List.set_cons_zero, List.set_cons_succ]
      refine call_at 9 (by kernel_rfl) (by kernel_rfl) ?_
      intro o ho
      simp only [List.getElem?_toArray, List.getElem?_cons_succ, List.getElem?_cons_zero, Option.some.injEq] at ho
      subst ho
      intro KF hK
      go_simp
      refine (mul_rf _ _ X1 X1 _ (HX3.out.1.2.later hS.2.2.2.2.2.2).2.2.1 (HX3.out.1.2.later hS.2.2.2.2.2.2).2.2.1 (HBD.out.1.2.1.mono (by omega) (by omega)) (HBD.out.1.2.1.mono (by omega) (by omega))).mono ?_
      rintro e wx ⟨u1, rfl, hu1, hbx⟩
      have hz := hz.later hbx
      go_wp2_with fail
      refine hK.out _ _ ⟨box_cell hbx hS.1, box_cell hbx hS.2.1, box_cell hbx hS.2.2.1, box_cell hbx hS.2.2.2.1, box_cell hbx hS.2.2.2.2.1, box_cell hbx hS.2.2.2.2.2.1, below_step hS.2.2.2.2.2.2 hbx⟩ ?_
      clear hS hbx
      intro hS
      clear hK KF
      try simp only [Act.put, List.setIfInBounds_toArray, List.set_cons_zero, List.set_cons_succ]
      refine call_at 18 (by kernel_rfl) (by kernel_rfl) ?_
      intro o ho
      simp only [List.getElem?_toArray, List.getElem?_cons_succ, List.getElem?_cons_zero, Option.some.injEq] at ho
      subst ho
      intro KF hK
      go_simp
      refine (mul_rf _ _ Y1 Y1 _ (HX3.out.2.later hS.2.2.2.2.2.2).2.2.1 (HX3.out.2.later hS.2.2.2.2.2.2).2.2.1 (HBD.out.2.2.1.mono (by omega) (by omega)) (HBD.out.2.2.1.mono (by omega) (by omega))).mono ?_
      rintro e wx ⟨u2, rfl, hu2, hbx⟩
      have hu1 := hu1.later hbx
      have hz := hz.later hbx
      go_wp2_with fail
      refine hK.out _ _ ⟨box_cell hbx hS.1, box_cell hbx hS.2.1, box_cell hbx hS.2.2.1, box_cell hbx hS.2.2.2.1, box_cell hbx hS.2.2.2.2.1, box_cell hbx hS.2.2.2.2.2.1, below_step hS.2.2.2.2.2.2 hbx⟩ ?_
      clear hS hbx
      intro hS
      clear hK KF
      try simp only [Act.put, List.setIfInBounds_toArray, List.set_cons_zero, List.set_cons_succ]
      refine call_at 19 (by kernel_rfl) (by kernel_rfl) ?_
      intro o ho
      simp only [List.getElem?_toArray, List.getElem?_cons_succ, List.getElem?_cons_zero, Option.some.injEq] at ho
      subst ho
      intro KF hK
      go_simp
      refine (refAdd_any u1 u2 (X1 * X1) (Y1 * Y1) _ hu1 hu2 ((HBD.out.1.2.1.mul HBD.out.1.2.1).mono (by omega) (by omega)) ((HBD.out.2.2.1.mul HBD.out.2.2.1).mono (by omega) (by omega))).mono ?_
      rintro e wx ⟨u3, rfl, hu3, hbx⟩
      obtain ⟨dz, rfl⟩ := hu3.num
      have hz := hz.later hbx
      go_wp2_with fail
      refine hK.out _ _ ⟨box_cell hbx hS.1, box_cell hbx hS.2.1, box_cell hbx hS.2.2.1, box_cell hbx hS.2.2.2.1, box_cell hbx hS.2.2.2.2.1, box_cell hbx hS.2.2.2.2.2.1, below_step hS.2.2.2.2.2.2 hbx⟩ ?_
      clear hS hbx
      intro hS
      clear hK KF
      try simp only [Act.put, List.setIfInBounds_toArray, List.set_cons_zero, List.set_cons_succ]
      clear hu1 hu2 g0 g1 g2 g3 g4 g5 g6 g7 g8 h0 h1 h2 h3 h4 h5 h6 h7 h8 hx3 hy3
      have hbx : Below wx.heap.size wx (wx.alloc (.cells #[.int .i64 dz.S, .slice dz.a dz.n dz.c, .int .i64 dz.E] 56)) := (Below.refl _ wx).alloc (Nat.le_refl _) _
      have hN := World.news_of_block (cs := #[.int .i64 dz.S, .slice dz.a dz.n dz.c, .int .i64 dz.E]) (t := 56) (fr := (0, 0)) (heap_alloc_new wx (.cells #[.int .i64 dz.S, .slice dz.a dz.n dz.c, .int .i64 dz.E] 56))
      have hS2 : (fun W => World.cell? W ⟨gx, 3, none⟩ = some (.int .i64 x1.S) ∧ World.cell? W ⟨gx, 4, none⟩ = some (.slice x1.a x1.n x1.c) ∧ World.cell? W ⟨gx, 5, none⟩ = some (.int .i64 x1.E) ∧ World.cell? W ⟨gy, 3, none⟩ = some (.int .i64 y1.S) ∧ World.cell? W ⟨gy, 4, none⟩ = some (.slice y1.a y1.n y1.c) ∧ World.cell? W ⟨gy, 5, none⟩ = some (.int .i64 y1.E) ∧ Below WR.heap.size WR W) (wx.alloc (.cells #[.int .i64 dz.S, .slice dz.a dz.n dz.c, .int .i64 dz.E] 56)) := ⟨box_cell hbx hS.1, box_cell hbx hS.2.1, box_cell hbx hS.2.2.1, box_cell hbx hS.2.2.2.1, box_cell hbx hS.2.2.2.2.1, box_cell hbx hS.2.2.2.2.2.1, below_step hS.2.2.2.2.2.2 hbx⟩
      have hu3 := hu3.later hbx
      have hz := hz.later hbx
      obtain ⟨gn, hg⟩ : ∃ g, wx.heap.size = g := ⟨_, rfl⟩
      rw [hg] at hN
      refine call_at 20 (by kernel_rfl) (by kernel_rfl) ?_
      intro o ho
      simp only [List.getElem?_toArray, List.getElem?_cons_succ, List.getElem?_cons_zero, Option.some.injEq] at ho
      subst ho
      intro KF hK
      go_simp
      go_wp2_with fail
      refine hK.out _ _ hS2 ?_
      clear hS hS2 hbx
      intro hS
      clear hK KF
      try simp only [Act.put, List.setIfInBounds_toArray, List.set_cons_zero, List.set_cons_succ]
      try rw [hg]
      clear hg
      generalize (wx.alloc (.cells #[.int .i64 dz.S, .slice dz.a dz.n dz.c, .int .i64 dz.E] 56)) = WG at *
      refine call_at 21 (by kernel_rfl) (by kernel_rfl) ?_
      intro o ho
      simp only [List.getElem?_toArray, List.getElem?_cons_succ, List.getElem?_cons_zero, Option.some.injEq] at ho
      subst ho
      intro KF hK
      rw [if_pos (by rfl)]
      obtain ⟨i0, hi0, hz0, hz1, hz2⟩ := info_parts infoN
      have hl : ds.length = 1 := hz.len
      have hsz := hS.2.2.2.2.2.2.size
      refine wp_append_own _ _ _ rfl WR.heap.size 56 i0 _ 3 40 undN hi0 hz0 hz1 hz2 rfl (by omega) u11 ds.length (ds.flatMap NumD.cs) rfl hz.own ⟨gn, 0, none⟩ 1 1 dz.cs rfl rfl hN (by simp [Value.oneCell']) (by rw [hl]; unfold maxLen; omega) (by rw [hl]; omega) hsz ?_
      intro v' w1 hown hgrow
      have hRow : ∀ k, u11.ownBlock = some k → WR.heap.size ≤ k := fun k hk => (hz.own.lt k hk).1
      have hbw : Below WR.heap.size WR w1 := hS.2.2.2.2.2.2.grown hgrow hsz hRow
      have hZ2 := hz.grow hu3 hgrow hown
      have hx3 := HX3.out.1.2.later hbw
      have hy3 := HX3.out.2.later hbw
      obtain ⟨g0, g1, g2, g3, g4, g5, g6, g7, g8⟩ := hx3.1.cells9
      obtain ⟨h0, h1, h2, h3, h4, h5, h6, h7, h8⟩ := hy3.1.cells9
      refine hK.out _ _ ⟨g3, g4, g5, h3, h4, h5, hbw⟩ ?_
      clear hS
      intro hS
      have HE : Hid (ZZ WR.heap.size w1 v' (ds ++ [dz]) [(X0 * X0 + Y0 * Y0), (X1 * X1 + Y1 * Y1)] ∧ Below WR.heap.size WR w1) := ⟨hZ2, hbw⟩
      clear hK KF hZ2 hbw hx3 hy3 g0 g1 g2 g3 g4 g5 g6 g7 g8 h0 h1 h2 h3 h4 h5 h6 h7 h8 hown hgrow hRow hN hu3 hz hi0 hz0 hz1 hz2
      try simp only [Act.put, List.setIfInBounds_toArray, List.set_cons_zero, List.set_cons_succ]
      refine take_at (i := 22) (d := some 11) (v := v') (by kernel_rfl) (by kernel_rfl) (by kernel_rfl) (by kernel_rfl) (fun _ _ _ h => h) ?_ hS ?_
      · intro o ho
        simp only [List.getElem?_toArray, List.getElem?_cons_succ, List.getElem?_cons_zero, Option.some.injEq] at ho
        subst ho
        refine Or.inl ⟨by rfl, ?_⟩
        intro w hSw
        (try dsimp only at hSw)
        go_simp
      simp only [Act.put, List.setIfInBounds_toArray, List.set_cons_zero, List.set_cons_succ]
      refine wpAnyH_done (by kernel_rfl) ?_ _
      clear hS
      go_wp2
      exact ⟨⟨Or.inr (Or.inr (Or.inl ⟨by go_num, _, HE.out.1⟩)), HE.out.2⟩, by simp [intOf]⟩
    · have hx3 := HX3.out.1.2.later hB.out
      have hy3 := HX3.out.2.later hB.out
      obtain ⟨g0, g1, g2, g3, g4, g5, g6, g7, g8⟩ := hx3.1.cells9
      obtain ⟨h0, h1, h2, h3, h4, h5, h6, h7, h8⟩ := hy3.1.cells9
      have hz := hZ.out.drew
      go_wp2_with fail
      refine wp_region_held_drew (S := (fun W => World.cell? W ⟨gx, 6, none⟩ = some (.int .i64 x2.S) ∧ World.cell? W ⟨gx, 7, none⟩ = some (.slice x2.a x2.n x2.c) ∧ World.cell? W ⟨gx, 8, none⟩ = some (.int .i64 x2.E) ∧ World.cell? W ⟨gy, 6, none⟩ = some (.int .i64 y2.S) ∧ World.cell? W ⟨gy, 7, none⟩ = some (.slice y2.a y2.n y2.c) ∧ World.cell? W ⟨gy, 8, none⟩ = some (.int .i64 y2.E) ∧ Below WR.heap.size WR W)) (by kernel_rfl) ⟨g6, g7, g8, h6, h7, h8, hB.out.drew⟩ (fun hS => ?_)
      refine take_at (i := 0) (d := some 52) (v := u11) (by kernel_rfl) (by kernel_rfl) (by kernel_rfl) (by kernel_rfl) (fun _ _ _ h => h) ?_ hS ?_
      · intro o ho
        simp only [List.getElem?_toArray, List.getElem?_cons_zero, Option.some.injEq] at ho
        subst ho
        refine Or.inl ⟨by rfl, ?_⟩
        intro w hSw
        (try dsimp only at hSw)
        go_simp
      simp only [Act.put, List.setIfInBounds_toArray, List.set_cons_zero, List.set_cons_succ]
      refine take_at (i := 1) (d := some 53) (v := .slice (some ⟨gx, 0, none⟩) 3 3) (by kernel_rfl) (by kernel_rfl) (by kernel_rfl) (by kernel_rfl) (fun _ _ _ h => h) ?_ hS ?_
      · intro o ho
        simp only [List.getElem?_toArray, List.getElem?_cons_succ, List.getElem?_cons_zero, Option.some.injEq] at ho
        subst ho
        refine Or.inl ⟨by rfl, ?_⟩
        intro w hSw
        (try dsimp only at hSw)
        go_simp
      simp only [Act.put, List.setIfInBounds_toArray, List.set_cons_zero, List.set_cons_succ]
      refine take_at (i := 2) (d := some 54) (v := .int .i64 2) (by kernel_rfl) (by kernel_rfl) (by kernel_rfl) (by kernel_rfl) (fun _ _ _ h => h) ?_ hS ?_
      · intro o ho
        simp only [List.getElem?_toArray, List.getElem?_cons_succ, List.getElem?_cons_zero, Option.some.injEq] at ho
        subst ho
        refine Or.inl ⟨by rfl, ?_⟩
        intro w hSw
        (try dsimp only at hSw)
        go_simp
      simp only [Act.put, List.setIfInBounds_toArray, List.set_cons_zero, List.set_cons_succ]
      refine take_at (i := 3) (d := some 55) (v := .pointer (some ⟨gx, 6, none⟩)) (by kernel_rfl) (by kernel_rfl) (by kernel_rfl) (by kernel_rfl) (fun _ _ _ h => h) ?_ hS ?_
      · intro o ho
        simp only [List.getElem?_toArray, List.getElem?_cons_succ, List.getElem?_cons_zero, Option.some.injEq] at ho
        subst ho
        refine Or.inl ⟨by rfl, ?_⟩
        intro w hSw
        (try dsimp only at hSw)
        go_simp
      simp only [Act.put, List.setIfInBounds_toArray, List.set_cons_zero, List.set_cons_succ]
      refine take_at (i := 4) (d := some 56) (v := .agg #[.int .i64 x2.S, .slice x2.a x2.n x2.c, .int .i64 x2.E]) (by kernel_rfl) (by kernel_rfl) (by kernel_rfl) (by kernel_rfl) (fun _ _ _ h => h) ?_ hS ?_
      · intro o ho
        simp only [List.getElem?_toArray, List.getElem?_cons_succ, List.getElem?_cons_zero, Option.some.injEq] at ho
        subst ho
        refine Or.inl ⟨by rfl, ?_⟩
        intro w hSw
        (try dsimp only at hSw)
        go_simp
      simp only [Act.put, List.setIfInBounds_toArray, List.set_cons_zero, List.set_cons_succ]
      refine take_at (i := 5) (d := some 57) (v := .slice (some ⟨gx, 0, none⟩) 3 3) (by kernel_rfl) (by kernel_rfl) (by kernel_rfl) (by kernel_rfl) (fun _ _ _ h => h) ?_ hS ?_
      · intro o ho
        simp only [List.getElem?_toArray, List.getElem?_cons_succ, List.getElem?_cons_zero, Option.some.injEq] at ho
        subst ho
        refine Or.inl ⟨by rfl, ?_⟩
        intro w hSw
        (try dsimp only at hSw)
        go_simp
      simp only [Act.put, List.setIfInBounds_toArray, List.set_cons_zero, List.set_cons_succ]
      refine take_at (i := 6) (d := some 58) (v := .int .i64 2) (by kernel_rfl) (by kernel_rfl) (by kernel_rfl) (by kernel_rfl) (fun _ _ _ h => h) ?_ hS ?_
      · intro o ho
        simp only [List.getElem?_toArray, List.getElem?_cons_succ, List.getElem?_cons_zero, Option.some.injEq] at ho
        subst ho
        refine Or.inl ⟨by rfl, ?_⟩
        intro w hSw
        (try dsimp only at hSw)
        go_simp
      simp only [Act.put, List.setIfInBounds_toArray, List.set_cons_zero, List.set_cons_succ]
      refine take_at (i := 7) (d := some 59) (v := .pointer (some ⟨gx, 6, none⟩)) (by kernel_rfl) (by kernel_rfl) (by kernel_rfl) (by kernel_rfl) (fun _ _ _ h => h) ?_ hS ?_
      · intro o ho
        simp only [List.getElem?_toArray, List.getElem?_cons_succ, List.getElem?_cons_zero, Option.some.injEq] at ho
        subst ho
        refine Or.inl ⟨by rfl, ?_⟩
        intro w hSw
        (try dsimp only at hSw)
        go_simp
      simp only [Act.put, List.setIfInBounds_toArray, List.set_cons_zero, List.set_cons_succ]
      refine take_at (i := 8) (d := some 60) (v := .agg #[.int .i64 x2.S, .slice x2.a x2.n x2.c, .int .i64 x2.E]) (by kernel_rfl) (by kernel_rfl) (by kernel_rfl) (by kernel_rfl) (fun _ _ _ h => h) ?_ hS ?_
      · intro o ho
        simp only [List.getElem?_toArray, List.getElem?_cons_succ, List.getElem?_cons_zero, Option.some.injEq] at ho
        subst ho
        refine Or.inl ⟨by rfl, ?_⟩
        intro w hSw
        (try dsimp only at hSw)
        go_simp
      simp only [Act.put, List.setIfInBounds_toArray, List.set_cons_zero, List.set_cons_succ]
      refine take_at (i := 10) (d := some 62) (v := .slice (some ⟨gy, 0, none⟩) 3 3) (by kernel_rfl) (by kernel_rfl) (by kernel_rfl) (by kernel_rfl) (fun _ _ _ h => h) ?_ hS ?_
      · intro o ho
        simp only [List.getElem?_toArray, List.getElem?_cons_succ, List.getElem?_cons_zero, Option.some.injEq] at ho
        subst ho
        refine Or.inl ⟨by rfl, ?_⟩
        intro w hSw
        (try dsimp only at hSw)
        go_simp
      simp only [Act.put, List.setIfInBounds_toArray, List.set_cons_zero, List.set_cons_succ]
      refine take_at (i := 11) (d := some 63) (v := .int .i64 2) (by kernel_rfl) (by kernel_rfl) (by kernel_rfl) (by kernel_rfl) (fun _ _ _ h => h) ?_ hS ?_
      · intro o ho
        simp only [List.getElem?_toArray, List.getElem?_cons_succ, List.getElem?_cons_zero, Option.some.injEq] at ho
        subst ho
        refine Or.inl ⟨by rfl, ?_⟩
        intro w hSw
        (try dsimp only at hSw)
        go_simp
      simp only [Act.put, List.setIfInBounds_toArray, List.set_cons_zero, List.set_cons_succ]
      refine take_at (i := 12) (d := some 64) (v := .pointer (some ⟨gy, 6, none⟩)) (by kernel_rfl) (by kernel_rfl) (by kernel_rfl) (by kernel_rfl) (fun _ _ _ h => h) ?_ hS ?_
      · intro o ho
        simp only [List.getElem?_toArray, List.getElem?_cons_succ, List.getElem?_cons_zero, Option.some.injEq] at ho
        subst ho
        refine Or.inl ⟨by rfl, ?_⟩
        intro w hSw
        (try dsimp only at hSw)
        go_simp
      simp only [Act.put, List.setIfInBounds_toArray, List.set_cons_zero, List.set_cons_succ]
      refine take_at (i := 13) (d := some 65) (v := .agg #[.int .i64 y2.S, .slice y2.a y2.n y2.c, .int .i64 y2.E]) (by kernel_rfl) (by kernel_rfl) (by kernel_rfl) (by kernel_rfl) (fun _ _ _ h => h) ?_ hS ?_
      · intro o ho
        simp only [List.getElem?_toArray, List.getElem?_cons_succ, List.getElem?_cons_zero, Option.some.injEq] at ho
        subst ho
        refine Or.inl ⟨by rfl, ?_⟩
        intro w hSw
        (try dsimp only at hSw)
        go_simp
      simp only [Act.put, List.setIfInBounds_toArray, List.set_cons_zero, List.set_cons_succ]
      refine take_at (i := 14) (d := some 66) (v := .slice (some ⟨gy, 0, none⟩) 3 3) (by kernel_rfl) (by kernel_rfl) (by kernel_rfl) (by kernel_rfl) (fun _ _ _ h => h) ?_ hS ?_
      · intro o ho
        simp only [List.getElem?_toArray, List.getElem?_cons_succ, List.getElem?_cons_zero, Option.some.injEq] at ho
        subst ho
        refine Or.inl ⟨by rfl, ?_⟩
        intro w hSw
        (try dsimp only at hSw)
        go_simp
      simp only [Act.put, List.setIfInBounds_toArray, List.set_cons_zero, List.set_cons_succ]
      refine take_at (i := 15) (d := some 67) (v := .int .i64 2) (by kernel_rfl) (by kernel_rfl) (by kernel_rfl) (by kernel_rfl) (fun _ _ _ h => h) ?_ hS ?_
      · intro o ho
        simp only [List.getElem?_toArray, List.getElem?_cons_succ, List.getElem?_cons_zero, Option.some.injEq] at ho
        subst ho
        refine Or.inl ⟨by rfl, ?_⟩
        intro w hSw
        (try dsimp only at hSw)
        go_simp
      simp only [Act.put, List.setIfInBounds_toArray, List.set_cons_zero, List.set_cons_succ]
      refine take_at (i := 16) (d := some 68) (v := .pointer (some ⟨gy, 6, none⟩)) (by kernel_rfl) (by kernel_rfl) (by kernel_rfl) (by kernel_rfl) (fun _ _ _ h => h) ?_ hS ?_
      · intro o ho
        simp only [List.getElem?_toArray, List.getElem?_cons_succ, List.getElem?_cons_zero, Option.some.injEq] at ho
        subst ho
        refine Or.inl ⟨by rfl, ?_⟩
        intro w hSw
        (try dsimp only at hSw)
        go_simp
      simp only [Act.put, List.setIfInBounds_toArray, List.set_cons_zero, List.set_cons_succ]
      refine take_at (i := 17) (d := some 69) (v := .agg #[.int .i64 y2.S, .slice y2.a y2.n y2.c, .int .i64 y2.E]) (by kernel_rfl) (by kernel_rfl) (by kernel_rfl) (by kernel_rfl) (fun _ _ _ h => h) ?_ hS ?_
      · intro o ho
        simp only [List.getElem?_toArray, List.getElem?_cons_succ, List.getElem?_cons_zero, Option.some.injEq] at ho
        subst ho
        refine Or.inl ⟨by rfl, ?_⟩
        intro w hSw
        (try dsimp only at hSw)
        go_simp
      simp only [Act.put, List.setIfInBounds_toArray, List.set_cons_zero, List.set_cons_succ]
      refine call_at 9 (by kernel_rfl) (by kernel_rfl) ?_
      intro o ho
      simp only [List.getElem?_toArray, List.getElem?_cons_succ, List.getElem?_cons_zero, Option.some.injEq] at ho
      subst ho
      intro KF hK
      go_simp
      refine (mul_rf _ _ X2 X2 _ (HX3.out.1.2.later hS.2.2.2.2.2.2).2.2.2 (HX3.out.1.2.later hS.2.2.2.2.2.2).2.2.2 (HBD.out.1.2.2.mono (by omega) (by omega)) (HBD.out.1.2.2.mono (by omega) (by omega))).mono ?_
      rintro e wx ⟨u1, rfl, hu1, hbx⟩
      have hz := hz.later hbx
      go_wp2_with fail
      refine hK.out _ _ ⟨box_cell hbx hS.1, box_cell hbx hS.2.1, box_cell hbx hS.2.2.1, box_cell hbx hS.2.2.2.1, box_cell hbx hS.2.2.2.2.1, box_cell hbx hS.2.2.2.2.2.1, below_step hS.2.2.2.2.2.2 hbx⟩ ?_
      clear hS hbx
      intro hS
      clear hK KF
      try simp only [Act.put, List.setIfInBounds_toArray, List.set_cons_zero, List.set_cons_succ]
      refine call_at 18 (by kernel_rfl) (by kernel_rfl) ?_
      intro o ho
      simp only [List.getElem?_toArray, List.getElem?_cons_succ, List.getElem?_cons_zero, Option.some.injEq] at ho
      subst ho
      intro KF hK
      go_simp
      refine (mul_rf _ _ Y2 Y2 _ (HX3.out.2.later hS.2.2.2.2.2.2).2.2.2 (HX3.out.2.later hS.2.2.2.2.2.2).2.2.2 (HBD.out.2.2.2.mono (by omega) (by omega)) (HBD.out.2.2.2.mono (by omega) (by omega))).mono ?_
      rintro e wx ⟨u2, rfl, hu2, hbx⟩
      have hu1 := hu1.later hbx
      have hz := hz.later hbx
      go_wp2_with fail
      refine hK.out _ _ ⟨box_cell hbx hS.1, box_cell hbx hS.2.1, box_cell hbx hS.2.2.1, box_cell hbx hS.2.2.2.1, box_cell hbx hS.2.2.2.2.1, box_cell hbx hS.2.2.2.2.2.1, below_step hS.2.2.2.2.2.2 hbx⟩ ?_
      clear hS hbx
      intro hS
      clear hK KF
      try simp only [Act.put, List.setIfInBounds_toArray, List.set_cons_zero, List.set_cons_succ]
      refine call_at 19 (by kernel_rfl) (by kernel_rfl) ?_
      intro o ho
      simp only [List.getElem?_toArray, List.getElem?_cons_succ, List.getElem?_cons_zero, Option.some.injEq] at ho
      subst ho
      intro KF hK
      go_simp
      refine (refAdd_any u1 u2 (X2 * X2) (Y2 * Y2) _ hu1 hu2 ((HBD.out.1.2.2.mul HBD.out.1.2.2).mono (by omega) (by omega)) ((HBD.out.2.2.2.mul HBD.out.2.2.2).mono (by omega) (by omega))).mono ?_
      rintro e wx ⟨u3, rfl, hu3, hbx⟩
      obtain ⟨dz, rfl⟩ := hu3.num
      have hz := hz.later hbx
      go_wp2_with fail
      refine hK.out _ _ ⟨box_cell hbx hS.1, box_cell hbx hS.2.1, box_cell hbx hS.2.2.1, box_cell hbx hS.2.2.2.1, box_cell hbx hS.2.2.2.2.1, box_cell hbx hS.2.2.2.2.2.1, below_step hS.2.2.2.2.2.2 hbx⟩ ?_
      clear hS hbx
      intro hS
      clear hK KF
      try simp only [Act.put, List.setIfInBounds_toArray, List.set_cons_zero, List.set_cons_succ]
      clear hu1 hu2 g0 g1 g2 g3 g4 g5 g6 g7 g8 h0 h1 h2 h3 h4 h5 h6 h7 h8 hx3 hy3
      have hbx : Below wx.heap.size wx (wx.alloc (.cells #[.int .i64 dz.S, .slice dz.a dz.n dz.c, .int .i64 dz.E] 56)) := (Below.refl _ wx).alloc (Nat.le_refl _) _
      have hN := World.news_of_block (cs := #[.int .i64 dz.S, .slice dz.a dz.n dz.c, .int .i64 dz.E]) (t := 56) (fr := (0, 0)) (heap_alloc_new wx (.cells #[.int .i64 dz.S, .slice dz.a dz.n dz.c, .int .i64 dz.E] 56))
      have hS2 : (fun W => World.cell? W ⟨gx, 6, none⟩ = some (.int .i64 x2.S) ∧ World.cell? W ⟨gx, 7, none⟩ = some (.slice x2.a x2.n x2.c) ∧ World.cell? W ⟨gx, 8, none⟩ = some (.int .i64 x2.E) ∧ World.cell? W ⟨gy, 6, none⟩ = some (.int .i64 y2.S) ∧ World.cell? W ⟨gy, 7, none⟩ = some (.slice y2.a y2.n y2.c) ∧ World.cell? W ⟨gy, 8, none⟩ = some (.int .i64 y2.E) ∧ Below WR.heap.size WR W) (wx.alloc (.cells #[.int .i64 dz.S, .slice dz.a dz.n dz.c, .int .i64 dz.E] 56)) := ⟨box_cell hbx hS.1, box_cell hbx hS.2.1, box_cell hbx hS.2.2.1, box_cell hbx hS.2.2.2.1, box_cell hbx hS.2.2.2.2.1, box_cell hbx hS.2.2.2.2.2.1, below_step hS.2.2.2.2.2.2 hbx⟩
      have hu3 := hu3.later hbx
      have hz := hz.later hbx
      obtain ⟨gn, hg⟩ : ∃ g, wx.heap.size = g := ⟨_, rfl⟩
      rw [hg] at hN
      refine call_at 20 (by kernel_rfl) (by kernel_rfl) ?_
      intro o ho
      simp only [List.getElem?_toArray, List.getElem?_cons_succ, List.getElem?_cons_zero, Option.some.injEq] at ho
      subst ho
      intro KF hK
      go_simp
      go_wp2_with fail
      refine hK.out _ _ hS2 ?_
      clear hS hS2 hbx
      intro hS
      clear hK KF
      try simp only [Act.put, List.setIfInBounds_toArray, List.set_cons_zero, List.set_cons_succ]
      try rw [hg]
      clear hg
      generalize (wx.alloc (.cells #[.int .i64 dz.S, .slice dz.a dz.n dz.c, .int .i64 dz.E] 56)) = WG at *
      refine call_at 21 (by kernel_rfl) (by kernel_rfl) ?_
      intro o ho
      simp only [List.getElem?_toArray, List.getElem?_cons_succ, List.getElem?_cons_zero, Option.some.injEq] at ho
      subst ho
      intro KF hK
      rw [if_pos (by rfl)]
      obtain ⟨i0, hi0, hz0, hz1, hz2⟩ := info_parts infoN
      have hl : ds.length = 2 := hz.len
      have hsz := hS.2.2.2.2.2.2.size
      refine wp_append_own _ _ _ rfl WR.heap.size 56 i0 _ 3 40 undN hi0 hz0 hz1 hz2 rfl (by omega) u11 ds.length (ds.flatMap NumD.cs) rfl hz.own ⟨gn, 0, none⟩ 1 1 dz.cs rfl rfl hN (by simp [Value.oneCell']) (by rw [hl]; unfold maxLen; omega) (by rw [hl]; omega) hsz ?_
      intro v' w1 hown hgrow
      have hRow : ∀ k, u11.ownBlock = some k → WR.heap.size ≤ k := fun k hk => (hz.own.lt k hk).1
      have hbw : Below WR.heap.size WR w1 := hS.2.2.2.2.2.2.grown hgrow hsz hRow
      have hZ2 := hz.grow hu3 hgrow hown
      have hx3 := HX3.out.1.2.later hbw
      have hy3 := HX3.out.2.later hbw
      obtain ⟨g0, g1, g2, g3, g4, g5, g6, g7, g8⟩ := hx3.1.cells9
      obtain ⟨h0, h1, h2, h3, h4, h5, h6, h7, h8⟩ := hy3.1.cells9
      refine hK.out _ _ ⟨g6, g7, g8, h6, h7, h8, hbw⟩ ?_
      clear hS
      intro hS
      have HE : Hid (ZZ WR.heap.size w1 v' (ds ++ [dz]) [(X0 * X0 + Y0 * Y0), (X1 * X1 + Y1 * Y1), (X2 * X2 + Y2 * Y2)] ∧ Below WR.heap.size WR w1) := ⟨hZ2, hbw⟩
      clear hK KF hZ2 hbw hx3 hy3 g0 g1 g2 g3 g4 g5 g6 g7 g8 h0 h1 h2 h3 h4 h5 h6 h7 h8 hown hgrow hRow hN hu3 hz hi0 hz0 hz1 hz2
      try simp only [Act.put, List.setIfInBounds_toArray, List.set_cons_zero, List.set_cons_succ]
      refine take_at (i := 22) (d := some 11) (v := v') (by kernel_rfl) (by kernel_rfl) (by kernel_rfl) (by kernel_rfl) (fun _ _ _ h => h) ?_ hS ?_
      · intro o ho
        simp only [List.getElem?_toArray, List.getElem?_cons_succ, List.getElem?_cons_zero, Option.some.injEq] at ho
        subst ho
        refine Or.inl ⟨by rfl, ?_⟩
        intro w hSw
        (try dsimp only at hSw)
        go_simp
      simp only [Act.put, List.setIfInBounds_toArray, List.set_cons_zero, List.set_cons_succ]
      refine wpAnyH_done (by kernel_rfl) ?_ _
      clear hS
      go_wp2
      exact ⟨⟨Or.inr (Or.inr (Or.inr (⟨by go_num, _, HE.out.1⟩))), HE.out.2⟩, by simp [intOf]⟩
    · have hz := hZ.out
      have hl : ds.length = 3 := hz.len
      obtain ⟨z0, z1, z2, rfl⟩ := three' hl
      obtain ⟨gz, cz, rfl⟩ := own_three hz.own
      have hx3 := HX3.out.1.2.later hB.out
      have hy3 := HX3.out.2.later hB.out
      have h1 := HX3.out.1.1.later hB.out
      have hgz : WR.heap.size ≤ gz := (hz.own.lt gz rfl).1
      have hlx : gx < WR.heap.size := HX3.out.1.2.1.lt
      have hly : gy < WR.heap.size := HX3.out.2.1.lt
      have HLZ : Hid (w.heap.size + 1 + 1 + 1 + 1 < gx ∧ gx < gz ∧ gy < gz ∧ w.heap.size + 1 + 1 + 1 + 1 < gy) := ⟨HLY.out.1, by omega, by omega, by have := HLY.out; omega⟩
      have HSF : Hid (SF w wr ax ay bx by' cx cy dx dy gx gy gz x0 x1 x2 y0 y1 y2 z0 z1 z2 X0 X1 X2 Y0 Y1 Y2) := ⟨h1, hx3, hy3, own_cells hz.own, hz.num (z0, _) (by simp), hz.num (z1, _) (by simp), hz.num (z2, _) (by simp)⟩
      clear hz hx3 hy3 h1 hgz hlx hly HX3 HLY hZ hB hl
      generalize wr = WQ at *
      go_wp2_with fail
      refine wp_region_held_drew (S := (fun W => W.cell? ⟨gy, 0, none⟩ = some (.int .i64 y0.S) ∧ W.cell? ⟨gy, 1, none⟩ = some (.slice y0.a y0.n y0.c) ∧ W.cell? ⟨gy, 2, none⟩ = some (.int .i64 y0.E) ∧ W.cell? ⟨gy, 3, none⟩ = some (.int .i64 y1.S) ∧ W.cell? ⟨gy, 4, none⟩ = some (.slice y1.a y1.n y1.c) ∧ W.cell? ⟨gy, 5, none⟩ = some (.int .i64 y1.E) ∧ W.cell? ⟨gy, 6, none⟩ = some (.int .i64 y2.S) ∧ W.cell? ⟨gy, 7, none⟩ = some (.slice y2.a y2.n y2.c) ∧ W.cell? ⟨gy, 8, none⟩ = some (.int .i64 y2.E) ∧ W.cell? ⟨gz, 0, none⟩ = some (.int .i64 z0.S) ∧ W.cell? ⟨gz, 1, none⟩ = some (.slice z0.a z0.n z0.c) ∧ W.cell? ⟨gz, 2, none⟩ = some (.int .i64 z0.E) ∧ W.cell? ⟨gz, 3, none⟩ = some (.int .i64 z1.S) ∧ W.cell? ⟨gz, 4, none⟩ = some (.slice z1.a z1.n z1.c) ∧ W.cell? ⟨gz, 5, none⟩ = some (.int .i64 z1.E) ∧ W.cell? ⟨gz, 6, none⟩ = some (.int .i64 z2.S) ∧ W.cell? ⟨gz, 7, none⟩ = some (.slice z2.a z2.n z2.c) ∧ W.cell? ⟨gz, 8, none⟩ = some (.int .i64 z2.E) ∧ W.cell? ⟨gx, 0, none⟩ = some (.int .i64 x0.S) ∧ W.cell? ⟨gx, 1, none⟩ = some (.slice x0.a x0.n x0.c) ∧ W.cell? ⟨gx, 2, none⟩ = some (.int .i64 x0.E) ∧ W.cell? ⟨gx, 3, none⟩ = some (.int .i64 x1.S) ∧ W.cell? ⟨gx, 4, none⟩ = some (.slice x1.a x1.n x1.c) ∧ W.cell? ⟨gx, 5, none⟩ = some (.int .i64 x1.E) ∧ W.cell? ⟨gx, 6, none⟩ = some (.int .i64 x2.S) ∧ W.cell? ⟨gx, 7, none⟩ = some (.slice x2.a x2.n x2.c) ∧ W.cell? ⟨gx, 8, none⟩ = some (.int .i64 x2.E) ∧ SF w W ax ay bx by' cx cy dx dy gx gy gz x0 x1 x2 y0 y1 y2 z0 z1 z2 X0 X1 X2 Y0 Y1 Y2)) (by kernel_rfl) ⟨(HSF.out.ry.1.cells9).1, (HSF.out.ry.1.cells9).2.1, (HSF.out.ry.1.cells9).2.2.1, (HSF.out.ry.1.cells9).2.2.2.1, (HSF.out.ry.1.cells9).2.2.2.2.1, (HSF.out.ry.1.cells9).2.2.2.2.2.1, (HSF.out.ry.1.cells9).2.2.2.2.2.2.1, (HSF.out.ry.1.cells9).2.2.2.2.2.2.2.1, (HSF.out.ry.1.cells9).2.2.2.2.2.2.2.2, HSF.out.zc.1, HSF.out.zc.2.1, HSF.out.zc.2.2.1, HSF.out.zc.2.2.2.1, HSF.out.zc.2.2.2.2.1, HSF.out.zc.2.2.2.2.2.1, HSF.out.zc.2.2.2.2.2.2.1, HSF.out.zc.2.2.2.2.2.2.2.1, HSF.out.zc.2.2.2.2.2.2.2.2, (HSF.out.rx.1.cells9).1, (HSF.out.rx.1.cells9).2.1, (HSF.out.rx.1.cells9).2.2.1, (HSF.out.rx.1.cells9).2.2.2.1, (HSF.out.rx.1.cells9).2.2.2.2.1, (HSF.out.rx.1.cells9).2.2.2.2.2.1, (HSF.out.rx.1.cells9).2.2.2.2.2.2.1, (HSF.out.rx.1.cells9).2.2.2.2.2.2.2.1, (HSF.out.rx.1.cells9).2.2.2.2.2.2.2.2, HSF.out.drew⟩ (fun hS => ?_)
      refine take_at (i := 0) (d := some 74) (v := .slice (some ⟨gx, 0, none⟩) 3 3) (by kernel_rfl) (by kernel_rfl) (by kernel_rfl) (by kernel_rfl) (fun _ _ _ h => h) ?_ hS ?_
      · intro o ho
        simp only [List.getElem?_toArray, List.getElem?_cons_zero, Option.some.injEq] at ho
        subst ho
        refine Or.inl ⟨by rfl, ?_⟩
        intro w hSw
        (try dsimp only at hSw)
        go_simp
      simp only [Act.put, List.setIfInBounds_toArray, List.set_cons_zero, List.set_cons_succ]
      refine take_at (i := 1) (d := some 75) (v := .pointer (some ⟨gx, 0, none⟩)) (by kernel_rfl) (by kernel_rfl) (by kernel_rfl) (by kernel_rfl) (fun _ _ _ h => h) ?_ hS ?_
      · intro o ho
        simp only [List.getElem?_toArray, List.getElem?_cons_succ, List.getElem?_cons_zero, Option.some.injEq] at ho
        subst ho
        refine Or.inl ⟨by rfl, ?_⟩
        intro w hSw
        (try dsimp only at hSw)
        go_simp
      simp only [Act.put, List.setIfInBounds_toArray, List.set_cons_zero, List.set_cons_succ]
      refine take_at (i := 2) (d := some 76) (v := .agg #[.int .i64 x0.S, .slice x0.a x0.n x0.c, .int .i64 x0.E]) (by kernel_rfl) (by kernel_rfl) (by kernel_rfl) (by kernel_rfl) (fun _ _ _ h => h) ?_ hS ?_
      · intro o ho
        simp only [List.getElem?_toArray, List.getElem?_cons_succ, List.getElem?_cons_zero, Option.some.injEq] at ho
        subst ho
        refine Or.inl ⟨by rfl, ?_⟩
        intro w hSw
        (try dsimp only at hSw)
        go_simp
      simp only [Act.put, List.setIfInBounds_toArray, List.set_cons_zero, List.set_cons_succ]
      refine take_at (i := 3) (d := some 77) (v := .slice (some ⟨gy, 0, none⟩) 3 3) (by kernel_rfl) (by kernel_rfl) (by kernel_rfl) (by kernel_rfl) (fun _ _ _ h => h) ?_ hS ?_
      · intro o ho
        simp only [List.getElem?_toArray, List.getElem?_cons_succ, List.getElem?_cons_zero, Option.some.injEq] at ho
        subst ho
        refine Or.inl ⟨by rfl, ?_⟩
        intro w hSw
        (try dsimp only at hSw)
        go_simp
      simp only [Act.put, List.setIfInBounds_toArray, List.set_cons_zero, List.set_cons_succ]
      refine take_at (i := 4) (d := some 78) (v := .pointer (some ⟨gy, 3, none⟩)) (by kernel_rfl) (by kernel_rfl) (by kernel_rfl) (by kernel_rfl) (fun _ _ _ h => h) ?_ hS ?_
      · intro o ho
        simp only [List.getElem?_toArray, List.getElem?_cons_succ, List.getElem?_cons_zero, Option.some.injEq] at ho
        subst ho
        refine Or.inl ⟨by rfl, ?_⟩
        intro w hSw
        (try dsimp only at hSw)
        go_simp
      simp only [Act.put, List.setIfInBounds_toArray, List.set_cons_zero, List.set_cons_succ]
      refine take_at (i := 5) (d := some 79) (v := .agg #[.int .i64 y1.S, .slice y1.a y1.n y1.c, .int .i64 y1.E]) (by kernel_rfl) (by kernel_rfl) (by kernel_rfl) (by kernel_rfl) (fun _ _ _ h => h) ?_ hS ?_
      · intro o ho
        simp only [List.getElem?_toArray, List.getElem?_cons_succ, List.getElem?_cons_zero, Option.some.injEq] at ho
        subst ho
        refine Or.inl ⟨by rfl, ?_⟩
        intro w hSw
        (try dsimp only at hSw)
        go_simp
      simp only [Act.put, List.setIfInBounds_toArray, List.set_cons_zero, List.set_cons_succ]
      refine take_at (i := 6) (d := some 80) (v := .slice (some ⟨gz, 0, none⟩) 3 cz) (by kernel_rfl) (by kernel_rfl) (by kernel_rfl) (by kernel_rfl) (fun _ _ _ h => h) ?_ hS ?_
      · intro o ho
        simp only [List.getElem?_toArray, List.getElem?_cons_succ, List.getElem?_cons_zero, Option.some.injEq] at ho
        subst ho
        refine Or.inl ⟨by rfl, ?_⟩
        intro w hSw
        (try dsimp only at hSw)
        go_simp
      simp only [Act.put, List.setIfInBounds_toArray, List.set_cons_zero, List.set_cons_succ]
      refine take_at (i := 7) (d := some 81) (v := .pointer (some ⟨gz, 3, none⟩)) (by kernel_rfl) (by kernel_rfl) (by kernel_rfl) (by kernel_rfl) (fun _ _ _ h => h) ?_ hS ?_
      · intro o ho
        simp only [List.getElem?_toArray, List.getElem?_cons_succ, List.getElem?_cons_zero, Option.some.injEq] at ho
        subst ho
        refine Or.inl ⟨by rfl, ?_⟩
        intro w hSw
        (try dsimp only at hSw)
        go_simp
      simp only [Act.put, List.setIfInBounds_toArray, List.set_cons_zero, List.set_cons_succ]
      refine take_at (i := 8) (d := some 82) (v := .agg #[.int .i64 z1.S, .slice z1.a z1.n z1.c, .int .i64 z1.E]) (by kernel_rfl) (by kernel_rfl) (by kernel_rfl) (by kernel_rfl) (fun _ _ _ h => h) ?_ hS ?_
      · intro o ho
        simp only [List.getElem?_toArray, List.getElem?_cons_succ, List.getElem?_cons_zero, Option.some.injEq] at ho
        subst ho
        refine Or.inl ⟨by rfl, ?_⟩
        intro w hSw
        (try dsimp only at hSw)
        go_simp
      simp only [Act.put, List.setIfInBounds_toArray, List.set_cons_zero, List.set_cons_succ]
      refine take_at (i := 9) (d := some 83) (v := .slice (some ⟨gy, 0, none⟩) 3 3) (by kernel_rfl) (by kernel_rfl) (by kernel_rfl) (by kernel_rfl) (fun _ _ _ h => h) ?_ hS ?_
      · intro o ho
        simp only [List.getElem?_toArray, List.getElem?_cons_succ, List.getElem?_cons_zero, Option.some.injEq] at ho
        subst ho
        refine Or.inl ⟨by rfl, ?_⟩
        intro w hSw
        (try dsimp only at hSw)
        go_simp
      simp only [Act.put, List.setIfInBounds_toArray, List.set_cons_zero, List.set_cons_succ]
      refine take_at (i := 10) (d := some 84) (v := .pointer (some ⟨gy, 6, none⟩)) (by kernel_rfl) (by kernel_rfl) (by kernel_rfl) (by kernel_rfl) (fun _ _ _ h => h) ?_ hS ?_
      · intro o ho
        simp only [List.getElem?_toArray, List.getElem?_cons_succ, List.getElem?_cons_zero, Option.some.injEq] at ho
        subst ho
        refine Or.inl ⟨by rfl, ?_⟩
        intro w hSw
        (try dsimp only at hSw)
        go_simp
      simp only [Act.put, List.setIfInBounds_toArray, List.set_cons_zero, List.set_cons_succ]
      refine take_at (i := 11) (d := some 85) (v := .agg #[.int .i64 y2.S, .slice y2.a y2.n y2.c, .int .i64 y2.E]) (by kernel_rfl) (by kernel_rfl) (by kernel_rfl) (by kernel_rfl) (fun _ _ _ h => h) ?_ hS ?_
      · intro o ho
        simp only [List.getElem?_toArray, List.getElem?_cons_succ, List.getElem?_cons_zero, Option.some.injEq] at ho
        subst ho
        refine Or.inl ⟨by rfl, ?_⟩
        intro w hSw
        (try dsimp only at hSw)
        go_simp
      simp only [Act.put, List.setIfInBounds_toArray, List.set_cons_zero, List.set_cons_succ]
      refine take_at (i := 12) (d := some 86) (v := .slice (some ⟨gz, 0, none⟩) 3 cz) (by kernel_rfl) (by kernel_rfl) (by kernel_rfl) (by kernel_rfl) (fun _ _ _ h => h) ?_ hS ?_
      · intro o ho
        simp only [List.getElem?_toArray, List.getElem?_cons_succ, List.getElem?_cons_zero, Option.some.injEq] at ho
        subst ho
        refine Or.inl ⟨by rfl, ?_⟩
        intro w hSw
        (try dsimp only at hSw)
        go_simp
      simp only [Act.put, List.setIfInBounds_toArray, List.set_cons_zero, List.set_cons_succ]
      refine take_at (i := 13) (d := some 87) (v := .pointer (some ⟨gz, 6, none⟩)) (by kernel_rfl) (by kernel_rfl) (by kernel_rfl) (by kernel_rfl) (fun _ _ _ h => h) ?_ hS ?_
      · intro o ho
        simp only [List.getElem?_toArray, List.getElem?_cons_succ, List.getElem?_cons_zero, Option.some.injEq] at ho
        subst ho
        refine Or.inl ⟨by rfl, ?_⟩
        intro w hSw
        (try dsimp only at hSw)
        go_simp
      simp only [Act.put, List.setIfInBounds_toArray, List.set_cons_zero, List.set_cons_succ]
      refine take_at (i := 14) (d := some 88) (v := .agg #[.int .i64 z2.S, .slice z2.a z2.n z2.c, .int .i64 z2.E]) (by kernel_rfl) (by kernel_rfl) (by kernel_rfl) (by kernel_rfl) (fun _ _ _ h => h) ?_ hS ?_
      · intro o ho
        simp only [List.getElem?_toArray, List.getElem?_cons_succ, List.getElem?_cons_zero, Option.some.injEq] at ho
        subst ho
        refine Or.inl ⟨by rfl, ?_⟩
        intro w hSw
        (try dsimp only at hSw)
        go_simp
      simp only [Act.put, List.setIfInBounds_toArray, List.set_cons_zero, List.set_cons_succ]
      refine frame_named (fun A hA => ?_)
      refine draw1 (f := 1) (n := 2) (al := 17) (fun k => if k = 0 then 15 else 16) (fun (x : Bool) (k : Nat) => #[true, true, true, true, true, true, true, true, true, true, true, true, true, true, true, decide (1 ≤ k), decide (2 ≤ k), x, false]) (fun (x : Bool) (k : Nat) (aa : Act) (W : World) => ∃ (vb e1 e2 : Value) (b1 : Nat), aa = (((A.put (some 13) vb).put (some 89) e1).put (some 90) e2) ∧ (W.cell? ⟨gy, 0, none⟩ = some (.int .i64 y0.S) ∧ W.cell? ⟨gy, 1, none⟩ = some (.slice y0.a y0.n y0.c) ∧ W.cell? ⟨gy, 2, none⟩ = some (.int .i64 y0.E) ∧ W.cell? ⟨gy, 3, none⟩ = some (.int .i64 y1.S) ∧ W.cell? ⟨gy, 4, none⟩ = some (.slice y1.a y1.n y1.c) ∧ W.cell? ⟨gy, 5, none⟩ = some (.int .i64 y1.E) ∧ W.cell? ⟨gy, 6, none⟩ = some (.int .i64 y2.S) ∧ W.cell? ⟨gy, 7, none⟩ = some (.slice y2.a y2.n y2.c) ∧ W.cell? ⟨gy, 8, none⟩ = some (.int .i64 y2.E) ∧ W.cell? ⟨gz, 0, none⟩ = some (.int .i64 z0.S) ∧ W.cell? ⟨gz, 1, none⟩ = some (.slice z0.a z0.n z0.c) ∧ W.cell? ⟨gz, 2, none⟩ = some (.int .i64 z0.E) ∧ W.cell? ⟨gz, 3, none⟩ = some (.int .i64 z1.S) ∧ W.cell? ⟨gz, 4, none⟩ = some (.slice z1.a z1.n z1.c) ∧ W.cell? ⟨gz, 5, none⟩ = some (.int .i64 z1.E) ∧ W.cell? ⟨gz, 6, none⟩ = some (.int .i64 z2.S) ∧ W.cell? ⟨gz, 7, none⟩ = some (.slice z2.a z2.n z2.c) ∧ W.cell? ⟨gz, 8, none⟩ = some (.int .i64 z2.E) ∧ W.cell? ⟨gx, 0, none⟩ = some (.int .i64 x0.S) ∧ W.cell? ⟨gx, 1, none⟩ = some (.slice x0.a x0.n x0.c) ∧ W.cell? ⟨gx, 2, none⟩ = some (.int .i64 x0.E) ∧ W.cell? ⟨gx, 3, none⟩ = some (.int .i64 x1.S) ∧ W.cell? ⟨gx, 4, none⟩ = some (.slice x1.a x1.n x1.c) ∧ W.cell? ⟨gx, 5, none⟩ = some (.int .i64 x1.E) ∧ W.cell? ⟨gx, 6, none⟩ = some (.int .i64 x2.S) ∧ W.cell? ⟨gx, 7, none⟩ = some (.slice x2.a x2.n x2.c) ∧ W.cell? ⟨gx, 8, none⟩ = some (.int .i64 x2.E) ∧ SF w W ax ay bx by' cx cy dx dy gx gy gz x0 x1 x2 y0 y1 y2 z0 z1 z2 X0 X1 X2 Y0 Y1 Y2) ∧ (x = true → vb = .pointer (some ⟨b1, 0, none⟩) ∧ CB W b1 #[.int .i64 0, .slice none 0 0, .int .i64 0] 56 ∧ gz < b1) ∧ (1 ≤ k → Rf W e1 (Y1 * (X2 * X2 + Y2 * Y2) - Y2 * (X1 * X1 + Y1 * Y1))) ∧ (2 ≤ k → Rf W e2 (X0 * (Y1 * (X2 * X2 + Y2 * Y2) - Y2 * (X1 * X1 + Y1 * Y1))))) ?_ ?_ ?_ ?_ ?_ ?_ 3 false 0 _ _ (by omega) (by decide) ?_
      · intro x k hk hx
        have h5 : k = 0 ∨ k = 1 ∨ k = 2 := by omega
        rcases h5 with rfl | rfl | rfl <;> cases x <;> first | exact absurd (hx rfl) (by decide) | (show _ = _; kernel_rfl)
      · intro x k hk
        have h5 : k = 0 ∨ k = 1 := by omega
        rcases h5 with rfl | rfl <;> cases x <;> rfl
      · intro k hk
        have h5 : k = 0 ∨ k = 1 ∨ k = 2 := by omega
        rcases h5 with rfl | rfl | rfl <;> rfl
      · intro x k hk
        have h5 : k = 0 ∨ k = 1 := by omega
        rcases h5 with rfl | rfl
        · refine ⟨_, rfl, ?_⟩
          intro aa W hI K' hK
          obtain ⟨vb, e1, e2, b1, rfl, hS, hv, k1, k2⟩ := hI
          have HV : Hid (x = true → vb = .pointer (some ⟨b1, 0, none⟩) ∧ CB W b1 #[.int .i64 0, .slice none 0 0, .int .i64 0] 56 ∧ gz < b1) := hv
          clear hv k1 k2
          rw [hA]
          simp only [Act.put, List.setIfInBounds_toArray, List.set_cons_zero, List.set_cons_succ]
          go_simp
          go_wp2_with fail
          refine (cross_rf _ _ _ _ (Y1) ((X1 * X1 + Y1 * Y1)) (Y2) ((X2 * X2 + Y2 * Y2)) _ hS.2.2.2.2.2.2.2.2.2.2.2.2.2.2.2.2.2.2.2.2.2.2.2.2.2.2.2.ry.2.2.1 hS.2.2.2.2.2.2.2.2.2.2.2.2.2.2.2.2.2.2.2.2.2.2.2.2.2.2.2.rz1 hS.2.2.2.2.2.2.2.2.2.2.2.2.2.2.2.2.2.2.2.2.2.2.2.2.2.2.2.ry.2.2.2 hS.2.2.2.2.2.2.2.2.2.2.2.2.2.2.2.2.2.2.2.2.2.2.2.2.2.2.2.rz2 (HBD.out.2.2.1.mono (by omega) (by omega)) (((HBD.out.1.2.1.mul HBD.out.1.2.1).add (HBD.out.2.2.1.mul HBD.out.2.2.1)).mono (by omega) (by omega)) (HBD.out.2.2.2.mono (by omega) (by omega)) (((HBD.out.1.2.2.mul HBD.out.1.2.2).add (HBD.out.2.2.2.mul HBD.out.2.2.2)).mono (by omega) (by omega))).mono ?_
          rintro e wx ⟨vn, rfl, hrn, hb⟩
          have hS2 : wx.cell? ⟨gy, 0, none⟩ = some (.int .i64 y0.S) ∧ wx.cell? ⟨gy, 1, none⟩ = some (.slice y0.a y0.n y0.c) ∧ wx.cell? ⟨gy, 2, none⟩ = some (.int .i64 y0.E) ∧ wx.cell? ⟨gy, 3, none⟩ = some (.int .i64 y1.S) ∧ wx.cell? ⟨gy, 4, none⟩ = some (.slice y1.a y1.n y1.c) ∧ wx.cell? ⟨gy, 5, none⟩ = some (.int .i64 y1.E) ∧ wx.cell? ⟨gy, 6, none⟩ = some (.int .i64 y2.S) ∧ wx.cell? ⟨gy, 7, none⟩ = some (.slice y2.a y2.n y2.c) ∧ wx.cell? ⟨gy, 8, none⟩ = some (.int .i64 y2.E) ∧ wx.cell? ⟨gz, 0, none⟩ = some (.int .i64 z0.S) ∧ wx.cell? ⟨gz, 1, none⟩ = some (.slice z0.a z0.n z0.c) ∧ wx.cell? ⟨gz, 2, none⟩ = some (.int .i64 z0.E) ∧ wx.cell? ⟨gz, 3, none⟩ = some (.int .i64 z1.S) ∧ wx.cell? ⟨gz, 4, none⟩ = some (.slice z1.a z1.n z1.c) ∧ wx.cell? ⟨gz, 5, none⟩ = some (.int .i64 z1.E) ∧ wx.cell? ⟨gz, 6, none⟩ = some (.int .i64 z2.S) ∧ wx.cell? ⟨gz, 7, none⟩ = some (.slice z2.a z2.n z2.c) ∧ wx.cell? ⟨gz, 8, none⟩ = some (.int .i64 z2.E) ∧ wx.cell? ⟨gx, 0, none⟩ = some (.int .i64 x0.S) ∧ wx.cell? ⟨gx, 1, none⟩ = some (.slice x0.a x0.n x0.c) ∧ wx.cell? ⟨gx, 2, none⟩ = some (.int .i64 x0.E) ∧ wx.cell? ⟨gx, 3, none⟩ = some (.int .i64 x1.S) ∧ wx.cell? ⟨gx, 4, none⟩ = some (.slice x1.a x1.n x1.c) ∧ wx.cell? ⟨gx, 5, none⟩ = some (.int .i64 x1.E) ∧ wx.cell? ⟨gx, 6, none⟩ = some (.int .i64 x2.S) ∧ wx.cell? ⟨gx, 7, none⟩ = some (.slice x2.a x2.n x2.c) ∧ wx.cell? ⟨gx, 8, none⟩ = some (.int .i64 x2.E) ∧ SF w wx ax ay bx by' cx cy dx dy gx gy gz x0 x1 x2 y0 y1 y2 z0 z1 z2 X0 X1 X2 Y0 Y1 Y2 := ⟨box_cell hb hS.1, box_cell hb hS.2.1, box_cell hb hS.2.2.1, box_cell hb hS.2.2.2.1, box_cell hb hS.2.2.2.2.1, box_cell hb hS.2.2.2.2.2.1, box_cell hb hS.2.2.2.2.2.2.1, box_cell hb hS.2.2.2.2.2.2.2.1, box_cell hb hS.2.2.2.2.2.2.2.2.1, box_cell hb hS.2.2.2.2.2.2.2.2.2.1, box_cell hb hS.2.2.2.2.2.2.2.2.2.2.1, box_cell hb hS.2.2.2.2.2.2.2.2.2.2.2.1, box_cell hb hS.2.2.2.2.2.2.2.2.2.2.2.2.1, box_cell hb hS.2.2.2.2.2.2.2.2.2.2.2.2.2.1, box_cell hb hS.2.2.2.2.2.2.2.2.2.2.2.2.2.2.1, box_cell hb hS.2.2.2.2.2.2.2.2.2.2.2.2.2.2.2.1, box_cell hb hS.2.2.2.2.2.2.2.2.2.2.2.2.2.2.2.2.1, box_cell hb hS.2.2.2.2.2.2.2.2.2.2.2.2.2.2.2.2.2.1, box_cell hb hS.2.2.2.2.2.2.2.2.2.2.2.2.2.2.2.2.2.2.1, box_cell hb hS.2.2.2.2.2.2.2.2.2.2.2.2.2.2.2.2.2.2.2.1, box_cell hb hS.2.2.2.2.2.2.2.2.2.2.2.2.2.2.2.2.2.2.2.2.1, box_cell hb hS.2.2.2.2.2.2.2.2.2.2.2.2.2.2.2.2.2.2.2.2.2.1, box_cell hb hS.2.2.2.2.2.2.2.2.2.2.2.2.2.2.2.2.2.2.2.2.2.2.1, box_cell hb hS.2.2.2.2.2.2.2.2.2.2.2.2.2.2.2.2.2.2.2.2.2.2.2.1, box_cell hb hS.2.2.2.2.2.2.2.2.2.2.2.2.2.2.2.2.2.2.2.2.2.2.2.2.1, box_cell hb hS.2.2.2.2.2.2.2.2.2.2.2.2.2.2.2.2.2.2.2.2.2.2.2.2.2.1, box_cell hb hS.2.2.2.2.2.2.2.2.2.2.2.2.2.2.2.2.2.2.2.2.2.2.2.2.2.2.1, hS.2.2.2.2.2.2.2.2.2.2.2.2.2.2.2.2.2.2.2.2.2.2.2.2.2.2.2.later hb⟩
          go_wp2_with fail
          exact hK.out _ _ hS2 ⟨vb, vn, e2, b1, by rw [hA]; rfl, hS2, fun h => ⟨(HV.out h).1, (HV.out h).2.1.later hb, (HV.out h).2.2⟩, fun _ => hrn, fun h => by omega⟩
        · refine ⟨_, rfl, ?_⟩
          intro aa W hI K' hK
          obtain ⟨vb, e1, e2, b1, rfl, hS, hv, k1, k2⟩ := hI
          have r1 := k1 (by omega)
          have HV : Hid (x = true → vb = .pointer (some ⟨b1, 0, none⟩) ∧ CB W b1 #[.int .i64 0, .slice none 0 0, .int .i64 0] 56 ∧ gz < b1) := hv
          clear hv k1 k2
          rw [hA]
          simp only [Act.put, List.setIfInBounds_toArray, List.set_cons_zero, List.set_cons_succ]
          go_simp
          go_wp2_with fail
          refine (mul_rf _ e1 (X0) (Y1 * (X2 * X2 + Y2 * Y2) - Y2 * (X1 * X1 + Y1 * Y1)) _ hS.2.2.2.2.2.2.2.2.2.2.2.2.2.2.2.2.2.2.2.2.2.2.2.2.2.2.2.rx.2.1 r1 (HBD.out.1.1.mono (by omega) (by omega)) ((((HBD.out.2.2.1.mul ((HBD.out.1.2.2.mul HBD.out.1.2.2).add (HBD.out.2.2.2.mul HBD.out.2.2.2))).mono (h' := 6000) (l' := -6000) (by omega) (by omega)).sub ((HBD.out.2.2.2.mul ((HBD.out.1.2.1.mul HBD.out.1.2.1).add (HBD.out.2.2.1.mul HBD.out.2.2.1))).mono (h' := 6000) (l' := -6000) (by omega) (by omega))).mono (by omega) (by omega))).mono ?_
          rintro e wx ⟨vn, rfl, hrn, hb⟩
          have hS2 : wx.cell? ⟨gy, 0, none⟩ = some (.int .i64 y0.S) ∧ wx.cell? ⟨gy, 1, none⟩ = some (.slice y0.a y0.n y0.c) ∧ wx.cell? ⟨gy, 2, none⟩ = some (.int .i64 y0.E) ∧ wx.cell? ⟨gy, 3, none⟩ = some (.int .i64 y1.S) ∧ wx.cell? ⟨gy, 4, none⟩ = some (.slice y1.a y1.n y1.c) ∧ wx.cell? ⟨gy, 5, none⟩ = some (.int .i64 y1.E) ∧ wx.cell? ⟨gy, 6, none⟩ = some (.int .i64 y2.S) ∧ wx.cell? ⟨gy, 7, none⟩ = some (.slice y2.a y2.n y2.c) ∧ wx.cell? ⟨gy, 8, none⟩ = some (.int .i64 y2.E) ∧ wx.cell? ⟨gz, 0, none⟩ = some (.int .i64 z0.S) ∧ wx.cell? ⟨gz, 1, none⟩ = some (.slice z0.a z0.n z0.c) ∧ wx.cell? ⟨gz, 2, none⟩ = some (.int .i64 z0.E) ∧ wx.cell? ⟨gz, 3, none⟩ = some (.int .i64 z1.S) ∧ wx.cell? ⟨gz, 4, none⟩ = some (.slice z1.a z1.n z1.c) ∧ wx.cell? ⟨gz, 5, none⟩ = some (.int .i64 z1.E) ∧ wx.cell? ⟨gz, 6, none⟩ = some (.int .i64 z2.S) ∧ wx.cell? ⟨gz, 7, none⟩ = some (.slice z2.a z2.n z2.c) ∧ wx.cell? ⟨gz, 8, none⟩ = some (.int .i64 z2.E) ∧ wx.cell? ⟨gx, 0, none⟩ = some (.int .i64 x0.S) ∧ wx.cell? ⟨gx, 1, none⟩ = some (.slice x0.a x0.n x0.c) ∧ wx.cell? ⟨gx, 2, none⟩ = some (.int .i64 x0.E) ∧ wx.cell? ⟨gx, 3, none⟩ = some (.int .i64 x1.S) ∧ wx.cell? ⟨gx, 4, none⟩ = some (.slice x1.a x1.n x1.c) ∧ wx.cell? ⟨gx, 5, none⟩ = some (.int .i64 x1.E) ∧ wx.cell? ⟨gx, 6, none⟩ = some (.int .i64 x2.S) ∧ wx.cell? ⟨gx, 7, none⟩ = some (.slice x2.a x2.n x2.c) ∧ wx.cell? ⟨gx, 8, none⟩ = some (.int .i64 x2.E) ∧ SF w wx ax ay bx by' cx cy dx dy gx gy gz x0 x1 x2 y0 y1 y2 z0 z1 z2 X0 X1 X2 Y0 Y1 Y2 := ⟨box_cell hb hS.1, box_cell hb hS.2.1, box_cell hb hS.2.2.1, box_cell hb hS.2.2.2.1, box_cell hb hS.2.2.2.2.1, box_cell hb hS.2.2.2.2.2.1, box_cell hb hS.2.2.2.2.2.2.1, box_cell hb hS.2.2.2.2.2.2.2.1, box_cell hb hS.2.2.2.2.2.2.2.2.1, box_cell hb hS.2.2.2.2.2.2.2.2.2.1, box_cell hb hS.2.2.2.2.2.2.2.2.2.2.1, box_cell hb hS.2.2.2.2.2.2.2.2.2.2.2.1, box_cell hb hS.2.2.2.2.2.2.2.2.2.2.2.2.1, box_cell hb hS.2.2.2.2.2.2.2.2.2.2.2.2.2.1, box_cell hb hS.2.2.2.2.2.2.2.2.2.2.2.2.2.2.1, box_cell hb hS.2.2.2.2.2.2.2.2.2.2.2.2.2.2.2.1, box_cell hb hS.2.2.2.2.2.2.2.2.2.2.2.2.2.2.2.2.1, box_cell hb hS.2.2.2.2.2.2.2.2.2.2.2.2.2.2.2.2.2.1, box_cell hb hS.2.2.2.2.2.2.2.2.2.2.2.2.2.2.2.2.2.2.1, box_cell hb hS.2.2.2.2.2.2.2.2.2.2.2.2.2.2.2.2.2.2.2.1, box_cell hb hS.2.2.2.2.2.2.2.2.2.2.2.2.2.2.2.2.2.2.2.2.1, box_cell hb hS.2.2.2.2.2.2.2.2.2.2.2.2.2.2.2.2.2.2.2.2.2.1, box_cell hb hS.2.2.2.2.2.2.2.2.2.2.2.2.2.2.2.2.2.2.2.2.2.2.1, box_cell hb hS.2.2.2.2.2.2.2.2.2.2.2.2.2.2.2.2.2.2.2.2.2.2.2.1, box_cell hb hS.2.2.2.2.2.2.2.2.2.2.2.2.2.2.2.2.2.2.2.2.2.2.2.2.1, box_cell hb hS.2.2.2.2.2.2.2.2.2.2.2.2.2.2.2.2.2.2.2.2.2.2.2.2.2.1, box_cell hb hS.2.2.2.2.2.2.2.2.2.2.2.2.2.2.2.2.2.2.2.2.2.2.2.2.2.2.1, hS.2.2.2.2.2.2.2.2.2.2.2.2.2.2.2.2.2.2.2.2.2.2.2.2.2.2.2.later hb⟩
          go_wp2_with fail
          exact hK.out _ _ hS2 ⟨vb, e1, vn, b1, by rw [hA]; rfl, hS2, fun h => ⟨(HV.out h).1, (HV.out h).2.1.later hb, (HV.out h).2.2⟩, fun _ => r1.later hb, fun _ => hrn⟩
      · intro k hk
        refine ⟨_, rfl, ?_⟩
        intro aa W hI K' hK
        obtain ⟨vb, e1, e2, b1, rfl, hS, hv, k1, k2⟩ := hI
        have HK : Hid ((1 ≤ k → Rf W e1 (Y1 * (X2 * X2 + Y2 * Y2) - Y2 * (X1 * X1 + Y1 * Y1))) ∧ (2 ≤ k → Rf W e2 (X0 * (Y1 * (X2 * X2 + Y2 * Y2) - Y2 * (X1 * X1 + Y1 * Y1))))) := ⟨k1, k2⟩
        clear hv k1 k2
        have hb : Below W.heap.size W (W.alloc (.cells #[.int .i64 0, .slice none 0 0, .int .i64 0] 56)) := (Below.refl _ W).alloc (Nat.le_refl _) _
        have hlt2 : gz < W.heap.size := hS.2.2.2.2.2.2.2.2.2.2.2.2.2.2.2.2.2.2.2.2.2.2.2.2.2.2.2.lt
        have hS2 : (fun W => W.cell? ⟨gy, 0, none⟩ = some (.int .i64 y0.S) ∧ W.cell? ⟨gy, 1, none⟩ = some (.slice y0.a y0.n y0.c) ∧ W.cell? ⟨gy, 2, none⟩ = some (.int .i64 y0.E) ∧ W.cell? ⟨gy, 3, none⟩ = some (.int .i64 y1.S) ∧ W.cell? ⟨gy, 4, none⟩ = some (.slice y1.a y1.n y1.c) ∧ W.cell? ⟨gy, 5, none⟩ = some (.int .i64 y1.E) ∧ W.cell? ⟨gy, 6, none⟩ = some (.int .i64 y2.S) ∧ W.cell? ⟨gy, 7, none⟩ = some (.slice y2.a y2.n y2.c) ∧ W.cell? ⟨gy, 8, none⟩ = some (.int .i64 y2.E) ∧ W.cell? ⟨gz, 0, none⟩ = some (.int .i64 z0.S) ∧ W.cell? ⟨gz, 1, none⟩ = some (.slice z0.a z0.n z0.c) ∧ W.cell? ⟨gz, 2, none⟩ = some (.int .i64 z0.E) ∧ W.cell? ⟨gz, 3, none⟩ = some (.int .i64 z1.S) ∧ W.cell? ⟨gz, 4, none⟩ = some (.slice z1.a z1.n z1.c) ∧ W.cell? ⟨gz, 5, none⟩ = some (.int .i64 z1.E) ∧ W.cell? ⟨gz, 6, none⟩ = some (.int .i64 z2.S) ∧ W.cell? ⟨gz, 7, none⟩ = some (.slice z2.a z2.n z2.c) ∧ W.cell? ⟨gz, 8, none⟩ = some (.int .i64 z2.E) ∧ W.cell? ⟨gx, 0, none⟩ = some (.int .i64 x0.S) ∧ W.cell? ⟨gx, 1, none⟩ = some (.slice x0.a x0.n x0.c) ∧ W.cell? ⟨gx, 2, none⟩ = some (.int .i64 x0.E) ∧ W.cell? ⟨gx, 3, none⟩ = some (.int .i64 x1.S) ∧ W.cell? ⟨gx, 4, none⟩ = some (.slice x1.a x1.n x1.c) ∧ W.cell? ⟨gx, 5, none⟩ = some (.int .i64 x1.E) ∧ W.cell? ⟨gx, 6, none⟩ = some (.int .i64 x2.S) ∧ W.cell? ⟨gx, 7, none⟩ = some (.slice x2.a x2.n x2.c) ∧ W.cell? ⟨gx, 8, none⟩ = some (.int .i64 x2.E) ∧ SF w W ax ay bx by' cx cy dx dy gx gy gz x0 x1 x2 y0 y1 y2 z0 z1 z2 X0 X1 X2 Y0 Y1 Y2) (W.alloc (.cells #[.int .i64 0, .slice none 0 0, .int .i64 0] 56)) := ⟨box_cell hb hS.1, box_cell hb hS.2.1, box_cell hb hS.2.2.1, box_cell hb hS.2.2.2.1, box_cell hb hS.2.2.2.2.1, box_cell hb hS.2.2.2.2.2.1, box_cell hb hS.2.2.2.2.2.2.1, box_cell hb hS.2.2.2.2.2.2.2.1, box_cell hb hS.2.2.2.2.2.2.2.2.1, box_cell hb hS.2.2.2.2.2.2.2.2.2.1, box_cell hb hS.2.2.2.2.2.2.2.2.2.2.1, box_cell hb hS.2.2.2.2.2.2.2.2.2.2.2.1, box_cell hb hS.2.2.2.2.2.2.2.2.2.2.2.2.1, box_cell hb hS.2.2.2.2.2.2.2.2.2.2.2.2.2.1, box_cell hb hS.2.2.2.2.2.2.2.2.2.2.2.2.2.2.1, box_cell hb hS.2.2.2.2.2.2.2.2.2.2.2.2.2.2.2.1, box_cell hb hS.2.2.2.2.2.2.2.2.2.2.2.2.2.2.2.2.1, box_cell hb hS.2.2.2.2.2.2.2.2.2.2.2.2.2.2.2.2.2.1, box_cell hb hS.2.2.2.2.2.2.2.2.2.2.2.2.2.2.2.2.2.2.1, box_cell hb hS.2.2.2.2.2.2.2.2.2.2.2.2.2.2.2.2.2.2.2.1, box_cell hb hS.2.2.2.2.2.2.2.2.2.2.2.2.2.2.2.2.2.2.2.2.1, box_cell hb hS.2.2.2.2.2.2.2.2.2.2.2.2.2.2.2.2.2.2.2.2.2.1, box_cell hb hS.2.2.2.2.2.2.2.2.2.2.2.2.2.2.2.2.2.2.2.2.2.2.1, box_cell hb hS.2.2.2.2.2.2.2.2.2.2.2.2.2.2.2.2.2.2.2.2.2.2.2.1, box_cell hb hS.2.2.2.2.2.2.2.2.2.2.2.2.2.2.2.2.2.2.2.2.2.2.2.2.1, box_cell hb hS.2.2.2.2.2.2.2.2.2.2.2.2.2.2.2.2.2.2.2.2.2.2.2.2.2.1, box_cell hb hS.2.2.2.2.2.2.2.2.2.2.2.2.2.2.2.2.2.2.2.2.2.2.2.2.2.2.1, hS.2.2.2.2.2.2.2.2.2.2.2.2.2.2.2.2.2.2.2.2.2.2.2.2.2.2.2.later hb⟩
        rw [hA]
        simp only [Act.put, List.setIfInBounds_toArray, List.set_cons_zero, List.set_cons_succ]
        go_simp
        go_wp2_with fail
        exact hK.out _ _ hS2 ⟨_, e1, e2, W.heap.size, by rw [hA]; rfl, hS2, fun _ => ⟨rfl, CB.new W _ _, hlt2⟩, fun h => (HK.out.1 h).later hb, fun h => (HK.out.2 h).later hb⟩
      · intro aa W hI
        obtain ⟨vb, e1, e2, b1, rfl, hS, hv, k1, k2⟩ := hI
        obtain ⟨rfl, hc, hl⟩ := hv rfl
        have hR := k2 (by omega)
        clear hv k1 k2
        obtain ⟨Sp, ap, np, cp, Ep, rfl⟩ := hR.agg
        subst hA
        simp only [Act.put, List.setIfInBounds_toArray, List.set_cons_zero, List.set_cons_succ]
        have hlow := HLZ.out
        have hO : OtherRow W b1 := ⟨_, _, _, hc, by decide⟩
        have hm := moved3 W b1 (.int .i64 Sp) (.slice ap np cp) (.int .i64 Ep)
        have hmb := mb3 W b1 (.int .i64 Sp) (.slice ap np cp) (.int .i64 Ep)
        have hS2 : (fun W => W.cell? ⟨gy, 0, none⟩ = some (.int .i64 y0.S) ∧ W.cell? ⟨gy, 1, none⟩ = some (.slice y0.a y0.n y0.c) ∧ W.cell? ⟨gy, 2, none⟩ = some (.int .i64 y0.E) ∧ W.cell? ⟨gy, 3, none⟩ = some (.int .i64 y1.S) ∧ W.cell? ⟨gy, 4, none⟩ = some (.slice y1.a y1.n y1.c) ∧ W.cell? ⟨gy, 5, none⟩ = some (.int .i64 y1.E) ∧ W.cell? ⟨gy, 6, none⟩ = some (.int .i64 y2.S) ∧ W.cell? ⟨gy, 7, none⟩ = some (.slice y2.a y2.n y2.c) ∧ W.cell? ⟨gy, 8, none⟩ = some (.int .i64 y2.E) ∧ W.cell? ⟨gz, 0, none⟩ = some (.int .i64 z0.S) ∧ W.cell? ⟨gz, 1, none⟩ = some (.slice z0.a z0.n z0.c) ∧ W.cell? ⟨gz, 2, none⟩ = some (.int .i64 z0.E) ∧ W.cell? ⟨gz, 3, none⟩ = some (.int .i64 z1.S) ∧ W.cell? ⟨gz, 4, none⟩ = some (.slice z1.a z1.n z1.c) ∧ W.cell? ⟨gz, 5, none⟩ = some (.int .i64 z1.E) ∧ W.cell? ⟨gz, 6, none⟩ = some (.int .i64 z2.S) ∧ W.cell? ⟨gz, 7, none⟩ = some (.slice z2.a z2.n z2.c) ∧ W.cell? ⟨gz, 8, none⟩ = some (.int .i64 z2.E) ∧ W.cell? ⟨gx, 0, none⟩ = some (.int .i64 x0.S) ∧ W.cell? ⟨gx, 1, none⟩ = some (.slice x0.a x0.n x0.c) ∧ W.cell? ⟨gx, 2, none⟩ = some (.int .i64 x0.E) ∧ W.cell? ⟨gx, 3, none⟩ = some (.int .i64 x1.S) ∧ W.cell? ⟨gx, 4, none⟩ = some (.slice x1.a x1.n x1.c) ∧ W.cell? ⟨gx, 5, none⟩ = some (.int .i64 x1.E) ∧ W.cell? ⟨gx, 6, none⟩ = some (.int .i64 x2.S) ∧ W.cell? ⟨gx, 7, none⟩ = some (.slice x2.a x2.n x2.c) ∧ W.cell? ⟨gx, 8, none⟩ = some (.int .i64 x2.E) ∧ SF w W ax ay bx by' cx cy dx dy gx gy gz x0 x1 x2 y0 y1 y2 z0 z1 z2 X0 X1 X2 Y0 Y1 Y2) (((W.setCell ⟨b1, 0, none⟩ (.int .i64 Sp)).setCell ⟨b1, 1, none⟩ (.slice ap np cp)).setCell ⟨b1, 2, none⟩ (.int .i64 Ep)) := ⟨hm.cell _ _ _ (by omega) hS.1, hm.cell _ _ _ (by omega) hS.2.1, hm.cell _ _ _ (by omega) hS.2.2.1, hm.cell _ _ _ (by omega) hS.2.2.2.1, hm.cell _ _ _ (by omega) hS.2.2.2.2.1, hm.cell _ _ _ (by omega) hS.2.2.2.2.2.1, hm.cell _ _ _ (by omega) hS.2.2.2.2.2.2.1, hm.cell _ _ _ (by omega) hS.2.2.2.2.2.2.2.1, hm.cell _ _ _ (by omega) hS.2.2.2.2.2.2.2.2.1, hm.cell _ _ _ (by omega) hS.2.2.2.2.2.2.2.2.2.1, hm.cell _ _ _ (by omega) hS.2.2.2.2.2.2.2.2.2.2.1, hm.cell _ _ _ (by omega) hS.2.2.2.2.2.2.2.2.2.2.2.1, hm.cell _ _ _ (by omega) hS.2.2.2.2.2.2.2.2.2.2.2.2.1, hm.cell _ _ _ (by omega) hS.2.2.2.2.2.2.2.2.2.2.2.2.2.1, hm.cell _ _ _ (by omega) hS.2.2.2.2.2.2.2.2.2.2.2.2.2.2.1, hm.cell _ _ _ (by omega) hS.2.2.2.2.2.2.2.2.2.2.2.2.2.2.2.1, hm.cell _ _ _ (by omega) hS.2.2.2.2.2.2.2.2.2.2.2.2.2.2.2.2.1, hm.cell _ _ _ (by omega) hS.2.2.2.2.2.2.2.2.2.2.2.2.2.2.2.2.2.1, hm.cell _ _ _ (by omega) hS.2.2.2.2.2.2.2.2.2.2.2.2.2.2.2.2.2.2.1, hm.cell _ _ _ (by omega) hS.2.2.2.2.2.2.2.2.2.2.2.2.2.2.2.2.2.2.2.1, hm.cell _ _ _ (by omega) hS.2.2.2.2.2.2.2.2.2.2.2.2.2.2.2.2.2.2.2.2.1, hm.cell _ _ _ (by omega) hS.2.2.2.2.2.2.2.2.2.2.2.2.2.2.2.2.2.2.2.2.2.1, hm.cell _ _ _ (by omega) hS.2.2.2.2.2.2.2.2.2.2.2.2.2.2.2.2.2.2.2.2.2.2.1, hm.cell _ _ _ (by omega) hS.2.2.2.2.2.2.2.2.2.2.2.2.2.2.2.2.2.2.2.2.2.2.2.1, hm.cell _ _ _ (by omega) hS.2.2.2.2.2.2.2.2.2.2.2.2.2.2.2.2.2.2.2.2.2.2.2.2.1, hm.cell _ _ _ (by omega) hS.2.2.2.2.2.2.2.2.2.2.2.2.2.2.2.2.2.2.2.2.2.2.2.2.2.1, hm.cell _ _ _ (by omega) hS.2.2.2.2.2.2.2.2.2.2.2.2.2.2.2.2.2.2.2.2.2.2.2.2.2.2.1, hS.2.2.2.2.2.2.2.2.2.2.2.2.2.2.2.2.2.2.2.2.2.2.2.2.2.2.2.boxed' hO hm hmb (by omega) (by omega) (by omega) hl⟩
        have hc2 := hc.set3 (.int .i64 Sp) (.slice ap np cp) (.int .i64 Ep)
        have hR2 := hR.boxed hO (.int .i64 Sp) (.slice ap np cp) (.int .i64 Ep)
        have f0 := hc.frozen 0
        have f1 := hc.frozen 1
        have f2 := hc.frozen 2
        obtain ⟨g0, g1, g2⟩ := hc.cells3
        refine call_at 18 (by kernel_rfl) (by kernel_rfl) ?_
        intro o ho
        simp only [List.getElem?_toArray, List.getElem?_cons_succ, List.getElem?_cons_zero, Option.some.injEq] at ho
        subst ho
        intro KF hK
        go_simp
        go_wp2_with fail
        refine hK.out _ _ hS2 ?_
        intro _
        clear hK KF f0 f1 f2 g0 g1 g2 hS hO hm hmb hc hR
        try simp only [List.setIfInBounds_toArray, List.set_cons_zero, List.set_cons_succ]
        refine wpAnyH_done (by kernel_rfl) ?_ _
        generalize ((W.setCell ⟨b1, 0, none⟩ (.int .i64 Sp)).setCell ⟨b1, 1, none⟩ (.slice ap np cp)).setCell ⟨b1, 2, none⟩ (.int .i64 Ep) = WL at *
        have HF2 : Hid (SF2 w WL ax ay bx by' cx cy dx dy gx gy gz x0 x1 x2 y0 y1 y2 z0 z1 z2 X0 X1 X2 Y0 Y1 Y2 b1 (.agg #[.int .i64 Sp, .slice ap np cp, .int .i64 Ep]) (X0 * (Y1 * (X2 * X2 + Y2 * Y2) - Y2 * (X1 * X1 + Y1 * Y1)))) := ⟨hS2.2.2.2.2.2.2.2.2.2.2.2.2.2.2.2.2.2.2.2.2.2.2.2.2.2.2.2, ⟨_, _, _, _, _, rfl, hc2⟩, hR2, hl⟩
        clear hS2 hc2 hR2 hl HSF
        go_wp2_with fail
        refine wp_region_held_drew (S := (fun W => W.cell? ⟨gy, 0, none⟩ = some (.int .i64 y0.S) ∧ W.cell? ⟨gy, 1, none⟩ = some (.slice y0.a y0.n y0.c) ∧ W.cell? ⟨gy, 2, none⟩ = some (.int .i64 y0.E) ∧ W.cell? ⟨gy, 3, none⟩ = some (.int .i64 y1.S) ∧ W.cell? ⟨gy, 4, none⟩ = some (.slice y1.a y1.n y1.c) ∧ W.cell? ⟨gy, 5, none⟩ = some (.int .i64 y1.E) ∧ W.cell? ⟨gy, 6, none⟩ = some (.int .i64 y2.S) ∧ W.cell? ⟨gy, 7, none⟩ = some (.slice y2.a y2.n y2.c) ∧ W.cell? ⟨gy, 8, none⟩ = some (.int .i64 y2.E) ∧ W.cell? ⟨gz, 0, none⟩ = some (.int .i64 z0.S) ∧ W.cell? ⟨gz, 1, none⟩ = some (.slice z0.a z0.n z0.c) ∧ W.cell? ⟨gz, 2, none⟩ = some (.int .i64 z0.E) ∧ W.cell? ⟨gz, 3, none⟩ = some (.int .i64 z1.S) ∧ W.cell? ⟨gz, 4, none⟩ = some (.slice z1.a z1.n z1.c) ∧ W.cell? ⟨gz, 5, none⟩ = some (.int .i64 z1.E) ∧ W.cell? ⟨gz, 6, none⟩ = some (.int .i64 z2.S) ∧ W.cell? ⟨gz, 7, none⟩ = some (.slice z2.a z2.n z2.c) ∧ W.cell? ⟨gz, 8, none⟩ = some (.int .i64 z2.E) ∧ W.cell? ⟨gx, 0, none⟩ = some (.int .i64 x0.S) ∧ W.cell? ⟨gx, 1, none⟩ = some (.slice x0.a x0.n x0.c) ∧ W.cell? ⟨gx, 2, none⟩ = some (.int .i64 x0.E) ∧ W.cell? ⟨gx, 3, none⟩ = some (.int .i64 x1.S) ∧ W.cell? ⟨gx, 4, none⟩ = some (.slice x1.a x1.n x1.c) ∧ W.cell? ⟨gx, 5, none⟩ = some (.int .i64 x1.E) ∧ W.cell? ⟨gx, 6, none⟩ = some (.int .i64 x2.S) ∧ W.cell? ⟨gx, 7, none⟩ = some (.slice x2.a x2.n x2.c) ∧ W.cell? ⟨gx, 8, none⟩ = some (.int .i64 x2.E) ∧ SF2 w W ax ay bx by' cx cy dx dy gx gy gz x0 x1 x2 y0 y1 y2 z0 z1 z2 X0 X1 X2 Y0 Y1 Y2 b1 (.agg #[.int .i64 Sp, .slice ap np cp, .int .i64 Ep]) (X0 * (Y1 * (X2 * X2 + Y2 * Y2) - Y2 * (X1 * X1 + Y1 * Y1))))) (by kernel_rfl) ⟨(HF2.out.1.ry.1.cells9).1, (HF2.out.1.ry.1.cells9).2.1, (HF2.out.1.ry.1.cells9).2.2.1, (HF2.out.1.ry.1.cells9).2.2.2.1, (HF2.out.1.ry.1.cells9).2.2.2.2.1, (HF2.out.1.ry.1.cells9).2.2.2.2.2.1, (HF2.out.1.ry.1.cells9).2.2.2.2.2.2.1, (HF2.out.1.ry.1.cells9).2.2.2.2.2.2.2.1, (HF2.out.1.ry.1.cells9).2.2.2.2.2.2.2.2, HF2.out.1.zc.1, HF2.out.1.zc.2.1, HF2.out.1.zc.2.2.1, HF2.out.1.zc.2.2.2.1, HF2.out.1.zc.2.2.2.2.1, HF2.out.1.zc.2.2.2.2.2.1, HF2.out.1.zc.2.2.2.2.2.2.1, HF2.out.1.zc.2.2.2.2.2.2.2.1, HF2.out.1.zc.2.2.2.2.2.2.2.2, (HF2.out.1.rx.1.cells9).1, (HF2.out.1.rx.1.cells9).2.1, (HF2.out.1.rx.1.cells9).2.2.1, (HF2.out.1.rx.1.cells9).2.2.2.1, (HF2.out.1.rx.1.cells9).2.2.2.2.1, (HF2.out.1.rx.1.cells9).2.2.2.2.2.1, (HF2.out.1.rx.1.cells9).2.2.2.2.2.2.1, (HF2.out.1.rx.1.cells9).2.2.2.2.2.2.2.1, (HF2.out.1.rx.1.cells9).2.2.2.2.2.2.2.2, HF2.out.drew⟩ (fun hS => ?_)
        refine take_at (i := 0) (d := some 91) (v := .slice (some ⟨gy, 0, none⟩) 3 3) (by kernel_rfl) (by kernel_rfl) (by kernel_rfl) (by kernel_rfl) (fun _ _ _ h => h) ?_ hS ?_
        · intro o ho
          simp only [List.getElem?_toArray, List.getElem?_cons_zero, Option.some.injEq] at ho
          subst ho
          refine Or.inl ⟨by rfl, ?_⟩
          intro w hSw
          (try dsimp only at hSw)
          go_simp
        simp only [Act.put, List.setIfInBounds_toArray, List.set_cons_zero, List.set_cons_succ]
        refine take_at (i := 1) (d := some 92) (v := .pointer (some ⟨gy, 0, none⟩)) (by kernel_rfl) (by kernel_rfl) (by kernel_rfl) (by kernel_rfl) (fun _ _ _ h => h) ?_ hS ?_
        · intro o ho
          simp only [List.getElem?_toArray, List.getElem?_cons_succ, List.getElem?_cons_zero, Option.some.injEq] at ho
          subst ho
          refine Or.inl ⟨by rfl, ?_⟩
          intro w hSw
          (try dsimp only at hSw)
          go_simp
        simp only [Act.put, List.setIfInBounds_toArray, List.set_cons_zero, List.set_cons_succ]
        refine take_at (i := 2) (d := some 93) (v := .agg #[.int .i64 y0.S, .slice y0.a y0.n y0.c, .int .i64 y0.E]) (by kernel_rfl) (by kernel_rfl) (by kernel_rfl) (by kernel_rfl) (fun _ _ _ h => h) ?_ hS ?_
        · intro o ho
          simp only [List.getElem?_toArray, List.getElem?_cons_succ, List.getElem?_cons_zero, Option.some.injEq] at ho
          subst ho
          refine Or.inl ⟨by rfl, ?_⟩
          intro w hSw
          (try dsimp only at hSw)
          go_simp
        simp only [Act.put, List.setIfInBounds_toArray, List.set_cons_zero, List.set_cons_succ]
        refine take_at (i := 3) (d := some 94) (v := .slice (some ⟨gx, 0, none⟩) 3 3) (by kernel_rfl) (by kernel_rfl) (by kernel_rfl) (by kernel_rfl) (fun _ _ _ h => h) ?_ hS ?_
        · intro o ho
          simp only [List.getElem?_toArray, List.getElem?_cons_succ, List.getElem?_cons_zero, Option.some.injEq] at ho
          subst ho
          refine Or.inl ⟨by rfl, ?_⟩
          intro w hSw
          (try dsimp only at hSw)
          go_simp
        simp only [Act.put, List.setIfInBounds_toArray, List.set_cons_zero, List.set_cons_succ]
        refine take_at (i := 4) (d := some 95) (v := .pointer (some ⟨gx, 3, none⟩)) (by kernel_rfl) (by kernel_rfl) (by kernel_rfl) (by kernel_rfl) (fun _ _ _ h => h) ?_ hS ?_
        · intro o ho
          simp only [List.getElem?_toArray, List.getElem?_cons_succ, List.getElem?_cons_zero, Option.some.injEq] at ho
          subst ho
          refine Or.inl ⟨by rfl, ?_⟩
          intro w hSw
          (try dsimp only at hSw)
          go_simp
        simp only [Act.put, List.setIfInBounds_toArray, List.set_cons_zero, List.set_cons_succ]
        refine take_at (i := 5) (d := some 96) (v := .agg #[.int .i64 x1.S, .slice x1.a x1.n x1.c, .int .i64 x1.E]) (by kernel_rfl) (by kernel_rfl) (by kernel_rfl) (by kernel_rfl) (fun _ _ _ h => h) ?_ hS ?_
        · intro o ho
          simp only [List.getElem?_toArray, List.getElem?_cons_succ, List.getElem?_cons_zero, Option.some.injEq] at ho
          subst ho
          refine Or.inl ⟨by rfl, ?_⟩
          intro w hSw
          (try dsimp only at hSw)
          go_simp
        simp only [Act.put, List.setIfInBounds_toArray, List.set_cons_zero, List.set_cons_succ]
        refine take_at (i := 6) (d := some 97) (v := .slice (some ⟨gz, 0, none⟩) 3 cz) (by kernel_rfl) (by kernel_rfl) (by kernel_rfl) (by kernel_rfl) (fun _ _ _ h => h) ?_ hS ?_
        · intro o ho
          simp only [List.getElem?_toArray, List.getElem?_cons_succ, List.getElem?_cons_zero, Option.some.injEq] at ho
          subst ho
          refine Or.inl ⟨by rfl, ?_⟩
          intro w hSw
          (try dsimp only at hSw)
          go_simp
        simp only [Act.put, List.setIfInBounds_toArray, List.set_cons_zero, List.set_cons_succ]
        refine take_at (i := 7) (d := some 98) (v := .pointer (some ⟨gz, 3, none⟩)) (by kernel_rfl) (by kernel_rfl) (by kernel_rfl) (by kernel_rfl) (fun _ _ _ h => h) ?_ hS ?_
        · intro o ho
          simp only [List.getElem?_toArray, List.getElem?_cons_succ, List.getElem?_cons_zero, Option.some.injEq] at ho
          subst ho
          refine Or.inl ⟨by rfl, ?_⟩
          intro w hSw
          (try dsimp only at hSw)
          go_simp
        simp only [Act.put, List.setIfInBounds_toArray, List.set_cons_zero, List.set_cons_succ]
        refine take_at (i := 8) (d := some 99) (v := .agg #[.int .i64 z1.S, .slice z1.a z1.n z1.c, .int .i64 z1.E]) (by kernel_rfl) (by kernel_rfl) (by kernel_rfl) (by kernel_rfl) (fun _ _ _ h => h) ?_ hS ?_
        · intro o ho
          simp only [List.getElem?_toArray, List.getElem?_cons_succ, List.getElem?_cons_zero, Option.some.injEq] at ho
          subst ho
          refine Or.inl ⟨by rfl, ?_⟩
          intro w hSw
          (try dsimp only at hSw)
          go_simp
        simp only [Act.put, List.setIfInBounds_toArray, List.set_cons_zero, List.set_cons_succ]
        refine take_at (i := 9) (d := some 100) (v := .slice (some ⟨gx, 0, none⟩) 3 3) (by kernel_rfl) (by kernel_rfl) (by kernel_rfl) (by kernel_rfl) (fun _ _ _ h => h) ?_ hS ?_
        · intro o ho
          simp only [List.getElem?_toArray, List.getElem?_cons_succ, List.getElem?_cons_zero, Option.some.injEq] at ho
          subst ho
          refine Or.inl ⟨by rfl, ?_⟩
          intro w hSw
          (try dsimp only at hSw)
          go_simp
        simp only [Act.put, List.setIfInBounds_toArray, List.set_cons_zero, List.set_cons_succ]
        refine take_at (i := 10) (d := some 101) (v := .pointer (some ⟨gx, 6, none⟩)) (by kernel_rfl) (by kernel_rfl) (by kernel_rfl) (by kernel_rfl) (fun _ _ _ h => h) ?_ hS ?_
        · intro o ho
          simp only [List.getElem?_toArray, List.getElem?_cons_succ, List.getElem?_cons_zero, Option.some.injEq] at ho
          subst ho
          refine Or.inl ⟨by rfl, ?_⟩
          intro w hSw
          (try dsimp only at hSw)
          go_simp
        simp only [Act.put, List.setIfInBounds_toArray, List.set_cons_zero, List.set_cons_succ]
        refine take_at (i := 11) (d := some 102) (v := .agg #[.int .i64 x2.S, .slice x2.a x2.n x2.c, .int .i64 x2.E]) (by kernel_rfl) (by kernel_rfl) (by kernel_rfl) (by kernel_rfl) (fun _ _ _ h => h) ?_ hS ?_
        · intro o ho
          simp only [List.getElem?_toArray, List.getElem?_cons_succ, List.getElem?_cons_zero, Option.some.injEq] at ho
          subst ho
          refine Or.inl ⟨by rfl, ?_⟩
          intro w hSw
          (try dsimp only at hSw)
          go_simp
        simp only [Act.put, List.setIfInBounds_toArray, List.set_cons_zero, List.set_cons_succ]
        refine take_at (i := 12) (d := some 103) (v := .slice (some ⟨gz, 0, none⟩) 3 cz) (by kernel_rfl) (by kernel_rfl) (by kernel_rfl) (by kernel_rfl) (fun _ _ _ h => h) ?_ hS ?_
        · intro o ho
          simp only [List.getElem?_toArray, List.getElem?_cons_succ, List.getElem?_cons_zero, Option.some.injEq] at ho
          subst ho
          refine Or.inl ⟨by rfl, ?_⟩
          intro w hSw
          (try dsimp only at hSw)
          go_simp
        simp only [Act.put, List.setIfInBounds_toArray, List.set_cons_zero, List.set_cons_succ]
        refine take_at (i := 13) (d := some 104) (v := .pointer (some ⟨gz, 6, none⟩)) (by kernel_rfl) (by kernel_rfl) (by kernel_rfl) (by kernel_rfl) (fun _ _ _ h => h) ?_ hS ?_
        · intro o ho
          simp only [List.getElem?_toArray, List.getElem?_cons_succ, List.getElem?_cons_zero, Option.some.injEq] at ho
          subst ho
          refine Or.inl ⟨by rfl, ?_⟩
          intro w hSw
          (try dsimp only at hSw)
          go_simp
        simp only [Act.put, List.setIfInBounds_toArray, List.set_cons_zero, List.set_cons_succ]
        refine take_at (i := 14) (d := some 105) (v := .agg #[.int .i64 z2.S, .slice z2.a z2.n z2.c, .int .i64 z2.E]) (by kernel_rfl) (by kernel_rfl) (by kernel_rfl) (by kernel_rfl) (fun _ _ _ h => h) ?_ hS ?_
        · intro o ho
          simp only [List.getElem?_toArray, List.getElem?_cons_succ, List.getElem?_cons_zero, Option.some.injEq] at ho
          subst ho
          refine Or.inl ⟨by rfl, ?_⟩
          intro w hSw
          (try dsimp only at hSw)
          go_simp
        simp only [Act.put, List.setIfInBounds_toArray, List.set_cons_zero, List.set_cons_succ]
        refine frame_named (fun A hA => ?_)
        refine draw1 (f := 1) (n := 2) (al := 17) (fun k => if k = 0 then 15 else 16) (fun (x : Bool) (k : Nat) => #[true, true, true, true, true, true, true, true, true, true, true, true, true, true, true, decide (1 ≤ k), decide (2 ≤ k), x, false]) (fun (x : Bool) (k : Nat) (aa : Act) (W : World) => ∃ (vb e1 e2 : Value) (b2 : Nat), aa = (((A.put (some 14) vb).put (some 106) e1).put (some 107) e2) ∧ (W.cell? ⟨gy, 0, none⟩ = some (.int .i64 y0.S) ∧ W.cell? ⟨gy, 1, none⟩ = some (.slice y0.a y0.n y0.c) ∧ W.cell? ⟨gy, 2, none⟩ = some (.int .i64 y0.E) ∧ W.cell? ⟨gy, 3, none⟩ = some (.int .i64 y1.S) ∧ W.cell? ⟨gy, 4, none⟩ = some (.slice y1.a y1.n y1.c) ∧ W.cell? ⟨gy, 5, none⟩ = some (.int .i64 y1.E) ∧ W.cell? ⟨gy, 6, none⟩ = some (.int .i64 y2.S) ∧ W.cell? ⟨gy, 7, none⟩ = some (.slice y2.a y2.n y2.c) ∧ W.cell? ⟨gy, 8, none⟩ = some (.int .i64 y2.E) ∧ W.cell? ⟨gz, 0, none⟩ = some (.int .i64 z0.S) ∧ W.cell? ⟨gz, 1, none⟩ = some (.slice z0.a z0.n z0.c) ∧ W.cell? ⟨gz, 2, none⟩ = some (.int .i64 z0.E) ∧ W.cell? ⟨gz, 3, none⟩ = some (.int .i64 z1.S) ∧ W.cell? ⟨gz, 4, none⟩ = some (.slice z1.a z1.n z1.c) ∧ W.cell? ⟨gz, 5, none⟩ = some (.int .i64 z1.E) ∧ W.cell? ⟨gz, 6, none⟩ = some (.int .i64 z2.S) ∧ W.cell? ⟨gz, 7, none⟩ = some (.slice z2.a z2.n z2.c) ∧ W.cell? ⟨gz, 8, none⟩ = some (.int .i64 z2.E) ∧ W.cell? ⟨gx, 0, none⟩ = some (.int .i64 x0.S) ∧ W.cell? ⟨gx, 1, none⟩ = some (.slice x0.a x0.n x0.c) ∧ W.cell? ⟨gx, 2, none⟩ = some (.int .i64 x0.E) ∧ W.cell? ⟨gx, 3, none⟩ = some (.int .i64 x1.S) ∧ W.cell? ⟨gx, 4, none⟩ = some (.slice x1.a x1.n x1.c) ∧ W.cell? ⟨gx, 5, none⟩ = some (.int .i64 x1.E) ∧ W.cell? ⟨gx, 6, none⟩ = some (.int .i64 x2.S) ∧ W.cell? ⟨gx, 7, none⟩ = some (.slice x2.a x2.n x2.c) ∧ W.cell? ⟨gx, 8, none⟩ = some (.int .i64 x2.E) ∧ SF2 w W ax ay bx by' cx cy dx dy gx gy gz x0 x1 x2 y0 y1 y2 z0 z1 z2 X0 X1 X2 Y0 Y1 Y2 b1 (.agg #[.int .i64 Sp, .slice ap np cp, .int .i64 Ep]) (X0 * (Y1 * (X2 * X2 + Y2 * Y2) - Y2 * (X1 * X1 + Y1 * Y1)))) ∧ (x = true → vb = .pointer (some ⟨b2, 0, none⟩) ∧ CB W b2 #[.int .i64 0, .slice none 0 0, .int .i64 0] 56 ∧ b1 < b2) ∧ (1 ≤ k → Rf W e1 (X1 * (X2 * X2 + Y2 * Y2) - X2 * (X1 * X1 + Y1 * Y1))) ∧ (2 ≤ k → Rf W e2 (Y0 * (X1 * (X2 * X2 + Y2 * Y2) - X2 * (X1 * X1 + Y1 * Y1))))) ?_ ?_ ?_ ?_ ?_ ?_ 3 false 0 _ _ (by omega) (by decide) ?_
        · intro x k hk hx
          have h5 : k = 0 ∨ k = 1 ∨ k = 2 := by omega
          rcases h5 with rfl | rfl | rfl <;> cases x <;> first | exact absurd (hx rfl) (by decide) | (show _ = _; kernel_rfl)
        · intro x k hk
          have h5 : k = 0 ∨ k = 1 := by omega
          rcases h5 with rfl | rfl <;> cases x <;> rfl
        · intro k hk
          have h5 : k = 0 ∨ k = 1 ∨ k = 2 := by omega
          rcases h5 with rfl | rfl | rfl <;> rfl
        · intro x k hk
          have h5 : k = 0 ∨ k = 1 := by omega
          rcases h5 with rfl | rfl
          · refine ⟨_, rfl, ?_⟩
            intro aa W hI K' hK
            obtain ⟨vb, e1, e2, b2, rfl, hS, hv, k1, k2⟩ := hI
            have HV : Hid (x = true → vb = .pointer (some ⟨b2, 0, none⟩) ∧ CB W b2 #[.int .i64 0, .slice none 0 0, .int .i64 0] 56 ∧ b1 < b2) := hv
            clear hv k1 k2
            rw [hA]
            simp only [Act.put, List.setIfInBounds_toArray, List.set_cons_zero, List.set_cons_succ]
            go_simp
            go_wp2_with fail
            refine (cross_rf _ _ _ _ (X1) ((X1 * X1 + Y1 * Y1)) (X2) ((X2 * X2 + Y2 * Y2)) _ hS.2.2.2.2.2.2.2.2.2.2.2.2.2.2.2.2.2.2.2.2.2.2.2.2.2.2.2.1.rx.2.2.1 hS.2.2.2.2.2.2.2.2.2.2.2.2.2.2.2.2.2.2.2.2.2.2.2.2.2.2.2.1.rz1 hS.2.2.2.2.2.2.2.2.2.2.2.2.2.2.2.2.2.2.2.2.2.2.2.2.2.2.2.1.rx.2.2.2 hS.2.2.2.2.2.2.2.2.2.2.2.2.2.2.2.2.2.2.2.2.2.2.2.2.2.2.2.1.rz2 (HBD.out.1.2.1.mono (by omega) (by omega)) (((HBD.out.1.2.1.mul HBD.out.1.2.1).add (HBD.out.2.2.1.mul HBD.out.2.2.1)).mono (by omega) (by omega)) (HBD.out.1.2.2.mono (by omega) (by omega)) (((HBD.out.1.2.2.mul HBD.out.1.2.2).add (HBD.out.2.2.2.mul HBD.out.2.2.2)).mono (by omega) (by omega))).mono ?_
            rintro e wx ⟨vn, rfl, hrn, hb⟩
            have hS2 : wx.cell? ⟨gy, 0, none⟩ = some (.int .i64 y0.S) ∧ wx.cell? ⟨gy, 1, none⟩ = some (.slice y0.a y0.n y0.c) ∧ wx.cell? ⟨gy, 2, none⟩ = some (.int .i64 y0.E) ∧ wx.cell? ⟨gy, 3, none⟩ = some (.int .i64 y1.S) ∧ wx.cell? ⟨gy, 4, none⟩ = some (.slice y1.a y1.n y1.c) ∧ wx.cell? ⟨gy, 5, none⟩ = some (.int .i64 y1.E) ∧ wx.cell? ⟨gy, 6, none⟩ = some (.int .i64 y2.S) ∧ wx.cell? ⟨gy, 7, none⟩ = some (.slice y2.a y2.n y2.c) ∧ wx.cell? ⟨gy, 8, none⟩ = some (.int .i64 y2.E) ∧ wx.cell? ⟨gz, 0, none⟩ = some (.int .i64 z0.S) ∧ wx.cell? ⟨gz, 1, none⟩ = some (.slice z0.a z0.n z0.c) ∧ wx.cell? ⟨gz, 2, none⟩ = some (.int .i64 z0.E) ∧ wx.cell? ⟨gz, 3, none⟩ = some (.int .i64 z1.S) ∧ wx.cell? ⟨gz, 4, none⟩ = some (.slice z1.a z1.n z1.c) ∧ wx.cell? ⟨gz, 5, none⟩ = some (.int .i64 z1.E) ∧ wx.cell? ⟨gz, 6, none⟩ = some (.int .i64 z2.S) ∧ wx.cell? ⟨gz, 7, none⟩ = some (.slice z2.a z2.n z2.c) ∧ wx.cell? ⟨gz, 8, none⟩ = some (.int .i64 z2.E) ∧ wx.cell? ⟨gx, 0, none⟩ = some (.int .i64 x0.S) ∧ wx.cell? ⟨gx, 1, none⟩ = some (.slice x0.a x0.n x0.c) ∧ wx.cell? ⟨gx, 2, none⟩ = some (.int .i64 x0.E) ∧ wx.cell? ⟨gx, 3, none⟩ = some (.int .i64 x1.S) ∧ wx.cell? ⟨gx, 4, none⟩ = some (.slice x1.a x1.n x1.c) ∧ wx.cell? ⟨gx, 5, none⟩ = some (.int .i64 x1.E) ∧ wx.cell? ⟨gx, 6, none⟩ = some (.int .i64 x2.S) ∧ wx.cell? ⟨gx, 7, none⟩ = some (.slice x2.a x2.n x2.c) ∧ wx.cell? ⟨gx, 8, none⟩ = some (.int .i64 x2.E) ∧ SF2 w wx ax ay bx by' cx cy dx dy gx gy gz x0 x1 x2 y0 y1 y2 z0 z1 z2 X0 X1 X2 Y0 Y1 Y2 b1 (.agg #[.int .i64 Sp, .slice ap np cp, .int .i64 Ep]) (X0 * (Y1 * (X2 * X2 + Y2 * Y2) - Y2 * (X1 * X1 + Y1 * Y1))) := ⟨box_cell hb hS.1, box_cell hb hS.2.1, box_cell hb hS.2.2.1, box_cell hb hS.2.2.2.1, box_cell hb hS.2.2.2.2.1, box_cell hb hS.2.2.2.2.2.1, box_cell hb hS.2.2.2.2.2.2.1, box_cell hb hS.2.2.2.2.2.2.2.1, box_cell hb hS.2.2.2.2.2.2.2.2.1, box_cell hb hS.2.2.2.2.2.2.2.2.2.1, box_cell hb hS.2.2.2.2.2.2.2.2.2.2.1, box_cell hb hS.2.2.2.2.2.2.2.2.2.2.2.1, box_cell hb hS.2.2.2.2.2.2.2.2.2.2.2.2.1, box_cell hb hS.2.2.2.2.2.2.2.2.2.2.2.2.2.1, box_cell hb hS.2.2.2.2.2.2.2.2.2.2.2.2.2.2.1, box_cell hb hS.2.2.2.2.2.2.2.2.2.2.2.2.2.2.2.1, box_cell hb hS.2.2.2.2.2.2.2.2.2.2.2.2.2.2.2.2.1, box_cell hb hS.2.2.2.2.2.2.2.2.2.2.2.2.2.2.2.2.2.1, box_cell hb hS.2.2.2.2.2.2.2.2.2.2.2.2.2.2.2.2.2.2.1, box_cell hb hS.2.2.2.2.2.2.2.2.2.2.2.2.2.2.2.2.2.2.2.1, box_cell hb hS.2.2.2.2.2.2.2.2.2.2.2.2.2.2.2.2.2.2.2.2.1, box_cell hb hS.2.2.2.2.2.2.2.2.2.2.2.2.2.2.2.2.2.2.2.2.2.1, box_cell hb hS.2.2.2.2.2.2.2.2.2.2.2.2.2.2.2.2.2.2.2.2.2.2.1, box_cell hb hS.2.2.2.2.2.2.2.2.2.2.2.2.2.2.2.2.2.2.2.2.2.2.2.1, box_cell hb hS.2.2.2.2.2.2.2.2.2.2.2.2.2.2.2.2.2.2.2.2.2.2.2.2.1, box_cell hb hS.2.2.2.2.2.2.2.2.2.2.2.2.2.2.2.2.2.2.2.2.2.2.2.2.2.1, box_cell hb hS.2.2.2.2.2.2.2.2.2.2.2.2.2.2.2.2.2.2.2.2.2.2.2.2.2.2.1, hS.2.2.2.2.2.2.2.2.2.2.2.2.2.2.2.2.2.2.2.2.2.2.2.2.2.2.2.later hb⟩
            go_wp2_with fail
            exact hK.out _ _ hS2 ⟨vb, vn, e2, b2, by rw [hA]; rfl, hS2, fun h => ⟨(HV.out h).1, (HV.out h).2.1.later hb, (HV.out h).2.2⟩, fun _ => hrn, fun h => by omega⟩
          · refine ⟨_, rfl, ?_⟩
            intro aa W hI K' hK
            obtain ⟨vb, e1, e2, b2, rfl, hS, hv, k1, k2⟩ := hI
            have r1 := k1 (by omega)
            have HV : Hid (x = true → vb = .pointer (some ⟨b2, 0, none⟩) ∧ CB W b2 #[.int .i64 0, .slice none 0 0, .int .i64 0] 56 ∧ b1 < b2) := hv
            clear hv k1 k2
            rw [hA]
            simp only [Act.put, List.setIfInBounds_toArray, List.set_cons_zero, List.set_cons_succ]
            go_simp
            go_wp2_with fail
            refine (mul_rf _ e1 (Y0) (X1 * (X2 * X2 + Y2 * Y2) - X2 * (X1 * X1 + Y1 * Y1)) _ hS.2.2.2.2.2.2.2.2.2.2.2.2.2.2.2.2.2.2.2.2.2.2.2.2.2.2.2.1.ry.2.1 r1 (HBD.out.2.1.mono (by omega) (by omega)) ((((HBD.out.1.2.1.mul ((HBD.out.1.2.2.mul HBD.out.1.2.2).add (HBD.out.2.2.2.mul HBD.out.2.2.2))).mono (h' := 6000) (l' := -6000) (by omega) (by omega)).sub ((HBD.out.1.2.2.mul ((HBD.out.1.2.1.mul HBD.out.1.2.1).add (HBD.out.2.2.1.mul HBD.out.2.2.1))).mono (h' := 6000) (l' := -6000) (by omega) (by omega))).mono (by omega) (by omega))).mono ?_
            rintro e wx ⟨vn, rfl, hrn, hb⟩
            have hS2 : wx.cell? ⟨gy, 0, none⟩ = some (.int .i64 y0.S) ∧ wx.cell? ⟨gy, 1, none⟩ = some (.slice y0.a y0.n y0.c) ∧ wx.cell? ⟨gy, 2, none⟩ = some (.int .i64 y0.E) ∧ wx.cell? ⟨gy, 3, none⟩ = some (.int .i64 y1.S) ∧ wx.cell? ⟨gy, 4, none⟩ = some (.slice y1.a y1.n y1.c) ∧ wx.cell? ⟨gy, 5, none⟩ = some (.int .i64 y1.E) ∧ wx.cell? ⟨gy, 6, none⟩ = some (.int .i64 y2.S) ∧ wx.cell? ⟨gy, 7, none⟩ = some (.slice y2.a y2.n y2.c) ∧ wx.cell? ⟨gy, 8, none⟩ = some (.int .i64 y2.E) ∧ wx.cell? ⟨gz, 0, none⟩ = some (.int .i64 z0.S) ∧ wx.cell? ⟨gz, 1, none⟩ = some (.slice z0.a z0.n z0.c) ∧ wx.cell? ⟨gz, 2, none⟩ = some (.int .i64 z0.E) ∧ wx.cell? ⟨gz, 3, none⟩ = some (.int .i64 z1.S) ∧ wx.cell? ⟨gz, 4, none⟩ = some (.slice z1.a z1.n z1.c) ∧ wx.cell? ⟨gz, 5, none⟩ = some (.int .i64 z1.E) ∧ wx.cell? ⟨gz, 6, none⟩ = some (.int .i64 z2.S) ∧ wx.cell? ⟨gz, 7, none⟩ = some (.slice z2.a z2.n z2.c) ∧ wx.cell? ⟨gz, 8, none⟩ = some (.int .i64 z2.E) ∧ wx.cell? ⟨gx, 0, none⟩ = some (.int .i64 x0.S) ∧ wx.cell? ⟨gx, 1, none⟩ = some (.slice x0.a x0.n x0.c) ∧ wx.cell? ⟨gx, 2, none⟩ = some (.int .i64 x0.E) ∧ wx.cell? ⟨gx, 3, none⟩ = some (.int .i64 x1.S) ∧ wx.cell? ⟨gx, 4, none⟩ = some (.slice x1.a x1.n x1.c) ∧ wx.cell? ⟨gx, 5, none⟩ = some (.int .i64 x1.E) ∧ wx.cell? ⟨gx, 6, none⟩ = some (.int .i64 x2.S) ∧ wx.cell? ⟨gx, 7, none⟩ = some (.slice x2.a x2.n x2.c) ∧ wx.cell? ⟨gx, 8, none⟩ = some (.int .i64 x2.E) ∧ SF2 w wx ax ay bx by' cx cy dx dy gx gy gz x0 x1 x2 y0 y1 y2 z0 z1 z2 X0 X1 X2 Y0 Y1 Y2 b1 (.agg #[.int .i64 Sp, .slice ap np cp, .int .i64 Ep]) (X0 * (Y1 * (X2 * X2 + Y2 * Y2) - Y2 * (X1 * X1 + Y1 * Y1))) := ⟨box_cell hb hS.1, box_cell hb hS.2.1, box_cell hb hS.2.2.1, box_cell hb hS.2.2.2.1, box_cell hb hS.2.2.2.2.1, box_cell hb hS.2.2.2.2.2.1, box_cell hb hS.2.2.2.2.2.2.1, box_cell hb hS.2.2.2.2.2.2.2.1, box_cell hb hS.2.2.2.2.2.2.2.2.1, box_cell hb hS.2.2.2.2.2.2.2.2.2.1, box_cell hb hS.2.2.2.2.2.2.2.2.2.2.1, box_cell hb hS.2.2.2.2.2.2.2.2.2.2.2.1, box_cell hb hS.2.2.2.2.2.2.2.2.2.2.2.2.1, box_cell hb hS.2.2.2.2.2.2.2.2.2.2.2.2.2.1, box_cell hb hS.2.2.2.2.2.2.2.2.2.2.2.2.2.2.1, box_cell hb hS.2.2.2.2.2.2.2.2.2.2.2.2.2.2.2.1, box_cell hb hS.2.2.2.2.2.2.2.2.2.2.2.2.2.2.2.2.1, box_cell hb hS.2.2.2.2.2.2.2.2.2.2.2.2.2.2.2.2.2.1, box_cell hb hS.2.2.2.2.2.2.2.2.2.2.2.2.2.2.2.2.2.2.1, box_cell hb hS.2.2.2.2.2.2.2.2.2.2.2.2.2.2.2.2.2.2.2.1, box_cell hb hS.2.2.2.2.2.2.2.2.2.2.2.2.2.2.2.2.2.2.2.2.1, box_cell hb hS.2.2.2.2.2.2.2.2.2.2.2.2.2.2.2.2.2.2.2.2.2.1, box_cell hb hS.2.2.2.2.2.2.2.2.2.2.2.2.2.2.2.2.2.2.2.2.2.2.1, box_cell hb hS.2.2.2.2.2.2.2.2.2.2.2.2.2.2.2.2.2.2.2.2.2.2.2.1, box_cell hb hS.2.2.2.2.2.2.2.2.2.2.2.2.2.2.2.2.2.2.2.2.2.2.2.2.1, box_cell hb hS.2.2.2.2.2.2.2.2.2.2.2.2.2.2.2.2.2.2.2.2.2.2.2.2.2.1, box_cell hb hS.2.2.2.2.2.2.2.2.2.2.2.2.2.2.2.2.2.2.2.2.2.2.2.2.2.2.1, hS.2.2.2.2.2.2.2.2.2.2.2.2.2.2.2.2.2.2.2.2.2.2.2.2.2.2.2.later hb⟩
            go_wp2_with fail
            exact hK.out _ _ hS2 ⟨vb, e1, vn, b2, by rw [hA]; rfl, hS2, fun h => ⟨(HV.out h).1, (HV.out h).2.1.later hb, (HV.out h).2.2⟩, fun _ => r1.later hb, fun _ => hrn⟩
        · intro k hk
          refine ⟨_, rfl, ?_⟩
          intro aa W hI K' hK
          obtain ⟨vb, e1, e2, b2, rfl, hS, hv, k1, k2⟩ := hI
          have HK : Hid ((1 ≤ k → Rf W e1 (X1 * (X2 * X2 + Y2 * Y2) - X2 * (X1 * X1 + Y1 * Y1))) ∧ (2 ≤ k → Rf W e2 (Y0 * (X1 * (X2 * X2 + Y2 * Y2) - X2 * (X1 * X1 + Y1 * Y1))))) := ⟨k1, k2⟩
          clear hv k1 k2
          have hb : Below W.heap.size W (W.alloc (.cells #[.int .i64 0, .slice none 0 0, .int .i64 0] 56)) := (Below.refl _ W).alloc (Nat.le_refl _) _
          have hlt2 : b1 < W.heap.size := hS.2.2.2.2.2.2.2.2.2.2.2.2.2.2.2.2.2.2.2.2.2.2.2.2.2.2.2.lt
          have hS2 : (fun W => W.cell? ⟨gy, 0, none⟩ = some (.int .i64 y0.S) ∧ W.cell? ⟨gy, 1, none⟩ = some (.slice y0.a y0.n y0.c) ∧ W.cell? ⟨gy, 2, none⟩ = some (.int .i64 y0.E) ∧ W.cell? ⟨gy, 3, none⟩ = some (.int .i64 y1.S) ∧ W.cell? ⟨gy, 4, none⟩ = some (.slice y1.a y1.n y1.c) ∧ W.cell? ⟨gy, 5, none⟩ = some (.int .i64 y1.E) ∧ W.cell? ⟨gy, 6, none⟩ = some (.int .i64 y2.S) ∧ W.cell? ⟨gy, 7, none⟩ = some (.slice y2.a y2.n y2.c) ∧ W.cell? ⟨gy, 8, none⟩ = some (.int .i64 y2.E) ∧ W.cell? ⟨gz, 0, none⟩ = some (.int .i64 z0.S) ∧ W.cell? ⟨gz, 1, none⟩ = some (.slice z0.a z0.n z0.c) ∧ W.cell? ⟨gz, 2, none⟩ = some (.int .i64 z0.E) ∧ W.cell? ⟨gz, 3, none⟩ = some (.int .i64 z1.S) ∧ W.cell? ⟨gz, 4, none⟩ = some (.slice z1.a z1.n z1.c) ∧ W.cell? ⟨gz, 5, none⟩ = some (.int .i64 z1.E) ∧ W.cell? ⟨gz, 6, none⟩ = some (.int .i64 z2.S) ∧ W.cell? ⟨gz, 7, none⟩ = some (.slice z2.a z2.n z2.c) ∧ W.cell? ⟨gz, 8, none⟩ = some (.int .i64 z2.E) ∧ W.cell? ⟨gx, 0, none⟩ = some (.int .i64 x0.S) ∧ W.cell? ⟨gx, 1, none⟩ = some (.slice x0.a x0.n x0.c) ∧ W.cell? ⟨gx, 2, none⟩ = some (.int .i64 x0.E) ∧ W.cell? ⟨gx, 3, none⟩ = some (.int .i64 x1.S) ∧ W.cell? ⟨gx, 4, none⟩ = some (.slice x1.a x1.n x1.c) ∧ W.cell? ⟨gx, 5, none⟩ = some (.int .i64 x1.E) ∧ W.cell? ⟨gx, 6, none⟩ = some (.int .i64 x2.S) ∧ W.cell? ⟨gx, 7, none⟩ = some (.slice x2.a x2.n x2.c) ∧ W.cell? ⟨gx, 8, none⟩ = some (.int .i64 x2.E) ∧ SF2 w W ax ay bx by' cx cy dx dy gx gy gz x0 x1 x2 y0 y1 y2 z0 z1 z2 X0 X1 X2 Y0 Y1 Y2 b1 (.agg #[.int .i64 Sp, .slice ap np cp, .int .i64 Ep]) (X0 * (Y1 * (X2 * X2 + Y2 * Y2) - Y2 * (X1 * X1 + Y1 * Y1)))) (W.alloc (.cells #[.int .i64 0, .slice none 0 0, .int .i64 0] 56)) := ⟨box_cell hb hS.1, box_cell hb hS.2.1, box_cell hb hS.2.2.1, box_cell hb hS.2.2.2.1, box_cell hb hS.2.2.2.2.1, box_cell hb hS.2.2.2.2.2.1, box_cell hb hS.2.2.2.2.2.2.1, box_cell hb hS.2.2.2.2.2.2.2.1, box_cell hb hS.2.2.2.2.2.2.2.2.1, box_cell hb hS.2.2.2.2.2.2.2.2.2.1, box_cell hb hS.2.2.2.2.2.2.2.2.2.2.1, box_cell hb hS.2.2.2.2.2.2.2.2.2.2.2.1, box_cell hb hS.2.2.2.2.2.2.2.2.2.2.2.2.1, box_cell hb hS.2.2.2.2.2.2.2.2.2.2.2.2.2.1, box_cell hb hS.2.2.2.2.2.2.2.2.2.2.2.2.2.2.1, box_cell hb hS.2.2.2.2.2.2.2.2.2.2.2.2.2.2.2.1, box_cell hb hS.2.2.2.2.2.2.2.2.2.2.2.2.2.2.2.2.1, box_cell hb hS.2.2.2.2.2.2.2.2.2.2.2.2.2.2.2.2.2.1, box_cell hb hS.2.2.2.2.2.2.2.2.2.2.2.2.2.2.2.2.2.2.1, box_cell hb hS.2.2.2.2.2.2.2.2.2.2.2.2.2.2.2.2.2.2.2.1, box_cell hb hS.2.2.2.2.2.2.2.2.2.2.2.2.2.2.2.2.2.2.2.2.1, box_cell hb hS.2.2.2.2.2.2.2.2.2.2.2.2.2.2.2.2.2.2.2.2.2.1, box_cell hb hS.2.2.2.2.2.2.2.2.2.2.2.2.2.2.2.2.2.2.2.2.2.2.1, box_cell hb hS.2.2.2.2.2.2.2.2.2.2.2.2.2.2.2.2.2.2.2.2.2.2.2.1, box_cell hb hS.2.2.2.2.2.2.2.2.2.2.2.2.2.2.2.2.2.2.2.2.2.2.2.2.1, box_cell hb hS.2.2.2.2.2.2.2.2.2.2.2.2.2.2.2.2.2.2.2.2.2.2.2.2.2.1, box_cell hb hS.2.2.2.2.2.2.2.2.2.2.2.2.2.2.2.2.2.2.2.2.2.2.2.2.2.2.1, hS.2.2.2.2.2.2.2.2.2.2.2.2.2.2.2.2.2.2.2.2.2.2.2.2.2.2.2.later hb⟩
          rw [hA]
          simp only [Act.put, List.setIfInBounds_toArray, List.set_cons_zero, List.set_cons_succ]
          go_simp
          go_wp2_with fail
          exact hK.out _ _ hS2 ⟨_, e1, e2, W.heap.size, by rw [hA]; rfl, hS2, fun _ => ⟨rfl, CB.new W _ _, hlt2⟩, fun h => (HK.out.1 h).later hb, fun h => (HK.out.2 h).later hb⟩
        · intro aa W hI
          obtain ⟨vb, e1, e2, b2, rfl, hS, hv, k1, k2⟩ := hI
          obtain ⟨rfl, hc, hl⟩ := hv rfl
          have hR := k2 (by omega)
          clear hv k1 k2
          obtain ⟨Sr, ar, nr, cr, Er, rfl⟩ := hR.agg
          subst hA
          simp only [Act.put, List.setIfInBounds_toArray, List.set_cons_zero, List.set_cons_succ]
          have hlow := HLZ.out
          have hlow2 := hS.2.2.2.2.2.2.2.2.2.2.2.2.2.2.2.2.2.2.2.2.2.2.2.2.2.2.2.2.2.2
          have hO : OtherRow W b2 := ⟨_, _, _, hc, by decide⟩
          have hm := moved3 W b2 (.int .i64 Sr) (.slice ar nr cr) (.int .i64 Er)
          have hmb := mb3 W b2 (.int .i64 Sr) (.slice ar nr cr) (.int .i64 Er)
          have hS2 : (fun W => W.cell? ⟨gy, 0, none⟩ = some (.int .i64 y0.S) ∧ W.cell? ⟨gy, 1, none⟩ = some (.slice y0.a y0.n y0.c) ∧ W.cell? ⟨gy, 2, none⟩ = some (.int .i64 y0.E) ∧ W.cell? ⟨gy, 3, none⟩ = some (.int .i64 y1.S) ∧ W.cell? ⟨gy, 4, none⟩ = some (.slice y1.a y1.n y1.c) ∧ W.cell? ⟨gy, 5, none⟩ = some (.int .i64 y1.E) ∧ W.cell? ⟨gy, 6, none⟩ = some (.int .i64 y2.S) ∧ W.cell? ⟨gy, 7, none⟩ = some (.slice y2.a y2.n y2.c) ∧ W.cell? ⟨gy, 8, none⟩ = some (.int .i64 y2.E) ∧ W.cell? ⟨gz, 0, none⟩ = some (.int .i64 z0.S) ∧ W.cell? ⟨gz, 1, none⟩ = some (.slice z0.a z0.n z0.c) ∧ W.cell? ⟨gz, 2, none⟩ = some (.int .i64 z0.E) ∧ W.cell? ⟨gz, 3, none⟩ = some (.int .i64 z1.S) ∧ W.cell? ⟨gz, 4, none⟩ = some (.slice z1.a z1.n z1.c) ∧ W.cell? ⟨gz, 5, none⟩ = some (.int .i64 z1.E) ∧ W.cell? ⟨gz, 6, none⟩ = some (.int .i64 z2.S) ∧ W.cell? ⟨gz, 7, none⟩ = some (.slice z2.a z2.n z2.c) ∧ W.cell? ⟨gz, 8, none⟩ = some (.int .i64 z2.E) ∧ W.cell? ⟨gx, 0, none⟩ = some (.int .i64 x0.S) ∧ W.cell? ⟨gx, 1, none⟩ = some (.slice x0.a x0.n x0.c) ∧ W.cell? ⟨gx, 2, none⟩ = some (.int .i64 x0.E) ∧ W.cell? ⟨gx, 3, none⟩ = some (.int .i64 x1.S) ∧ W.cell? ⟨gx, 4, none⟩ = some (.slice x1.a x1.n x1.c) ∧ W.cell? ⟨gx, 5, none⟩ = some (.int .i64 x1.E) ∧ W.cell? ⟨gx, 6, none⟩ = some (.int .i64 x2.S) ∧ W.cell? ⟨gx, 7, none⟩ = some (.slice x2.a x2.n x2.c) ∧ W.cell? ⟨gx, 8, none⟩ = some (.int .i64 x2.E) ∧ SF2 w W ax ay bx by' cx cy dx dy gx gy gz x0 x1 x2 y0 y1 y2 z0 z1 z2 X0 X1 X2 Y0 Y1 Y2 b1 (.agg #[.int .i64 Sp, .slice ap np cp, .int .i64 Ep]) (X0 * (Y1 * (X2 * X2 + Y2 * Y2) - Y2 * (X1 * X1 + Y1 * Y1)))) (((W.setCell ⟨b2, 0, none⟩ (.int .i64 Sr)).setCell ⟨b2, 1, none⟩ (.slice ar nr cr)).setCell ⟨b2, 2, none⟩ (.int .i64 Er)) := ⟨hm.cell _ _ _ (by omega) hS.1, hm.cell _ _ _ (by omega) hS.2.1, hm.cell _ _ _ (by omega) hS.2.2.1, hm.cell _ _ _ (by omega) hS.2.2.2.1, hm.cell _ _ _ (by omega) hS.2.2.2.2.1, hm.cell _ _ _ (by omega) hS.2.2.2.2.2.1, hm.cell _ _ _ (by omega) hS.2.2.2.2.2.2.1, hm.cell _ _ _ (by omega) hS.2.2.2.2.2.2.2.1, hm.cell _ _ _ (by omega) hS.2.2.2.2.2.2.2.2.1, hm.cell _ _ _ (by omega) hS.2.2.2.2.2.2.2.2.2.1, hm.cell _ _ _ (by omega) hS.2.2.2.2.2.2.2.2.2.2.1, hm.cell _ _ _ (by omega) hS.2.2.2.2.2.2.2.2.2.2.2.1, hm.cell _ _ _ (by omega) hS.2.2.2.2.2.2.2.2.2.2.2.2.1, hm.cell _ _ _ (by omega) hS.2.2.2.2.2.2.2.2.2.2.2.2.2.1, hm.cell _ _ _ (by omega) hS.2.2.2.2.2.2.2.2.2.2.2.2.2.2.1, hm.cell _ _ _ (by omega) hS.2.2.2.2.2.2.2.2.2.2.2.2.2.2.2.1, hm.cell _ _ _ (by omega) hS.2.2.2.2.2.2.2.2.2.2.2.2.2.2.2.2.1, hm.cell _ _ _ (by omega) hS.2.2.2.2.2.2.2.2.2.2.2.2.2.2.2.2.2.1, hm.cell _ _ _ (by omega) hS.2.2.2.2.2.2.2.2.2.2.2.2.2.2.2.2.2.2.1, hm.cell _ _ _ (by omega) hS.2.2.2.2.2.2.2.2.2.2.2.2.2.2.2.2.2.2.2.1, hm.cell _ _ _ (by omega) hS.2.2.2.2.2.2.2.2.2.2.2.2.2.2.2.2.2.2.2.2.1, hm.cell _ _ _ (by omega) hS.2.2.2.2.2.2.2.2.2.2.2.2.2.2.2.2.2.2.2.2.2.1, hm.cell _ _ _ (by omega) hS.2.2.2.2.2.2.2.2.2.2.2.2.2.2.2.2.2.2.2.2.2.2.1, hm.cell _ _ _ (by omega) hS.2.2.2.2.2.2.2.2.2.2.2.2.2.2.2.2.2.2.2.2.2.2.2.1, hm.cell _ _ _ (by omega) hS.2.2.2.2.2.2.2.2.2.2.2.2.2.2.2.2.2.2.2.2.2.2.2.2.1, hm.cell _ _ _ (by omega) hS.2.2.2.2.2.2.2.2.2.2.2.2.2.2.2.2.2.2.2.2.2.2.2.2.2.1, hm.cell _ _ _ (by omega) hS.2.2.2.2.2.2.2.2.2.2.2.2.2.2.2.2.2.2.2.2.2.2.2.2.2.2.1, hS.2.2.2.2.2.2.2.2.2.2.2.2.2.2.2.2.2.2.2.2.2.2.2.2.2.2.2.boxed' hO hm hmb (by omega) (by omega) (by omega) hl⟩
          have hc2 := hc.set3 (.int .i64 Sr) (.slice ar nr cr) (.int .i64 Er)
          have hR2 := hR.boxed hO (.int .i64 Sr) (.slice ar nr cr) (.int .i64 Er)
          have f0 := hc.frozen 0
          have f1 := hc.frozen 1
          have f2 := hc.frozen 2
          obtain ⟨g0, g1, g2⟩ := hc.cells3
          refine call_at 18 (by kernel_rfl) (by kernel_rfl) ?_
          intro o ho
          simp only [List.getElem?_toArray, List.getElem?_cons_succ, List.getElem?_cons_zero, Option.some.injEq] at ho
          subst ho
          intro KF hK
          go_simp
          go_wp2_with fail
          refine hK.out _ _ hS2 ?_
          intro _
          clear hK KF f0 f1 f2 g0 g1 g2 hS hO hm hmb hc hR
          try simp only [List.setIfInBounds_toArray, List.set_cons_zero, List.set_cons_succ]
          refine wpAnyH_done (by kernel_rfl) ?_ _
          generalize ((W.setCell ⟨b2, 0, none⟩ (.int .i64 Sr)).setCell ⟨b2, 1, none⟩ (.slice ar nr cr)).setCell ⟨b2, 2, none⟩ (.int .i64 Er) = WL at *
          have HF3 : Hid (SF3 w WL ax ay bx by' cx cy dx dy gx gy gz x0 x1 x2 y0 y1 y2 z0 z1 z2 X0 X1 X2 Y0 Y1 Y2 b1 b2 (.agg #[.int .i64 Sp, .slice ap np cp, .int .i64 Ep]) (.agg #[.int .i64 Sr, .slice ar nr cr, .int .i64 Er]) (X0 * (Y1 * (X2 * X2 + Y2 * Y2) - Y2 * (X1 * X1 + Y1 * Y1))) (Y0 * (X1 * (X2 * X2 + Y2 * Y2) - X2 * (X1 * X1 + Y1 * Y1)))) := ⟨hS2.2.2.2.2.2.2.2.2.2.2.2.2.2.2.2.2.2.2.2.2.2.2.2.2.2.2.2, ⟨_, _, _, _, _, rfl, hc2⟩, hR2, hl⟩
          clear hS2 hc2 hR2 hl HF2
          go_wp2_with fail
          refine wp_region_held_drew (S := (fun W => W.cell? ⟨gz, 0, none⟩ = some (.int .i64 z0.S) ∧ W.cell? ⟨gz, 1, none⟩ = some (.slice z0.a z0.n z0.c) ∧ W.cell? ⟨gz, 2, none⟩ = some (.int .i64 z0.E) ∧ W.cell? ⟨gz, 3, none⟩ = some (.int .i64 z1.S) ∧ W.cell? ⟨gz, 4, none⟩ = some (.slice z1.a z1.n z1.c) ∧ W.cell? ⟨gz, 5, none⟩ = some (.int .i64 z1.E) ∧ W.cell? ⟨gz, 6, none⟩ = some (.int .i64 z2.S) ∧ W.cell? ⟨gz, 7, none⟩ = some (.slice z2.a z2.n z2.c) ∧ W.cell? ⟨gz, 8, none⟩ = some (.int .i64 z2.E) ∧ W.cell? ⟨gy, 0, none⟩ = some (.int .i64 y0.S) ∧ W.cell? ⟨gy, 1, none⟩ = some (.slice y0.a y0.n y0.c) ∧ W.cell? ⟨gy, 2, none⟩ = some (.int .i64 y0.E) ∧ W.cell? ⟨gy, 3, none⟩ = some (.int .i64 y1.S) ∧ W.cell? ⟨gy, 4, none⟩ = some (.slice y1.a y1.n y1.c) ∧ W.cell? ⟨gy, 5, none⟩ = some (.int .i64 y1.E) ∧ W.cell? ⟨gy, 6, none⟩ = some (.int .i64 y2.S) ∧ W.cell? ⟨gy, 7, none⟩ = some (.slice y2.a y2.n y2.c) ∧ W.cell? ⟨gy, 8, none⟩ = some (.int .i64 y2.E) ∧ W.cell? ⟨gx, 0, none⟩ = some (.int .i64 x0.S) ∧ W.cell? ⟨gx, 1, none⟩ = some (.slice x0.a x0.n x0.c) ∧ W.cell? ⟨gx, 2, none⟩ = some (.int .i64 x0.E) ∧ W.cell? ⟨gx, 3, none⟩ = some (.int .i64 x1.S) ∧ W.cell? ⟨gx, 4, none⟩ = some (.slice x1.a x1.n x1.c) ∧ W.cell? ⟨gx, 5, none⟩ = some (.int .i64 x1.E) ∧ W.cell? ⟨gx, 6, none⟩ = some (.int .i64 x2.S) ∧ W.cell? ⟨gx, 7, none⟩ = some (.slice x2.a x2.n x2.c) ∧ W.cell? ⟨gx, 8, none⟩ = some (.int .i64 x2.E) ∧ SF3 w W ax ay bx by' cx cy dx dy gx gy gz x0 x1 x2 y0 y1 y2 z0 z1 z2 X0 X1 X2 Y0 Y1 Y2 b1 b2 (.agg #[.int .i64 Sp, .slice ap np cp, .int .i64 Ep]) (.agg #[.int .i64 Sr, .slice ar nr cr, .int .i64 Er]) (X0 * (Y1 * (X2 * X2 + Y2 * Y2) - Y2 * (X1 * X1 + Y1 * Y1))) (Y0 * (X1 * (X2 * X2 + Y2 * Y2) - X2 * (X1 * X1 + Y1 * Y1))))) (by kernel_rfl) ⟨HF3.out.1.1.zc.1, HF3.out.1.1.zc.2.1, HF3.out.1.1.zc.2.2.1, HF3.out.1.1.zc.2.2.2.1, HF3.out.1.1.zc.2.2.2.2.1, HF3.out.1.1.zc.2.2.2.2.2.1, HF3.out.1.1.zc.2.2.2.2.2.2.1, HF3.out.1.1.zc.2.2.2.2.2.2.2.1, HF3.out.1.1.zc.2.2.2.2.2.2.2.2, (HF3.out.1.1.ry.1.cells9).1, (HF3.out.1.1.ry.1.cells9).2.1, (HF3.out.1.1.ry.1.cells9).2.2.1, (HF3.out.1.1.ry.1.cells9).2.2.2.1, (HF3.out.1.1.ry.1.cells9).2.2.2.2.1, (HF3.out.1.1.ry.1.cells9).2.2.2.2.2.1, (HF3.out.1.1.ry.1.cells9).2.2.2.2.2.2.1, (HF3.out.1.1.ry.1.cells9).2.2.2.2.2.2.2.1, (HF3.out.1.1.ry.1.cells9).2.2.2.2.2.2.2.2, (HF3.out.1.1.rx.1.cells9).1, (HF3.out.1.1.rx.1.cells9).2.1, (HF3.out.1.1.rx.1.cells9).2.2.1, (HF3.out.1.1.rx.1.cells9).2.2.2.1, (HF3.out.1.1.rx.1.cells9).2.2.2.2.1, (HF3.out.1.1.rx.1.cells9).2.2.2.2.2.1, (HF3.out.1.1.rx.1.cells9).2.2.2.2.2.2.1, (HF3.out.1.1.rx.1.cells9).2.2.2.2.2.2.2.1, (HF3.out.1.1.rx.1.cells9).2.2.2.2.2.2.2.2, HF3.out.drew⟩ (fun hS => ?_)
          refine take_at (i := 0) (d := some 108) (v := .slice (some ⟨gz, 0, none⟩) 3 cz) (by kernel_rfl) (by kernel_rfl) (by kernel_rfl) (by kernel_rfl) (fun _ _ _ h => h) ?_ hS ?_
          · intro o ho
            simp only [List.getElem?_toArray, List.getElem?_cons_zero, Option.some.injEq] at ho
            subst ho
            refine Or.inl ⟨by rfl, ?_⟩
            intro w hSw
            (try dsimp only at hSw)
            go_simp
          simp only [Act.put, List.setIfInBounds_toArray, List.set_cons_zero, List.set_cons_succ]
          refine take_at (i := 1) (d := some 109) (v := .pointer (some ⟨gz, 0, none⟩)) (by kernel_rfl) (by kernel_rfl) (by kernel_rfl) (by kernel_rfl) (fun _ _ _ h => h) ?_ hS ?_
          · intro o ho
            simp only [List.getElem?_toArray, List.getElem?_cons_succ, List.getElem?_cons_zero, Option.some.injEq] at ho
            subst ho
            refine Or.inl ⟨by rfl, ?_⟩
            intro w hSw
            (try dsimp only at hSw)
            go_simp
          simp only [Act.put, List.setIfInBounds_toArray, List.set_cons_zero, List.set_cons_succ]
          refine take_at (i := 2) (d := some 110) (v := .agg #[.int .i64 z0.S, .slice z0.a z0.n z0.c, .int .i64 z0.E]) (by kernel_rfl) (by kernel_rfl) (by kernel_rfl) (by kernel_rfl) (fun _ _ _ h => h) ?_ hS ?_
          · intro o ho
            simp only [List.getElem?_toArray, List.getElem?_cons_succ, List.getElem?_cons_zero, Option.some.injEq] at ho
            subst ho
            refine Or.inl ⟨by rfl, ?_⟩
            intro w hSw
            (try dsimp only at hSw)
            go_simp
          simp only [Act.put, List.setIfInBounds_toArray, List.set_cons_zero, List.set_cons_succ]
          refine take_at (i := 3) (d := some 111) (v := .slice (some ⟨gx, 0, none⟩) 3 3) (by kernel_rfl) (by kernel_rfl) (by kernel_rfl) (by kernel_rfl) (fun _ _ _ h => h) ?_ hS ?_
          · intro o ho
            simp only [List.getElem?_toArray, List.getElem?_cons_succ, List.getElem?_cons_zero, Option.some.injEq] at ho
            subst ho
            refine Or.inl ⟨by rfl, ?_⟩
            intro w hSw
            (try dsimp only at hSw)
            go_simp
          simp only [Act.put, List.setIfInBounds_toArray, List.set_cons_zero, List.set_cons_succ]
          refine take_at (i := 4) (d := some 112) (v := .pointer (some ⟨gx, 3, none⟩)) (by kernel_rfl) (by kernel_rfl) (by kernel_rfl) (by kernel_rfl) (fun _ _ _ h => h) ?_ hS ?_
          · intro o ho
            simp only [List.getElem?_toArray, List.getElem?_cons_succ, List.getElem?_cons_zero, Option.some.injEq] at ho
            subst ho
            refine Or.inl ⟨by rfl, ?_⟩
            intro w hSw
            (try dsimp only at hSw)
            go_simp
          simp only [Act.put, List.setIfInBounds_toArray, List.set_cons_zero, List.set_cons_succ]
          refine take_at (i := 5) (d := some 113) (v := .agg #[.int .i64 x1.S, .slice x1.a x1.n x1.c, .int .i64 x1.E]) (by kernel_rfl) (by kernel_rfl) (by kernel_rfl) (by kernel_rfl) (fun _ _ _ h => h) ?_ hS ?_
          · intro o ho
            simp only [List.getElem?_toArray, List.getElem?_cons_succ, List.getElem?_cons_zero, Option.some.injEq] at ho
            subst ho
            refine Or.inl ⟨by rfl, ?_⟩
            intro w hSw
            (try dsimp only at hSw)
            go_simp
          simp only [Act.put, List.setIfInBounds_toArray, List.set_cons_zero, List.set_cons_succ]
          refine take_at (i := 6) (d := some 114) (v := .slice (some ⟨gy, 0, none⟩) 3 3) (by kernel_rfl) (by kernel_rfl) (by kernel_rfl) (by kernel_rfl) (fun _ _ _ h => h) ?_ hS ?_
          · intro o ho
            simp only [List.getElem?_toArray, List.getElem?_cons_succ, List.getElem?_cons_zero, Option.some.injEq] at ho
            subst ho
            refine Or.inl ⟨by rfl, ?_⟩
            intro w hSw
            (try dsimp only at hSw)
            go_simp
          simp only [Act.put, List.setIfInBounds_toArray, List.set_cons_zero, List.set_cons_succ]
          refine take_at (i := 7) (d := some 115) (v := .pointer (some ⟨gy, 3, none⟩)) (by kernel_rfl) (by kernel_rfl) (by kernel_rfl) (by kernel_rfl) (fun _ _ _ h => h) ?_ hS ?_
          · intro o ho
            simp only [List.getElem?_toArray, List.getElem?_cons_succ, List.getElem?_cons_zero, Option.some.injEq] at ho
            subst ho
            refine Or.inl ⟨by rfl, ?_⟩
            intro w hSw
            (try dsimp only at hSw)
            go_simp
          simp only [Act.put, List.setIfInBounds_toArray, List.set_cons_zero, List.set_cons_succ]
          refine take_at (i := 8) (d := some 116) (v := .agg #[.int .i64 y1.S, .slice y1.a y1.n y1.c, .int .i64 y1.E]) (by kernel_rfl) (by kernel_rfl) (by kernel_rfl) (by kernel_rfl) (fun _ _ _ h => h) ?_ hS ?_
          · intro o ho
            simp only [List.getElem?_toArray, List.getElem?_cons_succ, List.getElem?_cons_zero, Option.some.injEq] at ho
            subst ho
            refine Or.inl ⟨by rfl, ?_⟩
            intro w hSw
            (try dsimp only at hSw)
            go_simp
          simp only [Act.put, List.setIfInBounds_toArray, List.set_cons_zero, List.set_cons_succ]
          refine take_at (i := 9) (d := some 117) (v := .slice (some ⟨gx, 0, none⟩) 3 3) (by kernel_rfl) (by kernel_rfl) (by kernel_rfl) (by kernel_rfl) (fun _ _ _ h => h) ?_ hS ?_
          · intro o ho
            simp only [List.getElem?_toArray, List.getElem?_cons_succ, List.getElem?_cons_zero, Option.some.injEq] at ho
            subst ho
            refine Or.inl ⟨by rfl, ?_⟩
            intro w hSw
            (try dsimp only at hSw)
            go_simp
          simp only [Act.put, List.setIfInBounds_toArray, List.set_cons_zero, List.set_cons_succ]
          refine take_at (i := 10) (d := some 118) (v := .pointer (some ⟨gx, 6, none⟩)) (by kernel_rfl) (by kernel_rfl) (by kernel_rfl) (by kernel_rfl) (fun _ _ _ h => h) ?_ hS ?_
          · intro o ho
            simp only [List.getElem?_toArray, List.getElem?_cons_succ, List.getElem?_cons_zero, Option.some.injEq] at ho
            subst ho
            refine Or.inl ⟨by rfl, ?_⟩
            intro w hSw
            (try dsimp only at hSw)
            go_simp
          simp only [Act.put, List.setIfInBounds_toArray, List.set_cons_zero, List.set_cons_succ]
          refine take_at (i := 11) (d := some 119) (v := .agg #[.int .i64 x2.S, .slice x2.a x2.n x2.c, .int .i64 x2.E]) (by kernel_rfl) (by kernel_rfl) (by kernel_rfl) (by kernel_rfl) (fun _ _ _ h => h) ?_ hS ?_
          · intro o ho
            simp only [List.getElem?_toArray, List.getElem?_cons_succ, List.getElem?_cons_zero, Option.some.injEq] at ho
            subst ho
            refine Or.inl ⟨by rfl, ?_⟩
            intro w hSw
            (try dsimp only at hSw)
            go_simp
          simp only [Act.put, List.setIfInBounds_toArray, List.set_cons_zero, List.set_cons_succ]
          refine take_at (i := 12) (d := some 120) (v := .slice (some ⟨gy, 0, none⟩) 3 3) (by kernel_rfl) (by kernel_rfl) (by kernel_rfl) (by kernel_rfl) (fun _ _ _ h => h) ?_ hS ?_
          · intro o ho
            simp only [List.getElem?_toArray, List.getElem?_cons_succ, List.getElem?_cons_zero, Option.some.injEq] at ho
            subst ho
            refine Or.inl ⟨by rfl, ?_⟩
            intro w hSw
            (try dsimp only at hSw)
            go_simp
          simp only [Act.put, List.setIfInBounds_toArray, List.set_cons_zero, List.set_cons_succ]
          refine take_at (i := 13) (d := some 121) (v := .pointer (some ⟨gy, 6, none⟩)) (by kernel_rfl) (by kernel_rfl) (by kernel_rfl) (by kernel_rfl) (fun _ _ _ h => h) ?_ hS ?_
          · intro o ho
            simp only [List.getElem?_toArray, List.getElem?_cons_succ, List.getElem?_cons_zero, Option.some.injEq] at ho
            subst ho
            refine Or.inl ⟨by rfl, ?_⟩
            intro w hSw
            (try dsimp only at hSw)
            go_simp
          simp only [Act.put, List.setIfInBounds_toArray, List.set_cons_zero, List.set_cons_succ]
          refine take_at (i := 14) (d := some 122) (v := .agg #[.int .i64 y2.S, .slice y2.a y2.n y2.c, .int .i64 y2.E]) (by kernel_rfl) (by kernel_rfl) (by kernel_rfl) (by kernel_rfl) (fun _ _ _ h => h) ?_ hS ?_
          · intro o ho
            simp only [List.getElem?_toArray, List.getElem?_cons_succ, List.getElem?_cons_zero, Option.some.injEq] at ho
            subst ho
            refine Or.inl ⟨by rfl, ?_⟩
            intro w hSw
            (try dsimp only at hSw)
            go_simp
          simp only [Act.put, List.setIfInBounds_toArray, List.set_cons_zero, List.set_cons_succ]
          refine frame_named (fun A hA => ?_)
          refine draw1 (f := 1) (n := 2) (al := 17) (fun k => if k = 0 then 15 else 16) (fun (x : Bool) (k : Nat) => #[true, true, true, true, true, true, true, true, true, true, true, true, true, true, true, decide (1 ≤ k), decide (2 ≤ k), x, false]) (fun (x : Bool) (k : Nat) (aa : Act) (W : World) => ∃ (vb e1 e2 : Value) (b3 : Nat), aa = (((A.put (some 15) vb).put (some 123) e1).put (some 124) e2) ∧ (W.cell? ⟨gz, 0, none⟩ = some (.int .i64 z0.S) ∧ W.cell? ⟨gz, 1, none⟩ = some (.slice z0.a z0.n z0.c) ∧ W.cell? ⟨gz, 2, none⟩ = some (.int .i64 z0.E) ∧ W.cell? ⟨gz, 3, none⟩ = some (.int .i64 z1.S) ∧ W.cell? ⟨gz, 4, none⟩ = some (.slice z1.a z1.n z1.c) ∧ W.cell? ⟨gz, 5, none⟩ = some (.int .i64 z1.E) ∧ W.cell? ⟨gz, 6, none⟩ = some (.int .i64 z2.S) ∧ W.cell? ⟨gz, 7, none⟩ = some (.slice z2.a z2.n z2.c) ∧ W.cell? ⟨gz, 8, none⟩ = some (.int .i64 z2.E) ∧ W.cell? ⟨gy, 0, none⟩ = some (.int .i64 y0.S) ∧ W.cell? ⟨gy, 1, none⟩ = some (.slice y0.a y0.n y0.c) ∧ W.cell? ⟨gy, 2, none⟩ = some (.int .i64 y0.E) ∧ W.cell? ⟨gy, 3, none⟩ = some (.int .i64 y1.S) ∧ W.cell? ⟨gy, 4, none⟩ = some (.slice y1.a y1.n y1.c) ∧ W.cell? ⟨gy, 5, none⟩ = some (.int .i64 y1.E) ∧ W.cell? ⟨gy, 6, none⟩ = some (.int .i64 y2.S) ∧ W.cell? ⟨gy, 7, none⟩ = some (.slice y2.a y2.n y2.c) ∧ W.cell? ⟨gy, 8, none⟩ = some (.int .i64 y2.E) ∧ W.cell? ⟨gx, 0, none⟩ = some (.int .i64 x0.S) ∧ W.cell? ⟨gx, 1, none⟩ = some (.slice x0.a x0.n x0.c) ∧ W.cell? ⟨gx, 2, none⟩ = some (.int .i64 x0.E) ∧ W.cell? ⟨gx, 3, none⟩ = some (.int .i64 x1.S) ∧ W.cell? ⟨gx, 4, none⟩ = some (.slice x1.a x1.n x1.c) ∧ W.cell? ⟨gx, 5, none⟩ = some (.int .i64 x1.E) ∧ W.cell? ⟨gx, 6, none⟩ = some (.int .i64 x2.S) ∧ W.cell? ⟨gx, 7, none⟩ = some (.slice x2.a x2.n x2.c) ∧ W.cell? ⟨gx, 8, none⟩ = some (.int .i64 x2.E) ∧ SF3 w W ax ay bx by' cx cy dx dy gx gy gz x0 x1 x2 y0 y1 y2 z0 z1 z2 X0 X1 X2 Y0 Y1 Y2 b1 b2 (.agg #[.int .i64 Sp, .slice ap np cp, .int .i64 Ep]) (.agg #[.int .i64 Sr, .slice ar nr cr, .int .i64 Er]) (X0 * (Y1 * (X2 * X2 + Y2 * Y2) - Y2 * (X1 * X1 + Y1 * Y1))) (Y0 * (X1 * (X2 * X2 + Y2 * Y2) - X2 * (X1 * X1 + Y1 * Y1)))) ∧ (x = true → vb = .pointer (some ⟨b3, 0, none⟩) ∧ CB W b3 #[.int .i64 0, .slice none 0 0, .int .i64 0] 56 ∧ b2 < b3) ∧ (1 ≤ k → Rf W e1 (X1 * Y2 - X2 * Y1)) ∧ (2 ≤ k → Rf W e2 ((X0 * X0 + Y0 * Y0) * (X1 * Y2 - X2 * Y1)))) ?_ ?_ ?_ ?_ ?_ ?_ 3 false 0 _ _ (by omega) (by decide) ?_
          · intro x k hk hx
            have h5 : k = 0 ∨ k = 1 ∨ k = 2 := by omega
            rcases h5 with rfl | rfl | rfl <;> cases x <;> first | exact absurd (hx rfl) (by decide) | (show _ = _; kernel_rfl)
          · intro x k hk
            have h5 : k = 0 ∨ k = 1 := by omega
            rcases h5 with rfl | rfl <;> cases x <;> rfl
          · intro k hk
            have h5 : k = 0 ∨ k = 1 ∨ k = 2 := by omega
            rcases h5 with rfl | rfl | rfl <;> rfl
          · intro x k hk
            have h5 : k = 0 ∨ k = 1 := by omega
            rcases h5 with rfl | rfl
            · refine ⟨_, rfl, ?_⟩
              intro aa W hI K' hK
              obtain ⟨vb, e1, e2, b3, rfl, hS, hv, k1, k2⟩ := hI
              have HV : Hid (x = true → vb = .pointer (some ⟨b3, 0, none⟩) ∧ CB W b3 #[.int .i64 0, .slice none 0 0, .int .i64 0] 56 ∧ b2 < b3) := hv
              clear hv k1 k2
              rw [hA]
              simp only [Act.put, List.setIfInBounds_toArray, List.set_cons_zero, List.set_cons_succ]
              go_simp
              go_wp2_with fail
              refine (cross_rf _ _ _ _ (X1) (Y1) (X2) (Y2) _ hS.2.2.2.2.2.2.2.2.2.2.2.2.2.2.2.2.2.2.2.2.2.2.2.2.2.2.2.1.1.rx.2.2.1 hS.2.2.2.2.2.2.2.2.2.2.2.2.2.2.2.2.2.2.2.2.2.2.2.2.2.2.2.1.1.ry.2.2.1 hS.2.2.2.2.2.2.2.2.2.2.2.2.2.2.2.2.2.2.2.2.2.2.2.2.2.2.2.1.1.rx.2.2.2 hS.2.2.2.2.2.2.2.2.2.2.2.2.2.2.2.2.2.2.2.2.2.2.2.2.2.2.2.1.1.ry.2.2.2 (HBD.out.1.2.1.mono (by omega) (by omega)) (HBD.out.2.2.1.mono (by omega) (by omega)) (HBD.out.1.2.2.mono (by omega) (by omega)) (HBD.out.2.2.2.mono (by omega) (by omega))).mono ?_
              rintro e wx ⟨vn, rfl, hrn, hb⟩
              have hS2 : wx.cell? ⟨gz, 0, none⟩ = some (.int .i64 z0.S) ∧ wx.cell? ⟨gz, 1, none⟩ = some (.slice z0.a z0.n z0.c) ∧ wx.cell? ⟨gz, 2, none⟩ = some (.int .i64 z0.E) ∧ wx.cell? ⟨gz, 3, none⟩ = some (.int .i64 z1.S) ∧ wx.cell? ⟨gz, 4, none⟩ = some (.slice z1.a z1.n z1.c) ∧ wx.cell? ⟨gz, 5, none⟩ = some (.int .i64 z1.E) ∧ wx.cell? ⟨gz, 6, none⟩ = some (.int .i64 z2.S) ∧ wx.cell? ⟨gz, 7, none⟩ = some (.slice z2.a z2.n z2.c) ∧ wx.cell? ⟨gz, 8, none⟩ = some (.int .i64 z2.E) ∧ wx.cell? ⟨gy, 0, none⟩ = some (.int .i64 y0.S) ∧ wx.cell? ⟨gy, 1, none⟩ = some (.slice y0.a y0.n y0.c) ∧ wx.cell? ⟨gy, 2, none⟩ = some (.int .i64 y0.E) ∧ wx.cell? ⟨gy, 3, none⟩ = some (.int .i64 y1.S) ∧ wx.cell? ⟨gy, 4, none⟩ = some (.slice y1.a y1.n y1.c) ∧ wx.cell? ⟨gy, 5, none⟩ = some (.int .i64 y1.E) ∧ wx.cell? ⟨gy, 6, none⟩ = some (.int .i64 y2.S) ∧ wx.cell? ⟨gy, 7, none⟩ = some (.slice y2.a y2.n y2.c) ∧ wx.cell? ⟨gy, 8, none⟩ = some (.int .i64 y2.E) ∧ wx.cell? ⟨gx, 0, none⟩ = some (.int .i64 x0.S) ∧ wx.cell? ⟨gx, 1, none⟩ = some (.slice x0.a x0.n x0.c) ∧ wx.cell? ⟨gx, 2, none⟩ = some (.int .i64 x0.E) ∧ wx.cell? ⟨gx, 3, none⟩ = some (.int .i64 x1.S) ∧ wx.cell? ⟨gx, 4, none⟩ = some (.slice x1.a x1.n x1.c) ∧ wx.cell? ⟨gx, 5, none⟩ = some (.int .i64 x1.E) ∧ wx.cell? ⟨gx, 6, none⟩ = some (.int .i64 x2.S) ∧ wx.cell? ⟨gx, 7, none⟩ = some (.slice x2.a x2.n x2.c) ∧ wx.cell? ⟨gx, 8, none⟩ = some (.int .i64 x2.E) ∧ SF3 w wx ax ay bx by' cx cy dx dy gx gy gz x0 x1 x2 y0 y1 y2 z0 z1 z2 X0 X1 X2 Y0 Y1 Y2 b1 b2 (.agg #[.int .i64 Sp, .slice ap np cp, .int .i64 Ep]) (.agg #[.int .i64 Sr, .slice ar nr cr, .int .i64 Er]) (X0 * (Y1 * (X2 * X2 + Y2 * Y2) - Y2 * (X1 * X1 + Y1 * Y1))) (Y0 * (X1 * (X2 * X2 + Y2 * Y2) - X2 * (X1 * X1 + Y1 * Y1))) := ⟨box_cell hb hS.1, box_cell hb hS.2.1, box_cell hb hS.2.2.1, box_cell hb hS.2.2.2.1, box_cell hb hS.2.2.2.2.1, box_cell hb hS.2.2.2.2.2.1, box_cell hb hS.2.2.2.2.2.2.1, box_cell hb hS.2.2.2.2.2.2.2.1, box_cell hb hS.2.2.2.2.2.2.2.2.1, box_cell hb hS.2.2.2.2.2.2.2.2.2.1, box_cell hb hS.2.2.2.2.2.2.2.2.2.2.1, box_cell hb hS.2.2.2.2.2.2.2.2.2.2.2.1, box_cell hb hS.2.2.2.2.2.2.2.2.2.2.2.2.1, box_cell hb hS.2.2.2.2.2.2.2.2.2.2.2.2.2.1, box_cell hb hS.2.2.2.2.2.2.2.2.2.2.2.2.2.2.1, box_cell hb hS.2.2.2.2.2.2.2.2.2.2.2.2.2.2.2.1, box_cell hb hS.2.2.2.2.2.2.2.2.2.2.2.2.2.2.2.2.1, box_cell hb hS.2.2.2.2.2.2.2.2.2.2.2.2.2.2.2.2.2.1, box_cell hb hS.2.2.2.2.2.2.2.2.2.2.2.2.2.2.2.2.2.2.1, box_cell hb hS.2.2.2.2.2.2.2.2.2.2.2.2.2.2.2.2.2.2.2.1, box_cell hb hS.2.2.2.2.2.2.2.2.2.2.2.2.2.2.2.2.2.2.2.2.1, box_cell hb hS.2.2.2.2.2.2.2.2.2.2.2.2.2.2.2.2.2.2.2.2.2.1, box_cell hb hS.2.2.2.2.2.2.2.2.2.2.2.2.2.2.2.2.2.2.2.2.2.2.1, box_cell hb hS.2.2.2.2.2.2.2.2.2.2.2.2.2.2.2.2.2.2.2.2.2.2.2.1, box_cell hb hS.2.2.2.2.2.2.2.2.2.2.2.2.2.2.2.2.2.2.2.2.2.2.2.2.1, box_cell hb hS.2.2.2.2.2.2.2.2.2.2.2.2.2.2.2.2.2.2.2.2.2.2.2.2.2.1, box_cell hb hS.2.2.2.2.2.2.2.2.2.2.2.2.2.2.2.2.2.2.2.2.2.2.2.2.2.2.1, hS.2.2.2.2.2.2.2.2.2.2.2.2.2.2.2.2.2.2.2.2.2.2.2.2.2.2.2.later hb⟩
              go_wp2_with fail
              exact hK.out _ _ hS2 ⟨vb, vn, e2, b3, by rw [hA]; rfl, hS2, fun h => ⟨(HV.out h).1, (HV.out h).2.1.later hb, (HV.out h).2.2⟩, fun _ => hrn, fun h => by omega⟩
            · refine ⟨_, rfl, ?_⟩
              intro aa W hI K' hK
              obtain ⟨vb, e1, e2, b3, rfl, hS, hv, k1, k2⟩ := hI
              have r1 := k1 (by omega)
              have HV : Hid (x = true → vb = .pointer (some ⟨b3, 0, none⟩) ∧ CB W b3 #[.int .i64 0, .slice none 0 0, .int .i64 0] 56 ∧ b2 < b3) := hv
              clear hv k1 k2
              rw [hA]
              simp only [Act.put, List.setIfInBounds_toArray, List.set_cons_zero, List.set_cons_succ]
              go_simp
              go_wp2_with fail
              refine (mul_rf _ e1 ((X0 * X0 + Y0 * Y0)) (X1 * Y2 - X2 * Y1) _ hS.2.2.2.2.2.2.2.2.2.2.2.2.2.2.2.2.2.2.2.2.2.2.2.2.2.2.2.1.1.rz0 r1 (((HBD.out.1.1.mul HBD.out.1.1).add (HBD.out.2.1.mul HBD.out.2.1)).mono (by omega) (by omega)) ((((HBD.out.1.2.1.mul HBD.out.2.2.2).mono (h' := 6000) (l' := -6000) (by omega) (by omega)).sub ((HBD.out.1.2.2.mul HBD.out.2.2.1).mono (h' := 6000) (l' := -6000) (by omega) (by omega))).mono (by omega) (by omega))).mono ?_
              rintro e wx ⟨vn, rfl, hrn, hb⟩
              have hS2 : wx.cell? ⟨gz, 0, none⟩ = some (.int .i64 z0.S) ∧ wx.cell? ⟨gz, 1, none⟩ = some (.slice z0.a z0.n z0.c) ∧ wx.cell? ⟨gz, 2, none⟩ = some (.int .i64 z0.E) ∧ wx.cell? ⟨gz, 3, none⟩ = some (.int .i64 z1.S) ∧ wx.cell? ⟨gz, 4, none⟩ = some (.slice z1.a z1.n z1.c) ∧ wx.cell? ⟨gz, 5, none⟩ = some (.int .i64 z1.E) ∧ wx.cell? ⟨gz, 6, none⟩ = some (.int .i64 z2.S) ∧ wx.cell? ⟨gz, 7, none⟩ = some (.slice z2.a z2.n z2.c) ∧ wx.cell? ⟨gz, 8, none⟩ = some (.int .i64 z2.E) ∧ wx.cell? ⟨gy, 0, none⟩ = some (.int .i64 y0.S) ∧ wx.cell? ⟨gy, 1, none⟩ = some (.slice y0.a y0.n y0.c) ∧ wx.cell? ⟨gy, 2, none⟩ = some (.int .i64 y0.E) ∧ wx.cell? ⟨gy, 3, none⟩ = some (.int .i64 y1.S) ∧ wx.cell? ⟨gy, 4, none⟩ = some (.slice y1.a y1.n y1.c) ∧ wx.cell? ⟨gy, 5, none⟩ = some (.int .i64 y1.E) ∧ wx.cell? ⟨gy, 6, none⟩ = some (.int .i64 y2.S) ∧ wx.cell? ⟨gy, 7, none⟩ = some (.slice y2.a y2.n y2.c) ∧ wx.cell? ⟨gy, 8, none⟩ = some (.int .i64 y2.E) ∧ wx.cell? ⟨gx, 0, none⟩ = some (.int .i64 x0.S) ∧ wx.cell? ⟨gx, 1, none⟩ = some (.slice x0.a x0.n x0.c) ∧ wx.cell? ⟨gx, 2, none⟩ = some (.int .i64 x0.E) ∧ wx.cell? ⟨gx, 3, none⟩ = some (.int .i64 x1.S) ∧ wx.cell? ⟨gx, 4, none⟩ = some (.slice x1.a x1.n x1.c) ∧ wx.cell? ⟨gx, 5, none⟩ = some (.int .i64 x1.E) ∧ wx.cell? ⟨gx, 6, none⟩ = some (.int .i64 x2.S) ∧ wx.cell? ⟨gx, 7, none⟩ = some (.slice x2.a x2.n x2.c) ∧ wx.cell? ⟨gx, 8, none⟩ = some (.int .i64 x2.E) ∧ SF3 w wx ax ay bx by' cx cy dx dy gx gy gz x0 x1 x2 y0 y1 y2 z0 z1 z2 X0 X1 X2 Y0 Y1 Y2 b1 b2 (.agg #[.int .i64 Sp, .slice ap np cp, .int .i64 Ep]) (.agg #[.int .i64 Sr, .slice ar nr cr, .int .i64 Er]) (X0 * (Y1 * (X2 * X2 + Y2 * Y2) - Y2 * (X1 * X1 + Y1 * Y1))) (Y0 * (X1 * (X2 * X2 + Y2 * Y2) - X2 * (X1 * X1 + Y1 * Y1))) := ⟨box_cell hb hS.1, box_cell hb hS.2.1, box_cell hb hS.2.2.1, box_cell hb hS.2.2.2.1, box_cell hb hS.2.2.2.2.1, box_cell hb hS.2.2.2.2.2.1, box_cell hb hS.2.2.2.2.2.2.1, box_cell hb hS.2.2.2.2.2.2.2.1, box_cell hb hS.2.2.2.2.2.2.2.2.1, box_cell hb hS.2.2.2.2.2.2.2.2.2.1, box_cell hb hS.2.2.2.2.2.2.2.2.2.2.1, box_cell hb hS.2.2.2.2.2.2.2.2.2.2.2.1, box_cell hb hS.2.2.2.2.2.2.2.2.2.2.2.2.1, box_cell hb hS.2.2.2.2.2.2.2.2.2.2.2.2.2.1, box_cell hb hS.2.2.2.2.2.2.2.2.2.2.2.2.2.2.1, box_cell hb hS.2.2.2.2.2.2.2.2.2.2.2.2.2.2.2.1, box_cell hb hS.2.2.2.2.2.2.2.2.2.2.2.2.2.2.2.2.1, box_cell hb hS.2.2.2.2.2.2.2.2.2.2.2.2.2.2.2.2.2.1, box_cell hb hS.2.2.2.2.2.2.2.2.2.2.2.2.2.2.2.2.2.2.1, box_cell hb hS.2.2.2.2.2.2.2.2.2.2.2.2.2.2.2.2.2.2.2.1, box_cell hb hS.2.2.2.2.2.2.2.2.2.2.2.2.2.2.2.2.2.2.2.2.1, box_cell hb hS.2.2.2.2.2.2.2.2.2.2.2.2.2.2.2.2.2.2.2.2.2.1, box_cell hb hS.2.2.2.2.2.2.2.2.2.2.2.2.2.2.2.2.2.2.2.2.2.2.1, box_cell hb hS.2.2.2.2.2.2.2.2.2.2.2.2.2.2.2.2.2.2.2.2.2.2.2.1, box_cell hb hS.2.2.2.2.2.2.2.2.2.2.2.2.2.2.2.2.2.2.2.2.2.2.2.2.1, box_cell hb hS.2.2.2.2.2.2.2.2.2.2.2.2.2.2.2.2.2.2.2.2.2.2.2.2.2.1, box_cell hb hS.2.2.2.2.2.2.2.2.2.2.2.2.2.2.2.2.2.2.2.2.2.2.2.2.2.2.1, hS.2.2.2.2.2.2.2.2.2.2.2.2.2.2.2.2.2.2.2.2.2.2.2.2.2.2.2.later hb⟩
              go_wp2_with fail
              exact hK.out _ _ hS2 ⟨vb, e1, vn, b3, by rw [hA]; rfl, hS2, fun h => ⟨(HV.out h).1, (HV.out h).2.1.later hb, (HV.out h).2.2⟩, fun _ => r1.later hb, fun _ => hrn⟩
          · intro k hk
            refine ⟨_, rfl, ?_⟩
            intro aa W hI K' hK
            obtain ⟨vb, e1, e2, b3, rfl, hS, hv, k1, k2⟩ := hI
            have HK : Hid ((1 ≤ k → Rf W e1 (X1 * Y2 - X2 * Y1)) ∧ (2 ≤ k → Rf W e2 ((X0 * X0 + Y0 * Y0) * (X1 * Y2 - X2 * Y1)))) := ⟨k1, k2⟩
            clear hv k1 k2
            have hb : Below W.heap.size W (W.alloc (.cells #[.int .i64 0, .slice none 0 0, .int .i64 0] 56)) := (Below.refl _ W).alloc (Nat.le_refl _) _
            have hlt2 : b2 < W.heap.size := hS.2.2.2.2.2.2.2.2.2.2.2.2.2.2.2.2.2.2.2.2.2.2.2.2.2.2.2.lt
            have hS2 : (fun W => W.cell? ⟨gz, 0, none⟩ = some (.int .i64 z0.S) ∧ W.cell? ⟨gz, 1, none⟩ = some (.slice z0.a z0.n z0.c) ∧ W.cell? ⟨gz, 2, none⟩ = some (.int .i64 z0.E) ∧ W.cell? ⟨gz, 3, none⟩ = some (.int .i64 z1.S) ∧ W.cell? ⟨gz, 4, none⟩ = some (.slice z1.a z1.n z1.c) ∧ W.cell? ⟨gz, 5, none⟩ = some (.int .i64 z1.E) ∧ W.cell? ⟨gz, 6, none⟩ = some (.int .i64 z2.S) ∧ W.cell? ⟨gz, 7, none⟩ = some (.slice z2.a z2.n z2.c) ∧ W.cell? ⟨gz, 8, none⟩ = some (.int .i64 z2.E) ∧ W.cell? ⟨gy, 0, none⟩ = some (.int .i64 y0.S) ∧ W.cell? ⟨gy, 1, none⟩ = some (.slice y0.a y0.n y0.c) ∧ W.cell? ⟨gy, 2, none⟩ = some (.int .i64 y0.E) ∧ W.cell? ⟨gy, 3, none⟩ = some (.int .i64 y1.S) ∧ W.cell? ⟨gy, 4, none⟩ = some (.slice y1.a y1.n y1.c) ∧ W.cell? ⟨gy, 5, none⟩ = some (.int .i64 y1.E) ∧ W.cell? ⟨gy, 6, none⟩ = some (.int .i64 y2.S) ∧ W.cell? ⟨gy, 7, none⟩ = some (.slice y2.a y2.n y2.c) ∧ W.cell? ⟨gy, 8, none⟩ = some (.int .i64 y2.E) ∧ W.cell? ⟨gx, 0, none⟩ = some (.int .i64 x0.S) ∧ W.cell? ⟨gx, 1, none⟩ = some (.slice x0.a x0.n x0.c) ∧ W.cell? ⟨gx, 2, none⟩ = some (.int .i64 x0.E) ∧ W.cell? ⟨gx, 3, none⟩ = some (.int .i64 x1.S) ∧ W.cell? ⟨gx, 4, none⟩ = some (.slice x1.a x1.n x1.c) ∧ W.cell? ⟨gx, 5, none⟩ = some (.int .i64 x1.E) ∧ W.cell? ⟨gx, 6, none⟩ = some (.int .i64 x2.S) ∧ W.cell? ⟨gx, 7, none⟩ = some (.slice x2.a x2.n x2.c) ∧ W.cell? ⟨gx, 8, none⟩ = some (.int .i64 x2.E) ∧ SF3 w W ax ay bx by' cx cy dx dy gx gy gz x0 x1 x2 y0 y1 y2 z0 z1 z2 X0 X1 X2 Y0 Y1 Y2 b1 b2 (.agg #[.int .i64 Sp, .slice ap np cp, .int .i64 Ep]) (.agg #[.int .i64 Sr, .slice ar nr cr, .int .i64 Er]) (X0 * (Y1 * (X2 * X2 + Y2 * Y2) - Y2 * (X1 * X1 + Y1 * Y1))) (Y0 * (X1 * (X2 * X2 + Y2 * Y2) - X2 * (X1 * X1 + Y1 * Y1)))) (W.alloc (.cells #[.int .i64 0, .slice none 0 0, .int .i64 0] 56)) := ⟨box_cell hb hS.1, box_cell hb hS.2.1, box_cell hb hS.2.2.1, box_cell hb hS.2.2.2.1, box_cell hb hS.2.2.2.2.1, box_cell hb hS.2.2.2.2.2.1, box_cell hb hS.2.2.2.2.2.2.1, box_cell hb hS.2.2.2.2.2.2.2.1, box_cell hb hS.2.2.2.2.2.2.2.2.1, box_cell hb hS.2.2.2.2.2.2.2.2.2.1, box_cell hb hS.2.2.2.2.2.2.2.2.2.2.1, box_cell hb hS.2.2.2.2.2.2.2.2.2.2.2.1, box_cell hb hS.2.2.2.2.2.2.2.2.2.2.2.2.1, box_cell hb hS.2.2.2.2.2.2.2.2.2.2.2.2.2.1, box_cell hb hS.2.2.2.2.2.2.2.2.2.2.2.2.2.2.1, box_cell hb hS.2.2.2.2.2.2.2.2.2.2.2.2.2.2.2.1, box_cell hb hS.2.2.2.2.2.2.2.2.2.2.2.2.2.2.2.2.1, box_cell hb hS.2.2.2.2.2.2.2.2.2.2.2.2.2.2.2.2.2.1, box_cell hb hS.2.2.2.2.2.2.2.2.2.2.2.2.2.2.2.2.2.2.1, box_cell hb hS.2.2.2.2.2.2.2.2.2.2.2.2.2.2.2.2.2.2.2.1, box_cell hb hS.2.2.2.2.2.2.2.2.2.2.2.2.2.2.2.2.2.2.2.2.1, box_cell hb hS.2.2.2.2.2.2.2.2.2.2.2.2.2.2.2.2.2.2.2.2.2.1, box_cell hb hS.2.2.2.2.2.2.2.2.2.2.2.2.2.2.2.2.2.2.2.2.2.2.1, box_cell hb hS.2.2.2.2.2.2.2.2.2.2.2.2.2.2.2.2.2.2.2.2.2.2.2.1, box_cell hb hS.2.2.2.2.2.2.2.2.2.2.2.2.2.2.2.2.2.2.2.2.2.2.2.2.1, box_cell hb hS.2.2.2.2.2.2.2.2.2.2.2.2.2.2.2.2.2.2.2.2.2.2.2.2.2.1, box_cell hb hS.2.2.2.2.2.2.2.2.2.2.2.2.2.2.2.2.2.2.2.2.2.2.2.2.2.2.1, hS.2.2.2.2.2.2.2.2.2.2.2.2.2.2.2.2.2.2.2.2.2.2.2.2.2.2.2.later hb⟩
            rw [hA]
            simp only [Act.put, List.setIfInBounds_toArray, List.set_cons_zero, List.set_cons_succ]
            go_simp
            go_wp2_with fail
            exact hK.out _ _ hS2 ⟨_, e1, e2, W.heap.size, by rw [hA]; rfl, hS2, fun _ => ⟨rfl, CB.new W _ _, hlt2⟩, fun h => (HK.out.1 h).later hb, fun h => (HK.out.2 h).later hb⟩
          · intro aa W hI
            obtain ⟨vb, e1, e2, b3, rfl, hS, hv, k1, k2⟩ := hI
            obtain ⟨rfl, hc, hl⟩ := hv rfl
            have hR := k2 (by omega)
            clear hv k1 k2
            obtain ⟨Sk, ak, nk, ck, Ek, rfl⟩ := hR.agg
            subst hA
            simp only [Act.put, List.setIfInBounds_toArray, List.set_cons_zero, List.set_cons_succ]
            have hlow := HLZ.out
            have hlow2 := hS.2.2.2.2.2.2.2.2.2.2.2.2.2.2.2.2.2.2.2.2.2.2.2.2.2.2.2.1.2.2.2
            have hlow3 := hS.2.2.2.2.2.2.2.2.2.2.2.2.2.2.2.2.2.2.2.2.2.2.2.2.2.2.2.2.2.2
            have hO : OtherRow W b3 := ⟨_, _, _, hc, by decide⟩
            have hm := moved3 W b3 (.int .i64 Sk) (.slice ak nk ck) (.int .i64 Ek)
            have hmb := mb3 W b3 (.int .i64 Sk) (.slice ak nk ck) (.int .i64 Ek)
            have hS2 : (fun W => W.cell? ⟨gz, 0, none⟩ = some (.int .i64 z0.S) ∧ W.cell? ⟨gz, 1, none⟩ = some (.slice z0.a z0.n z0.c) ∧ W.cell? ⟨gz, 2, none⟩ = some (.int .i64 z0.E) ∧ W.cell? ⟨gz, 3, none⟩ = some (.int .i64 z1.S) ∧ W.cell? ⟨gz, 4, none⟩ = some (.slice z1.a z1.n z1.c) ∧ W.cell? ⟨gz, 5, none⟩ = some (.int .i64 z1.E) ∧ W.cell? ⟨gz, 6, none⟩ = some (.int .i64 z2.S) ∧ W.cell? ⟨gz, 7, none⟩ = some (.slice z2.a z2.n z2.c) ∧ W.cell? ⟨gz, 8, none⟩ = some (.int .i64 z2.E) ∧ W.cell? ⟨gy, 0, none⟩ = some (.int .i64 y0.S) ∧ W.cell? ⟨gy, 1, none⟩ = some (.slice y0.a y0.n y0.c) ∧ W.cell? ⟨gy, 2, none⟩ = some (.int .i64 y0.E) ∧ W.cell? ⟨gy, 3, none⟩ = some (.int .i64 y1.S) ∧ W.cell? ⟨gy, 4, none⟩ = some (.slice y1.a y1.n y1.c) ∧ W.cell? ⟨gy, 5, none⟩ = some (.int .i64 y1.E) ∧ W.cell? ⟨gy, 6, none⟩ = some (.int .i64 y2.S) ∧ W.cell? ⟨gy, 7, none⟩ = some (.slice y2.a y2.n y2.c) ∧ W.cell? ⟨gy, 8, none⟩ = some (.int .i64 y2.E) ∧ W.cell? ⟨gx, 0, none⟩ = some (.int .i64 x0.S) ∧ W.cell? ⟨gx, 1, none⟩ = some (.slice x0.a x0.n x0.c) ∧ W.cell? ⟨gx, 2, none⟩ = some (.int .i64 x0.E) ∧ W.cell? ⟨gx, 3, none⟩ = some (.int .i64 x1.S) ∧ W.cell? ⟨gx, 4, none⟩ = some (.slice x1.a x1.n x1.c) ∧ W.cell? ⟨gx, 5, none⟩ = some (.int .i64 x1.E) ∧ W.cell? ⟨gx, 6, none⟩ = some (.int .i64 x2.S) ∧ W.cell? ⟨gx, 7, none⟩ = some (.slice x2.a x2.n x2.c) ∧ W.cell? ⟨gx, 8, none⟩ = some (.int .i64 x2.E) ∧ SF3 w W ax ay bx by' cx cy dx dy gx gy gz x0 x1 x2 y0 y1 y2 z0 z1 z2 X0 X1 X2 Y0 Y1 Y2 b1 b2 (.agg #[.int .i64 Sp, .slice ap np cp, .int .i64 Ep]) (.agg #[.int .i64 Sr, .slice ar nr cr, .int .i64 Er]) (X0 * (Y1 * (X2 * X2 + Y2 * Y2) - Y2 * (X1 * X1 + Y1 * Y1))) (Y0 * (X1 * (X2 * X2 + Y2 * Y2) - X2 * (X1 * X1 + Y1 * Y1)))) (((W.setCell ⟨b3, 0, none⟩ (.int .i64 Sk)).setCell ⟨b3, 1, none⟩ (.slice ak nk ck)).setCell ⟨b3, 2, none⟩ (.int .i64 Ek)) := ⟨hm.cell _ _ _ (by omega) hS.1, hm.cell _ _ _ (by omega) hS.2.1, hm.cell _ _ _ (by omega) hS.2.2.1, hm.cell _ _ _ (by omega) hS.2.2.2.1, hm.cell _ _ _ (by omega) hS.2.2.2.2.1, hm.cell _ _ _ (by omega) hS.2.2.2.2.2.1, hm.cell _ _ _ (by omega) hS.2.2.2.2.2.2.1, hm.cell _ _ _ (by omega) hS.2.2.2.2.2.2.2.1, hm.cell _ _ _ (by omega) hS.2.2.2.2.2.2.2.2.1, hm.cell _ _ _ (by omega) hS.2.2.2.2.2.2.2.2.2.1, hm.cell _ _ _ (by omega) hS.2.2.2.2.2.2.2.2.2.2.1, hm.cell _ _ _ (by omega) hS.2.2.2.2.2.2.2.2.2.2.2.1, hm.cell _ _ _ (by omega) hS.2.2.2.2.2.2.2.2.2.2.2.2.1, hm.cell _ _ _ (by omega) hS.2.2.2.2.2.2.2.2.2.2.2.2.2.1, hm.cell _ _ _ (by omega) hS.2.2.2.2.2.2.2.2.2.2.2.2.2.2.1, hm.cell _ _ _ (by omega) hS.2.2.2.2.2.2.2.2.2.2.2.2.2.2.2.1, hm.cell _ _ _ (by omega) hS.2.2.2.2.2.2.2.2.2.2.2.2.2.2.2.2.1, hm.cell _ _ _ (by omega) hS.2.2.2.2.2.2.2.2.2.2.2.2.2.2.2.2.2.1, hm.cell _ _ _ (by omega) hS.2.2.2.2.2.2.2.2.2.2.2.2.2.2.2.2.2.2.1, hm.cell _ _ _ (by omega) hS.2.2.2.2.2.2.2.2.2.2.2.2.2.2.2.2.2.2.2.1, hm.cell _ _ _ (by omega) hS.2.2.2.2.2.2.2.2.2.2.2.2.2.2.2.2.2.2.2.2.1, hm.cell _ _ _ (by omega) hS.2.2.2.2.2.2.2.2.2.2.2.2.2.2.2.2.2.2.2.2.2.1, hm.cell _ _ _ (by omega) hS.2.2.2.2.2.2.2.2.2.2.2.2.2.2.2.2.2.2.2.2.2.2.1, hm.cell _ _ _ (by omega) hS.2.2.2.2.2.2.2.2.2.2.2.2.2.2.2.2.2.2.2.2.2.2.2.1, hm.cell _ _ _ (by omega) hS.2.2.2.2.2.2.2.2.2.2.2.2.2.2.2.2.2.2.2.2.2.2.2.2.1, hm.cell _ _ _ (by omega) hS.2.2.2.2.2.2.2.2.2.2.2.2.2.2.2.2.2.2.2.2.2.2.2.2.2.1, hm.cell _ _ _ (by omega) hS.2.2.2.2.2.2.2.2.2.2.2.2.2.2.2.2.2.2.2.2.2.2.2.2.2.2.1, hS.2.2.2.2.2.2.2.2.2.2.2.2.2.2.2.2.2.2.2.2.2.2.2.2.2.2.2.boxed' hO hm hmb (by omega) (by omega) (by omega) hl⟩
            have hc2 := hc.set3 (.int .i64 Sk) (.slice ak nk ck) (.int .i64 Ek)
            have hR2 := hR.boxed hO (.int .i64 Sk) (.slice ak nk ck) (.int .i64 Ek)
            have f0 := hc.frozen 0
            have f1 := hc.frozen 1
            have f2 := hc.frozen 2
            obtain ⟨g0, g1, g2⟩ := hc.cells3
            refine call_at 18 (by kernel_rfl) (by kernel_rfl) ?_
            intro o ho
            simp only [List.getElem?_toArray, List.getElem?_cons_succ, List.getElem?_cons_zero, Option.some.injEq] at ho
            subst ho
            intro KF hK
            go_simp
            go_wp2_with fail
            refine hK.out _ _ hS2 ?_
            intro _
            clear hK KF f0 f1 f2 g0 g1 g2 hS hO hm hmb hc hR
            try simp only [List.setIfInBounds_toArray, List.set_cons_zero, List.set_cons_succ]
            refine wpAnyH_done (by kernel_rfl) ?_ _
            generalize ((W.setCell ⟨b3, 0, none⟩ (.int .i64 Sk)).setCell ⟨b3, 1, none⟩ (.slice ak nk ck)).setCell ⟨b3, 2, none⟩ (.int .i64 Ek) = WL at *
            have hs3 := hS2.2.2.2.2.2.2.2.2.2.2.2.2.2.2.2.2.2.2.2.2.2.2.2.2.2.2.2
            obtain ⟨_, _, _, _, _, e1, c1⟩ := hs3.1.2.1
            cases e1
            obtain ⟨_, _, _, _, _, e2, c2⟩ := hs3.2.1
            cases e2
            obtain ⟨i0, i1, i2⟩ := c1.cells3
            obtain ⟨j0, j1, j2⟩ := c2.cells3
            obtain ⟨k0, k1, k2⟩ := hc2.cells3
            have HF4 : Hid (SF4 w WL ax ay bx by' cx cy dx dy ((.agg #[.int .i64 Sp, .slice ap np cp, .int .i64 Ep])) ((.agg #[.int .i64 Sr, .slice ar nr cr, .int .i64 Er])) ((.agg #[.int .i64 Sk, .slice ak nk ck, .int .i64 Ek])) (X0 * (Y1 * (X2 * X2 + Y2 * Y2) - Y2 * (X1 * X1 + Y1 * Y1))) (Y0 * (X1 * (X2 * X2 + Y2 * Y2) - X2 * (X1 * X1 + Y1 * Y1))) ((X0 * X0 + Y0 * Y0) * (X1 * Y2 - X2 * Y1))) := ⟨hs3.1.1.one, hs3.1.2.2.1, hs3.2.2.1, hR2⟩
            have HL4 : Hid (w.heap.size + 1 + 1 + 1 + 1 < b1 ∧ w.heap.size + 1 + 1 + 1 + 1 < b2 ∧ w.heap.size + 1 + 1 + 1 + 1 < b3) := by
              have a1 := hs3.1.2.2.2
              have a2 := hs3.2.2.2
              have a3 := HLZ.out
              exact ⟨by omega, by omega, by omega⟩
            clear hs3 c1 c2 hS2 hc2 hR2 hl HF3
            go_wp2_with fail
            refine wp_region_held_drew (S := (fun W => World.cell? W ⟨b1, 0, none⟩ = some (.int .i64 Sp) ∧ World.cell? W ⟨b1, 1, none⟩ = some (.slice ap np cp) ∧ World.cell? W ⟨b1, 2, none⟩ = some (.int .i64 Ep) ∧ World.cell? W ⟨b2, 0, none⟩ = some (.int .i64 Sr) ∧ World.cell? W ⟨b2, 1, none⟩ = some (.slice ar nr cr) ∧ World.cell? W ⟨b2, 2, none⟩ = some (.int .i64 Er) ∧ World.cell? W ⟨b3, 0, none⟩ = some (.int .i64 Sk) ∧ World.cell? W ⟨b3, 1, none⟩ = some (.slice ak nk ck) ∧ World.cell? W ⟨b3, 2, none⟩ = some (.int .i64 Ek) ∧ SF4 w W ax ay bx by' cx cy dx dy ((.agg #[.int .i64 Sp, .slice ap np cp, .int .i64 Ep])) ((.agg #[.int .i64 Sr, .slice ar nr cr, .int .i64 Er])) ((.agg #[.int .i64 Sk, .slice ak nk ck, .int .i64 Ek])) (X0 * (Y1 * (X2 * X2 + Y2 * Y2) - Y2 * (X1 * X1 + Y1 * Y1))) (Y0 * (X1 * (X2 * X2 + Y2 * Y2) - X2 * (X1 * X1 + Y1 * Y1))) ((X0 * X0 + Y0 * Y0) * (X1 * Y2 - X2 * Y1)))) (by kernel_rfl) ⟨i0, i1, i2, j0, j1, j2, k0, k1, k2, HF4.out.drew⟩ (fun hS => ?_)
            refine take_at (i := 0) (d := some 125) (v := .agg #[.int .i64 Sp, .slice ap np cp, .int .i64 Ep]) (by kernel_rfl) (by kernel_rfl) (by kernel_rfl) (by kernel_rfl) (fun _ _ _ h => h) ?_ hS ?_
            · intro o ho
              simp only [List.getElem?_toArray, List.getElem?_cons_zero, Option.some.injEq] at ho
              subst ho
              refine Or.inl ⟨by rfl, ?_⟩
              intro w hSw
              (try dsimp only at hSw)
              go_simp
            simp only [Act.put, List.setIfInBounds_toArray, List.set_cons_zero, List.set_cons_succ]
            refine take_at (i := 1) (d := some 126) (v := .agg #[.int .i64 Sr, .slice ar nr cr, .int .i64 Er]) (by kernel_rfl) (by kernel_rfl) (by kernel_rfl) (by kernel_rfl) (fun _ _ _ h => h) ?_ hS ?_
            · intro o ho
              simp only [List.getElem?_toArray, List.getElem?_cons_succ, List.getElem?_cons_zero, Option.some.injEq] at ho
              subst ho
              refine Or.inl ⟨by rfl, ?_⟩
              intro w hSw
              (try dsimp only at hSw)
              go_simp
            simp only [Act.put, List.setIfInBounds_toArray, List.set_cons_zero, List.set_cons_succ]
            refine take_at (i := 3) (d := some 128) (v := .agg #[.int .i64 Sk, .slice ak nk ck, .int .i64 Ek]) (by kernel_rfl) (by kernel_rfl) (by kernel_rfl) (by kernel_rfl) (fun _ _ _ h => h) ?_ hS ?_
            · intro o ho
              simp only [List.getElem?_toArray, List.getElem?_cons_succ, List.getElem?_cons_zero, Option.some.injEq] at ho
              subst ho
              refine Or.inl ⟨by rfl, ?_⟩
              intro w hSw
              (try dsimp only at hSw)
              go_simp
            simp only [Act.put, List.setIfInBounds_toArray, List.set_cons_zero, List.set_cons_succ]
            refine call_at 2 (by kernel_rfl) (by kernel_rfl) ?_
            intro o ho
            simp only [List.getElem?_toArray, List.getElem?_cons_succ, List.getElem?_cons_zero, Option.some.injEq] at ho
            subst ho
            intro KF hK
            go_simp
            refine (sub_rf _ _ (X0 * (Y1 * (X2 * X2 + Y2 * Y2) - Y2 * (X1 * X1 + Y1 * Y1))) (Y0 * (X1 * (X2 * X2 + Y2 * Y2) - X2 * (X1 * X1 + Y1 * Y1))) _ hS.2.2.2.2.2.2.2.2.2.p hS.2.2.2.2.2.2.2.2.2.r ((HBD.out.1.1.mul (((HBD.out.2.2.1.mul ((HBD.out.1.2.2.mul HBD.out.1.2.2).add (HBD.out.2.2.2.mul HBD.out.2.2.2))).mono (h' := 6000) (l' := -6000) (by omega) (by omega)).sub ((HBD.out.2.2.2.mul ((HBD.out.1.2.1.mul HBD.out.1.2.1).add (HBD.out.2.2.1.mul HBD.out.2.2.1))).mono (h' := 6000) (l' := -6000) (by omega) (by omega)))).mono (by omega) (by omega)) ((HBD.out.2.1.mul (((HBD.out.1.2.1.mul ((HBD.out.1.2.2.mul HBD.out.1.2.2).add (HBD.out.2.2.2.mul HBD.out.2.2.2))).mono (h' := 6000) (l' := -6000) (by omega) (by omega)).sub ((HBD.out.1.2.2.mul ((HBD.out.1.2.1.mul HBD.out.1.2.1).add (HBD.out.2.2.1.mul HBD.out.2.2.1))).mono (h' := 6000) (l' := -6000) (by omega) (by omega)))).mono (by omega) (by omega))).mono ?_
            rintro e wx ⟨u1, rfl, hu1, hbx⟩
            go_wp2_with fail
            refine hK.out _ _ ⟨box_cell hbx hS.1, box_cell hbx hS.2.1, box_cell hbx hS.2.2.1, box_cell hbx hS.2.2.2.1, box_cell hbx hS.2.2.2.2.1, box_cell hbx hS.2.2.2.2.2.1, box_cell hbx hS.2.2.2.2.2.2.1, box_cell hbx hS.2.2.2.2.2.2.2.1, box_cell hbx hS.2.2.2.2.2.2.2.2.1, hS.2.2.2.2.2.2.2.2.2.later hbx⟩ ?_
            clear hS hbx
            intro hS
            clear hK KF
            try simp only [Act.put, List.setIfInBounds_toArray, List.set_cons_zero, List.set_cons_succ]
            refine call_at 4 (by kernel_rfl) (by kernel_rfl) ?_
            intro o ho
            simp only [List.getElem?_toArray, List.getElem?_cons_succ, List.getElem?_cons_zero, Option.some.injEq] at ho
            subst ho
            intro KF hK
            go_simp
            refine (refAdd_any u1 _ (X0 * (Y1 * (X2 * X2 + Y2 * Y2) - Y2 * (X1 * X1 + Y1 * Y1)) - Y0 * (X1 * (X2 * X2 + Y2 * Y2) - X2 * (X1 * X1 + Y1 * Y1))) ((X0 * X0 + Y0 * Y0) * (X1 * Y2 - X2 * Y1)) _ hu1 hS.2.2.2.2.2.2.2.2.2.t (((((HBD.out.1.1.mul (((HBD.out.2.2.1.mul ((HBD.out.1.2.2.mul HBD.out.1.2.2).add (HBD.out.2.2.2.mul HBD.out.2.2.2))).mono (h' := 6000) (l' := -6000) (by omega) (by omega)).sub ((HBD.out.2.2.2.mul ((HBD.out.1.2.1.mul HBD.out.1.2.1).add (HBD.out.2.2.1.mul HBD.out.2.2.1))).mono (h' := 6000) (l' := -6000) (by omega) (by omega)))).mono (by omega) (by omega) : Bd 20000 (-20000) _).sub ((HBD.out.2.1.mul (((HBD.out.1.2.1.mul ((HBD.out.1.2.2.mul HBD.out.1.2.2).add (HBD.out.2.2.2.mul HBD.out.2.2.2))).mono (h' := 6000) (l' := -6000) (by omega) (by omega)).sub ((HBD.out.1.2.2.mul ((HBD.out.1.2.1.mul HBD.out.1.2.1).add (HBD.out.2.2.1.mul HBD.out.2.2.1))).mono (h' := 6000) (l' := -6000) (by omega) (by omega)))).mono (by omega) (by omega) : Bd 20000 (-20000) _))).mono (by omega) (by omega)) ((((HBD.out.1.1.mul HBD.out.1.1).add (HBD.out.2.1.mul HBD.out.2.1)).mul (((HBD.out.1.2.1.mul HBD.out.2.2.2).mono (h' := 6000) (l' := -6000) (by omega) (by omega)).sub ((HBD.out.1.2.2.mul HBD.out.2.2.1).mono (h' := 6000) (l' := -6000) (by omega) (by omega)))).mono (by omega) (by omega))).mono ?_
            rintro e wx ⟨u2, rfl, hu2, hbx⟩
            obtain ⟨Su, au, nu, cu, Eu, rfl⟩ := hu2.agg
            go_wp2_with fail
            refine hK.out _ _ ⟨box_cell hbx hS.1, box_cell hbx hS.2.1, box_cell hbx hS.2.2.1, box_cell hbx hS.2.2.2.1, box_cell hbx hS.2.2.2.2.1, box_cell hbx hS.2.2.2.2.2.1, box_cell hbx hS.2.2.2.2.2.2.1, box_cell hbx hS.2.2.2.2.2.2.2.1, box_cell hbx hS.2.2.2.2.2.2.2.2.1, hS.2.2.2.2.2.2.2.2.2.later hbx⟩ ?_
            clear hS hbx
            intro hS
            clear hK KF
            try simp only [Act.put, List.setIfInBounds_toArray, List.set_cons_zero, List.set_cons_succ]
            obtain ⟨cs, hc, hcs⟩ := hS.2.2.2.2.2.2.2.2.2.one.res
            obtain ⟨y0', y1', y2', rfl⟩ := three hcs
            have hO := hc.num
            have hm := moved3 wx (w.heap.size + 1 + 1 + 1 + 1) (.int .i64 Su) (.slice au nu cu) (.int .i64 Eu)
            have hmb := mb3 wx (w.heap.size + 1 + 1 + 1 + 1) (.int .i64 Su) (.slice au nu cu) (.int .i64 Eu)
            have hu2 := hu2.mb hO hmb
            have hc2 := hc.set3 (.int .i64 Su) (.slice au nu cu) (.int .i64 Eu)
            have hlow := HL4.out
            have hpts := hS.2.2.2.2.2.2.2.2.2.one.pts
            have hbel : Below w.heap.size w (((wx.setCell ⟨w.heap.size + 1 + 1 + 1 + 1, 0, none⟩ (.int .i64 Su)).setCell ⟨w.heap.size + 1 + 1 + 1 + 1, 1, none⟩ (.slice au nu cu)).setCell ⟨w.heap.size + 1 + 1 + 1 + 1, 2, none⟩ (.int .i64 Eu)) := hm.bel _ _ (by omega) hpts.bel
            have hB4 : B4 w (((wx.setCell ⟨w.heap.size + 1 + 1 + 1 + 1, 0, none⟩ (.int .i64 Su)).setCell ⟨w.heap.size + 1 + 1 + 1 + 1, 1, none⟩ (.slice au nu cu)).setCell ⟨w.heap.size + 1 + 1 + 1 + 1, 2, none⟩ (.int .i64 Eu)) ax ay bx by' cx cy dx dy := ⟨hm.cell _ _ _ (by omega) hpts.a0, hm.cell _ _ _ (by omega) hpts.a1, hm.cell _ _ _ (by omega) hpts.b0, hm.cell _ _ _ (by omega) hpts.b1, hm.cell _ _ _ (by omega) hpts.c0, hm.cell _ _ _ (by omega) hpts.c1, hm.cell _ _ _ (by omega) hpts.d0, hm.cell _ _ _ (by omega) hpts.d1, hbel⟩
            have f0 := hc.frozen 0
            have f1 := hc.frozen 1
            have f2 := hc.frozen 2
            obtain ⟨g0, g1, g2⟩ := hc.cells3
            have hS2 : (fun W => World.cell? W ⟨b1, 0, none⟩ = some (.int .i64 Sp) ∧ World.cell? W ⟨b1, 1, none⟩ = some (.slice ap np cp) ∧ World.cell? W ⟨b1, 2, none⟩ = some (.int .i64 Ep) ∧ World.cell? W ⟨b2, 0, none⟩ = some (.int .i64 Sr) ∧ World.cell? W ⟨b2, 1, none⟩ = some (.slice ar nr cr) ∧ World.cell? W ⟨b2, 2, none⟩ = some (.int .i64 Er) ∧ World.cell? W ⟨b3, 0, none⟩ = some (.int .i64 Sk) ∧ World.cell? W ⟨b3, 1, none⟩ = some (.slice ak nk ck) ∧ World.cell? W ⟨b3, 2, none⟩ = some (.int .i64 Ek) ∧ SF4 w W ax ay bx by' cx cy dx dy ((.agg #[.int .i64 Sp, .slice ap np cp, .int .i64 Ep])) ((.agg #[.int .i64 Sr, .slice ar nr cr, .int .i64 Er])) ((.agg #[.int .i64 Sk, .slice ak nk ck, .int .i64 Ek])) (X0 * (Y1 * (X2 * X2 + Y2 * Y2) - Y2 * (X1 * X1 + Y1 * Y1))) (Y0 * (X1 * (X2 * X2 + Y2 * Y2) - X2 * (X1 * X1 + Y1 * Y1))) ((X0 * X0 + Y0 * Y0) * (X1 * Y2 - X2 * Y1))) (((wx.setCell ⟨w.heap.size + 1 + 1 + 1 + 1, 0, none⟩ (.int .i64 Su)).setCell ⟨w.heap.size + 1 + 1 + 1 + 1, 1, none⟩ (.slice au nu cu)).setCell ⟨w.heap.size + 1 + 1 + 1 + 1, 2, none⟩ (.int .i64 Eu)) := ⟨hm.cell _ _ _ (by omega) hS.1, hm.cell _ _ _ (by omega) hS.2.1, hm.cell _ _ _ (by omega) hS.2.2.1, hm.cell _ _ _ (by omega) hS.2.2.2.1, hm.cell _ _ _ (by omega) hS.2.2.2.2.1, hm.cell _ _ _ (by omega) hS.2.2.2.2.2.1, hm.cell _ _ _ (by omega) hS.2.2.2.2.2.2.1, hm.cell _ _ _ (by omega) hS.2.2.2.2.2.2.2.1, hm.cell _ _ _ (by omega) hS.2.2.2.2.2.2.2.2.1, ⟨⟨hB4, ⟨_, hc2, rfl⟩⟩, hS.2.2.2.2.2.2.2.2.2.p.mb hO hmb, hS.2.2.2.2.2.2.2.2.2.r.mb hO hmb, hS.2.2.2.2.2.2.2.2.2.t.mb hO hmb⟩⟩
            have HE : Hid (CB (((wx.setCell ⟨w.heap.size + 1 + 1 + 1 + 1, 0, none⟩ (.int .i64 Su)).setCell ⟨w.heap.size + 1 + 1 + 1 + 1, 1, none⟩ (.slice au nu cu)).setCell ⟨w.heap.size + 1 + 1 + 1 + 1, 2, none⟩ (.int .i64 Eu)) (w.heap.size + 1 + 1 + 1 + 1) #[.int .i64 Su, .slice au nu cu, .int .i64 Eu] 56 ∧ Rf (((wx.setCell ⟨w.heap.size + 1 + 1 + 1 + 1, 0, none⟩ (.int .i64 Su)).setCell ⟨w.heap.size + 1 + 1 + 1 + 1, 1, none⟩ (.slice au nu cu)).setCell ⟨w.heap.size + 1 + 1 + 1 + 1, 2, none⟩ (.int .i64 Eu)) (.agg #[.int .i64 Su, .slice au nu cu, .int .i64 Eu]) (S4 ax ay bx by' cx cy dx dy) ∧ Below w.heap.size w (((wx.setCell ⟨w.heap.size + 1 + 1 + 1 + 1, 0, none⟩ (.int .i64 Su)).setCell ⟨w.heap.size + 1 + 1 + 1 + 1, 1, none⟩ (.slice au nu cu)).setCell ⟨w.heap.size + 1 + 1 + 1 + 1, 2, none⟩ (.int .i64 Eu))) := by
              refine ⟨hc2, ?_, hbel⟩
              rw [HS4.out]
              have e : det3 X0 Y0 X1 Y1 X2 Y2 = X0 * (Y1 * (X2 * X2 + Y2 * Y2) - Y2 * (X1 * X1 + Y1 * Y1)) - Y0 * (X1 * (X2 * X2 + Y2 * Y2) - X2 * (X1 * X1 + Y1 * Y1)) + (X0 * X0 + Y0 * Y0) * (X1 * Y2 - X2 * Y1) := by unfold det3; grind
              rw [e]
              exact hu2
            clear hu1 hu2 hc2 hbel hm hmb hO hS hB4 hpts hlow i0 i1 i2 j0 j1 j2 k0 k1 k2
            refine call_at 5 (by kernel_rfl) (by kernel_rfl) ?_
            intro o ho
            simp only [List.getElem?_toArray, List.getElem?_cons_succ, List.getElem?_cons_zero, Option.some.injEq] at ho
            subst ho
            intro KF hK
            go_simp
            go_wp2_with fail
            refine hK.out _ _ hS2 ?_
            intro _
            clear hK KF f0 f1 f2 g0 g1 g2 hS2 hc
            try simp only [List.setIfInBounds_toArray, List.set_cons_zero, List.set_cons_succ]
            refine wpAnyH_done (by kernel_rfl) ?_ _
            go_wp2
            obtain ⟨x0', x1', x2'⟩ := HE.out.1.cells3
            refine bodyPost_ret (v := (.agg #[.int .i64 Su, .slice au nu cu, .int .i64 Eu])) (by simp [results, Try.results33, go_sem, x0', x1', x2']) rfl ?_
            exact ⟨_, rfl, HE.out.2.1, HE.out.2.2⟩
          · exact ⟨undef, undef, undef, 0, by rw [hA]; rfl, hS, fun h => Bool.noConfusion h, fun h => by omega, fun h => by omega⟩
        · exact ⟨undef, undef, undef, 0, by rw [hA]; rfl, hS, fun h => Bool.noConfusion h, fun h => by omega, fun h => by omega⟩
      · exact ⟨undef, undef, undef, 0, by rw [hA]; rfl, hS, fun h => Bool.noConfusion h, fun h => by omega, fun h => by omega⟩

end Go.Proofs.Ytghchejehlljkaa
