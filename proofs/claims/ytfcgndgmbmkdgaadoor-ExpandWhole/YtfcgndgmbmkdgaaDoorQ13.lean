/- Own texts, put together: Va Pl Pm Vb Ln Vd. -/
import Derived.Test.YtfcgndgmbmkdgaaDoorQ2
import Derived.Test.YtfcgndgmbmkdgaaDoorQ5
import Derived.Test.YtfcgndgmbmkdgaaDoorQ9
import Derived.Test.YtfcgndgmbmkdgaaDoorQ12
import Derived.Deep.CutRange
import Derived.Deep.DeepCutAuto
import Derived.Below
/- append to a row of the call's own, and what its block holds. -/
namespace Go.Proofs.YtfcgndgmbmkdgaaDoor
open Go Go.RowKit

/-- No cell of the block is what Good bars. -/
def GoodB (Good : Value → Prop) (w : World) (row : Option Nat) : Prop := ∀ g, row = some g → ∀ j u, w.cell? ⟨g, j, none⟩ = some u → Good u

section
variable {P : Program} (w : World)

theorem mem_zeroCells {z : Array Value} {n : Nat} {u : Value} (hz : 0 < z.size) (h : u ∈ Builtin.zeroCells z n) : u ∈ z := by
  unfold Builtin.zeroCells at h
  obtain ⟨i, _, rfl⟩ := Array.mem_map.1 h
  have hi : i % z.size < z.size := Nat.mod_lt _ hz
  rw [getElem!_pos z (i % z.size) hi]
  exact Array.getElem_mem hi
theorem cell_mem {w : World} {g j : Nat} {cs : Array Value} {t : TypeId} {fr : Nat × Nat} {u : Value} (hg : w.heap[g]? = some (.cells cs t fr)) (h : w.cell? ⟨g, j, none⟩ = some u) : u ∈ cs := by
  have : cs[j]? = some u := by simpa [World.cell?, hg] using h
  obtain ⟨hj, rfl⟩ := Array.getElem?_eq_some_iff.1 this
  exact Array.getElem_mem hj

theorem run_append_good (Good : Value → Prop) (base : Nat) (t ty e : TypeId) (i : TypeInfo) (z : Value) (size bytes : Nat) (ht : P.underlying t = some (.slice e)) (hi : P.info? e = some i) (hz : i.zero = some z)
    (hsize : i.size = size) (hby : i.bytes = bytes) (hzs : z.cells.size = size) (hsz : 0 < size)
    (v : Value) (n : Nat) (xs : List Value) (hown : w.ownsRow base e size v n xs)
    (a : Addr) (m c : Nat) (news : List Value) (hl : news.length = m * size) (hnews : ∀ j u, news[j]? = some u → w.cell? (a.add j) = some u) (h1 : ∀ u ∈ news, u.oneCell' = true)
    (h63 : n + m ≤ maxLen) (hbytes : (n + m) * bytes ≤ 140737488355328) (hbase : base ≤ w.heap.size)
    (hgv : GoodB Good w v.ownBlock) (hgz : ∀ u ∈ z.cells, Good u) (hgn : ∀ u ∈ news, Good u) :
    ∃ v' w', (Builtin.append_ #[t, t] ty #[v, .slice (some a) m c]).run P w = .ok v' w' ∧ w'.ownsRow base e size v' (n + m) (xs ++ news) ∧ w.grownBy w' v.ownBlock ∧ GoodB Good w' v'.ownBlock := by
  subst hsize
  subst hby
  have hsmall : n + m ≤ 9223372036854775807 := by simp only [maxLen] at h63; omega
  have hlen : (xs ++ news).length = (n + m) * i.size := by rw [List.length_append, hown.1, hl, Nat.add_mul]
  have hgx : ∀ u ∈ xs, Good u := by
    intro u hu
    obtain ⟨j, hj⟩ := List.getElem?_of_mem hu
    rcases hown.2 with ⟨rfl, rfl⟩ | ⟨g, cap, cur, rfl, _⟩
    · have hx : xs = [] := List.eq_nil_of_length_eq_zero (by simpa using hown.1)
      rw [hx] at hu; cases hu
    · have := hown.cells (g := g) rfl j u hj
      rw [show (⟨g, 0, none⟩ : Addr).add j = ⟨g, j, none⟩ by unfold Addr.add; split <;> simp_all] at this
      exact hgv g rfl j u this
  have grown : ∀ (old : Nat), old < n + m → ∀ (row : Option Nat),
      (w.drew.alloc (.cells (xs.toArray ++ news.toArray ++ Builtin.zeroCells z.cells (grownCap w (n + m) old e - (n + m))) e)).ownsRow base e i.size
        (.slice (some ⟨w.heap.size, 0, none⟩) (n + m) (grownCap w (n + m) old e)) (n + m) (xs ++ news) ∧
      w.grownBy (w.drew.alloc (.cells (xs.toArray ++ news.toArray ++ Builtin.zeroCells z.cells (grownCap w (n + m) old e - (n + m))) e)) row ∧
      GoodB Good (w.drew.alloc (.cells (xs.toArray ++ news.toArray ++ Builtin.zeroCells z.cells (grownCap w (n + m) old e - (n + m))) e)) (some w.heap.size) := by
    intro old ho row
    have hge := grownCap_ge w (n + m) old e
    have hcm : grownCap w (n + m) old e ≤ maxLen := grownCap_le_maxLen w (n + m) old e h63
    refine ⟨⟨hlen, .inr ⟨w.heap.size, _, _, rfl, hbase, heap_alloc_new w.drew _, hge, hcm, ?_, ?_⟩⟩, ⟨rfl, rfl, rfl, by simp, fun k hk _ => Below.heap_alloc w.drew _ k hk⟩, ?_⟩
    · simp only [Array.size_append, List.size_toArray, size_zeroCells, hzs, hown.1, hl, ← Nat.add_mul]
      congr 1
      omega
    · simp only [Array.toList_append, List.append_assoc]
      rw [← List.append_assoc, ← hlen]
      exact List.take_left
    · intro g hg j u hu
      cases hg
      have hm := cell_mem (heap_alloc_new w.drew _) hu
      rcases Array.mem_append.1 hm with hm | hm
      · rcases Array.mem_append.1 hm with hm | hm
        · exact hgx u (by simpa using hm)
        · exact hgn u (by simpa using hm)
      · exact hgz u (mem_zeroCells (by omega) hm)
  rcases hown.2 with ⟨rfl, rfl⟩ | ⟨g, cap, cur, rfl, hbg, hg, hnc, hcm, hcs, htake⟩
  · have hx : xs = [] := List.eq_nil_of_length_eq_zero (by simpa using hown.1)
    subst hx
    by_cases hm : m = 0
    · subst hm
      have hn : news = [] := List.eq_nil_of_length_eq_zero (by simpa using hl)
      subst hn
      refine ⟨.slice none 0 0, w, ?_, World.ownsRow_nil w base e i.size, ⟨rfl, rfl, rfl, Nat.le_refl _, fun _ _ _ => rfl⟩, fun g hg => by cases hg⟩
      simp [Builtin.append_, run_underlying ht, sizeOf, typeInfo, hi, Builtin.lenOf, Builtin.firstCells, loadCells, loadCellsFrom]
    · have hr := run_append_nil (P := P) w t ty e i z ht hi hz a m c news hl hnews (by omega) (by omega) (by have hb := hbytes; simp only [Nat.zero_add] at hb; omega)
      have hgr := grown 0 (by omega) (Value.ownBlock (.slice none 0 0))
      simp only [Nat.zero_add, List.nil_append, Array.empty_append] at hgr ⊢
      exact ⟨_, _, hr, hgr.1, hgr.2.1, hgr.2.2⟩
  · by_cases hroom : n + m ≤ cap
    · have hfit : n * i.size + news.length ≤ cur.size := by rw [hl, hcs, ← Nat.add_mul]; exact Nat.mul_le_mul_right _ hroom
      have hr := run_append_room (P := P) w t ty e i ht hi g n cap cur hg a m c news hl hnews h1 hroom hfit
      refine ⟨_, _, hr, ⟨hlen, .inr ⟨g, cap, _, rfl, hbg, setRow_heap w g cur _ e _ hg, hroom, hcm, ?_, ?_⟩⟩, ⟨rfl, rfl, rfl, by simp, fun k _ hk => setRow_other w g k _ (fun e => hk (by simp [Value.ownBlock, e]))⟩, ?_⟩
      · simp only [List.size_toArray, List.length_append, List.length_take, List.length_drop, Array.length_toList]
        omega
      · rw [htake, ← hlen]
        exact List.take_left
      · intro g' hg' j u hu
        obtain rfl : g' = g := by simpa [Value.ownBlock] using hg'.symm
        have hm := cell_mem (setRow_heap w g' cur _ e _ hg) hu
        have hcur : ∀ x ∈ cur.toList, Good x := fun x hx => by
          obtain ⟨k, hk⟩ := List.getElem?_of_mem hx
          refine hgv g' rfl k x ?_
          simp only [World.cell?, hg]
          simpa using hk
        rw [List.mem_toArray] at hm
        rcases List.mem_append.1 hm with hm | hm
        · rcases List.mem_append.1 hm with hm | hm
          · exact hcur u (List.mem_of_mem_take hm)
          · exact hgn u hm
        · exact hcur u (List.mem_of_mem_drop hm)
    · have holds : ∀ j u, xs[j]? = some u → w.cell? ((⟨g, 0, none⟩ : Addr).add j) = some u := hown.cells (g := g) rfl
      have hr := run_append_grow (P := P) w t ty e i z ht hi hz ⟨g, 0, none⟩ n cap xs hown.1 holds a m c news hl hnews (by omega) (by omega) (growslice_fits (by omega) hbytes)
      have hgr := grown cap (by omega) (Value.ownBlock (.slice (some ⟨g, 0, none⟩) n cap))
      exact ⟨_, _, hr, hgr.1, hgr.2.1, hgr.2.2⟩

theorem wpList_append_good (Good : Value → Prop) {ops : Array Oper} {rest : List Oper} {o : Oper} {aa : Act} {Q : Exit → Act → World → Prop} (hgd : o.guard = none) (s x : Operand) (t : TypeId)
    (ho : o.op = .call { callee := .builtin .append, args := #[s, x], argTypes := #[t, t] })
    (base : Nat) (e : TypeId) (i : TypeInfo) (z : Value) (size bytes : Nat) (ht : P.underlying t = some (.slice e)) (hi : P.info? e = some i) (hz : i.zero = some z)
    (hsize : i.size = size) (hby : i.bytes = bytes) (hzs : z.cells.size = size) (hsz : 0 < size)
    (v : Value) (n : Nat) (xs : List Value) (hs : aa.eval s = v) (hown : w.ownsRow base e size v n xs)
    (ad : Addr) (m c : Nat) (news : List Value) (hx : aa.eval x = .slice (some ad) m c) (hl : news.length = m * size) (hnews : ∀ j u, news[j]? = some u → w.cell? (ad.add j) = some u) (h1 : ∀ u ∈ news, u.oneCell' = true)
    (h63 : n + m ≤ maxLen) (hbytes : (n + m) * bytes ≤ 140737488355328) (hbase : base ≤ w.heap.size)
    (hgv : GoodB Good w v.ownBlock) (hgz : ∀ u ∈ z.cells, Good u) (hgn : ∀ u ∈ news, Good u)
    (h : ∀ v' w', w'.ownsRow base e size v' (n + m) (xs ++ news) → w.grownBy w' v.ownBlock → GoodB Good w' v'.ownBlock → wpList P ops Q rest (aa.put o.dst v') w') :
    wpList P ops Q (o :: rest) aa w := by
  refine wpList_plain hgd fun K hK => ?_
  obtain ⟨v', w', hr, h2, h3, h4⟩ := run_append_good (P := P) w Good base t o.type e i z size bytes ht hi hz hsize hby hzs hsz v n xs hown ad m c news hl hnews h1 h63 hbytes hbase hgv hgz hgn
  unfold Oper.wp execOp
  simp only [ho, resolve, invoke, builtin, Sem.run_bind, Sem.run_pure, Result.andThen_ok, List.map_toArray, List.map_cons, List.map_nil, hs, hx, hr]
  exact hK _ _ (h v' w' h2 h3 h4)
end

end Go.Proofs.YtfcgndgmbmkdgaaDoor

/- The law's number of a list of floats, by package whole. -/
namespace Go.Proofs.YtfcgndgmbmkdgaaDoor
open Go.RowKit Go.Shelf
attribute [local go_sem ↓] Go.wp_at_zero Go.wp_at_succ

/-- A box of a whole number. -/
def BoxV (w : World) (b : Nat) (s : Value) (low : Int) (neg nn : Bool) : Prop := w.heap[b]? = some (.cells #[s, .int .i64 low, .bool neg, .bool nn] 35 (0, 0))
theorem BoxV.cells {w : World} {b : Nat} {s : Value} {low : Int} {neg nn : Bool} (h : BoxV w b s low neg nn) : w.cell? ⟨b, 0, none⟩ = some s ∧ w.cell? ⟨b, 1, none⟩ = some (.int .i64 low) ∧ w.cell? ⟨b, 2, none⟩ = some (.bool neg) ∧ w.cell? ⟨b, 3, none⟩ = some (.bool nn) ∧ (∀ i, w.frozen? ⟨b, i, none⟩ = false) ∧ b < w.heap.size := by
  unfold BoxV at h
  refine ⟨by simp [World.cell?, h], by simp [World.cell?, h], by simp [World.cell?, h], by simp [World.cell?, h], fun i => by simp [World.frozen?, h], ?_⟩
  exact (Array.getElem?_eq_some_iff.1 h).1
theorem BoxV.block {w w' : World} {b : Nat} {s : Value} {low : Int} {neg nn : Bool} (h : BoxV w b s low neg nn) (he : w'.heap[b]? = w.heap[b]?) : BoxV w' b s low neg nn := by
  unfold BoxV at *; rw [he]; exact h
theorem BoxV.alloc {w : World} {b : Nat} {s : Value} {low : Int} {neg nn : Bool} (h : BoxV w b s low neg nn) (o : Obj) : BoxV (w.alloc o) b s low neg nn := h.block (Below.heap_alloc w o b h.cells.2.2.2.2.2)
theorem BoxV.other {w : World} {b : Nat} {s : Value} {low : Int} {neg nn : Bool} (h : BoxV w b s low neg nn) {a : Addr} (hn : b ≠ a.block) (v : Value) : BoxV (w.setCell a v) b s low neg nn := h.block (Below.heap_setCell w a v b hn)
theorem BoxV.later {w w' : World} {b : Nat} {s : Value} {low : Int} {neg nn : Bool} (h : BoxV w b s low neg nn) (hb : Below w.heap.size w w') : BoxV w' b s low neg nn := h.block (hb.block _ h.cells.2.2.2.2.2)
theorem BoxV.other4 {W : World} {b b' : Nat} {s : Value} {low : Int} {neg nn : Bool} (h : BoxV W b' s low neg nn) (hne : b' ≠ b) (x y z u : Value) : BoxV ((((W.setCell ⟨b, 0, none⟩ x).setCell ⟨b, 1, none⟩ y).setCell ⟨b, 2, none⟩ z).setCell ⟨b, 3, none⟩ u) b' s low neg nn := (((h.other hne x).other hne y).other hne z).other hne u
theorem BoxV.set4 {W : World} {b : Nat} {s s' : Value} {low low' : Int} {neg nn neg' nn' : Bool} (h : BoxV W b s low neg nn) : BoxV ((((W.setCell ⟨b, 0, none⟩ s').setCell ⟨b, 1, none⟩ (.int .i64 low')).setCell ⟨b, 2, none⟩ (.bool neg')).setCell ⟨b, 3, none⟩ (.bool nn')) b s' low' neg' nn' := by
  unfold BoxV at *
  simp [World.setCell, Array.getElem?_modify, h]
theorem BoxV.new (W : World) (s : Value) (low : Int) (neg nn : Bool) : BoxV (W.alloc (.cells #[s, .int .i64 low, .bool neg, .bool nn] 35)) W.heap.size s low neg nn := heap_alloc_new W _
structure NumV (w wr : World) (a : Option Addr) (n c : Nat) (low : Int) (neg nn : Bool) (q : Rat) : Prop where
  b0 : BoxV wr w.heap.size (.slice none 0 0) 0 false false
  b1 : BoxV wr (w.heap.size + 1) (.slice a n c) low neg nn
  num : IsNum wr (.agg #[.slice a n c, .int .i64 low, .bool neg, .bool nn]) (some q)
  bel : Below w.heap.size w wr
theorem NumV.start (w : World) : NumV w ((w.alloc (.cells #[.slice none 0 0, .int .i64 0, .bool false, .bool false] 35)).alloc (.cells #[.slice none 0 0, .int .i64 0, .bool false, .bool false] 35)) none 0 0 0 false false 0 :=
  ⟨(BoxV.new w _ 0 _ _).alloc _, by have := BoxV.new (w.alloc (.cells #[.slice none 0 0, .int .i64 0, .bool false, .bool false] 35)) (.slice none 0 0) 0 false false; simpa using this, isNum_zero _, ((Below.refl _ w).alloc (Nat.le_refl _) _).alloc (by simp) _⟩
theorem NumV.later {w wr wr' : World} {a : Option Addr} {n c : Nat} {low : Int} {neg nn : Bool} {q : Rat} (h : NumV w wr a n c low neg nn q) (hb : Below wr.heap.size wr wr') : NumV w wr' a n c low neg nn q := ⟨h.b0.later hb, h.b1.later hb, h.num.later hb, below_step h.bel hb⟩
theorem NumV.drew {w wr : World} {a : Option Addr} {n c : Nat} {low : Int} {neg nn : Bool} {q : Rat} (h : NumV w wr a n c low neg nn q) : NumV w wr.drew a n c low neg nn q := ⟨h.b0, h.b1, h.num.later ⟨rfl, rfl, rfl, Nat.le_refl _, fun _ _ => rfl⟩, h.bel.drew⟩
theorem NumV.set {w wr : World} {a a' : Option Addr} {n c n' c' : Nat} {low low' : Int} {neg nn neg' nn' : Bool} {q q' : Rat} (h : NumV w wr a n c low neg nn q) (hr : IsNum wr (.agg #[.slice a' n' c', .int .i64 low', .bool neg', .bool nn']) (some q')) : NumV w ((((wr.setCell ⟨w.heap.size + 1, 0, none⟩ (.slice a' n' c')).setCell ⟨w.heap.size + 1, 1, none⟩ (.int .i64 low')).setCell ⟨w.heap.size + 1, 2, none⟩ (.bool neg')).setCell ⟨w.heap.size + 1, 3, none⟩ (.bool nn')) a' n' c' low' neg' nn' q' := by
  obtain ⟨t0, t1, t2, t3, _⟩ := h.b1.cells
  exact ⟨h.b0.other4 (by omega) _ _ _ _, h.b1.set4, isNum_set4g hr t0 t1 t2 t3 _ _ _ _, (((h.bel.setCell (by show w.heap.size ≤ w.heap.size + 1; omega) _).setCell (by show w.heap.size ≤ w.heap.size + 1; omega) _).setCell (by show w.heap.size ≤ w.heap.size + 1; omega) _).setCell (by show w.heap.size ≤ w.heap.size + 1; omega) _⟩

set_option maxRecDepth 100000 in
set_option maxHeartbeats 8000000 in
theorem numberV_walk (g off c0 n : Nat) (bs : List Nat) (w : World) (hT : Tab w) (hc : ∀ k, k < n → w.cell? ⟨g, off + k, none⟩ = some (.float .f64 (bs.getD k 0))) (hw : ∀ b ∈ bs, b < 18446744073709551616) (hn : bs.length = n) (hl : n ≤ 100) (hf : ∀ b ∈ bs, Fin64 b) :
    Calls Tryd.prog 16 #[.slice (some ⟨g, off, none⟩) n c0] w fun e w' => OpR w w' (fun x => x = some ((bs.map den).sum)) e := by
  have HC : Hid (∀ k, k < n → w.cell? ⟨g, off + k, none⟩ = some (.float .f64 (bs.getD k 0))) := hc
  have HW : Hid (∀ b ∈ bs, b < 18446744073709551616) := hw
  have HF : Hid (∀ b ∈ bs, Fin64 b) := hf
  have HN : Hid (bs.length = n) := hn
  have HT : Hid (Tab w) := hT
  have l1 : (n : Int) ≤ 100 := by omega
  clear hc hw hn hl hf hT
  go_enter Tryd.func16, Tryd.ntmps16
  go_wp2
  go_loopw [4] (fun i wr => ∃ (k : Nat) (a : Option Addr) (m d : Nat) (low : Int) (neg nn : Bool), k ≤ n ∧ i = .int .i64 (k : Nat) ∧ Hid (NumV w wr a m d low neg nn (denL bs k))) (fun i _ => n - (intOf i).toNat)
  case atStart => exact ⟨0, none, 0, 0, 0, false, false, Nat.zero_le _, rfl, NumV.start w⟩
  case round =>
    obtain ⟨k, a, m, d, low, neg, nn, hk, rfl, hz⟩ := hrel
    by_cases hlt : k < n
    · have hlt' : (k : Int) < (n : Int) := by omega
      have hk0 : (0 : Int) ≤ (k : Int) := by omega
      have hck := box_cell hz.out.bel (HC.out k hlt)
      obtain ⟨x, hx⟩ : ∃ x : Nat, Hid (bs.getD k 0 = x) := ⟨_, rfl⟩
      rw [hx.out] at hck
      have HX : Hid (x < 18446744073709551616) := by show x < _; rw [← hx.out]; exact getD_word HW.out k
      have HXM : Hid (x ∈ bs) := by
        show x ∈ bs
        rw [← hx.out]
        have hkl : k < bs.length := by rw [HN.out]; exact hlt
        have e : bs.getD k 0 = bs[k] := by simp [List.getD, hkl]
        rw [e]; exact List.getElem_mem hkl
      obtain ⟨d0, d1, d2, d3, _, _⟩ := hz.out.b1.cells
      have HM : Hid (May (denL bs k + den x)) := ((((denL_bd bs k (by rw [HN.out]; omega)).mono (by omega) (Int.le_refl _) : Bd 1200 (-1074) _).add ((den_fit x).mono (by omega) (Int.le_refl _)))).may (by omega) (by omega)
      go_wp2
      go_region_with (first
        | (go_at_call 7; refine (ofW_any x _ (HT.out.later hz.out.drew.bel) HX.out).mono ?_; rintro e w2 ⟨v2, x2, rfl, hr2, hx2, hb2⟩; have hx2 := hx2.trans (if_pos (HF.out x HXM.out)); rw [hx2, ← den_fin (HF.out x HXM.out)] at hr2; clear hx2; have HZ2 : Hid (NumV w w2 a m d low neg nn (denL bs k)) := hz.out.drew.later hb2; obtain ⟨e0, e1, e2, e3, _, _⟩ := HZ2.out.b1.cells)
        | (go_at_call 38; refine (add_any _ _ _ _ _ HZ2.out.num hr2 (HT.out.later HZ2.out.bel)).mono ?_; rintro e w3 ⟨v3, x3, rfl, hr3, hx3, hb3⟩; obtain ⟨a3, n3, c3, low3, neg3, nn3, rfl, hr3⟩ := isNum_form hr3; rw [op2_may hx3 HM.out] at hr3; clear hx3; have HZ3 : Hid (NumV w w3 a m d low neg nn (denL bs k)) := HZ2.out.later hb3; obtain ⟨f0, f1, f2, f3, ef, _⟩ := HZ3.out.b1.cells; have ef0 := ef 0; have ef1 := ef 1; have ef2 := ef 2; have ef3 := ef 3; clear ef))
      all_goals go_wp2
      all_goals exact ⟨⟨k + 1, a3, n3, c3, low3, neg3, nn3, by omega, by go_num, by rw [denL_succ (by rw [HN.out]; exact hlt), hx.out]; exact HZ3.out.set hr3⟩, by simp [intOf]; omega⟩
    · obtain rfl : k = n := by omega
      have hltb : decide ((k : Int) < (k : Int)) = false := decide_eq_false (by omega)
      obtain ⟨d0, d1, d2, d3, _, _⟩ := hz.out.b1.cells
      obtain ⟨t0, t1, t2, t3, tf, _⟩ := hz.out.b0.cells
      have tf0 := tf 0
      have tf1 := tf 1
      have tf2 := tf 2
      have tf3 := tf 3
      clear tf
      go_wp2
      refine bodyPost_ret (v := .agg #[.slice a m d, .int .i64 low, .bool neg, .bool nn]) (by simp [results, Tryd.results16, go_sem, t0, t1, t2, t3]) rfl ?_
      have e : denL bs k = (bs.map den).sum := by unfold denL; rw [← HN.out, List.take_length]
      rw [← e]
      refine ⟨_, _, rfl, isNum_set4g hz.out.num t0 t1 t2 t3 _ _ _ _, rfl, ?_⟩
      exact (((hz.out.bel.setCell (Nat.le_refl _) _).setCell (Nat.le_refl _) _).setCell (Nat.le_refl _) _).setCell (Nat.le_refl _) _

set_option maxRecDepth 100000 in
set_option maxHeartbeats 1000000 in
theorem numberV_none (a : Option Addr) (c : Nat) (w : World) : Calls Tryd.prog 16 #[.slice a 0 c] w fun e w' => OpR w w' (fun x => x = some 0) e := by
  go_enter Tryd.func16, Tryd.ntmps16
  go_wp2
  go_loopw [4] (fun i wr => i = .int .i64 0 ∧ Hid (NumV w wr none 0 0 0 false false 0)) (fun _ _ => 0)
  case atStart => exact ⟨rfl, NumV.start w⟩
  case round =>
    obtain ⟨rfl, hz⟩ := hrel
    obtain ⟨d0, d1, d2, d3, _, _⟩ := hz.out.b1.cells
    obtain ⟨t0, t1, t2, t3, tf, _⟩ := hz.out.b0.cells
    have tf0 := tf 0
    have tf1 := tf 1
    have tf2 := tf 2
    have tf3 := tf 3
    clear tf
    go_wp2
    refine bodyPost_ret (v := .agg #[.slice none 0 0, .int .i64 0, .bool false, .bool false]) (by simp [results, Tryd.results16, go_sem, t0, t1, t2, t3]) rfl ?_
    refine ⟨_, _, rfl, isNum_zero _, rfl, ?_⟩
    exact (((hz.out.bel.setCell (Nat.le_refl _) _).setCell (Nat.le_refl _) _).setCell (Nat.le_refl _) _).setCell (Nat.le_refl _) _
theorem numberV_any (s : Value) (bs : List Nat) (w : World) (hT : Tab w) (h : Fs w s bs) (hl : bs.length ≤ 100) (hf : ∀ b ∈ bs, Fin64 b) : Calls Tryd.prog 16 #[s] w fun e w' => OpR w w' (fun x => x = some (vals bs).sum) e := by
  obtain ⟨⟨a, c, rfl, hc, hm, hf'⟩, hw⟩ := h
  rcases hf' with rfl | ⟨g, off, rfl, hf'⟩
  · exact numberV_none a c w
  · rw [← den_sum hf]
    exact numberV_walk g off c bs.length bs w hT hf' hw rfl hl hf

end Go.Proofs.YtfcgndgmbmkdgaaDoor

/- ExpandLeads: the walk. -/
namespace Go.Proofs.YtfcgndgmbmkdgaaDoor
open Go.RowKit Go.Shelf
attribute [local go_sem ↓] Go.wp_at_zero Go.wp_at_succ

theorem sgq_sgn (q : Rat) : sgq q = sgnR q := by unfold sgq sgnR cmpR; grind
theorem cmp_less {p q : Rat} (h : p < q) : CmpX (some p) (some q) = -1 := by show cmpR p q = -1; unfold cmpR; rw [if_pos h]
theorem lead_low {ds : List Rat} {c : Rat} (h : Ex (ds ++ [c])) {l m : Int} (hc : c = (m : Rat) * p2 l) (hm : m % 2 = 1) (hl : -1074 ≤ l) : ab ds.sum < p2 l := by
  by_cases e : ds = []
  · subst e; rw [List.sum_nil, show ab 0 = 0 by unfold ab; grind]; exact p2_pos l
  · obtain ⟨t, h1, h2⟩ := lo_many (fun d hd => (List.pairwise_append.1 h.1).2.2 d hd c (by simp)) e
    exact (lo_low hc hm hl).1 ⟨t, h.left.bound h1, h2⟩
theorem lastW_mem {es : List Nat} (h : es ≠ []) : lastW es ∈ es := by
  obtain ⟨ds, hd⟩ := vals_last h
  have : lastW es ∈ ds ++ [lastW es] := by simp
  rwa [← hd] at this
theorem lead_facts {es : List Nat} (h : Up 2065 es) (hne : es ≠ []) : sgnR (fval (lastW es)) = sgnR (vals es).sum ∧ (∀ l, LowOf (fval (lastW es)) l → -1074 ≤ l ∧ l ≤ 1024 ∧ ab ((vals es).sum - fval (lastW es)) < p2 l) := by
  obtain ⟨ds, hd⟩ := vals_last hne
  have e2 : vals es = vals ds ++ [fval (lastW es)] := by
    conv => lhs; rw [hd]
    simp [vals]
  refine ⟨?_, ?_⟩
  · rw [← sgq_sgn, ← sgq_sgn]; exact sgq_last h.ex
  · intro l hl
    have hx := h.ex
    rw [e2] at hx
    have hf : Fin64 (lastW es) := h.fin _ (lastW_mem hne)
    rcases hl with ⟨h0, _⟩ | ⟨m, hm⟩
    · exact absurd h0 (hx.2 _ (by simp))
    · have ho : (2 * m + 1) % 2 = 1 := by omega
      obtain ⟨b1, b2⟩ := low_bounds (x := lastW es) (by rw [den_fin hf]; exact hm) ho
      refine ⟨b1, b2, ?_⟩
      have := lead_low hx hm ho b1
      rw [e2, List.sum_append, List.sum_cons, List.sum_nil, Rat.add_zero, show (vals ds).sum + fval (lastW es) - fval (lastW es) = (vals ds).sum by grind]
      exact this
theorem signS_any (s : Value) (es : List Nat) (w : World) (sa : Int) (h : Fs w s es) (hm : MayC es) (hs : sgnR (vals es).sum = sa) : Calls Tryd.prog 14 #[s] w fun e w' => e = .returned (.int .i64 sa) ∧ Below w.heap.size w w' := by
  refine (signE_any s es w h).mono ?_
  rintro e w' ⟨⟨z, rfl, hz, _⟩, hw⟩
  rw [hw]
  exact ⟨by rw [hz hm, sgq_sgn, hs], Below.refl _ _⟩
theorem checkT_any (s : Value) (es : List Nat) (w : World) (h : Fs w s es) (hm : MayC es) : Calls Tryd.prog 13 #[s] w fun e w' => e = .returned (.bool true) ∧ Below w.heap.size w w' := by
  refine (check_any s es w h).mono ?_
  rintro e w' ⟨⟨z, rfl, hz⟩, hw⟩
  rw [hw]
  exact ⟨by rw [hz.2 hm], Below.refl _ _⟩
theorem checkF_any (s : Value) (es : List Nat) (w : World) (h : Fs w s es) (hm : ¬ MayC es) : Calls Tryd.prog 13 #[s] w fun e w' => e = .returned (.bool false) ∧ Below w.heap.size w w' := by
  refine (check_any s es w h).mono ?_
  rintro e w' ⟨⟨z, rfl, hz⟩, hw⟩
  rw [hw]
  refine ⟨?_, Below.refl _ _⟩
  cases z with
  | false => rfl
  | true => exact absurd (hz.1 rfl) hm

end Go.Proofs.YtfcgndgmbmkdgaaDoor

/- ExpandWhole: two rows that grow: what is read stays as it was. -/
namespace Go.Proofs.YtfcgndgmbmkdgaaDoor
open Go.RowKit Go.Shelf
attribute [local go_sem ↓] Go.wp_at_zero Go.wp_at_succ

/-- Neither a word of a number nor a float. -/
def GoodU (u : Value) : Prop := (∀ x, u ≠ .int .u64 x) ∧ ∀ b, u ≠ .float .f64 b
theorem goodB_nil (w : World) : GoodB GoodU w (Value.ownBlock (.slice none 0 0)) := fun g hg => by cases hg
theorem GoodB.later {w w' : World} {row : Option Nat} (h : GoodB GoodU w row) (hr : ∀ g, row = some g → g < w.heap.size) (hb : Below w.heap.size w w') : GoodB GoodU w' row := by
  intro g hg j u hu
  have hh := hb.block g (hr g hg)
  rw [World.cell?_of_block (a := ⟨g, j, none⟩) hh] at hu
  exact h g hg j u hu
theorem GoodB.kept {w w' : World} {row row' : Option Nat} (h : GoodB GoodU w row) (hr : ∀ g, row = some g → g < w.heap.size) (hg : w.grownBy w' row') (hn : ∀ g, row = some g → row' ≠ some g) : GoodB GoodU w' row := by
  intro g hgr j u hu
  have hh := hg.block g (hr g hgr) (fun e => hn g hgr e.symm)
  rw [World.cell?_of_block (a := ⟨g, j, none⟩) hh] at hu
  exact h g hgr j u hu
theorem fs_grown {w w' : World} {s : Value} {bs : List Nat} {row : Option Nat} (h : Fs w s bs) (hg : w.grownBy w' row) (hgood : GoodB GoodU w row) : Fs w' s bs := by
  obtain ⟨⟨a, c, h1, h2, h3, h4⟩, hw⟩ := h
  refine ⟨⟨a, c, h1, h2, h3, ?_⟩, hw⟩
  rcases h4 with h4 | ⟨b, off, e, h4⟩
  · exact Or.inl h4
  · refine Or.inr ⟨b, off, e, fun k hk => ?_⟩
    have hc := h4 k hk
    have hlt : b < w.heap.size := World.block_lt_of_cell? _ _ hc
    have hne : some b ≠ row := fun er => (hgood b er.symm (off + k) _ hc).2 _ rfl
    rw [World.cell?_of_block (a := ⟨b, off + k, none⟩) (hg.block b hlt hne)]
    exact hc
theorem ws_grown {w w' : World} {s : Value} {ns : List Nat} {row : Option Nat} (h : Ws w s ns) (hg : w.grownBy w' row) (hgood : GoodB GoodU w row) : Ws w' s ns := by
  obtain ⟨⟨a, cap, h1, h2, h4⟩, h5, h6⟩ := h
  refine ⟨⟨a, cap, h1, h2, ?_⟩, h5, h6⟩
  rcases h4 with h4 | ⟨b, off, e, hlt, h4⟩
  · exact Or.inl h4
  · refine Or.inr ⟨b, off, e, Nat.lt_of_lt_of_le hlt hg.size, fun k hk => ?_⟩
    have hc := h4 k hk
    have hne : some b ≠ row := fun er => (hgood b er.symm (off + k) _ hc).1 _ rfl
    rw [World.cell?_of_block (a := ⟨b, off + k, none⟩) (hg.block b hlt hne)]
    exact hc
theorem isNum_grown {w w' : World} {v : Value} {x : Option Rat} {row : Option Nat} (h : IsNum w v x) (hg : w.grownBy w' row) (hgood : GoodB GoodU w row) : IsNum w' v x := by
  obtain ⟨a, ns, c, low, neg, nn, h1, h2, h3⟩ := h
  exact ⟨a, ns, c, low, neg, nn, h1, ws_grown h2 hg hgood, h3⟩

/-- A number's parts. -/
structure NumW where
  a : Option Addr
  n : Nat
  c : Nat
  low : Int
  neg : Bool
  nn : Bool
abbrev NumW.ag (d : NumW) : Value := .agg #[.slice d.a d.n d.c, .int .i64 d.low, .bool d.neg, .bool d.nn]
abbrev NumW.cs (d : NumW) : List Value := [.slice d.a d.n d.c, .int .i64 d.low, .bool d.neg, .bool d.nn]
theorem isNum_parts {w : World} {v : Value} {x : Option Rat} (h : IsNum w v x) : ∃ d : NumW, v = .agg #[.slice d.a d.n d.c, .int .i64 d.low, .bool d.neg, .bool d.nn] := by
  obtain ⟨a, ns, c, low, neg, nn, h1, _⟩ := h
  exact ⟨⟨a, _, c, low, neg, nn⟩, h1⟩

theorem own_lt {W : World} {B e s n : Nat} {z : Value} {xs : List Value} (h : W.ownsRow B e s z n xs) : ∀ g, z.ownBlock = some g → g < W.heap.size := fun g hg => (h.lt g hg).2
theorem own_stay {W W' : World} {B e s n : Nat} {z : Value} {xs : List Value} (h : W.ownsRow B e s z n xs) (hb : Below W.heap.size W W') : W'.ownsRow B e s z n xs := by
  refine ⟨h.1, ?_⟩
  rcases h.2 with h1 | ⟨g, cap, cur, h1, h2, h3, h4⟩
  · exact Or.inl h1
  · refine Or.inr ⟨g, cap, cur, h1, h2, ?_, h4⟩
    rw [hb.block g (Array.getElem?_eq_some_iff.1 h3).1]; exact h3
theorem own_two {W : World} {B e e' s s' n n' : Nat} {z z' : Value} {xs xs' : List Value} (h : W.ownsRow B e s z n xs) (h' : W.ownsRow B e' s' z' n' xs') (hne : e ≠ e') : ∀ g, z.ownBlock = some g → z'.ownBlock ≠ some g := by
  intro g hg hg'
  rcases h.2 with ⟨rfl, _⟩ | ⟨a, cap, cur, rfl, _, k, _⟩
  · cases hg
  · rcases h'.2 with ⟨rfl, _⟩ | ⟨a', cap', cur', rfl, _, k', _⟩
    · cases hg'
    · obtain rfl : a = g := by simpa [Value.ownBlock] using hg
      obtain rfl : a' = a := by simpa [Value.ownBlock] using hg'
      rw [k] at k'
      simp at k'
      exact hne k'.2

/-- The row of expansions. -/
structure ER (B : Nat) (fs : Nat → Nat) (W : World) (z : Value) (k : Nat) (sv : Nat → Value) : Prop where
  own : W.ownsRow B 28 1 z k ((List.range k).map sv)
  good : GoodB GoodU W z.ownBlock
  fe : ∀ i, i < k → Fs W (sv i) [fs i]
/-- The row of numbers. -/
structure NR (B : Nat) (fs : Nat → Nat) (W : World) (z : Value) (k : Nat) (dv : Nat → NumW) : Prop where
  own : W.ownsRow B 35 4 z k ((List.range k).flatMap fun i => (dv i).cs)
  good : GoodB GoodU W z.ownBlock
  nu : ∀ i, i < k → IsNum W (dv i).ag (some (fval (fs i)))
theorem ER.later {B : Nat} {fs : Nat → Nat} {W W' : World} {z : Value} {k : Nat} {sv : Nat → Value} (h : ER B fs W z k sv) (hb : Below W.heap.size W W') : ER B fs W' z k sv := ⟨own_stay h.own hb, h.good.later (own_lt h.own) hb, fun i hi => (h.fe i hi).later hb⟩
theorem NR.later {B : Nat} {fs : Nat → Nat} {W W' : World} {z : Value} {k : Nat} {dv : Nat → NumW} (h : NR B fs W z k dv) (hb : Below W.heap.size W W') : NR B fs W' z k dv := ⟨own_stay h.own hb, h.good.later (own_lt h.own) hb, fun i hi => (h.nu i hi).later hb⟩
theorem ER.kept {B : Nat} {fs : Nat → Nat} {W W' : World} {z z' : Value} {k n s e : Nat} {sv : Nat → Value} {xs : List Value} (h : ER B fs W z k sv) (ho : W.ownsRow B e s z' n xs) (hne : 28 ≠ e) (hg : W.grownBy W' z'.ownBlock) (hgood : GoodB GoodU W z'.ownBlock) : ER B fs W' z k sv := by
  have hn := own_two h.own ho hne
  refine ⟨h.own.kept hg ?_, h.good.kept (own_lt h.own) hg hn, fun i hi => fs_grown (h.fe i hi) hg hgood⟩
  rcases hz : z.ownBlock with _ | g
  · left
    rcases h.own.2 with ⟨rfl, _⟩ | ⟨g, cap, cur, rfl, _⟩
    · rfl
    · cases hz
  · right
    exact fun e => hn g hz (by rw [← e])
theorem NR.kept {B : Nat} {fs : Nat → Nat} {W W' : World} {z z' : Value} {k n s e : Nat} {dv : Nat → NumW} {xs : List Value} (h : NR B fs W z k dv) (ho : W.ownsRow B e s z' n xs) (hne : 35 ≠ e) (hg : W.grownBy W' z'.ownBlock) (hgood : GoodB GoodU W z'.ownBlock) : NR B fs W' z k dv := by
  have hn := own_two h.own ho hne
  refine ⟨h.own.kept hg ?_, h.good.kept (own_lt h.own) hg hn, fun i hi => isNum_grown (h.nu i hi) hg hgood⟩
  rcases hz : z.ownBlock with _ | g
  · left
    rcases h.own.2 with ⟨rfl, _⟩ | ⟨g, cap, cur, rfl, _⟩
    · rfl
    · cases hz
  · right
    exact fun e => hn g hz (by rw [← e])
/-- One more. -/
def upd {α : Type} (f : Nat → α) (k : Nat) (x : α) (i : Nat) : α := if i = k then x else f i
theorem upd_map {α : Type} (f : Nat → α) (k : Nat) (x : α) : (List.range (k + 1)).map (upd f k x) = (List.range k).map f ++ [x] := by
  rw [List.range_succ, List.map_append]
  congr 1
  · apply List.map_congr_left
    intro i hi
    unfold upd
    rw [if_neg (by have := List.mem_range.1 hi; omega)]
  · simp [upd]
theorem upd_flat {α β : Type} (f : Nat → α) (g : α → List β) (k : Nat) (x : α) : ((List.range (k + 1)).flatMap fun i => g (upd f k x i)) = ((List.range k).flatMap fun i => g (f i)) ++ g x := by
  rw [List.range_succ, List.flatMap_append]
  congr 1
  · rw [List.flatMap_def, List.flatMap_def]
    congr 1
    apply List.map_congr_left
    intro i hi
    unfold upd
    rw [if_neg (by have := List.mem_range.1 hi; omega)]
  · simp [upd]
theorem ER.push {B : Nat} {fs : Nat → Nat} {W W' : World} {z z' s : Value} {k : Nat} {sv : Nat → Value} (h : ER B fs W z k sv) (hs : Fs W s [fs k]) (ho : W'.ownsRow B 28 1 z' (k + 1) ((List.range k).map sv ++ [s])) (hg : W.grownBy W' z.ownBlock) (hgood : GoodB GoodU W' z'.ownBlock) : ER B fs W' z' (k + 1) (upd sv k s) := by
  refine ⟨by rw [upd_map]; exact ho, hgood, fun i hi => ?_⟩
  unfold upd
  split
  · rename_i e
    rw [e]
    exact fs_grown hs hg h.good
  · exact fs_grown (h.fe i (by omega)) hg h.good
theorem NR.push {B : Nat} {fs : Nat → Nat} {W W' : World} {z z' : Value} {k : Nat} {dv : Nat → NumW} {d : NumW} (h : NR B fs W z k dv) (hs : IsNum W d.ag (some (fval (fs k)))) (ho : W'.ownsRow B 35 4 z' (k + 1) (((List.range k).flatMap fun i => (dv i).cs) ++ d.cs)) (hg : W.grownBy W' z.ownBlock) (hgood : GoodB GoodU W' z'.ownBlock) : NR B fs W' z' (k + 1) (upd dv k d) := by
  refine ⟨by rw [upd_flat dv NumW.cs]; exact ho, hgood, fun i hi => ?_⟩
  unfold upd
  split
  · rename_i e
    rw [e]
    exact isNum_grown hs hg h.good
  · exact isNum_grown (h.nu i (by omega)) hg h.good
theorem ER.nil (B : Nat) (fs : Nat → Nat) (W : World) (sv : Nat → Value) : ER B fs W (.slice none 0 0) 0 sv := ⟨World.ownsRow_nil W B _ 1, goodB_nil W, fun i hi => by omega⟩
theorem NR.nil (B : Nat) (fs : Nat → Nat) (W : World) (dv : Nat → NumW) : NR B fs W (.slice none 0 0) 0 dv := ⟨World.ownsRow_nil W B _ 4, goodB_nil W, fun i hi => by omega⟩
theorem infoSl : (Tryd.prog.info? 28).map (fun i => (i.zero, i.size, i.bytes)) = some (some (.slice none 0 0), 1, 24) := by kernel_rfl
theorem undSl : Tryd.prog.underlying 25 = some (.slice 28) := by kernel_rfl
theorem infoNw : (Tryd.prog.info? 35).map (fun i => (i.zero, i.size, i.bytes)) = some (some (.agg #[.slice none 0 0, .int .i64 0, .bool false, .bool false]), 4, 40) := by kernel_rfl
theorem undNw : Tryd.prog.underlying 26 = some (.slice 35) := by kernel_rfl

end Go.Proofs.YtfcgndgmbmkdgaaDoor

/- A drawn region in which one box is laid while a chain of operations goes on. -/
namespace Go.Proofs.YtfcgndgmbmkdgaaDoor
open Go Go.RowKit

section
variable {P : Program} {ops : Array Oper} {Q : Exit → Act → World → Prop} {md : Region.Mode} {S : World → Prop}

/-- One operation. -/
def Step1 (P : Program) (ops : Array Oper) (Q : Exit → Act → World → Prop) (S : World → Prop) (I I' : Act → World → Prop) (i : Nat) : Prop :=
  ∃ o, ops[i]? = some o ∧ ∀ a w, I a w → ∀ K' : Act → World → Prop, Shut (∀ a' w', S w' → I' a' w' → K' a' w') → if Region.wanted o (yielded ops a.tmps) = true then Oper.wp P o a w K' Q else K' (a.put o.dst undef) w

theorem draw1 {n f al : Nat} (c : Nat → Nat) (L : Bool → Nat → Array Bool) (I : Bool → Nat → Act → World → Prop)
    (hr : ∀ x k, k ≤ n → (x = true → k < n) → Region.ready md ops (L x k) = (if k < n then [c k] else []) ++ (if x then [] else [al]))
    (hLc : ∀ x k, k < n → (L x k).setIfInBounds (c k) true = L x (k + 1))
    (hLa : ∀ k, k ≤ n → (L false k).setIfInBounds al true = L true k)
    (hc : ∀ x k, k < n → Step1 P ops Q S (I x k) (I x (k + 1)) (c k))
    (ha : ∀ k, k ≤ n → Step1 P ops Q S (I false k) (I true k) al)
    (hfin : ∀ a w, I true n a w → wpAnyH P md ops Q S f (L true n) a w) :
    ∀ d x k a w, k ≤ n → x.toNat + k + d = 1 + n → I x k a w → wpAnyH P md ops Q S (f + d) (L x k) a w := by
  intro d
  induction d with
  | zero =>
    intro x k a w hk hd hI
    have hx : x = true ∧ k = n := by
      cases x <;> simp at hd ⊢ <;> omega
    obtain ⟨rfl, rfl⟩ := hx
    exact hfin a w hI
  | succ d ih =>
    intro x k a w hk hd hI
    have h1 : x = true → k < n := by
      intro h; subst h; simp at hd; omega
    refine wpAnyH_ready (fuel := f + d) (hr x k hk h1) ?_ (fun i hi => ?_)
    · cases x
      · simp
      · have := h1 rfl; simp [this]
    · have hcase : (k < n ∧ i = c k) ∨ (x = false ∧ i = al) := by
        rcases List.mem_append.1 hi with h | h
        · split at h
          · rename_i hl; exact Or.inl ⟨hl, by simpa using h⟩
          · cases h
        · cases x
          · exact Or.inr ⟨rfl, by simpa using h⟩
          · simp at h
      rcases hcase with ⟨hl, rfl⟩ | ⟨rfl, rfl⟩
      · obtain ⟨o, ho, hw⟩ := hc x k hl
        refine (AllReadyH.cons (rs := []) ho (fun K' hK => hw a w hI K' ?_) AllReadyH.nil) _ (by simp)
        intro a' w' hS' hI'
        refine hK.out a' w' hS' (fun _ => ?_)
        rw [hLc x k hl]
        exact ih x (k + 1) a' w' (by omega) (by omega) hI'
      · obtain ⟨o, ho, hw⟩ := ha k hk
        refine (AllReadyH.cons (rs := []) ho (fun K' hK => hw a w hI K' ?_) AllReadyH.nil) _ (by simp)
        intro a' w' hS' hI'
        refine hK.out a' w' hS' (fun _ => ?_)
        rw [hLa k hk]
        exact ih true k a' w' hk (by simp at hd ⊢; omega) hI'
end

/-- A box's cells. -/
def CB (W : World) (b : Nat) (cs : Array Value) (t : Nat) : Prop := W.heap[b]? = some (.cells cs t (0, 0))
theorem CB.lt {W : World} {b t : Nat} {cs : Array Value} (h : CB W b cs t) : b < W.heap.size := (Array.getElem?_eq_some_iff.1 h).1
theorem CB.later {W W' : World} {b t : Nat} {cs : Array Value} (h : CB W b cs t) (hb : Below W.heap.size W W') : CB W' b cs t := by
  unfold CB
  rw [hb.block b h.lt]; exact h
theorem CB.new (W : World) (cs : Array Value) (t : Nat) : CB (W.alloc (.cells cs t)) W.heap.size cs t := heap_alloc_new W _
theorem CB.cell {W : World} {b t : Nat} {cs : Array Value} (h : CB W b cs t) (i : Nat) (hi : i < cs.size) : W.cell? ⟨b, i, none⟩ = some cs[i] := by
  unfold CB at h
  simp [World.cell?, h, hi]
theorem CB.frozen {W : World} {b t : Nat} {cs : Array Value} (h : CB W b cs t) (i : Nat) : W.frozen? ⟨b, i, none⟩ = false := by
  unfold CB at h
  simp [World.frozen?, h]
theorem CB.set {W : World} {b t : Nat} {cs : Array Value} (h : CB W b cs t) (i : Nat) (v : Value) : CB (W.setCell ⟨b, i, none⟩ v) b (cs.set! i v) t := by
  unfold CB at h ⊢
  simp [World.setCell, Array.getElem?_modify, h]
theorem CB.other {W : World} {b t g i : Nat} {cs : Array Value} (h : CB W b cs t) (hn : b ≠ g) (v : Value) : CB (W.setCell ⟨g, i, none⟩ v) b cs t := by
  unfold CB at h ⊢
  rw [Below.heap_setCell _ ⟨g, i, none⟩ v b hn]; exact h

theorem CB.drew {W : World} {b t : Nat} {cs : Array Value} (h : CB W b cs t) : CB W.drew b cs t := h
theorem CB.set2 {W : World} {b t : Nat} {u0 u1 : Value} (h : CB W b #[u0, u1] t) (v0 v1 : Value) : CB ((W.setCell ⟨b, 0, none⟩ v0).setCell ⟨b, 1, none⟩ v1) b #[v0, v1] t := by
  simpa using ((h.set 0 v0).set 1 v1)
theorem CB.other2 {W : World} {g t b : Nat} {cs : Array Value} (h : CB W g cs t) (hn : g ≠ b) (v0 v1 : Value) : CB ((W.setCell ⟨b, 0, none⟩ v0).setCell ⟨b, 1, none⟩ v1) g cs t := ((h.other hn v0).other hn v1)
theorem below_set2 {N : Nat} {w W : World} {b : Nat} (h : Below N w W) (hn : N ≤ b) (v0 v1 : Value) : Below N w ((W.setCell ⟨b, 0, none⟩ v0).setCell ⟨b, 1, none⟩ v1) := ((h.setCell hn v0).setCell hn v1)
theorem cell_set2 {W : World} {g i b : Nat} {x : Value} (h : W.cell? ⟨g, i, none⟩ = some x) (hn : g ≠ b) (v0 v1 : Value) : ((W.setCell ⟨b, 0, none⟩ v0).setCell ⟨b, 1, none⟩ v1).cell? ⟨g, i, none⟩ = some x := by
  rw [World.cell?_setCell_other _ _ _ v1 (by intro e; cases e; exact hn rfl), World.cell?_setCell_other _ _ _ v0 (by intro e; cases e; exact hn rfl)]; exact h
theorem CB.set3 {W : World} {b t : Nat} {u0 u1 u2 : Value} (h : CB W b #[u0, u1, u2] t) (v0 v1 v2 : Value) : CB (((W.setCell ⟨b, 0, none⟩ v0).setCell ⟨b, 1, none⟩ v1).setCell ⟨b, 2, none⟩ v2) b #[v0, v1, v2] t := by
  simpa using (((h.set 0 v0).set 1 v1).set 2 v2)
theorem CB.other3 {W : World} {g t b : Nat} {cs : Array Value} (h : CB W g cs t) (hn : g ≠ b) (v0 v1 v2 : Value) : CB (((W.setCell ⟨b, 0, none⟩ v0).setCell ⟨b, 1, none⟩ v1).setCell ⟨b, 2, none⟩ v2) g cs t := (((h.other hn v0).other hn v1).other hn v2)
theorem below_set3 {N : Nat} {w W : World} {b : Nat} (h : Below N w W) (hn : N ≤ b) (v0 v1 v2 : Value) : Below N w (((W.setCell ⟨b, 0, none⟩ v0).setCell ⟨b, 1, none⟩ v1).setCell ⟨b, 2, none⟩ v2) := (((h.setCell hn v0).setCell hn v1).setCell hn v2)
theorem cell_set3 {W : World} {g i b : Nat} {x : Value} (h : W.cell? ⟨g, i, none⟩ = some x) (hn : g ≠ b) (v0 v1 v2 : Value) : (((W.setCell ⟨b, 0, none⟩ v0).setCell ⟨b, 1, none⟩ v1).setCell ⟨b, 2, none⟩ v2).cell? ⟨g, i, none⟩ = some x := by
  rw [World.cell?_setCell_other _ _ _ v2 (by intro e; cases e; exact hn rfl), World.cell?_setCell_other _ _ _ v1 (by intro e; cases e; exact hn rfl), World.cell?_setCell_other _ _ _ v0 (by intro e; cases e; exact hn rfl)]; exact h
theorem CB.set9 {W : World} {b t : Nat} {u0 u1 u2 u3 u4 u5 u6 u7 u8 : Value} (h : CB W b #[u0, u1, u2, u3, u4, u5, u6, u7, u8] t) (v0 v1 v2 v3 v4 v5 v6 v7 v8 : Value) : CB (((((((((W.setCell ⟨b, 0, none⟩ v0).setCell ⟨b, 1, none⟩ v1).setCell ⟨b, 2, none⟩ v2).setCell ⟨b, 3, none⟩ v3).setCell ⟨b, 4, none⟩ v4).setCell ⟨b, 5, none⟩ v5).setCell ⟨b, 6, none⟩ v6).setCell ⟨b, 7, none⟩ v7).setCell ⟨b, 8, none⟩ v8) b #[v0, v1, v2, v3, v4, v5, v6, v7, v8] t := by
  simpa using (((((((((h.set 0 v0).set 1 v1).set 2 v2).set 3 v3).set 4 v4).set 5 v5).set 6 v6).set 7 v7).set 8 v8)
theorem CB.other9 {W : World} {g t b : Nat} {cs : Array Value} (h : CB W g cs t) (hn : g ≠ b) (v0 v1 v2 v3 v4 v5 v6 v7 v8 : Value) : CB (((((((((W.setCell ⟨b, 0, none⟩ v0).setCell ⟨b, 1, none⟩ v1).setCell ⟨b, 2, none⟩ v2).setCell ⟨b, 3, none⟩ v3).setCell ⟨b, 4, none⟩ v4).setCell ⟨b, 5, none⟩ v5).setCell ⟨b, 6, none⟩ v6).setCell ⟨b, 7, none⟩ v7).setCell ⟨b, 8, none⟩ v8) g cs t := (((((((((h.other hn v0).other hn v1).other hn v2).other hn v3).other hn v4).other hn v5).other hn v6).other hn v7).other hn v8)
theorem below_set9 {N : Nat} {w W : World} {b : Nat} (h : Below N w W) (hn : N ≤ b) (v0 v1 v2 v3 v4 v5 v6 v7 v8 : Value) : Below N w (((((((((W.setCell ⟨b, 0, none⟩ v0).setCell ⟨b, 1, none⟩ v1).setCell ⟨b, 2, none⟩ v2).setCell ⟨b, 3, none⟩ v3).setCell ⟨b, 4, none⟩ v4).setCell ⟨b, 5, none⟩ v5).setCell ⟨b, 6, none⟩ v6).setCell ⟨b, 7, none⟩ v7).setCell ⟨b, 8, none⟩ v8) := (((((((((h.setCell hn v0).setCell hn v1).setCell hn v2).setCell hn v3).setCell hn v4).setCell hn v5).setCell hn v6).setCell hn v7).setCell hn v8)
theorem cell_set9 {W : World} {g i b : Nat} {x : Value} (h : W.cell? ⟨g, i, none⟩ = some x) (hn : g ≠ b) (v0 v1 v2 v3 v4 v5 v6 v7 v8 : Value) : (((((((((W.setCell ⟨b, 0, none⟩ v0).setCell ⟨b, 1, none⟩ v1).setCell ⟨b, 2, none⟩ v2).setCell ⟨b, 3, none⟩ v3).setCell ⟨b, 4, none⟩ v4).setCell ⟨b, 5, none⟩ v5).setCell ⟨b, 6, none⟩ v6).setCell ⟨b, 7, none⟩ v7).setCell ⟨b, 8, none⟩ v8).cell? ⟨g, i, none⟩ = some x := by
  rw [World.cell?_setCell_other _ _ _ v8 (by intro e; cases e; exact hn rfl), World.cell?_setCell_other _ _ _ v7 (by intro e; cases e; exact hn rfl), World.cell?_setCell_other _ _ _ v6 (by intro e; cases e; exact hn rfl), World.cell?_setCell_other _ _ _ v5 (by intro e; cases e; exact hn rfl), World.cell?_setCell_other _ _ _ v4 (by intro e; cases e; exact hn rfl), World.cell?_setCell_other _ _ _ v3 (by intro e; cases e; exact hn rfl), World.cell?_setCell_other _ _ _ v2 (by intro e; cases e; exact hn rfl), World.cell?_setCell_other _ _ _ v1 (by intro e; cases e; exact hn rfl), World.cell?_setCell_other _ _ _ v0 (by intro e; cases e; exact hn rfl)]; exact h
theorem CB.cells3 {W : World} {b t : Nat} {u0 u1 u2 : Value} (h : CB W b #[u0, u1, u2] t) : W.cell? ⟨b, 0, none⟩ = some u0 ∧ W.cell? ⟨b, 1, none⟩ = some u1 ∧ W.cell? ⟨b, 2, none⟩ = some u2 := ⟨h.cell 0 (by simp), h.cell 1 (by simp), h.cell 2 (by simp)⟩
theorem CB.cells9 {W : World} {b t : Nat} {u0 u1 u2 u3 u4 u5 u6 u7 u8 : Value} (h : CB W b #[u0, u1, u2, u3, u4, u5, u6, u7, u8] t) : W.cell? ⟨b, 0, none⟩ = some u0 ∧ W.cell? ⟨b, 1, none⟩ = some u1 ∧ W.cell? ⟨b, 2, none⟩ = some u2 ∧ W.cell? ⟨b, 3, none⟩ = some u3 ∧ W.cell? ⟨b, 4, none⟩ = some u4 ∧ W.cell? ⟨b, 5, none⟩ = some u5 ∧ W.cell? ⟨b, 6, none⟩ = some u6 ∧ W.cell? ⟨b, 7, none⟩ = some u7 ∧ W.cell? ⟨b, 8, none⟩ = some u8 := ⟨h.cell 0 (by simp), h.cell 1 (by simp), h.cell 2 (by simp), h.cell 3 (by simp), h.cell 4 (by simp), h.cell 5 (by simp), h.cell 6 (by simp), h.cell 7 (by simp), h.cell 8 (by simp)⟩

theorem frame_named {P : Program} {md : Region.Mode} {ops : Array Oper} {Q : Exit → Act → World → Prop} {S : World → Prop} {f : Nat} {l : Array Bool} {a : Act} {w : World} (h : ∀ A, A = a → wpAnyH P md ops Q S f l A w) : wpAnyH P md ops Q S f l a w := h a rfl

end Go.Proofs.YtfcgndgmbmkdgaaDoor

/- ExpandWhole: numbers as lists of floats that may be multiplied, and as Nums; the calls with what they tell. -/
namespace Go.Proofs.YtfcgndgmbmkdgaaDoor
open Go.RowKit Go.Shelf

/-- A float from 2^-100 to 2^100. -/
def In100 (x : Nat) : Prop := 4156822456062967808 ≤ frung x ∧ frung x ≤ 5057542381537067008
theorem In100.fin {x : Nat} (h : In100 x) : Fin64 x := by unfold Fin64; have := h.2; omega
theorem In100.may {x : Nat} (h : In100 x) : gw [] x = [x] ∧ MayC [x] ∧ MayS [x] := by
  have h0 : frung x ≠ 0 := by have := h.1; omega
  have hx : Ex (vals [x]) := ⟨by simp [vals], by simp [vals]; exact fun e => h0 (fval_zero_iff.1 e)⟩
  refine ⟨by unfold gw; rw [if_neg h0]; rfl, up_may hx (by simp) (by simp; have := h.2; omega), up_may hx (by simp) (by simp; have := h.1; have := h.2; omega)⟩
theorem In100.ab {x : Nat} (h : In100 x) : ab (fval x) ≤ U 1174 := by
  have t : fval 5057542381537067008 = U 1174 := by
    have := fval_rung 1122 4503599627370496 (by omega) (Or.inr (by omega)) (by omega)
    rw [show (1122 * 4503599627370496 + 4503599627370496 : Nat) = 5057542381537067008 from rfl] at this
    have h := U_52 1122
    rw [this]
    exact h.symm
  rw [← ab_fval x h.fin, ← t]
  rcases Nat.lt_or_ge (frung x) 5057542381537067008 with h1 | h1
  · exact Rat.le_of_lt (fval_lt h1 (by omega))
  · rw [show frung x = 5057542381537067008 by have := h.2; omega]; exact Rat.le_refl
theorem In100.m {x : Nat} (h : In100 x) : M (U 922) (fval x) := by
  have hr : M (U 922) (fval (frung x)) := by
    obtain ⟨T, k, hT, hk1, hk2, e⟩ : ∃ T k : Nat, 922 ≤ T ∧ 4503599627370496 ≤ k ∧ k ≤ 9007199254740992 ∧ frung x = T * 4503599627370496 + k := by
      refine ⟨frung x / 4503599627370496 - 1, frung x % 4503599627370496 + 4503599627370496, ?_, ?_, ?_, ?_⟩ <;> (have := h.1; omega)
    rw [e, fval_rung T k hk2 (Or.inr hk1) (by have := h.2; omega)]
    have hh : M (U T) (((k : Nat) : Rat) * U T) := ⟨(k : Int), by rw [Rat.intCast_natCast]⟩
    exact hh.down hT
  rcases fval_abs x with e | e
  · rw [e]; exact hr
  · rw [e]; exact hr.neg

theorem Ex.multV {l : List Rat} {t : Nat} (h : Ex l) (hm : M (U t) l.sum) : ∀ x ∈ l, M (U t) x := by
  induction l with
  | nil => intro x hx; cases hx
  | cons x r ih =>
    obtain ⟨hp, h0⟩ := h
    rw [List.pairwise_cons] at hp
    rw [List.sum_cons] at hm
    have er : Ex r := ⟨hp.2, fun y hy => h0 y (by simp [hy])⟩
    have mx : M (U t) x := by
      by_cases hne : r = []
      · subst hne
        rw [List.sum_nil] at hm
        rwa [show x + 0 = x by grind] at hm
      · obtain ⟨s, h1, h2⟩ := lo_list hp.1 hne
        have mr := M.sum h2
        rcases Nat.le_total t s with e | e
        · have := hm.sub (mr.down e)
          rwa [show x + r.sum - r.sum = x by grind] at this
        · have := (hm.down e).sub mr
          rw [show x + r.sum - r.sum = x by grind] at this
          have := this.ge (U_pos s) (h0 x (by simp))
          grind
    intro y hy
    rcases List.mem_cons.1 hy with rfl | hy
    · exact mx
    · have := hm.sub mx
      rw [show x + r.sum - x = r.sum by grind] at this
      exact ih er this y hy
theorem safe_wordV {b : Nat} (hf : Fin64 b) (h1 : U 624 ≤ ab (fval b)) (h2 : ab (fval b) ≤ U 1524) : 2580562586483294208 ≤ frung b ∧ frung b ≤ 6633802251116740608 := by
  rw [← ab_fval b hf] at h1 h2
  have f : frung b < 9218868437227405312 := hf
  constructor
  · rcases Nat.lt_or_ge (frung b) 2580562586483294208 with e | e
    · exfalso
      have h3 := fval_lt e (by omega)
      rw [safe_low] at h3
      grind
    · exact e
  · rcases Nat.lt_or_ge 6633802251116740608 (frung b) with e | e
    · exfalso
      have h3 := fval_lt e f
      rw [safe_top, show p2 450 = U 1524 from rfl] at h3
      grind
    · exact e
theorem mayP_wide {lo hi lo' hi' : Nat} {bs : List Nat} (h : MayP lo hi bs) (h1 : lo' ≤ lo) (h2 : hi ≤ hi') : MayP lo' hi' bs :=
  ⟨h.1, fun i hi => ⟨Nat.le_trans h1 (h.2 i hi).1, Nat.le_trans (h.2 i hi).2.1 h2, (h.2 i hi).2.2⟩⟩

/-- A number as a list of floats that may be multiplied: a multiple of U t, at most U N. -/
structure NM (t N : Nat) (q : Rat) (bs : List Nat) : Prop where
  may : MayS bs
  sum : (vals bs).sum = q
  m : M (U t) q
  l : ab q ≤ U N
theorem NM.a {t N : Nat} {q : Rat} {bs : List Nat} (h : NM t N q bs) : MayA bs := mayP_wide h.may (by omega) (by omega)
theorem NM.c {t N : Nat} {q : Rat} {bs : List Nat} (h : NM t N q bs) : MayC bs := mayP_wide h.may (by omega) (by omega)
theorem NM.mono {t N N' : Nat} {q : Rat} {bs : List Nat} (h : NM t N q bs) (hN : N ≤ N') : NM t N' q bs := ⟨h.may, h.sum, h.m, Rat.le_trans h.l (U_mono hN)⟩
theorem NM.of {t N : Nat} {q : Rat} {bs : List Nat} (h : SumS q bs) (hm : M (U t) q) (hl : ab q ≤ U N) (ht : 624 ≤ t) (hN : N ≤ 1520) : NM t N q bs := by
  refine ⟨?_, h.sum, hm, hl⟩
  obtain ⟨top, hs⟩ := h.sq
  have hu := hs.up (N := N + 1) (by have : U N < U (N + 1) := U_lt_iff.2 (by omega); grind)
  have hx := hs.ex.multV (t := t) (by rw [hs.sum]; exact hm)
  refine up_may hs.ex h.cnt (fun b hb => ?_)
  have hv : fval b ∈ vals bs := List.mem_map.2 ⟨b, hb, rfl⟩
  refine safe_wordV (hs.fin b hb) ?_ ?_
  · have := (hx _ hv).ge (U_pos t) (hs.ex.2 _ hv)
    exact Rat.le_trans (U_mono ht) this
  · have := hu.lim b hb
    have := U_mono (show N + 1 + 1 ≤ 1524 by omega)
    grind
theorem NM.neg {t N : Nat} {q : Rat} {bs : List Nat} (h : NM t N q bs) (hw : ∀ b ∈ bs, b < 18446744073709551616) : NM t N (-q) (bs.map fflip) := by
  have hu : Up 1975 bs := add_up h.a
  obtain ⟨h1, h2, h3⟩ := up_neg hu hw
  refine ⟨up_may h1.ex (by rw [List.length_map]; exact h.may.1) (fun b hb => ?_), by rw [h2, h.sum], h.m.neg, by rw [ab_neg]; exact h.l⟩
  obtain ⟨c, hc, rfl⟩ := List.mem_map.1 hb
  rw [frung_flip (hw c hc)]
  exact safe_safe h.may c hc
theorem In100.nm {x : Nat} (h : In100 x) : NM 922 1174 (fval x) [x] := ⟨h.may.2.2, by simp [vals]; grind, h.m, h.ab⟩

theorem negM_any (t N : Nat) (s : Value) (q : Rat) (es : List Nat) (w : World) (hs : Fs w s es) (h : NM t N q es) :
    Calls Tryd.prog 9 #[s] w fun e w' => (∃ v bs, e = .returned v ∧ Fs w' v bs ∧ NM t N (-q) bs) ∧ Below w.heap.size w w' := by
  refine (negE_any s es w hs (by have := h.may.1; omega)).mono ?_
  rintro e w' ⟨⟨v, rfl, hF⟩, hb⟩
  exact ⟨⟨v, _, rfl, hF.fs, h.neg hs.word⟩, hb⟩
theorem addM_any (t N : Nat) (s s2 : Value) (p q : Rat) (es fs : List Nat) (w : World) (hs : Fs w s es) (hs2 : Fs w s2 fs) (h1 : NM t N p es) (h2 : NM t N q fs) (ht : 624 ≤ t) (hN : N ≤ 1519) :
    Calls Tryd.prog 8 #[s, s2] w fun e w' => (∃ v bs, e = .returned (.tuple #[v, .bool true]) ∧ Fs w' v bs ∧ NM t (N + 1) (p + q) bs) ∧ Below w.heap.size w w' := by
  refine (addE_any s s2 es fs w hs hs2).mono ?_
  rintro e w1 ⟨⟨v, bs, t, rfl, hF, k1, k2, _⟩, hb1⟩
  obtain rfl := k1.2 ⟨h1.a, h2.a⟩
  have hS := k2 rfl
  rw [h1.sum, h2.sum] at hS
  refine ⟨⟨v, bs, rfl, hF.fs, NM.of hS (h1.m.add h2.m) ?_ ht (by omega)⟩, hb1⟩
  have a := ab_add p q
  have b : U N + U N = U (N + 1) := by rw [U_succ]; grind
  have c := h1.l
  have d := h2.l
  grind
theorem mulM_any (t N t2 N2 T K : Nat) (s s2 : Value) (p q : Rat) (es fs : List Nat) (w : World) (hs : Fs w s es) (hs2 : Fs w s2 fs) (h1 : NM t N p es) (h2 : NM t2 N2 q fs) (hT : T + 1074 = t + t2) (hK : K + 1074 = N + N2) (ht : 624 ≤ T) (hN : K ≤ 1520) :
    Calls Tryd.prog 10 #[s, s2] w fun e w' => (∃ v bs, e = .returned (.tuple #[v, .bool true]) ∧ Fs w' v bs ∧ NM T K (p * q) bs) ∧ Below w.heap.size w w' := by
  refine (mulE_any s s2 es fs w hs hs2).mono ?_
  rintro e w1 ⟨⟨v, bs, t, rfl, hF, k1, k2, _⟩, hb1⟩
  obtain rfl := k1.2 ⟨h1.may, h2.may⟩
  have hS := k2 rfl
  rw [h1.sum, h2.sum] at hS
  refine ⟨⟨v, bs, rfl, hF.fs, NM.of hS ?_ ?_ ht hN⟩, hb1⟩
  · have := h1.m.mul h2.m
    rwa [U_mulX' (r := T) hT] at this
  · rw [ab_mul, ← U_mulX' hK]
    have a := Rat.mul_le_mul_of_nonneg_right h1.l (ab_nonneg q)
    have b := Rat.mul_le_mul_of_nonneg_left h2.l (Rat.le_of_lt (U_pos N))
    exact Rat.le_trans a b

/-- Nums whose bounds are known. -/
theorem subB_any (h l : Int) (va vb : Value) (p q : Rat) (w : World) (ha : IsNum w va (some p)) (hb : IsNum w vb (some q)) (hT : Tab w) (h1 : Bd h l p) (h2 : Bd h l q) (hh : h ≤ 60000) (hl : -60000 ≤ l) :
    Calls Tryd.prog 11 #[va, vb] w fun e w' => (∃ d : NumW, e = .returned (.agg #[.slice d.a d.n d.c, .int .i64 d.low, .bool d.neg, .bool d.nn]) ∧ IsNum w' d.ag (some (p - q))) ∧ Below w.heap.size w w' := by
  refine (sub_any va vb _ _ w ha hb hT).mono ?_
  rintro e w' ⟨v, x, rfl, hn, hx, hbw⟩
  rcases hx with ⟨p', q', e1, e2, hx⟩ | ⟨hx, _⟩
  · cases e1
    cases e2
    obtain rfl := norm_may hx ((h1.sub h2).may (by omega) (by omega))
    obtain ⟨d, rfl⟩ := isNum_parts hn
    exact ⟨⟨d, rfl, hn⟩, hbw⟩
  · rcases hx with hx | hx <;> cases hx
theorem mulB_any (h l : Int) (va vb : Value) (p q : Rat) (w : World) (ha : IsNum w va (some p)) (hb : IsNum w vb (some q)) (hT : Tab w) (h1 : Bd h l p) (h2 : Bd h l q) (hh : h ≤ 30000) (hl : -30000 ≤ l) :
    Calls Tryd.prog 12 #[va, vb] w fun e w' => (∃ d : NumW, e = .returned (.agg #[.slice d.a d.n d.c, .int .i64 d.low, .bool d.neg, .bool d.nn]) ∧ IsNum w' d.ag (some (p * q))) ∧ Below w.heap.size w w' := by
  refine (mul_any va vb _ _ w ha hb hT).mono ?_
  rintro e w' ⟨v, x, rfl, hn, hx, hbw⟩
  rcases hx with ⟨p', q', e1, e2, hx⟩ | ⟨hx, _⟩
  · cases e1
    cases e2
    obtain rfl := norm_may hx ((h1.mul h2).may (by omega) (by omega))
    obtain ⟨d, rfl⟩ := isNum_parts hn
    exact ⟨⟨d, rfl, hn⟩, hbw⟩
  · rcases hx with hx | hx <;> cases hx
/-- The number of a list, with its parts. -/
theorem numM_any (t N : Nat) (s : Value) (q : Rat) (es : List Nat) (w : World) (hT : Tab w) (hs : Fs w s es) (h : NM t N q es) :
    Calls Tryd.prog 16 #[s] w fun e w' => (∃ d : NumW, e = .returned (.agg #[.slice d.a d.n d.c, .int .i64 d.low, .bool d.neg, .bool d.nn]) ∧ IsNum w' d.ag (some q)) ∧ Below w.heap.size w w' := by
  refine (numberV_any s es w hT hs (by have := h.may.1; omega) (add_up h.a).fin).mono ?_
  rintro e w' ⟨v, x, rfl, hn, hx, hbw⟩
  obtain rfl : x = some q := by rw [← h.sum]; exact hx
  obtain ⟨d, rfl⟩ := isNum_parts hn
  exact ⟨⟨d, rfl, hn⟩, hbw⟩
theorem cmpB_any (va vb : Value) (p : Rat) (w : World) (ha : IsNum w va (some p)) (hb : IsNum w vb (some p)) :
    Calls Tryd.prog 17 #[va, vb] w fun e w' => e = .returned (.int .i64 0) ∧ Below w.heap.size w w' := by
  refine (cmp_any va vb _ _ w ha hb).mono ?_
  rintro e w' ⟨rfl, hbw⟩
  refine ⟨?_, hbw⟩
  rw [show CmpX (some p) (some p) = 0 by show cmpR p p = 0; unfold cmpR; grind]
theorem signB_any (va : Value) (p : Rat) (z : Int) (w : World) (ha : IsNum w va (some p)) (hz : sgnR p = z) :
    Calls Tryd.prog 15 #[va] w fun e w' => e = .returned (.int .i64 z) ∧ Below w.heap.size w w' := by
  refine (sign_any va _ w ha).mono ?_
  rintro e w' ⟨rfl, hbw⟩
  exact ⟨by rw [← hz]; rfl, hbw⟩
theorem signM_any (t N : Nat) (s : Value) (q : Rat) (z : Int) (es : List Nat) (w : World) (hs : Fs w s es) (h : NM t N q es) (hz : sgnR q = z) :
    Calls Tryd.prog 14 #[s] w fun e w' => e = .returned (.int .i64 z) ∧ Below w.heap.size w w' := signS_any s es w z hs h.c (by rw [h.sum]; exact hz)
theorem cmpM_any (t N t2 N2 : Nat) (s s2 : Value) (p q : Rat) (z : Int) (es fs : List Nat) (w : World) (hs : Fs w s es) (hs2 : Fs w s2 fs) (h : NM t N p es) (h2 : NM t2 N2 q fs) (hz : sgnR (p - q) = z) :
    Calls Tryd.prog 18 #[s, s2] w fun e w' => e = .returned (.int .i64 z) ∧ Below w.heap.size w w' := by
  refine (cmpE_any s s2 es fs w hs hs2).mono ?_
  rintro e w' ⟨⟨y, rfl, hy, _⟩, hbw⟩
  refine ⟨?_, hbw⟩
  rw [hy h.c h2.c, h.sum, h2.sum, sgq_sgn, hz]
theorem Fs.shapeV {w : World} {s : Value} {bs : List Nat} (h : Fs w s bs) : ∃ a n c, s = .slice a n c := by
  obtain ⟨⟨a, c, e, _⟩, _⟩ := h
  exact ⟨a, _, c, e⟩
theorem Fs.drewV {w : World} {s : Value} {bs : List Nat} (h : Fs w s bs) : Fs w.drew s bs := ⟨h.form, h.word⟩
theorem In100.bd {x : Nat} (h : In100 x) : Bd 1100 (-1074) (fval x) := (fval_bd h.fin).mono (by omega) (Int.le_refl _)
theorem row_cell {w : World} {B e s n cap g : Nat} {xs : List Value} (h : w.ownsRow B e s (.slice (some ⟨g, 0, none⟩) n cap) n xs) (j : Nat) (u : Value) (hu : xs[j]? = some u) : w.cell? ⟨g, j, none⟩ = some u := by
  have := h.cells (g := g) rfl j u hu
  rwa [show (⟨g, 0, none⟩ : Addr).add j = ⟨g, j, none⟩ by unfold Addr.add; split <;> simp_all] at this
theorem row_form {w : World} {B e s n : Nat} {v : Value} {xs : List Value} (h : w.ownsRow B e s v n xs) (hn : 0 < n) : ∃ g cap, v = .slice (some ⟨g, 0, none⟩) n cap := by
  rcases h.2 with ⟨_, h⟩ | ⟨g, cap, cur, h1, _⟩
  · omega
  · exact ⟨g, cap, h1⟩
theorem Fs.one {w : World} {s : Value} {x : Nat} (h : Fs w s [x]) : ∃ a c, s = .slice a 1 c := by
  obtain ⟨⟨a, c, e, _⟩, _⟩ := h
  exact ⟨a, c, e⟩
theorem CB.set4 {W : World} {b t : Nat} {u0 u1 u2 u3 : Value} (h : CB W b #[u0, u1, u2, u3] t) (v0 v1 v2 v3 : Value) : CB ((((W.setCell ⟨b, 0, none⟩ v0).setCell ⟨b, 1, none⟩ v1).setCell ⟨b, 2, none⟩ v2).setCell ⟨b, 3, none⟩ v3) b #[v0, v1, v2, v3] t := by
  simpa using ((((h.set 0 v0).set 1 v1).set 2 v2).set 3 v3)
theorem below_set4 {N : Nat} {w W : World} {b : Nat} (h : Below N w W) (hn : N ≤ b) (v0 v1 v2 v3 : Value) : Below N w ((((W.setCell ⟨b, 0, none⟩ v0).setCell ⟨b, 1, none⟩ v1).setCell ⟨b, 2, none⟩ v2).setCell ⟨b, 3, none⟩ v3) := ((((h.setCell hn v0).setCell hn v1).setCell hn v2).setCell hn v3)
theorem cell_set4 {W : World} {g i b : Nat} {x : Value} (h : W.cell? ⟨g, i, none⟩ = some x) (hn : g ≠ b) (v0 v1 v2 v3 : Value) : ((((W.setCell ⟨b, 0, none⟩ v0).setCell ⟨b, 1, none⟩ v1).setCell ⟨b, 2, none⟩ v2).setCell ⟨b, 3, none⟩ v3).cell? ⟨g, i, none⟩ = some x := by
  rw [World.cell?_setCell_other _ _ _ v3 (by intro e; cases e; exact hn rfl), World.cell?_setCell_other _ _ _ v2 (by intro e; cases e; exact hn rfl), World.cell?_setCell_other _ _ _ v1 (by intro e; cases e; exact hn rfl), World.cell?_setCell_other _ _ _ v0 (by intro e; cases e; exact hn rfl)]; exact h
theorem CB.cells4 {W : World} {b t : Nat} {u0 u1 u2 u3 : Value} (h : CB W b #[u0, u1, u2, u3] t) : W.cell? ⟨b, 0, none⟩ = some u0 ∧ W.cell? ⟨b, 1, none⟩ = some u1 ∧ W.cell? ⟨b, 2, none⟩ = some u2 ∧ W.cell? ⟨b, 3, none⟩ = some u3 := ⟨h.cell 0 (by simp), h.cell 1 (by simp), h.cell 2 (by simp), h.cell 3 (by simp)⟩
/-- A Num, as a value. -/
def NV (W : World) (q : Rat) (c : Value) : Prop := ∃ d : NumW, c = .agg #[.slice d.a d.n d.c, .int .i64 d.low, .bool d.neg, .bool d.nn] ∧ IsNum W d.ag (some q)
theorem NV.later {W W' : World} {q : Rat} {c : Value} (h : NV W q c) (hb : Below W.heap.size W W') : NV W' q c := by
  obtain ⟨d, e, h⟩ := h
  exact ⟨d, e, h.later hb⟩

end Go.Proofs.YtfcgndgmbmkdgaaDoor
