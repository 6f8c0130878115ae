/- What package lines is asked first: works. -/
import Derived.Test.YtpjdffjfhnlbjaaBo
namespace Go.Proofs.Ytpjdffjfhnlbjaa
open Go.RowKit Go.Shelf Go.Lib

theorem cell_block {W : World} {g j : Nat} {cs : Array Value} {t : TypeId} {fr : Nat × Nat} {u : Value} (h : W.heap[g]? = some (.cells cs t fr)) (hj : cs[j]? = some u) : W.cell? ⟨g, j, none⟩ = some u := by
  unfold World.cell?; rw [h]; exact hj
theorem sl_block {W : World} {g : Nat} {t : TypeId} {fr : Nat × Nat} {ws : List Bs} (h : W.heap[g]? = some (.cells (svs ws).toArray t fr)) (hn : ws.length ≤ 1000000) (hl : ∀ x ∈ ws, x.length ≤ 9223372036854775807) : Sl W (.slice (some ⟨g, 0, none⟩) ws.length ws.length) ws := by
  refine ⟨⟨_, _, rfl, Nat.le_refl _, by omega, Or.inr ⟨g, 0, rfl, (Array.getElem?_eq_some_iff.1 h).1, fun k x hk => ?_⟩⟩, hl⟩
  rw [Nat.zero_add]
  exact cell_block h (by simp [hk])
theorem ll_block {W : World} {g : Nat} {t : TypeId} {fr : Nat × Nat} {ls : List Lv} (h : W.heap[g]? = some (.cells (ls.map (·.2)).toArray t fr)) (hn : ls.length ≤ 1000000) (hs : ∀ p ∈ ls, Sl W p.2 p.1) : Ll W (.slice (some ⟨g, 0, none⟩) ls.length ls.length) ls := by
  refine ⟨⟨_, _, rfl, Nat.le_refl _, by omega, Or.inr ⟨g, 0, rfl, (Array.getElem?_eq_some_iff.1 h).1, fun k x hk => ?_⟩⟩, hs⟩
  rw [Nat.zero_add]
  exact cell_block h (by simp [hk])

theorem alloc3 (w : World) (o1 o2 o3 : Obj) : (((w.alloc o1).alloc o2).alloc o3).heap[w.heap.size]? = some o1 ∧ (((w.alloc o1).alloc o2).alloc o3).heap[w.heap.size + 1]? = some o2 ∧ (((w.alloc o1).alloc o2).alloc o3).heap[w.heap.size + 1 + 1]? = some o3 ∧ Below w.heap.size w (((w.alloc o1).alloc o2).alloc o3) := by
  have h1 := World.alloc_heap_new w o1
  have h2 := World.alloc_heap_new (w.alloc o1) o2
  have h3 := World.alloc_heap_new ((w.alloc o1).alloc o2) o3
  simp only [World.size_alloc] at h2 h3
  refine ⟨?_, ?_, h3, (((Below.refl _ w).alloc (Nat.le_refl _) _).alloc (by simp) _).alloc (by simp; omega) _⟩
  · rw [Below.heap_alloc _ _ _ (by simp; omega), Below.heap_alloc _ _ _ (by simp)]; exact h1
  · rw [Below.heap_alloc _ _ _ (by simp)]; exact h2
theorem cell_keep {w w' : World} (hb : Below w.heap.size w w') {a : Addr} {v : Value} (h : w.cell? a = some v) : w'.cell? a = some v := (hb.cell (World.block_lt_of_cell? _ _ h)).trans h

/-- The example of the document. -/
def exT : Bs := [49, 32, 50, 32, 35, 32, 116, 104, 114, 101, 101, 10, 10, 32, 52, 9, 53, 13, 10]
theorem exT_rd : rdV exT = ([(1, [[49], [50]]), (3, [[52], [53]])], 0, 0) := by decide +kernel
theorem exL_wr : wrV [[[49], [50]], [[120]]] = ([49, 32, 50, 10, 120, 10], 0) := by decide +kernel

set_option maxRecDepth 100000 in
set_option maxHeartbeats 8000000 in
theorem works_any (w : World) : Calls Try.prog 8 #[] w fun e w' => e = .returned (.bool true) ∧ Below w.heap.size w w' := by
  have HR : Hid (∀ W, Calls Try.prog 9 #[.string ⟨#[49, 32, 50, 32, 35, 32, 116, 104, 114, 101, 101, 10, 10, 32, 52, 9, 53, 13, 10]⟩] W fun e w' => ∃ g c g1 c1 g2 c2, e = .returned (.tuple #[.slice (some ⟨g, 0, none⟩) 2 c, .int .i64 0, .int .i64 0]) ∧ (2 ≤ c ∧ c ≤ 9223372036854775807) ∧
      (w'.cell? ⟨g, 0, none⟩ = some (.int .i64 1) ∧ w'.cell? ⟨g, 1, none⟩ = some (.slice (some ⟨g1, 0, none⟩) 2 c1) ∧ w'.cell? ⟨g, 2, none⟩ = some (.int .i64 3) ∧ w'.cell? ⟨g, 3, none⟩ = some (.slice (some ⟨g2, 0, none⟩) 2 c2) ∧ w'.cell? ⟨g2, 1, none⟩ = some (.string ⟨#[53]⟩)) ∧ (2 ≤ c1 ∧ c1 ≤ 9223372036854775807) ∧ (2 ≤ c2 ∧ c2 ≤ 9223372036854775807) ∧ Below W.heap.size W w') := fun W => by
    refine (read_any _ exT W rfl (by show (19 : Nat) ≤ _; omega)).mono ?_
    rintro e w' ⟨v, ps, rfl, h2, h3, h4⟩
    rw [exT_rd] at h3 ⊢
    match ps, h3 with
    | [], h3 => cases h3
    | [_], h3 => simp [tell] at h3
    | (_ :: _ :: _ :: _), h3 => simp [tell] at h3
    | [⟨n1, w1, v1⟩, ⟨n2, w2, v2⟩], h3 =>
      have h3' : (n1 = 1 ∧ w1 = [[49], [50]]) ∧ n2 = 3 ∧ w2 = [[52], [53]] := by simpa [tell] using h3
      obtain ⟨⟨rfl, rfl⟩, rfl, rfl⟩ := h3'
      rcases h2.own.2 with ⟨_, h5⟩ | ⟨g, cap, cur, rfl, _, _, h5, h6, _⟩
      · simp at h5
      have s1 := h2.sub _ (List.mem_cons_self)
      have s2 := h2.sub _ (List.mem_cons_of_mem _ (List.mem_cons_self))
      obtain ⟨g1, c1, e1, q1, q2⟩ : ∃ g c, v1 = .slice (some ⟨g, 0, none⟩) 2 c ∧ 2 ≤ c ∧ c ≤ 9223372036854775807 := by
        rcases s1.2 with ⟨_, h7⟩ | ⟨g, cap, cur, h7, _, _, h8, h9, _⟩
        · simp at h7
        · exact ⟨g, cap, h7, h8, by unfold maxLen at h9; omega⟩
      obtain ⟨g2, c2, e2, q3, q4⟩ : ∃ g c, v2 = .slice (some ⟨g, 0, none⟩) 2 c ∧ 2 ≤ c ∧ c ≤ 9223372036854775807 := by
        rcases s2.2 with ⟨_, h7⟩ | ⟨g, cap, cur, h7, _, _, h8, h9, _⟩
        · simp at h7
        · exact ⟨g, cap, h7, h8, by unfold maxLen at h9; omega⟩
      have r0 := row_cells h2.own (k := 0) (by simp)
      have r1 := row_cells h2.own (k := 1) (by simp)
      dsimp only at s1 s2
      subst e1 e2
      have r2 := own_cell (j := 1) (g := g2) (c := c2) (n := 2) (u := sv [53]) s2 rfl
      exact ⟨g, cap, g1, c1, g2, c2, rfl, ⟨h5, by unfold maxLen at h6; omega⟩, ⟨r0.1, r0.2, r1.1, r1.2, r2⟩, ⟨q1, q2⟩, ⟨q3, q4⟩, h4⟩
  have HW : Hid (∀ W b0 b1 b2, W.heap[b0]? = some (.cells #[.string ⟨#[49]⟩, .string ⟨#[50]⟩] 9 (0, 0)) → W.heap[b1]? = some (.cells #[.string ⟨#[120]⟩] 9 (0, 0)) → W.heap[b2]? = some (.cells #[.slice (some ⟨b0, 0, none⟩) 2 2, .slice (some ⟨b1, 0, none⟩) 1 1] 30 (0, 0)) →
      Calls Try.prog 11 #[.slice (some ⟨b2, 0, none⟩) 2 2] W fun e w' => e = .returned (.tuple #[.string ⟨#[49, 32, 50, 10, 120, 10]⟩, .int .i64 0]) ∧ Below W.heap.size W w') := fun W b0 b1 b2 h0 h1 h2 => by
    have s0 := sl_block (ws := [[49], [50]]) h0 (by simp) (by simp)
    have s1 := sl_block (ws := [[120]]) h1 (by simp) (by simp)
    have l := ll_block (ls := [([[49], [50]], .slice (some ⟨b0, 0, none⟩) 2 2), ([[120]], .slice (some ⟨b1, 0, none⟩) 1 1)]) h2 (by simp) (fun p hp => by
      rcases List.mem_cons.1 hp with e | e
      · subst e; exact s0
      · rw [List.mem_singleton.1 e]; exact s1)
    have := write_any _ _ W l ⟨by simp, fun p hp => by
      rcases List.mem_cons.1 hp with e | e
      · subst e; simp
      · rw [List.mem_singleton.1 e]; simp⟩
    rw [show ls1 [([[49], [50]], Value.slice (some ⟨b0, 0, none⟩) 2 2), ([[120]], .slice (some ⟨b1, 0, none⟩) 1 1)] = [[[49], [50]], [[120]]] from rfl, exL_wr] at this
    exact this
  go_enter Try.func8, Try.ntmps8
  go_wp2_with (go_at_call 9; refine (HR.out _).mono ?_; rintro e W1 ⟨g, c, g1, c1, g2, c2, rfl, ⟨a1, a2⟩, ⟨k0, k1, k2, k3, k4⟩, ⟨a3, a4⟩, ⟨a5, a6⟩, hb⟩; have HB := Lib.hid hb; have HK := Lib.hid (And.intro k0 (And.intro k1 (And.intro k2 (And.intro k3 k4)))); clear hb k0 k1 k2 k3 k4; refine Hid.out ?_)
  refine Lib.hid ?_
  have H3 := Lib.hid (alloc3 W1 (.cells #[.string ⟨#[49]⟩, .string ⟨#[50]⟩] 9) (.cells #[.string ⟨#[120]⟩] 9) (.cells #[.slice (some ⟨W1.heap.size, 0, none⟩) 2 2, .slice (some ⟨W1.heap.size + 1, 0, none⟩) 1 1] 30))
  go_wp2_with (go_at_call 11; refine (HW.out _ _ _ _ H3.out.1 H3.out.2.1 H3.out.2.2.1).mono ?_; rintro e W2 ⟨rfl, hb2⟩; have HB2 := Lib.hid (H3.out.2.2.2.trans (hb2.mono H3.out.2.2.2.size)); have k0 := cell_keep HB2.out HK.out.1; have k1 := cell_keep HB2.out HK.out.2.1; have k2 := cell_keep HB2.out HK.out.2.2.1; have k3 := cell_keep HB2.out HK.out.2.2.2.1; have k4 := cell_keep HB2.out HK.out.2.2.2.2; clear hb2)
  go_ret
  exact ⟨rfl, HB.out.trans (HB2.out.mono HB.out.size)⟩
end Go.Proofs.Ytpjdffjfhnlbjaa
