/- Package lines: what is written; allMayBe, sizeOf. -/
import Derived.Test.YtpjdffjfhnlbjaaBg
import Derived.Lib.Join
namespace Go.Proofs.Ytpjdffjfhnlbjaa
open Go.RowKit Go.Shelf Go.Lib

def jn (ws : List Bs) : Bs := join ws [32]
def wrT (L : List (List Bs)) : Bs := (L.map fun ws => jn ws ++ [10]).flatten
def okL (ws : List Bs) : Bool := ws.all mayW && !ws.isEmpty
def fits (L : List (List Bs)) : Bool := L.all (fun ws => decide ((jn ws).length ≤ 65536)) && decide ((wrT L).length ≤ 16777216)
/-- What Write tells. -/
def wrV (L : List (List Bs)) : Bs × Nat := if L.all okL then (if fits L then (wrT L, 0) else ([], 3)) else ([], 1)

theorem jn_len {ws : List Bs} (h : ws ≠ []) : ((jn ws).length : Int) = (ws.length : Int) - 1 + lens ws := by
  cases ws with
  | nil => exact absurd rfl h
  | cons x r =>
    unfold jn
    rw [join_cons, List.length_append, joinTail_length]
    simp [lens]
    omega
theorem wrT_snoc (L : List (List Bs)) (ws : List Bs) : wrT (L ++ [ws]) = wrT L ++ (jn ws ++ [10]) := by simp [wrT]
theorem wrT_take {L : List (List Bs)} {k : Nat} (h : k < L.length) : wrT (L.take (k + 1)) = wrT (L.take k) ++ (jn L[k] ++ [10]) := by
  rw [List.take_succ_eq_append_getElem h, wrT_snoc]
theorem wrT_take_le (L : List (List Bs)) (k : Nat) : (wrT (L.take k)).length ≤ (wrT L).length := by
  have : wrT L = wrT (L.take k) ++ wrT (L.drop k) := by
    unfold wrT
    rw [← List.flatten_append, ← List.map_append, List.take_append_drop]
  rw [this, List.length_append]; omega
theorem fits_no {L : List (List Bs)} {k : Nat} (h : k < L.length) (hb : 65536 < (jn L[k]).length ∨ 16777216 < (wrT (L.take (k + 1))).length) : fits L = false := by
  unfold fits
  rcases hb with hb | hb
  · have : L.all (fun ws => decide ((jn ws).length ≤ 65536)) = false := by
      rw [List.all_eq_false]
      exact ⟨L[k], List.getElem_mem h, by simp; omega⟩
    rw [this]; rfl
  · have := wrT_take_le L (k + 1)
    rw [decide_eq_false (by omega : ¬ (wrT L).length ≤ 16777216), Bool.and_false]
theorem fits_yes {L : List (List Bs)} (h1 : ∀ k (h : k < L.length), (jn L[k]).length ≤ 65536) (h2 : (wrT L).length ≤ 16777216) : fits L = true := by
  unfold fits
  have : L.all (fun ws => decide ((jn ws).length ≤ 65536)) = true := by
    rw [List.all_eq_true]
    intro x hx
    obtain ⟨k, hk, rfl⟩ := List.mem_iff_getElem.1 hx
    simp [h1 k hk]
  rw [this, decide_eq_true h2]; rfl
theorem lens_le {ws : List Bs} {m : Nat} (h : ∀ x ∈ ws, x.length ≤ m) : lens ws ≤ ws.length * m := by
  induction ws with
  | nil => simp [lens]
  | cons x r ih =>
    have h1 := ih (fun y hy => h y (by simp [hy]))
    have h2 := h x (by simp)
    simp only [lens, List.map_cons, List.sum_cons, List.length_cons] at h1 ⊢
    rw [Nat.add_mul]
    omega
theorem lens_take {ws : List Bs} {k : Nat} (h : k < ws.length) : lens (ws.take (k + 1)) = lens (ws.take k) + ws[k].length := lens_take_succ ws k _ (List.getElem?_eq_getElem h)

/-- A list of texts in memory. -/
structure Sl (W : World) (v : Value) (ws : List Bs) : Prop where
  form : ∃ a c, v = .slice a ws.length c ∧ ws.length ≤ c ∧ c ≤ 9223372036854775807 ∧ (ws = [] ∨ ∃ g off, a = some ⟨g, off, none⟩ ∧ g < W.heap.size ∧ ∀ k x, ws[k]? = some x → W.cell? ⟨g, off + k, none⟩ = some (sv x))
  len : ∀ x ∈ ws, x.length ≤ 9223372036854775807
/-- A list of lists of texts in memory, each with where it lies. -/
abbrev Lv := List Bs × Value
structure Ll (W : World) (v : Value) (ls : List Lv) : Prop where
  form : ∃ a c, v = .slice a ls.length c ∧ ls.length ≤ c ∧ c ≤ 9223372036854775807 ∧ (ls = [] ∨ ∃ g off, a = some ⟨g, off, none⟩ ∧ g < W.heap.size ∧ ∀ k p, ls[k]? = some p → W.cell? ⟨g, off + k, none⟩ = some p.2)
  sub : ∀ p ∈ ls, Sl W p.2 p.1
abbrev ls1 (ls : List Lv) : List (List Bs) := ls.map (·.1)
theorem cell_later {w w' : World} {n : Nat} (hb : Below n w w') {g o : Nat} (hg : g < n) {v : Value} (h : w.cell? ⟨g, o, none⟩ = some v) : w'.cell? ⟨g, o, none⟩ = some v := (hb.cell (p := ⟨g, o, none⟩) hg).trans h
theorem Sl.later {W W' : World} {v : Value} {ws : List Bs} (h : Sl W v ws) (hb : Below W.heap.size W W') : Sl W' v ws := by
  obtain ⟨⟨a, c, h1, h2, h3, h4⟩, h5⟩ := h
  refine ⟨⟨a, c, h1, h2, h3, ?_⟩, h5⟩
  rcases h4 with h4 | ⟨g, off, h6, h7, h8⟩
  · exact Or.inl h4
  · exact Or.inr ⟨g, off, h6, Nat.lt_of_lt_of_le h7 hb.size, fun k x hk => cell_later hb h7 (h8 k x hk)⟩
theorem Ll.later {W W' : World} {v : Value} {ls : List Lv} (h : Ll W v ls) (hb : Below W.heap.size W W') : Ll W' v ls := by
  obtain ⟨⟨a, c, h1, h2, h3, h4⟩, h5⟩ := h
  refine ⟨⟨a, c, h1, h2, h3, ?_⟩, fun p hp => (h5 p hp).later hb⟩
  rcases h4 with h4 | ⟨g, off, h6, h7, h8⟩
  · exact Or.inl h4
  · exact Or.inr ⟨g, off, h6, Nat.lt_of_lt_of_le h7 hb.size, fun k x hk => cell_later hb h7 (h8 k x hk)⟩
theorem own_cell {w : World} {base e size n g c j : Nat} {u : Value} {xs : List Value} (h : w.ownsRow base e size (.slice (some ⟨g, 0, none⟩) n c) n xs) (hj : xs[j]? = some u) : w.cell? ⟨g, 0 + j, none⟩ = some u := by
  have := h.cells (g := g) rfl j u hj
  rw [← this]; unfold Addr.add; split
  · rename_i e; rw [e]
  · rfl
theorem Sr.sl {W : World} {B : Nat} {v : Value} {ws : List Bs} (h : Sr W B v ws) (hl : ∀ x ∈ ws, x.length ≤ 9223372036854775807) : Sl W v ws := by
  refine ⟨?_, hl⟩
  have h0 := h
  rcases h.2 with ⟨h1, h2⟩ | ⟨g, cap, cur, rfl, h2, h3, h4, h5, _⟩
  · exact ⟨none, 0, by rw [h1, h2], by omega, by omega, Or.inl (List.length_eq_zero_iff.1 h2)⟩
  · refine ⟨_, cap, rfl, h4, by unfold maxLen at h5; omega, Or.inr ⟨g, 0, rfl, (World.ownsRow.lt h0 g rfl).2, fun k x hk => ?_⟩⟩
    exact own_cell h0 (by rw [List.getElem?_map, hk]; rfl)

theorem all_no {ws : List Bs} {k : Nat} (h : k < ws.length) (hm : mayW ws[k] = false) : okL ws = false := by
  unfold okL
  have : ws.all mayW = false := by
    rw [List.all_eq_false]
    exact ⟨ws[k], List.getElem_mem h, by simp [hm]⟩
  rw [this]; rfl
theorem all_yes {ws : List Bs} (h : ∀ j (hj : j < ws.length), mayW ws[j] = true) : okL ws = decide (0 < ws.length) := by
  unfold okL
  have : ws.all mayW = true := by
    rw [List.all_eq_true]
    intro x hx
    obtain ⟨k, hk, rfl⟩ := List.mem_iff_getElem.1 hx
    exact h k hk
  rw [this]
  cases ws with
  | nil => rfl
  | cons a r =>
    rw [decide_eq_true (by simp)]; rfl

set_option maxHeartbeats 4000000 in
theorem allMayBe_any (v : Value) (ws : List Bs) (w : World) (h : Sl w v ws) : Calls Try.prog 18 #[v] w fun e w' => e = .returned (.bool (okL ws)) ∧ w' = w := by
  obtain ⟨⟨a, c, rfl, hc1, hc2, hm⟩, hlen⟩ := h
  have HL := Lib.hid hlen
  have HM := Lib.hid hm
  have l1 : (ws.length : Int) ≤ 9223372036854775807 := by omega
  clear hlen hm
  obtain ⟨n, hn⟩ : ∃ n, Hid (ws.length = n) := ⟨_, Lib.hid rfl⟩
  rw [hn.out] at l1 hc1 ⊢
  go_enter Try.func18, Try.ntmps18
  go_wp2
  go_loop [7] (fun s7 => ∃ k : Nat, k ≤ n ∧ s7 = .int .i64 (k : Nat) ∧ Hid (∀ j (hj : j < k) (h2 : j < ws.length), mayW ws[j] = true)) (fun s7 => n - (RowKit.intOf s7).toNat)
  case atStart => exact ⟨0, Nat.zero_le _, rfl, fun j hj _ => by omega⟩
  case round =>
    obtain ⟨k, hk, rfl, hI⟩ := hrel
    by_cases hlt : k < n
    · have hk2 : k < ws.length := by rw [hn.out]; exact hlt
      have hlt' : (k : Int) < (n : Int) := by omega
      have hk0 : (0 : Int) ≤ (k : Int) := by omega
      obtain ⟨g, off, rfl, hg, hcell⟩ := HM.out.resolve_left (fun e => by rw [e] at hk2; simp at hk2)
      have b1 := hcell k ws[k] (List.getElem?_eq_getElem hk2)
      obtain ⟨m, hm⟩ : ∃ m, Hid (mayW ws[k] = m) := ⟨_, Lib.hid rfl⟩
      have HY : Hid (∀ w, Calls Try.prog 28 #[.string ⟨(ws[k]).toArray⟩] w fun e w' => e = .returned (.bool m) ∧ w' = w) := fun w => by
        rw [← hm.out]; exact mayBe_any _ w (HL.out _ (List.getElem_mem hk2))
      clear hcell
      cases m
      · have HN := Lib.hid (all_no hk2 hm.out)
        go_wp2_with (go_at_call 28; refine (HY.out _).mono ?_; rintro e w' ⟨rfl, rfl⟩)
        go_ret
        rw [HN.out]; exact ⟨rfl, rfl⟩
      · go_wp2_with (go_at_call 28; refine (HY.out _).mono ?_; rintro e w' ⟨rfl, rfl⟩)
        refine ⟨⟨k + 1, by omega, by go_num, fun j hj hjl => ?_⟩, ?_⟩
        · by_cases e : j = k
          · subst e; exact hm.out
          · exact hI.out j (by omega) hjl
        · simp [RowKit.intOf]; omega
    · obtain rfl : k = n := by omega
      have HN := Lib.hid (all_yes (ws := ws) (fun j hj => hI.out j (by rw [← hn.out]; exact hj) hj))
      rw [hn.out] at HN
      go_wp2
      go_ret
      rw [HN.out]; exact ⟨rfl, rfl⟩
end Go.Proofs.Ytpjdffjfhnlbjaa
