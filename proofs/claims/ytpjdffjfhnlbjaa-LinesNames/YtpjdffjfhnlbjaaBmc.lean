/- The limits of package lines: what is called. -/
import Derived.Test.YtpjdffjfhnlbjaaBma
import Derived.Test.YtpjdffjfhnlbjaaBmb
namespace Go.Proofs.Ytpjdffjfhnlbjaa
open Go.RowKit Go.Shelf Go.Lib

theorem bytesQ (n : Nat) (c : UInt8) (N C : Int) (hN : (n : Int) = N) (hC : (c.toNat : Int) = C) (hn : n ≤ 20000000) : ∃ q : ByteArray, Hid (q.data.toList = List.replicate n c) ∧ Hid (∀ W, Calls Try.prog 10 #[.int .i64 N, .int .u8 C] W fun e w' => e = .returned (.string q) ∧ Below W.heap.size W w') ∧ q.size = n := by
  subst hN hC
  exact ⟨⟨(List.replicate n c).toArray⟩, Lib.hid (by simp), Lib.hid (fun W => bytes_any n c W hn), by rw [sv_size]; simp⟩
theorem readQ (s : ByteArray) (t : Bs) (a b : Nat) (A B : Int) (ht : s.data.toList = t) (hl : t.length ≤ 9223372036854775807) (hr : (rdV t).2 = (a, b)) (hA : (a : Int) = A) (hB : (b : Int) = B) : Hid (∀ W, Calls Try.prog 9 #[.string s] W fun e w' => ∃ v, e = .returned (.tuple #[v, .int .i64 A, .int .i64 B]) ∧ Below W.heap.size W w') := fun W => by
  refine (read_any s t W ht hl).mono ?_
  rintro e w' ⟨v, ps, rfl, _, _, h4⟩
  subst hA hB
  rw [hr]
  exact ⟨v, rfl, h4⟩
theorem alloc2 (w : World) (o1 o2 : Obj) : ((w.alloc o1).alloc o2).heap[w.heap.size]? = some o1 ∧ ((w.alloc o1).alloc o2).heap[w.heap.size + 1]? = some o2 ∧ Below w.heap.size w ((w.alloc o1).alloc o2) := by
  have h1 := World.alloc_heap_new w o1
  have h2 := World.alloc_heap_new (w.alloc o1) o2
  simp only [World.size_alloc] at h2
  refine ⟨?_, h2, ((Below.refl _ w).alloc (Nat.le_refl _) _).alloc (by simp) _⟩
  rw [Below.heap_alloc _ _ _ (by simp)]; exact h1
theorem writeL (W : World) (b1 : Nat) (v : Value) (ws : List Bs) (R : Int) (hs : Sl W v ws) (hb : W.heap[b1]? = some (.cells #[v] 30 (0, 0))) (hr : ((wrV [ws]).2 : Int) = R) (hl : ws.length ≤ 300000) : Calls Try.prog 11 #[.slice (some ⟨b1, 0, none⟩) 1 1] W fun e w' => ∃ q, e = .returned (.tuple #[.string q, .int .i64 R]) ∧ Below W.heap.size W w' := by
  have l := ll_block (ls := [(ws, v)]) hb (by simp) (fun p hp => by rw [List.mem_singleton.1 hp]; exact hs)
  refine (write_any _ _ W l ⟨by simp, fun p hp => by rw [List.mem_singleton.1 hp]; exact hl⟩).mono ?_
  rintro e w' ⟨rfl, h⟩
  subst hr
  exact ⟨_, rfl, h⟩
theorem writeQ (ws : List Bs) (cs : Array Value) (n : Nat) (R : Int) (hcs : (svs ws).toArray = cs) (hn : ws.length = n) (hn2 : n ≤ 1000) (hx : ∀ x ∈ ws, x.length ≤ 9223372036854775807) (hr : ((wrV [ws]).2 : Int) = R) : Hid (∀ W, Calls Try.prog 11 #[.slice (some ⟨W.heap.size + 1, 0, none⟩) 1 1] ((W.alloc (.cells cs 9)).alloc (.cells #[.slice (some ⟨W.heap.size, 0, none⟩) n n] 30)) fun e w' => ∃ q, e = .returned (.tuple #[.string q, .int .i64 R]) ∧ Below W.heap.size W w') := fun W => by
  subst hcs hn
  obtain ⟨h1, h2, h3⟩ := alloc2 W (.cells (svs ws).toArray 9) (.cells #[.slice (some ⟨W.heap.size, 0, none⟩) ws.length ws.length] 30)
  refine (writeL _ _ _ ws R (sl_block h1 (by omega) hx) h2 hr (by omega)).mono ?_
  rintro e w' ⟨q, rfl, h⟩
  exact ⟨q, rfl, h3.trans (h.mono h3.size)⟩
theorem writeM (W : World) (v : Value) (ws : List Bs) (R : Int) (hs : Sl W v ws) (hr : ((wrV [ws]).2 : Int) = R) (hl : ws.length ≤ 300000) : Calls Try.prog 11 #[.slice (some ⟨W.heap.size, 0, none⟩) 1 1] (W.alloc (.cells #[v] 30)) fun e w' => ∃ q, e = .returned (.tuple #[.string q, .int .i64 R]) ∧ Below W.heap.size W w' := by
  have h3 : Below W.heap.size W (W.alloc (.cells #[v] 30)) := (Below.refl _ W).alloc (Nat.le_refl _) _
  refine (writeL _ _ v ws R (hs.later h3) (World.alloc_heap_new _ _) hr hl).mono ?_
  rintro e w' ⟨q, rfl, h⟩
  exact ⟨q, rfl, h3.trans (h.mono h3.size)⟩
theorem Sl.shorter {W : World} {a : Option Addr} {n m c : Nat} {x : Bs} (h : Sl W (.slice a n c) (List.replicate n x)) (hm : m ≤ n) : Sl W (.slice a m c) (List.replicate m x) := by
  obtain ⟨⟨a', c', e, h1, h2, h3⟩, h4⟩ := h
  have ea : a = a' ∧ n = (List.replicate n x).length ∧ c = c' := by simpa using e
  obtain ⟨rfl, _, rfl⟩ := ea
  rw [List.length_replicate] at h1
  refine ⟨⟨a, c, by rw [List.length_replicate], by rw [List.length_replicate]; omega, h2, ?_⟩, fun y hy => h4 y ?_⟩
  · rcases h3 with h3 | ⟨g, off, e1, e2, e3⟩
    · left
      have : n = 0 := by simpa using h3
      have : m = 0 := by omega
      subst this; rfl
    · refine Or.inr ⟨g, off, e1, e2, fun k y hk => e3 k y ?_⟩
      rw [List.getElem?_replicate] at hk ⊢
      split at hk
      · rw [if_pos (by omega)]; exact hk
      · cases hk
  · have hmm := hy
    rw [List.eq_of_mem_replicate hy]
    refine List.mem_replicate.2 ⟨?_, rfl⟩
    intro e0
    have : m = 0 := by omega
    subst this; simp at hmm
/-- The line of two words: it stays. -/
def OW (g g1 c1 : Nat) (W : World) : Prop := W.cell? ⟨g, 1, none⟩ = some (.slice (some ⟨g1, 0, none⟩) 2 c1)
theorem readO (s : ByteArray) (t A : Bs) (ht : s.data.toList = t) (hl : t.length ≤ 9223372036854775807) (hr : rdV t = ([(1, [[120], A])], 0, 0)) : Hid (∀ W, Calls Try.prog 9 #[.string s] W fun e w' => ∃ g c g1 c1, e = .returned (.tuple #[.slice (some ⟨g, 0, none⟩) 1 c, .int .i64 0, .int .i64 0]) ∧ (1 ≤ c ∧ c ≤ 9223372036854775807) ∧ OW g g1 c1 w' ∧ (2 ≤ c1 ∧ c1 ≤ 9223372036854775807) ∧ Below W.heap.size W w') := fun W => by
  refine (read_any s _ W ht hl).mono ?_
  rintro e w' ⟨v, ps, rfl, h2, h3, h4⟩
  rw [hr] at h3 ⊢
  match ps, h3 with
  | [], h3 => cases h3
  | (_ :: _ :: _), h3 => simp [tell] at h3
  | [⟨n1, w1, v1⟩], h3 =>
    have h3' : n1 = 1 ∧ w1 = [[120], A] := by
      unfold tell at h3
      rw [List.map_cons, List.map_nil] at h3
      injection h3 with h5 _
      injection h5 with h6 h7
      exact ⟨h6, h7⟩
    obtain ⟨rfl, rfl⟩ := h3'
    rcases h2.own.2 with ⟨_, h5⟩ | ⟨g, cap, cur, rfl, _, _, h5, h6, _⟩
    · simp at h5
    have s1 := h2.sub _ (List.mem_cons_self)
    obtain ⟨g1, c1, e1, q1, q2⟩ : ∃ g c, v1 = .slice (some ⟨g, 0, none⟩) 2 c ∧ 2 ≤ c ∧ c ≤ 9223372036854775807 := by
      rcases s1.2 with ⟨_, h7⟩ | ⟨g, cap, cur, h7, _, _, h8, h9, _⟩
      · simp at h7
      · exact ⟨g, cap, h7, h8, by unfold maxLen at h9; omega⟩
    have r0 := row_cells h2.own (k := 0) (by simp)
    subst e1
    exact ⟨g, cap, g1, c1, rfl, ⟨h5, by unfold maxLen at h6; omega⟩, r0.2, ⟨q1, q2⟩, h4⟩
end Go.Proofs.Ytpjdffjfhnlbjaa
