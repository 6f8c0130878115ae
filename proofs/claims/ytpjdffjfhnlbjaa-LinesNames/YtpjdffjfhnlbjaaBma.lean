/- So many of one byte. -/
import Derived.Test.YtpjdffjfhnlbjaaBx
import Derived.Laws.OwnMore
namespace Go.Proofs.Ytpjdffjfhnlbjaa
open Go.RowKit Go.Shelf Go.Lib

set_option maxRecDepth 100000 in
theorem make8 (n : Nat) (hn : n ≤ 20000000) (W : World) : (Instr.makeSlice 49 (.int .i64 (n : Int)) (.int .i64 (n : Int))).run Try.prog W = .ok (.slice (some ⟨W.heap.size, 0, none⟩) n n) (W.alloc (.cells (byteCells (List.replicate n 0)).toArray 5)) := by
  obtain ⟨i0, hi0, hz0, hz1, hz2⟩ := info_parts (show (Try.prog.info? 5).map (fun i => (i.zero, i.size, i.bytes)) = some (some (.int .u8 0), 1, 1) by kernel_rfl)
  have h := run_make (P := Try.prog) W 49 5 i0 _ Try.underlying49 hi0 hz0 .i64 .i64 n n (by omega) (Int.le_refl _) (by rw [hz2]; omega) (by omega)
  rw [h]
  simp only [Int.toNat_natCast]
  congr 3
  apply Array.toList_inj.1
  rw [hz1, Nat.mul_one, show (Value.int IntKind.u8 0).cells = #[Value.int IntKind.u8 0] from rfl, toList_madeCells_one]
  simp [byteCells]
/-- k bytes c, the rest of n still 0. -/
def fil (c : UInt8) (n k : Nat) : Bs := List.replicate k c ++ List.replicate (n - k) 0
theorem fil_len {c : UInt8} {n k : Nat} (h : k ≤ n) : (fil c n k).length = n := by unfold fil; simp; omega
theorem fil_set {c : UInt8} {n k : Nat} (h : k < n) : (fil c n k).set k c = fil c n (k + 1) := by
  unfold fil
  rw [List.set_append_right _ _ (by simp), List.length_replicate, Nat.sub_self, show n - k = (n - (k + 1)) + 1 by omega, List.replicate_succ, List.set_cons_zero, List.replicate_succ', List.append_assoc]
  rfl
def FilR (w W : World) (n : Nat) (l : Bs) : Prop := W.ownsRow w.heap.size 5 1 (.slice (some ⟨w.heap.size, 0, none⟩) n n) n (byteCells l) ∧ Below w.heap.size w W
theorem FilR.start (w : World) (c : UInt8) {n : Nat} (hn : n ≤ 20000000) : FilR w (w.alloc (.cells (byteCells (List.replicate n 0)).toArray 5)) n (fil c n 0) := by
  refine ⟨⟨by simp [byteCells, fil], Or.inr ⟨w.heap.size, _, _, rfl, Nat.le_refl _, World.alloc_heap_new _ _, Nat.le_refl _, by unfold maxLen; omega, by simp [byteCells], ?_⟩⟩, (Below.refl _ w).alloc (Nat.le_refl _) _⟩
  rw [List.take_of_length_le (by simp [byteCells])]
  simp [fil]
theorem FilR.step {w W : World} {c : UInt8} {n k : Nat} (h : FilR w W n (fil c n k)) (hk : k < n) : FilR w (W.setCell ⟨w.heap.size, k, none⟩ (.int .u8 c.toNat)) n (fil c n (k + 1)) := by
  have := (h.1.stored k (.int .u8 c.toNat)).1
  refine ⟨?_, h.2.setCell (Nat.le_refl _) _⟩
  rw [← fil_set hk]
  unfold byteCells at this ⊢
  rw [List.map_set]
  exact this
theorem FilR.cell {w W : World} {c : UInt8} {n k : Nat} (h : FilR w W n (fil c n k)) (hk : k < n) : ∃ b : UInt8, W.cell? ⟨w.heap.size, k, none⟩ = some (.int .u8 b.toNat) := by
  have h1 := h.1.cellAt k (by omega)
  have h2 : k < (fil c n k).length := by rw [fil_len (by omega)]; exact hk
  refine ⟨(fil c n k)[k], ?_⟩
  rw [h1]
  unfold byteCells
  rw [List.getElem?_map, List.getElem?_eq_getElem h2]; rfl

set_option maxRecDepth 100000 in
set_option maxHeartbeats 4000000 in
theorem bytes_any (n : Nat) (c : UInt8) (w : World) (hn : n ≤ 20000000) : Calls Try.prog 10 #[.int .i64 (n : Int), .int .u8 (c.toNat : Int)] w fun e w' => e = .returned (.string ⟨(List.replicate n c).toArray⟩) ∧ Below w.heap.size w w' := by
  have hmk := make8 n hn w
  have hn' : (n : Int) ≤ 20000000 := by omega
  obtain ⟨q, hq⟩ : ∃ q : ByteArray, (⟨(List.replicate n c).toArray⟩ : ByteArray) = q := ⟨_, rfl⟩
  rw [hq]
  have HQ := Lib.hid hq
  clear hq
  go_enter Try.func10, Try.ntmps10
  go_wp2_with fail
  go_loopw [6] (fun s4 wr => ∃ k : Nat, k ≤ n ∧ s4 = .int .i64 (k : Nat) ∧ Hid (FilR w wr n (fil c n k))) (fun s4 _ => n - (RowKit.intOf s4).toNat)
  case atStart => exact ⟨0, Nat.zero_le _, rfl, FilR.start w c hn⟩
  case round =>
    obtain ⟨k, hk, rfl, hI⟩ := hrel
    by_cases hlt : k < n
    · have hlt' : (k : Int) < (n : Int) := by omega
      have hk0 : (0 : Int) ≤ (k : Int) := by omega
      obtain ⟨b, hcell⟩ := hI.out.cell hlt
      have hfr := own_frozen hI.out.1 k
      have HN := Lib.hid (hI.out.step hlt)
      go_wp2
      go_roundw
      case rel => exact ⟨k + 1, by omega, by go_num, HN⟩
      case measure => simp [RowKit.intOf]; omega
    · obtain rfl : n = k := by omega
      have hv : ByR wr w.heap.size (.slice (some ⟨w.heap.size, 0, none⟩) n n) (List.replicate n c) := by
        have := hI.out.1
        unfold fil at this
        rw [Nat.sub_self, List.replicate_zero, List.append_nil] at this
        unfold ByR
        rw [List.length_replicate]
        exact this
      have hconv := hv.conv
      rw [HQ.out] at hconv
      clear hv
      go_wp2
      go_ret
      exact ⟨rfl, hI.out.2⟩
end Go.Proofs.Ytpjdffjfhnlbjaa
