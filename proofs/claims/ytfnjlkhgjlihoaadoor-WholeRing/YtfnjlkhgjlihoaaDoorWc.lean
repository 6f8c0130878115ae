/- The walk of span: the words from one bit to another. -/
import Derived.Test.YtfnjlkhgjlihoaaDoorWb
import Derived.Test.YtfnjlkhgjlihoaaDoorR
namespace Go.Proofs.YtfnjlkhgjlihoaaDoor
open Go.RowKit

theorem Tryd.info52' : (Tryd.prog.info? 52).map (fun i => (i.zero, i.size, i.bytes)) = some (some (.int .u64 0), 1, 8) := by kernel_rfl

def spanL (ns : List Nat) (mlow low : Int) (n : Nat) : List Nat := (List.range n).map fun i => win ns mlow (low + 64 * (i : Nat))

/-- The row behind k rounds. -/
def spanR (ns : List Nat) (mlow low : Int) (n k : Nat) : List Value := wds (spanL ns mlow low k) ++ List.replicate (n - k) (.int .u64 0)

theorem spanR_step (ns : List Nat) (mlow low : Int) (n k : Nat) (hk : k < n) : (spanR ns mlow low n k).set k (.int .u64 (win ns mlow (low + 64 * (k : Nat)) : Nat)) = spanR ns mlow low n (k + 1) := by
  unfold spanR spanL wds
  obtain ⟨m, hm⟩ : ∃ m, n - k = m + 1 := ⟨n - k - 1, by omega⟩
  rw [hm, show n - (k + 1) = m by omega, List.replicate_succ, List.set_append_right _ _ (by simp)]
  simp [List.range_succ]

theorem spanR_done (ns : List Nat) (mlow low : Int) (n : Nat) : spanR ns mlow low n n = wds (spanL ns mlow low n) := by simp [spanR]

set_option maxHeartbeats 1000000 in
theorem span_any (s : Value) (ns : List Nat) (mlow low : Int) (n r : Nat) (w : World) (h : Ws w s ns) (h1 : -200000000 ≤ mlow) (h2 : mlow ≤ 200000000) (h3 : -200000000 ≤ low) (h4 : low ≤ 200000000) (h5 : n ≤ 1000000) (hr : r < 64) :
    Calls Tryd.prog 61 #[.agg #[s, .int .i64 mlow], .int .i64 low, .int .i64 (low + (64 * n + r : Nat))] w fun e w' => ∃ g, w.heap.size ≤ g ∧ e = .returned (.slice (some ⟨g, 0, none⟩) (n + 1) (n + 1)) ∧ Row w' 52 g (wds (spanL ns mlow low (n + 1))) ∧ Below w.heap.size w w' := by
  obtain ⟨a, cap, rfl, _, hc⟩ := h.shape
  obtain ⟨i0, hi, hz0, hz1, hz2⟩ := info_parts Tryd.info52'
  have hq1 : (((64 * n + r : Nat) : Int)) / 64 = (n : Int) := by omega
  have hq2 : low + ((64 * n + r : Nat) : Int) - low = ((64 * n + r : Nat) : Int) := by omega
  have hq3 : ((64 * n + r : Nat) : Int) ≤ 100000000 := by omega
  have hq4 : (n : Int) ≤ 1000000 := by omega
  generalize ((64 * n + r : Nat) : Int) = d at *
  have hd0 : 0 ≤ d := by omega
  go_enter Tryd.func61, Tryd.ntmps61
  go_wp2_with (at_make; refine wpList_make_full _ rfl _ _ 23 rfl w.heap.size 52 i0 (.int .u64 0) 1 Tryd.underlying23 hi hz0 hz1 _ _ _ _ (n + 1) rfl rfl ?hL ?hC ?b2 ?b3 ?b4 ?_)
  case hL => omega
  case hC => omega
  case b2 => rw [hz2]; omega
  case b3 => unfold maxLen; omega
  case b4 => simp
  intro w0 hown0 hgrow0
  have hrow := Row.of_make hown0
  have hb0 : Below w.heap.size w w0 := ((Below.refl _ _).alloc (Nat.le_refl _) _).grown hgrow0 (by simp) (fun k hk => by cases hk)
  have hx0 : w0.cell? ⟨w.heap.size, 0, none⟩ = some (.slice a ns.length cap) := hgrow0.cell (by simp) (by simp)
  have hx1 : w0.cell? ⟨w.heap.size, 1, none⟩ = some (.int .i64 mlow) := hgrow0.cell (by simp) (by simp)
  clear hown0 hgrow0 hz0 hz1 hz2 hi
  go_wp2
  go_loopw [17] (fun i wr => ∃ k : Nat, k ≤ n + 1 ∧ i = .int .i64 k ∧ Row wr 52 (w.heap.size + 1) (spanR ns mlow low (n + 1) k) ∧ wr.cell? ⟨w.heap.size, 0, none⟩ = some (.slice a ns.length cap) ∧ wr.cell? ⟨w.heap.size, 1, none⟩ = some (.int .i64 mlow) ∧ Below w.heap.size w wr)
    (fun i _ => n + 1 - (intOf i).toNat)
  case atStart => exact ⟨0, Nat.zero_le _, rfl, by simpa [spanR, spanL, wds] using hrow, hx0, hx1, hb0⟩
  case round =>
    obtain ⟨k, hk, rfl, hrk, hy0, hy1, hbk⟩ := hrel
    by_cases hlt : k < n + 1
    · have hW := h.later hbk (Nat.le_refl _)
      have hlt' : (k : Int) < (n : Int) + 1 := by omega
      have hln : (spanR ns mlow low (n + 1) k).length = n + 1 := by simp [spanR, spanL, wds]; omega
      go_wp2_with fail
      refine (window_any _ ns _ _ _ hW (by omega) (by omega) (by omega) (by omega)).mono ?_
      rintro e w' ⟨rfl, hb⟩
      have hrw := hrk.below hb hrk.lt
      have hf := hrw.frozen k
      obtain ⟨v0, hce⟩ : ∃ v0, w'.cell? ⟨w.heap.size + 1, k, none⟩ = some v0 := ⟨_, hrw.cell k (by omega)⟩
      have hst := spanR_step ns mlow low (n + 1) k hlt
      have Hst : Hid (Row (w'.setCell ⟨w.heap.size + 1, k, none⟩ (.int .u64 (win ns mlow (low + 64 * (k : Nat)) : Nat))) 52 (w.heap.size + 1) (spanR ns mlow low (n + 1) (k + 1))) := by rw [← hst]; exact hrw.set k _
      have hz0 := cell_later hb hy0
      have hz1 := cell_later hb hy1
      have Hbk : Hid (Below w.heap.size w w') := hbk.trans (hb.mono hbk.size)
      clear hst hrw hrk hW hb hbk
      go_wp2
      go_roundw
      case rel => exact ⟨k + 1, by omega, by go_num, Hst.out, cell_other hz0 (by simp) _, cell_other hz1 (by simp) _, Hbk.out.setCell (by simp) _⟩
      case measure => simp [intOf]; omega
    · have hk' : k = n + 1 := by omega
      have hge : ¬ ((k : Int) < (n : Int) + 1) := by omega
      have Hr : Hid (Row wr 52 (w.heap.size + 1) (wds (spanL ns mlow low (n + 1)))) := by rw [← spanR_done]; subst hk'; exact hrk
      clear hk' hrk
      go_wp2
      go_ret
      exact ⟨w.heap.size + 1, by omega, rfl, Hr.out, hbk⟩

end Go.Proofs.YtfnjlkhgjlihoaaDoor
