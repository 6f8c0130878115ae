/- Own texts, put together: Wa Wb R Wc Sh Wd We Ra. -/
import Derived.Test.YtocnkgfoffpbfaaGreatDoorQ2
import Derived.Test.YtocnkgfoffpbfaaGreatDoorProg
import Derived.WalkKit
import Derived.WalkSpells
import Derived.WalkLawsBesides
import Derived.Deep.RegionHeld3
import Derived.Deep.DrawnRows
import Derived.Shelf.Small.Wraps
import Derived.Shelf.Strconv.Itoa0
import Derived.Lib.Strings
import Derived.Lib.Slices
import Derived.Lib.Small
import Derived.Lib.Walk
import Derived.Lib.BitFns
import Derived.Laws.MathBits
import Derived.Lib.TrailingZeros
import Derived.Shelf.Spec.TrailingZeros
import Derived.Test.YtocnkgfoffpbfaaGreatDoorRows
import Derived.ProofKit
import Derived.LaidMore
import Derived.OpenShut
import Derived.Laws.Cover2
import Derived.Lib.LaidTab
namespace Go.Proofs.YtocnkgfoffpbfaaGreatDoor
/- Walks of the small functions of package whole: what each of them answers, for every magnitude. -/
section
open Go.RowKit
structure Ws (w : World) (s : Value) (ns : List Nat) : Prop where
 shape : ∃ a cap, s = .slice a ns.length cap ∧ ns.length ≤ cap ∧ (ns = [] ∨ ∃ b off, a = some ⟨b, off, none⟩ ∧ b < w.heap.size ∧ ∀ j, j < ns.length → w.cell? ⟨b, off + j, none⟩ = some (.int .u64 (ns.getD j 0 : Nat)))
 small : ∀ n, n ∈ ns → n < 18446744073709551616
 short : ns.length ≤ 1000000
theorem Ws.later {w w' : World} {s : Value} {ns : List Nat} {B : Nat} (h : Ws w s ns) (hb : Below B w w') (hB : w.heap.size ≤ B) : Ws w' s ns := by
 obtain ⟨⟨a, cap, hs, hcap, hc⟩, h2, h3⟩ := h
 refine ⟨⟨a, cap, hs, hcap, ?_⟩, h2, h3⟩
 rcases hc with hc | ⟨b, off, ha, hbs, hc⟩
 · exact Or.inl hc
 · exact Or.inr ⟨b, off, ha, Nat.lt_of_lt_of_le hbs hb.size, fun j hj => (hb.cell (by exact Nat.lt_of_lt_of_le hbs hB)).trans (hc j hj)⟩
set_option maxHeartbeats 400000 in
theorem isZero_any (a : Option Addr) (len cap : Nat) (low : Int) (w : World) :
   Calls Tryz.prog 74 #[.agg #[.slice a len cap, .int .i64 low]] w fun e w' => e = .returned (.bool ((len : Int) == 0)) ∧ Below w.heap.size w w' := by
 go_enter Tryz.func74, Tryz.ntmps74
 go_wp2
 go_ret
 exact ⟨rfl, (Below.refl _ _).alloc (Nat.le_refl _) _⟩
set_option maxHeartbeats 400000 in
theorem lowest_any (a : Option Addr) (len cap : Nat) (low : Int) (w : World) :
   Calls Tryz.prog 109 #[.agg #[.slice a len cap, .int .i64 low]] w fun e w' => e = .returned (.int .i64 low) ∧ Below w.heap.size w w' := by
 go_enter Tryz.func109, Tryz.ntmps109
 go_wp2
 go_ret
 exact ⟨rfl, (Below.refl _ _).alloc (Nat.le_refl _) _⟩
set_option maxHeartbeats 400000 in
theorem word_out (a : Option Addr) (len cap : Nat) (low : Int) (i : Nat) (w : World) (hi : len ≤ i) :
   Calls Tryz.prog 136 #[.agg #[.slice a len cap, .int .i64 low], .int .i64 i] w fun e w' => e = .returned (.int .u64 0) ∧ Below w.heap.size w w' := by
 go_enter Tryz.func136, Tryz.ntmps136
 go_wp2
 go_ret
 exact ⟨rfl, (Below.refl _ _).alloc (Nat.le_refl _) _⟩
set_option maxHeartbeats 400000 in
theorem word_in (b off len cap : Nat) (low : Int) (i : Nat) (n : Int) (w : World) (hi : i < len) (hb : b < w.heap.size) (hc : w.cell? ⟨b, off + i, none⟩ = some (.int .u64 n)) :
   Calls Tryz.prog 136 #[.agg #[.slice (some ⟨b, off, none⟩) len cap, .int .i64 low], .int .i64 i] w fun e w' => e = .returned (.int .u64 n) ∧ Below w.heap.size w w' := by
 go_enter Tryz.func136, Tryz.ntmps136
 go_wp2
 go_ret
 exact ⟨rfl, (Below.refl _ _).alloc (Nat.le_refl _) _⟩
theorem word_any (s : Value) (ns : List Nat) (low i : Int) (w : World) (h : Ws w s ns) (hi : 0 ≤ i) :
   Calls Tryz.prog 136 #[.agg #[s, .int .i64 low], .int .i64 i] w fun e w' => e = .returned (.int .u64 (ns.getD i.toNat 0 : Nat)) ∧ Below w.heap.size w w' := by
 obtain ⟨n, rfl⟩ := Int.eq_ofNat_of_zero_le hi
 obtain ⟨⟨a, cap, rfl, _, hc⟩, h2, h3⟩ := h
 rw [Int.toNat_natCast]
 by_cases hlt : n < ns.length
 · rcases hc with rfl | ⟨b, off, rfl, hb, hc⟩
   · simp at hlt
   · exact word_in b off _ cap low n _ w hlt hb (hc n hlt)
 · have : ns.getD n 0 = 0 := by simp [List.getD, List.getElem?_eq_none (Nat.le_of_not_lt hlt)]
   rw [this]
   exact word_out a _ cap low n w (by omega)
end

/- Walks of window and span. -/
section
open Go.RowKit
attribute [local go_sem ↓] Go.wp_at_zero Go.wp_at_succ
theorem wrapI (x : Int) (h : -4611686018427387904 ≤ x) (h' : x ≤ 4611686018427387904) : IntKind.i64.wrap x = x := by
 rw [IntKind.wrap_i64]; omega
theorem keep2 {w W W' : World} {p q : Addr} {x y : Value} (h : W.cell? p = some x ∧ W.cell? q = some y ∧ Below w.heap.size w W) (hb : Below W.heap.size W W') : W'.cell? p = some x ∧ W'.cell? q = some y ∧ Below w.heap.size w W' :=
 ⟨cell_later hb h.1, cell_later hb h.2.1, h.2.2.trans (hb.mono h.2.2.size)⟩
set_option maxHeartbeats 1000000 in
theorem window_low (s : Value) (ns : List Nat) (low at' : Int) (w : World) (h : Ws w s ns) (hlt : at' < low) (h1 : -1000000000 ≤ at') (h2 : low ≤ 1000000000) :
   Calls Tryz.prog 105 #[.agg #[s, .int .i64 low], .int .i64 at'] w fun e w' => e = .returned (.int .u64 (IntKind.u64.wrap ((ns.getD 0 0 : Nat) * 2 ^ min (low - at').toNat 64))) ∧ Below w.heap.size w w' := by
 obtain ⟨a, cap, rfl, _, hc⟩ := h.shape
 have hw1 : IntKind.i64.wrap (low - at') = low - at' := wrapI _ (by omega) (by omega)
 have hw2 : at' ≤ low := by omega
 go_enter Tryz.func105, Tryz.ntmps105
 go_wp2
 go_region_held3 (fun w' => w'.cell? ⟨w.heap.size, 0, none⟩ = some (.slice a ns.length cap) ∧ w'.cell? ⟨w.heap.size, 1, none⟩ = some (.int .i64 low) ∧ Below w.heap.size w w')
   (first | exact ⟨by simp, by simp, ((Below.refl _ _).alloc (Nat.le_refl _) _).drew⟩ | exact ⟨cell_later (by assumption) (by simp), cell_later (by assumption) (by simp), (((Below.refl _ _).alloc (Nat.le_refl _) _).drew).trans ((by assumption : Below _ _ _).mono (by simp))⟩ | (trace_state; fail))
   (first | (go_at_call 136; refine (word_any _ ns _ _ _ ?_ ?_).mono ?_; exact h.later (((Below.refl _ _).alloc (Nat.le_refl _) _).drew) (Nat.le_refl _); omega; rintro e w' ⟨rfl, hb⟩))
 go_wp2
 go_ret
 exact ⟨rfl, (by assumption : _ ∧ _ ∧ _).2.2⟩
set_option maxHeartbeats 1000000 in
theorem window_high (s : Value) (ns : List Nat) (low : Int) (k p r : Nat) (w : World) (h : Ws w s ns) (h3 : k ≤ 1000000000) (hp : p = k / 64) (hr : r = k % 64) :
   Calls Tryz.prog 105 #[.agg #[s, .int .i64 low], .int .i64 (low + k)] w fun e w' => e = .returned (.int .u64 (bits .or .u64 ((ns.getD p 0 : Nat) / 2 ^ min r 64) (IntKind.u64.wrap ((ns.getD (p + 1) 0 : Nat) * 2 ^ min (64 - r) 64)))) ∧ Below w.heap.size w w' := by
 obtain ⟨a, cap, rfl, _, hc⟩ := h.shape
 have hw0 : ¬ (low + (k : Int)) < low := by omega
 have hw1 : IntKind.i64.wrap (low + (k : Int) - low) = (k : Int) := by rw [show low + (k : Int) - low = (k : Int) by omega]; exact wrapI _ (by omega) (by omega)
 have hw3 : (k : Int) ≤ 1000000000 := by omega
 have hq1 : IntKind.i64.wrap ((k : Int) / 64) = (p : Int) := by rw [wrapI _ (by omega) (by omega)]; omega
 have hq2 : (k : Int).tmod 64 = (r : Int) := by rw [Int.tmod_eq_emod_of_nonneg (by omega)]; omega
 have hq3 : IntKind.i64.wrap ((p : Int) + 1) = (p : Int) + 1 := wrapI _ (by omega) (by omega)
 have hq4 : IntKind.i64.wrap (64 - (r : Int)) = 64 - (r : Int) := wrapI _ (by omega) (by omega)
 have hq5 : (r : Int) ≤ 64 := by omega
 have hq6 : (64 - (r : Int)).toNat = 64 - r := by omega
 clear hp hr
 go_enter Tryz.func105, Tryz.ntmps105
 go_wp2
 go_region_held3 (fun w' => w'.cell? ⟨w.heap.size, 0, none⟩ = some (.slice a ns.length cap) ∧ w'.cell? ⟨w.heap.size, 1, none⟩ = some (.int .i64 low) ∧ Below w.heap.size w w')
   (first | exact ⟨by simp, by simp, ((Below.refl _ _).alloc (Nat.le_refl _) _).drew⟩)
   (fail)
 go_wp2
 go_region_held3 (fun w' => w'.cell? ⟨w.heap.size, 0, none⟩ = some (.slice a ns.length cap) ∧ w'.cell? ⟨w.heap.size, 1, none⟩ = some (.int .i64 low) ∧ Below w.heap.size w w')
   (first
      | exact ⟨by simp, by simp, ((Below.refl _ _).alloc (Nat.le_refl _) _).drew.drew⟩
      | exact ⟨cell_later (by assumption) (by simp [*]), cell_later (by assumption) (by simp [*]), (((Below.refl _ _).alloc (Nat.le_refl _) _).drew.drew).trans ((by assumption : Below _ _ _).mono (by simp))⟩
      | exact keep2 (by assumption) (by assumption))
   (first | (go_at_call 136; refine (word_any _ ns _ _ _ ?_ ?_).mono ?_; (first | exact h.later (((Below.refl _ _).alloc (Nat.le_refl _) _).drew.drew) (Nat.le_refl _) | exact h.later ((by assumption : _ ∧ _ ∧ _).2.2) (Nat.le_refl _)); omega; rintro e w' ⟨rfl, hb⟩))
 go_wp2
 go_ret
 refine ⟨?_, (by assumption : _ ∧ _ ∧ _).2.2⟩
 have e1 : min r 64 = r := by omega
 have e2 : min (64 - r) 64 = 64 - r := by omega
 rw [e1, e2]
 rfl
theorem window_any (s : Value) (ns : List Nat) (low at' : Int) (w : World) (h : Ws w s ns) (h1 : -400000000 ≤ low) (h2 : low ≤ 400000000) (h3 : -400000000 ≤ at') (h4 : at' ≤ 400000000) :
   Calls Tryz.prog 105 #[.agg #[s, .int .i64 low], .int .i64 at'] w fun e w' => e = .returned (.int .u64 (win ns low at' : Nat)) ∧ Below w.heap.size w w' := by
 by_cases hlt : at' < low
 · refine (window_low s ns low at' w h hlt (by omega) (by omega)).mono fun e w' he => ⟨he.1.trans ?_, he.2⟩
   rw [IntKind.wrap_u64]
   unfold win
   rw [if_pos hlt, ← win_low_eq, castMul]
 · obtain ⟨k, hk⟩ : ∃ k : Nat, at' = low + (k : Int) := ⟨(at' - low).toNat, by omega⟩
   subst hk
   refine (window_high s ns low k _ _ w h (by omega) rfl rfl).mono fun e w' he => ⟨he.1.trans ?_, he.2⟩
   have hs : Small ns := h.small
   unfold win
   rw [if_neg hlt, show (low + (k : Int) - low).toNat = k by omega, ← win_high_eq hs, IntKind.wrap_u64]
   have e1 : min (k % 64) 64 = k % 64 := by omega
   have e2 : min (64 - k % 64) 64 = 64 - k % 64 := by omega
   have b1 : ns.getD (k / 64) 0 / 2 ^ (k % 64) < 18446744073709551616 := Nat.lt_of_le_of_lt (Nat.div_le_self _ _) (small_getD hs _)
   have b2 : ns.getD (k / 64 + 1) 0 * 2 ^ (64 - k % 64) % 18446744073709551616 < 18446744073709551616 := Nat.mod_lt _ (by omega)
   rw [e1, e2, ← u64_or_nat _ _ b1 b2, castMul, castDiv]
end

/- Rows of the call's own: a block of cells that may be written, told whole by a list. -/
section
open Go.RowKit
def Row (w : World) (e : TypeId) (g : Nat) (xs : List Value) : Prop := w.heap[g]? = some (.cells xs.toArray e (0, 0))
theorem Row.lt {w : World} {e : TypeId} {g : Nat} {xs : List Value} (h : Row w e g xs) : g < w.heap.size := by
 unfold Row at h
 by_cases hg : g < w.heap.size
 · exact hg
 · rw [Array.getElem?_eq_none (by omega)] at h; cases h
theorem Row.cell {w : World} {e : TypeId} {g : Nat} {xs : List Value} (h : Row w e g xs) (i : Nat) (hi : i < xs.length) : w.cell? ⟨g, i, none⟩ = some xs[i] := by
 unfold Row at h; simp [World.cell?, h, hi]
theorem Row.frozen {w : World} {e : TypeId} {g : Nat} {xs : List Value} (h : Row w e g xs) (i : Nat) : w.frozen? ⟨g, i, none⟩ = false := by
 unfold Row at h; simp [World.frozen?, h]
theorem Row.set {w : World} {e : TypeId} {g : Nat} {xs : List Value} (h : Row w e g xs) (i : Nat) (v : Value) : Row (w.setCell ⟨g, i, none⟩ v) e g (xs.set i v) := by
 have hg := h.lt
 unfold Row at *
 simp [World.setCell, Array.getElem?_modify, h]
theorem Row.other {w : World} {e : TypeId} {g : Nat} {xs : List Value} (h : Row w e g xs) {a : Addr} (hn : g ≠ a.block) (v : Value) : Row (w.setCell a v) e g xs := by
 unfold Row at *; rw [Below.heap_setCell w a v g hn]; exact h
theorem Row.alloc {w : World} {e : TypeId} {g : Nat} {xs : List Value} (h : Row w e g xs) (o : Obj) : Row (w.alloc o) e g xs := by
 have := h.lt
 unfold Row at *; rw [Below.heap_alloc w o g this]; exact h
theorem Row.drew {w : World} {e : TypeId} {g : Nat} {xs : List Value} (h : Row w e g xs) : Row w.drew e g xs := h
theorem Row.below {w w' : World} {e : TypeId} {g B : Nat} {xs : List Value} (h : Row w e g xs) (hb : Below B w w') (hg : g < B) : Row w' e g xs := by
 unfold Row at *; rw [hb.block g hg]; exact h
theorem Row.of_make {w : World} {e : TypeId} {g n : Nat} {z : Value} {base : Nat} (h : w.ownsRow base e 1 (.slice (some ⟨g, 0, none⟩) n n) n (madeCells #[z] n).toList) : Row w e g (List.replicate n z) := by
 obtain ⟨h0, h1 | ⟨g', cap, cur, hv, hb, hc, h2, h3, h4, h5⟩⟩ := h
 · exact absurd h1.1 (by simp)
 · simp only [Value.slice.injEq, Option.some.injEq, Addr.mk.injEq] at hv
   obtain ⟨⟨rfl, _⟩, _, rfl⟩ := hv
   unfold Row
   rw [hc]
   have : cur.toList = List.replicate n z := by
     rw [List.take_of_length_le (by simp [h4])] at h5
     rw [h5]
     apply List.ext_getElem
     · simp [madeCells]
     · intro i h1 h2
       simp [madeCells, Nat.mod_one]
   rw [← this]
theorem cell_other {w : World} {p a : Addr} {x : Value} (h : w.cell? p = some x) (hn : p.block ≠ a.block) (v : Value) : (w.setCell a v).cell? p = some x := by
 rw [World.cell?_of_block (w := w) (Below.heap_setCell w a v p.block hn)]; exact h
theorem frozen_later {w w' : World} (hb : Below w.heap.size w w') {p : Addr} (h : w.frozen? p = false) (hp : p.block < w.heap.size) : w'.frozen? p = false := by
 rw [hb.frozen hp]; exact h
theorem cell_ne {w : World} {p a : Addr} {x y : Value} (hp : w.cell? p = some x) (ha : w.cell? a = some y) (hxy : x ≠ y) (v : Value) : (w.setCell a v).cell? p = some x := by
 rw [World.cell?_setCell_other w a p v (by intro e; rw [← e, ha] at hp; exact hxy (Option.some.inj hp).symm)]; exact hp
theorem Ws.set {w : World} {s : Value} {ns : List Nat} (h : Ws w s ns) {a : Addr} {y : Value} (ha : w.cell? a = some y) (hy : ∀ n : Nat, y ≠ .int .u64 (n : Nat)) (v : Value) : Ws (w.setCell a v) s ns := by
 obtain ⟨⟨ad, cap, hs, hcap, hc⟩, h2, h3⟩ := h
 refine ⟨⟨ad, cap, hs, hcap, ?_⟩, h2, h3⟩
 rcases hc with hc | ⟨b, off, hb, hbs, hc⟩
 · exact Or.inl hc
 · exact Or.inr ⟨b, off, hb, by simpa using hbs, fun j hj => cell_ne (hc j hj) ha (fun e => hy _ e.symm) v⟩
def wds (l : List Nat) : List Value := l.map fun n => .int .u64 (n : Nat)
theorem wds_length (l : List Nat) : (wds l).length = l.length := by simp [wds]
theorem Row.ws {w : World} {e : TypeId} {g : Nat} {ns : List Nat} (h : Row w e g (wds ns)) (hs : Small ns) (hl : ns.length ≤ 1000000) (cap : Nat) (hcap : ns.length ≤ cap) : Ws w (.slice (some ⟨g, 0, none⟩) ns.length cap) ns :=
 ⟨⟨_, _, rfl, hcap, Or.inr ⟨g, 0, rfl, h.lt, fun j hj => by
   rw [Nat.zero_add, h.cell j (by rw [wds_length]; exact hj)]
   simp [wds, List.getD, hj]⟩⟩, hs, hl⟩
end

/- The walk of span: the words from one bit to another. -/
section
open Go.RowKit
theorem Tryz.info86' : (Tryz.prog.info? 86).map (fun i => (i.zero, i.size, i.bytes)) = some (some (.int .u64 0), 1, 8) := by kernel_rfl
def spanL (ns : List Nat) (mlow low : Int) (n : Nat) : List Nat := (List.range n).map fun i => win ns mlow (low + 64 * (i : Nat))
def spanR (ns : List Nat) (mlow low : Int) (n k : Nat) : List Value := wds (spanL ns mlow low k) ++ List.replicate (n - k) (.int .u64 0)
theorem spanR_step (ns : List Nat) (mlow low : Int) (n k : Nat) (hk : k < n) : (spanR ns mlow low n k).set k (.int .u64 (win ns mlow (low + 64 * (k : Nat)) : Nat)) = spanR ns mlow low n (k + 1) := by
 unfold spanR spanL wds
 obtain ⟨m, hm⟩ : ∃ m, n - k = m + 1 := ⟨n - k - 1, by omega⟩
 rw [hm, show n - (k + 1) = m by omega, List.replicate_succ, List.set_append_right _ _ (by simp)]
 simp [List.range_succ]
theorem spanR_done (ns : List Nat) (mlow low : Int) (n : Nat) : spanR ns mlow low n n = wds (spanL ns mlow low n) := by simp [spanR]
set_option maxHeartbeats 1000000 in
theorem span_any (s : Value) (ns : List Nat) (mlow low : Int) (n r : Nat) (w : World) (h : Ws w s ns) (h1 : -200000000 ≤ mlow) (h2 : mlow ≤ 200000000) (h3 : -200000000 ≤ low) (h4 : low ≤ 200000000) (h5 : n ≤ 1000000) (hr : r < 64) :
   Calls Tryz.prog 116 #[.agg #[s, .int .i64 mlow], .int .i64 low, .int .i64 (low + (64 * n + r : Nat))] w fun e w' => ∃ g, w.heap.size ≤ g ∧ e = .returned (.slice (some ⟨g, 0, none⟩) (n + 1) (n + 1)) ∧ Row w' 86 g (wds (spanL ns mlow low (n + 1))) ∧ Below w.heap.size w w' := by
 obtain ⟨a, cap, rfl, _, hc⟩ := h.shape
 obtain ⟨i0, hi, hz0, hz1, hz2⟩ := info_parts Tryz.info86'
 have hq1 : (((64 * n + r : Nat) : Int)) / 64 = (n : Int) := by omega
 have hq2 : low + ((64 * n + r : Nat) : Int) - low = ((64 * n + r : Nat) : Int) := by omega
 have hq3 : ((64 * n + r : Nat) : Int) ≤ 100000000 := by omega
 have hq4 : (n : Int) ≤ 1000000 := by omega
 generalize ((64 * n + r : Nat) : Int) = d at *
 have hd0 : 0 ≤ d := by omega
 go_enter Tryz.func116, Tryz.ntmps116
 go_wp2_with (at_make; refine wpList_make_full _ rfl _ _ 45 rfl w.heap.size 86 i0 (.int .u64 0) 1 Tryz.underlying45 hi hz0 hz1 _ _ _ _ (n + 1) rfl rfl ?hL ?hC ?b2 ?b3 ?b4 ?_)
 case hL => omega
 case hC => omega
 case b2 => rw [hz2]; omega
 case b3 => unfold maxLen; omega
 case b4 => simp
 intro w0 hown0 hgrow0
 have hrow := Row.of_make hown0
 have hb0 : Below w.heap.size w w0 := ((Below.refl _ _).alloc (Nat.le_refl _) _).grown hgrow0 (by simp) (fun k hk => by cases hk)
 have hx0 : w0.cell? ⟨w.heap.size, 0, none⟩ = some (.slice a ns.length cap) := hgrow0.cell (by simp) (by simp)
 have hx1 : w0.cell? ⟨w.heap.size, 1, none⟩ = some (.int .i64 mlow) := hgrow0.cell (by simp) (by simp)
 clear hown0 hgrow0 hz0 hz1 hz2 hi
 go_wp2
 go_loopw [17] (fun i wr => ∃ k : Nat, k ≤ n + 1 ∧ i = .int .i64 k ∧ Row wr 86 (w.heap.size + 1) (spanR ns mlow low (n + 1) k) ∧ wr.cell? ⟨w.heap.size, 0, none⟩ = some (.slice a ns.length cap) ∧ wr.cell? ⟨w.heap.size, 1, none⟩ = some (.int .i64 mlow) ∧ Below w.heap.size w wr)
   (fun i _ => n + 1 - (intOf i).toNat)
 case atStart => exact ⟨0, Nat.zero_le _, rfl, by simpa [spanR, spanL, wds] using hrow, hx0, hx1, hb0⟩
 case round =>
   obtain ⟨k, hk, rfl, hrk, hy0, hy1, hbk⟩ := hrel
   by_cases hlt : k < n + 1
   · have hW := h.later hbk (Nat.le_refl _)
     have hlt' : (k : Int) < (n : Int) + 1 := by omega
     have hln : (spanR ns mlow low (n + 1) k).length = n + 1 := by simp [spanR, spanL, wds]; omega
     go_wp2_with fail
     refine (window_any _ ns _ _ _ hW (by omega) (by omega) (by omega) (by omega)).mono ?_
     rintro e w' ⟨rfl, hb⟩
     have hrw := hrk.below hb hrk.lt
     have hf := hrw.frozen k
     obtain ⟨v0, hce⟩ : ∃ v0, w'.cell? ⟨w.heap.size + 1, k, none⟩ = some v0 := ⟨_, hrw.cell k (by omega)⟩
     have hst := spanR_step ns mlow low (n + 1) k hlt
     have Hst : Hid (Row (w'.setCell ⟨w.heap.size + 1, k, none⟩ (.int .u64 (win ns mlow (low + 64 * (k : Nat)) : Nat))) 86 (w.heap.size + 1) (spanR ns mlow low (n + 1) (k + 1))) := by rw [← hst]; exact hrw.set k _
     have hz0 := cell_later hb hy0
     have hz1 := cell_later hb hy1
     have Hbk : Hid (Below w.heap.size w w') := hbk.trans (hb.mono hbk.size)
     clear hst hrw hrk hW hb hbk
     go_wp2
     go_roundw
     case rel => exact ⟨k + 1, by omega, by go_num, Hst.out, cell_other hz0 (by simp) _, cell_other hz1 (by simp) _, Hbk.out.setCell (by simp) _⟩
     case measure => simp [intOf]; omega
   · have hk' : k = n + 1 := by omega
     have hge : ¬ ((k : Int) < (n : Int) + 1) := by omega
     have Hr : Hid (Row wr 86 (w.heap.size + 1) (wds (spanL ns mlow low (n + 1)))) := by rw [← spanR_done]; subst hk'; exact hrk
     clear hk' hrk
     go_wp2
     go_ret
     exact ⟨w.heap.size + 1, by omega, rfl, Hr.out, hbk⟩
end

/- The library's contracts for cmp.Compare at int and math/bits.Len64, laid at this program: each is one application of a theorem of the guide's library. -/
section
open Go.Shelf Go.Proofs
open Go.RowKit in
def Tryz.lays122_ren : Go.Shelf.Ren := ⟨fun | 122 => 70 | 215 => 102 | n => n, fun | 3 => 3 | 4 => 4 | n => n, fun | n => n⟩
theorem Tryz.lays122 : Go.Proofs.Lays.n122 Tryz.prog Tryz.lays122_ren := {
 mixed := by kernel_rfl
 f122 := Tryz.func70.trans (congrArg some (by kernel_rfl))
 f215 := Tryz.func102.trans (congrArg some (by kernel_rfl))
 t3 := Tryz.underlying3
 a3 := Tryz.isAgg3
 z3 := Tryz.sizeOf3
 v3 := Tryz.zeroValue3
 t4 := Tryz.underlying4
 a4 := Tryz.isAgg4
 z4 := Tryz.sizeOf4
 v4 := Tryz.zeroValue4 }
open Go.RowKit in
theorem Tryz.cmp_Compare_int (x y : Int) (w : World) :
   Calls Tryz.prog 70 #[.int .i64 x, .int .i64 y] w fun e w' => e = .returned (.int .i64 (Lib.compareInt x y)) ∧ w' = w := Any.cmp_Compare_int Tryz.lays122 x y w
def Tryz.lays129_ren : Go.Shelf.Ren := ⟨fun | 129 => 134 | n => n, fun | 53 => 86 | 3 => 3 | 4 => 4 | 46 => 137 | 5 => 5 | 9 => 9 | n => n, fun | n => n⟩
theorem Tryz.lays129 : Go.Proofs.Lays.n129 Tryz.prog Tryz.lays129_ren := {
 mixed := by kernel_rfl
 f129 := Tryz.func134.trans (congrArg some (by kernel_rfl))
 t3 := Tryz.underlying3
 a3 := Tryz.isAgg3
 z3 := Tryz.sizeOf3
 v3 := Tryz.zeroValue3
 t4 := Tryz.underlying4
 a4 := Tryz.isAgg4
 z4 := Tryz.sizeOf4
 v4 := Tryz.zeroValue4
 t5 := Tryz.underlying5
 a5 := Tryz.isAgg5
 z5 := Tryz.sizeOf5
 v5 := Tryz.zeroValue5
 t9 := Tryz.underlying9
 a9 := Tryz.isAgg9
 z9 := Tryz.sizeOf9
 v9 := Tryz.zeroValue9
 t46 := Tryz.underlying137
 a46 := Tryz.isAgg137
 z46 := Tryz.sizeOf137
 v46 := Tryz.zeroValue137
 t53 := Tryz.underlying86
 a53 := Tryz.isAgg86
 z53 := Tryz.sizeOf86
 v53 := Tryz.zeroValue86 }
theorem Tryz.bits_Len64 (x : Int) (w : World) (h0 : 0 ≤ x) (h1 : x ≤ 18446744073709551615) :
   Calls Tryz.prog 134 #[.int .u64 x] w fun e w' => e = .returned (.int .i64 (Lib.bitLen x.toNat)) ∧ w' = w := Any.bits_Len64 Tryz.lays129 x w h0 h1
end

/- Walks of math/bits: Len64, TrailingZeros64, Mul64, in the numbers of this program. -/
section
open Go.RowKit
theorem bitLenAux_log2 (f : Nat) : ∀ x : Nat, x ≠ 0 → x < 2 ^ f → Lib.bitLenAux f x = Nat.log2 x + 1 := by
 induction f with
 | zero => intro x h0 h1; simp at h1; omega
 | succ f ih =>
   intro x h0 h1
   rw [Lib.bitLenAux, if_neg h0]
   by_cases h2 : x / 2 = 0
   · have : x = 1 := by omega
     subst this
     simp
     cases f <;> simp [Lib.bitLenAux, show Nat.log2 1 = 0 from rfl]
   · rw [ih (x / 2) h2 (by rw [Nat.pow_succ] at h1; omega)]
     have : Nat.log2 x = Nat.log2 (x / 2) + 1 := by
       rw [Nat.log2_def x, if_pos (by omega)]
     omega
theorem bitLen_log2 (x : Nat) (h0 : x ≠ 0) (h1 : x < 18446744073709551616) : Lib.bitLen x = Nat.log2 x + 1 := bitLenAux_log2 64 x h0 h1
def Tab (w : World) : Prop := ∀ j, j < Lib.deBruijn64tab.length → w.cell? ⟨1, j, none⟩ = some (.int .u8 (Lib.deBruijn64tab.getD j 0 : Nat))
theorem Tab.later {w w' : World} (h : Tab w) (hb : Below w.heap.size w w') : Tab w' := fun j hj => cell_later hb (h j hj)
set_option maxHeartbeats 1000000 in
theorem tz64_core (x k idx : Nat) (w : World) (hx0 : ((x : Int) == 0) = false)
   (key : IntKind.u64.wrap (bits BinOp.and IntKind.u64 (x : Int) (IntKind.u64.wrap (-(x : Int))) * 285870213051353865) / 288230376151711744 = (idx : Int))
   (hi : idx < 64) (hk : k < 64) (hcell : w.cell? ⟨1, idx, none⟩ = some (.int .u8 k)) :
   Calls Tryz.prog 115 #[.int .u64 x] w fun e w' => e = .returned (.int .i64 k) ∧ w' = w := by
 go_enter Tryz.func115, Tryz.ntmps115
 go_wp2_with (simp only [key])
 go_ret
 exact ⟨rfl, rfl⟩
theorem tz64_any (x : Nat) (hx : x < 18446744073709551616) (hx0 : x ≠ 0) (w : World) (hT : Tab w) :
   Calls Tryz.prog 115 #[.int .u64 x] w fun e w' => e = .returned (.int .i64 (Lib.ctz 64 x)) ∧ w' = w := by
 obtain ⟨hlow, hk⟩ := Lib.lowest_bit 64 x hx0 hx
 obtain ⟨hi, htab⟩ := Lib.deBruijn64_at _ hk
 refine tz64_core x _ _ w (by simpa using hx0) (tz64_key x _ hx hx0 hlow) hi hk ?_
 rw [hT _ hi, htab]
theorem ctz_spec (x : Nat) (hx : x < 18446744073709551616) (hx0 : x ≠ 0) : ∃ m, x = 2 ^ Lib.ctz 64 x * (2 * m + 1) ∧ Lib.ctz 64 x < 64 := by
 have e : Lib.ctz 64 x = Lib.ctzFrom 64 x := by simp [Lib.ctz, hx0]
 rw [e]
 exact Lib.ctzFrom_spec 64 x (by omega) hx
theorem len64_any (x : Int) (w : World) (h0 : 0 < x) (h1 : x ≤ 18446744073709551615) :
   Calls Tryz.prog 134 #[.int .u64 x] w fun e w' => e = .returned (.int .i64 ((Nat.log2 x.toNat + 1 : Nat) : Int)) ∧ w' = w := by
 rw [← bitLen_log2 x.toNat (by omega) (by omega)]
 exact Tryz.bits_Len64 x w (by omega) h1
theorem ret_two {a b c d : Int} (h1 : a = c) (h2 : b = d) : Ending.returned (.tuple #[.int .u64 a, .int .u64 b]) = .returned (.tuple #[.int .u64 c, .int .u64 d]) := by rw [h1, h2]
theorem mul_core (x y : Int) (hx0 : 0 ≤ x) (hx : x < 18446744073709551616) (hy0 : 0 ≤ y) (hy : y < 18446744073709551616) (X0 Y0 T L : Int) (e1 : X0 = x % 4294967296) (e2 : Y0 = y % 4294967296)
   (e3 : T = (x / 4294967296 * Y0 % 18446744073709551616 + X0 * Y0 % 18446744073709551616 / 4294967296) % 18446744073709551616) (e4 : L = T % 4294967296) :
   ((x / 4294967296 * (y / 4294967296) % 18446744073709551616 + T / 4294967296) % 18446744073709551616 + (L + X0 * (y / 4294967296) % 18446744073709551616) % 18446744073709551616 / 4294967296) % 18446744073709551616 = x * y / 18446744073709551616 := by
 subst e4 e3 e2 e1
 exact mul64_arith x y hx0 hx hy0 hy
set_option maxHeartbeats 1000000 in
theorem mul64_any (x y : Int) (w : World) (hx0 : 0 ≤ x) (hx : x < 18446744073709551616) (hy0 : 0 ≤ y) (hy : y < 18446744073709551616) :
   Calls Tryz.prog 152 #[.int .u64 x, .int .u64 y] w fun e w' => e = .returned (.tuple #[.int .u64 (x * y / 18446744073709551616), .int .u64 (x * y % 18446744073709551616)]) ∧ w' = w := by
 go_enter Tryz.func152, Tryz.ntmps152
 go_wp2
 go_ret2
 refine ⟨ret_two ?_ (IntKind.wrap_u64 _), rfl⟩
 simp only [IntKind.wrap_u64]
 exact mul_core x y hx0 hx hy0 hy _ _ _ _ (and_low32 _ hx0 hx) (and_low32 _ hy0 hy) rfl (and_low32 _ (Int.emod_nonneg _ (by omega)) (Int.emod_lt_of_pos _ (by omega)))
end

/- The walk of highest: the highest bit of a magnitude. -/
section
open Go.RowKit
attribute [local go_sem ↓] Go.wp_at_zero Go.wp_at_succ
theorem keep3 {w W W' : World} {p q r : Addr} {x y z : Value} (h : W.cell? p = some x ∧ W.cell? q = some y ∧ W.cell? r = some z ∧ Below w.heap.size w W) (hb : Below W.heap.size W W') : W'.cell? p = some x ∧ W'.cell? q = some y ∧ W'.cell? r = some z ∧ Below w.heap.size w W' :=
 ⟨cell_later hb h.1, cell_later hb h.2.1, cell_later hb h.2.2.1, h.2.2.2.trans (hb.mono h.2.2.2.size)⟩
set_option maxHeartbeats 1000000 in
theorem highest_some (b off len cap t : Nat) (low : Int) (w : World) (hc : w.cell? ⟨b, off + len, none⟩ = some (.int .u64 (t : Nat))) (h0 : t ≠ 0) (h1 : t < 18446744073709551616) (h2 : -200000000 ≤ low) (h3 : low ≤ 200000000) (h4 : len ≤ 1000000) (h5 : Nat.log2 t ≤ 64) :
   Calls Tryz.prog 103 #[.agg #[.slice (some ⟨b, off, none⟩) (len + 1) cap, .int .i64 low]] w fun e w' => e = .returned (.int .i64 (low + (64 * len + Nat.log2 t : Nat))) ∧ Below w.heap.size w w' := by
 have hz : ((len : Int) + 1 == 0) = false := by rw [beq_eq_false_iff_ne]; omega
 have hz' : (((len + 1 : Nat) : Int) == 0) = false := by rw [beq_eq_false_iff_ne]; omega
 have hl : (len : Int) ≤ 1000000 := by omega
 have hl1 : IntKind.i64.wrap (64 * (len : Int)) = 64 * (len : Int) := wrapI _ (by omega) (by omega)
 have hl2 : IntKind.i64.wrap (low + 64 * (len : Int)) = low + 64 * (len : Int) := wrapI _ (by omega) (by omega)
 have hl3 : IntKind.i64.wrap (low + 64 * (len : Int) + ((Nat.log2 t : Nat) + 1 : Int)) = low + 64 * (len : Int) + ((Nat.log2 t : Nat) + 1 : Int) := wrapI _ (by omega) (by omega)
 have hl4 : IntKind.i64.wrap (low + 64 * (len : Int) + ((Nat.log2 t : Nat) + 1 : Int) - 1) = low + (64 * len + Nat.log2 t : Nat) := by rw [wrapI _ (by omega) (by omega)]; omega
 have hi1 : (0 : Int) ≤ (len : Int) := by omega
 have hi2 : (len : Int) < (len : Int) + 1 := by omega
 have hi3 : (len : Int) < ((len + 1 : Nat) : Int) := by omega
 go_enter Tryz.func103, Tryz.ntmps103
 go_wp2_with fail
 refine (isZero_any _ _ _ _ _).mono ?_
 rintro e w' ⟨rfl, hb1⟩
 have hx0 : w'.cell? ⟨w.heap.size, 0, none⟩ = some (.slice (some ⟨b, off, none⟩) (len + 1) cap) := cell_later hb1 (by simp)
 have hx1 : w'.cell? ⟨w.heap.size, 1, none⟩ = some (.int .i64 low) := cell_later hb1 (by simp)
 have hB : Below w.heap.size w w' := ((Below.refl _ _).alloc (Nat.le_refl _) _).trans (hb1.mono (by simp))
 have hc' : w'.cell? ⟨b, off + len, none⟩ = some (.int .u64 (t : Nat)) := cell_later hB hc
 clear hb1 hc
 go_wp2
 go_region_held3 (fun W => W.cell? ⟨w.heap.size, 0, none⟩ = some (.slice (some ⟨b, off, none⟩) (len + 1) cap) ∧ W.cell? ⟨w.heap.size, 1, none⟩ = some (.int .i64 low) ∧ W.cell? ⟨b, off + len, none⟩ = some (.int .u64 (t : Nat)) ∧ Below w.heap.size w W)
   (first | exact ⟨hx0, hx1, hc', hB.drew⟩)
   (first | (go_at_call 134; refine (len64_any _ _ ?_ ?_).mono ?_; omega; omega; rintro e w' ⟨rfl, rfl⟩))
 go_wp2
 go_ret
 exact ⟨rfl, hB.drew⟩
set_option maxHeartbeats 400000 in
theorem highest_none (a : Option Addr) (cap : Nat) (low : Int) (w : World) :
   Calls Tryz.prog 103 #[.agg #[.slice a 0 cap, .int .i64 low]] w fun e w' => e = .returned (.int .i64 0) ∧ Below w.heap.size w w' := by
 go_enter Tryz.func103, Tryz.ntmps103
 go_wp2_with fail
 refine (isZero_any _ _ _ _ _).mono ?_
 rintro e w' ⟨rfl, hb1⟩
 go_wp2
 go_ret
 exact ⟨rfl, ((Below.refl _ _).alloc (Nat.le_refl _) _).trans (hb1.mono (by simp))⟩
theorem highest_any (s : Value) (ns : List Nat) (low : Int) (w : World) (h : Ws w s ns) (ht : Topped ns) (h2 : -200000000 ≤ low) (h3 : low ≤ 200000000) :
   Calls Tryz.prog 103 #[.agg #[s, .int .i64 low]] w fun e w' => e = .returned (.int .i64 (hiB ns low)) ∧ Below w.heap.size w w' := by
 obtain ⟨⟨a, cap, rfl, _, hc⟩, hs, hl⟩ := h
 rcases hc with rfl | ⟨b, off, rfl, hb, hc⟩
 · exact highest_none a cap low w
 · by_cases hne : ns = []
   · subst hne; exact highest_none _ cap low w
   · have hp := List.length_pos_iff.2 hne
     obtain ⟨m, hm⟩ : ∃ m, ns.length = m + 1 := ⟨ns.length - 1, by omega⟩
     have ht' := ht hne
     have hlog := log2_val hs hne ht'
     unfold hiB
     rw [if_neg hne, hlog]
     rw [hm] at hc ht' ⊢
     rw [show m + 1 - 1 = m by omega] at *
     have hsm := small_getD hs m
     exact highest_some b off m cap _ low w (hc m (by omega)) ht' hsm h2 h3 (by omega) (Nat.le_of_lt ((Nat.log2_lt ht').2 hsm))
end

/- What the rows of this seat share: the table that the condition lays, the door's own heap, floats that came in an array. -/
section
open Go.ChangeShapes Go.WideShapes Go.ChangeAt Go.WideMaps Go.WideElems Go.RowKit
theorem own : ownKnob Tryz.prog.godebug = none := by kernel_rfl
theorem laidOut : laidOutB Tryz.prog = true := by kernel_rfl
abbrev laidTab : List (String × DataW Unit) := [("math/bits.deBruijn64tab", Rows.laid_math_bits_deBruijn64tab)]
theorem gTab : Tryz.prog.globalNamed "math/bits.deBruijn64tab" = some 1 := by kernel_rfl
theorem tTab : (Tryz.prog.globals[1]?).map (·.type) = some 138 := by kernel_rfl
theorem uTab : Tryz.prog.underlying 138 = some (.array 64 5) := by kernel_rfl
theorem uByte : Tryz.prog.underlying 5 = some (.int .u8) := by kernel_rfl
theorem cByte : Tryz.prog.cellsOf 5 = 1 := by kernel_rfl
theorem cTab : Tryz.prog.cellsOf 138 = 64 := by kernel_rfl
theorem door_met (os : Os) (args : Array Value) : laidMetH Tryz.prog laidTab ((World.doorLaid Tryz.prog 400 os).forCall (fun _ _ => 0) ⟨#[], args, []⟩).memory :=
 laidMetH_of_parts3 (fuel := 8) (laidMet_of_run' 8 (by kernel_rfl) (by kernel_rfl)) (by kernel_rfl) (by kernel_rfl)
theorem tab_of_laid {W : World} (h : laidMetH Tryz.prog laidTab W) : Tab W := by
 rw [MakeChecks.laidMetH_plain _ _ _ (by kernel_rfl)] at h
 have h' : laidMet Tryz.prog (("math/bits.deBruijn64tab", Lib.tabData .u8 (Lib.deBruijn64tab.map (fun (n : Nat) => (n : Int)))) :: []) W := h
 have hT := Lib.tabIs_of_head gTab tTab uTab uByte cByte cTab h'
 intro j hj
 have := hT.cell gTab j (by simpa using hj)
 rw [this]
 simp [List.getD, List.getElem?_map]
 cases Lib.deBruijn64tab[j]? <;> simp
theorem float_of_trod {H : Type} {enc : TypeId × Value → H} {P : Program} {w : World} {base m : Nat} {sp : Nat → Bool} {held : Bool} {e : TypeId} {c : Value} {x : DataW H × List MemPlace}
   (he : P.underlying e = some (.float .f64)) (h : DataW.trod enc P w base sp held m e [c] = some x) : ∃ b, c = .float .f64 b ∧ b < 18446744073709551616 := by
 cases m with
 | zero => simp [DataW.trod] at h
 | succ m =>
   unfold DataW.trod at h
   rw [he] at h
   cases c with
   | float k b =>
     simp only [] at h
     split at h
     · rename_i hk
       obtain ⟨rfl, hw⟩ := hk
       exact ⟨b, rfl, by simpa [Lit.wf, FloatKind.has] using hw⟩
     · cases h
   | _ => simp at h
end
end Go.Proofs.YtocnkgfoffpbfaaGreatDoor
