/- The limits of package lines: plain facts. -/
import Derived.Test.YtpjdffjfhnlbjaaBq
import Derived.Test.YtpjdffjfhnlbjaaBr
namespace Go.Proofs.Ytpjdffjfhnlbjaa
open Go.Lib

theorem rdA : (rdV [97, 10, 1]).2 = (2, 4) := by decide +kernel
theorem rdB : (rdV [97, 10, 35, 1, 128, 10, 127]).2 = (3, 4) := by decide +kernel
theorem toks_rep (n : Nat) : toks (List.replicate n 32) = [] := by
  induction n with
  | zero => rfl
  | succ n ih => rw [List.replicate_succ, toks_cons (by decide), ih]
theorem rep_not {n : Nat} {c d : UInt8} (h : c ≠ d) : c ∉ List.replicate n d := fun hm => h (List.eq_of_mem_replicate hm)
theorem lns_rep (n : Nat) : lns (10 :: List.replicate n 32) = [[], List.replicate n 32] := by
  have := lns_app (a := []) (r := List.replicate n 32) (fun _ h => by simp at h)
  rw [List.nil_append, lns_none (rep_not (by decide))] at this
  exact this
theorem lineE_nil : lineE [] = 0 := by decide
theorem lineE_rep {n : Nat} (h : n ≤ 65536) : lineE (List.replicate n 32) = 0 := by
  rw [lineE_zero]
  refine ⟨by simpa using h, ?_⟩
  unfold lineW ahd
  rw [(cut_none (rep_not (by decide))).1, toks_rep]; rfl
theorem rdC {n : Nat} (h : 65536 < n) (h2 : n ≤ 100000) : (rdV (10 :: List.replicate n 32)).2 = (2, 3) := by
  unfold rdV
  rw [if_neg (by simp; omega), lns_rep]
  have e : lineE (List.replicate n 32) = 3 := by unfold lineE; rw [if_pos (by simpa using h)]
  rw [bad, if_pos lineE_nil, bad, e]
  rfl
theorem rdD {n : Nat} (h : n ≤ 65536) : (rdV (10 :: List.replicate n 32)).2 = (0, 0) := by
  unfold rdV
  rw [if_neg (by simp; omega), lns_rep, bad, if_pos lineE_nil, bad, if_pos (lineE_rep h), bad]
theorem rdE {n : Nat} (h : 16777216 < n) : (rdV (List.replicate n 10)).2 = (0, 3) := by
  unfold rdV
  rw [if_pos (by simpa using h)]
theorem lns_tens (n : Nat) : lns (List.replicate n 10) = List.replicate (n + 1) [] := by
  induction n with
  | zero => rfl
  | succ n ih =>
    rw [List.replicate_succ, show (10 : UInt8) :: List.replicate n 10 = [] ++ 10 :: List.replicate n 10 from rfl, lns_app (fun _ h => by simp at h), ih, List.replicate_succ (n := n + 1)]
theorem bad_nils : ∀ (m n : Nat), bad n (List.replicate m []) = none := by
  intro m
  induction m with
  | zero => intro n; rfl
  | succ m ih => intro n; rw [List.replicate_succ, bad, if_pos lineE_nil, ih]
theorem rdF {n : Nat} (h : n ≤ 16777216) : (rdV (List.replicate n 10)).2 = (0, 0) := by
  unfold rdV
  rw [if_neg (by simp; omega), lns_tens, bad_nils]
theorem rdG : (rdV ([120, 32] ++ List.replicate 401 97)).2 = (1, 4) := by decide +kernel
theorem rdH : rdV ([120, 32] ++ List.replicate 400 97 ++ [35] ++ List.replicate 500 98) = ([(1, [[120], List.replicate 400 97])], 0, 0) := by decide +kernel

theorem wrA : (wrV [[]]).2 = 1 := by decide +kernel
theorem wrB : (wrV [[[]]]).2 = 1 := by decide +kernel
theorem wrC : (wrV [[[97, 32, 98]]]).2 = 1 := by decide +kernel
theorem wrD : (wrV [[[35]]]).2 = 1 := by decide +kernel
theorem wrE : (wrV [[List.replicate 401 97]]).2 = 1 := by decide +kernel
theorem lens_rep (n : Nat) : lens (List.replicate n [97]) = n := by
  induction n with
  | zero => rfl
  | succ n ih =>
    rw [List.replicate_succ]
    simp only [lens, List.map_cons, List.sum_cons] at ih ⊢
    rw [ih]
    simp
    omega
theorem jn_rep {n : Nat} (h : 0 < n) : (jn (List.replicate n [97])).length = 2 * n - 1 := by
  have := jn_len (ws := List.replicate n [97]) (by simp; omega)
  rw [lens_rep, List.length_replicate] at this
  omega
theorem okL_rep {n : Nat} (h : 0 < n) : okL (List.replicate n [97]) = true := by
  unfold okL
  rw [Bool.and_eq_true]
  refine ⟨List.all_eq_true.2 fun x hx => ?_, ?_⟩
  · rw [List.eq_of_mem_replicate hx]; decide
  · cases n with
    | zero => omega
    | succ n => rfl
theorem wrF {n : Nat} (h : 32768 < n) : (wrV [List.replicate n [97]]).2 = 3 := by
  unfold wrV
  have h1 : [List.replicate n [97]].all okL = true := by simp [okL_rep (show 0 < n by omega)]
  have h2 : ¬ (fits [List.replicate n [97]] = true) := by
    unfold fits
    rw [Bool.and_eq_true]
    intro ⟨h3, _⟩
    have := (List.all_eq_true.1 h3) _ (List.mem_singleton.2 rfl)
    have := of_decide_eq_true this
    rw [jn_rep (by omega)] at this
    omega
  rw [if_pos h1, if_neg h2]
theorem wrG {n : Nat} (h : n ≤ 32768) (h0 : 0 < n) : (wrV [List.replicate n [97]]).2 = 0 := by
  unfold wrV
  have h1 : [List.replicate n [97]].all okL = true := by simp [okL_rep h0]
  have h2 : fits [List.replicate n [97]] = true := by
    unfold fits
    rw [Bool.and_eq_true]
    refine ⟨List.all_eq_true.2 fun x hx => ?_, ?_⟩
    · rw [List.mem_singleton.1 hx]
      exact decide_eq_true (by rw [jn_rep h0]; omega)
    · refine decide_eq_true ?_
      unfold wrT
      simp only [List.map_cons, List.map_nil, List.flatten_cons, List.flatten_nil, List.append_nil, List.length_append, List.length_singleton]
      rw [jn_rep h0]; omega
  rw [if_pos h1, if_pos h2]
end Go.Proofs.Ytpjdffjfhnlbjaa
