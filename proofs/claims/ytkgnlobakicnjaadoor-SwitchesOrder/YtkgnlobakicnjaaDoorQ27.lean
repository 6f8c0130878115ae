/- Own texts, put together: Yz Yza Yzb. -/
import Derived.Test.YtkgnlobakicnjaaDoorQ21
namespace Go.Proofs.YtkgnlobakicnjaaDoor
/- Package switches: a row that was written is read, a switch at a time: plain. (Towards SwitchesBack and SwitchesOrder.) -/
section
set_option maxRecDepth 100000
open Go.RowKit Go.Shelf Go.Lib
theorem take_word {q : UInt8 → Bool} {w r : List UInt8} (hw : ∀ c ∈ w, q c = true) (hr : ∀ c, r.head? = some c → q c = false) : (w ++ r).takeWhile q = w ∧ (w ++ r).dropWhile q = r := by
 induction w with
 | nil =>
   cases r with
   | nil => simp
   | cons c t =>
     have := hr c rfl
     simp [this]
 | cons c w ih =>
   have h1 := hw c (by simp)
   have h2 := ih (fun d hd => hw d (by simp [hd]))
   simp only [List.cons_append, List.takeWhile_cons, List.dropWhile_cons, h1, if_true]
   exact ⟨by rw [h2.1], h2.2⟩
theorem eqP_same {p q : Pn} (hf : ∀ k, k < 21 → k ≠ 3 → k ≠ 5 → k ≠ 11 → k ≠ 12 → p.fl k = q.fl k) (ha : oeq p.ang q.ang = true) (hr : oeq p.area q.area = true) (hs : p.st = q.st) (hb : p.bd = q.bd) : eqP p q = true := by
 unfold eqP
 rw [List.all_eq_true]
 intro k hk
 have hk := List.mem_range.1 hk
 unfold eqK
 by_cases h3 : k = 3
 · simp [h3, ha]
 by_cases h5 : k = 5
 · simp [h5, hr]
 by_cases h11 : k = 11
 · simp [h11, hs]
 by_cases h12 : k = 12
 · simp [h12, hb]
 simp [h3, h5, h11, h12, hf k hk h3 h5 h11 h12]
def goT (f : Fp) (p : Pn) (t : List UInt8) : Option Pn := goS f t.length p t
end

/- Package switches: which bytes a number's text holds: plain. (Towards SwitchesBack.) -/
section
set_option maxRecDepth 100000
open Go.RowKit Go.Shelf Go.Lib
theorem float_of_whole (c : UInt8) (h : wholeCs.contains c = true) : floatCs.contains c = true := by
 simp only [wholeCs, floatCs, List.contains_iff_mem, List.mem_cons, List.not_mem_nil, or_false] at h ⊢
 rcases h with h | h | h | h | h | h | h | h | h | h <;> simp [h]
end

/- Package switches: a written row is read: the chain. (gen_yzb.py) -/
section
set_option maxRecDepth 100000
open Go.RowKit Go.Shelf Go.Lib
def onB (b : Bool) (k : Nat) (r : Pn) : Pn := { r with fl := fun i => if i = k then (b || r.fl i) else r.fl i }
section
variable {f : Fp} {r : Pn} {t : List UInt8} {b : Bool}
theorem head_whole (ht : ∀ d, t.head? = some d → floatCs.contains d = false) : ∀ d, t.head? = some d → wholeCs.contains d = false := fun d hd => by
 cases h : wholeCs.contains d
 · rfl
 · have := float_of_whole d h
   rw [ht d hd] at this
   cases this
end
def at0 : Pn := p0
def at1 (_ : Fp) (p : Pn) : Pn := onB (p.fl 0) 0 (at0)
def at2 (f : Fp) (p : Pn) : Pn := onB (p.fl 1) 1 (at1 f p)
end
end Go.Proofs.YtkgnlobakicnjaaDoor
