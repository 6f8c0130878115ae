/- Own texts, put together: Yp Yq. -/
import Derived.Test.YtkgnlobakicnjaaDoorQ4
import Derived.Test.YtkgnlobakicnjaaDoorQ9
import Derived.Test.YtkgnlobakicnjaaDoorQ22
import Derived.Test.YtkgnlobakicnjaaDoorQ24
import Derived.Lib.Small
import Derived.Deep.DeepCutAuto
namespace Go.Proofs.YtkgnlobakicnjaaDoor
/- Package switches: Print: what its row of switches is made of. (gen_yp.py) -/
section
set_option maxRecDepth 100000
open Go.RowKit Go.Shelf Go.Lib
attribute [local go_sem] run_store_float
def prC (f : Fp) (p : Pn) : Array Value := #[.bool (p.fl 0), sv ([112]), .bool (p.fl 1), sv ([114]), .bool (p.fl 2), sv (113 :: f.tx p.ang), .bool (p.fl 4), sv (97 :: f.tx p.area), .bool (p.fl 6), sv ([97]), .bool (p.fl 7), sv ([68]), .bool (p.fl 8), sv ([99]), .bool (p.fl 9), sv ([79]), .bool (p.fl 10), sv ([89]), .bool (p.st != -1), sv (83 :: itoa p.st), .bool (((p.bd : Nat) : Int) == 3), sv ([105]), .bool (((p.bd : Nat) : Int) == 2), sv ([70]), .bool (p.fl 13), sv ([108]), .bool (p.fl 14), sv ([101]), .bool (p.fl 15), sv ([110]), .bool (p.fl 16), sv ([118]), .bool (p.fl 17), sv ([122]), .bool (p.fl 18), sv ([111, 50]), .bool (p.fl 19), sv ([106]), .bool (p.fl 20), sv ([65])]
def FY (f : Fp) (p : Pn) (B : Nat) (j : Nat) (v : Value) (W : World) : Prop := match j with
 | 75 => ∃ g, v = .slice (some ⟨g, 0, none⟩) 20 20 ∧ CB W g (prC f p) 74
 | 0 => v = .pointer (some ⟨B, 0, none⟩)
 | 1 => v = .bool (p.fl 0)
 | 2 => v = .agg #[.bool (p.fl 0), sv ([112])]
 | 3 => v = .pointer (some ⟨B, 1, none⟩)
 | 4 => v = .bool (p.fl 1)
 | 5 => v = .agg #[.bool (p.fl 1), sv ([114])]
 | 6 => v = .pointer (some ⟨B, 2, none⟩)
 | 7 => v = .bool (p.fl 2)
 | 8 => v = .pointer (some ⟨B, 3, none⟩)
 | 9 => v = .float .f64 p.ang
 | 10 => v = sv (f.tx p.ang)
 | 11 => v = sv (113 :: f.tx p.ang)
 | 12 => v = .agg #[.bool (p.fl 2), sv (113 :: f.tx p.ang)]
 | 13 => v = .pointer (some ⟨B, 4, none⟩)
 | 14 => v = .bool (p.fl 4)
 | 15 => v = .pointer (some ⟨B, 5, none⟩)
 | 16 => v = .float .f64 p.area
 | 17 => v = sv (f.tx p.area)
 | 18 => v = sv (97 :: f.tx p.area)
 | 19 => v = .agg #[.bool (p.fl 4), sv (97 :: f.tx p.area)]
 | 20 => v = .pointer (some ⟨B, 6, none⟩)
 | 21 => v = .bool (p.fl 6)
 | 22 => v = .agg #[.bool (p.fl 6), sv ([97])]
 | 23 => v = .pointer (some ⟨B, 7, none⟩)
 | 24 => v = .bool (p.fl 7)
 | 25 => v = .agg #[.bool (p.fl 7), sv ([68])]
 | 26 => v = .pointer (some ⟨B, 8, none⟩)
 | 27 => v = .bool (p.fl 8)
 | 28 => v = .agg #[.bool (p.fl 8), sv ([99])]
 | 29 => v = .pointer (some ⟨B, 9, none⟩)
 | 30 => v = .bool (p.fl 9)
 | 31 => v = .agg #[.bool (p.fl 9), sv ([79])]
 | 32 => v = .pointer (some ⟨B, 10, none⟩)
 | 33 => v = .bool (p.fl 10)
 | 34 => v = .agg #[.bool (p.fl 10), sv ([89])]
 | 35 => v = .pointer (some ⟨B, 11, none⟩)
 | 36 => v = .int .i64 p.st
 | 37 => v = .bool (p.st != -1)
 | 38 => v = .pointer (some ⟨B, 11, none⟩)
 | 39 => v = .int .i64 p.st
 | 40 => v = sv (itoa p.st)
 | 41 => v = sv (83 :: itoa p.st)
 | 42 => v = .agg #[.bool (p.st != -1), sv (83 :: itoa p.st)]
 | 43 => v = .pointer (some ⟨B, 12, none⟩)
 | 44 => v = .int .u8 (p.bd : Nat)
 | 45 => v = .bool (((p.bd : Nat) : Int) == 3)
 | 46 => v = .agg #[.bool (((p.bd : Nat) : Int) == 3), sv ([105])]
 | 47 => v = .pointer (some ⟨B, 12, none⟩)
 | 48 => v = .int .u8 (p.bd : Nat)
 | 49 => v = .bool (((p.bd : Nat) : Int) == 2)
 | 50 => v = .agg #[.bool (((p.bd : Nat) : Int) == 2), sv ([70])]
 | 51 => v = .pointer (some ⟨B, 13, none⟩)
 | 52 => v = .bool (p.fl 13)
 | 53 => v = .agg #[.bool (p.fl 13), sv ([108])]
 | 54 => v = .pointer (some ⟨B, 14, none⟩)
 | 55 => v = .bool (p.fl 14)
 | 56 => v = .agg #[.bool (p.fl 14), sv ([101])]
 | 57 => v = .pointer (some ⟨B, 15, none⟩)
 | 58 => v = .bool (p.fl 15)
 | 59 => v = .agg #[.bool (p.fl 15), sv ([110])]
 | 60 => v = .pointer (some ⟨B, 16, none⟩)
 | 61 => v = .bool (p.fl 16)
 | 62 => v = .agg #[.bool (p.fl 16), sv ([118])]
 | 63 => v = .pointer (some ⟨B, 17, none⟩)
 | 64 => v = .bool (p.fl 17)
 | 65 => v = .agg #[.bool (p.fl 17), sv ([122])]
 | 66 => v = .pointer (some ⟨B, 18, none⟩)
 | 67 => v = .bool (p.fl 18)
 | 68 => v = .agg #[.bool (p.fl 18), sv ([111, 50])]
 | 69 => v = .pointer (some ⟨B, 19, none⟩)
 | 70 => v = .bool (p.fl 19)
 | 71 => v = .agg #[.bool (p.fl 19), sv ([106])]
 | 72 => v = .pointer (some ⟨B, 20, none⟩)
 | 73 => v = .bool (p.fl 20)
 | 74 => v = .agg #[.bool (p.fl 20), sv ([65])]
 | 76 => v = .int .i64 20
 | 77 => v = .int .i64 0
 | _ => True
structure GY (w0 : World) (p : Pn) (B C : Nat) (W : World) : Prop where
 t8 : T8 W
 pl : Pl W B p
 bel : Below w0.heap.size w0 W
 bld : CB W C #[.pointer none, .slice none 0 0] 73
theorem GY.later {w0 : World} {p : Pn} {B C : Nat} {W W' : World} (h : GY w0 p B C W) (hb : Below W.heap.size W W') : GY w0 p B C W' := ⟨h.t8.later hb, CB.later h.pl hb, h.bel.trans (hb.mono h.bel.size), h.bld.later hb⟩
theorem FY.later {f : Fp} {p : Pn} {B : Nat} (j : Nat) (v : Value) (W W' : World) (h : FY f p B j v W) (hb : Below W.heap.size W W') : FY f p B j v W' := by
 unfold FY at h ⊢
 split at h
 · obtain ⟨g, h1, h2⟩ := h; exact ⟨g, h1, h2.later hb⟩
 all_goals exact h
theorem fp_0 : FaOk 42 0 0 := by
 intro o a W K Q t B ho hv h
 unfold Oper.wp execOp
 rw [ho]
 simp only [hv]
 go_simp
 exact h
theorem fp_1 : FaOk 42 1 1 := by
 intro o a W K Q t B ho hv h
 unfold Oper.wp execOp
 rw [ho]
 simp only [hv]
 go_simp
 exact h
theorem fp_2 : FaOk 42 2 2 := by
 intro o a W K Q t B ho hv h
 unfold Oper.wp execOp
 rw [ho]
 simp only [hv]
 go_simp
 exact h
theorem fp_3 : FaOk 42 3 3 := by
 intro o a W K Q t B ho hv h
 unfold Oper.wp execOp
 rw [ho]
 simp only [hv]
 go_simp
 exact h
theorem fp_4 : FaOk 42 4 4 := by
 intro o a W K Q t B ho hv h
 unfold Oper.wp execOp
 rw [ho]
 simp only [hv]
 go_simp
 exact h
theorem fp_5 : FaOk 42 5 5 := by
 intro o a W K Q t B ho hv h
 unfold Oper.wp execOp
 rw [ho]
 simp only [hv]
 go_simp
 exact h
theorem fp_6 : FaOk 42 6 6 := by
 intro o a W K Q t B ho hv h
 unfold Oper.wp execOp
 rw [ho]
 simp only [hv]
 go_simp
 exact h
theorem fp_7 : FaOk 42 7 7 := by
 intro o a W K Q t B ho hv h
 unfold Oper.wp execOp
 rw [ho]
 simp only [hv]
 go_simp
 exact h
theorem fp_8 : FaOk 42 8 8 := by
 intro o a W K Q t B ho hv h
 unfold Oper.wp execOp
 rw [ho]
 simp only [hv]
 go_simp
 exact h
theorem fp_9 : FaOk 42 9 9 := by
 intro o a W K Q t B ho hv h
 unfold Oper.wp execOp
 rw [ho]
 simp only [hv]
 go_simp
 exact h
theorem fp_10 : FaOk 42 10 10 := by
 intro o a W K Q t B ho hv h
 unfold Oper.wp execOp
 rw [ho]
 simp only [hv]
 go_simp
 exact h
theorem fp_11 : FaOk 42 11 11 := by
 intro o a W K Q t B ho hv h
 unfold Oper.wp execOp
 rw [ho]
 simp only [hv]
 go_simp
 exact h
theorem fp_12 : FaOk 42 12 12 := by
 intro o a W K Q t B ho hv h
 unfold Oper.wp execOp
 rw [ho]
 simp only [hv]
 go_simp
 exact h
theorem fp_13 : FaOk 42 13 13 := by
 intro o a W K Q t B ho hv h
 unfold Oper.wp execOp
 rw [ho]
 simp only [hv]
 go_simp
 exact h
theorem fp_14 : FaOk 42 14 14 := by
 intro o a W K Q t B ho hv h
 unfold Oper.wp execOp
 rw [ho]
 simp only [hv]
 go_simp
 exact h
theorem fp_15 : FaOk 42 15 15 := by
 intro o a W K Q t B ho hv h
 unfold Oper.wp execOp
 rw [ho]
 simp only [hv]
 go_simp
 exact h
theorem fp_16 : FaOk 42 16 16 := by
 intro o a W K Q t B ho hv h
 unfold Oper.wp execOp
 rw [ho]
 simp only [hv]
 go_simp
 exact h
theorem fp_17 : FaOk 42 17 17 := by
 intro o a W K Q t B ho hv h
 unfold Oper.wp execOp
 rw [ho]
 simp only [hv]
 go_simp
 exact h
theorem fp_18 : FaOk 42 18 18 := by
 intro o a W K Q t B ho hv h
 unfold Oper.wp execOp
 rw [ho]
 simp only [hv]
 go_simp
 exact h
theorem fp_19 : FaOk 42 19 19 := by
 intro o a W K Q t B ho hv h
 unfold Oper.wp execOp
 rw [ho]
 simp only [hv]
 go_simp
 exact h
theorem fp_20 : FaOk 42 20 20 := by
 intro o a W K Q t B ho hv h
 unfold Oper.wp execOp
 rw [ho]
 simp only [hv]
 go_simp
 exact h
def Sp (f : Fp) (p : Pn) (w0 : World) (B C : Nat) (a0 : Act) (j : Nat) (o : Oper) : Prop := ∀ (Q' : Exit → Act → World → Prop) (a : Act) (w : World), GY w0 p B C w → (∀ t, t < 13 → a.eval (.tmp t) = a0.eval (.tmp t)) → (∀ e ∈ o.after, Region.binds .any e = true → FY f p B e.on (a.eval (.tmp (13 + e.on))) w) →
 Oper.wp Tryd.prog o a w (fun a' w' => ∃ v, a' = a.put (some (13 + j)) v ∧ GY w0 p B C w' ∧ Below w.heap.size w w' ∧ FY f p B j v w') Q'
theorem depF {o : Oper} {i : Nat} {F : Nat → Prop} (h : depY o i = true) (hd : ∀ e ∈ o.after, Region.binds .any e = true → F e.on) : F i := by
 obtain ⟨e, he, hb⟩ := Array.any_eq_true'.1 h
 simp only [Bool.and_eq_true, beq_iff_eq] at hb
 rw [← hb.2]; exact hd e he hb.1
section
variable {f : Fp} {p : Pn} {w0 : World} {B C : Nat} {a0 : Act} {j i i2 : Nat} {o : Oper}
theorem sp_pure {v : Value} (hd : o.dst = some (13 + j)) (hv : ∀ W, FY f p B j v W) (h : ∀ (a : Act) (w : World) (K : Act → World → Prop) (Q : Exit → Act → World → Prop), GY w0 p B C w → (∀ t, t < 13 → a.eval (.tmp t) = a0.eval (.tmp t)) → (∀ e ∈ o.after, Region.binds .any e = true → FY f p B e.on (a.eval (.tmp (13 + e.on))) w) → K (a.put o.dst v) w → Oper.wp Tryd.prog o a w K Q) : Sp f p w0 B C a0 j o := by
 intro Q' a w hG ha hdep
 refine h a w _ Q' hG ha hdep ?_
 rw [hd]
 exact ⟨v, rfl, hG, Below.refl _ _, hv w⟩
theorem ld_bool {b : Bool} {a : Act} {W : World} {K : Act → World → Prop} {Q : Exit → Act → World → Prop} {t B k : Nat} (ho : o.op = .load 4 (.tmp t)) (hv : a.eval (.tmp t) = .pointer (some ⟨B, k, none⟩)) (hc : W.cell? ⟨B, k, none⟩ = some (.bool b)) (h : K (a.put o.dst (.bool b)) W) : Oper.wp Tryd.prog o a W K Q := by
 unfold Oper.wp execOp
 rw [ho]
 simp only [hv]
 go_simp
 exact h
theorem ld_float64 {x : Nat} {a : Act} {W : World} {K : Act → World → Prop} {Q : Exit → Act → World → Prop} {t B k : Nat} (ho : o.op = .load 39 (.tmp t)) (hv : a.eval (.tmp t) = .pointer (some ⟨B, k, none⟩)) (hc : W.cell? ⟨B, k, none⟩ = some (.float .f64 x)) (h : K (a.put o.dst (.float .f64 x)) W) : Oper.wp Tryd.prog o a W K Q := by
 unfold Oper.wp execOp
 rw [ho]
 simp only [hv]
 go_simp
 exact h
theorem ld_int {n : Int} {a : Act} {W : World} {K : Act → World → Prop} {Q : Exit → Act → World → Prop} {t B k : Nat} (ho : o.op = .load 3 (.tmp t)) (hv : a.eval (.tmp t) = .pointer (some ⟨B, k, none⟩)) (hc : W.cell? ⟨B, k, none⟩ = some (.int .i64 n)) (h : K (a.put o.dst (.int .i64 n)) W) : Oper.wp Tryd.prog o a W K Q := by
 unfold Oper.wp execOp
 rw [ho]
 simp only [hv]
 go_simp
 exact h
theorem ld_uint8 {n : Int} {a : Act} {W : World} {K : Act → World → Prop} {Q : Exit → Act → World → Prop} {t B k : Nat} (ho : o.op = .load 5 (.tmp t)) (hv : a.eval (.tmp t) = .pointer (some ⟨B, k, none⟩)) (hc : W.cell? ⟨B, k, none⟩ = some (.int .u8 n)) (h : K (a.put o.dst (.int .u8 n)) W) : Oper.wp Tryd.prog o a W K Q := by
 unfold Oper.wp execOp
 rw [ho]
 simp only [hv]
 go_simp
 exact h
theorem bd_1 {a : Act} {W : World} {K : Act → World → Prop} {Q : Exit → Act → World → Prop} {t : Nat} {b : Bool} {s : ByteArray} (ho : o.op = .build 74 #[(0, .tmp t), (1, .const (.string s))]) (hv : a.eval (.tmp t) = .bool b) (h : K (a.put o.dst (.agg #[.bool b, .string s])) W) : Oper.wp Tryd.prog o a W K Q := by
 unfold Oper.wp execOp
 rw [ho]
 simp only [List.map_toArray, List.map_cons, List.map_nil, hv]
 go_simp
 exact h
theorem bd_2 {a : Act} {W : World} {K : Act → World → Prop} {Q : Exit → Act → World → Prop} {t u : Nat} {b : Bool} {s : ByteArray} (ho : o.op = .build 74 #[(0, .tmp t), (1, .tmp u)]) (hv : a.eval (.tmp t) = .bool b) (hu : a.eval (.tmp u) = .string s) (h : K (a.put o.dst (.agg #[.bool b, .string s])) W) : Oper.wp Tryd.prog o a W K Q := by
 unfold Oper.wp execOp
 rw [ho]
 simp only [List.map_toArray, List.map_cons, List.map_nil, hv, hu]
 go_simp
 exact h
theorem catY (c : UInt8) (l : List UInt8) : (⟨#[c]⟩ : ByteArray) ++ ⟨l.toArray⟩ = ⟨(c :: l).toArray⟩ := by
 apply ByteArray.ext
 simp [ByteArray.data_append]
theorem add_s {a : Act} {W : World} {K : Act → World → Prop} {Q : Exit → Act → World → Prop} {t : Nat} {c : UInt8} {l : List UInt8} (hl : l.length ≤ 50) (ho : o.op = .binOp .add 9 (.const (.string ⟨#[c]⟩)) (.tmp t) 9) (hv : a.eval (.tmp t) = sv l) (h : K (a.put o.dst (sv (c :: l))) W) : Oper.wp Tryd.prog o a W K Q := by
 have e := catY c l
 have s1 : (⟨l.toArray⟩ : ByteArray).size = l.length := by rw [Lib.size_eq]
 obtain ⟨sb, hsb⟩ : ∃ sb : ByteArray, (⟨l.toArray⟩ : ByteArray) = sb := ⟨_, rfl⟩
 have hv1 : a.eval (.tmp t) = .string sb := by rw [← hsb]; exact hv
 rw [hsb] at e s1
 have h1 : K (a.put o.dst (.string ((⟨#[c]⟩ : ByteArray) ++ sb))) W := by rw [e]; exact h
 have hz : ((⟨#[c]⟩ : ByteArray).size : Int) ≤ 8388608 := by show (1 : Int) ≤ _; omega
 have hr := run_string_add (P := Tryd.prog) (w := W) ⟨#[c]⟩ sb hz (by rw [s1]; omega)
 clear hv h e s1 hsb hz hl
 unfold Oper.wp execOp
 rw [ho]
 simp only [hv1]
 go_simp
 exact h1
theorem ne_i {a : Act} {W : World} {K : Act → World → Prop} {Q : Exit → Act → World → Prop} {t : Nat} {n : Int} (ho : o.op = .binOp .neq 3 (.tmp t) (.const (.int .i64 (-1))) 3) (hv : a.eval (.tmp t) = .int .i64 n) (h : K (a.put o.dst (.bool (n != -1))) W) : Oper.wp Tryd.prog o a W K Q := by
 unfold Oper.wp execOp
 rw [ho]
 simp only [hv]
 go_simp
 exact h
theorem eq_i {a : Act} {W : World} {K : Act → World → Prop} {Q : Exit → Act → World → Prop} {t : Nat} {n m : Int} (ho : o.op = .binOp .eql 5 (.tmp t) (.const (.int .u8 m)) 5) (hv : a.eval (.tmp t) = .int .u8 n) (h : K (a.put o.dst (.bool (n == m))) W) : Oper.wp Tryd.prog o a W K Q := by
 unfold Oper.wp execOp
 rw [ho]
 simp only [hv]
 go_simp
 exact h
theorem len_s {a : Act} {W : World} {K : Act → World → Prop} {Q : Exit → Act → World → Prop} {t n c : Nat} {x : Option Addr} (ho : o.op = .call { callee := .builtin .len, args := #[.tmp t], argTypes := #[77] }) (hv : a.eval (.tmp t) = .slice x n c) (h : K (a.put o.dst (.int .i64 (n : Nat))) W) : Oper.wp Tryd.prog o a W K Q := by
 have hv' : (a.tmps[t]?).getD undef = .slice x n c := by rw [← Array.getD_eq_getD_getElem?]; exact hv
 unfold Oper.wp execOp
 rw [ho]
 go_simp
 exact h
theorem text_op {a : Act} {W : World} {K : Act → World → Prop} {Q : Exit → Act → World → Prop} {t x : Nat} {l : List UInt8} (ho : o.op = .call { callee := .value (.func 21), args := #[.tmp t], argTypes := #[39] }) (hv : a.eval (.tmp t) = .float .f64 x) (hC : Calls Tryd.prog 21 #[.float .f64 x] W fun r w' => r = .returned (sv l) ∧ Below W.heap.size W w')
   (h : ∀ W', Below W.heap.size W W' → K (a.put o.dst (sv l)) W') : Oper.wp Tryd.prog o a W K Q := by
 have hv' : (a.tmps[t]?).getD undef = .float .f64 x := by rw [← Array.getD_eq_getD_getElem?]; exact hv
 unfold Oper.wp execOp
 rw [ho]
 go_simp
 refine hC.mono ?_
 rintro e w' ⟨rfl, hb⟩
 exact h w' hb
theorem show_op {a : Act} {W : World} {K : Act → World → Prop} {Q : Exit → Act → World → Prop} {t : Nat} {n : Int} {l : List UInt8} (ho : o.op = .call { callee := .value (.func 22), args := #[.tmp t], argTypes := #[3] }) (hv : a.eval (.tmp t) = .int .i64 n) (hC : Calls Tryd.prog 22 #[.int .i64 n] W fun r w' => r = .returned (sv l) ∧ Below W.heap.size W w')
   (h : ∀ W', Below W.heap.size W W' → K (a.put o.dst (sv l)) W') : Oper.wp Tryd.prog o a W K Q := by
 have hv' : (a.tmps[t]?).getD undef = .int .i64 n := by rw [← Array.getD_eq_getD_getElem?]; exact hv
 unfold Oper.wp execOp
 rw [ho]
 go_simp
 refine hC.mono ?_
 rintro e w' ⟨rfl, hb⟩
 exact h w' hb
theorem mv_c {a : Act} {W : World} {K : Act → World → Prop} {Q : Exit → Act → World → Prop} {v : Value} (ho : o.op = .move (.const v)) (h : K (a.put o.dst v) W) : Oper.wp Tryd.prog o a W K Q := by
 unfold Oper.wp execOp
 rw [ho]
 exact h
theorem sl_20 {a : Act} {W : World} {K : Act → World → Prop} {Q : Exit → Act → World → Prop} {b0 b1 b2 b3 b4 b5 b6 b7 b8 b9 b10 b11 b12 b13 b14 b15 b16 b17 b18 b19 : Bool} {s0 s1 s2 s3 s4 s5 s6 s7 s8 s9 s10 s11 s12 s13 s14 s15 s16 s17 s18 s19 : ByteArray} (ho : o.op = .buildSlice 77 20 #[(0, .tmp 15), (1, .tmp 18), (2, .tmp 25), (3, .tmp 32), (4, .tmp 35), (5, .tmp 38), (6, .tmp 41), (7, .tmp 44), (8, .tmp 47), (9, .tmp 55), (10, .tmp 59), (11, .tmp 63), (12, .tmp 66), (13, .tmp 69), (14, .tmp 72), (15, .tmp 75), (16, .tmp 78), (17, .tmp 81), (18, .tmp 84), (19, .tmp 87)]) (h0 : a.eval (.tmp 15) = .agg #[.bool b0, .string s0]) (h1 : a.eval (.tmp 18) = .agg #[.bool b1, .string s1]) (h2 : a.eval (.tmp 25) = .agg #[.bool b2, .string s2]) (h3 : a.eval (.tmp 32) = .agg #[.bool b3, .string s3]) (h4 : a.eval (.tmp 35) = .agg #[.bool b4, .string s4]) (h5 : a.eval (.tmp 38) = .agg #[.bool b5, .string s5]) (h6 : a.eval (.tmp 41) = .agg #[.bool b6, .string s6]) (h7 : a.eval (.tmp 44) = .agg #[.bool b7, .string s7]) (h8 : a.eval (.tmp 47) = .agg #[.bool b8, .string s8]) (h9 : a.eval (.tmp 55) = .agg #[.bool b9, .string s9]) (h10 : a.eval (.tmp 59) = .agg #[.bool b10, .string s10]) (h11 : a.eval (.tmp 63) = .agg #[.bool b11, .string s11]) (h12 : a.eval (.tmp 66) = .agg #[.bool b12, .string s12]) (h13 : a.eval (.tmp 69) = .agg #[.bool b13, .string s13]) (h14 : a.eval (.tmp 72) = .agg #[.bool b14, .string s14]) (h15 : a.eval (.tmp 75) = .agg #[.bool b15, .string s15]) (h16 : a.eval (.tmp 78) = .agg #[.bool b16, .string s16]) (h17 : a.eval (.tmp 81) = .agg #[.bool b17, .string s17]) (h18 : a.eval (.tmp 84) = .agg #[.bool b18, .string s18]) (h19 : a.eval (.tmp 87) = .agg #[.bool b19, .string s19])
   (h : K (a.put o.dst (.slice (some ⟨W.heap.size, 0, none⟩) 20 20)) (W.alloc (.cells #[.bool b0, .string s0, .bool b1, .string s1, .bool b2, .string s2, .bool b3, .string s3, .bool b4, .string s4, .bool b5, .string s5, .bool b6, .string s6, .bool b7, .string s7, .bool b8, .string s8, .bool b9, .string s9, .bool b10, .string s10, .bool b11, .string s11, .bool b12, .string s12, .bool b13, .string s13, .bool b14, .string s14, .bool b15, .string s15, .bool b16, .string s16, .bool b17, .string s17, .bool b18, .string s18, .bool b19, .string s19] 74))) : Oper.wp Tryd.prog o a W K Q := by
 unfold Oper.wp execOp
 rw [ho]
 simp only [List.map_toArray, List.map_cons, List.map_nil, h0, h1, h2, h3, h4, h5, h6, h7, h8, h9, h10, h11, h12, h13, h14, h15, h16, h17, h18, h19]
 go_simp
 exact h
end
end

/- Package switches: Print. (gen_yp.py) -/
section
set_option maxRecDepth 100000
open Go.RowKit Go.Shelf Go.Lib
attribute [local go_sem] run_store_float
theorem TextR.uniqY {x : Nat} {l r : List UInt8} (h : TextR x l) (g : TextR x r) : l = r := by
 by_cases hx : Fin64 x
 · exact (TextR.same h g hx).2 ⟨hx, rfl⟩
 · rcases h with ⟨_, rfl⟩ | ⟨h, _⟩
   · rcases g with ⟨_, rfl⟩ | ⟨g, _⟩
     · rfl
     · exact absurd g hx
   · exact absurd h hx
theorem TextR.lenY {x : Nat} {l : List UInt8} (h : TextR x l) : l.length ≤ 43 := by
 by_cases hx : Fin64 x
 · obtain ⟨_, _, _, _, h1⟩ := h.tell hx; exact h1
 · rcases h with ⟨_, rfl⟩ | ⟨h, _⟩
   · simp
   · exact absurd h hx
theorem text_isY {f : Fp} (hf : f.Ok) (x : Nat) (lx : x < 18446744073709551616) (w : World) (hT : T8 w) : Calls Tryd.prog 21 #[.float .f64 x] w fun r w' => r = .returned (sv (f.tx x)) ∧ Below w.heap.size w w' := by
 obtain ⟨l, hl, hC⟩ := text_any x lx
 have e : f.tx x = l := (hf.tx x lx).uniqY hl
 rw [e]
 exact hC w hT
theorem bF_later {T e : TypeId} {B b : Nat} {p : Value} {bs : List Value} {w w' : World} (h : BuilderAtF T e B b p bs w) (hb : Below w.heap.size w w') : BuilderAtF T e B b p bs w' := by
 obtain ⟨h1, v, h2, h3, h4⟩ := h
 refine ⟨h1, v, by rw [hb.block b (Array.getElem?_eq_some_iff.1 h2).1]; exact h2, ⟨h3.1, ?_⟩, h4⟩
 rcases h3.2 with h3 | ⟨g, cap, cur, fz, g1, g2, g3, g4⟩
 · exact Or.inl h3
 · exact Or.inr ⟨g, cap, cur, fz, g1, g2, by rw [hb.block g (Array.getElem?_eq_some_iff.1 g3).1]; exact g3, g4⟩
theorem iF_later {T e : TypeId} {B b : Nat} {bs : List Value} {w w' : World} (h : IsBuilderF T e B b bs w) (hb : Below w.heap.size w w') : IsBuilderF T e B b bs w' := h.imp (fun h => bF_later h hb) (fun h => bF_later h hb)
structure PrS (f : Fp) (p : Pn) (w : World) (g C k : Nat) (W : World) : Prop where
 row : CB W g (prC f p) 74
 bel : Below w.heap.size w W
 hC : w.heap.size ≤ C
 hgC : g ≠ C
 bld : IsBuilderF 73 5 w.heap.size C (byteCells (catS ((swS f p).take k))) W
theorem PrS.later {f : Fp} {p : Pn} {w : World} {g C k : Nat} {W W' : World} (h : PrS f p w g C k W) (hb : Below W.heap.size W W') : PrS f p w g C k W' := ⟨h.row.later hb, h.bel.trans (hb.mono h.bel.size), h.hC, h.hgC, iF_later h.bld hb⟩
theorem prC_at (f : Fp) (p : Pn) (k : Nat) (hk : k < 20) : ∃ q, (swS f p)[k]? = some q ∧ (prC f p)[2 * k]? = some (.bool q.1) ∧ (prC f p)[2 * k + 1]? = some (sv q.2) := by
 have hb3 : (((p.bd : Nat) : Int) == 3) = (p.bd == 3) := by rw [Bool.eq_iff_iff]; simp; omega
 have hb2 : (((p.bd : Nat) : Int) == 2) = (p.bd == 2) := by rw [Bool.eq_iff_iff]; simp; omega
 unfold prC swS
 rw [hb3, hb2]
 have : k = 0 ∨ k = 1 ∨ k = 2 ∨ k = 3 ∨ k = 4 ∨ k = 5 ∨ k = 6 ∨ k = 7 ∨ k = 8 ∨ k = 9 ∨ k = 10 ∨ k = 11 ∨ k = 12 ∨ k = 13 ∨ k = 14 ∨ k = 15 ∨ k = 16 ∨ k = 17 ∨ k = 18 ∨ k = 19 := by omega
 rcases this with rfl | rfl | rfl | rfl | rfl | rfl | rfl | rfl | rfl | rfl | rfl | rfl | rfl | rfl | rfl | rfl | rfl | rfl | rfl | rfl
 all_goals exact ⟨_, rfl, rfl, rfl⟩
theorem catS_take {f : Fp} {p : Pn} {k : Nat} {q : Bool × List UInt8} (h : (swS f p)[k]? = some q) : catS ((swS f p).take (k + 1)) = catS ((swS f p).take k) ++ (if q.1 then q.2 else []) := by
 rw [List.take_add_one, h, Option.toList_some, catS_snoc]
theorem catS_len {f : Fp} {p : Pn} (h : ∀ q ∈ swS f p, q.2.length ≤ 100) : ∀ k, k ≤ 20 → (catS ((swS f p).take k)).length ≤ 100 * k := by
 intro k
 induction k with
 | zero => intro _; simp [catS]
 | succ k ih =>
   intro hk
   obtain ⟨q, hq, _⟩ := prC_at f p k (by omega)
   rw [catS_take hq, List.length_append]
   have := h q (List.mem_of_getElem? hq)
   have := ih (by omega)
   split
   · omega
   · simp; omega
set_option maxHeartbeats 16000000 in
theorem print_any {f : Fp} (hf : f.Ok) (p : Pn) (w : World) (hT : T8 w) (ha : p.ang < 18446744073709551616) (hr : p.area < 18446744073709551616) (hs : InR p.st) :
   Calls Tryd.prog 11 #[.agg (pls p).toArray] w fun e w' => e = .returned (.tuple #[sv (prtS f p).1, .int .i64 (prtS f p).2]) ∧ Below w.heap.size w w' := by
 have hlen : (f.tx p.ang).length ≤ 50 ∧ (f.tx p.area).length ≤ 50 ∧ (itoa p.st).length ≤ 50 := ⟨by have := (hf.tx _ ha).lenY; omega, by have := (hf.tx _ hr).lenY; omega, by have := itoa_length_le p.st hs.1 hs.2; omega⟩
 have hsw : ∀ q ∈ swS f p, q.2.length ≤ 100 := by
   intro q hq
   simp only [swS, List.mem_cons, List.not_mem_nil, or_false] at hq
   rcases hq with rfl | rfl | rfl | rfl | rfl | rfl | rfl | rfl | rfl | rfl | rfl | rfl | rfl | rfl | rfl | rfl | rfl | rfl | rfl | rfl
   all_goals simp only [List.length_cons, List.length_nil]
   all_goals omega
 have HSw := Lib.hid hsw
 have hcall : (∀ W, T8 W → Calls Tryd.prog 21 #[.float .f64 p.ang] W fun r w' => r = .returned (sv (f.tx p.ang)) ∧ Below W.heap.size W w') ∧ (∀ W, T8 W → Calls Tryd.prog 21 #[.float .f64 p.area] W fun r w' => r = .returned (sv (f.tx p.area)) ∧ Below W.heap.size W w') ∧ ∀ W, T8 W → Calls Tryd.prog 22 #[.int .i64 p.st] W fun r w' => r = .returned (sv (itoa p.st)) ∧ Below W.heap.size W w' := ⟨fun W h => text_isY hf _ ha W h, fun W h => text_isY hf _ hr W h, fun W h => show_any p.st hs W h⟩
 have HCA := Lib.hid (And.intro hlen hcall)
 obtain ⟨W, hW⟩ : ∃ W, w.alloc (.cells (pls p).toArray 42) = W := ⟨_, rfl⟩
 have HP : Hid (Pl W w.heap.size p) := Lib.hid (by rw [← hW]; exact CB.new w _ _)
 have HB : Hid (Below w.heap.size w W) := Lib.hid (by rw [← hW]; exact (Below.refl _ w).alloc (Nat.le_refl _) _)
 have HT := Lib.hid hT
 have HC := Lib.hid (fun W => checkS_any p W)
 unfold prtS
 obtain ⟨ce, hce⟩ : ∃ ce, chkS p = ce := ⟨_, rfl⟩
 rw [hce] at HC ⊢
 clear hT hf ha hr hs hce hlen hcall hsw
 by_cases h0 : ce = 0
 rotate_left
 · have h1 : (ce == 0) = false := by simpa using h0
   have h2 : (ce != 0) = true := by simpa using h0
   rw [if_neg h0]
   go_enter Tryd.func11, Tryd.ntmps11
   go_upto_region 1 with fail
   refine wp_region_lit ?_
   refine wpList_load_mid rfl 42 _ rfl _ 0 (by rfl) (pls p) _ HP.out.range Tryd.underlying42 rfl (by rw [pls_len]; kernel_rfl) ?_
   go_wp2_with (go_at_call 12; refine (HC.out _).mono ?_; rintro e w' ⟨rfl, hb⟩)
   go_ret2
   exact ⟨rfl, HB.out.trans (hb.mono HB.out.size)⟩
 · subst h0
   rw [if_pos rfl]
   obtain ⟨B, hBB⟩ : ∃ B, w.heap.size = B := ⟨_, rfl⟩
   have HBe := Lib.hid hBB
   have HPB : Hid (Pl W B p) := Lib.hid (by rw [← hBB]; exact HP.out)
   go_enter Tryd.func11, Tryd.ntmps11
   go_upto_region 1 with fail
   refine wp_region_lit ?_
   refine wpList_load_mid rfl 42 _ rfl _ 0 (by rfl) (pls p) _ HPB.out.range Tryd.underlying42 rfl (by rw [pls_len]; kernel_rfl) ?_
   go_upto_region 4 with (go_at_call 12; refine (HC.out _).mono ?_; rintro e W2 ⟨rfl, hb⟩)
   obtain ⟨W3, hW3⟩ : ∃ W3, W2.alloc (.cells #[.pointer none, .slice none 0 0] 73) = W3 := ⟨_, rfl⟩
   obtain ⟨C, hCC⟩ : ∃ C, W2.heap.size = C := ⟨_, rfl⟩
   have HG : Hid (GY w p B C W3 ∧ B ≤ C) := Lib.hid (by
     have b2 : Below w.heap.size w W2 := HB.out.trans (hb.mono HB.out.size)
     have b3 : Below W2.heap.size W2 W3 := by rw [← hW3]; exact (Below.refl _ _).alloc (Nat.le_refl _) _
     have b4 : Below w.heap.size w W3 := b2.trans (b3.mono b2.size)
     refine ⟨⟨HT.out.later b4, ?_, b4, ?_⟩, ?_⟩
     · rw [← HBe.out]; exact CB.later (CB.later HP.out hb) b3
     · rw [← hCC, ← hW3]; exact CB.new _ _ _
     · rw [← HBe.out, ← hCC]; exact b2.size)
   clear hb HC HB HP hW
   try rw [hBB]
   clear hBB
   go_upto_region 5 with fail
   try rw [hW3]
   try rw [hCC]
   clear hW3 hCC
   refine region_facts 13 78 (GY w p B C) (FY f p B) (by kernel_rfl) (by rfl) (by kernel_rfl) (by simp) ?_ (fun j v w w' h hb => FY.later j v w w' h hb) ?_ ?_
   · exact HG.out.1.later (Below.refl _ _).drew
   · as_aux_lemma =>
     intro Q' j o ho a w hG ha hdep
     obtain ⟨hlen, hcall⟩ := HCA.out
     rw [← Array.getElem?_toList] at ho
     refine (show Sp f p _ B C _ j o from (Nat.zero_add j) ▸ allIx_at ?_ ho) Q' a w hG ha hdep
     clear hG ha hdep ho HG HCA HSw HT HBe
     refine allIx_cons (i := 0) (sp_pure (f := f) (p := p) (B := B) (j := 0) rfl (fun _ => rfl) (fun a w K Q hG ha hdep h => fp_0 _ a w K Q 1 B rfl (by rw [ha 1 (by decide : (1 : Nat) < 13)]; rfl) h)) ?_
     refine allIx_cons (i := 1) (sp_pure (f := f) (p := p) (B := B) (j := 1) rfl (fun _ => rfl) (fun a w K Q hG ha hdep h => ld_bool rfl (show a.eval (.tmp 13) = .pointer (some ⟨B, 0, none⟩) from (depF (F := fun i => FY f p B i (a.eval (.tmp (13 + i))) w) (i := 0) (by kernel_rfl) hdep)) (hG.pl.at (by omega)) h)) ?_
     refine allIx_cons (i := 2) (sp_pure (f := f) (p := p) (B := B) (j := 2) rfl (fun _ => rfl) (fun a w K Q hG ha hdep h => bd_1 rfl (show a.eval (.tmp 14) = .bool (p.fl 0) from (depF (F := fun i => FY f p B i (a.eval (.tmp (13 + i))) w) (i := 1) (by kernel_rfl) hdep)) h)) ?_
     refine allIx_cons (i := 3) (sp_pure (f := f) (p := p) (B := B) (j := 3) rfl (fun _ => rfl) (fun a w K Q hG ha hdep h => fp_1 _ a w K Q 1 B rfl (by rw [ha 1 (by decide : (1 : Nat) < 13)]; rfl) h)) ?_
     refine allIx_cons (i := 4) (sp_pure (f := f) (p := p) (B := B) (j := 4) rfl (fun _ => rfl) (fun a w K Q hG ha hdep h => ld_bool rfl (show a.eval (.tmp 16) = .pointer (some ⟨B, 1, none⟩) from (depF (F := fun i => FY f p B i (a.eval (.tmp (13 + i))) w) (i := 3) (by kernel_rfl) hdep)) (hG.pl.at (by omega)) h)) ?_
     refine allIx_cons (i := 5) (sp_pure (f := f) (p := p) (B := B) (j := 5) rfl (fun _ => rfl) (fun a w K Q hG ha hdep h => bd_1 rfl (show a.eval (.tmp 17) = .bool (p.fl 1) from (depF (F := fun i => FY f p B i (a.eval (.tmp (13 + i))) w) (i := 4) (by kernel_rfl) hdep)) h)) ?_
     refine allIx_cons (i := 6) (sp_pure (f := f) (p := p) (B := B) (j := 6) rfl (fun _ => rfl) (fun a w K Q hG ha hdep h => fp_2 _ a w K Q 1 B rfl (by rw [ha 1 (by decide : (1 : Nat) < 13)]; rfl) h)) ?_
     refine allIx_cons (i := 7) (sp_pure (f := f) (p := p) (B := B) (j := 7) rfl (fun _ => rfl) (fun a w K Q hG ha hdep h => ld_bool rfl (show a.eval (.tmp 19) = .pointer (some ⟨B, 2, none⟩) from (depF (F := fun i => FY f p B i (a.eval (.tmp (13 + i))) w) (i := 6) (by kernel_rfl) hdep)) (hG.pl.at (by omega)) h)) ?_
     refine allIx_cons (i := 8) (sp_pure (f := f) (p := p) (B := B) (j := 8) rfl (fun _ => rfl) (fun a w K Q hG ha hdep h => fp_3 _ a w K Q 1 B rfl (by rw [ha 1 (by decide : (1 : Nat) < 13)]; rfl) h)) ?_
     refine allIx_cons (i := 9) (sp_pure (f := f) (p := p) (B := B) (j := 9) rfl (fun _ => rfl) (fun a w K Q hG ha hdep h => ld_float64 rfl (show a.eval (.tmp 21) = .pointer (some ⟨B, 3, none⟩) from (depF (F := fun i => FY f p B i (a.eval (.tmp (13 + i))) w) (i := 8) (by kernel_rfl) hdep)) (hG.pl.at (by omega)) h)) ?_
     refine allIx_cons (i := 10) ?_ ?_
     · intro Q' a w hG ha hdep
       exact text_op rfl (show a.eval (.tmp 22) = .float .f64 p.ang from (depF (F := fun i => FY f p B i (a.eval (.tmp (13 + i))) w) (i := 9) (by kernel_rfl) hdep)) (hcall.1 w hG.t8) fun w' hb => ⟨_, rfl, hG.later hb, hb, rfl⟩
     refine allIx_cons (i := 11) (sp_pure (f := f) (p := p) (B := B) (j := 11) rfl (fun _ => rfl) (fun a w K Q hG ha hdep h => add_s (hlen.1) rfl (show a.eval (.tmp 23) = sv (f.tx p.ang) from (depF (F := fun i => FY f p B i (a.eval (.tmp (13 + i))) w) (i := 10) (by kernel_rfl) hdep)) h)) ?_
     refine allIx_cons (i := 12) (sp_pure (f := f) (p := p) (B := B) (j := 12) rfl (fun _ => rfl) (fun a w K Q hG ha hdep h => bd_2 rfl (show a.eval (.tmp 20) = .bool (p.fl 2) from (depF (F := fun i => FY f p B i (a.eval (.tmp (13 + i))) w) (i := 7) (by kernel_rfl) hdep)) (show a.eval (.tmp 24) = sv (113 :: f.tx p.ang) from (depF (F := fun i => FY f p B i (a.eval (.tmp (13 + i))) w) (i := 11) (by kernel_rfl) hdep)) h)) ?_
     refine allIx_cons (i := 13) (sp_pure (f := f) (p := p) (B := B) (j := 13) rfl (fun _ => rfl) (fun a w K Q hG ha hdep h => fp_4 _ a w K Q 1 B rfl (by rw [ha 1 (by decide : (1 : Nat) < 13)]; rfl) h)) ?_
     refine allIx_cons (i := 14) (sp_pure (f := f) (p := p) (B := B) (j := 14) rfl (fun _ => rfl) (fun a w K Q hG ha hdep h => ld_bool rfl (show a.eval (.tmp 26) = .pointer (some ⟨B, 4, none⟩) from (depF (F := fun i => FY f p B i (a.eval (.tmp (13 + i))) w) (i := 13) (by kernel_rfl) hdep)) (hG.pl.at (by omega)) h)) ?_
     refine allIx_cons (i := 15) (sp_pure (f := f) (p := p) (B := B) (j := 15) rfl (fun _ => rfl) (fun a w K Q hG ha hdep h => fp_5 _ a w K Q 1 B rfl (by rw [ha 1 (by decide : (1 : Nat) < 13)]; rfl) h)) ?_
     refine allIx_cons (i := 16) (sp_pure (f := f) (p := p) (B := B) (j := 16) rfl (fun _ => rfl) (fun a w K Q hG ha hdep h => ld_float64 rfl (show a.eval (.tmp 28) = .pointer (some ⟨B, 5, none⟩) from (depF (F := fun i => FY f p B i (a.eval (.tmp (13 + i))) w) (i := 15) (by kernel_rfl) hdep)) (hG.pl.at (by omega)) h)) ?_
     refine allIx_cons (i := 17) ?_ ?_
     · intro Q' a w hG ha hdep
       exact text_op rfl (show a.eval (.tmp 29) = .float .f64 p.area from (depF (F := fun i => FY f p B i (a.eval (.tmp (13 + i))) w) (i := 16) (by kernel_rfl) hdep)) (hcall.2.1 w hG.t8) fun w' hb => ⟨_, rfl, hG.later hb, hb, rfl⟩
     refine allIx_cons (i := 18) (sp_pure (f := f) (p := p) (B := B) (j := 18) rfl (fun _ => rfl) (fun a w K Q hG ha hdep h => add_s (hlen.2.1) rfl (show a.eval (.tmp 30) = sv (f.tx p.area) from (depF (F := fun i => FY f p B i (a.eval (.tmp (13 + i))) w) (i := 17) (by kernel_rfl) hdep)) h)) ?_
     refine allIx_cons (i := 19) (sp_pure (f := f) (p := p) (B := B) (j := 19) rfl (fun _ => rfl) (fun a w K Q hG ha hdep h => bd_2 rfl (show a.eval (.tmp 27) = .bool (p.fl 4) from (depF (F := fun i => FY f p B i (a.eval (.tmp (13 + i))) w) (i := 14) (by kernel_rfl) hdep)) (show a.eval (.tmp 31) = sv (97 :: f.tx p.area) from (depF (F := fun i => FY f p B i (a.eval (.tmp (13 + i))) w) (i := 18) (by kernel_rfl) hdep)) h)) ?_
     refine allIx_cons (i := 20) (sp_pure (f := f) (p := p) (B := B) (j := 20) rfl (fun _ => rfl) (fun a w K Q hG ha hdep h => fp_6 _ a w K Q 1 B rfl (by rw [ha 1 (by decide : (1 : Nat) < 13)]; rfl) h)) ?_
     refine allIx_cons (i := 21) (sp_pure (f := f) (p := p) (B := B) (j := 21) rfl (fun _ => rfl) (fun a w K Q hG ha hdep h => ld_bool rfl (show a.eval (.tmp 33) = .pointer (some ⟨B, 6, none⟩) from (depF (F := fun i => FY f p B i (a.eval (.tmp (13 + i))) w) (i := 20) (by kernel_rfl) hdep)) (hG.pl.at (by omega)) h)) ?_
     refine allIx_cons (i := 22) (sp_pure (f := f) (p := p) (B := B) (j := 22) rfl (fun _ => rfl) (fun a w K Q hG ha hdep h => bd_1 rfl (show a.eval (.tmp 34) = .bool (p.fl 6) from (depF (F := fun i => FY f p B i (a.eval (.tmp (13 + i))) w) (i := 21) (by kernel_rfl) hdep)) h)) ?_
     refine allIx_cons (i := 23) (sp_pure (f := f) (p := p) (B := B) (j := 23) rfl (fun _ => rfl) (fun a w K Q hG ha hdep h => fp_7 _ a w K Q 1 B rfl (by rw [ha 1 (by decide : (1 : Nat) < 13)]; rfl) h)) ?_
     refine allIx_cons (i := 24) (sp_pure (f := f) (p := p) (B := B) (j := 24) rfl (fun _ => rfl) (fun a w K Q hG ha hdep h => ld_bool rfl (show a.eval (.tmp 36) = .pointer (some ⟨B, 7, none⟩) from (depF (F := fun i => FY f p B i (a.eval (.tmp (13 + i))) w) (i := 23) (by kernel_rfl) hdep)) (hG.pl.at (by omega)) h)) ?_
     refine allIx_cons (i := 25) (sp_pure (f := f) (p := p) (B := B) (j := 25) rfl (fun _ => rfl) (fun a w K Q hG ha hdep h => bd_1 rfl (show a.eval (.tmp 37) = .bool (p.fl 7) from (depF (F := fun i => FY f p B i (a.eval (.tmp (13 + i))) w) (i := 24) (by kernel_rfl) hdep)) h)) ?_
     refine allIx_cons (i := 26) (sp_pure (f := f) (p := p) (B := B) (j := 26) rfl (fun _ => rfl) (fun a w K Q hG ha hdep h => fp_8 _ a w K Q 1 B rfl (by rw [ha 1 (by decide : (1 : Nat) < 13)]; rfl) h)) ?_
     refine allIx_cons (i := 27) (sp_pure (f := f) (p := p) (B := B) (j := 27) rfl (fun _ => rfl) (fun a w K Q hG ha hdep h => ld_bool rfl (show a.eval (.tmp 39) = .pointer (some ⟨B, 8, none⟩) from (depF (F := fun i => FY f p B i (a.eval (.tmp (13 + i))) w) (i := 26) (by kernel_rfl) hdep)) (hG.pl.at (by omega)) h)) ?_
     refine allIx_cons (i := 28) (sp_pure (f := f) (p := p) (B := B) (j := 28) rfl (fun _ => rfl) (fun a w K Q hG ha hdep h => bd_1 rfl (show a.eval (.tmp 40) = .bool (p.fl 8) from (depF (F := fun i => FY f p B i (a.eval (.tmp (13 + i))) w) (i := 27) (by kernel_rfl) hdep)) h)) ?_
     refine allIx_cons (i := 29) (sp_pure (f := f) (p := p) (B := B) (j := 29) rfl (fun _ => rfl) (fun a w K Q hG ha hdep h => fp_9 _ a w K Q 1 B rfl (by rw [ha 1 (by decide : (1 : Nat) < 13)]; rfl) h)) ?_
     refine allIx_cons (i := 30) (sp_pure (f := f) (p := p) (B := B) (j := 30) rfl (fun _ => rfl) (fun a w K Q hG ha hdep h => ld_bool rfl (show a.eval (.tmp 42) = .pointer (some ⟨B, 9, none⟩) from (depF (F := fun i => FY f p B i (a.eval (.tmp (13 + i))) w) (i := 29) (by kernel_rfl) hdep)) (hG.pl.at (by omega)) h)) ?_
     refine allIx_cons (i := 31) (sp_pure (f := f) (p := p) (B := B) (j := 31) rfl (fun _ => rfl) (fun a w K Q hG ha hdep h => bd_1 rfl (show a.eval (.tmp 43) = .bool (p.fl 9) from (depF (F := fun i => FY f p B i (a.eval (.tmp (13 + i))) w) (i := 30) (by kernel_rfl) hdep)) h)) ?_
     refine allIx_cons (i := 32) (sp_pure (f := f) (p := p) (B := B) (j := 32) rfl (fun _ => rfl) (fun a w K Q hG ha hdep h => fp_10 _ a w K Q 1 B rfl (by rw [ha 1 (by decide : (1 : Nat) < 13)]; rfl) h)) ?_
     refine allIx_cons (i := 33) (sp_pure (f := f) (p := p) (B := B) (j := 33) rfl (fun _ => rfl) (fun a w K Q hG ha hdep h => ld_bool rfl (show a.eval (.tmp 45) = .pointer (some ⟨B, 10, none⟩) from (depF (F := fun i => FY f p B i (a.eval (.tmp (13 + i))) w) (i := 32) (by kernel_rfl) hdep)) (hG.pl.at (by omega)) h)) ?_
     refine allIx_cons (i := 34) (sp_pure (f := f) (p := p) (B := B) (j := 34) rfl (fun _ => rfl) (fun a w K Q hG ha hdep h => bd_1 rfl (show a.eval (.tmp 46) = .bool (p.fl 10) from (depF (F := fun i => FY f p B i (a.eval (.tmp (13 + i))) w) (i := 33) (by kernel_rfl) hdep)) h)) ?_
     refine allIx_cons (i := 35) (sp_pure (f := f) (p := p) (B := B) (j := 35) rfl (fun _ => rfl) (fun a w K Q hG ha hdep h => fp_11 _ a w K Q 1 B rfl (by rw [ha 1 (by decide : (1 : Nat) < 13)]; rfl) h)) ?_
     refine allIx_cons (i := 36) (sp_pure (f := f) (p := p) (B := B) (j := 36) rfl (fun _ => rfl) (fun a w K Q hG ha hdep h => ld_int rfl (show a.eval (.tmp 48) = .pointer (some ⟨B, 11, none⟩) from (depF (F := fun i => FY f p B i (a.eval (.tmp (13 + i))) w) (i := 35) (by kernel_rfl) hdep)) (hG.pl.at (by omega)) h)) ?_
     refine allIx_cons (i := 37) (sp_pure (f := f) (p := p) (B := B) (j := 37) rfl (fun _ => rfl) (fun a w K Q hG ha hdep h => ne_i rfl (show a.eval (.tmp 49) = .int .i64 p.st from (depF (F := fun i => FY f p B i (a.eval (.tmp (13 + i))) w) (i := 36) (by kernel_rfl) hdep)) h)) ?_
     refine allIx_cons (i := 38) (sp_pure (f := f) (p := p) (B := B) (j := 38) rfl (fun _ => rfl) (fun a w K Q hG ha hdep h => fp_11 _ a w K Q 1 B rfl (by rw [ha 1 (by decide : (1 : Nat) < 13)]; rfl) h)) ?_
     refine allIx_cons (i := 39) (sp_pure (f := f) (p := p) (B := B) (j := 39) rfl (fun _ => rfl) (fun a w K Q hG ha hdep h => ld_int rfl (show a.eval (.tmp 51) = .pointer (some ⟨B, 11, none⟩) from (depF (F := fun i => FY f p B i (a.eval (.tmp (13 + i))) w) (i := 38) (by kernel_rfl) hdep)) (hG.pl.at (by omega)) h)) ?_
     refine allIx_cons (i := 40) ?_ ?_
     · intro Q' a w hG ha hdep
       exact show_op rfl (show a.eval (.tmp 52) = .int .i64 p.st from (depF (F := fun i => FY f p B i (a.eval (.tmp (13 + i))) w) (i := 39) (by kernel_rfl) hdep)) (hcall.2.2 w hG.t8) fun w' hb => ⟨_, rfl, hG.later hb, hb, rfl⟩
     refine allIx_cons (i := 41) (sp_pure (f := f) (p := p) (B := B) (j := 41) rfl (fun _ => rfl) (fun a w K Q hG ha hdep h => add_s (hlen.2.2) rfl (show a.eval (.tmp 53) = sv (itoa p.st) from (depF (F := fun i => FY f p B i (a.eval (.tmp (13 + i))) w) (i := 40) (by kernel_rfl) hdep)) h)) ?_
     refine allIx_cons (i := 42) (sp_pure (f := f) (p := p) (B := B) (j := 42) rfl (fun _ => rfl) (fun a w K Q hG ha hdep h => bd_2 rfl (show a.eval (.tmp 50) = .bool (p.st != -1) from (depF (F := fun i => FY f p B i (a.eval (.tmp (13 + i))) w) (i := 37) (by kernel_rfl) hdep)) (show a.eval (.tmp 54) = sv (83 :: itoa p.st) from (depF (F := fun i => FY f p B i (a.eval (.tmp (13 + i))) w) (i := 41) (by kernel_rfl) hdep)) h)) ?_
     refine allIx_cons (i := 43) (sp_pure (f := f) (p := p) (B := B) (j := 43) rfl (fun _ => rfl) (fun a w K Q hG ha hdep h => fp_12 _ a w K Q 1 B rfl (by rw [ha 1 (by decide : (1 : Nat) < 13)]; rfl) h)) ?_
     refine allIx_cons (i := 44) (sp_pure (f := f) (p := p) (B := B) (j := 44) rfl (fun _ => rfl) (fun a w K Q hG ha hdep h => ld_uint8 rfl (show a.eval (.tmp 56) = .pointer (some ⟨B, 12, none⟩) from (depF (F := fun i => FY f p B i (a.eval (.tmp (13 + i))) w) (i := 43) (by kernel_rfl) hdep)) (hG.pl.at (by omega)) h)) ?_
     refine allIx_cons (i := 45) (sp_pure (f := f) (p := p) (B := B) (j := 45) rfl (fun _ => rfl) (fun a w K Q hG ha hdep h => eq_i rfl (show a.eval (.tmp 57) = .int .u8 (p.bd : Nat) from (depF (F := fun i => FY f p B i (a.eval (.tmp (13 + i))) w) (i := 44) (by kernel_rfl) hdep)) h)) ?_
     refine allIx_cons (i := 46) (sp_pure (f := f) (p := p) (B := B) (j := 46) rfl (fun _ => rfl) (fun a w K Q hG ha hdep h => bd_1 rfl (show a.eval (.tmp 58) = .bool (((p.bd : Nat) : Int) == 3) from (depF (F := fun i => FY f p B i (a.eval (.tmp (13 + i))) w) (i := 45) (by kernel_rfl) hdep)) h)) ?_
     refine allIx_cons (i := 47) (sp_pure (f := f) (p := p) (B := B) (j := 47) rfl (fun _ => rfl) (fun a w K Q hG ha hdep h => fp_12 _ a w K Q 1 B rfl (by rw [ha 1 (by decide : (1 : Nat) < 13)]; rfl) h)) ?_
     refine allIx_cons (i := 48) (sp_pure (f := f) (p := p) (B := B) (j := 48) rfl (fun _ => rfl) (fun a w K Q hG ha hdep h => ld_uint8 rfl (show a.eval (.tmp 60) = .pointer (some ⟨B, 12, none⟩) from (depF (F := fun i => FY f p B i (a.eval (.tmp (13 + i))) w) (i := 47) (by kernel_rfl) hdep)) (hG.pl.at (by omega)) h)) ?_
     refine allIx_cons (i := 49) (sp_pure (f := f) (p := p) (B := B) (j := 49) rfl (fun _ => rfl) (fun a w K Q hG ha hdep h => eq_i rfl (show a.eval (.tmp 61) = .int .u8 (p.bd : Nat) from (depF (F := fun i => FY f p B i (a.eval (.tmp (13 + i))) w) (i := 48) (by kernel_rfl) hdep)) h)) ?_
     refine allIx_cons (i := 50) (sp_pure (f := f) (p := p) (B := B) (j := 50) rfl (fun _ => rfl) (fun a w K Q hG ha hdep h => bd_1 rfl (show a.eval (.tmp 62) = .bool (((p.bd : Nat) : Int) == 2) from (depF (F := fun i => FY f p B i (a.eval (.tmp (13 + i))) w) (i := 49) (by kernel_rfl) hdep)) h)) ?_
     refine allIx_cons (i := 51) (sp_pure (f := f) (p := p) (B := B) (j := 51) rfl (fun _ => rfl) (fun a w K Q hG ha hdep h => fp_13 _ a w K Q 1 B rfl (by rw [ha 1 (by decide : (1 : Nat) < 13)]; rfl) h)) ?_
     refine allIx_cons (i := 52) (sp_pure (f := f) (p := p) (B := B) (j := 52) rfl (fun _ => rfl) (fun a w K Q hG ha hdep h => ld_bool rfl (show a.eval (.tmp 64) = .pointer (some ⟨B, 13, none⟩) from (depF (F := fun i => FY f p B i (a.eval (.tmp (13 + i))) w) (i := 51) (by kernel_rfl) hdep)) (hG.pl.at (by omega)) h)) ?_
     refine allIx_cons (i := 53) (sp_pure (f := f) (p := p) (B := B) (j := 53) rfl (fun _ => rfl) (fun a w K Q hG ha hdep h => bd_1 rfl (show a.eval (.tmp 65) = .bool (p.fl 13) from (depF (F := fun i => FY f p B i (a.eval (.tmp (13 + i))) w) (i := 52) (by kernel_rfl) hdep)) h)) ?_
     refine allIx_cons (i := 54) (sp_pure (f := f) (p := p) (B := B) (j := 54) rfl (fun _ => rfl) (fun a w K Q hG ha hdep h => fp_14 _ a w K Q 1 B rfl (by rw [ha 1 (by decide : (1 : Nat) < 13)]; rfl) h)) ?_
     refine allIx_cons (i := 55) (sp_pure (f := f) (p := p) (B := B) (j := 55) rfl (fun _ => rfl) (fun a w K Q hG ha hdep h => ld_bool rfl (show a.eval (.tmp 67) = .pointer (some ⟨B, 14, none⟩) from (depF (F := fun i => FY f p B i (a.eval (.tmp (13 + i))) w) (i := 54) (by kernel_rfl) hdep)) (hG.pl.at (by omega)) h)) ?_
     refine allIx_cons (i := 56) (sp_pure (f := f) (p := p) (B := B) (j := 56) rfl (fun _ => rfl) (fun a w K Q hG ha hdep h => bd_1 rfl (show a.eval (.tmp 68) = .bool (p.fl 14) from (depF (F := fun i => FY f p B i (a.eval (.tmp (13 + i))) w) (i := 55) (by kernel_rfl) hdep)) h)) ?_
     refine allIx_cons (i := 57) (sp_pure (f := f) (p := p) (B := B) (j := 57) rfl (fun _ => rfl) (fun a w K Q hG ha hdep h => fp_15 _ a w K Q 1 B rfl (by rw [ha 1 (by decide : (1 : Nat) < 13)]; rfl) h)) ?_
     refine allIx_cons (i := 58) (sp_pure (f := f) (p := p) (B := B) (j := 58) rfl (fun _ => rfl) (fun a w K Q hG ha hdep h => ld_bool rfl (show a.eval (.tmp 70) = .pointer (some ⟨B, 15, none⟩) from (depF (F := fun i => FY f p B i (a.eval (.tmp (13 + i))) w) (i := 57) (by kernel_rfl) hdep)) (hG.pl.at (by omega)) h)) ?_
     refine allIx_cons (i := 59) (sp_pure (f := f) (p := p) (B := B) (j := 59) rfl (fun _ => rfl) (fun a w K Q hG ha hdep h => bd_1 rfl (show a.eval (.tmp 71) = .bool (p.fl 15) from (depF (F := fun i => FY f p B i (a.eval (.tmp (13 + i))) w) (i := 58) (by kernel_rfl) hdep)) h)) ?_
     refine allIx_cons (i := 60) (sp_pure (f := f) (p := p) (B := B) (j := 60) rfl (fun _ => rfl) (fun a w K Q hG ha hdep h => fp_16 _ a w K Q 1 B rfl (by rw [ha 1 (by decide : (1 : Nat) < 13)]; rfl) h)) ?_
     refine allIx_cons (i := 61) (sp_pure (f := f) (p := p) (B := B) (j := 61) rfl (fun _ => rfl) (fun a w K Q hG ha hdep h => ld_bool rfl (show a.eval (.tmp 73) = .pointer (some ⟨B, 16, none⟩) from (depF (F := fun i => FY f p B i (a.eval (.tmp (13 + i))) w) (i := 60) (by kernel_rfl) hdep)) (hG.pl.at (by omega)) h)) ?_
     refine allIx_cons (i := 62) (sp_pure (f := f) (p := p) (B := B) (j := 62) rfl (fun _ => rfl) (fun a w K Q hG ha hdep h => bd_1 rfl (show a.eval (.tmp 74) = .bool (p.fl 16) from (depF (F := fun i => FY f p B i (a.eval (.tmp (13 + i))) w) (i := 61) (by kernel_rfl) hdep)) h)) ?_
     refine allIx_cons (i := 63) (sp_pure (f := f) (p := p) (B := B) (j := 63) rfl (fun _ => rfl) (fun a w K Q hG ha hdep h => fp_17 _ a w K Q 1 B rfl (by rw [ha 1 (by decide : (1 : Nat) < 13)]; rfl) h)) ?_
     refine allIx_cons (i := 64) (sp_pure (f := f) (p := p) (B := B) (j := 64) rfl (fun _ => rfl) (fun a w K Q hG ha hdep h => ld_bool rfl (show a.eval (.tmp 76) = .pointer (some ⟨B, 17, none⟩) from (depF (F := fun i => FY f p B i (a.eval (.tmp (13 + i))) w) (i := 63) (by kernel_rfl) hdep)) (hG.pl.at (by omega)) h)) ?_
     refine allIx_cons (i := 65) (sp_pure (f := f) (p := p) (B := B) (j := 65) rfl (fun _ => rfl) (fun a w K Q hG ha hdep h => bd_1 rfl (show a.eval (.tmp 77) = .bool (p.fl 17) from (depF (F := fun i => FY f p B i (a.eval (.tmp (13 + i))) w) (i := 64) (by kernel_rfl) hdep)) h)) ?_
     refine allIx_cons (i := 66) (sp_pure (f := f) (p := p) (B := B) (j := 66) rfl (fun _ => rfl) (fun a w K Q hG ha hdep h => fp_18 _ a w K Q 1 B rfl (by rw [ha 1 (by decide : (1 : Nat) < 13)]; rfl) h)) ?_
     refine allIx_cons (i := 67) (sp_pure (f := f) (p := p) (B := B) (j := 67) rfl (fun _ => rfl) (fun a w K Q hG ha hdep h => ld_bool rfl (show a.eval (.tmp 79) = .pointer (some ⟨B, 18, none⟩) from (depF (F := fun i => FY f p B i (a.eval (.tmp (13 + i))) w) (i := 66) (by kernel_rfl) hdep)) (hG.pl.at (by omega)) h)) ?_
     refine allIx_cons (i := 68) (sp_pure (f := f) (p := p) (B := B) (j := 68) rfl (fun _ => rfl) (fun a w K Q hG ha hdep h => bd_1 rfl (show a.eval (.tmp 80) = .bool (p.fl 18) from (depF (F := fun i => FY f p B i (a.eval (.tmp (13 + i))) w) (i := 67) (by kernel_rfl) hdep)) h)) ?_
     refine allIx_cons (i := 69) (sp_pure (f := f) (p := p) (B := B) (j := 69) rfl (fun _ => rfl) (fun a w K Q hG ha hdep h => fp_19 _ a w K Q 1 B rfl (by rw [ha 1 (by decide : (1 : Nat) < 13)]; rfl) h)) ?_
     refine allIx_cons (i := 70) (sp_pure (f := f) (p := p) (B := B) (j := 70) rfl (fun _ => rfl) (fun a w K Q hG ha hdep h => ld_bool rfl (show a.eval (.tmp 82) = .pointer (some ⟨B, 19, none⟩) from (depF (F := fun i => FY f p B i (a.eval (.tmp (13 + i))) w) (i := 69) (by kernel_rfl) hdep)) (hG.pl.at (by omega)) h)) ?_
     refine allIx_cons (i := 71) (sp_pure (f := f) (p := p) (B := B) (j := 71) rfl (fun _ => rfl) (fun a w K Q hG ha hdep h => bd_1 rfl (show a.eval (.tmp 83) = .bool (p.fl 19) from (depF (F := fun i => FY f p B i (a.eval (.tmp (13 + i))) w) (i := 70) (by kernel_rfl) hdep)) h)) ?_
     refine allIx_cons (i := 72) (sp_pure (f := f) (p := p) (B := B) (j := 72) rfl (fun _ => rfl) (fun a w K Q hG ha hdep h => fp_20 _ a w K Q 1 B rfl (by rw [ha 1 (by decide : (1 : Nat) < 13)]; rfl) h)) ?_
     refine allIx_cons (i := 73) (sp_pure (f := f) (p := p) (B := B) (j := 73) rfl (fun _ => rfl) (fun a w K Q hG ha hdep h => ld_bool rfl (show a.eval (.tmp 85) = .pointer (some ⟨B, 20, none⟩) from (depF (F := fun i => FY f p B i (a.eval (.tmp (13 + i))) w) (i := 72) (by kernel_rfl) hdep)) (hG.pl.at (by omega)) h)) ?_
     refine allIx_cons (i := 74) (sp_pure (f := f) (p := p) (B := B) (j := 74) rfl (fun _ => rfl) (fun a w K Q hG ha hdep h => bd_1 rfl (show a.eval (.tmp 86) = .bool (p.fl 20) from (depF (F := fun i => FY f p B i (a.eval (.tmp (13 + i))) w) (i := 73) (by kernel_rfl) hdep)) h)) ?_
     refine allIx_cons (i := 75) ?_ ?_
     · intro Q' a w hG ha hdep
       refine sl_20 (Q := Q') rfl (show a.eval (.tmp 15) = .agg #[.bool (p.fl 0), sv ([112])] from (depF (F := fun i => FY f p B i (a.eval (.tmp (13 + i))) w) (i := 2) (by kernel_rfl) hdep)) (show a.eval (.tmp 18) = .agg #[.bool (p.fl 1), sv ([114])] from (depF (F := fun i => FY f p B i (a.eval (.tmp (13 + i))) w) (i := 5) (by kernel_rfl) hdep)) (show a.eval (.tmp 25) = .agg #[.bool (p.fl 2), sv (113 :: f.tx p.ang)] from (depF (F := fun i => FY f p B i (a.eval (.tmp (13 + i))) w) (i := 12) (by kernel_rfl) hdep)) (show a.eval (.tmp 32) = .agg #[.bool (p.fl 4), sv (97 :: f.tx p.area)] from (depF (F := fun i => FY f p B i (a.eval (.tmp (13 + i))) w) (i := 19) (by kernel_rfl) hdep)) (show a.eval (.tmp 35) = .agg #[.bool (p.fl 6), sv ([97])] from (depF (F := fun i => FY f p B i (a.eval (.tmp (13 + i))) w) (i := 22) (by kernel_rfl) hdep)) (show a.eval (.tmp 38) = .agg #[.bool (p.fl 7), sv ([68])] from (depF (F := fun i => FY f p B i (a.eval (.tmp (13 + i))) w) (i := 25) (by kernel_rfl) hdep)) (show a.eval (.tmp 41) = .agg #[.bool (p.fl 8), sv ([99])] from (depF (F := fun i => FY f p B i (a.eval (.tmp (13 + i))) w) (i := 28) (by kernel_rfl) hdep)) (show a.eval (.tmp 44) = .agg #[.bool (p.fl 9), sv ([79])] from (depF (F := fun i => FY f p B i (a.eval (.tmp (13 + i))) w) (i := 31) (by kernel_rfl) hdep)) (show a.eval (.tmp 47) = .agg #[.bool (p.fl 10), sv ([89])] from (depF (F := fun i => FY f p B i (a.eval (.tmp (13 + i))) w) (i := 34) (by kernel_rfl) hdep)) (show a.eval (.tmp 55) = .agg #[.bool (p.st != -1), sv (83 :: itoa p.st)] from (depF (F := fun i => FY f p B i (a.eval (.tmp (13 + i))) w) (i := 42) (by kernel_rfl) hdep)) (show a.eval (.tmp 59) = .agg #[.bool (((p.bd : Nat) : Int) == 3), sv ([105])] from (depF (F := fun i => FY f p B i (a.eval (.tmp (13 + i))) w) (i := 46) (by kernel_rfl) hdep)) (show a.eval (.tmp 63) = .agg #[.bool (((p.bd : Nat) : Int) == 2), sv ([70])] from (depF (F := fun i => FY f p B i (a.eval (.tmp (13 + i))) w) (i := 50) (by kernel_rfl) hdep)) (show a.eval (.tmp 66) = .agg #[.bool (p.fl 13), sv ([108])] from (depF (F := fun i => FY f p B i (a.eval (.tmp (13 + i))) w) (i := 53) (by kernel_rfl) hdep)) (show a.eval (.tmp 69) = .agg #[.bool (p.fl 14), sv ([101])] from (depF (F := fun i => FY f p B i (a.eval (.tmp (13 + i))) w) (i := 56) (by kernel_rfl) hdep)) (show a.eval (.tmp 72) = .agg #[.bool (p.fl 15), sv ([110])] from (depF (F := fun i => FY f p B i (a.eval (.tmp (13 + i))) w) (i := 59) (by kernel_rfl) hdep)) (show a.eval (.tmp 75) = .agg #[.bool (p.fl 16), sv ([118])] from (depF (F := fun i => FY f p B i (a.eval (.tmp (13 + i))) w) (i := 62) (by kernel_rfl) hdep)) (show a.eval (.tmp 78) = .agg #[.bool (p.fl 17), sv ([122])] from (depF (F := fun i => FY f p B i (a.eval (.tmp (13 + i))) w) (i := 65) (by kernel_rfl) hdep)) (show a.eval (.tmp 81) = .agg #[.bool (p.fl 18), sv ([111, 50])] from (depF (F := fun i => FY f p B i (a.eval (.tmp (13 + i))) w) (i := 68) (by kernel_rfl) hdep)) (show a.eval (.tmp 84) = .agg #[.bool (p.fl 19), sv ([106])] from (depF (F := fun i => FY f p B i (a.eval (.tmp (13 + i))) w) (i := 71) (by kernel_rfl) hdep)) (show a.eval (.tmp 87) = .agg #[.bool (p.fl 20), sv ([65])] from (depF (F := fun i => FY f p B i (a.eval (.tmp (13 + i))) w) (i := 74) (by kernel_rfl) hdep)) ?_
       exact ⟨_, rfl, hG.later ((Below.refl _ w).alloc (Nat.le_refl _) _), (Below.refl _ w).alloc (Nat.le_refl _) _, w.heap.size, rfl, CB.new w _ _⟩
     refine allIx_cons (i := 76) (sp_pure (f := f) (p := p) (B := B) (j := 76) rfl (fun _ => rfl) (fun a w K Q hG ha hdep h => (show ∃ g, a.eval (.tmp 88) = .slice (some ⟨g, 0, none⟩) 20 20 ∧ CB w g (prC f p) 74 from (depF (F := fun i => FY f p B i (a.eval (.tmp (13 + i))) w) (i := 75) (by kernel_rfl) hdep)).elim fun g hg => len_s rfl hg.1 h)) ?_
     refine allIx_cons (i := 77) (sp_pure (f := f) (p := p) (B := B) (j := 77) rfl (fun _ => rfl) (fun a w K Q hG ha hdep h => mv_c rfl h)) ?_
     trivial
   · intro vs W4 hG hF
     obtain ⟨g, e75, hg⟩ : ∃ g, vs 75 = .slice (some ⟨g, 0, none⟩) 20 20 ∧ CB W4 g (prC f p) 74 := hF 75 (by omega)
     have e76 : vs 76 = .int .i64 20 := hF 76 (by omega)
     have e77 : vs 77 = .int .i64 0 := hF 77 (by omega)
     have HS : Hid (PrS f p w g C 0 W4) := Lib.hid (by
       have hgC : g ≠ C := by
         intro e
         have h1 := hg
         have h2 := hG.bld
         subst e
         unfold CB at h1 h2
         rw [h1] at h2
         have := congrArg (fun o : Option Obj => match o with | some (.cells c _ _) => c.size | _ => 0) h2
         simp [prC] at this
       refine ⟨hg, hG.bel, by rw [HBe.out]; exact HG.out.2, hgC, Or.inl ⟨by rw [HBe.out]; exact HG.out.2, .slice none 0 0, hG.bld, World.ownsRowF_nil _ _ _ _, by simp [Value.ownBlock]⟩⟩)
     clear hF hg hG HG HCA HT
     generalize hA : actF _ 13 78 (fun _ => true) vs = A
     simp only [actF, fillL, Nat.reduceAdd, Nat.reduceSub, Nat.reduceLeDiff, Nat.reduceLT, if_true, if_false, and_true, and_false, and_self, e75, e76, e77] at hA
     subst hA
     clear e75 e76 e77
     go_wp2_with fail
     go_loopw [90] (fun i wr => ∃ k : Nat, k ≤ 20 ∧ i = .int .i64 (k : Nat) ∧ Hid (PrS f p w g C k wr)) (fun i _ => 20 - (RowKit.intOf i).toNat)
     case atStart => exact ⟨0, by omega, rfl, HS⟩
     case round =>
       clear HS
       obtain ⟨k, hk, rfl, HR⟩ := hrel
       have hk2 : (k : Int) ≤ 20 := by omega
       have hk0 : (0 : Int) ≤ (k : Int) := by omega
       by_cases hlt : k < 20
       · have hlt' : (k : Int) < 20 := by omega
         obtain ⟨⟨b, l⟩, hq, c0, c1⟩ := prC_at f p k hlt
         have x0 : wr.cell? ⟨g, k * 2, none⟩ = some (.bool b) := by
           have h := HR.out.row
           rw [Nat.mul_comm k 2]
           unfold CB at h
           simp [World.cell?, h, c0]
         have x1 : wr.cell? ⟨g, k * 2 + 1, none⟩ = some (sv l) := by
           have h := HR.out.row
           rw [Nat.mul_comm k 2]
           unfold CB at h
           simp [World.cell?, h, c1]
         have HQ := Lib.hid hq
         have hll : l.length ≤ 100 := HSw.out _ (List.mem_of_getElem? hq)
         obtain ⟨sl, hsl⟩ : ∃ sl : ByteArray, (⟨l.toArray⟩ : ByteArray) = sl := ⟨_, rfl⟩
         have HL : Hid (sl.data.toList = l ∧ sl.size ≤ 100) := Lib.hid ⟨by rw [← hsl], by rw [← hsl, Lib.size_eq]; exact hll⟩
         rw [show sv l = .string sl from congrArg Value.string hsl] at x1
         obtain ⟨D, hD⟩ : ∃ D, wr.heap.size = D := ⟨_, rfl⟩
         obtain ⟨W5, hW5⟩ : ∃ W5, wr.alloc (.cells #[.bool b, .string sl] 74) = W5 := ⟨_, rfl⟩
         have y0 : W5.cell? ⟨D, 0, none⟩ = some (.bool b) := by rw [← hW5, ← hD]; exact (CB.new wr _ _).cell 0 (by simp)
         have y1 : W5.cell? ⟨D, 1, none⟩ = some (.string sl) := by rw [← hW5, ← hD]; exact (CB.new wr _ _).cell 1 (by simp)
         have H5 : Hid (PrS f p w g C k W5) := Lib.hid (HR.out.later (by rw [← hW5]; exact (Below.refl _ _).alloc (Nat.le_refl _) _))
         have HCL : Hid ((catS ((swS f p).take k)).length ≤ 100 * k) := Lib.hid (catS_len HSw.out k (by omega))
         clear hq c0 c1 hll hsl HR
         cases b with
         | false =>
           go_wp2_with fail
           refine ⟨⟨k + 1, by omega, by go_num, Lib.hid ?_⟩, by simp [RowKit.intOf]; omega⟩
           have h := H5.out
           refine ⟨h.row, h.bel, h.hC, h.hgC, ?_⟩
           rw [catS_take HQ.out]
           simpa using h.bld
         | true =>
           go_wp2_with fail
           refine (writeStringY w.heap.size C _ sl W5 H5.out.bld (by rw [byteCells_length]; have := HCL.out; have := HL.out.2; omega) H5.out.bel.size).mono ?_
           rintro e W6 ⟨rfl, hb1, hb2, hb3⟩
           have H6 : Hid (PrS f p w g C (k + 1) W6) := Lib.hid (by
             have h := H5.out
             refine ⟨?_, h.bel.trans hb2, h.hC, h.hgC, Or.inr ?_⟩
             · unfold CB
               refine hb3 g _ h.row (fun e => h.hgC (Option.some.inj e)) (fun c fz e => ?_)
               injection e with _ e2
               revert e2
               decide
             · rw [catS_take HQ.out]
               rw [strCells_eq, HL.out.1] at hb1
               simpa [byteCells] using hb1)
           clear hb1 hb2 hb3 H5
           go_wp2_with fail
           exact ⟨⟨k + 1, by omega, by go_num, H6⟩, by simp [RowKit.intOf]; omega⟩
       · have hlt' : ¬ ((k : Int) < 20) := by omega
         obtain rfl : k = 20 := by omega
         go_wp2_with fail
         refine (stringY w.heap.size C _ wr HR.out.bld HR.out.bel.size).mono ?_
         rintro e W6 ⟨rfl, _, hb2⟩
         have HE := Lib.hid (HR.out.bel.trans hb2)
         go_wp2
         go_ret2
         exact ⟨rfl, HE.out⟩
end
end Go.Proofs.YtkgnlobakicnjaaDoor
