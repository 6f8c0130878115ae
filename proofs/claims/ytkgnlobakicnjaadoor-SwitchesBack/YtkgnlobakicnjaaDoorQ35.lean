/- Own texts, put together: Yp. -/
import Derived.Test.YtkgnlobakicnjaaDoorQ3
import Derived.Test.YtkgnlobakicnjaaDoorQ4
import Derived.Test.YtkgnlobakicnjaaDoorQ34
import Derived.Lib.Small
/- Package switches: Print: what its row of switches is made of. (gen_yp.py) -/
namespace Go.Proofs.YtkgnlobakicnjaaDoor
set_option maxRecDepth 100000
open Go.RowKit Go.Shelf Go.Lib
attribute [local go_sem] run_store_float
def prC (f : Fp) (p : Pn) : Array Value := #[.bool (p.fl 0), sv ([112]), .bool (p.fl 1), sv ([114]), .bool (p.fl 2), sv (113 :: f.tx p.ang), .bool (p.fl 4), sv (97 :: f.tx p.area), .bool (p.fl 6), sv ([97]), .bool (p.fl 7), sv ([68]), .bool (p.fl 8), sv ([99]), .bool (p.fl 9), sv ([79]), .bool (p.fl 10), sv ([89]), .bool (p.st != -1), sv (83 :: itoa p.st), .bool (((p.bd : Nat) : Int) == 3), sv ([105]), .bool (((p.bd : Nat) : Int) == 2), sv ([70]), .bool (p.fl 13), sv ([108]), .bool (p.fl 14), sv ([101]), .bool (p.fl 15), sv ([110]), .bool (p.fl 16), sv ([118]), .bool (p.fl 17), sv ([122]), .bool (p.fl 18), sv ([111, 50]), .bool (p.fl 19), sv ([106]), .bool (p.fl 20), sv ([65])]
def FY (f : Fp) (p : Pn) (B : Nat) (j : Nat) (v : Value) (W : World) : Prop := match j with
 | 75 => ∃ g, v = .slice (some ⟨g, 0, none⟩) 20 20 ∧ CB W g (prC f p) 74
 | 0 => v = .pointer (some ⟨B, 0, none⟩)
 | 1 => v = .bool (p.fl 0)
 | 2 => v = .agg #[.bool (p.fl 0), sv ([112])]
 | 3 => v = .pointer (some ⟨B, 1, none⟩)
 | 4 => v = .bool (p.fl 1)
 | 5 => v = .agg #[.bool (p.fl 1), sv ([114])]
 | 6 => v = .pointer (some ⟨B, 2, none⟩)
 | 7 => v = .bool (p.fl 2)
 | 8 => v = .pointer (some ⟨B, 3, none⟩)
 | 9 => v = .float .f64 p.ang
 | 10 => v = sv (f.tx p.ang)
 | 11 => v = sv (113 :: f.tx p.ang)
 | 12 => v = .agg #[.bool (p.fl 2), sv (113 :: f.tx p.ang)]
 | 13 => v = .pointer (some ⟨B, 4, none⟩)
 | 14 => v = .bool (p.fl 4)
 | 15 => v = .pointer (some ⟨B, 5, none⟩)
 | 16 => v = .float .f64 p.area
 | 17 => v = sv (f.tx p.area)
 | 18 => v = sv (97 :: f.tx p.area)
 | 19 => v = .agg #[.bool (p.fl 4), sv (97 :: f.tx p.area)]
 | 20 => v = .pointer (some ⟨B, 6, none⟩)
 | 21 => v = .bool (p.fl 6)
 | 22 => v = .agg #[.bool (p.fl 6), sv ([97])]
 | 23 => v = .pointer (some ⟨B, 7, none⟩)
 | 24 => v = .bool (p.fl 7)
 | 25 => v = .agg #[.bool (p.fl 7), sv ([68])]
 | 26 => v = .pointer (some ⟨B, 8, none⟩)
 | 27 => v = .bool (p.fl 8)
 | 28 => v = .agg #[.bool (p.fl 8), sv ([99])]
 | 29 => v = .pointer (some ⟨B, 9, none⟩)
 | 30 => v = .bool (p.fl 9)
 | 31 => v = .agg #[.bool (p.fl 9), sv ([79])]
 | 32 => v = .pointer (some ⟨B, 10, none⟩)
 | 33 => v = .bool (p.fl 10)
 | 34 => v = .agg #[.bool (p.fl 10), sv ([89])]
 | 35 => v = .pointer (some ⟨B, 11, none⟩)
 | 36 => v = .int .i64 p.st
 | 37 => v = .bool (p.st != -1)
 | 38 => v = .pointer (some ⟨B, 11, none⟩)
 | 39 => v = .int .i64 p.st
 | 40 => v = sv (itoa p.st)
 | 41 => v = sv (83 :: itoa p.st)
 | 42 => v = .agg #[.bool (p.st != -1), sv (83 :: itoa p.st)]
 | 43 => v = .pointer (some ⟨B, 12, none⟩)
 | 44 => v = .int .u8 (p.bd : Nat)
 | 45 => v = .bool (((p.bd : Nat) : Int) == 3)
 | 46 => v = .agg #[.bool (((p.bd : Nat) : Int) == 3), sv ([105])]
 | 47 => v = .pointer (some ⟨B, 12, none⟩)
 | 48 => v = .int .u8 (p.bd : Nat)
 | 49 => v = .bool (((p.bd : Nat) : Int) == 2)
 | 50 => v = .agg #[.bool (((p.bd : Nat) : Int) == 2), sv ([70])]
 | 51 => v = .pointer (some ⟨B, 13, none⟩)
 | 52 => v = .bool (p.fl 13)
 | 53 => v = .agg #[.bool (p.fl 13), sv ([108])]
 | 54 => v = .pointer (some ⟨B, 14, none⟩)
 | 55 => v = .bool (p.fl 14)
 | 56 => v = .agg #[.bool (p.fl 14), sv ([101])]
 | 57 => v = .pointer (some ⟨B, 15, none⟩)
 | 58 => v = .bool (p.fl 15)
 | 59 => v = .agg #[.bool (p.fl 15), sv ([110])]
 | 60 => v = .pointer (some ⟨B, 16, none⟩)
 | 61 => v = .bool (p.fl 16)
 | 62 => v = .agg #[.bool (p.fl 16), sv ([118])]
 | 63 => v = .pointer (some ⟨B, 17, none⟩)
 | 64 => v = .bool (p.fl 17)
 | 65 => v = .agg #[.bool (p.fl 17), sv ([122])]
 | 66 => v = .pointer (some ⟨B, 18, none⟩)
 | 67 => v = .bool (p.fl 18)
 | 68 => v = .agg #[.bool (p.fl 18), sv ([111, 50])]
 | 69 => v = .pointer (some ⟨B, 19, none⟩)
 | 70 => v = .bool (p.fl 19)
 | 71 => v = .agg #[.bool (p.fl 19), sv ([106])]
 | 72 => v = .pointer (some ⟨B, 20, none⟩)
 | 73 => v = .bool (p.fl 20)
 | 74 => v = .agg #[.bool (p.fl 20), sv ([65])]
 | 76 => v = .int .i64 20
 | 77 => v = .int .i64 0
 | _ => True
structure GY (w0 : World) (p : Pn) (B C : Nat) (W : World) : Prop where
 t8 : T8 W
 pl : Pl W B p
 bel : Below w0.heap.size w0 W
 bld : CB W C #[.pointer none, .slice none 0 0] 73
theorem GY.later {w0 : World} {p : Pn} {B C : Nat} {W W' : World} (h : GY w0 p B C W) (hb : Below W.heap.size W W') : GY w0 p B C W' := ⟨h.t8.later hb, CB.later h.pl hb, h.bel.trans (hb.mono h.bel.size), h.bld.later hb⟩
theorem FY.later {f : Fp} {p : Pn} {B : Nat} (j : Nat) (v : Value) (W W' : World) (h : FY f p B j v W) (hb : Below W.heap.size W W') : FY f p B j v W' := by
 unfold FY at h ⊢
 split at h
 · obtain ⟨g, h1, h2⟩ := h; exact ⟨g, h1, h2.later hb⟩
 all_goals exact h
theorem fp_0 : FaOk 42 0 0 := by
 intro o a W K Q t B ho hv h
 unfold Oper.wp execOp
 rw [ho]
 simp only [hv]
 go_simp
 exact h
theorem fp_1 : FaOk 42 1 1 := by
 intro o a W K Q t B ho hv h
 unfold Oper.wp execOp
 rw [ho]
 simp only [hv]
 go_simp
 exact h
theorem fp_2 : FaOk 42 2 2 := by
 intro o a W K Q t B ho hv h
 unfold Oper.wp execOp
 rw [ho]
 simp only [hv]
 go_simp
 exact h
theorem fp_3 : FaOk 42 3 3 := by
 intro o a W K Q t B ho hv h
 unfold Oper.wp execOp
 rw [ho]
 simp only [hv]
 go_simp
 exact h
theorem fp_4 : FaOk 42 4 4 := by
 intro o a W K Q t B ho hv h
 unfold Oper.wp execOp
 rw [ho]
 simp only [hv]
 go_simp
 exact h
theorem fp_5 : FaOk 42 5 5 := by
 intro o a W K Q t B ho hv h
 unfold Oper.wp execOp
 rw [ho]
 simp only [hv]
 go_simp
 exact h
theorem fp_6 : FaOk 42 6 6 := by
 intro o a W K Q t B ho hv h
 unfold Oper.wp execOp
 rw [ho]
 simp only [hv]
 go_simp
 exact h
theorem fp_7 : FaOk 42 7 7 := by
 intro o a W K Q t B ho hv h
 unfold Oper.wp execOp
 rw [ho]
 simp only [hv]
 go_simp
 exact h
theorem fp_8 : FaOk 42 8 8 := by
 intro o a W K Q t B ho hv h
 unfold Oper.wp execOp
 rw [ho]
 simp only [hv]
 go_simp
 exact h
theorem fp_9 : FaOk 42 9 9 := by
 intro o a W K Q t B ho hv h
 unfold Oper.wp execOp
 rw [ho]
 simp only [hv]
 go_simp
 exact h
theorem fp_10 : FaOk 42 10 10 := by
 intro o a W K Q t B ho hv h
 unfold Oper.wp execOp
 rw [ho]
 simp only [hv]
 go_simp
 exact h
theorem fp_11 : FaOk 42 11 11 := by
 intro o a W K Q t B ho hv h
 unfold Oper.wp execOp
 rw [ho]
 simp only [hv]
 go_simp
 exact h
theorem fp_12 : FaOk 42 12 12 := by
 intro o a W K Q t B ho hv h
 unfold Oper.wp execOp
 rw [ho]
 simp only [hv]
 go_simp
 exact h
theorem fp_13 : FaOk 42 13 13 := by
 intro o a W K Q t B ho hv h
 unfold Oper.wp execOp
 rw [ho]
 simp only [hv]
 go_simp
 exact h
theorem fp_14 : FaOk 42 14 14 := by
 intro o a W K Q t B ho hv h
 unfold Oper.wp execOp
 rw [ho]
 simp only [hv]
 go_simp
 exact h
theorem fp_15 : FaOk 42 15 15 := by
 intro o a W K Q t B ho hv h
 unfold Oper.wp execOp
 rw [ho]
 simp only [hv]
 go_simp
 exact h
theorem fp_16 : FaOk 42 16 16 := by
 intro o a W K Q t B ho hv h
 unfold Oper.wp execOp
 rw [ho]
 simp only [hv]
 go_simp
 exact h
theorem fp_17 : FaOk 42 17 17 := by
 intro o a W K Q t B ho hv h
 unfold Oper.wp execOp
 rw [ho]
 simp only [hv]
 go_simp
 exact h
theorem fp_18 : FaOk 42 18 18 := by
 intro o a W K Q t B ho hv h
 unfold Oper.wp execOp
 rw [ho]
 simp only [hv]
 go_simp
 exact h
theorem fp_19 : FaOk 42 19 19 := by
 intro o a W K Q t B ho hv h
 unfold Oper.wp execOp
 rw [ho]
 simp only [hv]
 go_simp
 exact h
theorem fp_20 : FaOk 42 20 20 := by
 intro o a W K Q t B ho hv h
 unfold Oper.wp execOp
 rw [ho]
 simp only [hv]
 go_simp
 exact h
def Sp (f : Fp) (p : Pn) (w0 : World) (B C : Nat) (a0 : Act) (j : Nat) (o : Oper) : Prop := ∀ (Q' : Exit → Act → World → Prop) (a : Act) (w : World), GY w0 p B C w → (∀ t, t < 13 → a.eval (.tmp t) = a0.eval (.tmp t)) → (∀ e ∈ o.after, Region.binds .any e = true → FY f p B e.on (a.eval (.tmp (13 + e.on))) w) →
 Oper.wp Tryd.prog o a w (fun a' w' => ∃ v, a' = a.put (some (13 + j)) v ∧ GY w0 p B C w' ∧ Below w.heap.size w w' ∧ FY f p B j v w') Q'
theorem depF {o : Oper} {i : Nat} {F : Nat → Prop} (h : depY o i = true) (hd : ∀ e ∈ o.after, Region.binds .any e = true → F e.on) : F i := by
 obtain ⟨e, he, hb⟩ := Array.any_eq_true'.1 h
 simp only [Bool.and_eq_true, beq_iff_eq] at hb
 rw [← hb.2]; exact hd e he hb.1
section
variable {f : Fp} {p : Pn} {w0 : World} {B C : Nat} {a0 : Act} {j i i2 : Nat} {o : Oper}
theorem sp_pure {v : Value} (hd : o.dst = some (13 + j)) (hv : ∀ W, FY f p B j v W) (h : ∀ (a : Act) (w : World) (K : Act → World → Prop) (Q : Exit → Act → World → Prop), GY w0 p B C w → (∀ t, t < 13 → a.eval (.tmp t) = a0.eval (.tmp t)) → (∀ e ∈ o.after, Region.binds .any e = true → FY f p B e.on (a.eval (.tmp (13 + e.on))) w) → K (a.put o.dst v) w → Oper.wp Tryd.prog o a w K Q) : Sp f p w0 B C a0 j o := by
 intro Q' a w hG ha hdep
 refine h a w _ Q' hG ha hdep ?_
 rw [hd]
 exact ⟨v, rfl, hG, Below.refl _ _, hv w⟩
theorem ld_bool {b : Bool} {a : Act} {W : World} {K : Act → World → Prop} {Q : Exit → Act → World → Prop} {t B k : Nat} (ho : o.op = .load 4 (.tmp t)) (hv : a.eval (.tmp t) = .pointer (some ⟨B, k, none⟩)) (hc : W.cell? ⟨B, k, none⟩ = some (.bool b)) (h : K (a.put o.dst (.bool b)) W) : Oper.wp Tryd.prog o a W K Q := by
 unfold Oper.wp execOp
 rw [ho]
 simp only [hv]
 go_simp
 exact h
theorem ld_float64 {x : Nat} {a : Act} {W : World} {K : Act → World → Prop} {Q : Exit → Act → World → Prop} {t B k : Nat} (ho : o.op = .load 39 (.tmp t)) (hv : a.eval (.tmp t) = .pointer (some ⟨B, k, none⟩)) (hc : W.cell? ⟨B, k, none⟩ = some (.float .f64 x)) (h : K (a.put o.dst (.float .f64 x)) W) : Oper.wp Tryd.prog o a W K Q := by
 unfold Oper.wp execOp
 rw [ho]
 simp only [hv]
 go_simp
 exact h
theorem ld_int {n : Int} {a : Act} {W : World} {K : Act → World → Prop} {Q : Exit → Act → World → Prop} {t B k : Nat} (ho : o.op = .load 3 (.tmp t)) (hv : a.eval (.tmp t) = .pointer (some ⟨B, k, none⟩)) (hc : W.cell? ⟨B, k, none⟩ = some (.int .i64 n)) (h : K (a.put o.dst (.int .i64 n)) W) : Oper.wp Tryd.prog o a W K Q := by
 unfold Oper.wp execOp
 rw [ho]
 simp only [hv]
 go_simp
 exact h
theorem ld_uint8 {n : Int} {a : Act} {W : World} {K : Act → World → Prop} {Q : Exit → Act → World → Prop} {t B k : Nat} (ho : o.op = .load 5 (.tmp t)) (hv : a.eval (.tmp t) = .pointer (some ⟨B, k, none⟩)) (hc : W.cell? ⟨B, k, none⟩ = some (.int .u8 n)) (h : K (a.put o.dst (.int .u8 n)) W) : Oper.wp Tryd.prog o a W K Q := by
 unfold Oper.wp execOp
 rw [ho]
 simp only [hv]
 go_simp
 exact h
theorem bd_1 {a : Act} {W : World} {K : Act → World → Prop} {Q : Exit → Act → World → Prop} {t : Nat} {b : Bool} {s : ByteArray} (ho : o.op = .build 74 #[(0, .tmp t), (1, .const (.string s))]) (hv : a.eval (.tmp t) = .bool b) (h : K (a.put o.dst (.agg #[.bool b, .string s])) W) : Oper.wp Tryd.prog o a W K Q := by
 unfold Oper.wp execOp
 rw [ho]
 simp only [List.map_toArray, List.map_cons, List.map_nil, hv]
 go_simp
 exact h
theorem bd_2 {a : Act} {W : World} {K : Act → World → Prop} {Q : Exit → Act → World → Prop} {t u : Nat} {b : Bool} {s : ByteArray} (ho : o.op = .build 74 #[(0, .tmp t), (1, .tmp u)]) (hv : a.eval (.tmp t) = .bool b) (hu : a.eval (.tmp u) = .string s) (h : K (a.put o.dst (.agg #[.bool b, .string s])) W) : Oper.wp Tryd.prog o a W K Q := by
 unfold Oper.wp execOp
 rw [ho]
 simp only [List.map_toArray, List.map_cons, List.map_nil, hv, hu]
 go_simp
 exact h
theorem catY (c : UInt8) (l : List UInt8) : (⟨#[c]⟩ : ByteArray) ++ ⟨l.toArray⟩ = ⟨(c :: l).toArray⟩ := by
 apply ByteArray.ext
 simp [ByteArray.data_append]
theorem add_s {a : Act} {W : World} {K : Act → World → Prop} {Q : Exit → Act → World → Prop} {t : Nat} {c : UInt8} {l : List UInt8} (hl : l.length ≤ 50) (ho : o.op = .binOp .add 9 (.const (.string ⟨#[c]⟩)) (.tmp t) 9) (hv : a.eval (.tmp t) = sv l) (h : K (a.put o.dst (sv (c :: l))) W) : Oper.wp Tryd.prog o a W K Q := by
 have e := catY c l
 have s1 : (⟨l.toArray⟩ : ByteArray).size = l.length := by rw [Lib.size_eq]
 obtain ⟨sb, hsb⟩ : ∃ sb : ByteArray, (⟨l.toArray⟩ : ByteArray) = sb := ⟨_, rfl⟩
 have hv1 : a.eval (.tmp t) = .string sb := by rw [← hsb]; exact hv
 rw [hsb] at e s1
 have h1 : K (a.put o.dst (.string ((⟨#[c]⟩ : ByteArray) ++ sb))) W := by rw [e]; exact h
 have hz : ((⟨#[c]⟩ : ByteArray).size : Int) ≤ 8388608 := by show (1 : Int) ≤ _; omega
 have hr := run_string_add (P := Tryd.prog) (w := W) ⟨#[c]⟩ sb hz (by rw [s1]; omega)
 clear hv h e s1 hsb hz hl
 unfold Oper.wp execOp
 rw [ho]
 simp only [hv1]
 go_simp
 exact h1
theorem ne_i {a : Act} {W : World} {K : Act → World → Prop} {Q : Exit → Act → World → Prop} {t : Nat} {n : Int} (ho : o.op = .binOp .neq 3 (.tmp t) (.const (.int .i64 (-1))) 3) (hv : a.eval (.tmp t) = .int .i64 n) (h : K (a.put o.dst (.bool (n != -1))) W) : Oper.wp Tryd.prog o a W K Q := by
 unfold Oper.wp execOp
 rw [ho]
 simp only [hv]
 go_simp
 exact h
theorem eq_i {a : Act} {W : World} {K : Act → World → Prop} {Q : Exit → Act → World → Prop} {t : Nat} {n m : Int} (ho : o.op = .binOp .eql 5 (.tmp t) (.const (.int .u8 m)) 5) (hv : a.eval (.tmp t) = .int .u8 n) (h : K (a.put o.dst (.bool (n == m))) W) : Oper.wp Tryd.prog o a W K Q := by
 unfold Oper.wp execOp
 rw [ho]
 simp only [hv]
 go_simp
 exact h
theorem len_s {a : Act} {W : World} {K : Act → World → Prop} {Q : Exit → Act → World → Prop} {t n c : Nat} {x : Option Addr} (ho : o.op = .call { callee := .builtin .len, args := #[.tmp t], argTypes := #[77] }) (hv : a.eval (.tmp t) = .slice x n c) (h : K (a.put o.dst (.int .i64 (n : Nat))) W) : Oper.wp Tryd.prog o a W K Q := by
 have hv' : (a.tmps[t]?).getD undef = .slice x n c := by rw [← Array.getD_eq_getD_getElem?]; exact hv
 unfold Oper.wp execOp
 rw [ho]
 go_simp
 exact h
theorem text_op {a : Act} {W : World} {K : Act → World → Prop} {Q : Exit → Act → World → Prop} {t x : Nat} {l : List UInt8} (ho : o.op = .call { callee := .value (.func 21), args := #[.tmp t], argTypes := #[39] }) (hv : a.eval (.tmp t) = .float .f64 x) (hC : Calls Tryd.prog 21 #[.float .f64 x] W fun r w' => r = .returned (sv l) ∧ Below W.heap.size W w')
   (h : ∀ W', Below W.heap.size W W' → K (a.put o.dst (sv l)) W') : Oper.wp Tryd.prog o a W K Q := by
 have hv' : (a.tmps[t]?).getD undef = .float .f64 x := by rw [← Array.getD_eq_getD_getElem?]; exact hv
 unfold Oper.wp execOp
 rw [ho]
 go_simp
 refine hC.mono ?_
 rintro e w' ⟨rfl, hb⟩
 exact h w' hb
theorem show_op {a : Act} {W : World} {K : Act → World → Prop} {Q : Exit → Act → World → Prop} {t : Nat} {n : Int} {l : List UInt8} (ho : o.op = .call { callee := .value (.func 22), args := #[.tmp t], argTypes := #[3] }) (hv : a.eval (.tmp t) = .int .i64 n) (hC : Calls Tryd.prog 22 #[.int .i64 n] W fun r w' => r = .returned (sv l) ∧ Below W.heap.size W w')
   (h : ∀ W', Below W.heap.size W W' → K (a.put o.dst (sv l)) W') : Oper.wp Tryd.prog o a W K Q := by
 have hv' : (a.tmps[t]?).getD undef = .int .i64 n := by rw [← Array.getD_eq_getD_getElem?]; exact hv
 unfold Oper.wp execOp
 rw [ho]
 go_simp
 refine hC.mono ?_
 rintro e w' ⟨rfl, hb⟩
 exact h w' hb
theorem mv_c {a : Act} {W : World} {K : Act → World → Prop} {Q : Exit → Act → World → Prop} {v : Value} (ho : o.op = .move (.const v)) (h : K (a.put o.dst v) W) : Oper.wp Tryd.prog o a W K Q := by
 unfold Oper.wp execOp
 rw [ho]
 exact h
theorem sl_20 {a : Act} {W : World} {K : Act → World → Prop} {Q : Exit → Act → World → Prop} {b0 b1 b2 b3 b4 b5 b6 b7 b8 b9 b10 b11 b12 b13 b14 b15 b16 b17 b18 b19 : Bool} {s0 s1 s2 s3 s4 s5 s6 s7 s8 s9 s10 s11 s12 s13 s14 s15 s16 s17 s18 s19 : ByteArray} (ho : o.op = .buildSlice 77 20 #[(0, .tmp 15), (1, .tmp 18), (2, .tmp 25), (3, .tmp 32), (4, .tmp 35), (5, .tmp 38), (6, .tmp 41), (7, .tmp 44), (8, .tmp 47), (9, .tmp 55), (10, .tmp 59), (11, .tmp 63), (12, .tmp 66), (13, .tmp 69), (14, .tmp 72), (15, .tmp 75), (16, .tmp 78), (17, .tmp 81), (18, .tmp 84), (19, .tmp 87)]) (h0 : a.eval (.tmp 15) = .agg #[.bool b0, .string s0]) (h1 : a.eval (.tmp 18) = .agg #[.bool b1, .string s1]) (h2 : a.eval (.tmp 25) = .agg #[.bool b2, .string s2]) (h3 : a.eval (.tmp 32) = .agg #[.bool b3, .string s3]) (h4 : a.eval (.tmp 35) = .agg #[.bool b4, .string s4]) (h5 : a.eval (.tmp 38) = .agg #[.bool b5, .string s5]) (h6 : a.eval (.tmp 41) = .agg #[.bool b6, .string s6]) (h7 : a.eval (.tmp 44) = .agg #[.bool b7, .string s7]) (h8 : a.eval (.tmp 47) = .agg #[.bool b8, .string s8]) (h9 : a.eval (.tmp 55) = .agg #[.bool b9, .string s9]) (h10 : a.eval (.tmp 59) = .agg #[.bool b10, .string s10]) (h11 : a.eval (.tmp 63) = .agg #[.bool b11, .string s11]) (h12 : a.eval (.tmp 66) = .agg #[.bool b12, .string s12]) (h13 : a.eval (.tmp 69) = .agg #[.bool b13, .string s13]) (h14 : a.eval (.tmp 72) = .agg #[.bool b14, .string s14]) (h15 : a.eval (.tmp 75) = .agg #[.bool b15, .string s15]) (h16 : a.eval (.tmp 78) = .agg #[.bool b16, .string s16]) (h17 : a.eval (.tmp 81) = .agg #[.bool b17, .string s17]) (h18 : a.eval (.tmp 84) = .agg #[.bool b18, .string s18]) (h19 : a.eval (.tmp 87) = .agg #[.bool b19, .string s19])
   (h : K (a.put o.dst (.slice (some ⟨W.heap.size, 0, none⟩) 20 20)) (W.alloc (.cells #[.bool b0, .string s0, .bool b1, .string s1, .bool b2, .string s2, .bool b3, .string s3, .bool b4, .string s4, .bool b5, .string s5, .bool b6, .string s6, .bool b7, .string s7, .bool b8, .string s8, .bool b9, .string s9, .bool b10, .string s10, .bool b11, .string s11, .bool b12, .string s12, .bool b13, .string s13, .bool b14, .string s14, .bool b15, .string s15, .bool b16, .string s16, .bool b17, .string s17, .bool b18, .string s18, .bool b19, .string s19] 74))) : Oper.wp Tryd.prog o a W K Q := by
 unfold Oper.wp execOp
 rw [ho]
 simp only [List.map_toArray, List.map_cons, List.map_nil, h0, h1, h2, h3, h4, h5, h6, h7, h8, h9, h10, h11, h12, h13, h14, h15, h16, h17, h18, h19]
 go_simp
 exact h
end
end Go.Proofs.YtkgnlobakicnjaaDoor
