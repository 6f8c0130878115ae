/- Own texts, put together: Jf Jg Jh. -/
import Derived.Test.YtgoadpnoagaflaaDoorQ29
import Derived.Test.YtgoadpnoagaflaaDoorQ31
import Derived.RegionTactic
namespace Go.Proofs.YtgoadpnoagaflaaDoor
/- Package digits: Float (a text is cut at its b), Text. -/
section
set_option maxRecDepth 100000
open Go.RowKit Go.Shelf Go.Lib
set_option maxHeartbeats 1000000 in
theorem indexByte_any (s : ByteArray) (c : Int) (w : World) :
   Calls Tryd.prog 108 #[.string s, .int .u8 c] w fun e w' => e = .returned (.int .i64 (indexByte s.data.toList c.toNat.toUInt8)) ∧ w' = w := by
 go_enter Tryd.func108, Tryd.ntmps108
 go_wp2
 rw [run_callFunc_extern Tryd.func120 (by kernel_rfl) (by kernel_rfl) (by kernel_rfl) (e := Extern.BytealgIndexByte.indexByte) (by kernel_rfl), Lib.run_indexByteString]
 simp only [Result.andThen]
 rw [Oper.upon_value]
 go_wp2
 go_ret
 exact ⟨rfl, rfl⟩
set_option maxHeartbeats 1000000 in
theorem index_any (s : ByteArray) (w : World) :
   Calls Tryd.prog 89 #[.string s, .string ⟨#[98]⟩] w fun e w' => e = .returned (.int .i64 (indexByte s.data.toList 98)) ∧ w' = w := by
 have HI : Hid (∀ w, Calls Tryd.prog 108 #[.string s, .int .u8 98] w fun e w' => e = .returned (.int .i64 (indexByte s.data.toList 98)) ∧ w' = w) := fun w => indexByte_any s 98 w
 have HS : Hid (s.toList = s.data.toList) := Lib.toList_data s
 by_cases h : s.data.toList = [98]
 · have h1 : ([98] == s.toList) = true := by rw [HS.out, h]; rfl
   have h2 : indexByte s.data.toList 98 = 0 := by rw [h]; rfl
   rw [h2]
   clear h2 h
   go_enter Tryd.func89, Tryd.ntmps89
   go_wp2_with (first | (go_at_call 108; refine (HI.out _).mono ?_; rintro e w' ⟨rfl, rfl⟩))
   go_ret
   exact ⟨rfl, rfl⟩
 · have h1 : ([98] == s.toList) = false := by rw [HS.out, beq_eq_false_iff_ne]; exact fun e => h e.symm
   clear h
   go_enter Tryd.func89, Tryd.ntmps89
   go_wp2_with (first | (go_at_call 108; refine (HI.out _).mono ?_; rintro e w' ⟨rfl, rfl⟩))
   go_ret
   exact ⟨rfl, rfl⟩
def cutV (s : ByteArray) : Value := match cutb s.data.toList with
 | none => .tuple #[.string s, .string ⟨#[]⟩, .bool false]
 | some (h, t) => .tuple #[sv h, sv t, .bool true]
set_option maxHeartbeats 1000000 in
theorem cutlite_any (s : ByteArray) (w : World) (hs : s.size ≤ 1000000) :
   Calls Tryd.prog 65 #[.string s, .string ⟨#[98]⟩] w fun e w' => e = .returned (cutV s) ∧ Below w.heap.size w w' := by
 have HI : Hid (∀ w, Calls Tryd.prog 89 #[.string s, .string ⟨#[98]⟩] w fun e w' => e = .returned (.int .i64 (indexByte s.data.toList 98)) ∧ w' = w) := fun w => index_any s w
 have hsz := Lib.size_eq s
 rcases cutb_index s.data.toList with ⟨e1, e2⟩ | ⟨i, e2, hi, e1⟩
 · rw [e2] at HI
   have hv : cutV s = .tuple #[.string s, .string ⟨#[]⟩, .bool false] := by unfold cutV; rw [e1]
   rw [hv]
   clear e1 e2 hv
   go_enter Tryd.func65, Tryd.ntmps65
   go_wp2_with (first
     | (go_at_call 89; refine (HI.out _).mono ?_; rintro e w' ⟨rfl, rfl⟩))
   go_ret3
   exact ⟨rfl, Below.refl _ _⟩
 · rw [e2] at HI
   have hv : cutV s = .tuple #[.string (s.extract 0 i), .string (s.extract (i + 1) s.size), .bool true] := by
     unfold cutV
     rw [e1, Lib.extract_eq, Lib.extract_eq]
     show Value.tuple #[sv _, sv _, _] = _
     rw [List.drop_zero, Nat.sub_zero, List.take_of_length_le (l := s.data.toList.drop (i + 1)) (by rw [List.length_drop]; omega)]
   rw [hv]
   rw [← hsz] at hi
   have c1 : (0 : Int) ≤ (i : Int) := by omega
   have c2 : (i : Int) ≤ (s.size : Int) := by omega
   have c3 : (0 : Int) ≤ (i : Int) + 1 := by omega
   have c4 : (i : Int) + 1 ≤ (s.size : Int) := by omega
   clear e1 e2 hv hsz
   go_enter Tryd.func65, Tryd.ntmps65
   go_wp2_with (first
     | (go_at_call 89; refine (HI.out _).mono ?_; rintro e w' ⟨rfl, rfl⟩))
   go_region
   go_wp2
   go_ret3
   exact ⟨rfl, rfl, rfl, rfl, Nat.le_refl _, fun _ _ => rfl⟩
set_option maxHeartbeats 1000000 in
theorem cut_any (s : ByteArray) (w : World) (hs : s.size ≤ 1000000) :
   Calls Tryd.prog 33 #[.string s, .string ⟨#[98]⟩] w fun e w' => e = .returned (cutV s) ∧ Below w.heap.size w w' := by
 obtain ⟨a, b, c, hv⟩ : ∃ a b c, cutV s = .tuple #[a, b, c] := by
   unfold cutV
   split
   · exact ⟨_, _, _, rfl⟩
   · exact ⟨_, _, _, rfl⟩
 have HI : Hid (∀ w, Calls Tryd.prog 65 #[.string s, .string ⟨#[98]⟩] w fun e w' => e = .returned (.tuple #[a, b, c]) ∧ Below w.heap.size w w') := fun w => by
   have := cutlite_any s w hs
   rwa [hv] at this
 rw [hv]
 clear hv
 go_enter Tryd.func33, Tryd.ntmps33
 go_wp2_with (first
   | (go_at_call 65; refine (HI.out _).mono ?_; rintro e w' ⟨rfl, hb⟩))
 go_ret3
 exact ⟨rfl, hb⟩
def FloatR (l : List UInt8) (x : Nat) (er : Int) : Prop :=
 (rdTell l = none ∧ x = 0 ∧ er = 4) ∨ ∃ n e ok, rdTell l = some (n, e) ∧ TimesR n e x ok ∧ er = if ok then 0 else 10
theorem rd_zero : rdInt [48] = some 0 := by decide
def hd8 (l : List UInt8) : List UInt8 := match cutb l with | none => l | some p => p.1
def tl8 (l : List UInt8) : List UInt8 := match cutb l with | none => [48] | some p => p.2
theorem tell8 (l : List UInt8) : rdTell l = (rdInt (hd8 l)).bind fun n => (rdInt (tl8 l)).map fun e => (n, e) := by
 unfold rdTell hd8 tl8
 cases cutb l with
 | none =>
   simp only []
   rw [rd_zero]
   cases rdInt l <;> rfl
 | some p => rfl
set_option maxHeartbeats 2000000 in
theorem float_core (s : ByteArray) (hs : ¬ 400 < s.size) (f : Bool) (vh vt tt : ByteArray) (n1 e1 n2 e2 : Int) (x : Nat) (ok : Bool) (w : World) (hT : Tab w)
   (hC : ∀ w, Calls Tryd.prog 33 #[.string s, .string ⟨#[98]⟩] w fun e w' => e = .returned (.tuple #[.string vh, .string vt, .bool f]) ∧ Below w.heap.size w w')
   (htt : tt = if f then vt else ⟨#[48]⟩)
   (h1 : ∀ w, Calls Tryd.prog 70 #[.string vh] w fun e w' => e = .returned (.tuple #[.int .i64 n1, .int .i64 e1]) ∧ w' = w)
   (h2 : ∀ w, Calls Tryd.prog 70 #[.string tt] w fun e w' => e = .returned (.tuple #[.int .i64 n2, .int .i64 e2]) ∧ w' = w)
   (he1 : e1 = 0 ∨ e1 = 4) (he2 : e2 = 0 ∨ e2 = 4)
   (h3 : e1 = 0 ∧ e2 = 0 → ∀ w, Tab w → Calls Tryd.prog 113 #[.int .i64 n1, .int .i64 n2] w fun r w' => r = .returned (.tuple #[.float .f64 x, .bool ok]) ∧ w' = w) (hx : ok = false → x = 0) :
   Calls Tryd.prog 95 #[.string s] w fun r w' => r = .returned (.tuple #[.float .f64 (if e1 = 0 ∧ e2 = 0 then x else 0), .int .i64 (if e1 = 0 ∧ e2 = 0 then (if ok then 0 else 10) else 4)]) ∧ Below w.heap.size w w' := by
 have HT : Hid (Tab w) := hT
 have HC : Hid (∀ w, Calls Tryd.prog 33 #[.string s, .string ⟨#[98]⟩] w fun e w' => e = .returned (.tuple #[.string vh, .string vt, .bool f]) ∧ Below w.heap.size w w') := hC
 have H1 : Hid (∀ w, Calls Tryd.prog 70 #[.string vh] w fun e w' => e = .returned (.tuple #[.int .i64 n1, .int .i64 e1]) ∧ w' = w) := h1
 have H2 : Hid (∀ w, Calls Tryd.prog 70 #[.string tt] w fun e w' => e = .returned (.tuple #[.int .i64 n2, .int .i64 e2]) ∧ w' = w) := h2
 clear hC h1 h2 hT
 by_cases hb : e1 = 0 ∧ e2 = 0
 · have H3 : Hid (∀ w, Tab w → Calls Tryd.prog 113 #[.int .i64 n1, .int .i64 n2] w fun r w' => r = .returned (.tuple #[.float .f64 x, .bool ok]) ∧ w' = w) := h3 hb
   obtain ⟨rfl, rfl⟩ := hb
   rw [if_pos ⟨rfl, rfl⟩, if_pos ⟨rfl, rfl⟩]
   clear h3 he1 he2
   cases ok
   · obtain rfl := hx rfl
     rw [if_neg (by decide)]
     cases f
     · obtain rfl : tt = ⟨#[48]⟩ := htt
       go_enter Tryd.func95, Tryd.ntmps95
       go_wp2_with (first | (go_at_call 33; refine (HC.out _).mono ?_; rintro e wc ⟨rfl, hb⟩; have HB := Lib.hid hb; clear hb; refine Hid.out ?_))
       refine Lib.hid ?_
       go_wp2_with fail
       refine (H1.out _).mono ?_
       rintro e w' ⟨rfl, rfl⟩
       go_wp2_with fail
       refine (H2.out _).mono ?_
       rintro e w' ⟨rfl, rfl⟩
       go_wp2_with (first | (go_at_call 113; refine (H3.out _ (HT.out.later HB.out)).mono ?_; rintro e w' ⟨rfl, rfl⟩))
       go_ret2
       exact ⟨rfl, HB.out⟩
     · obtain rfl : tt = vt := htt
       go_enter Tryd.func95, Tryd.ntmps95
       go_wp2_with (first | (go_at_call 33; refine (HC.out _).mono ?_; rintro e wc ⟨rfl, hb⟩; have HB := Lib.hid hb; clear hb; refine Hid.out ?_))
       refine Lib.hid ?_
       go_wp2_with fail
       refine (H1.out _).mono ?_
       rintro e w' ⟨rfl, rfl⟩
       go_wp2_with fail
       refine (H2.out _).mono ?_
       rintro e w' ⟨rfl, rfl⟩
       go_wp2_with (first | (go_at_call 113; refine (H3.out _ (HT.out.later HB.out)).mono ?_; rintro e w' ⟨rfl, rfl⟩))
       go_ret2
       exact ⟨rfl, HB.out⟩
   · rw [if_pos rfl]
     clear hx
     cases f
     · obtain rfl : tt = ⟨#[48]⟩ := htt
       go_enter Tryd.func95, Tryd.ntmps95
       go_wp2_with (first | (go_at_call 33; refine (HC.out _).mono ?_; rintro e wc ⟨rfl, hb⟩; have HB := Lib.hid hb; clear hb; refine Hid.out ?_))
       refine Lib.hid ?_
       go_wp2_with fail
       refine (H1.out _).mono ?_
       rintro e w' ⟨rfl, rfl⟩
       go_wp2_with fail
       refine (H2.out _).mono ?_
       rintro e w' ⟨rfl, rfl⟩
       go_wp2_with (first | (go_at_call 113; refine (H3.out _ (HT.out.later HB.out)).mono ?_; rintro e w' ⟨rfl, rfl⟩))
       go_ret2
       exact ⟨rfl, HB.out⟩
     · obtain rfl : tt = vt := htt
       go_enter Tryd.func95, Tryd.ntmps95
       go_wp2_with (first | (go_at_call 33; refine (HC.out _).mono ?_; rintro e wc ⟨rfl, hb⟩; have HB := Lib.hid hb; clear hb; refine Hid.out ?_))
       refine Lib.hid ?_
       go_wp2_with fail
       refine (H1.out _).mono ?_
       rintro e w' ⟨rfl, rfl⟩
       go_wp2_with fail
       refine (H2.out _).mono ?_
       rintro e w' ⟨rfl, rfl⟩
       go_wp2_with (first | (go_at_call 113; refine (H3.out _ (HT.out.later HB.out)).mono ?_; rintro e w' ⟨rfl, rfl⟩))
       go_ret2
       exact ⟨rfl, HB.out⟩
 · rw [if_neg hb, if_neg hb]
   clear h3 hx
   cases f
   · obtain rfl : tt = ⟨#[48]⟩ := htt
     rcases he1 with rfl | rfl <;> rcases he2 with rfl | rfl
     · exact absurd ⟨rfl, rfl⟩ hb
     all_goals
       clear hb
       go_enter Tryd.func95, Tryd.ntmps95
       go_wp2_with (first | (go_at_call 33; refine (HC.out _).mono ?_; rintro e wc ⟨rfl, hb⟩; have HB := Lib.hid hb; clear hb; refine Hid.out ?_))
       refine Lib.hid ?_
       go_wp2_with fail
       refine (H1.out _).mono ?_
       rintro e w' ⟨rfl, rfl⟩
       go_wp2_with fail
       refine (H2.out _).mono ?_
       rintro e w' ⟨rfl, rfl⟩
       go_wp2_with fail
       go_ret2
       exact ⟨rfl, HB.out⟩
   · obtain rfl : tt = vt := htt
     rcases he1 with rfl | rfl <;> rcases he2 with rfl | rfl
     · exact absurd ⟨rfl, rfl⟩ hb
     all_goals
       clear hb
       go_enter Tryd.func95, Tryd.ntmps95
       go_wp2_with (first | (go_at_call 33; refine (HC.out _).mono ?_; rintro e wc ⟨rfl, hb⟩; have HB := Lib.hid hb; clear hb; refine Hid.out ?_))
       refine Lib.hid ?_
       go_wp2_with fail
       refine (H1.out _).mono ?_
       rintro e w' ⟨rfl, rfl⟩
       go_wp2_with fail
       refine (H2.out _).mono ?_
       rintro e w' ⟨rfl, rfl⟩
       go_wp2_with fail
       go_ret2
       exact ⟨rfl, HB.out⟩
theorem int_parts (o : Option Int) : ∃ n e, intR o = .tuple #[.int .i64 n, .int .i64 e] ∧ ((e = 0 ∧ o = some n) ∨ (e = 4 ∧ n = 0 ∧ o = none)) := by
 cases o with
 | none => exact ⟨0, 4, rfl, Or.inr ⟨rfl, rfl, rfl⟩⟩
 | some n => exact ⟨n, 0, rfl, Or.inl ⟨rfl, rfl⟩⟩
theorem cutV_parts (s : ByteArray) : ∃ vh vt f, cutV s = .tuple #[.string vh, .string vt, .bool f] ∧ vh.data.toList = hd8 s.data.toList ∧ (if f then vt else ⟨#[48]⟩ : ByteArray).data.toList = tl8 s.data.toList ∧ vh.size ≤ s.size + 1 ∧ (if f then vt else ⟨#[48]⟩ : ByteArray).size ≤ s.size + 1 := by
 unfold cutV hd8 tl8
 cases h : cutb s.data.toList with
 | none => exact ⟨s, ⟨#[]⟩, false, rfl, rfl, rfl, by omega, by show 1 ≤ _; omega⟩
 | some p =>
   obtain ⟨a, b⟩ := p
   have e := congrArg List.length (cutb_some h)
   rw [← Lib.size_eq, List.length_append, List.length_cons] at e
   exact ⟨⟨a.toArray⟩, ⟨b.toArray⟩, true, rfl, rfl, rfl, by rw [Lib.size_eq]; show a.length ≤ _; omega, by rw [Lib.size_eq]; show b.length ≤ _; omega⟩
set_option maxHeartbeats 2000000 in
theorem float_any (s : ByteArray) (hs : s.size ≤ 900000) :
   ∃ x er, FloatR s.data.toList x er ∧ ∀ w, Tab w → Calls Tryd.prog 95 #[.string s] w fun r w' => r = .returned (.tuple #[.float .f64 x, .int .i64 er]) ∧ Below w.heap.size w w' := by
 by_cases h4 : 400 < s.size
 · refine ⟨0, 4, Or.inl ⟨?_, rfl, rfl⟩, fun w hT => ?_⟩
   · cases h : rdTell s.data.toList with
     | none => rfl
     | some p => have := tell_length h; rw [← Lib.size_eq] at this; omega
   · clear hT
     go_enter Tryd.func95, Tryd.ntmps95
     go_wp2
     go_ret2
     exact ⟨rfl, Below.refl _ _⟩
 · obtain ⟨vh, vt, f, hv, hh, ht, hl1, hl2⟩ := cutV_parts s
   obtain ⟨n1, e1, q1, p1⟩ := int_parts (rdInt (hd8 s.data.toList))
   obtain ⟨n2, e2, q2, p2'⟩ := int_parts (rdInt (tl8 s.data.toList))
   have hc : ∀ w, Calls Tryd.prog 33 #[.string s, .string ⟨#[98]⟩] w fun e w' => e = .returned (.tuple #[.string vh, .string vt, .bool f]) ∧ Below w.heap.size w w' := fun w => by
     have := cut_any s w (by omega)
     rwa [hv] at this
   have h1 : ∀ w, Calls Tryd.prog 70 #[.string vh] w fun e w' => e = .returned (.tuple #[.int .i64 n1, .int .i64 e1]) ∧ w' = w := fun w => by
     have := int_any vh w (by omega)
     rwa [hh, q1] at this
   have h2 : ∀ w, Calls Tryd.prog 70 #[.string (if f then vt else ⟨#[48]⟩)] w fun e w' => e = .returned (.tuple #[.int .i64 n2, .int .i64 e2]) ∧ w' = w := fun w => by
     have := int_any (if f then vt else ⟨#[48]⟩) w (by omega)
     rwa [ht, q2] at this
   have he1 : e1 = 0 ∨ e1 = 4 := by rcases p1 with ⟨h, _⟩ | ⟨h, _⟩ <;> simp [h]
   have he2 : e2 = 0 ∨ e2 = 4 := by rcases p2' with ⟨h, _⟩ | ⟨h, _⟩ <;> simp [h]
   have htell := tell8 s.data.toList
   by_cases hb : e1 = 0 ∧ e2 = 0
   · have o1 : rdInt (hd8 s.data.toList) = some n1 := by
       rcases p1 with ⟨_, h⟩ | ⟨h, _, _⟩
       · exact h
       · omega
     have o2 : rdInt (tl8 s.data.toList) = some n2 := by
       rcases p2' with ⟨_, h⟩ | ⟨h, _, _⟩
       · exact h
       · omega
     obtain ⟨x, ok, hx, hcl⟩ := times_any n1 n2 (itoa_rd o1).1 (itoa_rd o2).1
     refine ⟨x, if ok then 0 else 10, Or.inr ⟨n1, n2, ok, by rw [htell, o1, o2]; rfl, hx, rfl⟩, fun w hT => ?_⟩
     have := float_core s h4 f vh vt _ n1 e1 n2 e2 x ok w hT hc rfl h1 h2 he1 he2 (fun _ => hcl) (fun h => by
       rcases hx with ⟨h', _⟩ | ⟨_, h', _⟩
       · rw [h] at h'; cases h'
       · exact h')
     rw [if_pos hb, if_pos hb] at this
     exact this
   · refine ⟨0, 4, Or.inl ⟨?_, rfl, rfl⟩, fun w hT => ?_⟩
     · rw [htell]
       rcases p1 with ⟨a1, a2⟩ | ⟨a1, _, a2⟩
       · rcases p2' with ⟨b1, b2⟩ | ⟨b1, _, b2⟩
         · exact absurd ⟨a1, b1⟩ hb
         · rw [a2, b2]; rfl
       · rw [a2]; rfl
     · have := float_core s h4 f vh vt _ n1 e1 n2 e2 0 false w hT hc rfl h1 h2 he1 he2 (fun h => absurd h hb) (fun _ => rfl)
       rw [if_neg hb, if_neg hb] at this
       exact this
end

/- Package digits: Text. -/
section
set_option maxRecDepth 100000
open Go.RowKit Go.Shelf Go.Lib
def TextR (x : Nat) (l : List UInt8) : Prop :=
 (¬ Fin64 x ∧ l = []) ∨ (Fin64 x ∧ ((∃ k : Int, fval x = (k : Rat) ∧ -9007199254740992 < k ∧ k < 9007199254740992 ∧ l = itoa k) ∨
   ((¬ ∃ k : Int, fval x = (k : Rat) ∧ -9007199254740992 < k ∧ k < 9007199254740992) ∧ ∃ n e : Int, n % 2 = 1 ∧ -9007199254740992 < n ∧ n < 9007199254740992 ∧ -3000 ≤ e ∧ e ≤ 3000 ∧ fval x = (n : Rat) * p2 e ∧ l = itoa n ++ 98 :: itoa e)))
theorem cat_b (a b : List UInt8) : (⟨a.toArray⟩ : ByteArray) ++ ⟨#[98]⟩ ++ ⟨b.toArray⟩ = ⟨(a ++ 98 :: b).toArray⟩ := by
 apply ByteArray.ext
 simp [ByteArray.data_append]
theorem ret_s {a b : ByteArray} (h : a = b) : Ending.returned (.string a) = .returned (.string b) := by rw [h]
theorem p53_val : fval 4845873199050653696 = 9007199254740992 := by
 rw [(fval_pos_lt (r := 4845873199050653696) (by omega)).1, show fmag 4845873199050653696 = 4503599627370496 by decide, show fpl 4845873199050653696 = 1 by decide, p2_one]
 have : ((4503599627370496 : Nat) : Rat) = 4503599627370496 := rfl
 rw [this]; grind
theorem lt53 {x : Nat} (hx : Fin64 x) : (FloatKind.f64.format.order (x % 9223372036854775808) 4845873199050653696 == some .lt) = decide (fval (frung x) < 9007199254740992) := by
 show (Ieee.double.order (frung x) 4845873199050653696 == some .lt) = _
 have hf : Fin64 (frung x) := by unfold Fin64 frung at *; omega
 rw [order_fin hf (by unfold Fin64 frung; decide), p53_val]
 by_cases h : fval (frung x) < 9007199254740992
 · rw [if_pos h, decide_eq_true h]; rfl
 · rw [if_neg h, decide_eq_false h]; split <;> rfl
theorem whole_iff {x : Nat} (hx : Fin64 x) (lx : x < 18446744073709551616) : (∃ k : Int, fval x = (k : Rat) ∧ -9007199254740992 < k ∧ k < 9007199254740992) ↔ (M 1 (fval x) ∧ fval (frung x) < 9007199254740992) := by
 have hn := fval_nonneg (r := frung x) hx
 have c1 : ((9007199254740992 : Int) : Rat) = 9007199254740992 := rfl
 have c2 : ((-9007199254740992 : Int) : Rat) = -9007199254740992 := rfl
 rw [M_one]
 constructor
 · rintro ⟨k, e, h1, h2⟩
   have g1 : ((-9007199254740992 : Int) : Rat) < (k : Rat) := Rat.intCast_lt_intCast.2 h1
   have g2 : (k : Rat) < ((9007199254740992 : Int) : Rat) := Rat.intCast_lt_intCast.2 h2
   refine ⟨⟨k, e⟩, ?_⟩
   rcases fval_sgn hx lx with ⟨_, v⟩ | ⟨_, v⟩ <;> grind
 · rintro ⟨⟨k, e⟩, h⟩
   refine ⟨k, e, ?_, ?_⟩
   · apply Rat.intCast_lt_intCast.1
     rw [c2]
     rcases fval_sgn hx lx with ⟨_, v⟩ | ⟨_, v⟩ <;> grind
   · apply Rat.intCast_lt_intCast.1
     rw [c1]
     rcases fval_sgn hx lx with ⟨_, v⟩ | ⟨_, v⟩ <;> grind
theorem eqT {x : Nat} (hx : Fin64 x) (lx : x < 18446744073709551616) : (FloatKind.f64.format.order (trw x) x == some .eq) = decide (fval (trw x) = fval x) := by
 show (Ieee.double.order (trw x) x == some .eq) = _
 rw [order_fin (trw_full hx lx).1 hx]
 by_cases h : fval (trw x) = fval x
 · rw [decide_eq_true h, h, if_neg Rat.lt_irrefl, if_pos rfl]; rfl
 · rw [decide_eq_false h, if_neg h]; split <;> rfl
theorem conv_run {z : Nat} {k : Int} (hz : Fin64 z) (h : fval z = (k : Rat)) (h1 : -9223372036854775808 ≤ k) (h2 : k ≤ 9223372036854775807) : ∀ w, (convert 35 3 (.float .f64 z)).run Tryd.prog w = .ok (.int .i64 k) w := fun w => run_convert_float_int w _ _ _ _ _ _ (by rw [Tryd.underlying35]; rfl) Tryd.underlying3 (conv_int hz h h1 h2)
set_option maxHeartbeats 2000000 in
set_option maxRecDepth 100000 in
theorem text_any (x : Nat) (lx : x < 18446744073709551616) : ∃ l, TextR x l ∧ ∀ w, T8 w → Calls Tryd.prog 46 #[.float .f64 x] w fun r w' => r = .returned (sv l) ∧ Below w.heap.size w w' := by
 have HN : Hid (∀ w, Calls Tryd.prog 74 #[.float .f64 x] w fun e w' => e = .returned (.bool (isnan x)) ∧ w' = w) := fun w => isNaN_any x w
 have HI : Hid (∀ w, Calls Tryd.prog 75 #[.float .f64 x, .int .i64 0] w fun e w' => e = .returned (.bool (isinf x)) ∧ w' = w) := fun w => isInf0_any x w lx
 by_cases hx : Fin64 x
 · obtain ⟨f1, f2⟩ := flagsS hx
   rw [f1] at HI
   rw [f2] at HN
   have HTr : Hid (∀ w, Calls Tryd.prog 78 #[.float .f64 x] w fun e w' => e = .returned (.float .f64 (trw x)) ∧ w' = w) := fun w => trunc_any x w hx
   have HA : Hid (∀ w, Calls Tryd.prog 79 #[.float .f64 x] w fun e w' => e = .returned (.float .f64 (x % 9223372036854775808)) ∧ w' = w) := fun w => abs_any x w lx
   have q1 := eqT hx lx
   have q2 := lt53 hx
   obtain ⟨_, _, ht⟩ := trw_full hx lx
   have hw := whole_iff hx lx
   obtain ⟨t, hte⟩ : ∃ t, trw x = t := ⟨_, rfl⟩
   obtain ⟨a, hae⟩ : ∃ a, x % 9223372036854775808 = a := ⟨_, rfl⟩
   by_cases h : ∃ k : Int, fval x = (k : Rat) ∧ -9007199254740992 < k ∧ k < 9007199254740992
   · have h' := hw.1 h
     obtain ⟨k, e, h1, h2⟩ := h
     refine ⟨itoa k, Or.inr ⟨hx, Or.inl ⟨k, e, h1, h2, rfl⟩⟩, fun w hT => ?_⟩
     rw [decide_eq_true (ht.2 h'.1), hte] at q1
     rw [decide_eq_true h'.2, hae] at q2
     rw [hte] at HTr
     rw [hae] at HA
     have hcv := conv_run hx e (by omega) (by omega)
     have HS : Hid (∀ w, T8 w → Calls Tryd.prog 21 #[.int .i64 k] w fun e w' => e = .returned (sv (itoa k)) ∧ Below w.heap.size w w') := fun w hT => show_any k ⟨by omega, by omega⟩ w hT
     have HT : Hid (T8 w) := hT
     clear hT h' e h1 h2 ht hw hte hae f1 f2 hx lx
     go_enter Tryd.func46, Tryd.ntmps46
     go_wp2_with (first
       | (go_at_call 74; refine (HN.out _).mono ?_; rintro e w' ⟨rfl, rfl⟩)
       | (go_at_call 75; refine (HI.out _).mono ?_; rintro e w' ⟨rfl, rfl⟩)
       | (go_at_call 78; refine (HTr.out _).mono ?_; rintro e w' ⟨rfl, rfl⟩)
       | (go_at_call 79; refine (HA.out _).mono ?_; rintro e w' ⟨rfl, rfl⟩)
       | (go_at_call 21; refine (HS.out _ HT.out).mono ?_; rintro e w' ⟨rfl, hb⟩))
     go_ret
     exact ⟨rfl, hb⟩
   · have hx0 : fval x ≠ 0 := fun e => h ⟨0, by rw [e]; rfl, by omega, by omega⟩
     obtain ⟨f, ex, m, ff, lf, vf, hm, vx, hex1, hex2, hF⟩ := frexp_val x hx lx hx0
     obtain ⟨fm, lm, vm⟩ := fwJ_val (n := m) (by omega) (by omega)
     have hm0 : m ≠ 0 := by omega
     obtain ⟨n, k, ho, hO⟩ := odd_any m (ex - 53) hm0 ⟨by omega, by omega⟩ (by omega) (by omega)
     have hk := ho.2.2
     have hnb : -9007199254740992 < n ∧ n < 9007199254740992 := by
       have e1 := congrArg Int.natAbs ho.1
       rw [Int.natAbs_mul, Int.natAbs_natCast] at e1
       have e2 : n.natAbs * 1 ≤ n.natAbs * 2 ^ k := Nat.mul_le_mul_left _ (Nat.two_pow_pos k)
       omega
     obtain ⟨z, hz⟩ : ∃ z, fwJ m = z := ⟨_, rfl⟩
     rw [hz] at fm lm vm
     obtain ⟨ek, hek⟩ : ∃ ek : Int, ex - 53 + (k : Nat) = ek := ⟨_, rfl⟩
     rw [hek] at hO
     refine ⟨itoa n ++ 98 :: itoa ek, Or.inr ⟨hx, Or.inr ⟨h, n, ek, ho.2.1, hnb.1, hnb.2, by omega, by omega, ?_, rfl⟩⟩, fun w hT => ?_⟩
     · rw [vx, odd_val ho, hek]
     have HF : Hid (∀ w, Calls Tryd.prog 80 #[.float .f64 x] w fun e w' => e = .returned (.tuple #[.float .f64 f, .int .i64 ex]) ∧ w' = w) := hF
     have hz0 : fval z ≠ 0 := by
       rw [vm]
       exact fun e => hm0 (Rat.intCast_inj.1 (e.trans rfl))
     have HL : Hid (∀ w, Calls Tryd.prog 82 #[.float .f64 f, .int .i64 53] w fun e w' => e = .returned (.float .f64 z) ∧ w' = w) := fun w => Ldexp_val f z 53 w ff lf fm lm (by rw [vm, vf, Rat.mul_assoc, ← p2_add, show (-53 + 53 : Int) = 0 from rfl, p2_zero, Rat.mul_one]) hz0 (by omega) (by omega)
     have hcv := conv_run fm vm (by omega) (by omega)
     have HO : Hid (∀ w, Tab w → Calls Tryd.prog 81 #[.int .i64 m, .int .i64 (ex - 53)] w fun r w' => r = .returned (.tuple #[.int .i64 n, .int .i64 ek]) ∧ w' = w) := hO
     have HS1 : Hid (∀ w, T8 w → Calls Tryd.prog 21 #[.int .i64 n] w fun e w' => e = .returned (sv (itoa n)) ∧ Below w.heap.size w w') := fun w hT => show_any n ⟨by omega, by omega⟩ w hT
     have HS2 : Hid (∀ w, T8 w → Calls Tryd.prog 21 #[.int .i64 ek] w fun e w' => e = .returned (sv (itoa ek)) ∧ Below w.heap.size w w') := fun w hT => show_any ek ⟨by omega, by omega⟩ w hT
     have HT : Hid (T8 w) := hT
     rw [hte] at q1 HTr
     rw [hae] at q2 HA
     have hnw := fun hc => h (hw.2 hc)
     have hln : (itoa n).length ≤ 21 := itoa_length_le n (by omega) (by omega)
     have hle : (itoa ek).length ≤ 21 := itoa_length_le ek (by omega) (by omega)
     by_cases hM : M 1 (fval x)
     · rw [hte] at ht
       rw [decide_eq_true (ht.2 hM)] at q1
       rw [decide_eq_false (fun hc => hnw ⟨hM, hc⟩)] at q2
       clear hM hnw hT hO hF hz0 ho hz hek hnb hm0 fm lm vm ff lf vf hm vx hx0 h ht hw hte hae f1 f2 hx lx
       go_enter Tryd.func46, Tryd.ntmps46
       go_wp2_with (first
         | (go_at_call 74; refine (HN.out _).mono ?_; rintro e w' ⟨rfl, rfl⟩)
         | (go_at_call 75; refine (HI.out _).mono ?_; rintro e w' ⟨rfl, rfl⟩)
         | (go_at_call 78; refine (HTr.out _).mono ?_; rintro e w' ⟨rfl, rfl⟩)
         | (go_at_call 79; refine (HA.out _).mono ?_; rintro e w' ⟨rfl, rfl⟩)
         | (go_at_call 80; refine (HF.out _).mono ?_; rintro e w' ⟨rfl, rfl⟩)
         | (go_at_call 82; refine (HL.out _).mono ?_; rintro e w' ⟨rfl, rfl⟩)
         | (go_at_call 81; refine (HO.out _ HT.out.1).mono ?_; rintro e w' ⟨rfl, rfl⟩; refine Hid.out ?_))
       refine Lib.hid ?_
       go_wp2_with fail
       refine (HS1.out _ HT.out).mono ?_
       rintro e w1 ⟨rfl, hb1⟩
       have HB1 := Lib.hid hb1
       clear hb1
       go_wp2_with fail
       refine (HS2.out _ (HT.out.later HB1.out)).mono ?_
       rintro e w2 ⟨rfl, hb2⟩
       have HB2 := Lib.hid hb2
       clear hb2
       go_wp2
       go_ret
       exact ⟨ret_s (cat_b _ _), HB1.out.trans (HB2.out.mono HB1.out.size)⟩
     · rw [hte] at ht
       rw [decide_eq_false (fun hc => hM (ht.1 hc))] at q1
       clear q2 hM hnw hT hO hF hz0 ho hz hek hnb hm0 fm lm vm ff lf vf hm vx hx0 h ht hw hte hae f1 f2 hx lx
       go_enter Tryd.func46, Tryd.ntmps46
       go_wp2_with (first
         | (go_at_call 74; refine (HN.out _).mono ?_; rintro e w' ⟨rfl, rfl⟩)
         | (go_at_call 75; refine (HI.out _).mono ?_; rintro e w' ⟨rfl, rfl⟩)
         | (go_at_call 78; refine (HTr.out _).mono ?_; rintro e w' ⟨rfl, rfl⟩)
         | (go_at_call 79; refine (HA.out _).mono ?_; rintro e w' ⟨rfl, rfl⟩)
         | (go_at_call 80; refine (HF.out _).mono ?_; rintro e w' ⟨rfl, rfl⟩)
         | (go_at_call 82; refine (HL.out _).mono ?_; rintro e w' ⟨rfl, rfl⟩)
         | (go_at_call 81; refine (HO.out _ HT.out.1).mono ?_; rintro e w' ⟨rfl, rfl⟩; refine Hid.out ?_))
       refine Lib.hid ?_
       go_wp2_with fail
       refine (HS1.out _ HT.out).mono ?_
       rintro e w1 ⟨rfl, hb1⟩
       have HB1 := Lib.hid hb1
       clear hb1
       go_wp2_with fail
       refine (HS2.out _ (HT.out.later HB1.out)).mono ?_
       rintro e w2 ⟨rfl, hb2⟩
       have HB2 := Lib.hid hb2
       clear hb2
       go_wp2
       go_ret
       exact ⟨ret_s (cat_b _ _), HB1.out.trans (HB2.out.mono HB1.out.size)⟩
 · refine ⟨[], Or.inl ⟨hx, rfl⟩, fun w _ => ?_⟩
   have hx' : ¬ frung x < 9218868437227405312 := hx
   by_cases hn : 9218868437227405312 < frung x
   · rw [show isnan x = true by unfold isnan; exact decide_eq_true hn] at HN
     clear hn hx' hx lx
     go_enter Tryd.func46, Tryd.ntmps46
     go_wp2_with (first
       | (go_at_call 74; refine (HN.out _).mono ?_; rintro e w' ⟨rfl, rfl⟩)
       | (go_at_call 75; refine (HI.out _).mono ?_; rintro e w' ⟨rfl, rfl⟩))
     go_ret
     exact ⟨rfl, Below.refl _ _⟩
   · rw [show isnan x = false by unfold isnan; exact decide_eq_false hn] at HN
     rw [show isinf x = true by unfold isinf; rw [beq_iff_eq]; omega] at HI
     clear hn hx' hx lx
     go_enter Tryd.func46, Tryd.ntmps46
     go_wp2_with (first
       | (go_at_call 74; refine (HN.out _).mono ?_; rintro e w' ⟨rfl, rfl⟩)
       | (go_at_call 75; refine (HI.out _).mono ?_; rintro e w' ⟨rfl, rfl⟩))
     go_ret
     exact ⟨rfl, Below.refl _ _⟩
end

/- Package digits: what follows of the contracts, and the statements' helper awake. -/
section
set_option maxRecDepth 100000
open Go.RowKit Go.Shelf Go.Lib
theorem FloatR.ok {l : List UInt8} {x v : Nat} {er n e : Int} (h : FloatR l x er) (ht : rdTell l = some (n, e)) (fv : Fin64 v) (lv : v < 18446744073709551616) (hv : fval v = (n : Rat) * p2 e) (h0 : n = 0 → v = 0) : x = v ∧ er = 0 := by
 rcases h with ⟨h1, _⟩ | ⟨n', e', ok, h1, h2, h3⟩
 · rw [h1] at ht; cases ht
 rw [h1] at ht
 simp at ht
 obtain ⟨rfl, rfl⟩ := ht
 rcases h2 with ⟨rfl, fx, lx, vx, z⟩ | ⟨rfl, _, hn⟩
 · refine ⟨?_, h3⟩
   by_cases hz : n' = 0
   · rw [z hz, h0 hz]
   · refine fval_inj fx fv lx lv (by rw [vx, hv]) ?_
     rw [vx]
     intro e0
     have hp := p2_pos e'
     have hn0 : (n' : Rat) = 0 := by
       rcases Rat.mul_eq_zero.1 e0 with h | h
       · exact h
       · rw [h] at hp; exact absurd hp Rat.lt_irrefl
     exact hz (Rat.intCast_inj.1 (hn0.trans rfl))
 · exact absurd hv (hn v fv lv)
theorem FloatR.no {l : List UInt8} {x : Nat} {er n e : Int} (h : FloatR l x er) (ht : rdTell l = some (n, e)) (hn : ∀ y, Fin64 y → y < 18446744073709551616 → fval y ≠ (n : Rat) * p2 e) : x = 0 ∧ er = 10 := by
 rcases h with ⟨h1, _⟩ | ⟨n', e', ok, h1, h2, h3⟩
 · rw [h1] at ht; cases ht
 rw [h1] at ht
 simp at ht
 obtain ⟨rfl, rfl⟩ := ht
 rcases h2 with ⟨rfl, fx, lx, vx, z⟩ | ⟨rfl, hx, _⟩
 · exact absurd vx (hn x fx lx)
 · exact ⟨hx, h3⟩
theorem FloatR.form {l : List UInt8} {x : Nat} {er : Int} (h : FloatR l x er) (ht : rdTell l = none) : x = 0 ∧ er = 4 := by
 rcases h with ⟨_, h⟩ | ⟨n', e', ok, h1, _⟩
 · exact h
 · rw [h1] at ht; cases ht
theorem odd_uniq {n n' e e' : Int} (h1 : n % 2 = 1) (h2 : n' % 2 = 1) (h : (n : Rat) * p2 e = (n' : Rat) * p2 e') : n = n' ∧ e = e' := by
 have key : ∀ {n n' e e' : Int}, n % 2 = 1 → n' % 2 = 1 → (n : Rat) * p2 e = (n' : Rat) * p2 e' → e ≤ e' → n = n' ∧ e = e' := by
   intro n n' e e' h1 h2 h hle
   obtain ⟨k, hk⟩ : ∃ k : Nat, e' = (k : Int) + e := ⟨(e' - e).toNat, by omega⟩
   rw [hk, p2_add, ← Rat.mul_assoc, p2_nat] at h
   have h' : (n : Rat) * p2 e = ((n' * ((2 ^ k : Nat) : Int) : Int) : Rat) * p2 e := by rw [h, Rat.intCast_mul]; rfl
   have := int_eq (p2_pos e) h'
   cases k with
   | zero => exact ⟨by rw [this, Nat.pow_zero]; omega, by omega⟩
   | succ k =>
     exfalso
     rw [Nat.pow_succ, Int.natCast_mul, ← Int.mul_assoc] at this
     omega
 rcases Int.le_total e e' with hl | hl
 · exact key h1 h2 h hl
 · have := key h2 h1 h.symm hl
   exact ⟨this.1.symm, this.2.symm⟩
theorem TextR.whole {x : Nat} {l : List UInt8} (h : TextR x l) (hx : Fin64 x) {k : Int} (hk : fval x = (k : Rat)) (h1 : -9007199254740992 < k) (h2 : k < 9007199254740992) : l = itoa k := by
 rcases h with ⟨h, _⟩ | ⟨_, ⟨k', e, _, _, hl⟩ | ⟨h, _⟩⟩
 · exact absurd hx h
 · rw [hl, Rat.intCast_inj.1 (e.symm.trans hk)]
 · exact absurd ⟨k, hk, h1, h2⟩ h
theorem TextR.odd {x : Nat} {l : List UInt8} (h : TextR x l) (hx : Fin64 x) {n e : Int} (ho : n % 2 = 1) (hv : fval x = (n : Rat) * p2 e) (hn : ¬ ∃ k : Int, fval x = (k : Rat) ∧ -9007199254740992 < k ∧ k < 9007199254740992) : l = itoa n ++ 98 :: itoa e := by
 rcases h with ⟨h, _⟩ | ⟨_, ⟨k', e', g1, g2, _⟩ | ⟨_, n', e', ho', _, _, _, _, hv', hl⟩⟩
 · exact absurd hx h
 · exact absurd ⟨k', e', g1, g2⟩ hn
 · obtain ⟨rfl, rfl⟩ := odd_uniq ho ho' (hv.symm.trans hv')
   exact hl
theorem TextR.tell {x : Nat} {l : List UInt8} (h : TextR x l) (hx : Fin64 x) : ∃ n e, rdTell l = some (n, e) ∧ fval x = (n : Rat) * p2 e ∧ l.length ≤ 43 := by
 rcases h with ⟨h, _⟩ | ⟨_, ⟨k, e, h1, h2, rfl⟩ | ⟨_, n, e, _, h1, h2, h3, h4, hv, rfl⟩⟩
 · exact absurd hx h
 · have ht := tell_whole (n := k) ⟨by omega, by omega⟩
   exact ⟨k, 0, ht, by rw [e, p2_zero, Rat.mul_one], tell_length ht⟩
 · have ht := tell_both (n := n) (e := e) ⟨by omega, by omega⟩ ⟨by omega, by omega⟩
   exact ⟨n, e, ht, hv, tell_length ht⟩
theorem TextR.same {x y : Nat} {l r : List UInt8} (hl : TextR x l) (hr : TextR y r) (hx : Fin64 x) : l = r ↔ (Fin64 y ∧ fval x = fval y) := by
 constructor
 · rintro rfl
   obtain ⟨n, e, ht, hv, _⟩ := hl.tell hx
   by_cases hy : Fin64 y
   · obtain ⟨n', e', ht', hv', _⟩ := hr.tell hy
     rw [ht] at ht'
     simp at ht'
     obtain ⟨rfl, rfl⟩ := ht'
     exact ⟨hy, by rw [hv, hv']⟩
   · exfalso
     rcases hr with ⟨_, rfl⟩ | ⟨h, _⟩
     · rw [show rdTell [] = none by decide] at ht; cases ht
     · exact hy h
 · rintro ⟨hy, he⟩
   rcases hr with ⟨h, _⟩ | ⟨_, ⟨k, e, h1, h2, rfl⟩ | ⟨hn, n, e, ho, h1, h2, h3, h4, hv, rfl⟩⟩
   · exact absurd hy h
   · exact hl.whole hx (by rw [he, e]) h1 h2
   · exact hl.odd hx ho (by rw [he, hv]) (by rw [he]; exact hn)
end
end Go.Proofs.YtgoadpnoagaflaaDoor
