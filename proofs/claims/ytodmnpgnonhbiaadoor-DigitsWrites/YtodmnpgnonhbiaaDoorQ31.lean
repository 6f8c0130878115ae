/- Own texts, put together: Jf Jg Jh Ji Ia Ib. -/
import Derived.Test.YtodmnpgnonhbiaaDoorQ27
import Derived.Test.YtodmnpgnonhbiaaDoorQ30
import Derived.RegionTactic
import Derived.Laws.IdiomStrings
namespace Go.Proofs.YtodmnpgnonhbiaaDoor
/- Package digits: Float (a text is cut at its b), Text. -/
section
open Go.RowKit Go.Shelf Go.Lib
set_option maxHeartbeats 1000000 in
theorem indexByte_any (s : ByteArray) (c : Int) (w : World) :
   Calls Tryd.prog 66 #[.string s, .int .u8 c] w fun e w' => e = .returned (.int .i64 (indexByte s.data.toList c.toNat.toUInt8)) ∧ w' = w := by
 go_enter Tryd.func66, Tryd.ntmps66
 go_wp2
 rw [run_callFunc_extern Tryd.func74 (by kernel_rfl) (by kernel_rfl) (by kernel_rfl) (e := Extern.BytealgIndexByte.indexByte) (by kernel_rfl), Lib.run_indexByteString]
 simp only [Result.andThen]
 rw [Oper.upon_value]
 go_wp2
 go_ret
 exact ⟨rfl, rfl⟩
set_option maxHeartbeats 1000000 in
theorem index_any (s : ByteArray) (w : World) :
   Calls Tryd.prog 60 #[.string s, .string ⟨#[98]⟩] w fun e w' => e = .returned (.int .i64 (indexByte s.data.toList 98)) ∧ w' = w := by
 have HI : Hid (∀ w, Calls Tryd.prog 66 #[.string s, .int .u8 98] w fun e w' => e = .returned (.int .i64 (indexByte s.data.toList 98)) ∧ w' = w) := fun w => indexByte_any s 98 w
 have HS : Hid (s.toList = s.data.toList) := Lib.toList_data s
 by_cases h : s.data.toList = [98]
 · have h1 : ([98] == s.toList) = true := by rw [HS.out, h]; rfl
   have h2 : indexByte s.data.toList 98 = 0 := by rw [h]; rfl
   rw [h2]
   clear h2 h
   go_enter Tryd.func60, Tryd.ntmps60
   go_wp2_with (first | (go_at_call 66; refine (HI.out _).mono ?_; rintro e w' ⟨rfl, rfl⟩))
   go_ret
   exact ⟨rfl, rfl⟩
 · have h1 : ([98] == s.toList) = false := by rw [HS.out, beq_eq_false_iff_ne]; exact fun e => h e.symm
   clear h
   go_enter Tryd.func60, Tryd.ntmps60
   go_wp2_with (first | (go_at_call 66; refine (HI.out _).mono ?_; rintro e w' ⟨rfl, rfl⟩))
   go_ret
   exact ⟨rfl, rfl⟩
def cutV (s : ByteArray) : Value := match cutb s.data.toList with
 | none => .tuple #[.string s, .string ⟨#[]⟩, .bool false]
 | some (h, t) => .tuple #[sv h, sv t, .bool true]
set_option maxHeartbeats 1000000 in
theorem cutlite_any (s : ByteArray) (w : World) (hs : s.size ≤ 1000000) :
   Calls Tryd.prog 45 #[.string s, .string ⟨#[98]⟩] w fun e w' => e = .returned (cutV s) ∧ Below w.heap.size w w' := by
 have HI : Hid (∀ w, Calls Tryd.prog 60 #[.string s, .string ⟨#[98]⟩] w fun e w' => e = .returned (.int .i64 (indexByte s.data.toList 98)) ∧ w' = w) := fun w => index_any s w
 have hsz := Lib.size_eq s
 rcases cutb_index s.data.toList with ⟨e1, e2⟩ | ⟨i, e2, hi, e1⟩
 · rw [e2] at HI
   have hv : cutV s = .tuple #[.string s, .string ⟨#[]⟩, .bool false] := by unfold cutV; rw [e1]
   rw [hv]
   clear e1 e2 hv
   go_enter Tryd.func45, Tryd.ntmps45
   go_wp2_with (first
     | (go_at_call 60; refine (HI.out _).mono ?_; rintro e w' ⟨rfl, rfl⟩))
   go_ret3
   exact ⟨rfl, Below.refl _ _⟩
 · rw [e2] at HI
   have hv : cutV s = .tuple #[.string (s.extract 0 i), .string (s.extract (i + 1) s.size), .bool true] := by
     unfold cutV
     rw [e1, Lib.extract_eq, Lib.extract_eq]
     show Value.tuple #[sv _, sv _, _] = _
     rw [List.drop_zero, Nat.sub_zero, List.take_of_length_le (l := s.data.toList.drop (i + 1)) (by rw [List.length_drop]; omega)]
   rw [hv]
   rw [← hsz] at hi
   have c1 : (0 : Int) ≤ (i : Int) := by omega
   have c2 : (i : Int) ≤ (s.size : Int) := by omega
   have c3 : (0 : Int) ≤ (i : Int) + 1 := by omega
   have c4 : (i : Int) + 1 ≤ (s.size : Int) := by omega
   clear e1 e2 hv hsz
   go_enter Tryd.func45, Tryd.ntmps45
   go_wp2_with (first
     | (go_at_call 60; refine (HI.out _).mono ?_; rintro e w' ⟨rfl, rfl⟩))
   go_region
   go_wp2
   go_ret3
   exact ⟨rfl, rfl, rfl, rfl, Nat.le_refl _, fun _ _ => rfl⟩
set_option maxHeartbeats 1000000 in
theorem cut_any (s : ByteArray) (w : World) (hs : s.size ≤ 1000000) :
   Calls Tryd.prog 22 #[.string s, .string ⟨#[98]⟩] w fun e w' => e = .returned (cutV s) ∧ Below w.heap.size w w' := by
 obtain ⟨a, b, c, hv⟩ : ∃ a b c, cutV s = .tuple #[a, b, c] := by
   unfold cutV
   split
   · exact ⟨_, _, _, rfl⟩
   · exact ⟨_, _, _, rfl⟩
 have HI : Hid (∀ w, Calls Tryd.prog 45 #[.string s, .string ⟨#[98]⟩] w fun e w' => e = .returned (.tuple #[a, b, c]) ∧ Below w.heap.size w w') := fun w => by
   have := cutlite_any s w hs
   rwa [hv] at this
 rw [hv]
 clear hv
 go_enter Tryd.func22, Tryd.ntmps22
 go_wp2_with (first
   | (go_at_call 45; refine (HI.out _).mono ?_; rintro e w' ⟨rfl, hb⟩))
 go_ret3
 exact ⟨rfl, hb⟩
def FloatR (l : List UInt8) (x : Nat) (er : Int) : Prop :=
 (rdTell l = none ∧ x = 0 ∧ er = 4) ∨ ∃ n e ok, rdTell l = some (n, e) ∧ TimesR n e x ok ∧ er = if ok then 0 else 10
theorem rd_zero : rdInt [48] = some 0 := by decide
def hd8 (l : List UInt8) : List UInt8 := match cutb l with | none => l | some p => p.1
def tl8 (l : List UInt8) : List UInt8 := match cutb l with | none => [48] | some p => p.2
theorem tell8 (l : List UInt8) : rdTell l = (rdInt (hd8 l)).bind fun n => (rdInt (tl8 l)).map fun e => (n, e) := by
 unfold rdTell hd8 tl8
 cases cutb l with
 | none =>
   simp only []
   rw [rd_zero]
   cases rdInt l <;> rfl
 | some p => rfl
set_option maxHeartbeats 2000000 in
theorem float_core (s : ByteArray) (hs : ¬ 400 < s.size) (f : Bool) (vh vt tt : ByteArray) (n1 e1 n2 e2 : Int) (x : Nat) (ok : Bool) (w : World) (hT : Tab w)
   (hC : ∀ w, Calls Tryd.prog 22 #[.string s, .string ⟨#[98]⟩] w fun e w' => e = .returned (.tuple #[.string vh, .string vt, .bool f]) ∧ Below w.heap.size w w')
   (htt : tt = if f then vt else ⟨#[48]⟩)
   (h1 : ∀ w, Calls Tryd.prog 12 #[.string vh] w fun e w' => e = .returned (.tuple #[.int .i64 n1, .int .i64 e1]) ∧ w' = w)
   (h2 : ∀ w, Calls Tryd.prog 12 #[.string tt] w fun e w' => e = .returned (.tuple #[.int .i64 n2, .int .i64 e2]) ∧ w' = w)
   (he1 : e1 = 0 ∨ e1 = 4) (he2 : e2 = 0 ∨ e2 = 4)
   (h3 : e1 = 0 ∧ e2 = 0 → ∀ w, Tab w → Calls Tryd.prog 23 #[.int .i64 n1, .int .i64 n2] w fun r w' => r = .returned (.tuple #[.float .f64 x, .bool ok]) ∧ w' = w) (hx : ok = false → x = 0) :
   Calls Tryd.prog 10 #[.string s] w fun r w' => r = .returned (.tuple #[.float .f64 (if e1 = 0 ∧ e2 = 0 then x else 0), .int .i64 (if e1 = 0 ∧ e2 = 0 then (if ok then 0 else 10) else 4)]) ∧ Below w.heap.size w w' := by
 have HT : Hid (Tab w) := hT
 have HC : Hid (∀ w, Calls Tryd.prog 22 #[.string s, .string ⟨#[98]⟩] w fun e w' => e = .returned (.tuple #[.string vh, .string vt, .bool f]) ∧ Below w.heap.size w w') := hC
 have H1 : Hid (∀ w, Calls Tryd.prog 12 #[.string vh] w fun e w' => e = .returned (.tuple #[.int .i64 n1, .int .i64 e1]) ∧ w' = w) := h1
 have H2 : Hid (∀ w, Calls Tryd.prog 12 #[.string tt] w fun e w' => e = .returned (.tuple #[.int .i64 n2, .int .i64 e2]) ∧ w' = w) := h2
 clear hC h1 h2 hT
 by_cases hb : e1 = 0 ∧ e2 = 0
 · have H3 : Hid (∀ w, Tab w → Calls Tryd.prog 23 #[.int .i64 n1, .int .i64 n2] w fun r w' => r = .returned (.tuple #[.float .f64 x, .bool ok]) ∧ w' = w) := h3 hb
   obtain ⟨rfl, rfl⟩ := hb
   rw [if_pos ⟨rfl, rfl⟩, if_pos ⟨rfl, rfl⟩]
   clear h3 he1 he2
   cases ok
   · obtain rfl := hx rfl
     rw [if_neg (by decide)]
     cases f
     · obtain rfl : tt = ⟨#[48]⟩ := htt
       go_enter Tryd.func10, Tryd.ntmps10
       go_wp2_with (first | (go_at_call 22; refine (HC.out _).mono ?_; rintro e wc ⟨rfl, hb⟩; have HB := Lib.hid hb; clear hb; refine Hid.out ?_))
       refine Lib.hid ?_
       go_wp2_with fail
       refine (H1.out _).mono ?_
       rintro e w' ⟨rfl, rfl⟩
       go_wp2_with fail
       refine (H2.out _).mono ?_
       rintro e w' ⟨rfl, rfl⟩
       go_wp2_with (first | (go_at_call 23; refine (H3.out _ (HT.out.later HB.out)).mono ?_; rintro e w' ⟨rfl, rfl⟩))
       go_ret2
       exact ⟨rfl, HB.out⟩
     · obtain rfl : tt = vt := htt
       go_enter Tryd.func10, Tryd.ntmps10
       go_wp2_with (first | (go_at_call 22; refine (HC.out _).mono ?_; rintro e wc ⟨rfl, hb⟩; have HB := Lib.hid hb; clear hb; refine Hid.out ?_))
       refine Lib.hid ?_
       go_wp2_with fail
       refine (H1.out _).mono ?_
       rintro e w' ⟨rfl, rfl⟩
       go_wp2_with fail
       refine (H2.out _).mono ?_
       rintro e w' ⟨rfl, rfl⟩
       go_wp2_with (first | (go_at_call 23; refine (H3.out _ (HT.out.later HB.out)).mono ?_; rintro e w' ⟨rfl, rfl⟩))
       go_ret2
       exact ⟨rfl, HB.out⟩
   · rw [if_pos rfl]
     clear hx
     cases f
     · obtain rfl : tt = ⟨#[48]⟩ := htt
       go_enter Tryd.func10, Tryd.ntmps10
       go_wp2_with (first | (go_at_call 22; refine (HC.out _).mono ?_; rintro e wc ⟨rfl, hb⟩; have HB := Lib.hid hb; clear hb; refine Hid.out ?_))
       refine Lib.hid ?_
       go_wp2_with fail
       refine (H1.out _).mono ?_
       rintro e w' ⟨rfl, rfl⟩
       go_wp2_with fail
       refine (H2.out _).mono ?_
       rintro e w' ⟨rfl, rfl⟩
       go_wp2_with (first | (go_at_call 23; refine (H3.out _ (HT.out.later HB.out)).mono ?_; rintro e w' ⟨rfl, rfl⟩))
       go_ret2
       exact ⟨rfl, HB.out⟩
     · obtain rfl : tt = vt := htt
       go_enter Tryd.func10, Tryd.ntmps10
       go_wp2_with (first | (go_at_call 22; refine (HC.out _).mono ?_; rintro e wc ⟨rfl, hb⟩; have HB := Lib.hid hb; clear hb; refine Hid.out ?_))
       refine Lib.hid ?_
       go_wp2_with fail
       refine (H1.out _).mono ?_
       rintro e w' ⟨rfl, rfl⟩
       go_wp2_with fail
       refine (H2.out _).mono ?_
       rintro e w' ⟨rfl, rfl⟩
       go_wp2_with (first | (go_at_call 23; refine (H3.out _ (HT.out.later HB.out)).mono ?_; rintro e w' ⟨rfl, rfl⟩))
       go_ret2
       exact ⟨rfl, HB.out⟩
 · rw [if_neg hb, if_neg hb]
   clear h3 hx
   cases f
   · obtain rfl : tt = ⟨#[48]⟩ := htt
     rcases he1 with rfl | rfl <;> rcases he2 with rfl | rfl
     · exact absurd ⟨rfl, rfl⟩ hb
     all_goals
       clear hb
       go_enter Tryd.func10, Tryd.ntmps10
       go_wp2_with (first | (go_at_call 22; refine (HC.out _).mono ?_; rintro e wc ⟨rfl, hb⟩; have HB := Lib.hid hb; clear hb; refine Hid.out ?_))
       refine Lib.hid ?_
       go_wp2_with fail
       refine (H1.out _).mono ?_
       rintro e w' ⟨rfl, rfl⟩
       go_wp2_with fail
       refine (H2.out _).mono ?_
       rintro e w' ⟨rfl, rfl⟩
       go_wp2_with fail
       go_ret2
       exact ⟨rfl, HB.out⟩
   · obtain rfl : tt = vt := htt
     rcases he1 with rfl | rfl <;> rcases he2 with rfl | rfl
     · exact absurd ⟨rfl, rfl⟩ hb
     all_goals
       clear hb
       go_enter Tryd.func10, Tryd.ntmps10
       go_wp2_with (first | (go_at_call 22; refine (HC.out _).mono ?_; rintro e wc ⟨rfl, hb⟩; have HB := Lib.hid hb; clear hb; refine Hid.out ?_))
       refine Lib.hid ?_
       go_wp2_with fail
       refine (H1.out _).mono ?_
       rintro e w' ⟨rfl, rfl⟩
       go_wp2_with fail
       refine (H2.out _).mono ?_
       rintro e w' ⟨rfl, rfl⟩
       go_wp2_with fail
       go_ret2
       exact ⟨rfl, HB.out⟩
theorem int_parts (o : Option Int) : ∃ n e, intR o = .tuple #[.int .i64 n, .int .i64 e] ∧ ((e = 0 ∧ o = some n) ∨ (e = 4 ∧ n = 0 ∧ o = none)) := by
 cases o with
 | none => exact ⟨0, 4, rfl, Or.inr ⟨rfl, rfl, rfl⟩⟩
 | some n => exact ⟨n, 0, rfl, Or.inl ⟨rfl, rfl⟩⟩
theorem cutV_parts (s : ByteArray) : ∃ vh vt f, cutV s = .tuple #[.string vh, .string vt, .bool f] ∧ vh.data.toList = hd8 s.data.toList ∧ (if f then vt else ⟨#[48]⟩ : ByteArray).data.toList = tl8 s.data.toList ∧ vh.size ≤ s.size + 1 ∧ (if f then vt else ⟨#[48]⟩ : ByteArray).size ≤ s.size + 1 := by
 unfold cutV hd8 tl8
 cases h : cutb s.data.toList with
 | none => exact ⟨s, ⟨#[]⟩, false, rfl, rfl, rfl, by omega, by show 1 ≤ _; omega⟩
 | some p =>
   obtain ⟨a, b⟩ := p
   have e := congrArg List.length (cutb_some h)
   rw [← Lib.size_eq, List.length_append, List.length_cons] at e
   exact ⟨⟨a.toArray⟩, ⟨b.toArray⟩, true, rfl, rfl, rfl, by rw [Lib.size_eq]; show a.length ≤ _; omega, by rw [Lib.size_eq]; show b.length ≤ _; omega⟩
set_option maxHeartbeats 2000000 in
theorem float_any (s : ByteArray) (hs : s.size ≤ 900000) :
   ∃ x er, FloatR s.data.toList x er ∧ ∀ w, Tab w → Calls Tryd.prog 10 #[.string s] w fun r w' => r = .returned (.tuple #[.float .f64 x, .int .i64 er]) ∧ Below w.heap.size w w' := by
 by_cases h4 : 400 < s.size
 · refine ⟨0, 4, Or.inl ⟨?_, rfl, rfl⟩, fun w hT => ?_⟩
   · cases h : rdTell s.data.toList with
     | none => rfl
     | some p => have := tell_length h; rw [← Lib.size_eq] at this; omega
   · clear hT
     go_enter Tryd.func10, Tryd.ntmps10
     go_wp2
     go_ret2
     exact ⟨rfl, Below.refl _ _⟩
 · obtain ⟨vh, vt, f, hv, hh, ht, hl1, hl2⟩ := cutV_parts s
   obtain ⟨n1, e1, q1, p1⟩ := int_parts (rdInt (hd8 s.data.toList))
   obtain ⟨n2, e2, q2, p2'⟩ := int_parts (rdInt (tl8 s.data.toList))
   have hc : ∀ w, Calls Tryd.prog 22 #[.string s, .string ⟨#[98]⟩] w fun e w' => e = .returned (.tuple #[.string vh, .string vt, .bool f]) ∧ Below w.heap.size w w' := fun w => by
     have := cut_any s w (by omega)
     rwa [hv] at this
   have h1 : ∀ w, Calls Tryd.prog 12 #[.string vh] w fun e w' => e = .returned (.tuple #[.int .i64 n1, .int .i64 e1]) ∧ w' = w := fun w => by
     have := int_any vh w (by omega)
     rwa [hh, q1] at this
   have h2 : ∀ w, Calls Tryd.prog 12 #[.string (if f then vt else ⟨#[48]⟩)] w fun e w' => e = .returned (.tuple #[.int .i64 n2, .int .i64 e2]) ∧ w' = w := fun w => by
     have := int_any (if f then vt else ⟨#[48]⟩) w (by omega)
     rwa [ht, q2] at this
   have he1 : e1 = 0 ∨ e1 = 4 := by rcases p1 with ⟨h, _⟩ | ⟨h, _⟩ <;> simp [h]
   have he2 : e2 = 0 ∨ e2 = 4 := by rcases p2' with ⟨h, _⟩ | ⟨h, _⟩ <;> simp [h]
   have htell := tell8 s.data.toList
   by_cases hb : e1 = 0 ∧ e2 = 0
   · have o1 : rdInt (hd8 s.data.toList) = some n1 := by
       rcases p1 with ⟨_, h⟩ | ⟨h, _, _⟩
       · exact h
       · omega
     have o2 : rdInt (tl8 s.data.toList) = some n2 := by
       rcases p2' with ⟨_, h⟩ | ⟨h, _, _⟩
       · exact h
       · omega
     obtain ⟨x, ok, hx, hcl⟩ := times_any n1 n2 (itoa_rd o1).1 (itoa_rd o2).1
     refine ⟨x, if ok then 0 else 10, Or.inr ⟨n1, n2, ok, by rw [htell, o1, o2]; rfl, hx, rfl⟩, fun w hT => ?_⟩
     have := float_core s h4 f vh vt _ n1 e1 n2 e2 x ok w hT hc rfl h1 h2 he1 he2 (fun _ => hcl) (fun h => by
       rcases hx with ⟨h', _⟩ | ⟨_, h', _⟩
       · rw [h] at h'; cases h'
       · exact h')
     rw [if_pos hb, if_pos hb] at this
     exact this
   · refine ⟨0, 4, Or.inl ⟨?_, rfl, rfl⟩, fun w hT => ?_⟩
     · rw [htell]
       rcases p1 with ⟨a1, a2⟩ | ⟨a1, _, a2⟩
       · rcases p2' with ⟨b1, b2⟩ | ⟨b1, _, b2⟩
         · exact absurd ⟨a1, b1⟩ hb
         · rw [a2, b2]; rfl
       · rw [a2]; rfl
     · have := float_core s h4 f vh vt _ n1 e1 n2 e2 0 false w hT hc rfl h1 h2 he1 he2 (fun h => absurd h hb) (fun _ => rfl)
       rw [if_neg hb, if_neg hb] at this
       exact this
end

/- Package digits: Text. -/
section
open Go.RowKit Go.Shelf Go.Lib
def TextR (x : Nat) (l : List UInt8) : Prop :=
 (¬ Fin64 x ∧ l = []) ∨ (Fin64 x ∧ ((∃ k : Int, fval x = (k : Rat) ∧ -9007199254740992 < k ∧ k < 9007199254740992 ∧ l = itoa k) ∨
   ((¬ ∃ k : Int, fval x = (k : Rat) ∧ -9007199254740992 < k ∧ k < 9007199254740992) ∧ ∃ n e : Int, n % 2 = 1 ∧ -9007199254740992 < n ∧ n < 9007199254740992 ∧ -3000 ≤ e ∧ e ≤ 3000 ∧ fval x = (n : Rat) * p2 e ∧ l = itoa n ++ 98 :: itoa e)))
theorem cat_b (a b : List UInt8) : (⟨a.toArray⟩ : ByteArray) ++ ⟨#[98]⟩ ++ ⟨b.toArray⟩ = ⟨(a ++ 98 :: b).toArray⟩ := by
 apply ByteArray.ext
 simp [ByteArray.data_append]
theorem ret_s {a b : ByteArray} (h : a = b) : Ending.returned (.string a) = .returned (.string b) := by rw [h]
theorem p53_val : fval 4845873199050653696 = 9007199254740992 := by
 rw [(fval_pos_lt (r := 4845873199050653696) (by omega)).1, show fmag 4845873199050653696 = 4503599627370496 by decide, show fpl 4845873199050653696 = 1 by decide, p2_one]
 have : ((4503599627370496 : Nat) : Rat) = 4503599627370496 := rfl
 rw [this]; grind
theorem lt53 {x : Nat} (hx : Fin64 x) : (FloatKind.f64.format.order (x % 9223372036854775808) 4845873199050653696 == some .lt) = decide (fval (frung x) < 9007199254740992) := by
 show (Ieee.double.order (frung x) 4845873199050653696 == some .lt) = _
 have hf : Fin64 (frung x) := by unfold Fin64 frung at *; omega
 rw [order_fin hf (by unfold Fin64 frung; decide), p53_val]
 by_cases h : fval (frung x) < 9007199254740992
 · rw [if_pos h, decide_eq_true h]; rfl
 · rw [if_neg h, decide_eq_false h]; split <;> rfl
theorem whole_iff {x : Nat} (hx : Fin64 x) (lx : x < 18446744073709551616) : (∃ k : Int, fval x = (k : Rat) ∧ -9007199254740992 < k ∧ k < 9007199254740992) ↔ (M 1 (fval x) ∧ fval (frung x) < 9007199254740992) := by
 have hn := fval_nonneg (r := frung x) hx
 have c1 : ((9007199254740992 : Int) : Rat) = 9007199254740992 := rfl
 have c2 : ((-9007199254740992 : Int) : Rat) = -9007199254740992 := rfl
 rw [M_one]
 constructor
 · rintro ⟨k, e, h1, h2⟩
   have g1 : ((-9007199254740992 : Int) : Rat) < (k : Rat) := Rat.intCast_lt_intCast.2 h1
   have g2 : (k : Rat) < ((9007199254740992 : Int) : Rat) := Rat.intCast_lt_intCast.2 h2
   refine ⟨⟨k, e⟩, ?_⟩
   rcases fval_sgn hx lx with ⟨_, v⟩ | ⟨_, v⟩ <;> grind
 · rintro ⟨⟨k, e⟩, h⟩
   refine ⟨k, e, ?_, ?_⟩
   · apply Rat.intCast_lt_intCast.1
     rw [c2]
     rcases fval_sgn hx lx with ⟨_, v⟩ | ⟨_, v⟩ <;> grind
   · apply Rat.intCast_lt_intCast.1
     rw [c1]
     rcases fval_sgn hx lx with ⟨_, v⟩ | ⟨_, v⟩ <;> grind
theorem eqT {x : Nat} (hx : Fin64 x) (lx : x < 18446744073709551616) : (FloatKind.f64.format.order (trw x) x == some .eq) = decide (fval (trw x) = fval x) := by
 show (Ieee.double.order (trw x) x == some .eq) = _
 rw [order_fin (trw_full hx lx).1 hx]
 by_cases h : fval (trw x) = fval x
 · rw [decide_eq_true h, h, if_neg Rat.lt_irrefl, if_pos rfl]; rfl
 · rw [decide_eq_false h, if_neg h]; split <;> rfl
theorem conv_run {z : Nat} {k : Int} (hz : Fin64 z) (h : fval z = (k : Rat)) (h1 : -9223372036854775808 ≤ k) (h2 : k ≤ 9223372036854775807) : ∀ w, (convert 23 3 (.float .f64 z)).run Tryd.prog w = .ok (.int .i64 k) w := fun w => run_convert_float_int w _ _ _ _ _ _ (by rw [Tryd.underlying23]; rfl) Tryd.underlying3 (conv_int hz h h1 h2)
set_option maxHeartbeats 2000000 in
set_option maxRecDepth 100000 in
theorem text_any (x : Nat) (lx : x < 18446744073709551616) : ∃ l, TextR x l ∧ ∀ w, T8 w → Calls Tryd.prog 15 #[.float .f64 x] w fun r w' => r = .returned (sv l) ∧ Below w.heap.size w w' := by
 have HN : Hid (∀ w, Calls Tryd.prog 36 #[.float .f64 x] w fun e w' => e = .returned (.bool (isnan x)) ∧ w' = w) := fun w => isNaN_any x w
 have HI : Hid (∀ w, Calls Tryd.prog 37 #[.float .f64 x, .int .i64 0] w fun e w' => e = .returned (.bool (isinf x)) ∧ w' = w) := fun w => isInf0_any x w lx
 by_cases hx : Fin64 x
 · obtain ⟨f1, f2⟩ := flagsS hx
   rw [f1] at HI
   rw [f2] at HN
   have HTr : Hid (∀ w, Calls Tryd.prog 38 #[.float .f64 x] w fun e w' => e = .returned (.float .f64 (trw x)) ∧ w' = w) := fun w => trunc_any x w hx
   have HA : Hid (∀ w, Calls Tryd.prog 39 #[.float .f64 x] w fun e w' => e = .returned (.float .f64 (x % 9223372036854775808)) ∧ w' = w) := fun w => abs_any x w lx
   have q1 := eqT hx lx
   have q2 := lt53 hx
   obtain ⟨_, _, ht⟩ := trw_full hx lx
   have hw := whole_iff hx lx
   obtain ⟨t, hte⟩ : ∃ t, trw x = t := ⟨_, rfl⟩
   obtain ⟨a, hae⟩ : ∃ a, x % 9223372036854775808 = a := ⟨_, rfl⟩
   by_cases h : ∃ k : Int, fval x = (k : Rat) ∧ -9007199254740992 < k ∧ k < 9007199254740992
   · have h' := hw.1 h
     obtain ⟨k, e, h1, h2⟩ := h
     refine ⟨itoa k, Or.inr ⟨hx, Or.inl ⟨k, e, h1, h2, rfl⟩⟩, fun w hT => ?_⟩
     rw [decide_eq_true (ht.2 h'.1), hte] at q1
     rw [decide_eq_true h'.2, hae] at q2
     rw [hte] at HTr
     rw [hae] at HA
     have hcv := conv_run hx e (by omega) (by omega)
     have HS : Hid (∀ w, T8 w → Calls Tryd.prog 17 #[.int .i64 k] w fun e w' => e = .returned (sv (itoa k)) ∧ Below w.heap.size w w') := fun w hT => show_any k ⟨by omega, by omega⟩ w hT
     have HT : Hid (T8 w) := hT
     clear hT h' e h1 h2 ht hw hte hae f1 f2 hx lx
     go_enter Tryd.func15, Tryd.ntmps15
     go_wp2_with (first
       | (go_at_call 36; refine (HN.out _).mono ?_; rintro e w' ⟨rfl, rfl⟩)
       | (go_at_call 37; refine (HI.out _).mono ?_; rintro e w' ⟨rfl, rfl⟩)
       | (go_at_call 38; refine (HTr.out _).mono ?_; rintro e w' ⟨rfl, rfl⟩)
       | (go_at_call 39; refine (HA.out _).mono ?_; rintro e w' ⟨rfl, rfl⟩)
       | (go_at_call 17; refine (HS.out _ HT.out).mono ?_; rintro e w' ⟨rfl, hb⟩))
     go_ret
     exact ⟨rfl, hb⟩
   · have hx0 : fval x ≠ 0 := fun e => h ⟨0, by rw [e]; rfl, by omega, by omega⟩
     obtain ⟨f, ex, m, ff, lf, vf, hm, vx, hex1, hex2, hF⟩ := frexp_val x hx lx hx0
     obtain ⟨fm, lm, vm⟩ := fwJ_val (n := m) (by omega) (by omega)
     have hm0 : m ≠ 0 := by omega
     obtain ⟨n, k, ho, hO⟩ := odd_any m (ex - 53) hm0 ⟨by omega, by omega⟩ (by omega) (by omega)
     have hk := ho.2.2
     have hnb : -9007199254740992 < n ∧ n < 9007199254740992 := by
       have e1 := congrArg Int.natAbs ho.1
       rw [Int.natAbs_mul, Int.natAbs_natCast] at e1
       have e2 : n.natAbs * 1 ≤ n.natAbs * 2 ^ k := Nat.mul_le_mul_left _ (Nat.two_pow_pos k)
       omega
     obtain ⟨z, hz⟩ : ∃ z, fwJ m = z := ⟨_, rfl⟩
     rw [hz] at fm lm vm
     obtain ⟨ek, hek⟩ : ∃ ek : Int, ex - 53 + (k : Nat) = ek := ⟨_, rfl⟩
     rw [hek] at hO
     refine ⟨itoa n ++ 98 :: itoa ek, Or.inr ⟨hx, Or.inr ⟨h, n, ek, ho.2.1, hnb.1, hnb.2, by omega, by omega, ?_, rfl⟩⟩, fun w hT => ?_⟩
     · rw [vx, odd_val ho, hek]
     have HF : Hid (∀ w, Calls Tryd.prog 40 #[.float .f64 x] w fun e w' => e = .returned (.tuple #[.float .f64 f, .int .i64 ex]) ∧ w' = w) := hF
     have hz0 : fval z ≠ 0 := by
       rw [vm]
       exact fun e => hm0 (Rat.intCast_inj.1 (e.trans rfl))
     have HL : Hid (∀ w, Calls Tryd.prog 42 #[.float .f64 f, .int .i64 53] w fun e w' => e = .returned (.float .f64 z) ∧ w' = w) := fun w => Ldexp_val f z 53 w ff lf fm lm (by rw [vm, vf, Rat.mul_assoc, ← p2_add, show (-53 + 53 : Int) = 0 from rfl, p2_zero, Rat.mul_one]) hz0 (by omega) (by omega)
     have hcv := conv_run fm vm (by omega) (by omega)
     have HO : Hid (∀ w, Tab w → Calls Tryd.prog 41 #[.int .i64 m, .int .i64 (ex - 53)] w fun r w' => r = .returned (.tuple #[.int .i64 n, .int .i64 ek]) ∧ w' = w) := hO
     have HS1 : Hid (∀ w, T8 w → Calls Tryd.prog 17 #[.int .i64 n] w fun e w' => e = .returned (sv (itoa n)) ∧ Below w.heap.size w w') := fun w hT => show_any n ⟨by omega, by omega⟩ w hT
     have HS2 : Hid (∀ w, T8 w → Calls Tryd.prog 17 #[.int .i64 ek] w fun e w' => e = .returned (sv (itoa ek)) ∧ Below w.heap.size w w') := fun w hT => show_any ek ⟨by omega, by omega⟩ w hT
     have HT : Hid (T8 w) := hT
     rw [hte] at q1 HTr
     rw [hae] at q2 HA
     have hnw := fun hc => h (hw.2 hc)
     have hln : (itoa n).length ≤ 21 := itoa_length_le n (by omega) (by omega)
     have hle : (itoa ek).length ≤ 21 := itoa_length_le ek (by omega) (by omega)
     by_cases hM : M 1 (fval x)
     · rw [hte] at ht
       rw [decide_eq_true (ht.2 hM)] at q1
       rw [decide_eq_false (fun hc => hnw ⟨hM, hc⟩)] at q2
       clear hM hnw hT hO hF hz0 ho hz hek hnb hm0 fm lm vm ff lf vf hm vx hx0 h ht hw hte hae f1 f2 hx lx
       go_enter Tryd.func15, Tryd.ntmps15
       go_wp2_with (first
         | (go_at_call 36; refine (HN.out _).mono ?_; rintro e w' ⟨rfl, rfl⟩)
         | (go_at_call 37; refine (HI.out _).mono ?_; rintro e w' ⟨rfl, rfl⟩)
         | (go_at_call 38; refine (HTr.out _).mono ?_; rintro e w' ⟨rfl, rfl⟩)
         | (go_at_call 39; refine (HA.out _).mono ?_; rintro e w' ⟨rfl, rfl⟩)
         | (go_at_call 40; refine (HF.out _).mono ?_; rintro e w' ⟨rfl, rfl⟩)
         | (go_at_call 42; refine (HL.out _).mono ?_; rintro e w' ⟨rfl, rfl⟩)
         | (go_at_call 41; refine (HO.out _ HT.out.1).mono ?_; rintro e w' ⟨rfl, rfl⟩; refine Hid.out ?_))
       refine Lib.hid ?_
       go_wp2_with fail
       refine (HS1.out _ HT.out).mono ?_
       rintro e w1 ⟨rfl, hb1⟩
       have HB1 := Lib.hid hb1
       clear hb1
       go_wp2_with fail
       refine (HS2.out _ (HT.out.later HB1.out)).mono ?_
       rintro e w2 ⟨rfl, hb2⟩
       have HB2 := Lib.hid hb2
       clear hb2
       go_wp2
       go_ret
       exact ⟨ret_s (cat_b _ _), HB1.out.trans (HB2.out.mono HB1.out.size)⟩
     · rw [hte] at ht
       rw [decide_eq_false (fun hc => hM (ht.1 hc))] at q1
       clear q2 hM hnw hT hO hF hz0 ho hz hek hnb hm0 fm lm vm ff lf vf hm vx hx0 h ht hw hte hae f1 f2 hx lx
       go_enter Tryd.func15, Tryd.ntmps15
       go_wp2_with (first
         | (go_at_call 36; refine (HN.out _).mono ?_; rintro e w' ⟨rfl, rfl⟩)
         | (go_at_call 37; refine (HI.out _).mono ?_; rintro e w' ⟨rfl, rfl⟩)
         | (go_at_call 38; refine (HTr.out _).mono ?_; rintro e w' ⟨rfl, rfl⟩)
         | (go_at_call 39; refine (HA.out _).mono ?_; rintro e w' ⟨rfl, rfl⟩)
         | (go_at_call 40; refine (HF.out _).mono ?_; rintro e w' ⟨rfl, rfl⟩)
         | (go_at_call 42; refine (HL.out _).mono ?_; rintro e w' ⟨rfl, rfl⟩)
         | (go_at_call 41; refine (HO.out _ HT.out.1).mono ?_; rintro e w' ⟨rfl, rfl⟩; refine Hid.out ?_))
       refine Lib.hid ?_
       go_wp2_with fail
       refine (HS1.out _ HT.out).mono ?_
       rintro e w1 ⟨rfl, hb1⟩
       have HB1 := Lib.hid hb1
       clear hb1
       go_wp2_with fail
       refine (HS2.out _ (HT.out.later HB1.out)).mono ?_
       rintro e w2 ⟨rfl, hb2⟩
       have HB2 := Lib.hid hb2
       clear hb2
       go_wp2
       go_ret
       exact ⟨ret_s (cat_b _ _), HB1.out.trans (HB2.out.mono HB1.out.size)⟩
 · refine ⟨[], Or.inl ⟨hx, rfl⟩, fun w _ => ?_⟩
   have hx' : ¬ frung x < 9218868437227405312 := hx
   by_cases hn : 9218868437227405312 < frung x
   · rw [show isnan x = true by unfold isnan; exact decide_eq_true hn] at HN
     clear hn hx' hx lx
     go_enter Tryd.func15, Tryd.ntmps15
     go_wp2_with (first
       | (go_at_call 36; refine (HN.out _).mono ?_; rintro e w' ⟨rfl, rfl⟩)
       | (go_at_call 37; refine (HI.out _).mono ?_; rintro e w' ⟨rfl, rfl⟩))
     go_ret
     exact ⟨rfl, Below.refl _ _⟩
   · rw [show isnan x = false by unfold isnan; exact decide_eq_false hn] at HN
     rw [show isinf x = true by unfold isinf; rw [beq_iff_eq]; omega] at HI
     clear hn hx' hx lx
     go_enter Tryd.func15, Tryd.ntmps15
     go_wp2_with (first
       | (go_at_call 36; refine (HN.out _).mono ?_; rintro e w' ⟨rfl, rfl⟩)
       | (go_at_call 37; refine (HI.out _).mono ?_; rintro e w' ⟨rfl, rfl⟩))
     go_ret
     exact ⟨rfl, Below.refl _ _⟩
end

/- Package digits: what follows of the contracts, and the statements' helper awake. -/
section
open Go.RowKit Go.Shelf Go.Lib
theorem FloatR.ok {l : List UInt8} {x v : Nat} {er n e : Int} (h : FloatR l x er) (ht : rdTell l = some (n, e)) (fv : Fin64 v) (lv : v < 18446744073709551616) (hv : fval v = (n : Rat) * p2 e) (h0 : n = 0 → v = 0) : x = v ∧ er = 0 := by
 rcases h with ⟨h1, _⟩ | ⟨n', e', ok, h1, h2, h3⟩
 · rw [h1] at ht; cases ht
 rw [h1] at ht
 simp at ht
 obtain ⟨rfl, rfl⟩ := ht
 rcases h2 with ⟨rfl, fx, lx, vx, z⟩ | ⟨rfl, _, hn⟩
 · refine ⟨?_, h3⟩
   by_cases hz : n' = 0
   · rw [z hz, h0 hz]
   · refine fval_inj fx fv lx lv (by rw [vx, hv]) ?_
     rw [vx]
     intro e0
     have hp := p2_pos e'
     have hn0 : (n' : Rat) = 0 := by
       rcases Rat.mul_eq_zero.1 e0 with h | h
       · exact h
       · rw [h] at hp; exact absurd hp Rat.lt_irrefl
     exact hz (Rat.intCast_inj.1 (hn0.trans rfl))
 · exact absurd hv (hn v fv lv)
theorem FloatR.no {l : List UInt8} {x : Nat} {er n e : Int} (h : FloatR l x er) (ht : rdTell l = some (n, e)) (hn : ∀ y, Fin64 y → y < 18446744073709551616 → fval y ≠ (n : Rat) * p2 e) : x = 0 ∧ er = 10 := by
 rcases h with ⟨h1, _⟩ | ⟨n', e', ok, h1, h2, h3⟩
 · rw [h1] at ht; cases ht
 rw [h1] at ht
 simp at ht
 obtain ⟨rfl, rfl⟩ := ht
 rcases h2 with ⟨rfl, fx, lx, vx, z⟩ | ⟨rfl, hx, _⟩
 · exact absurd vx (hn x fx lx)
 · exact ⟨hx, h3⟩
theorem FloatR.form {l : List UInt8} {x : Nat} {er : Int} (h : FloatR l x er) (ht : rdTell l = none) : x = 0 ∧ er = 4 := by
 rcases h with ⟨_, h⟩ | ⟨n', e', ok, h1, _⟩
 · exact h
 · rw [h1] at ht; cases ht
theorem odd_uniq {n n' e e' : Int} (h1 : n % 2 = 1) (h2 : n' % 2 = 1) (h : (n : Rat) * p2 e = (n' : Rat) * p2 e') : n = n' ∧ e = e' := by
 have key : ∀ {n n' e e' : Int}, n % 2 = 1 → n' % 2 = 1 → (n : Rat) * p2 e = (n' : Rat) * p2 e' → e ≤ e' → n = n' ∧ e = e' := by
   intro n n' e e' h1 h2 h hle
   obtain ⟨k, hk⟩ : ∃ k : Nat, e' = (k : Int) + e := ⟨(e' - e).toNat, by omega⟩
   rw [hk, p2_add, ← Rat.mul_assoc, p2_nat] at h
   have h' : (n : Rat) * p2 e = ((n' * ((2 ^ k : Nat) : Int) : Int) : Rat) * p2 e := by rw [h, Rat.intCast_mul]; rfl
   have := int_eq (p2_pos e) h'
   cases k with
   | zero => exact ⟨by rw [this, Nat.pow_zero]; omega, by omega⟩
   | succ k =>
     exfalso
     rw [Nat.pow_succ, Int.natCast_mul, ← Int.mul_assoc] at this
     omega
 rcases Int.le_total e e' with hl | hl
 · exact key h1 h2 h hl
 · have := key h2 h1 h.symm hl
   exact ⟨this.1.symm, this.2.symm⟩
theorem TextR.whole {x : Nat} {l : List UInt8} (h : TextR x l) (hx : Fin64 x) {k : Int} (hk : fval x = (k : Rat)) (h1 : -9007199254740992 < k) (h2 : k < 9007199254740992) : l = itoa k := by
 rcases h with ⟨h, _⟩ | ⟨_, ⟨k', e, _, _, hl⟩ | ⟨h, _⟩⟩
 · exact absurd hx h
 · rw [hl, Rat.intCast_inj.1 (e.symm.trans hk)]
 · exact absurd ⟨k, hk, h1, h2⟩ h
theorem TextR.odd {x : Nat} {l : List UInt8} (h : TextR x l) (hx : Fin64 x) {n e : Int} (ho : n % 2 = 1) (hv : fval x = (n : Rat) * p2 e) (hn : ¬ ∃ k : Int, fval x = (k : Rat) ∧ -9007199254740992 < k ∧ k < 9007199254740992) : l = itoa n ++ 98 :: itoa e := by
 rcases h with ⟨h, _⟩ | ⟨_, ⟨k', e', g1, g2, _⟩ | ⟨_, n', e', ho', _, _, _, _, hv', hl⟩⟩
 · exact absurd hx h
 · exact absurd ⟨k', e', g1, g2⟩ hn
 · obtain ⟨rfl, rfl⟩ := odd_uniq ho ho' (hv.symm.trans hv')
   exact hl
theorem TextR.tell {x : Nat} {l : List UInt8} (h : TextR x l) (hx : Fin64 x) : ∃ n e, rdTell l = some (n, e) ∧ fval x = (n : Rat) * p2 e ∧ l.length ≤ 43 := by
 rcases h with ⟨h, _⟩ | ⟨_, ⟨k, e, h1, h2, rfl⟩ | ⟨_, n, e, _, h1, h2, h3, h4, hv, rfl⟩⟩
 · exact absurd hx h
 · have ht := tell_whole (n := k) ⟨by omega, by omega⟩
   exact ⟨k, 0, ht, by rw [e, p2_zero, Rat.mul_one], tell_length ht⟩
 · have ht := tell_both (n := n) (e := e) ⟨by omega, by omega⟩ ⟨by omega, by omega⟩
   exact ⟨n, e, ht, hv, tell_length ht⟩
theorem w075 : Fin64 4604930618986332160 ∧ fval 4604930618986332160 = ((3 : Int) : Rat) * p2 (-2) := by
 refine ⟨by unfold Fin64 frung; decide, ?_⟩
 rw [(fval_pos_lt (r := 4604930618986332160) (by omega)).1, show fmag 4604930618986332160 = 3 * 2 ^ 51 by decide, show fpl 4604930618986332160 = -53 by decide, nat_mul_p2, Rat.mul_assoc, ← p2_add]
 rfl
theorem n075 : ¬ ∃ k : Int, fval 4604930618986332160 = (k : Rat) ∧ -9007199254740992 < k ∧ k < 9007199254740992 := by
 rintro ⟨k, e, _, _⟩
 rw [w075.2] at e
 have e2 : ((3 : Int) : Rat) * p2 (-2) = ((4 * k : Int) : Rat) * p2 (-2) := by
   rw [e, Rat.intCast_mul, Rat.mul_comm ((4 : Int) : Rat), Rat.mul_assoc]
   have : ((4 : Int) : Rat) * p2 (-2) = 1 := by
     have h := p2_neg 2
     rw [Rat.mul_comm] at h
     exact h
   rw [this, Rat.mul_one]
 have := int_eq (p2_pos _) e2
 omega
theorem t075 : itoa 3 ++ 98 :: itoa (-2) = [51, 98, 45, 50] := by
 have a : itoa 3 = [51] := (itoa_rd (l := [51]) (n := 3) (by decide)).2
 have b : itoa (-2) = [45, 50] := (itoa_rd (l := [45, 50]) (n := -2) (by decide)).2
 rw [a, b]; rfl
set_option maxHeartbeats 2000000 in
set_option maxRecDepth 100000 in
theorem awake8_any (w : World) (hT : T8 w) : Calls Tryd.prog 9 #[] w fun e w' => e = .returned (.bool true) ∧ Below w.heap.size w w' := by
 obtain ⟨x, er, hR, hC⟩ := float_any ⟨#[51, 98, 45, 50]⟩ (by decide)
 obtain ⟨rfl, rfl⟩ := hR.ok (n := 3) (e := -2) (by decide) w075.1 (by omega) w075.2 (by omega)
 obtain ⟨l, hl, hX⟩ := text_any 4604930618986332160 (by omega)
 obtain rfl := hl.odd w075.1 (n := 3) (e := -2) (by decide) w075.2 n075
 rw [t075] at hX
 have HF : Hid (∀ w, Tab w → Calls Tryd.prog 10 #[.string ⟨#[51, 98, 45, 50]⟩] w fun r w' => r = .returned (.tuple #[.float .f64 4604930618986332160, .int .i64 0]) ∧ Below w.heap.size w w') := hC
 have HX : Hid (∀ w, T8 w → Calls Tryd.prog 15 #[.float .f64 4604930618986332160] w fun r w' => r = .returned (.string ⟨#[51, 98, 45, 50]⟩) ∧ Below w.heap.size w w') := hX
 have HI : Hid (∀ w, Calls Tryd.prog 12 #[.string ⟨#[45, 49, 50]⟩] w fun e w' => e = .returned (.tuple #[.int .i64 (-12), .int .i64 0]) ∧ w' = w) := fun w => by
   have := int_any ⟨#[45, 49, 50]⟩ w (by decide)
   rwa [show rdInt (⟨#[45, 49, 50]⟩ : ByteArray).data.toList = some (-12) by decide] at this
 have HS : Hid (∀ w, T8 w → Calls Tryd.prog 17 #[.int .i64 (-12)] w fun e w' => e = .returned (.string ⟨#[45, 49, 50]⟩) ∧ Below w.heap.size w w') := fun w hT => by
   have := show_any (-12) ⟨by omega, by omega⟩ w hT
   rwa [show itoa (-12) = [45, 49, 50] from (itoa_rd (l := [45, 49, 50]) (n := -12) (by decide)).2] at this
 have HT : Hid (T8 w) := hT
 have HB : Hid (Below w.heap.size w w) := Below.refl _ _
 have o1 : (FloatKind.f64.format.order 4604930618986332160 4604930618986332160 == some .eq) = true := by decide
 clear hT hC hX hR hl
 obtain ⟨w0, hw0⟩ : ∃ w0, w0 = w := ⟨w, rfl⟩
 rw [show Below w.heap.size w = Below w0.heap.size w0 by rw [hw0]] at HB ⊢
 clear hw0
 go_enter Tryd.func9, Tryd.ntmps9
 go_wp2_with (first
   | (go_at_call 10; refine (HF.out _ HT.out.1).mono ?_; rintro e w' ⟨rfl, hb⟩; replace HT := Lib.hid (HT.out.later hb); replace HB := Lib.hid (HB.out.trans (hb.mono HB.out.size)); clear hb)
   | (go_at_call 12; refine (HI.out _).mono ?_; rintro e w' ⟨rfl, rfl⟩)
   | (go_at_call 15; refine (HX.out _ HT.out).mono ?_; rintro e w' ⟨rfl, hb⟩; replace HT := Lib.hid (HT.out.later hb); replace HB := Lib.hid (HB.out.trans (hb.mono HB.out.size)); clear hb)
   | (go_at_call 17; refine (HS.out _ HT.out).mono ?_; rintro e w' ⟨rfl, hb⟩; replace HT := Lib.hid (HT.out.later hb); replace HB := Lib.hid (HB.out.trans (hb.mono HB.out.size)); clear hb))
 go_ret
 exact ⟨rfl, HB.out⟩
end

/- The laws DigitsBack, DigitsTwice, DigitsWhole. (gen_ji.py) -/
section
open Go.RowKit Go.Shelf Go.Lib
theorem ord_eq {a b : Nat} (ha : Fin64 a) (hb : Fin64 b) : (FloatKind.f64.format.order a b == some .eq) = decide (fval a = fval b) := by
 rw [order_val ha hb]
 by_cases h : fval a = fval b
 · rw [decide_eq_true h, h, if_neg Rat.lt_irrefl, if_pos rfl]; rfl
 · rw [decide_eq_false h, if_neg h]; split <;> rfl
theorem ord_is {a b : Nat} (ha : Fin64 a) (hb : Fin64 b) (h : fval a = fval b) : FloatKind.f64.format.order a b = some .eq := by
 rw [order_val ha hb, h, if_neg Rat.lt_irrefl, if_pos rfl]
theorem sub_inf {b : Nat} (h : frung b = 9218868437227405312) : floatBits .sub .f64 b b = none := by
 show ((Ieee.double.read b).sum (Ieee.double.read b).opposite).map Ieee.double.write = none
 rw [read_inf h]
 unfold Ieee.Datum.opposite Ieee.Datum.sum
 cases fneg b <;> rfl
theorem sv_eq (l r : List UInt8) : (l == r) = decide (l = r) := by
 by_cases h : l = r
 · rw [decide_eq_true h, h]; simp
 · rw [decide_eq_false h, beq_eq_false_iff_ne]; exact h
end

/- The document's side of layer 8: Show. -/
section
open Go.RowKit Go.Shelf Go.Lib
theorem cat_minusI (a : List UInt8) : (⟨#[45]⟩ : ByteArray) ++ ⟨a.toArray⟩ = ⟨(45 :: a).toArray⟩ := by
 apply ByteArray.ext
 simp [ByteArray.data_append]
theorem cat_two (a b : List UInt8) : (⟨a.toArray⟩ : ByteArray) ++ ⟨b.toArray⟩ = ⟨(a ++ b).toArray⟩ := by
 apply ByteArray.ext
 simp [ByteArray.data_append]
set_option maxHeartbeats 1000000 in
set_option maxRecDepth 100000 in
theorem refShow_one (u : Nat) (hu : u < 10) (w : World) : Calls Tryd.prog 18 #[.int .i64 (u : Nat)] w fun e w' => e = .returned (sv (decDigits u)) ∧ Below w.heap.size w w' := by
 have h1 : (u : Int) < 10 := by omega
 have hcv : (convert 75 9 (.slice (some ⟨w.heap.size, 0, none⟩) 1 1)).run Tryd.prog (w.alloc (.cells #[.int .u8 (48 + (u : Int))] 5)) = .ok (.string ⟨(decDigits u).toArray⟩) (w.alloc (.cells #[.int .u8 (48 + (u : Int))] 5)) := by
   rw [decDigits_one hu]
   refine run_convert_bytes_back _ _ _ 5 _ 1 [UInt8.ofNat (48 + u)] Tryd.underlying75 Tryd.underlying5 Tryd.underlying9 (fun j hj => ?_)
   obtain rfl : j = 0 := by simpa using hj
   have e : (((UInt8.ofNat (48 + u)).toNat : Nat) : Int) = 48 + (u : Int) := by rw [UInt8.toNat_ofNat']; omega
   show World.cell? _ _ = some (.int .u8 (((UInt8.ofNat (48 + u)).toNat : Nat) : Int))
   rw [e]
   simp [Addr.add, World.cell?_alloc_new]
 generalize decDigits u = l at *
 go_enter Tryd.func18, Tryd.ntmps18
 go_wp2
 go_ret
 exact ⟨rfl, (Below.refl _ _).alloc (Nat.le_refl _) _⟩
set_option maxHeartbeats 1000000 in
set_option maxRecDepth 100000 in
theorem refShow_nat : ∀ (u : Nat), u ≤ 9223372036854775807 → ∀ w, Calls Tryd.prog 18 #[.int .i64 (u : Nat)] w fun e w' => e = .returned (sv (decDigits u)) ∧ Below w.heap.size w w' := by
 intro u
 induction u using Nat.strongRecOn with
 | _ u ih =>
   intro hu w
   by_cases h : u < 10
   · exact refShow_one u h w
   · have HI : Hid (∀ w, Calls Tryd.prog 18 #[.int .i64 ((u : Int).tdiv 10)] w fun e w' => e = .returned (sv (decDigits (u / 10))) ∧ Below w.heap.size w w') := fun w => by
       have := ih (u / 10) (by omega) (by omega) w
       rwa [show ((u : Int).tdiv 10) = ((u / 10 : Nat) : Int) by rw [Int.tdiv_eq_ediv_of_nonneg (by omega)]; omega]
     have HJ : Hid (∀ w, Calls Tryd.prog 18 #[.int .i64 ((u : Int).tmod 10)] w fun e w' => e = .returned (sv [UInt8.ofNat (48 + u % 10)]) ∧ Below w.heap.size w w') := fun w => by
       have := refShow_one (u % 10) (by omega) w
       rw [decDigits_one (by omega)] at this
       rwa [show ((u : Int).tmod 10) = ((u % 10 : Nat) : Int) by rw [Int.tmod_eq_emod_of_nonneg (by omega)]; omega]
     have hl : (decDigits (u / 10)).length ≤ 21 := by
       have := itoa_length_le ((u / 10 : Nat) : Int) (by omega) (by omega)
       rwa [itoa_nonneg] at this
     have hd : decDigits u = decDigits (u / 10) ++ [UInt8.ofNat (48 + u % 10)] := by rw [decDigits, dif_neg h]
     rw [hd]
     clear ih hd
     have h1 : ¬ (u : Int) < 10 := by omega
     have h2 : (u : Int) ≤ 9223372036854775807 := by omega
     generalize decDigits (u / 10) = l at *
     generalize UInt8.ofNat (48 + u % 10) = c at *
     go_enter Tryd.func18, Tryd.ntmps18
     go_wp2_with fail
     refine (HI.out _).mono ?_
     rintro e w1 ⟨rfl, hb1⟩
     have HB1 := Lib.hid hb1
     clear hb1
     go_wp2_with fail
     refine (HJ.out _).mono ?_
     rintro e w2 ⟨rfl, hb2⟩
     have HB2 := Lib.hid hb2
     clear hb2
     go_wp2
     go_ret
     exact ⟨ret_s (cat_two l [c]), HB1.out.trans (HB2.out.mono HB1.out.size)⟩
set_option maxHeartbeats 1000000 in
set_option maxRecDepth 100000 in
theorem refShow_any (n : Int) (hn : InR n) (w : World) : Calls Tryd.prog 18 #[.int .i64 n] w fun e w' => e = .returned (sv (itoa n)) ∧ Below w.heap.size w w' := by
 obtain ⟨n1, n2⟩ := hn
 by_cases h : n < 0
 · by_cases hm : n = -9223372036854775808
   · subst hm
     rw [show itoa (-9223372036854775808) = [45, 57, 50, 50, 51, 51, 55, 50, 48, 51, 54, 56, 53, 52, 55, 55, 53, 56, 48, 56] from (itoa_rd (n := -9223372036854775808) (by decide +kernel)).2]
     go_enter Tryd.func18, Tryd.ntmps18
     go_wp2
     go_ret
     exact ⟨rfl, Below.refl _ _⟩
   · obtain ⟨u, rfl⟩ : ∃ u : Nat, n = -(u : Int) := ⟨n.natAbs, by omega⟩
     rw [itoa_neg u (by omega)]
     have HI : Hid (∀ w, Calls Tryd.prog 18 #[.int .i64 (u : Nat)] w fun e w' => e = .returned (sv (decDigits u)) ∧ Below w.heap.size w w') := fun w => refShow_nat u (by omega) w
     have hl : (decDigits u).length ≤ 21 := by
       have := itoa_length_le (u : Int) (by omega) (by omega)
       rwa [itoa_nonneg] at this
     have hb : (-(u : Int) == -9223372036854775808) = false := by rw [beq_eq_false_iff_ne]; exact hm
     generalize decDigits u = l at *
     go_enter Tryd.func18, Tryd.ntmps18
     go_wp2_with fail
     refine (HI.out _).mono ?_
     rintro e w1 ⟨rfl, hb1⟩
     go_wp2
     go_ret
     exact ⟨ret_s (cat_minusI l), hb1⟩
 · obtain ⟨u, rfl⟩ : ∃ u : Nat, n = (u : Int) := ⟨n.toNat, by omega⟩
   rw [itoa_nonneg]
   exact refShow_nat u (by omega) w
end

/- The document's side of layer 8: Text. -/
section
open Go.RowKit Go.Shelf Go.Lib
theorem itoa_minusI {n : Int} (h : 0 < n) : itoa (-n) = 45 :: itoa n := by
 obtain ⟨u, rfl⟩ : ∃ u : Nat, n = (u : Int) := ⟨n.toNat, by omega⟩
 rw [itoa_neg u (by omega), itoa_nonneg]
theorem eq_flipI {x : Nat} (hx : Fin64 x) (lx : x < 18446744073709551616) : Fin64 (fflip x) ∧ fflip x < 18446744073709551616 ∧ fval (fflip x) = -fval x :=
 ⟨by unfold Fin64; rw [frung_flip lx]; exact hx, flip_lt lx, fval_flip lx hx⟩
theorem whole_digits {S E n : Int} {ds : List Nat} (hc : Canon S ds E) (hs : ∀ d ∈ ds, d < 16777216) (h : (n : Rat) = (S : Rat) * mag ds E) (ho : n % 2 = 1) (hp : 0 < n) (hb : n < 9007199254740992) : S = 1 ∧ E = 0 ∧ ((v24 ds : Nat) : Int) = n ∧ ds.length ≤ 3 := by
 have hn0 : (0 : Rat) < (n : Rat) := Rat.intCast_pos.2 hp
 have hS : S = 1 := by
   rcases canon_sgn hc with ⟨_, h1⟩ | ⟨h1, _⟩ | ⟨_, h1⟩
   · rw [← h] at h1; grind
   · exact h1
   · rw [← h] at h1; grind
 subst hS
 have hne : ds ≠ [] := by
   rintro rfl
   rw [mag_nil] at h
   grind
 have hbd : Bd 53 0 (n : Rat) := by
   have c : p2 53 = ((9007199254740992 : Int) : Rat) := by rw [show (53 : Int) = ((53 : Nat) : Int) from rfl, p2_nat]; rfl
   have b1 : (n : Rat) < ((9007199254740992 : Int) : Rat) := Rat.intCast_lt_intCast.2 hb
   refine ⟨by rw [c]; exact b1, by rw [c]; grind, n, by rw [p2_zero, Rat.mul_one]⟩
 obtain ⟨c1, c2⟩ := canon_place hc hs (by rw [← h]; exact hbd) hne
 have hE : 0 ≤ E := by omega
 have hlen := List.length_pos_iff.2 hne
 obtain ⟨k, rfl⟩ : ∃ k : Nat, E = (k : Int) := ⟨E.toNat, by omega⟩
 have hv : ((v24 ds * 2 ^ (24 * k) : Nat) : Int) = n := by
   apply Rat.intCast_inj.1
   rw [h]
   unfold mag
   show ((v24 ds * 2 ^ (24 * k) : Nat) : Rat) = _
   rw [nat_mul_p2, show ((24 * k : Nat) : Int) = 24 * (k : Int) by omega, show ((1 : Int) : Rat) = 1 from rfl, Rat.one_mul]
 cases k with
 | zero => exact ⟨rfl, rfl, by rw [Nat.mul_zero, Nat.pow_zero, Nat.mul_one] at hv; exact hv, by omega⟩
 | succ k =>
   exfalso
   rw [show 24 * (k + 1) = (24 * k + 23) + 1 by omega, Nat.pow_succ, ← Nat.mul_assoc] at hv
   omega
theorem conv_trunc {x : Nat} (hx : Fin64 x) (h0 : 0 ≤ fval x) (h : fval x < 9007199254740992) : ∃ k : Int, floatToIntVal .f64 x .i64 = some k ∧ 0 ≤ k ∧ k ≤ 9007199254740992 ∧ ((∃ z : Int, fval x = (z : Rat)) → fval x = (k : Rat)) := by
 by_cases hz : ∃ z : Int, fval x = (z : Rat)
 · obtain ⟨z, ez⟩ := hz
   have z0 : 0 ≤ z := Rat.intCast_nonneg.1 (by rw [← ez]; exact h0)
   have z1 : z < 9007199254740992 := Rat.intCast_lt_intCast.1 (by rw [← ez]; exact h)
   exact ⟨z, conv_int hx ez (by omega) (by omega), z0, by omega, fun _ => ez⟩
 · have e : FloatKind.f64.decode x = .number (fneg x) (fmag (frung x)) (fpl (frung x)) := read_fin hx
   obtain ⟨n, hn, h1, h2, h3⟩ := cut_val (fmag (frung x)) (fpl (frung x)) (Nat.le_of_lt (fmag_lt _))
   have hv := fval_eq x
   have hX0 : (0 : Rat) ≤ ((fmag (frung x) : Nat) : Rat) * p2 (fpl (frung x)) := Rat.mul_nonneg Rat.natCast_nonneg (Rat.le_of_lt (p2_pos _))
   have hneg : fneg x = false := by
     cases hf : fneg x
     · rfl
     · exfalso
       rw [hf] at hv
       simp [sgn1] at hv
       exact hz ⟨0, by show fval x = 0; grind⟩
   have hX : fval x = ((fmag (frung x) : Nat) : Rat) * p2 (fpl (frung x)) := by rw [hv, hneg]; simp [sgn1]
   have ht : Ieee.Datum.toInt .zero (FloatKind.f64.decode x) = some (n : Int) := by
     rw [e]
     show some (Ieee.signed (fneg x) (Ieee.Toward.zero.cut (fneg x) (fmag (frung x) <<< (fpl (frung x)).toNat) (-fpl (frung x)).toNat) 0) = _
     rw [cut_shift, hn, hneg]
     unfold Ieee.signed
     rw [Nat.shiftLeft_zero, if_neg (by decide)]
   have hn2 : n ≤ 9007199254740992 := by
     have : ((n : Nat) : Rat) < ((9007199254740992 : Nat) : Rat) := by
       rw [← hX] at h1
       show ((n : Nat) : Rat) < 9007199254740992
       grind
     have := Rat.natCast_lt_natCast.1 this
     omega
   refine ⟨n, ?_, by omega, by omega, fun hc => absurd hc hz⟩
   unfold floatToIntVal
   rw [ht]
   have h3 : IntKind.i64.min = -9223372036854775808 := by decide
   have h4 : IntKind.i64.max = 9223372036854775807 := by decide
   simp only [h3, h4]
   rw [if_pos ⟨by omega, by omega⟩]
theorem v24_drop {ds : List Nat} {i : Nat} (h : i < ds.length) : v24 (ds.drop i) = ds.getD i 0 + 16777216 * v24 (ds.drop (i + 1)) := by
 rw [List.drop_eq_getElem_cons h, v24]
 simp [List.getD, h]
theorem v24_drop_le (ds : List Nat) : ∀ i, v24 (ds.drop i) ≤ v24 ds := by
 induction ds with
 | nil => intro i; simp [v24]
 | cons d r ih =>
   intro i
   cases i with
   | zero => exact Nat.le_refl _
   | succ i => rw [List.drop_succ_cons]; have := ih i; rw [v24]; omega
theorem fit_p2 (k : Int) (h1 : -4000 ≤ k) (h2 : k ≤ 4000) : Fit (p2 k) := by
 refine Bd.mono (h := k + 1) (l := k) ⟨p2_lt (by omega), ?_, 1, by rw [show ((1 : Int) : Rat) = 1 from rfl, Rat.one_mul]⟩ (by omega) (by omega)
 have a := p2_pos k
 have b := p2_pos (k + 1)
 grind
set_option maxHeartbeats 4000000 in
set_option maxRecDepth 100000 in
theorem refText_odd (x q : Nat) (n e : Int) (w : World) (lx : x < 18446744073709551616) (fx : Fin64 x)
   (o1 : FloatKind.f64.format.order x x = some .eq) (rq : ∀ w, (binOp .sub 23 (.float .f64 x) (.float .f64 x)).run Tryd.prog w = .ok (.float .f64 q) w) (s2 : FloatKind.f64.format.order q 0 = some .eq)
   (o2 : FloatKind.f64.format.order x 0 = some .gt)
   (hk : (FloatKind.f64.format.order x 4845873199050653696 == some .lt) = false ∨ (∃ k, (FloatKind.f64.format.order x 4845873199050653696 == some .lt) = true ∧ (∀ w, (convert 23 3 (.float .f64 x)).run Tryd.prog w = .ok (.int .i64 k) w) ∧ (FloatKind.f64.format.order (floatOfInt .f64 k) x == some .eq) = false))
   (ho : n % 2 = 1) (hp : 0 < n) (hb : n < 9007199254740992) (he1 : -3000 ≤ e) (he2 : e ≤ 3000) (hv : fval x = (n : Rat) * p2 e) :
   Calls Tryd.prog 16 #[.float .f64 x] w fun r w' => r = .returned (sv (itoa n ++ 98 :: itoa e)) ∧ Below w.heap.size w w' := by
 have hx0 : fval x ≠ 0 := by
   rw [hv]
   have a : (0 : Rat) < (n : Rat) := Rat.intCast_pos.2 hp
   have := Rat.mul_pos a (p2_pos e)
   grind
 have hden : den x = fval x := by unfold den; exact if_pos (show frung x < 9218868437227405312 from fx)
 have fitx : Fit (fval x) := (fval_bd fx).mono (by omega) (by omega)
 have HO : Hid (∀ w, Calls Tryd.prog 31 #[.float .f64 x] w fun r w' => RfR w w' (fval x) r) := fun w => by
   have := refOf_any x w lx
   rwa [hden] at this
 have HL : Hid (∀ v w, Rf w v (fval x) → Calls Tryd.prog 43 #[v] w fun r w' => r = .returned (.int .i64 e) ∧ Below w.heap.size w w') := fun v w hr => by
   refine (low_rf v (fval x) w hr hx0 fitx).mono ?_
   rintro r w' ⟨⟨l, m, rfl, hq, hm⟩, hb⟩
   rw [hv] at hq
   obtain ⟨_, rfl⟩ := odd_uniq ho hm hq
   exact ⟨rfl, hb⟩
 have HP : Hid (∀ w, Calls Tryd.prog 28 #[.int .u64 1, .int .i64 (-e)] w fun r w' => RfR w w' (p2 (-e)) r) := fun w => by
   have := power_walk 1 (-e) w (by omega) (by omega) (by omega)
   rwa [show ((1 : Nat) : Rat) * p2 (-e) = p2 (-e) by show (1 : Rat) * _ = _; rw [Rat.one_mul]] at this
 have HM : Hid (∀ v1 v2 w, Rf w v1 (fval x) → Rf w v2 (p2 (-e)) → Calls Tryd.prog 27 #[v1, v2] w fun r w' => RfR w w' (n : Rat) r) := fun v1 v2 w h1 h2 => by
   have := mul_rf v1 v2 (fval x) (p2 (-e)) w h1 h2 fitx (fit_p2 (-e) (by omega) (by omega))
   rwa [show fval x * p2 (-e) = (n : Rat) by rw [hv, Rat.mul_assoc, Rat.mul_comm (p2 e), p2_neg, Rat.mul_one]] at this
 have HS1 : Hid (∀ w, Calls Tryd.prog 18 #[.int .i64 n] w fun r w' => r = .returned (sv (itoa n)) ∧ Below w.heap.size w w') := fun w => refShow_any n ⟨by omega, by omega⟩ w
 have HS2 : Hid (∀ w, Calls Tryd.prog 18 #[.int .i64 e] w fun r w' => r = .returned (sv (itoa e)) ∧ Below w.heap.size w w') := fun w => refShow_any e ⟨by omega, by omega⟩ w
 have hl1 : (itoa n).length ≤ 21 := itoa_length_le n (by omega) (by omega)
 have hl2 : (itoa e).length ≤ 21 := itoa_length_le e (by omega) (by omega)
 have HN : Hid (n % 2 = 1 ∧ 0 < n ∧ n < 9007199254740992) := ⟨ho, hp, hb⟩
 clear ho hp hb hv hx0 hden fitx fx lx
 rcases hk with hk | ⟨k, hk, hcv, hk2⟩
 all_goals
   go_enter Tryd.func16, Tryd.ntmps16
   go_wp2_with fail
   refine (HO.out _).mono ?_
   rintro r w1 ⟨v1, rfl, hr1, hb1⟩
   have HB1 := Lib.hid hb1
   have HR1 := Lib.hid hr1
   clear hb1 hr1
   go_wp2_with fail
   refine (HL.out _ _ HR1.out).mono ?_
   rintro r w2 ⟨rfl, hb2⟩
   have HB2 : Hid (Below w.heap.size w w2) := HB1.out.trans (hb2.mono HB1.out.size)
   clear hb2 HR1 HB1
   go_wp2_with fail
   refine (HO.out _).mono ?_
   rintro r w3 ⟨v3, rfl, hr3, hb3⟩
   have HB3 : Hid (Below w.heap.size w w3) := HB2.out.trans (hb3.mono HB2.out.size)
   have HR3 := Lib.hid hr3
   clear hb3 hr3 HB2
   go_wp2_with fail
   refine (HP.out _).mono ?_
   rintro r w4 ⟨v4, rfl, hr4, hb4⟩
   have HB4 : Hid (Below w.heap.size w w4) := HB3.out.trans (hb4.mono HB3.out.size)
   have HR4 := Lib.hid hr4
   have HR3' := Lib.hid (HR3.out.later hb4)
   clear hb4 hr4 HB3 HR3
   go_wp2_with fail
   refine (HM.out _ _ _ HR3'.out HR4.out).mono ?_
   rintro r w5 ⟨v5, rfl, hr5, hb5⟩
   have HB5 : Hid (Below w.heap.size w w5) := HB4.out.trans (hb5.mono HB4.out.size)
   clear HR3' HR4 HB4 hb5
   obtain ⟨S, ds, E, hd, hc, hq⟩ := hr5
   obtain ⟨rfl, rfl, hvv, hlen⟩ := whole_digits hc hd.small hq HN.out.1 HN.out.2.1 HN.out.2.2
   obtain ⟨a, c, rfl, hcap, hcells⟩ := hd.form
   have hne : ds ≠ [] := by
     rintro rfl
     have := HN.out.2.1
     rw [← hvv] at this
     simp [v24] at this
   obtain ⟨g, off, rfl, hcl, _⟩ := hcells.resolve_left hne
   have hsm : (v24 ds : Int) < 9007199254740992 := by rw [hvv]; exact HN.out.2.2
   have hdl : ∀ j, j < ds.length → (((v24 (ds.drop (j + 1)) : Nat) : Int) * 16777216 + ((ds.getD j 0 : Nat) : Int) = ((v24 (ds.drop j) : Nat) : Int)) ∧ ((v24 (ds.drop j) : Nat) : Int) < 9007199254740992 ∧ ((ds.getD j 0 : Nat) : Int) < 16777216 := by
     intro j hj
     have e1 := v24_drop hj
     have e2 := v24_drop_le ds j
     have e3 : ds.getD j 0 < 16777216 := by
       have : ds.getD j 0 = ds[j] := by simp [List.getD, hj]
       rw [this]; exact hd.small _ (List.getElem_mem hj)
     refine ⟨?_, ?_, ?_⟩ <;> omega
   have HDL := Lib.hid hdl
   have hbA : Below w5.heap.size w5 (w5.alloc (.cells #[.int .i64 1, .slice (some ⟨g, off, none⟩) ds.length c, .int .i64 0] 53)) := (Below.refl _ _).alloc (Nat.le_refl _) _
   have HCL := Lib.hid (fun k hk => box_cell hbA (hcl k hk))
   have HB6 := Lib.hid (HB5.out.trans (hbA.mono HB5.out.size))
   have hbx : BoxN (w5.alloc (.cells #[.int .i64 1, .slice (some ⟨g, off, none⟩) ds.length c, .int .i64 0] 53)) w5.heap.size 1 (.slice (some ⟨g, off, none⟩) ds.length c) 0 := heap_alloc_new w5 _
   obtain ⟨_, y1, y2, y4, _⟩ := hbx.cells
   have hln1 : 0 < ds.length := List.length_pos_iff.2 hne
   have hln2 : (ds.length : Int) ≤ 3 := by omega
   have HVV := Lib.hid hvv
   clear hbA hbx hcl hdl hd hq hc hcells HB5 hne hvv hsm
   have HY := Lib.hid (And.intro y1 y2)
   clear y1 y2 y4
   go_wp2_with fail
   generalize w5.alloc (.cells #[.int .i64 1, .slice (some ⟨g, off, none⟩) ds.length c, .int .i64 0] 53) = WX at *
   generalize w5.heap.size = g0 at *
   obtain ⟨y1, y2⟩ := HY.out
   go_loop [5, 6] (fun v i => ∃ k : Nat, k ≤ ds.length ∧ i = .int .i64 ((k : Int) - 1) ∧ v = .int .i64 ((v24 (ds.drop k) : Nat) : Int)) (fun _ i => (RowKit.intOf i + 1).toNat)
   case atStart => exact ⟨ds.length, Nat.le_refl _, rfl, by rw [List.drop_length]; rfl⟩
   case round =>
     obtain ⟨k, hk, rfl, rfl⟩ := hrel
     cases k with
     | zero =>
       rw [List.drop_zero, HVV.out]
       have e0 : ((0 : Nat) : Int) - 1 = -1 := by omega
       rw [e0]
       clear e0
       go_wp2_with fail
       go_loop [5, 7] (fun v i => v = .int .i64 n ∧ i = .int .i64 0) (fun _ _ => 0)
       case atStart => exact ⟨rfl, rfl⟩
       case round =>
         obtain ⟨rfl, rfl⟩ := hrel
         go_wp2_with fail
         refine (HS1.out _).mono ?_
         rintro r w6 ⟨rfl, hb6⟩
         have HB7 := Lib.hid (HB6.out.trans (hb6.mono HB6.out.size))
         clear hb6
         go_wp2_with fail
         refine (HS2.out _).mono ?_
         rintro r w7 ⟨rfl, hb7⟩
         have HB8 := Lib.hid (HB7.out.trans (hb7.mono HB7.out.size))
         clear hb7
         go_wp2
         go_ret
         exact ⟨ret_s (cat_b _ _), HB8.out⟩
     | succ j =>
       obtain ⟨f1, f2, f3⟩ := HDL.out j (by omega)
       have e0 : ((j + 1 : Nat) : Int) - 1 = (j : Int) := by omega
       rw [e0]
       clear e0
       have cj := HCL.out j (by omega)
       have hj1 : (j : Int) < (ds.length : Int) := by omega
       have f4 : (0 : Int) ≤ ((v24 (ds.drop (j + 1)) : Nat) : Int) := by omega
       have f5 : (0 : Int) ≤ ((ds.getD j 0 : Nat) : Int) := by omega
       have HF1 := Lib.hid f1
       have HF2 : Hid (((v24 (ds.drop j) : Nat) : Int) < 9007199254740992) := f2
       have f6 : ((v24 (ds.drop (j + 1)) : Nat) : Int) ≤ 536870912 := by omega
       clear f1 f2
       generalize hA : ((v24 (ds.drop (j + 1)) : Nat) : Int) = A at *
       generalize hD : ((ds.getD j 0 : Nat) : Int) = D at *
       clear hA hD
       go_wp2
       refine ⟨⟨j, by omega, rfl, by rw [HF1.out]⟩, ?_⟩
       show ((j : Int) - 1 + 1).toNat < ((j : Int) + 1).toNat
       omega
theorem lt53p {x : Nat} (hx : Fin64 x) : (FloatKind.f64.format.order x 4845873199050653696 == some .lt) = decide (fval x < 9007199254740992) := by
 show (Ieee.double.order x 4845873199050653696 == some .lt) = _
 rw [order_fin hx (by unfold Fin64 frung; decide), p53_val]
 by_cases h : fval x < 9007199254740992
 · rw [if_pos h, decide_eq_true h]; rfl
 · rw [if_neg h, decide_eq_false h]; split <;> rfl
set_option maxHeartbeats 4000000 in
set_option maxRecDepth 100000 in
theorem refText_pos (x : Nat) (l : List UInt8) (w : World) (fx : Fin64 x) (lx : x < 18446744073709551616) (h0 : 0 < fval x) (hl : TextR x l) :
   Calls Tryd.prog 16 #[.float .f64 x] w fun r w' => r = .returned (sv l) ∧ Below w.heap.size w w' := by
 obtain ⟨q, s1, s2⟩ := self_sub fx
 have rq : ∀ w, (binOp .sub 23 (.float .f64 x) (.float .f64 x)).run Tryd.prog w = .ok (.float .f64 q) w := fun w => run_float_arith w .sub _ .f64 x x _ s1
 clear s1
 have o1 := ord_is fx fx rfl
 have o2 : FloatKind.f64.format.order x 0 = some .gt := by rw [order_val fx fin0, fval0, if_neg (by grind), if_neg (by grind)]
 rcases hl with ⟨h, _⟩ | ⟨_, ⟨k, e, h1, h2, rfl⟩ | ⟨hn, n, e, ho, h1, h2, h3, h4, hv, rfl⟩⟩
 · exact absurd fx h
 · have hcv := conv_run fx e (by omega) (by omega)
   obtain ⟨a1, a2, a3⟩ := fwJ_val (n := k) (by omega) (by omega)
   have o3 : FloatKind.f64.format.order (floatOfInt .f64 k) x = some .eq := ord_is a1 fx (a3.trans e.symm)
   have o4 := lt53p fx
   rw [decide_eq_true (by
     rw [e]
     have := Rat.intCast_lt_intCast.2 h2
     exact this)] at o4
   have HS1 : Hid (∀ w, Calls Tryd.prog 18 #[.int .i64 k] w fun r w' => r = .returned (sv (itoa k)) ∧ Below w.heap.size w w') := fun w => refShow_any k ⟨by omega, by omega⟩ w
   clear a1 a2 a3 e fx lx h0
   go_enter Tryd.func16, Tryd.ntmps16
   go_wp2_with fail
   refine (HS1.out _).mono ?_
   rintro r w6 ⟨rfl, hb6⟩
   go_wp2
   go_ret
   exact ⟨rfl, hb6⟩
 · have hp : 0 < n := by
     apply Rat.intCast_pos.1
     apply Classical.byContradiction
     intro hc
     have hp2 := p2_pos e
     rw [hv] at h0
     have : (n : Rat) * p2 e ≤ 0 * p2 e := Rat.mul_le_mul_of_nonneg_right (by grind) (Rat.le_of_lt hp2)
     grind
   refine refText_odd x q n e w lx fx o1 rq s2 o2 ?_ ho hp h2 h3 h4 hv
   have o4 := lt53p fx
   by_cases hlt : fval x < 9007199254740992
   · right
     rw [decide_eq_true hlt] at o4
     obtain ⟨k, c1, c2, c3, c4⟩ := conv_trunc fx (Rat.le_of_lt h0) hlt
     obtain ⟨a1, a2, a3⟩ := fwJ_val (n := k) (by omega) (by omega)
     refine ⟨k, o4, fun w => run_convert_float_int w _ _ _ _ _ _ (by rw [Tryd.underlying23]; rfl) Tryd.underlying3 c1, ?_⟩
     have hoe : (FloatKind.f64.format.order (floatOfInt .f64 k) x == some .eq) = decide (fval (fwJ k) = fval x) := ord_eq a1 fx
     rw [hoe, a3, decide_eq_false_iff_not]
     intro ek
     have k1 : k < 9007199254740992 := Rat.intCast_lt_intCast.1 (by rw [ek]; exact hlt)
     exact hn ⟨k, ek.symm, by omega, k1⟩
   · left
     rw [decide_eq_false hlt] at o4
     exact o4
theorem TextR.flip {x : Nat} {l : List UInt8} (fx : Fin64 x) (lx : x < 18446744073709551616) (h0 : fval x < 0) (h : TextR x l) : ∃ r, l = 45 :: r ∧ TextR (fflip x) r := by
 obtain ⟨f1, f2, f3⟩ := eq_flipI fx lx
 rcases h with ⟨h, _⟩ | ⟨_, ⟨k, e, h1, h2, rfl⟩ | ⟨hn, n, e, ho, h1, h2, h3, h4, hv, rfl⟩⟩
 · exact absurd fx h
 · have hk : k < 0 := Rat.intCast_lt_intCast.1 (by rw [← e]; exact h0)
   refine ⟨itoa (-k), ?_, Or.inr ⟨f1, Or.inl ⟨-k, by rw [f3, e, Rat.intCast_neg], by omega, by omega, rfl⟩⟩⟩
   have := itoa_minusI (n := -k) (by omega)
   rwa [Int.neg_neg] at this
 · have hp : n < 0 := by
     apply Rat.intCast_lt_intCast.1
     show (n : Rat) < 0
     apply Classical.byContradiction
     intro hc
     have hp2 := p2_pos e
     have : 0 * p2 e ≤ (n : Rat) * p2 e := Rat.mul_le_mul_of_nonneg_right (by grind) (Rat.le_of_lt hp2)
     grind
   refine ⟨itoa (-n) ++ 98 :: itoa e, ?_, Or.inr ⟨f1, Or.inr ⟨?_, -n, e, by omega, by omega, by omega, h3, h4, ?_, rfl⟩⟩⟩
   · have := itoa_minusI (n := -n) (by omega)
     rw [Int.neg_neg] at this
     rw [this]; rfl
   · rintro ⟨k, ek, k1, k2⟩
     exact hn ⟨-k, by rw [Rat.intCast_neg, ← ek, f3]; grind, by omega, by omega⟩
   · rw [f3, hv, Rat.intCast_neg]; grind
set_option maxHeartbeats 4000000 in
set_option maxRecDepth 100000 in
theorem refText_any (x : Nat) (l : List UInt8) (w : World) (lx : x < 18446744073709551616) (hl : TextR x l) (hlen : l.length ≤ 43) :
   Calls Tryd.prog 16 #[.float .f64 x] w fun r w' => r = .returned (sv l) ∧ Below w.heap.size w w' := by
 rcases Nat.lt_trichotomy (frung x) 9218868437227405312 with h | h | h
 · have fx : Fin64 x := h
   by_cases hz : fval x = 0
   · obtain ⟨q, s1, s2⟩ := self_sub fx
     have rq : ∀ w, (binOp .sub 23 (.float .f64 x) (.float .f64 x)).run Tryd.prog w = .ok (.float .f64 q) w := fun w => run_float_arith w .sub _ .f64 x x _ s1
     have o1 := ord_is fx fx rfl
     have o2 : FloatKind.f64.format.order x 0 = some .eq := ord_is fx fin0 (by rw [hz, fval0])
     obtain rfl : l = [48] := by
       rw [hl.whole fx (k := 0) (by rw [hz]; rfl) (by omega) (by omega)]
       exact (itoa_rd (n := 0) (by decide)).2
     clear s1 hl fx h hz lx hlen
     go_enter Tryd.func16, Tryd.ntmps16
     go_wp2
     go_ret
     exact ⟨rfl, Below.refl _ _⟩
   by_cases hp : 0 < fval x
   · exact refText_pos x l w fx lx hp hl
   · have hneg : fval x < 0 := by grind
     obtain ⟨q, s1, s2⟩ := self_sub fx
     have rq : ∀ w, (binOp .sub 23 (.float .f64 x) (.float .f64 x)).run Tryd.prog w = .ok (.float .f64 q) w := fun w => run_float_arith w .sub _ .f64 x x _ s1
     have o1 := ord_is fx fx rfl
     have o2 : FloatKind.f64.format.order x 0 = some .lt := by rw [order_val fx fin0, fval0, if_pos hneg]
     obtain ⟨r, rfl, hr⟩ := hl.flip fx lx hneg
     obtain ⟨f1, f2, f3⟩ := eq_flipI fx lx
     have HR : Hid (∀ w, Calls Tryd.prog 16 #[.float .f64 (fflip x)] w fun r' w' => r' = .returned (sv r) ∧ Below w.heap.size w w') := fun w => refText_pos (fflip x) r w f1 f2 (by rw [f3]; grind) hr
     have rn := run_negF x lx
     have hlr : r.length ≤ 42 := by rw [List.length_cons] at hlen; omega
     clear s1 hl hr fx h hz hp lx hlen f1 f2 f3 hneg
     generalize fflip x = z at *
     go_enter Tryd.func16, Tryd.ntmps16
     go_wp2_with fail
     refine (HR.out _).mono ?_
     rintro r' w6 ⟨rfl, hb6⟩
     go_wp2
     go_ret
     exact ⟨ret_s (cat_minusI r), hb6⟩
 · have o1 : FloatKind.f64.format.order x x = some .eq := by
     have := eql_self x
     rw [decide_eq_true (by omega)] at this
     exact eq_of_beq this
   have rs := run_sub_nan x x (sub_inf h)
   have h3 : ∀ w, FloatKind.f64.format.order (nanW x x w) 0 = none := fun w => nan_order (nanW_nan x x w).1 0
   obtain rfl : l = [] := by
     rcases hl with ⟨_, e⟩ | ⟨fx, _⟩
     · exact e
     · exact absurd fx (by unfold Fin64; omega)
   clear hl h lx hlen
   go_enter Tryd.func16, Tryd.ntmps16
   go_wp2
   go_ret
   exact ⟨rfl, (Below.refl _ _).drew⟩
 · have o1 : FloatKind.f64.format.order x x = none := nan_order h x
   obtain rfl : l = [] := by
     rcases hl with ⟨_, e⟩ | ⟨fx, _⟩
     · exact e
     · exact absurd fx (by unfold Fin64; omega)
   clear hl h lx hlen
   go_enter Tryd.func16, Tryd.ntmps16
   go_wp2
   go_ret
   exact ⟨rfl, Below.refl _ _⟩
theorem TextR.len {x : Nat} {l : List UInt8} (h : TextR x l) : l.length ≤ 43 := by
 by_cases hx : Fin64 x
 · obtain ⟨_, _, _, _, h⟩ := h.tell hx
   exact h
 · rcases h with ⟨_, rfl⟩ | ⟨h, _⟩
   · simp
   · exact absurd h hx
set_option maxHeartbeats 4000000 in
set_option maxRecDepth 100000 in
theorem writes8 (x : Nat) (n : Int) (w : World) (hT : T8 w) (lx : x < 18446744073709551616) (hn : InR n) :
   Calls Tryd.prog 4 #[.float .f64 x, .int .i64 n] w fun e w' => e = .returned (.bool true) ∧ Below w.heap.size w w' := by
 have HT : Hid (T8 w) := hT
 have HB : Hid (Below w.heap.size w w) := Below.refl _ _
 have HA : Hid (∀ w, T8 w → Calls Tryd.prog 9 #[] w fun e w' => e = .returned (.bool true) ∧ Below w.heap.size w w') := awake8_any
 obtain ⟨w0, hw0⟩ : ∃ w0, w0 = w := ⟨w, rfl⟩
 rw [show Below w.heap.size w = Below w0.heap.size w0 by rw [hw0]] at HB ⊢
 clear hw0 hT
 obtain ⟨l, hl, hX⟩ := text_any x lx
 have HX : Hid (∀ w, T8 w → Calls Tryd.prog 15 #[.float .f64 x] w fun r w' => r = .returned (sv l) ∧ Below w.heap.size w w') := hX
 have HY : Hid (∀ w, Calls Tryd.prog 16 #[.float .f64 x] w fun r w' => r = .returned (sv l) ∧ Below w.heap.size w w') := fun w => refText_any x l w lx hl hl.len
 have HS : Hid (∀ w, T8 w → Calls Tryd.prog 17 #[.int .i64 n] w fun e w' => e = .returned (sv (itoa n)) ∧ Below w.heap.size w w') := fun w hT => show_any n hn w hT
 have HR : Hid (∀ w, Calls Tryd.prog 18 #[.int .i64 n] w fun e w' => e = .returned (sv (itoa n)) ∧ Below w.heap.size w w') := fun w => refShow_any n hn w
 have e1 : (l == l) = true := by simp
 have e2 : (itoa n == itoa n) = true := by simp
 clear hX hl lx hn
 go_enter Tryd.func4, Tryd.ntmps4
 go_wp2_with fail
 refine (HX.out _ HT.out).mono ?_
 rintro e w' ⟨rfl, hb⟩
 replace HT := Lib.hid (HT.out.later hb)
 replace HB := Lib.hid (HB.out.trans (hb.mono HB.out.size))
 clear hb
 go_wp2_with fail
 refine (HY.out _).mono ?_
 rintro e w' ⟨rfl, hb⟩
 replace HT := Lib.hid (HT.out.later hb)
 replace HB := Lib.hid (HB.out.trans (hb.mono HB.out.size))
 clear hb
 go_wp2_with fail
 refine (HS.out _ HT.out).mono ?_
 rintro e w' ⟨rfl, hb⟩
 replace HT := Lib.hid (HT.out.later hb)
 replace HB := Lib.hid (HB.out.trans (hb.mono HB.out.size))
 clear hb
 go_wp2_with fail
 refine (HR.out _).mono ?_
 rintro e w' ⟨rfl, hb⟩
 replace HT := Lib.hid (HT.out.later hb)
 replace HB := Lib.hid (HB.out.trans (hb.mono HB.out.size))
 clear hb
 go_wp2_with fail
 refine (HA.out _ HT.out).mono ?_
 rintro e w' ⟨rfl, hb⟩
 replace HT := Lib.hid (HT.out.later hb)
 replace HB := Lib.hid (HB.out.trans (hb.mono HB.out.size))
 clear hb
 go_wp2
 go_ret
 exact ⟨rfl, HB.out⟩
end
end Go.Proofs.YtodmnpgnonhbiaaDoor
