import Derived.Test.YtgfloegaoofbbaaDoorQ4
import Derived.Test.YtgfloegaoofbbaaDoorQ23
import Derived.Test.YtgfloegaoofbbaaDoorQ25
import Derived.Deep.DeepCutAuto
/- refRead11_any: part El00 of a long walk. (capt.py) -/
/- The document's side of layer 11: Read. (gen_ekb.py) -/
namespace Go.Proofs.YtgfloegaoofbbaaDoor
set_option maxRecDepth 100000
open Go.RowKit Go.Shelf Go.Lib
attribute [local go_sem] run_store_str run_store_float
set_option maxHeartbeats 64000000 in
def el00_c : Cut2 (∀ {p : Pm} (_hp : p.Ok) (s : ByteArray) (t : Bs) (w : World) (_ht : s.data.toList = t) (_hl : t.length ≤ 16777216), Calls Tryd.prog 4 #[.string s] w fun e w' => R11 p w w' t e) := by
  apply Cut2.mk
  focus
    intro cUt1 cUt2
    intro p hp s t w ht hl
    obtain ⟨W0, hW0⟩ : ∃ W0, w.alloc (.cells fe4 24) = W0 := ⟨_, rfl⟩
    have b0 : Below w.heap.size w W0 := by rw [← hW0]; exact (Below.refl _ w).alloc (Nat.le_refl _) _
    have c0 : CB W0 w.heap.size fe4 24 := by rw [← hW0]; exact CB.new w _ _
    have HP := Lib.hid hp
    have HRd := Lib.hid (readDE s t W0 ht hl)
    have H0 : Hid (Below w.heap.size w W0 ∧ CB W0 w.heap.size fe4 24 ∧ w.heap.size + 1 = W0.heap.size) := Lib.hid ⟨b0, c0, by rw [← hW0]; simp⟩
    clear hp ht hl b0 c0
    go_enter Tryd.func4, Tryd.ntmps4
    go_wp2_with fail
    try rw [hW0]
    clear hW0
    refine HRd.out.mono ?_
    rintro e W1 ⟨a1, c1, ps, rfl, hLr, htell, hlen, hb1⟩
    have H1 : Hid (CB W1 w.heap.size fe4 24 ∧ Below w.heap.size w W1 ∧ w.heap.size < W1.heap.size) := Lib.hid ⟨H0.out.2.1.later hb1, H0.out.1.trans (hb1.mono H0.out.1.size), by have := hb1.size; have := H0.out.2.2; omega⟩
    obtain ⟨er, her⟩ : ∃ er : Nat, Hid ((rdV t).2.2 = er) := ⟨_, Lib.hid rfl⟩
    obtain ⟨al, hal⟩ : ∃ al : Nat, Hid ((rdV t).2.1 = al) := ⟨_, Lib.hid rfl⟩
    obtain ⟨nl, hnl⟩ : ∃ nl : Nat, Hid ((rdV t).1.length = nl) := ⟨_, Lib.hid rfl⟩
    rw [her.out, hal.out, hnl.out]
    rw [hnl.out] at hLr hlen
    have hnl2 : (nl : Int) ≤ 16777217 := by have := rdV_countE t; have := hnl.out; omega
    by_cases h0 : er = 0
    rotate_left
    · have h0' : ((er : Int) == 0) = false := by rw [beq_eq_false_iff_ne]; omega
      have h0n : ((er : Int) != 0) = true := by rw [bne_iff_ne]; omega
      clear hLr htell hlen hb1 H0 HRd
      have HR : Hid (CB W1 w.heap.size fe4 24 ∧ Below w.heap.size w W1) := Lib.hid ⟨H1.out.1, H1.out.2.1⟩
      obtain ⟨k20, k21, k22, k23⟩ := HR.out.1.cells4E
      have f20 := HR.out.1.frozen 0
      have f21 := HR.out.1.frozen 1
      have f22 := HR.out.1.frozen 2
      have f23 := HR.out.1.frozen 3
      have HTV := Lib.hid (show reV p t = (fe0, al, ((er : Nat) : Int)) by rw [re_no (by rw [her.out]; exact h0), her.out, hal.out])
      go_wp2
      refine bodyPost_ret (res_ref11 _ w.heap.size _ _ _ _ _ _ _ (set4E HR.out.1 _ _ _ _) rfl rfl rfl) rfl ?_
      exact R11.bad (set4_bel HR.out.2 _ _ _ _) HTV.out
    subst h0
    have hmm : ∀ q ∈ ps, (q.1, q.2.1) ∈ (rdV t).1 := fun q hq => by rw [← htell]; exact List.mem_map.2 ⟨q, hq, rfl⟩
    have HLf : Hid (Lf W1 (.slice a1 nl c1) ps) := Lib.hid (Lr.lf hLr (fun q hq x hx => by have := rdV_shortE (hmm q hq) x hx; omega))
    have HSh : Hid (∀ q ∈ ps, (∀ x ∈ q.2.1, x.length ≤ 400) ∧ q.1 ≤ 16777218) := Lib.hid (fun q hq => ⟨fun x hx => rdV_shortE (hmm q hq) x hx, rdV_noE (hmm q hq)⟩)
    have HTl := Lib.hid htell
    have HLe := Lib.hid hlen
    have hW0s : w.heap.size < W0.heap.size := by have := H0.out.2.2; omega
    have HgB : Hid (∀ g off, a1 = some ⟨g, off, none⟩ → nl ≠ 0 → g ≠ w.heap.size ∧ w.heap.size ≠ g) := Lib.hid (fun g off ha hn => by
      subst ha
      have h1 := (World.ownsRow.lt hLr.own g rfl).1
      omega)
    clear hLr htell hlen hb1 H0 HRd hmm
    by_cases hz : nl = 0
    · subst hz
      have HR : Hid (CB W1 w.heap.size fe4 24 ∧ Below w.heap.size w W1) := Lib.hid ⟨H1.out.1, H1.out.2.1⟩
      obtain ⟨k20, k21, k22, k23⟩ := HR.out.1.cells4E
      have f20 := HR.out.1.frozen 0
      have f21 := HR.out.1.frozen 1
      have f22 := HR.out.1.frozen 2
      have f23 := HR.out.1.frozen 3
      have HTV := Lib.hid (show reV p t = (fe0, 0, (4 : Int)) from re_nil her.out (List.length_eq_zero_iff.1 hnl.out))
      go_wp2
      refine bodyPost_ret (res_ref11 _ w.heap.size _ _ _ _ _ _ _ (set4E HR.out.1 _ _ _ _) rfl rfl rfl) rfl ?_
      exact R11.bad (set4_bel HR.out.2 _ _ _ _) HTV.out
    obtain ⟨q0, qs, hps⟩ : ∃ q0 qs, Hid (ps = q0 :: qs) := by
      cases ps with
      | nil => exact absurd HLe.out.symm hz
      | cons a r => exact ⟨a, r, Lib.hid rfl⟩
    obtain ⟨gL, oL, hga, hgL, hcL⟩ : ∃ g off, a1 = some ⟨g, off, none⟩ ∧ g < W1.heap.size ∧ ∀ k p, ps[k]? = some p → W1.cell? ⟨g, off + k * 2, none⟩ = some (.int .i64 (p.1 : Nat)) ∧ W1.cell? ⟨g, off + k * 2 + 1, none⟩ = some p.2.2 := by
      obtain ⟨a, c, e, _, _, h4⟩ := HLf.out.form
      cases e
      exact h4.resolve_left (fun e => by rw [hps.out] at e; cases e)
    subst hga
    have HgL : Hid (gL ≠ w.heap.size ∧ w.heap.size ≠ gL) := Lib.hid (HgB.out gL oL rfl hz)
    have HCL : Hid (gL < W1.heap.size ∧ ∀ k p, ps[k]? = some p → W1.cell? ⟨gL, oL + k * 2, none⟩ = some (.int .i64 (p.1 : Nat)) ∧ W1.cell? ⟨gL, oL + k * 2 + 1, none⟩ = some p.2.2) := Lib.hid ⟨hgL, hcL⟩
    have hnz : ((nl : Int) == 0) = false := by rw [beq_eq_false_iff_ne]; omega
    have hnz2 : ¬ (nl : Int) = 0 := by omega
    have hnz3 : (0 : Int) < (nl : Int) := by omega
    have h00 := hcL 0 q0 (by rw [hps.out]; rfl)
    rw [Nat.zero_mul, Nat.add_zero] at h00
    have hq0 : q0 ∈ ps := by rw [hps.out]; simp
    obtain ⟨wa0, wc0, hw0, hwm0⟩ : ∃ a c, q0.2.2 = .slice a q0.2.1.length c ∧ ∀ (i : Nat) (x : Bs), q0.2.1[i]? = some x → ∃ g off, a = some ⟨g, off, none⟩ ∧ g < W1.heap.size ∧ W1.cell? ⟨g, off + i, none⟩ = some (sv x) := by
      obtain ⟨a, c, e, _, _, h3⟩ := (HLf.out.sub q0 hq0).1.form
      refine ⟨a, c, e, fun i x hx => ?_⟩
      obtain ⟨g, off, rfl, hg, hc⟩ := h3.resolve_left (fun e => by rw [e] at hx; simp at hx)
      exact ⟨g, off, rfl, hg, hc i x hx⟩
    have hsh0 := HSh.out q0 hq0
    obtain ⟨no0, ws0, wv0⟩ := q0
    try dsimp only at h00 hw0 hwm0 hsh0
    subst hw0
    obtain ⟨nw, hnw⟩ : ∃ nw, Hid (ws0.length = nw) := ⟨_, Lib.hid rfl⟩
    rw [hnw.out] at h00
    have HL0 : Hid ((rdV t).1 = (no0, ws0) :: tell qs) := Lib.hid (by rw [← HTl.out, hps.out]; rfl)
    have HWm := Lib.hid hwm0
    have HS0 := Lib.hid hsh0
    have H00 : Hid (∀ W, Below W1.heap.size W1 W → W.cell? ⟨gL, oL, none⟩ = some (.int .i64 (no0 : Nat)) ∧ W.cell? ⟨gL, oL + 1, none⟩ = some (.slice wa0 nw wc0)) := Lib.hid (fun W hb => ⟨cell_later hb HCL.out.1 h00.1, cell_later hb HCL.out.1 h00.2⟩)
    obtain ⟨i0, hi0, hz0, hz1, hz2⟩ := info_parts (show (Tryd.prog.info? 3).map (fun i => (i.zero, i.size, i.bytes)) = some (some (.int .i64 0), 1, 8) by kernel_rfl)
    clear h00 hwm0 hsh0 hq0 hcL hgL HgB hz
    go_wp2_with fail
    go_loopw [8, 9] (fun s8 s9 wr => ∃ (j : Nat) (ns : List Int), s9 = .int .i64 (j : Nat) ∧ j ≤ nw ∧ j ≤ 3 ∧ Hid (Below W1.heap.size W1 wr ∧ wr.ownsRow W1.heap.size 3 1 s8 ns.length (isV ns) ∧ ns.length = j ∧ intsE (ws0.take j) = some ns ∧ ∀ n ∈ ns, InR n)) (fun _ s9 _ => nw - (RowKit.intOf s9).toNat)
    case atStart => exact ⟨0, [], rfl, by omega, by omega, Below.refl _ _, World.ownsRow_nil _ _ _ _, rfl, rfl, fun n hn => by simp at hn⟩
    case round =>
     focus
      obtain ⟨j, ns, rfl, hj1, hj3, hI⟩ := hrel
      have HB := Lib.hid hI.out.1
      have HO := Lib.hid hI.out.2.1
      have HN := Lib.hid (And.intro hI.out.2.2.1 (And.intro hI.out.2.2.2.1 hI.out.2.2.2.2))
      clear hI
      obtain ⟨z0, z1⟩ := H00.out wr HB.out
      by_cases hlt : j < nw
      · focus
        (repeat (rename_i xqEl00; revert xqEl00))
        try revert s2
        try revert hlt'
        try revert lp1
        try revert hlt
        try revert z1
        try revert z0
        try revert And
        try revert HN
        try revert HO
        try revert HB
        try revert hrel
        try revert hI
        try revert hj3
        try revert hj1
        try revert round
        try revert toNat
        try revert intOf
        try revert RowKit
        try revert InR
        try revert n
        try revert take
        try revert intsE
        try revert isV
        try revert ns
        try revert j
        try revert wr
        try revert s9
        try revert s8
        try revert bytes
        try revert zero
        try revert map
        try revert info
        try revert prog
        try revert hz2
        try revert hz1
        try revert hz0
        try revert hi0
        try revert i0
        try revert hb
        try revert W
        try revert H00
        try revert HS0
        try revert HWm
        try revert tell
        try revert HL0
        try revert hnw
        try revert nw
        try revert dsimp
        try revert wv0
        try revert ws0
        try revert no0
        try revert hsh0
        try revert hc
        try revert hg
        try revert sub
        try revert h3
        try revert sv
        try revert Bs
        try revert i
        try revert hwm0
        try revert hw0
        try revert wc0
        try revert wa0
        try revert hq0
        try revert h00
        try revert hnz3
        try revert hnz2
        try revert hnz
        try revert HCL
        try revert HgL
        try revert form
        try revert h4
        try revert c
        try revert i64
        try revert int
        try revert cell
        try revert k
        try revert hcL
        try revert hgL
        try revert hga
        try revert oL
        try revert gL
        try revert r
        try revert a
        try revert cons
        try revert symm
        try revert absurd
        try revert nil
        try revert hps
        try revert qs
        try revert q0
        try revert re_nil
        try revert hz
        try revert own
        try revert lt
        try revert h1
        try revert hn
        try revert ha
        try revert off
        try revert g
        try revert HgB
        try revert hW0s
        try revert HLe
        try revert HTl
        try revert HSh
        try revert hx
        try revert x
        try revert lf
        try revert Lr
        try revert slice
        try revert Lf
        try revert HLf
        try revert hq
        try revert q
        try revert hmm
        try revert bad
        try revert R11
        try revert set4E
        try revert go_wp2
        try revert re_no
        try revert fe0
        try revert reV
        try revert HTV
        try revert f23
        try revert f22
        try revert f21
        try revert frozen
        try revert f20
        try revert k23
        try revert k22
        try revert k21
        try revert k20
        try revert HR
        try revert true
        try revert h0n
        try revert false
        try revert h0'
        try revert h0
        try revert hnl2
        try revert length
        try revert hnl
        try revert nl
        try revert hal
        try revert al
        try revert rdV
        try revert her
        try revert er
        try revert trans
        try revert later
        try revert H1
        try revert hb1
        try revert hlen
        try revert htell
        try revert hLr
        try revert ps
        try revert c1
        try revert a1
        try revert W1
        try revert e
        try revert mono
        try revert ntmps
        try revert Read
        try revert F
        try revert func
        try revert A
        try revert H0
        try revert readDE
        try revert HRd
        try revert HP
        try revert new
        try revert CB
        try revert c0
        try revert refl
        try revert size
        try revert heap
        try revert b0
        try revert _
        try revert File
        try revert T
        try revert fe4
        try revert cells
        try revert alloc
        try revert hW0
        try revert W0
        try revert hl
        try revert ht
        try revert w
        try revert t
        try revert s
        try revert hp
        try revert u319
        try revert u318
        try revert u317
        try revert u316
        try revert u315
        try revert u314
        try revert u313
        try revert u312
        try revert u311
        try revert u310
        try revert u309
        try revert u308
        try revert u307
        try revert u306
        try revert u305
        try revert u304
        try revert u303
        try revert u302
        try revert u301
        try revert u300
        try revert u299
        try revert u298
        try revert u297
        try revert u296
        try revert u295
        try revert u294
        try revert u293
        try revert u292
        try revert u291
        try revert u290
        try revert u289
        try revert u288
        try revert u287
        try revert u286
        try revert u285
        try revert u284
        try revert u283
        try revert u282
        try revert u281
        try revert u280
        try revert u279
        try revert u278
        try revert u277
        try revert u276
        try revert u275
        try revert u274
        try revert u273
        try revert u272
        try revert u271
        try revert u270
        try revert u269
        try revert u268
        try revert u267
        try revert u266
        try revert u265
        try revert u264
        try revert u263
        try revert u262
        try revert u261
        try revert u260
        try revert u259
        try revert u258
        try revert u257
        try revert u256
        try revert u255
        try revert u254
        try revert u253
        try revert u252
        try revert u251
        try revert u250
        try revert u249
        try revert u248
        try revert u247
        try revert u246
        try revert u245
        try revert u244
        try revert u243
        try revert u242
        try revert u241
        try revert u240
        try revert u239
        try revert u238
        try revert u237
        try revert u236
        try revert u235
        try revert u234
        try revert u233
        try revert u232
        try revert u231
        try revert u230
        try revert u229
        try revert u228
        try revert u227
        try revert u226
        try revert u225
        try revert u224
        try revert u223
        try revert u222
        try revert u221
        try revert u220
        try revert u219
        try revert u218
        try revert u217
        try revert u216
        try revert u215
        try revert u214
        try revert u213
        try revert u212
        try revert u211
        try revert u210
        try revert u209
        try revert u208
        try revert u207
        try revert u206
        try revert u205
        try revert u204
        try revert u203
        try revert u202
        try revert u201
        try revert u200
        try revert u199
        try revert u198
        try revert u197
        try revert u196
        try revert u195
        try revert u194
        try revert u193
        try revert u192
        try revert u191
        try revert u190
        try revert u189
        try revert u188
        try revert u187
        try revert u186
        try revert u185
        try revert u184
        try revert u183
        try revert u182
        try revert u181
        try revert u180
        try revert u179
        try revert u178
        try revert u177
        try revert u176
        try revert u175
        try revert u174
        try revert u173
        try revert u172
        try revert u171
        try revert u170
        try revert u169
        try revert u168
        try revert u167
        try revert u166
        try revert u165
        try revert u164
        try revert u163
        try revert u162
        try revert u161
        try revert u160
        try revert u159
        try revert u158
        try revert u157
        try revert u156
        try revert u155
        try revert u154
        try revert u153
        try revert u152
        try revert u151
        try revert u150
        try revert u149
        try revert u148
        try revert u147
        try revert u146
        try revert u145
        try revert u144
        try revert u143
        try revert u142
        try revert u141
        try revert u140
        try revert u139
        try revert u138
        try revert u137
        try revert u136
        try revert u135
        try revert u134
        try revert u133
        try revert u132
        try revert u131
        try revert u130
        try revert u129
        try revert u128
        try revert u127
        try revert u126
        try revert u125
        try revert u124
        try revert u123
        try revert u122
        try revert u121
        try revert u120
        try revert u119
        try revert u118
        try revert u117
        try revert u116
        try revert u115
        try revert u114
        try revert u113
        try revert u112
        try revert u111
        try revert u110
        try revert u109
        try revert u108
        try revert u107
        try revert u106
        try revert u105
        try revert u104
        try revert u103
        try revert u102
        try revert u101
        try revert u100
        try revert u99
        try revert u98
        try revert u97
        try revert u96
        try revert u95
        try revert u94
        try revert u93
        try revert u92
        try revert u91
        try revert u90
        try revert u89
        try revert u88
        try revert u87
        try revert u86
        try revert u85
        try revert u84
        try revert u83
        try revert u82
        try revert u81
        try revert u80
        try revert u79
        try revert u78
        try revert u77
        try revert u76
        try revert u75
        try revert u74
        try revert u73
        try revert u72
        try revert u71
        try revert u70
        try revert u69
        try revert u68
        try revert u67
        try revert u66
        try revert u65
        try revert u64
        try revert u63
        try revert u62
        try revert u61
        try revert u60
        try revert u59
        try revert u58
        try revert u57
        try revert u56
        try revert u55
        try revert u54
        try revert u53
        try revert u52
        try revert u51
        try revert u50
        try revert u49
        try revert u48
        try revert u47
        try revert u46
        try revert u45
        try revert u44
        try revert u43
        try revert u42
        try revert u41
        try revert u40
        try revert u39
        try revert u38
        try revert u37
        try revert u36
        try revert u35
        try revert u34
        try revert u33
        try revert u32
        try revert u31
        try revert u30
        try revert u29
        try revert u28
        try revert u27
        try revert u26
        try revert u25
        try revert u24
        try revert u23
        try revert u22
        try revert u21
        try revert u20
        try revert u19
        try revert u18
        try revert u17
        try revert u16
        try revert u15
        try revert u14
        try revert u13
        try revert u12
        try revert u11
        try revert u10
        try revert u9
        try revert u8
        try revert u7
        try revert u6
        try revert u5
        try revert u4
        try revert u3
        try revert u2
        try revert u1
        try revert u0
        try revert p
        exact @Cap.get _ cUt1
      · obtain rfl : j = nw := by omega
        have hlt' : ¬ ((j : Int) < (j : Int)) := by omega
        (repeat (rename_i xqEl00; revert xqEl00))
        try revert s2
        try revert hlt'
        try revert lp1
        try revert hlt
        try revert z1
        try revert z0
        try revert And
        try revert HN
        try revert HO
        try revert HB
        try revert hrel
        try revert hI
        try revert hj3
        try revert hj1
        try revert round
        try revert toNat
        try revert intOf
        try revert RowKit
        try revert InR
        try revert n
        try revert take
        try revert intsE
        try revert isV
        try revert ns
        try revert j
        try revert wr
        try revert s9
        try revert s8
        try revert bytes
        try revert zero
        try revert map
        try revert info
        try revert prog
        try revert hz2
        try revert hz1
        try revert hz0
        try revert hi0
        try revert i0
        try revert hb
        try revert W
        try revert H00
        try revert HS0
        try revert HWm
        try revert tell
        try revert HL0
        try revert hnw
        try revert nw
        try revert dsimp
        try revert wv0
        try revert ws0
        try revert no0
        try revert hsh0
        try revert hc
        try revert hg
        try revert sub
        try revert h3
        try revert sv
        try revert Bs
        try revert i
        try revert hwm0
        try revert hw0
        try revert wc0
        try revert wa0
        try revert hq0
        try revert h00
        try revert hnz3
        try revert hnz2
        try revert hnz
        try revert HCL
        try revert HgL
        try revert form
        try revert h4
        try revert c
        try revert i64
        try revert int
        try revert cell
        try revert k
        try revert hcL
        try revert hgL
        try revert hga
        try revert oL
        try revert gL
        try revert r
        try revert a
        try revert cons
        try revert symm
        try revert absurd
        try revert nil
        try revert hps
        try revert qs
        try revert q0
        try revert re_nil
        try revert hz
        try revert own
        try revert lt
        try revert h1
        try revert hn
        try revert ha
        try revert off
        try revert g
        try revert HgB
        try revert hW0s
        try revert HLe
        try revert HTl
        try revert HSh
        try revert hx
        try revert x
        try revert lf
        try revert Lr
        try revert slice
        try revert Lf
        try revert HLf
        try revert hq
        try revert q
        try revert hmm
        try revert bad
        try revert R11
        try revert set4E
        try revert go_wp2
        try revert re_no
        try revert fe0
        try revert reV
        try revert HTV
        try revert f23
        try revert f22
        try revert f21
        try revert frozen
        try revert f20
        try revert k23
        try revert k22
        try revert k21
        try revert k20
        try revert HR
        try revert true
        try revert h0n
        try revert false
        try revert h0'
        try revert h0
        try revert hnl2
        try revert length
        try revert hnl
        try revert nl
        try revert hal
        try revert al
        try revert rdV
        try revert her
        try revert er
        try revert trans
        try revert later
        try revert H1
        try revert hb1
        try revert hlen
        try revert htell
        try revert hLr
        try revert ps
        try revert c1
        try revert a1
        try revert W1
        try revert e
        try revert mono
        try revert ntmps
        try revert Read
        try revert F
        try revert func
        try revert A
        try revert H0
        try revert readDE
        try revert HRd
        try revert HP
        try revert new
        try revert CB
        try revert c0
        try revert refl
        try revert size
        try revert heap
        try revert b0
        try revert _
        try revert File
        try revert T
        try revert fe4
        try revert cells
        try revert alloc
        try revert hW0
        try revert W0
        try revert hl
        try revert ht
        try revert w
        try revert t
        try revert s
        try revert hp
        try revert u319
        try revert u318
        try revert u317
        try revert u316
        try revert u315
        try revert u314
        try revert u313
        try revert u312
        try revert u311
        try revert u310
        try revert u309
        try revert u308
        try revert u307
        try revert u306
        try revert u305
        try revert u304
        try revert u303
        try revert u302
        try revert u301
        try revert u300
        try revert u299
        try revert u298
        try revert u297
        try revert u296
        try revert u295
        try revert u294
        try revert u293
        try revert u292
        try revert u291
        try revert u290
        try revert u289
        try revert u288
        try revert u287
        try revert u286
        try revert u285
        try revert u284
        try revert u283
        try revert u282
        try revert u281
        try revert u280
        try revert u279
        try revert u278
        try revert u277
        try revert u276
        try revert u275
        try revert u274
        try revert u273
        try revert u272
        try revert u271
        try revert u270
        try revert u269
        try revert u268
        try revert u267
        try revert u266
        try revert u265
        try revert u264
        try revert u263
        try revert u262
        try revert u261
        try revert u260
        try revert u259
        try revert u258
        try revert u257
        try revert u256
        try revert u255
        try revert u254
        try revert u253
        try revert u252
        try revert u251
        try revert u250
        try revert u249
        try revert u248
        try revert u247
        try revert u246
        try revert u245
        try revert u244
        try revert u243
        try revert u242
        try revert u241
        try revert u240
        try revert u239
        try revert u238
        try revert u237
        try revert u236
        try revert u235
        try revert u234
        try revert u233
        try revert u232
        try revert u231
        try revert u230
        try revert u229
        try revert u228
        try revert u227
        try revert u226
        try revert u225
        try revert u224
        try revert u223
        try revert u222
        try revert u221
        try revert u220
        try revert u219
        try revert u218
        try revert u217
        try revert u216
        try revert u215
        try revert u214
        try revert u213
        try revert u212
        try revert u211
        try revert u210
        try revert u209
        try revert u208
        try revert u207
        try revert u206
        try revert u205
        try revert u204
        try revert u203
        try revert u202
        try revert u201
        try revert u200
        try revert u199
        try revert u198
        try revert u197
        try revert u196
        try revert u195
        try revert u194
        try revert u193
        try revert u192
        try revert u191
        try revert u190
        try revert u189
        try revert u188
        try revert u187
        try revert u186
        try revert u185
        try revert u184
        try revert u183
        try revert u182
        try revert u181
        try revert u180
        try revert u179
        try revert u178
        try revert u177
        try revert u176
        try revert u175
        try revert u174
        try revert u173
        try revert u172
        try revert u171
        try revert u170
        try revert u169
        try revert u168
        try revert u167
        try revert u166
        try revert u165
        try revert u164
        try revert u163
        try revert u162
        try revert u161
        try revert u160
        try revert u159
        try revert u158
        try revert u157
        try revert u156
        try revert u155
        try revert u154
        try revert u153
        try revert u152
        try revert u151
        try revert u150
        try revert u149
        try revert u148
        try revert u147
        try revert u146
        try revert u145
        try revert u144
        try revert u143
        try revert u142
        try revert u141
        try revert u140
        try revert u139
        try revert u138
        try revert u137
        try revert u136
        try revert u135
        try revert u134
        try revert u133
        try revert u132
        try revert u131
        try revert u130
        try revert u129
        try revert u128
        try revert u127
        try revert u126
        try revert u125
        try revert u124
        try revert u123
        try revert u122
        try revert u121
        try revert u120
        try revert u119
        try revert u118
        try revert u117
        try revert u116
        try revert u115
        try revert u114
        try revert u113
        try revert u112
        try revert u111
        try revert u110
        try revert u109
        try revert u108
        try revert u107
        try revert u106
        try revert u105
        try revert u104
        try revert u103
        try revert u102
        try revert u101
        try revert u100
        try revert u99
        try revert u98
        try revert u97
        try revert u96
        try revert u95
        try revert u94
        try revert u93
        try revert u92
        try revert u91
        try revert u90
        try revert u89
        try revert u88
        try revert u87
        try revert u86
        try revert u85
        try revert u84
        try revert u83
        try revert u82
        try revert u81
        try revert u80
        try revert u79
        try revert u78
        try revert u77
        try revert u76
        try revert u75
        try revert u74
        try revert u73
        try revert u72
        try revert u71
        try revert u70
        try revert u69
        try revert u68
        try revert u67
        try revert u66
        try revert u65
        try revert u64
        try revert u63
        try revert u62
        try revert u61
        try revert u60
        try revert u59
        try revert u58
        try revert u57
        try revert u56
        try revert u55
        try revert u54
        try revert u53
        try revert u52
        try revert u51
        try revert u50
        try revert u49
        try revert u48
        try revert u47
        try revert u46
        try revert u45
        try revert u44
        try revert u43
        try revert u42
        try revert u41
        try revert u40
        try revert u39
        try revert u38
        try revert u37
        try revert u36
        try revert u35
        try revert u34
        try revert u33
        try revert u32
        try revert u31
        try revert u30
        try revert u29
        try revert u28
        try revert u27
        try revert u26
        try revert u25
        try revert u24
        try revert u23
        try revert u22
        try revert u21
        try revert u20
        try revert u19
        try revert u18
        try revert u17
        try revert u16
        try revert u15
        try revert u14
        try revert u13
        try revert u12
        try revert u11
        try revert u10
        try revert u9
        try revert u8
        try revert u7
        try revert u6
        try revert u5
        try revert u4
        try revert u3
        try revert u2
        try revert u1
        try revert u0
        try revert p
        exact @Cap.get _ cUt2
end Go.Proofs.YtgfloegaoofbbaaDoor
