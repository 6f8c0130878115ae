import Derived.Test.YtgfloegaoofbbaaDoorEl00
/- refRead11_any: part El0b of a long walk. (capt.py) -/
/- The document's side of layer 11: Read. (gen_ekb.py) -/
namespace Go.Proofs.YtgfloegaoofbbaaDoor
set_option maxRecDepth 100000
open Go.RowKit Go.Shelf Go.Lib
attribute [local go_sem] run_store_str run_store_float
set_option maxHeartbeats 64000000 in
def el0b_c : Cut1 (el00_c.P2) := by
  apply Cut1.mk
  focus
    intro cUt1
    intro p
    unhygienic intros
    obtain ⟨V, hV⟩ : ∃ X, X = wr := ⟨_, rfl⟩
    subst hV
    have HR1 : Hid (∀ W, Below V.heap.size V W → CB W w.heap.size fe4 24 ∧ Below w.heap.size w W) := Lib.hid (fun W h => ⟨H1.out.1.later (HB.out.trans (h.mono HB.out.size)), H1.out.2.1.trans ((HB.out.trans (h.mono HB.out.size)).mono (Nat.le_of_lt H1.out.2.2))⟩)
    have HK0 : Hid (∀ W, Below V.heap.size V W → W.cell? ⟨gL, oL, none⟩ = some (.int .i64 (no0 : Nat)) ∧ W.cell? ⟨gL, oL + 1, none⟩ = some (.slice wa0 j wc0)) := Lib.hid (fun W h => H00.out W (HB.out.trans (h.mono HB.out.size)))
    by_cases h3 : j = 3
    rotate_left
    · obtain ⟨ha, hc, hu8⟩ := own_sliceE HO.out
      rw [HN.out.1] at hu8
      subst hu8
      have d1 : ((j : Int) != 3) = true := by rw [bne_iff_ne]; omega
      have HBad : Hid (heP ws0 = none) := Lib.hid (heP_no (Or.inl (by rw [hnw.out]; exact h3)))
      clear z0 HO h3
      as_aux_lemma =>
      obtain ⟨We, hWe⟩ : ∃ X, (V).drew = X := ⟨_, rfl⟩
      have HR : Hid (CB We w.heap.size fe4 24 ∧ Below w.heap.size w We) := Lib.hid (by rw [← hWe]; exact ⟨(HR1.out _ (Below.drew (Below.refl _ V))).1, Below.drew (HR1.out V (Below.refl _ _)).2⟩)
      have l2 : We.cell? ⟨gL, oL, none⟩ = some (.int .i64 (no0 : Nat)) := by rw [← hWe]; exact (HK0.out V (Below.refl _ _)).1
      obtain ⟨k20, k21, k22, k23⟩ := HR.out.1.cells4E
      have f20 := HR.out.1.frozen 0
      have f21 := HR.out.1.frozen 1
      have f22 := HR.out.1.frozen 2
      have f23 := HR.out.1.frozen 3
      have HTV := Lib.hid (show reV p t = (fe0, no0, (4 : Int)) from hd_bad her.out HL0.out HBad.out)
      have hgn : gL ≠ w.heap.size := HgL.out.1
      have hgn2 : w.heap.size ≠ gL := HgL.out.2
      go_wp2_with fail
      go_region
      all_goals
        go_wp2
        refine bodyPost_ret (res_ref11 _ w.heap.size _ _ _ _ _ _ _ (set4E HR.out.1 _ _ _ _) rfl rfl rfl) rfl ?_
        exact R11.bad (set4_bel HR.out.2 _ _ _ _) HTV.out
    subst h3
    obtain ⟨n, c, k, hns⟩ := ints3 (ws := ws0) (by rw [hnw.out]; omega) (show intsE (ws0.take 3) = some ns from HN.out.2.1)
    subst hns
    obtain ⟨gh, hc, hu8, hgh, hghl, _, _, hcl, _⟩ := own_cellE HO.out (by simp)
    subst hu8
    have HCh : Hid (∀ W, Below V.heap.size V W → W.cell? ⟨gh, 0, none⟩ = some (.int .i64 n) ∧ W.cell? ⟨gh, 1, none⟩ = some (.int .i64 c) ∧ W.cell? ⟨gh, 2, none⟩ = some (.int .i64 k)) := Lib.hid (fun W h => ⟨cell_later h hghl (hcl 0 _ rfl), cell_later h hghl (hcl 1 _ rfl), cell_later h hghl (hcl 2 _ rfl)⟩)
    have hHe := heP_is (ws := ws0) (n := n) (t := c) (k := k) hnw.out HN.out.2.1
    have HHe := Lib.hid hHe
    obtain ⟨y0, y1, y2⟩ := HCh.out V (Below.refl _ _)
    clear hcl hgh hghl hHe HO
    simp only [List.length_cons, List.length_nil, Nat.reduceAdd]
    by_cases hok : 0 ≤ n ∧ 0 ≤ k ∧ (c = 3 ∨ c = 6)
    rotate_left
    · have HBad : Hid (heP ws0 = none) := Lib.hid (by rw [HHe.out, if_neg hok])
      by_cases q1 : n < 0
      · clear hok z0
        as_aux_lemma =>
        obtain ⟨We, hWe⟩ : ∃ X, (V).drew = X := ⟨_, rfl⟩
        have HR : Hid (CB We w.heap.size fe4 24 ∧ Below w.heap.size w We) := Lib.hid (by rw [← hWe]; exact ⟨(HR1.out _ (Below.drew (Below.refl _ V))).1, Below.drew (HR1.out V (Below.refl _ _)).2⟩)
        have l2 : We.cell? ⟨gL, oL, none⟩ = some (.int .i64 (no0 : Nat)) := by rw [← hWe]; exact (HK0.out V (Below.refl _ _)).1
        obtain ⟨k20, k21, k22, k23⟩ := HR.out.1.cells4E
        have f20 := HR.out.1.frozen 0
        have f21 := HR.out.1.frozen 1
        have f22 := HR.out.1.frozen 2
        have f23 := HR.out.1.frozen 3
        have HTV := Lib.hid (show reV p t = (fe0, no0, (4 : Int)) from hd_bad her.out HL0.out HBad.out)
        have hgn : gL ≠ w.heap.size := HgL.out.1
        have hgn2 : w.heap.size ≠ gL := HgL.out.2
        go_wp2_with fail
        go_region
        all_goals
          go_wp2
          refine bodyPost_ret (res_ref11 _ w.heap.size _ _ _ _ _ _ _ (set4E HR.out.1 _ _ _ _) rfl rfl rfl) rfl ?_
          exact R11.bad (set4_bel HR.out.2 _ _ _ _) HTV.out
      by_cases q2 : k < 0
      · clear hok z0
        as_aux_lemma =>
        obtain ⟨We, hWe⟩ : ∃ X, (V).drew = X := ⟨_, rfl⟩
        have HR : Hid (CB We w.heap.size fe4 24 ∧ Below w.heap.size w We) := Lib.hid (by rw [← hWe]; exact ⟨(HR1.out _ (Below.drew (Below.refl _ V))).1, Below.drew (HR1.out V (Below.refl _ _)).2⟩)
        have l2 : We.cell? ⟨gL, oL, none⟩ = some (.int .i64 (no0 : Nat)) := by rw [← hWe]; exact (HK0.out V (Below.refl _ _)).1
        obtain ⟨k20, k21, k22, k23⟩ := HR.out.1.cells4E
        have f20 := HR.out.1.frozen 0
        have f21 := HR.out.1.frozen 1
        have f22 := HR.out.1.frozen 2
        have f23 := HR.out.1.frozen 3
        have HTV := Lib.hid (show reV p t = (fe0, no0, (4 : Int)) from hd_bad her.out HL0.out HBad.out)
        have hgn : gL ≠ w.heap.size := HgL.out.1
        have hgn2 : w.heap.size ≠ gL := HgL.out.2
        go_wp2_with fail
        go_region
        all_goals
          go_wp2
          refine bodyPost_ret (res_ref11 _ w.heap.size _ _ _ _ _ _ _ (set4E HR.out.1 _ _ _ _) rfl rfl rfl) rfl ?_
          exact R11.bad (set4_bel HR.out.2 _ _ _ _) HTV.out
      have d1 : (c != 3) = true := by rw [bne_iff_ne]; intro e; exact hok ⟨by omega, by omega, Or.inl e⟩
      have d2 : (c != 6) = true := by rw [bne_iff_ne]; intro e; exact hok ⟨by omega, by omega, Or.inr e⟩
      clear hok z0
      as_aux_lemma =>
      obtain ⟨We, hWe⟩ : ∃ X, (V).drew = X := ⟨_, rfl⟩
      have HR : Hid (CB We w.heap.size fe4 24 ∧ Below w.heap.size w We) := Lib.hid (by rw [← hWe]; exact ⟨(HR1.out _ (Below.drew (Below.refl _ V))).1, Below.drew (HR1.out V (Below.refl _ _)).2⟩)
      have l2 : We.cell? ⟨gL, oL, none⟩ = some (.int .i64 (no0 : Nat)) := by rw [← hWe]; exact (HK0.out V (Below.refl _ _)).1
      obtain ⟨k20, k21, k22, k23⟩ := HR.out.1.cells4E
      have f20 := HR.out.1.frozen 0
      have f21 := HR.out.1.frozen 1
      have f22 := HR.out.1.frozen 2
      have f23 := HR.out.1.frozen 3
      have HTV := Lib.hid (show reV p t = (fe0, no0, (4 : Int)) from hd_bad her.out HL0.out HBad.out)
      have hgn : gL ≠ w.heap.size := HgL.out.1
      have hgn2 : w.heap.size ≠ gL := HgL.out.2
      go_wp2_with fail
      go_region
      all_goals
        go_wp2
        refine bodyPost_ret (res_ref11 _ w.heap.size _ _ _ _ _ _ _ (set4E HR.out.1 _ _ _ _) rfl rfl rfl) rfl ?_
        exact R11.bad (set4_bel HR.out.2 _ _ _ _) HTV.out
    obtain ⟨hn0, hk0, hc36⟩ := hok
    obtain ⟨nn, rfl⟩ : ∃ m : Nat, n = (m : Nat) := ⟨n.toNat, by omega⟩
    obtain ⟨cc, rfl⟩ : ∃ m : Nat, c = (m : Nat) := ⟨c.toNat, by omega⟩
    obtain ⟨kk, rfl⟩ : ∃ m : Nat, k = (m : Nat) := ⟨k.toNat, by omega⟩
    have HHP : Hid (heP ws0 = some (nn, cc, kk)) := Lib.hid (by rw [HHe.out, if_pos ⟨hn0, hk0, hc36⟩]; simp)
    have hcc : 3 ≤ cc ∧ cc ≤ 6 := by omega
    have g1 : ¬ ((nn : Int) < 0) := by omega
    have g2 : ¬ ((kk : Int) < 0) := by omega
    clear HHe z0
    go_upto_region 14 with fail
    go_cut [100] (fun b wx => b = .bool false ∧ wx = V)
    case first =>
      rcases hc36 with e | e
      · have d1 : (((cc : Nat) : Int) != 3) = false := by rw [e]; rfl
        clear e
        go_wp2_with fail
        go_meet
        exact ⟨rfl, rfl⟩
      · have d1 : (((cc : Nat) : Int) != 3) = true := by rw [e]; rfl
        have d2 : (((cc : Nat) : Int) != 6) = false := by rw [e]; rfl
        clear e
        go_wp2_with fail
        go_meet
        exact ⟨rfl, rfl⟩
    case rest =>
     focus
      (repeat (rename_i xqEl0b; revert xqEl0b))
      (repeat (revert xqEl00))
      try revert xqEl00_1
      try revert xqEl00_2
      try revert xqEl00_3
      try revert xqEl00_4
      try revert xqEl00_5
      try revert xqEl00_6
      try revert xqEl00_7
      try revert xqEl00_8
      try revert xqEl00_9
      try revert xqEl00_10
      try revert xqEl00_11
      try revert s2r
      try revert rest
      try revert bool
      try revert wx
      try revert b
      try revert go_cut
      try revert g2
      try revert g1
      try revert hcc
      try revert if_pos
      try revert HHP
      try revert kk
      try revert cc
      try revert m
      try revert nn
      try revert hc36
      try revert hk0
      try revert hn0
      try revert inr
      try revert d2
      try revert q2
      try revert q1
      try revert if_neg
      try revert hok
      try revert y2
      try revert y1
      try revert y0
      try revert HHe
      try revert heP_is
      try revert hHe
      try revert HCh
      try revert hcl
      try revert hghl
      try revert hgh
      try revert gh
      try revert ws
      try revert ints3
      try revert hns
      try revert hgn2
      try revert hgn
      try revert hd_bad
      try revert l2
      try revert drew
      try revert hWe
      try revert We
      try revert inl
      try revert Or
      try revert heP_no
      try revert heP
      try revert HBad
      try revert d1
      try revert hu8
      try revert HK0
      try revert h
      try revert HR1
      try revert X
      try revert hV
      try revert V
      try revert s2
      try revert hlt'
      try revert lp1
      try revert hlt
      try revert z1
      try revert z0
      try revert And
      try revert HN
      try revert HO
      try revert HB
      try revert hrel
      try revert hI
      try revert hj3
      try revert hj1
      try revert round
      try revert toNat
      try revert intOf
      try revert RowKit
      try revert InR
      try revert n
      try revert take
      try revert intsE
      try revert isV
      try revert ns
      try revert j
      try revert wr
      try revert s9
      try revert s8
      try revert bytes
      try revert zero
      try revert map
      try revert info
      try revert prog
      try revert hz2
      try revert hz1
      try revert hz0
      try revert hi0
      try revert i0
      try revert hb
      try revert W
      try revert H00
      try revert HS0
      try revert HWm
      try revert tell
      try revert HL0
      try revert hnw
      try revert nw
      try revert dsimp
      try revert wv0
      try revert ws0
      try revert no0
      try revert hsh0
      try revert hc
      try revert hg
      try revert sub
      try revert h3
      try revert sv
      try revert Bs
      try revert i
      try revert hwm0
      try revert hw0
      try revert wc0
      try revert wa0
      try revert hq0
      try revert h00
      try revert hnz3
      try revert hnz2
      try revert hnz
      try revert HCL
      try revert HgL
      try revert form
      try revert h4
      try revert c
      try revert i64
      try revert int
      try revert cell
      try revert k
      try revert hcL
      try revert hgL
      try revert hga
      try revert oL
      try revert gL
      try revert r
      try revert a
      try revert cons
      try revert symm
      try revert absurd
      try revert nil
      try revert hps
      try revert qs
      try revert q0
      try revert re_nil
      try revert hz
      try revert own
      try revert lt
      try revert h1
      try revert hn
      try revert ha
      try revert off
      try revert g
      try revert HgB
      try revert hW0s
      try revert HLe
      try revert HTl
      try revert HSh
      try revert hx
      try revert x
      try revert lf
      try revert Lr
      try revert slice
      try revert Lf
      try revert HLf
      try revert hq
      try revert q
      try revert hmm
      try revert bad
      try revert R11
      try revert set4E
      try revert go_wp2
      try revert re_no
      try revert fe0
      try revert reV
      try revert HTV
      try revert f23
      try revert f22
      try revert f21
      try revert frozen
      try revert f20
      try revert k23
      try revert k22
      try revert k21
      try revert k20
      try revert HR
      try revert true
      try revert h0n
      try revert false
      try revert h0'
      try revert h0
      try revert hnl2
      try revert length
      try revert hnl
      try revert nl
      try revert hal
      try revert al
      try revert rdV
      try revert her
      try revert er
      try revert trans
      try revert later
      try revert H1
      try revert hb1
      try revert hlen
      try revert htell
      try revert hLr
      try revert ps
      try revert c1
      try revert a1
      try revert W1
      try revert e
      try revert mono
      try revert ntmps
      try revert Read
      try revert F
      try revert func
      try revert A
      try revert H0
      try revert readDE
      try revert HRd
      try revert HP
      try revert new
      try revert CB
      try revert c0
      try revert refl
      try revert size
      try revert heap
      try revert b0
      try revert _
      try revert File
      try revert T
      try revert fe4
      try revert cells
      try revert alloc
      try revert hW0
      try revert W0
      try revert hl
      try revert ht
      try revert w
      try revert t
      try revert s
      try revert hp
      try revert w0
      try revert hrel
      try revert hwc
      try revert wo
      try revert wl
      try revert wr
      try revert wc
      try revert u339
      try revert u338
      try revert u337
      try revert u336
      try revert u335
      try revert u334
      try revert u333
      try revert u332
      try revert u331
      try revert u330
      try revert u329
      try revert u328
      try revert u327
      try revert u326
      try revert u325
      try revert u324
      try revert u323
      try revert u322
      try revert u321
      try revert u320
      try revert u319
      try revert u318
      try revert u317
      try revert u316
      try revert u315
      try revert u314
      try revert u313
      try revert u312
      try revert u311
      try revert u310
      try revert u309
      try revert u308
      try revert u307
      try revert u306
      try revert u305
      try revert u304
      try revert u303
      try revert u302
      try revert u301
      try revert u300
      try revert u299
      try revert u298
      try revert u297
      try revert u296
      try revert u295
      try revert u294
      try revert u293
      try revert u292
      try revert u291
      try revert u290
      try revert u289
      try revert u288
      try revert u287
      try revert u286
      try revert u285
      try revert u284
      try revert u283
      try revert u282
      try revert u281
      try revert u280
      try revert u279
      try revert u278
      try revert u277
      try revert u276
      try revert u275
      try revert u274
      try revert u273
      try revert u272
      try revert u271
      try revert u270
      try revert u269
      try revert u268
      try revert u267
      try revert u266
      try revert u265
      try revert u264
      try revert u263
      try revert u262
      try revert u261
      try revert u260
      try revert u259
      try revert u258
      try revert u257
      try revert u256
      try revert u255
      try revert u254
      try revert u253
      try revert u252
      try revert u251
      try revert u250
      try revert u249
      try revert u248
      try revert u247
      try revert u246
      try revert u245
      try revert u244
      try revert u243
      try revert u242
      try revert u241
      try revert u240
      try revert u239
      try revert u238
      try revert u237
      try revert u236
      try revert u235
      try revert u234
      try revert u233
      try revert u232
      try revert u231
      try revert u230
      try revert u229
      try revert u228
      try revert u227
      try revert u226
      try revert u225
      try revert u224
      try revert u223
      try revert u222
      try revert u221
      try revert u220
      try revert u219
      try revert u218
      try revert u217
      try revert u216
      try revert u215
      try revert u214
      try revert u213
      try revert u212
      try revert u211
      try revert u210
      try revert u209
      try revert u208
      try revert u207
      try revert u206
      try revert u205
      try revert u204
      try revert u203
      try revert u202
      try revert u201
      try revert u200
      try revert u199
      try revert u198
      try revert u197
      try revert u196
      try revert u195
      try revert u194
      try revert u193
      try revert u192
      try revert u191
      try revert u190
      try revert u189
      try revert u188
      try revert u187
      try revert u186
      try revert u185
      try revert u184
      try revert u183
      try revert u182
      try revert u181
      try revert u180
      try revert u179
      try revert u178
      try revert u177
      try revert u176
      try revert u175
      try revert u174
      try revert u173
      try revert u172
      try revert u171
      try revert u170
      try revert u169
      try revert u168
      try revert u167
      try revert u166
      try revert u165
      try revert u164
      try revert u163
      try revert u162
      try revert u161
      try revert u160
      try revert u159
      try revert u158
      try revert u157
      try revert u156
      try revert u155
      try revert u154
      try revert u153
      try revert u152
      try revert u151
      try revert u150
      try revert u149
      try revert u148
      try revert u147
      try revert u146
      try revert u145
      try revert u144
      try revert u143
      try revert u142
      try revert u141
      try revert u140
      try revert u139
      try revert u138
      try revert u137
      try revert u136
      try revert u135
      try revert u134
      try revert u133
      try revert u132
      try revert u131
      try revert u130
      try revert u129
      try revert u128
      try revert u127
      try revert u126
      try revert u125
      try revert u124
      try revert u123
      try revert u122
      try revert u121
      try revert u120
      try revert u119
      try revert u118
      try revert u117
      try revert u116
      try revert u115
      try revert u114
      try revert u113
      try revert u112
      try revert u111
      try revert u110
      try revert u109
      try revert u108
      try revert u107
      try revert u106
      try revert u105
      try revert u104
      try revert u103
      try revert u102
      try revert u101
      try revert u100
      try revert u99
      try revert u98
      try revert u97
      try revert u96
      try revert u95
      try revert u94
      try revert u93
      try revert u92
      try revert u91
      try revert u90
      try revert u89
      try revert u88
      try revert u87
      try revert u86
      try revert u85
      try revert u84
      try revert u83
      try revert u82
      try revert u81
      try revert u80
      try revert u79
      try revert u78
      try revert u77
      try revert u76
      try revert u75
      try revert u74
      try revert u73
      try revert u72
      try revert u71
      try revert u70
      try revert u69
      try revert u68
      try revert u67
      try revert u66
      try revert u65
      try revert u64
      try revert u63
      try revert u62
      try revert u61
      try revert u60
      try revert u59
      try revert u58
      try revert u57
      try revert u56
      try revert u55
      try revert u54
      try revert u53
      try revert u52
      try revert u51
      try revert u50
      try revert u49
      try revert u48
      try revert u47
      try revert u46
      try revert u45
      try revert u44
      try revert u43
      try revert u42
      try revert u41
      try revert u40
      try revert u39
      try revert u38
      try revert u37
      try revert u36
      try revert u35
      try revert u34
      try revert u33
      try revert u32
      try revert u31
      try revert u30
      try revert u29
      try revert u28
      try revert u27
      try revert u26
      try revert u25
      try revert u24
      try revert u23
      try revert u22
      try revert u21
      try revert u20
      try revert u19
      try revert u18
      try revert u17
      try revert u16
      try revert u15
      try revert u14
      try revert u13
      try revert u12
      try revert u11
      try revert u10
      try revert u9
      try revert u8
      try revert u7
      try revert u6
      try revert u5
      try revert u4
      try revert u3
      try revert u2
      try revert u1
      try revert u0
      try revert p
      exact @Cap.get _ cUt1
end Go.Proofs.YtgfloegaoofbbaaDoor
