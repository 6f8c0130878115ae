import Derived.Test.YtgfloegaoofbbaaDoorEl0c
/- refRead11_any: part El0d of a long walk. (capt.py) -/
/- The document's side of layer 11: Read. (gen_ekb.py) -/
namespace Go.Proofs.YtgfloegaoofbbaaDoor
set_option maxRecDepth 100000
open Go.RowKit Go.Shelf Go.Lib
attribute [local go_sem] run_store_str run_store_float
set_option maxHeartbeats 64000000 in
def el0d_c : Cut2 (el0c_c.P1) := by
  apply Cut2.mk
  focus
    intro cUt1 cUt2
    intro p
    unhygienic intros
    clear HV2
    obtain ⟨jj, i, f, lv, rs, rfl, hij, hi1, hi2, hf1, hI⟩ := hrel
    have HIj := Lib.hid hij
    have hij1 : jj + 1 ≤ i := by omega
    have hij2 : i ≤ jj + 1 := by omega
    clear hij
    obtain ⟨Wi, hWi⟩ : ∃ X, X = wr := ⟨_, rfl⟩
    subst hWi
    have HZ := Lib.hid hI.out.1
    have HRl := Lib.hid hI.out.2.1
    have HFf := Lib.hid hI.out.2.2.1
    have HGo := Lib.hid hI.out.2.2.2
    clear hI
    obtain ⟨la, lc, hlv⟩ := own_sliceE HZ.out.eo.own
    rw [HRl.out] at hlv
    subst hlv
    obtain ⟨y0, y1, y2, y3⟩ := HZ.out.fb.cells4E
    obtain ⟨x0, x1, x2⟩ := HCh.out Wi HZ.out.bel
    by_cases hlt : i < nl
    rotate_left
    · focus
      (repeat (rename_i xqEl0d; first | (have hQq : Value := xqEl0d; clear hQq; clear xqEl0d) | (have hQq : Act → World → Prop := xqEl0d; clear hQq; clear xqEl0d) | revert xqEl0d))
      revert xqEl0c
      revert xqEl0c_1
      clear xqEl0c_2 xqEl0c_3 xqEl0c_4 xqEl0c_5 xqEl0c_6 xqEl0c_7 xqEl0c_8 xqEl0c_9 xqEl0c_10 xqEl0c_11 xqEl0c_12 xqEl0c_13 xqEl0c_14 xqEl0c_15 xqEl0c_16 xqEl0c_17 xqEl0c_18 xqEl0c_19 xqEl0c_20 xqEl0c_21 xqEl0c_22 xqEl0c_23 xqEl0c_24 xqEl0c_25 xqEl0c_26 xqEl0c_27 xqEl0c_28 xqEl0c_29 xqEl0c_30 xqEl0c_31 xqEl0c_32 xqEl0c_33 xqEl0c_34 xqEl0c_35 xqEl0c_36 xqEl0c_37 xqEl0c_38 xqEl0c_39 xqEl0c_40 xqEl0c_41 xqEl0c_42 xqEl0c_43 xqEl0c_44 xqEl0c_45 xqEl0c_46 xqEl0c_47 xqEl0c_48 xqEl0c_49 xqEl0c_50 xqEl0c_51 xqEl0c_52 xqEl0c_53 xqEl0c_54 xqEl0c_55 xqEl0c_56 xqEl0c_57 xqEl0c_58 xqEl0c_59 xqEl0c_60 xqEl0c_61 xqEl0c_62
      clear xqEl0c_63 xqEl0c_64 xqEl0c_65 xqEl0c_66 xqEl0c_67 xqEl0c_68 xqEl0c_69 xqEl0c_70 xqEl0c_71 xqEl0c_72 xqEl0c_73 xqEl0c_74 xqEl0c_75 xqEl0c_76 xqEl0c_77 xqEl0c_78 xqEl0c_79 xqEl0c_80 xqEl0c_81 xqEl0c_82 xqEl0c_83 xqEl0c_84 xqEl0c_85 xqEl0c_86 xqEl0c_87 xqEl0c_88 xqEl0c_89 xqEl0c_90 xqEl0c_91 xqEl0c_92 xqEl0c_93 xqEl0c_94 xqEl0c_95 xqEl0c_96 xqEl0c_97 xqEl0c_98 xqEl0c_99 xqEl0c_100 xqEl0c_101 xqEl0c_102 xqEl0c_103 xqEl0c_104 xqEl0c_105 xqEl0c_106 xqEl0c_107 xqEl0c_108 xqEl0c_109 xqEl0c_110 xqEl0c_111 xqEl0c_112 xqEl0c_113 xqEl0c_114 xqEl0c_115 xqEl0c_116 xqEl0c_117 xqEl0c_118 xqEl0c_119 xqEl0c_120
      clear xqEl0c_121 xqEl0c_122 xqEl0c_123 xqEl0c_124 xqEl0c_125 xqEl0c_126 xqEl0c_127 xqEl0c_128 xqEl0c_129 xqEl0c_130 xqEl0c_131 xqEl0c_132 xqEl0c_133 xqEl0c_134 xqEl0c_135 xqEl0c_136 xqEl0c_137 xqEl0c_138 xqEl0c_139 xqEl0c_140 xqEl0c_141 xqEl0c_142 xqEl0c_143 xqEl0c_144 xqEl0c_145 xqEl0c_146 xqEl0c_147 xqEl0c_148 xqEl0c_149 xqEl0c_150 xqEl0c_151 xqEl0c_152 xqEl0c_153 xqEl0c_154 xqEl0c_155 xqEl0c_156 xqEl0c_157 xqEl0c_158 xqEl0c_159 xqEl0c_160 xqEl0c_161 xqEl0c_162 xqEl0c_163 xqEl0c_164 xqEl0c_165 xqEl0c_166 xqEl0c_167 xqEl0c_168 xqEl0c_169 xqEl0c_170 xqEl0c_171 xqEl0c_172 xqEl0c_173 xqEl0c_174 xqEl0c_175
      revert xqEl0c_176
      revert xqEl0b
      revert xqEl0b_1
      revert xqEl0b_2
      revert xqEl0b_3
      revert xqEl0b_4
      revert xqEl0b_5
      revert xqEl0b_6
      revert xqEl0b_7
      revert xqEl0b_8
      revert xqEl0b_9
      revert xqEl0b_10
      revert xqEl0b_11
      revert xqEl0b_12
      revert xqEl0b_13
      revert xqEl0b_14
      revert xqEl0b_15
      revert xqEl0b_16
      revert xqEl0b_17
      revert xqEl0b_18
      revert xqEl0b_19
      revert xqEl0b_20
      revert xqEl0b_21
      revert xqEl0b_22
      revert xqEl0b_23
      revert xqEl0b_24
      revert xqEl0b_25
      revert xqEl0b_26
      revert xqEl0b_27
      revert xqEl0b_28
      revert xqEl0b_29
      revert xqEl0b_30
      revert xqEl0b_31
      revert xqEl0b_32
      revert xqEl0b_33
      revert xqEl0b_34
      revert xqEl0b_35
      revert xqEl0b_36
      revert xqEl0b_37
      revert xqEl0b_39
      revert xqEl00
      revert xqEl00_1
      (repeat (revert hm'))
      (repeat (revert n1'))
      (repeat (revert n0'))
      revert x2
      revert x1
      revert x0
      revert y3
      revert lc
      revert la
      revert HGo
      revert HFf
      revert HRl
      revert Wi
      revert hij2
      revert hij1
      revert HIj
      revert hf1
      revert hi2
      revert hi1
      revert rs
      revert f
      revert jj
      revert HF1
      revert HLl
      revert hL
      revert L
      revert V2
      revert Bf
      revert V1
      revert hkk
      revert hnn
      revert hVc
      revert hcc
      revert HHP
      revert kk
      revert cc
      revert nn
      revert gh
      revert HK0
      revert HR1
      revert V
      (repeat (revert hlt'))
      revert hlt
      revert hj3
      revert hj1
      revert hz2
      revert hz1
      revert hz0
      revert hi0
      revert i0
      revert H00
      revert HS0
      revert HWm
      revert HL0
      revert hnw
      revert ws0
      revert no0
      revert hc
      revert i
      revert wc0
      revert wa0
      revert hnz3
      revert hnz2
      revert hnz
      revert HCL
      revert HgL
      revert oL
      revert gL
      revert qs
      revert hW0s
      revert HLe
      revert HTl
      revert HSh
      (repeat (revert h0'))
      revert hnl2
      revert hnl
      revert nl
      revert hal
      revert al
      revert her
      revert H1
      revert ps
      revert c1
      revert W1
      revert HP
      revert W0
      revert w
      revert t
      revert s
      revert u310
      revert u309
      revert u308
      revert u307
      revert u306
      revert u305
      revert u304
      revert u303
      revert u302
      revert u301
      revert u300
      revert u299
      revert u298
      revert u297
      revert u296
      revert u295
      revert u294
      revert u293
      revert u292
      revert u291
      revert u290
      revert u289
      revert u288
      revert u287
      revert u286
      revert u285
      revert u284
      revert u283
      revert u282
      revert u281
      revert u280
      revert u279
      revert u278
      revert u277
      revert u276
      revert u275
      revert u274
      revert u273
      revert u272
      revert u271
      revert u270
      revert u269
      revert u268
      revert u267
      revert u266
      revert u265
      revert u264
      revert u263
      revert u262
      revert u261
      revert u260
      revert u259
      revert u258
      revert u257
      revert u256
      revert u255
      revert u254
      revert u253
      revert u252
      revert u251
      revert u250
      revert u249
      revert u248
      revert u247
      revert u246
      revert u245
      revert u244
      revert u243
      revert u242
      revert u241
      revert u240
      revert u239
      revert u238
      revert u237
      revert u236
      revert u235
      revert u234
      revert u233
      revert u232
      revert u231
      revert u230
      revert u229
      revert u228
      revert u227
      revert u226
      revert u225
      revert u224
      revert u223
      revert u222
      revert u221
      revert u220
      revert u219
      revert u218
      revert u217
      revert u216
      revert u215
      revert u214
      revert u213
      revert u212
      revert u211
      revert u210
      revert u209
      revert u208
      revert u207
      revert u206
      revert u205
      revert u204
      revert u203
      revert u202
      revert u201
      revert u200
      revert u199
      revert u198
      revert u197
      revert u196
      revert u195
      revert u194
      revert u193
      revert u192
      revert u191
      revert u190
      revert u189
      revert u188
      revert u187
      revert u186
      revert u185
      revert u184
      revert u183
      revert u182
      revert u181
      revert u180
      revert u179
      revert u178
      revert u177
      revert u176
      revert u175
      revert u174
      revert u173
      revert u172
      revert u171
      revert u170
      revert u169
      revert u168
      revert u167
      revert u166
      revert u165
      revert u164
      revert u163
      revert u162
      revert u161
      revert u160
      revert u159
      revert u158
      revert u157
      revert u156
      revert u155
      revert u154
      revert u153
      revert u152
      revert u151
      revert u150
      revert u149
      revert u148
      revert u147
      revert u146
      revert u145
      revert u144
      revert u143
      revert u142
      revert u141
      revert u140
      revert u139
      revert u138
      revert u137
      revert u136
      revert u135
      revert u134
      revert u133
      revert u132
      revert u131
      revert u130
      revert u129
      revert u128
      revert u127
      revert u126
      revert u125
      revert u124
      revert u123
      revert u122
      revert u121
      revert u120
      revert u119
      revert u118
      revert u117
      revert u116
      revert u115
      revert u114
      revert u113
      revert u112
      revert u111
      revert u110
      revert u109
      revert u108
      revert u107
      revert u106
      revert u105
      revert u104
      revert u103
      revert u102
      revert u101
      revert u99
      revert u98
      revert u97
      revert u96
      revert u95
      revert u94
      revert u93
      revert u92
      revert u91
      revert u90
      revert u89
      revert u88
      revert u87
      revert u86
      revert u85
      revert u84
      revert u83
      revert u82
      revert u81
      revert u80
      revert u79
      revert u78
      revert u77
      revert u76
      revert u75
      revert u74
      revert u73
      revert u72
      revert u71
      revert u70
      revert u69
      revert u68
      revert u67
      revert u66
      revert u65
      revert u64
      revert u63
      revert u62
      revert u61
      revert u60
      revert u59
      revert u58
      revert u57
      revert u56
      revert u55
      revert u54
      revert u53
      revert u52
      revert u51
      revert u50
      revert u49
      revert u48
      revert u47
      revert u46
      revert u45
      revert u44
      revert u43
      revert u42
      revert u41
      revert u40
      revert u39
      revert u38
      revert u37
      revert u36
      revert u35
      revert u34
      revert u33
      revert u32
      revert u31
      revert u30
      revert u29
      revert u28
      revert u27
      revert u26
      revert u25
      revert u24
      revert u23
      revert u22
      revert u21
      revert u20
      revert u19
      revert u18
      revert u17
      revert u16
      revert u15
      revert u14
      revert u11
      revert u10
      revert u4
      revert u3
      revert p
      exact @Cap.get _ cUt1
    have hlt' : (i : Int) < (nl : Int) := by omega
    have hiz : (0 : Int) ≤ (i : Int) := by omega
    obtain ⟨q, hq⟩ : ∃ q, qs[jj]? = some q := ⟨_, List.getElem?_eq_getElem (by have h1 := HLe.out; rw [hps.out, List.length_cons] at h1; omega)⟩
    have hqp : ps[i]? = some q := by rw [hps.out, HIj.out, List.getElem?_cons_succ]; exact hq
    have hqm : q ∈ ps := List.mem_of_getElem? hqp
    have hQ : Hid (L[jj]? = some (q.1, q.2.1)) := Lib.hid (by rw [← hL.out]; unfold tell; rw [List.getElem?_map, hq]; rfl)
    obtain ⟨wa, wc, hwv, hwm⟩ : ∃ a c, q.2.2 = .slice a q.2.1.length c ∧ ∀ (i : Nat) (x : Bs), q.2.1[i]? = some x → ∃ g off, a = some ⟨g, off, none⟩ ∧ g < W1.heap.size ∧ W1.cell? ⟨g, off + i, none⟩ = some (sv x) := by
      obtain ⟨a, c, e, _, _, h3⟩ := (HLf.out.sub q hqm).1.form
      refine ⟨a, c, e, fun i x hx => ?_⟩
      obtain ⟨g, off, rfl, hg, hc⟩ := h3.resolve_left (fun e => by rw [e] at hx; simp at hx)
      exact ⟨g, off, rfl, hg, hc i x hx⟩
    have hcl := HCL.out.2 i q hqp
    have hsh := HSh.out q hqm
    clear hqm hq hqp
    obtain ⟨nq, ws, wv⟩ := q
    try dsimp only at hwv hwm hcl hsh hQ
    subst hwv
    obtain ⟨nws, hnws⟩ : ∃ m, Hid (ws.length = m) := ⟨_, Lib.hid rfl⟩
    rw [hnws.out] at hcl
    have HKn : Hid (∀ W, Below V.heap.size V W → W.cell? ⟨gL, oL + i * 2, none⟩ = some (.int .i64 (nq : Nat)) ∧ W.cell? ⟨gL, oL + i * 2 + 1, none⟩ = some (.slice wa nws wc)) := Lib.hid (fun W h => ⟨cell_later (HB.out.trans (h.mono HB.out.size)) HCL.out.1 hcl.1, cell_later (HB.out.trans (h.mono HB.out.size)) HCL.out.1 hcl.2⟩)
    have HWd : Hid (∀ (i : Nat) (x : Bs), ws[i]? = some x → x.length ≤ 400 ∧ ∃ g off, wa = some ⟨g, off, none⟩ ∧ ∀ W, Below V.heap.size V W → W.cell? ⟨g, off + i, none⟩ = some (sv x)) := Lib.hid (fun i x hx => by
      obtain ⟨g, off, e1, e2, e3⟩ := hwm i x hx
      exact ⟨hsh.1 x (List.mem_of_getElem? hx), g, off, e1, fun W h => cell_later (HB.out.trans (h.mono HB.out.size)) e2 e3⟩)
    clear hcl hwm hsh
    obtain ⟨n0', n1'⟩ := HKn.out Wi HZ.out.bel
    by_cases hmore : nn < i
    · have hm' : (nn : Int) < (i : Int) := by omega
      as_aux_lemma =>
      obtain ⟨We, hWe⟩ : ∃ X, (Wi).drew = X := ⟨_, rfl⟩
      have HR : Hid (CB We w.heap.size fe4 24 ∧ Below w.heap.size w We) := Lib.hid (by rw [← hWe]; exact ⟨(HR1.out _ (Below.drew HZ.out.bel)).1, Below.drew (HR1.out Wi HZ.out.bel).2⟩)
      have l2 : We.cell? ⟨gL, oL + i * 2, none⟩ = some (.int .i64 (nq : Nat)) := by rw [← hWe]; exact (HKn.out _ HZ.out.bel).1
      obtain ⟨k20, k21, k22, k23⟩ := HR.out.1.cells4E
      have f20 := HR.out.1.frozen 0
      have f21 := HR.out.1.frozen 1
      have f22 := HR.out.1.frozen 2
      have f23 := HR.out.1.frozen 3
      have HTV := Lib.hid (show reV p t = (fe0, nq, (4 : Int)) by rw [HRe.out]; exact fl_more (n := nn) (by rw [show nn = jj by omega]; exact hQ.out) (by rw [show nn = jj by omega]; exact HGo.out))
      have hgn : gL ≠ w.heap.size := HgL.out.1
      have hgn2 : w.heap.size ≠ gL := HgL.out.2
      clear x1 x2 n0' n1' hmore
      go_wp2_with fail
      go_region
      all_goals
        go_wp2
        refine bodyPost_ret (res_ref11 _ w.heap.size _ _ _ _ _ _ _ (set4E HR.out.1 _ _ _ _) rfl rfl rfl) rfl ?_
        exact R11.bad (set4_bel HR.out.2 _ _ _ _) HTV.out
    have hm' : ¬ ((nn : Int) < (i : Int)) := by omega
    have hck : (cc : Int) ≤ 6 ∧ (kk : Int) ≤ 16 := by omega
    have hck1 := hck.1
    have hck2 := hck.2
    by_cases hlen : nws = 1 + cc + kk
    rotate_left
    · have d1 : ((nws : Int) == 1 + (cc : Int) + (kk : Int)) = false := by rw [beq_eq_false_iff_ne]; omega
      have d2 : ((nws : Int) != 1 + (cc : Int) + (kk : Int)) = true := by rw [bne_iff_ne]; omega
      as_aux_lemma =>
      obtain ⟨We, hWe⟩ : ∃ X, (Wi).drew = X := ⟨_, rfl⟩
      have HR : Hid (CB We w.heap.size fe4 24 ∧ Below w.heap.size w We) := Lib.hid (by rw [← hWe]; exact ⟨(HR1.out _ (Below.drew HZ.out.bel)).1, Below.drew (HR1.out Wi HZ.out.bel).2⟩)
      have l2 : We.cell? ⟨gL, oL + i * 2, none⟩ = some (.int .i64 (nq : Nat)) := by rw [← hWe]; exact (HKn.out _ HZ.out.bel).1
      obtain ⟨k20, k21, k22, k23⟩ := HR.out.1.cells4E
      have f20 := HR.out.1.frozen 0
      have f21 := HR.out.1.frozen 1
      have f22 := HR.out.1.frozen 2
      have f23 := HR.out.1.frozen 3
      have HTV := Lib.hid (show reV p t = (fe0, nq, (4 : Int)) by rw [HRe.out]; exact fl_bad hQ.out (by omega) HGo.out (rwE_len (by rw [hnws.out]; exact hlen)) (by decide))
      have hgn : gL ≠ w.heap.size := HgL.out.1
      have hgn2 : w.heap.size ≠ gL := HgL.out.2
      clear x1 x2 hlen
      go_wp2_with fail
      go_region
      all_goals
        go_wp2
        refine bodyPost_ret (res_ref11 _ w.heap.size _ _ _ _ _ _ _ (set4E HR.out.1 _ _ _ _) rfl rfl rfl) rfl ?_
        exact R11.bad (set4_bel HR.out.2 _ _ _ _) HTV.out
    have d1 : ((nws : Int) == 1 + (cc : Int) + (kk : Int)) = true := by rw [beq_iff_eq]; omega
    have d2 : ((nws : Int) != 1 + (cc : Int) + (kk : Int)) = false := by simp; omega
    clear hmore
    go_wp2_with fail
    (repeat (rename_i xqEl0d; first | (have hQq : Value := xqEl0d; clear hQq; clear xqEl0d) | (have hQq : Act → World → Prop := xqEl0d; clear hQq; clear xqEl0d) | revert xqEl0d))
    revert xqEl0c
    revert xqEl0c_1
    clear xqEl0c_2 xqEl0c_3 xqEl0c_4 xqEl0c_5 xqEl0c_6 xqEl0c_7 xqEl0c_8 xqEl0c_9 xqEl0c_10 xqEl0c_11 xqEl0c_12 xqEl0c_13 xqEl0c_14 xqEl0c_15 xqEl0c_16 xqEl0c_17 xqEl0c_18 xqEl0c_19 xqEl0c_20 xqEl0c_21 xqEl0c_22 xqEl0c_23 xqEl0c_24 xqEl0c_25 xqEl0c_26 xqEl0c_27 xqEl0c_28 xqEl0c_29 xqEl0c_30 xqEl0c_31 xqEl0c_32 xqEl0c_33 xqEl0c_34 xqEl0c_35 xqEl0c_36 xqEl0c_37 xqEl0c_38 xqEl0c_39 xqEl0c_40 xqEl0c_41 xqEl0c_42 xqEl0c_43 xqEl0c_44 xqEl0c_45 xqEl0c_46 xqEl0c_47 xqEl0c_48 xqEl0c_49 xqEl0c_50 xqEl0c_51 xqEl0c_52 xqEl0c_53 xqEl0c_54 xqEl0c_55 xqEl0c_56 xqEl0c_57 xqEl0c_58 xqEl0c_59 xqEl0c_60 xqEl0c_61 xqEl0c_62
    clear xqEl0c_63 xqEl0c_64 xqEl0c_65 xqEl0c_66 xqEl0c_67 xqEl0c_68 xqEl0c_69 xqEl0c_70 xqEl0c_71 xqEl0c_72 xqEl0c_73 xqEl0c_74 xqEl0c_75 xqEl0c_76 xqEl0c_77 xqEl0c_78 xqEl0c_79 xqEl0c_80 xqEl0c_81 xqEl0c_82 xqEl0c_83 xqEl0c_84 xqEl0c_85 xqEl0c_86 xqEl0c_87 xqEl0c_88 xqEl0c_89 xqEl0c_90 xqEl0c_91 xqEl0c_92 xqEl0c_93 xqEl0c_94 xqEl0c_95 xqEl0c_96 xqEl0c_97 xqEl0c_98 xqEl0c_99 xqEl0c_100 xqEl0c_101 xqEl0c_102 xqEl0c_103 xqEl0c_104 xqEl0c_105 xqEl0c_106 xqEl0c_107 xqEl0c_108 xqEl0c_109 xqEl0c_110 xqEl0c_111 xqEl0c_112 xqEl0c_113 xqEl0c_114 xqEl0c_115 xqEl0c_116 xqEl0c_117 xqEl0c_118 xqEl0c_119 xqEl0c_120
    clear xqEl0c_121 xqEl0c_122 xqEl0c_123 xqEl0c_124 xqEl0c_125 xqEl0c_126 xqEl0c_127 xqEl0c_128 xqEl0c_129 xqEl0c_130 xqEl0c_131 xqEl0c_132 xqEl0c_133 xqEl0c_134 xqEl0c_135 xqEl0c_136 xqEl0c_137 xqEl0c_138 xqEl0c_139 xqEl0c_140 xqEl0c_141 xqEl0c_142 xqEl0c_143 xqEl0c_144 xqEl0c_145 xqEl0c_146 xqEl0c_147 xqEl0c_148 xqEl0c_149 xqEl0c_150 xqEl0c_151 xqEl0c_152 xqEl0c_153 xqEl0c_154 xqEl0c_155 xqEl0c_156 xqEl0c_157 xqEl0c_158 xqEl0c_159 xqEl0c_160 xqEl0c_161 xqEl0c_162 xqEl0c_163 xqEl0c_164 xqEl0c_165 xqEl0c_166 xqEl0c_167 xqEl0c_168 xqEl0c_169 xqEl0c_170 xqEl0c_171 xqEl0c_172 xqEl0c_173 xqEl0c_174 xqEl0c_175
    revert xqEl0c_176
    revert xqEl0b
    revert xqEl0b_1
    revert xqEl0b_2
    revert xqEl0b_3
    revert xqEl0b_4
    revert xqEl0b_5
    revert xqEl0b_6
    revert xqEl0b_7
    revert xqEl0b_8
    revert xqEl0b_9
    revert xqEl0b_10
    revert xqEl0b_11
    revert xqEl0b_12
    revert xqEl0b_13
    revert xqEl0b_14
    revert xqEl0b_15
    revert xqEl0b_16
    revert xqEl0b_17
    revert xqEl0b_18
    revert xqEl0b_19
    revert xqEl0b_20
    revert xqEl0b_21
    revert xqEl0b_22
    revert xqEl0b_23
    revert xqEl0b_24
    revert xqEl0b_25
    revert xqEl0b_26
    revert xqEl0b_27
    revert xqEl0b_28
    revert xqEl0b_29
    revert xqEl0b_30
    revert xqEl0b_31
    revert xqEl0b_32
    revert xqEl0b_33
    revert xqEl0b_34
    revert xqEl0b_35
    revert xqEl0b_36
    revert xqEl0b_37
    revert xqEl0b_39
    revert xqEl00
    revert xqEl00_1
    revert hck2
    revert hck1
    revert hck
    (repeat (revert hm'))
    (repeat (revert n1'))
    (repeat (revert n0'))
    revert HWd
    revert HKn
    revert hnws
    revert nws
    revert nq
    revert wc
    revert wa
    revert hiz
    revert x2
    revert x1
    revert x0
    revert y3
    revert lc
    revert la
    revert HGo
    revert HFf
    revert HRl
    revert Wi
    revert hij2
    revert hij1
    revert HIj
    revert hf1
    revert hi2
    revert hi1
    revert rs
    revert f
    revert jj
    revert HF1
    revert HLl
    revert hL
    revert L
    revert V2
    revert Bf
    revert V1
    revert hkk
    revert hnn
    revert hVc
    revert hcc
    revert HHP
    revert kk
    revert cc
    revert nn
    revert gh
    revert ws
    revert HK0
    revert HR1
    revert V
    (repeat (revert hlt'))
    revert hlt
    revert hj3
    revert hj1
    revert hz2
    revert hz1
    revert hz0
    revert hi0
    revert i0
    revert H00
    revert HS0
    revert HWm
    revert HL0
    revert hnw
    revert ws0
    revert no0
    revert hc
    revert i
    revert wc0
    revert wa0
    revert hnz3
    revert hnz2
    revert hnz
    revert HCL
    revert HgL
    revert oL
    revert gL
    revert qs
    revert hW0s
    revert HLe
    revert HTl
    revert HSh
    (repeat (revert h0'))
    revert hnl2
    revert hnl
    revert nl
    revert hal
    revert al
    revert her
    revert H1
    revert ps
    revert c1
    revert W1
    revert HP
    revert W0
    revert w
    revert t
    revert s
    revert u310
    revert u309
    revert u308
    revert u307
    revert u306
    revert u305
    revert u304
    revert u303
    revert u302
    revert u301
    revert u300
    revert u299
    revert u298
    revert u297
    revert u296
    revert u295
    revert u294
    revert u293
    revert u292
    revert u291
    revert u290
    revert u289
    revert u288
    revert u287
    revert u286
    revert u285
    revert u284
    revert u283
    revert u282
    revert u281
    revert u280
    revert u279
    revert u278
    revert u277
    revert u276
    revert u275
    revert u274
    revert u273
    revert u272
    revert u271
    revert u270
    revert u269
    revert u268
    revert u267
    revert u266
    revert u265
    revert u264
    revert u263
    revert u262
    revert u261
    revert u260
    revert u259
    revert u258
    revert u257
    revert u256
    revert u255
    revert u254
    revert u253
    revert u252
    revert u251
    revert u250
    revert u249
    revert u248
    revert u247
    revert u246
    revert u245
    revert u244
    revert u243
    revert u242
    revert u241
    revert u240
    revert u239
    revert u238
    revert u237
    revert u236
    revert u235
    revert u234
    revert u233
    revert u232
    revert u231
    revert u230
    revert u229
    revert u228
    revert u227
    revert u226
    revert u225
    revert u224
    revert u223
    revert u222
    revert u221
    revert u220
    revert u219
    revert u218
    revert u217
    revert u216
    revert u215
    revert u214
    revert u213
    revert u212
    revert u211
    revert u210
    revert u209
    revert u208
    revert u207
    revert u206
    revert u205
    revert u204
    revert u203
    revert u202
    revert u201
    revert u200
    revert u199
    revert u198
    revert u197
    revert u196
    revert u195
    revert u194
    revert u193
    revert u192
    revert u191
    revert u190
    revert u189
    revert u188
    revert u187
    revert u186
    revert u185
    revert u184
    revert u183
    revert u182
    revert u181
    revert u180
    revert u179
    revert u178
    revert u177
    revert u176
    revert u175
    revert u174
    revert u173
    revert u172
    revert u171
    revert u170
    revert u169
    revert u168
    revert u167
    revert u166
    revert u165
    revert u164
    revert u163
    revert u162
    revert u161
    revert u160
    revert u159
    revert u158
    revert u157
    revert u156
    revert u155
    revert u154
    revert u153
    revert u152
    revert u151
    revert u150
    revert u149
    revert u148
    revert u147
    revert u146
    revert u145
    revert u144
    revert u143
    revert u142
    revert u141
    revert u140
    revert u139
    revert u138
    revert u137
    revert u136
    revert u135
    revert u134
    revert u133
    revert u132
    revert u131
    revert u130
    revert u129
    revert u128
    revert u127
    revert u126
    revert u125
    revert u124
    revert u123
    revert u122
    revert u121
    revert u120
    revert u119
    revert u118
    revert u117
    revert u116
    revert u115
    revert u114
    revert u113
    revert u112
    revert u111
    revert u110
    revert u109
    revert u108
    revert u107
    revert u106
    revert u105
    revert u104
    revert u103
    revert u102
    revert u101
    revert u99
    revert u98
    revert u97
    revert u96
    revert u95
    revert u94
    revert u93
    revert u92
    revert u91
    revert u90
    revert u89
    revert u88
    revert u87
    revert u86
    revert u85
    revert u84
    revert u83
    revert u82
    revert u81
    revert u80
    revert u79
    revert u78
    revert u77
    revert u76
    revert u75
    revert u74
    revert u73
    revert u72
    revert u71
    revert u70
    revert u69
    revert u68
    revert u67
    revert u66
    revert u65
    revert u64
    revert u63
    revert u62
    revert u61
    revert u60
    revert u59
    revert u58
    revert u57
    revert u56
    revert u55
    revert u54
    revert u53
    revert u52
    revert u51
    revert u50
    revert u49
    revert u48
    revert u47
    revert u46
    revert u45
    revert u44
    revert u43
    revert u42
    revert u41
    revert u40
    revert u39
    revert u38
    revert u37
    revert u36
    revert u35
    revert u34
    revert u33
    revert u32
    revert u31
    revert u30
    revert u29
    revert u28
    revert u27
    revert u26
    revert u25
    revert u24
    revert u23
    revert u22
    revert u21
    revert u20
    revert u19
    revert u18
    revert u17
    revert u16
    revert u15
    revert u14
    revert u11
    revert u10
    revert u4
    revert u3
    revert p
    exact @Cap.get _ cUt2
end Go.Proofs.YtgfloegaoofbbaaDoor
