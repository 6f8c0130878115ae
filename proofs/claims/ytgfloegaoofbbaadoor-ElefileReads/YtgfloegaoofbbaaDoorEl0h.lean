import Derived.Test.YtgfloegaoofbbaaDoorEl0f
/- refRead11_any: part El0h of a long walk. (capt.py) -/
/- The document's side of layer 11: Read. (gen_ekb.py) -/
namespace Go.Proofs.YtgfloegaoofbbaaDoor
set_option maxRecDepth 100000
open Go.RowKit Go.Shelf Go.Lib
attribute [local go_sem] run_store_str run_store_float
set_option maxHeartbeats 64000000 in
def el0h_c : Cut1 (el0f_c.P2) := by
  apply Cut1.mk
  focus
    intro cUt1
    intro p
    unhygienic intros
    obtain ⟨V4, hV4⟩ : ∃ X, X = wc := ⟨_, rfl⟩
    subst hV4
    have HK4 := hcut
    clear hcut HZ3 HCn s0 fz0 HgB
    have hi63 : (i : Int) ≤ 16777218 := by omega
    have hiz : (0 : Int) ≤ (i : Int) := by omega
    have HFm : Hid (((F = 0 ∨ F = 1) ∧ m0 = F + (i : Int) - 1) ↔ m0 = ((fst1 L : Nat) : Int) + (jj : Nat)) := Lib.hid (by
      have hF2 := hF.out
      by_cases hi1 : i = 1
      · rw [if_pos hi1] at hF2
        have hj0 : jj = 0 := by omega
        have h := fst1_is (by have := hQ.out; rwa [hj0] at this) HIe.out
        rw [hF2, hj0, hi1]
        constructor
        · rintro ⟨h1, _⟩; have := h.1 h1; omega
        · intro h1; exact ⟨h.2 (by omega), by omega⟩
      · rw [if_neg hi1] at hF2
        have h1 := HFf.out
        rw [if_neg (by omega)] at h1
        rw [hF2, h1]
        have h2 := HF1.out
        constructor
        · rintro ⟨_, h3⟩; omega
        · intro h3; exact ⟨by omega, by omega⟩)
    obtain ⟨bb, hbb⟩ : ∃ b : Bool, Hid (b = true ↔ ¬ ((F = 0 ∨ F = 1) ∧ m0 = F + (i : Int) - 1)) := ⟨decide (¬ ((F = 0 ∨ F = 1) ∧ m0 = F + (i : Int) - 1)), Lib.hid decide_eq_true_iff⟩
    obtain ⟨w0, _, _, _⟩ := HK4.out.1.fb.cells4E
    have s1 := HK4.out.2.1 0 m0 rfl
    go_upto_region 37 with fail
    go_cut [215] (fun b wx => b = .bool bb ∧ Hid (Rz w V wx Bf F cc kk (.slice la jj lc) rs ∧ (∀ (i : Nat) (m : Int), (m0 :: nt)[i]? = some m → wx.cell? ⟨gn, i, none⟩ = some (.int .i64 m)) ∧ gn < wx.heap.size))
    case first =>
      have HK5 : Hid (∀ wx, wx = V4.drew → Hid (Rz w V wx Bf F cc kk (.slice la jj lc) rs ∧ (∀ (i : Nat) (m : Int), (m0 :: nt)[i]? = some m → wx.cell? ⟨gn, i, none⟩ = some (.int .i64 m)) ∧ gn < wx.heap.size)) := Lib.hid (fun wx e => by subst e; exact Lib.hid ⟨HK4.out.1.later (Below.drew (Below.refl _ _)), HK4.out.2.1, HK4.out.2.2.2⟩)
      have HBb := hbb.out
      by_cases f0 : F = 0
      · subst f0
        by_cases mm : m0 = (i : Int) - 1
        · have e1 : (m0 != (i : Int) - 1) = false := by simp [mm]
          have hb : bb = false := by cases bb; rfl; exact absurd ⟨Or.inl rfl, by omega⟩ (HBb.1 rfl)
          subst hb
          clear hbb HBb mm
          go_region
          all_goals (go_wp2_with fail; go_meet; exact ⟨rfl, HK5.out _ rfl⟩)
        · have e1 : (m0 != (i : Int) - 1) = true := by simpa using mm
          have hb : bb = true := HBb.2 (fun h => mm (by omega))
          subst hb
          clear hbb HBb
          go_region
          all_goals (go_wp2_with fail; go_meet; exact ⟨rfl, HK5.out _ rfl⟩)
      · by_cases f1 : F = 1
        · subst f1
          by_cases mm : m0 = 1 + (i : Int) - 1
          · have e1 : (m0 != 1 + (i : Int) - 1) = false := by simp [mm]
            have hb : bb = false := by cases bb; rfl; exact absurd ⟨Or.inr rfl, mm⟩ (HBb.1 rfl)
            subst hb
            clear hbb HBb f0
            go_region
            all_goals (go_wp2_with fail; go_meet; exact ⟨rfl, HK5.out _ rfl⟩)
          · have e1 : (m0 != 1 + (i : Int) - 1) = true := by rw [bne_iff_ne]; exact mm
            have hb : bb = true := HBb.2 (fun h => mm h.2)
            subst hb
            clear hbb HBb f0
            go_region
            all_goals (go_wp2_with fail; go_meet; exact ⟨rfl, HK5.out _ rfl⟩)
        · have e1 : (F != 0) = true := by rw [bne_iff_ne]; exact f0
          have e2 : (F != 1) = true := by rw [bne_iff_ne]; exact f1
          have hb : bb = true := HBb.2 (fun h => by rcases h.1 with h | h; exact f0 h; exact f1 h)
          subst hb
          clear hbb HBb
          go_region
          all_goals (go_wp2_with fail; go_meet; exact ⟨rfl, HK5.out _ rfl⟩)
    case rest =>
     focus
      (repeat (rename_i xqEl0h; first | (have hQq : Value := xqEl0h; clear hQq; clear xqEl0h) | (have hQq : Act → World → Prop := xqEl0h; clear hQq; clear xqEl0h) | revert xqEl0h))
      revert xqEl0f
      revert xqEl0f_1
      revert xqEl0f_2
      revert xqEl0f_3
      revert xqEl0f_4
      revert xqEl0f_5
      revert xqEl0f_6
      revert xqEl0f_7
      revert xqEl0f_8
      revert xqEl0f_9
      revert xqEl0f_10
      revert xqEl0f_11
      revert xqEl0f_12
      revert xqEl0f_13
      revert xqEl0f_14
      revert xqEl0f_15
      revert xqEl0f_16
      revert xqEl0f_17
      revert xqEl0f_18
      revert xqEl0f_19
      revert xqEl0f_20
      revert xqEl0f_21
      revert xqEl0f_22
      revert xqEl0f_23
      revert xqEl0f_24
      revert xqEl0f_25
      revert xqEl0f_26
      revert xqEl0f_27
      revert xqEl0f_28
      revert xqEl0f_29
      revert xqEl0f_30
      revert xqEl0f_31
      revert xqEl0f_32
      revert xqEl0f_33
      revert xqEl0f_34
      revert xqEl0f_35
      revert xqEl0f_36
      revert xqEl0f_37
      revert xqEl0f_38
      revert xqEl0f_39
      revert xqEl0f_40
      revert xqEl0f_41
      revert xqEl0f_42
      revert xqEl0f_43
      revert xqEl0f_44
      revert xqEl0f_45
      revert xqEl0f_46
      revert xqEl0f_47
      revert xqEl0f_48
      revert xqEl0f_49
      revert xqEl0f_50
      revert xqEl0f_51
      revert xqEl0f_52
      revert xqEl0f_53
      revert xqEl0f_54
      revert xqEl0f_55
      revert xqEl0f_56
      revert xqEl0f_57
      revert xqEl0f_58
      revert xqEl0f_59
      revert xqEl0f_60
      revert xqEl0f_61
      revert xqEl0f_62
      revert xqEl0f_63
      revert xqEl0f_64
      revert xqEl0f_65
      revert xqEl0f_66
      revert xqEl0f_67
      revert xqEl0f_68
      revert xqEl0f_69
      revert xqEl0f_70
      revert xqEl0f_71
      revert xqEl0f_72
      revert xqEl0f_73
      revert xqEl0f_74
      revert xqEl0f_75
      revert xqEl0f_76
      revert xqEl0f_77
      revert xqEl0f_78
      revert xqEl0f_79
      revert xqEl0f_80
      revert xqEl0f_81
      revert xqEl0f_82
      revert xqEl0f_83
      revert xqEl0f_84
      revert xqEl0f_85
      revert xqEl0f_86
      revert xqEl0f_87
      revert xqEl0f_88
      revert xqEl0f_89
      revert xqEl0f_90
      revert xqEl0f_91
      revert xqEl0f_92
      revert xqEl0f_93
      revert xqEl0f_94
      revert xqEl0f_95
      revert xqEl0f_96
      revert xqEl0f_97
      revert xqEl0f_98
      revert xqEl0f_99
      revert xqEl0f_100
      revert xqEl0f_101
      revert xqEl0f_102
      revert xqEl0f_103
      revert xqEl0f_104
      revert xqEl0f_105
      revert xqEl0f_106
      revert xqEl0f_107
      revert xqEl0f_108
      revert xqEl0f_109
      revert xqEl0f_110
      revert xqEl0f_111
      revert xqEl0f_112
      revert xqEl0f_113
      revert xqEl0f_114
      revert xqEl0f_115
      revert xqEl0f_116
      revert xqEl0f_117
      revert xqEl0f_118
      revert xqEl0f_119
      revert xqEl0f_120
      revert xqEl0f_121
      revert xqEl0f_122
      revert xqEl0f_123
      revert xqEl0f_124
      revert xqEl0f_125
      revert xqEl0f_126
      revert xqEl0f_127
      revert xqEl0f_128
      revert xqEl0f_129
      revert xqEl0f_130
      revert xqEl0f_131
      revert xqEl0f_132
      revert xqEl0f_133
      revert xqEl0f_134
      revert xqEl0f_135
      revert xqEl0f_136
      revert xqEl0f_137
      revert xqEl0f_138
      revert xqEl0f_139
      revert xqEl0f_140
      revert xqEl0f_141
      revert xqEl0f_142
      revert xqEl0f_143
      revert xqEl0f_144
      revert xqEl0f_145
      revert xqEl0f_146
      revert xqEl0f_147
      revert xqEl0f_148
      revert xqEl0f_149
      revert xqEl0f_150
      revert xqEl0f_151
      revert xqEl0f_152
      revert xqEl0f_153
      revert xqEl0f_154
      revert xqEl0f_155
      revert xqEl0f_156
      revert xqEl0f_157
      revert xqEl0f_158
      revert xqEl0f_159
      revert xqEl0f_160
      revert xqEl0f_161
      revert xqEl0f_162
      revert xqEl0f_163
      revert xqEl0f_164
      revert xqEl0f_165
      revert xqEl0f_166
      revert xqEl0f_167
      revert xqEl0f_168
      revert xqEl0f_169
      revert xqEl0f_170
      revert xqEl0f_171
      revert xqEl0f_172
      revert xqEl0f_173
      revert xqEl0f_174
      revert xqEl0f_175
      revert xqEl0f_176
      revert xqEl0f_177
      revert xqEl0f_178
      revert xqEl0f_179
      revert xqEl0f_180
      revert xqEl0f_181
      revert xqEl0f_182
      revert xqEl0f_183
      revert xqEl0f_184
      revert xqEl0f_185
      revert xqEl0f_186
      revert xqEl0f_187
      revert xqEl0f_188
      revert xqEl0f_189
      revert xqEl0f_190
      revert xqEl0f_191
      revert xqEl0f_192
      revert xqEl0f_193
      revert xqEl0f_194
      revert xqEl0f_195
      revert xqEl0f_196
      revert xqEl0f_197
      revert xqEl0f_198
      revert xqEl0f_199
      revert xqEl0f_200
      revert xqEl0f_201
      revert xqEl0f_202
      revert xqEl0f_203
      revert xqEl0f_204
      revert xqEl0f_205
      revert xqEl0f_206
      revert xqEl0f_207
      revert xqEl0f_208
      revert xqEl0f_210
      revert xqEl0f_212
      revert xqEl0d
      revert xqEl0d_1
      revert xqEl0d_3
      revert xqEl0d_5
      revert xqEl0c
      revert xqEl0c_1
      revert xqEl0c_176
      revert xqEl0b
      revert xqEl0b_1
      revert xqEl0b_2
      revert xqEl0b_3
      revert xqEl0b_4
      revert xqEl0b_5
      revert xqEl0b_6
      revert xqEl0b_7
      revert xqEl0b_8
      revert xqEl0b_9
      revert xqEl0b_10
      revert xqEl0b_11
      revert xqEl0b_12
      revert xqEl0b_13
      revert xqEl0b_14
      revert xqEl0b_15
      revert xqEl0b_16
      revert xqEl0b_17
      revert xqEl0b_18
      revert xqEl0b_19
      revert xqEl0b_20
      revert xqEl0b_21
      revert xqEl0b_22
      revert xqEl0b_23
      revert xqEl0b_24
      revert xqEl0b_25
      revert xqEl0b_26
      revert xqEl0b_27
      revert xqEl0b_28
      revert xqEl0b_29
      revert xqEl0b_30
      revert xqEl0b_31
      revert xqEl0b_32
      revert xqEl0b_33
      revert xqEl0b_34
      revert xqEl0b_35
      revert xqEl0b_36
      revert xqEl0b_37
      revert xqEl0b_39
      revert xqEl00
      revert xqEl00_1
      revert s1
      revert w0
      revert hbb
      revert bb
      revert HFm
      revert hi63
      revert HK4
      revert V4
      revert hF
      revert V3
      revert hlc
      revert HIr
      revert HIe
      revert cn
      revert gn
      revert HNt
      revert nt
      revert m0
      (repeat (revert hjc'))
      revert hjc
      revert hck2
      revert hck1
      revert hck
      (repeat (revert hm'))
      (repeat (revert n1'))
      (repeat (revert n0'))
      revert HWd
      revert hnws
      revert nws
      revert nq
      revert wc
      revert wa
      revert hiz
      revert x0
      revert lc
      revert la
      revert HGo
      revert HFf
      revert HRl
      revert Wi
      revert hij2
      revert hij1
      revert HIj
      revert hf1
      revert hi2
      revert hi1
      revert rs
      revert f
      revert jj
      revert HF1
      revert HLl
      revert hL
      revert L
      revert V2
      revert Bf
      revert V1
      revert hkk
      revert hnn
      revert hVc
      revert hcc
      revert HHP
      revert kk
      revert cc
      revert nn
      revert gh
      revert ws
      revert HK0
      revert HR1
      revert V
      (repeat (revert hlt'))
      revert hlt
      revert hj3
      revert hz2
      revert hz1
      revert hz0
      revert hi0
      revert i0
      revert H00
      revert HS0
      revert HWm
      revert HL0
      revert hnw
      revert ws0
      revert no0
      revert hc
      revert i
      revert wc0
      revert wa0
      revert hnz3
      revert hnz2
      revert hnz
      revert HCL
      revert HgL
      revert oL
      revert gL
      revert qs
      revert hW0s
      revert HLe
      revert HTl
      revert HSh
      (repeat (revert h0'))
      revert hnl2
      revert hnl
      revert nl
      revert hal
      revert al
      revert her
      revert H1
      revert ps
      revert c1
      revert W1
      revert F
      revert HP
      revert W0
      revert w
      revert t
      revert s
      revert u310
      revert u309
      revert u308
      revert u307
      revert u306
      revert u305
      revert u304
      revert u303
      revert u302
      revert u301
      revert u300
      revert u299
      revert u298
      revert u297
      revert u296
      revert u295
      revert u294
      revert u293
      revert u292
      revert u291
      revert u290
      revert u289
      revert u288
      revert u287
      revert u286
      revert u285
      revert u284
      revert u283
      revert u282
      revert u281
      revert u280
      revert u279
      revert u278
      revert u277
      revert u276
      revert u275
      revert u274
      revert u273
      revert u272
      revert u271
      revert u270
      revert u269
      revert u268
      revert u267
      revert u266
      revert u265
      revert u264
      revert u263
      revert u262
      revert u261
      revert u260
      revert u259
      revert u258
      revert u257
      revert u256
      revert u255
      revert u254
      revert u253
      revert u252
      revert u251
      revert u250
      revert u249
      revert u248
      revert u247
      revert u246
      revert u245
      revert u244
      revert u243
      revert u242
      revert u241
      revert u240
      revert u239
      revert u238
      revert u237
      revert u236
      revert u235
      revert u234
      revert u233
      revert u232
      revert u231
      revert u230
      revert u229
      revert u228
      revert u227
      revert u226
      revert u225
      revert u224
      revert u223
      revert u222
      revert u221
      revert u220
      revert u219
      revert u218
      revert u217
      revert u216
      revert u215
      revert u214
      revert u213
      revert u212
      revert u211
      revert u210
      revert u209
      revert u208
      revert u207
      revert u206
      revert u205
      revert u204
      revert u203
      revert u202
      revert u201
      revert u200
      revert u199
      revert u198
      revert u197
      revert u196
      revert u195
      revert u194
      revert u193
      revert u192
      revert u191
      revert u190
      revert u189
      revert u188
      revert u187
      revert u186
      revert u185
      revert u184
      revert u183
      revert u182
      revert u181
      revert u180
      revert u179
      revert u178
      revert u177
      revert u176
      revert u175
      revert u174
      revert u173
      revert u172
      revert u171
      revert u170
      revert u169
      revert u168
      revert u167
      revert u166
      revert u165
      revert u164
      revert u163
      revert u162
      revert u161
      revert u160
      revert u159
      revert u158
      revert u157
      revert u156
      revert u155
      revert u154
      revert u153
      revert u152
      revert u151
      revert u150
      revert u149
      revert u148
      revert u147
      revert u146
      revert u145
      revert u144
      revert u143
      revert u142
      revert u141
      revert u140
      revert u139
      revert u138
      revert u137
      revert u136
      revert u135
      revert u134
      revert u133
      revert u132
      revert u131
      revert u130
      revert u129
      revert u128
      revert u127
      revert u126
      revert u125
      revert u124
      revert u123
      revert u122
      revert u121
      revert u120
      revert u119
      revert u118
      revert u117
      revert u116
      revert u115
      revert u114
      revert u113
      revert u112
      revert u111
      revert u110
      revert u109
      revert u108
      revert u107
      revert u106
      revert u105
      revert u104
      revert u103
      revert u102
      revert u101
      revert u99
      revert u98
      revert u97
      revert u96
      revert u95
      revert u94
      revert u93
      revert u92
      revert u91
      revert u90
      revert u89
      revert u88
      revert u87
      revert u86
      revert u85
      revert u84
      revert u83
      revert u82
      revert u81
      revert u80
      revert u79
      revert u78
      revert u77
      revert u76
      revert u75
      revert u74
      revert u73
      revert u72
      revert u71
      revert u70
      revert u69
      revert u68
      revert u67
      revert u66
      revert u65
      revert u64
      revert u63
      revert u62
      revert u61
      revert u60
      revert u59
      revert u58
      revert u57
      revert u56
      revert u55
      revert u54
      revert u53
      revert u52
      revert u51
      revert u50
      revert u49
      revert u48
      revert u47
      revert u46
      revert u45
      revert u44
      revert u43
      revert u42
      revert u41
      revert u40
      revert u39
      revert u38
      revert u37
      revert u36
      revert u35
      revert u34
      revert u33
      revert u32
      revert u31
      revert u30
      revert u29
      revert u28
      revert u27
      revert u26
      revert u25
      revert u24
      revert u23
      revert u22
      revert u21
      revert u20
      revert u19
      revert u18
      revert u17
      revert u16
      revert u15
      revert u14
      revert u11
      revert u10
      revert u4
      revert u3
      revert p
      exact @Cap.get _ cUt1
end Go.Proofs.YtgfloegaoofbbaaDoor
