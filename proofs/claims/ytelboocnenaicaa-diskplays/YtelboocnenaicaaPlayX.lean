/-
  DiskPlays: a round, case by case. (a crash)
-/
import Derived.Test.YtelboocnenaicaaPlay1
import Derived.Deep.DeepCutAuto
import Derived.Deep.LoopGhost
namespace Go.Proofs.Ytelboocnenaicaa
set_option linter.unusedVariables false
set_option linter.unusedSimpArgs false
open Go.RowKit Go.ChangeMaps Go.MapKept

set_option maxRecDepth 1000000 in
set_option maxHeartbeats 16000000 in
theorem play_crash {w wr : World} {a1 a2 : List Int} {ad : Addr} {n1 c1 n2 c2 n gs gz gn bd i : Nat} {A2 : Option Addr} {s12 s13 : Value} {s : DSt} {es en : Array MapEntry} {cs cn : Nat} {vs : List Value} {Ld La Lx X : Blks} (u6 u17 u18 u19 u20 u21 u22 u23 u24 u25 u26 u27 u28 u29 u30 u31 u32 u33 u34 u35 u36 u37 u53 u54 u55 u56 u57 u58 u59 u60 u61 u62 u63 u64 u65 u66 u67 u68 u69 u70 u71 u72 u73 u74 u75 u76 u77 u78 u79 u80 u81 u82 u83 u84 u85 u86 u87 u88 u89 u90 u91 u92 u93 u94 u95 u96 u97 u98 u99 u100 u101 u102 u103 u104 u105 u106 u107 u108 u109 u110 u111 u112 u113 u114 u115 u116 u117 u118 u119 u120 u121 u122 u123 u124 u125 u126 u127 u128 u129 u130 u131 u132 u133 u134 u135 u136 u137 u138 u139 u140 u141 u142 u143 u144 u145 u146 u147 u148 u149 u150 u151 u152 u153 u154 u155 u156 u157 u158 u159 u160 u161 u162 u163 u164 u165 u166 u167 u168 u169 u170 u171 u172 u173 u174 u175 u176 u177 u178 u179 u180 u181 u182 u183 u184 u185 u186 u187 u188 u189 u190 u191 u192 u193 u194 u195 u196 u197 u198 u199 u200 u201 u202 u203 u204 u205 u206 u207 u208 u209 u210 u211 u212 u213 u214 u215 u216 u217 u218 u219 u220 u221 u222 u223 u224 u225 u226 u227 u228 u229 u230 u231 u232 u233 u234 u235 u236 u237 u238 u239 u240 u241 u242 u243 u244 u245 u246 u247 u248 u249 u250 u251 u252 u253 u254 u255 u256 u257 u258 u259 u260 u261 u262 u263 u264 u265 u266 u267 u268 u269 u270 u271 u272 u273 u274 u275 u276 u277 u278 u279 u280 u281 u282 u283 u284 u285 u286 u287 u288 u289 u290 u291 u292 u293 u294 u295 u296 u297 u298 u299 u300 u301 u302 u303 u304 u305 u306 u307 u308 u309 u310 u311 u312 u313 u314 u315 u316 u317 u318 u319 u320 u321 u322 u323 u324 u325 u326 u327 u328 u329 u330 u331 u332 u333 u334 u335 u336 u337 u338 u339 u340 u341 u342 u343 c0_ c3_ c4_ c5_ c38_ c39_ c40_ c41_ c42_ c43_ c44_ c45_ c46_ c47_ c48_ c49_ c50_ c51_ c52_ c344_ c345_ c346_ c347_ c348_ c349_ c350_ : Value) (HN1 : Hid (a1.length = n1)) (HC1 : Hid (∀ j x, a1[j]? = some x → w.cell? (ad.add j) = some (.int .i64 x) ∧ ad.block < w.heap.size)) (hn1m : n1 ≤ 9223372036854775807) (HK2 : Hid (InRow .i64 w (.slice A2 n2 c2) a2)) (hnl : n ≤ 1024) (hi : i + 2 < n1) (hi90 : i < 90) (HPS : Hid (PS w (.pointer (some ⟨bd, 0, none⟩)) n i gs gz gn s12 s13 s es en cs cn vs Ld La Lx X)) (HO : Hid (Own w wr (PBlks gs gz gn es en cs cn Ld La Lx X))) (R : Act → World → Prop) (Q0 : Exit → Act → World → Prop) (HQ0 : Hid (∀ c a d v w, Q0 (.panic c) (Act.put a d v) w → Q0 (.panic c) a w))
    (HR : Hid (∀ (r6 r10 r12 r13 r14 r15 r16 r17 r18 r19 r20 r21 r22 r23 r24 r25 r26 r27 r28 r29 r30 r31 r32 r33 r34 r35 r36 r37 r53 r54 r55 r56 r57 r58 r59 r60 r61 r62 r63 r64 r65 r66 r67 r68 r69 r70 r71 r72 r73 r74 r75 r76 r77 r78 r79 r80 r81 r82 r83 r84 r85 r86 r87 r88 r89 r90 r91 r92 r93 r94 r95 r96 r97 r98 r99 r100 r101 r102 r103 r104 r105 r106 r107 r108 r109 r110 r111 r112 r113 r114 r115 r116 r117 r118 r119 r120 r121 r122 r123 r124 r125 r126 r127 r128 r129 r130 r131 r132 r133 r134 r135 r136 r137 r138 r139 r140 r141 r142 r143 r144 r145 r146 r147 r148 r149 r150 r151 r152 r153 r154 r155 r156 r157 r158 r159 r160 r161 r162 r163 r164 r165 r166 r167 r168 r169 r170 r171 r172 r173 r174 r175 r176 r177 r178 r179 r180 r181 r182 r183 r184 r185 r186 r187 r188 r189 r190 r191 r192 r193 r194 r195 r196 r197 r198 r199 r200 r201 r202 r203 r204 r205 r206 r207 r208 r209 r210 r211 r212 r213 r214 r215 r216 r217 r218 r219 r220 r221 r222 r223 r224 r225 r226 r227 r228 r229 r230 r231 r232 r233 r234 r235 r236 r237 r238 r239 r240 r241 r242 r243 r244 r245 r246 r247 r248 r249 r250 r251 r252 r253 r254 r255 r256 r257 r258 r259 r260 r261 r262 r263 r264 r265 r266 r267 r268 r269 r270 r271 r272 r273 r274 r275 r276 r277 r278 r279 r280 r281 r282 r283 r284 r285 r286 r287 r288 r289 r290 r291 r292 r293 r294 r295 r296 r297 r298 r299 r300 r301 r302 r303 r304 r305 r306 r307 r308 r309 r310 r311 r312 r313 r314 r315 r316 r317 r318 r319 r320 r321 r322 r323 r324 r325 r326 r327 r328 r329 r330 r331 r332 r333 r334 r335 r336 r337 r338 r339 r340 r341 r342 r343 : Value) w2, r16 = .int .i64 ((i + 3 : Nat) : Int) → PState w (.pointer (some ⟨bd, 0, none⟩)) n (i + 3) gs gz r10 r12 r13 r14 r15 w2 → R ⟨#[c0_, .slice (some ad) n1 c1, .slice A2 n2 c2, c3_, c4_, c5_, r6, .pointer (some ⟨bd, 0, none⟩), .int .i64 (n : Int), .map (some gs), r10, .slice (some ⟨gz, 0, none⟩) 32 32, r12, r13, r14, r15, r16, r17, r18, r19, r20, r21, r22, r23, r24, r25, r26, r27, r28, r29, r30, r31, r32, r33, r34, r35, r36, r37, c38_, c39_, c40_, c41_, c42_, c43_, c44_, c45_, c46_, c47_, c48_, c49_, c50_, c51_, c52_, r53, r54, r55, r56, r57, r58, r59, r60, r61, r62, r63, r64, r65, r66, r67, r68, r69, r70, r71, r72, r73, r74, r75, r76, r77, r78, r79, r80, r81, r82, r83, r84, r85, r86, r87, r88, r89, r90, r91, r92, r93, r94, r95, r96, r97, r98, r99, r100, r101, r102, r103, r104, r105, r106, r107, r108, r109, r110, r111, r112, r113, r114, r115, r116, r117, r118, r119, r120, r121, r122, r123, r124, r125, r126, r127, r128, r129, r130, r131, r132, r133, r134, r135, r136, r137, r138, r139, r140, r141, r142, r143, r144, r145, r146, r147, r148, r149, r150, r151, r152, r153, r154, r155, r156, r157, r158, r159, r160, r161, r162, r163, r164, r165, r166, r167, r168, r169, r170, r171, r172, r173, r174, r175, r176, r177, r178, r179, r180, r181, r182, r183, r184, r185, r186, r187, r188, r189, r190, r191, r192, r193, r194, r195, r196, r197, r198, r199, r200, r201, r202, r203, r204, r205, r206, r207, r208, r209, r210, r211, r212, r213, r214, r215, r216, r217, r218, r219, r220, r221, r222, r223, r224, r225, r226, r227, r228, r229, r230, r231, r232, r233, r234, r235, r236, r237, r238, r239, r240, r241, r242, r243, r244, r245, r246, r247, r248, r249, r250, r251, r252, r253, r254, r255, r256, r257, r258, r259, r260, r261, r262, r263, r264, r265, r266, r267, r268, r269, r270, r271, r272, r273, r274, r275, r276, r277, r278, r279, r280, r281, r282, r283, r284, r285, r286, r287, r288, r289, r290, r291, r292, r293, r294, r295, r296, r297, r298, r299, r300, r301, r302, r303, r304, r305, r306, r307, r308, r309, r310, r311, r312, r313, r314, r315, r316, r317, r318, r319, r320, r321, r322, r323, r324, r325, r326, r327, r328, r329, r330, r331, r332, r333, r334, r335, r336, r337, r338, r339, r340, r341, r342, r343, c344_, c345_, c346_, c347_, c348_, c349_, c350_], []⟩ w2))
    (hkk : ∃ x0, a1[i]? = some x0 ∧ x0 % 14 = 12) (HK2N : Hid (A2 = none → c2 = 0)) (hn2s : n2 ≤ 140737488355328)  : Code.wp Try.prog playBody (Exit.then R Q0) ⟨#[c0_, .slice (some ad) n1 c1, .slice A2 n2 c2, c3_, c4_, c5_, u6, .pointer (some ⟨bd, 0, none⟩), .int .i64 (n : Int), .map (some gs), .map (some gn), .slice (some ⟨gz, 0, none⟩) 32 32, s12, s13, .int .i64 s.left, .bool s.down, .int .i64 (i : Int), u17, u18, u19, u20, u21, u22, u23, u24, u25, u26, u27, u28, u29, u30, u31, u32, u33, u34, u35, u36, u37, c38_, c39_, c40_, c41_, c42_, c43_, c44_, c45_, c46_, c47_, c48_, c49_, c50_, c51_, c52_, u53, u54, u55, u56, u57, u58, u59, u60, u61, u62, u63, u64, u65, u66, u67, u68, u69, u70, u71, u72, u73, u74, u75, u76, u77, u78, u79, u80, u81, u82, u83, u84, u85, u86, u87, u88, u89, u90, u91, u92, u93, u94, u95, u96, u97, u98, u99, u100, u101, u102, u103, u104, u105, u106, u107, u108, u109, u110, u111, u112, u113, u114, u115, u116, u117, u118, u119, u120, u121, u122, u123, u124, u125, u126, u127, u128, u129, u130, u131, u132, u133, u134, u135, u136, u137, u138, u139, u140, u141, u142, u143, u144, u145, u146, u147, u148, u149, u150, u151, u152, u153, u154, u155, u156, u157, u158, u159, u160, u161, u162, u163, u164, u165, u166, u167, u168, u169, u170, u171, u172, u173, u174, u175, u176, u177, u178, u179, u180, u181, u182, u183, u184, u185, u186, u187, u188, u189, u190, u191, u192, u193, u194, u195, u196, u197, u198, u199, u200, u201, u202, u203, u204, u205, u206, u207, u208, u209, u210, u211, u212, u213, u214, u215, u216, u217, u218, u219, u220, u221, u222, u223, u224, u225, u226, u227, u228, u229, u230, u231, u232, u233, u234, u235, u236, u237, u238, u239, u240, u241, u242, u243, u244, u245, u246, u247, u248, u249, u250, u251, u252, u253, u254, u255, u256, u257, u258, u259, u260, u261, u262, u263, u264, u265, u266, u267, u268, u269, u270, u271, u272, u273, u274, u275, u276, u277, u278, u279, u280, u281, u282, u283, u284, u285, u286, u287, u288, u289, u290, u291, u292, u293, u294, u295, u296, u297, u298, u299, u300, u301, u302, u303, u304, u305, u306, u307, u308, u309, u310, u311, u312, u313, u314, u315, u316, u317, u318, u319, u320, u321, u322, u323, u324, u325, u326, u327, u328, u329, u330, u331, u332, u333, u334, u335, u336, u337, u338, u339, u340, u341, u342, u343, c344_, c345_, c346_, c347_, c348_, c349_, c350_], []⟩ wr := by
  obtain ⟨x0, hx0, hkk⟩ := hkk
  obtain ⟨A12, c12, hs12⟩ := HPS.out.ats.val
  subst hs12
  obtain ⟨A13, c13, hs13⟩ := HPS.out.xs.val
  subst hs13
  obtain ⟨x1, hx1⟩ : ∃ x, a1[i + 1]? = some x := ⟨_, List.getElem?_eq_getElem (by rw [HN1.out]; omega)⟩
  obtain ⟨x2, hx2⟩ : ∃ x, a1[i + 2]? = some x := ⟨_, List.getElem?_eq_getElem (by rw [HN1.out]; omega)⟩
  have hcl : ∀ (wz : World) (L' : Blks), Own w wz L' → wz.cell? (ad.add i) = some (.int .i64 x0) ∧ wz.cell? ⟨ad.block, ad.off + (i + 1), none⟩ = some (.int .i64 x1) ∧ wz.cell? ⟨ad.block, ad.off + (i + 2), none⟩ = some (.int .i64 x2) := by
    intro wz L' hz
    have hb := (HC1.out i x0 hx0).2
    exact ⟨by rw [hz.below.cell (by rw [block_of_add]; exact hb)]; exact (HC1.out _ _ hx0).1, (hz.below.cell (p := ⟨ad.block, ad.off + (i + 1), none⟩) hb).trans (HC1.out _ _ hx1).1, (hz.below.cell (p := ⟨ad.block, ad.off + (i + 2), none⟩) hb).trans (HC1.out _ _ hx2).1⟩
  have HCL := Lib.hid hcl; clear hcl hx0 hx1 hx2 HC1 HN1
  have e1 : (i : Int) + 2 < n1 := by omega
  have e2 : (i : Int) < 90 := by omega
  have e3 : ((i : Int) + 1).toNat = i + 1 := by omega
  have e4 : ((i : Int) + 2).toNat = i + 2 := by omega
  have e5 : (0 : Int) ≤ (i : Int) + 1 := by omega
  have e6 : (0 : Int) ≤ (i : Int) + 2 := by omega
  have e7 : (i : Int) + 1 < n1 := by omega
  have e8 : IntKind.i64.wrap ((i : Int) + 1) = (i : Int) + 1 := IntWalk.i64_in _ (by omega)
  have e9 : IntKind.i64.wrap ((i : Int) + 2) = (i : Int) + 2 := IntWalk.i64_in _ (by omega)
  have e10 : (i : Int) < n1 := by omega
  conv => arg 2; whnf
  go_wp2_with fail
  have hm0 : 0 ≤ x1 % 8 := by omega
  have hm1 : x1 % 8 ≤ 7 := by omega
  have hwm : IntKind.i64.wrap (x1 % 8 - 1) = x1 % 8 - 1 := IntWalk.i64_in _ (by omega)
  refine wp_region_lin (fun w' => w'.cell? ⟨ad.block, ad.off + (i + 1), none⟩ = some (.int .i64 x1) ∧ w'.cell? ⟨ad.block, ad.off + (i + 2), none⟩ = some (.int .i64 x2)) 13 [(0, true), (1, true), (2, true), (3, true), (4, true), (7, true), (8, true), (9, true), (10, true), (11, true), (5, false), (6, true), (12, false)] (by kernel_rfl) (by kernel_rfl) (fun c a d v w h => HQ0.out c a d v w h) (HCL.out _ _ HO.out.drew).2 ?_
  simp only [List.map_cons, List.map_nil, pick_zero, pick_succ, List.drop_succ_cons, List.drop_zero]
  iterate 10 (refine lin_q ?_ rfl ?_ ?_; rotate_left 1; (focus (rintro w' ⟨hs1, hs2⟩; go_simp; first | done | with_reducible rfl | (trace_state; fail))); simp only [Act.put, List.setIfInBounds_toArray, List.set_cons_zero, List.set_cons_succ])
  refine lin_act ?_
  have hcall := within_c (w := wr.drew) x1 8 (by omega) (by omega)
  refine wl_go rfl _ _ _ (by go_simp) hcall ?_
  clear hcall
  rintro en0 w' ⟨rfl, rfl⟩
  refine ⟨_, rfl, LinPost.mk (HCL.out _ _ HO.out.drew).2 ?_⟩
  simp only [Act.put, List.setIfInBounds_toArray, List.set_cons_zero, List.set_cons_succ]
  iterate 1 (refine lin_q ?_ rfl ?_ ?_; rotate_left 1; (focus (rintro w' ⟨hs1, hs2⟩; go_simp; first | done | with_reducible rfl | (trace_state; fail))); simp only [Act.put, List.setIfInBounds_toArray, List.set_cons_zero, List.set_cons_succ])
  refine lin_act ?_
  have hcall := bytes32_c HO.out.drew x2
  refine wl_go rfl _ _ _ (by go_simp) hcall ?_
  clear hcall
  rintro en0 w1 ⟨v18, Bx, rfl, hbx, hO1⟩
  refine ⟨_, rfl, LinPost.mk (HCL.out _ _ hO1).2 ?_⟩
  simp only [Act.put, List.setIfInBounds_toArray, List.set_cons_zero, List.set_cons_succ]
  refine lin_nil ?_
  have hyb : (pbytes x2 32).length = 32 := length_pbytes _ _
  generalize pbytes x2 32 = ys at *
  obtain ⟨gx, cx, spx, rfl, rfl, hcx⟩ := hbx.blkn 32 hyb (by decide)
  have hc16 := (HCL.out _ _ hO1).2.2
  have hc0 := (HCL.out _ _ hO1).1
  have HBX := Lib.hid hbx; have HO1 := Lib.hid hO1; have HYB := Lib.hid hyb
  clear hbx hO1 hyb HO hwm
  obtain ⟨m, hm⟩ : ∃ m, x1 % 8 = m := ⟨_, rfl⟩
  rw [hm] at hm0 hm1 ⊢
  have HM := Lib.hid hm; clear hm
  have hcx7 : (7 : Int) ≤ cx := by omega
  have hi0 : (0 : Int) ≤ i := by omega
  go_upto_if 83 with fail
  go_cut [18] from 84 to 85 (fun s18 wx => PlayX gx cx w1 s18 wx)
  case first =>
    by_cases h23 : x2.tmod 23 = 22
    · have h23' : (x2.tmod 23 == 22) = true := by simp [h23]
      clear h23
      go_wp2_with fail
      go_meet
      exact ⟨7, .inr rfl, rfl, rfl⟩
    · have h23' : (x2.tmod 23 == 22) = false := by simp [h23]
      clear h23
      go_wp2_with fail
      go_meet
      exact ⟨32, .inl rfl, rfl, rfl⟩
  case rest =>
  obtain ⟨q, hq, rfl, rfl⟩ := hcut
  have HQ := Lib.hid hq
  clear hq hc16
  go_upto_region 18 with fail
  go_cut [19] from 86 to 92 (fun s19 wx => PlayIn (decide (0 ≤ m - 1 ∧ m - 1 < (n : Int))) w1 s19 wx)
  case first =>
    by_cases hat0 : 0 ≤ m - 1
    · by_cases hatn : m - 1 < (n : Int)
      · go_wp2_with fail
        go_meet
        exact ⟨by rw [decide_eq_true (And.intro hat0 hatn)], rfl⟩
      · go_wp2_with fail
        go_meet
        exact ⟨by rw [decide_eq_false (fun h => hatn h.2)], rfl⟩
    · go_wp2_with fail
      go_meet
      exact ⟨by rw [decide_eq_false (fun h => hat0 h.1)], rfl⟩
  case rest =>
  obtain ⟨rfl, rfl⟩ := hcut
  generalize hb : decide (0 ≤ m - 1 ∧ m - 1 < (n : Int)) = b
  have HIN := Lib.hid hb
  clear hb
  obtain ⟨k, hk14⟩ : ∃ k, x0 % 14 = k := ⟨_, rfl⟩
  have HK14 := Lib.hid hk14
  have hk0 : 0 ≤ k := by omega
  have hk13 : k ≤ 13 := by omega
  rw [hk14] at hkk
  clear hk14
  go_wp2_with fail
  have hcall := within_c (w := w1) x0 14 (by omega) (by omega)
  rw [HK14.out] at hcall
  with_reducible refine hcall.mono ?_
  clear hcall
  rintro en0 w' ⟨rfl, rfl⟩
  simp only []
  clear hc0
  subst hkk
  have hc15 := (HCL.out _ _ HO1.out).2.1
  have hO2 : Own w w1 (Ld ++ ([_, _, _] ++ (La ++ (Lx ++ X)))) := Own.rot (A := [_, _, _]) HO1.out.right
  have HO2 := Lib.hid hO2; clear hO2 HO1 HCL
  have hc2 : n2 ≤ c2 := by obtain ⟨A', n', c', e, _, h, _⟩ := HK2.out; cases e; exact h
  go_wp2_with fail
  with_reducible refine (within_big x1 ((n2 : Int) + 1) (by omega) (by omega)).mono ?_
  rintro en0 w' ⟨rfl, rfl⟩
  simp only []
  clear hc15
  obtain ⟨r, hr⟩ : ∃ r : Nat, x1 % ((n2 : Int) + 1) = r := ⟨(x1 % ((n2 : Int) + 1)).toNat, by have := Int.emod_nonneg x1 (show (n2 : Int) + 1 ≠ 0 by omega); omega⟩
  have hrl : r ≤ n2 := by have := Int.emod_lt_of_pos x1 (show (0 : Int) < (n2 : Int) + 1 by omega); omega
  rw [hr]
  clear hr
  have hsl := sl_ints w1 A2 n2 c2 r hrl hc2 HK2N.out
  have HRV2 := Lib.hid (fun R => rest_rdv (R := R) HK2.out hrl)
  have hksl : (a2.drop r).length = n2 - r := by obtain ⟨A', n', c', e, h, _⟩ := HK2.out; cases e; simp; omega
  have HKSL := Lib.hid hksl; clear hksl
  generalize (A2.map fun ad => if c2 = r then ad else ad.add r) = B2 at *
  generalize a2.drop r = ks at *
  have hnrm : n2 - r ≤ 140737488355328 := by omega
  generalize hN2 : n2 - r = nr at *
  generalize hC2 : c2 - r = cr at *
  clear hN2 hC2
  go_wp2_with fail
  have hcall := crash_is HPS.out.disk HO2.out (.slice B2 nr cr) ks (HRV2.out _) _ rfl
  with_reducible refine hcall.mono ?_
  clear hcall hsl
  rintro en0 w2 ⟨rfl, Ld2, hd2, hO3⟩
  have HDE := Lib.hid hd2
  have HF : Hid (CrashTo w gs gz gn s en cn Ld2 La Lx X ks 0 w2) := ⟨es, cs, X, HPS.out.gsure, by simpa [survAll] using HPS.out.sure, fun y h => h, Own.rot (A := Ld2) (B := [_, _, _]) hO3⟩
  clear hd2 hO3 HO2
  simp only []
  go_wp2_with fail
  generalize hp : s.pend.length = p at *
  have HP := Lib.hid hp
  have hp100 : p ≤ 1000 := by have := HPS.out.few; omega
  clear hp
  go_loopw [274] (fun t w' => ∃ j : Nat, j ≤ p ∧ t = .int .i64 (j : Int) ∧ Hid (CrashTo w gs gz gn s en cn Ld2 La Lx X ks j w')) (fun t _ => p - (intOf t).toNat)
  case atStart => exact ⟨0, by omega, rfl, HF.out⟩
  case round =>
    obtain ⟨j, hj, rfl, HFj⟩ := hrel
    clear HF
    by_cases hjp : j < p
    · obtain ⟨es8, cs8, X8, hg8, ht8, hxx, hO8⟩ := HFj.out
      have hjs : j < s.pend.length := by rw [HP.out]; exact hjp
      have hats := HPS.out.ats; have hxs := HPS.out.xs
      rw [HP.out] at hats hxs
      obtain ⟨ga, ca, e, hca⟩ := row_cell (w0 := w) hats (by omega)
      simp only [Value.slice.injEq] at e
      obtain ⟨rfl, -, rfl⟩ := e
      obtain ⟨gy, cyy, e, hcy0⟩ := row_cell (w0 := w) hxs (by omega)
      simp only [Value.slice.injEq] at e
      obtain ⟨rfl, -, rfl⟩ := e
      have hO8' : Own w wr ([_, _, _] ++ (Ld2 ++ (La ++ (Lx ++ X8)))) := hO8
      have hc1 := hca wr _ hO8' (sub_there (sub_there sub_here)) j hjp
      rw [atsV_get _ _ hjs] at hc1
      have hlxs : Lx.Sublist (PBlks gs gz gn es8 en cs8 cn Ld2 La Lx X8) := sub_there (B := [_, _, _]) (sub_there (sub_there sub_here))
      have hc2 := hcy0 wr _ hO8 hlxs j hjp
      have hvl : j < vs.length := by have := hxs.1; omega
      have hvj : vs[j]? = some vs[j] := List.getElem?_eq_getElem hvl
      rw [hvj] at hc2
      have hsh := HPS.out.each j hjs
      have hv0 : vs.getD j undef = vs[j] := by simp [List.getD, hvl]
      rw [hv0] at hsh
      have hpr := HPS.out.disk.1.prow _ (List.getElem_mem hjs)
      have hgd : s.pend.getD j (0, []) = s.pend[j] := by simp [List.getD, hjs]
      rw [hgd] at hsh
      have hrow := row_survAll (s.pend.take j) s.fl ks HPS.out.disk.1.row (fun q hq => HPS.out.disk.1.prow q (List.mem_of_mem_take hq))
      have hln : s.pend[j].1 < (survAll s.fl (s.pend.take j) ks).length := by rw [length_survAll]; exact hpr.1
      obtain ⟨zs, hzs⟩ : ∃ zs, (survAll s.fl (s.pend.take j) ks)[s.pend[j].1]? = some zs := ⟨_, List.getElem?_eq_getElem hln⟩
      have hz32 := hrow zs (List.mem_of_getElem? hzs)
      have hst := crash_step s.fl s.pend ks j hjs hzs hz32 hpr.2
      obtain ⟨kl, hkl⟩ := key_int (s.pend[j].1 : Int) (by have := hpr.1; have := HPS.out.n; omega)
      have hvf : ∃ g c, vs[j] = .slice (some ⟨g, 0, none⟩) 32 c ∧ 32 ≤ c := by
        obtain ⟨B, hB, _⟩ := hsh
        obtain ⟨g, c, sp, h, _, h2⟩ := hB.blkn 32 hpr.2 (by decide)
        exact ⟨g, c, h, h2⟩
      have hq32 := hpr.2
      have hqn : (s.pend[j].1 : Int) < n := by have := hpr.1; have := HPS.out.n; omega
      generalize vs[j] = y8 at *
      generalize s.pend[j] = q8 at *
      obtain ⟨g8, c8, rfl, hc8⟩ := hvf
      have hsh8 : Shows X8 (.slice (some ⟨g8, 0, none⟩) 32 c8) q8.2 := hsh.mono hxx
      obtain ⟨kk, hkk⟩ : ∃ kk, ks.getD j 0 = kk := ⟨_, rfl⟩
      rw [hkk] at hst
      have hcr : j < nr → ∃ bd2, B2 = some bd2 ∧ wr.cell? (bd2.add j) = some (.int .i64 kk) := by
        intro hjr
        obtain ⟨A', n', c', e, hn', _, hA⟩ := HRV2.out (PBlks gs gz gn es8 en cs8 cn Ld2 La Lx X8) wr [] hO8
        cases e
        obtain ⟨bd2, e, hcell⟩ := hA (by omega)
        have hjk : j < ks.length := by rw [HKSL.out]; exact hjr
        exact ⟨bd2, e, hcell j _ (by simp only [iv, List.getElem?_map, List.getElem?_eq_getElem hjk]; rw [← hkk]; simp [List.getD, hjk])⟩
      have hk0 : ¬ j < nr → kk = 0 := by
        intro hjr
        rw [← hkk]; simp [List.getD, HKSL.out, hjr]
      have HCR := Lib.hid hcr; have HK0 := Lib.hid hk0
      have HSH8 := Lib.hid hsh8; have HST := Lib.hid hst; have HKL := Lib.hid hkl; have HO8 := Lib.hid hO8; have HG8 := Lib.hid hg8; have HT8 := Lib.hid ht8; have HLN := Lib.hid hln; have HZS := Lib.hid hzs; have HZ32 := Lib.hid hz32; have HQ32 := Lib.hid hq32; have HXX := Lib.hid hxx; have HCY := Lib.hid hcy0; have HVJ := Lib.hid hvj; have HLXS := Lib.hid hlxs
      have hji : (j : Int) < p := by omega
      clear hsh8 hsh hst hkl hO8 hO8' hg8 ht8 hca hcy0 hats hxs HFj hpr hv0 hgd hvl hjs hln hzs hz32 hq32 hxx hrow hkk hcr hk0 hvj hlxs
      go_upto_region 75 with fail
      go_cut [296] from 279 to 296 (fun s wx => s = .bool (decide (kk = 1 ∨ kk = 2)) ∧ wr = wx)
      case first =>
        by_cases hjr : j < nr
        · obtain ⟨bd2, rfl, hcb⟩ := HCR.out hjr
          have hjri : (j : Int) < nr := by omega
          by_cases h1 : kk = 1
          · subst h1
            go_wp2_with fail
            go_meet
            exact ⟨rfl, rfl⟩
          · have e1 : (kk == 1) = false := by simp [h1]
            by_cases h2 : kk = 2
            · subst h2
              clear h1
              go_wp2_with fail
              go_meet
              exact ⟨rfl, rfl⟩
            · have e2 : (kk == 2) = false := by simp [h2]
              have hd : decide (kk = 1 ∨ kk = 2) = false := by simp [h1, h2]
              have HDD := Lib.hid hd
              clear h1 h2 hd
              go_wp2_with fail
              go_meet
              exact ⟨by rw [HDD.out], rfl⟩
        · have hjri : ¬ ((j : Int) < nr) := by omega
          have hz := HK0.out hjr
          subst hz
          clear hjr
          go_wp2_with fail
          go_meet
          exact ⟨rfl, rfl⟩
      case rest =>
      obtain ⟨rfl, rfl⟩ := hcut
      generalize hdk : decide (kk = 1 ∨ kk = 2) = dk
      have HDK := Lib.hid hdk; clear hdk
      go_upto_if 296 with fail
      go_cut [33] from 297 to 301 (fun s wx => s = .int .i64 ((cutOf kk : Nat) : Int) ∧ wr = wx)
      case first =>
        cases dk with
        | true =>
          have h12 := of_decide_eq_true HDK.out
          have hjr : j < nr := by
            apply Decidable.byContradiction
            intro h
            have := HK0.out h
            omega
          obtain ⟨bd2, rfl, hcb⟩ := HCR.out hjr
          have hjri : (j : Int) < nr := by omega
          rcases h12 with rfl | rfl
          · go_wp2_with fail
            go_meet
            exact ⟨rfl, rfl⟩
          · go_wp2_with fail
            go_meet
            exact ⟨rfl, rfl⟩
        | false =>
          have hcz : cutOf kk = 0 := by
            have h12 := of_decide_eq_false HDK.out
            unfold cutOf; rw [if_neg (fun h => h12 (.inr h)), if_neg (fun h => h12 (.inl h))]
          have HCZ := Lib.hid hcz
          clear hcz
          go_wp2_with fail
          go_meet
          exact ⟨by rw [HCZ.out]; rfl, rfl⟩
      case rest =>
      obtain ⟨rfl, rfl⟩ := hcut
      go_upto_region 78 with (refine wl_look rfl _ _ _ rfl int_kd Try.underlying26 (.slice none 0 0) (zero_row _) HO8.out gs (.head _) HG8.out (by rfl) (.int .i64 (q8.1 : Int)) (by rfl) _ HKL.out ?_; intro y hy; have HY := Lib.hid hy; clear hy)
      have hlook := HT8.out.look HZS.out HZ32.out HY.out
      clear HY
      rcases hlook with ⟨hnn, hshy⟩ | ⟨rfl, rfl⟩
      · have hrdy0 := shows_rd (w := w) hshy HZ32.out
        obtain ⟨gq, cq, hyf, hcy⟩ : ∃ g c, y = .slice (some ⟨g, 0, none⟩) 32 c ∧ 32 ≤ c := by
          obtain ⟨B, hB, _⟩ := hshy
          obtain ⟨g, c, sp, h, _, h2⟩ := hB.blkn 32 HZ32.out (by decide)
          exact ⟨g, c, h, h2⟩
        subst hyf
        have hrdy1 : Rd w (PBlks gs gz gn es8 en cs8 cn Ld2 La Lx X8) (.slice (some ⟨gq, 0, none⟩) 32 cq) zs := fun w' L' h => hrdy0 w' [] (h.right.sub ((((List.sublist_append_right Lx X8).trans (List.sublist_append_right La _)).trans (List.sublist_append_right Ld2 _)).trans ((((List.sublist_cons_self _ _).trans (List.sublist_cons_self _ _)).trans (List.sublist_cons_self _ _)))))
        have HRDY := Lib.hid hrdy1; clear hrdy0 hrdy1 hshy hnn
        have hnil := eql_nil wr ⟨gq, 0, none⟩ 32 cq
        go_wp2_with fail
        have hcut := cutOf_le kk
        refine wp_region_lin (fun w' => w'.cell? ⟨gy, j, none⟩ = some (.slice (some ⟨g8, 0, none⟩) 32 c8)) 13 [(0, true), (1, true), (2, true), (3, true), (4, true), (5, true), (6, true), (7, true), (9, true), (10, true), (11, true), (8, false), (12, false)] (by kernel_rfl) (by kernel_rfl) (fun c a d v w h => HQ0.out c a d v w h) hc2 ?_
        simp only [List.map_cons, List.map_nil, pick_zero, pick_succ, List.drop_succ_cons, List.drop_zero]
        iterate 7 (refine lin_q ?_ rfl ?_ ?_; rotate_left 1; (focus (rintro w' hq; go_simp; first | done | with_reducible rfl | (trace_state; fail))); simp only [Act.put, List.setIfInBounds_toArray, List.set_cons_zero, List.set_cons_succ])
        refine lin_q (.slice (some ⟨g8, 0, none⟩) (cutOf kk) c8) rfl (fun w' hq => by simp [execOp, Act.eval, Instr.sliceAt, sl_uptoB w' ⟨g8, 0, none⟩ 32 c8 (cutOf kk) hcut hc8]) ?_
        simp only [Act.put, List.setIfInBounds_toArray, List.set_cons_zero, List.set_cons_succ]
        iterate 2 (refine lin_q ?_ rfl ?_ ?_; rotate_left 1; (focus (rintro w' hq; go_simp; first | done | with_reducible rfl | (trace_state; fail))); simp only [Act.put, List.setIfInBounds_toArray, List.set_cons_zero, List.set_cons_succ])
        refine lin_q (.slice (some (if cq = cutOf kk then ⟨gq, 0, none⟩ else (⟨gq, 0, none⟩ : Addr).add (cutOf kk))) (32 - cutOf kk) (cq - cutOf kk)) rfl (fun w' hq => by simp [execOp, Act.eval, Instr.sliceAt, sl_fromB w' ⟨gq, 0, none⟩ 32 cq (cutOf kk) hcut hcy]) ?_
        simp only [Act.put, List.setIfInBounds_toArray, List.set_cons_zero, List.set_cons_succ]
        have HOd := Lib.hid HO8.out.drew; clear HO8
        have hrd8 := (shows_rd (w := w) HSH8.out HQ32.out).upto (cutOf kk) hcut
        have hrdy := HRDY.out.from_ (cutOf kk) hcut
        refine lin_act ?_
        refine wl_appendB rfl _ _ rfl (.slice none 0 0) [] (by rfl) (L := []) (R := PBlks gs gz gn es8 en cs8 cn Ld2 La Lx X8) isBytes_nil HOd.out _ (q8.2.take (cutOf kk)) (by rfl) (hrd8 _ [] (HOd.out.sub ((((List.sublist_append_right Lx X8).trans (List.sublist_append_right La _)).trans (List.sublist_append_right Ld2 _)).trans ((((List.sublist_cons_self _ _).trans (List.sublist_cons_self _ _)).trans (List.sublist_cons_self _ _)))))) (by simp [HQ32.out]; omega) ?_
        intro va wa La9 hva hOa
        refine LinPost.mk (by have := HCY.out wa _ hOa (sub_there HLXS.out) j hjp; rw [HVJ.out] at this; exact this) ?_
        simp only [Act.put, List.setIfInBounds_toArray, List.set_cons_zero, List.set_cons_succ]
        have HVA := Lib.hid hva; have HOA := Lib.hid hOa; clear hva hOa HOd
        refine lin_act ?_
        refine wl_appendB rfl _ _ rfl va _ (by rfl) HVA.out HOA.out _ (zs.drop (cutOf kk)) (by rfl) (hrdy _ _ HOA.out) (by simp [HQ32.out, HZ32.out]; omega) ?_
        intro vb wb Lb9 hvb hOb
        refine LinPost.mk (by have := HCY.out wb _ hOb (sub_there HLXS.out) j hjp; rw [HVJ.out] at this; exact this) ?_
        simp only [Act.put, List.setIfInBounds_toArray, List.set_cons_zero, List.set_cons_succ]
        have hOb2 : Own w wb (PBlks gs gz gn es8 en cs8 cn Ld2 La Lx (Lb9 ++ X8)) := own_any hOb (by intro p; simp only [PBlks, List.count_append, List.count_cons, List.count_nil]; omega)
        have HVB := Lib.hid hvb; have HOB := Lib.hid hOb2; clear hvb hOb hOb2 HOA HVA hrd8 hrdy
        refine lin_nil ?_
        go_wp2_with (refine wl_upd rfl _ _ _ _ rfl int_kd Try.underlying26 HOB.out 0 gs rfl HG8.out (by rfl) (.int .i64 (q8.1 : Int)) vb (by rfl) (by rfl) _ HKL.out ?_; intro w9 es9 cs9 hO9' hg9 hu9; have hO9 : Own w w9 (PBlks gs gz gn es9 en cs9 cn Ld2 La Lx (Lb9 ++ X8)) := hO9'; have HO9 := Lib.hid hO9; have HG9 := Lib.hid hg9; have HU9 := Lib.hid hu9; clear hO9 hO9' hg9 hu9 HOB)
        go_roundw
        case rel => exact ⟨j + 1, by omega, by go_num, es9, cs9, Lb9 ++ X8, HG9.out, by rw [HST.out]; exact (HT8.out.mono (fun y hy => List.mem_append_right _ hy)).set HLN.out ⟨Lb9, by simpa using HVB.out, fun y hy => List.mem_append_left _ hy⟩ HU9.out, fun y hy => List.mem_append_right _ (HXX.out y hy), HO9.out⟩
        case measure => simp [intOf]; omega
      · have hnil := nil_nil wr
        have hcy : 32 ≤ 32 := Nat.le_refl _
        have hrdy1 : Rd w (PBlks gs gz gn es8 en cs8 cn Ld2 La Lx X8) (.slice (some ⟨gz, 0, none⟩) 32 32) zsec := rd_block (.tail _ (.tail _ (.head _))) 32 (by decide) (Nat.le_refl _)
        have HRDY := Lib.hid hrdy1; clear hrdy1
        go_wp2_with fail
        have hcut := cutOf_le kk
        refine wp_region_lin (fun w' => w'.cell? ⟨gy, j, none⟩ = some (.slice (some ⟨g8, 0, none⟩) 32 c8)) 13 [(0, true), (1, true), (2, true), (3, true), (4, true), (5, true), (6, true), (7, true), (9, true), (10, true), (11, true), (8, false), (12, false)] (by kernel_rfl) (by kernel_rfl) (fun c a d v w h => HQ0.out c a d v w h) hc2 ?_
        simp only [List.map_cons, List.map_nil, pick_zero, pick_succ, List.drop_succ_cons, List.drop_zero]
        iterate 7 (refine lin_q ?_ rfl ?_ ?_; rotate_left 1; (focus (rintro w' hq; go_simp; first | done | with_reducible rfl | (trace_state; fail))); simp only [Act.put, List.setIfInBounds_toArray, List.set_cons_zero, List.set_cons_succ])
        refine lin_q (.slice (some ⟨g8, 0, none⟩) (cutOf kk) c8) rfl (fun w' hq => by simp [execOp, Act.eval, Instr.sliceAt, sl_uptoB w' ⟨g8, 0, none⟩ 32 c8 (cutOf kk) hcut hc8]) ?_
        simp only [Act.put, List.setIfInBounds_toArray, List.set_cons_zero, List.set_cons_succ]
        iterate 2 (refine lin_q ?_ rfl ?_ ?_; rotate_left 1; (focus (rintro w' hq; go_simp; first | done | with_reducible rfl | (trace_state; fail))); simp only [Act.put, List.setIfInBounds_toArray, List.set_cons_zero, List.set_cons_succ])
        refine lin_q (.slice (some (if 32 = cutOf kk then ⟨gz, 0, none⟩ else (⟨gz, 0, none⟩ : Addr).add (cutOf kk))) (32 - cutOf kk) (32 - cutOf kk)) rfl (fun w' hq => by simp [execOp, Act.eval, Instr.sliceAt, sl_fromB w' ⟨gz, 0, none⟩ 32 32 (cutOf kk) hcut hcy]) ?_
        simp only [Act.put, List.setIfInBounds_toArray, List.set_cons_zero, List.set_cons_succ]
        have HOd := Lib.hid HO8.out.drew; clear HO8
        have hrd8 := (shows_rd (w := w) HSH8.out HQ32.out).upto (cutOf kk) hcut
        have hrdy := HRDY.out.from_ (cutOf kk) hcut
        refine lin_act ?_
        refine wl_appendB rfl _ _ rfl (.slice none 0 0) [] (by rfl) (L := []) (R := PBlks gs gz gn es8 en cs8 cn Ld2 La Lx X8) isBytes_nil HOd.out _ (q8.2.take (cutOf kk)) (by rfl) (hrd8 _ [] (HOd.out.sub ((((List.sublist_append_right Lx X8).trans (List.sublist_append_right La _)).trans (List.sublist_append_right Ld2 _)).trans ((((List.sublist_cons_self _ _).trans (List.sublist_cons_self _ _)).trans (List.sublist_cons_self _ _)))))) (by simp [HQ32.out]; omega) ?_
        intro va wa La9 hva hOa
        refine LinPost.mk (by have := HCY.out wa _ hOa (sub_there HLXS.out) j hjp; rw [HVJ.out] at this; exact this) ?_
        simp only [Act.put, List.setIfInBounds_toArray, List.set_cons_zero, List.set_cons_succ]
        have HVA := Lib.hid hva; have HOA := Lib.hid hOa; clear hva hOa HOd
        refine lin_act ?_
        refine wl_appendB rfl _ _ rfl va _ (by rfl) HVA.out HOA.out _ (zsec.drop (cutOf kk)) (by rfl) (hrdy _ _ HOA.out) (by simp [HQ32.out, HZ32.out]; omega) ?_
        intro vb wb Lb9 hvb hOb
        refine LinPost.mk (by have := HCY.out wb _ hOb (sub_there HLXS.out) j hjp; rw [HVJ.out] at this; exact this) ?_
        simp only [Act.put, List.setIfInBounds_toArray, List.set_cons_zero, List.set_cons_succ]
        have hOb2 : Own w wb (PBlks gs gz gn es8 en cs8 cn Ld2 La Lx (Lb9 ++ X8)) := own_any hOb (by intro p; simp only [PBlks, List.count_append, List.count_cons, List.count_nil]; omega)
        have HVB := Lib.hid hvb; have HOB := Lib.hid hOb2; clear hvb hOb hOb2 HOA HVA hrd8 hrdy
        refine lin_nil ?_
        go_wp2_with (refine wl_upd rfl _ _ _ _ rfl int_kd Try.underlying26 HOB.out 0 gs rfl HG8.out (by rfl) (.int .i64 (q8.1 : Int)) vb (by rfl) (by rfl) _ HKL.out ?_; intro w9 es9 cs9 hO9' hg9 hu9; have hO9 : Own w w9 (PBlks gs gz gn es9 en cs9 cn Ld2 La Lx (Lb9 ++ X8)) := hO9'; have HO9 := Lib.hid hO9; have HG9 := Lib.hid hg9; have HU9 := Lib.hid hu9; clear hO9 hO9' hg9 hu9 HOB)
        go_roundw
        case rel => exact ⟨j + 1, by omega, by go_num, es9, cs9, Lb9 ++ X8, HG9.out, by rw [HST.out]; exact (HT8.out.mono (fun y hy => List.mem_append_right _ hy)).set HLN.out ⟨Lb9, by simpa using HVB.out, fun y hy => List.mem_append_left _ hy⟩ HU9.out, fun y hy => List.mem_append_right _ (HXX.out y hy), HO9.out⟩
        case measure => simp [intOf]; omega
    · obtain rfl : j = p := by omega
      obtain ⟨es7, cs7, X7, hg7, ht7, hxx, hO7⟩ := HFj.out
      rw [List.take_of_length_le (by rw [HP.out]; omega)] at ht7
      have HG7 := Lib.hid hg7; have HT7 := Lib.hid ht7; have HO7 := Lib.hid hO7
      clear hg7 ht7 hxx hO7 HFj
      go_wp2_with (first | (refine wl_makeMap rfl _ rfl HO7.out ?_; intro g9 w8 hO8; have hO8' : Own w w8 ((gs, .map es7 cs7) :: (g9, .map #[] 0) :: (gn, .map en cn) :: (gz, .cells (bv zsec).toArray 5) :: (Ld2 ++ (La ++ (Lx ++ X7)))) := own_any hO8 (by intro p; simp only [PBlks, List.count_append, List.count_cons, List.count_nil]; omega); have HO8 := Lib.hid hO8'; clear hO8 hO8' HO7) | (refine wl_range rfl _ _ rfl Try.underlying26 HO8.out gs (.head _) (by rfl) ?_; intro r9 w9 hO9; have HO9 := Lib.hid hO9; clear hO9 HO8))
      have HCT : Hid (CopyTo w r9 gs g9 es7 cs7 ((gn, .map en cn) :: (gz, .cells (bv zsec).toArray 5) :: (Ld2 ++ (La ++ (Lx ++ X7)))) (leftOf es7 #[]).size w9) := ⟨#[], #[], 0, rfl, goodMap_nil, copied_start es7, own_any HO9.out (by intro p; simp only [PBlks, List.count_append, List.count_cons, List.count_nil]; omega)⟩
      clear HO9
      simp only [Act.put, List.setIfInBounds_toArray, List.set_cons_zero, List.set_cons_succ]
      go_loopg [] (leftOf es7 #[]).size (fun gg wx => CopyTo w r9 gs g9 es7 cs7 ((gn, .map en cn) :: (gz, .cells (bv zsec).toArray 5) :: (Ld2 ++ (La ++ (Lx ++ X7)))) gg wx)
      case atStart => exact HCT.out
      case round =>
        obtain ⟨seen, en9, cn9, rfl, hgn, hcp, hO10⟩ := hrel
        clear HCT
        have HGN := Lib.hid hgn; have HCP := Lib.hid hcp; have HO10 := Lib.hid hO10
        clear hgn hcp hO10
        by_cases hlf : (leftOf es7 seen).size = 0
        · have HLF := Lib.hid hlf; clear hlf
          have hOF : Own w wr (PBlks gs gz g9 es7 en9 cs7 cn9 Ld2 [] [] X7) := own_any (HO10.out.sub (List.Sublist.cons _ ((List.Sublist.refl [_, _]).append (List.Sublist.cons _ ((List.Sublist.refl [_]).append ((List.Sublist.refl Ld2).append ((List.sublist_append_right Lx X7).trans (List.sublist_append_right La _)))))))) (by intro p; simp only [PBlks, List.count_append, List.count_cons, List.count_nil]; omega)
          have HOF := Lib.hid hOF; clear hOF
          have hOE2 : Own w wr (Ld2 ++ ((gs, .map es7 cs7) :: (g9, .map en9 cn9) :: (gz, .cells (bv zsec).toArray 5) :: X7)) := own_any HOF.out (by intro p; simp only [PBlks, List.count_append, List.count_cons, List.count_nil]; omega)
          have HOE2 := Lib.hid hOE2; clear hOE2
          go_upto_region 88 with (refine wl_next_done rfl _ rfl HO10.out 0 r9 gs rfl (.tail _ (.tail _ (.head _))) HG7.out (by rfl) HLF.out ?_)
          clear HO10
          have hpe := pending_is HDE.out HOE2.out _ rfl
          have hde := down_is HDE.out HOE2.out false rfl
          have HPE := Lib.hid hpe; have HDE2 := Lib.hid hde; clear hpe hde
          have q1 : ((((s.crash ks).pend.length : Nat) : Int) != (((s.crash ks).pend.length : Nat) : Int)) = false := by simp
          go_wp2_with fail
          with_reducible refine HPE.out.mono ?_
          rintro en0 w' ⟨rfl, rfl⟩
          simp only []
          go_wp2_with fail
          with_reducible refine HDE2.out.mono ?_
          rintro en0 w' ⟨rfl, rfl⟩
          simp only []
          go_wp2_with fail
          exact HR.out _ _ _ _ _ _ _ _ _ _ _ _ _ _ _ _ _ _ _ _ _ _ _ _ _ _ _ _ _ _ _ _ _ _ _ _ _ _ _ _ _ _ _ _ _ _ _ _ _ _ _ _ _ _ _ _ _ _ _ _ _ _ _ _ _ _ _ _ _ _ _ _ _ _ _ _ _ _ _ _ _ _ _ _ _ _ _ _ _ _ _ _ _ _ _ _ _ _ _ _ _ _ _ _ _ _ _ _ _ _ _ _ _ _ _ _ _ _ _ _ _ _ _ _ _ _ _ _ _ _ _ _ _ _ _ _ _ _ _ _ _ _ _ _ _ _ _ _ _ _ _ _ _ _ _ _ _ _ _ _ _ _ _ _ _ _ _ _ _ _ _ _ _ _ _ _ _ _ _ _ _ _ _ _ _ _ _ _ _ _ _ _ _ _ _ _ _ _ _ _ _ _ _ _ _ _ _ _ _ _ _ _ _ _ _ _ _ _ _ _ _ _ _ _ _ _ _ _ _ _ _ _ _ _ _ _ _ _ _ _ _ _ _ _ _ _ _ _ _ _ _ _ _ _ _ _ _ _ _ _ _ _ _ _ _ _ _ _ _ _ _ _ _ _ _ _ _ _ _ _ _ _ _ _ _ _ _ _ _ _ _ _ _ _ _ _ _ _ _ _ _ _ _ _ _ _ _ _ _ _ _ _ _ _ _ _ _ _ _ _ (by go_num) ⟨g9, s.crash ks, es7, en9, cs7, cn9, [], Ld2, [], [], X7, rfl, rfl, rfl, ⟨HDE.out, by show (survAll s.fl s.pend ks).length = n; rw [length_survAll]; exact HPS.out.n, HG7.out, HGN.out, HT7.out, HT7.out.same (HCP.out.done (all_gone HLF.out)), ⟨rfl, .inl ⟨rfl, rfl, rfl⟩⟩, ⟨rfl, .inl ⟨rfl, rfl, rfl⟩⟩, fun j hj => absurd hj (by simp [DSt.crash]), by simp [DSt.crash]⟩, HOF.out⟩
        · go_wp2_with (first | (refine wl_next_step rfl _ rfl HO10.out 0 r9 gs rfl (.tail _ (.tail _ (.head _))) HG7.out (by rfl) hlf ?_; intro kx vx seen2 w11 hO11 hlt hhas hgone hlast; have HO11 := Lib.hid hO11; have HLT := Lib.hid hlt; have HHAS := Lib.hid hhas; have HGO := Lib.hid hgone; have HLA := Lib.hid hlast; obtain ⟨kl9, hkx⟩ := tells_key HT7.out (by rw [length_survAll]; exact Nat.le_trans (Nat.le_of_eq HPS.out.n) hnl) hhas; have HKX := Lib.hid hkx; clear hO11 hlt hhas hgone hlast hkx HO10) | (refine wl_entry rfl _ rfl HO11.out r9 gs (.head _) (.tail _ (.tail _ (.head _))) HG7.out (by rfl) kx vx HLA.out ?_) | (refine wl_upd rfl _ _ _ _ rfl int_kd Try.underlying26 HO11.out 1 g9 rfl HGN.out (by rfl) kx vx (by rfl) (by rfl) _ HKX.out ?_; intro w12 en12 cn12 hO12 hg12 hu12; have HO12 := Lib.hid hO12; have HG12 := Lib.hid hg12; have HU12 := Lib.hid hu12; clear hO12 hg12 hu12 HO11))
          go_roundg (leftOf es7 seen2).size
          case measure => exact HLT.out
          case rel => exact ⟨seen2, en12, cn12, rfl, HG12.out, HCP.out.step HG7.out HHAS.out HGO.out HU12.out, HO12.out⟩

end Go.Proofs.Ytelboocnenaicaa
