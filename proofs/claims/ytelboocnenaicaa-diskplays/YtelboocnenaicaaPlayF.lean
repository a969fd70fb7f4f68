/-
  DiskPlays: a round, case by case. (a flush)
-/
import Derived.Test.YtelboocnenaicaaPlayL
import Derived.Deep.DeepCutAuto
namespace Go.Proofs.Ytelboocnenaicaa
set_option linter.unusedVariables false
set_option linter.unusedSimpArgs false
open Go.RowKit

/-- The map of what is flushed, behind the first j pending writes. -/
def FlushTo (w : World) (gs gz gn : Nat) (s : DSt) (en : Array MapEntry) (cn : Nat) (Ld La Lx X : Blks) (j : Nat) (wx : World) : Prop :=
  ∃ es cs, GoodMap Try.prog 3 es cs ∧ Tells X es (over s.fl (s.pend.take j)) ∧ Own w wx (PBlks gs gz gn es en cs cn Ld La Lx X)
theorem atsV_at (p : List (Nat × List Int)) (j : Nat) (hj : j < p.length) : (atsV p)[j]? = some (.int .i64 (p[j].1 : Int)) := by simp [atsV, hj]
set_option maxRecDepth 1000000 in
set_option maxHeartbeats 16000000 in
theorem play_flush {w wr : World} {a1 a2 : List Int} {ad : Addr} {n1 c1 n2 c2 n gs gz gn bd i : Nat} {A2 : Option Addr} {s12 s13 : Value} {s : DSt} {es en : Array MapEntry} {cs cn : Nat} {vs : List Value} {Ld La Lx X : Blks} (u6 u17 u18 u19 u20 u21 u22 u23 u24 u25 u26 u27 u28 u29 u30 u31 u32 u33 u34 u35 u36 u37 u53 u54 u55 u56 u57 u58 u59 u60 u61 u62 u63 u64 u65 u66 u67 u68 u69 u70 u71 u72 u73 u74 u75 u76 u77 u78 u79 u80 u81 u82 u83 u84 u85 u86 u87 u88 u89 u90 u91 u92 u93 u94 u95 u96 u97 u98 u99 u100 u101 u102 u103 u104 u105 u106 u107 u108 u109 u110 u111 u112 u113 u114 u115 u116 u117 u118 u119 u120 u121 u122 u123 u124 u125 u126 u127 u128 u129 u130 u131 u132 u133 u134 u135 u136 u137 u138 u139 u140 u141 u142 u143 u144 u145 u146 u147 u148 u149 u150 u151 u152 u153 u154 u155 u156 u157 u158 u159 u160 u161 u162 u163 u164 u165 u166 u167 u168 u169 u170 u171 u172 u173 u174 u175 u176 u177 u178 u179 u180 u181 u182 u183 u184 u185 u186 u187 u188 u189 u190 u191 u192 u193 u194 u195 u196 u197 u198 u199 u200 u201 u202 u203 u204 u205 u206 u207 u208 u209 u210 u211 u212 u213 u214 u215 u216 u217 u218 u219 u220 u221 u222 u223 u224 u225 u226 u227 u228 u229 u230 u231 u232 u233 u234 u235 u236 u237 u238 u239 u240 u241 u242 u243 u244 u245 u246 u247 u248 u249 u250 u251 u252 u253 u254 u255 u256 u257 u258 u259 u260 u261 u262 u263 u264 u265 u266 u267 u268 u269 u270 u271 u272 u273 u274 u275 u276 u277 u278 u279 u280 u281 u282 u283 u284 u285 u286 u287 u288 u289 u290 u291 u292 u293 u294 u295 u296 u297 u298 u299 u300 u301 u302 u303 u304 u305 u306 u307 u308 u309 u310 u311 u312 u313 u314 u315 u316 u317 u318 u319 u320 u321 u322 u323 u324 u325 u326 u327 u328 u329 u330 u331 u332 u333 u334 u335 u336 u337 u338 u339 u340 u341 u342 u343 c0_ c3_ c4_ c5_ c38_ c39_ c40_ c41_ c42_ c43_ c44_ c45_ c46_ c47_ c48_ c49_ c50_ c51_ c52_ c344_ c345_ c346_ c347_ c348_ c349_ c350_ : Value) (HN1 : Hid (a1.length = n1)) (HC1 : Hid (∀ j x, a1[j]? = some x → w.cell? (ad.add j) = some (.int .i64 x) ∧ ad.block < w.heap.size)) (hn1m : n1 ≤ 9223372036854775807) (HK2 : Hid (InRow .i64 w (.slice A2 n2 c2) a2)) (hnl : n ≤ 1024) (hi : i + 2 < n1) (hi90 : i < 90) (HPS : Hid (PS w (.pointer (some ⟨bd, 0, none⟩)) n i gs gz gn s12 s13 s es en cs cn vs Ld La Lx X)) (HO : Hid (Own w wr (PBlks gs gz gn es en cs cn Ld La Lx X))) (R : Act → World → Prop) (Q0 : Exit → Act → World → Prop) (HQ0 : Hid (∀ c a d v w, Q0 (.panic c) (Act.put a d v) w → Q0 (.panic c) a w))
    (HR : Hid (∀ (r6 r10 r12 r13 r14 r15 r16 r17 r18 r19 r20 r21 r22 r23 r24 r25 r26 r27 r28 r29 r30 r31 r32 r33 r34 r35 r36 r37 r53 r54 r55 r56 r57 r58 r59 r60 r61 r62 r63 r64 r65 r66 r67 r68 r69 r70 r71 r72 r73 r74 r75 r76 r77 r78 r79 r80 r81 r82 r83 r84 r85 r86 r87 r88 r89 r90 r91 r92 r93 r94 r95 r96 r97 r98 r99 r100 r101 r102 r103 r104 r105 r106 r107 r108 r109 r110 r111 r112 r113 r114 r115 r116 r117 r118 r119 r120 r121 r122 r123 r124 r125 r126 r127 r128 r129 r130 r131 r132 r133 r134 r135 r136 r137 r138 r139 r140 r141 r142 r143 r144 r145 r146 r147 r148 r149 r150 r151 r152 r153 r154 r155 r156 r157 r158 r159 r160 r161 r162 r163 r164 r165 r166 r167 r168 r169 r170 r171 r172 r173 r174 r175 r176 r177 r178 r179 r180 r181 r182 r183 r184 r185 r186 r187 r188 r189 r190 r191 r192 r193 r194 r195 r196 r197 r198 r199 r200 r201 r202 r203 r204 r205 r206 r207 r208 r209 r210 r211 r212 r213 r214 r215 r216 r217 r218 r219 r220 r221 r222 r223 r224 r225 r226 r227 r228 r229 r230 r231 r232 r233 r234 r235 r236 r237 r238 r239 r240 r241 r242 r243 r244 r245 r246 r247 r248 r249 r250 r251 r252 r253 r254 r255 r256 r257 r258 r259 r260 r261 r262 r263 r264 r265 r266 r267 r268 r269 r270 r271 r272 r273 r274 r275 r276 r277 r278 r279 r280 r281 r282 r283 r284 r285 r286 r287 r288 r289 r290 r291 r292 r293 r294 r295 r296 r297 r298 r299 r300 r301 r302 r303 r304 r305 r306 r307 r308 r309 r310 r311 r312 r313 r314 r315 r316 r317 r318 r319 r320 r321 r322 r323 r324 r325 r326 r327 r328 r329 r330 r331 r332 r333 r334 r335 r336 r337 r338 r339 r340 r341 r342 r343 : Value) w2, r16 = .int .i64 ((i + 3 : Nat) : Int) → PState w (.pointer (some ⟨bd, 0, none⟩)) n (i + 3) gs gz r10 r12 r13 r14 r15 w2 → R ⟨#[c0_, .slice (some ad) n1 c1, .slice A2 n2 c2, c3_, c4_, c5_, r6, .pointer (some ⟨bd, 0, none⟩), .int .i64 (n : Int), .map (some gs), r10, .slice (some ⟨gz, 0, none⟩) 32 32, r12, r13, r14, r15, r16, r17, r18, r19, r20, r21, r22, r23, r24, r25, r26, r27, r28, r29, r30, r31, r32, r33, r34, r35, r36, r37, c38_, c39_, c40_, c41_, c42_, c43_, c44_, c45_, c46_, c47_, c48_, c49_, c50_, c51_, c52_, r53, r54, r55, r56, r57, r58, r59, r60, r61, r62, r63, r64, r65, r66, r67, r68, r69, r70, r71, r72, r73, r74, r75, r76, r77, r78, r79, r80, r81, r82, r83, r84, r85, r86, r87, r88, r89, r90, r91, r92, r93, r94, r95, r96, r97, r98, r99, r100, r101, r102, r103, r104, r105, r106, r107, r108, r109, r110, r111, r112, r113, r114, r115, r116, r117, r118, r119, r120, r121, r122, r123, r124, r125, r126, r127, r128, r129, r130, r131, r132, r133, r134, r135, r136, r137, r138, r139, r140, r141, r142, r143, r144, r145, r146, r147, r148, r149, r150, r151, r152, r153, r154, r155, r156, r157, r158, r159, r160, r161, r162, r163, r164, r165, r166, r167, r168, r169, r170, r171, r172, r173, r174, r175, r176, r177, r178, r179, r180, r181, r182, r183, r184, r185, r186, r187, r188, r189, r190, r191, r192, r193, r194, r195, r196, r197, r198, r199, r200, r201, r202, r203, r204, r205, r206, r207, r208, r209, r210, r211, r212, r213, r214, r215, r216, r217, r218, r219, r220, r221, r222, r223, r224, r225, r226, r227, r228, r229, r230, r231, r232, r233, r234, r235, r236, r237, r238, r239, r240, r241, r242, r243, r244, r245, r246, r247, r248, r249, r250, r251, r252, r253, r254, r255, r256, r257, r258, r259, r260, r261, r262, r263, r264, r265, r266, r267, r268, r269, r270, r271, r272, r273, r274, r275, r276, r277, r278, r279, r280, r281, r282, r283, r284, r285, r286, r287, r288, r289, r290, r291, r292, r293, r294, r295, r296, r297, r298, r299, r300, r301, r302, r303, r304, r305, r306, r307, r308, r309, r310, r311, r312, r313, r314, r315, r316, r317, r318, r319, r320, r321, r322, r323, r324, r325, r326, r327, r328, r329, r330, r331, r332, r333, r334, r335, r336, r337, r338, r339, r340, r341, r342, r343, c344_, c345_, c346_, c347_, c348_, c349_, c350_], []⟩ w2))
    (hkk : ∃ x0, a1[i]? = some x0 ∧ (9 ≤ x0 % 14 ∧ x0 % 14 < 11))  : Code.wp Try.prog playBody (Exit.then R Q0) ⟨#[c0_, .slice (some ad) n1 c1, .slice A2 n2 c2, c3_, c4_, c5_, u6, .pointer (some ⟨bd, 0, none⟩), .int .i64 (n : Int), .map (some gs), .map (some gn), .slice (some ⟨gz, 0, none⟩) 32 32, s12, s13, .int .i64 s.left, .bool s.down, .int .i64 (i : Int), u17, u18, u19, u20, u21, u22, u23, u24, u25, u26, u27, u28, u29, u30, u31, u32, u33, u34, u35, u36, u37, c38_, c39_, c40_, c41_, c42_, c43_, c44_, c45_, c46_, c47_, c48_, c49_, c50_, c51_, c52_, u53, u54, u55, u56, u57, u58, u59, u60, u61, u62, u63, u64, u65, u66, u67, u68, u69, u70, u71, u72, u73, u74, u75, u76, u77, u78, u79, u80, u81, u82, u83, u84, u85, u86, u87, u88, u89, u90, u91, u92, u93, u94, u95, u96, u97, u98, u99, u100, u101, u102, u103, u104, u105, u106, u107, u108, u109, u110, u111, u112, u113, u114, u115, u116, u117, u118, u119, u120, u121, u122, u123, u124, u125, u126, u127, u128, u129, u130, u131, u132, u133, u134, u135, u136, u137, u138, u139, u140, u141, u142, u143, u144, u145, u146, u147, u148, u149, u150, u151, u152, u153, u154, u155, u156, u157, u158, u159, u160, u161, u162, u163, u164, u165, u166, u167, u168, u169, u170, u171, u172, u173, u174, u175, u176, u177, u178, u179, u180, u181, u182, u183, u184, u185, u186, u187, u188, u189, u190, u191, u192, u193, u194, u195, u196, u197, u198, u199, u200, u201, u202, u203, u204, u205, u206, u207, u208, u209, u210, u211, u212, u213, u214, u215, u216, u217, u218, u219, u220, u221, u222, u223, u224, u225, u226, u227, u228, u229, u230, u231, u232, u233, u234, u235, u236, u237, u238, u239, u240, u241, u242, u243, u244, u245, u246, u247, u248, u249, u250, u251, u252, u253, u254, u255, u256, u257, u258, u259, u260, u261, u262, u263, u264, u265, u266, u267, u268, u269, u270, u271, u272, u273, u274, u275, u276, u277, u278, u279, u280, u281, u282, u283, u284, u285, u286, u287, u288, u289, u290, u291, u292, u293, u294, u295, u296, u297, u298, u299, u300, u301, u302, u303, u304, u305, u306, u307, u308, u309, u310, u311, u312, u313, u314, u315, u316, u317, u318, u319, u320, u321, u322, u323, u324, u325, u326, u327, u328, u329, u330, u331, u332, u333, u334, u335, u336, u337, u338, u339, u340, u341, u342, u343, c344_, c345_, c346_, c347_, c348_, c349_, c350_], []⟩ wr := by
  obtain ⟨x0, hx0, hkk⟩ := hkk
  obtain ⟨A12, c12, hs12⟩ := HPS.out.ats.val
  subst hs12
  obtain ⟨A13, c13, hs13⟩ := HPS.out.xs.val
  subst hs13
  obtain ⟨x1, hx1⟩ : ∃ x, a1[i + 1]? = some x := ⟨_, List.getElem?_eq_getElem (by rw [HN1.out]; omega)⟩
  obtain ⟨x2, hx2⟩ : ∃ x, a1[i + 2]? = some x := ⟨_, List.getElem?_eq_getElem (by rw [HN1.out]; omega)⟩
  have hcl : ∀ (wz : World) (L' : Blks), Own w wz L' → wz.cell? (ad.add i) = some (.int .i64 x0) ∧ wz.cell? ⟨ad.block, ad.off + (i + 1), none⟩ = some (.int .i64 x1) ∧ wz.cell? ⟨ad.block, ad.off + (i + 2), none⟩ = some (.int .i64 x2) := by
    intro wz L' hz
    have hb := (HC1.out i x0 hx0).2
    exact ⟨by rw [hz.below.cell (by rw [block_of_add]; exact hb)]; exact (HC1.out _ _ hx0).1, (hz.below.cell (p := ⟨ad.block, ad.off + (i + 1), none⟩) hb).trans (HC1.out _ _ hx1).1, (hz.below.cell (p := ⟨ad.block, ad.off + (i + 2), none⟩) hb).trans (HC1.out _ _ hx2).1⟩
  have HCL := Lib.hid hcl; clear hcl hx0 hx1 hx2 HC1 HN1
  have e1 : (i : Int) + 2 < n1 := by omega
  have e2 : (i : Int) < 90 := by omega
  have e3 : ((i : Int) + 1).toNat = i + 1 := by omega
  have e4 : ((i : Int) + 2).toNat = i + 2 := by omega
  have e5 : (0 : Int) ≤ (i : Int) + 1 := by omega
  have e6 : (0 : Int) ≤ (i : Int) + 2 := by omega
  have e7 : (i : Int) + 1 < n1 := by omega
  have e8 : IntKind.i64.wrap ((i : Int) + 1) = (i : Int) + 1 := IntWalk.i64_in _ (by omega)
  have e9 : IntKind.i64.wrap ((i : Int) + 2) = (i : Int) + 2 := IntWalk.i64_in _ (by omega)
  have e10 : (i : Int) < n1 := by omega
  conv => arg 2; whnf
  go_wp2_with fail
  have hm0 : 0 ≤ x1 % 8 := by omega
  have hm1 : x1 % 8 ≤ 7 := by omega
  have hwm : IntKind.i64.wrap (x1 % 8 - 1) = x1 % 8 - 1 := IntWalk.i64_in _ (by omega)
  refine wp_region_lin (fun w' => w'.cell? ⟨ad.block, ad.off + (i + 1), none⟩ = some (.int .i64 x1) ∧ w'.cell? ⟨ad.block, ad.off + (i + 2), none⟩ = some (.int .i64 x2)) 13 [(0, true), (1, true), (2, true), (3, true), (4, true), (7, true), (8, true), (9, true), (10, true), (11, true), (5, false), (6, true), (12, false)] (by kernel_rfl) (by kernel_rfl) (fun c a d v w h => HQ0.out c a d v w h) (HCL.out _ _ HO.out.drew).2 ?_
  simp only [List.map_cons, List.map_nil, pick_zero, pick_succ, List.drop_succ_cons, List.drop_zero]
  iterate 10 (refine lin_q ?_ rfl ?_ ?_; rotate_left 1; (focus (rintro w' ⟨hs1, hs2⟩; go_simp; first | done | with_reducible rfl | (trace_state; fail))); simp only [Act.put, List.setIfInBounds_toArray, List.set_cons_zero, List.set_cons_succ])
  refine lin_act ?_
  have hcall := within_c (w := wr.drew) x1 8 (by omega) (by omega)
  refine wl_go rfl _ _ _ (by go_simp) hcall ?_
  clear hcall
  rintro en0 w' ⟨rfl, rfl⟩
  refine ⟨_, rfl, LinPost.mk (HCL.out _ _ HO.out.drew).2 ?_⟩
  simp only [Act.put, List.setIfInBounds_toArray, List.set_cons_zero, List.set_cons_succ]
  iterate 1 (refine lin_q ?_ rfl ?_ ?_; rotate_left 1; (focus (rintro w' ⟨hs1, hs2⟩; go_simp; first | done | with_reducible rfl | (trace_state; fail))); simp only [Act.put, List.setIfInBounds_toArray, List.set_cons_zero, List.set_cons_succ])
  refine lin_act ?_
  have hcall := bytes32_c HO.out.drew x2
  refine wl_go rfl _ _ _ (by go_simp) hcall ?_
  clear hcall
  rintro en0 w1 ⟨v18, Bx, rfl, hbx, hO1⟩
  refine ⟨_, rfl, LinPost.mk (HCL.out _ _ hO1).2 ?_⟩
  simp only [Act.put, List.setIfInBounds_toArray, List.set_cons_zero, List.set_cons_succ]
  refine lin_nil ?_
  have hyb : (pbytes x2 32).length = 32 := length_pbytes _ _
  generalize pbytes x2 32 = ys at *
  obtain ⟨gx, cx, spx, rfl, rfl, hcx⟩ := hbx.blkn 32 hyb (by decide)
  have hc16 := (HCL.out _ _ hO1).2.2
  have hc0 := (HCL.out _ _ hO1).1
  have HBX := Lib.hid hbx; have HO1 := Lib.hid hO1; have HYB := Lib.hid hyb
  clear hbx hO1 hyb HO hwm
  obtain ⟨m, hm⟩ : ∃ m, x1 % 8 = m := ⟨_, rfl⟩
  rw [hm] at hm0 hm1 ⊢
  have HM := Lib.hid hm; clear hm
  have hcx7 : (7 : Int) ≤ cx := by omega
  have hi0 : (0 : Int) ≤ i := by omega
  go_upto_if 83 with fail
  go_cut [18] from 84 to 85 (fun s18 wx => PlayX gx cx w1 s18 wx)
  case first =>
    by_cases h23 : x2.tmod 23 = 22
    · have h23' : (x2.tmod 23 == 22) = true := by simp [h23]
      clear h23
      go_wp2_with fail
      go_meet
      exact ⟨7, .inr rfl, rfl, rfl⟩
    · have h23' : (x2.tmod 23 == 22) = false := by simp [h23]
      clear h23
      go_wp2_with fail
      go_meet
      exact ⟨32, .inl rfl, rfl, rfl⟩
  case rest =>
  obtain ⟨q, hq, rfl, rfl⟩ := hcut
  have HQ := Lib.hid hq
  clear hq hc16
  go_upto_region 18 with fail
  go_cut [19] from 86 to 92 (fun s19 wx => PlayIn (decide (0 ≤ m - 1 ∧ m - 1 < (n : Int))) w1 s19 wx)
  case first =>
    by_cases hat0 : 0 ≤ m - 1
    · by_cases hatn : m - 1 < (n : Int)
      · go_wp2_with fail
        go_meet
        exact ⟨by rw [decide_eq_true (And.intro hat0 hatn)], rfl⟩
      · go_wp2_with fail
        go_meet
        exact ⟨by rw [decide_eq_false (fun h => hatn h.2)], rfl⟩
    · go_wp2_with fail
      go_meet
      exact ⟨by rw [decide_eq_false (fun h => hat0 h.1)], rfl⟩
  case rest =>
  obtain ⟨rfl, rfl⟩ := hcut
  generalize hb : decide (0 ≤ m - 1 ∧ m - 1 < (n : Int)) = b
  have HIN := Lib.hid hb
  clear hb
  obtain ⟨k, hk14⟩ : ∃ k, x0 % 14 = k := ⟨_, rfl⟩
  have HK14 := Lib.hid hk14
  have hk0 : 0 ≤ k := by omega
  have hk13 : k ≤ 13 := by omega
  rw [hk14] at hkk
  clear hk14
  go_wp2_with fail
  have hcall := within_c (w := w1) x0 14 (by omega) (by omega)
  rw [HK14.out] at hcall
  with_reducible refine hcall.mono ?_
  clear hcall
  rintro en0 w' ⟨rfl, rfl⟩
  simp only []
  clear hc0
  obtain ⟨hk9, hk11⟩ := hkk
  have r6 : ¬ k < 6 := by omega
  have r9 : ¬ k < 9 := by omega
  have r11 : k < 11 := by omega
  clear hk9 hk11
  have hO2 : Own w w1 (Ld ++ ([_, _, _] ++ (La ++ (Lx ++ X)))) := Own.rot (A := [_, _, _]) HO1.out.right
  have HO2 := Lib.hid hO2; clear hO2 HO1 HCL
  cases hdn : s.down
  · have HDN := Lib.hid hdn; clear hdn
    go_wp2_with fail
    have hcall := flush_is HPS.out.disk HO2.out _ 0 (flush_up s HDN.out) (by unfold DSt.flushE; rw [HDN.out]; rfl)
    with_reducible refine hcall.mono ?_
    clear hcall
    rintro en0 w2 ⟨rfl, Ld2, hd2, hO3⟩
    have HDE := Lib.hid hd2
    have HF : Hid (FlushTo w gs gz gn s en cn Ld2 La Lx X 0 w2) := ⟨es, cs, HPS.out.gsure, by simpa [over] using HPS.out.sure, Own.rot (A := Ld2) (B := [_, _, _]) hO3⟩
    clear hd2 hO3 HO2
    simp only []
    go_wp2_with fail
    generalize hp : s.pend.length = p at *
    have HP := Lib.hid hp
    have hp100 : p ≤ 1000 := by have := HPS.out.few; omega
    clear hp
    go_loopw [228] (fun t w' => ∃ j : Nat, j ≤ p ∧ t = .int .i64 (j : Int) ∧ Hid (FlushTo w gs gz gn s en cn Ld2 La Lx X j w')) (fun t _ => p - (intOf t).toNat)
    case atStart => exact ⟨0, by omega, rfl, HF.out⟩
    case round =>
      obtain ⟨j, hj, rfl, HFj⟩ := hrel
      clear HF
      by_cases hjp : j < p
      · obtain ⟨es8, cs8, hg8, ht8, hO8⟩ := HFj.out
        have hjs : j < s.pend.length := by rw [HP.out]; exact hjp
        have hats := HPS.out.ats; have hxs := HPS.out.xs
        rw [HP.out] at hats hxs
        obtain ⟨ga, ca, e, hca⟩ := row_cell (w0 := w) hats (by omega)
        simp only [Value.slice.injEq] at e
        obtain ⟨rfl, -, rfl⟩ := e
        obtain ⟨gy, cy, e, hcy⟩ := row_cell (w0 := w) hxs (by omega)
        simp only [Value.slice.injEq] at e
        obtain ⟨rfl, -, rfl⟩ := e
        have hO8' : Own w wr ([_, _, _] ++ (Ld2 ++ (La ++ (Lx ++ X)))) := hO8
        have hc1 := hca wr _ hO8' (sub_there (sub_there sub_here)) j hjp
        rw [atsV_at _ _ hjs] at hc1
        have hc2 := hcy wr _ hO8' (sub_there (sub_there (sub_there sub_here))) j hjp
        have hvl : j < vs.length := by have := hxs.1; omega
        rw [List.getElem?_eq_getElem hvl] at hc2
        have hsh := HPS.out.each j hjs
        have hv0 : vs.getD j undef = vs[j] := by simp [List.getD, hvl]
        rw [hv0] at hsh
        have hpr := HPS.out.disk.1.prow _ (List.getElem_mem hjs)
        have hov : j < s.pend.length := hjs
        have hst := over_take1 s.fl s.pend j hjs
        have hgd : s.pend.getD j (0, []) = s.pend[j] := by simp [List.getD, hjs]
        rw [hgd] at hsh
        obtain ⟨kl, hkl⟩ := key_int (s.pend[j].1 : Int) (by have := hpr.1; have := HPS.out.n; omega)
        have hvf : ∃ g c, vs[j] = .slice (some ⟨g, 0, none⟩) 32 c := by
          obtain ⟨B, hB, _⟩ := hsh
          obtain ⟨g, c, sp, h, _, _⟩ := hB.blkn 32 hpr.2 (by decide)
          exact ⟨g, c, h⟩
        generalize vs[j] = y at *
        generalize s.pend[j] = q8 at *
        obtain ⟨g8, c8, rfl⟩ := hvf
        have hln : q8.1 < (over s.fl (s.pend.take j)).length := by rw [length_over]; exact hpr.1
        have HSH := Lib.hid hsh; have HST := Lib.hid hst; have HKL := Lib.hid hkl; have HO8 := Lib.hid hO8; have HG8 := Lib.hid hg8; have HT8 := Lib.hid ht8; have HLN := Lib.hid hln
        have hji : (j : Int) < p := by omega
        clear hsh hst hkl hO8 hO8' hg8 ht8 hca hcy hats hxs HFj hpr hv0 hgd hov hvl hjs hln
        go_wp2_with (refine wl_upd rfl _ _ _ _ rfl int_kd Try.underlying26 HO8.out 0 gs rfl HG8.out (by rfl) (.int .i64 (q8.1 : Int)) _ (by rfl) (by rfl) _ HKL.out ?_; intro w9 es9 cs9 hO9 hg9 hu9; have HO9 := Lib.hid hO9; have HG9 := Lib.hid hg9; have HU9 := Lib.hid hu9; clear hO9 hg9 hu9)
        go_roundw
        case rel => exact ⟨j + 1, by omega, by go_num, es9, cs9, HG9.out, by rw [HST.out]; exact HT8.out.set HLN.out HSH.out HU9.out, HO9.out⟩
        case measure => simp [intOf]; omega
      · obtain rfl : j = p := by omega
        obtain ⟨es9, cs9, hg9, ht9, hO9⟩ := HFj.out
        rw [List.take_of_length_le (by rw [HP.out]; omega)] at ht9
        have HG9 := Lib.hid hg9; have HT9 := Lib.hid ht9
        have hO10 : Own w wr (Ld2 ++ ([_, _, _] ++ (La ++ (Lx ++ X)))) := Own.rot (A := [_, _, _]) hO9
        have HOE2 := Lib.hid hO10
        clear hO10 hO9 hg9 ht9 HFj
        have hpe := pending_is HDE.out HOE2.out _ rfl
        have hde := down_is HDE.out HOE2.out false HDN.out
        have HPE := Lib.hid hpe; have HDE2 := Lib.hid hde; clear hpe hde
        have q1 : (((({ s with fl := s.la, pend := [] } : DSt).pend.length : Nat) : Int) != ((({ s with fl := s.la, pend := [] } : DSt).pend.length : Nat) : Int)) = false := by simp
        go_wp2_with fail
        with_reducible refine HPE.out.mono ?_
        rintro en0 w' ⟨rfl, rfl⟩
        simp only []
        go_wp2_with fail
        with_reducible refine HDE2.out.mono ?_
        rintro en0 w' ⟨rfl, rfl⟩
        simp only []
        go_wp2_with fail
        exact HR.out _ _ _ _ _ _ _ _ _ _ _ _ _ _ _ _ _ _ _ _ _ _ _ _ _ _ _ _ _ _ _ _ _ _ _ _ _ _ _ _ _ _ _ _ _ _ _ _ _ _ _ _ _ _ _ _ _ _ _ _ _ _ _ _ _ _ _ _ _ _ _ _ _ _ _ _ _ _ _ _ _ _ _ _ _ _ _ _ _ _ _ _ _ _ _ _ _ _ _ _ _ _ _ _ _ _ _ _ _ _ _ _ _ _ _ _ _ _ _ _ _ _ _ _ _ _ _ _ _ _ _ _ _ _ _ _ _ _ _ _ _ _ _ _ _ _ _ _ _ _ _ _ _ _ _ _ _ _ _ _ _ _ _ _ _ _ _ _ _ _ _ _ _ _ _ _ _ _ _ _ _ _ _ _ _ _ _ _ _ _ _ _ _ _ _ _ _ _ _ _ _ _ _ _ _ _ _ _ _ _ _ _ _ _ _ _ _ _ _ _ _ _ _ _ _ _ _ _ _ _ _ _ _ _ _ _ _ _ _ _ _ _ _ _ _ _ _ _ _ _ _ _ _ _ _ _ _ _ _ _ _ _ _ _ _ _ _ _ _ _ _ _ _ _ _ _ _ _ _ _ _ _ _ _ _ _ _ _ _ _ _ _ _ _ _ _ _ _ _ _ _ _ _ _ _ _ _ _ _ _ _ _ _ _ _ _ _ _ _ _ (by go_num) ⟨gn, { s with fl := s.la, pend := [] }, es9, en, cs9, cn, [], Ld2, [], [], X, rfl, rfl, by show _ = Value.bool s.down; rw [HDN.out], ⟨HDE.out, by show s.la.length = n; rw [s.length_la]; exact HPS.out.n, HG9.out, HPS.out.gnow, HT9.out, HPS.out.now, ⟨rfl, .inl ⟨rfl, rfl, rfl⟩⟩, ⟨rfl, .inl ⟨rfl, rfl, rfl⟩⟩, fun j hj => absurd hj (by simp), by simp⟩, own_any (HOE2.out.sub ((List.Sublist.refl Ld2).append ((List.Sublist.refl [_, _, _]).append ((List.sublist_append_right Lx X).trans (List.sublist_append_right La _))))) (by intro p; simp only [PBlks, List.count_append, List.count_cons, List.count_nil]; omega)⟩
  · have HDN := Lib.hid hdn; clear hdn
    go_wp2_with fail
    have hcall := flush_is HPS.out.disk HO2.out _ 8 (flush_dn s HDN.out) (by unfold DSt.flushE; rw [HDN.out]; rfl)
    with_reducible refine hcall.mono ?_
    clear hcall
    rintro en0 w2 ⟨rfl, Ld2, hd2, hO3⟩
    have HDE := Lib.hid hd2; have HOE2 := Lib.hid hO3; clear hd2 hO3 HO2
    simp only []
    have hpe := pending_is HDE.out HOE2.out _ rfl
    have hde := down_is HDE.out HOE2.out true HDN.out
    have HPE := Lib.hid hpe; have HDE2 := Lib.hid hde; clear hpe hde
    have q1 : (((s.pend.length : Nat) : Int) != ((s.pend.length : Nat) : Int)) = false := by simp
    go_wp2_with fail
    with_reducible refine HPE.out.mono ?_
    rintro en0 w' ⟨rfl, rfl⟩
    simp only []
    go_wp2_with fail
    with_reducible refine HDE2.out.mono ?_
    rintro en0 w' ⟨rfl, rfl⟩
    simp only []
    go_wp2_with fail
    exact HR.out _ _ _ _ _ _ _ _ _ _ _ _ _ _ _ _ _ _ _ _ _ _ _ _ _ _ _ _ _ _ _ _ _ _ _ _ _ _ _ _ _ _ _ _ _ _ _ _ _ _ _ _ _ _ _ _ _ _ _ _ _ _ _ _ _ _ _ _ _ _ _ _ _ _ _ _ _ _ _ _ _ _ _ _ _ _ _ _ _ _ _ _ _ _ _ _ _ _ _ _ _ _ _ _ _ _ _ _ _ _ _ _ _ _ _ _ _ _ _ _ _ _ _ _ _ _ _ _ _ _ _ _ _ _ _ _ _ _ _ _ _ _ _ _ _ _ _ _ _ _ _ _ _ _ _ _ _ _ _ _ _ _ _ _ _ _ _ _ _ _ _ _ _ _ _ _ _ _ _ _ _ _ _ _ _ _ _ _ _ _ _ _ _ _ _ _ _ _ _ _ _ _ _ _ _ _ _ _ _ _ _ _ _ _ _ _ _ _ _ _ _ _ _ _ _ _ _ _ _ _ _ _ _ _ _ _ _ _ _ _ _ _ _ _ _ _ _ _ _ _ _ _ _ _ _ _ _ _ _ _ _ _ _ _ _ _ _ _ _ _ _ _ _ _ _ _ _ _ _ _ _ _ _ _ _ _ _ _ _ _ _ _ _ _ _ _ _ _ _ _ _ _ _ _ _ _ _ _ _ _ _ _ _ _ _ _ _ _ _ _ (by go_num) ⟨gn, s, es, en, cs, cn, vs, Ld2, La, Lx, X, rfl, rfl, by rw [HDN.out], HPS.out.next HDE.out, Own.rot (A := Ld2) (B := [_, _, _]) HOE2.out⟩

end Go.Proofs.Ytelboocnenaicaa
