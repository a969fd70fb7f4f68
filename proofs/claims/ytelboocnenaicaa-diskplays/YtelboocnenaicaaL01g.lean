/-
  DiskPlays: every input answers true (whatever is written, flushed, limited, crashed, read, cloned: each answer, each sector).
  No conditions beyond the statement's own.
-/
import Derived.Test.YtelboocnenaicaaPlayJ
import Derived.SizedLaws
namespace Go.Proofs.Ytelboocnenaicaa
set_option linter.unusedVariables false
set_option linter.unusedSimpArgs false
open Go.ChangeShapes Go.WideShapes Go.ChangeAt Go.RowKit
open Go.ChangeMaps (open_string shut_string)

set_option maxRecDepth 1000000 in
set_option maxHeartbeats 64000000 in
theorem diskPlays_walk {w : World} (a0 : Int) (_ : (Lit.int .i64 a0).wf = true) (v1 : Value) (a1 : List Int) (h1 : InRow .i64 w v1 a1) (A2 : Option Addr) (n2 c2 : Nat) (a2 : List Int) (h2 : InRow .i64 w (.slice A2 n2 c2) a2) (z2 : a2.length ≤ 17592186043904) (z2n : A2 = none → c2 = 0) :
    Calls Try.prog 3 #[.int .i64 a0, v1, .slice A2 n2 c2] w (Yes w) := by
  have HK2 := Lib.hid h2; have HK2N := Lib.hid z2n
  have hn2s : n2 ≤ 140737488355328 := by obtain ⟨_, _, _, e, hn, _⟩ := h2; cases e; omega
  clear h2 z2 z2n
  have hK1 := h1
  obtain ⟨A1, n1, c1, rfl, hn1, hc1, hm1, hw1, hA1⟩ := h1
  have HK1 := Lib.hid hK1
  have hn1m : n1 ≤ 9223372036854775807 := by simp only [maxLen] at hm1; omega
  clear hK1 hm1 hc1 hn1 hA1 hw1
  have HO := Lib.hid (Own.start w)
  go_enter Try.func3, Try.ntmps3
  by_cases h7 : a0.tmod 7 = 6
  · have h7' : (a0.tmod 7 != 6) = false := by simp [h7]
    clear h7
    by_cases hs : a0 < 0
    · as_aux_lemma =>
      go_wp2_with fail
      have HNN : Hid (min (a0).toNat 1024 = 0) := Lib.hid (by omega)
      with_reducible refine (new_is HO.out (a0) 0 HNN.out).mono ?_
      rintro en0 w1 ⟨d, L1, rfl, hd1, hO1⟩
      obtain ⟨bd, rfl⟩ := hd1.ptr
      have HD1 := Lib.hid hd1; have HO1 := Lib.hid hO1
      clear hd1 hO1 HO
      simp only []
      go_wp2_with (first | (refine wl_makeMap rfl _ rfl HO1.out ?_; intro gs w2 hO2; have HO2 := Lib.hid hO2; clear hO2 HO1) | (refine wl_makeMap rfl _ rfl HO2.out ?_; intro gn0 w3 hO3; have HO3 := Lib.hid hO3; clear hO3 HO2) | (refine wl_makeSlice rfl _ _ _ rfl HO3.out _ 32 32 (by exact make_32 _) ?_; intro gz w4 hO4'; have hO4 : Own w w4 ((gz, .cells (bv zsec).toArray 5) :: (gn0, .map #[] 0) :: (gs, .map #[] 0) :: (L1 ++ [])) := hO4'; have HO4 := Lib.hid hO4; clear hO4 hO4' HO3))
      have HP : Hid (PState w (.pointer (some ⟨bd, 0, none⟩)) 0 0 gs gz (.map (some gn0)) (.slice none 0 0) (.slice none 0 0) (.int .i64 (-1)) (.bool false) w4) :=
        ⟨gn0, newSt 0, #[], #[], 0, 0, [], L1, [], [], [], rfl, rfl, rfl, ⟨HD1.out, newSt_n 0, goodMap_nil, goodMap_nil, tells_start [] 0, tells_start [] 0, ⟨rfl, .inl ⟨rfl, rfl, rfl⟩⟩, ⟨rfl, .inl ⟨rfl, rfl, rfl⟩⟩, fun j hj => absurd hj (by simp [newSt]), by simp [newSt]⟩, own_any HO4.out (by intro p; simp only [PBlks, List.count_append, List.count_cons, List.count_nil]; omega)⟩
      clear HD1 HO4
      refine play_loop (n := 0) _ _ _ _ _ _ _ _ _ _ _ _ _ _ _ _ _ _ _ _ _ _ _ _ _ _ _ _ _ _ _ _ _ _ _ _ _ _ _ _ _ _ _ _ _ _ _ _ _ _ _ _ _ _ _ _ _ _ _ _ _ _ _ _ _ _ _ _ _ _ _ _ _ _ _ _ _ _ _ _ _ _ _ _ _ _ _ _ _ _ _ _ _ _ _ _ _ _ _ _ _ _ _ _ _ _ _ _ _ _ _ _ _ _ _ _ _ _ _ _ _ _ _ _ _ _ _ _ _ _ _ _ _ _ _ _ _ _ _ _ _ _ _ _ _ _ _ _ _ _ _ _ _ _ _ _ _ _ _ _ _ _ _ _ _ _ _ _ _ _ _ _ _ _ _ _ _ _ _ _ _ _ _ _ _ _ _ _ _ _ _ _ _ _ _ _ _ _ _ _ _ _ _ _ _ _ _ _ _ _ _ _ _ _ _ _ _ _ _ _ _ _ _ _ _ _ _ _ _ _ _ _ _ _ _ _ _ _ _ _ _ _ _ _ _ _ _ _ _ _ _ _ _ _ _ _ _ _ _ _ _ _ _ _ _ _ _ _ _ _ _ _ _ _ _ _ _ _ _ _ _ _ _ _ _ _ _ _ _ _ _ _ _ _ _ _ _ _ _ _ _ _ _ _ _ _ _ _ _ _ _ _ _ _ _ _ _ _ _ _ _ _ _ _ _ _ _ _ _ _ _ _ _ _ _ _ _ _ _ _ _ _ _ _ HK1 hn1m HK2 HK2N hn2s (by omega) _ (Lib.hid (fun c a d v w h => by cases d <;> exact h)) HP ?_
      refine Lib.hid ?_
      intro r6 r10 r12 r13 r14 r15 r16 r17 r18 r19 r20 r21 r22 r23 r24 r25 r26 r27 r28 r29 r30 r31 r32 r33 r34 r35 r36 r37 r53 r54 r55 r56 r57 r58 r59 r60 r61 r62 r63 r64 r65 r66 r67 r68 r69 r70 r71 r72 r73 r74 r75 r76 r77 r78 r79 r80 r81 r82 r83 r84 r85 r86 r87 r88 r89 r90 r91 r92 r93 r94 r95 r96 r97 r98 r99 r100 r101 r102 r103 r104 r105 r106 r107 r108 r109 r110 r111 r112 r113 r114 r115 r116 r117 r118 r119 r120 r121 r122 r123 r124 r125 r126 r127 r128 r129 r130 r131 r132 r133 r134 r135 r136 r137 r138 r139 r140 r141 r142 r143 r144 r145 r146 r147 r148 r149 r150 r151 r152 r153 r154 r155 r156 r157 r158 r159 r160 r161 r162 r163 r164 r165 r166 r167 r168 r169 r170 r171 r172 r173 r174 r175 r176 r177 r178 r179 r180 r181 r182 r183 r184 r185 r186 r187 r188 r189 r190 r191 r192 r193 r194 r195 r196 r197 r198 r199 r200 r201 r202 r203 r204 r205 r206 r207 r208 r209 r210 r211 r212 r213 r214 r215 r216 r217 r218 r219 r220 r221 r222 r223 r224 r225 r226 r227 r228 r229 r230 r231 r232 r233 r234 r235 r236 r237 r238 r239 r240 r241 r242 r243 r244 r245 r246 r247 r248 r249 r250 r251 r252 r253 r254 r255 r256 r257 r258 r259 r260 r261 r262 r263 r264 r265 r266 r267 r268 r269 r270 r271 r272 r273 r274 r275 r276 r277 r278 r279 r280 r281 r282 r283 r284 r285 r286 r287 r288 r289 r290 r291 r292 r293 r294 r295 r296 r297 r298 r299 r300 r301 r302 r303 r304 r305 r306 r307 r308 r309 r310 r311 r312 r313 r314 r315 r316 r317 r318 r319 r320 r321 r322 r323 r324 r325 r326 r327 r328 r329 r330 r331 r332 r333 r334 r335 r336 r337 r338 r339 r340 r341 r342 r343 wx jj hP
      obtain ⟨gn9, s, es, en, cs, cn, vs, Ld, La, Lx, X, e10, e14, e15, hPS, hO⟩ := hP
      have hl := len_is hPS.disk (R := [_, _, _] ++ (La ++ (Lx ++ X))) (Own.rot (A := [_, _, _]) hO) ((0 : Nat) : Int) (by rw [hPS.n])
      have hwk := wakes_c hO
      have HL := Lib.hid hl; have HWK := Lib.hid hwk
      clear HP hO hPS e10 e14 e15 hl hwk HK1 HK2 HK2N
      go_wp2_with fail
      with_reducible refine HL.out.mono ?_
      rintro e w' ⟨rfl, rfl⟩
      go_wp2_with fail
      with_reducible refine HWK.out.mono ?_
      rintro e w12 ⟨rfl, hO12⟩
      have HO12 := Lib.hid hO12; clear hO12
      go_wp2
      go_ret
      exact HO12.out.yes rfl
    · rw [Int.tmod_eq_emod_of_nonneg (by omega)] at h7'
      by_cases hs2 : a0 ≤ 1024
      · as_aux_lemma =>
        obtain ⟨n, rfl⟩ : ∃ n : Nat, a0 = n := ⟨a0.toNat, by omega⟩
        go_wp2_with fail
        have HNN : Hid (min ((n : Int)).toNat 1024 = n) := Lib.hid (by omega)
        with_reducible refine (new_is HO.out ((n : Int)) n HNN.out).mono ?_
        rintro en0 w1 ⟨d, L1, rfl, hd1, hO1⟩
        obtain ⟨bd, rfl⟩ := hd1.ptr
        have HD1 := Lib.hid hd1; have HO1 := Lib.hid hO1
        clear hd1 hO1 HO
        simp only []
        go_wp2_with (first | (refine wl_makeMap rfl _ rfl HO1.out ?_; intro gs w2 hO2; have HO2 := Lib.hid hO2; clear hO2 HO1) | (refine wl_makeMap rfl _ rfl HO2.out ?_; intro gn0 w3 hO3; have HO3 := Lib.hid hO3; clear hO3 HO2) | (refine wl_makeSlice rfl _ _ _ rfl HO3.out _ 32 32 (by exact make_32 _) ?_; intro gz w4 hO4'; have hO4 : Own w w4 ((gz, .cells (bv zsec).toArray 5) :: (gn0, .map #[] 0) :: (gs, .map #[] 0) :: (L1 ++ [])) := hO4'; have HO4 := Lib.hid hO4; clear hO4 hO4' HO3))
        have HP : Hid (PState w (.pointer (some ⟨bd, 0, none⟩)) n 0 gs gz (.map (some gn0)) (.slice none 0 0) (.slice none 0 0) (.int .i64 (-1)) (.bool false) w4) :=
          ⟨gn0, newSt n, #[], #[], 0, 0, [], L1, [], [], [], rfl, rfl, rfl, ⟨HD1.out, newSt_n n, goodMap_nil, goodMap_nil, tells_start [] n, tells_start [] n, ⟨rfl, .inl ⟨rfl, rfl, rfl⟩⟩, ⟨rfl, .inl ⟨rfl, rfl, rfl⟩⟩, fun j hj => absurd hj (by simp [newSt]), by simp [newSt]⟩, own_any HO4.out (by intro p; simp only [PBlks, List.count_append, List.count_cons, List.count_nil]; omega)⟩
        clear HD1 HO4
        refine play_loop (n := n) _ _ _ _ _ _ _ _ _ _ _ _ _ _ _ _ _ _ _ _ _ _ _ _ _ _ _ _ _ _ _ _ _ _ _ _ _ _ _ _ _ _ _ _ _ _ _ _ _ _ _ _ _ _ _ _ _ _ _ _ _ _ _ _ _ _ _ _ _ _ _ _ _ _ _ _ _ _ _ _ _ _ _ _ _ _ _ _ _ _ _ _ _ _ _ _ _ _ _ _ _ _ _ _ _ _ _ _ _ _ _ _ _ _ _ _ _ _ _ _ _ _ _ _ _ _ _ _ _ _ _ _ _ _ _ _ _ _ _ _ _ _ _ _ _ _ _ _ _ _ _ _ _ _ _ _ _ _ _ _ _ _ _ _ _ _ _ _ _ _ _ _ _ _ _ _ _ _ _ _ _ _ _ _ _ _ _ _ _ _ _ _ _ _ _ _ _ _ _ _ _ _ _ _ _ _ _ _ _ _ _ _ _ _ _ _ _ _ _ _ _ _ _ _ _ _ _ _ _ _ _ _ _ _ _ _ _ _ _ _ _ _ _ _ _ _ _ _ _ _ _ _ _ _ _ _ _ _ _ _ _ _ _ _ _ _ _ _ _ _ _ _ _ _ _ _ _ _ _ _ _ _ _ _ _ _ _ _ _ _ _ _ _ _ _ _ _ _ _ _ _ _ _ _ _ _ _ _ _ _ _ _ _ _ _ _ _ _ _ _ _ _ _ _ _ _ _ _ _ _ _ _ _ _ _ _ _ _ _ _ _ _ _ _ HK1 hn1m HK2 HK2N hn2s (by omega) _ (Lib.hid (fun c a d v w h => by cases d <;> exact h)) HP ?_
        refine Lib.hid ?_
        intro r6 r10 r12 r13 r14 r15 r16 r17 r18 r19 r20 r21 r22 r23 r24 r25 r26 r27 r28 r29 r30 r31 r32 r33 r34 r35 r36 r37 r53 r54 r55 r56 r57 r58 r59 r60 r61 r62 r63 r64 r65 r66 r67 r68 r69 r70 r71 r72 r73 r74 r75 r76 r77 r78 r79 r80 r81 r82 r83 r84 r85 r86 r87 r88 r89 r90 r91 r92 r93 r94 r95 r96 r97 r98 r99 r100 r101 r102 r103 r104 r105 r106 r107 r108 r109 r110 r111 r112 r113 r114 r115 r116 r117 r118 r119 r120 r121 r122 r123 r124 r125 r126 r127 r128 r129 r130 r131 r132 r133 r134 r135 r136 r137 r138 r139 r140 r141 r142 r143 r144 r145 r146 r147 r148 r149 r150 r151 r152 r153 r154 r155 r156 r157 r158 r159 r160 r161 r162 r163 r164 r165 r166 r167 r168 r169 r170 r171 r172 r173 r174 r175 r176 r177 r178 r179 r180 r181 r182 r183 r184 r185 r186 r187 r188 r189 r190 r191 r192 r193 r194 r195 r196 r197 r198 r199 r200 r201 r202 r203 r204 r205 r206 r207 r208 r209 r210 r211 r212 r213 r214 r215 r216 r217 r218 r219 r220 r221 r222 r223 r224 r225 r226 r227 r228 r229 r230 r231 r232 r233 r234 r235 r236 r237 r238 r239 r240 r241 r242 r243 r244 r245 r246 r247 r248 r249 r250 r251 r252 r253 r254 r255 r256 r257 r258 r259 r260 r261 r262 r263 r264 r265 r266 r267 r268 r269 r270 r271 r272 r273 r274 r275 r276 r277 r278 r279 r280 r281 r282 r283 r284 r285 r286 r287 r288 r289 r290 r291 r292 r293 r294 r295 r296 r297 r298 r299 r300 r301 r302 r303 r304 r305 r306 r307 r308 r309 r310 r311 r312 r313 r314 r315 r316 r317 r318 r319 r320 r321 r322 r323 r324 r325 r326 r327 r328 r329 r330 r331 r332 r333 r334 r335 r336 r337 r338 r339 r340 r341 r342 r343 wx jj hP
        obtain ⟨gn9, s, es, en, cs, cn, vs, Ld, La, Lx, X, e10, e14, e15, hPS, hO⟩ := hP
        have hl := len_is hPS.disk (R := [_, _, _] ++ (La ++ (Lx ++ X))) (Own.rot (A := [_, _, _]) hO) ((n : Nat) : Int) (by rw [hPS.n])
        have hwk := wakes_c hO
        have HL := Lib.hid hl; have HWK := Lib.hid hwk
        clear HP hO hPS e10 e14 e15 hl hwk HK1 HK2 HK2N
        go_wp2_with fail
        with_reducible refine HL.out.mono ?_
        rintro e w' ⟨rfl, rfl⟩
        go_wp2_with fail
        with_reducible refine HWK.out.mono ?_
        rintro e w12 ⟨rfl, hO12⟩
        have HO12 := Lib.hid hO12; clear hO12
        go_wp2
        go_ret
        exact HO12.out.yes rfl
      · as_aux_lemma =>
        go_wp2_with fail
        have HNN : Hid (min (a0).toNat 1024 = 1024) := Lib.hid (by omega)
        with_reducible refine (new_is HO.out (a0) 1024 HNN.out).mono ?_
        rintro en0 w1 ⟨d, L1, rfl, hd1, hO1⟩
        obtain ⟨bd, rfl⟩ := hd1.ptr
        have HD1 := Lib.hid hd1; have HO1 := Lib.hid hO1
        clear hd1 hO1 HO
        simp only []
        go_wp2_with (first | (refine wl_makeMap rfl _ rfl HO1.out ?_; intro gs w2 hO2; have HO2 := Lib.hid hO2; clear hO2 HO1) | (refine wl_makeMap rfl _ rfl HO2.out ?_; intro gn0 w3 hO3; have HO3 := Lib.hid hO3; clear hO3 HO2) | (refine wl_makeSlice rfl _ _ _ rfl HO3.out _ 32 32 (by exact make_32 _) ?_; intro gz w4 hO4'; have hO4 : Own w w4 ((gz, .cells (bv zsec).toArray 5) :: (gn0, .map #[] 0) :: (gs, .map #[] 0) :: (L1 ++ [])) := hO4'; have HO4 := Lib.hid hO4; clear hO4 hO4' HO3))
        have HP : Hid (PState w (.pointer (some ⟨bd, 0, none⟩)) 1024 0 gs gz (.map (some gn0)) (.slice none 0 0) (.slice none 0 0) (.int .i64 (-1)) (.bool false) w4) :=
          ⟨gn0, newSt 1024, #[], #[], 0, 0, [], L1, [], [], [], rfl, rfl, rfl, ⟨HD1.out, newSt_n 1024, goodMap_nil, goodMap_nil, tells_start [] 1024, tells_start [] 1024, ⟨rfl, .inl ⟨rfl, rfl, rfl⟩⟩, ⟨rfl, .inl ⟨rfl, rfl, rfl⟩⟩, fun j hj => absurd hj (by simp [newSt]), by simp [newSt]⟩, own_any HO4.out (by intro p; simp only [PBlks, List.count_append, List.count_cons, List.count_nil]; omega)⟩
        clear HD1 HO4
        refine play_loop (n := 1024) _ _ _ _ _ _ _ _ _ _ _ _ _ _ _ _ _ _ _ _ _ _ _ _ _ _ _ _ _ _ _ _ _ _ _ _ _ _ _ _ _ _ _ _ _ _ _ _ _ _ _ _ _ _ _ _ _ _ _ _ _ _ _ _ _ _ _ _ _ _ _ _ _ _ _ _ _ _ _ _ _ _ _ _ _ _ _ _ _ _ _ _ _ _ _ _ _ _ _ _ _ _ _ _ _ _ _ _ _ _ _ _ _ _ _ _ _ _ _ _ _ _ _ _ _ _ _ _ _ _ _ _ _ _ _ _ _ _ _ _ _ _ _ _ _ _ _ _ _ _ _ _ _ _ _ _ _ _ _ _ _ _ _ _ _ _ _ _ _ _ _ _ _ _ _ _ _ _ _ _ _ _ _ _ _ _ _ _ _ _ _ _ _ _ _ _ _ _ _ _ _ _ _ _ _ _ _ _ _ _ _ _ _ _ _ _ _ _ _ _ _ _ _ _ _ _ _ _ _ _ _ _ _ _ _ _ _ _ _ _ _ _ _ _ _ _ _ _ _ _ _ _ _ _ _ _ _ _ _ _ _ _ _ _ _ _ _ _ _ _ _ _ _ _ _ _ _ _ _ _ _ _ _ _ _ _ _ _ _ _ _ _ _ _ _ _ _ _ _ _ _ _ _ _ _ _ _ _ _ _ _ _ _ _ _ _ _ _ _ _ _ _ _ _ _ _ _ _ _ _ _ _ _ _ _ _ _ _ _ _ _ _ _ _ HK1 hn1m HK2 HK2N hn2s (by omega) _ (Lib.hid (fun c a d v w h => by cases d <;> exact h)) HP ?_
        refine Lib.hid ?_
        intro r6 r10 r12 r13 r14 r15 r16 r17 r18 r19 r20 r21 r22 r23 r24 r25 r26 r27 r28 r29 r30 r31 r32 r33 r34 r35 r36 r37 r53 r54 r55 r56 r57 r58 r59 r60 r61 r62 r63 r64 r65 r66 r67 r68 r69 r70 r71 r72 r73 r74 r75 r76 r77 r78 r79 r80 r81 r82 r83 r84 r85 r86 r87 r88 r89 r90 r91 r92 r93 r94 r95 r96 r97 r98 r99 r100 r101 r102 r103 r104 r105 r106 r107 r108 r109 r110 r111 r112 r113 r114 r115 r116 r117 r118 r119 r120 r121 r122 r123 r124 r125 r126 r127 r128 r129 r130 r131 r132 r133 r134 r135 r136 r137 r138 r139 r140 r141 r142 r143 r144 r145 r146 r147 r148 r149 r150 r151 r152 r153 r154 r155 r156 r157 r158 r159 r160 r161 r162 r163 r164 r165 r166 r167 r168 r169 r170 r171 r172 r173 r174 r175 r176 r177 r178 r179 r180 r181 r182 r183 r184 r185 r186 r187 r188 r189 r190 r191 r192 r193 r194 r195 r196 r197 r198 r199 r200 r201 r202 r203 r204 r205 r206 r207 r208 r209 r210 r211 r212 r213 r214 r215 r216 r217 r218 r219 r220 r221 r222 r223 r224 r225 r226 r227 r228 r229 r230 r231 r232 r233 r234 r235 r236 r237 r238 r239 r240 r241 r242 r243 r244 r245 r246 r247 r248 r249 r250 r251 r252 r253 r254 r255 r256 r257 r258 r259 r260 r261 r262 r263 r264 r265 r266 r267 r268 r269 r270 r271 r272 r273 r274 r275 r276 r277 r278 r279 r280 r281 r282 r283 r284 r285 r286 r287 r288 r289 r290 r291 r292 r293 r294 r295 r296 r297 r298 r299 r300 r301 r302 r303 r304 r305 r306 r307 r308 r309 r310 r311 r312 r313 r314 r315 r316 r317 r318 r319 r320 r321 r322 r323 r324 r325 r326 r327 r328 r329 r330 r331 r332 r333 r334 r335 r336 r337 r338 r339 r340 r341 r342 r343 wx jj hP
        obtain ⟨gn9, s, es, en, cs, cn, vs, Ld, La, Lx, X, e10, e14, e15, hPS, hO⟩ := hP
        have hl := len_is hPS.disk (R := [_, _, _] ++ (La ++ (Lx ++ X))) (Own.rot (A := [_, _, _]) hO) ((1024 : Nat) : Int) (by rw [hPS.n])
        have hwk := wakes_c hO
        have HL := Lib.hid hl; have HWK := Lib.hid hwk
        clear HP hO hPS e10 e14 e15 hl hwk HK1 HK2 HK2N
        go_wp2_with fail
        with_reducible refine HL.out.mono ?_
        rintro e w' ⟨rfl, rfl⟩
        go_wp2_with fail
        with_reducible refine HWK.out.mono ?_
        rintro e w12 ⟨rfl, hO12⟩
        have HO12 := Lib.hid hO12; clear hO12
        go_wp2
        go_ret
        exact HO12.out.yes rfl
  · have h7' : (a0.tmod 7 != 6) = true := by simp [h7]
    clear h7
    as_aux_lemma =>
    go_wp2_with fail
    with_reducible refine (within_c a0 6 (by omega) (by omega)).mono ?_
    rintro e w' ⟨rfl, rfl⟩
    simp only []
    obtain ⟨n, hn⟩ : ∃ n : Nat, a0 % 6 = n := ⟨(a0 % 6).toNat, by omega⟩
    have hn6 : n < 6 := by omega
    rw [hn]
    clear hn
    go_wp2_with fail
    have HNN : Hid (min ((n : Int)).toNat 1024 = n) := Lib.hid (by omega)
    with_reducible refine (new_is HO.out ((n : Int)) n HNN.out).mono ?_
    rintro en0 w1 ⟨d, L1, rfl, hd1, hO1⟩
    obtain ⟨bd, rfl⟩ := hd1.ptr
    have HD1 := Lib.hid hd1; have HO1 := Lib.hid hO1
    clear hd1 hO1 HO
    simp only []
    go_wp2_with (first | (refine wl_makeMap rfl _ rfl HO1.out ?_; intro gs w2 hO2; have HO2 := Lib.hid hO2; clear hO2 HO1) | (refine wl_makeMap rfl _ rfl HO2.out ?_; intro gn0 w3 hO3; have HO3 := Lib.hid hO3; clear hO3 HO2) | (refine wl_makeSlice rfl _ _ _ rfl HO3.out _ 32 32 (by exact make_32 _) ?_; intro gz w4 hO4'; have hO4 : Own w w4 ((gz, .cells (bv zsec).toArray 5) :: (gn0, .map #[] 0) :: (gs, .map #[] 0) :: (L1 ++ [])) := hO4'; have HO4 := Lib.hid hO4; clear hO4 hO4' HO3))
    have HP : Hid (PState w (.pointer (some ⟨bd, 0, none⟩)) n 0 gs gz (.map (some gn0)) (.slice none 0 0) (.slice none 0 0) (.int .i64 (-1)) (.bool false) w4) :=
      ⟨gn0, newSt n, #[], #[], 0, 0, [], L1, [], [], [], rfl, rfl, rfl, ⟨HD1.out, newSt_n n, goodMap_nil, goodMap_nil, tells_start [] n, tells_start [] n, ⟨rfl, .inl ⟨rfl, rfl, rfl⟩⟩, ⟨rfl, .inl ⟨rfl, rfl, rfl⟩⟩, fun j hj => absurd hj (by simp [newSt]), by simp [newSt]⟩, own_any HO4.out (by intro p; simp only [PBlks, List.count_append, List.count_cons, List.count_nil]; omega)⟩
    clear HD1 HO4
    refine play_loop (n := n) _ _ _ _ _ _ _ _ _ _ _ _ _ _ _ _ _ _ _ _ _ _ _ _ _ _ _ _ _ _ _ _ _ _ _ _ _ _ _ _ _ _ _ _ _ _ _ _ _ _ _ _ _ _ _ _ _ _ _ _ _ _ _ _ _ _ _ _ _ _ _ _ _ _ _ _ _ _ _ _ _ _ _ _ _ _ _ _ _ _ _ _ _ _ _ _ _ _ _ _ _ _ _ _ _ _ _ _ _ _ _ _ _ _ _ _ _ _ _ _ _ _ _ _ _ _ _ _ _ _ _ _ _ _ _ _ _ _ _ _ _ _ _ _ _ _ _ _ _ _ _ _ _ _ _ _ _ _ _ _ _ _ _ _ _ _ _ _ _ _ _ _ _ _ _ _ _ _ _ _ _ _ _ _ _ _ _ _ _ _ _ _ _ _ _ _ _ _ _ _ _ _ _ _ _ _ _ _ _ _ _ _ _ _ _ _ _ _ _ _ _ _ _ _ _ _ _ _ _ _ _ _ _ _ _ _ _ _ _ _ _ _ _ _ _ _ _ _ _ _ _ _ _ _ _ _ _ _ _ _ _ _ _ _ _ _ _ _ _ _ _ _ _ _ _ _ _ _ _ _ _ _ _ _ _ _ _ _ _ _ _ _ _ _ _ _ _ _ _ _ _ _ _ _ _ _ _ _ _ _ _ _ _ _ _ _ _ _ _ _ _ _ _ _ _ _ _ _ _ _ _ _ _ _ _ _ _ _ _ _ _ _ _ _ HK1 hn1m HK2 HK2N hn2s (by omega) _ (Lib.hid (fun c a d v w h => by cases d <;> exact h)) HP ?_
    refine Lib.hid ?_
    intro r6 r10 r12 r13 r14 r15 r16 r17 r18 r19 r20 r21 r22 r23 r24 r25 r26 r27 r28 r29 r30 r31 r32 r33 r34 r35 r36 r37 r53 r54 r55 r56 r57 r58 r59 r60 r61 r62 r63 r64 r65 r66 r67 r68 r69 r70 r71 r72 r73 r74 r75 r76 r77 r78 r79 r80 r81 r82 r83 r84 r85 r86 r87 r88 r89 r90 r91 r92 r93 r94 r95 r96 r97 r98 r99 r100 r101 r102 r103 r104 r105 r106 r107 r108 r109 r110 r111 r112 r113 r114 r115 r116 r117 r118 r119 r120 r121 r122 r123 r124 r125 r126 r127 r128 r129 r130 r131 r132 r133 r134 r135 r136 r137 r138 r139 r140 r141 r142 r143 r144 r145 r146 r147 r148 r149 r150 r151 r152 r153 r154 r155 r156 r157 r158 r159 r160 r161 r162 r163 r164 r165 r166 r167 r168 r169 r170 r171 r172 r173 r174 r175 r176 r177 r178 r179 r180 r181 r182 r183 r184 r185 r186 r187 r188 r189 r190 r191 r192 r193 r194 r195 r196 r197 r198 r199 r200 r201 r202 r203 r204 r205 r206 r207 r208 r209 r210 r211 r212 r213 r214 r215 r216 r217 r218 r219 r220 r221 r222 r223 r224 r225 r226 r227 r228 r229 r230 r231 r232 r233 r234 r235 r236 r237 r238 r239 r240 r241 r242 r243 r244 r245 r246 r247 r248 r249 r250 r251 r252 r253 r254 r255 r256 r257 r258 r259 r260 r261 r262 r263 r264 r265 r266 r267 r268 r269 r270 r271 r272 r273 r274 r275 r276 r277 r278 r279 r280 r281 r282 r283 r284 r285 r286 r287 r288 r289 r290 r291 r292 r293 r294 r295 r296 r297 r298 r299 r300 r301 r302 r303 r304 r305 r306 r307 r308 r309 r310 r311 r312 r313 r314 r315 r316 r317 r318 r319 r320 r321 r322 r323 r324 r325 r326 r327 r328 r329 r330 r331 r332 r333 r334 r335 r336 r337 r338 r339 r340 r341 r342 r343 wx jj hP
    obtain ⟨gn9, s, es, en, cs, cn, vs, Ld, La, Lx, X, e10, e14, e15, hPS, hO⟩ := hP
    have hl := len_is hPS.disk (R := [_, _, _] ++ (La ++ (Lx ++ X))) (Own.rot (A := [_, _, _]) hO) ((n : Nat) : Int) (by rw [hPS.n])
    have hwk := wakes_c hO
    have HL := Lib.hid hl; have HWK := Lib.hid hwk
    clear HP hO hPS e10 e14 e15 hl hwk HK1 HK2 HK2N
    go_wp2_with fail
    with_reducible refine HL.out.mono ?_
    rintro e w' ⟨rfl, rfl⟩
    go_wp2_with fail
    with_reducible refine HWK.out.mono ?_
    rintro e w12 ⟨rfl, hO12⟩
    have HO12 := Lib.hid hO12; clear hO12
    go_wp2
    go_ret
    exact HO12.out.yes rfl
set_option maxRecDepth 100000 in
theorem diskPlays_lifted (os : Os) (started : os.Started) (H : Type) (enc : TypeId × Value → H) :
    ReturnsInHanded {} Try.checked os 3 .any (Rows.diskPlaysSpec.pre6 enc Try.prog Try.f3 Rows.diskPlaysRow.domain false) (Rows.diskPlaysSpec.post enc Try.prog Try.f3 false true false false) := by
  refine returnsInHanded_of_change_sized (C := Try.checked) (by kernel_rfl) started (by kernel_rfl) Try.func3
    (ChangeSpec.witness6 (enc := enc) (C := Try.checked) false ⟨#[], #[.int .i64 0, .slice none 0 0, .slice none 0 0], []⟩ 8 (by kernel_rfl) (by kernel_rfl) (by kernel_rfl) (by kernel_rfl)) ?_
  intro W base args ds gs before hval0 hW hcnd hsz _
  have hval : ∀ (j : Nat) t v, Try.f3.params[j]? = some t → args[j]? = some v → Value.okWide Try.prog W .any base t v := hval0
  have hW' := hW
  obtain ⟨p, q, hA0, hV, rfl, hfz, hnd⟩ := hW
  have hA : DataW.TrodAll enc Try.prog W 0 (fun _ => true) true Try.f3.params.toList args.toList ds p := hA0
  rw [Try.params3] at hA hval
  obtain ⟨v0, vs0, d0, ds0, p0, q0, hargs, rfl, rfl, h0, r0⟩ := trodAll_cons hA
  obtain ⟨v1, vs1, d1, ds1, p1, q1, rfl, rfl, rfl, h1, r1⟩ := trodAll_cons r0
  obtain ⟨v2, vs2, d2, ds2, p2, q2, rfl, rfl, rfl, h2, r2⟩ := trodAll_cons r1
  obtain ⟨rfl, rfl, rfl⟩ := trodAll_nil r2
  obtain rfl : args = #[v0, v1, v2] := by cases args; simp_all
  obtain ⟨rfl, rfl⟩ := trodVars_none hV
  obtain ⟨a0, rfl, rfl, rfl, w0⟩ := open_int Try.underlying3 (hval 0 3 v0 rfl rfl) h0
  obtain ⟨b1, len1, cap1, rfl⟩ := okWide_slice Try.underlying22 (hval 1 22 v1 rfl rfl)
  have k1 := h1
  have lt1 : ∀ x ∈ p1, x.block < W.heap.size := by obtain ⟨m, hm⟩ := k1; exact DataW.trod_lt m _ _ _ hm
  obtain ⟨a1, w1⟩ : ∃ xs, InRow .i64 W (.slice b1 len1 cap1) xs := by
    obtain ⟨fuel, hf⟩ := h1
    rcases open_ints Try.underlying22 Try.underlying3 (by kernel_rfl) hf with ⟨hcs, _⟩ | ⟨x, l, c, zs, hcs, _, hl, hm, hz, _, hcell, hwz⟩
    · simp [Value.cells] at hcs
      obtain ⟨rfl, rfl, rfl⟩ := hcs
      exact ⟨[], inRow_nil _ _⟩
    · simp [Value.cells] at hcs
      obtain ⟨rfl, rfl, rfl⟩ := hcs
      exact ⟨zs.take len1, inRow_mk hl hm (by simpa using hz) hcell hwz⟩
  obtain ⟨b2, len2, cap2, rfl⟩ := okWide_slice Try.underlying22 (hval 2 22 v2 rfl rfl)
  have k2 := h2
  have lt2 : ∀ x ∈ p2, x.block < W.heap.size := by obtain ⟨m, hm⟩ := k2; exact DataW.trod_lt m _ _ _ hm
  obtain ⟨a2, w2, z2, y2⟩ : ∃ xs, InRow .i64 W (.slice b2 len2 cap2) xs ∧ xs.length ≤ 17592186043904 ∧ (b2 = none → cap2 = 0) := by
    obtain ⟨fuel, hf⟩ := h2
    rcases open_ints Try.underlying22 Try.underlying3 (by kernel_rfl) hf with ⟨hcs, _⟩ | ⟨x, l, c, zs, hcs, _, hl, hm, hz, hx, hcell, hwz⟩
    · simp [Value.cells] at hcs
      obtain ⟨rfl, rfl, rfl⟩ := hcs
      exact ⟨[], inRow_nil _ _, by simp, fun _ => rfl⟩
    · simp [Value.cells] at hcs
      obtain ⟨rfl, rfl, rfl⟩ := hcs
      refine ⟨zs.take len2, inRow_mk hl hm (by simpa using hz) hcell hwz, ?_, fun h => by cases h⟩
      have hdd := (Prod.mk.inj hx).1
      have hss := sized_slice hsz (j := 2) (t := 22) (e := 3) (by kernel_rfl) (by rw [hdd]; rfl) Try.underlying22
      rw [show Program.bytesOf Try.checked.prog 3 = 8 by kernel_rfl] at hss
      simp only [lits, List.length_map, reachBytes] at hss
      rw [List.length_take]
      simp only [List.length_take, List.length_drop] at hss
      omega
  clear hA0 hval0
  refine (diskPlays_walk a0 w0 _ a1 w1 _ _ _ a2 w2 z2 y2).mono fun e W' ⟨he, bel⟩ => ?_
  subst he
  exact ⟨_, rfl, _, _, _, [], _, [], hW', trodAll_mk1 (shut_bool Try.underlying4 _), (trodAll_cons_mk (shut_int Try.underlying3 w0) (trodAll_cons_mk (Below.trod laidOut (by kernel_rfl) (of_decide_eq_true (by kernel_rfl)) k1 bel lt1) (trodAll_cons_mk (Below.trod laidOut (by kernel_rfl) (of_decide_eq_true (by kernel_rfl)) k2 bel lt2) trodAll_mk0))), rfl, bel.frame _, fun h => by cases h⟩

/-- The statement. -/
theorem diskPlays_proved : Rows.DiskPlaysSaid :=
  OpenClaim.holds_of_wide 3 Try.f3 rfl rfl rfl rfl rfl rfl rfl ⟨rfl, rfl, rfl, rfl, rfl⟩ rfl rfl rfl rfl rfl (by kernel_rfl) Try.func3 (by kernel_rfl)
    (of_decide_eq_true (by kernel_rfl)) (by unfold Func.isWrapper; first | (rw [if_pos (by decide +kernel)]; kernel_rfl) | (rw [if_neg (by decide +kernel)]; exact ⟨rfl, rfl⟩))
    (fun os started H enc _ => diskPlays_lifted os started H enc)
end Go.Proofs.Ytelboocnenaicaa
