/-
  MarkHalves: whatever the six numbers: of two sectors of unlike marks the first half of one, and the second half of the other, is none, also over zeros: the law returns true.
-/
import Derived.Test.YtjdomggboikndaaL02a
import Derived.Test.YtjdomggboikndaaKeep2
import Derived.Test.YtjdomggboikndaaTree
namespace Go.Proofs.Ytjdomggboikndaa
set_option linter.unusedVariables false
set_option linter.unusedSimpArgs false
open Go.ChangeShapes Go.WideShapes Go.ChangeAt Go.RowKit
open Go.ChangeMaps (open_string shut_string)

set_option maxRecDepth 100000 in
set_option maxHeartbeats 4000000 in
theorem markHalves_walk (a0 : Int) (_ : (Lit.int .i64 a0).wf = true) (a1 : Int) (_ : (Lit.int .i64 a1).wf = true) (a2 : Int) (_ : (Lit.int .i64 a2).wf = true) (a3 : Int) (_ : (Lit.int .i64 a3).wf = true) (a4 : Int) (_ : (Lit.int .i64 a4).wf = true) (a5 : Int) (_ : (Lit.int .i64 a5).wf = true) (w : World) :
    Calls Try.prog 6 #[.int .i64 a0, .int .i64 a1, .int .i64 a2, .int .i64 a3, .int .i64 a4, .int .i64 a5] w (Yes w) := by
  have HO := Lib.hid (Own.start w)
  go_enter Try.func6, Try.ntmps6
  go_wp2_with (first | (go_at_call 9; refine (within_c _ _ (by omega) (by omega)).mono ?_; rintro e w' ⟨rfl, rfl⟩) | (refine wl_build rfl _ _ rfl _ (by exact build_mark _ _ _) ?_) | (refine wl_alloc rfl _ rfl HO.out _ (alloc_mark _) ?_; intro gm w1 hO1; have HO1 := Lib.hid hO1; clear hO1 HO) | (refine wl_alloc rfl _ rfl HO1.out _ (alloc_mark _) ?_; intro gn w2 hO2; have HO2 := Lib.hid hO2; clear hO2 HO1) | (refine wl_store rfl _ _ _ rfl HO2.out 1 gm 0 _ [Value.int .i64 (1 + a0 % 65535), Value.int .i64 (a1 % 16777216)] _ rfl (by rfl) (by rfl) mark_size (one_2i _ _) (by simp) ?_; intro w3 hO3; have HO3 := Lib.hid hO3; clear hO3 HO2) | (refine wl_store rfl _ _ _ rfl HO3.out 0 gn 0 _ [Value.int .i64 (1 + a2 % 65535), Value.int .i64 (a3 % 16777216)] _ rfl (by rfl) (by rfl) mark_size (one_2i _ _) (by simp) ?_; intro w4 hO4; have HO4 := Lib.hid hO4; clear hO4 HO3))
  have hO4 : Own w w4 ((gn, Obj.cells #[Value.int .i64 (1 + a2 % 65535), Value.int .i64 (a3 % 16777216)] 44) :: (gm, Obj.cells #[Value.int .i64 (1 + a0 % 65535), Value.int .i64 (a1 % 16777216)] 44) :: []) := HO4.out
  clear HO4
  have hE1 : 1 ≤ 1 + a0 % 65535 := by omega
  have hE2 : 1 + a0 % 65535 ≤ 65535 := by omega
  have hS1 : 0 ≤ a1 % 16777216 := by omega
  have hS2 : a1 % 16777216 ≤ 16777215 := by omega
  have hF1 : 1 ≤ 1 + a2 % 65535 := by omega
  have hF2 : 1 + a2 % 65535 ≤ 65535 := by omega
  have hT1 : 0 ≤ a3 % 16777216 := by omega
  have hT2 : a3 % 16777216 ≤ 16777215 := by omega
  simp only [Act.put]
  generalize 1 + a0 % 65535 = E at *
  generalize a1 % 16777216 = S at *
  generalize 1 + a2 % 65535 = F at *
  generalize a3 % 16777216 = T at *
  have HO4 := Lib.hid hO4; clear hO4
  refine wp_region_lin (fun w' => w'.cell? ⟨gm, 0, none⟩ = some (.int .i64 E) ∧ w'.cell? ⟨gm, 1, none⟩ = some (.int .i64 S)) 12 [(0, true), (1, true), (2, true), (3, true), (4, false), (5, false), (6, false), (7, true), (8, true), (9, true), (10, true), (11, true)] (by kernel_rfl) (by kernel_rfl) (fun _ _ d _ _ h => by cases d <;> exact h) ⟨HO4.out.cell (.tail _ (.head _)) 0, HO4.out.cell (.tail _ (.head _)) 1⟩ ?_
  simp only [List.map_cons, List.map_nil, pick_zero, pick_succ, List.drop_succ_cons, List.drop_zero]
  iterate 4 (refine lin_q ?_ rfl ?_ ?_; rotate_left 1; (focus (rintro w' ⟨hq1, hq2⟩; go_simp; first | done | with_reducible rfl | (trace_state; fail))); simp only [Act.put, List.setIfInBounds_toArray, List.set_cons_zero, List.set_cons_succ])
  have HO5 := Lib.hid HO4.out.drew; clear HO4
  generalize w4.drew = w5 at HO5
  refine lin_act ?_
  have hcall := within_n (w := w5) a4 20 (by omega) (by omega)
  refine wl_call rfl _ _ _ (by go_simp) hcall ?_
  clear hcall
  rintro e w' ⟨rfl, rfl⟩
  refine ⟨_, rfl, LinPost.mk ⟨HO5.out.cell (.tail _ (.head _)) 0, HO5.out.cell (.tail _ (.head _)) 1⟩ ?_⟩
  simp only [Act.put, List.setIfInBounds_toArray, List.set_cons_zero, List.set_cons_succ]
  have hk : (a4 % 20).toNat ≤ 19 := by omega
  generalize (a4 % 20).toNat = k at *
  refine lin_act ?_
  have hcall := bytes_c HO5.out a4 k (by omega)
  refine wl_call rfl _ _ _ (by go_simp) hcall ?_
  clear hcall
  rintro e w6 ⟨vx, Lx, rfl, hx, hO6⟩
  have HO6 := Lib.hid hO6; have HX := Lib.hid hx; clear hO6 HO5 hx
  refine ⟨_, rfl, LinPost.mk ⟨HO6.out.cell (List.mem_append_right _ (.tail _ (.head _))) 0, HO6.out.cell (List.mem_append_right _ (.tail _ (.head _))) 1⟩ ?_⟩
  simp only [Act.put, List.setIfInBounds_toArray, List.set_cons_zero, List.set_cons_succ]
  refine lin_act ?_
  have hok : okSeal E S 0 1 (pbytes a4 k).length = true := okSeal_mk (by rw [length_pbytes]; omega)
  have hcall := seal_ok HO6.out E S 0 1 vx (pbytes a4 k) (HX.out.rd sub_here) hok
  refine wl_call rfl _ _ _ (by go_simp) hcall ?_
  clear hcall
  rintro e w7 ⟨vs, Ls, rfl, hs, hO7⟩
  have hO7' : Own w w7 (Ls ++ ((gn, Obj.cells #[Value.int .i64 F, Value.int .i64 T] 44) :: (gm, Obj.cells #[Value.int .i64 E, Value.int .i64 S] 44) :: [])) := hO7.rot.right
  have HO7 := Lib.hid hO7'; have HS := Lib.hid hs; have HK := Lib.hid hok; clear hO7 hO7' HO6 hs HX hok
  refine ⟨_, rfl, LinPost.mk ⟨HO7.out.cell (List.mem_append_right _ (.tail _ (.head _))) 0, HO7.out.cell (List.mem_append_right _ (.tail _ (.head _))) 1⟩ ?_⟩
  simp only [Act.put, List.setIfInBounds_toArray, List.set_cons_zero, List.set_cons_succ]
  iterate 5 (refine lin_q ?_ rfl ?_ ?_; rotate_left 1; (focus (rintro w' ⟨hq1, hq2⟩; go_simp; first | done | with_reducible rfl | (trace_state; fail))); simp only [Act.put, List.setIfInBounds_toArray, List.set_cons_zero, List.set_cons_succ])
  refine lin_nil ?_
  go_wp2
  obtain ⟨gs, cs, sps, rfl, rfl, hcs⟩ := HS.out.blkn 32 (length_sealed _ _ _ _ _ (by rw [length_pbytes]; omega)) (by omega)
  refine wp_region_lin (fun w' => w'.cell? ⟨gn, 0, none⟩ = some (.int .i64 F) ∧ w'.cell? ⟨gn, 1, none⟩ = some (.int .i64 T)) 12 [(0, true), (1, true), (2, true), (3, true), (4, false), (5, false), (6, false), (7, true), (8, true), (9, true), (10, true), (11, true)] (by kernel_rfl) (by kernel_rfl) (fun _ _ d _ _ h => by cases d <;> exact h) ⟨HO7.out.cell (.tail _ (.head _)) 0, HO7.out.cell (.tail _ (.head _)) 1⟩ ?_
  simp only [List.map_cons, List.map_nil, pick_zero, pick_succ, List.drop_succ_cons, List.drop_zero]
  iterate 4 (refine lin_q ?_ rfl ?_ ?_; rotate_left 1; (focus (rintro w' ⟨hq1, hq2⟩; go_simp; first | done | with_reducible rfl | (trace_state; fail))); simp only [Act.put, List.setIfInBounds_toArray, List.set_cons_zero, List.set_cons_succ])
  have HO8 := Lib.hid HO7.out.drew; clear HO7
  generalize w7.drew = w8 at HO8
  refine lin_act ?_
  have hcall := within_n (w := w8) a5 20 (by omega) (by omega)
  refine wl_call rfl _ _ _ (by go_simp) hcall ?_
  clear hcall
  rintro e w' ⟨rfl, rfl⟩
  refine ⟨_, rfl, LinPost.mk ⟨HO8.out.cell (.tail _ (.head _)) 0, HO8.out.cell (.tail _ (.head _)) 1⟩ ?_⟩
  simp only [Act.put, List.setIfInBounds_toArray, List.set_cons_zero, List.set_cons_succ]
  have hl : (a5 % 20).toNat ≤ 19 := by omega
  generalize (a5 % 20).toNat = l at *
  refine lin_act ?_
  have hcall := bytes_c HO8.out a5 l (by omega)
  refine wl_call rfl _ _ _ (by go_simp) hcall ?_
  clear hcall
  rintro e w9 ⟨vy, Ly, rfl, hy, hO9⟩
  have HO9 := Lib.hid hO9; have HY := Lib.hid hy; clear hO9 HO8 hy
  refine ⟨_, rfl, LinPost.mk ⟨HO9.out.cell (List.mem_append_right _ (.tail _ (.head _))) 0, HO9.out.cell (List.mem_append_right _ (.tail _ (.head _))) 1⟩ ?_⟩
  simp only [Act.put, List.setIfInBounds_toArray, List.set_cons_zero, List.set_cons_succ]
  refine lin_act ?_
  have hok : okSeal F T 0 1 (pbytes a5 l).length = true := okSeal_mk (by rw [length_pbytes]; omega)
  have hcall := seal_ok HO9.out F T 0 1 vy (pbytes a5 l) (HY.out.rd sub_here) hok
  refine wl_call rfl _ _ _ (by go_simp) hcall ?_
  clear hcall
  rintro e w10 ⟨vt, Lt, rfl, ht, hO10⟩
  obtain ⟨gt, ct, spt, rfl, rfl, hct⟩ := ht.blkn 32 (length_sealed _ _ _ _ _ (by rw [length_pbytes]; omega)) (by omega)
  have HO10 := Lib.hid hO10.rot.right; have HL := Lib.hid hok; clear hO10 HO9 ht HY hok HS
  refine ⟨_, rfl, LinPost.mk ⟨HO10.out.cell (.tail _ (.tail _ (.head _))) 0, HO10.out.cell (.tail _ (.tail _ (.head _))) 1⟩ ?_⟩
  simp only [Act.put, List.setIfInBounds_toArray, List.set_cons_zero, List.set_cons_succ]
  iterate 5 (refine lin_q ?_ rfl ?_ ?_; rotate_left 1; (focus (rintro w' ⟨hq1, hq2⟩; go_simp; first | done | with_reducible rfl | (trace_state; fail))); simp only [Act.put, List.setIfInBounds_toArray, List.set_cons_zero, List.set_cons_succ])
  refine lin_nil ?_
  have hm0 : w10.cell? ⟨gm, 0, none⟩ = some (.int .i64 E) := HO10.out.cell (.tail _ (.tail _ (.tail _ (.head _)))) 0
  have hm1 : w10.cell? ⟨gm, 1, none⟩ = some (.int .i64 S) := HO10.out.cell (.tail _ (.tail _ (.tail _ (.head _)))) 1
  have hn0 : w10.cell? ⟨gn, 0, none⟩ = some (.int .i64 F) := HO10.out.cell (.tail _ (.tail _ (.head _))) 0
  have hn1 : w10.cell? ⟨gn, 1, none⟩ = some (.int .i64 T) := HO10.out.cell (.tail _ (.tail _ (.head _))) 1
  by_cases hEF : E = F
  · subst hEF
    by_cases hST : S = T
    · subst hST
      go_wp2_with fail
      clear hm0 hm1 hn0 hn1
      have hcall := wakes2_c HO10.out
      with_reducible refine hcall.mono ?_
      clear hcall
      rintro e w22 ⟨rfl, hO22⟩
      have HO22 := Lib.hid hO22; clear hO22 HO10
      go_wp2
      go_ret
      exact HO22.out.yes rfl
    · skip
      go_wp2_with fail
      clear hm0 hm1 hn0 hn1
      have hct16 : ¬ (ct = 16) := by omega
      have hcs16 : (16 : Int) ≤ cs := by omega
      have hls := length_sealed E S 0 1 (pbytes a4 k) (by rw [length_pbytes]; omega)
      have hlt := length_sealed E T 0 1 (pbytes a5 l) (by rw [length_pbytes]; omega)
      have e13 : [] ++ List.take 16 (List.drop 0 (sealed E S 0 1 (pbytes a4 k))) ++ List.take 16 (List.drop 16 (sealed E T 0 1 (pbytes a5 l))) = half2 (sealed E S 0 1 (pbytes a4 k)) (sealed E T 0 1 (pbytes a5 l)) := by
        rw [List.nil_append, List.drop_zero, List.take_of_length_le (l := List.drop 16 _) (by simp; omega)]; rfl
      have hb13 : Byt (half2 (sealed E S 0 1 (pbytes a4 k)) (sealed E T 0 1 (pbytes a5 l))) := byt_append (byt_take (byt_sealed HK.out (byt_pbytes _ _)) _) (byt_drop (byt_sealed HL.out (byt_pbytes _ _)) _)
      have e18 : [] ++ List.take 16 (List.drop 0 (sealed E S 0 1 (pbytes a4 k))) ++ List.replicate 16 0 = half2 (sealed E S 0 1 (pbytes a4 k)) (List.replicate 32 0) := by
        rw [List.nil_append, List.drop_zero]; rfl
      have hb18 : Byt (half2 (sealed E S 0 1 (pbytes a4 k)) (List.replicate 32 0)) := byt_append (byt_take (byt_sealed HK.out (byt_pbytes _ _)) _) (byt_drop (fun x hx => by rw [List.mem_replicate] at hx; omega) _)
      have HE13 := Lib.hid e13; have HB13 := Lib.hid hb13; have HE18 := Lib.hid e18; have HB18 := Lib.hid hb18; clear e13 hb13 e18 hb18
      refine wp_region_tree (fun w' => True) 19 (.q 0 (.q 1 (.q 3 (.q 4 (.two 2 (.two 5 (.two 6 (.q 7 (.q 8 (.q 9 (.q 10 (.q 11 (.q 12 (.one 13 (.one 14 (.q 15 (.q 16 (.q 17 (.q 18 .done)))))))))))) 13 (.one 6 (.q 7 (.q 8 (.q 9 (.q 10 (.q 11 (.q 12 (.one 14 (.q 15 (.q 16 (.q 17 (.q 18 .done))))))))))))) 13 (.one 5 (.one 6 (.q 7 (.q 8 (.q 9 (.q 10 (.q 11 (.q 12 (.one 14 (.q 15 (.q 16 (.q 17 (.q 18 .done)))))))))))))) 13 (.one 2 (.one 5 (.one 6 (.q 7 (.q 8 (.q 9 (.q 10 (.q 11 (.q 12 (.one 14 (.q 15 (.q 16 (.q 17 (.q 18 .done))))))))))))))))))) (by kernel_rfl) (by decide +kernel) (fun _ _ d _ _ h => by cases d <;> exact h) trivial ?_
      iterate 4 (refine tr_q ?_ rfl ?_ ?_; rotate_left 1; (focus (rintro w' hq; simp only [pick_zero, pick_succ]; go_simp; first | done | with_reducible rfl | (trace_state; fail))); simp only [pick_zero, pick_succ]; simp only [Act.put, List.setIfInBounds_toArray, List.set_cons_zero, List.set_cons_succ])
      have HO11 := Lib.hid HO10.out.drew; clear HO10
      generalize w10.drew = w11 at HO11
      refine tr_two ?_ ?_
      · simp only [pick_zero, pick_succ]
        refine wl_appendB rfl _ _ rfl (.slice none 0 0) [] (by rfl) (L := []) isBytes_nil HO11.out (.slice (some ⟨gs, 0, none⟩) 16 cs) _ (by rfl) (rd_blk (.tail _ (.head _)) 0 16 cs (by omega) (by omega) w11 [] HO11.out) (by simp; omega) ?_
        intro va w12 La ha hO
        refine LinPost.mk trivial ?_
        have HO12 := Lib.hid hO; clear hO HO11
        refine tr_two ?_ ?_
        · simp only [pick_zero, pick_succ]
          refine wl_appendB rfl _ _ rfl va _ (by rfl) ha HO12.out (.slice (some ⟨gt, 16, none⟩) 16 (ct - 16)) _ (by rfl) (rd_blk (.head _) 16 16 (ct - 16) (by omega) (by omega) w12 La HO12.out) (by simp; omega) ?_
          intro vb w13 Lb hb hO
          refine LinPost.mk trivial ?_
          rw [HE13.out] at hb
          have HO13 := Lib.hid hO; clear hO HO12 ha
          refine tr_two ?_ ?_
          · simp only [pick_zero, pick_succ]
            have hcall := open_is HO13.out vb _ (hb.rd sub_here) HB13.out _ (openR_r2 (half2_no HK.out HL.out (fun h => hST h.2)))
            refine wl_call rfl _ _ _ (by go_simp) hcall ?_
            clear hcall hb
            rintro e w14 ⟨vc, Lc, rfl, _, hO⟩
            have HO14 := Lib.hid hO.right.right; clear hO HO13
            refine ⟨_, rfl, LinPost.mk trivial ?_⟩
            simp only [Act.put, List.setIfInBounds_toArray, List.set_cons_zero, List.set_cons_succ]
            iterate 6 (refine tr_q ?_ rfl ?_ ?_; rotate_left 1; (focus (rintro w' hq; simp only [pick_zero, pick_succ]; go_simp; first | done | with_reducible rfl | (trace_state; fail))); simp only [pick_zero, pick_succ]; simp only [Act.put, List.setIfInBounds_toArray, List.set_cons_zero, List.set_cons_succ])
            refine tr_one ?_
            simp only [pick_zero, pick_succ]
            refine wl_alloc rfl _ rfl HO14.out _ (alloc_mark _) ?_
            intro g15 w15 hO
            refine LinPost.mk trivial ?_
            have HO15 := Lib.hid hO; clear hO HO14
            refine tr_one ?_
            simp only [pick_zero, pick_succ]
            refine wl_store rfl _ _ _ rfl HO15.out 0 g15 0 _ [Value.int .i64 0, Value.int .i64 0] _ rfl (by rfl) (by rfl) mark_size (one_2i _ _) (by simp) ?_
            intro w16 hO
            refine LinPost.mk trivial ?_
            have HO16 := Lib.hid hO.tail; clear hO HO15
            simp only [Act.put, List.setIfInBounds_toArray, List.set_cons_zero, List.set_cons_succ]
            iterate 4 (refine tr_q ?_ rfl ?_ ?_; rotate_left 1; (focus (rintro w' hq; simp only [pick_zero, pick_succ]; go_simp; first | done | with_reducible rfl | (trace_state; fail))); simp only [pick_zero, pick_succ]; simp only [Act.put, List.setIfInBounds_toArray, List.set_cons_zero, List.set_cons_succ])
            refine tr_done ?_
            clear hct16
            generalize w16 = w16 at *
            go_wp2_with (first | (refine wl_appendB rfl _ _ rfl (.slice none 0 0) [] (by rfl) (L := []) isBytes_nil HO16.out (.slice (some ⟨gs, 0, none⟩) 16 cs) _ (by rfl) (rd_blk (.tail _ (.head _)) 0 16 cs (by rw [hls]; omega) (by omega) w16 [] HO16.out) (by simp; omega) ?_; intro v17 w17 L17 h17 hO17; have HO17 := Lib.hid hO17; clear hO17 HO16) | (refine wl_appendZB rfl _ _ rfl v17 _ (by rfl) h17 HO17.out 16 (by rfl) (by simp; omega) ?_; intro v18 w18 L18 h18 hO18; have HO18 := Lib.hid hO18; clear hO18 HO17))
            rw [HE18.out] at h18
            have hcall := open_is HO18.out v18 _ (h18.rd sub_here) HB18.out _ (openR_r2 (half0_no HK.out hE1 rfl rfl))
            with_reducible refine hcall.mono ?_
            clear hcall h18 h17
            rintro e w19 ⟨v19, L19, rfl, _, hO19⟩
            have HO19 := Lib.hid hO19.right.right; clear hO19 HO18 hls hlt
            go_wp2_with (first | (refine wl_alloc rfl _ rfl HO19.out _ (alloc_mark _) ?_; intro g20 w20 hO20; have HO20 := Lib.hid hO20; clear hO20 HO19) | (refine wl_store rfl _ _ _ rfl HO20.out 0 g20 0 _ [Value.int .i64 0, Value.int .i64 0] _ rfl (by rfl) (by rfl) mark_size (one_2i _ _) (by simp) ?_; intro w21 hO21; have HO21 := Lib.hid hO21.tail; clear hO21 HO20))
            have hcall := wakes2_c HO21.out
            with_reducible refine hcall.mono ?_
            clear hcall
            rintro e w22 ⟨rfl, hO22⟩
            have HO22 := Lib.hid hO22; clear hO22 HO21
            go_wp2
            go_ret
            exact HO22.out.yes rfl
          · simp only [pick_zero, pick_succ]
            refine wl_alloc rfl _ rfl HO13.out _ (alloc_mark _) ?_
            intro g15 w14 hO
            refine LinPost.mk trivial ?_
            have HO14 := Lib.hid (Own.rot (A := [_]) hO); clear hO HO13
            refine tr_one ?_
            simp only [pick_zero, pick_succ]
            have hcall := open_is HO14.out vb _ (hb.rd sub_here) HB13.out _ (openR_r2 (half2_no HK.out HL.out (fun h => hST h.2)))
            refine wl_call rfl _ _ _ (by go_simp) hcall ?_
            clear hcall hb
            rintro e w15 ⟨vc, Lc, rfl, _, hO⟩
            have HO15 := Lib.hid hO.right.right; clear hO HO14
            refine ⟨_, rfl, LinPost.mk trivial ?_⟩
            simp only [Act.put, List.setIfInBounds_toArray, List.set_cons_zero, List.set_cons_succ]
            iterate 6 (refine tr_q ?_ rfl ?_ ?_; rotate_left 1; (focus (rintro w' hq; simp only [pick_zero, pick_succ]; go_simp; first | done | with_reducible rfl | (trace_state; fail))); simp only [pick_zero, pick_succ]; simp only [Act.put, List.setIfInBounds_toArray, List.set_cons_zero, List.set_cons_succ])
            refine tr_one ?_
            simp only [pick_zero, pick_succ]
            refine wl_store rfl _ _ _ rfl HO15.out 0 g15 0 _ [Value.int .i64 0, Value.int .i64 0] _ rfl (by rfl) (by rfl) mark_size (one_2i _ _) (by simp) ?_
            intro w16 hO
            refine LinPost.mk trivial ?_
            have HO16 := Lib.hid hO.tail; clear hO HO15
            simp only [Act.put, List.setIfInBounds_toArray, List.set_cons_zero, List.set_cons_succ]
            iterate 4 (refine tr_q ?_ rfl ?_ ?_; rotate_left 1; (focus (rintro w' hq; simp only [pick_zero, pick_succ]; go_simp; first | done | with_reducible rfl | (trace_state; fail))); simp only [pick_zero, pick_succ]; simp only [Act.put, List.setIfInBounds_toArray, List.set_cons_zero, List.set_cons_succ])
            refine tr_done ?_
            clear hct16
            generalize w16 = w16 at *
            go_wp2_with (first | (refine wl_appendB rfl _ _ rfl (.slice none 0 0) [] (by rfl) (L := []) isBytes_nil HO16.out (.slice (some ⟨gs, 0, none⟩) 16 cs) _ (by rfl) (rd_blk (.tail _ (.head _)) 0 16 cs (by rw [hls]; omega) (by omega) w16 [] HO16.out) (by simp; omega) ?_; intro v17 w17 L17 h17 hO17; have HO17 := Lib.hid hO17; clear hO17 HO16) | (refine wl_appendZB rfl _ _ rfl v17 _ (by rfl) h17 HO17.out 16 (by rfl) (by simp; omega) ?_; intro v18 w18 L18 h18 hO18; have HO18 := Lib.hid hO18; clear hO18 HO17))
            rw [HE18.out] at h18
            have hcall := open_is HO18.out v18 _ (h18.rd sub_here) HB18.out _ (openR_r2 (half0_no HK.out hE1 rfl rfl))
            with_reducible refine hcall.mono ?_
            clear hcall h18 h17
            rintro e w19 ⟨v19, L19, rfl, _, hO19⟩
            have HO19 := Lib.hid hO19.right.right; clear hO19 HO18 hls hlt
            go_wp2_with (first | (refine wl_alloc rfl _ rfl HO19.out _ (alloc_mark _) ?_; intro g20 w20 hO20; have HO20 := Lib.hid hO20; clear hO20 HO19) | (refine wl_store rfl _ _ _ rfl HO20.out 0 g20 0 _ [Value.int .i64 0, Value.int .i64 0] _ rfl (by rfl) (by rfl) mark_size (one_2i _ _) (by simp) ?_; intro w21 hO21; have HO21 := Lib.hid hO21.tail; clear hO21 HO20))
            have hcall := wakes2_c HO21.out
            with_reducible refine hcall.mono ?_
            clear hcall
            rintro e w22 ⟨rfl, hO22⟩
            have HO22 := Lib.hid hO22; clear hO22 HO21
            go_wp2
            go_ret
            exact HO22.out.yes rfl
        · simp only [pick_zero, pick_succ]
          refine wl_alloc rfl _ rfl HO12.out _ (alloc_mark _) ?_
          intro g15 w13 hO
          refine LinPost.mk trivial ?_
          have HO13 := Lib.hid (Own.rot (A := [_]) hO); clear hO HO12
          refine tr_one ?_
          simp only [pick_zero, pick_succ]
          refine wl_appendB rfl _ _ rfl va _ (by rfl) ha HO13.out (.slice (some ⟨gt, 16, none⟩) 16 (ct - 16)) _ (by rfl) (rd_blk (.tail _ (.head _)) 16 16 (ct - 16) (by omega) (by omega) w13 La HO13.out) (by simp; omega) ?_
          intro vb w14 Lb hb hO
          refine LinPost.mk trivial ?_
          rw [HE13.out] at hb
          have HO14 := Lib.hid hO; clear hO HO13 ha
          refine tr_one ?_
          simp only [pick_zero, pick_succ]
          have hcall := open_is HO14.out vb _ (hb.rd sub_here) HB13.out _ (openR_r2 (half2_no HK.out HL.out (fun h => hST h.2)))
          refine wl_call rfl _ _ _ (by go_simp) hcall ?_
          clear hcall hb
          rintro e w15 ⟨vc, Lc, rfl, _, hO⟩
          have HO15 := Lib.hid hO.right.right; clear hO HO14
          refine ⟨_, rfl, LinPost.mk trivial ?_⟩
          simp only [Act.put, List.setIfInBounds_toArray, List.set_cons_zero, List.set_cons_succ]
          iterate 6 (refine tr_q ?_ rfl ?_ ?_; rotate_left 1; (focus (rintro w' hq; simp only [pick_zero, pick_succ]; go_simp; first | done | with_reducible rfl | (trace_state; fail))); simp only [pick_zero, pick_succ]; simp only [Act.put, List.setIfInBounds_toArray, List.set_cons_zero, List.set_cons_succ])
          refine tr_one ?_
          simp only [pick_zero, pick_succ]
          refine wl_store rfl _ _ _ rfl HO15.out 0 g15 0 _ [Value.int .i64 0, Value.int .i64 0] _ rfl (by rfl) (by rfl) mark_size (one_2i _ _) (by simp) ?_
          intro w16 hO
          refine LinPost.mk trivial ?_
          have HO16 := Lib.hid hO.tail; clear hO HO15
          simp only [Act.put, List.setIfInBounds_toArray, List.set_cons_zero, List.set_cons_succ]
          iterate 4 (refine tr_q ?_ rfl ?_ ?_; rotate_left 1; (focus (rintro w' hq; simp only [pick_zero, pick_succ]; go_simp; first | done | with_reducible rfl | (trace_state; fail))); simp only [pick_zero, pick_succ]; simp only [Act.put, List.setIfInBounds_toArray, List.set_cons_zero, List.set_cons_succ])
          refine tr_done ?_
          clear hct16
          generalize w16 = w16 at *
          go_wp2_with (first | (refine wl_appendB rfl _ _ rfl (.slice none 0 0) [] (by rfl) (L := []) isBytes_nil HO16.out (.slice (some ⟨gs, 0, none⟩) 16 cs) _ (by rfl) (rd_blk (.tail _ (.head _)) 0 16 cs (by rw [hls]; omega) (by omega) w16 [] HO16.out) (by simp; omega) ?_; intro v17 w17 L17 h17 hO17; have HO17 := Lib.hid hO17; clear hO17 HO16) | (refine wl_appendZB rfl _ _ rfl v17 _ (by rfl) h17 HO17.out 16 (by rfl) (by simp; omega) ?_; intro v18 w18 L18 h18 hO18; have HO18 := Lib.hid hO18; clear hO18 HO17))
          rw [HE18.out] at h18
          have hcall := open_is HO18.out v18 _ (h18.rd sub_here) HB18.out _ (openR_r2 (half0_no HK.out hE1 rfl rfl))
          with_reducible refine hcall.mono ?_
          clear hcall h18 h17
          rintro e w19 ⟨v19, L19, rfl, _, hO19⟩
          have HO19 := Lib.hid hO19.right.right; clear hO19 HO18 hls hlt
          go_wp2_with (first | (refine wl_alloc rfl _ rfl HO19.out _ (alloc_mark _) ?_; intro g20 w20 hO20; have HO20 := Lib.hid hO20; clear hO20 HO19) | (refine wl_store rfl _ _ _ rfl HO20.out 0 g20 0 _ [Value.int .i64 0, Value.int .i64 0] _ rfl (by rfl) (by rfl) mark_size (one_2i _ _) (by simp) ?_; intro w21 hO21; have HO21 := Lib.hid hO21.tail; clear hO21 HO20))
          have hcall := wakes2_c HO21.out
          with_reducible refine hcall.mono ?_
          clear hcall
          rintro e w22 ⟨rfl, hO22⟩
          have HO22 := Lib.hid hO22; clear hO22 HO21
          go_wp2
          go_ret
          exact HO22.out.yes rfl
      · simp only [pick_zero, pick_succ]
        refine wl_alloc rfl _ rfl HO11.out _ (alloc_mark _) ?_
        intro g15 w12 hO
        refine LinPost.mk trivial ?_
        have HO12 := Lib.hid hO; clear hO HO11
        refine tr_one ?_
        simp only [pick_zero, pick_succ]
        refine wl_appendB rfl _ _ rfl (.slice none 0 0) [] (by rfl) (L := []) isBytes_nil HO12.out (.slice (some ⟨gs, 0, none⟩) 16 cs) _ (by rfl) (rd_blk (.tail _ (.tail _ (.head _))) 0 16 cs (by omega) (by omega) w12 [] HO12.out) (by simp; omega) ?_
        intro va w13 La ha hO
        refine LinPost.mk trivial ?_
        have HO13 := Lib.hid hO; clear hO HO12
        refine tr_one ?_
        simp only [pick_zero, pick_succ]
        refine wl_appendB rfl _ _ rfl va _ (by rfl) ha HO13.out (.slice (some ⟨gt, 16, none⟩) 16 (ct - 16)) _ (by rfl) (rd_blk (.tail _ (.head _)) 16 16 (ct - 16) (by omega) (by omega) w13 La HO13.out) (by simp; omega) ?_
        intro vb w14 Lb hb hO
        refine LinPost.mk trivial ?_
        rw [HE13.out] at hb
        have HO14 := Lib.hid hO; clear hO HO13 ha
        refine tr_one ?_
        simp only [pick_zero, pick_succ]
        have hcall := open_is HO14.out vb _ (hb.rd sub_here) HB13.out _ (openR_r2 (half2_no HK.out HL.out (fun h => hST h.2)))
        refine wl_call rfl _ _ _ (by go_simp) hcall ?_
        clear hcall hb
        rintro e w15 ⟨vc, Lc, rfl, _, hO⟩
        have HO15 := Lib.hid hO.right.right; clear hO HO14
        refine ⟨_, rfl, LinPost.mk trivial ?_⟩
        simp only [Act.put, List.setIfInBounds_toArray, List.set_cons_zero, List.set_cons_succ]
        iterate 6 (refine tr_q ?_ rfl ?_ ?_; rotate_left 1; (focus (rintro w' hq; simp only [pick_zero, pick_succ]; go_simp; first | done | with_reducible rfl | (trace_state; fail))); simp only [pick_zero, pick_succ]; simp only [Act.put, List.setIfInBounds_toArray, List.set_cons_zero, List.set_cons_succ])
        refine tr_one ?_
        simp only [pick_zero, pick_succ]
        refine wl_store rfl _ _ _ rfl HO15.out 0 g15 0 _ [Value.int .i64 0, Value.int .i64 0] _ rfl (by rfl) (by rfl) mark_size (one_2i _ _) (by simp) ?_
        intro w16 hO
        refine LinPost.mk trivial ?_
        have HO16 := Lib.hid hO.tail; clear hO HO15
        simp only [Act.put, List.setIfInBounds_toArray, List.set_cons_zero, List.set_cons_succ]
        iterate 4 (refine tr_q ?_ rfl ?_ ?_; rotate_left 1; (focus (rintro w' hq; simp only [pick_zero, pick_succ]; go_simp; first | done | with_reducible rfl | (trace_state; fail))); simp only [pick_zero, pick_succ]; simp only [Act.put, List.setIfInBounds_toArray, List.set_cons_zero, List.set_cons_succ])
        refine tr_done ?_
        clear hct16
        generalize w16 = w16 at *
        go_wp2_with (first | (refine wl_appendB rfl _ _ rfl (.slice none 0 0) [] (by rfl) (L := []) isBytes_nil HO16.out (.slice (some ⟨gs, 0, none⟩) 16 cs) _ (by rfl) (rd_blk (.tail _ (.head _)) 0 16 cs (by rw [hls]; omega) (by omega) w16 [] HO16.out) (by simp; omega) ?_; intro v17 w17 L17 h17 hO17; have HO17 := Lib.hid hO17; clear hO17 HO16) | (refine wl_appendZB rfl _ _ rfl v17 _ (by rfl) h17 HO17.out 16 (by rfl) (by simp; omega) ?_; intro v18 w18 L18 h18 hO18; have HO18 := Lib.hid hO18; clear hO18 HO17))
        rw [HE18.out] at h18
        have hcall := open_is HO18.out v18 _ (h18.rd sub_here) HB18.out _ (openR_r2 (half0_no HK.out hE1 rfl rfl))
        with_reducible refine hcall.mono ?_
        clear hcall h18 h17
        rintro e w19 ⟨v19, L19, rfl, _, hO19⟩
        have HO19 := Lib.hid hO19.right.right; clear hO19 HO18 hls hlt
        go_wp2_with (first | (refine wl_alloc rfl _ rfl HO19.out _ (alloc_mark _) ?_; intro g20 w20 hO20; have HO20 := Lib.hid hO20; clear hO20 HO19) | (refine wl_store rfl _ _ _ rfl HO20.out 0 g20 0 _ [Value.int .i64 0, Value.int .i64 0] _ rfl (by rfl) (by rfl) mark_size (one_2i _ _) (by simp) ?_; intro w21 hO21; have HO21 := Lib.hid hO21.tail; clear hO21 HO20))
        have hcall := wakes2_c HO21.out
        with_reducible refine hcall.mono ?_
        clear hcall
        rintro e w22 ⟨rfl, hO22⟩
        have HO22 := Lib.hid hO22; clear hO22 HO21
        go_wp2
        go_ret
        exact HO22.out.yes rfl
  · skip
    go_wp2_with fail
    clear hm0 hm1 hn0 hn1
    have hct16 : ¬ (ct = 16) := by omega
    have hcs16 : (16 : Int) ≤ cs := by omega
    have hls := length_sealed E S 0 1 (pbytes a4 k) (by rw [length_pbytes]; omega)
    have hlt := length_sealed F T 0 1 (pbytes a5 l) (by rw [length_pbytes]; omega)
    have e13 : [] ++ List.take 16 (List.drop 0 (sealed E S 0 1 (pbytes a4 k))) ++ List.take 16 (List.drop 16 (sealed F T 0 1 (pbytes a5 l))) = half2 (sealed E S 0 1 (pbytes a4 k)) (sealed F T 0 1 (pbytes a5 l)) := by
      rw [List.nil_append, List.drop_zero, List.take_of_length_le (l := List.drop 16 _) (by simp; omega)]; rfl
    have hb13 : Byt (half2 (sealed E S 0 1 (pbytes a4 k)) (sealed F T 0 1 (pbytes a5 l))) := byt_append (byt_take (byt_sealed HK.out (byt_pbytes _ _)) _) (byt_drop (byt_sealed HL.out (byt_pbytes _ _)) _)
    have e18 : [] ++ List.take 16 (List.drop 0 (sealed E S 0 1 (pbytes a4 k))) ++ List.replicate 16 0 = half2 (sealed E S 0 1 (pbytes a4 k)) (List.replicate 32 0) := by
      rw [List.nil_append, List.drop_zero]; rfl
    have hb18 : Byt (half2 (sealed E S 0 1 (pbytes a4 k)) (List.replicate 32 0)) := byt_append (byt_take (byt_sealed HK.out (byt_pbytes _ _)) _) (byt_drop (fun x hx => by rw [List.mem_replicate] at hx; omega) _)
    have HE13 := Lib.hid e13; have HB13 := Lib.hid hb13; have HE18 := Lib.hid e18; have HB18 := Lib.hid hb18; clear e13 hb13 e18 hb18
    refine wp_region_tree (fun w' => True) 19 (.q 0 (.q 1 (.q 3 (.q 4 (.two 2 (.two 5 (.two 6 (.q 7 (.q 8 (.q 9 (.q 10 (.q 11 (.q 12 (.one 13 (.one 14 (.q 15 (.q 16 (.q 17 (.q 18 .done)))))))))))) 13 (.one 6 (.q 7 (.q 8 (.q 9 (.q 10 (.q 11 (.q 12 (.one 14 (.q 15 (.q 16 (.q 17 (.q 18 .done))))))))))))) 13 (.one 5 (.one 6 (.q 7 (.q 8 (.q 9 (.q 10 (.q 11 (.q 12 (.one 14 (.q 15 (.q 16 (.q 17 (.q 18 .done)))))))))))))) 13 (.one 2 (.one 5 (.one 6 (.q 7 (.q 8 (.q 9 (.q 10 (.q 11 (.q 12 (.one 14 (.q 15 (.q 16 (.q 17 (.q 18 .done))))))))))))))))))) (by kernel_rfl) (by decide +kernel) (fun _ _ d _ _ h => by cases d <;> exact h) trivial ?_
    iterate 4 (refine tr_q ?_ rfl ?_ ?_; rotate_left 1; (focus (rintro w' hq; simp only [pick_zero, pick_succ]; go_simp; first | done | with_reducible rfl | (trace_state; fail))); simp only [pick_zero, pick_succ]; simp only [Act.put, List.setIfInBounds_toArray, List.set_cons_zero, List.set_cons_succ])
    have HO11 := Lib.hid HO10.out.drew; clear HO10
    generalize w10.drew = w11 at HO11
    refine tr_two ?_ ?_
    · simp only [pick_zero, pick_succ]
      refine wl_appendB rfl _ _ rfl (.slice none 0 0) [] (by rfl) (L := []) isBytes_nil HO11.out (.slice (some ⟨gs, 0, none⟩) 16 cs) _ (by rfl) (rd_blk (.tail _ (.head _)) 0 16 cs (by omega) (by omega) w11 [] HO11.out) (by simp; omega) ?_
      intro va w12 La ha hO
      refine LinPost.mk trivial ?_
      have HO12 := Lib.hid hO; clear hO HO11
      refine tr_two ?_ ?_
      · simp only [pick_zero, pick_succ]
        refine wl_appendB rfl _ _ rfl va _ (by rfl) ha HO12.out (.slice (some ⟨gt, 16, none⟩) 16 (ct - 16)) _ (by rfl) (rd_blk (.head _) 16 16 (ct - 16) (by omega) (by omega) w12 La HO12.out) (by simp; omega) ?_
        intro vb w13 Lb hb hO
        refine LinPost.mk trivial ?_
        rw [HE13.out] at hb
        have HO13 := Lib.hid hO; clear hO HO12 ha
        refine tr_two ?_ ?_
        · simp only [pick_zero, pick_succ]
          have hcall := open_is HO13.out vb _ (hb.rd sub_here) HB13.out _ (openR_r2 (half2_no HK.out HL.out (fun h => hEF h.1)))
          refine wl_call rfl _ _ _ (by go_simp) hcall ?_
          clear hcall hb
          rintro e w14 ⟨vc, Lc, rfl, _, hO⟩
          have HO14 := Lib.hid hO.right.right; clear hO HO13
          refine ⟨_, rfl, LinPost.mk trivial ?_⟩
          simp only [Act.put, List.setIfInBounds_toArray, List.set_cons_zero, List.set_cons_succ]
          iterate 6 (refine tr_q ?_ rfl ?_ ?_; rotate_left 1; (focus (rintro w' hq; simp only [pick_zero, pick_succ]; go_simp; first | done | with_reducible rfl | (trace_state; fail))); simp only [pick_zero, pick_succ]; simp only [Act.put, List.setIfInBounds_toArray, List.set_cons_zero, List.set_cons_succ])
          refine tr_one ?_
          simp only [pick_zero, pick_succ]
          refine wl_alloc rfl _ rfl HO14.out _ (alloc_mark _) ?_
          intro g15 w15 hO
          refine LinPost.mk trivial ?_
          have HO15 := Lib.hid hO; clear hO HO14
          refine tr_one ?_
          simp only [pick_zero, pick_succ]
          refine wl_store rfl _ _ _ rfl HO15.out 0 g15 0 _ [Value.int .i64 0, Value.int .i64 0] _ rfl (by rfl) (by rfl) mark_size (one_2i _ _) (by simp) ?_
          intro w16 hO
          refine LinPost.mk trivial ?_
          have HO16 := Lib.hid hO.tail; clear hO HO15
          simp only [Act.put, List.setIfInBounds_toArray, List.set_cons_zero, List.set_cons_succ]
          iterate 4 (refine tr_q ?_ rfl ?_ ?_; rotate_left 1; (focus (rintro w' hq; simp only [pick_zero, pick_succ]; go_simp; first | done | with_reducible rfl | (trace_state; fail))); simp only [pick_zero, pick_succ]; simp only [Act.put, List.setIfInBounds_toArray, List.set_cons_zero, List.set_cons_succ])
          refine tr_done ?_
          clear hct16
          generalize w16 = w16 at *
          go_wp2_with (first | (refine wl_appendB rfl _ _ rfl (.slice none 0 0) [] (by rfl) (L := []) isBytes_nil HO16.out (.slice (some ⟨gs, 0, none⟩) 16 cs) _ (by rfl) (rd_blk (.tail _ (.head _)) 0 16 cs (by rw [hls]; omega) (by omega) w16 [] HO16.out) (by simp; omega) ?_; intro v17 w17 L17 h17 hO17; have HO17 := Lib.hid hO17; clear hO17 HO16) | (refine wl_appendZB rfl _ _ rfl v17 _ (by rfl) h17 HO17.out 16 (by rfl) (by simp; omega) ?_; intro v18 w18 L18 h18 hO18; have HO18 := Lib.hid hO18; clear hO18 HO17))
          rw [HE18.out] at h18
          have hcall := open_is HO18.out v18 _ (h18.rd sub_here) HB18.out _ (openR_r2 (half0_no HK.out hE1 rfl rfl))
          with_reducible refine hcall.mono ?_
          clear hcall h18 h17
          rintro e w19 ⟨v19, L19, rfl, _, hO19⟩
          have HO19 := Lib.hid hO19.right.right; clear hO19 HO18 hls hlt
          go_wp2_with (first | (refine wl_alloc rfl _ rfl HO19.out _ (alloc_mark _) ?_; intro g20 w20 hO20; have HO20 := Lib.hid hO20; clear hO20 HO19) | (refine wl_store rfl _ _ _ rfl HO20.out 0 g20 0 _ [Value.int .i64 0, Value.int .i64 0] _ rfl (by rfl) (by rfl) mark_size (one_2i _ _) (by simp) ?_; intro w21 hO21; have HO21 := Lib.hid hO21.tail; clear hO21 HO20))
          have hcall := wakes2_c HO21.out
          with_reducible refine hcall.mono ?_
          clear hcall
          rintro e w22 ⟨rfl, hO22⟩
          have HO22 := Lib.hid hO22; clear hO22 HO21
          go_wp2
          go_ret
          exact HO22.out.yes rfl
        · simp only [pick_zero, pick_succ]
          refine wl_alloc rfl _ rfl HO13.out _ (alloc_mark _) ?_
          intro g15 w14 hO
          refine LinPost.mk trivial ?_
          have HO14 := Lib.hid (Own.rot (A := [_]) hO); clear hO HO13
          refine tr_one ?_
          simp only [pick_zero, pick_succ]
          have hcall := open_is HO14.out vb _ (hb.rd sub_here) HB13.out _ (openR_r2 (half2_no HK.out HL.out (fun h => hEF h.1)))
          refine wl_call rfl _ _ _ (by go_simp) hcall ?_
          clear hcall hb
          rintro e w15 ⟨vc, Lc, rfl, _, hO⟩
          have HO15 := Lib.hid hO.right.right; clear hO HO14
          refine ⟨_, rfl, LinPost.mk trivial ?_⟩
          simp only [Act.put, List.setIfInBounds_toArray, List.set_cons_zero, List.set_cons_succ]
          iterate 6 (refine tr_q ?_ rfl ?_ ?_; rotate_left 1; (focus (rintro w' hq; simp only [pick_zero, pick_succ]; go_simp; first | done | with_reducible rfl | (trace_state; fail))); simp only [pick_zero, pick_succ]; simp only [Act.put, List.setIfInBounds_toArray, List.set_cons_zero, List.set_cons_succ])
          refine tr_one ?_
          simp only [pick_zero, pick_succ]
          refine wl_store rfl _ _ _ rfl HO15.out 0 g15 0 _ [Value.int .i64 0, Value.int .i64 0] _ rfl (by rfl) (by rfl) mark_size (one_2i _ _) (by simp) ?_
          intro w16 hO
          refine LinPost.mk trivial ?_
          have HO16 := Lib.hid hO.tail; clear hO HO15
          simp only [Act.put, List.setIfInBounds_toArray, List.set_cons_zero, List.set_cons_succ]
          iterate 4 (refine tr_q ?_ rfl ?_ ?_; rotate_left 1; (focus (rintro w' hq; simp only [pick_zero, pick_succ]; go_simp; first | done | with_reducible rfl | (trace_state; fail))); simp only [pick_zero, pick_succ]; simp only [Act.put, List.setIfInBounds_toArray, List.set_cons_zero, List.set_cons_succ])
          refine tr_done ?_
          clear hct16
          generalize w16 = w16 at *
          go_wp2_with (first | (refine wl_appendB rfl _ _ rfl (.slice none 0 0) [] (by rfl) (L := []) isBytes_nil HO16.out (.slice (some ⟨gs, 0, none⟩) 16 cs) _ (by rfl) (rd_blk (.tail _ (.head _)) 0 16 cs (by rw [hls]; omega) (by omega) w16 [] HO16.out) (by simp; omega) ?_; intro v17 w17 L17 h17 hO17; have HO17 := Lib.hid hO17; clear hO17 HO16) | (refine wl_appendZB rfl _ _ rfl v17 _ (by rfl) h17 HO17.out 16 (by rfl) (by simp; omega) ?_; intro v18 w18 L18 h18 hO18; have HO18 := Lib.hid hO18; clear hO18 HO17))
          rw [HE18.out] at h18
          have hcall := open_is HO18.out v18 _ (h18.rd sub_here) HB18.out _ (openR_r2 (half0_no HK.out hE1 rfl rfl))
          with_reducible refine hcall.mono ?_
          clear hcall h18 h17
          rintro e w19 ⟨v19, L19, rfl, _, hO19⟩
          have HO19 := Lib.hid hO19.right.right; clear hO19 HO18 hls hlt
          go_wp2_with (first | (refine wl_alloc rfl _ rfl HO19.out _ (alloc_mark _) ?_; intro g20 w20 hO20; have HO20 := Lib.hid hO20; clear hO20 HO19) | (refine wl_store rfl _ _ _ rfl HO20.out 0 g20 0 _ [Value.int .i64 0, Value.int .i64 0] _ rfl (by rfl) (by rfl) mark_size (one_2i _ _) (by simp) ?_; intro w21 hO21; have HO21 := Lib.hid hO21.tail; clear hO21 HO20))
          have hcall := wakes2_c HO21.out
          with_reducible refine hcall.mono ?_
          clear hcall
          rintro e w22 ⟨rfl, hO22⟩
          have HO22 := Lib.hid hO22; clear hO22 HO21
          go_wp2
          go_ret
          exact HO22.out.yes rfl
      · simp only [pick_zero, pick_succ]
        refine wl_alloc rfl _ rfl HO12.out _ (alloc_mark _) ?_
        intro g15 w13 hO
        refine LinPost.mk trivial ?_
        have HO13 := Lib.hid (Own.rot (A := [_]) hO); clear hO HO12
        refine tr_one ?_
        simp only [pick_zero, pick_succ]
        refine wl_appendB rfl _ _ rfl va _ (by rfl) ha HO13.out (.slice (some ⟨gt, 16, none⟩) 16 (ct - 16)) _ (by rfl) (rd_blk (.tail _ (.head _)) 16 16 (ct - 16) (by omega) (by omega) w13 La HO13.out) (by simp; omega) ?_
        intro vb w14 Lb hb hO
        refine LinPost.mk trivial ?_
        rw [HE13.out] at hb
        have HO14 := Lib.hid hO; clear hO HO13 ha
        refine tr_one ?_
        simp only [pick_zero, pick_succ]
        have hcall := open_is HO14.out vb _ (hb.rd sub_here) HB13.out _ (openR_r2 (half2_no HK.out HL.out (fun h => hEF h.1)))
        refine wl_call rfl _ _ _ (by go_simp) hcall ?_
        clear hcall hb
        rintro e w15 ⟨vc, Lc, rfl, _, hO⟩
        have HO15 := Lib.hid hO.right.right; clear hO HO14
        refine ⟨_, rfl, LinPost.mk trivial ?_⟩
        simp only [Act.put, List.setIfInBounds_toArray, List.set_cons_zero, List.set_cons_succ]
        iterate 6 (refine tr_q ?_ rfl ?_ ?_; rotate_left 1; (focus (rintro w' hq; simp only [pick_zero, pick_succ]; go_simp; first | done | with_reducible rfl | (trace_state; fail))); simp only [pick_zero, pick_succ]; simp only [Act.put, List.setIfInBounds_toArray, List.set_cons_zero, List.set_cons_succ])
        refine tr_one ?_
        simp only [pick_zero, pick_succ]
        refine wl_store rfl _ _ _ rfl HO15.out 0 g15 0 _ [Value.int .i64 0, Value.int .i64 0] _ rfl (by rfl) (by rfl) mark_size (one_2i _ _) (by simp) ?_
        intro w16 hO
        refine LinPost.mk trivial ?_
        have HO16 := Lib.hid hO.tail; clear hO HO15
        simp only [Act.put, List.setIfInBounds_toArray, List.set_cons_zero, List.set_cons_succ]
        iterate 4 (refine tr_q ?_ rfl ?_ ?_; rotate_left 1; (focus (rintro w' hq; simp only [pick_zero, pick_succ]; go_simp; first | done | with_reducible rfl | (trace_state; fail))); simp only [pick_zero, pick_succ]; simp only [Act.put, List.setIfInBounds_toArray, List.set_cons_zero, List.set_cons_succ])
        refine tr_done ?_
        clear hct16
        generalize w16 = w16 at *
        go_wp2_with (first | (refine wl_appendB rfl _ _ rfl (.slice none 0 0) [] (by rfl) (L := []) isBytes_nil HO16.out (.slice (some ⟨gs, 0, none⟩) 16 cs) _ (by rfl) (rd_blk (.tail _ (.head _)) 0 16 cs (by rw [hls]; omega) (by omega) w16 [] HO16.out) (by simp; omega) ?_; intro v17 w17 L17 h17 hO17; have HO17 := Lib.hid hO17; clear hO17 HO16) | (refine wl_appendZB rfl _ _ rfl v17 _ (by rfl) h17 HO17.out 16 (by rfl) (by simp; omega) ?_; intro v18 w18 L18 h18 hO18; have HO18 := Lib.hid hO18; clear hO18 HO17))
        rw [HE18.out] at h18
        have hcall := open_is HO18.out v18 _ (h18.rd sub_here) HB18.out _ (openR_r2 (half0_no HK.out hE1 rfl rfl))
        with_reducible refine hcall.mono ?_
        clear hcall h18 h17
        rintro e w19 ⟨v19, L19, rfl, _, hO19⟩
        have HO19 := Lib.hid hO19.right.right; clear hO19 HO18 hls hlt
        go_wp2_with (first | (refine wl_alloc rfl _ rfl HO19.out _ (alloc_mark _) ?_; intro g20 w20 hO20; have HO20 := Lib.hid hO20; clear hO20 HO19) | (refine wl_store rfl _ _ _ rfl HO20.out 0 g20 0 _ [Value.int .i64 0, Value.int .i64 0] _ rfl (by rfl) (by rfl) mark_size (one_2i _ _) (by simp) ?_; intro w21 hO21; have HO21 := Lib.hid hO21.tail; clear hO21 HO20))
        have hcall := wakes2_c HO21.out
        with_reducible refine hcall.mono ?_
        clear hcall
        rintro e w22 ⟨rfl, hO22⟩
        have HO22 := Lib.hid hO22; clear hO22 HO21
        go_wp2
        go_ret
        exact HO22.out.yes rfl
    · simp only [pick_zero, pick_succ]
      refine wl_alloc rfl _ rfl HO11.out _ (alloc_mark _) ?_
      intro g15 w12 hO
      refine LinPost.mk trivial ?_
      have HO12 := Lib.hid hO; clear hO HO11
      refine tr_one ?_
      simp only [pick_zero, pick_succ]
      refine wl_appendB rfl _ _ rfl (.slice none 0 0) [] (by rfl) (L := []) isBytes_nil HO12.out (.slice (some ⟨gs, 0, none⟩) 16 cs) _ (by rfl) (rd_blk (.tail _ (.tail _ (.head _))) 0 16 cs (by omega) (by omega) w12 [] HO12.out) (by simp; omega) ?_
      intro va w13 La ha hO
      refine LinPost.mk trivial ?_
      have HO13 := Lib.hid hO; clear hO HO12
      refine tr_one ?_
      simp only [pick_zero, pick_succ]
      refine wl_appendB rfl _ _ rfl va _ (by rfl) ha HO13.out (.slice (some ⟨gt, 16, none⟩) 16 (ct - 16)) _ (by rfl) (rd_blk (.tail _ (.head _)) 16 16 (ct - 16) (by omega) (by omega) w13 La HO13.out) (by simp; omega) ?_
      intro vb w14 Lb hb hO
      refine LinPost.mk trivial ?_
      rw [HE13.out] at hb
      have HO14 := Lib.hid hO; clear hO HO13 ha
      refine tr_one ?_
      simp only [pick_zero, pick_succ]
      have hcall := open_is HO14.out vb _ (hb.rd sub_here) HB13.out _ (openR_r2 (half2_no HK.out HL.out (fun h => hEF h.1)))
      refine wl_call rfl _ _ _ (by go_simp) hcall ?_
      clear hcall hb
      rintro e w15 ⟨vc, Lc, rfl, _, hO⟩
      have HO15 := Lib.hid hO.right.right; clear hO HO14
      refine ⟨_, rfl, LinPost.mk trivial ?_⟩
      simp only [Act.put, List.setIfInBounds_toArray, List.set_cons_zero, List.set_cons_succ]
      iterate 6 (refine tr_q ?_ rfl ?_ ?_; rotate_left 1; (focus (rintro w' hq; simp only [pick_zero, pick_succ]; go_simp; first | done | with_reducible rfl | (trace_state; fail))); simp only [pick_zero, pick_succ]; simp only [Act.put, List.setIfInBounds_toArray, List.set_cons_zero, List.set_cons_succ])
      refine tr_one ?_
      simp only [pick_zero, pick_succ]
      refine wl_store rfl _ _ _ rfl HO15.out 0 g15 0 _ [Value.int .i64 0, Value.int .i64 0] _ rfl (by rfl) (by rfl) mark_size (one_2i _ _) (by simp) ?_
      intro w16 hO
      refine LinPost.mk trivial ?_
      have HO16 := Lib.hid hO.tail; clear hO HO15
      simp only [Act.put, List.setIfInBounds_toArray, List.set_cons_zero, List.set_cons_succ]
      iterate 4 (refine tr_q ?_ rfl ?_ ?_; rotate_left 1; (focus (rintro w' hq; simp only [pick_zero, pick_succ]; go_simp; first | done | with_reducible rfl | (trace_state; fail))); simp only [pick_zero, pick_succ]; simp only [Act.put, List.setIfInBounds_toArray, List.set_cons_zero, List.set_cons_succ])
      refine tr_done ?_
      clear hct16
      generalize w16 = w16 at *
      go_wp2_with (first | (refine wl_appendB rfl _ _ rfl (.slice none 0 0) [] (by rfl) (L := []) isBytes_nil HO16.out (.slice (some ⟨gs, 0, none⟩) 16 cs) _ (by rfl) (rd_blk (.tail _ (.head _)) 0 16 cs (by rw [hls]; omega) (by omega) w16 [] HO16.out) (by simp; omega) ?_; intro v17 w17 L17 h17 hO17; have HO17 := Lib.hid hO17; clear hO17 HO16) | (refine wl_appendZB rfl _ _ rfl v17 _ (by rfl) h17 HO17.out 16 (by rfl) (by simp; omega) ?_; intro v18 w18 L18 h18 hO18; have HO18 := Lib.hid hO18; clear hO18 HO17))
      rw [HE18.out] at h18
      have hcall := open_is HO18.out v18 _ (h18.rd sub_here) HB18.out _ (openR_r2 (half0_no HK.out hE1 rfl rfl))
      with_reducible refine hcall.mono ?_
      clear hcall h18 h17
      rintro e w19 ⟨v19, L19, rfl, _, hO19⟩
      have HO19 := Lib.hid hO19.right.right; clear hO19 HO18 hls hlt
      go_wp2_with (first | (refine wl_alloc rfl _ rfl HO19.out _ (alloc_mark _) ?_; intro g20 w20 hO20; have HO20 := Lib.hid hO20; clear hO20 HO19) | (refine wl_store rfl _ _ _ rfl HO20.out 0 g20 0 _ [Value.int .i64 0, Value.int .i64 0] _ rfl (by rfl) (by rfl) mark_size (one_2i _ _) (by simp) ?_; intro w21 hO21; have HO21 := Lib.hid hO21.tail; clear hO21 HO20))
      have hcall := wakes2_c HO21.out
      with_reducible refine hcall.mono ?_
      clear hcall
      rintro e w22 ⟨rfl, hO22⟩
      have HO22 := Lib.hid hO22; clear hO22 HO21
      go_wp2
      go_ret
      exact HO22.out.yes rfl
set_option maxRecDepth 100000 in
theorem markHalves_lifted (os : Os) (started : os.Started) (H : Type) (enc : TypeId × Value → H) :
    ReturnsInHanded {} Try.checked os 6 .any (Rows.markHalvesSpec.pre6 enc Try.prog Try.f6 Rows.markHalvesRow.domain false) (Rows.markHalvesSpec.post enc Try.prog Try.f6 false true false false) := by
  refine returnsInHanded_of_change (C := Try.checked) (by kernel_rfl) started (by kernel_rfl) Try.func6
    (ChangeSpec.witness6 (enc := enc) (C := Try.checked) false ⟨#[], #[.int .i64 0, .int .i64 0, .int .i64 0, .int .i64 0, .int .i64 0, .int .i64 0], []⟩ 8 (by kernel_rfl) (by kernel_rfl) (by kernel_rfl) (by kernel_rfl)) ?_
  intro W base args ds gs before hval0 hW hcnd _
  have hval : ∀ (j : Nat) t v, Try.f6.params[j]? = some t → args[j]? = some v → Value.okWide Try.prog W .any base t v := hval0
  have hW' := hW
  obtain ⟨p, q, hA0, hV, rfl, hfz, hnd⟩ := hW
  have hA : DataW.TrodAll enc Try.prog W 0 (fun _ => true) true Try.f6.params.toList args.toList ds p := hA0
  rw [Try.params6] at hA hval
  obtain ⟨v0, vs0, d0, ds0, p0, q0, hargs, rfl, rfl, h0, r0⟩ := trodAll_cons hA
  obtain ⟨v1, vs1, d1, ds1, p1, q1, rfl, rfl, rfl, h1, r1⟩ := trodAll_cons r0
  obtain ⟨v2, vs2, d2, ds2, p2, q2, rfl, rfl, rfl, h2, r2⟩ := trodAll_cons r1
  obtain ⟨v3, vs3, d3, ds3, p3, q3, rfl, rfl, rfl, h3, r3⟩ := trodAll_cons r2
  obtain ⟨v4, vs4, d4, ds4, p4, q4, rfl, rfl, rfl, h4, r4⟩ := trodAll_cons r3
  obtain ⟨v5, vs5, d5, ds5, p5, q5, rfl, rfl, rfl, h5, r5⟩ := trodAll_cons r4
  obtain ⟨rfl, rfl, rfl⟩ := trodAll_nil r5
  obtain rfl : args = #[v0, v1, v2, v3, v4, v5] := by cases args; simp_all
  obtain ⟨rfl, rfl⟩ := trodVars_none hV
  obtain ⟨a0, rfl, rfl, rfl, w0⟩ := open_int Try.underlying3 (hval 0 3 v0 rfl rfl) h0
  obtain ⟨a1, rfl, rfl, rfl, w1⟩ := open_int Try.underlying3 (hval 1 3 v1 rfl rfl) h1
  obtain ⟨a2, rfl, rfl, rfl, w2⟩ := open_int Try.underlying3 (hval 2 3 v2 rfl rfl) h2
  obtain ⟨a3, rfl, rfl, rfl, w3⟩ := open_int Try.underlying3 (hval 3 3 v3 rfl rfl) h3
  obtain ⟨a4, rfl, rfl, rfl, w4⟩ := open_int Try.underlying3 (hval 4 3 v4 rfl rfl) h4
  obtain ⟨a5, rfl, rfl, rfl, w5⟩ := open_int Try.underlying3 (hval 5 3 v5 rfl rfl) h5
  clear hA0 hval0
  refine (markHalves_walk a0 w0 a1 w1 a2 w2 a3 w3 a4 w4 a5 w5 W).mono fun e W' ⟨he, bel⟩ => ?_
  subst he
  exact ⟨_, rfl, _, _, _, [], _, [], hW', trodAll_mk1 (shut_bool Try.underlying4 _), (trodAll_cons_mk (shut_int Try.underlying3 w0) (trodAll_cons_mk (shut_int Try.underlying3 w1) (trodAll_cons_mk (shut_int Try.underlying3 w2) (trodAll_cons_mk (shut_int Try.underlying3 w3) (trodAll_cons_mk (shut_int Try.underlying3 w4) (trodAll_cons_mk (shut_int Try.underlying3 w5) trodAll_mk0)))))), rfl, bel.frame _, fun h => by cases h⟩

/-- The statement. -/
theorem markHalves_proved : Rows.MarkHalvesSaid :=
  OpenClaim.holds_of_wide 6 Try.f6 rfl rfl rfl rfl rfl rfl rfl ⟨rfl, rfl, rfl, rfl, rfl⟩ rfl rfl rfl rfl rfl (by kernel_rfl) Try.func6 (by kernel_rfl)
    (of_decide_eq_true (by kernel_rfl)) (by unfold Func.isWrapper; first | (rw [if_pos (by decide +kernel)]; kernel_rfl) | (rw [if_neg (by decide +kernel)]; exact ⟨rfl, rfl⟩))
    (fun os started H enc _ => markHalves_lifted os started H enc)
end Go.Proofs.Ytjdomggboikndaa

