/-
  MarkTells: whatever the numbers, the bytes, the place and the byte: any mark, any part of any bytes as a sector, or that it may not be; any sector, spoilt or not, as what it says, or that it is none: the law returns true.
-/
import Derived.Test.YtjdomggboikndaaL02a
import Derived.Test.YtjdomggboikndaaMark6
import Derived.Test.YtjdomggboikndaaRef2
import Derived.Test.YtjdomggboikndaaTree
import Derived.Deep.DeepCutAuto
namespace Go.Proofs.Ytjdomggboikndaa
set_option linter.unusedVariables false
set_option linter.unusedSimpArgs false
open Go.ChangeShapes Go.WideShapes Go.ChangeAt Go.RowKit
open Go.ChangeMaps (open_string shut_string)

def MidA (w : World) (s0 s1 s2 s3 s4 : Value) (wx : World) : Prop := ∃ (e s p q : Int) (L : Blks) (xs : List Int), s0 = .int .i64 e ∧ s1 = .int .i64 s ∧ s2 = .int .i64 p ∧ s3 = .int .i64 q ∧ IsBytes s4 xs L ∧ Byt xs ∧ xs.length ≤ 24 ∧ Own w wx (L ++ [])
def MidX (w : World) (R : Blks) (s24 : Value) (wx : World) : Prop := ∃ g c ys sp, s24 = .slice (some ⟨g, 0, none⟩) 32 c ∧ 32 ≤ c ∧ ys.length = 32 ∧ Byt ys ∧ Own w wx ((g, .cells (List.toArray (bv ys ++ sp)) 5) :: R)
def MidR (w : World) (s125 s126 s127 : Value) (wx : World) : Prop := ∃ gr vs R, s125 = .slice (some ⟨gr, 0, none⟩) 4 4 ∧ s126 = .int .i64 4 ∧ s127 = .int .i64 0 ∧ vs.length = 4 ∧ (∀ v ∈ vs, ∃ A n c zs, v = Value.slice A n c ∧ Byt zs ∧ zs.length ≤ 64 ∧ Rd w ((gr, .cells (List.toArray vs) 27) :: R) v zs) ∧ Own w wx ((gr, .cells (List.toArray vs) 27) :: R)
def MidB (w : World) (L : Blks) (b : Bool) (s : Value) (wx : World) : Prop := s = .bool b ∧ Own w wx L
theorem build_4 (A1 A2 A3 A4 : Option Addr) (n1 n2 n3 n4 c1 c2 c3 c4 : Nat) (w : World) : (Instr.buildSlice 28 4 #[(0, .slice A1 n1 c1), (1, .slice A2 n2 c2), (2, .slice A3 n3 c3), (3, .slice A4 n4 c4)]).run Try.prog w = .ok (.slice (some ⟨w.heap.size, 0, none⟩) 4 4) (w.alloc (.cells [Value.slice A1 n1 c1, Value.slice A2 n2 c2, Value.slice A3 n3 c3, Value.slice A4 n4 c4].toArray 27)) := by kernel_rfl
theorem build_z1 (w : World) : (Instr.buildSlice 27 1 #[(0, .int .u8 0)]).run Try.prog w = .ok (.slice (some ⟨w.heap.size, 0, none⟩) 1 1) (w.alloc (.cells (bv [0]).toArray 5)) := by kernel_rfl
theorem byt_zeros (n : Nat) : Byt (List.replicate n 0) := fun x hx => by rw [List.mem_replicate] at hx; omega
theorem openR_01 (xs : List Int) : (openR xs).r = 0 ∨ (openR xs).r = 2 := by
  unfold openR; split
  · exact .inl rfl
  · exact .inr rfl
theorem ok_of {a8 ok : Bool} (h : (a8 || !ok) = false) : ok = true := by cases a8 <;> cases ok <;> simp_all
theorem isBytes_frm {v : Value} {xs : List Int} {L : Blks} (h : IsBytes v xs L) : ∃ A n c, v = .slice A n c := by
  obtain ⟨A, c, rfl⟩ := h.val
  exact ⟨A, _, c, rfl⟩
theorem Own.in2 {w0 w : World} {A B C R : Blks} (h : Own w0 w (C ++ (A ++ (B ++ R)))) : Own w0 w (A ++ (B ++ (C ++ R))) := by
  have h1 : Own w0 w (C ++ ((A ++ B) ++ R)) := by rw [List.append_assoc]; exact h
  have h2 := h1.rot
  rw [List.append_assoc] at h2
  exact h2
theorem rd_32 {w0 : World} {R : Blks} {g c : Nat} {xs : List Int} {sp : List Value} {t : TypeId} (hm : (g, Obj.cells (List.toArray (bv xs ++ sp)) t) ∈ R) (hl : xs.length = 32) (hc : 32 ≤ c) : Rd w0 R (.slice (some ⟨g, 0, none⟩) 32 c) xs := by
  have := rd_blk (w0 := w0) hm 0 32 c (by omega) hc
  rwa [List.drop_zero, List.take_of_length_le (by omega)] at this
theorem rd_31 {w0 : World} {R : Blks} {g c : Nat} {xs : List Int} {sp : List Value} {t : TypeId} (hm : (g, Obj.cells (List.toArray (bv xs ++ sp)) t) ∈ R) (hl : xs.length = 32) (hc : 31 ≤ c) : Rd w0 R (.slice (some ⟨g, 0, none⟩) 31 c) (xs.take 31) := by
  have := rd_blk (w0 := w0) hm 0 31 c (by omega) hc
  rwa [List.drop_zero] at this
theorem refOpen_is {w0 w : World} {R : Blks} (hO : Own w0 w R) (v : Value) (xs : List Int) (hb : Rd w0 R v xs) (hB : Byt xs) (o : Opened) (h : openR xs = o) :
    Calls Try.prog 29 #[v] w (GotOpenB w0 R o) := by rw [← h]; exact refOpen_c hO v xs hb hB
theorem openR_len {xs : List Int} {e s p q : Int} {b : List Int} {r : Int} (h : openR xs = ⟨e, s, p, q, b, r⟩) : b.length ≤ 19 := by
  unfold openR at h
  split at h
  · rename_i hs
    have h1 := (okSeal_spec (isSeal_is hs).2.1).2.2.2.2.2.2.2
    cases h
    exact h1
  · cases h; simp
set_option maxRecDepth 100000 in
set_option maxHeartbeats 8000000 in
theorem markTells_walk {w : World} (a0 : Int) (_ : (Lit.int .i64 a0).wf = true) (a1 : Int) (_ : (Lit.int .i64 a1).wf = true) (a2 : Int) (_ : (Lit.int .i64 a2).wf = true) (a3 : Int) (_ : (Lit.int .i64 a3).wf = true) (v4 : Value) (a4 : List Int) (h4 : InRow .u8 w v4 a4) (a5 : Int) (_ : (Lit.int .i64 a5).wf = true) (a6 : Int) (_ : (Lit.int .i64 a6).wf = true) (a7 : Int) (h7 : (Lit.int .u8 a7).wf = true) (a8 : Bool) :
    Calls Try.prog 7 #[.int .i64 a0, .int .i64 a1, .int .i64 a2, .int .i64 a3, v4, .int .i64 a5, .int .i64 a6, .int .u8 a7, .bool a8] w (Yes w) := by
  have HB4 := Lib.hid h4; clear h4
  have hc := bounds_u8 h7
  have HO := Lib.hid (Own.start w)
  go_enter Try.func7, Try.ntmps7
  go_wp2_with fail
  have hcall := cut_24 HO.out v4 a4 (HB4.out.rd _)
  with_reducible refine hcall.mono ?_
  clear hcall
  rintro en w1 ⟨vb, Lb, rfl, hb, hO1⟩
  have hbl : (a4.take 24).length ≤ 24 := by simp; omega
  have hbb : Byt (a4.take 24) := byt_take HB4.out.byt 24
  have HBB := Lib.hid hbb; have HO1 := Lib.hid hO1; have HVB := Lib.hid hb; have HBL := Lib.hid hbl
  generalize a4.take 24 = bs at *
  clear hbb hO1 hb HO hbl
  go_upto_if 42 with fail
  go_cut [0, 1, 2, 3, 4] (fun s0 s1 s2 s3 s4 wx => MidA w s0 s1 s2 s3 s4 wx)
  case first =>
    by_cases h5 : a5.tmod 5 = 4
    · have h5' : (a5.tmod 5 != 4) = false := by simp [h5]
      clear h5
      go_wp2_with fail
      go_meet
      exact ⟨a0, a1, a2, a3, Lb, bs, rfl, rfl, rfl, rfl, HVB.out, HBB.out, HBL.out, HO1.out⟩
    · have h5' : (a5.tmod 5 != 4) = true := by simp [h5]
      clear h5
      have hq0 : 1 ≤ 1 + a3 % 255 := by omega
      have hq1 : 1 + a3 % 255 ≤ 255 := by omega
      go_wp2_with (go_at_call 9; refine (within_c _ _ (by omega) (by omega)).mono ?_; rintro e w' ⟨rfl, rfl⟩)
      have hcall := cut_19 HO1.out vb bs (HVB.out.rd sub_here)
      with_reducible refine hcall.mono ?_
      clear hcall
      rintro en w2 ⟨vb2, Lb2, rfl, hb2, hO2⟩
      have HO2 := Lib.hid hO2.rot.right; have HVB2 := Lib.hid hb2; clear hO2 hb2 HO1
      go_wp2_with fail
      go_meet
      exact ⟨_, _, _, _, Lb2, _, rfl, rfl, rfl, rfl, HVB2.out, byt_take HBB.out 19, by simp; omega, HO2.out⟩
  case rest =>
    obtain ⟨e, s, p, q, L, xs, rfl, rfl, rfl, rfl, hb, hbb, hbl, hO⟩ := hcut
    clear HBB HO1 HVB HBL
    obtain ⟨A, cb, rfl⟩ := hb.val
    have HVB := Lib.hid hb; have HBB := Lib.hid hbb; have HO := Lib.hid hO; clear hb hbb hO
    have hbm := build_mark e s
    go_wp2_with fail
    have hcall := seal_c HO.out e s p q (.slice A xs.length cb) xs (HVB.out.rd sub_here)
    with_reducible refine hcall.mono ?_
    clear hcall hbm
    rintro en w2 ⟨v1, L1, rfl, h1, hO2⟩
    generalize hr : (if okSeal e s p q xs.length = true then (0 : Int) else 1) = r1
    have HR := Lib.hid hr; clear hr
    have HO2 := Lib.hid hO2; have H1 := Lib.hid h1; clear hO2 h1 HO
    go_wp2_with fail
    have hcall := refSeal_c HO2.out e s p q (.slice A xs.length cb) xs (HVB.out.rd (sub_there sub_here))
    with_reducible refine hcall.mono ?_
    clear hcall
    rintro en w3 ⟨v2, L2, rfl, h2, hO3⟩
    have HOK := Lib.hid (@okSeal_spec e s p q xs.length)
    generalize hsv : (if okSeal e s p q xs.length = true then sealed e s p q xs else []) = ts at *
    have hsl : ts.length ≤ 32 := by
      rw [← hsv]; split
      · rename_i hk; rw [length_sealed _ _ _ _ _ (HOK.out hk).2.2.2.2.2.2.2]; omega
      · simp
    have hst : okSeal e s p q xs.length = true → ts.length = 32 := fun hk => by rw [← hsv, if_pos hk]; exact length_sealed _ _ _ _ _ (HOK.out hk).2.2.2.2.2.2.2
    have hsb : Byt ts := by
      rw [← hsv]; split
      · rename_i hk; exact byt_sealed hk HBB.out
      · intro x hx; cases hx
    generalize hk : okSeal e s p q xs.length = ok at *
    have HK := Lib.hid hk; have HST := Lib.hid hst; have HSB := Lib.hid hsb; clear hk hsv hst hsb HOK
    have HO3 := Lib.hid hO3; have H2 := Lib.hid h2; clear hO3 h2 HO2
    go_upto_region 9 with fail
    go_cut [95] (fun s95 wx => MidB w (L2 ++ (L1 ++ (L ++ []))) false s95 wx)
    case first =>
      have g1 := H1.out.bs_sub HO3.out (sub_there sub_here)
      have g2 := H2.out.bs_sub HO3.out sub_here
      have hsame := same_c v1 v2 _ _ g1 g2 (by omega)
      rw [decide_eq_true rfl] at hsame
      have HS := Lib.hid hsame; clear hsame g1 g2
      have hr := HR.out
      clear HR
      cases ok
      all_goals
        simp only [Bool.false_eq_true, if_false, if_true] at hr
        subst hr
        go_wp2_with fail
        with_reducible refine HS.out.mono ?_
        rintro en w4 ⟨rfl, m4, rfl⟩
        have HO4 := Lib.hid (HO3.out.drewN m4)
        generalize w3.drewN m4 = w4 at HO4
        go_wp2_with fail
        go_meet
        exact ⟨rfl, HO4.out⟩
    case rest =>
      obtain ⟨rfl, hO⟩ := hcut
      have hO4 : Own w wc (L2 ++ (L ++ [])) := (Own.rot (A := L2) hO).right
      have HO4 := Lib.hid hO4; clear hO hO4 HO3 H1
      go_wp2_with fail
      have hcall := copyB_c HO4.out v2 ts (H2.out.rd sub_here) (by omega)
      with_reducible refine hcall.mono ?_
      clear hcall
      rintro en w5 ⟨v5, L5, rfl, h5, hO5⟩
      have HO5 := Lib.hid hO5; have H5 := Lib.hid h5; clear hO5 h5 HO4
      go_upto_region 12 with fail
      go_cut [102] (fun s102 wx => MidB w (L5 ++ (L2 ++ (L ++ []))) (a8 || !ok) s102 wx)
      case first =>
        cases a8
        · go_wp2_with fail
          go_meet
          exact ⟨rfl, HO5.out⟩
        · go_wp2_with fail
          go_meet
          exact ⟨rfl, HO5.out⟩
      case rest =>
        obtain ⟨rfl, hO⟩ := hcut
        have HO6 := Lib.hid hO; clear hO HO5
        generalize hrw : (a8 || !ok) = raw
        have HRW := Lib.hid hrw; clear hrw
        go_upto_if 102 with fail
        go_cut [24] (fun s24 wx => MidX w (L2 ++ (L ++ [])) s24 wx)
        case first =>
          cases raw
          · have hok : ok = true := ok_of HRW.out
            have HOK := Lib.hid hok; clear hok
            go_wp2_with fail
            go_meet
            have hok := HOK.out
            obtain ⟨g, c, sp, rfl, rfl, hc⟩ := H5.out.blkn 32 (HST.out hok) (by omega)
            exact ⟨g, c, ts, sp, rfl, hc, HST.out hok, HSB.out, HO6.out⟩
          · go_wp2_with fail
            have hcall := copyB_c HO6.out (.slice A xs.length cb) xs (HVB.out.rd (sub_there (sub_there sub_here))) (by omega)
            with_reducible refine hcall.mono ?_
            clear hcall
            rintro en w7 ⟨v7, L7, rfl, h7, hO7⟩
            have HO7 := Lib.hid (Own.rot (A := L7) hO7).right; have H7 := Lib.hid h7; clear hO7 h7 HO6
            go_wp2_with (refine wl_appendZB rfl _ _ rfl v7 _ (by rfl) H7.out HO7.out 32 (by rfl) (by omega) ?_; intro v8 w8 L8 h8 hO8; obtain ⟨g8, c8, sp8, rfl, rfl, hc8⟩ := h8.blkn (xs.length + 32) (by simp) (by omega); have hc8' : (32 : Int) ≤ c8 := (by omega); have HO8 := Lib.hid hO8; clear hO8 h8 HO7)
            go_meet
            refine ⟨g8, c8, (xs ++ List.replicate 32 0).take 32, bv ((xs ++ List.replicate 32 0).drop 32) ++ sp8, rfl, by omega, by simp, byt_take (byt_append HBB.out (byt_zeros 32)) 32, ?_⟩
            have := HO8.out
            rw [← List.append_assoc, ← bv_append, List.take_append_drop]
            exact this
        case rest =>
          obtain ⟨g, c, ys, sp, rfl, hcc, hyl, hyb, hO⟩ := hcut
          have HO7 := Lib.hid hO; have HYL := Lib.hid hyl; have HYB := Lib.hid hyb; clear hO hyl hyb HO6 H5
          have hc31 : (31 : Int) ≤ c := by omega
          go_wp2_with fail
          have hcall := within_n (w := wc) a6 32 (by omega) (by omega)
          with_reducible refine hcall.mono ?_
          clear hcall
          rintro en w' ⟨rfl, rfl⟩
          have hk : (a6 % 32).toNat < 32 := by omega
          generalize (a6 % 32).toNat = k at *
          have hk0 : (k : Int) < 32 := by omega
          have hcy : wc.cell? ⟨g, k, none⟩ = some (.int .u8 (ys.getD k 0)) := by
            rw [HO7.out.cell (.head _) k, bv_get_sp _ _ _ (by rw [HYL.out]; omega)]
            simp [List.getD, show k < ys.length by rw [HYL.out]; omega]
          have hxx := getD_byt HYB.out k
          have hx8 := xor8 hxx.1 hxx.2 hc.1 hc.2
          have HX8 := Lib.hid hx8; clear hx8
          generalize ys.getD k 0 = x at *
          go_upto_region 15 with (refine wl_store1 rfl _ _ _ rfl HO7.out 0 g k _ (.int .u8 (bits .xor .u8 x a7)) _ rfl (by rfl) (by rfl) (by rfl) (by kernel_rfl) (by rfl) (by simp only [List.size_toArray, List.length_append, length_bv, HYL.out]; omega) ?_; intro w9 hO8; have HO8 := Lib.hid hO8; clear hO8 HO7)
          have hO8 := HO8.out
          simp only [List.set_cons_zero] at hO8
          rw [bv_set_sp _ _ _ _ (by rw [HYL.out]; exact hk)] at hO8
          have hyl' : (ys.set k (bits .xor .u8 x a7)).length = 32 := by rw [List.length_set]; exact HYL.out
          have hyb' : Byt (ys.set k (bits .xor .u8 x a7)) := by
            intro y hy
            rcases List.mem_or_eq_of_mem_set hy with hy | rfl
            · exact HYB.out y hy
            · exact ⟨HX8.out.1, HX8.out.2.1⟩
          clear HO8 hcy
          generalize ys.set k (bits .xor .u8 x a7) = ys' at *
          have HO8 := Lib.hid hO8; have HYL' := Lib.hid hyl'; have HYB' := Lib.hid hyb'; clear hO8 hyl' hyb' HX8
          try simp only [Act.put]
          go_cut [125, 126, 127] (fun s125 s126 s127 wx => MidR w s125 s126 s127 wx)
          case first =>
            rename_i JJ KK hJJ hKK
            refine wp_region_tree (fun w' => True) 12 (.q 0 (.q 1 (.q 2 (.q 3 (.q 5 (.q 11 (.two 4 (.two 6 (.one 7 (.one 8 (.one 9 (.q 10 .done)))) 7 (.one 6 (.one 8 (.one 9 (.q 10 .done))))) 7 (.one 4 (.one 6 (.one 8 (.one 9 (.q 10 .done)))))))))))) (by kernel_rfl) (by decide +kernel) (fun _ _ d _ _ h => by cases d <;> exact h) trivial ?_
            iterate 6 (refine tr_q ?_ rfl ?_ ?_; rotate_left 1; (focus (rintro w' hq; simp only [pick_zero, pick_succ]; go_simp; first | done | with_reducible rfl | (trace_state; fail))); simp only [pick_zero, pick_succ]; simp only [Act.put, List.setIfInBounds_toArray, List.set_cons_zero, List.set_cons_succ])
            have HOa := Lib.hid HO8.out.drew; clear HO8
            generalize w9.drew = w10 at HOa
            refine tr_two ?_ ?_
            · simp only [pick_zero, pick_succ]
              have hcall := copyB_c HOa.out v2 ts (H2.out.rd (sub_there (B := [_]) sub_here)) (by omega)
              refine wl_call rfl _ _ _ (by go_simp) hcall ?_
              clear hcall
              rintro en w11 ⟨va, La, rfl, ha, hO⟩
              have HO0x := Lib.hid hO; have HA := Lib.hid ha; clear hO ha HOa
              obtain ⟨Aa, na, ca, rfl⟩ := isBytes_frm HA.out
              refine ⟨_, rfl, LinPost.mk trivial ?_⟩
              simp only [Act.put, List.setIfInBounds_toArray, List.set_cons_zero, List.set_cons_succ]
              refine tr_two ?_ ?_
              · simp only [pick_zero, pick_succ]
                have hcall := copyB_c HO0x.out _ ys' (rd_32 (List.mem_append_right _ (.head _)) HYL'.out hcc) (by rw [HYL'.out]; omega)
                refine wl_call rfl _ _ _ (by go_simp) hcall ?_
                clear hcall
                rintro en w12 ⟨vy, Lx, rfl, hx, hO⟩
                have HO1x := Lib.hid hO; have HX := Lib.hid hx; clear hO hx HO0x
                refine ⟨_, rfl, LinPost.mk trivial ?_⟩
                simp only [Act.put, List.setIfInBounds_toArray, List.set_cons_zero, List.set_cons_succ]
                refine tr_one ?_
                simp only [pick_zero, pick_succ]
                refine wl_buildSlice rfl _ _ _ rfl HO1x.out _ (by exact build_z1 _) ?_
                intro g7 w13 hO
                refine LinPost.mk trivial ?_
                have HO2x := Lib.hid (Own.in2 (C := [_]) hO); clear hO HO1x
                simp only [Act.put, List.setIfInBounds_toArray, List.set_cons_zero, List.set_cons_succ]
                refine tr_one ?_
                simp only [pick_zero, pick_succ]
                refine wl_appendB rfl _ _ rfl vy _ (by rfl) HX.out HO2x.out (.slice (some ⟨g7, 0, none⟩) 1 1) [0] (by rfl) ((isBytes_whole g7 [0] (by simp)).bs_sub HO2x.out (sub_there (sub_there (List.sublist_append_left [_] _)))) (by rw [HYL'.out]; simp) ?_
                intro v8 w18 L8 h8 hO
                refine LinPost.mk trivial ?_
                have HO18 := Lib.hid hO; have H8 := Lib.hid h8; clear hO h8 HO2x
                obtain ⟨A8, n8, c8, rfl⟩ := isBytes_frm H8.out
                refine tr_one ?_
                simp only [pick_zero, pick_succ]
                refine wl_buildSlice rfl _ _ _ rfl HO18.out _ (by exact build_4 _ _ _ _ _ _ _ _ _ _ _ _ _) ?_
                intro gr w19 hO
                refine LinPost.mk trivial ?_
                have HO19 := Lib.hid hO; clear hO HO18
                simp only [Act.put, List.setIfInBounds_toArray, List.set_cons_zero, List.set_cons_succ]
                iterate 1 (refine tr_q ?_ rfl ?_ ?_; rotate_left 1; (focus (rintro w' hq; simp only [pick_zero, pick_succ]; go_simp; first | done | with_reducible rfl | (trace_state; fail))); simp only [pick_zero, pick_succ]; simp only [Act.put, List.setIfInBounds_toArray, List.set_cons_zero, List.set_cons_succ])
                refine tr_done ?_
                refine hKK _ _ ?_
                go_meet
                refine ⟨gr, _, _, rfl, rfl, rfl, rfl, ?_, HO19.out⟩
                intro v hv
                simp only [List.mem_cons, List.not_mem_nil, or_false] at hv
                have hmem : (g, Obj.cells (List.toArray (bv ys' ++ sp)) 5) ∈ L8 ++ (La ++ ([(g7, Obj.cells (bv [0]).toArray 5)] ++ ((g, Obj.cells (List.toArray (bv ys' ++ sp)) 5) :: (L2 ++ (L ++ []))))) := List.mem_append_right _ (List.mem_append_right _ (.tail _ (.head _)))
                rcases hv with rfl | rfl | rfl | rfl
                · exact ⟨_, _, _, ys', rfl, HYB'.out, by rw [HYL'.out]; omega, rd_32 (.tail _ hmem) HYL'.out hcc⟩
                · exact ⟨_, _, _, ys'.take 31, rfl, byt_take HYB'.out 31, by simp; omega, rd_31 (.tail _ hmem) HYL'.out (by omega)⟩
                · exact ⟨_, _, _, ts, rfl, HSB.out, by omega, HA.out.rd (sub_there (B := [_]) (sub_there sub_here))⟩
                · exact ⟨_, _, _, ys' ++ [0], rfl, byt_append HYB'.out (byt_zeros 1), by simp [HYL'.out], H8.out.rd (sub_there (B := [_]) sub_here)⟩
              · simp only [pick_zero, pick_succ]
                refine wl_buildSlice rfl _ _ _ rfl HO0x.out _ (by exact build_z1 _) ?_
                intro g7 w12 hO
                refine LinPost.mk trivial ?_
                have HO1x := Lib.hid (Own.rot (A := [_]) hO); clear hO HO0x
                simp only [Act.put, List.setIfInBounds_toArray, List.set_cons_zero, List.set_cons_succ]
                refine tr_one ?_
                simp only [pick_zero, pick_succ]
                have hcall := copyB_c HO1x.out _ ys' (rd_32 (List.mem_append_right _ (.tail _ (.head _))) HYL'.out hcc) (by rw [HYL'.out]; omega)
                refine wl_call rfl _ _ _ (by go_simp) hcall ?_
                clear hcall
                rintro en w13 ⟨vy, Lx, rfl, hx, hO⟩
                have HO2x := Lib.hid hO; have HX := Lib.hid hx; clear hO hx HO1x
                refine ⟨_, rfl, LinPost.mk trivial ?_⟩
                simp only [Act.put, List.setIfInBounds_toArray, List.set_cons_zero, List.set_cons_succ]
                refine tr_one ?_
                simp only [pick_zero, pick_succ]
                refine wl_appendB rfl _ _ rfl vy _ (by rfl) HX.out HO2x.out (.slice (some ⟨g7, 0, none⟩) 1 1) [0] (by rfl) ((isBytes_whole g7 [0] (by simp)).bs_sub HO2x.out (sub_there (sub_there (List.sublist_append_left [_] _)))) (by rw [HYL'.out]; simp) ?_
                intro v8 w18 L8 h8 hO
                refine LinPost.mk trivial ?_
                have HO18 := Lib.hid hO; have H8 := Lib.hid h8; clear hO h8 HO2x
                obtain ⟨A8, n8, c8, rfl⟩ := isBytes_frm H8.out
                refine tr_one ?_
                simp only [pick_zero, pick_succ]
                refine wl_buildSlice rfl _ _ _ rfl HO18.out _ (by exact build_4 _ _ _ _ _ _ _ _ _ _ _ _ _) ?_
                intro gr w19 hO
                refine LinPost.mk trivial ?_
                have HO19 := Lib.hid hO; clear hO HO18
                simp only [Act.put, List.setIfInBounds_toArray, List.set_cons_zero, List.set_cons_succ]
                iterate 1 (refine tr_q ?_ rfl ?_ ?_; rotate_left 1; (focus (rintro w' hq; simp only [pick_zero, pick_succ]; go_simp; first | done | with_reducible rfl | (trace_state; fail))); simp only [pick_zero, pick_succ]; simp only [Act.put, List.setIfInBounds_toArray, List.set_cons_zero, List.set_cons_succ])
                refine tr_done ?_
                refine hKK _ _ ?_
                go_meet
                refine ⟨gr, _, _, rfl, rfl, rfl, rfl, ?_, HO19.out⟩
                intro v hv
                simp only [List.mem_cons, List.not_mem_nil, or_false] at hv
                have hmem : (g, Obj.cells (List.toArray (bv ys' ++ sp)) 5) ∈ L8 ++ (La ++ ([(g7, Obj.cells (bv [0]).toArray 5)] ++ ((g, Obj.cells (List.toArray (bv ys' ++ sp)) 5) :: (L2 ++ (L ++ []))))) := List.mem_append_right _ (List.mem_append_right _ (.tail _ (.head _)))
                rcases hv with rfl | rfl | rfl | rfl
                · exact ⟨_, _, _, ys', rfl, HYB'.out, by rw [HYL'.out]; omega, rd_32 (.tail _ hmem) HYL'.out hcc⟩
                · exact ⟨_, _, _, ys'.take 31, rfl, byt_take HYB'.out 31, by simp; omega, rd_31 (.tail _ hmem) HYL'.out (by omega)⟩
                · exact ⟨_, _, _, ts, rfl, HSB.out, by omega, HA.out.rd (sub_there (B := [_]) (sub_there sub_here))⟩
                · exact ⟨_, _, _, ys' ++ [0], rfl, byt_append HYB'.out (byt_zeros 1), by simp [HYL'.out], H8.out.rd (sub_there (B := [_]) sub_here)⟩
            · simp only [pick_zero, pick_succ]
              refine wl_buildSlice rfl _ _ _ rfl HOa.out _ (by exact build_z1 _) ?_
              intro g7 w11 hO
              refine LinPost.mk trivial ?_
              have HO0x := Lib.hid hO; clear hO HOa
              simp only [Act.put, List.setIfInBounds_toArray, List.set_cons_zero, List.set_cons_succ]
              refine tr_one ?_
              simp only [pick_zero, pick_succ]
              have hcall := copyB_c HO0x.out v2 ts (H2.out.rd (sub_there (B := [_]) (sub_there (B := [_]) sub_here))) (by omega)
              refine wl_call rfl _ _ _ (by go_simp) hcall ?_
              clear hcall
              rintro en w12 ⟨va, La, rfl, ha, hO⟩
              have HO1x := Lib.hid hO; have HA := Lib.hid ha; clear hO ha HO0x
              obtain ⟨Aa, na, ca, rfl⟩ := isBytes_frm HA.out
              refine ⟨_, rfl, LinPost.mk trivial ?_⟩
              simp only [Act.put, List.setIfInBounds_toArray, List.set_cons_zero, List.set_cons_succ]
              refine tr_one ?_
              simp only [pick_zero, pick_succ]
              have hcall := copyB_c HO1x.out _ ys' (rd_32 (List.mem_append_right _ (.tail _ (.head _))) HYL'.out hcc) (by rw [HYL'.out]; omega)
              refine wl_call rfl _ _ _ (by go_simp) hcall ?_
              clear hcall
              rintro en w13 ⟨vy, Lx, rfl, hx, hO⟩
              have HO2x := Lib.hid hO; have HX := Lib.hid hx; clear hO hx HO1x
              refine ⟨_, rfl, LinPost.mk trivial ?_⟩
              simp only [Act.put, List.setIfInBounds_toArray, List.set_cons_zero, List.set_cons_succ]
              refine tr_one ?_
              simp only [pick_zero, pick_succ]
              refine wl_appendB rfl _ _ rfl vy _ (by rfl) HX.out HO2x.out (.slice (some ⟨g7, 0, none⟩) 1 1) [0] (by rfl) ((isBytes_whole g7 [0] (by simp)).bs_sub HO2x.out (sub_there (sub_there (List.sublist_append_left [_] _)))) (by rw [HYL'.out]; simp) ?_
              intro v8 w18 L8 h8 hO
              refine LinPost.mk trivial ?_
              have HO18 := Lib.hid hO; have H8 := Lib.hid h8; clear hO h8 HO2x
              obtain ⟨A8, n8, c8, rfl⟩ := isBytes_frm H8.out
              refine tr_one ?_
              simp only [pick_zero, pick_succ]
              refine wl_buildSlice rfl _ _ _ rfl HO18.out _ (by exact build_4 _ _ _ _ _ _ _ _ _ _ _ _ _) ?_
              intro gr w19 hO
              refine LinPost.mk trivial ?_
              have HO19 := Lib.hid hO; clear hO HO18
              simp only [Act.put, List.setIfInBounds_toArray, List.set_cons_zero, List.set_cons_succ]
              iterate 1 (refine tr_q ?_ rfl ?_ ?_; rotate_left 1; (focus (rintro w' hq; simp only [pick_zero, pick_succ]; go_simp; first | done | with_reducible rfl | (trace_state; fail))); simp only [pick_zero, pick_succ]; simp only [Act.put, List.setIfInBounds_toArray, List.set_cons_zero, List.set_cons_succ])
              refine tr_done ?_
              refine hKK _ _ ?_
              go_meet
              refine ⟨gr, _, _, rfl, rfl, rfl, rfl, ?_, HO19.out⟩
              intro v hv
              simp only [List.mem_cons, List.not_mem_nil, or_false] at hv
              have hmem : (g, Obj.cells (List.toArray (bv ys' ++ sp)) 5) ∈ L8 ++ (La ++ ([(g7, Obj.cells (bv [0]).toArray 5)] ++ ((g, Obj.cells (List.toArray (bv ys' ++ sp)) 5) :: (L2 ++ (L ++ []))))) := List.mem_append_right _ (List.mem_append_right _ (.tail _ (.head _)))
              rcases hv with rfl | rfl | rfl | rfl
              · exact ⟨_, _, _, ys', rfl, HYB'.out, by rw [HYL'.out]; omega, rd_32 (.tail _ hmem) HYL'.out hcc⟩
              · exact ⟨_, _, _, ys'.take 31, rfl, byt_take HYB'.out 31, by simp; omega, rd_31 (.tail _ hmem) HYL'.out (by omega)⟩
              · exact ⟨_, _, _, ts, rfl, HSB.out, by omega, HA.out.rd (sub_there (B := [_]) (sub_there sub_here))⟩
              · exact ⟨_, _, _, ys' ++ [0], rfl, byt_append HYB'.out (byt_zeros 1), by simp [HYL'.out], H8.out.rd (sub_there (B := [_]) sub_here)⟩
          case rest =>
            obtain ⟨gr, vs, R, rfl, rfl, rfl, hvl, hvs, hO⟩ := hcut
            have HVS := Lib.hid hvs; have HVL := Lib.hid hvl; have HOz := Lib.hid hO; clear hvs hvl hO HO8
            clear HRW HVB HBB H2 HST HSB HK HR HYL HYB HYL' HYB' HB4 hcc hc31
            go_wp2_with fail
            go_loopw [127] (fun t wx => ∃ j : Nat, j ≤ 4 ∧ t = .int .i64 j ∧ Hid (Own w wx ((gr, Obj.cells (List.toArray vs) 27) :: R))) (fun t _ => 4 - (intOf t).toNat)
            case atStart => exact ⟨0, by omega, rfl, HOz.out⟩
            case round =>
              obtain ⟨j, hj, rfl, HOr⟩ := hrel
              clear HOz
              by_cases hlt : j < 4
              · obtain ⟨A, n, c, zs, hv, hzb, hzl, hrd⟩ := HVS.out (vs[j]'(by rw [HVL.out]; exact hlt)) (List.getElem_mem _)
                have hcell : wr.cell? ⟨gr, j, none⟩ = some (.slice A n c) := by
                  rw [HOr.out.cell (.head _) j, ← hv]
                  simp [HVL.out, hlt]
                rw [hv] at hrd
                have HRD := Lib.hid hrd; have HZB := Lib.hid hzb; clear hrd hzb hv HVS
                obtain ⟨o, ho⟩ : ∃ o, openR zs = o := ⟨_, rfl⟩
                have hor := openR_01 zs
                rw [ho] at hor
                obtain ⟨oe, os, op, oq, ob, or⟩ := o
                simp only at hor
                have HOO := Lib.hid ho; clear ho
                have hj4 : (j : Int) < 4 := by omega
                go_wp2_with fail
                have hcall := open_is HOr.out _ zs HRD.out HZB.out _ HOO.out
                with_reducible refine hcall.mono ?_
                clear hcall hcell
                rintro en w20 ⟨vd, Ld, rfl, hd, hO⟩
                simp only at hd
                have HO20 := Lib.hid hO; have HD := Lib.hid hd; clear hO hd HOr
                go_wp2_with (first | (refine wl_alloc rfl _ rfl HO20.out _ (alloc_mark _) ?_; intro gx w21 hO21; have HO21 := Lib.hid hO21; clear hO21 HO20) | (refine wl_store rfl _ _ _ rfl HO21.out 0 gx 0 _ [Value.int .i64 oe, Value.int .i64 os] _ rfl (by rfl) (by rfl) mark_size (one_2i _ _) (by simp) ?_; intro w22 hO22; have hO22' : Own w w22 ((gx, Obj.cells #[Value.int .i64 oe, Value.int .i64 os] 44) :: (Ld ++ ((gr, Obj.cells (List.toArray vs) 27) :: R))) := hO22; have HO22 := Lib.hid hO22'; clear hO22 hO22' HO21))
                have hcall := refOpen_is HO22.out _ zs (HRD.out.more (A := [_] ++ Ld)) HZB.out _ HOO.out
                with_reducible refine hcall.mono ?_
                clear hcall
                rintro en w23 ⟨vk, Lk, rfl, hkk, hO23⟩
                simp only at hkk
                have hx0 : w23.cell? ⟨gx, 0, none⟩ = some (.int .i64 oe) := hO23.cell (List.mem_append_right _ (.head _)) 0
                have hx1 : w23.cell? ⟨gx, 1, none⟩ = some (.int .i64 os) := hO23.cell (List.mem_append_right _ (.head _)) 1
                have h1 := HD.out.bs_sub hO23 (sub_there (sub_there (B := [_]) sub_here))
                have h2 := hkk.bs_sub hO23 sub_here
                have hobl : ob.length ≤ 19 := openR_len HOO.out
                have hsame := same_c vd vk ob ob h1 h2 (by omega)
                rw [decide_eq_true rfl] at hsame
                have HS := Lib.hid hsame; have HO23 := Lib.hid hO23; clear hsame h1 h2 hO23 hkk HO22
                have hbm := build_mark oe os
                rcases hor with rfl | rfl
                · rw [show decide ((0 : Int) = 0) = true by simp]
                  go_wp2_with fail
                  with_reducible refine HS.out.mono ?_
                  clear hx0 hx1
                  rintro en w24 ⟨rfl, m24, rfl⟩
                  have HO24 := Lib.hid (HO23.out.drewN m24)
                  generalize w23.drewN m24 = w24 at HO24
                  clear hbm
                  go_wp2
                  go_roundw
                  case rel => exact ⟨j + 1, by omega, by go_num, (HO24.out.right.tail).right⟩
                  case measure => simp [intOf]; omega
                · rw [show decide ((2 : Int) = 0) = false by simp]
                  go_wp2_with fail
                  with_reducible refine HS.out.mono ?_
                  clear hx0 hx1
                  rintro en w24 ⟨rfl, m24, rfl⟩
                  have HO24 := Lib.hid (HO23.out.drewN m24)
                  generalize w23.drewN m24 = w24 at HO24
                  clear hbm
                  go_wp2
                  go_roundw
                  case rel => exact ⟨j + 1, by omega, by go_num, (HO24.out.right.tail).right⟩
                  case measure => simp [intOf]; omega
              · obtain rfl : j = 4 := by omega
                go_wp2_with fail
                have hcall := wakes2_c HOr.out
                with_reducible refine hcall.mono ?_
                clear hcall
                rintro en w24 ⟨rfl, hO24⟩
                have HO24 := Lib.hid hO24; clear hO24 HOr
                go_wp2
                go_ret
                exact HO24.out.yes rfl
set_option maxRecDepth 100000 in
theorem markTells_lifted (os : Os) (started : os.Started) (H : Type) (enc : TypeId × Value → H) :
    ReturnsInHanded {} Try.checked os 7 .any (Rows.markTellsSpec.pre6 enc Try.prog Try.f7 Rows.markTellsRow.domain false) (Rows.markTellsSpec.post enc Try.prog Try.f7 false true false false) := by
  refine returnsInHanded_of_change (C := Try.checked) (by kernel_rfl) started (by kernel_rfl) Try.func7
    (ChangeSpec.witness6 (enc := enc) (C := Try.checked) false ⟨#[], #[.int .i64 0, .int .i64 0, .int .i64 0, .int .i64 0, .slice none 0 0, .int .i64 0, .int .i64 0, .int .u8 0, .bool false], []⟩ 8 (by kernel_rfl) (by kernel_rfl) (by kernel_rfl) (by kernel_rfl)) ?_
  intro W base args ds gs before hval0 hW hcnd _
  have hval : ∀ (j : Nat) t v, Try.f7.params[j]? = some t → args[j]? = some v → Value.okWide Try.prog W .any base t v := hval0
  have hW' := hW
  obtain ⟨p, q, hA0, hV, rfl, hfz, hnd⟩ := hW
  have hA : DataW.TrodAll enc Try.prog W 0 (fun _ => true) true Try.f7.params.toList args.toList ds p := hA0
  rw [Try.params7] at hA hval
  obtain ⟨v0, vs0, d0, ds0, p0, q0, hargs, rfl, rfl, h0, r0⟩ := trodAll_cons hA
  obtain ⟨v1, vs1, d1, ds1, p1, q1, rfl, rfl, rfl, h1, r1⟩ := trodAll_cons r0
  obtain ⟨v2, vs2, d2, ds2, p2, q2, rfl, rfl, rfl, h2, r2⟩ := trodAll_cons r1
  obtain ⟨v3, vs3, d3, ds3, p3, q3, rfl, rfl, rfl, h3, r3⟩ := trodAll_cons r2
  obtain ⟨v4, vs4, d4, ds4, p4, q4, rfl, rfl, rfl, h4, r4⟩ := trodAll_cons r3
  obtain ⟨v5, vs5, d5, ds5, p5, q5, rfl, rfl, rfl, h5, r5⟩ := trodAll_cons r4
  obtain ⟨v6, vs6, d6, ds6, p6, q6, rfl, rfl, rfl, h6, r6⟩ := trodAll_cons r5
  obtain ⟨v7, vs7, d7, ds7, p7, q7, rfl, rfl, rfl, h7, r7⟩ := trodAll_cons r6
  obtain ⟨v8, vs8, d8, ds8, p8, q8, rfl, rfl, rfl, h8, r8⟩ := trodAll_cons r7
  obtain ⟨rfl, rfl, rfl⟩ := trodAll_nil r8
  obtain rfl : args = #[v0, v1, v2, v3, v4, v5, v6, v7, v8] := by cases args; simp_all
  obtain ⟨rfl, rfl⟩ := trodVars_none hV
  obtain ⟨a0, rfl, rfl, rfl, w0⟩ := open_int Try.underlying3 (hval 0 3 v0 rfl rfl) h0
  obtain ⟨a1, rfl, rfl, rfl, w1⟩ := open_int Try.underlying3 (hval 1 3 v1 rfl rfl) h1
  obtain ⟨a2, rfl, rfl, rfl, w2⟩ := open_int Try.underlying3 (hval 2 3 v2 rfl rfl) h2
  obtain ⟨a3, rfl, rfl, rfl, w3⟩ := open_int Try.underlying3 (hval 3 3 v3 rfl rfl) h3
  obtain ⟨b4, len4, cap4, rfl⟩ := okWide_slice Try.underlying27 (hval 4 27 v4 rfl rfl)
  have k4 := h4
  have lt4 : ∀ x ∈ p4, x.block < W.heap.size := by obtain ⟨m, hm⟩ := k4; exact DataW.trod_lt m _ _ _ hm
  obtain ⟨a4, w4⟩ : ∃ xs, InRow .u8 W (.slice b4 len4 cap4) xs := by
    obtain ⟨fuel, hf⟩ := h4
    rcases open_ints Try.underlying27 Try.underlying5 (by kernel_rfl) hf with ⟨hcs, _⟩ | ⟨x, l, c, zs, hcs, _, hl, hm, hz, _, hcell, hwz⟩
    · simp [Value.cells] at hcs
      obtain ⟨rfl, rfl, rfl⟩ := hcs
      exact ⟨[], inRow_nil _ _⟩
    · simp [Value.cells] at hcs
      obtain ⟨rfl, rfl, rfl⟩ := hcs
      exact ⟨zs.take len4, inRow_mk hl hm (by simpa using hz) hcell hwz⟩
  obtain ⟨a5, rfl, rfl, rfl, w5⟩ := open_int Try.underlying3 (hval 5 3 v5 rfl rfl) h5
  obtain ⟨a6, rfl, rfl, rfl, w6⟩ := open_int Try.underlying3 (hval 6 3 v6 rfl rfl) h6
  obtain ⟨a7, rfl, rfl, rfl, w7⟩ := open_int Try.underlying5 (hval 7 5 v7 rfl rfl) h7
  obtain ⟨a8, rfl, rfl, rfl⟩ := open_bool Try.underlying4 (hval 8 4 v8 rfl rfl) h8
  clear hA0 hval0
  refine (markTells_walk a0 w0 a1 w1 a2 w2 a3 w3 _ a4 w4 a5 w5 a6 w6 a7 w7 a8).mono fun e W' ⟨he, bel⟩ => ?_
  subst he
  exact ⟨_, rfl, _, _, _, [], _, [], hW', trodAll_mk1 (shut_bool Try.underlying4 _), (trodAll_cons_mk (shut_int Try.underlying3 w0) (trodAll_cons_mk (shut_int Try.underlying3 w1) (trodAll_cons_mk (shut_int Try.underlying3 w2) (trodAll_cons_mk (shut_int Try.underlying3 w3) (trodAll_cons_mk (Below.trod laidOut (by kernel_rfl) (of_decide_eq_true (by kernel_rfl)) k4 bel lt4) (trodAll_cons_mk (shut_int Try.underlying3 w5) (trodAll_cons_mk (shut_int Try.underlying3 w6) (trodAll_cons_mk (shut_int Try.underlying5 w7) (trodAll_cons_mk (shut_bool Try.underlying4 a8) trodAll_mk0))))))))), rfl, bel.frame _, fun h => by cases h⟩

/-- The statement. -/
theorem markTells_proved : Rows.MarkTellsSaid :=
  OpenClaim.holds_of_wide 7 Try.f7 rfl rfl rfl rfl rfl rfl rfl ⟨rfl, rfl, rfl, rfl, rfl⟩ rfl rfl rfl rfl rfl (by kernel_rfl) Try.func7 (by kernel_rfl)
    (of_decide_eq_true (by kernel_rfl)) (by unfold Func.isWrapper; first | (rw [if_pos (by decide +kernel)]; kernel_rfl) | (rw [if_neg (by decide +kernel)]; exact ⟨rfl, rfl⟩))
    (fun os started H enc _ => markTells_lifted os started H enc)
end Go.Proofs.Ytjdomggboikndaa

