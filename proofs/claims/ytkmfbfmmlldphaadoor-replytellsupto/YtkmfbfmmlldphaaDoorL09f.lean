/-
  ReplyTells: any text (of at most 1,048,576 letters) as an answer, or that it is none; any answer as a text; any digits as a number: as the document's own answers have it.
  Conditions: the statement's own bound (the arguments hold together at most 1,048,576 values and letters).
-/
import Derived.Test.YtkmfbfmmlldphaaDoorL09a
import Derived.Test.YtkmfbfmmlldphaaDoorVarsR
import Derived.JoinedCond
import Derived.Test.YtkmfbfmmlldphaaDoorRp6
import Derived.Test.YtkmfbfmmlldphaaDoorTree
namespace Go.Proofs.YtkmfbfmmlldphaaDoor
set_option linter.unusedVariables false
set_option linter.unusedSimpArgs false
set_option maxRecDepth 20000
open Go.ChangeShapes Go.WideShapes Go.ChangeAt Go.RowKit
open Go.ChangeMaps (open_string shut_string)

/-- A guarded quiet operation that is wanted, in a tree. -/
theorem tr_g {P : Program} {ops : Array Oper} {Q : Exit → Act → World → Prop} {S : World → Prop} {l : List Oper} {T : Act → World → Prop} {a : Act} {w : World} {i : Nat} {r : Ord} (v : Value) (hw : Region.wanted (pick l i) (yielded ops a.tmps) = true) (hrun : ∀ w', S w' → (execOp a.eval (pick l i)).run P w' = .ok (.value v) w') (h : wpT P ops l Q S T r (a.put (pick l i).dst v) w) : wpT P ops l Q S T (.q i r) a w :=
  ⟨v, .inl ⟨hw, hrun⟩, h⟩
theorem GotRep.fit {w0 : World} {R : Blks} {o : Option RL} {y n : Value} {e : Ending} {w' : World} (h : GotRep w0 R o y n e w') : ∃ A c L, e = .returned (.tuple #[.agg (rv (o.getD RL.zero).code (.slice A (o.getD RL.zero).heads.length c) (strOfNums (o.getD RL.zero).body) (o.getD RL.zero).cut).toArray, if o.isSome then y else n]) ∧ IsHeads (.slice A (o.getD RL.zero).heads.length c) ((o.getD RL.zero).heads.map toB) L ∧ Own w0 w' (L ++ R) := by
  obtain ⟨v, L, rfl, hv, hO⟩ := h
  obtain ⟨A, c, hve⟩ := IsRow.val hv
  rw [List.length_map] at hve
  subst hve
  exact ⟨A, c, L, rfl, hv, hO⟩
theorem hrd_zero {w0 w : World} {R R' : Blks} (hO : Own w0 w R) (A : Option Addr) (c : Nat) : HRd w0 R' (.slice A 0 c) [] := fun w' L' hO => ⟨_, _, _, rfl, rfl, Nat.zero_le _, fun h => absurd h (by omega)⟩
theorem headsF_len : ∀ (f : Nat) (hs : HL) (had : Option Int) (s : List Int) (q : HL × Option Int × List Int), hs.length ≤ 8 → headsF f hs had s = some q → q.1.length ≤ 8
  | 0, _, _, _, _, _, h => by cases h
  | f + 1, hs, had, s, q, hl, h => by
    unfold headsF at h
    rw [Option.bind_eq_some_iff] at h
    obtain ⟨p, _, h⟩ := h
    split at h
    · cases h; exact hl
    · rw [Option.bind_eq_some_iff] at h
      obtain ⟨hd, _, h⟩ := h
      split at h
      · cases h
      · rw [Option.bind_eq_some_iff] at h
        obtain ⟨had', _, h⟩ := h
        exact headsF_len f _ _ _ _ (by rw [List.length_append, List.length_singleton]; omega) h
theorem replyI_heads (s : List Int) : ((replyI s).getD RL.zero).heads.length ≤ 8 := by
  cases h : replyI s with
  | none => simp [RL.zero]
  | some r =>
    unfold replyI at h
    rw [Option.bind_eq_some_iff] at h
    obtain ⟨p, _, h⟩ := h
    rw [Option.bind_eq_some_iff] at h
    obtain ⟨c, _, h⟩ := h
    rw [Option.map_eq_some_iff] at h
    obtain ⟨q, h1, rfl⟩ := h
    exact headsF_len _ _ _ _ _ (by simp) h1
set_option maxRecDepth 100000 in
set_option maxHeartbeats 16000000 in
theorem replyTells_walk {W : World} (hV : VarsOk W) (a : Int) (wa : (Lit.int .i64 a).wf = true) (v : Value) (xs : List Int) (hv : InRow .i64 W v xs) (zv : xs.length ≤ 1048576) (s : ByteArray) (hs : s.size ≤ 1048576) (raw : Bool) :
    Calls Tryd.prog 5 #[.int .i64 a, v, .string s, .bool raw] W (Yes W) := by
  have HVV := Lib.hid hV
  have hrd := hv.rdv []
  obtain ⟨A, n, cp, rfl, _, _, _, _, _⟩ := hv
  clear wa hV zv
  have HP := Lib.hid (panswer_c (Own.start W) a (.slice A n cp) xs hrd s (by omega))
  have HRD := Lib.hid hrd
  clear hrd
  go_enter Tryd.func5, Tryd.ntmps5
  go_wp2_with fail
  with_reducible refine HP.out.mono ?_
  rintro e w1 ⟨t0, rfl, ht0, hO⟩
  have HO1 := Lib.hid hO; clear hO HP
  -- WALK
  cases raw with
  | false =>
    go_wp2_with fail
    have hp1 := rparse_c HVV.out.toMostOk HO1.out t0 (by omega)
    have hp2 : ∀ w' R', Own W w' R' → _ := fun w' R' h => rparseReply_c (R := R') h t0 (by omega)
    have h8 := replyI_heads (sb t0)
    generalize replyI (sb t0) = o at *
    have HP1 := Lib.hid hp1; have HP2 := Lib.hid hp2; have H8 := Lib.hid h8
    clear hp1 hp2 h8
    cases o with
    | none =>
      with_reducible refine HP1.out.mono ?_
      rintro e w2 hg
      obtain ⟨A5, c5, rfl, hO⟩ := hg.no
      have hv5 : HRd W [] (.slice A5 0 c5) [] := hrd_zero hO A5 c5
      have HO2 := Lib.hid hO; clear hO hg HP1 HO1
      go_wp2_with (first | (refine wl_alloc rfl _ rfl HO2.out _ (alloc_rep _) ?_; intro g10 w3 hO; have HO3 := Lib.hid hO; clear hO HO2) | (refine wl_store rfl _ _ _ rfl HO3.out 0 g10 0 _ (rv 0 (.slice A5 0 c5) ⟨#[]⟩ false) _ rfl (by rfl) (by rfl) rep_size (one_rv rfl) (by simp [rv]) ?_; intro w4 hO; have HO4 : Hid (Own W w4 ((g10, Obj.cells (rv 0 (.slice A5 0 c5) ⟨#[]⟩ false).toArray 24) :: [])) := Lib.hid (hO.cast rfl); clear hO HO3))
      with_reducible refine (HP2.out _ _ HO4.out).mono ?_
      rintro e w5 hg
      obtain ⟨A6, c6, rfl, hO⟩ := hg.no
      have hv6 : HRd W [] (.slice A6 0 c6) [] := hrd_zero (Own.start W) A6 c6
      have HO5 := Lib.hid hO; clear hO hg HP2 HO4
      go_wp2_with (first | (refine wl_alloc rfl _ rfl HO5.out _ (alloc_rrep _) ?_; intro g12 w6 hO; have HO6 := Lib.hid hO; clear hO HO5) | (refine wl_store rfl _ _ _ rfl HO6.out 0 g12 0 _ (rv 0 (.slice A6 0 c6) ⟨#[]⟩ false) _ rfl (by rfl) (by rfl) rrep_size (one_rv rfl) (by simp [rv]) ?_; intro w7 hO; have HO7 : Hid (Own W w7 ((g12, Obj.cells (rv 0 (.slice A6 0 c6) ⟨#[]⟩ false).toArray 41) :: ((g10, Obj.cells (rv 0 (.slice A5 0 c5) ⟨#[]⟩ false).toArray 24) :: []))) := Lib.hid (hO.cast rfl); clear hO HO6) | (refine wl_g (by rfl) ?_; refine wl_load rfl _ _ rfl g10 0 (rv 0 (.slice A5 0 c5) ⟨#[]⟩ false) (rv 0 (.slice A5 0 c5) ⟨#[]⟩ false) _ (HO7.out.heap (.tail _ (.head _))) (by rfl) _ Tryd.underlying24 rfl rep_size (by rfl) ?_) | (refine wl_g (by rfl) ?_; refine wl_load rfl _ _ rfl g12 0 (rv 0 (.slice A6 0 c6) ⟨#[]⟩ false) (rv 0 (.slice A6 0 c6) ⟨#[]⟩ false) _ (HO7.out.heap (.head _)) (by rfl) _ Tryd.underlying41 rfl rrep_size (by rfl) ?_))
      have hsame := same9_c (HO7.out.sub (List.nil_sublist _)) 0 0 (.slice A5 0 c5) (.slice A6 0 c6) [] [] hv5 hv6 ⟨#[]⟩ ⟨#[]⟩ false false (by simp)
      rw [show (decide ((0 : Int) = 0) && (decide (([] : HBL) = []) && (decide ((⟨#[]⟩ : ByteArray) = ⟨#[]⟩) && (false == false)))) = true by simp] at hsame
      with_reducible refine hsame.mono ?_
      clear hsame hv5 hv6
      rintro e w8 ⟨rfl, hO⟩
      have HOS : Hid (Own W w8 []) := Lib.hid (hO.sub (List.nil_sublist _)); clear hO HO7
      clear H8
      have HP2 := Lib.hid (preply_c HOS.out a (.slice A n cp) xs HRD.out s)
      go_wp2_with fail
      with_reducible refine HP2.out.mono ?_
      rintro e wA ⟨code, hs2, vv, L, body, rfl, hc1, hc2, hl7, hsm, hbs, hv2, hO⟩
      have HOA := Lib.hid hO; have HV2 := Lib.hid hv2
      have hsz := replyP_small hsm hl7 body (code := code)
      obtain ⟨Av, cv, hve⟩ := IsRow.val hv2
      subst hve
      clear hO HOS HP2 hv2 hsm
      go_wp2_with (first | (refine wl_alloc rfl _ rfl HOA.out _ (alloc_rrep _) ?_; intro g14 wB hO; have HOB := Lib.hid hO; clear hO HOA) | (refine wl_store rfl _ _ _ rfl HOB.out 0 g14 0 _ (rv code (.slice Av hs2.length cv) body false) _ rfl (by rfl) (by rfl) rrep_size (one_rv rfl) (by simp [rv]) ?_; intro wC hO; have HOC : Hid (Own W wC ((g14, Obj.cells (rv code (.slice Av hs2.length cv) body false).toArray 41) :: (L ++ []))) := Lib.hid (hO.cast rfl); clear hO HOB))
      have hn1 := rnumber_c HOC.out s
      have hn2 : ∀ w : World, _ := fun w => figures_c (w := w) s 1 6 (by omega)
      generalize (figI (sb s) 1 6).getD 0 = nv at *
      generalize (figI (sb s) 1 6).isSome = nb at *
      have HN1 := Lib.hid hn1; have HN2 := Lib.hid hn2
      clear hn1 hn2
      with_reducible refine HN1.out.mono ?_
      rintro e wD ⟨rfl, hO⟩
      have HOD := Lib.hid hO; clear hO HOC HN1
      go_wp2_with fail
      with_reducible refine (HN2.out _).mono ?_
      rintro e wq ⟨rfl, hww⟩
      subst hww
      clear HN2
      go_wp2_with fail
      have hrP : HRd W ((g14, Obj.cells (rv code (.slice Av hs2.length cv) body false).toArray 41) :: (L ++ [])) (.slice Av hs2.length cv) ((unB hs2).map toB) := by rw [unB_toB]; exact HV2.out.hrd (List.Sublist.cons _ (by rw [List.append_nil]; exact List.Sublist.refl _))
      have hkP : ∀ w', Own W w' ((g14, Obj.cells (rv code (.slice Av hs2.length cv) body false).toArray 41) :: (L ++ [])) → _ := fun w' h => rprint_c HVV.out h code (by omega) (.slice Av hs2.length cv) (unB hs2) hrP body false (by omega)
      have hkQ : ∀ w', Own W w' ((g14, Obj.cells (rv code (.slice Av hs2.length cv) body false).toArray 41) :: (L ++ [])) → _ := fun w' h => rprint9_c h code (by omega) (.slice Av hs2.length cv) (unB hs2) hrP body false (by omega)
      generalize strOfNums (replyP code (unB hs2) (sb body)) = pr at *
      have HKP := Lib.hid hkP; have HKQ := Lib.hid hkQ
      clear hrP hkP hkQ hsz
      have htl : (pr.toList == pr.toList) = true := by simp
      refine wp_region_lin (fun w' => w'.heap[g14]? = some (Obj.cells (rv code (.slice Av hs2.length cv) body false).toArray 41)) 24 [(0, true), (1, true), (2, true), (3, true), (4, true), (5, true), (6, true), (7, true), (8, true), (9, true), (10, true), (11, true), (12, true), (13, true), (14, true), (15, true), (17, true), (16, false), (18, false), (19, true), (20, true), (21, true), (22, false), (23, true)] (by kernel_rfl) (by kernel_rfl) (fun _ _ d _ _ h => by cases d <;> exact h) (HOD.out.drew.heap (.head _)) ?_
      simp only [List.map_cons, List.map_nil, pick_zero, pick_succ, List.drop_succ_cons, List.drop_zero]
      iterate 16 ((first | (refine lin_q ?_ rfl ?_ ?_; rotate_left 1; (focus (rintro w' hw; have k0 : w'.cell? ⟨g14, 0, none⟩ = some (.int .i64 code) := (by rw [cell_of_row w' g14 0 _ _ (0, 0) hw]; rfl); have k1 : w'.cell? ⟨g14, 1, none⟩ = some (.slice Av hs2.length cv) := (by rw [cell_of_row w' g14 1 _ _ (0, 0) hw]; rfl); have k2 : w'.cell? ⟨g14, 2, none⟩ = some (.string body) := (by rw [cell_of_row w' g14 2 _ _ (0, 0) hw]; rfl); clear hw; go_simp; first | done | with_reducible rfl))) | (refine lin_g ?_ (by rfl) ?_ ?_; rotate_left 1; (focus (rintro w' hw; have k0 : w'.cell? ⟨g14, 0, none⟩ = some (.int .i64 code) := (by rw [cell_of_row w' g14 0 _ _ (0, 0) hw]; rfl); have k1 : w'.cell? ⟨g14, 1, none⟩ = some (.slice Av hs2.length cv) := (by rw [cell_of_row w' g14 1 _ _ (0, 0) hw]; rfl); have k2 : w'.cell? ⟨g14, 2, none⟩ = some (.string body) := (by rw [cell_of_row w' g14 2 _ _ (0, 0) hw]; rfl); clear hw; go_simp; first | done | with_reducible rfl)))); simp only [Act.put, List.setIfInBounds_toArray, List.set_cons_zero, List.set_cons_succ])
      refine lin_loadG (by rfl) _ _ rfl g14 0 (rv code (.slice Av hs2.length cv) body false) (rv code (.slice Av hs2.length cv) body false) 41 (by rfl) _ Tryd.underlying41 rfl rrep_size (by rfl) (fun w' hw => hw) ?_
      simp only [Act.put, List.setIfInBounds_toArray, List.set_cons_zero, List.set_cons_succ]
      refine lin_act ?_
      refine wl_g (by rfl) ?_
      refine wl_call rfl _ _ _ (by first | (go_simp; done) | (go_simp; rfl)) (HKP.out _ HOD.out.drew) ?_
      rintro e wE ⟨rfl, hO⟩
      have HOE := Lib.hid hO; clear hO HOD
      refine ⟨_, rfl, LinPost.mk (HOE.out.heap (.head _)) ?_⟩
      simp only [Act.put, List.setIfInBounds_toArray, List.set_cons_zero, List.set_cons_succ]
      refine lin_act ?_
      refine wl_g (by rfl) ?_
      refine wl_call rfl _ _ _ (by first | (go_simp; done) | (go_simp; rfl)) (HKQ.out _ HOE.out) ?_
      rintro e wF ⟨rfl, hO⟩
      have HOF := Lib.hid hO; clear hO HOE
      refine ⟨_, rfl, LinPost.mk (HOF.out.heap (.head _)) ?_⟩
      simp only [Act.put, List.setIfInBounds_toArray, List.set_cons_zero, List.set_cons_succ]
      iterate 3 ((first | (refine lin_q ?_ rfl ?_ ?_; rotate_left 1; (focus (rintro w' hw; have k0 : w'.cell? ⟨g14, 0, none⟩ = some (.int .i64 code) := (by rw [cell_of_row w' g14 0 _ _ (0, 0) hw]; rfl); have k1 : w'.cell? ⟨g14, 1, none⟩ = some (.slice Av hs2.length cv) := (by rw [cell_of_row w' g14 1 _ _ (0, 0) hw]; rfl); have k2 : w'.cell? ⟨g14, 2, none⟩ = some (.string body) := (by rw [cell_of_row w' g14 2 _ _ (0, 0) hw]; rfl); clear hw; go_simp; first | done | with_reducible rfl))) | (refine lin_g ?_ (by rfl) ?_ ?_; rotate_left 1; (focus (rintro w' hw; have k0 : w'.cell? ⟨g14, 0, none⟩ = some (.int .i64 code) := (by rw [cell_of_row w' g14 0 _ _ (0, 0) hw]; rfl); have k1 : w'.cell? ⟨g14, 1, none⟩ = some (.slice Av hs2.length cv) := (by rw [cell_of_row w' g14 1 _ _ (0, 0) hw]; rfl); have k2 : w'.cell? ⟨g14, 2, none⟩ = some (.string body) := (by rw [cell_of_row w' g14 2 _ _ (0, 0) hw]; rfl); clear hw; go_simp; first | done | with_reducible rfl)))); simp only [Act.put, List.setIfInBounds_toArray, List.set_cons_zero, List.set_cons_succ])
      refine lin_act ?_
      refine wl_g (by rfl) ?_
      refine wl_call rfl _ _ _ (by first | (go_simp; done) | (go_simp; rfl)) (wakes9_c HVV.out.toMostOk HOF.out) ?_
      rintro e wG ⟨rfl, hO⟩
      have HOG := Lib.hid hO; clear hO HOF
      refine ⟨_, rfl, LinPost.mk (HOG.out.heap (.head _)) ?_⟩
      simp only [Act.put, List.setIfInBounds_toArray, List.set_cons_zero, List.set_cons_succ]
      iterate 1 ((first | (refine lin_q ?_ rfl ?_ ?_; rotate_left 1; (focus (rintro w' hw; have k0 : w'.cell? ⟨g14, 0, none⟩ = some (.int .i64 code) := (by rw [cell_of_row w' g14 0 _ _ (0, 0) hw]; rfl); have k1 : w'.cell? ⟨g14, 1, none⟩ = some (.slice Av hs2.length cv) := (by rw [cell_of_row w' g14 1 _ _ (0, 0) hw]; rfl); have k2 : w'.cell? ⟨g14, 2, none⟩ = some (.string body) := (by rw [cell_of_row w' g14 2 _ _ (0, 0) hw]; rfl); clear hw; go_simp; first | done | with_reducible rfl))) | (refine lin_g ?_ (by rfl) ?_ ?_; rotate_left 1; (focus (rintro w' hw; have k0 : w'.cell? ⟨g14, 0, none⟩ = some (.int .i64 code) := (by rw [cell_of_row w' g14 0 _ _ (0, 0) hw]; rfl); have k1 : w'.cell? ⟨g14, 1, none⟩ = some (.slice Av hs2.length cv) := (by rw [cell_of_row w' g14 1 _ _ (0, 0) hw]; rfl); have k2 : w'.cell? ⟨g14, 2, none⟩ = some (.string body) := (by rw [cell_of_row w' g14 2 _ _ (0, 0) hw]; rfl); clear hw; go_simp; first | done | with_reducible rfl)))); simp only [Act.put, List.setIfInBounds_toArray, List.set_cons_zero, List.set_cons_succ])
      refine lin_nil ?_
      go_wp2
      go_ret
      exact HOG.out.yes rfl
    | some r =>
      with_reducible refine HP1.out.mono ?_
      rintro e w2 hg
      obtain ⟨A5, c5, L5, rfl, hv5, hO⟩ := hg.yes
      have HO2 := Lib.hid hO; clear hO hg HP1 HO1
      go_wp2_with (first | (refine wl_alloc rfl _ rfl HO2.out _ (alloc_rep _) ?_; intro g10 w3 hO; have HO3 := Lib.hid hO; clear hO HO2) | (refine wl_store rfl _ _ _ rfl HO3.out 0 g10 0 _ (rv r.code (.slice A5 r.heads.length c5) (strOfNums r.body) r.cut) _ rfl (by rfl) (by rfl) rep_size (one_rv rfl) (by simp [rv]) ?_; intro w4 hO; have HO4 : Hid (Own W w4 ((g10, Obj.cells (rv r.code (.slice A5 r.heads.length c5) (strOfNums r.body) r.cut).toArray 24) :: (L5 ++ []))) := Lib.hid (hO.cast rfl); clear hO HO3))
      with_reducible refine (HP2.out _ _ HO4.out).mono ?_
      rintro e w5 hg
      obtain ⟨A6, c6, L6, rfl, hv6, hO⟩ := hg.yes
      have HO5 := Lib.hid hO; clear hO hg HP2 HO4
      go_wp2_with (first | (refine wl_alloc rfl _ rfl HO5.out _ (alloc_rrep _) ?_; intro g12 w6 hO; have HO6 := Lib.hid hO; clear hO HO5) | (refine wl_store rfl _ _ _ rfl HO6.out 0 g12 0 _ (rv r.code (.slice A6 r.heads.length c6) (strOfNums r.body) r.cut) _ rfl (by rfl) (by rfl) rrep_size (one_rv rfl) (by simp [rv]) ?_; intro w7 hO; have HO7 : Hid (Own W w7 ((g12, Obj.cells (rv r.code (.slice A6 r.heads.length c6) (strOfNums r.body) r.cut).toArray 41) :: (L6 ++ ((g10, Obj.cells (rv r.code (.slice A5 r.heads.length c5) (strOfNums r.body) r.cut).toArray 24) :: (L5 ++ []))))) := Lib.hid (hO.cast rfl); clear hO HO6) | (refine wl_g (by rfl) ?_; refine wl_load rfl _ _ rfl g10 0 (rv r.code (.slice A5 r.heads.length c5) (strOfNums r.body) r.cut) (rv r.code (.slice A5 r.heads.length c5) (strOfNums r.body) r.cut) _ (HO7.out.heap (.tail _ (List.mem_append_right _ (.head _)))) (by rfl) _ Tryd.underlying24 rfl rep_size (by rfl) ?_) | (refine wl_g (by rfl) ?_; refine wl_load rfl _ _ rfl g12 0 (rv r.code (.slice A6 r.heads.length c6) (strOfNums r.body) r.cut) (rv r.code (.slice A6 r.heads.length c6) (strOfNums r.body) r.cut) _ (HO7.out.heap (.head _)) (by rfl) _ Tryd.underlying41 rfl rrep_size (by rfl) ?_))
      have hr5 : HRd W ((g12, Obj.cells (rv r.code (.slice A6 r.heads.length c6) (strOfNums r.body) r.cut).toArray 41) :: (L6 ++ ((g10, Obj.cells (rv r.code (.slice A5 r.heads.length c5) (strOfNums r.body) r.cut).toArray 24) :: (L5 ++ [])))) (.slice A5 r.heads.length c5) (r.heads.map toB) := hv5.hrd (List.Sublist.cons _ ((List.Sublist.cons _ (by rw [List.append_nil]; exact List.Sublist.refl _)).trans (List.sublist_append_right _ _)))
      have hr6 : HRd W ((g12, Obj.cells (rv r.code (.slice A6 r.heads.length c6) (strOfNums r.body) r.cut).toArray 41) :: (L6 ++ ((g10, Obj.cells (rv r.code (.slice A5 r.heads.length c5) (strOfNums r.body) r.cut).toArray 24) :: (L5 ++ [])))) (.slice A6 r.heads.length c6) (r.heads.map toB) := hv6.hrd (List.Sublist.cons _ (List.sublist_append_left _ _))
      have hsame := same9_c HO7.out r.code r.code (.slice A5 r.heads.length c5) (.slice A6 r.heads.length c6) (r.heads.map toB) (r.heads.map toB) hr5 hr6 (strOfNums r.body) (strOfNums r.body) r.cut r.cut (by rw [List.length_map]; have := H8.out; simp only [Option.getD_some] at this; omega)
      rw [show (decide (r.code = r.code) && (decide (r.heads.map toB = r.heads.map toB) && (decide (strOfNums r.body = strOfNums r.body) && (r.cut == r.cut)))) = true by simp] at hsame
      clear hr5 hr6
      with_reducible refine hsame.mono ?_
      clear hsame hv5 hv6
      rintro e w8 ⟨rfl, hO⟩
      have HOS : Hid (Own W w8 []) := Lib.hid (hO.sub (List.nil_sublist _)); clear hO HO7
      clear H8
      have HP2 := Lib.hid (preply_c HOS.out a (.slice A n cp) xs HRD.out s)
      go_wp2_with fail
      with_reducible refine HP2.out.mono ?_
      rintro e wA ⟨code, hs2, vv, L, body, rfl, hc1, hc2, hl7, hsm, hbs, hv2, hO⟩
      have HOA := Lib.hid hO; have HV2 := Lib.hid hv2
      have hsz := replyP_small hsm hl7 body (code := code)
      obtain ⟨Av, cv, hve⟩ := IsRow.val hv2
      subst hve
      clear hO HOS HP2 hv2 hsm
      go_wp2_with (first | (refine wl_alloc rfl _ rfl HOA.out _ (alloc_rrep _) ?_; intro g14 wB hO; have HOB := Lib.hid hO; clear hO HOA) | (refine wl_store rfl _ _ _ rfl HOB.out 0 g14 0 _ (rv code (.slice Av hs2.length cv) body false) _ rfl (by rfl) (by rfl) rrep_size (one_rv rfl) (by simp [rv]) ?_; intro wC hO; have HOC : Hid (Own W wC ((g14, Obj.cells (rv code (.slice Av hs2.length cv) body false).toArray 41) :: (L ++ []))) := Lib.hid (hO.cast rfl); clear hO HOB))
      have hn1 := rnumber_c HOC.out s
      have hn2 : ∀ w : World, _ := fun w => figures_c (w := w) s 1 6 (by omega)
      generalize (figI (sb s) 1 6).getD 0 = nv at *
      generalize (figI (sb s) 1 6).isSome = nb at *
      have HN1 := Lib.hid hn1; have HN2 := Lib.hid hn2
      clear hn1 hn2
      with_reducible refine HN1.out.mono ?_
      rintro e wD ⟨rfl, hO⟩
      have HOD := Lib.hid hO; clear hO HOC HN1
      go_wp2_with fail
      with_reducible refine (HN2.out _).mono ?_
      rintro e wq ⟨rfl, hww⟩
      subst hww
      clear HN2
      go_wp2_with fail
      have hrP : HRd W ((g14, Obj.cells (rv code (.slice Av hs2.length cv) body false).toArray 41) :: (L ++ [])) (.slice Av hs2.length cv) ((unB hs2).map toB) := by rw [unB_toB]; exact HV2.out.hrd (List.Sublist.cons _ (by rw [List.append_nil]; exact List.Sublist.refl _))
      have hkP : ∀ w', Own W w' ((g14, Obj.cells (rv code (.slice Av hs2.length cv) body false).toArray 41) :: (L ++ [])) → _ := fun w' h => rprint_c HVV.out h code (by omega) (.slice Av hs2.length cv) (unB hs2) hrP body false (by omega)
      have hkQ : ∀ w', Own W w' ((g14, Obj.cells (rv code (.slice Av hs2.length cv) body false).toArray 41) :: (L ++ [])) → _ := fun w' h => rprint9_c h code (by omega) (.slice Av hs2.length cv) (unB hs2) hrP body false (by omega)
      generalize strOfNums (replyP code (unB hs2) (sb body)) = pr at *
      have HKP := Lib.hid hkP; have HKQ := Lib.hid hkQ
      clear hrP hkP hkQ hsz
      have htl : (pr.toList == pr.toList) = true := by simp
      refine wp_region_lin (fun w' => w'.heap[g14]? = some (Obj.cells (rv code (.slice Av hs2.length cv) body false).toArray 41)) 24 [(0, true), (1, true), (2, true), (3, true), (4, true), (5, true), (6, true), (7, true), (8, true), (9, true), (10, true), (11, true), (12, true), (13, true), (14, true), (15, true), (17, true), (16, false), (18, false), (19, true), (20, true), (21, true), (22, false), (23, true)] (by kernel_rfl) (by kernel_rfl) (fun _ _ d _ _ h => by cases d <;> exact h) (HOD.out.drew.heap (.head _)) ?_
      simp only [List.map_cons, List.map_nil, pick_zero, pick_succ, List.drop_succ_cons, List.drop_zero]
      iterate 16 ((first | (refine lin_q ?_ rfl ?_ ?_; rotate_left 1; (focus (rintro w' hw; have k0 : w'.cell? ⟨g14, 0, none⟩ = some (.int .i64 code) := (by rw [cell_of_row w' g14 0 _ _ (0, 0) hw]; rfl); have k1 : w'.cell? ⟨g14, 1, none⟩ = some (.slice Av hs2.length cv) := (by rw [cell_of_row w' g14 1 _ _ (0, 0) hw]; rfl); have k2 : w'.cell? ⟨g14, 2, none⟩ = some (.string body) := (by rw [cell_of_row w' g14 2 _ _ (0, 0) hw]; rfl); clear hw; go_simp; first | done | with_reducible rfl))) | (refine lin_g ?_ (by rfl) ?_ ?_; rotate_left 1; (focus (rintro w' hw; have k0 : w'.cell? ⟨g14, 0, none⟩ = some (.int .i64 code) := (by rw [cell_of_row w' g14 0 _ _ (0, 0) hw]; rfl); have k1 : w'.cell? ⟨g14, 1, none⟩ = some (.slice Av hs2.length cv) := (by rw [cell_of_row w' g14 1 _ _ (0, 0) hw]; rfl); have k2 : w'.cell? ⟨g14, 2, none⟩ = some (.string body) := (by rw [cell_of_row w' g14 2 _ _ (0, 0) hw]; rfl); clear hw; go_simp; first | done | with_reducible rfl)))); simp only [Act.put, List.setIfInBounds_toArray, List.set_cons_zero, List.set_cons_succ])
      refine lin_loadG (by rfl) _ _ rfl g14 0 (rv code (.slice Av hs2.length cv) body false) (rv code (.slice Av hs2.length cv) body false) 41 (by rfl) _ Tryd.underlying41 rfl rrep_size (by rfl) (fun w' hw => hw) ?_
      simp only [Act.put, List.setIfInBounds_toArray, List.set_cons_zero, List.set_cons_succ]
      refine lin_act ?_
      refine wl_g (by rfl) ?_
      refine wl_call rfl _ _ _ (by first | (go_simp; done) | (go_simp; rfl)) (HKP.out _ HOD.out.drew) ?_
      rintro e wE ⟨rfl, hO⟩
      have HOE := Lib.hid hO; clear hO HOD
      refine ⟨_, rfl, LinPost.mk (HOE.out.heap (.head _)) ?_⟩
      simp only [Act.put, List.setIfInBounds_toArray, List.set_cons_zero, List.set_cons_succ]
      refine lin_act ?_
      refine wl_g (by rfl) ?_
      refine wl_call rfl _ _ _ (by first | (go_simp; done) | (go_simp; rfl)) (HKQ.out _ HOE.out) ?_
      rintro e wF ⟨rfl, hO⟩
      have HOF := Lib.hid hO; clear hO HOE
      refine ⟨_, rfl, LinPost.mk (HOF.out.heap (.head _)) ?_⟩
      simp only [Act.put, List.setIfInBounds_toArray, List.set_cons_zero, List.set_cons_succ]
      iterate 3 ((first | (refine lin_q ?_ rfl ?_ ?_; rotate_left 1; (focus (rintro w' hw; have k0 : w'.cell? ⟨g14, 0, none⟩ = some (.int .i64 code) := (by rw [cell_of_row w' g14 0 _ _ (0, 0) hw]; rfl); have k1 : w'.cell? ⟨g14, 1, none⟩ = some (.slice Av hs2.length cv) := (by rw [cell_of_row w' g14 1 _ _ (0, 0) hw]; rfl); have k2 : w'.cell? ⟨g14, 2, none⟩ = some (.string body) := (by rw [cell_of_row w' g14 2 _ _ (0, 0) hw]; rfl); clear hw; go_simp; first | done | with_reducible rfl))) | (refine lin_g ?_ (by rfl) ?_ ?_; rotate_left 1; (focus (rintro w' hw; have k0 : w'.cell? ⟨g14, 0, none⟩ = some (.int .i64 code) := (by rw [cell_of_row w' g14 0 _ _ (0, 0) hw]; rfl); have k1 : w'.cell? ⟨g14, 1, none⟩ = some (.slice Av hs2.length cv) := (by rw [cell_of_row w' g14 1 _ _ (0, 0) hw]; rfl); have k2 : w'.cell? ⟨g14, 2, none⟩ = some (.string body) := (by rw [cell_of_row w' g14 2 _ _ (0, 0) hw]; rfl); clear hw; go_simp; first | done | with_reducible rfl)))); simp only [Act.put, List.setIfInBounds_toArray, List.set_cons_zero, List.set_cons_succ])
      refine lin_act ?_
      refine wl_g (by rfl) ?_
      refine wl_call rfl _ _ _ (by first | (go_simp; done) | (go_simp; rfl)) (wakes9_c HVV.out.toMostOk HOF.out) ?_
      rintro e wG ⟨rfl, hO⟩
      have HOG := Lib.hid hO; clear hO HOF
      refine ⟨_, rfl, LinPost.mk (HOG.out.heap (.head _)) ?_⟩
      simp only [Act.put, List.setIfInBounds_toArray, List.set_cons_zero, List.set_cons_succ]
      iterate 1 ((first | (refine lin_q ?_ rfl ?_ ?_; rotate_left 1; (focus (rintro w' hw; have k0 : w'.cell? ⟨g14, 0, none⟩ = some (.int .i64 code) := (by rw [cell_of_row w' g14 0 _ _ (0, 0) hw]; rfl); have k1 : w'.cell? ⟨g14, 1, none⟩ = some (.slice Av hs2.length cv) := (by rw [cell_of_row w' g14 1 _ _ (0, 0) hw]; rfl); have k2 : w'.cell? ⟨g14, 2, none⟩ = some (.string body) := (by rw [cell_of_row w' g14 2 _ _ (0, 0) hw]; rfl); clear hw; go_simp; first | done | with_reducible rfl))) | (refine lin_g ?_ (by rfl) ?_ ?_; rotate_left 1; (focus (rintro w' hw; have k0 : w'.cell? ⟨g14, 0, none⟩ = some (.int .i64 code) := (by rw [cell_of_row w' g14 0 _ _ (0, 0) hw]; rfl); have k1 : w'.cell? ⟨g14, 1, none⟩ = some (.slice Av hs2.length cv) := (by rw [cell_of_row w' g14 1 _ _ (0, 0) hw]; rfl); have k2 : w'.cell? ⟨g14, 2, none⟩ = some (.string body) := (by rw [cell_of_row w' g14 2 _ _ (0, 0) hw]; rfl); clear hw; go_simp; first | done | with_reducible rfl)))); simp only [Act.put, List.setIfInBounds_toArray, List.set_cons_zero, List.set_cons_succ])
      refine lin_nil ?_
      go_wp2
      go_ret
      exact HOG.out.yes rfl
  | true =>
    go_wp2_with fail
    have hp1 := rparse_c HVV.out.toMostOk HO1.out s (by omega)
    have hp2 : ∀ w' R', Own W w' R' → _ := fun w' R' h => rparseReply_c (R := R') h s (by omega)
    have h8 := replyI_heads (sb s)
    generalize replyI (sb s) = o at *
    have HP1 := Lib.hid hp1; have HP2 := Lib.hid hp2; have H8 := Lib.hid h8
    clear hp1 hp2 h8
    cases o with
    | none =>
      with_reducible refine HP1.out.mono ?_
      rintro e w2 hg
      obtain ⟨A5, c5, rfl, hO⟩ := hg.no
      have hv5 : HRd W [] (.slice A5 0 c5) [] := hrd_zero hO A5 c5
      have HO2 := Lib.hid hO; clear hO hg HP1 HO1
      go_wp2_with (first | (refine wl_alloc rfl _ rfl HO2.out _ (alloc_rep _) ?_; intro g10 w3 hO; have HO3 := Lib.hid hO; clear hO HO2) | (refine wl_store rfl _ _ _ rfl HO3.out 0 g10 0 _ (rv 0 (.slice A5 0 c5) ⟨#[]⟩ false) _ rfl (by rfl) (by rfl) rep_size (one_rv rfl) (by simp [rv]) ?_; intro w4 hO; have HO4 : Hid (Own W w4 ((g10, Obj.cells (rv 0 (.slice A5 0 c5) ⟨#[]⟩ false).toArray 24) :: [])) := Lib.hid (hO.cast rfl); clear hO HO3))
      with_reducible refine (HP2.out _ _ HO4.out).mono ?_
      rintro e w5 hg
      obtain ⟨A6, c6, rfl, hO⟩ := hg.no
      have hv6 : HRd W [] (.slice A6 0 c6) [] := hrd_zero (Own.start W) A6 c6
      have HO5 := Lib.hid hO; clear hO hg HP2 HO4
      go_wp2_with (first | (refine wl_alloc rfl _ rfl HO5.out _ (alloc_rrep _) ?_; intro g12 w6 hO; have HO6 := Lib.hid hO; clear hO HO5) | (refine wl_store rfl _ _ _ rfl HO6.out 0 g12 0 _ (rv 0 (.slice A6 0 c6) ⟨#[]⟩ false) _ rfl (by rfl) (by rfl) rrep_size (one_rv rfl) (by simp [rv]) ?_; intro w7 hO; have HO7 : Hid (Own W w7 ((g12, Obj.cells (rv 0 (.slice A6 0 c6) ⟨#[]⟩ false).toArray 41) :: ((g10, Obj.cells (rv 0 (.slice A5 0 c5) ⟨#[]⟩ false).toArray 24) :: []))) := Lib.hid (hO.cast rfl); clear hO HO6) | (refine wl_g (by rfl) ?_; refine wl_load rfl _ _ rfl g10 0 (rv 0 (.slice A5 0 c5) ⟨#[]⟩ false) (rv 0 (.slice A5 0 c5) ⟨#[]⟩ false) _ (HO7.out.heap (.tail _ (.head _))) (by rfl) _ Tryd.underlying24 rfl rep_size (by rfl) ?_) | (refine wl_g (by rfl) ?_; refine wl_load rfl _ _ rfl g12 0 (rv 0 (.slice A6 0 c6) ⟨#[]⟩ false) (rv 0 (.slice A6 0 c6) ⟨#[]⟩ false) _ (HO7.out.heap (.head _)) (by rfl) _ Tryd.underlying41 rfl rrep_size (by rfl) ?_))
      have hsame := same9_c (HO7.out.sub (List.nil_sublist _)) 0 0 (.slice A5 0 c5) (.slice A6 0 c6) [] [] hv5 hv6 ⟨#[]⟩ ⟨#[]⟩ false false (by simp)
      rw [show (decide ((0 : Int) = 0) && (decide (([] : HBL) = []) && (decide ((⟨#[]⟩ : ByteArray) = ⟨#[]⟩) && (false == false)))) = true by simp] at hsame
      with_reducible refine hsame.mono ?_
      clear hsame hv5 hv6
      rintro e w8 ⟨rfl, hO⟩
      have HOS : Hid (Own W w8 []) := Lib.hid (hO.sub (List.nil_sublist _)); clear hO HO7
      clear H8
      have HP2 := Lib.hid (preply_c HOS.out a (.slice A n cp) xs HRD.out s)
      go_wp2_with fail
      with_reducible refine HP2.out.mono ?_
      rintro e wA ⟨code, hs2, vv, L, body, rfl, hc1, hc2, hl7, hsm, hbs, hv2, hO⟩
      have HOA := Lib.hid hO; have HV2 := Lib.hid hv2
      have hsz := replyP_small hsm hl7 body (code := code)
      obtain ⟨Av, cv, hve⟩ := IsRow.val hv2
      subst hve
      clear hO HOS HP2 hv2 hsm
      go_wp2_with (first | (refine wl_alloc rfl _ rfl HOA.out _ (alloc_rrep _) ?_; intro g14 wB hO; have HOB := Lib.hid hO; clear hO HOA) | (refine wl_store rfl _ _ _ rfl HOB.out 0 g14 0 _ (rv code (.slice Av hs2.length cv) body false) _ rfl (by rfl) (by rfl) rrep_size (one_rv rfl) (by simp [rv]) ?_; intro wC hO; have HOC : Hid (Own W wC ((g14, Obj.cells (rv code (.slice Av hs2.length cv) body false).toArray 41) :: (L ++ []))) := Lib.hid (hO.cast rfl); clear hO HOB))
      have hn1 := rnumber_c HOC.out s
      have hn2 : ∀ w : World, _ := fun w => figures_c (w := w) s 1 6 (by omega)
      generalize (figI (sb s) 1 6).getD 0 = nv at *
      generalize (figI (sb s) 1 6).isSome = nb at *
      have HN1 := Lib.hid hn1; have HN2 := Lib.hid hn2
      clear hn1 hn2
      with_reducible refine HN1.out.mono ?_
      rintro e wD ⟨rfl, hO⟩
      have HOD := Lib.hid hO; clear hO HOC HN1
      go_wp2_with fail
      with_reducible refine (HN2.out _).mono ?_
      rintro e wq ⟨rfl, hww⟩
      subst hww
      clear HN2
      go_wp2_with fail
      have hrP : HRd W ((g14, Obj.cells (rv code (.slice Av hs2.length cv) body false).toArray 41) :: (L ++ [])) (.slice Av hs2.length cv) ((unB hs2).map toB) := by rw [unB_toB]; exact HV2.out.hrd (List.Sublist.cons _ (by rw [List.append_nil]; exact List.Sublist.refl _))
      have hkP : ∀ w', Own W w' ((g14, Obj.cells (rv code (.slice Av hs2.length cv) body false).toArray 41) :: (L ++ [])) → _ := fun w' h => rprint_c HVV.out h code (by omega) (.slice Av hs2.length cv) (unB hs2) hrP body false (by omega)
      have hkQ : ∀ w', Own W w' ((g14, Obj.cells (rv code (.slice Av hs2.length cv) body false).toArray 41) :: (L ++ [])) → _ := fun w' h => rprint9_c h code (by omega) (.slice Av hs2.length cv) (unB hs2) hrP body false (by omega)
      generalize strOfNums (replyP code (unB hs2) (sb body)) = pr at *
      have HKP := Lib.hid hkP; have HKQ := Lib.hid hkQ
      clear hrP hkP hkQ hsz
      have htl : (pr.toList == pr.toList) = true := by simp
      refine wp_region_lin (fun w' => w'.heap[g14]? = some (Obj.cells (rv code (.slice Av hs2.length cv) body false).toArray 41)) 24 [(0, true), (1, true), (2, true), (3, true), (4, true), (5, true), (6, true), (7, true), (8, true), (9, true), (10, true), (11, true), (12, true), (13, true), (14, true), (15, true), (17, true), (16, false), (18, false), (19, true), (20, true), (21, true), (22, false), (23, true)] (by kernel_rfl) (by kernel_rfl) (fun _ _ d _ _ h => by cases d <;> exact h) (HOD.out.drew.heap (.head _)) ?_
      simp only [List.map_cons, List.map_nil, pick_zero, pick_succ, List.drop_succ_cons, List.drop_zero]
      iterate 16 ((first | (refine lin_q ?_ rfl ?_ ?_; rotate_left 1; (focus (rintro w' hw; have k0 : w'.cell? ⟨g14, 0, none⟩ = some (.int .i64 code) := (by rw [cell_of_row w' g14 0 _ _ (0, 0) hw]; rfl); have k1 : w'.cell? ⟨g14, 1, none⟩ = some (.slice Av hs2.length cv) := (by rw [cell_of_row w' g14 1 _ _ (0, 0) hw]; rfl); have k2 : w'.cell? ⟨g14, 2, none⟩ = some (.string body) := (by rw [cell_of_row w' g14 2 _ _ (0, 0) hw]; rfl); clear hw; go_simp; first | done | with_reducible rfl))) | (refine lin_g ?_ (by rfl) ?_ ?_; rotate_left 1; (focus (rintro w' hw; have k0 : w'.cell? ⟨g14, 0, none⟩ = some (.int .i64 code) := (by rw [cell_of_row w' g14 0 _ _ (0, 0) hw]; rfl); have k1 : w'.cell? ⟨g14, 1, none⟩ = some (.slice Av hs2.length cv) := (by rw [cell_of_row w' g14 1 _ _ (0, 0) hw]; rfl); have k2 : w'.cell? ⟨g14, 2, none⟩ = some (.string body) := (by rw [cell_of_row w' g14 2 _ _ (0, 0) hw]; rfl); clear hw; go_simp; first | done | with_reducible rfl)))); simp only [Act.put, List.setIfInBounds_toArray, List.set_cons_zero, List.set_cons_succ])
      refine lin_loadG (by rfl) _ _ rfl g14 0 (rv code (.slice Av hs2.length cv) body false) (rv code (.slice Av hs2.length cv) body false) 41 (by rfl) _ Tryd.underlying41 rfl rrep_size (by rfl) (fun w' hw => hw) ?_
      simp only [Act.put, List.setIfInBounds_toArray, List.set_cons_zero, List.set_cons_succ]
      refine lin_act ?_
      refine wl_g (by rfl) ?_
      refine wl_call rfl _ _ _ (by first | (go_simp; done) | (go_simp; rfl)) (HKP.out _ HOD.out.drew) ?_
      rintro e wE ⟨rfl, hO⟩
      have HOE := Lib.hid hO; clear hO HOD
      refine ⟨_, rfl, LinPost.mk (HOE.out.heap (.head _)) ?_⟩
      simp only [Act.put, List.setIfInBounds_toArray, List.set_cons_zero, List.set_cons_succ]
      refine lin_act ?_
      refine wl_g (by rfl) ?_
      refine wl_call rfl _ _ _ (by first | (go_simp; done) | (go_simp; rfl)) (HKQ.out _ HOE.out) ?_
      rintro e wF ⟨rfl, hO⟩
      have HOF := Lib.hid hO; clear hO HOE
      refine ⟨_, rfl, LinPost.mk (HOF.out.heap (.head _)) ?_⟩
      simp only [Act.put, List.setIfInBounds_toArray, List.set_cons_zero, List.set_cons_succ]
      iterate 3 ((first | (refine lin_q ?_ rfl ?_ ?_; rotate_left 1; (focus (rintro w' hw; have k0 : w'.cell? ⟨g14, 0, none⟩ = some (.int .i64 code) := (by rw [cell_of_row w' g14 0 _ _ (0, 0) hw]; rfl); have k1 : w'.cell? ⟨g14, 1, none⟩ = some (.slice Av hs2.length cv) := (by rw [cell_of_row w' g14 1 _ _ (0, 0) hw]; rfl); have k2 : w'.cell? ⟨g14, 2, none⟩ = some (.string body) := (by rw [cell_of_row w' g14 2 _ _ (0, 0) hw]; rfl); clear hw; go_simp; first | done | with_reducible rfl))) | (refine lin_g ?_ (by rfl) ?_ ?_; rotate_left 1; (focus (rintro w' hw; have k0 : w'.cell? ⟨g14, 0, none⟩ = some (.int .i64 code) := (by rw [cell_of_row w' g14 0 _ _ (0, 0) hw]; rfl); have k1 : w'.cell? ⟨g14, 1, none⟩ = some (.slice Av hs2.length cv) := (by rw [cell_of_row w' g14 1 _ _ (0, 0) hw]; rfl); have k2 : w'.cell? ⟨g14, 2, none⟩ = some (.string body) := (by rw [cell_of_row w' g14 2 _ _ (0, 0) hw]; rfl); clear hw; go_simp; first | done | with_reducible rfl)))); simp only [Act.put, List.setIfInBounds_toArray, List.set_cons_zero, List.set_cons_succ])
      refine lin_act ?_
      refine wl_g (by rfl) ?_
      refine wl_call rfl _ _ _ (by first | (go_simp; done) | (go_simp; rfl)) (wakes9_c HVV.out.toMostOk HOF.out) ?_
      rintro e wG ⟨rfl, hO⟩
      have HOG := Lib.hid hO; clear hO HOF
      refine ⟨_, rfl, LinPost.mk (HOG.out.heap (.head _)) ?_⟩
      simp only [Act.put, List.setIfInBounds_toArray, List.set_cons_zero, List.set_cons_succ]
      iterate 1 ((first | (refine lin_q ?_ rfl ?_ ?_; rotate_left 1; (focus (rintro w' hw; have k0 : w'.cell? ⟨g14, 0, none⟩ = some (.int .i64 code) := (by rw [cell_of_row w' g14 0 _ _ (0, 0) hw]; rfl); have k1 : w'.cell? ⟨g14, 1, none⟩ = some (.slice Av hs2.length cv) := (by rw [cell_of_row w' g14 1 _ _ (0, 0) hw]; rfl); have k2 : w'.cell? ⟨g14, 2, none⟩ = some (.string body) := (by rw [cell_of_row w' g14 2 _ _ (0, 0) hw]; rfl); clear hw; go_simp; first | done | with_reducible rfl))) | (refine lin_g ?_ (by rfl) ?_ ?_; rotate_left 1; (focus (rintro w' hw; have k0 : w'.cell? ⟨g14, 0, none⟩ = some (.int .i64 code) := (by rw [cell_of_row w' g14 0 _ _ (0, 0) hw]; rfl); have k1 : w'.cell? ⟨g14, 1, none⟩ = some (.slice Av hs2.length cv) := (by rw [cell_of_row w' g14 1 _ _ (0, 0) hw]; rfl); have k2 : w'.cell? ⟨g14, 2, none⟩ = some (.string body) := (by rw [cell_of_row w' g14 2 _ _ (0, 0) hw]; rfl); clear hw; go_simp; first | done | with_reducible rfl)))); simp only [Act.put, List.setIfInBounds_toArray, List.set_cons_zero, List.set_cons_succ])
      refine lin_nil ?_
      go_wp2
      go_ret
      exact HOG.out.yes rfl
    | some r =>
      with_reducible refine HP1.out.mono ?_
      rintro e w2 hg
      obtain ⟨A5, c5, L5, rfl, hv5, hO⟩ := hg.yes
      have HO2 := Lib.hid hO; clear hO hg HP1 HO1
      go_wp2_with (first | (refine wl_alloc rfl _ rfl HO2.out _ (alloc_rep _) ?_; intro g10 w3 hO; have HO3 := Lib.hid hO; clear hO HO2) | (refine wl_store rfl _ _ _ rfl HO3.out 0 g10 0 _ (rv r.code (.slice A5 r.heads.length c5) (strOfNums r.body) r.cut) _ rfl (by rfl) (by rfl) rep_size (one_rv rfl) (by simp [rv]) ?_; intro w4 hO; have HO4 : Hid (Own W w4 ((g10, Obj.cells (rv r.code (.slice A5 r.heads.length c5) (strOfNums r.body) r.cut).toArray 24) :: (L5 ++ []))) := Lib.hid (hO.cast rfl); clear hO HO3))
      with_reducible refine (HP2.out _ _ HO4.out).mono ?_
      rintro e w5 hg
      obtain ⟨A6, c6, L6, rfl, hv6, hO⟩ := hg.yes
      have HO5 := Lib.hid hO; clear hO hg HP2 HO4
      go_wp2_with (first | (refine wl_alloc rfl _ rfl HO5.out _ (alloc_rrep _) ?_; intro g12 w6 hO; have HO6 := Lib.hid hO; clear hO HO5) | (refine wl_store rfl _ _ _ rfl HO6.out 0 g12 0 _ (rv r.code (.slice A6 r.heads.length c6) (strOfNums r.body) r.cut) _ rfl (by rfl) (by rfl) rrep_size (one_rv rfl) (by simp [rv]) ?_; intro w7 hO; have HO7 : Hid (Own W w7 ((g12, Obj.cells (rv r.code (.slice A6 r.heads.length c6) (strOfNums r.body) r.cut).toArray 41) :: (L6 ++ ((g10, Obj.cells (rv r.code (.slice A5 r.heads.length c5) (strOfNums r.body) r.cut).toArray 24) :: (L5 ++ []))))) := Lib.hid (hO.cast rfl); clear hO HO6) | (refine wl_g (by rfl) ?_; refine wl_load rfl _ _ rfl g10 0 (rv r.code (.slice A5 r.heads.length c5) (strOfNums r.body) r.cut) (rv r.code (.slice A5 r.heads.length c5) (strOfNums r.body) r.cut) _ (HO7.out.heap (.tail _ (List.mem_append_right _ (.head _)))) (by rfl) _ Tryd.underlying24 rfl rep_size (by rfl) ?_) | (refine wl_g (by rfl) ?_; refine wl_load rfl _ _ rfl g12 0 (rv r.code (.slice A6 r.heads.length c6) (strOfNums r.body) r.cut) (rv r.code (.slice A6 r.heads.length c6) (strOfNums r.body) r.cut) _ (HO7.out.heap (.head _)) (by rfl) _ Tryd.underlying41 rfl rrep_size (by rfl) ?_))
      have hr5 : HRd W ((g12, Obj.cells (rv r.code (.slice A6 r.heads.length c6) (strOfNums r.body) r.cut).toArray 41) :: (L6 ++ ((g10, Obj.cells (rv r.code (.slice A5 r.heads.length c5) (strOfNums r.body) r.cut).toArray 24) :: (L5 ++ [])))) (.slice A5 r.heads.length c5) (r.heads.map toB) := hv5.hrd (List.Sublist.cons _ ((List.Sublist.cons _ (by rw [List.append_nil]; exact List.Sublist.refl _)).trans (List.sublist_append_right _ _)))
      have hr6 : HRd W ((g12, Obj.cells (rv r.code (.slice A6 r.heads.length c6) (strOfNums r.body) r.cut).toArray 41) :: (L6 ++ ((g10, Obj.cells (rv r.code (.slice A5 r.heads.length c5) (strOfNums r.body) r.cut).toArray 24) :: (L5 ++ [])))) (.slice A6 r.heads.length c6) (r.heads.map toB) := hv6.hrd (List.Sublist.cons _ (List.sublist_append_left _ _))
      have hsame := same9_c HO7.out r.code r.code (.slice A5 r.heads.length c5) (.slice A6 r.heads.length c6) (r.heads.map toB) (r.heads.map toB) hr5 hr6 (strOfNums r.body) (strOfNums r.body) r.cut r.cut (by rw [List.length_map]; have := H8.out; simp only [Option.getD_some] at this; omega)
      rw [show (decide (r.code = r.code) && (decide (r.heads.map toB = r.heads.map toB) && (decide (strOfNums r.body = strOfNums r.body) && (r.cut == r.cut)))) = true by simp] at hsame
      clear hr5 hr6
      with_reducible refine hsame.mono ?_
      clear hsame hv5 hv6
      rintro e w8 ⟨rfl, hO⟩
      have HOS : Hid (Own W w8 []) := Lib.hid (hO.sub (List.nil_sublist _)); clear hO HO7
      clear H8
      have HP2 := Lib.hid (preply_c HOS.out a (.slice A n cp) xs HRD.out s)
      go_wp2_with fail
      with_reducible refine HP2.out.mono ?_
      rintro e wA ⟨code, hs2, vv, L, body, rfl, hc1, hc2, hl7, hsm, hbs, hv2, hO⟩
      have HOA := Lib.hid hO; have HV2 := Lib.hid hv2
      have hsz := replyP_small hsm hl7 body (code := code)
      obtain ⟨Av, cv, hve⟩ := IsRow.val hv2
      subst hve
      clear hO HOS HP2 hv2 hsm
      go_wp2_with (first | (refine wl_alloc rfl _ rfl HOA.out _ (alloc_rrep _) ?_; intro g14 wB hO; have HOB := Lib.hid hO; clear hO HOA) | (refine wl_store rfl _ _ _ rfl HOB.out 0 g14 0 _ (rv code (.slice Av hs2.length cv) body false) _ rfl (by rfl) (by rfl) rrep_size (one_rv rfl) (by simp [rv]) ?_; intro wC hO; have HOC : Hid (Own W wC ((g14, Obj.cells (rv code (.slice Av hs2.length cv) body false).toArray 41) :: (L ++ []))) := Lib.hid (hO.cast rfl); clear hO HOB))
      have hn1 := rnumber_c HOC.out s
      have hn2 : ∀ w : World, _ := fun w => figures_c (w := w) s 1 6 (by omega)
      generalize (figI (sb s) 1 6).getD 0 = nv at *
      generalize (figI (sb s) 1 6).isSome = nb at *
      have HN1 := Lib.hid hn1; have HN2 := Lib.hid hn2
      clear hn1 hn2
      with_reducible refine HN1.out.mono ?_
      rintro e wD ⟨rfl, hO⟩
      have HOD := Lib.hid hO; clear hO HOC HN1
      go_wp2_with fail
      with_reducible refine (HN2.out _).mono ?_
      rintro e wq ⟨rfl, hww⟩
      subst hww
      clear HN2
      go_wp2_with fail
      have hrP : HRd W ((g14, Obj.cells (rv code (.slice Av hs2.length cv) body false).toArray 41) :: (L ++ [])) (.slice Av hs2.length cv) ((unB hs2).map toB) := by rw [unB_toB]; exact HV2.out.hrd (List.Sublist.cons _ (by rw [List.append_nil]; exact List.Sublist.refl _))
      have hkP : ∀ w', Own W w' ((g14, Obj.cells (rv code (.slice Av hs2.length cv) body false).toArray 41) :: (L ++ [])) → _ := fun w' h => rprint_c HVV.out h code (by omega) (.slice Av hs2.length cv) (unB hs2) hrP body false (by omega)
      have hkQ : ∀ w', Own W w' ((g14, Obj.cells (rv code (.slice Av hs2.length cv) body false).toArray 41) :: (L ++ [])) → _ := fun w' h => rprint9_c h code (by omega) (.slice Av hs2.length cv) (unB hs2) hrP body false (by omega)
      generalize strOfNums (replyP code (unB hs2) (sb body)) = pr at *
      have HKP := Lib.hid hkP; have HKQ := Lib.hid hkQ
      clear hrP hkP hkQ hsz
      have htl : (pr.toList == pr.toList) = true := by simp
      refine wp_region_lin (fun w' => w'.heap[g14]? = some (Obj.cells (rv code (.slice Av hs2.length cv) body false).toArray 41)) 24 [(0, true), (1, true), (2, true), (3, true), (4, true), (5, true), (6, true), (7, true), (8, true), (9, true), (10, true), (11, true), (12, true), (13, true), (14, true), (15, true), (17, true), (16, false), (18, false), (19, true), (20, true), (21, true), (22, false), (23, true)] (by kernel_rfl) (by kernel_rfl) (fun _ _ d _ _ h => by cases d <;> exact h) (HOD.out.drew.heap (.head _)) ?_
      simp only [List.map_cons, List.map_nil, pick_zero, pick_succ, List.drop_succ_cons, List.drop_zero]
      iterate 16 ((first | (refine lin_q ?_ rfl ?_ ?_; rotate_left 1; (focus (rintro w' hw; have k0 : w'.cell? ⟨g14, 0, none⟩ = some (.int .i64 code) := (by rw [cell_of_row w' g14 0 _ _ (0, 0) hw]; rfl); have k1 : w'.cell? ⟨g14, 1, none⟩ = some (.slice Av hs2.length cv) := (by rw [cell_of_row w' g14 1 _ _ (0, 0) hw]; rfl); have k2 : w'.cell? ⟨g14, 2, none⟩ = some (.string body) := (by rw [cell_of_row w' g14 2 _ _ (0, 0) hw]; rfl); clear hw; go_simp; first | done | with_reducible rfl))) | (refine lin_g ?_ (by rfl) ?_ ?_; rotate_left 1; (focus (rintro w' hw; have k0 : w'.cell? ⟨g14, 0, none⟩ = some (.int .i64 code) := (by rw [cell_of_row w' g14 0 _ _ (0, 0) hw]; rfl); have k1 : w'.cell? ⟨g14, 1, none⟩ = some (.slice Av hs2.length cv) := (by rw [cell_of_row w' g14 1 _ _ (0, 0) hw]; rfl); have k2 : w'.cell? ⟨g14, 2, none⟩ = some (.string body) := (by rw [cell_of_row w' g14 2 _ _ (0, 0) hw]; rfl); clear hw; go_simp; first | done | with_reducible rfl)))); simp only [Act.put, List.setIfInBounds_toArray, List.set_cons_zero, List.set_cons_succ])
      refine lin_loadG (by rfl) _ _ rfl g14 0 (rv code (.slice Av hs2.length cv) body false) (rv code (.slice Av hs2.length cv) body false) 41 (by rfl) _ Tryd.underlying41 rfl rrep_size (by rfl) (fun w' hw => hw) ?_
      simp only [Act.put, List.setIfInBounds_toArray, List.set_cons_zero, List.set_cons_succ]
      refine lin_act ?_
      refine wl_g (by rfl) ?_
      refine wl_call rfl _ _ _ (by first | (go_simp; done) | (go_simp; rfl)) (HKP.out _ HOD.out.drew) ?_
      rintro e wE ⟨rfl, hO⟩
      have HOE := Lib.hid hO; clear hO HOD
      refine ⟨_, rfl, LinPost.mk (HOE.out.heap (.head _)) ?_⟩
      simp only [Act.put, List.setIfInBounds_toArray, List.set_cons_zero, List.set_cons_succ]
      refine lin_act ?_
      refine wl_g (by rfl) ?_
      refine wl_call rfl _ _ _ (by first | (go_simp; done) | (go_simp; rfl)) (HKQ.out _ HOE.out) ?_
      rintro e wF ⟨rfl, hO⟩
      have HOF := Lib.hid hO; clear hO HOE
      refine ⟨_, rfl, LinPost.mk (HOF.out.heap (.head _)) ?_⟩
      simp only [Act.put, List.setIfInBounds_toArray, List.set_cons_zero, List.set_cons_succ]
      iterate 3 ((first | (refine lin_q ?_ rfl ?_ ?_; rotate_left 1; (focus (rintro w' hw; have k0 : w'.cell? ⟨g14, 0, none⟩ = some (.int .i64 code) := (by rw [cell_of_row w' g14 0 _ _ (0, 0) hw]; rfl); have k1 : w'.cell? ⟨g14, 1, none⟩ = some (.slice Av hs2.length cv) := (by rw [cell_of_row w' g14 1 _ _ (0, 0) hw]; rfl); have k2 : w'.cell? ⟨g14, 2, none⟩ = some (.string body) := (by rw [cell_of_row w' g14 2 _ _ (0, 0) hw]; rfl); clear hw; go_simp; first | done | with_reducible rfl))) | (refine lin_g ?_ (by rfl) ?_ ?_; rotate_left 1; (focus (rintro w' hw; have k0 : w'.cell? ⟨g14, 0, none⟩ = some (.int .i64 code) := (by rw [cell_of_row w' g14 0 _ _ (0, 0) hw]; rfl); have k1 : w'.cell? ⟨g14, 1, none⟩ = some (.slice Av hs2.length cv) := (by rw [cell_of_row w' g14 1 _ _ (0, 0) hw]; rfl); have k2 : w'.cell? ⟨g14, 2, none⟩ = some (.string body) := (by rw [cell_of_row w' g14 2 _ _ (0, 0) hw]; rfl); clear hw; go_simp; first | done | with_reducible rfl)))); simp only [Act.put, List.setIfInBounds_toArray, List.set_cons_zero, List.set_cons_succ])
      refine lin_act ?_
      refine wl_g (by rfl) ?_
      refine wl_call rfl _ _ _ (by first | (go_simp; done) | (go_simp; rfl)) (wakes9_c HVV.out.toMostOk HOF.out) ?_
      rintro e wG ⟨rfl, hO⟩
      have HOG := Lib.hid hO; clear hO HOF
      refine ⟨_, rfl, LinPost.mk (HOG.out.heap (.head _)) ?_⟩
      simp only [Act.put, List.setIfInBounds_toArray, List.set_cons_zero, List.set_cons_succ]
      iterate 1 ((first | (refine lin_q ?_ rfl ?_ ?_; rotate_left 1; (focus (rintro w' hw; have k0 : w'.cell? ⟨g14, 0, none⟩ = some (.int .i64 code) := (by rw [cell_of_row w' g14 0 _ _ (0, 0) hw]; rfl); have k1 : w'.cell? ⟨g14, 1, none⟩ = some (.slice Av hs2.length cv) := (by rw [cell_of_row w' g14 1 _ _ (0, 0) hw]; rfl); have k2 : w'.cell? ⟨g14, 2, none⟩ = some (.string body) := (by rw [cell_of_row w' g14 2 _ _ (0, 0) hw]; rfl); clear hw; go_simp; first | done | with_reducible rfl))) | (refine lin_g ?_ (by rfl) ?_ ?_; rotate_left 1; (focus (rintro w' hw; have k0 : w'.cell? ⟨g14, 0, none⟩ = some (.int .i64 code) := (by rw [cell_of_row w' g14 0 _ _ (0, 0) hw]; rfl); have k1 : w'.cell? ⟨g14, 1, none⟩ = some (.slice Av hs2.length cv) := (by rw [cell_of_row w' g14 1 _ _ (0, 0) hw]; rfl); have k2 : w'.cell? ⟨g14, 2, none⟩ = some (.string body) := (by rw [cell_of_row w' g14 2 _ _ (0, 0) hw]; rfl); clear hw; go_simp; first | done | with_reducible rfl)))); simp only [Act.put, List.setIfInBounds_toArray, List.set_cons_zero, List.set_cons_succ])
      refine lin_nil ?_
      go_wp2
      go_ret
      exact HOG.out.yes rfl
theorem bulk_one {H : Type} (d : DataW H) : 1 ≤ Rows.uptoBulk d := by
  cases d with
  | lit l => cases l <;> simp [Rows.uptoBulk]
  | _ => simp [Rows.uptoBulk]
theorem bulk_len {H : Type} (l : List (DataW H)) : l.length ≤ Rows.uptoBulkAll l := by
  induction l with
  | nil => simp
  | cons x r ih => have := bulk_one x; simp only [Rows.uptoBulkAll, List.length_cons]; omega
set_option maxRecDepth 100000 in
theorem replyTells_contract (H : Type) (enc : TypeId × Value → H) (W : World) (base : Nat) (args : Array Value) (ds gs : List (DataW H)) (before : List MemPlace)
    (hval : ∀ (j : Nat) t v, Tryd.f5.params[j]? = some t → args[j]? = some v → Value.okWide Tryd.prog W .any base t v)
    (hW : DataW.Whole enc Tryd.prog Tryd.f5.params.toList Rows.replyTellsSpec.vars false W args.toList ds gs before) (hk : Rows.uptoSmall H (ds ++ gs) = true) (hV0 : VarsOk W) :
    Calls Tryd.prog 5 args W fun e W' => ∃ v, e = .returned v ∧ Rows.replyTellsSpec.post enc Tryd.prog Tryd.f5 false true false false W args v W' := by
  have hW' := hW
  obtain ⟨p, q, hA0, hV, rfl, hfz, hnd⟩ := hW
  have hA : DataW.TrodAll enc Tryd.prog W 0 (fun _ => true) true Tryd.f5.params.toList args.toList ds p := hA0
  rw [Tryd.params5] at hA hval
  obtain ⟨v0, vs0, d0, ds0, p0, q0, hargs, rfl, rfl, h0, r0⟩ := trodAll_cons hA
  obtain ⟨v1, vs1, d1, ds1, p1, q1, rfl, rfl, rfl, h1, r1⟩ := trodAll_cons r0
  obtain ⟨v2, vs2, d2, ds2, p2, q2, rfl, rfl, rfl, h2, r2⟩ := trodAll_cons r1
  obtain ⟨v3, vs3, d3, ds3, p3, q3, rfl, rfl, rfl, h3, r3⟩ := trodAll_cons r2
  obtain ⟨rfl, rfl, rfl⟩ := trodAll_nil r3
  obtain rfl : args = #[v0, v1, v2, v3] := by cases args; simp_all
  obtain ⟨rfl, rfl⟩ := trodVars_none hV
  obtain ⟨a0, rfl, rfl, rfl, w0⟩ := open_int Tryd.underlying3 (hval 0 3 v0 rfl rfl) h0
  obtain ⟨b1, len1, cap1, rfl⟩ := okWide_slice Tryd.underlying38 (hval 1 38 v1 rfl rfl)
  have k1 := h1
  have lt1 : ∀ x ∈ p1, x.block < W.heap.size := by obtain ⟨m, hm⟩ := k1; exact DataW.trod_lt m _ _ _ hm
  obtain ⟨a1, w1, z1⟩ : ∃ xs, InRow .i64 W (.slice b1 len1 cap1) xs ∧ xs.length ≤ 1048576 := by
    obtain ⟨fuel, hf⟩ := h1
    rcases open_ints Tryd.underlying38 Tryd.underlying3 (by kernel_rfl) hf with ⟨hcs, _⟩ | ⟨x, l, c, zs, hcs, _, hl, hm, hz, hx, hcell, hwz⟩
    · simp [Value.cells] at hcs
      obtain ⟨rfl, rfl, rfl⟩ := hcs
      exact ⟨[], inRow_nil _ _, by simp⟩
    · simp [Value.cells] at hcs
      obtain ⟨rfl, rfl, rfl⟩ := hcs
      refine ⟨zs.take len1, inRow_mk hl hm (by simpa using hz) hcell hwz, ?_⟩
      have hd : d1 = .slice (lits .i64 (zs.take len1)) (lits .i64 (zs.drop len1)) := congrArg Prod.fst hx
      have hb : _ ≤ 1048576 := of_decide_eq_true hk
      rw [hd] at hb
      simp only [List.append_nil, List.cons_append, List.nil_append, Rows.uptoBulkAll, Rows.uptoBulk] at hb
      have h1 := bulk_len (H := H) (lits .i64 (zs.take len1))
      have h2 : (lits (H := H) .i64 (zs.take len1)).length = (zs.take len1).length := by simp [lits]
      omega
  obtain ⟨a2, rfl, rfl, rfl, w2⟩ := open_string Tryd.underlying9 (hval 2 9 v2 rfl rfl) h2
  obtain ⟨a3, rfl, rfl, rfl⟩ := open_bool Tryd.underlying4 (hval 3 4 v3 rfl rfl) h3
  have z2 : a2.size ≤ 1048576 := by
    have hb : _ ≤ 1048576 := of_decide_eq_true hk
    simp only [List.append_nil, List.cons_append, List.nil_append, Rows.uptoBulkAll, Rows.uptoBulk] at hb
    have e : a2.data.toList.length = a2.size := by simp
    omega
  clear hA0
  refine (replyTells_walk hV0 a0 w0 _ a1 w1 z1 a2 z2 a3).mono fun e W' ⟨he, bel⟩ => ?_
  subst he
  exact ⟨_, rfl, _, _, _, [], _, [], hW', trodAll_mk1 (shut_bool Tryd.underlying4 _), (trodAll_cons_mk (shut_int Tryd.underlying3 w0) (trodAll_cons_mk (Below.trod laidOut (by kernel_rfl) (of_decide_eq_true (by kernel_rfl)) k1 bel lt1) (trodAll_cons_mk (shut_string Tryd.underlying9 w2) (trodAll_cons_mk (shut_bool Tryd.underlying4 a3) trodAll_mk0)))), rfl, bel.frame _, fun h => by cases h⟩

theorem replyTells_met (os : Os) : laidMet Tryd.prog Rows.replyTellsUptoRow.laid ((laidWorld os).forCall (fun _ _ => 0) ⟨#[], #[.int .i64 0, .slice none 0 0, .string .empty, .bool false], []⟩).memory :=
  laidMet_of_run' 8 (by kernel_rfl) (by kernel_rfl)
theorem replyTells_reads (os : Os) {H : Type} (enc : TypeId × Value → H) : ∃ places, DataW.whole enc Tryd.prog ((laidWorld os).forCall (fun _ _ => 0) ⟨#[], #[.int .i64 0, .slice none 0 0, .string .empty, .bool false], []⟩).memory Tryd.f5.params.toList Rows.replyTellsSpec.vars false (#[.int .i64 0, .slice none 0 0, .string .empty, .bool false] : Array Value).toList 8 = some ([.lit (.int .i64 0), .nil, .lit (.string []), .lit (.bool false)], [], places) :=
  ⟨[], by kernel_rfl⟩
set_option maxRecDepth 100000 in
theorem replyTells_lifted (os : Os) (started : os.Started) (H : Type) (enc : TypeId × Value → H) (F : Stop.Interp) :
    ReturnsInHanded {} Tryd.checked os 5 .any ((Rows.OpenSpec.upto Rows.replyTellsSpec).preRow enc Tryd.prog Tryd.f5 Rows.replyTellsUptoRow.domain false Rows.replyTellsUptoRow.laid) (((Rows.OpenSpec.upto Rows.replyTellsSpec).at F).post enc Tryd.prog Tryd.f5 false true false false) := by
  obtain ⟨places, hx⟩ := replyTells_reads os enc
  refine returnsInHanded_of_row (C := Tryd.checked) (s := Rows.OpenSpec.upto Rows.replyTellsSpec) own_none started (by kernel_rfl) Tryd.func5
    (witness_row_at (enc := enc) (C := Tryd.checked) false (laidWorld os) #[.int .i64 0, .slice none 0 0, .string .empty, .bool false] rfl (by kernel_rfl) (by kernel_rfl) (by kernel_rfl)
      (OpenSpec.preRow_of_cond 8 hx (by kernel_rfl) (fun k hk => by cases hk; kernel_rfl) (by kernel_rfl) (replyTells_met os))) ?_
  intro W base args ds gs before hval hW _ hcond _ hL hsh _
  exact replyTells_contract H enc W base args ds gs before hval hW (hcond _ rfl) (vars_of hL hsh)
theorem replyTells_said : Rows.ReplyTellsUptoSaid :=
  OpenClaim.holds_of_cond 5 Tryd.f5 rfl rfl rfl rfl rfl rfl rfl ⟨rfl, rfl, rfl, rfl, rfl⟩ rfl rfl rfl rfl rfl (by kernel_rfl) Tryd.func5 (by kernel_rfl)
    (of_decide_eq_true (by kernel_rfl)) (by unfold Func.isWrapper; first | (rw [if_pos (by decide +kernel)]; kernel_rfl) | (rw [if_neg (by decide +kernel)]; exact ⟨rfl, rfl⟩))
    (fun os started H enc _ F => by rw [OpenClaim.pre_eq_preRow]; exact replyTells_lifted os started H enc F)
theorem replyTells_plain (f : FuncId) (fn : Func) (hf : Tryd.pinned.checked.prog.funcNamed "postilion/postilionlaw09.ReplyTells" = some f) (hfn : Tryd.pinned.checked.prog.funcs[f]? = some fn) :
    false = Tryd.pinned.checked.prog.looks [] ∧ ∀ (j : Nat) t, fn.params[j]? = some t → Tryd.pinned.checked.prog.wantsStandIn t = false := by
  obtain rfl : f = 5 := Option.some.inj ((show Tryd.prog.funcNamed "postilion/postilionlaw09.ReplyTells" = some 5 by kernel_rfl).symm.trans hf) |>.symm
  obtain rfl : fn = Tryd.f5 := (Option.some.inj (Tryd.func5.symm.trans hfn)).symm
  refine ⟨by kernel_rfl, fun j t ht => ?_⟩
  rw [Tryd.params5] at ht
  have hall : ∀ t ∈ ([3, 38, 9, 4] : List TypeId), Tryd.prog.wantsStandIn t = false := List.forall_mem_cons.2 ⟨by kernel_rfl, List.forall_mem_cons.2 ⟨by kernel_rfl, List.forall_mem_cons.2 ⟨by kernel_rfl, List.forall_mem_cons.2 ⟨by kernel_rfl, fun _ h => by cases h⟩⟩⟩⟩
  exact hall t (by simpa using Array.mem_of_getElem? ht)
/-- The statement: the card. -/
theorem replyTells_proved : Rows.ReplyTellsUptoCardSaid :=
  Claim7.holds_tied_plain_at .later [] _ _ _ _ replyTells_said (fun _ h => by cases h) (by kernel_rfl) (fun _ h => by cases h) replyTellsUpto_row_tie rfl ⟨rfl, rfl⟩ (by kernel_rfl) rfl replyTells_plain (by kernel_rfl)
end Go.Proofs.YtkmfbfmmlldphaaDoor

