/-
  Package log: load.
-/
import Derived.Test.YtdndkapfaiplnaaLog5
import Derived.Test.YtdndkapfaiplnaaTree
import Derived.Deep.DeepCutAuto
namespace Go.Proofs.Ytdndkapfaiplnaa
set_option linter.unusedVariables false
set_option linter.unusedSimpArgs false
set_option maxRecDepth 20000
open Go.RowKit

theorem start_is (w : World) (h : Int) (h1 : h = 0 ∨ h = 1) (m : Int) (hm : 2 + h * 256 = m) : Calls Try.prog 51 #[.int .i64 h] w fun e w' => e = .returned (.int .i64 m) ∧ w = w' := by
  rw [← hm]; exact start_c w h h1
open Classical in
theorem own_count {w0 w : World} {A B : Blks} (h : Own w0 w A) (hc : ∀ p : Nat × Obj, List.count p A = List.count p B) : Own w0 w B := h.perm (List.perm_iff_count.2 hc)
theorem vs_oneL {w0 w : World} {L : Blks} {g : Nat} {v : Value} {t : TypeId} (hO : Own w0 w L) (hm : (g, Obj.cells [v].toArray t) ∈ L) : Vs w (.slice (some ⟨g, 0, none⟩) 1 1) [v] :=
  ⟨_, _, _, rfl, rfl, Nat.le_refl _, fun _ => ⟨_, rfl, fun j u hu => by rw [addr_add_zero, hO.cell hm j]; simpa using hu⟩⟩
theorem each_snoc {w0 : World} {Y Lv : Blks} {v : Value} {bs : List (List Int)} {vs : List Value} {i : Nat} (hvl : vs.length = i) (h2 : ∀ j, j < i → Rd w0 Y (vs.getD j undef) (bs.getD j [])) (hv : Rd w0 Lv v (bs.getD i [])) :
    ∀ j, j < i + 1 → Rd w0 (Lv ++ Y) ((vs ++ [v]).getD j undef) (bs.getD j []) := by
  intro j hj
  by_cases h : j < i
  · have := (h2 j h).sublist (List.sublist_append_right Lv Y)
    simp only [List.getD, List.getElem?_append_left (hvl ▸ h)] at this ⊢
    exact this
  · have hi : j = i := by omega
    subst hi
    have := hv.sublist (List.sublist_append_left Lv Y)
    simp only [List.getD, List.getElem?_append_right (Nat.le_of_eq hvl), hvl]
    simpa using this
/-- Behind a Read. -/
def AfterRead (w0 : World) (d : Value) (s : DSt) (R : Blks) (t : Slot) (rs : List Rec) (a i : Nat) (s9 s10 s11 s12 : Value) (wx : World) : Prop :=
  ∃ gm e q xs nx r vv Lv Ld, ReadP t rs a i e q xs nx r ∧ s9 = .pointer (some ⟨gm, 0, none⟩) ∧ s10 = vv ∧ s11 = .int .i64 nx ∧ s12 = .int .i64 r ∧ Rd w0 Lv vv xs ∧ IsDisk d s Ld ∧ Own w0 wx ((gm, .cells [Value.int .i64 e, .int .i64 q].toArray 44) :: (Lv ++ (Ld ++ R)))
/-- The loop's state. -/
def LoadTo (w0 : World) (R : Blks) (gl : Nat) (d : Value) (s : DSt) (l : LSt) (g : Nat) (t : Slot) (rs : List Rec) (a i : Nat) (v7 v8 : Value) (wx : World) : Prop :=
  ∃ vs Lr Y Ld, v8 = .int .i64 (lastEp t.begun (rs.take i)) ∧ IsRow 27 1 v7 i vs Lr ∧ (∀ j, j < i → Rd w0 Y (vs.getD j undef) ((rs.map (·.2)).getD j [])) ∧ IsDisk d s Ld ∧
    Own w0 wx (Ld ++ ((gl, .cells (lgv d { l with en := ((a + needR (rs.take i) : Nat) : Int), nx := t.first + i }).toArray 82) :: (g, .cells (slv t).toArray 75) :: (Lr ++ (Y ++ R))))
def Loaded (w0 : World) (R : Blks) (v d : Value) (s : DSt) (l : LSt) (t : Slot) (rs : List Rec) (a : Nat) (en : Ending) (w' : World) : Prop :=
  ∃ rv X Ld Lg, en = .returned (.tuple #[rv, .int .i64 0]) ∧ GotRows w0 X rv (rs.map (·.2)) ∧ IsDisk d s Ld ∧ IsLog v d { l with en := ((a + needR rs : Nat) : Int), nx := t.first + rs.length } Lg ∧ Own w0 w' (Ld ++ (Lg ++ (X ++ R)))
theorem length_le_needR : ∀ (rs : List Rec), rs.length ≤ needR rs
  | [] => Nat.zero_le _
  | r :: rs => by have := length_le_needR rs; have := need_pos r.2; simp only [needR_cons, List.length_cons]; omega
theorem loaded_of {w0 wx : World} {R Lr Y Ld : Blks} {gl g : Nat} {d v7 : Value} {s : DSt} {l l' : LSt} {t : Slot} {rs : List Rec} {a : Nat} {vs : List Value} (hl : l' = { l with en := ((a + needR rs : Nat) : Int), nx := t.first + rs.length }) (h1 : IsRow 27 1 v7 rs.length vs Lr)
    (h2 : ∀ j, j < rs.length → Rd w0 Y (vs.getD j undef) ((rs.map (·.2)).getD j [])) (hd : IsDisk d s Ld) (hO : Own w0 wx (Ld ++ ((gl, .cells (lgv d l').toArray 82) :: (g, .cells (slv t).toArray 75) :: (Lr ++ (Y ++ R))))) :
    Loaded w0 R (.pointer (some ⟨gl, 0, none⟩)) d s l t rs a (.returned (.tuple #[v7, .int .i64 0])) wx := by
  subst hl
  refine ⟨v7, Lr ++ Y, Ld, _, rfl, ⟨vs, Lr, Y, rfl, by simpa using h1, by simpa using h2⟩, hd, ⟨gl, rfl, rfl⟩, hO.sub ?_⟩
  simp
section
variable {w0 w : World} {R L Lg : Blks} {d v : Value} {s : DSt} {l : LSt}
set_option maxHeartbeats 8000000 in
theorem load_c (hd : IsDisk d s L) (hg : IsLog v d l Lg) (hO : Own w0 w (L ++ (Lg ++ R))) (t : Slot) (rs : List Rec) (a : Nat) (hh : t.half = 0 ∨ t.half = 1) (ha : (a : Int) = 2 + t.half * 256) (hfs : 0 ≤ t.first ∧ t.first + rs.length ≤ 16777216)
    (hl : Laid s.la a t.first rs) (hk : RecsOk t.first t.begun t.ep rs) (hdn : s.down = false) (hB : ∀ j : Nat, Byt (s.la.getD j [])) (hfit : needR rs ≤ 256) (hn : (a : Int) + 256 ≤ s.n)
    (hst : Stop s (a + needR rs : Nat) (a + 256) (t.first + rs.length) (lastEp t.begun rs)) :
    Calls Try.prog 45 #[v, .agg (slv t).toArray] w (Loaded w0 R v d s l t rs a) := by
  obtain ⟨gl, rfl, rfl⟩ := hg
  obtain ⟨bd, rfl⟩ := hd.ptr
  have hrl := length_le_needR rs
  have hread := fun (w : World) (R L : Blks) (hd : IsDisk (.pointer (some ⟨bd, 0, none⟩)) s L) (hO : Own w0 w (L ++ R)) => fread_rec hd hO t rs a hl hk hdn hB hfit hn hst
  have HREAD := Lib.hid hread
  have HK := Lib.hid hk
  have HTS := Lib.hid (needR_take_succ rs); have HTL := Lib.hid (needR_take_le rs); have HLE := Lib.hid (lastEp_take_succ t.begun rs)
  have HO := Lib.hid (Own.rot hO); have HD := Lib.hid hd
  clear hO hd hl hB hread hst hdn hk
  have han : a ≤ 258 := by omega
  have HA := Lib.hid ha
  clear ha
  go_enter Try.func45, Try.ntmps45
  go_wp2_with (refine wl_box rfl _ _ rfl HO.out _ (by rfl) ?_; intro g3 w1 hO1; have HO1 := Lib.hid (Own.rot (A := [_]) (B := [_]) hO1.drew); clear hO1 HO)
  refine wp_region_lin (fun w' => w'.heap[g3]? = some (.cells (slv t).toArray 75)) 13 [(0, true), (1, true), (2, true), (3, true), (5, true), (6, true), (4, false), (7, true), (8, true), (9, false), (10, true), (11, true), (12, false)] (by kernel_rfl) (by kernel_rfl) (fun _ _ d _ _ h => by cases d <;> exact h) (HO1.out.heap (.tail _ (.head _))) ?_
  generalize w1.drew = w2 at *
  simp only [List.map_cons, List.map_nil, pick_zero, pick_succ, List.drop_succ_cons, List.drop_zero]
  iterate 6 (refine lin_q ?_ rfl ?_ ?_; rotate_left 1; (focus (rintro w' hS; have c2 : w'.cell? ⟨g3, 2, none⟩ = some (.int .i64 t.half) := cell_of_row w' g3 2 _ _ (0, 0) hS; have c3 : w'.cell? ⟨g3, 3, none⟩ = some (.int .i64 t.first) := cell_of_row w' g3 3 _ _ (0, 0) hS; clear hS; go_simp; first | done | with_reducible rfl | rfl | (trace_state; fail))); simp only [Act.put, List.setIfInBounds_toArray, List.set_cons_zero, List.set_cons_succ])
  refine lin_act ?_
  refine wl_call rfl _ _ _ (by go_simp) (start_is _ t.half hh (a : Int) HA.out.symm) ?_
  rintro e w3 ⟨rfl, rfl⟩
  refine ⟨_, rfl, LinPost.mk (HO1.out.heap (.tail _ (.head _))) ?_⟩
  simp only [Act.put, List.setIfInBounds_toArray, List.set_cons_zero, List.set_cons_succ]
  iterate 2 (refine lin_q ?_ rfl ?_ ?_; rotate_left 1; (focus (rintro w' -; go_simp; first | done | with_reducible rfl | rfl | (trace_state; fail))); simp only [Act.put, List.setIfInBounds_toArray, List.set_cons_zero, List.set_cons_succ])
  refine lin_act ?_
  refine wl_store1 rfl _ _ _ rfl HO1.out 0 gl 4 _ (.int .i64 ((a : Int))) _ rfl (by rfl) (by rfl) (by rfl) (by kernel_rfl) (by rfl) (by simp [lgv]) ?_
  intro w4 hO4
  have HO4 := Lib.hid hO4; clear hO4 HO1
  refine LinPost.mk (HO4.out.heap (.tail _ (.head _))) ?_
  simp only [Act.put, List.setIfInBounds_toArray, List.set_cons_zero, List.set_cons_succ]
  iterate 2 (refine lin_q ?_ rfl ?_ ?_; rotate_left 1; (focus (rintro w' -; go_simp; first | done | with_reducible rfl | rfl | (trace_state; fail))); simp only [Act.put, List.setIfInBounds_toArray, List.set_cons_zero, List.set_cons_succ])
  refine lin_act ?_
  refine wl_store1 rfl _ _ _ rfl HO4.out 0 gl 5 _ (.int .i64 t.first) _ rfl (by rfl) (by rfl) (by rfl) (by kernel_rfl) (by rfl) (by simp [lgv]) ?_
  intro w5 hO5
  have hO6 : Own w0 w5 (((gl, .cells (lgv (.pointer (some ⟨bd, 0, none⟩)) { l with en := (a : Int), nx := t.first }).toArray 82) :: [(g3, .cells (slv t).toArray 75)]) ++ (L ++ R)) := hO5
  have HO6 := Lib.hid (Own.rot hO6); clear hO5 HO4 hO6
  refine LinPost.mk (HO6.out.heap (List.mem_append_right _ (.tail _ (.head _)))) ?_
  simp only [Act.put, List.setIfInBounds_toArray, List.set_cons_zero, List.set_cons_succ]
  refine lin_nil ?_
  obtain ⟨-, -, c2, -, c4⟩ := slot_cells (t := t) HO6.out (List.mem_append_right _ (.tail _ (.head _)))
  go_wp2_with fail
  with_reducible refine (start_is _ t.half hh (a : Int) HA.out.symm).mono ?_
  rintro e w7 ⟨rfl, rfl⟩
  have hwr : IntKind.i64.wrap ((a : Int) + 256) = (a : Int) + 256 := IntWalk.i64_in _ (by omega)
  have C4 := Lib.hid c4
  clear c4
  go_wp2_with (refine wl_buildSlice rfl _ _ _ rfl HO6.out _ (by exact alloc_rows0 _) ?_; intro g7 w8 hO8; have c4 : w8.cell? ⟨g3, 4, none⟩ = some (.int .i64 t.begun) := hO8.cell (.tail _ (List.mem_append_right _ (.tail _ (.head _)))) 4; have HO8 := Lib.hid hO8; clear hO8 HO6 C4)
  clear c4 c2 hwr
  have hO9 : Own w0 w8 (L ++ ((gl, .cells (lgv (.pointer (some ⟨bd, 0, none⟩)) { l with en := (a : Int), nx := t.first }).toArray 82) :: (g3, .cells (slv t).toArray 75) :: ([(g7, .cells #[] 27)] ++ R))) := by
    have h5 : Own w0 w8 ([(g7, .cells #[] 27)] ++ ((L ++ [(gl, .cells (lgv (.pointer (some ⟨bd, 0, none⟩)) { l with en := (a : Int), nx := t.first }).toArray 82), (g3, .cells (slv t).toArray 75)]) ++ R)) := by simpa [List.append_assoc] using HO8.out
    have h6 := h5.rot
    simpa [List.append_assoc] using h6
  have HO9 := Lib.hid hO9; clear hO9 HO8
  go_loopg [7, 8] (rs.length + 1) (fun gg v7 v8 wx => ∃ i : Nat, i ≤ rs.length ∧ gg = rs.length + 1 - i ∧ LoadTo w0 R gl (.pointer (some ⟨bd, 0, none⟩)) s l g3 t rs a i v7 v8 wx)
  case atStart =>
    refine ⟨0, Nat.zero_le _, rfl, [], [(g7, .cells #[] 27)], [], L, rfl, ⟨rfl, .inr ⟨g7, 0, [], rfl, rfl, rfl, Nat.le_refl _, by simp [maxLen]⟩⟩, by simp, HD.out, ?_⟩
    have e : ({ l with en := ((a + needR (rs.take 0) : Nat) : Int), nx := t.first + ((0 : Nat) : Int) } : LSt) = { l with en := (a : Int), nx := t.first } := by
      simp [needR, needs]
    rw [e]
    exact HO9.out
  case round =>
    obtain ⟨i, hi, rfl, vs, Lr, Y, Ld, rfl, hrow, heach, hdi, hOi⟩ := hrel
    clear HO9 HD
    obtain ⟨A7, c7, rfl⟩ := hrow.val
    have HROW := Lib.hid hrow; have HEACH := Lib.hid heach; have HDI := Lib.hid hdi; have HOI := Lib.hid hOi
    clear hrow heach hdi hOi
    have c4 : wr.cell? ⟨gl, 4, none⟩ = some (.int .i64 ((a + needR (rs.take i) : Nat) : Int)) := HOI.out.cell (List.mem_append_right _ (.head _)) 4
    by_cases hlt : needR (rs.take i) < 256
    · have hlt2 : ((a + needR (rs.take i) : Nat) : Int) < (a : Int) + 256 := by push_cast; omega
      go_upto_region 6 with fail
      clear c4
      go_cut [9, 10, 11, 12] (fun s9 s10 s11 s12 wx => AfterRead w0 (.pointer (some ⟨bd, 0, none⟩)) s ((gl, .cells (lgv (.pointer (some ⟨bd, 0, none⟩)) { l with en := ((a + needR (rs.take i) : Nat) : Int), nx := t.first + i }).toArray 82) :: (g3, .cells (slv t).toArray 75) :: (Lr ++ (Y ++ R))) t rs a i s9 s10 s11 s12 wx)
      case first =>
        rename_i JJ KK hJJ hKK
        refine wp_region_tree (fun w' => w'.heap[gl]? = some (.cells (lgv (.pointer (some ⟨bd, 0, none⟩)) { l with en := ((a + needR (rs.take i) : Nat) : Int), nx := t.first + i }).toArray 82)) 20 (.q 0 (.q 1 (.q 2 (.q 3 (.q 4 (.q 5 (.q 6 (.q 7 (.q 8 (.two 9 (.q 10 (.q 11 (.q 12 (.q 13 (.q 14 (.one 15 (.one 16 (.q 17 (.q 18 (.q 19 .done)))))))))) 15 (.one 9 (.q 10 (.q 11 (.q 12 (.q 13 (.q 14 (.one 16 (.q 17 (.q 18 (.q 19 .done)))))))))))))))))))) (by kernel_rfl) (by decide +kernel) (fun _ _ d _ _ h => by cases d <;> exact h) (HOI.out.drew.heap (List.mem_append_right _ (.head _))) ?_
        iterate 9 (refine tr_q ?_ rfl ?_ ?_; rotate_left 1; (focus (rintro w' hS; have c0 : w'.cell? ⟨gl, 0, none⟩ = some (.pointer (some ⟨bd, 0, none⟩)) := cell_of_row w' gl 0 _ _ (0, 0) hS; have c4 : w'.cell? ⟨gl, 4, none⟩ = some (.int .i64 ((a + needR (rs.take i) : Nat) : Int)) := cell_of_row w' gl 4 _ _ (0, 0) hS; clear hS; simp only [pick_zero, pick_succ]; go_simp; first | done | with_reducible rfl | (trace_state; fail))); simp only [pick_zero, pick_succ]; simp only [Act.put, List.setIfInBounds_toArray, List.set_cons_zero, List.set_cons_succ])
        have HOa := Lib.hid HOI.out.drew; clear HOI
        generalize wr.drew = w10 at HOa
        refine tr_two ?_ ?_
        · simp only [pick_zero, pick_succ]
          have hcall := HREAD.out w10 _ _ HDI.out HOa.out i hi hlt
          refine wl_call rfl _ _ _ (by go_simp) hcall ?_
          clear hcall
          rintro en w11 ⟨e, q, xs, nx, r, hP, vv, Lv, Ld2, rfl, hrd, hd2, hO⟩
          have HOb := Lib.hid hO; clear hO HOa
          refine ⟨_, rfl, LinPost.mk (HOb.out.heap (List.mem_append_right _ (List.mem_append_right _ (.head _)))) ?_⟩
          simp only [Act.put, List.setIfInBounds_toArray, List.set_cons_zero, List.set_cons_succ]
          iterate 5 (refine tr_q ?_ rfl ?_ ?_; rotate_left 1; (focus (rintro w' -; simp only [pick_zero, pick_succ]; go_simp; first | done | with_reducible rfl | (trace_state; fail))); simp only [pick_zero, pick_succ]; simp only [Act.put, List.setIfInBounds_toArray, List.set_cons_zero, List.set_cons_succ])
          refine tr_one ?_
          simp only [pick_zero, pick_succ]
          refine wl_alloc rfl _ rfl HOb.out _ (alloc_mark _) ?_
          intro gm w12 hO
          have HOc := Lib.hid hO; clear hO HOb
          refine LinPost.mk (HOc.out.heap (.tail _ (List.mem_append_right _ (List.mem_append_right _ (.head _))))) ?_
          simp only [Act.put, List.setIfInBounds_toArray, List.set_cons_zero, List.set_cons_succ]
          refine tr_one ?_
          simp only [pick_zero, pick_succ]
          refine wl_store rfl _ _ _ rfl HOc.out 0 gm 0 _ [Value.int .i64 e, Value.int .i64 q] _ rfl (by rfl) (by rfl) mark_size (one_2i _ _) (by simp) ?_
          intro w13 hO
          have HOd := Lib.hid hO; clear hO HOc
          refine LinPost.mk (HOd.out.heap (.tail _ (List.mem_append_right _ (List.mem_append_right _ (.head _))))) ?_
          try simp only [Act.put, List.setIfInBounds_toArray, List.set_cons_zero, List.set_cons_succ]
          iterate 3 (refine tr_q ?_ rfl ?_ ?_; rotate_left 1; (focus (rintro w' -; simp only [pick_zero, pick_succ]; go_simp; first | done | with_reducible rfl | (trace_state; fail))); simp only [pick_zero, pick_succ]; simp only [Act.put, List.setIfInBounds_toArray, List.set_cons_zero, List.set_cons_succ])
          refine tr_done ?_
          refine hKK _ _ ?_
          try simp only [Act.put, List.setIfInBounds_toArray, List.set_cons_zero, List.set_cons_succ]
          go_meet
          exact ⟨gm, e, q, xs, nx, r, vv, Lv, Ld2, hP, rfl, rfl, rfl, rfl, hrd, hd2, HOd.out⟩
        · simp only [pick_zero, pick_succ]
          refine wl_alloc rfl _ rfl HOa.out _ (alloc_mark _) ?_
          intro gm w12 hO
          have HOc := Lib.hid (Own.rot (A := [_]) hO); clear hO HOa
          refine LinPost.mk (HOc.out.heap (List.mem_append_right _ (.tail _ (.head _)))) ?_
          simp only [Act.put, List.setIfInBounds_toArray, List.set_cons_zero, List.set_cons_succ]
          refine tr_one ?_
          simp only [pick_zero, pick_succ]
          have hcall := HREAD.out w12 _ _ HDI.out HOc.out i hi hlt
          refine wl_call rfl _ _ _ (by go_simp) hcall ?_
          clear hcall
          rintro en w11 ⟨e, q, xs, nx, r, hP, vv, Lv, Ld2, rfl, hrd, hd2, hO⟩
          have hO' : Own w0 w11 ((gm, _) :: (Lv ++ (Ld2 ++ _))) := Own.rot3 (C := [_]) hO
          have HOb := Lib.hid hO'; clear hO hO' HOc
          refine ⟨_, rfl, LinPost.mk (HOb.out.heap (.tail _ (List.mem_append_right _ (List.mem_append_right _ (.head _))))) ?_⟩
          simp only [Act.put, List.setIfInBounds_toArray, List.set_cons_zero, List.set_cons_succ]
          iterate 5 (refine tr_q ?_ rfl ?_ ?_; rotate_left 1; (focus (rintro w' -; simp only [pick_zero, pick_succ]; go_simp; first | done | with_reducible rfl | (trace_state; fail))); simp only [pick_zero, pick_succ]; simp only [Act.put, List.setIfInBounds_toArray, List.set_cons_zero, List.set_cons_succ])
          refine tr_one ?_
          simp only [pick_zero, pick_succ]
          refine wl_store rfl _ _ _ rfl HOb.out 0 gm 0 _ [Value.int .i64 e, Value.int .i64 q] _ rfl (by rfl) (by rfl) mark_size (one_2i _ _) (by simp) ?_
          intro w13 hO
          have HOd := Lib.hid hO; clear hO HOb
          refine LinPost.mk (HOd.out.heap (.tail _ (List.mem_append_right _ (List.mem_append_right _ (.head _))))) ?_
          try simp only [Act.put, List.setIfInBounds_toArray, List.set_cons_zero, List.set_cons_succ]
          iterate 3 (refine tr_q ?_ rfl ?_ ?_; rotate_left 1; (focus (rintro w' -; simp only [pick_zero, pick_succ]; go_simp; first | done | with_reducible rfl | (trace_state; fail))); simp only [pick_zero, pick_succ]; simp only [Act.put, List.setIfInBounds_toArray, List.set_cons_zero, List.set_cons_succ])
          refine tr_done ?_
          refine hKK _ _ ?_
          try simp only [Act.put, List.setIfInBounds_toArray, List.set_cons_zero, List.set_cons_succ]
          go_meet
          exact ⟨gm, e, q, xs, nx, r, vv, Lv, Ld2, hP, rfl, rfl, rfl, rfl, hrd, hd2, HOd.out⟩
      case rest =>
        obtain ⟨gm, e, q, xs, nx, r, vv, Lv, Ld2, hP, rfl, rfl, rfl, rfl, hrd, hd2, hO⟩ := hcut
        clear HOI HDI HREAD
        have m0 : wc.cell? ⟨gm, 0, none⟩ = some (.int .i64 e) := hO.cell (.head _) 0
        have m1 : wc.cell? ⟨gm, 1, none⟩ = some (.int .i64 q) := hO.cell (.head _) 1
        have l5 : wc.cell? ⟨gl, 5, none⟩ = some (.int .i64 (t.first + i)) := hO.cell (.tail _ (List.mem_append_right _ (List.mem_append_right _ (.head _)))) 5
        have s1 : wc.cell? ⟨g3, 1, none⟩ = some (.int .i64 t.ep) := hO.cell (.tail _ (List.mem_append_right _ (List.mem_append_right _ (.tail _ (.head _))))) 1
        rcases hP with ⟨h, rfl, rfl, rfl, rfl, rfl⟩ | ⟨hie, rfl | ⟨rfl, hq | ⟨hq, he⟩⟩⟩
        · obtain ⟨Av, cv, rfl, -⟩ := (hrd.bs_sub hO.tail (List.sublist_append_left _ _)).len
          have hup := HK.out.up i h
          have hst := HTS.out i h; have hle := HTL.out (i + 1); have hlep := HLE.out i h
          have HRD := Lib.hid hrd; have HD2 := Lib.hid hd2; have HLEP := Lib.hid hlep; have HST := Lib.hid hst
          have hO2 : Own w0 wc (Lr ++ ((gl, .cells (lgv (.pointer (some ⟨bd, 0, none⟩)) { l with en := ((a + needR (rs.take i) : Nat) : Int), nx := t.first + i }).toArray 82) :: (gm, .cells [Value.int .i64 (rs[i]).1, .int .i64 (t.first + i)].toArray 44) :: (g3, .cells (slv t).toArray 75) :: (Ld2 ++ (Lv ++ (Y ++ R))))) := own_count hO (by intro p; simp only [List.count_append, List.count_cons]; omega)
          have HO2 := Lib.hid hO2.drew
          clear hrd hd2 hlep hst hO hO2
          have hd1 : decide ((rs[i]).1 < lastEp t.begun (rs.take i)) = false := decide_eq_false (by omega)
          have hd2 : decide (t.ep < (rs[i]).1) = false := decide_eq_false (by omega)
          have hnx : (t.first + (i : Int) != t.first + (i : Int)) = false := by simp
          have hxl : 24 * (i + 1) ≤ 140737488355328 := by omega
          have hP : Hid ((((a + needR (rs.take (i + 1)) : Nat)) : Int) = (a : Int) + needR (rs.take (i + 1))) := by show _ = _; push_cast; rfl
          have hwn : IntKind.i64.wrap (t.first + i + 1) = t.first + i + 1 := IntWalk.i64_in _ (by omega)
          have HH := Lib.hid h
          clear hup
          generalize lastEp t.begun (rs.take i) = le at *
          go_wp2_with fail
          refine wp_region_lin (fun w' => w' = wc.drew) 20 [(0, true), (1, true), (2, true), (3, true), (4, true), (5, true), (6, true), (7, true), (8, true), (9, true), (10, true), (11, true), (12, true), (13, true), (14, true), (15, true), (16, true), (17, true), (18, true), (19, true)] (by kernel_rfl) (by kernel_rfl) (fun _ _ d _ _ h => by cases d <;> exact h) rfl ?_
          simp only [List.map_cons, List.map_nil, pick_zero, pick_succ, List.drop_succ_cons, List.drop_zero]
          iterate 8 (refine lin_q ?_ rfl ?_ ?_; rotate_left 1; (focus (rintro w' rfl; go_simp; first | done | with_reducible rfl | (trace_state; fail))); simp only [Act.put, List.setIfInBounds_toArray, List.set_cons_zero, List.set_cons_succ])
          iterate 4 (refine lin_g ?_ (by rfl) ?_ ?_; rotate_left 1; (focus (rintro w' rfl; go_simp; first | done | with_reducible rfl | (trace_state; fail))); simp only [Act.put, List.setIfInBounds_toArray, List.set_cons_zero, List.set_cons_succ])
          iterate 2 (refine lin_q ?_ rfl ?_ ?_; rotate_left 1; (focus (rintro w' rfl; go_simp; first | done | with_reducible rfl | (trace_state; fail))); simp only [Act.put, List.setIfInBounds_toArray, List.set_cons_zero, List.set_cons_succ])
          iterate 5 (refine lin_g ?_ (by rfl) ?_ ?_; rotate_left 1; (focus (rintro w' rfl; go_simp; first | done | with_reducible rfl | (trace_state; fail))); simp only [Act.put, List.setIfInBounds_toArray, List.set_cons_zero, List.set_cons_succ])
          iterate 1 (refine lin_q ?_ rfl ?_ ?_; rotate_left 1; (focus (rintro w' rfl; go_simp; first | done | with_reducible rfl | (trace_state; fail))); simp only [Act.put, List.setIfInBounds_toArray, List.set_cons_zero, List.set_cons_succ])
          refine lin_nil ?_
          clear m0 m1 l5 s1 hd1 hd2
          generalize wc.drew = w14 at *
          go_wp2_with (first | (refine wl_appendV rfl _ _ _ rfl _ _ 24 Try.underlying28 rows_info (by rfl) (.slice A7 i c7) i vs (by rfl) HROW.out (Own.rot (A := [_]) (HO2.out.alloc (.cells [Value.slice Av (rs[i]).2.length cv].toArray 27))) (.slice (some ⟨w14.heap.size, 0, none⟩) 1 1) [.slice Av (rs[i]).2.length cv] (by rfl) (vs_oneL (HO2.out.alloc (.cells [Value.slice Av (rs[i]).2.length cv].toArray 27)) (.head _)) (by simp; rfl) (by simp only [maxLen, List.length_singleton]; omega) (by simp only [List.length_singleton]; omega) ?_; intro v6 w6 L6 hr6 hO6; have hO7 := Own.rot (B := [_, _, _]) (Own.rot (B := [_]) hO6).tail; have m0 : w6.cell? ⟨gm, 0, none⟩ = some (.int .i64 (rs[i]).1) := hO7.cell (.tail _ (.head _)) 0; have HR6 := Lib.hid hr6; have HO7 := Lib.hid hO7; clear hr6 hO6 hO7 HO2) | (refine wl_store1 rfl _ _ _ rfl HO7.out 0 gl 4 _ (.int .i64 ((a : Int) + needR (rs.take (i + 1)))) _ rfl (by rfl) (by rfl) (by rfl) (by kernel_rfl) (by rfl) (by simp [lgv]) ?_; intro w8 hO8; have k5 : w8.cell? ⟨gl, 5, none⟩ = some (.int .i64 (t.first + i)) := hO8.cell (.head _) 5; have HO8 := Lib.hid hO8; clear hO8 HO7) | (refine wl_store1 rfl _ _ _ rfl HO8.out 0 gl 5 _ (.int .i64 (t.first + i + 1)) _ rfl (by rfl) (by rfl) (by rfl) (by kernel_rfl) (by rfl) (by simp [lgv]) ?_; intro w9 hO9; have HO9 := Lib.hid hO9; clear hO9 HO8))
          have hlg : (((lgv (.pointer (some ⟨bd, 0, none⟩)) { l with en := ((a + needR (rs.take i) : Nat) : Int), nx := t.first + i }).toArray.setIfInBounds 4 (.int .i64 ((a : Int) + needR (rs.take (i + 1))))).setIfInBounds 5 (.int .i64 (t.first + i + 1))) = (lgv (.pointer (some ⟨bd, 0, none⟩)) { l with en := ((a + needR (rs.take (i + 1)) : Nat) : Int), nx := t.first + ((i + 1 : Nat) : Int) }).toArray := by
            have e1 : ((a + needR (rs.take (i + 1)) : Nat) : Int) = (a : Int) + needR (rs.take (i + 1)) := by push_cast; rfl
            have e2 : t.first + ((i + 1 : Nat) : Int) = t.first + i + 1 := by push_cast; omega
            rw [e1, e2]; rfl
          have hO10 : Own w0 w9 ((gl, .cells (lgv (.pointer (some ⟨bd, 0, none⟩)) { l with en := ((a + needR (rs.take (i + 1)) : Nat) : Int), nx := t.first + ((i + 1 : Nat) : Int) }).toArray 82) :: (gm, .cells [Value.int .i64 (rs[i]).1, .int .i64 (t.first + i)].toArray 44) :: (g3, .cells (slv t).toArray 75) :: (L6 ++ (Ld2 ++ (Lv ++ (Y ++ R))))) := by
            rw [← hlg]; exact HO9.out
          have HO10 := Lib.hid hO10; clear hO10 hlg HO9
          go_roundg (rs.length + 1 - (i + 1))
          case measure => have := HH.out; omega
          case rel =>
            refine ⟨i + 1, HH.out, rfl, vs ++ [_], L6, Lv ++ Y, Ld2, (by rw [HLEP.out]; rfl), HR6.out, each_snoc (by have := HROW.out.1; omega) HEACH.out ?_, HD2.out, ?_⟩
            · have e : (rs.map (·.2)).getD i [] = (rs[i]).2 := by simp [List.getD, HH.out]; rfl
              rw [e]; exact HRD.out
            · have h1 := HO10.out.sub (List.Sublist.cons_cons _ (List.Sublist.cons _ (List.Sublist.refl _)))
              exact own_count h1 (by intro p; simp only [List.count_append, List.count_cons]; omega)
        · subst hie
          have HD2 := Lib.hid hd2
          clear m0 m1 l5 s1 hd2
          have HOF := Lib.hid (Own.right (Own.tail hO)); clear hO hrd
          go_wp2
          go_ret2
          exact loaded_of (by rw [List.take_length]) HROW.out HEACH.out HD2.out HOF.out
        · subst hie
          have HD2 := Lib.hid hd2
          have hnx : (q != t.first + (rs.length : Int)) = true := bne_iff_ne.2 hq
          clear hd2 hq hrd
          have HO := Lib.hid hO
          clear hO
          go_wp2_with fail
          refine wp_region_lin (fun w' => w' = wc.drew) 20 [(0, true), (1, true), (2, true), (3, true), (4, true), (5, true), (6, true), (7, true), (8, true), (9, true), (10, true), (11, true), (12, true), (13, true), (14, true), (15, true), (16, true), (17, true), (18, true), (19, true)] (by kernel_rfl) (by kernel_rfl) (fun _ _ d _ _ h => by cases d <;> exact h) rfl ?_
          simp only [List.map_cons, List.map_nil, pick_zero, pick_succ, List.drop_succ_cons, List.drop_zero]
          iterate 8 (refine lin_q ?_ rfl ?_ ?_; rotate_left 1; (focus (rintro w' rfl; go_simp; first | done | with_reducible rfl | (trace_state; fail))); simp only [Act.put, List.setIfInBounds_toArray, List.set_cons_zero, List.set_cons_succ])
          iterate 4 (refine lin_no (by rfl) ?_; simp only [Act.put, List.setIfInBounds_toArray, List.set_cons_zero, List.set_cons_succ])
          iterate 2 (refine lin_q ?_ rfl ?_ ?_; rotate_left 1; (focus (rintro w' rfl; go_simp; first | done | with_reducible rfl | (trace_state; fail))); simp only [Act.put, List.setIfInBounds_toArray, List.set_cons_zero, List.set_cons_succ])
          iterate 5 (refine lin_no (by rfl) ?_; simp only [Act.put, List.setIfInBounds_toArray, List.set_cons_zero, List.set_cons_succ])
          iterate 1 (refine lin_q ?_ rfl ?_ ?_; rotate_left 1; (focus (rintro w' rfl; go_simp; first | done | with_reducible rfl | (trace_state; fail))); simp only [Act.put, List.setIfInBounds_toArray, List.set_cons_zero, List.set_cons_succ])
          refine lin_nil ?_
          clear m0 m1 l5 s1
          have HOF := Lib.hid (Own.right (Own.tail HO.out)).drew; clear HO
          generalize wc.drew = w14 at *
          go_wp2
          go_ret2
          exact loaded_of (by rw [List.take_length]) HROW.out HEACH.out HD2.out HOF.out
        · subst hie
          have HD2 := Lib.hid hd2
          subst hq
          have hnx : (t.first + (rs.length : Int) != t.first + (rs.length : Int)) = false := by simp
          have e2 : rs.take rs.length = rs := List.take_length
          have hd1 : decide (e < lastEp t.begun (rs.take rs.length)) = true := by rw [e2]; exact decide_eq_true he
          clear hd2 he hrd e2
          have HO := Lib.hid hO
          clear hO
          generalize lastEp t.begun (rs.take rs.length) = le at *
          go_wp2_with fail
          refine wp_region_lin (fun w' => w' = wc.drew) 20 [(0, true), (1, true), (2, true), (3, true), (4, true), (5, true), (6, true), (7, true), (8, true), (9, true), (10, true), (11, true), (12, true), (13, true), (14, true), (15, true), (16, true), (17, true), (18, true), (19, true)] (by kernel_rfl) (by kernel_rfl) (fun _ _ d _ _ h => by cases d <;> exact h) rfl ?_
          simp only [List.map_cons, List.map_nil, pick_zero, pick_succ, List.drop_succ_cons, List.drop_zero]
          iterate 8 (refine lin_q ?_ rfl ?_ ?_; rotate_left 1; (focus (rintro w' rfl; go_simp; first | done | with_reducible rfl | (trace_state; fail))); simp only [Act.put, List.setIfInBounds_toArray, List.set_cons_zero, List.set_cons_succ])
          iterate 4 (refine lin_g ?_ (by rfl) ?_ ?_; rotate_left 1; (focus (rintro w' rfl; go_simp; first | done | with_reducible rfl | (trace_state; fail))); simp only [Act.put, List.setIfInBounds_toArray, List.set_cons_zero, List.set_cons_succ])
          iterate 2 (refine lin_q ?_ rfl ?_ ?_; rotate_left 1; (focus (rintro w' rfl; go_simp; first | done | with_reducible rfl | (trace_state; fail))); simp only [Act.put, List.setIfInBounds_toArray, List.set_cons_zero, List.set_cons_succ])
          iterate 5 (refine lin_no (by rfl) ?_; simp only [Act.put, List.setIfInBounds_toArray, List.set_cons_zero, List.set_cons_succ])
          iterate 1 (refine lin_q ?_ rfl ?_ ?_; rotate_left 1; (focus (rintro w' rfl; go_simp; first | done | with_reducible rfl | (trace_state; fail))); simp only [Act.put, List.setIfInBounds_toArray, List.set_cons_zero, List.set_cons_succ])
          refine lin_nil ?_
          clear m0 m1 l5 s1
          have HOF := Lib.hid (Own.right (Own.tail HO.out)).drew; clear HO
          generalize wc.drew = w14 at *
          go_wp2
          go_ret2
          exact loaded_of (by rw [List.take_length]) HROW.out HEACH.out HD2.out HOF.out
    · have hil : i = rs.length := by
        rcases Nat.lt_or_ge i rs.length with h | h
        · have := HTS.out i h; have := HTL.out (i + 1); have := need_pos (rs[i]).2; omega
        · omega
      subst hil
      have e : rs.take rs.length = rs := List.take_length
      rw [e] at HOI hlt c4
      have hlt2 : ¬ (((a + needR rs : Nat) : Int) < (a : Int) + 256) := by push_cast; omega
      clear e
      go_wp2
      go_ret2
      exact loaded_of rfl HROW.out HEACH.out HDI.out HOI.out
end
end Go.Proofs.Ytdndkapfaiplnaa
