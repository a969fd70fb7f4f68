/-
  The statements' own maker of answers: Reply.
-/
import Derived.Test.YtkmfbfmmlldphaaDoorRp4
import Derived.Test.YtkmfbfmmlldphaaDoorKeep
namespace Go.Proofs.YtkmfbfmmlldphaaDoor
set_option linter.unusedVariables false
set_option linter.unusedSimpArgs false
set_option maxRecDepth 20000
open Go.RowKit

def playCodes : List Int := [200, 200, 200, 206, 301, 302, 303, 307, 308, 404, 416, 429, 500, 503, 204, 100, 599, 400, 201, 416, 206]
theorem playCodes_ok : ∀ c ∈ playCodes, 100 ≤ c ∧ c ≤ 599 := by decide
def playSizes : List Int := [0, 5, 8, 3, 30, 49, 60]
theorem playSizes_ok : ∀ c ∈ playSizes, 0 ≤ c ∧ c ≤ 60 := by decide
theorem Own.sink3 {w0 w : World} {L R : Blks} {x y z : Nat × Obj} (h : Own w0 w (x :: y :: z :: (L ++ R))) : Own w0 w (L ++ (x :: y :: z :: R)) :=
  h.perm ((List.Perm.cons x ((List.Perm.cons y List.perm_middle.symm).trans List.perm_middle.symm)).trans List.perm_middle.symm)
def HSm (hs : HBL) : Prop := ∀ h ∈ hs, h.1.size ≤ 20 ∧ h.2.size ≤ 40
/-- What Reply of the statements' makers answers. -/
def GotPlay (w0 : World) (R : Blks) (s : ByteArray) (e : Ending) (w' : World) : Prop :=
  ∃ (code : Nat) (hs : HBL) (v : Value) (L : Blks) (body : ByteArray), e = .returned (.agg (rv code v body false).toArray) ∧ 100 ≤ code ∧ code ≤ 599 ∧ hs.length ≤ 7 ∧ HSm hs ∧ body.size ≤ 60 + s.size ∧ IsHeads v hs L ∧ Own w0 w' (L ++ R)
set_option maxRecDepth 100000 in
set_option maxHeartbeats 8000000 in
theorem preply_c {w0 w : World} {R : Blks} (hO : Own w0 w R) (n : Int) (v : Value) (xs : List Int) (hv : RdV w0 R v (xs.map (Value.int .i64))) (s : ByteArray) :
    Calls Tryd.prog 17 #[.int .i64 n, v, .string s] w (GotPlay w0 R s) := by
  obtain ⟨A, m, cp, rfl, hm, hmc, hA⟩ := hv w [] hO
  rw [List.length_map] at hm
  have HO := Lib.hid hO; have HV := Lib.hid hv; have HM := Lib.hid hm
  have q1 : ∀ w : World, _ := fun w => within_n (w := w) n 21 (by omega) (by omega)
  have hj : (n % 21).toNat < 21 := by omega
  generalize (n % 21).toNat = j at *
  obtain ⟨c, hc⟩ : ∃ c, playCodes[j]? = some c := ⟨_, List.getElem?_eq_getElem hj⟩
  have hcb := playCodes_ok c (List.mem_of_getElem? hc)
  obtain ⟨cn, rfl⟩ : ∃ cn : Nat, c = cn := ⟨c.toNat, by omega⟩
  have hc1 : 100 ≤ cn := by omega
  have hc2 : cn ≤ 599 := by omega
  have HC := Lib.hid hc; have Q1 := Lib.hid q1
  have hjI : (j : Int) < 21 := by omega
  clear q1 hc hcb hA hO hv hm
  go_enter Tryd.func17, Tryd.ntmps17
  go_wp2_with (refine wl_alloc rfl _ rfl HO.out _ (alloc_rrep _) ?_; intro g6 w1 hO; have HO1 := Lib.hid hO; clear hO HO)
  -- WALK
  generalize hwx : w1.alloc _ = w2
  have hO2 : Own w0 w2 ((w1.heap.size, .cells (playCodes.map (Value.int .i64)).toArray 3) :: (g6, Obj.cells (rv 0 (.slice none 0 0) ⟨#[]⟩ false).toArray 41) :: R) := by rw [← hwx]; exact HO1.out.alloc _
  have HO2 := Lib.hid hO2
  clear hwx hO2 HO1
  generalize w1.heap.size = gc at *
  with_reducible refine (Q1.out _).mono ?_
  rintro e wq ⟨rfl, hww⟩
  subst hww
  have hcc : w2.cell? ⟨gc, j, none⟩ = some (.int .i64 cn) := (HO2.out.cell (.head _) j).trans (by simp [HC.out])
  go_wp2_with (first | (refine wl_alloc rfl _ rfl HO2.out _ (alloc_rrep _) ?_; intro g8 w3 hO; have HO3 := Lib.hid hO; clear hO HO2 hcc) | (refine wl_store rfl _ _ _ rfl HO3.out 0 g8 0 _ (rv cn (.slice none 0 0) ⟨#[]⟩ false) _ rfl (by rfl) (by rfl) rrep_size (one_rv rfl) (by simp [rv]) ?_; intro w4 hO; have HO4 : Hid (Own w0 w4 ((g8, Obj.cells (rv cn (.slice none 0 0) ⟨#[]⟩ false).toArray 41) :: (g6, Obj.cells (rv 0 (.slice none 0 0) ⟨#[]⟩ false).toArray 41) :: ([] ++ R))) := Lib.hid ((hO.cast (L' := (g8, Obj.cells (rv cn (.slice none 0 0) ⟨#[]⟩ false).toArray 41) :: (gc, Obj.cells (playCodes.map (Value.int .i64)).toArray 3) :: (g6, Obj.cells (rv 0 (.slice none 0 0) ⟨#[]⟩ false).toArray 41) :: R) rfl).sub (List.Sublist.cons_cons _ (List.sublist_cons_self _ _))); clear hO HO3))
  go_loopw [9] (fun t w' => ∃ (i : Nat) (hs : HBL) (vv : Value) (L : Blks), i ≤ 5 ∧ t = .int .i64 i ∧ hs.length ≤ i ∧ Hid (HSm hs) ∧ Hid (IsHeads vv hs L) ∧ Hid (Own w0 w' ((g8, Obj.cells (rv cn vv ⟨#[]⟩ false).toArray 41) :: (g6, Obj.cells (rv 0 (.slice none 0 0) ⟨#[]⟩ false).toArray 41) :: (L ++ R)))) (fun t _ => 6 - (intOf t).toNat)
  case atStart => exact ⟨0, [], .slice none 0 0, [], by omega, rfl, Nat.le_refl _, Lib.hid (fun h hh => by cases hh), Lib.hid isHeads_nil, HO4⟩
  case round =>
    obtain ⟨i, hs, vv, L, hi, rfl, hil, HS, HH, HO5⟩ := hrel
    clear HO4
    obtain ⟨Ax, cx, hxe⟩ := IsRow.val HH.out
    subst hxe
    by_cases hlt : i < m
    · have hltI : (i : Int) < m := by omega
      have hcall6 := within_n (w := wr) (wrap64 (n.tdiv 21)) 6 (by omega) (by omega)
      have hk6 : (wrap64 (n.tdiv 21) % 6).toNat < 6 := by omega
      generalize (wrap64 (n.tdiv 21) % 6).toNat = k6 at *
      have HC6 := Lib.hid hcall6; clear hcall6
      go_wp2_with fail
      with_reducible refine HC6.out.mono ?_
      clear HC6
      rintro e wq ⟨rfl, hww⟩
      subst hww
      by_cases hik : (i : Int) < k6
      · go_wp2_with fail
        have him : i < xs.length := by rw [HM.out]; exact hlt
        obtain ⟨A', n', cp', e', hn', _, hA'⟩ := HV.out wr.drew ((g8, Obj.cells (rv cn (.slice Ax hs.length cx) ⟨#[]⟩ false).toArray 41) :: (g6, Obj.cells (rv 0 (.slice none 0 0) ⟨#[]⟩ false).toArray 41) :: L) HO5.out.drew
        cases e'
        obtain ⟨ad, rfl, _⟩ := hA' (by omega)
        have hrdi : ∀ w' Lx, Own w0 w' (Lx ++ R) → w'.cell? (ad.add i) = some (.int .i64 xs[i]) := fun w' Lx hx => HV.out.src hx i _ (by rw [List.getElem?_map, List.getElem?_eq_getElem him]; rfl)
        generalize xs[i] = y at *
        have HRDI := Lib.hid hrdi
        clear hrdi hA' hn' him
        refine wp_region_lin (fun w' => w'.cell? ⟨g8, 1, none⟩ = some (.slice Ax hs.length cx) ∧ w'.cell? (ad.add i) = some (.int .i64 y)) 8 [(0, true), (1, true), (2, true), (3, true), (4, true), (5, true), (6, false), (7, false)] (by kernel_rfl) (by kernel_rfl) (fun _ _ d _ _ h => by cases d <;> exact h) ⟨HO5.out.drew.cell (.head _) 1, HRDI.out _ ((g8, Obj.cells (rv cn (.slice Ax hs.length cx) ⟨#[]⟩ false).toArray 41) :: (g6, Obj.cells (rv 0 (.slice none 0 0) ⟨#[]⟩ false).toArray 41) :: L) HO5.out.drew⟩ ?_
        simp only [List.map_cons, List.map_nil, pick_zero, pick_succ, List.drop_succ_cons, List.drop_zero]
        iterate 6 (refine lin_q ?_ rfl ?_ ?_; rotate_left 1; (focus (rintro w' ⟨k1, k2⟩; go_simp; first | done | with_reducible rfl | (trace_state; fail))); simp only [Act.put, List.setIfInBounds_toArray, List.set_cons_zero, List.set_cons_succ])
        refine lin_act ?_
        refine wl_call rfl _ _ _ (by go_simp) (phead_c HO5.out.drew y ⟨#[]⟩ (by decide)) ?_
        rintro e wh ⟨⟨p, q⟩, rfl, hps, hqs, hO⟩
        have HO6 := Lib.hid hO; clear hO HO5
        refine ⟨_, rfl, LinPost.mk ⟨HO6.out.cell (.head _) 1, HRDI.out _ ((g8, Obj.cells (rv cn (.slice Ax hs.length cx) ⟨#[]⟩ false).toArray 41) :: (g6, Obj.cells (rv 0 (.slice none 0 0) ⟨#[]⟩ false).toArray 41) :: L) HO6.out⟩ ?_⟩
        simp only [Act.put, List.setIfInBounds_toArray, List.set_cons_zero, List.set_cons_succ]
        refine lin_act ?_
        refine wl_buildSlice rfl _ 1 [(0, _)] rfl HO6.out _ (build_heads1 _ p q) ?_
        intro gn wb hO
        have HO7 := Lib.hid hO; clear hO HO6
        refine LinPost.mk ⟨HO7.out.cell (.tail _ (.head _)) 1, HRDI.out _ ((gn, Obj.cells (hv2 (p, q)).toArray 30) :: (g8, Obj.cells (rv cn (.slice Ax hs.length cx) ⟨#[]⟩ false).toArray 41) :: (g6, Obj.cells (rv 0 (.slice none 0 0) ⟨#[]⟩ false).toArray 41) :: L) HO7.out⟩ ?_
        simp only [Act.put, List.setIfInBounds_toArray, List.set_cons_zero, List.set_cons_succ]
        refine lin_nil ?_
        have HO8 : Hid (Own w0 wb (L ++ ((gn, Obj.cells (hv2 (p, q)).toArray 30) :: (g8, Obj.cells (rv cn (.slice Ax hs.length cx) ⟨#[]⟩ false).toArray 41) :: (g6, Obj.cells (rv 0 (.slice none 0 0) ⟨#[]⟩ false).toArray 41) :: R))) := Lib.hid HO7.out.sink3
        clear HO7
        go_wp2_with (first | (refine wl_appendH1 rfl _ _ rfl (.slice Ax hs.length cx) hs (by rfl) HH.out HO8.out gn 1 (p, q) (by rfl) (.head _) (by omega) ?_; intro v2 wc L2 hv2 hO; have HO9 : Hid (Own w0 wc ((g8, Obj.cells (rv cn (.slice Ax hs.length cx) ⟨#[]⟩ false).toArray 41) :: (g6, Obj.cells (rv 0 (.slice none 0 0) ⟨#[]⟩ false).toArray 41) :: (L2 ++ R))) := Lib.hid hO.strike.rise2; obtain ⟨A2, c2, hve⟩ := IsRow.val hv2; rw [List.length_append, List.length_singleton] at hve; subst hve; have HV2 : Hid (IsHeads (.slice A2 (hs.length + 1) c2) (hs ++ [(p, q)]) L2) := Lib.hid hv2; clear hO hv2 HO8) | (refine wl_store1 rfl _ _ _ rfl HO9.out 0 g8 1 _ (.slice A2 (hs.length + 1) c2) _ rfl (by rfl) (by rfl) (by rfl) (by kernel_rfl) (by rfl) (by simp [rv]) ?_; intro wd hO; have HO10 := Lib.hid (hO.cast (L' := (g8, Obj.cells (rv cn (.slice A2 (hs.length + 1) c2) ⟨#[]⟩ false).toArray 41) :: (g6, Obj.cells (rv 0 (.slice none 0 0) ⟨#[]⟩ false).toArray 41) :: (L2 ++ R)) rfl); clear hO HO9))
        go_roundw
        case rel => exact ⟨i + 1, hs ++ [(p, q)], _, L2, by omega, by go_num, by rw [List.length_append, List.length_singleton]; omega, Lib.hid (fun h hh => by rcases List.mem_append.1 hh with hh | hh; exact HS.out h hh; rw [List.mem_singleton] at hh; subst hh; exact ⟨hps, hqs⟩), HV2, HO10⟩
        case measure => simp [intOf] <;> omega
      · skip
        have hcall3 := within_n (w := wr) (wrap64 (n.tdiv 7)) 3 (by omega) (by omega)
        generalize (wrap64 (n.tdiv 7) % 3).toNat = k3 at *
        have HC3 := Lib.hid hcall3; clear hcall3
        go_wp2_with fail
        with_reducible refine HC3.out.mono ?_
        clear HC3
        rintro e wq ⟨rfl, hww⟩
        subst hww
        by_cases hk3 : (0 : Int) < k3
        · have hc1 := HO5.out.cell (.head _) 1
          simp only [rv, List.getElem?_toArray, List.getElem?_cons_succ, List.getElem?_cons_zero] at hc1
          have HOS := Lib.hid HO5.out.sink2; clear HO5
          go_wp2_with (first | (refine wl_appendH1 rfl _ _ rfl (.slice Ax hs.length cx) hs (by rfl) HH.out (HOS.out.put2 (.cells #[.string ⟨#[97, 108, 108, 111, 119, 45, 111, 114, 105, 103, 105, 110]⟩, .string ⟨#[42]⟩] 30)) wr.heap.size 1 (⟨#[97, 108, 108, 111, 119, 45, 111, 114, 105, 103, 105, 110]⟩, ⟨#[42]⟩) (by rfl) (.head _) (by omega) ?_; intro v2 wf L2 hv2 hO; have HOf : Hid (Own w0 wf ((g8, Obj.cells (rv cn (.slice Ax hs.length cx) ⟨#[]⟩ false).toArray 41) :: (g6, Obj.cells (rv 0 (.slice none 0 0) ⟨#[]⟩ false).toArray 41) :: (L2 ++ R))) := Lib.hid hO.strike.rise2; obtain ⟨A2, c2, hve⟩ := IsRow.val hv2; rw [List.length_append, List.length_singleton] at hve; subst hve; have HV2 : Hid (IsHeads (.slice A2 (hs.length + 1) c2) (hs ++ [(⟨#[97, 108, 108, 111, 119, 45, 111, 114, 105, 103, 105, 110]⟩, ⟨#[42]⟩)]) L2) := Lib.hid hv2; clear hO hv2 HOS hc1) | (refine wl_store1 rfl _ _ _ rfl HOf.out 0 g8 1 _ (.slice A2 (hs.length + 1) c2) _ rfl (by rfl) (by rfl) (by rfl) (by kernel_rfl) (by rfl) (by simp [rv]) ?_; intro wg hO; have HOg := Lib.hid (hO.cast (L' := (g8, Obj.cells (rv cn (.slice A2 (hs.length + 1) c2) ⟨#[]⟩ false).toArray 41) :: (g6, Obj.cells (rv 0 (.slice none 0 0) ⟨#[]⟩ false).toArray 41) :: (L2 ++ R)) rfl); clear hO HOf))
          go_wp2_with fail
          generalize hwx : World.alloc _ _ = wa
          have hOa : Own w0 wa ((wg.heap.size, .cells (playSizes.map (Value.int .i64)).toArray 3) :: (g8, Obj.cells (rv cn (.slice A2 (hs.length + 1) c2) ⟨#[]⟩ false).toArray 41) :: (g6, Obj.cells (rv 0 (.slice none 0 0) ⟨#[]⟩ false).toArray 41) :: (L2 ++ R)) := by rw [← hwx]; exact HOg.out.alloc _
          have HOa := Lib.hid hOa
          clear hwx hOa HOg
          have hcall7 := within_n (w := wa) (wrap64 (n.tdiv 5)) 7 (by omega) (by omega)
          have hk7 : (wrap64 (n.tdiv 5) % 7).toNat < 7 := by omega
          generalize (wrap64 (n.tdiv 5) % 7).toNat = k7 at *
          obtain ⟨z, hz⟩ : ∃ z, playSizes[k7]? = some z := ⟨_, List.getElem?_eq_getElem hk7⟩
          have hzb := playSizes_ok z (List.mem_of_getElem? hz)
          obtain ⟨zn, rfl⟩ : ∃ zn : Nat, z = zn := ⟨z.toNat, by omega⟩
          have hz60 : zn ≤ 60 := by omega
          have hk7I : (k7 : Int) < 7 := by omega
          with_reducible refine hcall7.mono ?_
          clear hcall7 hzb
          rintro e wq ⟨rfl, hww⟩
          subst hww
          have hcz : wa.cell? ⟨wg.heap.size, k7, none⟩ = some (Value.int .i64 zn) := (HOa.out.cell (.head _) k7).trans (by simp [hz])
          clear hz
          go_wp2_with fail
          have HOb := Lib.hid HOa.out.tail; clear HOa hcz
          have hby := bytes_c HOb.out 99 zn (by omega)
          with_reducible refine hby.mono ?_
          clear hby
          rintro e wc ⟨bv, Lb, rfl, hbr, hO⟩
          have hcv := convert_str (hbr.bs hO)
          have hbs : (strOfNums (pbytes 99 zn)).size ≤ 60 := by rw [strOfNums_size, length_pbytes]; exact hz60
          generalize strOfNums (pbytes 99 zn) = bd at *
          have HOc := Lib.hid hO.right; clear hO HOb hbr
          go_wp2_with (refine wl_store1 rfl _ _ _ rfl HOc.out 0 g8 2 _ (.string bd) _ rfl (by rfl) (by rfl) (by rfl) (by kernel_rfl) (by rfl) (by simp [rv]) ?_; intro wd hO; have HOd := Lib.hid (hO.cast (L' := (g8, Obj.cells (rv cn (.slice A2 (hs.length + 1) c2) bd false).toArray 41) :: (g6, Obj.cells (rv 0 (.slice none 0 0) ⟨#[]⟩ false).toArray 41) :: (L2 ++ R)) rfl); clear hO HOc)
          have hcall5 := within_n (w := wd) n 50 (by omega) (by omega)
          generalize (n % 50).toNat = k5 at *
          with_reducible refine hcall5.mono ?_
          clear hcall5 hcv
          rintro e wq ⟨rfl, hww⟩
          subst hww
          by_cases h49 : (k5 : Int) = 49
          · have h49' : ((k5 : Int) == 49) = true := beq_iff_eq.2 h49
            clear h49
            go_wp2_with (first | (refine wl_store1 rfl _ _ _ rfl HOd.out 0 g8 2 _ (.string s) _ rfl (by rfl) (by rfl) (by rfl) (by kernel_rfl) (by rfl) (by simp [rv]) ?_; intro we hO; have HOe := Lib.hid (hO.cast (L' := (g8, Obj.cells (rv cn (.slice A2 (hs.length + 1) c2) s false).toArray 41) :: (g6, Obj.cells (rv 0 (.slice none 0 0) ⟨#[]⟩ false).toArray 41) :: (L2 ++ R)) rfl); clear hO HOd) | (refine wl_load rfl _ _ rfl g8 0 (rv cn (.slice A2 (hs.length + 1) c2) s false) (rv cn (.slice A2 (hs.length + 1) c2) s false) _ (HOe.out.heap (.head _)) (by rfl) _ Tryd.underlying41 rfl rrep_size (by rfl) ?_) | (refine wl_store rfl _ _ _ rfl HOe.out 1 g6 0 _ (rv cn (.slice A2 (hs.length + 1) c2) s false) _ rfl (by rfl) (by rfl) rrep_size (one_rv rfl) (by simp [rv]) ?_; intro wz hO; have HZ := Lib.hid (hO.cast (L' := (g8, Obj.cells (rv cn (.slice A2 (hs.length + 1) c2) s false).toArray 41) :: (g6, Obj.cells (rv cn (.slice A2 (hs.length + 1) c2) s false).toArray 41) :: (L2 ++ R)) rfl); clear hO HOe))
            have hc0 : wz.cell? ⟨g6, 0, none⟩ = some (.int .i64 cn) := HZ.out.cell (.tail _ (.head _)) 0
            have hc1 : wz.cell? ⟨g6, 1, none⟩ = some ((.slice A2 (hs.length + 1) c2)) := HZ.out.cell (.tail _ (.head _)) 1
            have hc2 : wz.cell? ⟨g6, 2, none⟩ = some (.string s) := HZ.out.cell (.tail _ (.head _)) 2
            have hc3 : wz.cell? ⟨g6, 3, none⟩ = some (.bool false) := HZ.out.cell (.tail _ (.head _)) 3
            exact bodyPost_ret (v := .agg #[.int .i64 cn, (.slice A2 (hs.length + 1) c2), .string s, .bool false]) (by simp [results, Tryd.results17, go_sem, hc0, hc1, hc2, hc3]) rfl ⟨cn, (hs ++ [(⟨#[97, 108, 108, 111, 119, 45, 111, 114, 105, 103, 105, 110]⟩, ⟨#[42]⟩)]), (.slice A2 (hs.length + 1) c2), L2, s, rfl, by omega, by omega, by first | omega | (rw [List.length_append, List.length_singleton]; omega), (fun h hh => by rcases List.mem_append.1 hh with hh | hh; exact HS.out h hh; rw [List.mem_singleton] at hh; subst hh; decide), by omega, HV2.out, HZ.out.tail.tail⟩
          · have h49' : ((k5 : Int) == 49) = false := beq_eq_false_iff_ne.2 h49
            clear h49
            go_wp2_with (first | (refine wl_load rfl _ _ rfl g8 0 (rv cn (.slice A2 (hs.length + 1) c2) bd false) (rv cn (.slice A2 (hs.length + 1) c2) bd false) _ (HOd.out.heap (.head _)) (by rfl) _ Tryd.underlying41 rfl rrep_size (by rfl) ?_) | (refine wl_store rfl _ _ _ rfl HOd.out 1 g6 0 _ (rv cn (.slice A2 (hs.length + 1) c2) bd false) _ rfl (by rfl) (by rfl) rrep_size (one_rv rfl) (by simp [rv]) ?_; intro wz hO; have HZ := Lib.hid (hO.cast (L' := (g8, Obj.cells (rv cn (.slice A2 (hs.length + 1) c2) bd false).toArray 41) :: (g6, Obj.cells (rv cn (.slice A2 (hs.length + 1) c2) bd false).toArray 41) :: (L2 ++ R)) rfl); clear hO HOd))
            have hc0 : wz.cell? ⟨g6, 0, none⟩ = some (.int .i64 cn) := HZ.out.cell (.tail _ (.head _)) 0
            have hc1 : wz.cell? ⟨g6, 1, none⟩ = some ((.slice A2 (hs.length + 1) c2)) := HZ.out.cell (.tail _ (.head _)) 1
            have hc2 : wz.cell? ⟨g6, 2, none⟩ = some (.string bd) := HZ.out.cell (.tail _ (.head _)) 2
            have hc3 : wz.cell? ⟨g6, 3, none⟩ = some (.bool false) := HZ.out.cell (.tail _ (.head _)) 3
            exact bodyPost_ret (v := .agg #[.int .i64 cn, (.slice A2 (hs.length + 1) c2), .string bd, .bool false]) (by simp [results, Tryd.results17, go_sem, hc0, hc1, hc2, hc3]) rfl ⟨cn, (hs ++ [(⟨#[97, 108, 108, 111, 119, 45, 111, 114, 105, 103, 105, 110]⟩, ⟨#[42]⟩)]), (.slice A2 (hs.length + 1) c2), L2, bd, rfl, by omega, by omega, by first | omega | (rw [List.length_append, List.length_singleton]; omega), (fun h hh => by rcases List.mem_append.1 hh with hh | hh; exact HS.out h hh; rw [List.mem_singleton] at hh; subst hh; decide), by omega, HV2.out, HZ.out.tail.tail⟩
        · skip
          go_wp2_with fail
          generalize hwx : World.alloc _ _ = wa
          have hOa : Own w0 wa ((wr.heap.size, .cells (playSizes.map (Value.int .i64)).toArray 3) :: (g8, Obj.cells (rv cn (.slice Ax hs.length cx) ⟨#[]⟩ false).toArray 41) :: (g6, Obj.cells (rv 0 (.slice none 0 0) ⟨#[]⟩ false).toArray 41) :: (L ++ R)) := by rw [← hwx]; exact HO5.out.alloc _
          have HOa := Lib.hid hOa
          clear hwx hOa HO5
          have hcall7 := within_n (w := wa) (wrap64 (n.tdiv 5)) 7 (by omega) (by omega)
          have hk7 : (wrap64 (n.tdiv 5) % 7).toNat < 7 := by omega
          generalize (wrap64 (n.tdiv 5) % 7).toNat = k7 at *
          obtain ⟨z, hz⟩ : ∃ z, playSizes[k7]? = some z := ⟨_, List.getElem?_eq_getElem hk7⟩
          have hzb := playSizes_ok z (List.mem_of_getElem? hz)
          obtain ⟨zn, rfl⟩ : ∃ zn : Nat, z = zn := ⟨z.toNat, by omega⟩
          have hz60 : zn ≤ 60 := by omega
          have hk7I : (k7 : Int) < 7 := by omega
          with_reducible refine hcall7.mono ?_
          clear hcall7 hzb
          rintro e wq ⟨rfl, hww⟩
          subst hww
          have hcz : wa.cell? ⟨wr.heap.size, k7, none⟩ = some (Value.int .i64 zn) := (HOa.out.cell (.head _) k7).trans (by simp [hz])
          clear hz
          go_wp2_with fail
          have HOb := Lib.hid HOa.out.tail; clear HOa hcz
          have hby := bytes_c HOb.out 99 zn (by omega)
          with_reducible refine hby.mono ?_
          clear hby
          rintro e wc ⟨bv, Lb, rfl, hbr, hO⟩
          have hcv := convert_str (hbr.bs hO)
          have hbs : (strOfNums (pbytes 99 zn)).size ≤ 60 := by rw [strOfNums_size, length_pbytes]; exact hz60
          generalize strOfNums (pbytes 99 zn) = bd at *
          have HOc := Lib.hid hO.right; clear hO HOb hbr
          go_wp2_with (refine wl_store1 rfl _ _ _ rfl HOc.out 0 g8 2 _ (.string bd) _ rfl (by rfl) (by rfl) (by rfl) (by kernel_rfl) (by rfl) (by simp [rv]) ?_; intro wd hO; have HOd := Lib.hid (hO.cast (L' := (g8, Obj.cells (rv cn (.slice Ax hs.length cx) bd false).toArray 41) :: (g6, Obj.cells (rv 0 (.slice none 0 0) ⟨#[]⟩ false).toArray 41) :: (L ++ R)) rfl); clear hO HOc)
          have hcall5 := within_n (w := wd) n 50 (by omega) (by omega)
          generalize (n % 50).toNat = k5 at *
          with_reducible refine hcall5.mono ?_
          clear hcall5 hcv
          rintro e wq ⟨rfl, hww⟩
          subst hww
          by_cases h49 : (k5 : Int) = 49
          · have h49' : ((k5 : Int) == 49) = true := beq_iff_eq.2 h49
            clear h49
            go_wp2_with (first | (refine wl_store1 rfl _ _ _ rfl HOd.out 0 g8 2 _ (.string s) _ rfl (by rfl) (by rfl) (by rfl) (by kernel_rfl) (by rfl) (by simp [rv]) ?_; intro we hO; have HOe := Lib.hid (hO.cast (L' := (g8, Obj.cells (rv cn (.slice Ax hs.length cx) s false).toArray 41) :: (g6, Obj.cells (rv 0 (.slice none 0 0) ⟨#[]⟩ false).toArray 41) :: (L ++ R)) rfl); clear hO HOd) | (refine wl_load rfl _ _ rfl g8 0 (rv cn (.slice Ax hs.length cx) s false) (rv cn (.slice Ax hs.length cx) s false) _ (HOe.out.heap (.head _)) (by rfl) _ Tryd.underlying41 rfl rrep_size (by rfl) ?_) | (refine wl_store rfl _ _ _ rfl HOe.out 1 g6 0 _ (rv cn (.slice Ax hs.length cx) s false) _ rfl (by rfl) (by rfl) rrep_size (one_rv rfl) (by simp [rv]) ?_; intro wz hO; have HZ := Lib.hid (hO.cast (L' := (g8, Obj.cells (rv cn (.slice Ax hs.length cx) s false).toArray 41) :: (g6, Obj.cells (rv cn (.slice Ax hs.length cx) s false).toArray 41) :: (L ++ R)) rfl); clear hO HOe))
            have hc0 : wz.cell? ⟨g6, 0, none⟩ = some (.int .i64 cn) := HZ.out.cell (.tail _ (.head _)) 0
            have hc1 : wz.cell? ⟨g6, 1, none⟩ = some ((.slice Ax hs.length cx)) := HZ.out.cell (.tail _ (.head _)) 1
            have hc2 : wz.cell? ⟨g6, 2, none⟩ = some (.string s) := HZ.out.cell (.tail _ (.head _)) 2
            have hc3 : wz.cell? ⟨g6, 3, none⟩ = some (.bool false) := HZ.out.cell (.tail _ (.head _)) 3
            exact bodyPost_ret (v := .agg #[.int .i64 cn, (.slice Ax hs.length cx), .string s, .bool false]) (by simp [results, Tryd.results17, go_sem, hc0, hc1, hc2, hc3]) rfl ⟨cn, hs, (.slice Ax hs.length cx), L, s, rfl, by omega, by omega, by first | omega | (rw [List.length_append, List.length_singleton]; omega), HS.out, by omega, HH.out, HZ.out.tail.tail⟩
          · have h49' : ((k5 : Int) == 49) = false := beq_eq_false_iff_ne.2 h49
            clear h49
            go_wp2_with (first | (refine wl_load rfl _ _ rfl g8 0 (rv cn (.slice Ax hs.length cx) bd false) (rv cn (.slice Ax hs.length cx) bd false) _ (HOd.out.heap (.head _)) (by rfl) _ Tryd.underlying41 rfl rrep_size (by rfl) ?_) | (refine wl_store rfl _ _ _ rfl HOd.out 1 g6 0 _ (rv cn (.slice Ax hs.length cx) bd false) _ rfl (by rfl) (by rfl) rrep_size (one_rv rfl) (by simp [rv]) ?_; intro wz hO; have HZ := Lib.hid (hO.cast (L' := (g8, Obj.cells (rv cn (.slice Ax hs.length cx) bd false).toArray 41) :: (g6, Obj.cells (rv cn (.slice Ax hs.length cx) bd false).toArray 41) :: (L ++ R)) rfl); clear hO HOd))
            have hc0 : wz.cell? ⟨g6, 0, none⟩ = some (.int .i64 cn) := HZ.out.cell (.tail _ (.head _)) 0
            have hc1 : wz.cell? ⟨g6, 1, none⟩ = some ((.slice Ax hs.length cx)) := HZ.out.cell (.tail _ (.head _)) 1
            have hc2 : wz.cell? ⟨g6, 2, none⟩ = some (.string bd) := HZ.out.cell (.tail _ (.head _)) 2
            have hc3 : wz.cell? ⟨g6, 3, none⟩ = some (.bool false) := HZ.out.cell (.tail _ (.head _)) 3
            exact bodyPost_ret (v := .agg #[.int .i64 cn, (.slice Ax hs.length cx), .string bd, .bool false]) (by simp [results, Tryd.results17, go_sem, hc0, hc1, hc2, hc3]) rfl ⟨cn, hs, (.slice Ax hs.length cx), L, bd, rfl, by omega, by omega, by first | omega | (rw [List.length_append, List.length_singleton]; omega), HS.out, by omega, HH.out, HZ.out.tail.tail⟩
    · have hltI : ¬ (i : Int) < m := by omega
      have hcall3 := within_n (w := wr) (wrap64 (n.tdiv 7)) 3 (by omega) (by omega)
      generalize (wrap64 (n.tdiv 7) % 3).toNat = k3 at *
      have HC3 := Lib.hid hcall3; clear hcall3
      go_wp2_with fail
      with_reducible refine HC3.out.mono ?_
      clear HC3
      rintro e wq ⟨rfl, hww⟩
      subst hww
      by_cases hk3 : (0 : Int) < k3
      · have hc1 := HO5.out.cell (.head _) 1
        simp only [rv, List.getElem?_toArray, List.getElem?_cons_succ, List.getElem?_cons_zero] at hc1
        have HOS := Lib.hid HO5.out.sink2; clear HO5
        go_wp2_with (first | (refine wl_appendH1 rfl _ _ rfl (.slice Ax hs.length cx) hs (by rfl) HH.out (HOS.out.put2 (.cells #[.string ⟨#[97, 108, 108, 111, 119, 45, 111, 114, 105, 103, 105, 110]⟩, .string ⟨#[42]⟩] 30)) wr.heap.size 1 (⟨#[97, 108, 108, 111, 119, 45, 111, 114, 105, 103, 105, 110]⟩, ⟨#[42]⟩) (by rfl) (.head _) (by omega) ?_; intro v2 wf L2 hv2 hO; have HOf : Hid (Own w0 wf ((g8, Obj.cells (rv cn (.slice Ax hs.length cx) ⟨#[]⟩ false).toArray 41) :: (g6, Obj.cells (rv 0 (.slice none 0 0) ⟨#[]⟩ false).toArray 41) :: (L2 ++ R))) := Lib.hid hO.strike.rise2; obtain ⟨A2, c2, hve⟩ := IsRow.val hv2; rw [List.length_append, List.length_singleton] at hve; subst hve; have HV2 : Hid (IsHeads (.slice A2 (hs.length + 1) c2) (hs ++ [(⟨#[97, 108, 108, 111, 119, 45, 111, 114, 105, 103, 105, 110]⟩, ⟨#[42]⟩)]) L2) := Lib.hid hv2; clear hO hv2 HOS hc1) | (refine wl_store1 rfl _ _ _ rfl HOf.out 0 g8 1 _ (.slice A2 (hs.length + 1) c2) _ rfl (by rfl) (by rfl) (by rfl) (by kernel_rfl) (by rfl) (by simp [rv]) ?_; intro wg hO; have HOg := Lib.hid (hO.cast (L' := (g8, Obj.cells (rv cn (.slice A2 (hs.length + 1) c2) ⟨#[]⟩ false).toArray 41) :: (g6, Obj.cells (rv 0 (.slice none 0 0) ⟨#[]⟩ false).toArray 41) :: (L2 ++ R)) rfl); clear hO HOf))
        go_wp2_with fail
        generalize hwx : World.alloc _ _ = wa
        have hOa : Own w0 wa ((wg.heap.size, .cells (playSizes.map (Value.int .i64)).toArray 3) :: (g8, Obj.cells (rv cn (.slice A2 (hs.length + 1) c2) ⟨#[]⟩ false).toArray 41) :: (g6, Obj.cells (rv 0 (.slice none 0 0) ⟨#[]⟩ false).toArray 41) :: (L2 ++ R)) := by rw [← hwx]; exact HOg.out.alloc _
        have HOa := Lib.hid hOa
        clear hwx hOa HOg
        have hcall7 := within_n (w := wa) (wrap64 (n.tdiv 5)) 7 (by omega) (by omega)
        have hk7 : (wrap64 (n.tdiv 5) % 7).toNat < 7 := by omega
        generalize (wrap64 (n.tdiv 5) % 7).toNat = k7 at *
        obtain ⟨z, hz⟩ : ∃ z, playSizes[k7]? = some z := ⟨_, List.getElem?_eq_getElem hk7⟩
        have hzb := playSizes_ok z (List.mem_of_getElem? hz)
        obtain ⟨zn, rfl⟩ : ∃ zn : Nat, z = zn := ⟨z.toNat, by omega⟩
        have hz60 : zn ≤ 60 := by omega
        have hk7I : (k7 : Int) < 7 := by omega
        with_reducible refine hcall7.mono ?_
        clear hcall7 hzb
        rintro e wq ⟨rfl, hww⟩
        subst hww
        have hcz : wa.cell? ⟨wg.heap.size, k7, none⟩ = some (Value.int .i64 zn) := (HOa.out.cell (.head _) k7).trans (by simp [hz])
        clear hz
        go_wp2_with fail
        have HOb := Lib.hid HOa.out.tail; clear HOa hcz
        have hby := bytes_c HOb.out 99 zn (by omega)
        with_reducible refine hby.mono ?_
        clear hby
        rintro e wc ⟨bv, Lb, rfl, hbr, hO⟩
        have hcv := convert_str (hbr.bs hO)
        have hbs : (strOfNums (pbytes 99 zn)).size ≤ 60 := by rw [strOfNums_size, length_pbytes]; exact hz60
        generalize strOfNums (pbytes 99 zn) = bd at *
        have HOc := Lib.hid hO.right; clear hO HOb hbr
        go_wp2_with (refine wl_store1 rfl _ _ _ rfl HOc.out 0 g8 2 _ (.string bd) _ rfl (by rfl) (by rfl) (by rfl) (by kernel_rfl) (by rfl) (by simp [rv]) ?_; intro wd hO; have HOd := Lib.hid (hO.cast (L' := (g8, Obj.cells (rv cn (.slice A2 (hs.length + 1) c2) bd false).toArray 41) :: (g6, Obj.cells (rv 0 (.slice none 0 0) ⟨#[]⟩ false).toArray 41) :: (L2 ++ R)) rfl); clear hO HOc)
        have hcall5 := within_n (w := wd) n 50 (by omega) (by omega)
        generalize (n % 50).toNat = k5 at *
        with_reducible refine hcall5.mono ?_
        clear hcall5 hcv
        rintro e wq ⟨rfl, hww⟩
        subst hww
        by_cases h49 : (k5 : Int) = 49
        · have h49' : ((k5 : Int) == 49) = true := beq_iff_eq.2 h49
          clear h49
          go_wp2_with (first | (refine wl_store1 rfl _ _ _ rfl HOd.out 0 g8 2 _ (.string s) _ rfl (by rfl) (by rfl) (by rfl) (by kernel_rfl) (by rfl) (by simp [rv]) ?_; intro we hO; have HOe := Lib.hid (hO.cast (L' := (g8, Obj.cells (rv cn (.slice A2 (hs.length + 1) c2) s false).toArray 41) :: (g6, Obj.cells (rv 0 (.slice none 0 0) ⟨#[]⟩ false).toArray 41) :: (L2 ++ R)) rfl); clear hO HOd) | (refine wl_load rfl _ _ rfl g8 0 (rv cn (.slice A2 (hs.length + 1) c2) s false) (rv cn (.slice A2 (hs.length + 1) c2) s false) _ (HOe.out.heap (.head _)) (by rfl) _ Tryd.underlying41 rfl rrep_size (by rfl) ?_) | (refine wl_store rfl _ _ _ rfl HOe.out 1 g6 0 _ (rv cn (.slice A2 (hs.length + 1) c2) s false) _ rfl (by rfl) (by rfl) rrep_size (one_rv rfl) (by simp [rv]) ?_; intro wz hO; have HZ := Lib.hid (hO.cast (L' := (g8, Obj.cells (rv cn (.slice A2 (hs.length + 1) c2) s false).toArray 41) :: (g6, Obj.cells (rv cn (.slice A2 (hs.length + 1) c2) s false).toArray 41) :: (L2 ++ R)) rfl); clear hO HOe))
          have hc0 : wz.cell? ⟨g6, 0, none⟩ = some (.int .i64 cn) := HZ.out.cell (.tail _ (.head _)) 0
          have hc1 : wz.cell? ⟨g6, 1, none⟩ = some ((.slice A2 (hs.length + 1) c2)) := HZ.out.cell (.tail _ (.head _)) 1
          have hc2 : wz.cell? ⟨g6, 2, none⟩ = some (.string s) := HZ.out.cell (.tail _ (.head _)) 2
          have hc3 : wz.cell? ⟨g6, 3, none⟩ = some (.bool false) := HZ.out.cell (.tail _ (.head _)) 3
          exact bodyPost_ret (v := .agg #[.int .i64 cn, (.slice A2 (hs.length + 1) c2), .string s, .bool false]) (by simp [results, Tryd.results17, go_sem, hc0, hc1, hc2, hc3]) rfl ⟨cn, (hs ++ [(⟨#[97, 108, 108, 111, 119, 45, 111, 114, 105, 103, 105, 110]⟩, ⟨#[42]⟩)]), (.slice A2 (hs.length + 1) c2), L2, s, rfl, by omega, by omega, by first | omega | (rw [List.length_append, List.length_singleton]; omega), (fun h hh => by rcases List.mem_append.1 hh with hh | hh; exact HS.out h hh; rw [List.mem_singleton] at hh; subst hh; decide), by omega, HV2.out, HZ.out.tail.tail⟩
        · have h49' : ((k5 : Int) == 49) = false := beq_eq_false_iff_ne.2 h49
          clear h49
          go_wp2_with (first | (refine wl_load rfl _ _ rfl g8 0 (rv cn (.slice A2 (hs.length + 1) c2) bd false) (rv cn (.slice A2 (hs.length + 1) c2) bd false) _ (HOd.out.heap (.head _)) (by rfl) _ Tryd.underlying41 rfl rrep_size (by rfl) ?_) | (refine wl_store rfl _ _ _ rfl HOd.out 1 g6 0 _ (rv cn (.slice A2 (hs.length + 1) c2) bd false) _ rfl (by rfl) (by rfl) rrep_size (one_rv rfl) (by simp [rv]) ?_; intro wz hO; have HZ := Lib.hid (hO.cast (L' := (g8, Obj.cells (rv cn (.slice A2 (hs.length + 1) c2) bd false).toArray 41) :: (g6, Obj.cells (rv cn (.slice A2 (hs.length + 1) c2) bd false).toArray 41) :: (L2 ++ R)) rfl); clear hO HOd))
          have hc0 : wz.cell? ⟨g6, 0, none⟩ = some (.int .i64 cn) := HZ.out.cell (.tail _ (.head _)) 0
          have hc1 : wz.cell? ⟨g6, 1, none⟩ = some ((.slice A2 (hs.length + 1) c2)) := HZ.out.cell (.tail _ (.head _)) 1
          have hc2 : wz.cell? ⟨g6, 2, none⟩ = some (.string bd) := HZ.out.cell (.tail _ (.head _)) 2
          have hc3 : wz.cell? ⟨g6, 3, none⟩ = some (.bool false) := HZ.out.cell (.tail _ (.head _)) 3
          exact bodyPost_ret (v := .agg #[.int .i64 cn, (.slice A2 (hs.length + 1) c2), .string bd, .bool false]) (by simp [results, Tryd.results17, go_sem, hc0, hc1, hc2, hc3]) rfl ⟨cn, (hs ++ [(⟨#[97, 108, 108, 111, 119, 45, 111, 114, 105, 103, 105, 110]⟩, ⟨#[42]⟩)]), (.slice A2 (hs.length + 1) c2), L2, bd, rfl, by omega, by omega, by first | omega | (rw [List.length_append, List.length_singleton]; omega), (fun h hh => by rcases List.mem_append.1 hh with hh | hh; exact HS.out h hh; rw [List.mem_singleton] at hh; subst hh; decide), by omega, HV2.out, HZ.out.tail.tail⟩
      · skip
        go_wp2_with fail
        generalize hwx : World.alloc _ _ = wa
        have hOa : Own w0 wa ((wr.heap.size, .cells (playSizes.map (Value.int .i64)).toArray 3) :: (g8, Obj.cells (rv cn (.slice Ax hs.length cx) ⟨#[]⟩ false).toArray 41) :: (g6, Obj.cells (rv 0 (.slice none 0 0) ⟨#[]⟩ false).toArray 41) :: (L ++ R)) := by rw [← hwx]; exact HO5.out.alloc _
        have HOa := Lib.hid hOa
        clear hwx hOa HO5
        have hcall7 := within_n (w := wa) (wrap64 (n.tdiv 5)) 7 (by omega) (by omega)
        have hk7 : (wrap64 (n.tdiv 5) % 7).toNat < 7 := by omega
        generalize (wrap64 (n.tdiv 5) % 7).toNat = k7 at *
        obtain ⟨z, hz⟩ : ∃ z, playSizes[k7]? = some z := ⟨_, List.getElem?_eq_getElem hk7⟩
        have hzb := playSizes_ok z (List.mem_of_getElem? hz)
        obtain ⟨zn, rfl⟩ : ∃ zn : Nat, z = zn := ⟨z.toNat, by omega⟩
        have hz60 : zn ≤ 60 := by omega
        have hk7I : (k7 : Int) < 7 := by omega
        with_reducible refine hcall7.mono ?_
        clear hcall7 hzb
        rintro e wq ⟨rfl, hww⟩
        subst hww
        have hcz : wa.cell? ⟨wr.heap.size, k7, none⟩ = some (Value.int .i64 zn) := (HOa.out.cell (.head _) k7).trans (by simp [hz])
        clear hz
        go_wp2_with fail
        have HOb := Lib.hid HOa.out.tail; clear HOa hcz
        have hby := bytes_c HOb.out 99 zn (by omega)
        with_reducible refine hby.mono ?_
        clear hby
        rintro e wc ⟨bv, Lb, rfl, hbr, hO⟩
        have hcv := convert_str (hbr.bs hO)
        have hbs : (strOfNums (pbytes 99 zn)).size ≤ 60 := by rw [strOfNums_size, length_pbytes]; exact hz60
        generalize strOfNums (pbytes 99 zn) = bd at *
        have HOc := Lib.hid hO.right; clear hO HOb hbr
        go_wp2_with (refine wl_store1 rfl _ _ _ rfl HOc.out 0 g8 2 _ (.string bd) _ rfl (by rfl) (by rfl) (by rfl) (by kernel_rfl) (by rfl) (by simp [rv]) ?_; intro wd hO; have HOd := Lib.hid (hO.cast (L' := (g8, Obj.cells (rv cn (.slice Ax hs.length cx) bd false).toArray 41) :: (g6, Obj.cells (rv 0 (.slice none 0 0) ⟨#[]⟩ false).toArray 41) :: (L ++ R)) rfl); clear hO HOc)
        have hcall5 := within_n (w := wd) n 50 (by omega) (by omega)
        generalize (n % 50).toNat = k5 at *
        with_reducible refine hcall5.mono ?_
        clear hcall5 hcv
        rintro e wq ⟨rfl, hww⟩
        subst hww
        by_cases h49 : (k5 : Int) = 49
        · have h49' : ((k5 : Int) == 49) = true := beq_iff_eq.2 h49
          clear h49
          go_wp2_with (first | (refine wl_store1 rfl _ _ _ rfl HOd.out 0 g8 2 _ (.string s) _ rfl (by rfl) (by rfl) (by rfl) (by kernel_rfl) (by rfl) (by simp [rv]) ?_; intro we hO; have HOe := Lib.hid (hO.cast (L' := (g8, Obj.cells (rv cn (.slice Ax hs.length cx) s false).toArray 41) :: (g6, Obj.cells (rv 0 (.slice none 0 0) ⟨#[]⟩ false).toArray 41) :: (L ++ R)) rfl); clear hO HOd) | (refine wl_load rfl _ _ rfl g8 0 (rv cn (.slice Ax hs.length cx) s false) (rv cn (.slice Ax hs.length cx) s false) _ (HOe.out.heap (.head _)) (by rfl) _ Tryd.underlying41 rfl rrep_size (by rfl) ?_) | (refine wl_store rfl _ _ _ rfl HOe.out 1 g6 0 _ (rv cn (.slice Ax hs.length cx) s false) _ rfl (by rfl) (by rfl) rrep_size (one_rv rfl) (by simp [rv]) ?_; intro wz hO; have HZ := Lib.hid (hO.cast (L' := (g8, Obj.cells (rv cn (.slice Ax hs.length cx) s false).toArray 41) :: (g6, Obj.cells (rv cn (.slice Ax hs.length cx) s false).toArray 41) :: (L ++ R)) rfl); clear hO HOe))
          have hc0 : wz.cell? ⟨g6, 0, none⟩ = some (.int .i64 cn) := HZ.out.cell (.tail _ (.head _)) 0
          have hc1 : wz.cell? ⟨g6, 1, none⟩ = some ((.slice Ax hs.length cx)) := HZ.out.cell (.tail _ (.head _)) 1
          have hc2 : wz.cell? ⟨g6, 2, none⟩ = some (.string s) := HZ.out.cell (.tail _ (.head _)) 2
          have hc3 : wz.cell? ⟨g6, 3, none⟩ = some (.bool false) := HZ.out.cell (.tail _ (.head _)) 3
          exact bodyPost_ret (v := .agg #[.int .i64 cn, (.slice Ax hs.length cx), .string s, .bool false]) (by simp [results, Tryd.results17, go_sem, hc0, hc1, hc2, hc3]) rfl ⟨cn, hs, (.slice Ax hs.length cx), L, s, rfl, by omega, by omega, by first | omega | (rw [List.length_append, List.length_singleton]; omega), HS.out, by omega, HH.out, HZ.out.tail.tail⟩
        · have h49' : ((k5 : Int) == 49) = false := beq_eq_false_iff_ne.2 h49
          clear h49
          go_wp2_with (first | (refine wl_load rfl _ _ rfl g8 0 (rv cn (.slice Ax hs.length cx) bd false) (rv cn (.slice Ax hs.length cx) bd false) _ (HOd.out.heap (.head _)) (by rfl) _ Tryd.underlying41 rfl rrep_size (by rfl) ?_) | (refine wl_store rfl _ _ _ rfl HOd.out 1 g6 0 _ (rv cn (.slice Ax hs.length cx) bd false) _ rfl (by rfl) (by rfl) rrep_size (one_rv rfl) (by simp [rv]) ?_; intro wz hO; have HZ := Lib.hid (hO.cast (L' := (g8, Obj.cells (rv cn (.slice Ax hs.length cx) bd false).toArray 41) :: (g6, Obj.cells (rv cn (.slice Ax hs.length cx) bd false).toArray 41) :: (L ++ R)) rfl); clear hO HOd))
          have hc0 : wz.cell? ⟨g6, 0, none⟩ = some (.int .i64 cn) := HZ.out.cell (.tail _ (.head _)) 0
          have hc1 : wz.cell? ⟨g6, 1, none⟩ = some ((.slice Ax hs.length cx)) := HZ.out.cell (.tail _ (.head _)) 1
          have hc2 : wz.cell? ⟨g6, 2, none⟩ = some (.string bd) := HZ.out.cell (.tail _ (.head _)) 2
          have hc3 : wz.cell? ⟨g6, 3, none⟩ = some (.bool false) := HZ.out.cell (.tail _ (.head _)) 3
          exact bodyPost_ret (v := .agg #[.int .i64 cn, (.slice Ax hs.length cx), .string bd, .bool false]) (by simp [results, Tryd.results17, go_sem, hc0, hc1, hc2, hc3]) rfl ⟨cn, hs, (.slice Ax hs.length cx), L, bd, rfl, by omega, by omega, by first | omega | (rw [List.length_append, List.length_singleton]; omega), HS.out, by omega, HH.out, HZ.out.tail.tail⟩
end Go.Proofs.YtkmfbfmmlldphaaDoor
