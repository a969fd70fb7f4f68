/-
  The document's own Decode.
-/
import Derived.Test.YtpapbmamkggfhaaRef6
namespace Go.Proofs.Ytpapbmamkggfhaa
set_option linter.unusedVariables false
set_option linter.unusedSimpArgs false
set_option maxRecDepth 20000
open Go.RowKit

theorem sl_from (W : World) (ad : Addr) (n c lo : Nat) (h1 : lo ≤ n) (h2 : n ≤ c) : (Instr.slice 23 (.slice (some ad) n c) (some (.int .i64 (lo : Int))) none none).run Try.prog W = .ok (.slice (some (if c = lo then ad else ad.add lo)) (n - lo) (c - lo)) W := by
  have h3 : (lo : Int) ≤ n := by omega
  have h4 : (n : Int) ≤ c := by omega
  have h5 : (lo : Int) ≤ c := by omega
  by_cases hc : c = lo
  · subst hc
    obtain rfl : n = c := by omega
    rw [if_pos rfl]
    go_simp
  · rw [if_neg hc]
    have hc' : ¬ ((c : Int) = lo) := by omega
    have hc2 : ¬ (c - lo = 0) := by omega
    go_simp
theorem sl_part (W : World) (ad : Addr) (n c lo hi : Nat) (h1 : lo ≤ hi) (h2 : hi ≤ c) (h0 : n ≤ c) : (Instr.slice 23 (.slice (some ad) n c) (some (.int .i64 (lo : Int))) (some (.int .i64 (hi : Int))) none).run Try.prog W = .ok (.slice (some (if c = lo then ad else ad.add lo)) (hi - lo) (c - lo)) W := by
  have h3 : (lo : Int) ≤ hi := by omega
  have h4 : (hi : Int) ≤ c := by omega
  have h5 : (lo : Int) ≤ c := by omega
  by_cases hc : c = lo
  · subst hc
    obtain rfl : hi = c := by omega
    rw [if_pos rfl]
    go_simp
  · rw [if_neg hc]
    have hc' : ¬ ((c : Int) = lo) := by omega
    have hc2 : ¬ (c - lo = 0) := by omega
    go_simp
/-- A part of a slice that reads as bytes. -/
theorem Rd.part {w0 : World} {R : Blks} {ad : Addr} {n c : Nat} {xs : List Int} (h : Rd w0 R (.slice (some ad) n c) xs) (lo m : Nat) (hm : lo + m ≤ n) (hl : xs.length = n) (hc : n ≤ c) :
    Rd w0 R (.slice (some (if c = lo then ad else ad.add lo)) m (c - lo)) ((xs.drop lo).take m) := by
  by_cases h0 : c = lo
  · rw [if_pos h0]
    obtain rfl : m = 0 := by omega
    rw [List.take_zero]
    exact rd_nil _ _
  · rw [if_neg h0]
    by_cases hlo : lo = 0
    · subst hlo
      intro w' L' hO
      obtain ⟨A, n', c2, e, hn, _, hA⟩ := h w' L' hO
      cases e
      refine ⟨_, _, _, rfl, by simp; omega, by omega, fun h0 => ⟨_, rfl, fun j x hx => ?_⟩⟩
      obtain ⟨ad', e, hcell⟩ := hA (by omega)
      cases e
      have hj : j < m := by have := (List.getElem?_eq_some_iff.1 hx).1; simp at this; omega
      rw [List.getElem?_take_of_lt hj, List.drop_zero] at hx
      rw [show ad.add 0 = ad by unfold Addr.add; simp]
      exact hcell j x hx
    · rw [show ad.add lo = ⟨ad.block, ad.off + lo, none⟩ by unfold Addr.add; rw [if_neg hlo]]
      exact rd_tail h lo m (c - lo) (by omega) (by omega) (by omega)
theorem Rd.rest {w0 : World} {R : Blks} {ad : Addr} {n c : Nat} {xs : List Int} (h : Rd w0 R (.slice (some ad) n c) xs) (lo : Nat) (hm : lo ≤ n) (hl : xs.length = n) (hc : n ≤ c) :
    Rd w0 R (.slice (some (if c = lo then ad else ad.add lo)) (n - lo) (c - lo)) (xs.drop lo) := by
  have := h.part lo (n - lo) (by omega) hl hc
  rwa [List.take_of_length_le (by simp; omega)] at this
theorem Rd.cell {w0 w : World} {L' R : Blks} {ad : Addr} {n c : Nat} {xs : List Int} (h : Rd w0 R (.slice (some ad) n c) xs) (hO : Own w0 w (L' ++ R)) (j : Nat) {x : Int} (hx : xs[j]? = some x) : w.cell? (ad.add j) = some (.int .u8 x) := by
  obtain ⟨A, n', c', e, hn, _, hA⟩ := h w L' hO
  cases e
  have hj := (List.getElem?_eq_some_iff.1 hx).1
  obtain ⟨ad', e, hcell⟩ := hA (by omega)
  cases e
  exact hcell j x hx
/-- What the document's Decode answers. -/
def GotRDec (w0 : World) (R : Blks) (o : Option (List AV)) (e : Ending) (w' : World) : Prop :=
  (∃ vs v L, o = some vs ∧ e = .returned (.tuple #[v, .bool true]) ∧ IsRV v vs L ∧ Own w0 w' (L ++ R)) ∨ (o = none ∧ e = .returned (.tuple #[.slice none 0 0, .bool false]) ∧ Own w0 w' R)
def RState (w0 : World) (R : Blks) (xs : List Int) (t v : Value) (w' : World) : Prop :=
  ∃ vs ys L, IsRV v vs L ∧ Own w0 w' (L ++ R) ∧ Rd w0 R t ys ∧ Byt ys ∧ vs.length + ys.length ≤ xs.length ∧ decL xs = (decL ys).map fun l => vs ++ l
theorem wl_go {P : Program} {w : World} {ops : Array Oper} {rest : List Oper} {op : Oper} {a : Act} {Q : Exit → Act → World → Prop} (hgd : op.guard = none) (f : FuncId) (args : Array Value) (post : Ending → World → Prop)
    (hrun : (execOp a.eval op).run P w = .ok (.enter f args) w) (hc : Calls P f args w post)
    (h : ∀ e w', post e w' → ∃ v, e = .returned v ∧ wpList P ops Q rest (a.put op.dst v) w') : wpList P ops Q (op :: rest) a w := by
  refine wpList_plain hgd fun K hK => ?_
  unfold Oper.wp
  rw [hrun]
  simp only [Oper.upon]
  refine hc.mono fun e w' he => ?_
  obtain ⟨v, rfl, hv⟩ := h e w' he
  exact hK _ _ hv
theorem build_rv1 (a : AV) (w : World) : (Instr.buildSlice 50 1 #[(0, .agg (rv a).toArray)]).run Try.prog w = .ok (.slice (some ⟨w.heap.size, 0, none⟩) 1 1) (w.alloc (.cells (rv a).toArray 55)) := by cases a <;> kernel_rfl
theorem RState.next {w0 w' : World} {R L' : Blks} {xs q zs : List Int} {m : Int} {t v' : Value} {vs : List AV} {a : AV} (hd : decL xs = (decL (m :: q)).map fun l => vs ++ l) (hl : vs.length + (q.length + 1) ≤ xs.length) (hB : Byt (m :: q))
    (h1 : dec1 (m :: q) = some (a, zs)) (hr : Rd w0 R t zs) (hv : IsRV v' (vs ++ [a]) L') (hO : Own w0 w' (L' ++ R)) : RState w0 R xs t v' w' := by
  obtain ⟨h2, h3, j, h4⟩ := dec1_ok h1
  refine ⟨vs ++ [a], zs, L', hv, hO, hr, by rw [h4]; exact byt_drop hB j, by rw [List.length_append]; simp only [List.length_cons, List.length_nil] at *; omega, ?_⟩
  rw [hd, decL_step h1]
  cases decL zs <;> simp
theorem RState.fail {xs q : List Int} {m : Int} {vs : List AV} (hd : decL xs = (decL (m :: q)).map fun l => vs ++ l) (h1 : dec1 (m :: q) = none) : decL xs = none := by rw [hd, decL_fail h1]; rfl
theorem cells_mid {w0 w : World} {L R : Blks} {g : Nat} {us : List Value} {t : TypeId} (hO : Own w0 w (L ++ ((g, .cells us.toArray t) :: R))) : ∀ j u, us[j]? = some u → w.cell? ((⟨g, 0, none⟩ : Addr).add j) = some u := by
  intro j u hu
  rw [addr_add_zero, hO.cell (List.mem_append_right _ (.head _)) j]; simpa using hu
set_option maxHeartbeats 4000000 in
theorem rdec_c {w0 w : World} {R : Blks} {v : Value} {xs : List Int} (hO : Own w0 w R) (hv : Rd w0 R v xs) (hB : Byt xs) (hl : xs.length ≤ 1073741824) :
    Calls Try.prog 21 #[v] w (GotRDec w0 R (decL xs)) := by
  have HO := Lib.hid hO; have HV := Lib.hid hv; have HB := Lib.hid hB
  clear hO hv hB
  go_enter Try.func21, Try.ntmps21
  go_wp2
  go_loopw [0, 4] (fun t b w' => RState w0 R xs t b w') (fun t _ _ => slen t)
  case atStart => exact ⟨[], xs, [], isRV_nil, HO.out, HV.out, HB.out, by simp, by cases decL xs <;> simp⟩
  case round =>
    obtain ⟨vs, ys, L2, hv2, hO2, hr2, hB2, hl2, hd2⟩ := hrel
    clear HO HV HB
    obtain ⟨A, n, c, rfl, hn, hc, hA⟩ := hr2 _ _ hO2
    cases ys with
    | nil =>
      simp only [List.length_nil] at hn
      subst hn
      rw [decL_nil] at hd2
      have HV2 := Lib.hid hv2; have HO2 := Lib.hid hO2; have HD := Lib.hid hd2
      clear hv2 hO2 hr2 hB2 hl2 hd2 hA
      go_wp2
      go_ret2
      exact .inl ⟨vs, _, L2, by rw [HD.out]; simp, rfl, HV2.out, HO2.out⟩
    | cons m q =>
      simp only [List.length_cons] at hn hl2
      obtain ⟨ad, rfl, -⟩ := hA (by omega)
      have hm := hB2 m (.head _)
      have ha0 : ad.add 0 = ad := by unfold Addr.add; simp
      have hc0 := hr2.cell hO2 0 (x := m) rfl
      rw [ha0] at hc0
      have HV2 := Lib.hid hv2; have HO2 := Lib.hid hO2; have HD := Lib.hid hd2; have HN := Lib.hid hn; have HL2 := Lib.hid hl2; have HR := Lib.hid hr2; have HB2 := Lib.hid hB2; have HC := Lib.hid hc; have HA0 := Lib.hid ha0
      have hn1 : 0 < n := by omega
      have hn2 : (0 : Int) < n := by omega
      have hnl : n ≤ 1073741824 := by omega
      clear hv2 hO2 hr2 hB2 hl2 hd2 hA hn hc ha0
      by_cases h116 : m = 116
      · subst h116
        have hsl : ∀ W, (Instr.slice 23 (.slice (some ad) n c) (some (.int .i64 1)) none none).run Try.prog W = .ok (.slice (some (if c = 1 then ad else ad.add 1)) (n - 1) (c - 1)) W := fun W => sl_from W ad n c 1 (by omega) HC.out
        have hrr := HR.out.rest 1 (by omega) (by have := HN.out; simp; omega) HC.out
        rw [List.drop_succ_cons, List.drop_zero] at hrr
        generalize (if c = 1 then ad else ad.add 1) = B at *
        have HSL := Lib.hid hsl; have HRR := Lib.hid hrr
        clear hsl hrr
        go_wp2
        refine wp_region_lin (fun w' => w'.cell? ad = some (.int .u8 116)) 11 [(0, true), (1, true), (2, true), (3, true), (4, true), (8, true), (9, true), (5, false), (6, false), (7, false), (10, true)] (by kernel_rfl) (by kernel_rfl) (fun _ _ d _ _ h => by cases d <;> exact h) hc0 ?_
        simp only [List.map_cons, List.map_nil, pick_zero, pick_succ, List.drop_succ_cons, List.drop_zero]
        iterate 6 (refine lin_q ?_ rfl ?_ ?_; rotate_left 1; (focus (rintro w' hq; go_simp; first | done | with_reducible rfl | (trace_state; fail))); simp only [Act.put, List.setIfInBounds_toArray, List.set_cons_zero, List.set_cons_succ])
        refine lin_q (.slice (some B) (n - 1) (c - 1)) rfl (fun w' hq => by simp [execOp, Act.eval, Instr.sliceAt, HSL.out w']) ?_
        simp only [Act.put, List.setIfInBounds_toArray, List.set_cons_zero, List.set_cons_succ]
        have HO3 := Lib.hid HO2.out.drew; clear HO2
        refine lin_act ?_
        refine wl_go rfl _ _ _ (by go_simp) (refB_c HO3.out true) ?_
        rintro en w5 ⟨rfl, hO5⟩
        refine ⟨_, rfl, LinPost.mk (by have := HR.out.cell hO5 0 (x := 116) rfl; rwa [HA0.out] at this) ?_⟩
        simp only [Act.put, List.setIfInBounds_toArray, List.set_cons_zero, List.set_cons_succ]
        clear HO3
        refine lin_act ?_
        refine wl_buildSlice rfl _ _ _ rfl hO5 _ (by exact build_rv1 (.f true) _) ?_
        intro g6 w6 hO6'
        have hO6 := hO6'.toMid
        refine LinPost.mk (by have := HR.out.cell hO6.strike 0 (x := 116) rfl; rwa [HA0.out] at this) ?_
        simp only [Act.put, List.setIfInBounds_toArray, List.set_cons_zero, List.set_cons_succ]
        clear hO6' hO5
        refine lin_act ?_
        refine wl_appendR rfl _ _ rfl _ vs (by rfl) HV2.out hO6 ⟨g6, 0, none⟩ (.f true) (by rfl) (cells_mid hO6) (by have := HL2.out; omega) ?_
        intro v7 w7 L7 hv7 hO7
        refine LinPost.mk (by have := HR.out.cell hO7.strike 0 (x := 116) rfl; rwa [HA0.out] at this) ?_
        have HV7 := Lib.hid hv7; have HO7 := Lib.hid hO7.strike
        clear hv7 hO7 hO6 HV2
        simp only [Act.put, List.setIfInBounds_toArray, List.set_cons_zero, List.set_cons_succ]
        iterate 1 (refine lin_q ?_ rfl ?_ ?_; rotate_left 1; (focus (rintro w' hq; go_simp; first | done | with_reducible rfl | (trace_state; fail))); simp only [Act.put, List.setIfInBounds_toArray, List.set_cons_zero, List.set_cons_succ])
        refine lin_nil ?_
        go_wp2
        go_roundw
        case rel => exact RState.next HD.out HL2.out HB2.out (by rw [dec1_eq, if_neg (by decide), if_neg (by decide), if_pos rfl]) HRR.out HV7.out HO7.out
        case measure => simp only [slen]; omega
      have e116 : (m == 116) = false := by simp [h116]
      by_cases h102 : m = 102
      · subst h102
        have hsl : ∀ W, (Instr.slice 23 (.slice (some ad) n c) (some (.int .i64 1)) none none).run Try.prog W = .ok (.slice (some (if c = 1 then ad else ad.add 1)) (n - 1) (c - 1)) W := fun W => sl_from W ad n c 1 (by omega) HC.out
        have hrr := HR.out.rest 1 (by omega) (by have := HN.out; simp; omega) HC.out
        rw [List.drop_succ_cons, List.drop_zero] at hrr
        generalize (if c = 1 then ad else ad.add 1) = B at *
        have HSL := Lib.hid hsl; have HRR := Lib.hid hrr
        clear hsl hrr
        go_wp2
        refine wp_region_lin (fun w' => w'.cell? ad = some (.int .u8 102)) 11 [(0, true), (1, true), (2, true), (3, true), (4, true), (8, true), (9, true), (5, false), (6, false), (7, false), (10, true)] (by kernel_rfl) (by kernel_rfl) (fun _ _ d _ _ h => by cases d <;> exact h) hc0 ?_
        simp only [List.map_cons, List.map_nil, pick_zero, pick_succ, List.drop_succ_cons, List.drop_zero]
        iterate 6 (refine lin_q ?_ rfl ?_ ?_; rotate_left 1; (focus (rintro w' hq; go_simp; first | done | with_reducible rfl | (trace_state; fail))); simp only [Act.put, List.setIfInBounds_toArray, List.set_cons_zero, List.set_cons_succ])
        refine lin_q (.slice (some B) (n - 1) (c - 1)) rfl (fun w' hq => by simp [execOp, Act.eval, Instr.sliceAt, HSL.out w']) ?_
        simp only [Act.put, List.setIfInBounds_toArray, List.set_cons_zero, List.set_cons_succ]
        have HO3 := Lib.hid HO2.out.drew; clear HO2
        refine lin_act ?_
        refine wl_go rfl _ _ _ (by go_simp) (refB_c HO3.out false) ?_
        rintro en w5 ⟨rfl, hO5⟩
        refine ⟨_, rfl, LinPost.mk (by have := HR.out.cell hO5 0 (x := 102) rfl; rwa [HA0.out] at this) ?_⟩
        simp only [Act.put, List.setIfInBounds_toArray, List.set_cons_zero, List.set_cons_succ]
        clear HO3
        refine lin_act ?_
        refine wl_buildSlice rfl _ _ _ rfl hO5 _ (by exact build_rv1 (.f false) _) ?_
        intro g6 w6 hO6'
        have hO6 := hO6'.toMid
        refine LinPost.mk (by have := HR.out.cell hO6.strike 0 (x := 102) rfl; rwa [HA0.out] at this) ?_
        simp only [Act.put, List.setIfInBounds_toArray, List.set_cons_zero, List.set_cons_succ]
        clear hO6' hO5
        refine lin_act ?_
        refine wl_appendR rfl _ _ rfl _ vs (by rfl) HV2.out hO6 ⟨g6, 0, none⟩ (.f false) (by rfl) (cells_mid hO6) (by have := HL2.out; omega) ?_
        intro v7 w7 L7 hv7 hO7
        refine LinPost.mk (by have := HR.out.cell hO7.strike 0 (x := 102) rfl; rwa [HA0.out] at this) ?_
        have HV7 := Lib.hid hv7; have HO7 := Lib.hid hO7.strike
        clear hv7 hO7 hO6 HV2
        simp only [Act.put, List.setIfInBounds_toArray, List.set_cons_zero, List.set_cons_succ]
        iterate 1 (refine lin_q ?_ rfl ?_ ?_; rotate_left 1; (focus (rintro w' hq; go_simp; first | done | with_reducible rfl | (trace_state; fail))); simp only [Act.put, List.setIfInBounds_toArray, List.set_cons_zero, List.set_cons_succ])
        refine lin_nil ?_
        go_wp2
        go_roundw
        case rel => exact RState.next HD.out HL2.out HB2.out (by rw [dec1_eq, if_neg (by decide), if_neg (by decide), if_neg (by decide), if_pos rfl]) HRR.out HV7.out HO7.out
        case measure => simp only [slen]; omega
      have e102 : (m == 102) = false := by simp [h102]
      by_cases h105 : m = 105
      · subst h105
        clear e116 e102
        by_cases h9 : n < 9
        · have h9' : ¬ ((9 : Int) ≤ n) := by omega
          go_wp2
          go_ret2
          refine .inr ⟨RState.fail HD.out ?_, rfl, HO2.out.right⟩
          rw [dec1_eq, if_pos rfl]; unfold decInt; rw [if_pos (by have := HN.out; omega)]
        · have h9' : (9 : Int) ≤ n := by omega
          have hc9 : (9 : Int) ≤ c := by have := HC.out; omega
          have hrd := rd_tail HR.out 1 8 (c - 1) (by omega) (by omega) (by have := HC.out; omega)
          rw [List.drop_succ_cons, List.drop_zero] at hrd
          have hql : 8 ≤ q.length := by have := HN.out; omega
          have hcell8 : ∀ j, j < 8 → wr.cell? ((⟨ad.block, ad.off + 1, none⟩ : Addr).add j) = some (.int .u8 (q.getD j 0)) := fun j hj => hrd.cell HO2.out j (by rw [List.getElem?_take_of_lt hj, List.getD_eq_getElem?_getD, List.getElem?_eq_getElem (by omega)]; rfl)
          have hBq : Byt q := fun x hx => HB2.out x (.tail _ hx)
          have hsl : ∀ W, (Instr.slice 23 (.slice (some ad) n c) (some (.int .i64 9)) none none).run Try.prog W = .ok (.slice (some (if c = 9 then ad else ad.add 9)) (n - 9) (c - 9)) W := fun W => sl_from W ad n c 9 (by omega) HC.out
          have hrr := HR.out.rest 9 (by omega) (by have := HN.out; simp; omega) HC.out
          rw [List.drop_succ_cons] at hrr
          generalize (if c = 9 then ad else ad.add 9) = B at *
          have HSL := Lib.hid hsl; have HRR := Lib.hid hrr; have HC8 := Lib.hid hcell8; have HBQ := Lib.hid hBq; have HQL := Lib.hid hql
          clear hsl hrr hcell8 hBq hql hrd
          obtain ⟨W, hW⟩ : ∃ W, W = wr := ⟨_, rfl⟩
          subst hW
          go_wp2
          clear hc0
          go_loopw [5, 45] (fun u t w' => ∃ k : Nat, k ≤ 8 ∧ t = .int .i64 (k : Int) ∧ u = .int .u64 (numB (q.take k)) ∧ Hid (w' = W)) (fun _ t _ => 8 - (intOf t).toNat)
          case atStart => exact ⟨0, by omega, rfl, rfl, rfl⟩
          case round =>
            obtain ⟨k, hk, rfl, rfl, HW⟩ := hrel
            have hw := HW.out
            subst hw
            clear HW
            by_cases hlt : k < 8
            · have hc1 := HC8.out k hlt
              rw [Addr.add_mid] at hc1
              have hc2 := hc1
              rw [Nat.add_assoc] at hc2
              have hkx : k < q.length := by have := HQL.out; omega
              have hb := numB_lt7 (xs := q.take k) (byt_take HBQ.out k) (by simp; omega)
              have hx := getD_byt HBQ.out k
              have hst : numB (q.take (k + 1)) = numB (q.take k) * 256 + q.getD k 0 := by
                rw [List.take_succ_eq_append_getElem hkx, numB_snoc, List.getD_eq_getElem?_getD, List.getElem?_eq_getElem hkx]; rfl
              have hj := joinq (numB (q.take k) * 256) (q.getD k 0) (by omega) (by omega) (by omega) (by omega) (by omega)
              rw [← hst] at hj
              have HST := Lib.hid hst
              clear hst hkx
              generalize numB (q.take k) = u at *
              generalize q.getD k 0 = x at *
              generalize hu' : numB (q.take (k + 1)) = u' at *
              have HU := Lib.hid hu'
              clear hu'
              have hk8 : (k : Int) < 8 := by omega
              have hk0 : (0 : Int) ≤ k := by omega
              have hu1 : IntKind.u64.wrap (u * 256) = u * 256 := wraps_u64 _ (by omega) (by omega)
              have hu2 : IntKind.u64.wrap x = x := wraps_u64 _ (by omega) (by omega)
              go_wp2
              go_roundw
              case rel => exact ⟨k + 1, by omega, by go_num, by rw [HU.out], trivial⟩
              case measure => simp [intOf]; omega
            · obtain rfl : k = 8 := by omega
              clear HC8
              have hdec : dec1 (105 :: q) = some (.i (IntKind.i64.wrap (numB (q.take 8))), q.drop 8) := by
                rw [dec1_eq, if_pos rfl]; unfold decInt; rw [if_neg (by have := HQL.out; omega)]
              have HDEC := Lib.hid hdec; clear hdec
              generalize numB (q.take 8) = u at *
              go_wp2
              refine wp_region_lin (fun w' => True) 9 [(0, true), (1, true), (2, true), (6, true), (7, true), (3, false), (4, false), (5, false), (8, true)] (by kernel_rfl) (by kernel_rfl) (fun _ _ d _ _ h => by cases d <;> exact h) trivial ?_
              simp only [List.map_cons, List.map_nil, pick_zero, pick_succ, List.drop_succ_cons, List.drop_zero]
              iterate 4 (refine lin_q ?_ rfl ?_ ?_; rotate_left 1; (focus (rintro w' hq; go_simp; first | done | with_reducible rfl | (trace_state; fail))); simp only [Act.put, List.setIfInBounds_toArray, List.set_cons_zero, List.set_cons_succ])
              refine lin_q (.slice (some B) (n - 9) (c - 9)) rfl (fun w' hq => by simp [execOp, Act.eval, Instr.sliceAt, HSL.out w']) ?_
              simp only [Act.put, List.setIfInBounds_toArray, List.set_cons_zero, List.set_cons_succ]
              have HO3 := Lib.hid HO2.out.drew; clear HO2
              refine lin_act ?_
              refine wl_go rfl _ _ _ (by go_simp) (refI_c HO3.out (IntKind.i64.wrap u)) ?_
              rintro en w5 ⟨rfl, hO5⟩
              refine ⟨_, rfl, LinPost.mk trivial ?_⟩
              simp only [Act.put, List.setIfInBounds_toArray, List.set_cons_zero, List.set_cons_succ]
              clear HO3
              refine lin_act ?_
              refine wl_buildSlice rfl _ _ _ rfl hO5 _ (by exact build_rv1 (.i (IntKind.i64.wrap u)) _) ?_
              intro g6 w6 hO6'
              have hO6 := hO6'.toMid
              refine LinPost.mk trivial ?_
              simp only [Act.put, List.setIfInBounds_toArray, List.set_cons_zero, List.set_cons_succ]
              clear hO6' hO5
              refine lin_act ?_
              refine wl_appendR rfl _ _ rfl _ vs (by rfl) HV2.out hO6 ⟨g6, 0, none⟩ (.i (IntKind.i64.wrap u)) (by rfl) (cells_mid hO6) (by have := HL2.out; omega) ?_
              intro v7 w7 L7 hv7 hO7
              refine LinPost.mk trivial ?_
              have HV7 := Lib.hid hv7; have HO7 := Lib.hid hO7.strike
              clear hv7 hO7 hO6 HV2
              simp only [Act.put, List.setIfInBounds_toArray, List.set_cons_zero, List.set_cons_succ]
              iterate 1 (refine lin_q ?_ rfl ?_ ?_; rotate_left 1; (focus (rintro w' hq; go_simp; first | done | with_reducible rfl | (trace_state; fail))); simp only [Act.put, List.setIfInBounds_toArray, List.set_cons_zero, List.set_cons_succ])
              refine lin_nil ?_
              go_wp2
              go_roundw
              case rel => exact RState.next HD.out HL2.out HB2.out HDEC.out HRR.out HV7.out HO7.out
              case measure => simp only [slen]; omega

      have e105 : (m == 105) = false := by simp [h105]
      by_cases h115 : m = 115
      · subst h115
        clear e116 e102 e105
        cases q with
        | nil =>
          obtain rfl : n = 1 := by have := HN.out; simp at this; omega
          go_wp2
          go_ret2
          refine .inr ⟨RState.fail HD.out ?_, rfl, HO2.out.right⟩
          rw [dec1_eq, if_neg (by decide), if_pos rfl]; rfl
        | cons k1 p =>
          have hk1 := HB2.out k1 (.tail _ (.head _))
          obtain ⟨k, rfl⟩ : ∃ k : Nat, k1 = k := ⟨k1.toNat, by omega⟩
          have hn2' : p.length + 2 = n := by have := HN.out; simp at this; omega
          have h2n : (2 : Int) ≤ n := by omega
          have hc1 := HR.out.cell HO2.out 1 (x := (k : Int)) rfl
          have ha1 : ad.add 1 = ⟨ad.block, ad.off + 1, none⟩ := by unfold Addr.add; simp
          rw [ha1] at hc1
          have HA1 := Lib.hid ha1; clear ha1
          have hwk : IntKind.i64.wrap (k : Int) = k := IntWalk.i64_in _ (by omega)
          have h1n : (1 : Int) < n := by omega
          by_cases hlt : p.length < k
          · have hlt' : ¬ ((2 : Int) + k ≤ n) := by omega
            have HLT := Lib.hid hlt
            clear hn2' hlt
            go_wp2
            go_ret2
            refine .inr ⟨RState.fail HD.out ?_, rfl, HO2.out.right⟩
            rw [dec1_eq, if_neg (by decide), if_pos rfl]; simp only [decText]; rw [if_pos (by have := HLT.out; omega)]
          · have hlt' : (2 : Int) + k ≤ n := by omega
            have hdec : dec1 (115 :: (k : Int) :: p) = some (.s (strOfNums (p.take k)), p.drop k) := by
              rw [dec1_eq, if_neg (by decide), if_pos rfl]; simp only [decText]; rw [if_neg (by omega), Int.toNat_natCast]
            obtain ⟨E, hE⟩ : ∃ E : Nat, E = k + 2 := ⟨_, rfl⟩
            have hEi : (2 : Int) + k = E := by omega
            have hwE : IntKind.i64.wrap (E : Int) = E := IntWalk.i64_in _ (by omega)
            have hsl2 : ∀ W, (Instr.slice 23 (.slice (some ad) n c) (some (.int .i64 2)) (some (.int .i64 (E : Int))) none).run Try.prog W = .ok (.slice (some (if c = 2 then ad else ad.add 2)) (E - 2) (c - 2)) W := fun W => sl_part W ad n c 2 E (by omega) (by have := HC.out; omega) HC.out
            have hsl3 : ∀ W, (Instr.slice 23 (.slice (some ad) n c) (some (.int .i64 (E : Int))) none none).run Try.prog W = .ok (.slice (some (if c = E then ad else ad.add E)) (n - E) (c - E)) W := fun W => sl_from W ad n c E (by omega) HC.out
            have hrp := HR.out.part 2 (E - 2) (by omega) (by have := HN.out; simp at this ⊢; omega) HC.out
            rw [List.drop_succ_cons, List.drop_succ_cons, List.drop_zero, show E - 2 = k by omega] at hrp
            have hrr := HR.out.rest E (by omega) (by have := HN.out; simp at this ⊢; omega) HC.out
            rw [hE, List.drop_succ_cons, List.drop_succ_cons, ← hE] at hrr
            have hek : E - 2 = k := by omega
            rw [hek] at hsl2
            generalize (if c = 2 then ad else ad.add 2) = B2 at *
            generalize (if c = E then ad else ad.add E) = B3 at *
            have HSL2 := Lib.hid hsl2; have HSL3 := Lib.hid hsl3; have HRP := Lib.hid hrp; have HRR := Lib.hid hrr; have HDEC := Lib.hid hdec; have HEI := Lib.hid hEi; have HEN : Hid (E ≤ n ∧ 0 < E) := Lib.hid ⟨by omega, by omega⟩
            have hcv := convert_str (HRP.out _ _ HO2.out.drew)
            have HCV := Lib.hid hcv
            clear hsl2 hsl3 hrp hrr hdec hE hek hn2' hlt hEi hcv
            generalize hst : strOfNums (p.take k) = st at *
            have HST := Lib.hid hst; clear hst
            generalize p.drop k = zs at *
            go_wp2
            have hEi := HEI.out
            refine wp_region_lin (fun w' => w'.cell? ⟨ad.block, ad.off + 1, none⟩ = some (.int .u8 (k : Int)) ∧ (convert 23 9 (.slice (some B2) k (c - 2))).run Try.prog w' = .ok (.string st) w') 20 [(0, true), (1, true), (2, true), (3, true), (4, true), (5, true), (6, true), (7, true), (8, true), (12, true), (13, true), (14, true), (15, true), (16, true), (17, true), (18, true), (9, false), (10, false), (11, false), (19, true)] (by kernel_rfl) (by kernel_rfl) (fun _ _ d _ _ h => by cases d <;> exact h) ⟨hc1, HCV.out⟩ ?_
            simp only [List.map_cons, List.map_nil, pick_zero, pick_succ, List.drop_succ_cons, List.drop_zero]
            iterate 7 (refine lin_q ?_ rfl ?_ ?_; rotate_left 1; (focus (rintro w' ⟨hq, hq2⟩; go_simp; first | done | with_reducible rfl | (trace_state; fail))); simp only [Act.put, List.setIfInBounds_toArray, List.set_cons_zero, List.set_cons_succ])
            refine lin_q (.slice (some B2) k (c - 2)) rfl (fun w' hq => by simp [execOp, Act.eval, Instr.sliceAt, HSL2.out w']) ?_
            simp only [Act.put, List.setIfInBounds_toArray, List.set_cons_zero, List.set_cons_succ]
            refine lin_q (.string st) rfl (fun w' hq => by simp [execOp, Act.eval, hq.2]) ?_
            simp only [Act.put, List.setIfInBounds_toArray, List.set_cons_zero, List.set_cons_succ]
            iterate 6 (refine lin_q ?_ rfl ?_ ?_; rotate_left 1; (focus (rintro w' ⟨hq, hq2⟩; go_simp; first | done | with_reducible rfl | (trace_state; fail))); simp only [Act.put, List.setIfInBounds_toArray, List.set_cons_zero, List.set_cons_succ])
            refine lin_q (.slice (some B3) (n - E) (c - E)) rfl (fun w' hq => by simp [execOp, Act.eval, Instr.sliceAt, HSL3.out w']) ?_
            simp only [Act.put, List.setIfInBounds_toArray, List.set_cons_zero, List.set_cons_succ]
            have HO3 := Lib.hid HO2.out.drew; clear HO2
            refine lin_act ?_
            refine wl_go rfl _ _ _ (by go_simp) (refS_c HO3.out st) ?_
            rintro en w5 ⟨rfl, hO5⟩
            refine ⟨_, rfl, LinPost.mk ⟨(by have := HR.out.cell hO5 1 (x := (k : Int)) rfl; rwa [HA1.out] at this), by rw [← HST.out]; exact convert_str (HRP.out _ _ hO5)⟩ ?_⟩
            simp only [Act.put, List.setIfInBounds_toArray, List.set_cons_zero, List.set_cons_succ]
            clear HO3
            refine lin_act ?_
            refine wl_buildSlice rfl _ _ _ rfl hO5 _ (by exact build_rv1 (.s st) _) ?_
            intro g6 w6 hO6'
            have hO6 := hO6'.toMid
            refine LinPost.mk ⟨(by have := HR.out.cell hO6.strike 1 (x := (k : Int)) rfl; rwa [HA1.out] at this), by rw [← HST.out]; exact convert_str (HRP.out _ _ hO6.strike)⟩ ?_
            simp only [Act.put, List.setIfInBounds_toArray, List.set_cons_zero, List.set_cons_succ]
            clear hO6' hO5
            refine lin_act ?_
            refine wl_appendR rfl _ _ rfl _ vs (by rfl) HV2.out hO6 ⟨g6, 0, none⟩ (.s st) (by rfl) (cells_mid hO6) (by have := HL2.out; omega) ?_
            intro v7 w7 L7 hv7 hO7
            refine LinPost.mk ⟨(by have := HR.out.cell hO7.strike 1 (x := (k : Int)) rfl; rwa [HA1.out] at this), by rw [← HST.out]; exact convert_str (HRP.out _ _ hO7.strike)⟩ ?_
            have HV7 := Lib.hid hv7; have HO7 := Lib.hid hO7.strike
            clear hv7 hO7 hO6 HV2
            simp only [Act.put, List.setIfInBounds_toArray, List.set_cons_zero, List.set_cons_succ]
            iterate 1 (refine lin_q ?_ rfl ?_ ?_; rotate_left 1; (focus (rintro w' ⟨hq, hq2⟩; go_simp; first | done | with_reducible rfl | (trace_state; fail))); simp only [Act.put, List.setIfInBounds_toArray, List.set_cons_zero, List.set_cons_succ])
            refine lin_nil ?_
            go_wp2
            go_roundw
            case rel => exact RState.next HD.out HL2.out HB2.out HDEC.out HRR.out HV7.out HO7.out
            case measure => have := HEN.out; simp only [slen]; omega

      have e115 : (m == 115) = false := by simp [h115]
      have hdec : dec1 (m :: q) = none := by rw [dec1_eq, if_neg h105, if_neg h115, if_neg h116, if_neg h102]
      have HDEC := Lib.hid hdec
      clear hdec h105 h115 h116 h102
      go_wp2
      go_ret2
      exact .inr ⟨RState.fail HD.out HDEC.out, rfl, HO2.out.right⟩
end Go.Proofs.Ytpapbmamkggfhaa
