/-
  LogTurns: every input answers true (turned again and again, with records between, it has just what it was turned to, and what came behind; cut off, torn and found again).
  No conditions beyond the statement's own.
-/
import Derived.Test.YtdndkapfaiplnaaL04f0
import Derived.Deep.CutBlock
import Derived.SizedLaws
namespace Go.Proofs.Ytdndkapfaiplnaa
set_option linter.unusedVariables false
set_option linter.unusedSimpArgs false
set_option maxRecDepth 100000
open Go.ChangeShapes Go.WideShapes Go.ChangeAt Go.RowKit
open Go.ChangeMaps (open_string shut_string)

theorem isRow_rdv {w0 : World} {R L : Blks} {v : Value} {ks : List Int} (h : IsRow 3 1 v ks.length (iv ks) L) : RdV w0 (L ++ R) v (iv ks) := by
  intro w' L' hO
  rcases h.2 with ⟨rfl, hn, rfl⟩ | ⟨g, cap, sp, rfl, rfl, hl, hn, hm⟩
  · exact ⟨_, _, _, rfl, by simpa [iv] using hn, Nat.le_refl _, fun h => absurd h (by omega)⟩
  · refine ⟨_, _, _, rfl, by simp [iv], hn, fun _ => ⟨_, rfl, fun j u hu => ?_⟩⟩
    rw [addr_add_zero, hO.cell (List.mem_append_right _ (List.mem_append_left _ (.head _))) j]
    have hj : j < (iv ks).length := (List.getElem?_eq_some_iff.1 hu).1
    simp only [List.getElem?_toArray]
    rw [List.getElem?_append_left hj]; exact hu
theorem rdRows_all {w0 : World} {R : Blks} {g : Nat} (n : Nat) (vs : List Value) (bs : List (List Int)) {v : Value} {b : List Int} {t : TypeId} (hm : (g, Obj.cells vs.toArray t) ∈ R) (hn : vs.length = n) (hl : bs.length = n) (hv : ∀ u ∈ vs, u = v) (hb : ∀ x ∈ bs, x = b) (h : Rd w0 R v b) : RdRows w0 R (.slice (some ⟨g, 0, none⟩) n n) bs := by
  refine ⟨vs, fun w' L' hO => ⟨_, _, _, rfl, hn, Nat.le_refl _, fun _ => ⟨_, rfl, fun j u hu => by rw [addr_add_zero, hO.cell (List.mem_append_right _ hm) j]; simpa using hu⟩⟩, by omega, fun i hi => ?_⟩
  have e1 : vs.getD i undef = v := by rw [List.getD, List.getElem?_eq_getElem (show i < vs.length by omega)]; exact hv _ (List.getElem_mem _)
  have e2 : bs.getD i [] = b := by rw [List.getD, List.getElem?_eq_getElem hi]; exact hb _ (List.getElem_mem _)
  rw [e1, e2]; exact h
theorem rdRows_snoc {w0 : World} {X Lb L' : Blks} {v' vb : Value} {vs : List Value} {bs : List (List Int)} {b : List Int} {n : Nat} (hrow : IsRow 27 1 v' (n + 1) (vs ++ [vb]) L') (hvl : vs.length = n) (hbl : bs.length = n) (heach : ∀ i, i < n → Rd w0 X (vs.getD i undef) (bs.getD i [])) (hb : Rd w0 Lb vb b) : RdRows w0 (L' ++ (Lb ++ X)) v' (bs ++ [b]) := by
  have hg : GotRows w0 (L' ++ (Lb ++ X)) v' (bs ++ [b]) := by
    refine ⟨vs ++ [vb], L', Lb ++ X, rfl, by rw [List.length_append, hbl]; exact hrow, fun i hi => ?_⟩
    have := each_snoc (v := vb) (Lv := Lb) (bs := bs ++ [b]) hvl (fun j hj => by
      have := heach j hj
      rwa [show (bs ++ [b]).getD j [] = bs.getD j [] by simp only [List.getD]; rw [List.getElem?_append_left (by omega)]]) (by
      rwa [show (bs ++ [b]).getD n [] = b by simp only [List.getD]; rw [List.getElem?_append_right (by omega), hbl]; simp]) i (by simp only [List.length_append, List.length_singleton] at hi; omega)
    exact this
  have := hg.rd []
  rwa [List.append_nil] at this
def TurnsTo (w : World) (d : Value) (i : Nat) (v8 v11 : Value) (wx : World) : Prop :=
  ∃ g t l rs X, v8 = .pointer (some ⟨g, 0, none⟩) ∧ RdRows w X v11 (rs.map (·.2)) ∧ Lives w X d v8 t l rs wx ∧ l.num ≤ 2 + 3 * (i : Int) ∧ l.ep ≤ 2 + (i : Int) ∧ l.nx ≤ 1 + 4 * (i : Int) ∧ needR rs ≤ 12 + 4 * i ∧ (∀ r ∈ rs, r.2.length ≤ 60)
set_option maxHeartbeats 32000000 in
theorem logTurns_walk {w : World} (v0 : Value) (a0 : List Int) (h0 : InRow .i64 w v0 a0) (a1 : Int) (_ : (Lit.int .i64 a1).wf = true) (v2 : Value) (a2 : List Int) (h2 : InRow .i64 w v2 a2) (hk2 : a2.length ≤ 17592186043904) : Calls Try.prog 6 #[v0, .int .i64 a1, v2] w (Yes w) := by
  obtain ⟨A0, c0, rfl, hl0, hr0⟩ := h0.at4
  obtain ⟨A2, c2, rfl, -, -⟩ := h2.at4
  have HR0 := Lib.hid hr0; have HIN2 := Lib.hid h2
  clear h0 hr0 h2
  simp only [maxLen] at hl0
  have HO := Lib.hid (Own.start w)
  go_enter Try.func6, Try.ntmps6
  go_wp2_with fail
  have hcall := new_is HO.out 514 514 (by decide)
  with_reducible refine hcall.mono ?_
  clear hcall
  rintro en w1 ⟨d, L1, rfl, hd1, hO1⟩
  obtain ⟨bd, rfl⟩ := hd1.ptr
  have HD1 := Lib.hid hd1; have HO1 := Lib.hid hO1
  clear hd1 hO1 HO
  go_wp2_with fail
  have hcall := format_ok HD1.out HO1.out (newSt_n 514) rfl rfl (by decide)
  with_reducible refine hcall.mono ?_
  clear hcall
  rintro en w2 ⟨rfl, L2, hd2, hO2⟩
  have HD2 := Lib.hid hd2; have HO2 := Lib.hid hO2
  clear hd2 hO2 HD1 HO1
  go_wp2_with fail
  have hcall := open_up HD2.out HO2.out onF_fmt rest_fmt rfl (by decide) (by decide) (by decide)
  with_reducible refine hcall.mono ?_
  clear hcall HD2 HO2
  rintro en w3 ⟨g3, rv, X3, rfl, hrv, s3, F3, Ld3, Lg3, o3, hv3, hf3, hd3, hg3, hO3⟩
  have HT : Hid (TurnsTo w (.pointer (some ⟨bd, 0, none⟩)) 0 (.pointer (some ⟨g3, 0, none⟩)) (.slice none 0 0) w3) := ⟨g3, slot1.up, upL slot1 [], [], [], rfl, ⟨[], fun _ _ _ => ⟨_, _, _, rfl, rfl, Nat.le_refl _, fun h => absurd h (by omega)⟩, rfl, by simp⟩, ⟨s3, F3, Ld3, Lg3, o3, hv3, hf3, hd3, hg3, hO3.sub ((List.Sublist.refl Ld3).append ((List.Sublist.refl Lg3).append (List.nil_sublist _)))⟩, by decide, by decide, by decide, by simp [needR, needs], by simp⟩
  clear hrv o3 hv3 hf3 hd3 hg3 hO3
  go_wp2_with fail
  go_loopg [8, 11, 12] 13 (fun gg v8 v11 v12 wx => ∃ i : Nat, i ≤ 12 ∧ gg = 13 - i ∧ v12 = .int .i64 (i : Nat) ∧ Hid (TurnsTo w (.pointer (some ⟨bd, 0, none⟩)) i v8 v11 wx))
  case atStart => exact ⟨0, by omega, rfl, rfl, HT.out⟩
  case round =>
    obtain ⟨i, hi, rfl, rfl, HTi⟩ := hrel
    clear HT
    by_cases hgo : i < a0.length ∧ i < 12
    · obtain ⟨h2, h3⟩ := hgo
      obtain ⟨ad, rfl, hcl⟩ := HR0.out 0 (by omega)
      have hcl0 := fun wx L hO => hcl wx L hO i h2
      generalize a0.getD i 0 = x0 at hcl0
      have HCL := Lib.hid hcl0
      clear hcl0 hcl
      have hI1 : (i : Int) < a0.length := by omega
      have hI2 : (i : Int) < 12 := by omega
      obtain ⟨g, t, l, rs, X, rfl, hrows, ⟨s, F, Ld, Lg, o, hlv, hlf, hd, hg, hO⟩, hb1, hb2, hb3, hb4, hb5⟩ := HTi.out
      clear HTi
      have HO4 := Lib.hid hO; have HST := Lib.hid (And.intro o (And.intro hlv (And.intro hlf (And.intro hd hg)))); have HROWS := Lib.hid hrows
      clear hO o hlv hlf hd hg hrows
      go_upto_block 1 with fail
      go_cut [8, 11] (fun v8 v11 wx => TurnsTo w (.pointer (some ⟨bd, 0, none⟩)) (i + 1) v8 v11 wx)
      case first =>
        rename_i JJ KK hJJ hKK
        go_wp2_with fail
        refine wp_region_lin (fun w' => w'.cell? (ad.add i) = some (.int .i64 x0)) 11 [(0, true), (1, true), (2, true), (3, true), (4, true), (5, true), (6, true), (7, true), (8, false), (9, false), (10, true)] (by kernel_rfl) (by kernel_rfl) (fun _ _ d _ _ h => by cases d <;> exact h) (HCL.out _ _ HO4.out.drew) ?_
        have HO5 := Lib.hid HO4.out.drew
        clear HO4
        generalize wr.drew = w7 at *
        simp only [List.map_cons, List.map_nil, pick_zero, pick_succ, List.drop_succ_cons, List.drop_zero]
        iterate 8 (refine lin_q ?_ rfl ?_ ?_; rotate_left 1; (focus (rintro w' hq0; go_simp; first | done | with_reducible rfl | (trace_state; fail))); simp only [Act.put, List.setIfInBounds_toArray, List.set_cons_zero, List.set_cons_succ])
        refine lin_act ?_
        refine wl_call rfl _ _ _ (by go_simp) (within_n (w := w7) x0 60 (by omega) (by omega)) ?_
        rintro e w8 ⟨rfl, rfl⟩
        refine ⟨_, rfl, LinPost.mk (HCL.out _ _ HO5.out) ?_⟩
        simp only [Act.put, List.setIfInBounds_toArray, List.set_cons_zero, List.set_cons_succ]
        have hk6 : (x0 % 60).toNat < 60 := by omega
        generalize (x0 % 60).toNat = k at *
        refine lin_act ?_
        refine wl_call rfl _ _ _ (by go_simp) (bytes_c HO5.out x0 k (by omega)) ?_
        rintro e w8 ⟨vb, Lb, rfl, hvb, hO8⟩
        refine ⟨_, rfl, LinPost.mk (HCL.out _ _ hO8) ?_⟩
        have HLV : Hid (Lives w (Lb ++ X) (.pointer (some ⟨bd, 0, none⟩)) (.pointer (some ⟨g, 0, none⟩)) t l rs w8) := ⟨s, F, Ld, Lg, HST.out.1, HST.out.2.1, HST.out.2.2.1, HST.out.2.2.2.1, HST.out.2.2.2.2, own_count hO8 (by intro p; simp only [List.count_append, List.count_cons, List.count_nil]; omega)⟩
        have HO88 := Lib.hid hO8
        have hlenk : (pbytes x0 k).length = k := by simp [pbytes]
        obtain ⟨Ab, cb, hvv⟩ := hvb.val
        rw [hlenk] at hvv
        subst hvv
        have HRD0 := Lib.hid (show Rd w Lb (.slice Ab k cb) (pbytes x0 k) from hvb.rd (List.Sublist.refl _))
        have HRD := Lib.hid (show Rd w (Lb ++ X) (.slice Ab k cb) (pbytes x0 k) from hvb.rd sub_here)
        have HBB := Lib.hid (byt_pbytes x0 k)
        have HB60 := Lib.hid (show (pbytes x0 k).length ≤ 60 by rw [hlenk]; omega)
        have hnb : need (pbytes x0 k) ≤ 4 := by unfold need; rw [hlenk]; omega
        have HBN := Lib.hid (show need (pbytes x0 k) ≤ 255 by omega)
        have HBL := Lib.hid (show (pbytes x0 k).length ≤ 1000000 by rw [hlenk]; omega)
        have HC8 := Lib.hid (HCL.out _ _ hO8)
        clear hvb hO8 HO5 HST hlenk
        simp only [Act.put, List.setIfInBounds_toArray, List.set_cons_zero, List.set_cons_succ]
        iterate 1 (refine lin_q ?_ rfl ?_ ?_; rotate_left 1; (focus (rintro w' -; go_simp; first | done | with_reducible rfl | (trace_state; fail))); simp only [Act.put, List.setIfInBounds_toArray, List.set_cons_zero, List.set_cons_succ])
        refine lin_nil ?_
        generalize pbytes x0 k = b at *
        have c8 := HC8.out
        go_wp2_with fail
        clear c8 HC8
        have hcall := within_n (w := w8) x0 4 (by omega) (by omega)
        with_reducible refine hcall.mono ?_
        clear hcall
        rintro en w9 ⟨rfl, rfl⟩
        have hk4 : (x0 % 4).toNat < 4 := by omega
        generalize (x0 % 4).toNat = k4 at *
        rcases (show k4 = 0 ∨ k4 = 1 ∨ k4 = 2 ∨ k4 = 3 by omega) with hk | hk | hk | hk
        · have ht0 : ((k4 : Int) == 0) = true := by simp; omega
          go_wp2_with fail
          obtain ⟨s5, F5, Ld5, Lg5, o5, hv5, hf5, hd5, hg5, hO5⟩ := HLV.out
          have hO6 := hO5.alloc (.cells [(Value.slice Ab k cb), (Value.slice Ab k cb)].toArray 27)
          have hlv : Lives w ([(w8.heap.size, (.cells [(Value.slice Ab k cb), (Value.slice Ab k cb)].toArray 27))] ++ (Lb ++ X)) (.pointer (some ⟨bd, 0, none⟩)) (.pointer (some ⟨g, 0, none⟩)) t l rs (w8.alloc (.cells [(Value.slice Ab k cb), (Value.slice Ab k cb)].toArray 27)) := ⟨s5, F5, Ld5, Lg5, o5, hv5, hf5, hd5, hg5, own_count hO6 (by intro p; simp only [List.count_append, List.count_cons, List.count_nil]; omega)⟩
          have hcall := turn_up hlv (rdRows_all 2 [(Value.slice Ab k cb), (Value.slice Ab k cb)] [b, b] (.head _) rfl rfl (by simp) (by simp) HRD.out.more) (by simpa using HBB.out) (by simpa using HBN.out) (by simpa using HBL.out) (by simp) (by simp only [needs]; omega) (by omega) (by simp only [List.length_cons, List.length_nil]; omega)
          with_reducible refine hcall.mono ?_
          clear hcall HLV hlv hO5 hO6 o5 hv5 hf5 hd5 hg5
          rintro en w11 ⟨rfl, s11, F11, Ld11, Lg11, o11, hv11, hf11, hd11, hg11, hO11⟩
          have HS11 := Lib.hid (And.intro o11 (And.intro hv11 (And.intro hf11 (And.intro hd11 (And.intro hg11 hO11)))))
          clear o11 hv11 hf11 hd11 hg11 hO11
          go_wp2
          go_meet
          have hO12 := HS11.out.2.2.2.2.2.alloc (.cells [(Value.slice Ab k cb), (Value.slice Ab k cb)].toArray 27)
          refine ⟨g, l.tslot, l.turnTo [b, b], [b, b].map (Prod.mk l.ep), [(w11.heap.size, (.cells [(Value.slice Ab k cb), (Value.slice Ab k cb)].toArray 27))] ++ (Lb ++ []), rfl, ?_, ⟨s11, F11, Ld11, Lg11, HS11.out.1, HS11.out.2.1, HS11.out.2.2.1, HS11.out.2.2.2.1, HS11.out.2.2.2.2.1, ?_⟩, by simp only [LSt.turnTo]; omega, by simp only [LSt.turnTo]; omega, by simp only [LSt.turnTo, List.length_cons, List.length_nil]; omega, by rw [needR_map]; simp only [needs]; omega, by simpa using HB60.out⟩
          · exact rdRows_all 2 [(Value.slice Ab k cb), (Value.slice Ab k cb)] [b, b] (.head _) rfl rfl (by simp) (by simp) (HRD0.out.sublist (List.sublist_append_left Lb [])).more
          · have h13 : Own w _ ([(w11.heap.size, (.cells [(Value.slice Ab k cb), (Value.slice Ab k cb)].toArray 27))] ++ (Ld11 ++ (Lg11 ++ (Lb ++ [])))) := hO12.sub (List.Sublist.cons_cons _ ((List.Sublist.refl Ld11).append ((List.Sublist.refl Lg11).append (((List.Sublist.refl Lb).append (List.nil_sublist _)).trans (List.sublist_append_right [_] _)))))
            exact own_count h13 (by intro p; simp only [List.count_append, List.count_cons, List.count_nil]; omega)
        · have ht0 : ((k4 : Int) == 0) = false := by simp; omega
          have ht1 : ((k4 : Int) == 1) = true := by simp; omega
          have hcall := turn_up (rv := .slice none 0 0) (bs := []) HLV.out ⟨[], fun _ _ _ => ⟨_, _, _, rfl, rfl, Nat.le_refl _, fun h => absurd h (by omega)⟩, rfl, by simp⟩ (by simp) (by simp) (by simp) (by simp) (by simp [needs]) (by omega) (by simp only [List.length_nil]; omega)
          have HC := Lib.hid hcall
          clear hcall HLV
          go_wp2_with fail
          with_reducible refine HC.out.mono ?_
          clear HC
          rintro en w11 ⟨rfl, s11, F11, Ld11, Lg11, o11, hv11, hf11, hd11, hg11, hO11⟩
          have HS11 := Lib.hid (And.intro o11 (And.intro hv11 (And.intro hf11 (And.intro hd11 (And.intro hg11 hO11)))))
          clear o11 hv11 hf11 hd11 hg11 hO11
          go_wp2
          go_meet
          exact ⟨g, l.tslot, l.turnTo [], [], [], rfl, ⟨[], fun _ _ _ => ⟨_, _, _, rfl, rfl, Nat.le_refl _, fun h => absurd h (by omega)⟩, rfl, by simp⟩, ⟨s11, F11, Ld11, Lg11, HS11.out.1, HS11.out.2.1, HS11.out.2.2.1, HS11.out.2.2.2.1, HS11.out.2.2.2.2.1, HS11.out.2.2.2.2.2.sub ((List.Sublist.refl Ld11).append ((List.Sublist.refl Lg11).append (List.nil_sublist _)))⟩, by simp only [LSt.turnTo]; omega, by simp only [LSt.turnTo]; omega, by simp only [LSt.turnTo, List.length_nil]; omega, by simp [needR, needs], by simp⟩
        · have ht0 : ((k4 : Int) == 0) = false := by simp; omega
          have ht1 : ((k4 : Int) == 1) = false := by simp; omega
          have ht2 : ((k4 : Int) == 2) = true := by simp; omega
          have hwc := within_n (w := w8) a1 9 (by omega) (by omega)
          have HWC := Lib.hid hwc
          clear hwc
          have hk99 : (a1 % 9).toNat < 9 := by omega
          generalize (a1 % 9).toNat = k99 at *
          obtain ⟨s5, F5, Ld5, Lg5, o5, hv5, hf5, hd5, hg5, hO5⟩ := HLV.out
          clear HLV
          have HLI := Lib.hid (limit_c hd5 hO5 (k99 : Int) (by omega))
          go_wp2_with fail
          with_reducible refine HWC.out.mono ?_
          rintro en w9 ⟨rfl, rfl⟩
          go_wp2_with fail
          with_reducible refine HLI.out.mono ?_
          clear HLI HWC
          rintro en w10 ⟨rfl, L10, hd10, hO10⟩
          have o10 : OnF { s5 with left := max (k99 : Int) (-1) } F5 := ⟨o5.fl, o5.pend, o5.up⟩
          have hnx5 := hv5.nx; have hnm5 := hv5.num; have hep5 := hv5.ep
          have hO11 := hO10.alloc (.cells [(Value.slice Ab k cb), (Value.slice Ab k cb), (Value.slice Ab k cb)].toArray 27)
          have hO12 : Own w (w10.alloc (.cells [(Value.slice Ab k cb), (Value.slice Ab k cb), (Value.slice Ab k cb)].toArray 27)) (L10 ++ (Lg5 ++ ([(w10.heap.size, (.cells [(Value.slice Ab k cb), (Value.slice Ab k cb), (Value.slice Ab k cb)].toArray 27))] ++ (Lb ++ X)))) := own_count hO11 (by intro p; simp only [List.count_append, List.count_cons, List.count_nil]; omega)
          have hcall := turn_live hd10 hg5 hO12 o10 hv5 (rdRows_all 3 [(Value.slice Ab k cb), (Value.slice Ab k cb), (Value.slice Ab k cb)] [b, b, b] (.head _) rfl rfl (by simp) (by simp) HRD.out.more) (by simpa using HBB.out) (by simpa using HBN.out) (by simpa using HBL.out) (by simp) (by simp only [needs]; omega) (by omega) (by simp only [List.length_cons, List.length_nil]; omega)
          have HC := Lib.hid hcall; have HLV5 := Lib.hid hv5; have HEQ := Lib.hid (And.intro hnx5 (And.intro hnm5 hep5))
          clear hcall hO11 hO12 hO10 hd10 o10 o5 hf5 hd5 hg5 hO5 hv5 hnx5 hnm5 hep5
          go_wp2_with fail
          with_reducible refine HC.out.mono ?_
          clear HC
          rintro en w13 (⟨s13, F13, o13, hv13, -, rfl, Ld13, Lg13, hd13, hg13, hO13⟩ | ⟨s13, l13, -, hcut, rfl, Ld13, Lg13, hd13, hg13, hO13⟩)
          · have HDC := Lib.hid hd13; have HO13 := Lib.hid hO13; have HV13 := Lib.hid hv13
            have HCR : Hid (∀ ks, ∃ F, OnF (s13.crash ks) F ∧ Rest F l.tslot ([b, b, b].map (Prod.mk l.ep))) := fun ks => ⟨F13, ⟨by unfold DSt.crash; rw [o13.pend, o13.fl]; rfl, rfl, rfl⟩, hv13.rest⟩
            clear hd13 hg13 hO13 o13 hv13
            go_wp2_with fail
            have hO14 := HO13.out.alloc (.cells [(Value.slice Ab k cb), (Value.slice Ab k cb), (Value.slice Ab k cb)].toArray 27)
            have hO15 : Own w (w13.alloc (.cells [(Value.slice Ab k cb), (Value.slice Ab k cb), (Value.slice Ab k cb)].toArray 27)) (Ld13 ++ ([(w13.heap.size, (.cells [(Value.slice Ab k cb), (Value.slice Ab k cb), (Value.slice Ab k cb)].toArray 27))] ++ Lb)) := by
              have h5 : Own w (w13.alloc (.cells [(Value.slice Ab k cb), (Value.slice Ab k cb), (Value.slice Ab k cb)].toArray 27)) ([(w13.heap.size, (.cells [(Value.slice Ab k cb), (Value.slice Ab k cb), (Value.slice Ab k cb)].toArray 27))] ++ (Ld13 ++ Lb)) := hO14.sub (List.Sublist.cons_cons _ ((List.Sublist.refl Ld13).append ((sub_here (A := Lb) (B := X)).trans ((List.sublist_append_right [_] _).trans (List.sublist_append_right Lg13 _)))))
              exact h5.rot
            have HOC := Lib.hid hO15
            have HRW : Hid (RdRows w ([(w13.heap.size, (.cells [(Value.slice Ab k cb), (Value.slice Ab k cb), (Value.slice Ab k cb)].toArray 27))] ++ Lb) (.slice (some ⟨w13.heap.size, 0, none⟩) 3 3) (([b, b, b].map (Prod.mk l.ep)).map (·.2))) := rdRows_all 3 [(Value.slice Ab k cb), (Value.slice Ab k cb), (Value.slice Ab k cb)] [b, b, b] (.head _) rfl rfl (by simp) (by simp) HRD0.out.more
            have HLN : Hid (∀ x ∈ ([b, b, b].map (Prod.mk l.ep)).map (·.2), x.length ≤ 1000000) := by show ∀ x ∈ [b, b, b], _; simpa using HBL.out
            have HL60 : Hid (∀ r ∈ [b, b, b].map (Prod.mk l.ep), r.2.length ≤ 60) := by show ∀ r ∈ [(l.ep, b), (l.ep, b), (l.ep, b)], _; simpa using HB60.out
            have hz1 : l.tslot.num < 16777215 := by simp only [LSt.tslot]; omega
            have hz2 : l.tslot.ep < 65535 := by simp only [LSt.tslot]; omega
            have hz3 : l.tslot.first + ([b, b, b].map (Prod.mk l.ep)).length ≤ 16777216 := by simp only [LSt.tslot, List.length_map, List.length_cons, List.length_nil]; omega
            have hz4 : needR ([b, b, b].map (Prod.mk l.ep)) ≤ 12 := by rw [needR_map]; simp only [needs]; omega
            have hz5 : l.tslot.num ≤ 3 + 3 * (i : Int) := by simp only [LSt.tslot]; omega
            have hz6 : l.tslot.ep ≤ 2 + (i : Int) := by simp only [LSt.tslot]; omega
            have hz7 : l.tslot.first + ([b, b, b].map (Prod.mk l.ep)).length ≤ 4 + 4 * (i : Int) := by simp only [LSt.tslot, List.length_map, List.length_cons, List.length_nil]; omega
            clear hO14 hO15 HO13 HV13 HLV5 HEQ
            generalize w13.alloc (.cells [(Value.slice Ab k cb), (Value.slice Ab k cb), (Value.slice Ab k cb)].toArray 27) = w14 at *
            generalize [b, b, b].map (Prod.mk l.ep) = rs3 at *
            generalize l.tslot = t3 at *
            go_wp2_with fail
            have hcall := keeps_c HOC.out (.slice A2 a2.length c2) a2 HIN2.out hk2 (i : Int)
            with_reducible refine hcall.mono ?_
            clear hcall
            rintro en w20 ⟨vk, ks, Lk, rfl, hvk, hO20⟩
            have hrk : RdV w (Lk ++ ([(w13.heap.size, (.cells [(Value.slice Ab k cb), (Value.slice Ab k cb), (Value.slice Ab k cb)].toArray 27))] ++ Lb)) vk (iv ks) := isRow_rdv hvk
            have hO21 : Own w w20 (Ld13 ++ (Lk ++ ([(w13.heap.size, (.cells [(Value.slice Ab k cb), (Value.slice Ab k cb), (Value.slice Ab k cb)].toArray 27))] ++ Lb))) := own_count hO20 (by intro p; simp only [List.count_append, List.count_cons, List.count_nil]; omega)
            have HRK := Lib.hid hrk; have HO21 := Lib.hid hO21
            clear hvk hO20 hrk hO21 HOC
            go_wp2_with fail
            have hcall := crash_c HDC.out HO21.out vk ks HRK.out
            with_reducible refine hcall.mono ?_
            clear hcall HO21 HRK HDC
            rintro en w22 ⟨rfl, Ld22, hd22, hO22⟩
            obtain ⟨F22, o22, hr22⟩ := HCR.out ks
            have HD22 := Lib.hid hd22; have HO22 := Lib.hid hO22.rot.right
            have HS22 := Lib.hid (And.intro o22 hr22)
            clear hd22 hO22 o22 hr22 HCR
            go_wp2_with fail
            have hcall := open_up HD22.out HO22.out HS22.out.1 HS22.out.2 rfl (by omega) (by omega) (by omega)
            with_reducible refine hcall.mono ?_
            clear hcall HD22 HO22
            rintro en w23 ⟨g23, rv23, X23, rfl, hrv23, s23, F23, Ld23, Lg23, o23, hv23, hf23, hd23, hg23, hO23⟩
            have hO24 : Own w w23 (X23 ++ (Ld23 ++ (Lg23 ++ ([(w13.heap.size, (.cells [(Value.slice Ab k cb), (Value.slice Ab k cb), (Value.slice Ab k cb)].toArray 27))] ++ Lb)))) := own_count hO23 (by intro p; simp only [List.count_append, List.count_cons, List.count_nil]; omega)
            have hsm := same4_yes hO24 (hrv23.rd _) (RdRows.more (RdRows.more (RdRows.more HRW.out))) HLN.out (by rw [List.length_map]; have := length_le_needR (rs3); have := hv23.rest.fit; omega)
            have HSM := Lib.hid hsm; have HRV23 := Lib.hid (hrv23.rd [])
            have HS23 := Lib.hid (And.intro o23 (And.intro hv23 (And.intro hf23 (And.intro hd23 hg23))))
            clear hsm hrv23 o23 hv23 hf23 hd23 hg23 hO23 hO24 HRW
            go_wp2_with fail
            with_reducible refine HSM.out.mono ?_
            clear HSM
            rintro en w25 ⟨rfl, hO25⟩
            have HO25 := Lib.hid hO25
            clear hO25
            go_wp2
            go_meet
            refine ⟨g23, _, _, rs3, X23 ++ [], rfl, HRV23.out, ⟨s23, F23, Ld23, Lg23, HS23.out.1, HS23.out.2.1, HS23.out.2.2.1, HS23.out.2.2.2.1, HS23.out.2.2.2.2, ?_⟩, by simp only [upL]; omega, by simp only [upL]; omega, by simp only [upL]; omega, by omega, HL60.out⟩
            have h26 : Own w w25 (X23 ++ (Ld23 ++ (Lg23 ++ []))) := HO25.out.sub ((List.Sublist.refl X23).append ((List.Sublist.refl Ld23).append ((List.Sublist.refl Lg23).append (List.nil_sublist _))))
            exact own_count h26 (by intro p; simp only [List.count_append, List.count_cons, List.count_nil]; omega)
          · obtain ⟨hnx5, hnm5, hep5⟩ := HEQ.out
            have HDC := Lib.hid hd13
            have hO14 : Own w w13 (Ld13 ++ (X ++ [])) := hO13.sub ((List.Sublist.refl Ld13).append ((by rw [List.append_nil]; exact (List.sublist_append_right Lb X).trans ((List.sublist_append_right [_] _).trans (List.sublist_append_right Lg13 _)))))
            have HOC := Lib.hid hO14
            have HCR : Hid (∀ ks, ∃ F, OnF (s13.crash ks) F ∧ Rest F t rs) := hcut.2
            have HRW : Hid (RdRows w (X ++ []) u11 (rs.map (·.2))) := by show RdRows w (X ++ []) u11 (rs.map (·.2)); rw [List.append_nil]; exact HROWS.out
            have HLN : Hid (∀ x ∈ rs.map (·.2), x.length ≤ 1000000) := by
              show ∀ x ∈ rs.map (·.2), x.length ≤ 1000000
              intro x hx; obtain ⟨r, hr, rfl⟩ := List.mem_map.1 hx; have := hb5 r hr; omega
            have HL60 : Hid (∀ r ∈ rs, r.2.length ≤ 60) := hb5
            have hz1 : t.num < 16777215 := by omega
            have hz2 : t.ep < 65535 := by omega
            have hz3 : t.first + rs.length ≤ 16777216 := by omega
            have hz5 : t.num ≤ 3 + 3 * (i : Int) := by omega
            have hz6 : t.ep ≤ 2 + (i : Int) := by omega
            have hz7 : t.first + rs.length ≤ 4 + 4 * (i : Int) := by omega
            clear hO13 hd13 hg13 hcut hO14 HLV5 HEQ hnx5 hnm5 hep5
            go_wp2_with fail
            have hcall := keeps_c HOC.out (.slice A2 a2.length c2) a2 HIN2.out hk2 (i : Int)
            with_reducible refine hcall.mono ?_
            clear hcall
            rintro en w20 ⟨vk, ks, Lk, rfl, hvk, hO20⟩
            have hrk : RdV w (Lk ++ (X ++ [])) vk (iv ks) := isRow_rdv hvk
            have hO21 : Own w w20 (Ld13 ++ (Lk ++ (X ++ []))) := own_count hO20 (by intro p; simp only [List.count_append, List.count_cons, List.count_nil]; omega)
            have HRK := Lib.hid hrk; have HO21 := Lib.hid hO21
            clear hvk hO20 hrk hO21 HOC
            go_wp2_with fail
            have hcall := crash_c HDC.out HO21.out vk ks HRK.out
            with_reducible refine hcall.mono ?_
            clear hcall HO21 HRK HDC
            rintro en w22 ⟨rfl, Ld22, hd22, hO22⟩
            obtain ⟨F22, o22, hr22⟩ := HCR.out ks
            have HD22 := Lib.hid hd22; have HO22 := Lib.hid hO22.rot.right
            have HS22 := Lib.hid (And.intro o22 hr22)
            clear hd22 hO22 o22 hr22 HCR
            go_wp2_with fail
            have hcall := open_up HD22.out HO22.out HS22.out.1 HS22.out.2 rfl (by omega) (by omega) (by omega)
            with_reducible refine hcall.mono ?_
            clear hcall HD22 HO22
            rintro en w23 ⟨g23, rv23, X23, rfl, hrv23, s23, F23, Ld23, Lg23, o23, hv23, hf23, hd23, hg23, hO23⟩
            have hO24 : Own w w23 (X23 ++ (Ld23 ++ (Lg23 ++ (X ++ [])))) := own_count hO23 (by intro p; simp only [List.count_append, List.count_cons, List.count_nil]; omega)
            have hsm := same4_yes hO24 (hrv23.rd _) (RdRows.more (RdRows.more (RdRows.more HRW.out))) HLN.out (by rw [List.length_map]; have := length_le_needR (rs); have := hv23.rest.fit; omega)
            have HSM := Lib.hid hsm; have HRV23 := Lib.hid (hrv23.rd [])
            have HS23 := Lib.hid (And.intro o23 (And.intro hv23 (And.intro hf23 (And.intro hd23 hg23))))
            clear hsm hrv23 o23 hv23 hf23 hd23 hg23 hO23 hO24 HRW
            go_wp2_with fail
            with_reducible refine HSM.out.mono ?_
            clear HSM
            rintro en w25 ⟨rfl, hO25⟩
            have HO25 := Lib.hid hO25
            clear hO25
            go_wp2
            go_meet
            refine ⟨g23, _, _, rs, X23 ++ [], rfl, HRV23.out, ⟨s23, F23, Ld23, Lg23, HS23.out.1, HS23.out.2.1, HS23.out.2.2.1, HS23.out.2.2.2.1, HS23.out.2.2.2.2, ?_⟩, by simp only [upL]; omega, by simp only [upL]; omega, by simp only [upL]; omega, by omega, HL60.out⟩
            have h26 : Own w w25 (X23 ++ (Ld23 ++ (Lg23 ++ []))) := HO25.out.sub ((List.Sublist.refl X23).append ((List.Sublist.refl Ld23).append ((List.Sublist.refl Lg23).append (List.nil_sublist _))))
            exact own_count h26 (by intro p; simp only [List.count_append, List.count_cons, List.count_nil]; omega)
        · have ht0 : ((k4 : Int) == 0) = false := by simp; omega
          have ht1 : ((k4 : Int) == 1) = false := by simp; omega
          have ht2 : ((k4 : Int) == 2) = false := by simp; omega
          have hcall := append_up (bw := (Value.slice Ab k cb)) HLV.out HRD.out HBB.out HBN.out HBL.out (by omega) (by omega)
          have HC := Lib.hid hcall
          clear hcall HLV
          obtain ⟨vs, hv1, hv2, hv3⟩ := HROWS.out
          obtain ⟨A11, c11, hu11⟩ : ∃ A c, u11 = .slice A rs.length c := by
            obtain ⟨A, c, e⟩ := (hv1 w8 (Ld ++ (Lg ++ Lb)) (by have := HO88.out; exact own_count this (by intro p; simp only [List.count_append, List.count_cons, List.count_nil]; omega))).len
            exact ⟨A, c, by rw [e, hv2, List.length_map]⟩
          subst hu11
          rw [List.length_map] at hv2
          have HV1 := Lib.hid hv1; have HV2 := Lib.hid hv2; have HV3 := Lib.hid hv3
          clear hv1 hv2 hv3
          have hrsl : rs.length ≤ 256 := by have := length_le_needR rs; omega
          go_wp2_with fail
          with_reducible refine HC.out.mono ?_
          clear HC
          rintro en w11 ⟨rfl, s11, F11, Ld11, Lg11, o11, hv11, hf11, hd11, hg11, hO11⟩
          have HS11 := Lib.hid (And.intro o11 (And.intro hv11 (And.intro hf11 (And.intro hd11 (And.intro hg11 hO11)))))
          have hO12 := hO11.alloc (.cells [(Value.slice Ab k cb)].toArray 27)
          have hvv := HV1.out (w11.alloc (.cells [(Value.slice Ab k cb)].toArray 27)) ([(w11.heap.size, (.cells [(Value.slice Ab k cb)].toArray 27))] ++ (Ld11 ++ (Lg11 ++ Lb))) (own_count hO12 (by intro p; simp only [List.count_append, List.count_cons, List.count_nil]; omega))
          have HO12 := Lib.hid hO12
          clear o11 hv11 hf11 hd11 hg11 hO11 hO12
          obtain ⟨A', n', c', e', hn', hc', hA'⟩ := hvv
          cases e'
          have hend : ∀ (v' : Value) (w' : World) (L' : Blks), IsRow 27 1 v' (rs.length + 1) (vs ++ [(Value.slice Ab k cb)]) L' → Own w w' (L' ++ ([(w11.heap.size, (.cells [(Value.slice Ab k cb)].toArray 27))] ++ (Ld11 ++ (Lg11 ++ (Lb ++ X))))) → TurnsTo w (.pointer (some ⟨bd, 0, none⟩)) (i + 1) (.pointer (some ⟨g, 0, none⟩)) v' w' := by
            intro v' w' L' hr' hO'
            refine ⟨g, t, _, rs ++ [(l.ep, b)], L' ++ (Lb ++ X), rfl, ?_, ⟨s11, F11, Ld11, Lg11, HS11.out.1, HS11.out.2.1, HS11.out.2.2.1, HS11.out.2.2.2.1, HS11.out.2.2.2.2.1, ?_⟩, by simp only; omega, by simp only; omega, by simp only; omega, by rw [needR_append, show needR [(l.ep, b)] = need b by simp [needR, needs]]; omega, ?_⟩
            · rw [show (rs ++ [(l.ep, b)]).map (·.2) = rs.map (·.2) ++ [b] by simp]
              exact rdRows_snoc hr' HV2.out (by rw [List.length_map]) (fun j hj => HV3.out j (by rw [List.length_map]; exact hj)) HRD0.out
            · have h5 : Own w w' (L' ++ (Ld11 ++ (Lg11 ++ (Lb ++ X)))) := hO'.rot.tail
              exact own_count h5 (by intro p; simp only [List.count_append, List.count_cons, List.count_nil]; omega)
            · intro r hr
              rcases List.mem_append.1 hr with hr | hr
              · exact hb5 r hr
              · rw [List.mem_singleton.1 hr]; exact HB60.out
          have HEND := Lib.hid hend
          clear hend HS11 HV1 HV3 HROWS
          cases A11 with
          | none =>
            have hz : rs.length = 0 := by
              rcases Nat.eq_zero_or_pos rs.length with h | h
              · exact h
              · obtain ⟨ad', h', _⟩ := hA' (by omega); cases h'
            have hvs : vs = [] := List.eq_nil_of_length_eq_zero (by rw [HV2.out]; exact hz)
            subst hvs
            clear hA' hn' hc'
            have hrs : rs = [] := List.eq_nil_of_length_eq_zero hz
            clear hz
            subst hrs
            go_wp2_with (refine wl_appendV rfl _ _ _ rfl _ _ 24 Try.underlying28 rows_info (by rfl) (.slice none 0 0) 0 [] (by rfl) (L := []) ⟨rfl, .inl ⟨rfl, rfl, rfl⟩⟩ HO12.out (.slice (some ⟨w11.heap.size, 0, none⟩) 1 1) [(Value.slice Ab k cb)] (by rfl) (vs_oneL HO12.out (.head _)) (by simp; rfl) (by simp only [maxLen, List.length_singleton]; omega) (by simp only [List.length_singleton]; omega) ?_; intro v13 w13 L13 hr13 hO13; have HF := Lib.hid (HEND.out v13 w13 L13 (by simpa using hr13) hO13); clear hr13 hO13 HO12)
            go_meet
            exact HF.out
          | some ad2 =>
            have hcc : ∀ j u, vs[j]? = some u → (w11.alloc (.cells [(Value.slice Ab k cb)].toArray 27)).cell? (ad2.add j) = some u := fun j u hu => by
              have hj : j < vs.length := (List.getElem?_eq_some_iff.1 hu).1
              obtain ⟨ad', e, h⟩ := hA' (by omega)
              cases e
              exact h j u hu
            have HCC := Lib.hid hcc
            have hnc : (rs.length : Int) ≤ (c11 : Int) := by omega
            have hnn : (0 : Int) ≤ (rs.length : Int) := by omega
            clear hcc hA' hn' hc'
            go_wp2_with (refine wl_appendF rfl _ _ _ rfl _ _ 24 Try.underlying28 rows_info (by rfl) ad2 rs.length vs (by rfl) HV2.out HCC.out HO12.out ⟨w11.heap.size, 0, none⟩ 1 1 [(Value.slice Ab k cb)] (by rfl) rfl (by omega) (fun j u hu => by rw [addr_add_zero, HO12.out.cell (.head _) j]; simpa using hu) (by simp only [maxLen]; omega) (by omega) ?_; intro v13 w13 L13 hr13 hO13; have HF := Lib.hid (HEND.out v13 w13 L13 hr13 hO13); clear hr13 hO13 HO12)
            go_meet
            exact HF.out
      case rest =>
        have HT2 := Lib.hid hcut
        clear hcut
        go_wp2
        go_roundg (13 - (i + 1))
        case measure => omega
        case rel => exact ⟨i + 1, by omega, rfl, by go_num, HT2.out⟩
    · have hgo2 : ¬ ((i : Int) < a0.length) ∨ (((i : Int) < a0.length) ∧ ¬ ((i : Int) < 12)) := by omega
      clear hgo HR0
      obtain ⟨g, t, l, rs, X, rfl, hrows, ⟨s5, F5, Ld5, Lg5, o5, hv5, hf5, hd5, hg5, hO5⟩, hb1, hb2, hb3, hb4, hb5⟩ := HTi.out
      clear HTi
      have hnx5 := hv5.nx; have hnm5 := hv5.num; have hep5 := hv5.ep; have hfit := hv5.rest.fit
      have hcall := open_up hd5 hO5 o5 hv5.rest hf5 (by omega) (by omega) (by omega)
      have HC := Lib.hid hcall; have HROWS := Lib.hid hrows
      clear hcall o5 hv5 hf5 hd5 hg5 hO5 hrows hnx5 hnm5 hep5
      rcases hgo2 with hn1 | ⟨hy1, hn2⟩
      all_goals
        go_wp2_with fail
        with_reducible refine HC.out.mono ?_
        clear HC
        rintro en w6 ⟨g6, rv6, X6, rfl, hrv6, s6, F6, Ld6, Lg6, o6, hv6, hf6, hd6, hg6, hO6⟩
        have hO7 : Own w w6 (X6 ++ (Ld6 ++ (Lg6 ++ (Lg5 ++ X)))) := own_count hO6 (by intro p; simp only [List.count_append, List.count_cons, List.count_nil]; omega)
        have hsm := same4_yes hO7 (hrv6.rd _) (RdRows.more (RdRows.more (RdRows.more (RdRows.more HROWS.out)))) (by intro b hb; obtain ⟨r, hr, rfl⟩ := List.mem_map.1 hb; have := hb5 r hr; omega) (by rw [List.length_map]; have := length_le_needR rs; omega)
        have HSM := Lib.hid hsm
        clear hsm hrv6 o6 hv6 hf6 hd6 hg6 hO6 hO7
        go_wp2_with fail
        with_reducible refine HSM.out.mono ?_
        clear HSM
        rintro en w7 ⟨rfl, hO7⟩
        have HO7 := Lib.hid hO7
        clear hO7
        go_wp2_with fail
        have hcall := wakes4_c HO7.out
        with_reducible refine hcall.mono ?_
        clear hcall
        rintro en w21 ⟨rfl, hO21⟩
        have HO21 := Lib.hid hO21
        clear hO21 HO7
        go_wp2
        go_ret
        exact ⟨rfl, HO21.out.below⟩
set_option maxRecDepth 100000 in
theorem logTurns_lifted (os : Os) (started : os.Started) (H : Type) (enc : TypeId × Value → H) :
    ReturnsInHanded {} Try.checked os 6 .any (Rows.logTurnsSpec.pre6 enc Try.prog Try.f6 Rows.logTurnsRow.domain false) (Rows.logTurnsSpec.post enc Try.prog Try.f6 false true false false) := by
  refine returnsInHanded_of_change_sized (C := Try.checked) (by kernel_rfl) started (by kernel_rfl) Try.func6
    (ChangeSpec.witness6 (enc := enc) (C := Try.checked) false ⟨#[], #[.slice none 0 0, .int .i64 0, .slice none 0 0], []⟩ 8 (by kernel_rfl) (by kernel_rfl) (by kernel_rfl) (by kernel_rfl)) ?_
  intro W base args ds gs before hval0 hW hcnd hsz _
  have hval : ∀ (j : Nat) t v, Try.f6.params[j]? = some t → args[j]? = some v → Value.okWide Try.prog W .any base t v := hval0
  have hW' := hW
  obtain ⟨p, q, hA0, hV, rfl, hfz, hnd⟩ := hW
  have hA : DataW.TrodAll enc Try.prog W 0 (fun _ => true) true Try.f6.params.toList args.toList ds p := hA0
  rw [Try.params6] at hA hval
  obtain ⟨v0, vs0, d0, ds0, p0, q0, hargs, rfl, rfl, h0, r0⟩ := trodAll_cons hA
  obtain ⟨v1, vs1, d1, ds1, p1, q1, rfl, rfl, rfl, h1, r1⟩ := trodAll_cons r0
  obtain ⟨v2, vs2, d2, ds2, p2, q2, rfl, rfl, rfl, h2, r2⟩ := trodAll_cons r1
  obtain ⟨rfl, rfl, rfl⟩ := trodAll_nil r2
  obtain rfl : args = #[v0, v1, v2] := by cases args; simp_all
  obtain ⟨rfl, rfl⟩ := trodVars_none hV
  obtain ⟨b0, len0, cap0, rfl⟩ := okWide_slice Try.underlying22 (hval 0 22 v0 rfl rfl)
  have k0 := h0
  have lt0 : ∀ x ∈ p0, x.block < W.heap.size := by obtain ⟨m, hm⟩ := k0; exact DataW.trod_lt m _ _ _ hm
  obtain ⟨a0, w0⟩ : ∃ xs, InRow .i64 W (.slice b0 len0 cap0) xs := by
    obtain ⟨fuel, hf⟩ := h0
    rcases open_ints Try.underlying22 Try.underlying3 (by kernel_rfl) hf with ⟨hcs, _⟩ | ⟨x, l, c, zs, hcs, _, hl, hm, hz, _, hcell, hwz⟩
    · simp [Value.cells] at hcs
      obtain ⟨rfl, rfl, rfl⟩ := hcs
      exact ⟨[], inRow_nil _ _⟩
    · simp [Value.cells] at hcs
      obtain ⟨rfl, rfl, rfl⟩ := hcs
      exact ⟨zs.take len0, inRow_mk hl hm (by simpa using hz) hcell hwz⟩
  obtain ⟨a1, rfl, rfl, rfl, w1⟩ := open_int Try.underlying3 (hval 1 3 v1 rfl rfl) h1
  obtain ⟨b2, len2, cap2, rfl⟩ := okWide_slice Try.underlying22 (hval 2 22 v2 rfl rfl)
  have k2 := h2
  have lt2 : ∀ x ∈ p2, x.block < W.heap.size := by obtain ⟨m, hm⟩ := k2; exact DataW.trod_lt m _ _ _ hm
  obtain ⟨a2, w2, z2⟩ : ∃ xs, InRow .i64 W (.slice b2 len2 cap2) xs ∧ xs.length ≤ 17592186043904 := by
    obtain ⟨fuel, hf⟩ := h2
    rcases open_ints Try.underlying22 Try.underlying3 (by kernel_rfl) hf with ⟨hcs, _⟩ | ⟨x, l, c, zs, hcs, _, hl, hm, hz, hx, hcell, hwz⟩
    · simp [Value.cells] at hcs
      obtain ⟨rfl, rfl, rfl⟩ := hcs
      exact ⟨[], inRow_nil _ _, by simp⟩
    · simp [Value.cells] at hcs
      obtain ⟨rfl, rfl, rfl⟩ := hcs
      refine ⟨zs.take len2, inRow_mk hl hm (by simpa using hz) hcell hwz, ?_⟩
      have hdd := (Prod.mk.inj hx).1
      have hss := sized_slice hsz (j := 2) (t := 22) (e := 3) (by kernel_rfl) (by rw [hdd]; rfl) Try.underlying22
      rw [show Program.bytesOf Try.checked.prog 3 = 8 by kernel_rfl] at hss
      simp only [lits, List.length_map, reachBytes] at hss
      rw [List.length_take]
      simp only [List.length_take, List.length_drop] at hss
      omega
  clear hA0 hval0
  refine (logTurns_walk _ a0 w0 a1 w1 _ a2 w2 z2).mono fun e W' ⟨he, bel⟩ => ?_
  subst he
  exact ⟨_, rfl, _, _, _, [], _, [], hW', trodAll_mk1 (shut_bool Try.underlying4 _), (trodAll_cons_mk (Below.trod laidOut (by kernel_rfl) (of_decide_eq_true (by kernel_rfl)) k0 bel lt0) (trodAll_cons_mk (shut_int Try.underlying3 w1) (trodAll_cons_mk (Below.trod laidOut (by kernel_rfl) (of_decide_eq_true (by kernel_rfl)) k2 bel lt2) trodAll_mk0))), rfl, bel.frame _, fun h => by cases h⟩

/-- The statement. -/
theorem logTurns_proved : Rows.LogTurnsSaid :=
  OpenClaim.holds_of_wide 6 Try.f6 rfl rfl rfl rfl rfl rfl rfl ⟨rfl, rfl, rfl, rfl, rfl⟩ rfl rfl rfl rfl rfl (by kernel_rfl) Try.func6 (by kernel_rfl)
    (of_decide_eq_true (by kernel_rfl)) (by unfold Func.isWrapper; first | (rw [if_pos (by decide +kernel)]; kernel_rfl) | (rw [if_neg (by decide +kernel)]; exact ⟨rfl, rfl⟩))
    (fun os started H enc _ => logTurns_lifted os started H enc)
end Go.Proofs.Ytdndkapfaiplnaa
