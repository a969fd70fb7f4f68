/-
  CodeTells: for all numbers, any text, any bytes of at most 1,048,576 values and letters in all: any values as bytes, or that they may not be; any bytes as values, or that they are none: as the document's own.
  Conditions: the statement's own bound (the arguments hold together at most 1,048,576 values and letters).
-/
import Derived.Test.YtpapbmamkggfhaaL05f0
import Derived.Deep.DeepCutAuto
import Derived.JoinedCond
namespace Go.Proofs.Ytpapbmamkggfhaa
set_option linter.unusedVariables false
set_option linter.unusedSimpArgs false
set_option maxRecDepth 20000
open Go.ChangeShapes Go.WideShapes Go.ChangeAt Go.RowKit
open Go.ChangeMaps (open_string shut_string)

theorem sl_upto (W : World) (A : Option Addr) (n c hi : Nat) (h1 : hi ≤ n) (h2 : n ≤ c) (h3 : A = none → c = 0) : (Instr.slice 23 (.slice A n c) none (some (.int .i64 (hi : Int))) none).run Try.prog W = .ok (.slice A hi c) W := by
  cases A with
  | none =>
    obtain rfl := h3 rfl
    obtain rfl : n = 0 := by omega
    obtain rfl : hi = 0 := by omega
    kernel_rfl
  | some ad =>
    have h4 : (hi : Int) ≤ c := by omega
    go_simp
theorem IsBytes.some_cap {v : Value} {xs : List Int} {L : Blks} (h : IsBytes v xs L) : ∃ A c, v = .slice A xs.length c ∧ xs.length ≤ c ∧ (A = none → c = 0) ∧ c ≤ maxLen := by
  rcases h.2 with ⟨rfl, hn, rfl⟩ | ⟨g, cap, sp, rfl, rfl, hl, hn, hm⟩
  · exact ⟨none, 0, by rw [hn], by omega, fun _ => rfl, by simp [maxLen]⟩
  · exact ⟨_, cap, rfl, hn, (fun h => by cases h), hm⟩
theorem Rd.first {w0 : World} {R : Blks} {A : Option Addr} {n c : Nat} {xs : List Int} (h : Rd w0 R (.slice A n c) xs) (m : Nat) (hm : m ≤ n) (hl : xs.length = n) : Rd w0 R (.slice A m c) (xs.take m) := by
  intro w' L' hO
  obtain ⟨A', n', c2, e, hn, hc, hA⟩ := h w' L' hO
  cases e
  refine ⟨_, _, _, rfl, by simp; omega, by omega, fun h0 => ?_⟩
  obtain ⟨ad', e, hcell⟩ := hA (by omega)
  refine ⟨ad', e, fun j x hx => hcell j x ?_⟩
  have hj : j < m := by have := (List.getElem?_eq_some_iff.1 hx).1; simp at this; omega
  rwa [List.getElem?_take_of_lt hj] at hx
set_option maxHeartbeats 4000000 in
theorem copyT_c {w0 w : World} {R : Blks} {v : Value} {xs : List Int} (hO : Own w0 w R) (hb : Rd w0 R v xs) (hn : xs.length ≤ 1073741824) : Calls Try.prog 18 #[v] w (GotBytes w0 R xs) := by
  have HV := Lib.hid (hb w [] hO); have HO := Lib.hid hO
  clear hb hO
  go_enter Try.func18, Try.ntmps18
  go_wp2_with (refine wl_appendB rfl _ _ rfl (.slice none 0 0) [] (by rfl) (L := []) (R := R) isBytes_nil (by exact HO.out) v xs (by rfl) HV.out (by simp; omega) ?_; intro v2 w2 L2 hr2 hO2; have HR2 := Lib.hid hr2; have HO2 := Lib.hid hO2; clear hr2 hO2 HV HO)
  go_ret
  exact ⟨v2, L2, rfl, HR2.out, HO2.out⟩
theorem set_sp (xs : List Int) (sp : List Value) (k : Nat) (y : Int) (hk : k < xs.length) : (List.toArray (bv xs ++ sp)).setIfInBounds k (.int .u8 y) = List.toArray (bv (xs.set k y) ++ sp) := by
  simp only [List.setIfInBounds_toArray, bv, List.map_set]
  rw [List.set_append_left _ _ (by simpa using hk)]
theorem turned {w wx : World} {R : Blks} {g cap k : Nat} {D : List Int} {sp : List Value} {y : Int} (hl : (bv D ++ sp).length = cap * 1) (hn : D.length ≤ cap) (hm : cap ≤ maxLen) (hB : Byt D) (hk : k < D.length) (hy : 0 ≤ y ∧ y ≤ 255)
    (hO : Own w wx ((g, .cells ((List.toArray (bv D ++ sp)).setIfInBounds k (.int .u8 y)) 5) :: R)) : ∃ D' L', IsBytes (.slice (some ⟨g, 0, none⟩) D.length cap) D' L' ∧ Byt D' ∧ D'.length = D.length ∧ Own w wx (L' ++ R) := by
  rw [set_sp D sp k y hk] at hO
  refine ⟨D.set k y, _, ⟨by simp, .inr ⟨g, cap, sp, by simp, rfl, by simpa using hl, by simpa using hn, hm⟩⟩, byt_set hB k hy, by simp, hO⟩
def XState (w : World) (R : Blks) (v : Value) (n : Nat) (wx : World) : Prop := ∃ D' L', IsBytes v D' L' ∧ Byt D' ∧ D'.length = n ∧ Own w wx (L' ++ R)
/-- One of the four slices that are decoded. -/
structure YRow (w : World) (R : Blks) (ys : List Value) (k : Nat) (A : Option Addr) (n c : Nat) (bs : List Int) : Prop where
  at_ : ys[k]? = some (.slice A n c)
  rd : Rd w R (.slice A n c) bs
  byt : Byt bs
  len : bs.length = n
  le : n ≤ 1048576
set_option maxHeartbeats 20000000 in
theorem codeTells_walk {w : World} (v0 : Value) (a0 : List Int) (h0 : InRow .i64 w v0 a0) (a1 : ByteArray) (_ : a1.size ≤ maxLen) (a2 : Int) (_ : (Lit.int .i64 a2).wf = true) (v3 : Value) (a3 : List Int) (h3 : InRow .u8 w v3 a3) (hl3 : a3.length ≤ 1048576) (a4 : Int) (_ : (Lit.int .i64 a4).wf = true) (a5 : Int) (h5 : (Lit.int .u8 a5).wf = true) :
    Calls Try.prog 6 #[v0, .string a1, .int .i64 a2, v3, .int .i64 a4, .int .u8 a5] w (Yes w) := by
  obtain ⟨A3, n3, c3, e3, hn3, hc3, hm3, -⟩ := id h3
  subst e3
  have HB0 := Lib.hid h0; have HB3 := Lib.hid h3; have HC5 := Lib.hid (bounds_u8 h5); clear h0 h3 h5
  have HO := Lib.hid (Own.start w)
  have htext := Lib.hid (ktextN (w := w) a1 300 (by omega) 300 rfl)
  go_enter Try.func6, Try.ntmps6
  go_wp2_with fail
  with_reducible refine htext.out.mono ?_
  clear htext
  rintro e w1 ⟨t, ht, rfl, rfl⟩
  go_wp2_with fail
  have hvals := values_c HO.out v0 a0 HB0.out t (by omega) a2
  with_reducible refine hvals.mono ?_
  clear hvals
  rintro e w1 ⟨vs, v, L, rfl, hvs, hv, hO1⟩
  obtain ⟨hok, hln⟩ := hvs.okay (by obtain ⟨_, _, _, _, _, _, _, h, _⟩ := HB0.out; exact h)
  have HOK := Lib.hid hok; have HV := Lib.hid hv; have HO1 := Lib.hid hO1; have HLN := Lib.hid hln
  clear hvs hok hv hO1 HO HB0 hln
  obtain ⟨A1, c1, rfl⟩ := HV.out.val
  have hge := encode_c HO1.out (HV.out.rdv (by simp)) HOK.out (by have := HLN.out; omega)
  have hby : Byt ((encL vs).getD []) := getD_byts fun bs h => encL_byt h
  have hbl : ((encL vs).getD []).length ≤ 2500 := by
    cases h : encL vs with
    | none => simp
    | some bs => have := encL_len h; have := HLN.out; simp only [Option.getD_some]; omega
  have HBY := Lib.hid hby; have HBL := Lib.hid hbl; have HGE := Lib.hid hge
  clear hby hbl hge
  go_wp2_with fail
  with_reducible refine HGE.out.mono ?_
  clear HGE
  intro e w2 hp
  obtain ⟨v14, L14, rfl, hv14, hO2⟩ := both_enc hp
  have HV14 := Lib.hid hv14; have HO2 := Lib.hid hO2
  clear hp hv14 hO2 HO1
  simp only []
  generalize hoe : encL vs = oe at *
  have HOE := Lib.hid hoe; clear hoe
  generalize her : (if oe.isSome = true then (0 : Int) else 1) = er
  have HER := Lib.hid her; clear her
  go_wp2_with fail
  have hcall := refs_c HO2.out (HV.out.rdv (by simp)) HOK.out (by have := HLN.out; omega)
  with_reducible refine hcall.mono ?_
  clear hcall
  rintro e w3 ⟨v40, L40, rfl, hv40, hO3⟩
  have HV40 := Lib.hid hv40; have HO3 := Lib.hid hO3
  clear hv40 hO3 HO2
  go_wp2_with fail
  have hcall := renc_c HO3.out HV40.out (by simp) (by have := HLN.out; omega)
  rw [HOE.out] at hcall
  with_reducible refine hcall.mono ?_
  clear hcall
  intro e w4 hp
  obtain ⟨v16, L16, rfl, hv16, hO4⟩ := both_renc hp
  have HV16 := Lib.hid hv16; have HO4 := Lib.hid hO4
  clear hp hv16 hO4 HO3
  simp only []
  generalize hok : oe.isSome = ok at *
  have HK := Lib.hid hok; clear hok
  generalize hD : oe.getD [] = D at *
  obtain ⟨A14, c14, rfl⟩ := IsRow.val HV14.out
  obtain ⟨A16, c16, e16, hc16, hn16, hm16⟩ := HV16.out.some_cap
  subst e16
  have HN16 := Lib.hid hn16
  clear hn16 hD
  go_upto_region 5 with fail
  go_cut [61] (fun s wx => s = .bool false ∧ Hid (Own w wx (L16 ++ (L40 ++ (L14 ++ (L ++ []))))))
  case first =>
    have hs := same_c (w := w4) (.slice A14 D.length c14) (.slice A16 D.length c16) D D (HV14.out.bs_sub HO4.out (sub_there (sub_there sub_here))) (HV16.out.bs HO4.out) (by have := HBL.out; omega)
    rw [decide_eq_true rfl] at hs
    have HS := Lib.hid hs; clear hs
    cases ok with
    | true =>
      have her : er = 0 := by have := HER.out; simpa using this.symm
      subst her
      go_wp2_with fail
      with_reducible refine HS.out.mono ?_
      rintro e w5 ⟨rfl, q, rfl⟩
      go_wp2_with fail
      go_meet
      exact ⟨rfl, HO4.out.drewN q⟩
    | false =>
      have her : er = 1 := by have := HER.out; simpa using this.symm
      subst her
      go_wp2_with fail
      with_reducible refine HS.out.mono ?_
      rintro e w5 ⟨rfl, q, rfl⟩
      go_wp2_with fail
      go_meet
      exact ⟨rfl, HO4.out.drewN q⟩
  case rest =>
    obtain ⟨rfl, HO5⟩ := hcut
    clear HO4 HV14 HV40 HV HK HER HOE
    have hO6 : Own w wc (L16 ++ []) := by rw [List.append_nil]; exact HO5.out.left
    have HO6 := Lib.hid hO6
    clear hO6 HO5
    go_wp2_with fail
    have hcall := copyT_c HO6.out (HV16.out.rd sub_here) (by have := HBL.out; omega)
    with_reducible refine hcall.mono ?_
    clear hcall
    rintro e w6 ⟨v18, L18, rfl, hv18, hO7⟩
    have HV18 := Lib.hid hv18; have HO7 := Lib.hid hO7
    clear hv18 hO7 HO6
    obtain ⟨A18, c18, e18, hc18, hn18, hm18⟩ := HV18.out.some_cap
    subst e18
    have HC18 := Lib.hid hc18
    clear hn18 hc18
    go_upto_if 66 with fail
    go_cut [] (fun wx => XState w (L16 ++ []) (.slice A18 D.length c18) D.length wx)
    case first =>
      rcases HV18.out.2 with ⟨e, hn, hL⟩ | ⟨g, cap, sp, e, hL, hl, hn, hm⟩
      · have hz : ¬ ((0 : Int) < D.length) := by omega
        clear e hn hL
        go_wp2_with fail
        go_meet
        exact ⟨D, L18, HV18.out, HBY.out, rfl, HO7.out⟩
      · simp only [Value.slice.injEq] at e
        obtain ⟨rfl, -, rfl⟩ := e
        subst hL
        by_cases hz : (0 : Int) < D.length
        · have hL := Lib.hid hl; have hN := Lib.hid hn
          clear hl hn
          go_wp2_with fail
          with_reducible refine (within_n a4 D.length (by omega) (by have := HBL.out; omega)).mono ?_
          rintro e w8 ⟨rfl, rfl⟩
          have hr : (a4 % (D.length : Int)).toNat < D.length := by have := Int.emod_lt_of_pos a4 hz; have := Int.emod_nonneg a4 (show (D.length : Int) ≠ 0 by omega); omega
          generalize (a4 % (D.length : Int)).toNat = r at *
          have hri : (r : Int) < D.length := by omega
          have hcx : w6.cell? ⟨g, r, none⟩ = some (.int .u8 (D[r]'hr)) := by
            rw [HO7.out.cell (.head _) r, List.getElem?_toArray, List.getElem?_append_left (by simpa using hr)]
            simp [bv, hr]
          have hx := xor_byt (HBY.out _ (List.getElem_mem hr)) HC5.out
          have HX := Lib.hid hx
          clear hx
          generalize D[r] = x at *
          go_wp2_with (refine wl_store1 rfl _ _ _ rfl HO7.out 0 g r _ (.int .u8 (bits .xor .u8 x a5)) _ rfl (by rfl) (by rfl) (by rfl) (by kernel_rfl) (by rfl) (by simp; omega) ?_; intro w9 hO9; have HO9 := Lib.hid hO9; clear hO9 HO7)
          go_meet
          exact turned hL.out hN.out hm HBY.out hr HX.out HO9.out
        · clear hl hn
          go_wp2_with fail
          go_meet
          exact ⟨D, _, HV18.out, HBY.out, rfl, HO7.out⟩
    case rest =>
      obtain ⟨D', L19, hv19, hby19, hl19, hO8⟩ := hcut
      have HV19 := Lib.hid hv19; have HBY19 := Lib.hid hby19; have HL19 := Lib.hid hl19; have HO8 := Lib.hid hO8
      clear hv19 hby19 hl19 hO8 HV18 HO7
      have hb1 : D.length ≤ 2500 := HBL.out
      go_wp2_with fail
      with_reducible refine (within_n a4 ((D.length : Int) + 1) (by omega) (by have := HBL.out; omega)).mono ?_
      rintro e w8 ⟨rfl, rfl⟩
      have hr : (a4 % ((D.length : Int) + 1)).toNat ≤ D.length := by have := Int.emod_lt_of_pos a4 (show (0 : Int) < (D.length : Int) + 1 by omega); have := Int.emod_nonneg a4 (show ((D.length : Int) + 1) ≠ 0 by omega); omega
      generalize (a4 % ((D.length : Int) + 1)).toNat = r at *
      have hsl := sl_upto wc A16 D.length c16 r hr hc16 HN16.out
      have hR16 := HV16.out.rd (w0 := w) (R := L16 ++ []) sub_here
      have HR16 := Lib.hid hR16; have HRF := Lib.hid (hR16.first r hr rfl)
      have HRL := Lib.hid hr
      generalize hN : D.length = N at *
      have HN := Lib.hid hN
      clear hN hR16 hr
      go_wp2
      clear hsl
      generalize hg : wc.heap.size = g10
      have HG := Lib.hid hg
      clear hg
      go_loopw [89] (fun t w' => ∃ k : Nat, k ≤ 4 ∧ t = .int .i64 (k : Int) ∧ Hid (Own w w' ((g10, .cells #[.slice A16 N c16, .slice A18 N c18, .slice A3 n3 c3, .slice A16 r c16] 23) :: (L19 ++ (L16 ++ []))))) (fun t _ => 4 - (intOf t).toNat)
      case atStart => exact ⟨0, by omega, rfl, HG.out ▸ HO8.out.alloc _⟩
      case round =>
        obtain ⟨k, hk, rfl, HT⟩ := hrel
        clear HO8
        by_cases hlt : k < 4
        · have hrow : ∃ A n c bs, YRow w ((g10, .cells #[.slice A16 N c16, .slice A18 N c18, .slice A3 n3 c3, .slice A16 r c16] 23) :: (L19 ++ (L16 ++ []))) [.slice A16 N c16, .slice A18 N c18, .slice A3 n3 c3, .slice A16 r c16] k A n c bs := by
            have hb := HBL.out
            obtain rfl | rfl | rfl | rfl : k = 0 ∨ k = 1 ∨ k = 2 ∨ k = 3 := by omega
            · exact ⟨_, _, _, D, rfl, HR16.out.grow ((sub_there (List.Sublist.refl _)).trans (List.sublist_cons_self _ _)), HBY.out, HN.out, by omega⟩
            · exact ⟨_, _, _, D', rfl, HV19.out.rd (sub_here.trans (List.sublist_cons_self _ _)), HBY19.out, by rw [HL19.out], by omega⟩
            · exact ⟨_, _, _, a3, rfl, HB3.out.rdb _, HB3.out.bytb, hn3, by omega⟩
            · exact ⟨_, _, _, D.take r, rfl, HRF.out.grow ((sub_there (List.Sublist.refl _)).trans (List.sublist_cons_self _ _)), byt_take HBY.out r, by have := HRL.out; have := HN.out; simp; omega, by have := HRL.out; omega⟩
          obtain ⟨A, n, c, bs, hrow⟩ := hrow
          have hc : wr.cell? ⟨g10, k, none⟩ = some (.slice A n c) := by
            rw [HT.out.cell (.head _) k, List.getElem?_toArray]; exact hrow.at_
          have HRW := Lib.hid hrow
          have hk4 : (k : Int) < 4 := by omega
          clear hrow
          have hdl := decL_len (xs := bs)
          have HDL := Lib.hid hdl; clear hdl
          go_wp2_with fail
          have hcall := decode_c HT.out HRW.out.rd HRW.out.byt (by rw [HRW.out.len]; have := HRW.out.le; omega)
          with_reducible refine hcall.mono ?_
          clear hcall hc
          intro e w11 hp
          obtain ⟨v21, L21, rfl, hv21, hok21, hO11⟩ := both_dec hp
          have HV21 := Lib.hid hv21; have HO11 := Lib.hid hO11; have HOK21 := Lib.hid hok21
          clear hp hv21 hO11 hok21 HT
          simp only []
          generalize hod : decL bs = od at *
          have HOD := Lib.hid hod; clear hod
          generalize hfr : (if od.isSome = true then (0 : Int) else 2) = fr
          have HFR := Lib.hid hfr; clear hfr
          go_wp2_with fail
          have hcall := rdec_c HO11.out (HRW.out.rd.grow (sub_there (List.Sublist.refl _))) HRW.out.byt (by rw [HRW.out.len]; have := HRW.out.le; omega)
          rw [HOD.out] at hcall
          with_reducible refine hcall.mono ?_
          clear hcall
          intro e w12 hp
          obtain ⟨v23, L23, rfl, hv23, hO12⟩ := both_rdec hp
          have HV23 := Lib.hid hv23; have HO12 := Lib.hid hO12
          clear hp hv23 hO12 HO11
          simp only []
          generalize hok : od.isSome = ok at *
          have HK := Lib.hid hok; clear hok
          generalize hus : od.getD [] = us at *
          clear hus HOD
          obtain ⟨A21, c21, e21⟩ := HV21.out.val
          obtain ⟨A23, c23, e23⟩ := HV23.out.val
          subst e21 e23
          have hM : us.length ≤ 1048576 := by have := HDL.out; have := HRW.out.len; have := HRW.out.le; omega
          generalize hMM : us.length = M at *
          have HM := Lib.hid hMM; clear hMM
          have hmm : ((M : Int) != M) = false := by simp
          clear HDL
          go_upto_region 15 with fail
          go_cut [121] (fun s wx => s = .bool false ∧ w12 = wx)
          case first =>
            cases ok with
            | true =>
              have her : fr = 0 := by have := HFR.out; simpa using this.symm
              subst her
              go_wp2_with fail
              go_meet
              exact ⟨rfl, rfl⟩
            | false =>
              have her : fr = 2 := by have := HFR.out; simpa using this.symm
              subst her
              go_wp2_with fail
              go_meet
              exact ⟨rfl, rfl⟩
          case rest =>
            obtain ⟨rfl, rfl⟩ := hcut
            clear HK HFR
            go_wp2_with fail
            have hcall := refs_c HO12.out (HV21.out.rdv (sub_there sub_here)) HOK21.out (by rw [HM.out]; omega)
            with_reducible refine hcall.mono ?_
            clear hcall
            rintro e w13 ⟨v123, L123, rfl, hv123, hO13⟩
            have HV123 := Lib.hid hv123; have HO13 := Lib.hid hO13
            clear hv123 hO13 HO12
            obtain ⟨A123, c123, e123⟩ := HV123.out.val
            rw [HM.out] at e123
            subst e123
            go_wp2
            go_loopw [125] (fun t w' => ∃ j : Nat, j ≤ M ∧ t = .int .i64 (j : Int) ∧ Hid (Own w w' (L123 ++ (L23 ++ (L21 ++ ((g10, .cells #[.slice A16 N c16, .slice A18 N c18, .slice A3 n3 c3, .slice A16 r c16] 23) :: (L19 ++ (L16 ++ [])))))))) (fun t _ => M - (intOf t).toNat)
            case atStart => exact ⟨0, by omega, rfl, HO13.out⟩
            case round =>
              obtain ⟨j, hj, rfl, HW⟩ := hrel
              clear HO13
              by_cases hjm : j < M
              · have hju : j < us.length := by rw [HM.out]; exact hjm
                obtain ⟨g123, cp1, sp1, e, hm1⟩ := HV123.out.load (R := L123 ++ (L23 ++ (L21 ++ ((g10, .cells #[.slice A16 N c16, .slice A18 N c18, .slice A3 n3 c3, .slice A16 r c16] 23) :: (L19 ++ (L16 ++ [])))))) sub_here (by omega)
                simp only [Value.slice.injEq] at e
                obtain ⟨rfl, -, rfl⟩ := e
                obtain ⟨g23, cp2, sp2, e, hm2⟩ := HV23.out.load (R := L123 ++ (L23 ++ (L21 ++ ((g10, .cells #[.slice A16 N c16, .slice A18 N c18, .slice A3 n3 c3, .slice A16 r c16] 23) :: (L19 ++ (L16 ++ [])))))) (sub_there sub_here) (by omega)
                simp only [Value.slice.injEq] at e
                obtain ⟨rfl, -, rfl⟩ := e
                have hd1 := rvs_sp us sp1 j hju
                have hd2 := rvs_sp us sp2 j hju
                generalize us[j] = a at *
                have HD1 := Lib.hid hd1; have HD2 := Lib.hid hd2; have HM1 := Lib.hid hm1; have HM2 := Lib.hid hm2
                clear hd1 hd2 hm1 hm2 hju
                have hji : (j : Int) < M := by omega
                go_wp2_with (first | (refine wl_load rfl _ _ rfl g123 (j * 4) (rvs us ++ sp1) (rv a) _ (HW.out.heap HM1.out) (by rfl) _ Try.underlying55 rfl (by rw [length_rv]; exact rv_size) (by rw [length_rv]; exact HD1.out) ?_) | (refine wl_alloc rfl _ rfl HW.out _ (alloc_rv _) ?_; intro g26 w14 hO14; have HO14 := Lib.hid hO14; clear hO14 HW) | (refine wl_store rfl _ _ _ rfl HO14.out 0 g26 0 _ (rv a) _ rfl (by rfl) (by rfl) (by rw [length_rv]; exact rv_size) (one_rv a) (by simp [length_rv]) ?_; intro w15 hO15'; rw [wr_all _ _ (by simp [length_rv])] at hO15'; have hO15 : Own w w15 ((g26, .cells (rv a).toArray 55) :: (L123 ++ (L23 ++ (L21 ++ ((g10, .cells #[.slice A16 N c16, .slice A18 N c18, .slice A3 n3 c3, .slice A16 r c16] 23) :: (L19 ++ (L16 ++ []))))))) := hO15'; have HO15 := Lib.hid hO15; clear hO15 hO15' HO14))
                refine wp_region_lin (fun w' => w'.heap[g26]? = some (.cells (rv a).toArray 55) ∧ w'.heap[g23]? = some (.cells (rvs us ++ sp2).toArray 55)) 6 [(0, true), (1, true), (2, true), (3, true), (4, true), (5, true)] (by kernel_rfl) (by kernel_rfl) (fun _ _ d _ _ h => by cases d <;> exact h) ⟨HO15.out.heap (.head _), HO15.out.heap (.tail _ HM2.out)⟩ ?_
                simp only [List.map_cons, List.map_nil, pick_zero, pick_succ, List.drop_succ_cons, List.drop_zero]
                simp only [Act.put, List.setIfInBounds_toArray, List.set_cons_zero, List.set_cons_succ]
                refine lin_load rfl _ _ rfl g26 0 (rv a) (rv a) _ (by rfl) _ Try.underlying55 rfl (by rw [length_rv]; exact rv_size) (by rw [List.drop_zero, List.take_length]) (fun w' hw => hw.1) ?_
                simp only [Act.put, List.setIfInBounds_toArray, List.set_cons_zero, List.set_cons_succ]
                iterate 3 (refine lin_q ?_ rfl ?_ ?_; rotate_left 1; (focus (rintro w' -; go_simp; first | done | with_reducible rfl | (trace_state; fail))); simp only [Act.put, List.setIfInBounds_toArray, List.set_cons_zero, List.set_cons_succ])
                refine lin_load rfl _ _ rfl g23 (j * 4) (rvs us ++ sp2) (rv a) _ (by rfl) _ Try.underlying55 rfl (by rw [length_rv]; exact rv_size) (by rw [length_rv]; exact HD2.out) (fun w' hw => hw.2) ?_
                simp only [Act.put, List.setIfInBounds_toArray, List.set_cons_zero, List.set_cons_succ]
                refine lin_q (.bool false) rfl (fun w' hq => by simp [execOp, Act.eval, (ne_rv w' a).1, (ne_rv w' a).2]) ?_
                simp only [Act.put, List.setIfInBounds_toArray, List.set_cons_zero, List.set_cons_succ]
                refine lin_nil ?_
                go_wp2
                go_roundw
                case rel => exact ⟨j + 1, by omega, by go_num, HO15.out.drew.tail⟩
                case measure => simp [intOf]; omega
              · obtain rfl : j = M := by omega
                go_wp2
                go_roundw
                case rel => exact ⟨k + 1, by omega, by go_num, HW.out.right.right.right⟩
                case measure => simp [intOf]; omega
        · obtain rfl : k = 4 := by omega
          go_wp2_with fail
          with_reducible refine (wakes5_c HT.out).mono ?_
          rintro e w20 ⟨rfl, hO20⟩
          have HO20 := Lib.hid hO20; clear hO20 HT
          go_wp2
          go_ret
          exact HO20.out.yes rfl
theorem bulk_one {H : Type} (d : DataW H) : 1 ≤ Rows.uptoBulk d := by
  cases d with
  | lit l => cases l <;> simp [Rows.uptoBulk]
  | _ => simp [Rows.uptoBulk]
theorem bulk_len {H : Type} (l : List (DataW H)) : l.length ≤ Rows.uptoBulkAll l := by
  induction l with
  | nil => simp
  | cons x r ih => have := bulk_one x; simp only [Rows.uptoBulkAll, List.length_cons]; omega
set_option maxRecDepth 100000 in
theorem codeTells_contract (H : Type) (enc : TypeId × Value → H) (W : World) (base : Nat) (args : Array Value) (ds gs : List (DataW H)) (before : List MemPlace)
    (hval : ∀ (j : Nat) t v, Try.f6.params[j]? = some t → args[j]? = some v → Value.okWide Try.prog W .any base t v)
    (hW : DataW.Whole enc Try.prog Try.f6.params.toList Rows.codeTellsSpec.vars false W args.toList ds gs before) (hk : Rows.uptoSmall H (ds ++ gs) = true) :
    Calls Try.prog 6 args W fun e W' => ∃ v, e = .returned v ∧ Rows.codeTellsSpec.post enc Try.prog Try.f6 false true false false W args v W' := by
  have hW' := hW
  obtain ⟨p, q, hA0, hV, rfl, hfz, hnd⟩ := hW
  have hA : DataW.TrodAll enc Try.prog W 0 (fun _ => true) true Try.f6.params.toList args.toList ds p := hA0
  rw [Try.params6] at hA hval
  obtain ⟨v0, vs0, d0, ds0, p0, q0, hargs, rfl, rfl, h0, r0⟩ := trodAll_cons hA
  obtain ⟨v1, vs1, d1, ds1, p1, q1, rfl, rfl, rfl, h1, r1⟩ := trodAll_cons r0
  obtain ⟨v2, vs2, d2, ds2, p2, q2, rfl, rfl, rfl, h2, r2⟩ := trodAll_cons r1
  obtain ⟨v3, vs3, d3, ds3, p3, q3, rfl, rfl, rfl, h3, r3⟩ := trodAll_cons r2
  obtain ⟨v4, vs4, d4, ds4, p4, q4, rfl, rfl, rfl, h4, r4⟩ := trodAll_cons r3
  obtain ⟨v5, vs5, d5, ds5, p5, q5, rfl, rfl, rfl, h5, r5⟩ := trodAll_cons r4
  obtain ⟨rfl, rfl, rfl⟩ := trodAll_nil r5
  obtain rfl : args = #[v0, v1, v2, v3, v4, v5] := by cases args; simp_all
  obtain ⟨rfl, rfl⟩ := trodVars_none hV
  obtain ⟨b0, len0, cap0, rfl⟩ := okWide_slice Try.underlying37 (hval 0 37 v0 rfl rfl)
  have k0 := h0
  have lt0 : ∀ x ∈ p0, x.block < W.heap.size := by obtain ⟨m, hm⟩ := k0; exact DataW.trod_lt m _ _ _ hm
  obtain ⟨a0, w0⟩ : ∃ xs, InRow .i64 W (.slice b0 len0 cap0) xs := by
    obtain ⟨fuel, hf⟩ := h0
    rcases open_ints Try.underlying37 Try.underlying3 (by kernel_rfl) hf with ⟨hcs, _⟩ | ⟨x, l, c, zs, hcs, _, hl, hm, hz, _, hcell, hwz⟩
    · simp [Value.cells] at hcs
      obtain ⟨rfl, rfl, rfl⟩ := hcs
      exact ⟨[], inRow_nil _ _⟩
    · simp [Value.cells] at hcs
      obtain ⟨rfl, rfl, rfl⟩ := hcs
      exact ⟨zs.take len0, inRow_mk hl hm (by simpa using hz) hcell hwz⟩
  obtain ⟨a1, rfl, rfl, rfl, w1⟩ := open_string Try.underlying9 (hval 1 9 v1 rfl rfl) h1
  obtain ⟨a2, rfl, rfl, rfl, w2⟩ := open_int Try.underlying3 (hval 2 3 v2 rfl rfl) h2
  obtain ⟨b3, len3, cap3, rfl⟩ := okWide_slice Try.underlying23 (hval 3 23 v3 rfl rfl)
  have k3 := h3
  have lt3 : ∀ x ∈ p3, x.block < W.heap.size := by obtain ⟨m, hm⟩ := k3; exact DataW.trod_lt m _ _ _ hm
  obtain ⟨a3, w3, l3⟩ : ∃ xs, InRow .u8 W (.slice b3 len3 cap3) xs ∧ xs.length ≤ 1048576 := by
    obtain ⟨fuel, hf⟩ := h3
    rcases open_ints Try.underlying23 Try.underlying5 (by kernel_rfl) hf with ⟨hcs, _⟩ | ⟨x, l, c, zs, hcs, _, hl, hm, hz, hx, hcell, hwz⟩
    · simp [Value.cells] at hcs
      obtain ⟨rfl, rfl, rfl⟩ := hcs
      exact ⟨[], inRow_nil _ _, by simp⟩
    · simp [Value.cells] at hcs
      obtain ⟨rfl, rfl, rfl⟩ := hcs
      refine ⟨zs.take len3, inRow_mk hl hm (by simpa using hz) hcell hwz, ?_⟩
      have hd : d3 = .slice (lits .u8 (zs.take len3)) (lits .u8 (zs.drop len3)) := congrArg Prod.fst hx
      have hb : _ ≤ 1048576 := of_decide_eq_true hk
      rw [hd] at hb
      simp only [List.append_nil, Rows.uptoBulkAll, Rows.uptoBulk] at hb
      have h1 := bulk_len (H := H) (lits .u8 (zs.take len3))
      have h2 : (lits (H := H) .u8 (zs.take len3)).length = (zs.take len3).length := by simp [lits]
      omega
  obtain ⟨a4, rfl, rfl, rfl, w4⟩ := open_int Try.underlying3 (hval 4 3 v4 rfl rfl) h4
  obtain ⟨a5, rfl, rfl, rfl, w5⟩ := open_int Try.underlying5 (hval 5 5 v5 rfl rfl) h5
  clear hA0
  refine (codeTells_walk _ a0 w0 a1 w1 a2 w2 _ a3 w3 l3 a4 w4 a5 w5).mono fun e W' ⟨he, bel⟩ => ?_
  subst he
  exact ⟨_, rfl, _, _, _, [], _, [], hW', trodAll_mk1 (shut_bool Try.underlying4 _), (trodAll_cons_mk (Below.trod laidOut (by kernel_rfl) (of_decide_eq_true (by kernel_rfl)) k0 bel lt0) (trodAll_cons_mk (shut_string Try.underlying9 w1) (trodAll_cons_mk (shut_int Try.underlying3 w2) (trodAll_cons_mk (Below.trod laidOut (by kernel_rfl) (of_decide_eq_true (by kernel_rfl)) k3 bel lt3) (trodAll_cons_mk (shut_int Try.underlying3 w4) (trodAll_cons_mk (shut_int Try.underlying5 w5) trodAll_mk0)))))), rfl, bel.frame _, fun h => by cases h⟩


set_option maxRecDepth 100000 in
theorem codeTells_lifted (os : Os) (started : os.Started) (H : Type) (enc : TypeId × Value → H) (F : Stop.Interp) :
    ReturnsInHanded {} Try.checked os 6 .any ((Rows.OpenSpec.upto Rows.codeTellsSpec).pre6 enc Try.prog Try.f6 Rows.codeTellsUptoRow.domain false) (((Rows.OpenSpec.upto Rows.codeTellsSpec).at F).post enc Try.prog Try.f6 false true false false) := by
  refine returnsInHanded_of_cond (C := Try.checked) (s := Rows.OpenSpec.upto Rows.codeTellsSpec) (k := Rows.uptoSmall) rfl (by kernel_rfl) started (by kernel_rfl) Try.func6
    (OpenSpec.witness (enc := enc) (C := Try.checked) (s := Rows.OpenSpec.upto Rows.codeTellsSpec) (k := Rows.uptoSmall) rfl false ⟨#[], #[.slice none 0 0, .string .empty, .int .i64 0, .slice none 0 0, .int .i64 0, .int .u8 0], []⟩ 8 (by kernel_rfl) (by kernel_rfl) (by kernel_rfl)
      (x := ([.nil, .lit (.string []), .lit (.int .i64 0), .nil, .lit (.int .i64 0), .lit (.int .u8 0)], [], [])) (by kernel_rfl) rfl (by kernel_rfl)) ?_
  intro W base args ds gs before hval hW _ hk _
  exact codeTells_contract H enc W base args ds gs before hval hW hk

/-- The statement. -/
theorem codeTells_proved : Rows.CodeTellsUptoSaid :=
  OpenClaim.holds_of_cond 6 Try.f6 rfl rfl rfl rfl rfl rfl rfl ⟨rfl, rfl, rfl, rfl, rfl⟩ rfl rfl rfl rfl rfl (by kernel_rfl) Try.func6 (by kernel_rfl)
    (of_decide_eq_true (by kernel_rfl)) (by unfold Func.isWrapper; first | (rw [if_pos (by decide +kernel)]; kernel_rfl) | (rw [if_neg (by decide +kernel)]; exact ⟨rfl, rfl⟩))
    (fun os started H enc _ F => codeTells_lifted os started H enc F)
end Go.Proofs.Ytpapbmamkggfhaa
