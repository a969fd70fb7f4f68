/-
  Texts that the laws stand on: AskP2, AskP, Ply1, Ply2.
-/
import Derived.Test.YtlcolabblpikjaaDoorM7
import Derived.Test.YtlcolabblpikjaaDoorM5
import Derived.Deep.DeepCutAuto
import Derived.Deep.CutBlock
import Derived.Test.YtlcolabblpikjaaDoorM10
import Derived.Test.YtlcolabblpikjaaDoorM1
import Derived.Test.YtlcolabblpikjaaDoorM3

/-
  The landed program's readHeads, read.
-/
namespace Go.Proofs.YtlcolabblpikjaaDoor
set_option linter.unusedVariables false
set_option linter.unusedSimpArgs false
set_option maxRecDepth 20000
open Go.RowKit

theorem str_cells : Tryd.prog.cellsOf 9 = 1 := by kernel_rfl
/-- The lines behind the first three. -/
theorem slice3 (g M c : Nat) (h3 : 3 ≤ M) (hc : M ≤ c) : ∃ off, (∀ w : World, (Instr.slice 34 (.slice (some ⟨g, 0, none⟩) M c) (some (.int .i64 3)) none none).run Tryd.prog w = .ok (.slice (some ⟨g, off, none⟩) (M - 3) (c - 3)) w) ∧ (3 < M → off = 3) := by
  have hz : ∀ w : World, (sizeOf (Tryd.prog.elem 34)).run Tryd.prog w = .ok 1 w := fun w => by kernel_rfl
  have hu : Tryd.prog.underlying 34 = some (.slice (Tryd.prog.elem 34)) := by kernel_rfl
  by_cases h : c = 3
  · refine ⟨0, fun w => ?_, fun h4 => by omega⟩
    rw [run_slice_l w 34 _ _ _ hu .i64 3 (by omega) (by omega), hz]
    simp [Result.andThen, sliced, h]
  · refine ⟨3, fun w => ?_, fun _ => rfl⟩
    rw [run_slice_l w 34 _ _ _ hu .i64 3 (by omega) (by omega), hz]
    simp [Result.andThen, sliced, Addr.add, h]
set_option maxRecDepth 100000 in
set_option maxHeartbeats 8000000 in
theorem arheads_c {w0 w : World} {R : Blks} (hV : MostOk w0) (hO : Own w0 w R) (g off c : Nat) (ls : List (List Int)) (n : Nat) (hn : ls.length = n) (hc : n ≤ c) (hB : ∀ x ∈ ls, Byt x) (hsum : sumL ls ≤ 100000000)
    (hR : ∀ (w' : World) (L' : Blks), Own w0 w' (L' ++ R) → ∀ (j : Nat) x, ls[j]? = some x → w'.cell? ⟨g, off + j, none⟩ = some (.string (strOfNums x))) :
    Calls Tryd.prog 34 #[.slice (some ⟨g, off, none⟩) n c] w fun e w' => ∃ r L, e = .returned (.tuple #[r, .bool (readHG ls).isSome]) ∧ IsHeads r (((readHG ls).getD []).map toB) L ∧ Own w0 w' (L ++ R) := by
  have key : ∀ (l : List (List Int)), l.length ≤ sumL l := by
    intro l
    induction l with
    | nil => exact Nat.zero_le _
    | cons a l ih => rw [sumL_cons, List.length_cons]; omega
  have hlong : ∀ x ∈ ls, x.length ≤ 100000000 := by
    have key2 : ∀ (l : List (List Int)), ∀ x ∈ l, x.length ≤ sumL l := by
      intro l
      induction l with
      | nil => intro x hx; cases hx
      | cons a l ih =>
        intro x hx
        rw [sumL_cons]
        rcases List.mem_cons.1 hx with rfl | hx
        · omega
        · have := ih x hx; omega
    intro x hx
    have := key2 ls x hx
    omega
  have hnb : n ≤ 100000000 := by have := key ls; omega
  obtain ⟨o, ho⟩ : ∃ o, readHG ls = o := ⟨_, rfl⟩
  rw [ho]
  have HV0 := Lib.hid hV; have HN := Lib.hid hn; have HB := Lib.hid hB; have HRR := Lib.hid hR; have HLO := Lib.hid hlong
  have HO := Lib.hid hO
  have HI0 : Hid (o = (readHG (ls.drop 0)).map (fun r => ([] : HL) ++ r)) := Lib.hid (by rw [List.drop_zero, ho]; cases o <;> rfl)
  clear hV hn hB hR hlong hO ho hsum key
  go_enter Tryd.func34, Tryd.ntmps34
  go_wp2
  go_loopw [2, 11] (fun u t w' => ∃ (k : Nat) (hs : HL) (A : Option Addr) (m cv : Nat) (L : Blks), k ≤ n ∧ t = .int .i64 k ∧ u = .slice A m cv ∧ Hid (o = (readHG (ls.drop k)).map (fun r => hs ++ r)) ∧ Hid (IsHeads (.slice A m cv) (hs.map toB) L ∧ m = hs.length ∧ m = k) ∧ Hid (Own w0 w' (L ++ R))) (fun _ t _ => n - (intOf t).toNat)
  case atStart => exact ⟨0, [], none, 0, 0, [], Nat.zero_le _, rfl, rfl, HI0, Lib.hid ⟨isHeads_nil, rfl, rfl⟩, HO⟩
  case round =>
    obtain ⟨k, hs, A, m, cv, L, hk, rfl, rfl, HI, HS, HO2⟩ := hrel
    clear HI0 HO
    by_cases hlt : k < n
    · have hkn : (k : Int) < n := by omega
      have hkl : k < ls.length := by rw [HN.out]; exact hlt
      have hat : ls[k]? = some ls[k] := List.getElem?_eq_getElem hkl
      have hcell := HRR.out wr L HO2.out k _ hat
      have hdr : ls.drop k = ls[k] :: ls.drop (k + 1) := List.drop_eq_getElem_cons hkl
      have hmem : ls[k] ∈ ls := List.getElem_mem hkl
      generalize ls[k] = l at *
      have hlB := HB.out l hmem
      have hll := HLO.out l hmem
      have hst := HI.out
      rw [hdr, readHG] at hst
      have hcut := fun (w1 : World) (R1 : Blks) (h : Own w0 w1 R1) => acut_c HV0.out h (strOfNums l) (strs_size (by omega)) ⟨#[58, 32]⟩ (by simp)
      rw [sb_str hlB, show sb ⟨#[58, 32]⟩ = [58, 32] from rfl] at hcut
      have hcb := cutS_byt [58, 32] hlB
      have hcl := cutS_len [58, 32] l
      generalize (cutS [58, 32] l).1 = na at *
      generalize (cutS [58, 32] l).2.1 = va at *
      generalize (cutS [58, 32] l).2.2 = fd at *
      have hc1 := fun (w1 : World) (R1 : Blks) (h : Own w0 w1 R1) => clone_c h (strOfNums na) (strs_size (by omega))
      have hc2 := fun (w1 : World) (R1 : Blks) (h : Own w0 w1 R1) => clone_c h (strOfNums va) (strs_size (by omega))
      have HCUT := Lib.hid hcut; have HC1 := Lib.hid hc1; have HC2 := Lib.hid hc2; have HST := Lib.hid hst
      clear hcut hc1 hc2 hst hcb hcl hlB hll hmem hdr hat hkl HI
      go_wp2_with fail
      with_reducible refine (HCUT.out _ _ HO2.out).mono ?_
      rintro e w1 ⟨rfl, hO⟩
      have HO3 := Lib.hid hO; clear hO HO2 HCUT hcell
      cases fd with
      | false =>
        have HE : Hid (o = none) := Lib.hid (by rw [HST.out]; rfl)
        clear HST
        go_wp2
        go_ret2
        exact ⟨.slice none 0 0, [], by rw [HE.out]; rfl, by rw [HE.out]; exact isHeads_nil, HO3.out.right⟩
      | true =>
        have HE : Hid (o = (readHG (ls.drop (k + 1))).map (fun r => (hs ++ [(na, va)]) ++ r)) := Lib.hid (by
          rw [HST.out, if_pos rfl, Option.map_map]
          congr 1
          funext r
          simp [Function.comp])
        have HV1 : Hid (IsHeads (.slice A m cv) (hs.map toB) L) := Lib.hid HS.out.1
        have HM : Hid ((hs.map toB).length = m) := Lib.hid (by rw [List.length_map, HS.out.2.1])
        have h1073 : (hs.map toB).length + 1 ≤ 1073741824 := by rw [HM.out, HS.out.2.2]; omega
        have H1073 := Lib.hid h1073
        clear HST h1073
        go_wp2_with fail
        with_reducible refine (HC1.out _ _ HO3.out).mono ?_
        rintro e w2 ⟨rfl, hO⟩
        have HO4 := Lib.hid hO; clear hO HO3 HC1
        go_wp2_with fail
        with_reducible refine (HC2.out _ _ HO4.out).mono ?_
        rintro e w3 ⟨rfl, hO⟩
        have HO7 := Lib.hid hO; clear hO HO4 HC2
        go_wp2_with (refine wl_appendH1 rfl _ _ rfl (.slice A m cv) (hs.map toB) (by rfl) HV1.out (HO7.out.put2 (.cells #[.string (strOfNums na), .string (strOfNums va)] 23)) _ 1 (toB (na, va)) (by rfl) (.head _) H1073.out ?_; intro v2 wa L2 hv2' hO; have HV2 := Lib.hid hv2'; have HOA := Lib.hid hO; obtain ⟨A2, c2, hve⟩ := IsRow.val hv2'; rw [List.length_append, HM.out, List.length_singleton] at hve; subst hve; clear hO hv2' HO7)
        go_roundw
        case rel => exact ⟨k + 1, hs ++ [(na, va)], _, _, _, L2, by omega, by go_num, rfl, HE, Lib.hid ⟨by rw [List.map_append]; exact HV2.out, by rw [List.length_append, List.length_singleton, HS.out.2.1], by rw [HS.out.2.2]⟩, Lib.hid (HOA.out.sub (List.Sublist.append_left (List.sublist_cons_self _ _) _))⟩
        case measure => simp [intOf]; omega
    · obtain rfl : k = n := by omega
      have hkn : ¬ (k : Int) < k := by omega
      have HE : Hid (o = some hs) := Lib.hid (by
        rw [HI.out, List.drop_of_length_le (by rw [HN.out]; exact Nat.le_refl _), readHG, Option.map_some, List.append_nil])
      clear HI
      go_wp2
      go_ret2
      exact ⟨.slice A m cv, by rw [HE.out]; rfl, L, by rw [HE.out]; exact HS.out.1, HO2.out⟩
/-! ### read -/
theorem alloc_aske (w : World) : (Instr.alloc 26 true (.tuple #[])).run Tryd.prog w = .ok (.pointer (some ⟨w.heap.size, 0, none⟩)) (w.alloc (.cells (av ⟨#[]⟩ ⟨#[]⟩ (.slice none 0 0) ⟨#[]⟩).toArray 26)) := by kernel_rfl
theorem aske_size : (Tryd.prog.info? 26).map (·.size) = some 4 := by kernel_rfl
theorem linesG_take (t b : List Int) : linesG t b = (splE t).take (linesG t b).length := by
  unfold linesG
  split
  · rw [List.take_length]
  · rw [List.length_dropLast, ← List.dropLast_eq_take]
def MidQ (x : Value) (W : World) (s : Value) (wx : World) : Prop := s = x ∧ wx = W
set_option maxRecDepth 100000 in
set_option maxHeartbeats 16000000 in
theorem aread_c {w0 w : World} {R : Blks} (hV : MostOk w0) (hO : Own w0 w R) (s : ByteArray) (hs : s.size ≤ 4000000) :
    Calls Tryd.prog 20 #[.string s] w (GotAsk w0 R (readG (sb s)) (.bool true) (.bool false)) := by
  obtain ⟨r, hr⟩ : ∃ r, readG (sb s) = r := ⟨_, rfl⟩
  rw [hr]
  have hB := byt_sb s
  have hln : (sb s).length ≤ 4000000 := by rw [length_sb]; exact hs
  have hcut := fun (w1 : World) (R1 : Blks) (h : Own w0 w1 R1) => acut_c hV h s (by omega) ⟨#[13, 10, 13, 10]⟩ (by simp)
  rw [show sb ⟨#[13, 10, 13, 10]⟩ = [13, 10, 13, 10] from rfl] at hcut
  have hcl := cutS_len [13, 10, 13, 10] (sb s)
  have hcb := cutS_byt [13, 10, 13, 10] hB
  unfold readG at hr
  generalize (cutS [13, 10, 13, 10] (sb s)).1 = top at *
  generalize (cutS [13, 10, 13, 10] (sb s)).2.1 = body at *
  generalize (cutS [13, 10, 13, 10] (sb s)).2.2 = ended at *
  have hsp := fun (w1 : World) (R1 : Blks) (h : Own w0 w1 R1) => asplit_c hV h (strOfNums top) (strs_size (by omega))
  rw [sb_str hcb.1] at hsp
  have htk := linesG_take top body
  have hlB := linesG_byt (b := body) hcb.1
  have hlS := linesG_sum top body
  have hne := splE_ne top
  have hN0 : (linesG top body).length = if body = [] then (splE top).length else (splE top).length - 1 := by
    unfold linesG
    split
    · rfl
    · exact List.length_dropLast
  have hN1 : 0 < (splE top).length := List.length_pos_iff.2 hne
  obtain ⟨ls, hls⟩ : ∃ ls, linesG top body = ls := ⟨_, rfl⟩
  rw [hls] at hr htk hlB hlS hN0
  have bb := str_lit body hcb.2 [] [] rfl
  have hcb1 := fun (w1 : World) (R1 : Blks) (h : Own w0 w1 R1) => clone_c h (strOfNums body) (strs_size (by omega))
  have HR := Lib.hid hr; have HCUT := Lib.hid hcut; have HSP := Lib.hid hsp; have HTK := Lib.hid htk; have HLB := Lib.hid hlB; have HV := Lib.hid hV; have HCB := Lib.hid hcb1; have HBB := Lib.hid bb; have HN0 := Lib.hid hN0
  have HLS : Hid (sumL ls ≤ 4000002) := Lib.hid (by omega)
  have HO := Lib.hid hO
  have HN1 := Lib.hid hN1
  generalize splE top = sp at *
  clear hr hcut hsp htk hlB hlS hne hls bb hcb1 hcb hcl hln hB hV hO hN0 hN1
  go_enter Tryd.func20, Tryd.ntmps20
  go_wp2_with (refine wl_alloc rfl _ rfl HO.out _ (alloc_aske _) ?_; intro g2 w1 hO; have HO1 := Lib.hid hO; clear hO HO)
  with_reducible refine (HCUT.out _ _ HO1.out).mono ?_
  rintro e w2 ⟨rfl, hO⟩
  have HO2 := Lib.hid hO; clear hO HO1 HCUT
  go_wp2_with fail
  with_reducible refine (HSP.out _ _ HO2.out).mono ?_
  rintro e w4 ⟨v, L, rfl, hv, hO⟩
  have HO4 := Lib.hid hO; clear hO HO2 HSP
  have hlsl : ls.length ≤ sp.length := by have h1 := HN0.out; split at h1 <;> omega
  obtain ⟨g, c, hve, hcc, hmx, hst⟩ := hv.cut ls.length (by rw [List.length_map]; exact hlsl) (by rw [List.length_map]; exact HN1.out)
  rw [List.length_map] at hve hcc
  rw [← List.map_take, ← HTK.out] at hst
  subst hve
  obtain ⟨N, hN⟩ : ∃ N, sp.length = N := ⟨_, rfl⟩
  obtain ⟨M, hM⟩ : ∃ M, ls.length = M := ⟨_, rfl⟩
  have HM := Lib.hid hM
  rw [hM] at hst hlsl
  have hMN := HN0.out
  have hNp := HN1.out
  rw [hM, hN] at hMN
  rw [hN] at hNp hcc hlsl ⊢
  have HST := Lib.hid hst; have HMN := Lib.hid hMN
  clear hst hMN hv HTK HN0 HN1 hN hM
  have hmx2 : c ≤ 9223372036854775807 := by unfold maxLen at hmx; omega
  clear hmx
  obtain ⟨b0, hb0⟩ : ∃ b, decide (body = []) = b := ⟨_, rfl⟩
  have bb := HBB.out
  rw [hb0] at bb
  have HB00 := Lib.hid hb0
  clear hb0
  go_upto_if 20 with fail
  go_cut [7] (fun s7 wx => MidQ (.slice (some ⟨g, 0, none⟩) M c) w4 s7 wx)
  case first =>
    cases b0 with
    | true =>
      have hMN := HMN.out
      rw [if_pos (of_decide_eq_true HB00.out)] at hMN
      subst hMN
      go_wp2
      go_meet
      exact ⟨rfl, rfl⟩
    | false =>
      have hMN := HMN.out
      rw [if_neg (of_decide_eq_false HB00.out)] at hMN
      have q1 : (0 : Int) ≤ (N : Int) - 1 := by omega
      have q2 : (N : Int) - 1 ≤ c := by omega
      have q3 : ((N : Int) - 1).toNat = M := by omega
      have q4 : IntKind.i64.wrap ((N : Int) - 1) = (N : Int) - 1 := IntWalk.i64_in _ (by omega)
      clear hMN
      go_wp2
      go_meet
      exact ⟨rfl, rfl⟩
  case rest =>
    obtain ⟨rfl, rfl⟩ := hcut
    have HO4B := Lib.hid (HO4.out.perm List.perm_middle : Own w0 wc ((g2, .cells (av ⟨#[]⟩ ⟨#[]⟩ (.slice none 0 0) ⟨#[]⟩).toArray 26) :: (L ++ R)))
    clear HO4 HMN HBB hNp bb HB00
    have hMc : M ≤ c := by omega
    clear hlsl hcc
    cases ended with
    | false =>
      have HE : Hid (r = none) := Lib.hid (by rw [← HR.out]; rfl)
      go_wp2_with (refine wl_store rfl _ _ _ rfl HO4B.out 0 g2 0 _ (av ⟨#[]⟩ ⟨#[]⟩ (.slice none 0 0) ⟨#[]⟩) _ rfl (by rfl) (by rfl) aske_size (one_av rfl) (by simp [av]) ?_; intro wz hO; have HZ := Lib.hid (hO.cast (L' := (g2, .cells (av ⟨#[]⟩ ⟨#[]⟩ (.slice none 0 0) ⟨#[]⟩).toArray 26) :: (L ++ R)) rfl); clear hO HO4B)
      have hr0 : wz.cell? ⟨g2, 0, none⟩ = some (.string ⟨#[]⟩) := HZ.out.cell (.head _) 0
      have hr1 : wz.cell? ⟨g2, 1, none⟩ = some (.string ⟨#[]⟩) := HZ.out.cell (.head _) 1
      have hr2 : wz.cell? ⟨g2, 2, none⟩ = some (.slice none 0 0) := HZ.out.cell (.head _) 2
      have hr3 : wz.cell? ⟨g2, 3, none⟩ = some (.string ⟨#[]⟩) := HZ.out.cell (.head _) 3
      exact bodyPost_ret (v := .tuple #[.agg (av ⟨#[]⟩ ⟨#[]⟩ (.slice none 0 0) ⟨#[]⟩).toArray, .bool false]) (by simp [results, Tryd.results20, go_sem, hr0, hr1, hr2, hr3, av]) rfl ⟨.slice none 0 0, [], by rw [HE.out]; rfl, by rw [HE.out]; exact isHeads_nil, HZ.out.tail.right⟩
    | true =>
      by_cases h3 : M < 3
      · have h3' : (M : Int) < 3 := by omega
        have HE : Hid (r = none) := Lib.hid (by
          rw [← HR.out, if_pos rfl]
          have hM := HM.out
          match ls, hM with
          | [], _ => rfl
          | [_], _ => rfl
          | [_, _], _ => rfl
          | _ :: _ :: _ :: _, hM => simp at hM; omega)
        clear h3
        go_wp2_with (refine wl_store rfl _ _ _ rfl HO4B.out 0 g2 0 _ (av ⟨#[]⟩ ⟨#[]⟩ (.slice none 0 0) ⟨#[]⟩) _ rfl (by rfl) (by rfl) aske_size (one_av rfl) (by simp [av]) ?_; intro wz hO; have HZ := Lib.hid (hO.cast (L' := (g2, .cells (av ⟨#[]⟩ ⟨#[]⟩ (.slice none 0 0) ⟨#[]⟩).toArray 26) :: (L ++ R)) rfl); clear hO HO4B)
        have hr0 : wz.cell? ⟨g2, 0, none⟩ = some (.string ⟨#[]⟩) := HZ.out.cell (.head _) 0
        have hr1 : wz.cell? ⟨g2, 1, none⟩ = some (.string ⟨#[]⟩) := HZ.out.cell (.head _) 1
        have hr2 : wz.cell? ⟨g2, 2, none⟩ = some (.slice none 0 0) := HZ.out.cell (.head _) 2
        have hr3 : wz.cell? ⟨g2, 3, none⟩ = some (.string ⟨#[]⟩) := HZ.out.cell (.head _) 3
        exact bodyPost_ret (v := .tuple #[.agg (av ⟨#[]⟩ ⟨#[]⟩ (.slice none 0 0) ⟨#[]⟩).toArray, .bool false]) (by simp [results, Tryd.results20, go_sem, hr0, hr1, hr2, hr3, av]) rfl ⟨.slice none 0 0, [], by rw [HE.out]; rfl, by rw [HE.out]; exact isHeads_nil, HZ.out.tail.right⟩
      · have h3' : ¬ (M : Int) < 3 := by omega
        obtain ⟨l0, l1, l2, rs, hls⟩ : ∃ l0 l1 l2 rs, ls = l0 :: l1 :: l2 :: rs := by
          have hM := HM.out
          match ls, hM with
          | [], hM => simp at hM; omega
          | [_], hM => simp at hM; omega
          | [_, _], hM => simp at hM; omega
          | a :: b :: c :: r, _ => exact ⟨a, b, c, r, rfl⟩
        subst hls
        have hrs : rs.length = M - 3 := by have := HM.out; simp at this; omega
        have hr2 : r = (readHG rs).map fun hs => mkG l0 l1 l2 hs body := by rw [← HR.out, if_pos rfl]
        have hsum := HLS.out
        rw [sumL_cons, sumL_cons, sumL_cons] at hsum
        obtain ⟨off, hsl, hoff⟩ := slice3 g M c (by omega) hMc
        have hcells : ∀ (w' : World) (L' : Blks), Own w0 w' (L' ++ (L ++ R)) → ∀ (j : Nat) x, (l0 :: l1 :: l2 :: rs)[j]? = some x → w'.cell? ⟨g, j, none⟩ = some (.string (strOfNums x)) := by
          intro w' L' h j x hx
          obtain ⟨A', n', c', e, hn', _, hA⟩ := HST.out.vs (R := R) (w0 := w0) (w := w') h.right
          cases e
          obtain ⟨ad, e, hcell⟩ := hA (by omega)
          cases e
          have := hcell j (.string (strOfNums x)) (by simp only [sv, List.getElem?_map, hx, Option.map_some])
          rw [addr_add_zero] at this
          exact this
        have hcells3 : ∀ (w' : World) (L' : Blks), Own w0 w' (L' ++ ((g2, .cells (av ⟨#[]⟩ ⟨#[]⟩ (.slice none 0 0) (strOfNums body)).toArray 26) :: (L ++ R))) → ∀ (j : Nat) x, rs[j]? = some x → w'.cell? ⟨g, off + j, none⟩ = some (.string (strOfNums x)) := by
          intro w' L' h j x hx
          have hjl := (List.getElem?_eq_some_iff.1 hx).1
          have h3 := hoff (by omega)
          have := hcells w' (L' ++ [(g2, .cells (av ⟨#[]⟩ ⟨#[]⟩ (.slice none 0 0) (strOfNums body)).toArray 26)]) (by simpa using h) (3 + j) x (by rw [show 3 + j = j + 1 + 1 + 1 by omega]; simpa using hx)
          rw [h3]
          exact this
        have hrh := fun (w1 : World) (h : Own w0 w1 ((g2, .cells (av ⟨#[]⟩ ⟨#[]⟩ (.slice none 0 0) (strOfNums body)).toArray 26) :: (L ++ R))) => arheads_c HV.out h g off (c - 3) rs (M - 3) hrs (by omega) (fun x hx => HLB.out x (.tail _ (.tail _ (.tail _ hx)))) (by omega) hcells3
        have HRH := Lib.hid hrh; have HR2 := Lib.hid hr2; have HCE := Lib.hid hcells; have HB0 := Lib.hid (HLB.out l0 (.head _)); have HB1 := Lib.hid (HLB.out l1 (.tail _ (.head _))); have HB2 := Lib.hid (HLB.out l2 (.tail _ (.tail _ (.head _))))
        have HZ : Hid (l0.length + l1.length + l2.length ≤ 4000002) := Lib.hid (by omega)
        clear hrh hr2 hcells hcells3 hoff hrs hsum HR HLB HLS HM
        go_wp2_with fail
        with_reducible refine (HCB.out _ _ HO4B.out).mono ?_
        rintro e w5 ⟨rfl, hO⟩
        have HO5 := Lib.hid (hO.cast (L' := (g2, .cells (av ⟨#[]⟩ ⟨#[]⟩ (.slice none 0 0) ⟨#[]⟩).toArray 26) :: (L ++ R)) rfl); clear hO HO4B HCB
        go_wp2_with (refine wl_store1 rfl _ _ _ rfl HO5.out 0 g2 3 _ (.string (strOfNums body)) _ rfl (by rfl) (by rfl) (by rfl) (by kernel_rfl) (by rfl) (by simp [av]) ?_; intro w6 hO; have HO6 := Lib.hid (hO.cast (L' := (g2, .cells (av ⟨#[]⟩ ⟨#[]⟩ (.slice none 0 0) (strOfNums body)).toArray 26) :: (L ++ R)) rfl); clear hO HO5)
        with_reducible refine (HRH.out _ HO6.out).mono ?_
        rintro e w7 ⟨hv, LH, rfl, hh, hO⟩
        obtain ⟨HA, hcp, hve⟩ := IsRow.val hh
        subst hve
        have HHH := Lib.hid hh
        have HO7 := Lib.hid (hO.perm (List.perm_middle) : Own w0 w7 ((g2, .cells (av ⟨#[]⟩ ⟨#[]⟩ (.slice none 0 0) (strOfNums body)).toArray 26) :: (LH ++ (L ++ R)))); clear hO HO6 HRH hh
        cases hrg : readHG rs with
        | none =>
          have HE : Hid (r = none) := Lib.hid (by rw [HR2.out, hrg]; rfl)
          rw [hrg] at HHH
          simp only [Option.isSome_none]
          clear hrg
          generalize (((none : Option HL).getD []).map toB).length = hn at *
          go_wp2_with (first | (refine wl_store rfl _ _ _ rfl HO8.out 0 g2 0 _ (av ⟨#[]⟩ ⟨#[]⟩ (.slice none 0 0) ⟨#[]⟩) _ rfl (by rfl) (by rfl) aske_size (one_av rfl) (by simp [av]) ?_; intro wz hO; have HZ := Lib.hid (hO.cast (L' := (g2, .cells (av ⟨#[]⟩ ⟨#[]⟩ (.slice none 0 0) ⟨#[]⟩).toArray 26) :: (LH ++ (L ++ R))) rfl); clear hO HO8) | (refine wl_store1 rfl _ _ _ rfl HO7.out 0 g2 2 _ (.slice HA hn hcp) _ rfl (by rfl) (by rfl) (by rfl) (by kernel_rfl) (by rfl) (by simp [av]) ?_; intro w8 hO; have HO8 := Lib.hid (hO.cast (L' := (g2, .cells (av ⟨#[]⟩ ⟨#[]⟩ (.slice HA hn hcp) (strOfNums body)).toArray 26) :: (LH ++ (L ++ R))) rfl); clear hO HO7))
          have hr0 : wz.cell? ⟨g2, 0, none⟩ = some (.string ⟨#[]⟩) := HZ.out.cell (.head _) 0
          have hr1 : wz.cell? ⟨g2, 1, none⟩ = some (.string ⟨#[]⟩) := HZ.out.cell (.head _) 1
          have hr2 : wz.cell? ⟨g2, 2, none⟩ = some (.slice none 0 0) := HZ.out.cell (.head _) 2
          have hr3 : wz.cell? ⟨g2, 3, none⟩ = some (.string ⟨#[]⟩) := HZ.out.cell (.head _) 3
          exact bodyPost_ret (v := .tuple #[.agg (av ⟨#[]⟩ ⟨#[]⟩ (.slice none 0 0) ⟨#[]⟩).toArray, .bool false]) (by simp [results, Tryd.results20, go_sem, hr0, hr1, hr2, hr3, av]) rfl ⟨.slice none 0 0, [], by rw [HE.out]; rfl, by rw [HE.out]; exact isHeads_nil, HZ.out.tail.right.right⟩
        | some hs =>
          have HE : Hid (r = some (mkG l0 l1 l2 hs body)) := Lib.hid (by rw [HR2.out, hrg]; rfl)
          rw [hrg] at HHH
          simp only [Option.getD_some] at HHH
          simp only [Option.isSome_some, Option.getD_some]
          clear hrg
          generalize (hs.map toB).length = hn at *
          have hb0 : Byt (trimS http11 l0) := trimS_byt HB0.out
          have z0 := trimS_len http11 l0
          have z1 := trimP_len hostW l1
          have z2 := trimP_len schemeW l2
          have zz := HZ.out
          have hts := fun w : World => atrims_c (w := w) (strOfNums l0) ⟨#[32, 72, 84, 84, 80, 47, 49, 46, 49]⟩ (strs_size (by omega))
          rw [sb_str HB0.out, show sb ⟨#[32, 72, 84, 84, 80, 47, 49, 46, 49]⟩ = http11 from rfl] at hts
          have hcu := fun (w1 : World) (R1 : Blks) (h : Own w0 w1 R1) => rcut_c HV.out h (strOfNums (trimS http11 l0)) (strs_size (by omega)) 32 32 rfl
          rw [sb_str hb0] at hcu
          have hal : (ahead [32] (trimS http11 l0)).length ≤ 4000002 := by have := (List.takeWhile_sublist (fun x => !([32] : List Int).contains x) (l := trimS http11 l0)).length_le; unfold ahead; omega
          have hbl : ((behind [32] (trimS http11 l0)).drop 1).length ≤ 4000002 := by have := (List.dropWhile_sublist (fun x => !([32] : List Int).contains x) (l := trimS http11 l0)).length_le; unfold behind; rw [List.length_drop]; omega
          have hcm := fun (w1 : World) (R1 : Blks) (h : Own w0 w1 R1) => clone_c h (strOfNums (ahead [32] (trimS http11 l0))) (strs_size (by omega))
          have ht2 := fun w : World => atrimp_c (w := w) (strOfNums l2) ⟨#[83, 99, 104, 101, 109, 101, 58, 32]⟩
          rw [sb_str HB2.out, show sb ⟨#[83, 99, 104, 101, 109, 101, 58, 32]⟩ = schemeW from rfl] at ht2
          have ht1 := fun w : World => atrimp_c (w := w) (strOfNums l1) ⟨#[72, 111, 115, 116, 58, 32]⟩
          rw [sb_str HB1.out, show sb ⟨#[72, 111, 115, 116, 58, 32]⟩ = hostW from rfl] at ht1
          have hU : strOfNums (trimP schemeW l2) ++ ⟨#[58, 47, 47]⟩ ++ strOfNums (trimP hostW l1) ++ strOfNums ((behind [32] (trimS http11 l0)).drop 1) = strOfNums (mkG l0 l1 l2 hs body).u := by
            unfold mkG
            simp only [strs_app, ByteArray.append_assoc]
            rfl
          have hM2 : strOfNums (ahead [32] (trimS http11 l0)) = strOfNums (mkG l0 l1 l2 hs body).m := rfl
          have hB2 : strOfNums body = strOfNums (mkG l0 l1 l2 hs body).body := rfl
          have hH2 : IsHeads (.slice HA hn hcp) ((mkG l0 l1 l2 hs body).hs.map toB) LH := HHH.out
          have y1 : (strOfNums (trimP schemeW l2)).size ≤ 4000002 := by rw [strOfNums_size]; omega
          have y2 : (strOfNums (trimP hostW l1)).size ≤ 4000002 := by rw [strOfNums_size]; omega
          have y3 : (strOfNums ((behind [32] (trimS http11 l0)).drop 1)).size ≤ 4000002 := by rw [strOfNums_size]; omega
          generalize mkG l0 l1 l2 hs body = ag at *
          generalize strOfNums (trimP schemeW l2) = tS at *
          generalize strOfNums (trimP hostW l1) = tH at *
          generalize strOfNums ((behind [32] (trimS http11 l0)).drop 1) = pS at *
          generalize strOfNums (ahead [32] (trimS http11 l0)) = mS at *
          generalize strOfNums (trimS http11 l0) = t0 at *
          generalize strOfNums body = bS at *
          have HTS := Lib.hid hts; have HCU := Lib.hid hcu; have HCM := Lib.hid hcm; have HT1 := Lib.hid ht1; have HT2 := Lib.hid ht2; have HU := Lib.hid hU; have HM2 := Lib.hid hM2; have HB2' := Lib.hid hB2; have HH2 := Lib.hid hH2
          clear hts hcu hcm ht1 ht2 hU hM2 hB2 hH2 hb0 z0 z1 z2 zz hal hbl HHH HB0 HB1 HB2 HZ HR2
          have q0 : 0 < M := by omega
          have q1 : (1 : Int) < M := by omega
          have q2 : (2 : Int) < M := by omega
          go_wp2_with (refine wl_store1 rfl _ _ _ rfl HO7.out 0 g2 2 _ (.slice HA hn hcp) _ rfl (by rfl) (by rfl) (by rfl) (by kernel_rfl) (by rfl) (by simp [av]) ?_; intro w8 hO; have HO8 := Lib.hid (hO.cast (L' := (g2, .cells (av ⟨#[]⟩ ⟨#[]⟩ (.slice HA hn hcp) bS).toArray 26) :: (LH ++ (L ++ R))) rfl); have f0 := HCE.out w8 ((g2, .cells (av ⟨#[]⟩ ⟨#[]⟩ (.slice HA hn hcp) bS).toArray 26) :: LH) (hO.cast rfl) 0 l0 rfl; clear hO HO7)
          with_reducible refine (HTS.out _).mono ?_
          rintro e wq ⟨rfl, hww⟩
          subst hww
          clear f0
          go_wp2_with fail
          with_reducible refine (HCU.out _ _ HO8.out).mono ?_
          rintro e w9 ⟨rfl, hO⟩
          have HO9 := Lib.hid hO; clear hO HO8 HCU HTS
          go_wp2_with fail
          with_reducible refine (HCM.out _ _ HO9.out).mono ?_
          rintro e w10 ⟨rfl, hO⟩
          have HO10 := Lib.hid (hO.cast (L' := (g2, .cells (av ⟨#[]⟩ ⟨#[]⟩ (.slice HA hn hcp) bS).toArray 26) :: (LH ++ (L ++ R))) rfl); clear hO HO9 HCM
          go_wp2_with (refine wl_store1 rfl _ _ _ rfl HO10.out 0 g2 0 _ (.string mS) _ rfl (by rfl) (by rfl) (by rfl) (by kernel_rfl) (by rfl) (by simp [av]) ?_; intro w11 hO; have HO11 := Lib.hid (hO.cast (L' := (g2, .cells (av mS ⟨#[]⟩ (.slice HA hn hcp) bS).toArray 26) :: (LH ++ (L ++ R))) rfl); clear hO HO10)
          have n1 : ¬ (9223372036854775807 < tS.size + 3) := by omega
          have n2 : ¬ (9223372036854775807 < tS.size + 3 + tH.size) := by omega
          have n3 : ¬ (9223372036854775807 < tS.size + 3 + tH.size + pS.size) := by omega
          refine wp_region_lin (fun w' => Own w0 w' ((g2, .cells (av mS ⟨#[]⟩ (.slice HA hn hcp) bS).toArray 26) :: (LH ++ (L ++ R)))) 12 [(0, true), (1, true), (2, true), (5, true), (6, true), (7, true), (10, true), (3, false), (4, true), (8, false), (9, true), (11, true)] (by kernel_rfl) (by kernel_rfl) (fun _ _ d _ _ h => by cases d <;> exact h) HO11.out.drew ?_
          simp only [List.map_cons, List.map_nil, pick_zero, pick_succ, List.drop_succ_cons, List.drop_zero]
          have HO12 := Lib.hid HO11.out.drew; clear HO11
          iterate 7 (refine lin_q ?_ rfl ?_ ?_; rotate_left 1; (focus (rintro w' hO; have f1 := HCE.out w' ((g2, .cells (av mS ⟨#[]⟩ (.slice HA hn hcp) bS).toArray 26) :: LH) (hO.cast rfl) 1 l1 rfl; have f2 := HCE.out w' ((g2, .cells (av mS ⟨#[]⟩ (.slice HA hn hcp) bS).toArray 26) :: LH) (hO.cast rfl) 2 l2 rfl; clear hO; go_simp; first | done | with_reducible rfl | (trace_state; fail))); simp only [Act.put, List.setIfInBounds_toArray, List.set_cons_zero, List.set_cons_succ])
          refine lin_act ?_
          refine wl_call rfl _ _ _ (by go_simp) (HT2.out _) ?_
          rintro e wq ⟨rfl, hww⟩
          subst hww
          refine ⟨_, rfl, LinPost.mk HO12.out ?_⟩
          simp only [Act.put, List.setIfInBounds_toArray, List.set_cons_zero, List.set_cons_succ]
          iterate 1 (refine lin_q ?_ rfl ?_ ?_; rotate_left 1; (focus (rintro w' hO; clear hO; go_simp; first | done | with_reducible rfl | (trace_state; fail))); simp only [Act.put, List.setIfInBounds_toArray, List.set_cons_zero, List.set_cons_succ])
          refine lin_act ?_
          refine wl_call rfl _ _ _ (by go_simp) (HT1.out _) ?_
          rintro e wq ⟨rfl, hww⟩
          subst hww
          refine ⟨_, rfl, LinPost.mk HO12.out ?_⟩
          simp only [Act.put, List.setIfInBounds_toArray, List.set_cons_zero, List.set_cons_succ]
          iterate 2 (refine lin_q ?_ rfl ?_ ?_; rotate_left 1; (focus (rintro w' hO; clear hO; go_simp; first | done | with_reducible rfl | (trace_state; fail))); simp only [Act.put, List.setIfInBounds_toArray, List.set_cons_zero, List.set_cons_succ])
          refine lin_nil ?_
          obtain ⟨uS, huS⟩ : ∃ uS, strOfNums ag.u = uS := ⟨_, rfl⟩
          rw [HU.out, huS]
          have HUS := Lib.hid huS
          clear huS HU
          go_wp2_with (first | (refine wl_store1 rfl _ _ _ rfl HO12.out 0 g2 1 _ (.string uS) _ rfl (by rfl) (by rfl) (by rfl) (by kernel_rfl) (by rfl) (by simp [av]) ?_; intro w12 hO; have HO13 := Lib.hid (hO.cast (L' := (g2, .cells (av mS uS (.slice HA hn hcp) bS).toArray 26) :: (LH ++ (L ++ R))) rfl); clear hO HO12) | (refine wl_load rfl _ _ rfl g2 0 (av mS uS (.slice HA hn hcp) bS) (av mS uS (.slice HA hn hcp) bS) _ (HO13.out.heap (.head _)) (by rfl) _ Tryd.underlying26 rfl aske_size (by rfl) ?_) | (refine wl_store rfl _ _ _ rfl HO13.out 0 g2 0 _ (av mS uS (.slice HA hn hcp) bS) _ rfl (by rfl) (by rfl) aske_size (one_av rfl) (by simp [av]) ?_; intro wz hO; have HZ := Lib.hid (hO.cast (L' := (g2, .cells (av mS uS (.slice HA hn hcp) bS).toArray 26) :: (LH ++ (L ++ R))) rfl); clear hO HO13))
          have hr0 : wz.cell? ⟨g2, 0, none⟩ = some (.string mS) := HZ.out.cell (.head _) 0
          have hr1 : wz.cell? ⟨g2, 1, none⟩ = some (.string uS) := HZ.out.cell (.head _) 1
          have hr2 : wz.cell? ⟨g2, 2, none⟩ = some (.slice HA hn hcp) := HZ.out.cell (.head _) 2
          have hr3 : wz.cell? ⟨g2, 3, none⟩ = some (.string bS) := HZ.out.cell (.head _) 3
          exact bodyPost_ret (v := .tuple #[.agg (av mS uS (.slice HA hn hcp) bS).toArray, .bool true]) (by simp [results, Tryd.results20, go_sem, hr0, hr1, hr2, hr3, av]) rfl ⟨(.slice HA hn hcp), LH, by rw [HE.out, HM2.out, HB2'.out, ← HUS.out]; rfl, by rw [HE.out]; exact HH2.out, HZ.out.tail.sub (List.Sublist.append_left (List.sublist_append_right L R) LH)⟩
end Go.Proofs.YtlcolabblpikjaaDoor
/-
  The landed program's Parse: package ask's two functions in the words of the document's own.
-/
namespace Go.Proofs.YtlcolabblpikjaaDoor
set_option linter.unusedVariables false
set_option linter.unusedSimpArgs false
set_option maxRecDepth 20000
open Go.RowKit

theorem GotAsk.no {w0 : World} {R : Blks} {y n : Value} {e : Ending} {w' : World} (h : GotAsk w0 R none y n e w') : ∃ A c, e = .returned (.tuple #[.agg (av ⟨#[]⟩ ⟨#[]⟩ (.slice A 0 c) ⟨#[]⟩).toArray, n]) ∧ Own w0 w' R := by
  obtain ⟨v, L, rfl, hv, hO⟩ := h
  obtain ⟨A, c, rfl⟩ := IsRow.val hv
  exact ⟨A, c, rfl, hO.right⟩
theorem GotAsk.yes {w0 : World} {R : Blks} {y n : Value} {e : Ending} {w' : World} {a : AL} (h : GotAsk w0 R (some a) y n e w') : ∃ A c L, e = .returned (.tuple #[.agg (av (strOfNums a.m) (strOfNums a.u) (.slice A a.hs.length c) (strOfNums a.body)).toArray, y]) ∧ IsHeads (.slice A a.hs.length c) (a.hs.map toB) L ∧ Own w0 w' (L ++ R) := by
  obtain ⟨v, L, rfl, hv, hO⟩ := h
  obtain ⟨A, c, hve⟩ := IsRow.val hv
  rw [Option.getD_some, List.length_map] at hve
  subst hve
  exact ⟨A, c, L, rfl, hv, hO⟩
set_option maxRecDepth 100000 in
set_option maxHeartbeats 16000000 in
theorem aparse_c {w0 w : World} {R : Blks} (hV : VarsOk w0) (hO : Own w0 w R) (s : ByteArray) (hs : s.size ≤ 4000000) : Calls Tryd.prog 6 #[.string s] w (GotAsk w0 R (askI (sb s)) (.int .i64 0) (.int .i64 2)) := by
  have hB := byt_sb s
  have hln : (sb s).length ≤ 4000000 := by rw [length_sb]; exact hs
  have hres := askI_read hB
  obtain ⟨o, ho⟩ : ∃ o, askI (sb s) = o := ⟨_, rfl⟩
  rw [ho] at hres ⊢
  have hread := fun (w1 : World) (R1 : Blks) (h : Own w0 w1 R1) => aread_c hV.toMostOk h s hs
  have HO := Lib.hid hO
  have HV := Lib.hid hV
  clear ho hO hV
  cases hrg : readG (sb s) with
  | none =>
    have HE : Hid (o = none) := Lib.hid (by rw [hres, hrg]; rfl)
    rw [hrg] at hread
    have HRD := Lib.hid (fun (w1 : World) (R1 : Blks) (h : Own w0 w1 R1) => (hread w1 R1 h).mono (fun e w' hg => hg.no))
    clear hres hread hrg hB hln
    go_enter Tryd.func6, Tryd.ntmps6
    go_wp2_with (refine wl_alloc rfl _ rfl HO.out _ (alloc_aske _) ?_; intro g2 w1 hO; have HO1 := Lib.hid hO; clear hO HO)
    with_reducible refine (HRD.out _ _ HO1.out).mono ?_
    rintro e w3 ⟨A, c, rfl, hO⟩
    have HO3 := Lib.hid hO; clear hO HO1 HRD
    go_wp2_with (first | (refine wl_alloc rfl _ rfl HO3.out _ (alloc_aske _) ?_; intro g4 w4 hO; have HO4 := Lib.hid hO; clear hO HO3) | (refine wl_store rfl _ _ _ rfl HO4.out 0 g4 0 _ (av ⟨#[]⟩ ⟨#[]⟩ (.slice A 0 c) ⟨#[]⟩) _ rfl (by rfl) (by rfl) aske_size (one_av rfl) (by simp [av]) ?_; intro w5 hO; have HO5 := Lib.hid (hO.cast (L' := (g4, .cells (av ⟨#[]⟩ ⟨#[]⟩ (.slice A 0 c) ⟨#[]⟩).toArray 26) :: (g2, .cells (av ⟨#[]⟩ ⟨#[]⟩ (.slice none 0 0) ⟨#[]⟩).toArray 26) :: R) rfl); clear hO HO4) | (refine wl_store rfl _ _ _ rfl HO5.out 1 g2 0 _ (av ⟨#[]⟩ ⟨#[]⟩ (.slice none 0 0) ⟨#[]⟩) _ rfl (by rfl) (by rfl) aske_size (one_av rfl) (by simp [av]) ?_; intro wz hO; have HZ := Lib.hid (hO.cast (L' := (g4, .cells (av ⟨#[]⟩ ⟨#[]⟩ (.slice A 0 c) ⟨#[]⟩).toArray 26) :: (g2, .cells (av ⟨#[]⟩ ⟨#[]⟩ (.slice none 0 0) ⟨#[]⟩).toArray 26) :: R) rfl); clear hO HO5))
    have hr0 : wz.cell? ⟨g2, 0, none⟩ = some (.string ⟨#[]⟩) := HZ.out.cell (.tail _ (.head _)) 0
    have hr1 : wz.cell? ⟨g2, 1, none⟩ = some (.string ⟨#[]⟩) := HZ.out.cell (.tail _ (.head _)) 1
    have hr2 : wz.cell? ⟨g2, 2, none⟩ = some (.slice none 0 0) := HZ.out.cell (.tail _ (.head _)) 2
    have hr3 : wz.cell? ⟨g2, 3, none⟩ = some (.string ⟨#[]⟩) := HZ.out.cell (.tail _ (.head _)) 3
    exact bodyPost_ret (v := .tuple #[.agg (av ⟨#[]⟩ ⟨#[]⟩ (.slice none 0 0) ⟨#[]⟩).toArray, .int .i64 2]) (by simp [results, Tryd.results6, go_sem, hr0, hr1, hr2, hr3, av]) rfl ⟨.slice none 0 0, [], by rw [HE.out]; rfl, by rw [HE.out]; exact isHeads_nil, HZ.out.tail.tail⟩
  | some a =>
    have hok := readG_ok hB hrg
    rw [hrg, Option.bind_some] at hres
    rw [hrg] at hread
    have HRD := Lib.hid (fun (w1 : World) (R1 : Blks) (h : Own w0 w1 R1) => (hread w1 R1 h).mono (fun e w' hg => hg.yes))
    have haL := aL_str hok.m hok.u hok.hs hok.b
    have hhl := hl_toB hok.hs
    have z1 : (strOfNums a.m).size ≤ 100000000 := by rw [strOfNums_size]; have := hok.lm; omega
    have z2 : (strOfNums a.u).size ≤ 5000000 := by rw [strOfNums_size]; have := hok.lu; omega
    have z3 : (strOfNums a.body).size ≤ 100000000 := by rw [strOfNums_size]; have := hok.lb; omega
    have z4 : (headsP (hl (a.hs.map toB))).length ≤ 100000000 := by rw [hhl]; have := hok.lh; omega
    have hprt := fun (w1 : World) (R1 : Blks) (h : Own w0 w1 R1) (v : Value) (hR : HRd w0 R1 v (a.hs.map toB)) => aprint_c HV.out h (strOfNums a.m) (strOfNums a.u) v (a.hs.map toB) hR (strOfNums a.body) z1 z2 z3 z4
    rw [haL] at hprt
    have hbt := fun t (h : askP a = some t) => askP_byt hok.m hok.u hok.hs hok.b h
    have HPR := Lib.hid hprt; have HBT := Lib.hid hbt; have HRES := Lib.hid hres
    clear hok hres hread hrg hB hln haL hhl z1 z2 z3 z4 hprt hbt
    go_enter Tryd.func6, Tryd.ntmps6
    go_wp2_with (refine wl_alloc rfl _ rfl HO.out _ (alloc_aske _) ?_; intro g2 w1 hO; have HO1 := Lib.hid hO; clear hO HO)
    with_reducible refine (HRD.out _ _ HO1.out).mono ?_
    rintro e w3 ⟨A, c, L, rfl, hv, hO⟩
    have HO3 := Lib.hid (hO.perm List.perm_middle : Own w0 w3 ((g2, .cells (av ⟨#[]⟩ ⟨#[]⟩ (.slice none 0 0) ⟨#[]⟩).toArray 26) :: (L ++ R)))
    have HHV := Lib.hid hv
    clear hO hv HO1 HRD
    go_wp2_with (first | (refine wl_alloc rfl _ rfl HO3.out _ (alloc_aske _) ?_; intro g4 w4 hO; have HO4 := Lib.hid hO; clear hO HO3) | (refine wl_store rfl _ _ _ rfl HO4.out 0 g4 0 _ (av (strOfNums a.m) (strOfNums a.u) (.slice A a.hs.length c) (strOfNums a.body)) _ rfl (by rfl) (by rfl) aske_size (one_av rfl) (by simp [av]) ?_; intro w5 hO; have HO5 := Lib.hid (hO.cast (L' := (g4, .cells (av (strOfNums a.m) (strOfNums a.u) (.slice A a.hs.length c) (strOfNums a.body)).toArray 26) :: (g2, .cells (av ⟨#[]⟩ ⟨#[]⟩ (.slice none 0 0) ⟨#[]⟩).toArray 26) :: (L ++ R)) rfl); clear hO HO4) | (refine wl_load rfl _ _ rfl g4 0 (av (strOfNums a.m) (strOfNums a.u) (.slice A a.hs.length c) (strOfNums a.body)) (av (strOfNums a.m) (strOfNums a.u) (.slice A a.hs.length c) (strOfNums a.body)) _ (HO5.out.heap (.head _)) (by rfl) _ Tryd.underlying26 rfl aske_size (by rfl) ?_))
    have hpc := HPR.out _ _ HO5.out (.slice A a.hs.length c) (HHV.out.hrd (List.Sublist.cons _ (List.Sublist.cons _ (List.sublist_append_left L R))))
    with_reducible refine hpc.mono ?_
    clear hpc HPR
    rintro e w6 ⟨rfl, hO⟩
    have HO6 := Lib.hid hO; clear hO HO5
    cases hap : askP a with
    | none =>
      have HE : Hid (o = none) := Lib.hid (by rw [HRES.out, hap, if_neg (by simp)])
      rw [show errA none = 1 from rfl]
      simp only [Option.getD_none]
      clear hap HRES HBT
      go_wp2_with (refine wl_store rfl _ _ _ rfl HO6.out 1 g2 0 _ (av ⟨#[]⟩ ⟨#[]⟩ (.slice none 0 0) ⟨#[]⟩) _ rfl (by rfl) (by rfl) aske_size (one_av rfl) (by simp [av]) ?_; intro wz hO; have HZ := Lib.hid (hO.cast (L' := (g4, .cells (av (strOfNums a.m) (strOfNums a.u) (.slice A a.hs.length c) (strOfNums a.body)).toArray 26) :: (g2, .cells (av ⟨#[]⟩ ⟨#[]⟩ (.slice none 0 0) ⟨#[]⟩).toArray 26) :: (L ++ R)) rfl); clear hO HO6)
      have hr0 : wz.cell? ⟨g2, 0, none⟩ = some (.string ⟨#[]⟩) := HZ.out.cell (.tail _ (.head _)) 0
      have hr1 : wz.cell? ⟨g2, 1, none⟩ = some (.string ⟨#[]⟩) := HZ.out.cell (.tail _ (.head _)) 1
      have hr2 : wz.cell? ⟨g2, 2, none⟩ = some (.slice none 0 0) := HZ.out.cell (.tail _ (.head _)) 2
      have hr3 : wz.cell? ⟨g2, 3, none⟩ = some (.string ⟨#[]⟩) := HZ.out.cell (.tail _ (.head _)) 3
      exact bodyPost_ret (v := .tuple #[.agg (av ⟨#[]⟩ ⟨#[]⟩ (.slice none 0 0) ⟨#[]⟩).toArray, .int .i64 2]) (by simp [results, Tryd.results6, go_sem, hr0, hr1, hr2, hr3, av]) rfl ⟨.slice none 0 0, [], by rw [HE.out]; rfl, by rw [HE.out]; exact isHeads_nil, HZ.out.tail.tail.right⟩
    | some t =>
      have htb := HBT.out t hap
      have hre := HRES.out
      rw [hap] at hre
      have htl : ((strOfNums t).toList == s.toList) = decide (t = sb s) := by rw [beq_sb, sb_str htb]
      obtain ⟨b, hb⟩ : ∃ b, decide (t = sb s) = b := ⟨_, rfl⟩
      rw [hb] at htl
      have HE0 : Hid (o = if b = true then some a else none) := Lib.hid (by
        rw [hre, ← hb]
        simp only [Option.some.injEq, decide_eq_true_iff])
      rw [show errA (some t) = 0 from rfl]
      simp only [Option.getD_some]
      clear htb hre hb hap HRES HBT
      generalize strOfNums t = tS at *
      cases b with
      | false =>
        have HE : Hid (o = none) := Lib.hid (by rw [HE0.out]; rfl)
        clear HE0
        go_wp2_with (refine wl_store rfl _ _ _ rfl HO6.out 1 g2 0 _ (av ⟨#[]⟩ ⟨#[]⟩ (.slice none 0 0) ⟨#[]⟩) _ rfl (by rfl) (by rfl) aske_size (one_av rfl) (by simp [av]) ?_; intro wz hO; have HZ := Lib.hid (hO.cast (L' := (g4, .cells (av (strOfNums a.m) (strOfNums a.u) (.slice A a.hs.length c) (strOfNums a.body)).toArray 26) :: (g2, .cells (av ⟨#[]⟩ ⟨#[]⟩ (.slice none 0 0) ⟨#[]⟩).toArray 26) :: (L ++ R)) rfl); clear hO HO6)
        have hr0 : wz.cell? ⟨g2, 0, none⟩ = some (.string ⟨#[]⟩) := HZ.out.cell (.tail _ (.head _)) 0
        have hr1 : wz.cell? ⟨g2, 1, none⟩ = some (.string ⟨#[]⟩) := HZ.out.cell (.tail _ (.head _)) 1
        have hr2 : wz.cell? ⟨g2, 2, none⟩ = some (.slice none 0 0) := HZ.out.cell (.tail _ (.head _)) 2
        have hr3 : wz.cell? ⟨g2, 3, none⟩ = some (.string ⟨#[]⟩) := HZ.out.cell (.tail _ (.head _)) 3
        exact bodyPost_ret (v := .tuple #[.agg (av ⟨#[]⟩ ⟨#[]⟩ (.slice none 0 0) ⟨#[]⟩).toArray, .int .i64 2]) (by simp [results, Tryd.results6, go_sem, hr0, hr1, hr2, hr3, av]) rfl ⟨.slice none 0 0, [], by rw [HE.out]; rfl, by rw [HE.out]; exact isHeads_nil, HZ.out.tail.tail.right⟩
      | true =>
        have HE : Hid (o = some a) := Lib.hid (by rw [HE0.out]; rfl)
        clear HE0
        go_wp2_with (first | (refine wl_load rfl _ _ rfl g4 0 (av (strOfNums a.m) (strOfNums a.u) (.slice A a.hs.length c) (strOfNums a.body)) (av (strOfNums a.m) (strOfNums a.u) (.slice A a.hs.length c) (strOfNums a.body)) _ (HO6.out.heap (.head _)) (by rfl) _ Tryd.underlying26 rfl aske_size (by rfl) ?_) | (refine wl_store rfl _ _ _ rfl HO6.out 1 g2 0 _ (av (strOfNums a.m) (strOfNums a.u) (.slice A a.hs.length c) (strOfNums a.body)) _ rfl (by rfl) (by rfl) aske_size (one_av rfl) (by simp [av]) ?_; intro wz hO; have HZ := Lib.hid (hO.cast (L' := (g4, .cells (av (strOfNums a.m) (strOfNums a.u) (.slice A a.hs.length c) (strOfNums a.body)).toArray 26) :: (g2, .cells (av (strOfNums a.m) (strOfNums a.u) (.slice A a.hs.length c) (strOfNums a.body)).toArray 26) :: (L ++ R)) rfl); clear hO HO6))
        have hr0 : wz.cell? ⟨g2, 0, none⟩ = some (.string (strOfNums a.m)) := HZ.out.cell (.tail _ (.head _)) 0
        have hr1 : wz.cell? ⟨g2, 1, none⟩ = some (.string (strOfNums a.u)) := HZ.out.cell (.tail _ (.head _)) 1
        have hr2 : wz.cell? ⟨g2, 2, none⟩ = some (.slice A a.hs.length c) := HZ.out.cell (.tail _ (.head _)) 2
        have hr3 : wz.cell? ⟨g2, 3, none⟩ = some (.string (strOfNums a.body)) := HZ.out.cell (.tail _ (.head _)) 3
        exact bodyPost_ret (v := .tuple #[.agg (av (strOfNums a.m) (strOfNums a.u) (.slice A a.hs.length c) (strOfNums a.body)).toArray, .int .i64 0]) (by simp [results, Tryd.results6, go_sem, hr0, hr1, hr2, hr3, av]) rfl ⟨.slice A a.hs.length c, L, by rw [HE.out]; rfl, by rw [HE.out]; exact HHV.out, HZ.out.tail.tail⟩
end Go.Proofs.YtlcolabblpikjaaDoor
/-
  The statements' own makers of URLs: at, URL, Odd.
-/
namespace Go.Proofs.YtlcolabblpikjaaDoor
set_option linter.unusedVariables false
set_option linter.unusedSimpArgs false
set_option maxRecDepth 20000
open Go.RowKit

def urlB : List ByteArray := [⟨#[104, 116, 116, 112, 58, 47, 47, 97, 46, 98, 47]⟩, ⟨#[104, 116, 116, 112, 115, 58, 47, 47, 97, 46, 98, 47]⟩, ⟨#[104, 116, 116, 112, 115, 58, 47, 47, 97, 46, 98, 47, 120]⟩, ⟨#[104, 116, 116, 112, 58, 47, 47, 97, 46, 98, 47, 120]⟩, ⟨#[104, 116, 116, 112, 115, 58, 47, 47, 99, 46, 100, 47]⟩, ⟨#[104, 116, 116, 112, 115, 58, 47, 47, 99, 46, 100, 47, 112, 63, 113]⟩, ⟨#[104, 116, 116, 112, 115, 58, 47, 47, 99, 46, 100, 58, 56, 47]⟩, ⟨#[104, 116, 116, 112, 58, 47, 47, 99, 46, 100, 47]⟩, ⟨#[104, 116, 116, 112, 115, 58, 47, 47, 115, 46, 99, 46, 100, 47, 121]⟩, ⟨#[104, 116, 116, 112, 58, 47, 47, 108, 111, 99, 97, 108, 104, 111, 115, 116, 47, 108]⟩, ⟨#[104, 116, 116, 112, 115, 58, 47, 47, 97, 46, 98, 47, 122]⟩, ⟨#[104, 116, 116, 112, 115, 58, 47, 47, 97, 46, 98, 58, 56, 47]⟩]
theorem urlB_size : ∀ s ∈ urlB, s.size ≤ 20 := by decide
def oddB : List ByteArray := [⟨#[]⟩, ⟨#[97, 46, 98]⟩, ⟨#[47, 120]⟩, ⟨#[47, 47, 99, 46, 100, 47, 120]⟩, ⟨#[104, 116, 116, 112, 58, 47, 97, 46, 98]⟩, ⟨#[104, 116, 116, 112, 58, 47, 47]⟩, ⟨#[72, 84, 84, 80, 58, 47, 47, 65, 46, 66, 58, 56, 48, 47, 120]⟩, ⟨#[104, 116, 116, 112, 115, 58, 47, 47, 97, 46, 98, 58, 52, 52, 51]⟩, ⟨#[104, 116, 116, 112, 58, 47, 47, 97, 46, 98, 58, 52, 52, 51]⟩, ⟨#[104, 116, 116, 112, 58, 47, 47, 97, 46, 98, 58, 57, 57, 57, 57, 57]⟩, ⟨#[104, 116, 116, 112, 58, 47, 47, 97, 46, 98, 58]⟩, ⟨#[104, 116, 116, 112, 58, 47, 47, 97, 46, 98, 58, 48, 47]⟩, ⟨#[104, 116, 116, 112, 58, 47, 47, 97, 46, 46, 98, 47]⟩, ⟨#[104, 116, 116, 112, 58, 47, 47, 46, 97, 47]⟩, ⟨#[104, 116, 116, 112, 58, 47, 47, 97, 46, 47]⟩, ⟨#[104, 116, 116, 112, 58, 47, 47, 97, 95, 98, 47]⟩, ⟨#[104, 116, 116, 112, 58, 47, 47, 117, 64, 97, 46, 98, 47]⟩, ⟨#[32, 104, 116, 116, 112, 58, 47, 47, 97, 46, 98, 47, 195, 169, 32]⟩, ⟨#[104, 116, 116, 112, 58, 47, 47, 97, 46, 98, 47, 37, 122, 122]⟩, ⟨#[104, 116, 116, 112, 58, 47, 47, 97, 46, 98, 47, 97, 32, 98, 63, 99, 32, 100, 35, 101]⟩, ⟨#[104, 116, 116, 112, 58, 47, 47, 97, 46, 98, 63, 120]⟩, ⟨#[104, 116, 116, 112, 58, 47, 47, 97, 46, 98, 35, 102]⟩, ⟨#[104, 116, 116, 112, 58, 47, 47, 97, 46, 98, 47, 46, 47, 97, 47, 46, 46, 47, 98, 47, 46]⟩, ⟨#[104, 116, 116, 112, 58, 47, 47, 97, 46, 98, 47, 46, 46]⟩, ⟨#[104, 116, 116, 112, 58, 47, 47, 97, 46, 98, 47, 47, 46, 46]⟩, ⟨#[104, 116, 116, 112, 58, 47, 47, 97, 46, 98, 47, 97, 47, 47, 46, 46]⟩, ⟨#[102, 116, 112, 58, 47, 47, 97, 46, 98, 47]⟩, ⟨#[104, 116, 116, 112, 115, 58, 47, 47, 97, 98, 99, 100, 101, 102, 103, 104, 105, 106, 107, 108, 109, 110, 111, 112, 113, 114, 115, 116, 117, 47]⟩, ⟨#[104, 116, 116, 112, 115, 58, 47, 47, 97, 46, 98, 47, 48, 49, 50, 51, 52, 53, 54, 55, 56, 57, 48, 49, 50, 51, 52, 53, 54, 55, 56, 57, 48, 49, 50, 51, 52, 53, 54, 55]⟩, ⟨#[104, 116, 116, 112, 58, 47, 47, 97, 46, 98, 47, 48, 49, 50, 51, 52, 53, 54, 55, 56, 57, 48, 49, 50, 51, 52, 53, 54, 55, 56, 57, 48, 49, 50, 51, 52, 53, 54, 55, 56, 57, 48, 49]⟩, ⟨#[104, 116, 116, 112, 58, 47, 47, 97, 46, 98, 47, 63]⟩, ⟨#[104, 116, 116, 112, 58, 47, 47, 97, 46, 98, 47, 63, 63]⟩, ⟨#[104, 116, 116, 112, 58, 47, 47, 97, 46, 98, 47, 97, 63, 98, 47, 46, 46, 47, 99]⟩, ⟨#[104, 116, 116, 112, 115, 58, 47, 47, 99, 46, 100, 47, 46, 46, 47, 46, 46, 47, 47, 120]⟩]
theorem oddB_size : ∀ s ∈ oddB, s.size ≤ 60 := by decide
set_option maxHeartbeats 2000000 in
theorem qat_c {w : World} (n : Int) (v : Value) (ss : List ByteArray) (hV : Vs w v (sv ss)) (h0 : 0 < ss.length) (h1 : ss.length ≤ 1000) :
    Calls Tryd.prog 37 #[.int .i64 n, v] w fun e w' => (∃ s, s ∈ ss ∧ e = .returned (.string s)) ∧ w = w' := by
  obtain ⟨A, m, c, rfl, hm, hmc, hA⟩ := hV
  rw [length_sv] at hm
  obtain ⟨ad, rfl, hcell⟩ := hA (by omega)
  have q1 := within_n (w := w) n m (by omega) (by omega)
  have hj : (n % (m : Int)).toNat < m := by
    have h2 := Int.emod_lt_of_pos n (show (0 : Int) < m by omega)
    omega
  generalize (n % (m : Int)).toNat = j at *
  have hjs : j < ss.length := by omega
  have hc := hcell j (.string ss[j]) (by unfold sv; rw [List.getElem?_map, List.getElem?_eq_getElem hjs]; rfl)
  have hmem : ss[j] ∈ ss := List.getElem_mem hjs
  generalize ss[j] = s at *
  have HM := Lib.hid hmem
  have hjI : (j : Int) < m := by omega
  clear hcell hA hmem hjs hm h0 h1
  go_enter Tryd.func37, Tryd.ntmps37
  go_wp2_with fail
  with_reducible refine q1.mono ?_
  clear q1
  rintro e wq ⟨rfl, hww⟩
  subst hww
  go_wp2
  go_ret
  exact ⟨⟨s, HM.out, rfl⟩, rfl⟩
set_option maxHeartbeats 2000000 in
theorem qurl_c {w0 w : World} {R : Blks} (hO : Own w0 w R) (n : Int) :
    Calls Tryd.prog 21 #[.int .i64 n] w fun e w' => ∃ s, e = .returned (.string s) ∧ s.size ≤ 20 ∧ Own w0 w' R := by
  have HO := Lib.hid hO
  clear hO
  go_enter Tryd.func21, Tryd.ntmps21
  go_wp2_with fail
  generalize hwx : w.alloc _ = w2
  have hO2 : Own w0 w2 ((w.heap.size, .cells (sv urlB).toArray 9) :: R) := by rw [← hwx]; exact HO.out.alloc _
  have hvs : Vs w2 (.slice (some ⟨w.heap.size, 0, none⟩) 12 12) (sv urlB) := by rw [← hwx]; exact vs_new _ 12 rfl
  have HO2 := Lib.hid hO2
  have hat := qat_c n _ urlB hvs (by decide) (by decide)
  clear hwx hO2 HO hvs
  with_reducible refine hat.mono ?_
  clear hat
  rintro e w3 ⟨⟨s, hs, rfl⟩, hww⟩
  subst hww
  have HS := Lib.hid (urlB_size s hs)
  clear hs
  go_wp2
  go_ret
  exact ⟨s, rfl, HS.out, HO2.out.tail⟩
set_option maxHeartbeats 4000000 in
theorem qodd_c {w0 w : World} {R : Blks} (hO : Own w0 w R) (n : Int) (s : ByteArray) (hs : s.size ≤ 1073741824) :
    Calls Tryd.prog 23 #[.int .i64 n, .string s] w fun e w' => ∃ t, e = .returned (.string t) ∧ t.size ≤ 60 + s.size ∧ Own w0 w' R := by
  have HO := Lib.hid hO
  have q1 := within_n (w := w) n 4 (by omega) (by omega)
  have hj : (n % 4).toNat < 4 := by omega
  generalize (n % 4).toNat = j at *
  clear hO
  go_enter Tryd.func23, Tryd.ntmps23
  go_wp2_with fail
  with_reducible refine q1.mono ?_
  clear q1
  rintro e wq ⟨rfl, hww⟩
  subst hww
  by_cases h2 : (j : Int) < 2
  · go_wp2_with fail
    with_reducible refine (qurl_c HO.out _).mono ?_
    rintro e w2 ⟨t, rfl, ht, hO⟩
    have HO2 := Lib.hid hO; have HT : Hid (t.size ≤ 60 + s.size) := Lib.hid (by omega)
    clear hO ht
    go_wp2
    go_ret
    exact ⟨t, rfl, HT.out, HO2.out⟩
  · have n1 : ¬ (9223372036854775807 < 11 + s.size) := by omega
    have n2 : ¬ (9223372036854775807 < 8 + s.size) := by omega
    have n3 : ¬ (9223372036854775807 < 8 + s.size + 1) := by omega
    have n4 : ¬ (9223372036854775807 < 1 + s.size) := by omega
    go_wp2_with fail
    generalize hwx : w.alloc _ = w2
    have hO2 : Own w0 w2 ((w.heap.size, .cells (sv (oddB ++ [s, ⟨#[104, 116, 116, 112, 58, 47, 47, 97, 46, 98, 47]⟩ ++ s, ⟨#[104, 116, 116, 112, 115, 58, 47, 47]⟩ ++ s ++ ⟨#[47]⟩, ⟨#[47]⟩ ++ s])).toArray 9) :: R) := by rw [← hwx]; exact HO.out.alloc _
    have hvs : Vs w2 (.slice (some ⟨w.heap.size, 0, none⟩) 38 38) (sv (oddB ++ [s, ⟨#[104, 116, 116, 112, 58, 47, 47, 97, 46, 98, 47]⟩ ++ s, ⟨#[104, 116, 116, 112, 115, 58, 47, 47]⟩ ++ s ++ ⟨#[47]⟩, ⟨#[47]⟩ ++ s])) := by rw [← hwx]; exact vs_new _ 38 rfl
    have HO2 := Lib.hid hO2
    have hat := qat_c (wrap64 (n.tdiv 4)) _ _ hvs (by rw [List.length_append]; simp) (by rw [List.length_append]; simp [oddB])
    have hsz : ∀ t ∈ oddB ++ [s, ⟨#[104, 116, 116, 112, 58, 47, 47, 97, 46, 98, 47]⟩ ++ s, ⟨#[104, 116, 116, 112, 115, 58, 47, 47]⟩ ++ s ++ ⟨#[47]⟩, ⟨#[47]⟩ ++ s], t.size ≤ 60 + s.size := by
      intro t ht
      rcases List.mem_append.1 ht with ht | ht
      · have := oddB_size t ht; omega
      · simp only [List.mem_cons, List.not_mem_nil, or_false] at ht
        rcases ht with rfl | rfl | rfl | rfl
        · omega
        · rw [ByteArray.size_append, show (⟨#[104, 116, 116, 112, 58, 47, 47, 97, 46, 98, 47]⟩ : ByteArray).size = 11 from rfl]; omega
        · rw [ByteArray.size_append, ByteArray.size_append, show (⟨#[104, 116, 116, 112, 115, 58, 47, 47]⟩ : ByteArray).size = 8 from rfl, show (⟨#[47]⟩ : ByteArray).size = 1 from rfl]; omega
        · rw [ByteArray.size_append, show (⟨#[47]⟩ : ByteArray).size = 1 from rfl]; omega
    have HSZ := Lib.hid hsz
    clear hwx hO2 HO hvs hsz
    with_reducible refine hat.mono ?_
    clear hat
    rintro e w3 ⟨⟨t, ht, rfl⟩, hww⟩
    subst hww
    have HT := Lib.hid (HSZ.out t ht)
    clear ht HSZ n1 n2 n3 n4
    go_wp2
    go_ret
    exact ⟨t, rfl, HT.out, HO2.out.tail⟩
end Go.Proofs.YtlcolabblpikjaaDoor
/-
  The statements' own maker of headers: Heads.
-/
namespace Go.Proofs.YtlcolabblpikjaaDoor
set_option linter.unusedVariables false
set_option linter.unusedSimpArgs false
set_option maxRecDepth 20000
open Go.RowKit

def hdB : HBL := [(⟨#[65, 99, 99, 101, 112, 116]⟩, ⟨#[120, 47, 121]⟩), (⟨#[88, 45, 79, 110, 101]⟩, ⟨#[49]⟩), (⟨#[67, 111, 110, 116, 101, 110, 116, 45, 84, 121, 112, 101]⟩, ⟨#[116, 101, 120, 116, 47, 112, 108, 97, 105, 110, 59, 32, 117]⟩), (⟨#[99, 111, 110, 116, 101, 110, 116, 45, 116, 121, 112, 101]⟩, ⟨#[97, 47, 106, 115, 111, 110]⟩), (⟨#[120, 45, 116, 119, 111]⟩, ⟨#[]⟩), (⟨#[97, 99, 99, 101, 112, 116, 45, 76, 65, 78, 71]⟩, ⟨#[100, 101]⟩), (⟨#[120, 45, 111, 110, 101]⟩, ⟨#[50]⟩)]
def badB (s : ByteArray) : HBL := [(⟨#[72, 111, 115, 116]⟩, ⟨#[120]⟩), (⟨#[67, 111, 111, 107, 105, 101]⟩, ⟨#[49]⟩), (⟨#[115, 101, 99, 45, 120]⟩, ⟨#[49]⟩), (⟨#[80, 114, 111, 120, 121, 45, 121]⟩, ⟨#[49]⟩), (⟨#[]⟩, ⟨#[49]⟩), (⟨#[97, 32, 98]⟩, ⟨#[49]⟩), (⟨#[120]⟩, ⟨#[32, 49]⟩), (⟨#[120]⟩, ⟨#[49, 50, 51, 52, 53, 54, 55, 56, 57, 48, 49, 50, 51, 52, 53, 54, 32, 55]⟩), (⟨#[97, 98, 99, 100, 101, 102, 103, 104, 105, 106, 107, 108, 109]⟩, ⟨#[49]⟩), (⟨#[120]⟩, s), (s, ⟨#[49]⟩), (⟨#[120]⟩, ⟨#[195, 169]⟩)]
/-- Headers of at most so many bytes each. -/
def HSz (k : Nat) (hs : HBL) : Prop := ∀ h ∈ hs, h.1.size ≤ k ∧ h.2.size ≤ k
theorem hdB_size : ∀ h ∈ hdB, h.1.size ≤ 20 ∧ h.2.size ≤ 20 := by decide
theorem badB_size (s : ByteArray) : ∀ h ∈ badB s, h.1.size ≤ 20 + s.size ∧ h.2.size ≤ 20 + s.size := by
  intro h hh
  simp only [badB, List.mem_cons, List.not_mem_nil, or_false] at hh
  rcases hh with rfl | rfl | rfl | rfl | rfl | rfl | rfl | rfl | rfl | rfl | rfl | rfl <;> (constructor <;> dsimp only <;> first | omega | exact Nat.le_trans (m := 20) (by decide) (Nat.le_add_right _ _))
theorem HSz.app {k : Nat} {a b : HBL} (h1 : HSz k a) (h2 : HSz k b) : HSz k (a ++ b) := fun h hh => by
  rcases List.mem_append.1 hh with hh | hh
  · exact h1 h hh
  · exact h2 h hh
theorem HSz.mono {k m : Nat} {a : HBL} (h1 : HSz k a) (h2 : k ≤ m) : HSz m a := fun h hh => by have := h1 h hh; omega
theorem HSz.one {k : Nat} {h : ByteArray × ByteArray} (h1 : h.1.size ≤ k ∧ h.2.size ≤ k) : HSz k [h] := fun x hx => by rw [List.mem_singleton.1 hx]; exact h1
/-- A header of a block of them. -/
theorem own_head {w0 w : World} {L : Blks} {g : Nat} {hs : HBL} (hO : Own w0 w L) (hm : (g, Obj.cells (hv hs).toArray 23) ∈ L) {j : Nat} {h : ByteArray × ByteArray} (hj : hs[j]? = some h) :
    w.cell? ⟨g, j * 2, none⟩ = some (.string h.1) ∧ w.cell? ⟨g, j * 2 + 1, none⟩ = some (.string h.2) := by
  constructor
  · rw [hO.cell hm]
    have := hv_at hs j h hj 0 (.string h.1) rfl
    simpa using this
  · rw [hO.cell hm]
    have := hv_at hs j h hj 1 (.string h.2) rfl
    simpa using this
def GotHs (w0 : World) (R : Blks) (n k : Nat) (e : Ending) (w' : World) : Prop := ∃ v hs L, e = .returned v ∧ IsHeads v hs L ∧ hs.length ≤ n ∧ HSz k hs ∧ Own w0 w' (L ++ R)
set_option maxRecDepth 100000 in
set_option maxHeartbeats 8000000 in
theorem pheads_c {w0 w : World} {R : Blks} (hO : Own w0 w R) (n : Int) (s : ByteArray) :
    Calls Tryd.prog 22 #[.int .i64 n, .string s] w (GotHs w0 R 4 (20 + s.size)) := by
  have HO := Lib.hid hO
  clear hO
  go_enter Tryd.func22, Tryd.ntmps22
  go_upto_region 2 with fail
  generalize hwx : w.alloc _ = w1
  have hO1 : Own w0 w1 ((w.heap.size, .cells (hv hdB).toArray 23) :: R) := by rw [← hwx]; exact HO.out.alloc _
  have HO1 := Lib.hid hO1
  generalize w.heap.size = ga at *
  clear hwx hO1 HO
  go_upto_region 3 with fail
  generalize hwx : w1.alloc _ = w2
  have hO2 : Own w0 w2 ((w1.heap.size, .cells (hv (badB s)).toArray 23) :: (ga, .cells (hv hdB).toArray 23) :: R) := by rw [← hwx]; exact HO1.out.alloc _
  have HO2 : Hid (Own w0 w2 ([] ++ ((w1.heap.size, .cells (hv (badB s)).toArray 23) :: (ga, .cells (hv hdB).toArray 23) :: R))) := Lib.hid hO2
  generalize w1.heap.size = gb at *
  clear hwx hO2 HO1
  go_wp2_with fail
  go_loopw [8, 9] (fun v t w' => ∃ (i : Nat) (hs : HBL) (A : Option Addr) (m c : Nat) (L : Blks), i ≤ 2 ∧ v = .slice A m c ∧ t = .int .i64 i ∧ m = hs.length ∧ m ≤ i ∧ Hid (m = 0 → A = none ∧ c = 0) ∧ Hid (IsHeads (.slice A m c) hs L ∧ HSz (20 + s.size) hs) ∧ Hid (Own w0 w' (L ++ ((gb, .cells (hv (badB s)).toArray 23) :: (ga, .cells (hv hdB).toArray 23) :: R)))) (fun _ t _ => 3 - (intOf t).toNat)
  case atStart => exact ⟨0, [], none, 0, 0, [], by omega, rfl, rfl, rfl, Nat.le_refl _, Lib.hid (fun _ => ⟨rfl, rfl⟩), Lib.hid ⟨isHeads_nil, fun h hh => by cases hh⟩, HO2⟩
  case round =>
    obtain ⟨i, hs, A, m, c, L, hi, rfl, rfl, hm, hmi, HNL, HH, HO3⟩ := hrel
    clear HO2
    have HM := Lib.hid hm
    clear hm
    have q1 := within_n (w := wr) n 4 (by omega) (by omega)
    have hk4 : (n % 4).toNat < 4 := by omega
    generalize (n % 4).toNat = k4 at *
    go_wp2_with fail
    with_reducible refine q1.mono ?_
    clear q1
    rintro e wq ⟨rfl, hww⟩
    subst hww
    by_cases hik : (i : Int) < k4
    · by_cases hi2 : (i : Int) < 2
      · go_wp2_with fail
        with_reducible refine (within_n _ 7 (by omega) (by omega)).mono ?_
        generalize hjj : (Int.toNat (_ % 7)) = j
        have hj : j < 7 := by rw [← hjj]; omega
        clear hjj
        rintro e wq ⟨rfl, hww⟩
        subst hww
        obtain ⟨h, hh⟩ : ∃ h, hdB[j]? = some h := ⟨_, List.getElem?_eq_getElem hj⟩
        have hsz := hdB_size h (List.mem_of_getElem? hh)
        obtain ⟨k1, k2⟩ := own_head HO3.out (List.mem_append_right _ (.tail _ (.head _))) hh
        obtain ⟨x, y⟩ := h
        simp only at k1 k2 hsz
        have HSZ : Hid (HSz (20 + s.size) [(x, y)]) := Lib.hid (HSz.one ⟨by simp only; omega, by simp only; omega⟩)
        have hjI : (j : Int) < 7 := by omega
        have H1 : Hid (IsHeads (.slice A m c) hs L) := Lib.hid HH.out.1
        have HML : Hid (hs.length = m) := Lib.hid HM.out.symm
        clear hh hsz
        go_wp2_with (refine wl_appendH1 rfl _ _ rfl (.slice A m c) hs (by rfl) H1.out (HO3.out.put2 (.cells #[.string x, .string y] 23)) _ 1 (x, y) (by rfl) (.head _) (by rw [HML.out]; omega) ?_; intro v2 wa L2 hv2' hO; have HV2 := Lib.hid hv2'; have HOA := Lib.hid hO.strike; obtain ⟨A2, c2, hve⟩ := IsRow.val hv2'; rw [List.length_append, HML.out, List.length_singleton] at hve; subst hve; clear hO hv2' HO3 k1 k2)
        go_roundw
        case rel => exact ⟨i + 1, hs ++ [(x, y)], A2, m + 1, c2, L2, by omega, rfl, by go_num, by rw [List.length_append, List.length_singleton, HML.out], by omega, Lib.hid (fun h => by omega), Lib.hid ⟨HV2.out, HH.out.2.app HSZ.out⟩, HOA⟩
        case measure => simp [intOf]; omega
      · go_wp2_with fail
        with_reducible refine (within_n _ 20 (by omega) (by omega)).mono ?_
        generalize (Int.toNat (_ % 20)) = j20
        rintro e wq ⟨rfl, hww⟩
        subst hww
        by_cases h18 : j20 = 18
        · have e18 : ((j20 : Int) == 18) = true := by simp; omega
          clear h18
          go_wp2_with fail
          with_reducible refine (within_n _ 12 (by omega) (by omega)).mono ?_
          generalize hjj : (Int.toNat (_ % 12)) = j
          have hj : j < 12 := by rw [← hjj]; omega
          clear hjj
          rintro e wq ⟨rfl, hww⟩
          subst hww
          obtain ⟨h, hh⟩ : ∃ h, (badB s)[j]? = some h := ⟨_, List.getElem?_eq_getElem hj⟩
          have hsz := badB_size s h (List.mem_of_getElem? hh)
          obtain ⟨k1, k2⟩ := own_head HO3.out (List.mem_append_right _ (.head _)) hh
          obtain ⟨x, y⟩ := h
          simp only at k1 k2 hsz
          have HSZ : Hid (HSz (20 + s.size) [(x, y)]) := Lib.hid (HSz.one hsz)
          have hjI : (j : Int) < 12 := by omega
          have H1 : Hid (IsHeads (.slice A m c) hs L) := Lib.hid HH.out.1
          have HML : Hid (hs.length = m) := Lib.hid HM.out.symm
          clear hh hsz
          go_wp2_with (refine wl_appendH1 rfl _ _ rfl (.slice A m c) hs (by rfl) H1.out (HO3.out.put2 (.cells #[.string x, .string y] 23)) _ 1 (x, y) (by rfl) (.head _) (by rw [HML.out]; omega) ?_; intro v2 wa L2 hv2' hO; have HV2 := Lib.hid hv2'; have HOA := Lib.hid hO.strike; obtain ⟨A2, c2, hve⟩ := IsRow.val hv2'; rw [List.length_append, HML.out, List.length_singleton] at hve; subst hve; clear hO hv2' HO3 k1 k2)
          go_ret
          exact ⟨_, hs ++ [(x, y)], L2, rfl, HV2.out, by rw [List.length_append, List.length_singleton, HML.out]; omega, HH.out.2.app HSZ.out, HOA.out.sub (List.Sublist.append_left (List.Sublist.cons _ (List.Sublist.cons _ (List.Sublist.refl _))) _)⟩
        · have e18 : ((j20 : Int) == 18) = false := by simp; omega
          by_cases h19 : j20 = 19
          · have e19 : ((j20 : Int) == 19) = true := by simp; omega
            clear h18 h19
            by_cases hm0 : m = 0
            · obtain ⟨hA, hc⟩ := HNL.out hm0
              subst hA hc hm0
              have hs0 : hs = [] := List.eq_nil_of_length_eq_zero HM.out.symm
              have H1 : Hid (IsHeads (.slice none 0 0) hs L) := Lib.hid HH.out.1
              clear hs0
              go_wp2
              go_ret
              exact ⟨_, hs, L, rfl, H1.out, by rw [← HM.out]; omega, HH.out.2, HO3.out.sub (List.Sublist.append_left (List.Sublist.cons _ (List.Sublist.cons _ (List.Sublist.refl _))) _)⟩
            · obtain ⟨g, hA, hcells⟩ : ∃ g, A = some ⟨g, 0, none⟩ ∧ ∀ j u, (hv hs)[j]? = some u → wr.cell? ((⟨g, 0, none⟩ : Addr).add j) = some u := by
                rcases HH.out.1.2 with ⟨hv0, hn0, _⟩ | ⟨g, cap, sp, hv0, rfl, _⟩
                · exact absurd (HM.out.trans hn0) hm0
                · cases hv0
                  refine ⟨g, rfl, fun j u hu => ?_⟩
                  rw [addr_add_zero, HO3.out.cell (.head _)]
                  simp only [List.getElem?_toArray]
                  rw [List.getElem?_append_left (List.getElem?_eq_some_iff.1 hu).1]
                  exact hu
              subst hA
              have H1 : Hid (IsRow 23 2 (.slice (some ⟨g, 0, none⟩) m c) m (hv hs) L) := Lib.hid (by have := HH.out.1; unfold IsHeads at this; rw [← HM.out] at this; exact this)
              have HCE := Lib.hid hcells
              have hm2 : m ≤ 2 := by omega
              clear hcells
              go_wp2_with (refine wl_append rfl _ _ _ rfl _ _ 2 32 Tryd.underlying24 head_info (by rfl) (by omega) (.slice (some ⟨g, 0, none⟩) m c) m (hv hs) (by rfl) H1.out HO3.out ⟨g, 0, none⟩ m c (hv hs) (by rfl) (by rw [length_hv, HM.out]) (fun j u hu => HCE.out j u hu) (one_hv _) (by simp only [maxLen]; omega) (by omega) ?_; intro v2 wa L2 hv2' hO _; have HV2 := Lib.hid hv2'; have HOA := Lib.hid hO; obtain ⟨A2, c2, hve⟩ := IsRow.val hv2'; subst hve; clear hO hv2' HO3)
              go_ret
              exact ⟨_, hs ++ hs, L2, rfl, by unfold IsHeads; rw [List.length_append, hv_append, ← HM.out]; exact HV2.out, by rw [List.length_append, ← HM.out]; omega, HH.out.2.app HH.out.2, HOA.out.sub (List.Sublist.append_left (List.Sublist.cons _ (List.Sublist.cons _ (List.Sublist.refl _))) _)⟩
          · have e19 : ((j20 : Int) == 19) = false := by simp; omega
            have H1 : Hid (IsHeads (.slice A m c) hs L) := Lib.hid HH.out.1
            clear h18 h19
            go_wp2
            go_ret
            exact ⟨_, hs, L, rfl, H1.out, by rw [← HM.out]; omega, HH.out.2, HO3.out.sub (List.Sublist.append_left (List.Sublist.cons _ (List.Sublist.cons _ (List.Sublist.refl _))) _)⟩
    · go_wp2_with fail
      with_reducible refine (within_n _ 20 (by omega) (by omega)).mono ?_
      generalize (Int.toNat (_ % 20)) = j20
      rintro e wq ⟨rfl, hww⟩
      subst hww
      by_cases h18 : j20 = 18
      · have e18 : ((j20 : Int) == 18) = true := by simp; omega
        clear h18
        go_wp2_with fail
        with_reducible refine (within_n _ 12 (by omega) (by omega)).mono ?_
        generalize hjj : (Int.toNat (_ % 12)) = j
        have hj : j < 12 := by rw [← hjj]; omega
        clear hjj
        rintro e wq ⟨rfl, hww⟩
        subst hww
        obtain ⟨h, hh⟩ : ∃ h, (badB s)[j]? = some h := ⟨_, List.getElem?_eq_getElem hj⟩
        have hsz := badB_size s h (List.mem_of_getElem? hh)
        obtain ⟨k1, k2⟩ := own_head HO3.out (List.mem_append_right _ (.head _)) hh
        obtain ⟨x, y⟩ := h
        simp only at k1 k2 hsz
        have HSZ : Hid (HSz (20 + s.size) [(x, y)]) := Lib.hid (HSz.one hsz)
        have hjI : (j : Int) < 12 := by omega
        have H1 : Hid (IsHeads (.slice A m c) hs L) := Lib.hid HH.out.1
        have HML : Hid (hs.length = m) := Lib.hid HM.out.symm
        clear hh hsz
        go_wp2_with (refine wl_appendH1 rfl _ _ rfl (.slice A m c) hs (by rfl) H1.out (HO3.out.put2 (.cells #[.string x, .string y] 23)) _ 1 (x, y) (by rfl) (.head _) (by rw [HML.out]; omega) ?_; intro v2 wa L2 hv2' hO; have HV2 := Lib.hid hv2'; have HOA := Lib.hid hO.strike; obtain ⟨A2, c2, hve⟩ := IsRow.val hv2'; rw [List.length_append, HML.out, List.length_singleton] at hve; subst hve; clear hO hv2' HO3 k1 k2)
        go_ret
        exact ⟨_, hs ++ [(x, y)], L2, rfl, HV2.out, by rw [List.length_append, List.length_singleton, HML.out]; omega, HH.out.2.app HSZ.out, HOA.out.sub (List.Sublist.append_left (List.Sublist.cons _ (List.Sublist.cons _ (List.Sublist.refl _))) _)⟩
      · have e18 : ((j20 : Int) == 18) = false := by simp; omega
        by_cases h19 : j20 = 19
        · have e19 : ((j20 : Int) == 19) = true := by simp; omega
          clear h18 h19
          by_cases hm0 : m = 0
          · obtain ⟨hA, hc⟩ := HNL.out hm0
            subst hA hc hm0
            have hs0 : hs = [] := List.eq_nil_of_length_eq_zero HM.out.symm
            have H1 : Hid (IsHeads (.slice none 0 0) hs L) := Lib.hid HH.out.1
            clear hs0
            go_wp2
            go_ret
            exact ⟨_, hs, L, rfl, H1.out, by rw [← HM.out]; omega, HH.out.2, HO3.out.sub (List.Sublist.append_left (List.Sublist.cons _ (List.Sublist.cons _ (List.Sublist.refl _))) _)⟩
          · obtain ⟨g, hA, hcells⟩ : ∃ g, A = some ⟨g, 0, none⟩ ∧ ∀ j u, (hv hs)[j]? = some u → wr.cell? ((⟨g, 0, none⟩ : Addr).add j) = some u := by
              rcases HH.out.1.2 with ⟨hv0, hn0, _⟩ | ⟨g, cap, sp, hv0, rfl, _⟩
              · exact absurd (HM.out.trans hn0) hm0
              · cases hv0
                refine ⟨g, rfl, fun j u hu => ?_⟩
                rw [addr_add_zero, HO3.out.cell (.head _)]
                simp only [List.getElem?_toArray]
                rw [List.getElem?_append_left (List.getElem?_eq_some_iff.1 hu).1]
                exact hu
            subst hA
            have H1 : Hid (IsRow 23 2 (.slice (some ⟨g, 0, none⟩) m c) m (hv hs) L) := Lib.hid (by have := HH.out.1; unfold IsHeads at this; rw [← HM.out] at this; exact this)
            have HCE := Lib.hid hcells
            have hm2 : m ≤ 2 := by omega
            clear hcells
            go_wp2_with (refine wl_append rfl _ _ _ rfl _ _ 2 32 Tryd.underlying24 head_info (by rfl) (by omega) (.slice (some ⟨g, 0, none⟩) m c) m (hv hs) (by rfl) H1.out HO3.out ⟨g, 0, none⟩ m c (hv hs) (by rfl) (by rw [length_hv, HM.out]) (fun j u hu => HCE.out j u hu) (one_hv _) (by simp only [maxLen]; omega) (by omega) ?_; intro v2 wa L2 hv2' hO _; have HV2 := Lib.hid hv2'; have HOA := Lib.hid hO; obtain ⟨A2, c2, hve⟩ := IsRow.val hv2'; subst hve; clear hO hv2' HO3)
            go_ret
            exact ⟨_, hs ++ hs, L2, rfl, by unfold IsHeads; rw [List.length_append, hv_append, ← HM.out]; exact HV2.out, by rw [List.length_append, ← HM.out]; omega, HH.out.2.app HH.out.2, HOA.out.sub (List.Sublist.append_left (List.Sublist.cons _ (List.Sublist.cons _ (List.Sublist.refl _))) _)⟩
        · have e19 : ((j20 : Int) == 19) = false := by simp; omega
          have H1 : Hid (IsHeads (.slice A m c) hs L) := Lib.hid HH.out.1
          clear h18 h19
          go_wp2
          go_ret
          exact ⟨_, hs, L, rfl, H1.out, by rw [← HM.out]; omega, HH.out.2, HO3.out.sub (List.Sublist.append_left (List.Sublist.cons _ (List.Sublist.cons _ (List.Sublist.refl _))) _)⟩
end Go.Proofs.YtlcolabblpikjaaDoor
