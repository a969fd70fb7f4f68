/-
  The landed program's readFirst, readBody, Parse.
-/
import Derived.Test.YtkmfbfmmlldphaaDoorRepP2
namespace Go.Proofs.YtkmfbfmmlldphaaDoor
set_option linter.unusedVariables false
set_option linter.unusedSimpArgs false
set_option maxRecDepth 20000
open Go.RowKit

theorem figI_three {l : List Int} (h : l.length = 3) : figI l 1 6 = figI l 3 3 := by
  have e : FigOk l 1 6 ↔ FigOk l 3 3 := by
    unfold FigOk
    rw [h]
    exact ⟨fun ⟨_, _, c⟩ => ⟨by decide, by decide, c⟩, fun ⟨_, _, c⟩ => ⟨by decide, by decide, c⟩⟩
  unfold figI
  simp only [e]
set_option maxHeartbeats 4000000 in
theorem rfirst_c {w : World} {l : List Int} (hB : Byt l) (hl : l.length ≤ 1073741824) :
    Calls Tryd.prog 22 #[.string (strOfNums l)] w fun e w' => e = .returned (.tuple #[.int .i64 ((firstI l).getD 0), .bool (firstI l).isSome]) ∧ w = w' := by
  have hpre := rpre_c (w := w) (strOfNums l) ⟨#[72, 84, 84, 80, 47, 49, 46, 49, 32]⟩
  rw [sb_str hB, show sb ⟨#[72, 84, 84, 80, 47, 49, 46, 49, 32]⟩ = verI from rfl, show verI.length = 9 from rfl] at hpre
  obtain ⟨o, ho⟩ : ∃ o, firstI l = o := ⟨_, rfl⟩
  rw [ho]
  unfold firstI at ho
  cases hb : begI verI l with
  | false =>
    rw [hb, if_neg (by simp)] at hpre
    rw [hb, if_neg (by simp)] at ho
    subst ho
    have HP := Lib.hid hpre
    clear hpre hb
    go_enter Tryd.func22, Tryd.ntmps22
    go_wp2_with fail
    with_reducible refine HP.out.mono ?_
    rintro e w2 ⟨rfl, rfl⟩
    clear HP
    go_wp2
    go_ret2
    exact ⟨rfl, rfl⟩
  | true =>
    rw [hb, if_pos rfl] at hpre
    have hsz : (strOfNums (l.drop 9)).size = l.length - 9 := by rw [strOfNums_size, List.length_drop]
    by_cases h12 : l.length < 12
    · rw [if_neg (by omega)] at ho
      subst ho
      have HP := Lib.hid hpre
      have h3 : ((l.length - 9 : Nat) : Int) < 3 := by omega
      have HSZ := Lib.hid hsz
      clear hb h12
      go_enter Tryd.func22, Tryd.ntmps22
      go_wp2_with fail
      with_reducible refine HP.out.mono ?_
      rintro e w2 ⟨rfl, rfl⟩
      clear HP
      go_wp2
      go_ret2
      exact ⟨rfl, rfl⟩
    · rw [if_pos ⟨hb, by omega⟩] at ho
      have hex : (strOfNums (l.drop 9)).extract 0 3 = strOfNums ((l.drop 9).take 3) := by rw [ext_str, sb_str (byt_drop hB 9), win_from]
      have h3 : ((l.drop 9).take 3).length = 3 := by rw [List.length_take, List.length_drop]; omega
      have hnum := fun (w1 : World) => rnumber_q (w := w1) (strOfNums ((l.drop 9).take 3))
      rw [sb_str (byt_take (byt_drop hB 9) 3), figI_three h3] at hnum
      have hge : ¬ ((l.length - 9 : Nat) : Int) < 3 := by omega
      have hle : (3 : Int) ≤ ((l.length - 9 : Nat) : Int) := by omega
      have HP := Lib.hid hpre
      generalize (l.drop 9).take 3 = t at *
      generalize strOfNums (l.drop 9) = s9 at *
      have HNUM := Lib.hid hnum; have HEX := Lib.hid hex
      clear hpre hnum hb h12 h3
      cases hf : figI t 3 3 with
      | none =>
        have HO : Hid (o = none) := Lib.hid (by rw [← ho, hf]; rfl)
        rw [hf] at HNUM
        clear ho hf
        go_enter Tryd.func22, Tryd.ntmps22
        go_wp2_with fail
        with_reducible refine HP.out.mono ?_
        rintro e w2 ⟨rfl, rfl⟩
        clear HP
        go_wp2_with fail
        with_reducible refine (HNUM.out _).mono ?_
        rintro e w2 ⟨rfl, rfl⟩
        clear HNUM
        simp only [Option.getD_none, Option.isSome_none]
        go_wp2
        go_ret2
        exact ⟨by rw [HO.out]; rfl, rfl⟩
      | some n =>
        have hO : o = if n < 100 ∨ 599 < n then none else some n := by rw [← ho, hf]; rfl
        rw [hf] at HNUM
        have HO := Lib.hid hO
        clear ho hf hO
        by_cases h1 : n < 100
        · have HE : Hid (o = none) := Lib.hid (by rw [HO.out, if_pos (.inl h1)])
          clear HO
          go_enter Tryd.func22, Tryd.ntmps22
          go_wp2_with fail
          with_reducible refine HP.out.mono ?_
          rintro e w2 ⟨rfl, rfl⟩
          clear HP
          go_wp2_with fail
          with_reducible refine (HNUM.out _).mono ?_
          rintro e w2 ⟨rfl, rfl⟩
          clear HNUM
          simp only [Option.getD_some, Option.isSome_some]
          go_wp2
          go_ret2
          exact ⟨by rw [HE.out]; rfl, rfl⟩
        · by_cases h2 : 599 < n
          · have HE : Hid (o = none) := Lib.hid (by rw [HO.out, if_pos (.inr h2)])
            clear HO
            go_enter Tryd.func22, Tryd.ntmps22
            go_wp2_with fail
            with_reducible refine HP.out.mono ?_
            rintro e w2 ⟨rfl, rfl⟩
            clear HP
            go_wp2_with fail
            with_reducible refine (HNUM.out _).mono ?_
            rintro e w2 ⟨rfl, rfl⟩
            clear HNUM
            simp only [Option.getD_some, Option.isSome_some]
            go_wp2
            go_ret2
            exact ⟨by rw [HE.out]; rfl, rfl⟩
          · have HE : Hid (o = some n) := Lib.hid (by rw [HO.out, if_neg (by omega)])
            clear HO
            go_enter Tryd.func22, Tryd.ntmps22
            go_wp2_with fail
            with_reducible refine HP.out.mono ?_
            rintro e w2 ⟨rfl, rfl⟩
            clear HP
            go_wp2_with fail
            with_reducible refine (HNUM.out _).mono ?_
            rintro e w2 ⟨rfl, rfl⟩
            clear HNUM
            simp only [Option.getD_some, Option.isSome_some]
            go_wp2
            go_ret2
            exact ⟨by rw [HE.out]; rfl, rfl⟩
/-- A body, whether it is cut; whether there is one. -/
def bodyV (o : Option (List Int × Bool)) : Value := .tuple #[.string (strOfNums ((o.map (·.1)).getD [])), .bool ((o.map (·.2)).getD false), .bool o.isSome]
theorem IsStrs.at0 {w0 w : World} {v : Value} {x : ByteArray} {t : List ByteArray} {L R : Blks} (h : IsStrs v (x :: t) L) (hO : Own w0 w (L ++ R)) : ∃ g c, v = .slice (some ⟨g, 0, none⟩) (t.length + 1) c ∧ w.cell? ⟨g, 0, none⟩ = some (.string x) := by
  rcases h.2 with ⟨_, hn, _⟩ | ⟨g, cap, sp, rfl, rfl, _⟩
  · simp at hn
  · exact ⟨g, cap, rfl, by rw [hO.cell (.head _) 0]; simp [sv]⟩
set_option maxHeartbeats 4000000 in
theorem rbody_c {w0 w : World} {R : Blks} (hO : Own w0 w R) (v : Value) (hs : HL) (hR : HRd w0 R v (hs.map toB)) (h8 : hs.length ≤ 8) (hok : ∀ h ∈ hs, HeadOk h) {r : List Int} (hB : Byt r) (hl : r.length ≤ 1073741824) :
    Calls Tryd.prog 24 #[.string (strOfNums r), v] w fun e w' => e = .returned (bodyV ((lenV (valsI hs)).map fun had => bodyI had r)) ∧ Own w0 w' R := by
  have hlen := rlengths_c hO v hs hR h8 hok
  have hvb : ∀ x ∈ valsI hs, Byt x := by
    intro x hx
    unfold valsI at hx
    obtain ⟨h, hh, rfl⟩ := List.mem_map.1 hx
    have := hok h (List.mem_filter.1 hh).1
    exact fun y hy => by have := this.2.1 y hy; omega
  obtain ⟨o, ho⟩ : ∃ o, ((lenV (valsI hs)).map fun had => bodyI had r) = o := ⟨_, rfl⟩
  rw [ho]
  obtain ⟨A, n, c, rfl, _⟩ := hR w [] hO
  have HLEN := Lib.hid hlen; have HB := Lib.hid hB; have HL := Lib.hid hl
  clear hlen hB hl hR hok hO h8
  go_enter Tryd.func24, Tryd.ntmps24
  go_wp2_with fail
  with_reducible refine HLEN.out.mono ?_
  rintro e w1 ⟨v', L, rfl, hv', hO1⟩
  clear HLEN
  match hvals : valsI hs with
  | [] =>
    rw [hvals] at hv' ho
    obtain ⟨A1, c1, rfl⟩ := IsStrs.val hv'
    have HE : Hid (o = some (r, false)) := Lib.hid (by rw [← ho]; rfl)
    have HO1 : Hid (Own w0 w1 R) := Lib.hid hO1.right
    have hclone := clone_c HO1.out (strOfNums r) (strs_size HL.out)
    simp only [List.map_nil, List.length_nil]
    clear hv' hO1 hvals ho hvb
    go_wp2_with fail
    with_reducible refine hclone.mono ?_
    clear hclone
    rintro e w2 ⟨rfl, hO⟩
    have HO2 := Lib.hid hO; clear hO HO1
    go_wp2
    go_ret3
    exact ⟨by rw [HE.out]; rfl, HO2.out⟩
  | x :: t =>
    rw [hvals] at hv' ho hvb
    have hxb := hvb x (.head _)
    obtain ⟨g, c1, rfl, hc0⟩ := IsStrs.at0 hv' hO1
    obtain ⟨m, hm⟩ : ∃ m : Nat, (List.map strOfNums t).length + 1 = m := ⟨_, rfl⟩
    rw [hm]
    rw [List.length_map] at hm
    have HO1 : Hid (Own w0 w1 R) := Lib.hid hO1.right
    have hnum := rnumber_q (w := w1) (strOfNums x)
    rw [sb_str hxb] at hnum
    have HNUM := Lib.hid hnum
    have hm0 : ((m : Int) == 0) = false := by simp; omega
    have hm1 : (0 : Int) < (m : Int) := by omega
    have HM := Lib.hid hm
    clear hnum hv' hO1 hvals hvb hm hxb
    go_wp2_with fail
    with_reducible refine HNUM.out.mono ?_
    rintro e w2 ⟨rfl, rfl⟩
    clear HNUM
    cases hf : figI x 1 6 with
    | none =>
      have HE : Hid (o = none) := Lib.hid (by rw [← ho]; cases t <;> simp [lenV, hf])
      simp only [Option.getD_none, Option.isSome_none]
      clear hf ho
      go_wp2
      go_ret3
      exact ⟨by rw [HE.out]; rfl, HO1.out⟩
    | some k =>
      have hk := figI_six hf
      simp only [Option.getD_some, Option.isSome_some]
      cases t with
      | cons y t' =>
        have HE : Hid (o = none) := Lib.hid (by rw [← ho]; rfl)
        have hgt : (1 : Int) < (m : Int) := by have := HM.out; simp at this; omega
        clear hf ho hk
        go_wp2
        go_ret3
        exact ⟨by rw [HE.out]; rfl, HO1.out⟩
      | nil =>
        have HE : Hid (o = some (r.take k.toNat, decide ((r.length : Int) < k))) := Lib.hid (by rw [← ho]; simp [lenV, hf, bodyI])
        have hgt : ¬ (1 : Int) < (m : Int) := by have := HM.out; simp at this; omega
        have hsz : (strOfNums r).size = r.length := strOfNums_size r
        clear hf ho
        have hex : (strOfNums r).extract 0 (min k (r.length : Int)).toNat = strOfNums (r.take k.toNat) := by
          rw [ext_str, sb_str HB.out, win_from]
          congr 1
          by_cases hlt : (r.length : Int) < k
          · rw [List.take_of_length_le (by omega), List.take_of_length_le (by omega)]
          · rw [show min k (r.length : Int) = k by omega]
        have hclone := clone_c HO1.out (strOfNums (r.take k.toNat)) (strs_size (by rw [List.length_take]; have := HL.out; omega))
        have hmin0 : (0 : Int) ≤ min k (r.length : Int) := by have := hk.1; omega
        have hmin1 : min k (r.length : Int) ≤ (r.length : Int) := by omega
        clear hk
        go_wp2_with fail
        with_reducible refine hclone.mono ?_
        clear hclone
        rintro e w2 ⟨rfl, hO⟩
        have HO2 := Lib.hid hO; clear hO HO1
        go_wp2
        go_ret3
        exact ⟨by rw [HE.out]; rfl, HO2.out⟩
/-! ### Parse -/
theorem rep_size : (Tryd.prog.info? 24).map (·.size) = some 4 := by kernel_rfl
theorem alloc_rep (w : World) : (Instr.alloc 24 true (.tuple #[])).run Tryd.prog w = .ok (.pointer (some ⟨w.heap.size, 0, none⟩)) (w.alloc (.cells (rv 0 (.slice none 0 0) ⟨#[]⟩ false).toArray 24)) := by kernel_rfl
set_option maxHeartbeats 8000000 in
theorem rparse_l {w0 w : World} {R : Blks} (hV : MostOk w0) (hO : Own w0 w R) {l : List Int} (hB : Byt l) (hl : l.length ≤ 1073741824) : Calls Tryd.prog 8 #[.string (strOfNums l)] w (GotRep w0 R (replyI l) (.int .i64 0) (.int .i64 2)) := by
  have HV0 := Lib.hid hV
  have HO := Lib.hid hO; have HB := Lib.hid hB; have HLN := Lib.hid hl
  obtain ⟨o, ho⟩ : ∃ o, replyI l = o := ⟨_, rfl⟩
  rw [ho]
  rw [replyI_G] at ho
  clear hO hB hl hV
  go_enter Tryd.func8, Tryd.ntmps8
  go_wp2_with (refine wl_alloc rfl _ rfl HO.out _ (alloc_rep _) ?_; intro g2 w1 hO; have HO1 := Lib.hid hO; clear hO HO)
  have hcut := rline_c HV0.out HO1.out (strOfNums l) (strs_size HLN.out)
  rw [sb_str HB.out] at hcut
  with_reducible refine hcut.mono ?_
  clear hcut
  rintro e w2 ⟨rfl, hO⟩
  have HO2 := Lib.hid hO; clear hO HO1
  cases hli : lineI l with
  | none =>
    have HE : Hid (o = none) := Lib.hid (by rw [← ho, hli]; rfl)
    simp only [cutL, hli]
    clear hli ho
    go_wp2_with (refine wl_store rfl _ _ _ rfl HO2.out 0 g2 0 _ (rv 0 (.slice none 0 0) ⟨#[]⟩ false) _ rfl (by rfl) (by rfl) rep_size (one_rv rfl) (by simp [rv]) ?_; intro wz hO; have HZ := Lib.hid (hO.cast (L' := (g2, .cells (rv 0 (.slice none 0 0) ⟨#[]⟩ false).toArray 24) :: R) rfl); clear hO HO2)
    have hc0 : wz.cell? ⟨g2, 0, none⟩ = some (.int .i64 0) := HZ.out.cell (.head _) 0
    have hc1 : wz.cell? ⟨g2, 1, none⟩ = some (.slice none 0 0) := HZ.out.cell (.head _) 1
    have hc2 : wz.cell? ⟨g2, 2, none⟩ = some (.string ⟨#[]⟩) := HZ.out.cell (.head _) 2
    have hc3 : wz.cell? ⟨g2, 3, none⟩ = some (.bool false) := HZ.out.cell (.head _) 3
    exact bodyPost_ret (v := .tuple #[.agg #[.int .i64 0, .slice none 0 0, .string ⟨#[]⟩, .bool false], .int .i64 2]) (by simp [results, Tryd.results8, go_sem, hc0, hc1, hc2, hc3]) rfl ⟨.slice none 0 0, [], by rw [HE.out]; rfl, by rw [HE.out]; exact isHeads_nil, HZ.out.tail⟩
  | some pr =>
    obtain ⟨p, r⟩ := pr
    have hpb := lineI_byt HB.out hli
    have hpl := lineI_len hli
    rw [hli, Option.bind_some] at ho
    simp only at ho
    simp only [cutL, hli]
    have HPB := Lib.hid hpb.1; have HRB := Lib.hid hpb.2
    have HPL : Hid (p.length ≤ 1073741824) := Lib.hid (by have := HLN.out; omega)
    have HRL : Hid (r.length ≤ 1073741824) := Lib.hid (by have := HLN.out; omega)
    have HF := Lib.hid ho
    clear hpb hpl hli ho
    go_wp2_with fail
    with_reducible refine (rfirst_c HPB.out HPL.out).mono ?_
    rintro e wq ⟨rfl, hww⟩
    subst hww
    go_wp2_with fail
    with_reducible refine (rreadHeads_c HV0.out HO2.out HRB.out HRL.out).mono ?_
    rintro e w3 ⟨v, L, rfl, hv, hO⟩
    cases hfi : firstI p with
    | none =>
      have HE : Hid (o = none) := Lib.hid (by rw [← HF.out, hfi]; rfl)
      obtain ⟨A, c, rfl⟩ := IsRow.val hv
      have HO3 : Hid (Own w0 w3 ((g2, .cells (rv 0 (.slice none 0 0) ⟨#[]⟩ false).toArray 24) :: R)) := Lib.hid hO.right
      simp only [Option.getD_none, Option.isSome_none, headsV]
      obtain ⟨bb, hbb⟩ : ∃ b, (headsG [] r).isSome = b := ⟨_, rfl⟩
      rw [hbb]
      clear hO hv HO2 HF hfi hbb
      go_wp2_with (refine wl_store rfl _ _ _ rfl HO3.out 0 g2 0 _ (rv 0 (.slice none 0 0) ⟨#[]⟩ false) _ rfl (by rfl) (by rfl) rep_size (one_rv rfl) (by simp [rv]) ?_; intro wz hO; have HZ := Lib.hid (hO.cast (L' := (g2, .cells (rv 0 (.slice none 0 0) ⟨#[]⟩ false).toArray 24) :: R) rfl); clear hO HO3)
      have hc0 : wz.cell? ⟨g2, 0, none⟩ = some (.int .i64 0) := HZ.out.cell (.head _) 0
      have hc1 : wz.cell? ⟨g2, 1, none⟩ = some (.slice none 0 0) := HZ.out.cell (.head _) 1
      have hc2 : wz.cell? ⟨g2, 2, none⟩ = some (.string ⟨#[]⟩) := HZ.out.cell (.head _) 2
      have hc3 : wz.cell? ⟨g2, 3, none⟩ = some (.bool false) := HZ.out.cell (.head _) 3
      exact bodyPost_ret (v := .tuple #[.agg #[.int .i64 0, .slice none 0 0, .string ⟨#[]⟩, .bool false], .int .i64 2]) (by simp [results, Tryd.results8, go_sem, hc0, hc1, hc2, hc3]) rfl ⟨.slice none 0 0, [], by rw [HE.out]; rfl, by rw [HE.out]; exact isHeads_nil, HZ.out.tail⟩
    | some code =>
      have HF2 : Hid (((headsG [] r).bind fun q => (lenV (valsI q.1)).map fun had => (⟨code, q.1, (bodyI had q.2).1, (bodyI had q.2).2⟩ : RL)) = o) := Lib.hid (by rw [← HF.out, hfi]; rfl)
      simp only [Option.getD_some, Option.isSome_some]
      clear HF hfi
      cases hg : headsG [] r with
      | none =>
        have HE : Hid (o = none) := Lib.hid (by rw [← HF2.out, hg]; rfl)
        rw [hg] at hv
        obtain ⟨A, c, rfl⟩ := IsRow.val hv
        have HO3 : Hid (Own w0 w3 ((g2, .cells (rv 0 (.slice none 0 0) ⟨#[]⟩ false).toArray 24) :: R)) := Lib.hid hO.right
        simp only [headsV, Option.map_none, Option.getD_none, Option.isSome_none]
        clear hO hv HO2 HF2 hg
        go_wp2_with (refine wl_store rfl _ _ _ rfl HO3.out 0 g2 0 _ (rv 0 (.slice none 0 0) ⟨#[]⟩ false) _ rfl (by rfl) (by rfl) rep_size (one_rv rfl) (by simp [rv]) ?_; intro wz hO; have HZ := Lib.hid (hO.cast (L' := (g2, .cells (rv 0 (.slice none 0 0) ⟨#[]⟩ false).toArray 24) :: R) rfl); clear hO HO3)
        have hc0 : wz.cell? ⟨g2, 0, none⟩ = some (.int .i64 0) := HZ.out.cell (.head _) 0
        have hc1 : wz.cell? ⟨g2, 1, none⟩ = some (.slice none 0 0) := HZ.out.cell (.head _) 1
        have hc2 : wz.cell? ⟨g2, 2, none⟩ = some (.string ⟨#[]⟩) := HZ.out.cell (.head _) 2
        have hc3 : wz.cell? ⟨g2, 3, none⟩ = some (.bool false) := HZ.out.cell (.head _) 3
        exact bodyPost_ret (v := .tuple #[.agg #[.int .i64 0, .slice none 0 0, .string ⟨#[]⟩, .bool false], .int .i64 2]) (by simp [results, Tryd.results8, go_sem, hc0, hc1, hc2, hc3]) rfl ⟨.slice none 0 0, [], by rw [HE.out]; rfl, by rw [HE.out]; exact isHeads_nil, HZ.out.tail⟩
      | some q =>
        obtain ⟨hs, r2⟩ := q
        have hF3 := HF2.out
        rw [hg, Option.bind_some] at hF3
        simp only at hF3
        have hq := headsG_ok _ _ _ _ hg (by intro h hh; cases hh) (by simp)
        have hrb : Byt r2 ∧ r2.length ≤ 1073741824 := headsG_rest HRB.out HRL.out hg
        rw [hg] at hv
        simp only [Option.map_some, Option.getD_some] at hv
        simp only [headsV, Option.map_some, Option.getD_some, Option.isSome_some]
        have HO3 := Lib.hid hO
        have HV := Lib.hid hv
        have hbd := rbody_c HO3.out v hs (hv.hrd (List.sublist_append_left _ _)) hq.2 hq.1 hrb.1 hrb.2
        obtain ⟨A, c, hve⟩ := IsRow.val hv
        rw [List.length_map] at hve
        subst hve
        have HF3 := Lib.hid hF3
        clear hF3 HF2 hg hq hrb hv hO HO2
        go_wp2_with fail
        with_reducible refine hbd.mono ?_
        clear hbd
        rintro e w4 ⟨rfl, hO⟩
        have HO4 : Hid (Own w0 w4 ((g2, .cells (rv 0 (.slice none 0 0) ⟨#[]⟩ false).toArray 24) :: (L ++ R))) := Lib.hid (hO.perm List.perm_middle)
        clear hO HO3
        cases hlv : lenV (valsI hs) with
        | none =>
          have HE : Hid (o = none) := Lib.hid (by rw [← HF3.out, hlv]; rfl)
          simp only [bodyV, Option.map_none, Option.getD_none, Option.isSome_none]
          clear hlv HF3
          go_wp2_with (refine wl_store rfl _ _ _ rfl HO4.out 0 g2 0 _ (rv 0 (.slice none 0 0) ⟨#[]⟩ false) _ rfl (by rfl) (by rfl) rep_size (one_rv rfl) (by simp [rv]) ?_; intro wz hO; have HZ := Lib.hid (hO.cast (L' := (g2, .cells (rv 0 (.slice none 0 0) ⟨#[]⟩ false).toArray 24) :: (L ++ R)) rfl); clear hO HO4)
          have hc0 : wz.cell? ⟨g2, 0, none⟩ = some (.int .i64 0) := HZ.out.cell (.head _) 0
          have hc1 : wz.cell? ⟨g2, 1, none⟩ = some (.slice none 0 0) := HZ.out.cell (.head _) 1
          have hc2 : wz.cell? ⟨g2, 2, none⟩ = some (.string ⟨#[]⟩) := HZ.out.cell (.head _) 2
          have hc3 : wz.cell? ⟨g2, 3, none⟩ = some (.bool false) := HZ.out.cell (.head _) 3
          exact bodyPost_ret (v := .tuple #[.agg #[.int .i64 0, .slice none 0 0, .string ⟨#[]⟩, .bool false], .int .i64 2]) (by simp [results, Tryd.results8, go_sem, hc0, hc1, hc2, hc3]) rfl ⟨.slice none 0 0, [], by rw [HE.out]; rfl, by rw [HE.out]; exact isHeads_nil, HZ.out.tail.right⟩
        | some had =>
          have HE : Hid (o = some ⟨code, hs, (bodyI had r2).1, (bodyI had r2).2⟩) := Lib.hid (by rw [← HF3.out, hlv]; rfl)
          simp only [bodyV, Option.map_some, Option.getD_some, Option.isSome_some]
          clear hlv HF3
          generalize (bodyI had r2).1 = bo at *
          generalize (bodyI had r2).2 = ct at *
          generalize hs.length = n at *
          go_wp2_with (refine wl_store rfl _ _ _ rfl HO4.out 0 g2 0 _ (rv code (.slice A n c) (strOfNums bo) ct) _ rfl (by rfl) (by rfl) rep_size (one_rv rfl) (by simp [rv]) ?_; intro wz hO; have HZ := Lib.hid (hO.cast (L' := (g2, .cells (rv code (.slice A n c) (strOfNums bo) ct).toArray 24) :: (L ++ R)) rfl); clear hO HO4)
          have hc0 : wz.cell? ⟨g2, 0, none⟩ = some (.int .i64 code) := HZ.out.cell (.head _) 0
          have hc1 : wz.cell? ⟨g2, 1, none⟩ = some (.slice A n c) := HZ.out.cell (.head _) 1
          have hc2 : wz.cell? ⟨g2, 2, none⟩ = some (.string (strOfNums bo)) := HZ.out.cell (.head _) 2
          have hc3 : wz.cell? ⟨g2, 3, none⟩ = some (.bool ct) := HZ.out.cell (.head _) 3
          exact bodyPost_ret (v := .tuple #[.agg #[.int .i64 code, .slice A n c, .string (strOfNums bo), .bool ct], .int .i64 0]) (by simp [results, Tryd.results8, go_sem, hc0, hc1, hc2, hc3]) rfl ⟨.slice A n c, L, by rw [HE.out]; rfl, by rw [HE.out]; exact HV.out, HZ.out.tail⟩
theorem rparse_m {w0 w : World} {R : Blks} (hV : MostOk w0) (hO : Own w0 w R) (s : ByteArray) (hs : s.size ≤ 1073741824) : Calls Tryd.prog 8 #[.string s] w (GotRep w0 R (replyI (sb s)) (.int .i64 0) (.int .i64 2)) := by
  have := rparse_l hV hO (l := sb s) (byt_sb s) (by rw [length_sb]; exact hs)
  rwa [str_sb] at this
end Go.Proofs.YtkmfbfmmlldphaaDoor
