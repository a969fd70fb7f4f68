/-
  The document's own ParseReply, in plain Go.
-/
import Derived.Test.YtkmfbfmmlldphaaDoorRp1
import Derived.Test.YtkmfbfmmlldphaaDoorHead3
namespace Go.Proofs.YtkmfbfmmlldphaaDoor
set_option linter.unusedVariables false
set_option linter.unusedSimpArgs false
set_option maxRecDepth 20000
open Go.RowKit

def toB (h : List Int × List Int) : ByteArray × ByteArray := (strOfNums h.1, strOfNums h.2)
def RL.zero : RL := ⟨0, [], [], false⟩
def rv (c : Int) (v : Value) (b : ByteArray) (k : Bool) : List Value := [.int .i64 c, v, .string b, .bool k]
theorem one_rv {c : Int} {v : Value} {b : ByteArray} {k : Bool} (h : v.oneCell' = true) : ∀ x ∈ rv c v b k, x.oneCell' = true := by
  intro x hx; simp only [rv, List.mem_cons, List.not_mem_nil, or_false] at hx; rcases hx with rfl | rfl | rfl | rfl
  · rfl
  · exact h
  · rfl
  · rfl
theorem IsHeads.one {v : Value} {hs : HBL} {L : Blks} (h : IsHeads v hs L) : v.oneCell' = true := by obtain ⟨A, c, rfl⟩ := IsRow.val h; rfl
def GotRep (w0 : World) (R : Blks) (o : Option RL) (yes no : Value) (e : Ending) (w' : World) : Prop :=
  ∃ v L, e = .returned (.tuple #[.agg (rv (o.getD RL.zero).code v (strOfNums (o.getD RL.zero).body) (o.getD RL.zero).cut).toArray, if o.isSome then yes else no]) ∧ IsHeads v ((o.getD RL.zero).heads.map toB) L ∧ Own w0 w' (L ++ R)
theorem Own.sink2 {w0 w : World} {L R : Blks} {x y : Nat × Obj} (h : Own w0 w (x :: y :: (L ++ R))) : Own w0 w (L ++ (x :: y :: R)) :=
  h.perm ((List.Perm.cons x List.perm_middle.symm).trans List.perm_middle.symm)
theorem Own.rise2 {w0 w : World} {L R : Blks} {x y : Nat × Obj} (h : Own w0 w (L ++ (x :: y :: R))) : Own w0 w (x :: y :: (L ++ R)) :=
  h.perm (List.perm_middle.trans (List.Perm.cons x List.perm_middle))
/-! ### the helps over lists -/
section
variable {w0 w : World} {R : Blks}
theorem strs_size {l : List Int} {n : Nat} (h : l.length ≤ n) : (strOfNums l).size ≤ n := by rw [strOfNums_size]; exact h
theorem line_l {l : List Int} (hB : Byt l) (h : l.length ≤ 1073741824) : Calls Tryd.prog 28 #[.string (strOfNums l)] w (Quiet w (lineV (lineI l))) := by
  have := line_c (w := w) (strOfNums l) (strs_size h); rwa [sb_str hB] at this
theorem until_l {l : List Int} (hB : Byt l) (h : l.length ≤ 1073741824) : Calls Tryd.prog 30 #[.string (strOfNums l), .string ⟨#[58]⟩] w (Quiet w (.tuple #[.string (strOfNums (ahead [58] l)), .string (strOfNums (behind [58] l))])) := by
  have := until_c (w := w) (strOfNums l) ⟨#[58]⟩ (strs_size h) (by decide); rwa [sb_str hB] at this
theorem blanks_l {l : List Int} (hB : Byt l) (h : l.length ≤ 1073741824) : Calls Tryd.prog 31 #[.string (strOfNums l)] w fun e w' => e = .returned (.string (strOfNums (blanksI l))) ∧ w = w' := by
  have := blanks_c (w := w) (strOfNums l) (strs_size h); rwa [sb_str hB] at this
theorem named_l {l : List Int} (hB : Byt l) (h : l.length ≤ 1073741824) : Calls Tryd.prog 32 #[.string (strOfNums l), .int .i64 20] w fun e w' => e = .returned (.bool (decide (NameOk 20 l))) ∧ w = w' := by
  have := named_c (w := w) (strOfNums l) (strs_size h) 20; rwa [sb_str hB] at this
theorem valued_l {l : List Int} (hB : Byt l) (h : l.length ≤ 1073741824) : Calls Tryd.prog 33 #[.string (strOfNums l), .int .i64 40] w fun e w' => e = .returned (.bool (decide (ValueOk 40 l))) ∧ w = w' := by
  have := valued_c (w := w) (strOfNums l) (strs_size h) 40; rwa [sb_str hB] at this
theorem figures_l {l : List Int} (hB : Byt l) (a b : Int) (hb : b ≤ 18) : Calls Tryd.prog 18 #[.string (strOfNums l), .int .i64 a, .int .i64 b] w fun e w' => e = .returned (.tuple #[.int .i64 ((figI l a b).getD 0), .bool (figI l a b).isSome]) ∧ w = w' := by
  have := figures_c (w := w) (strOfNums l) a b hb; rwa [sb_str hB] at this
theorem begins_l {l : List Int} (hB : Byt l) (h : l.length ≤ 1073741824) : Calls Tryd.prog 29 #[.string (strOfNums l), .string ⟨#[72, 84, 84, 80, 47, 49, 46, 49, 32]⟩] w fun e w' => e = .returned (.bool (begI verI l)) ∧ w = w' := by
  have := begins_c (w := w) (strOfNums l) ⟨#[72, 84, 84, 80, 47, 49, 46, 49, 32]⟩ (strs_size h) (by decide); rwa [sb_str hB] at this
theorem rlower_l (hO : Own w0 w R) {l : List Int} (hB : Byt l) (h : l.length ≤ 1073741824) : Calls Tryd.prog 34 #[.string (strOfNums l)] w fun e w' => e = .returned (.string (strOfNums (lowL l))) ∧ Own w0 w' R := by
  have := rlower_c hO (strOfNums l) (strs_size h); rwa [sb_str hB] at this
end
theorem blanksI_len (l : List Int) : (blanksI l).length ≤ l.length := (blanksI_sub l).length_le
theorem blanksI_byt {l : List Int} (h : Byt l) : Byt (blanksI l) := fun x hx => h x ((blanksI_sub l).subset hx)
theorem str_lit (l : List Int) (hB : Byt l) (k : List UInt8) (m : List Int) (h : k.map (fun b => (b.toNat : Int)) = m) : ((strOfNums l).toList == k) = decide (l = m) := by
  rw [beq_lit8 _ _ m h, sb_str hB]
theorem figI_six {l : List Int} {n : Int} (h : figI l 1 6 = some n) : 0 ≤ n ∧ n < 1000000 := by
  unfold figI at h
  split at h
  · rename_i hok
    cases h
    have := figF_bound l 0 0 (by omega) (by decide) hok.2.2
    have h2 : (10 : Int) ^ (0 + l.length) ≤ 10 ^ 6 := by
      have := hok.2.1
      exact_mod_cast Nat.pow_le_pow_right (by omega) (by omega)
    unfold figN
    omega
  · cases h
theorem rrep_size : (Tryd.prog.info? 41).map (·.size) = some 4 := by kernel_rfl
theorem alloc_rrep (w : World) : (Instr.alloc 41 true (.tuple #[])).run Tryd.prog w = .ok (.pointer (some ⟨w.heap.size, 0, none⟩)) (w.alloc (.cells (rv 0 (.slice none 0 0) ⟨#[]⟩ false).toArray 41)) := by kernel_rfl
set_option maxRecDepth 100000 in
set_option maxHeartbeats 16000000 in
theorem rpr_l {w0 w : World} {R : Blks} (hO : Own w0 w R) {l : List Int} (hB : Byt l) (hl : l.length ≤ 1073741824) : Calls Tryd.prog 15 #[.string (strOfNums l)] w (GotRep w0 R (replyI l) (.bool true) (.bool false)) := by
  have HO := Lib.hid hO; have HB := Lib.hid hB; have HLN := Lib.hid hl
  clear hO hB hl
  go_enter Tryd.func15, Tryd.ntmps15
  go_wp2_with (refine wl_alloc rfl _ rfl HO.out _ (alloc_rrep _) ?_; intro g2 w1 hO; have HO1 := Lib.hid hO; clear hO HO)
  with_reducible refine (line_l (w := w1) HB.out HLN.out).mono ?_
  rintro e wqHO2 ⟨rfl, qq, hww⟩
  have HO2 := Lib.hid (HO1.out.drewN qq); rw [← hww] at HO2; clear HO1 hww
  cases hli : lineI l with
  | none =>
    have HE : Hid (replyI l = none) := Lib.hid (by unfold replyI; rw [hli]; rfl)
    simp only [lineV]
    clear hli
    go_wp2_with (refine wl_store rfl _ _ _ rfl HO2.out 0 g2 0 _ (rv 0 (.slice none 0 0) ⟨#[]⟩ false) _ rfl (by rfl) (by rfl) rrep_size (one_rv rfl) (by simp [rv]) ?_; intro wz hO; have HZ := Lib.hid (hO.cast (L' := (g2, .cells (rv 0 (.slice none 0 0) ⟨#[]⟩ false).toArray 41) :: R) rfl); clear hO HO2)
    have hc0 : wz.cell? ⟨g2, 0, none⟩ = some (.int .i64 0) := HZ.out.cell (.head _) 0
    have hc1 : wz.cell? ⟨g2, 1, none⟩ = some (.slice none 0 0) := HZ.out.cell (.head _) 1
    have hc2 : wz.cell? ⟨g2, 2, none⟩ = some (.string ⟨#[]⟩) := HZ.out.cell (.head _) 2
    have hc3 : wz.cell? ⟨g2, 3, none⟩ = some (.bool false) := HZ.out.cell (.head _) 3
    exact bodyPost_ret (v := .tuple #[.agg #[.int .i64 0, .slice none 0 0, .string ⟨#[]⟩, .bool false], .bool false]) (by simp [results, Tryd.results15, go_sem, hc0, hc1, hc2, hc3]) rfl ⟨.slice none 0 0, [], by rw [HE.out]; rfl, by rw [HE.out]; exact isHeads_nil, HZ.out.tail⟩
  | some pr =>
    obtain ⟨p, r⟩ := pr
    have hpb := lineI_byt HB.out hli
    have hpl := lineI_len hli
    have HPB := Lib.hid hpb.1; have HRB := Lib.hid hpb.2; have HLI := Lib.hid hli
    have HPL : Hid (p.length ≤ 1073741824) := Lib.hid (by have := HLN.out; omega)
    have HRL : Hid (r.length ≤ 1073741824) := Lib.hid (by have := HLN.out; omega)
    have hnone : firstI p = none → replyI l = none := fun h => by unfold replyI; rw [HLI.out, Option.bind_some, h]; rfl
    have HNONE := Lib.hid hnone
    clear hpb hpl hli hnone
    simp only [lineV]
    go_wp2_with fail
    with_reducible refine (begins_l HPB.out HPL.out).mono ?_
    rintro e wq ⟨rfl, hww⟩
    subst hww
    cases hbg : begI verI p with
    | false =>
      have HE : Hid (replyI l = none) := Lib.hid (HNONE.out (by unfold firstI; rw [hbg, if_neg (by simp)]))
      clear hbg
      go_wp2_with (refine wl_store rfl _ _ _ rfl HO2.out 0 g2 0 _ (rv 0 (.slice none 0 0) ⟨#[]⟩ false) _ rfl (by rfl) (by rfl) rrep_size (one_rv rfl) (by simp [rv]) ?_; intro wz hO; have HZ := Lib.hid (hO.cast (L' := (g2, .cells (rv 0 (.slice none 0 0) ⟨#[]⟩ false).toArray 41) :: R) rfl); clear hO HO2)
      have hc0 : wz.cell? ⟨g2, 0, none⟩ = some (.int .i64 0) := HZ.out.cell (.head _) 0
      have hc1 : wz.cell? ⟨g2, 1, none⟩ = some (.slice none 0 0) := HZ.out.cell (.head _) 1
      have hc2 : wz.cell? ⟨g2, 2, none⟩ = some (.string ⟨#[]⟩) := HZ.out.cell (.head _) 2
      have hc3 : wz.cell? ⟨g2, 3, none⟩ = some (.bool false) := HZ.out.cell (.head _) 3
      exact bodyPost_ret (v := .tuple #[.agg #[.int .i64 0, .slice none 0 0, .string ⟨#[]⟩, .bool false], .bool false]) (by simp [results, Tryd.results15, go_sem, hc0, hc1, hc2, hc3]) rfl ⟨.slice none 0 0, [], by rw [HE.out]; rfl, by rw [HE.out]; exact isHeads_nil, HZ.out.tail⟩
    | true =>
      have HBG := Lib.hid hbg
      have hsz : (strOfNums p).size = p.length := strOfNums_size _
      clear hbg
      by_cases h12 : p.length < 12
      · have HE : Hid (replyI l = none) := Lib.hid (HNONE.out (by unfold firstI; rw [if_neg (by omega)]))
        have h12' : (p.length : Int) < 12 := by omega
        clear h12
        go_wp2_with (refine wl_store rfl _ _ _ rfl HO2.out 0 g2 0 _ (rv 0 (.slice none 0 0) ⟨#[]⟩ false) _ rfl (by rfl) (by rfl) rrep_size (one_rv rfl) (by simp [rv]) ?_; intro wz hO; have HZ := Lib.hid (hO.cast (L' := (g2, .cells (rv 0 (.slice none 0 0) ⟨#[]⟩ false).toArray 41) :: R) rfl); clear hO HO2)
        have hc0 : wz.cell? ⟨g2, 0, none⟩ = some (.int .i64 0) := HZ.out.cell (.head _) 0
        have hc1 : wz.cell? ⟨g2, 1, none⟩ = some (.slice none 0 0) := HZ.out.cell (.head _) 1
        have hc2 : wz.cell? ⟨g2, 2, none⟩ = some (.string ⟨#[]⟩) := HZ.out.cell (.head _) 2
        have hc3 : wz.cell? ⟨g2, 3, none⟩ = some (.bool false) := HZ.out.cell (.head _) 3
        exact bodyPost_ret (v := .tuple #[.agg #[.int .i64 0, .slice none 0 0, .string ⟨#[]⟩, .bool false], .bool false]) (by simp [results, Tryd.results15, go_sem, hc0, hc1, hc2, hc3]) rfl ⟨.slice none 0 0, [], by rw [HE.out]; rfl, by rw [HE.out]; exact isHeads_nil, HZ.out.tail⟩
      · have h12' : ¬ (p.length : Int) < 12 := by omega
        have hfi : firstI p = (figI ((p.drop 9).take 3) 3 3).bind fun n => if n < 100 ∨ 599 < n then none else some n := by unfold firstI; rw [if_pos ⟨HBG.out, by omega⟩]
        have hex : (strOfNums p).extract 9 12 = strOfNums ((p.drop 9).take 3) := by rw [ext_str, sb_str HPB.out]; unfold win; rw [List.drop_take]
        have hle : (12 : Int) ≤ p.length := by omega
        have HFI := Lib.hid hfi
        clear h12 hfi h12'
        go_wp2_with fail
        try rw [hex]
        clear hex hsz hle
        with_reducible refine (figures_l (byt_take (byt_drop HPB.out 9) 3) 3 3 (by omega)).mono ?_
        rintro e wq ⟨rfl, hww⟩
        subst hww
        cases hfg : figI ((p.drop 9).take 3) 3 3 with
        | none =>
          have HE : Hid (replyI l = none) := Lib.hid (HNONE.out (by rw [HFI.out, hfg]; rfl))
          simp only [Option.getD_none, Option.isSome_none]
          clear hfg
          go_wp2_with (refine wl_store rfl _ _ _ rfl HO2.out 0 g2 0 _ (rv 0 (.slice none 0 0) ⟨#[]⟩ false) _ rfl (by rfl) (by rfl) rrep_size (one_rv rfl) (by simp [rv]) ?_; intro wz hO; have HZ := Lib.hid (hO.cast (L' := (g2, .cells (rv 0 (.slice none 0 0) ⟨#[]⟩ false).toArray 41) :: R) rfl); clear hO HO2)
          have hc0 : wz.cell? ⟨g2, 0, none⟩ = some (.int .i64 0) := HZ.out.cell (.head _) 0
          have hc1 : wz.cell? ⟨g2, 1, none⟩ = some (.slice none 0 0) := HZ.out.cell (.head _) 1
          have hc2 : wz.cell? ⟨g2, 2, none⟩ = some (.string ⟨#[]⟩) := HZ.out.cell (.head _) 2
          have hc3 : wz.cell? ⟨g2, 3, none⟩ = some (.bool false) := HZ.out.cell (.head _) 3
          exact bodyPost_ret (v := .tuple #[.agg #[.int .i64 0, .slice none 0 0, .string ⟨#[]⟩, .bool false], .bool false]) (by simp [results, Tryd.results15, go_sem, hc0, hc1, hc2, hc3]) rfl ⟨.slice none 0 0, [], by rw [HE.out]; rfl, by rw [HE.out]; exact isHeads_nil, HZ.out.tail⟩
        | some c =>
          simp only [Option.getD_some, Option.isSome_some]
          have HFG := Lib.hid hfg; clear hfg
          by_cases hc1 : c < 100
          · have HE : Hid (replyI l = none) := Lib.hid (HNONE.out (by rw [HFI.out, HFG.out, Option.bind_some, if_pos (.inl hc1)]))
            go_wp2_with (refine wl_store rfl _ _ _ rfl HO2.out 0 g2 0 _ (rv 0 (.slice none 0 0) ⟨#[]⟩ false) _ rfl (by rfl) (by rfl) rrep_size (one_rv rfl) (by simp [rv]) ?_; intro wz hO; have HZ := Lib.hid (hO.cast (L' := (g2, .cells (rv 0 (.slice none 0 0) ⟨#[]⟩ false).toArray 41) :: R) rfl); clear hO HO2)
            have hc0 : wz.cell? ⟨g2, 0, none⟩ = some (.int .i64 0) := HZ.out.cell (.head _) 0
            have hc1 : wz.cell? ⟨g2, 1, none⟩ = some (.slice none 0 0) := HZ.out.cell (.head _) 1
            have hc2 : wz.cell? ⟨g2, 2, none⟩ = some (.string ⟨#[]⟩) := HZ.out.cell (.head _) 2
            have hc3 : wz.cell? ⟨g2, 3, none⟩ = some (.bool false) := HZ.out.cell (.head _) 3
            exact bodyPost_ret (v := .tuple #[.agg #[.int .i64 0, .slice none 0 0, .string ⟨#[]⟩, .bool false], .bool false]) (by simp [results, Tryd.results15, go_sem, hc0, hc1, hc2, hc3]) rfl ⟨.slice none 0 0, [], by rw [HE.out]; rfl, by rw [HE.out]; exact isHeads_nil, HZ.out.tail⟩
          · by_cases hc2 : 599 < c
            · have HE : Hid (replyI l = none) := Lib.hid (HNONE.out (by rw [HFI.out, HFG.out, Option.bind_some, if_pos (.inr hc2)]))
              go_wp2_with (refine wl_store rfl _ _ _ rfl HO2.out 0 g2 0 _ (rv 0 (.slice none 0 0) ⟨#[]⟩ false) _ rfl (by rfl) (by rfl) rrep_size (one_rv rfl) (by simp [rv]) ?_; intro wz hO; have HZ := Lib.hid (hO.cast (L' := (g2, .cells (rv 0 (.slice none 0 0) ⟨#[]⟩ false).toArray 41) :: R) rfl); clear hO HO2)
              have hc0 : wz.cell? ⟨g2, 0, none⟩ = some (.int .i64 0) := HZ.out.cell (.head _) 0
              have hc1 : wz.cell? ⟨g2, 1, none⟩ = some (.slice none 0 0) := HZ.out.cell (.head _) 1
              have hc2 : wz.cell? ⟨g2, 2, none⟩ = some (.string ⟨#[]⟩) := HZ.out.cell (.head _) 2
              have hc3 : wz.cell? ⟨g2, 3, none⟩ = some (.bool false) := HZ.out.cell (.head _) 3
              exact bodyPost_ret (v := .tuple #[.agg #[.int .i64 0, .slice none 0 0, .string ⟨#[]⟩, .bool false], .bool false]) (by simp [results, Tryd.results15, go_sem, hc0, hc1, hc2, hc3]) rfl ⟨.slice none 0 0, [], by rw [HE.out]; rfl, by rw [HE.out]; exact isHeads_nil, HZ.out.tail⟩
            · have hfirst : firstI p = some c := by rw [HFI.out, HFG.out, Option.bind_some, if_neg (by omega)]
              have hrep : replyI l = (headsI [] none r).map fun q => ⟨c, q.1, (bodyI q.2.1 q.2.2).1, (bodyI q.2.1 q.2.2).2⟩ := by unfold replyI; rw [HLI.out, Option.bind_some, hfirst, Option.bind_some]
              have HREP := Lib.hid hrep
              clear hfirst hrep HNONE HFI HFG HBG HPB HPL HLI
              go_wp2_with (first | (refine wl_alloc rfl _ rfl HO2.out _ (alloc_rrep _) ?_; intro g7 w3 hO; have HO3 := Lib.hid hO; clear hO HO2) | (refine wl_store rfl _ _ _ rfl HO3.out 0 g7 0 _ (rv c (.slice none 0 0) ⟨#[]⟩ false) _ rfl (by rfl) (by rfl) rrep_size (one_rv rfl) (by simp [rv]) ?_; intro w4 hO; have HO4 := Lib.hid (hO.cast (L' := (g7, .cells (rv c (.slice none 0 0) ⟨#[]⟩ false).toArray 41) :: (g2, .cells (rv 0 (.slice none 0 0) ⟨#[]⟩ false).toArray 41) :: ([] ++ R)) rfl); clear hO HO3))
              go_loopw [0, 8, 9] (fun a b d w' => ∃ (t : List Int) (hs : HL) (had : Option Int) (v : Value) (L : Blks), a = .string (strOfNums t) ∧ b = .int .i64 (had.getD 0) ∧ d = .bool had.isSome ∧ Hid (Byt t ∧ t.length ≤ 1073741824) ∧ Hid (headsI [] none r = headsI hs had t ∧ hs.length ≤ 8 ∧ (∀ n, had = some n → 0 ≤ n ∧ n < 1000000)) ∧ Hid (IsHeads v (hs.map toB) L) ∧ Hid (Own w0 w' ((g7, .cells (rv c (v) ⟨#[]⟩ false).toArray 41) :: (g2, .cells (rv 0 (.slice none 0 0) ⟨#[]⟩ false).toArray 41) :: (L ++ R)))) (fun a _ _ _ => strSize a)
              case atStart => exact ⟨r, [], none, .slice none 0 0, [], rfl, rfl, rfl, Lib.hid ⟨HRB.out, HRL.out⟩, Lib.hid ⟨rfl, by simp, fun n h => by cases h⟩, Lib.hid isHeads_nil, HO4⟩
              case round =>
                obtain ⟨t, hs, had, v, L, rfl, rfl, rfl, HT, HH, HV, HO5⟩ := hrel
                clear HO4
                obtain ⟨A, cv, hve⟩ := IsRow.val HV.out
                rw [List.length_map] at hve
                subst hve
                go_wp2_with fail
                with_reducible refine (line_l HT.out.1 HT.out.2).mono ?_
                rintro e wqHO6 ⟨rfl, qq, hww⟩
                have HO6 := Lib.hid (HO5.out.drewN qq); rw [← hww] at HO6; clear HO5 hww
                have hst := headsI_step hs had t
                cases hli : lineI t with
                | none =>
                  have HE : Hid (replyI l = none) := Lib.hid (by rw [HREP.out, HH.out.1, hst, hli]; rfl)
                  simp only [lineV]
                  clear hst hli
                  go_wp2_with (refine wl_store rfl _ _ _ rfl HO6.out 1 g2 0 _ (rv 0 (.slice none 0 0) ⟨#[]⟩ false) _ rfl (by rfl) (by rfl) rrep_size (one_rv rfl) (by simp [rv]) ?_; intro wz hO; have HZ := Lib.hid (hO.cast (L' := (g7, .cells (rv c (.slice A hs.length cv) ⟨#[]⟩ false).toArray 41) :: (g2, .cells (rv 0 (.slice none 0 0) ⟨#[]⟩ false).toArray 41) :: (L ++ R)) rfl); clear hO HO6)
                  have hc0 : wz.cell? ⟨g2, 0, none⟩ = some (.int .i64 0) := HZ.out.cell (.tail _ (.head _)) 0
                  have hc1 : wz.cell? ⟨g2, 1, none⟩ = some (.slice none 0 0) := HZ.out.cell (.tail _ (.head _)) 1
                  have hc2 : wz.cell? ⟨g2, 2, none⟩ = some (.string ⟨#[]⟩) := HZ.out.cell (.tail _ (.head _)) 2
                  have hc3 : wz.cell? ⟨g2, 3, none⟩ = some (.bool false) := HZ.out.cell (.tail _ (.head _)) 3
                  exact bodyPost_ret (v := .tuple #[.agg #[.int .i64 0, .slice none 0 0, .string ⟨#[]⟩, .bool false], .bool false]) (by simp [results, Tryd.results15, go_sem, hc0, hc1, hc2, hc3]) rfl ⟨.slice none 0 0, [], by rw [HE.out]; rfl, by rw [HE.out]; exact isHeads_nil, HZ.out.tail.tail.right⟩
                | some pr =>
                  obtain ⟨p1, r1⟩ := pr
                  rw [hli] at hst
                  simp only [Option.bind_some] at hst
                  have hpb := lineI_byt HT.out.1 hli
                  have hpl := lineI_len hli
                  have HPB := Lib.hid hpb.1; have HRB1 := Lib.hid hpb.2
                  have HPL : Hid (p1.length ≤ 1073741824 ∧ r1.length ≤ 1073741824 ∧ r1.length < t.length) := Lib.hid (by have := HT.out.2; omega)
                  have hem := str_lit p1 HPB.out [] [] rfl
                  simp only [lineV]
                  clear hpb hpl hli
                  by_cases hp1 : p1 = []
                  · rw [if_pos hp1] at hst
                    rw [decide_eq_true hp1] at hem
                    clear hp1
                    cases had with
                    | none =>
                      have HE : Hid (replyI l = some ⟨c, hs, r1, false⟩) := Lib.hid (by rw [HREP.out, HH.out.1, hst]; rfl)
                      clear hst
                      simp only [Option.getD_none, Option.isSome_none]
                      go_wp2_with (first | (refine wl_store1 rfl _ _ _ rfl HO6.out 0 g7 2 _ (.string (strOfNums r1)) _ rfl (by rfl) (by rfl) (by rfl) (by kernel_rfl) (by rfl) (by simp [rv]) ?_; intro wHO7 hO; have HO7 := Lib.hid (hO.cast (L' := (g7, .cells (rv c (.slice A hs.length cv) (strOfNums r1) false).toArray 41) :: (g2, .cells (rv 0 (.slice none 0 0) ⟨#[]⟩ false).toArray 41) :: (L ++ R)) rfl); clear hO HO6) | (refine wl_load rfl _ _ rfl g7 0 (rv c (.slice A hs.length cv) (strOfNums r1) false) (rv c (.slice A hs.length cv) (strOfNums r1) false) _ (HO7.out.heap (.head _)) (by rfl) _ Tryd.underlying41 rfl rrep_size (by rfl) ?_) | (refine wl_store rfl _ _ _ rfl HO7.out 1 g2 0 _ (rv c (.slice A hs.length cv) (strOfNums r1) false) _ rfl (by rfl) (by rfl) rrep_size (one_rv rfl) (by simp [rv]) ?_; intro wz hO; have HZ := Lib.hid (hO.cast (L' := (g7, .cells (rv c (.slice A hs.length cv) (strOfNums r1) false).toArray 41) :: (g2, .cells (rv c (.slice A hs.length cv) (strOfNums r1) false).toArray 41) :: (L ++ R)) rfl); clear hO HO7))
                      have hc0 : wz.cell? ⟨g2, 0, none⟩ = some (.int .i64 c) := HZ.out.cell (.tail _ (.head _)) 0
                      have hc1 : wz.cell? ⟨g2, 1, none⟩ = some (.slice A hs.length cv) := HZ.out.cell (.tail _ (.head _)) 1
                      have hc2 : wz.cell? ⟨g2, 2, none⟩ = some (.string (strOfNums r1)) := HZ.out.cell (.tail _ (.head _)) 2
                      have hc3 : wz.cell? ⟨g2, 3, none⟩ = some (.bool false) := HZ.out.cell (.tail _ (.head _)) 3
                      exact bodyPost_ret (v := .tuple #[.agg #[.int .i64 c, .slice A hs.length cv, .string (strOfNums r1), .bool false], .bool true]) (by simp [results, Tryd.results15, go_sem, hc0, hc1, hc2, hc3]) rfl ⟨.slice A hs.length cv, L, by rw [HE.out]; rfl, by rw [HE.out]; exact HV.out, HZ.out.tail.tail⟩
                    | some n =>
                      obtain ⟨hn0, hn1⟩ := HH.out.2.2 n rfl
                      obtain ⟨m, rfl⟩ : ∃ m : Nat, n = m := ⟨n.toNat, by omega⟩
                      have hsz : (strOfNums r1).size = r1.length := strOfNums_size _
                      have HE : Hid (replyI l = some ⟨c, hs, r1.take m, decide ((r1.length : Int) < m)⟩) := Lib.hid (by rw [HREP.out, HH.out.1, hst]; rfl)
                      clear hst
                      simp only [Option.getD_some, Option.isSome_some]
                      by_cases hlt : (r1.length : Int) < m
                      · have HC : Hid (r1.take m = r1 ∧ decide ((r1.length : Int) < m) = true) := Lib.hid ⟨List.take_of_length_le (by omega), decide_eq_true hlt⟩
                        have hmin : min (m : Int) r1.length = r1.length := by omega
                        have hex : (strOfNums r1).extract 0 r1.length = strOfNums r1 := by rw [ext_str, sb_str HRB1.out, win_from, List.take_length]
                        have hle : (r1.length : Int) ≤ r1.length := by omega
                        have HE2 : Hid (replyI l = some ⟨c, hs, r1, true⟩) := Lib.hid (by rw [HE.out, HC.out.1, HC.out.2])
                        clear HE HC; have HE := HE2; clear HE2
                        go_wp2_with (first | (refine wl_store1 rfl _ _ _ rfl HO6.out 0 g7 2 _ (.string (strOfNums r1)) _ rfl (by rfl) (by rfl) (by rfl) (by kernel_rfl) (by rfl) (by simp [rv]) ?_; intro wHO7 hO; have HO7 := Lib.hid (hO.cast (L' := (g7, .cells (rv c (.slice A hs.length cv) (strOfNums r1) false).toArray 41) :: (g2, .cells (rv 0 (.slice none 0 0) ⟨#[]⟩ false).toArray 41) :: (L ++ R)) rfl); clear hO HO6) | (refine wl_store1 rfl _ _ _ rfl HO7.out 0 g7 3 _ (.bool true) _ rfl (by rfl) (by rfl) (by rfl) (by kernel_rfl) (by rfl) (by simp [rv]) ?_; intro wHO8 hO; have HO8 := Lib.hid (hO.cast (L' := (g7, .cells (rv c (.slice A hs.length cv) (strOfNums r1) true).toArray 41) :: (g2, .cells (rv 0 (.slice none 0 0) ⟨#[]⟩ false).toArray 41) :: (L ++ R)) rfl); clear hO HO7) | (refine wl_store1 rfl _ _ _ rfl HO8.out 0 g7 2 _ (.string (strOfNums r1)) _ rfl (by rfl) (by rfl) (by rfl) (by kernel_rfl) (by rfl) (by simp [rv]) ?_; intro wHO9 hO; have HO9 := Lib.hid (hO.cast (L' := (g7, .cells (rv c (.slice A hs.length cv) (strOfNums r1) true).toArray 41) :: (g2, .cells (rv 0 (.slice none 0 0) ⟨#[]⟩ false).toArray 41) :: (L ++ R)) rfl); clear hO HO8) | (refine wl_load rfl _ _ rfl g7 0 (rv c (.slice A hs.length cv) (strOfNums r1) true) (rv c (.slice A hs.length cv) (strOfNums r1) true) _ (HO9.out.heap (.head _)) (by rfl) _ Tryd.underlying41 rfl rrep_size (by rfl) ?_) | (refine wl_store rfl _ _ _ rfl HO9.out 1 g2 0 _ (rv c (.slice A hs.length cv) (strOfNums r1) true) _ rfl (by rfl) (by rfl) rrep_size (one_rv rfl) (by simp [rv]) ?_; intro wz hO; have HZ := Lib.hid (hO.cast (L' := (g7, .cells (rv c (.slice A hs.length cv) (strOfNums r1) true).toArray 41) :: (g2, .cells (rv c (.slice A hs.length cv) (strOfNums r1) true).toArray 41) :: (L ++ R)) rfl); clear hO HO9))
                        have hc0 : wz.cell? ⟨g2, 0, none⟩ = some (.int .i64 c) := HZ.out.cell (.tail _ (.head _)) 0
                        have hc1 : wz.cell? ⟨g2, 1, none⟩ = some (.slice A hs.length cv) := HZ.out.cell (.tail _ (.head _)) 1
                        have hc2 : wz.cell? ⟨g2, 2, none⟩ = some (.string (strOfNums r1)) := HZ.out.cell (.tail _ (.head _)) 2
                        have hc3 : wz.cell? ⟨g2, 3, none⟩ = some (.bool true) := HZ.out.cell (.tail _ (.head _)) 3
                        exact bodyPost_ret (v := .tuple #[.agg #[.int .i64 c, .slice A hs.length cv, .string (strOfNums r1), .bool true], .bool true]) (by simp [results, Tryd.results15, go_sem, hc0, hc1, hc2, hc3]) rfl ⟨.slice A hs.length cv, L, by rw [HE.out]; rfl, by rw [HE.out]; exact HV.out, HZ.out.tail.tail⟩
                      · have hmin : min (m : Int) r1.length = m := by omega
                        have hex : (strOfNums r1).extract 0 m = strOfNums (r1.take m) := by rw [ext_str, sb_str HRB1.out, win_from]
                        have hle : (m : Int) ≤ r1.length := by omega
                        have HE2 : Hid (replyI l = some ⟨c, hs, r1.take m, false⟩) := Lib.hid (by rw [HE.out, decide_eq_false hlt])
                        clear HE; have HE := HE2; clear HE2
                        go_wp2_with (first | (refine wl_store1 rfl _ _ _ rfl HO6.out 0 g7 2 _ (.string (strOfNums r1)) _ rfl (by rfl) (by rfl) (by rfl) (by kernel_rfl) (by rfl) (by simp [rv]) ?_; intro wHO7 hO; have HO7 := Lib.hid (hO.cast (L' := (g7, .cells (rv c (.slice A hs.length cv) (strOfNums r1) false).toArray 41) :: (g2, .cells (rv 0 (.slice none 0 0) ⟨#[]⟩ false).toArray 41) :: (L ++ R)) rfl); clear hO HO6) | (refine wl_store1 rfl _ _ _ rfl HO7.out 0 g7 3 _ (.bool false) _ rfl (by rfl) (by rfl) (by rfl) (by kernel_rfl) (by rfl) (by simp [rv]) ?_; intro wHO8 hO; have HO8 := Lib.hid (hO.cast (L' := (g7, .cells (rv c (.slice A hs.length cv) (strOfNums r1) false).toArray 41) :: (g2, .cells (rv 0 (.slice none 0 0) ⟨#[]⟩ false).toArray 41) :: (L ++ R)) rfl); clear hO HO7) | (refine wl_store1 rfl _ _ _ rfl HO8.out 0 g7 2 _ (.string (strOfNums (r1.take m))) _ rfl (by rfl) (by rfl) (by rfl) (by kernel_rfl) (by rfl) (by simp [rv]) ?_; intro wHO9 hO; have HO9 := Lib.hid (hO.cast (L' := (g7, .cells (rv c (.slice A hs.length cv) (strOfNums (r1.take m)) false).toArray 41) :: (g2, .cells (rv 0 (.slice none 0 0) ⟨#[]⟩ false).toArray 41) :: (L ++ R)) rfl); clear hO HO8) | (refine wl_load rfl _ _ rfl g7 0 (rv c (.slice A hs.length cv) (strOfNums (r1.take m)) false) (rv c (.slice A hs.length cv) (strOfNums (r1.take m)) false) _ (HO9.out.heap (.head _)) (by rfl) _ Tryd.underlying41 rfl rrep_size (by rfl) ?_) | (refine wl_store rfl _ _ _ rfl HO9.out 1 g2 0 _ (rv c (.slice A hs.length cv) (strOfNums (r1.take m)) false) _ rfl (by rfl) (by rfl) rrep_size (one_rv rfl) (by simp [rv]) ?_; intro wz hO; have HZ := Lib.hid (hO.cast (L' := (g7, .cells (rv c (.slice A hs.length cv) (strOfNums (r1.take m)) false).toArray 41) :: (g2, .cells (rv c (.slice A hs.length cv) (strOfNums (r1.take m)) false).toArray 41) :: (L ++ R)) rfl); clear hO HO9))
                        have hc0 : wz.cell? ⟨g2, 0, none⟩ = some (.int .i64 c) := HZ.out.cell (.tail _ (.head _)) 0
                        have hc1 : wz.cell? ⟨g2, 1, none⟩ = some (.slice A hs.length cv) := HZ.out.cell (.tail _ (.head _)) 1
                        have hc2 : wz.cell? ⟨g2, 2, none⟩ = some (.string (strOfNums (r1.take m))) := HZ.out.cell (.tail _ (.head _)) 2
                        have hc3 : wz.cell? ⟨g2, 3, none⟩ = some (.bool false) := HZ.out.cell (.tail _ (.head _)) 3
                        exact bodyPost_ret (v := .tuple #[.agg #[.int .i64 c, .slice A hs.length cv, .string (strOfNums (r1.take m)), .bool false], .bool true]) (by simp [results, Tryd.results15, go_sem, hc0, hc1, hc2, hc3]) rfl ⟨.slice A hs.length cv, L, by rw [HE.out]; rfl, by rw [HE.out]; exact HV.out, HZ.out.tail.tail⟩
                  · rw [if_neg hp1] at hst
                    rw [decide_eq_false hp1] at hem
                    have HST := Lib.hid hst
                    have hnone : headI p1 = none → replyI l = none := fun h => by rw [HREP.out, HH.out.1, HST.out, h]; rfl
                    have HNONE := Lib.hid hnone
                    clear hst hnone hp1
                    go_wp2_with fail
                    with_reducible refine (until_l HPB.out HPL.out.1).mono ?_
                    rintro e wqHO7 ⟨rfl, qq, hww⟩
                    have HO7 := Lib.hid (HO6.out.drewN qq); rw [← hww] at HO7; clear HO6 hww
                    have hab := ahead_byt (stops := [58]) HPB.out; have hal := ahead_len [58] p1; have hbb := behind_byt (stops := [58]) HPB.out; have hbl := behind_len [58] p1
                    have hem2 := str_lit (behind [58] p1) hbb [] [] rfl
                    have hhd : headI p1 = if behind [58] p1 = [] then none else if NameOk 20 (ahead [58] p1) ∧ ValueOk 40 (blanksI ((behind [58] p1).drop 1)) then some (ahead [58] p1, blanksI ((behind [58] p1).drop 1)) else none := rfl
                    generalize ahead [58] p1 = na at *
                    generalize behind [58] p1 = be at *
                    have HHD := Lib.hid hhd; have HAB := Lib.hid hab; have HAL : Hid (na.length ≤ 1073741824) := Lib.hid (by have := HPL.out.1; omega)
                    have HBB := Lib.hid hbb; have HBL : Hid (be.length ≤ 1073741824) := Lib.hid (by have := HPL.out.1; omega)
                    clear hhd hab hal hbb hbl hem
                    by_cases hbe : be = []
                    · rw [decide_eq_true hbe] at hem2
                      have HE : Hid (replyI l = none) := Lib.hid (HNONE.out (by rw [HHD.out, if_pos hbe]))
                      clear hbe
                      go_wp2_with (refine wl_store rfl _ _ _ rfl HO7.out 1 g2 0 _ (rv 0 (.slice none 0 0) ⟨#[]⟩ false) _ rfl (by rfl) (by rfl) rrep_size (one_rv rfl) (by simp [rv]) ?_; intro wz hO; have HZ := Lib.hid (hO.cast (L' := (g7, .cells (rv c (.slice A hs.length cv) ⟨#[]⟩ false).toArray 41) :: (g2, .cells (rv 0 (.slice none 0 0) ⟨#[]⟩ false).toArray 41) :: (L ++ R)) rfl); clear hO HO7)
                      have hc0 : wz.cell? ⟨g2, 0, none⟩ = some (.int .i64 0) := HZ.out.cell (.tail _ (.head _)) 0
                      have hc1 : wz.cell? ⟨g2, 1, none⟩ = some (.slice none 0 0) := HZ.out.cell (.tail _ (.head _)) 1
                      have hc2 : wz.cell? ⟨g2, 2, none⟩ = some (.string ⟨#[]⟩) := HZ.out.cell (.tail _ (.head _)) 2
                      have hc3 : wz.cell? ⟨g2, 3, none⟩ = some (.bool false) := HZ.out.cell (.tail _ (.head _)) 3
                      exact bodyPost_ret (v := .tuple #[.agg #[.int .i64 0, .slice none 0 0, .string ⟨#[]⟩, .bool false], .bool false]) (by simp [results, Tryd.results15, go_sem, hc0, hc1, hc2, hc3]) rfl ⟨.slice none 0 0, [], by rw [HE.out]; rfl, by rw [HE.out]; exact isHeads_nil, HZ.out.tail.tail.right⟩
                    · rw [decide_eq_false hbe] at hem2
                      have HH2 : Hid (headI p1 = if NameOk 20 na ∧ ValueOk 40 (blanksI (be.drop 1)) then some (na, blanksI (be.drop 1)) else none) := Lib.hid (by rw [HHD.out, if_neg hbe])
                      have hbs : (strOfNums be).size = be.length := strOfNums_size _
                      have hb1 : (1 : Int) ≤ be.length := by have : be.length ≠ 0 := fun e => hbe (List.eq_nil_of_length_eq_zero e); omega
                      have hex : (strOfNums be).extract 1 be.length = strOfNums (be.drop 1) := by rw [ext_str, sb_str HBB.out, win_rest _ _ _ rfl]
                      clear hbe HHD
                      obtain ⟨bt, hbt⟩ : ∃ bt, be.drop 1 = bt := ⟨_, rfl⟩
                      have hbtB : Byt bt := by rw [← hbt]; exact byt_drop HBB.out 1
                      have hbtL : bt.length ≤ 1073741824 := by rw [← hbt, List.length_drop]; have := HBL.out; omega
                      rw [hbt] at hex HH2
                      have HTB := Lib.hid hbtB; have HTL := Lib.hid hbtL; clear hbt hbtB hbtL HBB HBL
                      go_wp2_with fail
                      clear hbs hb1 hex hem2
                      with_reducible refine (blanks_l HTB.out HTL.out).mono ?_
                      rintro e wq ⟨rfl, hww⟩
                      subst hww
                      have hvb := blanksI_byt HTB.out
                      have hvl : (blanksI bt).length ≤ 1073741824 := by have h1 := blanksI_len bt; have := HTL.out; omega
                      generalize blanksI bt = va at *
                      have HVB := Lib.hid hvb; have HVL := Lib.hid hvl; clear hvb hvl HTB HTL
                      go_wp2_with fail
                      with_reducible refine (named_l HAB.out HAL.out).mono ?_
                      rintro e wq ⟨rfl, hww⟩
                      subst hww
                      by_cases hna : NameOk 20 na
                      · rw [decide_eq_true hna]
                        have HNA := Lib.hid hna; clear hna
                        go_wp2_with fail
                        with_reducible refine (valued_l HVB.out HVL.out).mono ?_
                        rintro e wq ⟨rfl, hww⟩
                        subst hww
                        by_cases hva : ValueOk 40 va
                        · rw [decide_eq_true hva]
                          have HHS : Hid (headI p1 = some (na, va)) := Lib.hid (by rw [HH2.out, if_pos ⟨HNA.out, hva⟩])
                          clear hva HNA HH2 HNONE
                          have hc7 := HO7.out.cell (.head _) 1
                          simp only [rv, List.getElem?_toArray, List.getElem?_cons_succ, List.getElem?_cons_zero] at hc7
                          by_cases h8 : hs.length = 8
                          · have h8' : ((hs.length : Int) == 8) = true := by simp; omega
                            have HE : Hid (replyI l = none) := Lib.hid (by rw [HREP.out, HH.out.1, HST.out, HHS.out, Option.bind_some, if_pos h8]; rfl)
                            clear h8
                            go_wp2_with (refine wl_store rfl _ _ _ rfl HO7.out 1 g2 0 _ (rv 0 (.slice none 0 0) ⟨#[]⟩ false) _ rfl (by rfl) (by rfl) rrep_size (one_rv rfl) (by simp [rv]) ?_; intro wz hO; have HZ := Lib.hid (hO.cast (L' := (g7, .cells (rv c (.slice A hs.length cv) ⟨#[]⟩ false).toArray 41) :: (g2, .cells (rv 0 (.slice none 0 0) ⟨#[]⟩ false).toArray 41) :: (L ++ R)) rfl); clear hO HO7)
                            have hc0 : wz.cell? ⟨g2, 0, none⟩ = some (.int .i64 0) := HZ.out.cell (.tail _ (.head _)) 0
                            have hc1 : wz.cell? ⟨g2, 1, none⟩ = some (.slice none 0 0) := HZ.out.cell (.tail _ (.head _)) 1
                            have hc2 : wz.cell? ⟨g2, 2, none⟩ = some (.string ⟨#[]⟩) := HZ.out.cell (.tail _ (.head _)) 2
                            have hc3 : wz.cell? ⟨g2, 3, none⟩ = some (.bool false) := HZ.out.cell (.tail _ (.head _)) 3
                            exact bodyPost_ret (v := .tuple #[.agg #[.int .i64 0, .slice none 0 0, .string ⟨#[]⟩, .bool false], .bool false]) (by simp [results, Tryd.results15, go_sem, hc0, hc1, hc2, hc3]) rfl ⟨.slice none 0 0, [], by rw [HE.out]; rfl, by rw [HE.out]; exact isHeads_nil, HZ.out.tail.tail.right⟩
                          · have h8' : ((hs.length : Int) == 8) = false := by simp; omega
                            have HS2 : Hid (replyI l = ((lenI had (na, va)).bind fun had' => headsI (hs ++ [(na, va)]) had' r1).map fun q => ⟨c, q.1, (bodyI q.2.1 q.2.2).1, (bodyI q.2.1 q.2.2).2⟩) := Lib.hid (by rw [HREP.out, HH.out.1, HST.out, HHS.out, Option.bind_some, if_neg h8])
                            have HS3 : Hid (headsI [] none r = (lenI had (na, va)).bind fun had' => headsI (hs ++ [(na, va)]) had' r1) := Lib.hid (by rw [HH.out.1, HST.out, HHS.out, Option.bind_some, if_neg h8])
                            have H9 : Hid ((hs ++ [(na, va)]).length ≤ 8) := Lib.hid (by rw [List.length_append, List.length_singleton]; have := HH.out.2.1; omega)
                            have HVN : Hid (IsHeads (.slice A hs.length cv) (hs.map toB) L) := HV
                            have HOS := Lib.hid HO7.out.sink2; clear HO7 h8 HHS HST
                            go_wp2_with (first | (refine wl_appendH1 rfl _ _ rfl (.slice A hs.length cv) (hs.map toB) (by rfl) HVN.out (HOS.out.put2 (.cells #[.string (strOfNums na), .string (strOfNums va)] 30)) wqHO7.heap.size 1 (toB (na, va)) (by rfl) (.head _) (by rw [List.length_map]; have := HH.out.2.1; omega) ?_; intro v2 wa L2 hv2 hO; have HV2 := Lib.hid hv2; have HOA := Lib.hid hO.strike.rise2; obtain ⟨A2, c2, hve⟩ := IsRow.val hv2; rw [List.length_append, List.length_map, List.length_singleton] at hve; subst hve; clear hO hv2 HOS HV HVN) | (refine wl_store1 rfl _ _ _ rfl HOA.out 0 g7 1 _ (.slice A2 _ c2) _ rfl (by rfl) (by rfl) (by rfl) (by kernel_rfl) (by rfl) (by simp [rv]) ?_; intro ws hO; have HO8 := Lib.hid (hO.cast (L' := (g7, .cells (rv c (.slice A2 (hs.length + 1) c2) ⟨#[]⟩ false).toArray 41) :: (g2, .cells (rv 0 (.slice none 0 0) ⟨#[]⟩ false).toArray 41) :: (L2 ++ R)) rfl); clear hO HOA))
                            have hlow := rlower_l HO8.out HAB.out HAL.out
                            have hcl := str_lit (lowL na) (lowL_byt HAB.out) [99, 111, 110, 116, 101, 110, 116, 45, 108, 101, 110, 103, 116, 104] clI rfl
                            clear hc7
                            with_reducible refine hlow.mono ?_
                            clear hlow
                            rintro e wl ⟨rfl, hO⟩
                            have HO9 := Lib.hid hO; clear hO HO8
                            by_cases hncl : lowL na = clI
                            · rw [decide_eq_true hncl] at hcl
                              have HN := Lib.hid hncl; clear hncl
                              go_wp2_with fail
                              with_reducible refine (figures_l HVB.out 1 6 (by omega)).mono ?_
                              rintro e wq ⟨rfl, hww⟩
                              subst hww
                              cases hfg : figI va 1 6 with
                              | none =>
                                have hlen : lenI had (na, va) = none := by unfold lenI; rw [if_pos HN.out, hfg]; cases had <;> rfl
                                have HE : Hid (replyI l = none) := Lib.hid (by rw [HS2.out, hlen]; rfl)
                                clear hlen hfg
                                simp only [Option.getD_none, Option.isSome_none]
                                go_wp2_with (refine wl_store rfl _ _ _ rfl HO9.out 1 g2 0 _ (rv 0 (.slice none 0 0) ⟨#[]⟩ false) _ rfl (by rfl) (by rfl) rrep_size (one_rv rfl) (by simp [rv]) ?_; intro wz hO; have HZ := Lib.hid (hO.cast (L' := (g7, .cells (rv c (.slice A2 (hs.length + 1) c2) ⟨#[]⟩ false).toArray 41) :: (g2, .cells (rv 0 (.slice none 0 0) ⟨#[]⟩ false).toArray 41) :: (L2 ++ R)) rfl); clear hO HO9)
                                have hc0 : wz.cell? ⟨g2, 0, none⟩ = some (.int .i64 0) := HZ.out.cell (.tail _ (.head _)) 0
                                have hc1 : wz.cell? ⟨g2, 1, none⟩ = some (.slice none 0 0) := HZ.out.cell (.tail _ (.head _)) 1
                                have hc2 : wz.cell? ⟨g2, 2, none⟩ = some (.string ⟨#[]⟩) := HZ.out.cell (.tail _ (.head _)) 2
                                have hc3 : wz.cell? ⟨g2, 3, none⟩ = some (.bool false) := HZ.out.cell (.tail _ (.head _)) 3
                                exact bodyPost_ret (v := .tuple #[.agg #[.int .i64 0, .slice none 0 0, .string ⟨#[]⟩, .bool false], .bool false]) (by simp [results, Tryd.results15, go_sem, hc0, hc1, hc2, hc3]) rfl ⟨.slice none 0 0, [], by rw [HE.out]; rfl, by rw [HE.out]; exact isHeads_nil, HZ.out.tail.tail.right⟩
                              | some n =>
                                have HFG := Lib.hid hfg; clear hfg
                                have hnb : 0 ≤ n ∧ n < 1000000 := figI_six HFG.out
                                have HNB := Lib.hid hnb; clear hnb
                                simp only [Option.getD_some, Option.isSome_some]
                                cases had with
                                | some n0 =>
                                  have HE : Hid (replyI l = none) := Lib.hid (by rw [HS2.out]; unfold lenI; rw [if_pos HN.out]; rfl)
                                  simp only [Option.isSome_some]
                                  go_wp2_with (refine wl_store rfl _ _ _ rfl HO9.out 1 g2 0 _ (rv 0 (.slice none 0 0) ⟨#[]⟩ false) _ rfl (by rfl) (by rfl) rrep_size (one_rv rfl) (by simp [rv]) ?_; intro wz hO; have HZ := Lib.hid (hO.cast (L' := (g7, .cells (rv c (.slice A2 (hs.length + 1) c2) ⟨#[]⟩ false).toArray 41) :: (g2, .cells (rv 0 (.slice none 0 0) ⟨#[]⟩ false).toArray 41) :: (L2 ++ R)) rfl); clear hO HO9)
                                  have hc0 : wz.cell? ⟨g2, 0, none⟩ = some (.int .i64 0) := HZ.out.cell (.tail _ (.head _)) 0
                                  have hc1 : wz.cell? ⟨g2, 1, none⟩ = some (.slice none 0 0) := HZ.out.cell (.tail _ (.head _)) 1
                                  have hc2 : wz.cell? ⟨g2, 2, none⟩ = some (.string ⟨#[]⟩) := HZ.out.cell (.tail _ (.head _)) 2
                                  have hc3 : wz.cell? ⟨g2, 3, none⟩ = some (.bool false) := HZ.out.cell (.tail _ (.head _)) 3
                                  exact bodyPost_ret (v := .tuple #[.agg #[.int .i64 0, .slice none 0 0, .string ⟨#[]⟩, .bool false], .bool false]) (by simp [results, Tryd.results15, go_sem, hc0, hc1, hc2, hc3]) rfl ⟨.slice none 0 0, [], by rw [HE.out]; rfl, by rw [HE.out]; exact isHeads_nil, HZ.out.tail.tail.right⟩
                                | none =>
                                  have hlen : lenI none (na, va) = some (some n) := by unfold lenI; rw [if_pos HN.out, HFG.out]; rfl
                                  have HLEN := Lib.hid hlen; clear hlen
                                  simp only [Option.isSome_none]
                                  go_wp2
                                  go_roundw
                                  case rel => exact ⟨r1, hs ++ [(na, va)], some n, _, L2, rfl, rfl, rfl, Lib.hid ⟨HRB1.out, HPL.out.2.1⟩, Lib.hid ⟨by rw [HS3.out, HLEN.out]; rfl, H9.out, fun k hk => by cases hk; exact HNB.out⟩, Lib.hid (by rw [List.map_append]; exact HV2.out), HO9⟩
                                  case measure => simp only [strSize]; rw [strOfNums_size, strOfNums_size]; exact HPL.out.2.2
                            · rw [decide_eq_false hncl] at hcl
                              have hlen : lenI had (na, va) = some had := by unfold lenI; rw [if_neg hncl]
                              have HLEN := Lib.hid hlen; clear hlen hncl
                              go_wp2
                              go_roundw
                              case rel => exact ⟨r1, hs ++ [(na, va)], had, _, L2, rfl, rfl, rfl, Lib.hid ⟨HRB1.out, HPL.out.2.1⟩, Lib.hid ⟨by rw [HS3.out, HLEN.out]; rfl, H9.out, HH.out.2.2⟩, Lib.hid (by rw [List.map_append]; exact HV2.out), HO9⟩
                              case measure => simp only [strSize]; rw [strOfNums_size, strOfNums_size]; exact HPL.out.2.2
                        · rw [decide_eq_false hva]
                          have HE : Hid (replyI l = none) := Lib.hid (HNONE.out (by rw [HH2.out, if_neg (fun h => hva h.2)]))
                          clear hva
                          go_wp2_with (refine wl_store rfl _ _ _ rfl HO7.out 1 g2 0 _ (rv 0 (.slice none 0 0) ⟨#[]⟩ false) _ rfl (by rfl) (by rfl) rrep_size (one_rv rfl) (by simp [rv]) ?_; intro wz hO; have HZ := Lib.hid (hO.cast (L' := (g7, .cells (rv c (.slice A hs.length cv) ⟨#[]⟩ false).toArray 41) :: (g2, .cells (rv 0 (.slice none 0 0) ⟨#[]⟩ false).toArray 41) :: (L ++ R)) rfl); clear hO HO7)
                          have hc0 : wz.cell? ⟨g2, 0, none⟩ = some (.int .i64 0) := HZ.out.cell (.tail _ (.head _)) 0
                          have hc1 : wz.cell? ⟨g2, 1, none⟩ = some (.slice none 0 0) := HZ.out.cell (.tail _ (.head _)) 1
                          have hc2 : wz.cell? ⟨g2, 2, none⟩ = some (.string ⟨#[]⟩) := HZ.out.cell (.tail _ (.head _)) 2
                          have hc3 : wz.cell? ⟨g2, 3, none⟩ = some (.bool false) := HZ.out.cell (.tail _ (.head _)) 3
                          exact bodyPost_ret (v := .tuple #[.agg #[.int .i64 0, .slice none 0 0, .string ⟨#[]⟩, .bool false], .bool false]) (by simp [results, Tryd.results15, go_sem, hc0, hc1, hc2, hc3]) rfl ⟨.slice none 0 0, [], by rw [HE.out]; rfl, by rw [HE.out]; exact isHeads_nil, HZ.out.tail.tail.right⟩
                      · rw [decide_eq_false hna]
                        have HE : Hid (replyI l = none) := Lib.hid (HNONE.out (by rw [HH2.out, if_neg (fun h => hna h.1)]))
                        clear hna
                        go_wp2_with (refine wl_store rfl _ _ _ rfl HO7.out 1 g2 0 _ (rv 0 (.slice none 0 0) ⟨#[]⟩ false) _ rfl (by rfl) (by rfl) rrep_size (one_rv rfl) (by simp [rv]) ?_; intro wz hO; have HZ := Lib.hid (hO.cast (L' := (g7, .cells (rv c (.slice A hs.length cv) ⟨#[]⟩ false).toArray 41) :: (g2, .cells (rv 0 (.slice none 0 0) ⟨#[]⟩ false).toArray 41) :: (L ++ R)) rfl); clear hO HO7)
                        have hc0 : wz.cell? ⟨g2, 0, none⟩ = some (.int .i64 0) := HZ.out.cell (.tail _ (.head _)) 0
                        have hc1 : wz.cell? ⟨g2, 1, none⟩ = some (.slice none 0 0) := HZ.out.cell (.tail _ (.head _)) 1
                        have hc2 : wz.cell? ⟨g2, 2, none⟩ = some (.string ⟨#[]⟩) := HZ.out.cell (.tail _ (.head _)) 2
                        have hc3 : wz.cell? ⟨g2, 3, none⟩ = some (.bool false) := HZ.out.cell (.tail _ (.head _)) 3
                        exact bodyPost_ret (v := .tuple #[.agg #[.int .i64 0, .slice none 0 0, .string ⟨#[]⟩, .bool false], .bool false]) (by simp [results, Tryd.results15, go_sem, hc0, hc1, hc2, hc3]) rfl ⟨.slice none 0 0, [], by rw [HE.out]; rfl, by rw [HE.out]; exact isHeads_nil, HZ.out.tail.tail.right⟩
theorem rparseReply_c {w0 w : World} {R : Blks} (hO : Own w0 w R) (s : ByteArray) (hs : s.size ≤ 1073741824) : Calls Tryd.prog 15 #[.string s] w (GotRep w0 R (replyI (sb s)) (.bool true) (.bool false)) := by
  have := rpr_l hO (l := sb s) (byt_sb s) (by rw [length_sb]; exact hs)
  rwa [str_sb] at this

end Go.Proofs.YtkmfbfmmlldphaaDoor
