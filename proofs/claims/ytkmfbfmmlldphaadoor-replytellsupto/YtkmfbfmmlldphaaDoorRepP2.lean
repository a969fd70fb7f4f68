/-
  The landed program's readHeads.
-/
import Derived.Test.YtkmfbfmmlldphaaDoorRepP1
namespace Go.Proofs.YtkmfbfmmlldphaaDoor
set_option linter.unusedVariables false
set_option linter.unusedSimpArgs false
set_option maxRecDepth 20000
open Go.RowKit

def headsV (o : Option (HL × List Int)) (v : Value) : Value := .tuple #[v, .string (strOfNums ((o.map (·.2)).getD [])), .bool o.isSome]
theorem headI_some_byt {l : List Int} {h : List Int × List Int} (hh : headI l = some h) : HeadOk h := by
  unfold headI at hh
  split at hh
  · cases hh
  · split at hh
    · rename_i hok; cases hh; exact hok
    · cases hh
set_option maxHeartbeats 8000000 in
theorem rreadHeads_c {w0 w : World} {R : Blks} (hV : MostOk w0) (hO : Own w0 w R) {l0 : List Int} (hB0 : Byt l0) (hl0 : l0.length ≤ 1073741824) :
    Calls Tryd.prog 23 #[.string (strOfNums l0)] w fun e w' => ∃ v L, e = .returned (headsV (headsG [] l0) v) ∧ IsHeads v (((headsG [] l0).map (·.1)).getD [] |>.map toB) L ∧ Own w0 w' (L ++ R) := by
  have HV0 := Lib.hid hV
  obtain ⟨o, ho⟩ : ∃ o, headsG [] l0 = o := ⟨_, rfl⟩
  rw [ho]
  have HO := Lib.hid hO
  have HI0 : Hid (Byt l0 ∧ l0.length ≤ 1073741824 ∧ headsG [] l0 = o ∧ ([] : HL).length ≤ 8) := Lib.hid ⟨hB0, hl0, ho, by simp⟩
  clear hV hO hB0 hl0 ho
  go_enter Tryd.func23, Tryd.ntmps23
  go_wp2
  go_loopw [0, 2] (fun t u w' => ∃ (r : List Int) (hs : HL) (A : Option Addr) (m cv : Nat) (L : Blks), t = .string (strOfNums r) ∧ u = .slice A m cv ∧ Hid (Byt r ∧ r.length ≤ 1073741824 ∧ headsG hs r = o ∧ hs.length ≤ 8) ∧ Hid (IsHeads (.slice A m cv) (hs.map toB) L ∧ m = hs.length) ∧ Hid (Own w0 w' (L ++ R))) (fun t _ _ => strSize t)
  case atStart => exact ⟨l0, [], none, 0, 0, [], rfl, rfl, HI0, Lib.hid ⟨isHeads_nil, rfl⟩, HO⟩
  case round =>
    obtain ⟨r, hs, A, m, cv, L, rfl, rfl, HI, HS, HO2⟩ := hrel
    clear HI0 HO
    have hm8 : m ≤ 8 := by rw [HS.out.2]; exact HI.out.2.2.2
    have hcut := rline_c HV0.out HO2.out (strOfNums r) (strs_size HI.out.2.1)
    rw [sb_str HI.out.1] at hcut
    have hst := headsG_step hs r
    rw [HI.out.2.2.1] at hst
    go_wp2_with fail
    with_reducible refine hcut.mono ?_
    clear hcut
    rintro e w1 ⟨rfl, hO⟩
    have HO3 := Lib.hid hO; clear hO HO2
    cases hli : lineI r with
    | none =>
      have HE : Hid (o = none) := Lib.hid (by rw [hst, hli]; rfl)
      simp only [cutL, hli]
      clear hst hli
      go_wp2
      go_ret3
      exact ⟨.slice none 0 0, [], by rw [HE.out]; rfl, by rw [HE.out]; exact isHeads_nil, HO3.out.right⟩
    | some p =>
      obtain ⟨p1, p2⟩ := p
      have hpb := lineI_byt HI.out.1 hli
      have hpl := lineI_len hli
      rw [hli, Option.bind_some] at hst
      simp only at hst
      simp only [cutL, hli]
      have HPB := Lib.hid hpb.1; have HRB := Lib.hid hpb.2
      have HPL : Hid (p1.length ≤ 1073741824) := Lib.hid (by have := HI.out.2.1; omega)
      have HRL : Hid (p2.length ≤ 1073741824 ∧ p2.length < r.length) := Lib.hid (by have := HI.out.2.1; omega)
      have hem := str_lit p1 hpb.1 [] [] rfl
      have HST := Lib.hid hst
      clear hpb hpl hst hli
      by_cases hp : p1 = []
      · rw [decide_eq_true hp] at hem
        have HE : Hid (o = some (hs, p2)) := Lib.hid (by rw [HST.out, if_pos hp])
        clear hp HST
        go_wp2
        go_ret3
        exact ⟨_, L, by rw [HE.out]; rfl, by rw [HE.out]; exact HS.out.1, HO3.out⟩
      · rw [decide_eq_false hp] at hem
        have HS2 : Hid (o = (headI p1).bind fun h => if hs.length = 8 then none else headsG (hs ++ [h]) p2) := Lib.hid (by rw [HST.out, if_neg hp])
        have hrh := fun (w1 : World) (R1 : Blks) (h : Own w0 w1 R1) => rreadHead_c HV0.out h (strOfNums p1) (strs_size HPL.out)
        rw [sb_str HPB.out] at hrh
        have HRH := Lib.hid hrh
        clear hp HST hrh
        go_wp2_with fail
        with_reducible refine (HRH.out _ _ HO3.out).mono ?_
        rintro e w2 ⟨rfl, hO⟩
        have HO4 := Lib.hid hO; clear hO HO3 HRH
        cases hhd : headI p1 with
        | none =>
          have HE : Hid (o = none) := Lib.hid (by rw [HS2.out, hhd]; rfl)
          rw [headV_none]
          clear hhd HS2
          go_wp2_with (first | (refine wl_alloc rfl _ rfl HO4.out _ (alloc_head _) ?_; intro gh w3 hO; have HO5 := Lib.hid hO; clear hO HO4) | (refine wl_store rfl _ _ _ rfl HO5.out 0 gh 0 _ (hv2 (⟨#[]⟩, ⟨#[]⟩)) _ rfl (by rfl) (by rfl) head_size (one_hv2 _) (by simp [hv2]) ?_; intro w4 hO; have HO6 := Lib.hid (hO.cast (L' := (gh, .cells (hv2 (⟨#[]⟩, ⟨#[]⟩)).toArray 30) :: (L ++ R)) rfl); clear hO HO5))
          go_ret3
          exact ⟨.slice none 0 0, [], by rw [HE.out]; rfl, by rw [HE.out]; exact isHeads_nil, HO6.out.tail.right⟩
        | some h =>
          obtain ⟨na, va⟩ := h
          have hok := headI_some_byt hhd
          rw [show headV (some (na, va)) = .tuple #[.agg #[.string (strOfNums na), .string (strOfNums va)], .bool true] from rfl]
          have hnl : (strOfNums na).size ≤ 20 := by rw [strOfNums_size]; have h20 : (na.length : Int) ≤ 20 := hok.1.2.2; omega
          by_cases h8 : m = 8
          · have h8' : ((m : Int) == 8) = true := by simp; omega
            have HE : Hid (o = none) := Lib.hid (by rw [HS2.out, hhd, Option.bind_some, if_pos (by rw [← HS.out.2]; exact h8)])
            clear hhd HS2 h8 hok hnl
            go_wp2_with (first | (refine wl_alloc rfl _ rfl HO4.out _ (alloc_head _) ?_; intro gh w3 hO; have HO5 := Lib.hid hO; clear hO HO4) | (refine wl_store rfl _ _ _ rfl HO5.out 0 gh 0 _ (hv2 (strOfNums na, strOfNums va)) _ rfl (by rfl) (by rfl) head_size (one_hv2 _) (by simp [hv2]) ?_; intro w4 hO; have HO6 := Lib.hid (hO.cast (L' := (gh, .cells (hv2 (strOfNums na, strOfNums va)).toArray 30) :: (L ++ R)) rfl); clear hO HO5))
            go_ret3
            exact ⟨.slice none 0 0, [], by rw [HE.out]; rfl, by rw [HE.out]; exact isHeads_nil, HO6.out.tail.right⟩
          · have h8' : ((m : Int) == 8) = false := by simp; omega
            have HE : Hid (headsG (hs ++ [(na, va)]) p2 = o) := Lib.hid (by rw [HS2.out, hhd, Option.bind_some, if_neg (by rw [← HS.out.2]; exact h8)])
            have H9 : Hid ((hs ++ [(na, va)]).length ≤ 8) := Lib.hid (by have h1 := HS.out.2; have h2 := HI.out.2.2.2; rw [List.length_append, List.length_singleton]; omega)
            have HV1 : Hid (IsHeads (.slice A m cv) (hs.map toB) L) := Lib.hid HS.out.1
            have HM : Hid ((hs.map toB).length = m) := Lib.hid (by rw [List.length_map, HS.out.2])
            have h1073 : (hs.map toB).length + 1 ≤ 1073741824 := by have := HI.out.2.2.2; rw [List.length_map]; omega
            have H1073 := Lib.hid h1073
            clear hhd HS2 h8 hok hnl h1073
            go_wp2_with (first | (refine wl_alloc rfl _ rfl HO4.out _ (alloc_head _) ?_; intro gh w3 hO; have HO5 := Lib.hid hO; clear hO HO4) | (refine wl_store rfl _ _ _ rfl HO5.out 0 gh 0 _ (hv2 (strOfNums na, strOfNums va)) _ rfl (by rfl) (by rfl) head_size (one_hv2 _) (by simp [hv2]) ?_; intro w4 hO; have HO6 := Lib.hid (hO.cast (L' := (gh, .cells (hv2 (strOfNums na, strOfNums va)).toArray 30) :: (L ++ R)) rfl); have HO7 : Hid (Own w0 w4 (L ++ R)) := Lib.hid HO6.out.tail; have hh0 := HO6.out.heap (.head _); clear hO HO5) | (refine wl_load rfl _ _ rfl gh 0 [.string (strOfNums na), .string (strOfNums va)] [.string (strOfNums na), .string (strOfNums va)] _ hh0 (by rfl) _ Tryd.underlying30 rfl head_size (by rfl) ?_; clear hh0 HO6) | (refine wl_appendH1 rfl _ _ rfl (.slice A m cv) (hs.map toB) (by rfl) HV1.out (HO7.out.put2 (.cells #[.string (strOfNums na), .string (strOfNums va)] 30)) _ 1 (toB (na, va)) (by rfl) (.head _) H1073.out ?_; intro v2 wa L2 hv2' hO; have HV2 := Lib.hid hv2'; have HOA := Lib.hid hO; obtain ⟨A2, c2, hve⟩ := IsRow.val hv2'; rw [List.length_append, HM.out, List.length_singleton] at hve; subst hve; clear hO hv2' HO7))
            go_roundw
            case rel => exact ⟨p2, hs ++ [(na, va)], _, _, _, L2, rfl, rfl, Lib.hid ⟨HRB.out, HRL.out.1, HE.out, H9.out⟩, Lib.hid ⟨by rw [List.map_append]; exact HV2.out, by rw [List.length_append, List.length_singleton, HS.out.2]⟩, Lib.hid (HOA.out.sub (List.Sublist.append_left (List.sublist_cons_self _ _) _))⟩
            case measure => simp only [strSize]; rw [strOfNums_size, strOfNums_size]; exact HRL.out.2
end Go.Proofs.YtkmfbfmmlldphaaDoor
