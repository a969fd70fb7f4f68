/-
  ReplyForms: answers by hand; texts that are none; numbers by hand.
  Conditions: none but the row's own.
-/
import Derived.Test.YtkmfbfmmlldphaaDoorL09a
import Derived.Test.YtkmfbfmmlldphaaDoorVarsR
import Derived.JoinedCond
namespace Go.Proofs.YtkmfbfmmlldphaaDoor
set_option linter.unusedVariables false
set_option linter.unusedSimpArgs false
set_option maxRecDepth 20000
open Go.ChangeShapes Go.WideShapes Go.ChangeAt Go.RowKit
open Go.ChangeMaps (open_string shut_string)

def form1 : List Int := [72, 84, 84, 80, 47, 49, 46, 49, 32, 52, 48, 52, 32, 78, 111, 116, 32, 116, 104, 101, 114, 101, 32, 97, 116, 32, 97, 108, 108, 13, 10, 65, 45, 98, 58, 32, 32, 120, 32, 121, 32, 32, 13, 10, 67, 111, 110, 116, 101, 110, 116, 45, 76, 69, 78, 71, 84, 72, 58, 51, 13, 10, 13, 10, 104, 101, 108, 108, 111]
def form2 : List Int := [72, 84, 84, 80, 47, 49, 46, 49, 32, 49, 48, 48, 32, 13, 10, 99, 111, 110, 116, 101, 110, 116, 45, 108, 101, 110, 103, 116, 104, 58, 32, 48, 48, 48, 48, 48, 57, 13, 10, 120, 58, 13, 10, 13, 10, 97, 98]
def formH1 : HL := [([65, 45, 98], [120, 32, 121]), ([67, 111, 110, 116, 101, 110, 116, 45, 76, 69, 78, 71, 84, 72], [51])]
def formH2 : HL := [([99, 111, 110, 116, 101, 110, 116, 45, 108, 101, 110, 103, 116, 104], [48, 48, 48, 48, 48, 57]), ([120], [])]
theorem form1_is : replyI form1 = some ⟨404, formH1, [104, 101, 108], false⟩ := by kernel_rfl
theorem form2_is : replyI form2 = some ⟨100, formH2, [97, 98], true⟩ := by kernel_rfl
theorem form1_print : strOfNums (replyP 404 formH1 [104, 101, 108]) = ⟨#[72, 84, 84, 80, 47, 49, 46, 49, 32, 52, 48, 52, 32, 45, 13, 10, 65, 45, 98, 58, 32, 120, 32, 121, 13, 10, 67, 111, 110, 116, 101, 110, 116, 45, 76, 69, 78, 71, 84, 72, 58, 32, 51, 13, 10, 13, 10, 104, 101, 108]⟩ := by decide +kernel
def badS : List ByteArray := [⟨#[]⟩, ⟨#[72, 84, 84, 80, 47, 49, 46, 49, 32, 50, 48, 48, 32, 45]⟩, ⟨#[72, 84, 84, 80, 47, 49, 46, 49, 32, 50, 48, 48, 32, 45, 13, 10]⟩, ⟨#[72, 84, 84, 80, 47, 49, 46, 48, 32, 50, 48, 48, 32, 45, 13, 10, 13, 10]⟩, ⟨#[72, 84, 84, 80, 47, 49, 46, 49, 32, 50, 48, 32, 45, 13, 10, 13, 10]⟩, ⟨#[72, 84, 84, 80, 47, 49, 46, 49, 32, 48, 57, 57, 32, 45, 13, 10, 13, 10]⟩, ⟨#[72, 84, 84, 80, 47, 49, 46, 49, 32, 54, 48, 48, 32, 45, 13, 10, 13, 10]⟩, ⟨#[72, 84, 84, 80, 47, 49, 46, 49, 32, 50, 120, 48, 32, 45, 13, 10, 13, 10]⟩, ⟨#[72, 84, 84, 80, 47, 49, 46, 49, 32, 50, 48, 48, 32, 45, 10, 10]⟩, ⟨#[72, 84, 84, 80, 47, 49, 46, 49, 32, 50, 48, 48, 32, 45, 13, 10, 120, 13, 10, 13, 10]⟩, ⟨#[72, 84, 84, 80, 47, 49, 46, 49, 32, 50, 48, 48, 32, 45, 13, 10, 58, 32, 120, 13, 10, 13, 10]⟩, ⟨#[72, 84, 84, 80, 47, 49, 46, 49, 32, 50, 48, 48, 32, 45, 13, 10, 97, 32, 98, 58, 32, 120, 13, 10, 13, 10]⟩, ⟨#[72, 84, 84, 80, 47, 49, 46, 49, 32, 50, 48, 48, 32, 45, 13, 10, 120, 58, 32, 9, 13, 10, 13, 10]⟩, ⟨#[72, 84, 84, 80, 47, 49, 46, 49, 32, 50, 48, 48, 32, 45, 13, 10, 99, 111, 110, 116, 101, 110, 116, 45, 108, 101, 110, 103, 116, 104, 58, 32, 120, 13, 10, 13, 10]⟩, ⟨#[72, 84, 84, 80, 47, 49, 46, 49, 32, 50, 48, 48, 32, 45, 13, 10, 99, 111, 110, 116, 101, 110, 116, 45, 108, 101, 110, 103, 116, 104, 58, 32, 49, 50, 51, 52, 53, 54, 55, 13, 10, 13, 10]⟩, ⟨#[72, 84, 84, 80, 47, 49, 46, 49, 32, 50, 48, 48, 32, 45, 13, 10, 99, 111, 110, 116, 101, 110, 116, 45, 108, 101, 110, 103, 116, 104, 58, 32, 49, 13, 10, 67, 111, 110, 116, 101, 110, 116, 45, 76, 101, 110, 103, 116, 104, 58, 32, 49, 13, 10, 13, 10, 97]⟩, ⟨#[72, 84, 84, 80, 47, 49, 46, 49, 32, 50, 48, 48, 32, 45, 13, 10, 97, 58, 32, 49, 13, 10, 97, 58, 32, 49, 13, 10, 97, 58, 32, 49, 13, 10, 97, 58, 32, 49, 13, 10, 97, 58, 32, 49, 13, 10, 97, 58, 32, 49, 13, 10, 97, 58, 32, 49, 13, 10, 97, 58, 32, 49, 13, 10, 97, 58, 32, 49, 13, 10, 13, 10]⟩, ⟨#[72, 84, 84, 80, 47, 49, 46, 49, 32, 50, 48, 48, 32, 45, 13, 10, 97, 98, 99, 100, 101, 102, 103, 104, 105, 106, 107, 108, 109, 110, 111, 112, 113, 114, 115, 116, 117, 58, 32, 49, 13, 10, 13, 10]⟩, ⟨#[72, 84, 84, 80, 47, 49, 46, 49, 32, 50, 48, 48, 32, 45, 13, 10, 120, 58, 32, 49, 50, 51, 52, 53, 54, 55, 56, 57, 48, 49, 50, 51, 52, 53, 54, 55, 56, 57, 48, 49, 50, 51, 52, 53, 54, 55, 56, 57, 48, 49, 50, 51, 52, 53, 54, 55, 56, 57, 48, 49, 13, 10, 13, 10]⟩]
theorem isHeads_row (g : Nat) (hs : HBL) (n : Nat) (hn : hs.length = n) (hm : n ≤ 1000) : IsHeads (.slice (some ⟨g, 0, none⟩) n n) hs [(g, .cells (hv hs).toArray 30)] := by
  subst hn
  exact ⟨length_hv hs, .inr ⟨g, hs.length, [], rfl, by simp, by simp [length_hv], Nat.le_refl _, by simp only [maxLen]; omega⟩⟩
theorem badS_none : ∀ s ∈ badS, (replyI (sb s)).isNone = true ∧ s.size ≤ 200 := by decide +kernel
set_option maxRecDepth 100000 in
set_option maxHeartbeats 16000000 in
theorem replyForms_walk {W : World} (hV : VarsOk W) (a : Int) (wa : (Lit.int .i64 a).wf = true) : Calls Tryd.prog 3 #[.int .i64 a] W (Yes W) := by
  have HVV := Lib.hid hV
  clear wa hV
  have HO := Lib.hid (Own.start W)
  have hp1 := rparse_c HVV.out.toMostOk HO.out ⟨#[72, 84, 84, 80, 47, 49, 46, 49, 32, 52, 48, 52, 32, 78, 111, 116, 32, 116, 104, 101, 114, 101, 32, 97, 116, 32, 97, 108, 108, 13, 10, 65, 45, 98, 58, 32, 32, 120, 32, 121, 32, 32, 13, 10, 67, 111, 110, 116, 101, 110, 116, 45, 76, 69, 78, 71, 84, 72, 58, 51, 13, 10, 13, 10, 104, 101, 108, 108, 111]⟩ (by decide)
  rw [show sb ⟨#[72, 84, 84, 80, 47, 49, 46, 49, 32, 52, 48, 52, 32, 78, 111, 116, 32, 116, 104, 101, 114, 101, 32, 97, 116, 32, 97, 108, 108, 13, 10, 65, 45, 98, 58, 32, 32, 120, 32, 121, 32, 32, 13, 10, 67, 111, 110, 116, 101, 110, 116, 45, 76, 69, 78, 71, 84, 72, 58, 51, 13, 10, 13, 10, 104, 101, 108, 108, 111]⟩ = form1 from rfl, form1_is] at hp1
  have HP1 := Lib.hid hp1
  clear hp1
  go_enter Tryd.func3, Tryd.ntmps3
  go_wp2_with fail
  refine HP1.out.mono ?_
  rintro e w1 hg
  obtain ⟨A1, c1, L1, rfl, hv1, hO⟩ := hg.yes
  have HO1 := Lib.hid hO; have HV1 := Lib.hid hv1
  clear hO hg HP1 HO
  simp only [formH1, List.length_cons, List.length_nil] at HV1 ⊢
  have hb1 : strOfNums [104, 101, 108] = ⟨#[104, 101, 108]⟩ := rfl
  rw [hb1]
  go_wp2_with (first | (refine wl_alloc rfl _ rfl HO1.out _ (alloc_rep _) ?_; intro g3 w2 hO; have HO2 := Lib.hid hO; clear hO HO1) | (refine wl_store rfl _ _ _ rfl HO2.out 0 g3 0 _ (rv 404 (.slice A1 2 c1) ⟨#[104, 101, 108]⟩ false) _ rfl (by rfl) (by rfl) rep_size (one_rv rfl) (by simp [rv]) ?_; intro w3 hO; have HO3 : Hid (Own W w3 ((g3, Obj.cells (rv 404 (.slice A1 2 c1) ⟨#[104, 101, 108]⟩ false).toArray 24) :: (L1 ++ []))) := Lib.hid (hO.cast rfl); clear hO HO2; have k0 : w3.cell? ⟨g3, 0, none⟩ = some (.int .i64 404) := HO3.out.cell (.head _) 0; have k1 : w3.cell? ⟨g3, 1, none⟩ = some (.slice A1 2 c1) := HO3.out.cell (.head _) 1; have k2 : w3.cell? ⟨g3, 2, none⟩ = some (.string ⟨#[104, 101, 108]⟩) := HO3.out.cell (.head _) 2; have k3 : w3.cell? ⟨g3, 3, none⟩ = some (.bool false) := HO3.out.cell (.head _) 3))
  generalize hwx : w3.alloc _ = w4
  have hO4 : Own W w4 ((w3.heap.size, .cells (hv (formH1.map toB)).toArray 30) :: (g3, Obj.cells (rv 404 (.slice A1 2 c1) ⟨#[104, 101, 108]⟩ false).toArray 24) :: (L1 ++ [])) := by rw [← hwx]; exact HO3.out.alloc _
  have HO4 := Lib.hid hO4
  clear hwx hO4 HO3 k0 k1 k2 k3
  generalize w3.heap.size = gw at *
  have hr1 : HRd W ((gw, .cells (hv (formH1.map toB)).toArray 30) :: (g3, Obj.cells (rv 404 (.slice A1 2 c1) ⟨#[104, 101, 108]⟩ false).toArray 24) :: (L1 ++ [])) (.slice A1 2 c1) (formH1.map toB) := IsHeads.hrd (R := L1) HV1.out (List.Sublist.cons _ (List.Sublist.cons _ (by rw [List.append_nil]; exact List.Sublist.refl _)))
  have hr2 : HRd W ((gw, .cells (hv (formH1.map toB)).toArray 30) :: (g3, Obj.cells (rv 404 (.slice A1 2 c1) ⟨#[104, 101, 108]⟩ false).toArray 24) :: (L1 ++ [])) (.slice (some ⟨gw, 0, none⟩) 2 2) (formH1.map toB) := (isHeads_row gw (formH1.map toB) 2 rfl (by omega)).hrd (List.Sublist.cons_cons _ (List.nil_sublist _))
  have hsame := sameH_c (w := w4) (.slice A1 2 c1) (.slice (some ⟨gw, 0, none⟩) 2 2) (formH1.map toB) (formH1.map toB) (hr1 w4 [] HO4.out) (hr2 w4 [] HO4.out) (by decide)
  rw [decide_eq_true rfl] at hsame
  with_reducible refine hsame.mono ?_
  clear hsame hr2
  rintro e w5 ⟨rfl, qq, hww⟩
  have HO5 := Lib.hid (HO4.out.drewN qq); rw [← hww] at HO5; clear hww HO4
  have HR1 := Lib.hid hr1; clear hr1
  have hpr := rprint_c HVV.out HO5.out 404 (by omega) (.slice A1 2 c1) formH1 HR1.out ⟨#[104, 101, 108]⟩ false (by decide)
  rw [show sb ⟨#[104, 101, 108]⟩ = [104, 101, 108] from rfl, form1_print] at hpr
  have HPR := Lib.hid hpr; clear hpr
  go_wp2_with (refine wl_load rfl _ _ rfl g3 0 (rv 404 (.slice A1 2 c1) ⟨#[104, 101, 108]⟩ false) (rv 404 (.slice A1 2 c1) ⟨#[104, 101, 108]⟩ false) _ (HO5.out.heap (.tail _ (.head _))) (by rfl) _ Tryd.underlying24 rfl rep_size (by rfl) ?_)
  refine HPR.out.mono ?_
  rintro e w6 ⟨rfl, hO⟩
  have HO6 : Hid (Own W w6 [(g3, Obj.cells (rv 404 (.slice A1 2 c1) ⟨#[104, 101, 108]⟩ false).toArray 24)]) := Lib.hid (hO.sub (List.Sublist.cons _ (List.Sublist.cons_cons _ (List.nil_sublist _))))
  clear hO HO5 HPR HR1 HV1 hb1
  have hp2 := rparse_c HVV.out.toMostOk HO6.out ⟨#[72, 84, 84, 80, 47, 49, 46, 49, 32, 49, 48, 48, 32, 13, 10, 99, 111, 110, 116, 101, 110, 116, 45, 108, 101, 110, 103, 116, 104, 58, 32, 48, 48, 48, 48, 48, 57, 13, 10, 120, 58, 13, 10, 13, 10, 97, 98]⟩ (by decide)
  rw [show sb ⟨#[72, 84, 84, 80, 47, 49, 46, 49, 32, 49, 48, 48, 32, 13, 10, 99, 111, 110, 116, 101, 110, 116, 45, 108, 101, 110, 103, 116, 104, 58, 32, 48, 48, 48, 48, 48, 57, 13, 10, 120, 58, 13, 10, 13, 10, 97, 98]⟩ = form2 from rfl, form2_is] at hp2
  have HP2 := Lib.hid hp2
  clear hp2
  go_wp2_with fail
  refine HP2.out.mono ?_
  rintro e w7 hg
  obtain ⟨A2, c2, L2, rfl, hv2, hO⟩ := hg.yes
  have HO7 : Hid (Own W w7 ((g3, Obj.cells (rv 404 (.slice A1 2 c1) ⟨#[104, 101, 108]⟩ false).toArray 24) :: L2)) := Lib.hid (hO.perm List.perm_append_comm)
  clear hO hg HP2 HO6
  simp only [formH2, List.length_cons, List.length_nil] at hv2 ⊢
  have hr5 : HRd W L2 (.slice A2 2 c2) (formH2.map toB) := hv2.hrd (List.Sublist.refl _)
  obtain ⟨A', n', c', e', _, _, hA'⟩ := hr5 w7 [(g3, Obj.cells (rv 404 (.slice A1 2 c1) ⟨#[104, 101, 108]⟩ false).toArray 24)] HO7.out
  cases e'
  obtain ⟨g5, rfl, _⟩ := hA' (by omega)
  have HR5 := Lib.hid hr5
  clear hr5 hA' hv2
  have hb2 : strOfNums [97, 98] = ⟨#[97, 98]⟩ := rfl
  rw [hb2]
  go_wp2_with (refine wl_store rfl _ _ _ rfl HO7.out 0 g3 0 _ (rv 100 (.slice (some ⟨g5, 0, none⟩) 2 c2) ⟨#[97, 98]⟩ true) _ rfl (by rfl) (by rfl) rep_size (one_rv rfl) (by simp [rv]) ?_; intro w8 hO; have HO8 : Hid (Own W w8 ((g3, Obj.cells (rv 100 (.slice (some ⟨g5, 0, none⟩) 2 c2) ⟨#[97, 98]⟩ true).toArray 24) :: L2)) := Lib.hid (hO.cast rfl); clear hO HO7; have k0 : w8.cell? ⟨g3, 0, none⟩ = some (.int .i64 100) := HO8.out.cell (.head _) 0; have k1 : w8.cell? ⟨g3, 1, none⟩ = some (.slice (some ⟨g5, 0, none⟩) 2 c2) := HO8.out.cell (.head _) 1; have k2 : w8.cell? ⟨g3, 2, none⟩ = some (.string ⟨#[97, 98]⟩) := HO8.out.cell (.head _) 2; have k3 : w8.cell? ⟨g3, 3, none⟩ = some (.bool true) := HO8.out.cell (.head _) 3; have k5 : w8.cell? ⟨g5, 3, none⟩ = some (.string ⟨#[]⟩) := (HR5.out.at_ (L' := [(g3, Obj.cells (rv 100 (.slice (some ⟨g5, 0, none⟩) 2 c2) ⟨#[97, 98]⟩ true).toArray 24)]) HO8.out (j := 1) rfl) 1 _ rfl)
  generalize hwx : w8.alloc _ = w9
  have hO9 : Own W w9 ((w8.heap.size, .cells (badS.map Value.string).toArray 9) :: (g3, Obj.cells (rv 100 (.slice (some ⟨g5, 0, none⟩) 2 c2) ⟨#[97, 98]⟩ true).toArray 24) :: L2) := by rw [← hwx]; exact HO8.out.alloc _
  have HO9 := Lib.hid hO9
  clear hwx hO9 HO8 k0 k1 k2 k3 k5 HR5 hb2
  generalize w8.heap.size = gb at *
  have q1 := within_n (w := w9) a 19 (by omega) (by omega)
  have hj : (a % 19).toNat < 19 := by omega
  generalize (a % 19).toNat = j at *
  obtain ⟨bs, hbs⟩ : ∃ bs, badS[j]? = some bs := ⟨_, List.getElem?_eq_getElem hj⟩
  obtain ⟨hno, hsz⟩ := badS_none bs (List.mem_of_getElem? hbs)
  have hcb : w9.cell? ⟨gb, j, none⟩ = some (.string bs) := (HO9.out.cell (.head _) j).trans (by simp [hbs])
  have hjI : (j : Int) < 19 := by omega
  with_reducible refine q1.mono ?_
  clear q1
  rintro e wq ⟨rfl, hww⟩
  subst hww
  have hp3 := rparse_c HVV.out.toMostOk HO9.out bs (by omega)
  rw [Option.isNone_iff_eq_none.1 hno] at hp3
  have HP3 := Lib.hid hp3
  clear hp3 hno hsz hbs
  go_wp2_with fail
  with_reducible refine HP3.out.mono ?_
  rintro e w10 hg
  obtain ⟨A3, c3, rfl, hO⟩ := hg.no
  have HO10 := Lib.hid hO
  clear hO hg HP3 HO9 hcb
  go_wp2_with (refine wl_store rfl _ _ _ rfl HO10.out 1 g3 0 _ (rv 0 (.slice A3 0 c3) ⟨#[]⟩ false) _ rfl (by rfl) (by rfl) rep_size (one_rv rfl) (by simp [rv]) ?_; intro w11 hO; have HO11 : Hid (Own W w11 ((gb, Obj.cells (badS.map Value.string).toArray 9) :: (g3, Obj.cells (rv 0 (.slice A3 0 c3) ⟨#[]⟩ false).toArray 24) :: L2)) := Lib.hid (hO.cast rfl); clear hO HO10)
  have hn0 := rnumber_c HO11.out ⟨#[48, 48, 48, 49, 50, 51]⟩
  rw [show figI (sb ⟨#[48, 48, 48, 49, 50, 51]⟩) 1 6 = some 123 by decide +kernel] at hn0
  refine hn0.mono ?_
  clear hn0
  rintro e w12 ⟨rfl, hO⟩
  have HO12 := Lib.hid hO; clear hO HO11
  simp only [Option.getD_some, Option.getD_none, Option.isSome_some, Option.isSome_none]
  go_wp2_with fail
  have hn1 := rnumber_c HO12.out ⟨#[49, 50, 51, 52, 53, 54, 55]⟩
  rw [show figI (sb ⟨#[49, 50, 51, 52, 53, 54, 55]⟩) 1 6 = none by decide +kernel] at hn1
  refine hn1.mono ?_
  clear hn1
  rintro e w13 ⟨rfl, hO⟩
  have HO13 := Lib.hid hO; clear hO HO12
  simp only [Option.getD_some, Option.getD_none, Option.isSome_some, Option.isSome_none]
  go_wp2_with fail
  have hn2 := rnumber_c HO13.out ⟨#[]⟩
  rw [show figI (sb ⟨#[]⟩) 1 6 = none by decide +kernel] at hn2
  refine hn2.mono ?_
  clear hn2
  rintro e w14 ⟨rfl, hO⟩
  have HO14 := Lib.hid hO; clear hO HO13
  simp only [Option.getD_some, Option.getD_none, Option.isSome_some, Option.isSome_none]
  go_wp2_with fail
  have hn3 := rnumber_c HO14.out ⟨#[45, 49]⟩
  rw [show figI (sb ⟨#[45, 49]⟩) 1 6 = none by decide +kernel] at hn3
  refine hn3.mono ?_
  clear hn3
  rintro e w15 ⟨rfl, hO⟩
  have HO15 := Lib.hid hO; clear hO HO14
  simp only [Option.getD_some, Option.getD_none, Option.isSome_some, Option.isSome_none]
  have k0 : w15.cell? ⟨g3, 0, none⟩ = some (.int .i64 0) := HO15.out.cell (.tail _ (.head _)) 0
  have k1 : w15.cell? ⟨g3, 1, none⟩ = some (.slice A3 0 c3) := HO15.out.cell (.tail _ (.head _)) 1
  go_wp2_with fail
  with_reducible refine (wakes9_c HVV.out.toMostOk HO15.out).mono ?_
  rintro e w16 ⟨rfl, hO⟩
  have HO16 := Lib.hid hO; clear hO HO15
  go_wp2
  go_ret
  exact HO16.out.yes rfl
set_option maxRecDepth 100000 in
theorem replyForms_contract (H : Type) (enc : TypeId × Value → H) (W : World) (base : Nat) (args : Array Value) (ds gs : List (DataW H)) (before : List MemPlace)
    (hval : ∀ (j : Nat) t v, Tryd.f3.params[j]? = some t → args[j]? = some v → Value.okWide Tryd.prog W .any base t v)
    (hW : DataW.Whole enc Tryd.prog Tryd.f3.params.toList Rows.replyFormsSpec.vars false W args.toList ds gs before) (hV0 : VarsOk W) :
    Calls Tryd.prog 3 args W fun e W' => ∃ v, e = .returned v ∧ Rows.replyFormsSpec.post enc Tryd.prog Tryd.f3 false true false false W args v W' := by
  have hW' := hW
  obtain ⟨p, q, hA0, hV, rfl, hfz, hnd⟩ := hW
  have hA : DataW.TrodAll enc Tryd.prog W 0 (fun _ => true) true Tryd.f3.params.toList args.toList ds p := hA0
  rw [Tryd.params3] at hA hval
  obtain ⟨v0, vs0, d0, ds0, p0, q0, hargs, rfl, rfl, h0, r0⟩ := trodAll_cons hA
  obtain ⟨rfl, rfl, rfl⟩ := trodAll_nil r0
  obtain rfl : args = #[v0] := by cases args; simp_all
  obtain ⟨rfl, rfl⟩ := trodVars_none hV
  obtain ⟨a0, rfl, rfl, rfl, w0⟩ := open_int Tryd.underlying3 (hval 0 3 v0 rfl rfl) h0
  clear hA0
  refine (replyForms_walk hV0 a0 w0).mono fun e W' ⟨he, bel⟩ => ?_
  subst he
  exact ⟨_, rfl, _, _, _, [], _, [], hW', trodAll_mk1 (shut_bool Tryd.underlying4 _), (trodAll_cons_mk (shut_int Tryd.underlying3 w0) trodAll_mk0), rfl, bel.frame _, fun h => by cases h⟩

theorem replyForms_met (os : Os) : laidMet Tryd.prog Rows.replyFormsRow.laid ((laidWorld os).forCall (fun _ _ => 0) ⟨#[], #[.int .i64 0], []⟩).memory :=
  laidMet_of_run' 8 (by kernel_rfl) (by kernel_rfl)
theorem replyForms_reads (os : Os) {H : Type} (enc : TypeId × Value → H) : ∃ places, DataW.whole enc Tryd.prog ((laidWorld os).forCall (fun _ _ => 0) ⟨#[], #[.int .i64 0], []⟩).memory Tryd.f3.params.toList Rows.replyFormsSpec.vars false (#[.int .i64 0] : Array Value).toList 8 = some ([.lit (.int .i64 0)], [], places) :=
  ⟨[], by kernel_rfl⟩
set_option maxRecDepth 100000 in
theorem replyForms_lifted (os : Os) (started : os.Started) (H : Type) (enc : TypeId × Value → H) (F : Stop.Interp) :
    ReturnsInHanded {} Tryd.checked os 3 .any ((OpenSpec.ofChange Rows.replyFormsSpec).preRow enc Tryd.prog Tryd.f3 Rows.replyFormsRow.domain false Rows.replyFormsRow.laid) (((OpenSpec.ofChange Rows.replyFormsSpec).at F).post enc Tryd.prog Tryd.f3 false true false false) := by
  obtain ⟨places, hx⟩ := replyForms_reads os enc
  refine returnsInHanded_of_row (C := Tryd.checked) (s := OpenSpec.ofChange Rows.replyFormsSpec) own_none started (by kernel_rfl) Tryd.func3
    (witness_row_at (enc := enc) (C := Tryd.checked) false (laidWorld os) #[.int .i64 0] rfl (by kernel_rfl) (by kernel_rfl) (by kernel_rfl)
      (OpenSpec.preRow_of_cond 8 hx (by kernel_rfl) (fun k hk => by cases hk) (by kernel_rfl) (replyForms_met os))) ?_
  intro W base args ds gs before hval hW _ _ _ hL hsh _
  exact replyForms_contract H enc W base args ds gs before hval hW (vars_of hL hsh)
theorem replyForms_said : Rows.ReplyFormsSaid :=
  OpenClaim.holds_of_cond 3 Tryd.f3 rfl rfl rfl rfl rfl rfl rfl ⟨rfl, rfl, rfl, rfl, rfl⟩ rfl rfl rfl rfl rfl (by kernel_rfl) Tryd.func3 (by kernel_rfl)
    (of_decide_eq_true (by kernel_rfl)) (by unfold Func.isWrapper; first | (rw [if_pos (by decide +kernel)]; kernel_rfl) | (rw [if_neg (by decide +kernel)]; exact ⟨rfl, rfl⟩))
    (fun os started H enc _ F => by rw [OpenClaim.pre_eq_preRow]; exact replyForms_lifted os started H enc F)
theorem replyForms_plain (f : FuncId) (fn : Func) (hf : Tryd.pinned.checked.prog.funcNamed "postilion/postilionlaw09.ReplyForms" = some f) (hfn : Tryd.pinned.checked.prog.funcs[f]? = some fn) :
    false = Tryd.pinned.checked.prog.looks [] ∧ ∀ (j : Nat) t, fn.params[j]? = some t → Tryd.pinned.checked.prog.wantsStandIn t = false := by
  obtain rfl : f = 3 := Option.some.inj ((show Tryd.prog.funcNamed "postilion/postilionlaw09.ReplyForms" = some 3 by kernel_rfl).symm.trans hf) |>.symm
  obtain rfl : fn = Tryd.f3 := (Option.some.inj (Tryd.func3.symm.trans hfn)).symm
  refine ⟨by kernel_rfl, fun j t ht => ?_⟩
  rw [Tryd.params3] at ht
  have hall : ∀ t ∈ ([3] : List TypeId), Tryd.prog.wantsStandIn t = false := List.forall_mem_cons.2 ⟨by kernel_rfl, fun _ h => by cases h⟩
  exact hall t (by simpa using Array.mem_of_getElem? ht)
/-- The statement: the card. -/
theorem replyForms_proved : Rows.ReplyFormsCardSaid :=
  Claim7.holds_tied_plain_at .later [] _ _ _ _ replyForms_said (fun _ h => by cases h) (by kernel_rfl) (fun _ h => by cases h) replyForms_row_tie rfl ⟨rfl, rfl⟩ (by kernel_rfl) rfl replyForms_plain (by kernel_rfl)
end Go.Proofs.YtkmfbfmmlldphaaDoor

