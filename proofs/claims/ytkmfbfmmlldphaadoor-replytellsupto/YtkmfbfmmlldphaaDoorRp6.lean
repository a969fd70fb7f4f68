/-
  The statements' own maker of answers: Answer.
-/
import Derived.Test.YtkmfbfmmlldphaaDoorRp5
namespace Go.Proofs.YtkmfbfmmlldphaaDoor
set_option linter.unusedVariables false
set_option linter.unusedSimpArgs false
set_option maxRecDepth 20000
open Go.RowKit

def unB (hs : HBL) : HL := hs.map fun h => (sb h.1, sb h.2)
theorem unB_toB (hs : HBL) : (unB hs).map toB = hs := by
  unfold unB
  rw [List.map_map]
  conv => rhs; rw [← List.map_id hs]
  apply List.map_congr_left
  intro h _
  show (strOfNums (sb h.1), strOfNums (sb h.2)) = h
  rw [str_sb, str_sb]
theorem headsP_small : ∀ {hs : HBL}, HSm hs → (headsP (unB hs)).length ≤ 64 * hs.length
  | [], _ => by simp [headsP, unB]
  | h :: hs, hh => by
    have h1 := hh h (.head _)
    have ih := headsP_small (fun x hx => hh x (.tail _ hx))
    simp only [headsP, unB, List.map_cons, List.flatMap_cons, List.length_append, List.length_cons, headP, length_sb, List.length_nil] at ih ⊢
    omega
theorem replyP_small {code : Nat} {hs : HBL} (hh : HSm hs) (hl : hs.length ≤ 7) (body : ByteArray) : (replyP code (unB hs) (sb body)).length ≤ 484 + body.size := by
  have h1 := headsP_small hh
  have h2 := digs_len code
  simp only [replyP, verI, List.length_append, List.length_cons, List.length_nil, length_sb]
  omega
set_option maxHeartbeats 8000000 in
theorem panswer_c {w0 w : World} {R : Blks} (hO : Own w0 w R) (n : Int) (v : Value) (xs : List Int) (hv : RdV w0 R v (xs.map (Value.int .i64))) (s : ByteArray) (hs : s.size ≤ 2000000) :
    Calls Tryd.prog 14 #[.int .i64 n, v, .string s] w fun e w' => ∃ t : ByteArray, e = .returned (.string t) ∧ t.size ≤ 6000000 ∧ Own w0 w' R := by
  have HP := Lib.hid (preply_c hO n v xs hv s)
  clear hO hv
  go_enter Tryd.func14, Tryd.ntmps14
  go_wp2_with fail
  with_reducible refine HP.out.mono ?_
  rintro e w1 ⟨code, hs, vv, L, body, rfl, hc1, hc2, hl, hsm, hbs, hv, hO⟩
  have hsz := replyP_small hsm hl body (code := code)
  have hr : HRd w0 (L ++ R) vv ((unB hs).map toB) := by rw [unB_toB]; exact hv.hrd sub_here
  have HQ := Lib.hid (rprint9_c hO code (by omega) vv (unB hs) hr body false (by omega))
  obtain ⟨t, ht⟩ : ∃ t, strOfNums (replyP code (unB hs) (sb body)) = t := ⟨_, rfl⟩
  have hts : t.size ≤ 2000600 := by rw [← ht, strOfNums_size]; omega
  rw [ht] at HQ
  clear hr hv hO HP hsm hsz ht hbs hl hc1 hc2
  go_wp2_with fail
  with_reducible refine HQ.out.mono ?_
  rintro e w2 ⟨rfl, hO⟩
  have HO2 := Lib.hid hO.right; clear hO HQ
  have hcall := within_n (w := w2) (wrap64 (n.tdiv 3)) 24 (by omega) (by omega)
  generalize (wrap64 (n.tdiv 3) % 24).toNat = k at *
  go_wp2_with fail
  with_reducible refine hcall.mono ?_
  clear hcall
  rintro e wq ⟨rfl, hww⟩
  subst hww
  by_cases h20 : (k : Int) = 20
  · have e20 : ((k : Int) == 20) = true := beq_iff_eq.2 h20
    clear h20
    go_wp2
    go_ret
    exact ⟨s, rfl, by omega, HO2.out⟩
  · have e20 : ((k : Int) == 20) = false := beq_eq_false_iff_ne.2 h20
    clear h20
    by_cases h21 : (k : Int) = 21
    · have e21 : ((k : Int) == 21) = true := beq_iff_eq.2 h21
      have hcall := within_n (w := w2) n ((t.size : Int) + 1) (by omega) (by omega)
      have hq : (n % ((t.size : Int) + 1)).toNat ≤ t.size := by
        have h1 := Int.emod_lt_of_pos n (show (0 : Int) < (t.size : Int) + 1 by omega)
        omega
      generalize (n % ((t.size : Int) + 1)).toNat = q at *
      have hqI : (q : Int) ≤ t.size := by omega
      have hex : (t.extract 0 q).size ≤ 2000600 := by rw [← length_sb, sb_extract, List.drop_zero, List.length_take, length_sb]; omega
      clear h21
      go_wp2_with fail
      with_reducible refine hcall.mono ?_
      clear hcall
      rintro e wq ⟨rfl, hww⟩
      subst hww
      go_wp2
      go_ret
      exact ⟨_, rfl, by omega, HO2.out⟩
    · have e21 : ((k : Int) == 21) = false := beq_eq_false_iff_ne.2 h21
      clear h21
      by_cases h22 : (k : Int) = 22
      · have e22 : ((k : Int) == 22) = true := beq_iff_eq.2 h22
        clear h22
        have n1 : ¬ (9223372036854775807 < 9 + s.size) := by omega
        have n2 : ¬ (9223372036854775807 < 9 + s.size + 4) := by omega
        go_wp2
        go_ret
        refine ⟨_, rfl, ?_, HO2.out⟩
        have e1 : (⟨#[72, 84, 84, 80, 47, 49, 46, 49, 32]⟩ : ByteArray).size = 9 := rfl
        have e2 : (⟨#[13, 10, 13, 10]⟩ : ByteArray).size = 4 := rfl
        rw [ByteArray.size_append, ByteArray.size_append, e1, e2]; omega
      · have e22 : ((k : Int) == 22) = false := beq_eq_false_iff_ne.2 h22
        clear h22
        by_cases h23 : (k : Int) = 23
        · have e23 : ((k : Int) == 23) = true := beq_iff_eq.2 h23
          clear h23
          have n1 : ¬ (9223372036854775807 < t.size + s.size) := by omega
          go_wp2
          go_ret
          refine ⟨_, rfl, ?_, HO2.out⟩
          rw [ByteArray.size_append]; omega
        · have e23 : ((k : Int) == 23) = false := beq_eq_false_iff_ne.2 h23
          clear h23
          go_wp2
          go_ret
          exact ⟨t, rfl, by omega, HO2.out⟩
end Go.Proofs.YtkmfbfmmlldphaaDoor
