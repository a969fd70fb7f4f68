/-
  Texts that the laws stand on: SameH, Ask5, Vars.
-/
import Derived.Test.YtlcolabblpikjaaGreatDoorM7
import Derived.Test.YtlcolabblpikjaaGreatDoorM3
import Derived.Deep.QuietTactic
import Derived.BigQuiet
import Derived.Test.YtlcolabblpikjaaGreatDoorM16
import Derived.Test.YtlcolabblpikjaaGreatDoorM17
import Derived.Test.YtlcolabblpikjaaGreatDoorM12
import Derived.Test.YtlcolabblpikjaaGreatDoorM1
import Derived.Test.YtlcolabblpikjaaGreatDoorCards
import Derived.Test.YtlcolabblpikjaaGreatDoorTie
import Derived.WalkKit
import Derived.ProofKit
import Derived.OpenShut
import Derived.ShutString
import Derived.Deep.DeepHandedRow
import Derived.Lib.LaidTab
import Derived.Stop.LaidErr

/-
  Lists of headers held against each other (the statements' help Same).
-/
namespace Go.Proofs.YtlcolabblpikjaaGreatDoor
set_option linter.unusedVariables false
set_option linter.unusedSimpArgs false
set_option maxRecDepth 20000
open Go.RowKit

/-! ### lists of headers held against each other -/
theorem drewN_add (w : World) (a b : Nat) : (w.drewN a).drewN b = w.drewN (a + b) := by simp [World.drewN, Nat.add_assoc]
theorem beq_ba (s t : ByteArray) : (s.toList == t.toList) = decide (s = t) := by
  rw [beq_sb, decide_eq_decide]
  exact ⟨sb_inj, fun e => by rw [e]⟩
set_option maxHeartbeats 4000000 in
theorem sameH_c {w : World} (va vb : Value) (hs ks : HBL) (ha : Hs w va hs) (hb : Hs w vb ks) (hx : hs.length ≤ 1073741824) : Calls Tryz.prog 33 #[va, vb] w (Quiet w (.bool (decide (hs = ks)))) := by
  obtain ⟨A, n, c, rfl, hn, _, hA⟩ := ha
  obtain ⟨B, m, d, rfl, hm, _, hB⟩ := hb
  have HN := Lib.hid hn
  have HM := Lib.hid hm
  have HA := Lib.hid hA
  have HB := Lib.hid hB
  have hx' : n ≤ 1073741824 := by omega
  by_cases hnm : n = m
  · subst hnm
    have hne : ((n : Int) != n) = false := by simp
    clear hn hm hA hB hx
    go_enter Tryz.func33, Tryz.ntmps33
    go_wp2
    go_loopw [5] (fun t w' => ∃ k : Nat, k ≤ n ∧ t = .int .i64 k ∧ Hid (hs.take k = ks.take k) ∧ Hid (∃ q, w' = w.drewN q)) (fun t _ => n - (intOf t).toNat)
    case atStart => exact ⟨0, Nat.zero_le _, rfl, rfl, 0, rfl⟩
    case round =>
      obtain ⟨k, hk, rfl, HT, HW⟩ := hrel
      by_cases hlt : k < n
      · have hkx : k < hs.length := by rw [HN.out]; exact hlt
        have hky : k < ks.length := by rw [HM.out]; exact hlt
        obtain ⟨g, rfl, hca⟩ := HA.out (by omega)
        obtain ⟨g', rfl, hcb⟩ := HB.out (by omega)
        have hra := hca k _ (List.getElem?_eq_getElem hkx)
        have hrb := hcb k _ (List.getElem?_eq_getElem hky)
        have hstep : hs[k] = ks[k] → hs.take (k + 1) = ks.take (k + 1) := fun e => by
          rw [List.take_succ_eq_append_getElem hkx, List.take_succ_eq_append_getElem hky, HT.out, e]
        have hdiff : hs[k] ≠ ks[k] → hs ≠ ks := fun e h => e (by subst h; rfl)
        have HS := Lib.hid hstep
        have HD := Lib.hid hdiff
        clear hstep hdiff hca hcb HA HB
        generalize hs[k] = a at *
        generalize ks[k] = b at *
        obtain ⟨x, y⟩ := a
        obtain ⟨p, q⟩ := b
        have c1 : wr.cell? ⟨g, k * 2, none⟩ = some (.string x) := by obtain ⟨q, rfl⟩ := HW.out; exact hra 0 _ rfl
        have c2 : wr.cell? ⟨g, k * 2 + 1, none⟩ = some (.string y) := by obtain ⟨q, rfl⟩ := HW.out; exact hra 1 _ rfl
        have c3 : wr.cell? ⟨g', k * 2, none⟩ = some (.string p) := by obtain ⟨q, rfl⟩ := HW.out; exact hrb 0 _ rfl
        have c4 : wr.cell? ⟨g', k * 2 + 1, none⟩ = some (.string q) := by obtain ⟨q, rfl⟩ := HW.out; exact hrb 1 _ rfl
        have b1 := beq_ba x p
        have b2 := beq_ba y q
        have hk0 : (0 : Int) ≤ k := by omega
        have hkn : (k : Int) < n := by omega
        clear hra hrb hkx hky
        by_cases hxp : x = p
        · by_cases hyq : y = q
          · rw [decide_eq_true hxp] at b1
            rw [decide_eq_true hyq] at b2
            have HE := Lib.hid (HS.out (by rw [hxp, hyq]))
            clear hxp hyq HS HD
            go_wp2
            go_quiet (fail)
            go_wp2
            go_roundw
            case rel => exact ⟨k + 1, by omega, by go_num, HE, by obtain ⟨q, e⟩ := HW.out; exact ⟨q + nq, by rw [e]; exact drewN_add _ _ _⟩⟩
            case measure => simp [intOf]; omega
          · rw [decide_eq_true hxp] at b1
            rw [decide_eq_false hyq] at b2
            have HE := Lib.hid (HD.out (fun e => hyq (congrArg Prod.snd e)))
            clear hxp hyq HS HD
            go_wp2
            go_quiet (fail)
            go_wp2
            go_ret
            refine ⟨?_, by obtain ⟨q, e⟩ := HW.out; exact ⟨q + nq, by rw [e]; exact drewN_add _ _ _⟩⟩
            rw [decide_eq_false HE.out]; rfl
        · rw [decide_eq_false hxp] at b1
          have HE := Lib.hid (HD.out (fun e => hxp (congrArg Prod.fst e)))
          clear hxp HS HD
          generalize decide (y = q) = b at *
          go_wp2
          go_quiet (fail)
          go_wp2
          go_ret
          refine ⟨?_, by obtain ⟨q, e⟩ := HW.out; exact ⟨q + nq, by rw [e]; exact drewN_add _ _ _⟩⟩
          rw [decide_eq_false HE.out]; rfl
      · obtain rfl : k = n := by omega
        have hT := HT.out
        rw [List.take_of_length_le (by rw [HN.out]; exact Nat.le_refl _), List.take_of_length_le (by rw [HM.out]; exact Nat.le_refl _)] at hT
        have HT' := Lib.hid hT
        clear hT HA HB HT
        go_wp2
        go_ret
        refine ⟨?_, HW.out⟩
        rw [decide_eq_true HT'.out]; rfl
  · have hne : ((n : Int) != m) = true := by rw [bne_iff_ne]; omega
    have hd : decide (hs = ks) = false := decide_eq_false (fun e => by subst e; omega)
    rw [hd]
    clear hn hm hA hB hx hnm hd
    go_enter Tryz.func33, Tryz.ntmps33
    go_wp2
    go_ret
    exact ⟨rfl, 0, rfl⟩
end Go.Proofs.YtlcolabblpikjaaGreatDoor
/-
  What the laws of chapter 10 share: wakes, Ref, Same.
-/
namespace Go.Proofs.YtlcolabblpikjaaGreatDoor
set_option linter.unusedVariables false
set_option linter.unusedSimpArgs false
set_option maxRecDepth 20000
open Go.RowKit

def wakeA : AL := ⟨[71, 69, 84], [104, 116, 116, 112, 58, 47, 47, 97, 47], [], []⟩
def wakeT : List Int := [71, 69, 84, 32, 47, 32, 72, 84, 84, 80, 47, 49, 46, 49, 13, 10, 72, 111, 115, 116, 58, 32, 97, 13, 10, 83, 99, 104, 101, 109, 101, 58, 32, 104, 116, 116, 112, 13, 10, 13, 10]
theorem wakeA_is : askP wakeA = some wakeT := by kernel_rfl
set_option maxHeartbeats 4000000 in
theorem wakes10_c {w0 w : World} {R : Blks} (hV : VarsOk w0) (hO : Own w0 w R) : Calls Tryz.prog 13 #[] w fun e w' => e = .returned (.bool true) ∧ Own w0 w' R := by
  have hr : HRd w0 R (.slice none 0 0) [] := fun w L h => ⟨none, 0, 0, rfl, rfl, Nat.le_refl _, fun h => absurd h (by omega)⟩
  have hp := aprint_c hV hO ⟨#[71, 69, 84]⟩ ⟨#[104, 116, 116, 112, 58, 47, 47, 97, 47]⟩ (.slice none 0 0) [] hr ⟨#[]⟩ (by decide) (by decide) (by decide) (by decide)
  rw [show aL ⟨#[71, 69, 84]⟩ ⟨#[104, 116, 116, 112, 58, 47, 47, 97, 47]⟩ [] ⟨#[]⟩ = wakeA from rfl, wakeA_is] at hp
  unfold av at hp
  have HP := Lib.hid hp
  clear hp hV hO hr
  go_enter Tryz.func13, Tryz.ntmps13
  go_wp2_with fail
  with_reducible refine HP.out.mono ?_
  rintro e w1 ⟨rfl, hO1⟩
  have HO1 := Lib.hid hO1; clear hO1 HP
  rw [show errA (some wakeT) = 0 from rfl, Option.getD_some]
  rw [show strOfNums wakeT = ⟨#[71, 69, 84, 32, 47, 32, 72, 84, 84, 80, 47, 49, 46, 49, 13, 10, 72, 111, 115, 116, 58, 32, 97, 13, 10, 83, 99, 104, 101, 109, 101, 58, 32, 104, 116, 116, 112, 13, 10, 13, 10]⟩ from rfl]
  have e16 : (((⟨#[71, 69, 84, 32, 47, 32, 72, 84, 84, 80, 47, 49, 46, 49, 13, 10, 72, 111, 115, 116, 58, 32, 97, 13, 10, 83, 99, 104, 101, 109, 101, 58, 32, 104, 116, 116, 112, 13, 10, 13, 10]⟩ : ByteArray).extract 0 16).toList == [71, 69, 84, 32, 47, 32, 72, 84, 84, 80, 47, 49, 46, 49, 13, 10]) = true := by decide +kernel
  go_wp2
  go_ret
  exact ⟨rfl, HO1.out⟩
theorem rask_size5 : (Tryz.prog.info? 31).map (·.size) = some 4 := by kernel_rfl
theorem alloc_rask' (w : World) : (Instr.alloc 31 true (.tuple #[])).run Tryz.prog w = .ok (.pointer (some ⟨w.heap.size, 0, none⟩)) (w.alloc (.cells (av ⟨#[]⟩ ⟨#[]⟩ (.slice none 0 0) ⟨#[]⟩).toArray 31)) := by kernel_rfl
set_option maxHeartbeats 4000000 in
theorem ref10_c {w0 w : World} {R : Blks} (hO : Own w0 w R) (m u : ByteArray) (A : Option Addr) (n c : Nat) (b : ByteArray) : Calls Tryz.prog 8 #[.agg (av m u (.slice A n c) b).toArray] w fun e w' => e = .returned (.agg (av m u (.slice A n c) b).toArray) ∧ Own w0 w' R := by
  have HO := Lib.hid hO
  clear hO
  go_enter Tryz.func8, Tryz.ntmps8
  go_wp2_with (first | (refine wl_box rfl _ _ rfl HO.out (av m u (.slice A n c) b).toArray (by rfl) ?_; intro g1 w1 hO; have HO1 := Lib.hid hO; clear hO HO) | (refine wl_alloc rfl _ rfl HO1.out _ (alloc_rask' _) ?_; intro g2 w2 hO; have HO2 := Lib.hid hO; clear hO HO1; have c0 : w2.cell? ⟨g1, 0, none⟩ = some (.string m) := HO2.out.cell (.tail _ (.head _)) 0; have c1 : w2.cell? ⟨g1, 1, none⟩ = some (.string u) := HO2.out.cell (.tail _ (.head _)) 1; have c2 : w2.cell? ⟨g1, 2, none⟩ = some (.slice A n c) := HO2.out.cell (.tail _ (.head _)) 2; have c3 : w2.cell? ⟨g1, 3, none⟩ = some (.string b) := HO2.out.cell (.tail _ (.head _)) 3) | (refine wl_store rfl _ _ _ rfl HO2.out 0 g2 0 _ (av m u (.slice A n c) b) _ rfl (by rfl) (by rfl) rask_size5 (one_av rfl) (by simp [av]) ?_; intro wz hO; have HZ := Lib.hid (hO.cast (L' := (g2, .cells (av m u (.slice A n c) b).toArray 31) :: (g1, .cells (av m u (.slice A n c) b).toArray 24) :: R) rfl); clear hO HO2 c0 c1 c2 c3))
  have hc0 : wz.cell? ⟨g2, 0, none⟩ = some (.string m) := HZ.out.cell (.head _) 0
  have hc1 : wz.cell? ⟨g2, 1, none⟩ = some (.string u) := HZ.out.cell (.head _) 1
  have hc2 : wz.cell? ⟨g2, 2, none⟩ = some (.slice A n c) := HZ.out.cell (.head _) 2
  have hc3 : wz.cell? ⟨g2, 3, none⟩ = some (.string b) := HZ.out.cell (.head _) 3
  exact bodyPost_ret (v := .agg (av m u (.slice A n c) b).toArray) (by simp [results, Tryz.results8, go_sem, hc0, hc1, hc2, hc3, av]) rfl ⟨rfl, HZ.out.tail.tail⟩
set_option maxHeartbeats 8000000 in
theorem same10_c {w0 w : World} {R : Blks} (hO : Own w0 w R) (ma mb ua ub : ByteArray) (va vb : Value) (hs ks : HBL) (ha : HRd w0 R va hs) (hb : HRd w0 R vb ks) (ba bb : ByteArray) (hl : hs.length ≤ 1073741824) :
    Calls Tryz.prog 12 #[.agg (av ma ua va ba).toArray, .agg (av mb ub vb bb).toArray] w fun e w' => e = .returned (.bool (decide (ma = mb) && (decide (ua = ub) && (decide (hs = ks) && decide (ba = bb))))) ∧ Own w0 w' R := by
  obtain ⟨A, n, c, rfl, _, _, _⟩ := ha w [] hO
  obtain ⟨B, m, d, rfl, _, _, _⟩ := hb w [] hO
  have HO := Lib.hid hO; have HA := Lib.hid ha; have HB := Lib.hid hb
  clear hO ha hb
  obtain ⟨b1, hb1⟩ : ∃ b, decide (ma = mb) = b := ⟨_, rfl⟩
  obtain ⟨b2, hb2⟩ : ∃ b, decide (ua = ub) = b := ⟨_, rfl⟩
  obtain ⟨b3, hb3⟩ : ∃ b, decide (hs = ks) = b := ⟨_, rfl⟩
  obtain ⟨b4, hb4⟩ : ∃ b, decide (ba = bb) = b := ⟨_, rfl⟩
  have e1 : (ma.toList == mb.toList) = b1 := by rw [beq_ba, hb1]
  have e2 : (ua.toList == ub.toList) = b2 := by rw [beq_ba, hb2]
  have e4 : (ba.toList == bb.toList) = b4 := by rw [beq_ba, hb4]
  rw [hb1, hb2, hb3, hb4]
  have HB3 := Lib.hid hb3
  clear hb1 hb2 hb3 hb4
  by_cases h12 : b1 = true ∧ b2 = true
  · obtain ⟨rfl, rfl⟩ := h12
    go_enter Tryz.func12, Tryz.ntmps12
    go_wp2_with (first | (refine wl_box rfl _ _ rfl HO.out (av ma ua (.slice A n c) ba).toArray (by rfl) ?_; intro g1 w1 hO; have HO1 := Lib.hid hO; clear hO HO) | (refine wl_box rfl _ _ rfl HO1.out (av mb ub (.slice B m d) bb).toArray (by rfl) ?_; intro g2 w2 hO; have HO2 := Lib.hid hO; clear hO HO1; have c0 : w2.cell? ⟨g1, 0, none⟩ = some (.string ma) := HO2.out.cell (.tail _ (.head _)) 0; have c1 : w2.cell? ⟨g1, 1, none⟩ = some (.string ua) := HO2.out.cell (.tail _ (.head _)) 1; have c2 : w2.cell? ⟨g1, 2, none⟩ = some (.slice A n c) := HO2.out.cell (.tail _ (.head _)) 2; have c3 : w2.cell? ⟨g1, 3, none⟩ = some (.string ba) := HO2.out.cell (.tail _ (.head _)) 3; have d0 : w2.cell? ⟨g2, 0, none⟩ = some (.string mb) := HO2.out.cell (.head _) 0; have d1 : w2.cell? ⟨g2, 1, none⟩ = some (.string ub) := HO2.out.cell (.head _) 1; have d2 : w2.cell? ⟨g2, 2, none⟩ = some (.slice B m d) := HO2.out.cell (.head _) 2; have d3 : w2.cell? ⟨g2, 3, none⟩ = some (.string bb) := HO2.out.cell (.head _) 3))
    have hcall := sameH_c (w := w2) (.slice A n c) (.slice B m d) hs ks (HA.out w2 [_, _] HO2.out) (HB.out w2 [_, _] HO2.out) hl
    rw [HB3.out] at hcall
    clear c0 c1 c2 c3 d0 d1 d2 d3
    with_reducible refine hcall.mono ?_
    clear hcall
    rintro e w3 ⟨rfl, qq, hww⟩
    have HO3 := Lib.hid (HO2.out.drewN qq); rw [← hww] at HO3; clear hww HO2
    cases b3 with
    | false =>
      go_wp2
      go_ret
      exact ⟨rfl, HO3.out.tail.tail⟩
    | true =>
      have c3 : w3.cell? ⟨g1, 3, none⟩ = some (.string ba) := HO3.out.cell (.tail _ (.head _)) 3
      have d3 : w3.cell? ⟨g2, 3, none⟩ = some (.string bb) := HO3.out.cell (.head _) 3
      cases b4 with
      | false =>
        go_wp2
        go_ret
        exact ⟨rfl, HO3.out.tail.tail⟩
      | true =>
        go_wp2
        go_ret
        exact ⟨rfl, HO3.out.tail.tail⟩
  · cases b1 with
    | false =>
      go_enter Tryz.func12, Tryz.ntmps12
      go_wp2_with (first | (refine wl_box rfl _ _ rfl HO.out (av ma ua (.slice A n c) ba).toArray (by rfl) ?_; intro g1 w1 hO; have HO1 := Lib.hid hO; clear hO HO) | (refine wl_box rfl _ _ rfl HO1.out (av mb ub (.slice B m d) bb).toArray (by rfl) ?_; intro g2 w2 hO; have HO2 := Lib.hid hO; clear hO HO1; have c0 : w2.cell? ⟨g1, 0, none⟩ = some (.string ma) := HO2.out.cell (.tail _ (.head _)) 0; have c1 : w2.cell? ⟨g1, 1, none⟩ = some (.string ua) := HO2.out.cell (.tail _ (.head _)) 1; have c2 : w2.cell? ⟨g1, 2, none⟩ = some (.slice A n c) := HO2.out.cell (.tail _ (.head _)) 2; have c3 : w2.cell? ⟨g1, 3, none⟩ = some (.string ba) := HO2.out.cell (.tail _ (.head _)) 3; have d0 : w2.cell? ⟨g2, 0, none⟩ = some (.string mb) := HO2.out.cell (.head _) 0; have d1 : w2.cell? ⟨g2, 1, none⟩ = some (.string ub) := HO2.out.cell (.head _) 1; have d2 : w2.cell? ⟨g2, 2, none⟩ = some (.slice B m d) := HO2.out.cell (.head _) 2; have d3 : w2.cell? ⟨g2, 3, none⟩ = some (.string bb) := HO2.out.cell (.head _) 3))
      go_ret
      exact ⟨rfl, HO2.out.tail.tail⟩
    | true =>
      cases b2 with
      | false =>
        go_enter Tryz.func12, Tryz.ntmps12
        go_wp2_with (first | (refine wl_box rfl _ _ rfl HO.out (av ma ua (.slice A n c) ba).toArray (by rfl) ?_; intro g1 w1 hO; have HO1 := Lib.hid hO; clear hO HO) | (refine wl_box rfl _ _ rfl HO1.out (av mb ub (.slice B m d) bb).toArray (by rfl) ?_; intro g2 w2 hO; have HO2 := Lib.hid hO; clear hO HO1; have c0 : w2.cell? ⟨g1, 0, none⟩ = some (.string ma) := HO2.out.cell (.tail _ (.head _)) 0; have c1 : w2.cell? ⟨g1, 1, none⟩ = some (.string ua) := HO2.out.cell (.tail _ (.head _)) 1; have c2 : w2.cell? ⟨g1, 2, none⟩ = some (.slice A n c) := HO2.out.cell (.tail _ (.head _)) 2; have c3 : w2.cell? ⟨g1, 3, none⟩ = some (.string ba) := HO2.out.cell (.tail _ (.head _)) 3; have d0 : w2.cell? ⟨g2, 0, none⟩ = some (.string mb) := HO2.out.cell (.head _) 0; have d1 : w2.cell? ⟨g2, 1, none⟩ = some (.string ub) := HO2.out.cell (.head _) 1; have d2 : w2.cell? ⟨g2, 2, none⟩ = some (.slice B m d) := HO2.out.cell (.head _) 2; have d3 : w2.cell? ⟨g2, 3, none⟩ = some (.string bb) := HO2.out.cell (.head _) 3))
        go_ret
        exact ⟨rfl, HO2.out.tail.tail⟩
      | true => exact absurd ⟨rfl, rfl⟩ h12
theorem hl_back (hs : HBL) : (hl hs).map toB = hs := by
  unfold hl
  rw [List.map_map]
  conv => rhs; rw [← List.map_id hs]
  refine List.map_congr_left (fun x _ => ?_)
  obtain ⟨a, b⟩ := x
  simp only [Function.comp, toB, str_sb, id]
theorem hl_inj {hs ks : HBL} (h : hl hs = hl ks) : hs = ks := by rw [← hl_back hs, ← hl_back ks, h]
theorem hl_byt (hs : HBL) : ∀ x ∈ hl hs, Byt x.1 ∧ Byt x.2 := by
  intro x hx
  obtain ⟨y, _, rfl⟩ := List.mem_map.1 hx
  exact ⟨byt_sb _, byt_sb _⟩
theorem ask_byt {m u : ByteArray} {hs : HBL} {b : ByteArray} {t : List Int} (h : askP (aL m u hs b) = some t) : Byt t :=
  askP_byt (byt_sb m) (byt_sb u) (hl_byt hs) (byt_sb b) h
/-- Two requests that have texts have one text where they are the same, and there alone. -/
theorem ask_same {m1 u1 m2 u2 b1 b2 : ByteArray} {hs1 hs2 : HBL} {t1 t2 : List Int} (h1 : askP (aL m1 u1 hs1 b1) = some t1) (h2 : askP (aL m2 u2 hs2 b2) = some t2) :
    ((strOfNums t1).toList == (strOfNums t2).toList) = (decide (m1 = m2) && (decide (u1 = u2) && (decide (hs1 = hs2) && decide (b1 = b2)))) := by
  rw [beq_ba, Bool.eq_iff_iff]
  simp only [Bool.and_eq_true, decide_eq_true_eq]
  constructor
  · intro h
    have ht : t1 = t2 := by rw [← sb_str (ask_byt h1), ← sb_str (ask_byt h2), h]
    subst ht
    have ha := askP_inj (byt_sb u1) (byt_sb u2) h1 h2
    unfold aL at ha
    injection ha with e1 e2 e3 e4
    exact ⟨sb_inj e1, sb_inj e2, hl_inj e3, sb_inj e4⟩
  · rintro ⟨rfl, rfl, rfl, rfl⟩
    rw [Option.some.inj (h1.symm.trans h2)]
section
variable {w0 w : World} {R : Blks} (hV : VarsOk w0) (hO : Own w0 w R) (m u : ByteArray) (v : Value) (hs : HBL) (hR : HRd w0 R v hs) (body : ByteArray)
    (hm : m.size ≤ 100000000) (hu : u.size ≤ 5000000) (hb : body.size ≤ 100000000) (hh : (headsP (hl hs)).length ≤ 100000000)
include hV hO hR hm hu hb hh
theorem aprint_no (h : askP (aL m u hs body) = none) : Calls Tryz.prog 6 #[.agg (av m u v body).toArray] w fun e w' => e = .returned (.tuple #[.string ⟨#[]⟩, .int .i64 1]) ∧ Own w0 w' R := by
  have := aprint_c hV hO m u v hs hR body hm hu hb hh
  rw [h] at this
  exact this
theorem aprint_yes {t : List Int} (h : askP (aL m u hs body) = some t) : Calls Tryz.prog 6 #[.agg (av m u v body).toArray] w fun e w' => e = .returned (.tuple #[.string (strOfNums t), .int .i64 0]) ∧ Own w0 w' R := by
  have := aprint_c hV hO m u v hs hR body hm hu hb hh
  rw [h] at this
  exact this
end
/-- A text: what lies ahead of the body is not long. -/
theorem ask_shape {a : AL} {t : List Int} (h : askP a = some t) : ∃ pre, t = pre ++ a.body ∧ 2 ≤ pre.length ∧ pre.length ≤ 200 + (headsP a.hs).length := by
  unfold askP at h
  rw [Option.bind_eq_some_iff] at h
  obtain ⟨u, hp, h⟩ := h
  split at h
  · rename_i hok
    cases h
    have h1 := parse_small hp
    have h2 := hok.2.1.2.1
    have h3 := (digs_len a.body.length).2
    have h4 : (lenT a.body).length ≤ 39 := by
      unfold lenT
      split
      · simp
      · simp only [headP, clW, List.length_append, List.length_cons, List.length_nil]; omega
    rw [printI_parts] at h1
    refine ⟨topA a.m u ++ (headsP a.hs ++ (lenT a.body ++ [13, 10])), ?_, ?_, ?_⟩
    · unfold textA; simp
    · unfold topA
      simp only [List.length_append, List.length_cons, List.length_nil]; omega
    · unfold topA
      simp only [List.length_append, List.length_cons, List.length_nil, http11, hostW, schemeW] at h1 ⊢
      omega
  · cases h
/-- The text of a request: its end is the body, and it is longer. -/
theorem ask_ends {m u : ByteArray} {hs : HBL} {b : ByteArray} {t : List Int} (h : askP (aL m u hs b) = some t) :
    ∃ k, 2 ≤ k ∧ k ≤ 200 + (headsP (hl hs)).length ∧ (strOfNums t).size = k + b.size ∧ (strOfNums t).extract k (strOfNums t).size = b := by
  obtain ⟨pre, rfl, h1, h2⟩ := ask_shape h
  refine ⟨pre.length, h1, h2, ?_, ?_⟩
  · rw [strOfNums_size, List.length_append]; simp only [aL, length_sb]
  · rw [strs_app]
    simp only [aL, str_sb]
    exact ByteArray.extract_append_eq_right (by rw [strOfNums_size]) (by rw [ByteArray.size_append])
theorem aparse_back {w0 w : World} {R : Blks} (hV : VarsOk w0) (hO : Own w0 w R) {m u : ByteArray} {hs : HBL} {b : ByteArray} {t : List Int} (h : askP (aL m u hs b) = some t) (hz : (strOfNums t).size ≤ 4000000) :
    Calls Tryz.prog 10 #[.string (strOfNums t)] w fun e w' => ∃ A c L, e = .returned (.tuple #[.agg (av m u (.slice A hs.length c) b).toArray, .int .i64 0]) ∧ IsHeads (.slice A hs.length c) hs L ∧ Own w0 w' (L ++ R) := by
  have hp := aparse_c hV hO (strOfNums t) hz
  rw [sb_str (ask_byt h), askI_print (byt_sb u) h] at hp
  refine hp.mono ?_
  intro e w' hg
  obtain ⟨A, c, L, rfl, hv, hO⟩ := hg.yes
  have hln : (aL m u hs b).hs.length = hs.length := by simp [aL, hl]
  rw [hln] at hv ⊢
  refine ⟨A, c, L, ?_, ?_, hO⟩
  · simp only [aL, str_sb]
  · simpa only [aL, hl_back] using hv
theorem headsP_ge : ∀ l : HL, l.length ≤ (headsP l).length := by
  intro l
  induction l with
  | nil => simp
  | cons h t ih => simp only [headsP, List.flatMap_cons, List.length_append, List.length_cons, headP, List.length_nil] at ih ⊢; omega
theorem ask_heads {a : AL} {t : List Int} (h : askP a = some t) : a.hs.length ≤ t.length := by
  unfold askP at h
  rw [Option.bind_eq_some_iff] at h
  obtain ⟨u, hp, h⟩ := h
  split at h
  · cases h
    have := headsP_ge a.hs
    unfold textA
    simp only [List.length_append]; omega
  · cases h
/-- What both read of a text: the same. -/
def Told (W : World) (f : FuncId) (y : ByteArray) (x : Value) (M U B : ByteArray) (hz : HBL) (k : Nat) : Prop :=
  ∀ (w : World) (R : Blks), Own W w R → Calls Tryz.prog f #[.string y] w fun e w' => ∃ A c L, e = .returned (.tuple #[.agg (av M U (.slice A k c) B).toArray, x]) ∧ IsHeads (.slice A k c) hz L ∧ Own W w' (L ++ R)
theorem told_both {W : World} (hV : VarsOk W) (y : ByteArray) (hy : y.size ≤ 4000000) :
    ∃ M U B hz k f b, ((f = 0 ∧ b = true) ∨ (f = 2 ∧ b = false)) ∧ hz.length = k ∧ k ≤ 1073741824 ∧ Told W 10 y (.int .i64 f) M U B hz k ∧ Told W 11 y (.bool b) M U B hz k := by
  cases h : askI (sb y) with
  | none =>
    refine ⟨⟨#[]⟩, ⟨#[]⟩, ⟨#[]⟩, [], 0, 2, false, .inr ⟨rfl, rfl⟩, rfl, by omega, fun w R hO => ?_, fun w R hO => ?_⟩
    · have hp := aparse_c hV hO y hy
      rw [h] at hp
      refine hp.mono fun e w' hg => ?_
      obtain ⟨v, L, rfl, hv, hO⟩ := hg
      obtain ⟨A, c, rfl⟩ := IsRow.val hv
      exact ⟨A, c, L, rfl, hv, hO⟩
    · have hp := rparseAsk_c hO y hy
      rw [h] at hp
      refine hp.mono fun e w' hg => ?_
      obtain ⟨v, L, rfl, hv, hO⟩ := hg
      obtain ⟨A, c, rfl⟩ := IsRow.val hv
      exact ⟨A, c, L, rfl, hv, hO⟩
  | some a =>
    have hk := ask_heads (askI_is h)
    rw [length_sb] at hk
    refine ⟨strOfNums a.m, strOfNums a.u, strOfNums a.body, a.hs.map toB, a.hs.length, 0, true, .inl ⟨rfl, rfl⟩, by rw [List.length_map], by omega, fun w R hO => ?_, fun w R hO => ?_⟩
    · have hp := aparse_c hV hO y hy
      rw [h] at hp
      exact hp.mono fun e w' hg => hg.yes
    · have hp := rparseAsk_c hO y hy
      rw [h] at hp
      exact hp.mono fun e w' hg => hg.yes
end Go.Proofs.YtlcolabblpikjaaGreatDoor
/-
  From a row's list of package-level variables, and the shape of its first world, to what the landed program's calls ask; a world for the witness.
-/
namespace Go.Proofs.YtlcolabblpikjaaGreatDoor
set_option linter.unusedVariables false
set_option linter.unusedSimpArgs false
set_option maxRecDepth 100000
open Go.ChangeShapes Go.WideShapes Go.ChangeAt Go.RowKit
open Go.ChangeMaps (open_string shut_string)

theorem own_none : ownKnob Tryz.prog.godebug = none := by kernel_rfl
theorem tens_named : Tryz.prog.globalNamed "internal/strconv.uint64pow10" = some 1 := by kernel_rfl
theorem tens_type : (Tryz.prog.globals[1]?).map (·.type) = some 123 := by kernel_rfl
theorem tens_cells : Tryz.prog.cellsOf 123 = 20 := by kernel_rfl
theorem u64_cells : Tryz.prog.cellsOf 110 = 1 := by kernel_rfl
/-- The variables that every row of this seat lists. -/
def laidAll : List (String × DataW Unit) := [("math/bits.deBruijn32tab", Rows.laid_math_bits_deBruijn32tab), ("math/bits.deBruijn64tab", Rows.laid_math_bits_deBruijn64tab), ("internal/strconv.uint64pow10", Rows.laid_internal_strconv_uint64pow10), ("unicode/utf8.acceptRanges", Rows.laid_unicode_utf8_acceptRanges), ("unicode/utf8.first", Rows.laid_unicode_utf8_first)]
theorem vars_of {W : World} (h : laidMetH Tryz.prog laidAll W) (hsh : W.ShapedOpen Tryz.prog) : VarsOk W where
  most := Tryz.laysM145.s1_3 W hsh
  tens := by
    have h1 : laidMet Tryz.prog laidAll W := h
    exact Lib.tabIs_of_head (rest := [("unicode/utf8.acceptRanges", Rows.laid_unicode_utf8_acceptRanges), ("unicode/utf8.first", Rows.laid_unicode_utf8_first)]) tens_named tens_type Tryz.underlying123 Tryz.underlying110 u64_cells tens_cells h1.tail.tail
/-! ### a world that holds them -/
def dat1 : DataW Unit → List Value
  | .lit (.int k n) => [.int k n]
  | _ => []
def dat2 : DataW Unit → List Value
  | .agg ds => ds.flatMap dat1
  | _ => []
def dat3 : DataW Unit → List Value
  | .agg ds => ds.flatMap fun d => dat1 d ++ dat2 d
  | _ => []
def laying (d : DataW Unit) : Obj → Obj
  | .cells _ t frozen => .cells (dat3 d).toArray t frozen
  | o => o
noncomputable def laidWorld (os : Os) : World :=
  { World.holding Tryz.prog os ⟨#[], #[], []⟩ with heap := (((((World.holding Tryz.prog os ⟨#[], #[], []⟩).heap.modify 4 (laying Rows.laid_math_bits_deBruijn32tab)).modify 5 (laying Rows.laid_math_bits_deBruijn64tab)).modify 1 (laying Rows.laid_internal_strconv_uint64pow10)).modify 3 (laying Rows.laid_unicode_utf8_acceptRanges)).modify 2 (laying Rows.laid_unicode_utf8_first) }
/-- What the form's reach says of a string that came in. -/
theorem string_reach {P : Program} {H : Type} {ts : List TypeId} {ds : List (DataW H)} {j : Nat} {t : TypeId} {s : ByteArray} (h : (DataW.weightsEach P ts ds).all (· ≤ reachBytes) = true) (ht : ts[j]? = some t) (hd : ds[j]? = some (.lit (.string s.data.toList))) : s.size ≤ 140737488351232 := by
  have h1 := sized_string h ht hd
  have h2 := reachBytes_lt
  have e : s.data.toList.length = s.size := by simp
  have h3 : reachBytes ≤ 140737488351232 := by decide
  omega
end Go.Proofs.YtlcolabblpikjaaGreatDoor
