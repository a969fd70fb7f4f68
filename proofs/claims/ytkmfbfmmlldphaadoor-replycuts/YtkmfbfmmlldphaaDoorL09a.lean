/-
  What the laws of chapter 9 share.
-/
import Derived.Test.YtkmfbfmmlldphaaDoorRepP
namespace Go.Proofs.YtkmfbfmmlldphaaDoor
set_option linter.unusedVariables false
set_option linter.unusedSimpArgs false
set_option maxRecDepth 20000
open Go.RowKit

theorem GotRep.no {w0 : World} {R : Blks} {y n : Value} {e : Ending} {w' : World} (h : GotRep w0 R none y n e w') : ∃ A c, e = .returned (.tuple #[.agg (rv 0 (.slice A 0 c) ⟨#[]⟩ false).toArray, n]) ∧ Own w0 w' R := by
  obtain ⟨v, L, rfl, hv, hO⟩ := h
  obtain ⟨A, c, rfl⟩ := IsRow.val hv
  exact ⟨A, c, rfl, hO.right⟩
theorem GotRep.yes {w0 : World} {R : Blks} {y n : Value} {e : Ending} {w' : World} {r : RL} (h : GotRep w0 R (some r) y n e w') : ∃ A c L, e = .returned (.tuple #[.agg (rv r.code (.slice A r.heads.length c) (strOfNums r.body) r.cut).toArray, y]) ∧ IsHeads (.slice A r.heads.length c) (r.heads.map toB) L ∧ Own w0 w' (L ++ R) := by
  obtain ⟨v, L, rfl, hv, hO⟩ := h
  obtain ⟨A, c, hve⟩ := IsRow.val hv
  rw [List.length_map] at hve
  subst hve
  exact ⟨A, c, L, rfl, hv, hO⟩
def wake9 : List Int := [72, 84, 84, 80, 47, 49, 46, 49, 32, 50, 48, 48, 32, 45, 13, 10, 13, 10]
theorem wake9_is : replyI wake9 = some ⟨200, [], [], false⟩ := by kernel_rfl
set_option maxHeartbeats 4000000 in
theorem wakes9_c {w0 w : World} {R : Blks} (hV : MostOk w0) (hO : Own w0 w R) : Calls Tryd.prog 13 #[] w fun e w' => e = .returned (.bool true) ∧ Own w0 w' R := by
  have hp := rparse_c hV hO ⟨#[72, 84, 84, 80, 47, 49, 46, 49, 32, 50, 48, 48, 32, 45, 13, 10, 13, 10]⟩ (by decide)
  rw [show sb ⟨#[72, 84, 84, 80, 47, 49, 46, 49, 32, 50, 48, 48, 32, 45, 13, 10, 13, 10]⟩ = wake9 from rfl, wake9_is] at hp
  have HP := Lib.hid hp
  clear hp hV hO
  go_enter Tryd.func13, Tryd.ntmps13
  go_wp2_with fail
  with_reducible refine HP.out.mono ?_
  rintro e w1 ⟨v, L, rfl, hv, hO1⟩
  obtain ⟨A, c, hve⟩ := IsRow.val hv
  have hln : (List.map toB (Option.getD (some (⟨200, [], [], false⟩ : RL)) RL.zero).heads).length = 0 := rfl
  rw [hln] at hve
  subst hve
  have HO1 := Lib.hid hO1.right; clear hO1 HP hv hln
  simp only [Option.getD_some, Option.isSome_some, str_nil]
  go_wp2_with (first | (refine wl_alloc rfl _ rfl HO1.out _ (alloc_rep _) ?_; intro g w2 hO; have HO2 := Lib.hid hO; clear hO HO1) | (refine wl_store rfl _ _ _ rfl HO2.out 0 g 0 _ (rv 200 (.slice A 0 c) ⟨#[]⟩ false) _ rfl (by rfl) (by rfl) rep_size (one_rv rfl) (by simp [rv]) ?_; intro w3 hO; have HO3 := Lib.hid (hO.cast (L' := (g, .cells (rv 200 (.slice A 0 c) ⟨#[]⟩ false).toArray 24) :: R) rfl); clear hO HO2; have hc0 : w3.cell? ⟨g, 0, none⟩ = some (.int .i64 200) := HO3.out.cell (.head _) 0; have hc1 : w3.cell? ⟨g, 1, none⟩ = some (.slice A 0 c) := HO3.out.cell (.head _) 1; have hc2 : w3.cell? ⟨g, 2, none⟩ = some (.string ⟨#[]⟩) := HO3.out.cell (.head _) 2; have hc3 : w3.cell? ⟨g, 3, none⟩ = some (.bool false) := HO3.out.cell (.head _) 3))
  go_ret
  exact ⟨rfl, HO3.out.tail⟩
theorem headOk_byt {h : List Int × List Int} (hk : HeadOk h) : Byt h.1 ∧ Byt h.2 :=
  ⟨fun x hx => by have := hk.1.1 x hx; unfold NB at this; omega, fun x hx => by have := hk.2.1 x hx; omega⟩
theorem replyP_byt {c : Nat} {hs : HL} {body : List Int} (hk : ∀ h ∈ hs, Byt h.1 ∧ Byt h.2) (hb : Byt body) : Byt (replyP c hs body) := by
  intro x hx
  simp only [replyP, List.mem_append] at hx
  rcases hx with hx | hx | hx | hx | hx | hx
  · have : ∀ x ∈ verI, 0 ≤ x ∧ x ≤ 255 := by decide
    exact this x hx
  · exact digs_byt c x hx
  · have : ∀ x ∈ ([32, 45, 13, 10] : List Int), 0 ≤ x ∧ x ≤ 255 := by decide
    exact this x hx
  · simp only [headsP, List.mem_flatMap, headP, List.mem_append] at hx
    obtain ⟨h, hh, hx⟩ := hx
    have hq := hk h hh
    have h1 : ∀ x ∈ ([58, 32] : List Int), 0 ≤ x ∧ x ≤ 255 := by decide
    have h2 : ∀ x ∈ ([13, 10] : List Int), 0 ≤ x ∧ x ≤ 255 := by decide
    rcases hx with hx | hx | hx | hx
    · exact hq.1 x hx
    · exact h1 x hx
    · exact hq.2 x hx
    · exact h2 x hx
  · have : ∀ x ∈ ([13, 10] : List Int), 0 ≤ x ∧ x ≤ 255 := by decide
    exact this x hx
  · exact hb x hx
theorem isHeads_one (g : Nat) (h : ByteArray × ByteArray) : IsHeads (.slice (some ⟨g, 0, none⟩) 1 1) [h] [(g, .cells (hv2 h).toArray 30)] :=
  ⟨rfl, .inr ⟨g, 1, [], rfl, by simp [hv], by simp [hv, hv2], Nat.le_refl _, by simp [maxLen]⟩⟩
theorem digs_lt {q n : Nat} (hq : q < 10 ^ 19) (h : (digs q).length ≤ n) : q < 10 ^ n := by
  have h1 := figF_bound (digs q) 0 0 (by omega) (by decide) (digs_dig q)
  have h2 := fig_digs hq
  unfold figN at h2
  rw [h2] at h1
  have h3 : (10 : Int) ^ (0 + (digs q).length) ≤ 10 ^ n := by exact_mod_cast Nat.pow_le_pow_right (by omega) (by omega)
  have h4 : (q : Int) < ((10 ^ n : Nat) : Int) := by push_cast; omega
  exact_mod_cast h4
/-! ### digits, one by one from behind -/
def dg (k : Nat) : List Int := if k = 0 then [] else digs k
theorem digs_dg {k : Nat} (h : k < 10 ^ 19) : digs k = dg (k / 10) ++ [48 + ((k % 10 : Nat) : Int)] := by
  by_cases h1 : k < 10
  · rw [digs_small h1, dg, if_pos (by omega), Nat.mod_eq_of_lt h1]; rfl
  · rw [digs_step (by omega) h, dg, if_neg (by omega)]
def DigTo (m k : Nat) (dl : List Int) : Prop := (dl = [] ∧ k = m) ∨ (dl ≠ [] ∧ digs m = dg k ++ dl)
theorem DigTo.next {m k : Nat} {dl : List Int} (h : DigTo m k dl) (hk : k < 10 ^ 19) (hc : dl = [] ∨ 0 < k) : DigTo m (k / 10) ([48 + (k : Int) % 10] ++ dl) := by
  rw [show (k : Int) % 10 = ((k % 10 : Nat) : Int) by omega]
  refine .inr ⟨by simp, ?_⟩
  rcases h with ⟨rfl, rfl⟩ | ⟨h1, h2⟩
  · rw [digs_dg hk]; simp
  · have hk0 : 0 < k := hc.resolve_left h1
    rw [h2, dg, if_neg (by omega), digs_dg hk, List.append_assoc]
theorem DigTo.done {m k : Nat} {dl : List Int} (h : DigTo m k dl) (h1 : dl ≠ []) (h2 : ¬ 0 < k) : dl = digs m := by
  rcases h with ⟨e, _⟩ | ⟨_, h3⟩
  · exact absurd e h1
  · rw [h3, dg, if_pos (by omega)]; rfl
set_option maxHeartbeats 4000000 in
theorem same9_c {w0 w : World} {R : Blks} (hO : Own w0 w R) (ca cb : Int) (va vb : Value) (hs ks : HBL) (ha : HRd w0 R va hs) (hb : HRd w0 R vb ks) (ba bb : ByteArray) (xa xb : Bool) (hl : hs.length ≤ 1073741824) :
    Calls Tryd.prog 16 #[.agg (rv ca va ba xa).toArray, .agg (rv cb vb bb xb).toArray] w fun e w' => e = .returned (.bool (decide (ca = cb) && (decide (hs = ks) && (decide (ba = bb) && (xa == xb))))) ∧ Own w0 w' R := by
  obtain ⟨A, n, c, rfl, _, _, _⟩ := ha w [] hO
  obtain ⟨B, m, d, rfl, _, _, _⟩ := hb w [] hO
  have HO := Lib.hid hO; have HA := Lib.hid ha; have HB := Lib.hid hb
  clear hO ha hb
  obtain ⟨b1, hb1⟩ : ∃ b, decide (ca = cb) = b := ⟨_, rfl⟩
  obtain ⟨b2, hb2⟩ : ∃ b, decide (hs = ks) = b := ⟨_, rfl⟩
  obtain ⟨b3, hb3⟩ : ∃ b, decide (ba = bb) = b := ⟨_, rfl⟩
  obtain ⟨b4, hb4⟩ : ∃ b, (xa == xb) = b := ⟨_, rfl⟩
  have e1 : (ca == cb) = b1 := hb1
  have e3 : (ba.toList == bb.toList) = b3 := by rw [beq_ba, hb3]
  have e4 : (xa == xb) = b4 := hb4
  rw [hb1, hb2, hb3, hb4]
  have HB2 := Lib.hid hb2
  clear hb1 hb2 hb3 hb4
  cases b1 with
  | false =>
    go_enter Tryd.func16, Tryd.ntmps16
    go_wp2_with (first | (refine wl_box rfl _ _ rfl HO.out (rv ca (.slice A n c) ba xa).toArray (by rfl) ?_; intro g1 w1 hO; have HO1 := Lib.hid hO; clear hO HO) | (refine wl_box rfl _ _ rfl HO1.out (rv cb (.slice B m d) bb xb).toArray (by rfl) ?_; intro g2 w2 hO; have HO2 := Lib.hid hO; clear hO HO1; have c0 : w2.cell? ⟨g1, 0, none⟩ = some (.int .i64 ca) := HO2.out.cell (.tail _ (.head _)) 0; have c1 : w2.cell? ⟨g1, 1, none⟩ = some (.slice A n c) := HO2.out.cell (.tail _ (.head _)) 1; have d0 : w2.cell? ⟨g2, 0, none⟩ = some (.int .i64 cb) := HO2.out.cell (.head _) 0; have d1 : w2.cell? ⟨g2, 1, none⟩ = some (.slice B m d) := HO2.out.cell (.head _) 1))
    go_ret
    exact ⟨rfl, HO2.out.tail.tail⟩
  | true =>
    go_enter Tryd.func16, Tryd.ntmps16
    go_wp2_with (first | (refine wl_box rfl _ _ rfl HO.out (rv ca (.slice A n c) ba xa).toArray (by rfl) ?_; intro g1 w1 hO; have HO1 := Lib.hid hO; clear hO HO) | (refine wl_box rfl _ _ rfl HO1.out (rv cb (.slice B m d) bb xb).toArray (by rfl) ?_; intro g2 w2 hO; have HO2 := Lib.hid hO; clear hO HO1; have c0 : w2.cell? ⟨g1, 0, none⟩ = some (.int .i64 ca) := HO2.out.cell (.tail _ (.head _)) 0; have c1 : w2.cell? ⟨g1, 1, none⟩ = some (.slice A n c) := HO2.out.cell (.tail _ (.head _)) 1; have d0 : w2.cell? ⟨g2, 0, none⟩ = some (.int .i64 cb) := HO2.out.cell (.head _) 0; have d1 : w2.cell? ⟨g2, 1, none⟩ = some (.slice B m d) := HO2.out.cell (.head _) 1))
    have hcall := sameH_c (w := w2) (.slice A n c) (.slice B m d) hs ks (HA.out w2 [_, _] HO2.out) (HB.out w2 [_, _] HO2.out) hl
    rw [HB2.out] at hcall
    clear c0 c1 d0 d1
    with_reducible refine hcall.mono ?_
    clear hcall
    rintro e w3 ⟨rfl, qq, hww⟩
    have HO3 := Lib.hid (HO2.out.drewN qq); rw [← hww] at HO3; clear hww HO2
    cases b2 with
    | false =>
      go_wp2
      go_ret
      exact ⟨rfl, HO3.out.tail.tail⟩
    | true =>
      have c2 : w3.cell? ⟨g1, 2, none⟩ = some (.string ba) := HO3.out.cell (.tail _ (.head _)) 2
      have c3 : w3.cell? ⟨g1, 3, none⟩ = some (.bool xa) := HO3.out.cell (.tail _ (.head _)) 3
      have d2 : w3.cell? ⟨g2, 2, none⟩ = some (.string bb) := HO3.out.cell (.head _) 2
      have d3 : w3.cell? ⟨g2, 3, none⟩ = some (.bool xb) := HO3.out.cell (.head _) 3
      cases b3 with
      | false =>
        go_wp2
        go_ret
        exact ⟨rfl, HO3.out.tail.tail⟩
      | true =>
        go_wp2
        go_ret
        exact ⟨rfl, HO3.out.tail.tail⟩
end Go.Proofs.YtkmfbfmmlldphaaDoor
