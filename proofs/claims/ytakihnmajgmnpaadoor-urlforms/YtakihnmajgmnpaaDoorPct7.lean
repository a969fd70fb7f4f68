/-
  The document's Trim.
-/
import Derived.Test.YtakihnmajgmnpaaDoorPct6
namespace Go.Proofs.YtakihnmajgmnpaaDoor
set_option linter.unusedVariables false
set_option linter.unusedSimpArgs false
set_option maxRecDepth 20000
open Go.RowKit

theorem sb_pop (t : ByteArray) (k : Nat) : sb (t.extract 0 k) = (sb t).take k := by rw [sb_extract]; rfl
theorem sb_last (t : ByteArray) (h : 0 < t.size) : sb t = (sb t).take (t.size - 1) ++ [(sb t).getD (t.size - 1) 0] := by
  have hl := length_sb t
  have h1 : t.size - 1 < (sb t).length := by omega
  have := List.take_succ_eq_append_getElem h1
  rw [show t.size - 1 + 1 = (sb t).length by omega, List.take_length] at this
  rw [List.getD_eq_getElem?_getD, List.getElem?_eq_getElem h1, Option.getD_some]
  exact this
set_option maxHeartbeats 4000000 in
theorem rtrim_c {w : World} (s : ByteArray) (hs : s.size ≤ 1073741824) :
    Calls Tryd.prog 31 #[.string s] w fun e w' => e = .returned (.string (strOfNums (trimI (sb s)))) ∧ w = w' := by
  obtain ⟨l, hl⟩ : ∃ l, trimI (sb s) = l := ⟨_, rfl⟩
  have HT0 := Lib.hid hl
  rw [hl]
  clear hl
  go_enter Tryd.func31, Tryd.ntmps31
  go_wp2
  go_loopw [0] (fun u w' => ∃ t, u = .string t ∧ Hid (trimI (sb t) = l) ∧ Hid (t.size ≤ 1073741824) ∧ w' = w) (fun u _ => strSize u)
  case atStart => exact ⟨s, rfl, HT0, Lib.hid hs, rfl⟩
  case round =>
    obtain ⟨t, rfl, HT, HS, rfl⟩ := hrel
    by_cases hlt : 0 < t.size
    · have hix := index_sb0 wr t hlt
      have hcons : ∃ r, sb t = (sb t).getD 0 0 :: r := by
        cases h : sb t with
        | nil => have := length_sb t; rw [h] at this; simp at this; omega
        | cons x r => exact ⟨r, rfl⟩
      obtain ⟨r, hr⟩ := hcons
      have hsz := HS.out
      have ht0 : (0 : Int) < t.size := by omega
      have ht1 : (1 : Int) ≤ t.size := by omega
      generalize hx : (sb t).getD 0 0 = x at *
      have HR := Lib.hid hr
      clear hr hx
      by_cases hb : x ≤ 32
      · have h1 : trimI (sb (t.extract 1 t.size)) = l := by rw [sb_from, ← HT.out, HR.out, trim_front ((blank_iff x).2 hb)]; rfl
        have h2 : (t.extract 1 t.size).size < t.size := by rw [← length_sb, sb_from, List.length_drop, length_sb]; omega
        have H1 := Lib.hid h1; have H2 := Lib.hid h2
        clear h1 h2
        go_wp2
        go_roundw
        case rel => exact ⟨_, rfl, H1, Lib.hid (by have := H2.out; omega), trivial⟩
        case measure => exact H2.out
      · have hbf : ∀ y q, sb t = y :: q → blank y = false := by
          intro y q e
          rw [HR.out] at e
          injection e with e1 e2
          rw [← e1, ← Bool.not_eq_true, blank_iff]; exact hb
        have HB := Lib.hid hbf
        clear hbf
        go_wp2
        clear hix hb hlt ht0 ht1 hsz
        go_loopw [0] (fun u w' => ∃ t, u = .string t ∧ Hid (trimI (sb t) = l) ∧ Hid (t.size ≤ 1073741824) ∧ Hid (∀ y q, sb t = y :: q → blank y = false) ∧ w' = wr) (fun u _ => strSize u)
        case atStart => exact ⟨t, rfl, HT, HS, HB, rfl⟩
        case round =>
          clear HT HS HB HR
          obtain ⟨t, rfl, HT, HS, HB, rfl⟩ := hrel
          by_cases hlt : 0 < t.size
          · have hix := index_at wr t (t.size - 1) ((t.size : Int) - 1) (by omega) (by omega)
            have hla := sb_last t hlt
            have hsz := HS.out
            have ht0 : (0 : Int) < t.size := by omega
            have ht1 : (1 : Int) ≤ t.size := by omega
            generalize hy : (sb t).getD (t.size - 1) 0 = y at *
            have HLA := Lib.hid hla
            clear hla hy
            by_cases hb : y ≤ 32
            · have h0 : ((t.size : Int) - 1).toNat = t.size - 1 := by omega
              have h1 : trimI (sb (t.extract 0 (t.size - 1))) = l := by
                rw [sb_pop, ← HT.out, ← trim_back ((blank_iff y).2 hb), ← HLA.out]
              have h2 : (t.extract 0 (t.size - 1)).size < t.size := by rw [← length_sb, sb_pop, List.length_take, length_sb]; omega
              have h3 : ∀ y q, sb (t.extract 0 (t.size - 1)) = y :: q → blank y = false := by
                intro y' q e
                rw [sb_pop] at e
                have := HLA.out
                rw [e] at this
                exact HB.out y' _ this
              have H1 := Lib.hid h1; have H2 := Lib.hid h2; have H3 := Lib.hid h3
              clear h1 h2 h3
              go_wp2
              go_roundw
              case rel => exact ⟨_, rfl, H1, Lib.hid (by have := H2.out; omega), H3, trivial⟩
              case measure => exact H2.out
            · have hd : t = strOfNums l := by
                rw [← str_sb t, ← HT.out, trim_done HB.out]
                intro q z e
                rw [HLA.out] at e
                have e2 := (List.append_inj' e rfl).2
                injection e2 with e3
                rw [← e3, ← Bool.not_eq_true, blank_iff]; exact hb
              have HD := Lib.hid hd
              clear hd
              go_wp2
              go_ret
              exact ⟨by rw [← HD.out]; rfl, rfl⟩
          · have ht : sb t = [] := List.eq_nil_of_length_eq_zero (by rw [length_sb]; omega)
            have hd : t = strOfNums l := by rw [← str_sb t, ← HT.out, ht]; rfl
            have HD := Lib.hid hd
            have ht0 : ¬ ((0 : Int) < t.size) := by omega
            clear hd ht
            go_wp2
            go_ret
            exact ⟨by rw [← HD.out]; rfl, rfl⟩
    · have ht : sb t = [] := List.eq_nil_of_length_eq_zero (by rw [length_sb]; omega)
      have hd : t = strOfNums l := by rw [← str_sb t, ← HT.out, ht]; rfl
      have HD := Lib.hid hd
      have ht0 : ¬ ((0 : Int) < t.size) := by omega
      clear hd ht
      go_wp2
      go_loopw [0] (fun u w' => u = .string t ∧ w' = wr) (fun _ _ => 0)
      case atStart => exact ⟨rfl, rfl⟩
      case round =>
        obtain ⟨rfl, rfl⟩ := hrel
        go_wp2
        go_ret
        exact ⟨by rw [← HD.out]; rfl, rfl⟩
end Go.Proofs.YtakihnmajgmnpaaDoor
