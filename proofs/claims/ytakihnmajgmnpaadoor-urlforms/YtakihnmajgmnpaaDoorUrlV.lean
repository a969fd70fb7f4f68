/-
  Package-level variables; the library's calls (cuts, parts, digits) in the words of these texts.
-/
import Derived.Test.YtakihnmajgmnpaaDoorUrlH
import Derived.Test.YtakihnmajgmnpaaDoorShelf
import Derived.Test.YtakihnmajgmnpaaDoorStrs
import Derived.Test.YtakihnmajgmnpaaDoorUrl8
import Derived.Lib.LaidTab
namespace Go.Proofs.YtakihnmajgmnpaaDoor
set_option linter.unusedVariables false
set_option linter.unusedSimpArgs false
set_option maxRecDepth 20000
open Go.RowKit

/-- What package-level variables of the library's hold ahead of the call: a number; the powers of ten. -/
structure VarsOk (w : World) : Prop where
  most : ∃ m, w.cell? ⟨Tryd.lays145_ren.g 1, 0, none⟩ = some (.int .i64 m)
  tens : Lib.TabIs Tryd.prog w "internal/strconv.uint64pow10" .u64 Lib.pow10Tab
theorem VarsOk.on {w0 w : World} (h : VarsOk w0) (hb : Below w0.heap.size w0 w) : VarsOk w where
  most := by
    obtain ⟨m, hm⟩ := h.most
    have hlt := block_lt_of_cell hm
    exact ⟨m, by rw [hb.cell (p := ⟨Tryd.lays145_ren.g 1, 0, none⟩) hlt]; exact hm⟩
  tens := by
    have h := h.tens
    unfold Lib.TabIs World.var? at *
    cases hg : Tryd.prog.globalNamed "internal/strconv.uint64pow10" with
    | none => simp [hg] at h
    | some g =>
      simp only [hg, Option.bind_some] at h ⊢
      have hlt : g < w0.heap.size := by
        rcases Nat.lt_or_ge g w0.heap.size with h' | h'
        · exact h'
        · rw [Array.getElem?_eq_none h'] at h; simp at h
      rw [hb.block g hlt]
      exact h
section
variable {w0 w : World} {R : Blks}
/-- A cut at a byte. -/
theorem lcut_c (hV : VarsOk w0) (hO : Own w0 w R) (s : ByteArray) (hs : s.size ≤ 1073741824) (c : UInt8) (k : Int) (hk : (c.toNat : Int) = k) :
    Calls Tryd.prog 40 #[.string s, .string ⟨#[c]⟩] w fun e w' => e = .returned (.tuple #[.string (strOfNums (ahead [k] (sb s))), .string (strOfNums ((behind [k] (sb s)).drop 1)), .bool (decide (behind [k] (sb s) ≠ []))]) ∧ Own w0 w' R := by
  obtain ⟨m, hm⟩ := (hV.on hO.below).most
  refine (Tryd.strings_Cut s ⟨#[c]⟩ m w (by omega) hm).mono fun e w' ⟨he, n, hw⟩ => ?_
  have h := cut_one c s.data.toList
  rw [hk] at h
  refine ⟨?_, hw ▸ hO.drewN n⟩
  rw [he, sb_nb s]
  show Ending.returned (.tuple #[.string ⟨(Lib.cut s.data.toList [c]).1.toArray⟩, .string ⟨(Lib.cut s.data.toList [c]).2.1.toArray⟩, .bool (Lib.cut s.data.toList [c]).2.2]) = _
  rw [nb_str (Lib.cut s.data.toList [c]).1, nb_str (Lib.cut s.data.toList [c]).2.1]
  rw [h.1, h.2.1, h.2.2]
/-- A cut at the mark behind a scheme. -/
theorem lcut3_c (hV : VarsOk w0) (hO : Own w0 w R) (s : ByteArray) (hs : s.size ≤ 1073741824) :
    Calls Tryd.prog 40 #[.string s, .string ⟨#[58, 47, 47]⟩] w fun e w' => e = .returned (.tuple #[.string (strOfNums (cut3 (sb s)).1), .string (strOfNums (cut3 (sb s)).2), .bool (Lib.cut s.data.toList [58, 47, 47]).2.2]) ∧ Own w0 w' R := by
  obtain ⟨m, hm⟩ := (hV.on hO.below).most
  refine (Tryd.strings_Cut s ⟨#[58, 47, 47]⟩ m w (by omega) hm).mono fun e w' ⟨he, n, hw⟩ => ?_
  have h := cut_mark s.data.toList
  refine ⟨?_, hw ▸ hO.drewN n⟩
  rw [he, sb_nb s]
  show Ending.returned (.tuple #[.string ⟨(Lib.cut s.data.toList [58, 47, 47]).1.toArray⟩, .string ⟨(Lib.cut s.data.toList [58, 47, 47]).2.1.toArray⟩, .bool (Lib.cut s.data.toList [58, 47, 47]).2.2]) = _
  rw [nb_str (Lib.cut s.data.toList [58, 47, 47]).1, nb_str (Lib.cut s.data.toList [58, 47, 47]).2.1]
  rw [h.1, h.2]
/-- Does it begin so? -/
theorem lpre_c (s p : ByteArray) : Calls Tryd.prog 29 #[.string s, .string p] w fun e w' => e = .returned (.bool (begI (sb p) (sb s))) ∧ w = w' := by
  refine (Tryd.strings_HasPrefix s p w).mono fun e w' ⟨he, hw⟩ => ⟨?_, hw.symm⟩
  rw [he, sb_nb, sb_nb, ← pre_begI]
  rfl
/-- The parts between points. -/
theorem lsplit_c (hV : VarsOk w0) (hO : Own w0 w R) (s : ByteArray) (hs : s.size ≤ 1073741824) :
    Calls Tryd.prog 53 #[.string s, .string ⟨#[46]⟩] w fun e w' => ∃ v L, e = .returned v ∧ IsStrs v ((splI 46 (sb s)).map strOfNums) L ∧ Own w0 w' (L ++ R) := by
  obtain ⟨m, hm⟩ := (hV.on hO.below).most
  refine (Tryd.strings_Split s ⟨#[46]⟩ m w (by omega) hm (Nat.le_refl 1)).mono fun e w' ⟨he, hw⟩ => ?_
  have hl := splI_len 46 (sb s)
  rw [length_sb] at hl
  rw [countB_splI] at he
  rw [splitB_sb] at hw
  rw [show ((46 : UInt8).toNat : Int) = 46 from rfl] at he hw
  refine ⟨_, [(w.heap.size, .cells (sv ((splI 46 (sb s)).map strOfNums)).toArray 9)], he, ?_, ?_⟩
  · refine ⟨by simp, .inr ⟨w.heap.size, (splI 46 (sb s)).length, [], by rw [List.length_map], by rw [List.append_nil], by rw [List.append_nil]; simp, by simp, by unfold maxLen; omega⟩⟩
  · rw [hw]; exact hO.alloc _
/-- The digits of a number. -/
theorem litoa_c (hV : VarsOk w0) (hO : Own w0 w R) (n : Int) (h0 : 0 ≤ n) (h1 : n < 1000000000000000000) :
    Calls Tryd.prog 28 #[.int .i64 n] w fun e w' => e = .returned (.string (strOfNums (digs n.toNat))) ∧ Own w0 w' R := by
  have ht := (hV.on hO.below).tens
  refine (Tryd.strconv_Itoa n (by omega) (by omega) w ht).mono fun e w' ⟨he, k, os, hw⟩ => ?_
  obtain ⟨m, rfl⟩ : ∃ m : Nat, n = m := ⟨n.toNat, by omega⟩
  rw [itoa_digs m (by omega)] at he
  refine ⟨he, hO.same ?_⟩
  subst hw
  refine ⟨rfl, rfl, rfl, ?_, fun j hj => ?_⟩
  · show w.heap.size ≤ (w.heap ++ os).size
    rw [Array.size_append]; omega
  · show (w.heap ++ os)[j]? = w.heap[j]?
    rw [Array.getElem?_append_left hj]
end
end Go.Proofs.YtakihnmajgmnpaaDoor
