/-
  Package-level variables of the library's; its calls (cuts, trims, digits, builders) in the words of these texts: what package reply calls.
-/
import Derived.Test.YtkmfbfmmlldphaaDoorRepL
import Derived.Test.YtkmfbfmmlldphaaDoorShelf
import Derived.Test.YtkmfbfmmlldphaaDoorPct6
import Derived.Test.YtkmfbfmmlldphaaDoorUrl3
import Derived.Lib.LaidTab
namespace Go.Proofs.YtkmfbfmmlldphaaDoor
set_option linter.unusedVariables false
set_option linter.unusedSimpArgs false
set_option maxRecDepth 20000
open Go.RowKit

/-- What package-level variables of the library's hold ahead of the call: a number. -/
structure MostOk (w : World) : Prop where
  most : ∃ m, w.cell? ⟨Tryd.lays145_ren.g 1, 0, none⟩ = some (.int .i64 m)
theorem MostOk.on {w0 w : World} (h : MostOk w0) (hb : Below w0.heap.size w0 w) : MostOk w where
  most := by
    obtain ⟨m, hm⟩ := h.most
    have hlt := block_lt_of_cell hm
    exact ⟨m, by rw [hb.cell (p := ⟨Tryd.lays145_ren.g 1, 0, none⟩) hlt]; exact hm⟩
/-- .. and the powers of ten. -/
structure VarsOk (w : World) : Prop extends MostOk w where
  tens : Lib.TabIs Tryd.prog w "internal/strconv.uint64pow10" .u64 Lib.pow10Tab
theorem VarsOk.on {w0 w : World} (h : VarsOk w0) (hb : Below w0.heap.size w0 w) : VarsOk w where
  toMostOk := h.toMostOk.on hb
  tens := by
    have h := h.tens
    unfold Lib.TabIs World.var? at *
    cases hg : Tryd.prog.globalNamed "internal/strconv.uint64pow10" with
    | none => simp [hg] at h
    | some g =>
      simp only [hg, Option.bind_some] at h ⊢
      have hlt : g < w0.heap.size := by
        rcases Nat.lt_or_ge g w0.heap.size with h' | h'
        · exact h'
        · rw [Array.getElem?_eq_none h'] at h; simp at h
      rw [hb.block g hlt]
      exact h
section
variable {w0 w : World} {R : Blks}
/-- A cut at a byte. -/
theorem rcut_c (hV : MostOk w0) (hO : Own w0 w R) (s : ByteArray) (hs : s.size ≤ 1073741824) (c : UInt8) (k : Int) (hk : (c.toNat : Int) = k) :
    Calls Tryd.prog 21 #[.string s, .string ⟨#[c]⟩] w fun e w' => e = .returned (.tuple #[.string (strOfNums (ahead [k] (sb s))), .string (strOfNums ((behind [k] (sb s)).drop 1)), .bool (decide (behind [k] (sb s) ≠ []))]) ∧ Own w0 w' R := by
  obtain ⟨m, hm⟩ := (hV.on hO.below).most
  refine (Tryd.strings_Cut s ⟨#[c]⟩ m w (by omega) hm).mono fun e w' ⟨he, n, hw⟩ => ?_
  have h := cut_one c s.data.toList
  rw [hk] at h
  refine ⟨?_, hw ▸ hO.drewN n⟩
  rw [he, sb_nb s]
  show Ending.returned (.tuple #[.string ⟨(Lib.cut s.data.toList [c]).1.toArray⟩, .string ⟨(Lib.cut s.data.toList [c]).2.1.toArray⟩, .bool (Lib.cut s.data.toList [c]).2.2]) = _
  rw [nb_str (Lib.cut s.data.toList [c]).1, nb_str (Lib.cut s.data.toList [c]).2.1]
  rw [h.1, h.2.1, h.2.2]
/-- A cut at a line's end. -/
theorem rline_c (hV : MostOk w0) (hO : Own w0 w R) (s : ByteArray) (hs : s.size ≤ 1073741824) :
    Calls Tryd.prog 21 #[.string s, .string ⟨#[13, 10]⟩] w fun e w' => e = .returned (.tuple #[.string (strOfNums (cutL (sb s)).1), .string (strOfNums (cutL (sb s)).2.1), .bool (cutL (sb s)).2.2]) ∧ Own w0 w' R := by
  obtain ⟨m, hm⟩ := (hV.on hO.below).most
  refine (Tryd.strings_Cut s ⟨#[13, 10]⟩ m w (by omega) hm).mono fun e w' ⟨he, n, hw⟩ => ?_
  have h := cut_line s.data.toList
  refine ⟨?_, hw ▸ hO.drewN n⟩
  rw [he, sb_nb s]
  show Ending.returned (.tuple #[.string ⟨(Lib.cut s.data.toList [13, 10]).1.toArray⟩, .string ⟨(Lib.cut s.data.toList [13, 10]).2.1.toArray⟩, .bool (Lib.cut s.data.toList [13, 10]).2.2]) = _
  rw [nb_str (Lib.cut s.data.toList [13, 10]).1, nb_str (Lib.cut s.data.toList [13, 10]).2.1]
  rw [h.1, h.2.1, h.2.2]
/-- A prefix cut off. -/
theorem rpre_c (s p : ByteArray) :
    Calls Tryd.prog 40 #[.string s, .string p] w fun e w' => e = .returned (.tuple #[.string (strOfNums (if begI (sb p) (sb s) = true then (sb s).drop (sb p).length else sb s)), .bool (begI (sb p) (sb s))]) ∧ w = w' := by
  refine (Tryd.strings_CutPrefix s p w).mono fun e w' ⟨he, hw⟩ => ⟨?_, hw.symm⟩
  rw [he, nb_str]
  have h1 : Lib.hasPrefix s.data.toList p.data.toList = begI (sb p) (sb s) := by rw [sb_nb, sb_nb, ← pre_begI]; rfl
  have h2 : nb (Lib.trimPrefix s.data.toList p.data.toList) = if begI (sb p) (sb s) = true then (sb s).drop (sb p).length else sb s := by
    unfold Lib.trimPrefix
    rw [h1]
    split
    · rw [sb_nb, sb_nb]; unfold nb; rw [List.map_drop, List.length_map]
    · rfl
  rw [h1, h2]
/-- Blanks at both ends cut off. -/
theorem rtrim_c (hO : Own w0 w R) (s : ByteArray) (hs : s.size ≤ 1073741824) :
    Calls Tryd.prog 49 #[.string s, .string ⟨#[32]⟩] w fun e w' => e = .returned (.string (strOfNums (blanksI (sb s)))) ∧ Own w0 w' R := by
  refine (Tryd.strings_Trim_one s 32 (by decide) w (by omega)).mono fun e w' ⟨he, hw⟩ => ⟨?_, ?_⟩
  · rw [he, nb_str, trim_blanks]; rfl
  · rcases hw with rfl | rfl
    · exact hO
    · exact hO.drew
/-- The digits of a number. -/
theorem ritoa_c (hV : VarsOk w0) (hO : Own w0 w R) (n : Nat) (h1 : n < 1000000000000000000) :
    Calls Tryd.prog 26 #[.int .i64 (n : Int)] w fun e w' => e = .returned (.string (strOfNums (digs n))) ∧ Own w0 w' R := by
  have ht := (hV.on hO.below).tens
  refine (Tryd.strconv_Itoa (n : Int) (by omega) (by omega) w ht).mono fun e w' ⟨he, k, os, hw⟩ => ?_
  rw [itoa_digs n (by omega)] at he
  refine ⟨he, hO.same ?_⟩
  subst hw
  refine ⟨rfl, rfl, rfl, ?_, fun j hj => ?_⟩
  · show w.heap.size ≤ (w.heap ++ os).size
    rw [Array.size_append]; omega
  · show (w.heap ++ os)[j]? = w.heap[j]?
    rw [Array.getElem?_append_left hj]
end
end Go.Proofs.YtkmfbfmmlldphaaDoor
