/-
  The landed program's Print: a builder of its own.
-/
import Derived.Test.YtkmfbfmmlldphaaDoorRepB
import Derived.Test.YtkmfbfmmlldphaaDoorRepP3
import Derived.Test.YtkmfbfmmlldphaaDoorRp3
namespace Go.Proofs.YtkmfbfmmlldphaaDoor
set_option linter.unusedVariables false
set_option linter.unusedSimpArgs false
set_option maxRecDepth 20000
open Go.RowKit

/-- What is owned, all of it below block B. -/
def OwnB (w0 : World) (B : Nat) (w : World) (L : Blks) : Prop := Own w0 w L ∧ (∀ b o, (b, o) ∈ L → b < B) ∧ w0.heap.size ≤ B ∧ B ≤ w.heap.size
theorem OwnB.on {w0 w w' : World} {B : Nat} {L : Blks} (h : OwnB w0 B w L) (hb : Below B w w') : OwnB w0 B w' L := by
  obtain ⟨hO, hl, h0, h1⟩ := h
  refine ⟨⟨hO.below.trans (hb.mono h0), fun g o hm => ⟨hO.base hm, (hb.block g (hl g o hm)).trans (hO.heap hm)⟩, hO.nodup⟩, hl, h0, Nat.le_trans h1 hb.size⟩
section
variable {w0 w : World} {L : Blks} {ops : Array Oper} {rest : List Oper} {op : Oper} {a : Act} {Q : Exit → Act → World → Prop}
theorem wl_bld (hgd : op.guard = none) (ho : op.op = .alloc 61) (hO : Own w0 w L)
    (h : ∀ g w', IsBld g g [] w' → OwnB w0 g w' L → wpList Tryd.prog ops Q rest (a.put op.dst (.pointer (some ⟨g, 0, none⟩))) w') : wpList Tryd.prog ops Q (op :: rest) a w := by
  refine wpList_plain hgd fun K hK => ?_
  unfold Oper.wp
  have hrun : (execOp a.eval op).run Tryd.prog w = .ok (.value (.pointer (some ⟨w.heap.size, 0, none⟩))) (w.alloc (.cells #[.pointer none, .slice none 0 0] 61)) := by
    have := alloc_bld w
    simp [execOp, ho, this]
  rw [hrun]
  have hb : Below w.heap.size w (w.alloc (.cells #[.pointer none, .slice none 0 0] 61)) := (Below.refl _ w).alloc (Nat.le_refl _) _
  exact hK _ _ (h _ _ (IsBld.new w) ⟨hO.same hb, fun b o hm => hO.lt hm, hO.below.size, hb.size⟩)
end
theorem sb_app (s t : ByteArray) : sb (s ++ t) = sb s ++ sb t := by
  unfold sb
  rw [ByteArray.data_append, Array.toList_append, List.map_append]
set_option maxRecDepth 100000 in
set_option maxHeartbeats 8000000 in
theorem rprint_c {w0 w : World} {R : Blks} (hV : VarsOk w0) (hO : Own w0 w R) (code : Nat) (hc : code < 1000000000000000000) (v : Value) (hs : HL) (hR : HRd w0 R v (hs.map toB)) (body : ByteArray) (cut : Bool) (hl : (replyP code hs (sb body)).length ≤ 1073741824) :
    Calls Tryd.prog 10 #[.agg (rv code v body cut).toArray] w fun e w' => e = .returned (.string (strOfNums (replyP code hs (sb body)))) ∧ Own w0 w' R := by
  obtain ⟨A, n, c, rfl, hn, hnc, hA⟩ := hR w [] hO
  rw [List.length_map] at hn
  have hl' : (baseP code).length + ((headsP hs).length + (2 + body.size)) ≤ 1073741824 := by
    rw [replyP_eq] at hl
    simp only [List.length_append, length_sb, List.length_cons, List.length_nil] at hl
    omega
  have hnb : n ≤ 1073741824 := by
    have h4 : ∀ l : HL, l.length ≤ (headsP l).length := by
      intro l
      induction l with
      | nil => simp
      | cons h t ih => simp only [headsP, List.flatMap_cons, List.length_append, List.length_cons, headP, List.length_nil] at ih ⊢; omega
    have := h4 hs
    omega
  have HN := Lib.hid hn; have HRR := Lib.hid hR; have HL := Lib.hid hl'; have HVV := Lib.hid hV
  have HO := Lib.hid hO
  have HFIN : Hid (∀ o : ByteArray, o = strOfNums (baseP code ++ headsP hs) → o ++ (⟨#[13, 10]⟩ ++ body) = strOfNums (replyP code hs (sb body))) := Lib.hid (by
    intro o ho
    rw [ho, replyP_eq, strs_app, strs_app, strs_app, strs_app, str_sb, ByteArray.append_assoc]
    rfl)
  clear hA hn hR hl hl' hO hV
  go_enter Tryd.func10, Tryd.ntmps10
  go_wp2_with (first | (refine wl_box rfl _ _ rfl HO.out (rv code (.slice A n c) body cut).toArray (by rfl) ?_; intro g1 w1 hO; have HO1 := Lib.hid hO; clear hO HO) | (refine wl_bld rfl rfl HO1.out ?_; intro g3 w2 hb hO; have HB := Lib.hid hb; have HO2 := Lib.hid hO; clear hb hO HO1; have hc0 : w2.cell? ⟨g1, 0, none⟩ = some (.int .i64 code) := HO2.out.1.cell (.head _) 0))
  have hit := ritoa_c (HVV.out.on HO2.out.1.below) (Own.start w2) code hc
  with_reducible refine hit.mono ?_
  clear hit
  rintro e w3 ⟨rfl, hbb⟩
  have HB3 := Lib.hid (HB.out.on hbb.below); have HO3 := Lib.hid (HO2.out.on (hbb.below.mono HO2.out.2.2.2))
  clear hbb HB HO2 hc0
  have hds : (strOfNums (digs code)).size + 13 ≤ 1073741824 := by
    have h1 := HL.out
    rw [strOfNums_size]
    unfold baseP verI at h1
    simp only [List.length_append, List.length_cons, List.length_nil] at h1
    omega
  have hbase : ⟨#[72, 84, 84, 80, 47, 49, 46, 49, 32]⟩ ++ strOfNums (digs code) ++ ⟨#[32, 45]⟩ ++ ⟨#[13, 10]⟩ = strOfNums (baseP code) := by
    unfold baseP
    rw [strs_app, strs_app, show ([32, 45, 13, 10] : List Int) = [32, 45] ++ [13, 10] from rfl, strs_app, ← ByteArray.append_assoc, ← ByteArray.append_assoc]
    rfl
  have hbsz : (strOfNums (baseP code)).size ≤ 1073741824 := by rw [strOfNums_size]; have := HL.out; omega
  generalize strOfNums (digs code) = ds at *
  have n1 : ¬ (9223372036854775807 < 9 + ds.size) := by omega
  have n2 : ¬ (9223372036854775807 < 9 + ds.size + 2) := by omega
  have n3 : ¬ (9223372036854775807 < 9 + ds.size + 2 + 2) := by omega
  have hwr := bwr_c HB3.out (⟨#[72, 84, 84, 80, 47, 49, 46, 49, 32]⟩ ++ ds ++ ⟨#[32, 45]⟩ ++ ⟨#[13, 10]⟩) (by rw [hbase, List.length_nil]; omega)
  rw [hbase, List.nil_append] at hwr
  have HWR := Lib.hid hwr; have HBASE := Lib.hid hbase
  clear hbase hds hbsz hwr
  go_wp2_with fail
  rw [HBASE.out]
  with_reducible refine HWR.out.mono ?_
  rintro e w4 ⟨rfl, hb4, hbl⟩
  have HB4 := Lib.hid hb4; have HO4 := Lib.hid (HO3.out.on hbl)
  clear hb4 hbl HB3 HO3 HWR HBASE n1 n2 n3
  have hc1 : w4.cell? ⟨g1, 1, none⟩ = some (.slice A n c) := HO4.out.1.cell (.head _) 1
  go_wp2
  clear hc1
  go_loopw [16] (fun t w' => ∃ (k : Nat), k ≤ n ∧ t = .int .i64 k ∧ Hid (IsBld g3 g3 (sb (strOfNums (baseP code ++ headsP (hs.take k)))) w') ∧ Hid (OwnB w0 g3 w' ((g1, .cells (rv code (.slice A n c) body cut).toArray 24) :: R))) (fun t _ => n - (intOf t).toNat)
  case atStart => exact ⟨0, Nat.zero_le _, rfl, Lib.hid (by have := HB4.out; rw [List.take_zero]; simpa [headsP] using this), HO4⟩
  case round =>
    obtain ⟨k, hk, rfl, HS, HO5⟩ := hrel
    clear HB4 HO4
    by_cases hlt : k < n
    · have hkl : k < hs.length := by rw [HN.out]; exact hlt
      obtain ⟨A', n', cp', e, _, _, hA'⟩ := HRR.out wr [_] HO5.out.1
      cases e
      obtain ⟨g, rfl, hcell⟩ := hA' (by omega)
      have hrg := hcell k _ (map_toB_at hkl)
      have hsn := headsP_snoc hs k hkl
      have hle := headsP_len hs (k + 1)
      rw [hsn] at hle
      generalize hs[k] = h at *
      obtain ⟨x, y⟩ := h
      have hcx : wr.cell? ⟨g, k * 2, none⟩ = some (.string (strOfNums x)) := hrg 0 _ rfl
      have hcy : wr.cell? ⟨g, k * 2 + 1, none⟩ = some (.string (strOfNums y)) := hrg 1 _ rfl
      have hhp : (headP (x, y)).length = x.length + (2 + (y.length + 2)) := by simp [headP]; omega
      have hxs : (strOfNums x).size = x.length := strOfNums_size x
      have hys : (strOfNums y).size = y.length := strOfNums_size y
      rw [List.length_append, hhp] at hle
      have hq : strOfNums x ++ ⟨#[58, 32]⟩ ++ strOfNums y ++ ⟨#[13, 10]⟩ = strOfNums (headP (x, y)) := by
        unfold headP
        rw [strs_app, strs_app, strs_app, ByteArray.append_assoc, ByteArray.append_assoc]
        rfl
      have hnext : sb (strOfNums (baseP code ++ headsP (hs.take k))) ++ sb (strOfNums x ++ ⟨#[58, 32]⟩ ++ strOfNums y ++ ⟨#[13, 10]⟩) = sb (strOfNums (baseP code ++ headsP (hs.take (k + 1)))) := by
        rw [hq, hsn, ← List.append_assoc, strs_app (baseP code ++ headsP (hs.take k)), sb_app]
      have hls : (sb (strOfNums (baseP code ++ headsP (hs.take k)))).length + (strOfNums x ++ ⟨#[58, 32]⟩ ++ strOfNums y ++ ⟨#[13, 10]⟩ : ByteArray).size ≤ 140737488355328 := by
        rw [hq, length_sb, strOfNums_size, strOfNums_size, List.length_append, hhp]
        have := HL.out
        omega
      clear hq
      have hb := HL.out
      generalize strOfNums x = sx at *
      generalize strOfNums y = sy at *
      have n1 : ¬ (9223372036854775807 < sx.size + 2) := by omega
      have n2 : ¬ (9223372036854775807 < sx.size + 2 + sy.size) := by omega
      have n3 : ¬ (9223372036854775807 < sx.size + 2 + sy.size + 2) := by omega
      have HNX := Lib.hid hnext; have HLS := Lib.hid hls
      have hkn : (k : Int) < n := by omega
      have HOW := Lib.hid (Own.start wr)
      clear hcell hA' hrg hsn hle hhp hxs hys hnext hb hkl hls
      go_wp2_with (first | (refine wl_alloc rfl _ rfl HOW.out _ (alloc_head _) ?_; intro gh w3 hO; have HO6 := Lib.hid hO; clear hO HOW) | (refine wl_store rfl _ _ _ rfl HO6.out 0 gh 0 _ (hv2 (sx, sy)) _ rfl (by rfl) (by rfl) head_size (one_hv2 _) (by simp [hv2]) ?_; intro w6 hO; have HO7 := Lib.hid (hO.cast (L' := [(gh, .cells (hv2 (sx, sy)).toArray 30)]) rfl); clear hO HO6; have hc3 : w6.cell? ⟨gh, 0, none⟩ = some (.string sx) := HO7.out.cell (.head _) 0; have hc4 : w6.cell? ⟨gh, 1, none⟩ = some (.string sy) := HO7.out.cell (.head _) 1; clear hcx hcy))
      have hwr := bwr_c (HS.out.on HO7.out.below) _ HLS.out
      rw [HNX.out] at hwr
      have HO8 := Lib.hid (HO5.out.on (HO7.out.below.mono HO5.out.2.2.2))
      clear hc3 hc4 HO7 HS HO5 HNX HLS
      with_reducible refine hwr.mono ?_
      clear hwr
      rintro e w7 ⟨rfl, hb4, hbl⟩
      have HB4 := Lib.hid hb4; have HO4 := Lib.hid (HO8.out.on hbl)
      clear hb4 hbl HO8
      go_wp2
      go_roundw
      case rel => exact ⟨k + 1, by omega, by go_num, HB4, HO4⟩
      case measure => simp [intOf]; omega
    · obtain rfl : k = n := by omega
      have hta : hs.take k = hs := List.take_of_length_le (by rw [HN.out]; exact Nat.le_refl _)
      have hs1 := HS.out
      rw [hta] at hs1
      have hfin := HFIN.out _ rfl
      have hb := HL.out
      have hlen : (sb (strOfNums (baseP code ++ headsP hs))).length + (⟨#[13, 10]⟩ ++ body : ByteArray).size ≤ 140737488355328 := by
        rw [length_sb, strOfNums_size, List.length_append, ByteArray.size_append, show (⟨#[13, 10]⟩ : ByteArray).size = 2 from rfl]
        omega
      have hwr := bwr_c hs1 _ hlen
      rw [← sb_app, hfin] at hwr
      have hc2 : wr.cell? ⟨g1, 2, none⟩ = some (.string body) := HO5.out.1.cell (.head _) 2
      have n1 : ¬ (9223372036854775807 < 2 + body.size) := by omega
      have HWR := Lib.hid hwr
      clear hta hs1 hfin hb hlen hwr HFIN HS
      go_wp2_with fail
      with_reducible refine HWR.out.mono ?_
      clear HWR
      rintro e w7 ⟨rfl, hb4, hbl⟩
      have HO6 := Lib.hid (HO5.out.on hbl)
      have hst := bstr_c (byt_sb _) hb4
      rw [str_sb] at hst
      have HST := Lib.hid hst
      clear hb4 hbl hst HO5 hc2
      go_wp2_with fail
      with_reducible refine HST.out.mono ?_
      clear HST
      rintro e w8 ⟨rfl, hbl⟩
      have HO7 := Lib.hid (HO6.out.on hbl)
      clear hbl HO6
      go_wp2
      go_ret
      exact ⟨rfl, HO7.out.1.tail⟩
end Go.Proofs.YtkmfbfmmlldphaaDoor
