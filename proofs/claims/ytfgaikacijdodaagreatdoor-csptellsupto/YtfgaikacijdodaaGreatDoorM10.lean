/-
  Texts that the laws stand on: Csp2, Csp3, Ends, Csp4.
-/
import Derived.Test.YtfgaikacijdodaaGreatDoorM6
import Derived.Test.YtfgaikacijdodaaGreatDoorM3
import Derived.Test.YtfgaikacijdodaaGreatDoorM4
import Derived.Test.YtfgaikacijdodaaGreatDoorM1
import Derived.Deep.DeepCutAuto
import Derived.Deep.CutBlock

/-
  The document's own words of a list, in plain Go.
-/
namespace Go.Proofs.YtfgaikacijdodaaGreatDoor
set_option linter.unusedVariables false
set_option linter.unusedSimpArgs false
set_option maxRecDepth 20000
open Go.RowKit

theorem str_one (s : ByteArray) (k : Nat) (h : k < s.size) : s.extract k (k + 1) = strOfNums [(sb s).getD k 0] := by
  have hk : k < (sb s).length := by rw [length_sb]; exact h
  have e : sb (s.extract k (k + 1)) = [(sb s).getD k 0] := by
    rw [sb_extract, List.take_succ_eq_append_getElem hk, List.getD_eq_getElem?_getD, List.getElem?_eq_getElem hk, Option.getD_some, List.drop_append_of_le_length (by rw [List.length_take]; omega), List.drop_of_length_le (by rw [List.length_take]; omega)]
    rfl
  rw [← e, str_sb]
theorem lit_list {m : List Int} {k : List UInt8} (h : (strOfNums m).data.toList = k) : (strOfNums m).toList = k := by rw [ByteArray.toList_eq]; exact h
theorem str_mt (l : List Int) (hB : Byt l) : ((strOfNums l).toList == []) = decide (l = []) := by
  have h := beq_str (ys := []) hB (fun x hx => by cases hx)
  rwa [lit_list (m := []) (k := []) rfl] at h
set_option maxHeartbeats 8000000 in
theorem rwords_c {w0 w : World} {R : Blks} (hO : Own w0 w R) (s : ByteArray) (hs : s.size ≤ 100000000) :
    Calls Tryz.prog 22 #[.string s] w fun e w' => ∃ v L, e = .returned v ∧ IsStrs v ((wordsI (sb s)).map strOfNums) L ∧ Own w0 w' (L ++ R) := by
  obtain ⟨l, hl⟩ : ∃ l, sb s = l := ⟨_, rfl⟩
  obtain ⟨n, hn⟩ : ∃ n, s.size = n := ⟨_, rfl⟩
  have hln : l.length = n := by rw [← hl, ← hn]; exact length_sb s
  rw [hl]
  have hone := fun k (h : k < n) => str_one s k (by rw [hn]; exact h)
  rw [hl] at hone
  obtain ⟨W, hW⟩ : ∃ W, wordsI l = W := ⟨_, rfl⟩
  rw [hW]
  have HL := Lib.hid hl; have HN := Lib.hid hn; have HLN := Lib.hid hln; have HW := Lib.hid hW; have HONE := Lib.hid hone
  have HO := Lib.hid hO
  have hnb : n ≤ 100000000 := by rw [← hn]; exact hs
  clear hl hn hln hW hone hO hs
  go_enter Tryz.func22, Tryz.ntmps22
  go_wp2
  go_loopw [3, 4, 5] (fun a b t w' => ∃ (k : Nat) (out : List (List Int)) (wd : List Int) (A : Option Addr) (m c : Nat) (L : Blks), k ≤ n + 1 ∧ t = .int .i64 k ∧ b = .string (strOfNums wd) ∧ a = .slice A m c ∧ Hid (W = out ++ (if k ≤ n then wordsF wd (l.drop k) else [])) ∧ Hid (wd.length ≤ n ∧ wd.length ≤ k ∧ out.length ≤ k ∧ Byt wd) ∧ Hid (IsStrs (.slice A m c) (out.map strOfNums) L ∧ m = out.length) ∧ Hid (Own w0 w' (L ++ R))) (fun _ _ t _ => n + 1 - (intOf t).toNat)
  case atStart => exact ⟨0, [], [], none, 0, 0, [], by omega, rfl, rfl, rfl, Lib.hid (by rw [if_pos (Nat.zero_le _), List.drop_zero, List.nil_append, ← HW.out]; rfl), Lib.hid ⟨by simp, by simp, by simp, fun x hx => by cases hx⟩, Lib.hid ⟨isStrs_nil, rfl⟩, HO⟩
  case round =>
    obtain ⟨k, out, wd, A, m, c, L, hk, rfl, rfl, rfl, HI, HB, HS, HO2⟩ := hrel
    clear HO
    by_cases hle : k ≤ n
    · have hle' : (k : Int) ≤ s.size := by rw [HN.out]; omega
      have hle2 : k ≤ s.size := by rw [HN.out]; omega
      have hi := HI.out
      rw [if_pos hle] at hi
      have HI2 := Lib.hid hi
      have hmk : m ≤ k := by have h1 := HB.out.2.2.1; have h2 := HS.out.2; omega
      clear hi HI
      have hemp := str_mt wd HB.out.2.2.2
      by_cases hlt : k < n
      · have hlt' : (k : Int) < s.size := by rw [HN.out]; omega
        have hlt2 : k < s.size := by rw [HN.out]; omega
        have hkl : k < l.length := by rw [HLN.out]; exact hlt
        have hix := index_at wr s k k rfl (by rw [HN.out]; exact hlt)
        rw [HL.out] at hix
        have hdr : l.drop k = l.getD k 0 :: l.drop (k + 1) := by rw [List.getD_eq_getElem?_getD, List.getElem?_eq_getElem hkl]; exact List.drop_eq_getElem_cons hkl
        have hi := HI2.out
        rw [hdr, wordsF] at hi
        have hone := HONE.out k hlt
        have hxB : 0 ≤ l.getD k 0 ∧ l.getD k 0 ≤ 255 := by
          have : l.getD k 0 ∈ l := by rw [List.getD_eq_getElem?_getD, List.getElem?_eq_getElem hkl]; exact List.getElem_mem hkl
          exact byt_sb s _ (by rw [HL.out]; exact this)
        generalize l.getD k 0 = x at *
        by_cases hx : x = 32
        · rw [if_pos hx] at hi
          have tx : (x == 32) = true := by rw [hx]; rfl
          have HI3 := Lib.hid hi
          clear hi hone hdr hkl hx HI2
          by_cases hw : wd = []
          · have t0 : ((strOfNums wd).toList == []) = true := by rw [hemp, decide_eq_true hw]
            have HR : Hid (W = out ++ (if k + 1 ≤ n then wordsF [] (l.drop (k + 1)) else [])) := Lib.hid (by rw [HI3.out, hw, if_pos (by omega)]; rfl)
            clear hw hemp HI3
            go_wp2
            go_roundw
            case rel => exact ⟨k + 1, out, [], A, m, c, L, by omega, by go_num, rfl, rfl, HR, Lib.hid ⟨by simp, by simp, by have := HB.out.2.2.1; omega, fun x hx => by cases hx⟩, HS, HO2⟩
            case measure => first | (simp [intOf]; done) | (simp [intOf]; omega)
          · have t0 : ((strOfNums wd).toList == []) = false := by rw [hemp, decide_eq_false hw]
            have HR : Hid (W = (out ++ [wd]) ++ (if k + 1 ≤ n then wordsF [] (l.drop (k + 1)) else [])) := Lib.hid (by rw [HI3.out, if_pos (by omega)]; unfold pushW; rw [if_neg hw, List.append_assoc])
            clear hw hemp HI3
            have HM : Hid ((out.map strOfNums).length + [strOfNums wd].length ≤ 1073741824) := Lib.hid (by have h2 := HS.out.2; simp; omega)
            have HV1 := Lib.hid HS.out.1
            go_wp2_with (refine wl_appendT rfl _ _ rfl (.slice A m c) (out.map strOfNums) (by rfl) HV1.out (HO2.out.put2 (.cells #[.string (strOfNums wd)] 9)) _ [strOfNums wd] (by rfl) (vs_new _ 1 rfl) HM.out ?_; intro v2 wa L2 hv2' hO; have HV2 := Lib.hid hv2'; have HOA := Lib.hid hO.strike; obtain ⟨A2, c2, hve⟩ := IsStrs.val hv2'; rw [List.length_append, List.length_map, List.length_singleton] at hve; subst hve; clear hO hv2' HO2)
            go_roundw
            case rel => exact ⟨k + 1, out ++ [wd], [], _, _, _, L2, by omega, by go_num, rfl, rfl, HR, Lib.hid ⟨by simp, by simp, by have := HB.out.2.2.1; rw [List.length_append]; simp; omega, fun x hx => by cases hx⟩, Lib.hid ⟨by rw [List.map_append]; exact HV2.out, by rw [List.length_append]; rfl⟩, HOA⟩
            case measure => first | (simp [intOf]; done) | (simp [intOf]; omega)
        · rw [if_neg hx] at hi
          have tx : (x == 32) = false := by simpa using hx
          have HR : Hid (W = out ++ (if k + 1 ≤ n then wordsF (wd ++ [x]) (l.drop (k + 1)) else [])) := Lib.hid (by rw [hi, if_pos (by omega)])
          have hcat : strOfNums wd ++ strOfNums [x] = strOfNums (wd ++ [x]) := (strs_app _ _).symm
          have HCAT := Lib.hid hcat
          have hto : ((k : Int) + 1).toNat = k + 1 := by omega
          have hk0 : (0 : Int) ≤ k := by omega
          have hk1 : (0 : Int) ≤ (k : Int) + 1 := by omega
          have hkk : (k : Int) ≤ (k : Int) + 1 := by omega
          have hk3 : (k : Int) + 1 ≤ s.size := by rw [HN.out]; omega
          have hwz : (strOfNums wd).size ≤ 100000000 := by rw [strOfNums_size]; have := HB.out.1; omega
          have n1 : ¬ (9223372036854775807 < (strOfNums wd).size + 1) := by omega
          have hsz1 : (strOfNums [x]).size = 1 := by rw [strOfNums_size]; rfl
          clear hi hx hemp HI2 hdr hkl hcat
          go_wp2
          go_roundw
          case rel => exact ⟨k + 1, out, wd ++ [x], A, m, c, L, by omega, by go_num, by first | rfl | (rw [← HCAT.out]) | (rw [hone, ← HCAT.out]), rfl, HR, Lib.hid ⟨by have h1 := HB.out.2.1; rw [List.length_append]; simp; omega, by have h1 := HB.out.2.1; rw [List.length_append]; simp; omega, by have := HB.out.2.2.1; omega, byt_append HB.out.2.2.2 (fun y hy => by rw [List.mem_singleton.1 hy]; exact hxB)⟩, HS, HO2⟩
          case measure => first | (simp [intOf]; done) | (simp [intOf]; omega)
      · obtain rfl : k = n := by omega
        have hlt' : ¬ (k : Int) < s.size := by rw [HN.out]; omega
        have hlt2 : ¬ k < s.size := by rw [HN.out]; omega
        have hi := HI2.out
        rw [List.drop_of_length_le (by rw [HLN.out]; exact Nat.le_refl _)] at hi
        have hi2 : W = out ++ pushW wd := hi
        by_cases hw : wd = []
        · have t0 : ((strOfNums wd).toList == []) = true := by rw [hemp, decide_eq_true hw]
          have HR : Hid (W = out ++ (if k + 1 ≤ k then wordsF [] (l.drop (k + 1)) else [])) := Lib.hid (by rw [hi2, hw, if_neg (by omega)]; rfl)
          clear hw hemp hi hi2 HI2
          go_wp2
          go_roundw
          case rel => exact ⟨k + 1, out, [], A, m, c, L, by omega, by go_num, rfl, rfl, HR, Lib.hid ⟨by simp, by simp, by have := HB.out.2.2.1; omega, fun x hx => by cases hx⟩, HS, HO2⟩
          case measure => first | (simp [intOf]; done) | (simp [intOf]; omega)
        · have t0 : ((strOfNums wd).toList == []) = false := by rw [hemp, decide_eq_false hw]
          have HR : Hid (W = (out ++ [wd]) ++ (if k + 1 ≤ k then wordsF [] (l.drop (k + 1)) else [])) := Lib.hid (by rw [hi2, if_neg (by omega), List.append_nil]; unfold pushW; rw [if_neg hw])
          clear hw hemp hi hi2 HI2
          have HM : Hid ((out.map strOfNums).length + [strOfNums wd].length ≤ 1073741824) := Lib.hid (by have h2 := HS.out.2; simp; omega)
          have HV1 := Lib.hid HS.out.1
          go_wp2_with (refine wl_appendT rfl _ _ rfl (.slice A m c) (out.map strOfNums) (by rfl) HV1.out (HO2.out.put2 (.cells #[.string (strOfNums wd)] 9)) _ [strOfNums wd] (by rfl) (vs_new _ 1 rfl) HM.out ?_; intro v2 wa L2 hv2' hO; have HV2 := Lib.hid hv2'; have HOA := Lib.hid hO.strike; obtain ⟨A2, c2, hve⟩ := IsStrs.val hv2'; rw [List.length_append, List.length_map, List.length_singleton] at hve; subst hve; clear hO hv2' HO2)
          go_roundw
          case rel => exact ⟨k + 1, out ++ [wd], [], _, _, _, L2, by omega, by go_num, rfl, rfl, HR, Lib.hid ⟨by simp, by simp, by have := HB.out.2.2.1; rw [List.length_append]; simp; omega, fun x hx => by cases hx⟩, Lib.hid ⟨by rw [List.map_append]; exact HV2.out, by rw [List.length_append]; rfl⟩, HOA⟩
          case measure => first | (simp [intOf]; done) | (simp [intOf]; omega)
    · have hle' : ¬ (k : Int) ≤ s.size := by rw [HN.out]; omega
      have hle2 : ¬ k ≤ s.size := by rw [HN.out]; omega
      have hi := HI.out
      rw [if_neg hle, List.append_nil] at hi
      have HE := Lib.hid hi
      clear hi HI
      go_wp2
      go_ret
      exact ⟨_, rfl, L, by rw [HE.out]; exact HS.out.1, HO2.out⟩
end Go.Proofs.YtfgaikacijdodaaGreatDoor
/-
  The document's own source (of a list), in plain Go.
-/
namespace Go.Proofs.YtfgaikacijdodaaGreatDoor
set_option linter.unusedVariables false
set_option linter.unusedSimpArgs false
set_option maxRecDepth 20000
open Go.RowKit

theorem results_tmp4 {fn : Func} {t u v x : Tmp} (h : fn.results = #[.tmp t, .tmp u, .tmp v, .tmp x]) (tmps : Array Value) (P : Program) (w : World) :
    (results fn tmps).run P w = .ok (.tuple #[tmps.getD t undef, tmps.getD u undef, tmps.getD v undef, tmps.getD x undef]) w := by
  simp [results, h]
def SL.zero : SL := ⟨[], [], []⟩
/-- What source answers. -/
def GotS (w0 : World) (R : Blks) (o : Option SL) (e : Ending) (w' : World) : Prop :=
  e = .returned (.tuple #[.string (strOfNums (o.getD SL.zero).sch), .string (strOfNums (o.getD SL.zero).host), .string (strOfNums (o.getD SL.zero).port), .bool o.isSome]) ∧ Own w0 w' R
/-- Behind the loop. -/
def SrcState (w0 : World) (R : Blks) (S : List Int) (v0 v2 v4 : Value) (wx : World) : Prop :=
  ∃ sch r, sourceL S = hostP sch r ∧ v0 = .string (strOfNums r) ∧ v2 = .string (strOfNums sch) ∧ v4 = .string ⟨#[]⟩ ∧ Own w0 wx R ∧ r.length ≤ S.length ∧ sch.length ≤ 5 ∧ Byt r ∧ (sch = [] ∨ sch = httpI ∨ sch = httpsI)
def MidV (x : Value) (W : World) (s : Value) (wx : World) : Prop := s = x ∧ wx = W
theorem star_len (h : List Int) : (starI h).length ≤ h.length := by unfold starI; split <;> (try rw [List.length_drop]) <;> omega
set_option maxRecDepth 100000 in
set_option maxHeartbeats 16000000 in
theorem rsource_c {w0 w : World} {R : Blks} (hO : Own w0 w R) (s : ByteArray) (hs : s.size ≤ 100000000) :
    Calls Tryz.prog 24 #[.string s] w (GotS w0 R (sourceI (sb s))) := by
  obtain ⟨S, hS⟩ : ∃ S, lowL (sb s) = S := ⟨_, rfl⟩
  obtain ⟨o, ho⟩ : ∃ o, sourceL S = o := ⟨_, rfl⟩
  have e0 : sourceI (sb s) = o := by unfold sourceI; rw [hS, ho]
  rw [e0]
  have hSB : Byt S := by rw [← hS]; exact lowL_byt (byt_sb s)
  have hSl : S.length ≤ 100000000 := by rw [← hS]; unfold lowL; rw [List.length_map, length_sb]; exact hs
  have hlow := rlower_c hO s (by omega)
  rw [hS] at hlow
  have hzb := sb_str hSB
  have hzs : (strOfNums S).size ≤ 100000000 := by rw [strOfNums_size]; exact hSl
  generalize strOfNums S = Z at *
  have HLOW := Lib.hid hlow; have HOO := Lib.hid ho; have HSB := Lib.hid hSB; have HSL := Lib.hid hSl
  have HZB : Hid (sb Z = S ∧ Z.size ≤ 100000000) := Lib.hid ⟨hzb, hzs⟩
  clear hlow ho hSB hSl hzb hzs e0 hS hO hs
  go_enter Tryz.func24, Tryz.ntmps24
  go_wp2_with fail
  with_reducible refine HLOW.out.mono ?_
  rintro e w2 ⟨rfl, hO⟩
  have HO2 := Lib.hid hO; clear hO HLOW
  go_upto_block 0 with fail
  go_cut [0, 2, 4] (fun v0 v2 v4 wx => SrcState w0 R S v0 v2 v4 wx)
  case first =>
    have HO5 := Lib.hid (HO2.out.alloc (.cells (sv [⟨#[104, 116, 116, 112]⟩, ⟨#[104, 116, 116, 112, 115]⟩]).toArray 9))
    clear HO2
    go_wp2_with fail
    go_loopw [0, 2, 4, 16] (fun u v x t w' => ∃ k : Nat, k ≤ 2 ∧ t = .int .i64 k ∧ u = .string Z ∧ v = .string ⟨#[]⟩ ∧ x = .string ⟨#[]⟩ ∧ Hid ((1 ≤ k → ¬ S = httpI ++ [58] ∧ begI (httpI ++ markI) S = false) ∧ (2 ≤ k → ¬ S = httpsI ++ [58] ∧ begI (httpsI ++ markI) S = false)) ∧ Hid (Own w0 w' ((w2.heap.size, .cells (sv [⟨#[104, 116, 116, 112]⟩, ⟨#[104, 116, 116, 112, 115]⟩]).toArray 9) :: R))) (fun _ _ _ t _ => 2 - (intOf t).toNat)
    case atStart => exact ⟨0, by omega, rfl, rfl, rfl, rfl, Lib.hid ⟨fun h => by omega, fun h => by omega⟩, HO5⟩
    case round =>
      obtain ⟨k, hk, rfl, rfl, rfl, rfl, HNO, HO6⟩ := hrel
      clear HO5
      rcases (by omega : k = 0 ∨ k = 1 ∨ k = 2) with rfl | rfl | rfl
      · skip
        have hcell : wr.cell? ⟨w2.heap.size, 0, none⟩ = some (.string ⟨#[104, 116, 116, 112]⟩) := by rw [HO6.out.cell (.head _)]; rfl
        have hX1 : sb (⟨#[104, 116, 116, 112]⟩ ++ ⟨#[58]⟩) = httpI ++ [58] := by decide +kernel
        have hX2 : sb (⟨#[104, 116, 116, 112]⟩ ++ ⟨#[58, 47, 47]⟩) = httpI ++ markI := by decide +kernel
        have hX2s : (⟨#[104, 116, 116, 112]⟩ ++ ⟨#[58, 47, 47]⟩ : ByteArray).size = 7 := by decide +kernel
        obtain ⟨X1, hX1d⟩ : ∃ X : ByteArray, ⟨#[104, 116, 116, 112]⟩ ++ ⟨#[58]⟩ = X := ⟨_, rfl⟩
        obtain ⟨X2, hX2d⟩ : ∃ X : ByteArray, ⟨#[104, 116, 116, 112]⟩ ++ ⟨#[58, 47, 47]⟩ = X := ⟨_, rfl⟩
        have hadd1 : (Op.stringOp .add ⟨#[104, 116, 116, 112]⟩ ⟨#[58]⟩).run Tryz.prog wr = .ok (.string X1) wr := by rw [← hX1d]; exact run_string_add_sum wr _ _ (by decide +kernel)
        have hadd2 : (Op.stringOp .add ⟨#[104, 116, 116, 112]⟩ ⟨#[58, 47, 47]⟩).run Tryz.prog wr = .ok (.string X2) wr := by rw [← hX2d]; exact run_string_add_sum wr _ _ (by decide +kernel)
        rw [hX1d] at hX1
        rw [hX2d] at hX2 hX2s
        clear hX1d hX2d
        have hq : (Z.toList == X1.toList) = decide (S = httpI ++ [58]) := by rw [beq_sb, HZB.out.1, hX1]
        have hbeg := fun w : World => begins_c (w := w) Z X2 (by have := HZB.out.2; omega) (by rw [hX2s]; omega)
        rw [hX2, HZB.out.1] at hbeg
        have HBEG := Lib.hid hbeg
        have HXX := Lib.hid hX2s
        clear hX1 hX2 hX2s hbeg
        by_cases h1 : S = httpI ++ [58]
        · rw [decide_eq_true h1] at hq
          have HB1 := Lib.hid h1
          have HE : Hid (o = some ⟨httpI, [], []⟩) := Lib.hid (by rw [← HOO.out]; unfold sourceL; rw [if_pos HB1.out])
          clear h1 HBEG
          go_wp2
          (try simp only [Exit.inBlock, Exit.then]); refine bodyPost_ret (results_tmp4 rfl _ _ _) rfl ?_; exact ⟨by rw [HE.out]; rfl, HO6.out.tail⟩
        · rw [decide_eq_false h1] at hq
          have HB1 := Lib.hid h1
          clear h1
          go_wp2_with fail
          with_reducible refine (HBEG.out _).mono ?_
          rintro e w7 ⟨rfl, hww⟩
          subst hww
          cases hb2 : begI (httpI ++ markI) S with
          | true =>
            have HB2 := Lib.hid hb2
            have h7 : 7 ≤ Z.size := by
              have := begI_len HB2.out
              rw [← HZB.out.1, length_sb] at this
              exact this
            have h7I : (7 : Int) ≤ Z.size := by omega
            have hw7 : IntKind.i64.wrap 7 = 7 := IntWalk.i64_in _ (by omega)
            have hr : Z.extract 7 Z.size = strOfNums (S.drop 7) := by rw [← str_sb (Z.extract 7 Z.size), sb_from, HZB.out.1]
            have HR := Lib.hid hr
            have HE : Hid (sourceL S = hostP httpI (S.drop 7)) := Lib.hid (by unfold sourceL; rw [if_neg HB1.out, if_pos HB2.out])
            clear hr hb2 hq HBEG hadd1 hadd2 hcell
            go_wp2_with fail
            refine wp_region_lin (fun w' => True) 8 [(0, true), (1, true), (2, true), (3, true), (4, true), (5, true), (6, true), (7, true)] (by kernel_rfl) (by kernel_rfl) (fun _ _ d _ _ h => by cases d <;> exact h) trivial ?_
            simp only [List.map_cons, List.map_nil, pick_zero, pick_succ, List.drop_succ_cons, List.drop_zero]
            iterate 8 (refine lin_q ?_ rfl ?_ ?_; rotate_left 1; (focus (rintro w' -; go_simp; first | done | with_reducible rfl | (trace_state; fail))); simp only [Act.put, List.setIfInBounds_toArray, List.set_cons_zero, List.set_cons_succ])
            refine lin_nil ?_
            go_wp2
            go_meet
            exact ⟨httpI, S.drop 7, HE.out, by rw [← HR.out], rfl, rfl, HO6.out.tail.drew, by rw [List.length_drop]; omega, by decide, byt_drop HSB.out _, by decide⟩
          | false =>
            have HB2 := Lib.hid hb2
            clear hb2 HBEG
            go_wp2
            go_roundw
            case rel => exact ⟨0+1, by omega, by go_num, rfl, rfl, rfl, Lib.hid ⟨fun _ => ⟨HB1.out, HB2.out⟩, fun h => by omega⟩, HO6⟩
            case measure => simp [intOf]
      · skip
        have hcell : wr.cell? ⟨w2.heap.size, 1, none⟩ = some (.string ⟨#[104, 116, 116, 112, 115]⟩) := by rw [HO6.out.cell (.head _)]; rfl
        have hX1 : sb (⟨#[104, 116, 116, 112, 115]⟩ ++ ⟨#[58]⟩) = httpsI ++ [58] := by decide +kernel
        have hX2 : sb (⟨#[104, 116, 116, 112, 115]⟩ ++ ⟨#[58, 47, 47]⟩) = httpsI ++ markI := by decide +kernel
        have hX2s : (⟨#[104, 116, 116, 112, 115]⟩ ++ ⟨#[58, 47, 47]⟩ : ByteArray).size = 8 := by decide +kernel
        obtain ⟨X1, hX1d⟩ : ∃ X : ByteArray, ⟨#[104, 116, 116, 112, 115]⟩ ++ ⟨#[58]⟩ = X := ⟨_, rfl⟩
        obtain ⟨X2, hX2d⟩ : ∃ X : ByteArray, ⟨#[104, 116, 116, 112, 115]⟩ ++ ⟨#[58, 47, 47]⟩ = X := ⟨_, rfl⟩
        have hadd1 : (Op.stringOp .add ⟨#[104, 116, 116, 112, 115]⟩ ⟨#[58]⟩).run Tryz.prog wr = .ok (.string X1) wr := by rw [← hX1d]; exact run_string_add_sum wr _ _ (by decide +kernel)
        have hadd2 : (Op.stringOp .add ⟨#[104, 116, 116, 112, 115]⟩ ⟨#[58, 47, 47]⟩).run Tryz.prog wr = .ok (.string X2) wr := by rw [← hX2d]; exact run_string_add_sum wr _ _ (by decide +kernel)
        rw [hX1d] at hX1
        rw [hX2d] at hX2 hX2s
        clear hX1d hX2d
        have hq : (Z.toList == X1.toList) = decide (S = httpsI ++ [58]) := by rw [beq_sb, HZB.out.1, hX1]
        have hbeg := fun w : World => begins_c (w := w) Z X2 (by have := HZB.out.2; omega) (by rw [hX2s]; omega)
        rw [hX2, HZB.out.1] at hbeg
        have HBEG := Lib.hid hbeg
        have HXX := Lib.hid hX2s
        clear hX1 hX2 hX2s hbeg
        by_cases h1 : S = httpsI ++ [58]
        · rw [decide_eq_true h1] at hq
          have HB1 := Lib.hid h1
          have HE : Hid (o = some ⟨httpsI, [], []⟩) := Lib.hid (by rw [← HOO.out]; unfold sourceL; rw [if_neg (HNO.out.1 (by omega)).1, if_neg (by rw [(HNO.out.1 (by omega)).2]; simp), if_pos HB1.out])
          clear h1 HBEG
          go_wp2
          (try simp only [Exit.inBlock, Exit.then]); refine bodyPost_ret (results_tmp4 rfl _ _ _) rfl ?_; exact ⟨by rw [HE.out]; rfl, HO6.out.tail⟩
        · rw [decide_eq_false h1] at hq
          have HB1 := Lib.hid h1
          clear h1
          go_wp2_with fail
          with_reducible refine (HBEG.out _).mono ?_
          rintro e w7 ⟨rfl, hww⟩
          subst hww
          cases hb2 : begI (httpsI ++ markI) S with
          | true =>
            have HB2 := Lib.hid hb2
            have h7 : 8 ≤ Z.size := by
              have := begI_len HB2.out
              rw [← HZB.out.1, length_sb] at this
              exact this
            have h7I : (8 : Int) ≤ Z.size := by omega
            have hw7 : IntKind.i64.wrap 8 = 8 := IntWalk.i64_in _ (by omega)
            have hr : Z.extract 8 Z.size = strOfNums (S.drop 8) := by rw [← str_sb (Z.extract 8 Z.size), sb_from, HZB.out.1]
            have HR := Lib.hid hr
            have HE : Hid (sourceL S = hostP httpsI (S.drop 8)) := Lib.hid (by unfold sourceL; rw [if_neg (HNO.out.1 (by omega)).1, if_neg (by rw [(HNO.out.1 (by omega)).2]; simp), if_neg HB1.out, if_pos HB2.out])
            clear hr hb2 hq HBEG hadd1 hadd2 hcell
            go_wp2_with fail
            refine wp_region_lin (fun w' => True) 8 [(0, true), (1, true), (2, true), (3, true), (4, true), (5, true), (6, true), (7, true)] (by kernel_rfl) (by kernel_rfl) (fun _ _ d _ _ h => by cases d <;> exact h) trivial ?_
            simp only [List.map_cons, List.map_nil, pick_zero, pick_succ, List.drop_succ_cons, List.drop_zero]
            iterate 8 (refine lin_q ?_ rfl ?_ ?_; rotate_left 1; (focus (rintro w' -; go_simp; first | done | with_reducible rfl | (trace_state; fail))); simp only [Act.put, List.setIfInBounds_toArray, List.set_cons_zero, List.set_cons_succ])
            refine lin_nil ?_
            go_wp2
            go_meet
            exact ⟨httpsI, S.drop 8, HE.out, by rw [← HR.out], rfl, rfl, HO6.out.tail.drew, by rw [List.length_drop]; omega, by decide, byt_drop HSB.out _, by decide⟩
          | false =>
            have HB2 := Lib.hid hb2
            clear hb2 HBEG
            go_wp2
            go_roundw
            case rel => exact ⟨1+1, by omega, by go_num, rfl, rfl, rfl, Lib.hid ⟨fun _ => HNO.out.1 (by omega), fun _ => ⟨HB1.out, HB2.out⟩⟩, HO6⟩
            case measure => simp [intOf]
      · have HE : Hid (sourceL S = hostP [] S) := Lib.hid (by
          unfold sourceL
          rw [if_neg (HNO.out.1 (by omega)).1, if_neg (by rw [(HNO.out.1 (by omega)).2]; simp), if_neg (HNO.out.2 (by omega)).1, if_neg (by rw [(HNO.out.2 (by omega)).2]; simp)])
        go_wp2
        go_meet
        exact ⟨[], S, HE.out, by rw [← HZB.out.1, str_sb], rfl, rfl, HO6.out.tail, Nat.le_refl _, by decide, HSB.out, .inl rfl⟩
  case rest =>
    obtain ⟨sch, r, hsrc, rfl, rfl, rfl, hO, hrl, hsl, hrB, hsch⟩ := hcut
    have hoo : hostP sch r = o := by rw [← hsrc, HOO.out]
    have hrl2 : r.length ≤ 100000000 := by have := HSL.out; omega
    have hunt := fun w : World => until_c (w := w) (strOfNums r) ⟨#[58]⟩ (by rw [strOfNums_size]; omega) (by decide)
    rw [sb_str hrB, show sb ⟨#[58]⟩ = [58] from rfl] at hunt
    have haB : Byt (ahead [58] r) := ahead_byt hrB
    have hal : (ahead [58] r).length ≤ 100000000 := Nat.le_trans (List.takeWhile_sublist _).length_le hrl2
    have hbB : Byt (behind [58] r) := behind_byt hrB
    have hbl : (behind [58] r).length ≤ 100000000 := Nat.le_trans (List.dropWhile_sublist _).length_le hrl2
    unfold hostP at hoo
    generalize ahead [58] r = A at *
    generalize behind [58] r = B at *
    have hbg := fun w : World => begins_c (w := w) (strOfNums A) ⟨#[42, 46]⟩ (by rw [strOfNums_size]; omega) (by decide)
    rw [sb_str haB, show sb ⟨#[42, 46]⟩ = [42, 46] from rfl] at hbg
    have hsB : Byt (starI A) := by unfold starI; split; exact byt_drop haB _; exact haB
    have hst : strOfNums (starI A) = if begI [42, 46] A = true then (strOfNums A).extract 2 (strOfNums A).size else strOfNums A := by
      unfold starI
      split
      · rw [← str_sb ((strOfNums A).extract 2 (strOfNums A).size), sb_from, sb_str haB]
      · rfl
    have hho := fun w : World => host_c (w := w) (strOfNums (starI A))
    rw [sb_str hsB] at hho
    have hA2 : begI [42, 46] A = true → 2 ≤ (strOfNums A).size := fun h => by rw [strOfNums_size]; exact begI_len h
    have hsz : (strOfNums A).size ≤ 100000000 := by rw [strOfNums_size]; exact hal
    have hemp := str_mt B hbB
    have hB1 : B ≠ [] → 1 ≤ (strOfNums B).size := fun h => by rw [strOfNums_size]; exact List.length_pos_iff.2 h
    have hdr : strOfNums (B.drop 1) = (strOfNums B).extract 1 (strOfNums B).size := by rw [← str_sb ((strOfNums B).extract 1 (strOfNums B).size), sb_from, sb_str hbB]
    have hdB : Byt (B.drop 1) := byt_drop hbB 1
    have hfg := fun w : World => figures_c (w := w) (strOfNums (B.drop 1)) 1 5 (by omega)
    rw [sb_str hdB] at hfg
    have hstar : ((strOfNums (B.drop 1)).toList == [42]) = decide (B.drop 1 = [42]) := by
      have := beq_str (ys := [42]) hdB (fun x hx => by rw [List.mem_singleton.1 hx]; omega)
      rwa [lit_list (m := [42]) (k := [42]) rfl] at this
    have hD0 : B = [] → B.drop 1 = [] := fun h => by rw [h]; rfl
    generalize B.drop 1 = Dp at *
    have HD0 := Lib.hid hD0
    clear hD0
    obtain ⟨b1, hb1⟩ : ∃ b, decide (HostOk (starI A)) = b := ⟨_, rfl⟩
    simp only [hb1] at hho
    have HUNT := Lib.hid hunt; have HBG := Lib.hid hbg; have HHO := Lib.hid hho; have HFG := Lib.hid hfg; have HST := Lib.hid hst; have HA2 := Lib.hid hA2; have HEMP := Lib.hid hemp; have HB1 := Lib.hid hB1; have HDR := Lib.hid hdr; have HSTAR := Lib.hid hstar; have HOO2 := Lib.hid hoo; have HH1 := Lib.hid hb1
    have HO3 := Lib.hid hO
    clear hunt hbg hho hfg hst hA2 hemp hB1 hdr hstar hoo hb1 hO hsrc hrl hrl2 haB hal hbB hbl hsB hdB hrB HOO HO2
    go_wp2_with fail
    with_reducible refine (HUNT.out _).mono ?_
    rintro e w3 ⟨rfl, q, hw⟩
    have HO4 := Lib.hid (HO3.out.drewN q); rw [← hw] at HO4; clear hw HO3 HUNT
    go_wp2_with fail
    with_reducible refine (HBG.out _).mono ?_
    rintro e wq ⟨rfl, hww⟩
    subst hww
    obtain ⟨b2, hb2⟩ : ∃ b, begI [42, 46] A = b := ⟨_, rfl⟩
    have HB2 := Lib.hid hb2
    rw [hb2]
    clear hb2 HBG
    go_upto_if 43 with fail
    go_cut [9] (fun s9 wx => MidV (.string (strOfNums (starI A))) w3 s9 wx)
    case first =>
      cases b2 with
      | true =>
        have h2 := HA2.out HB2.out
        have h2I : (2 : Int) ≤ (strOfNums A).size := by omega
        have HE : Hid (strOfNums (starI A) = (strOfNums A).extract 2 (strOfNums A).size) := Lib.hid (by rw [HST.out, if_pos HB2.out])
        go_wp2
        go_meet
        exact ⟨by rw [HE.out], rfl⟩
      | false =>
        have HE : Hid (strOfNums (starI A) = strOfNums A) := Lib.hid (by rw [HST.out, if_neg (by rw [HB2.out]; simp)])
        go_wp2
        go_meet
        exact ⟨by rw [HE.out], rfl⟩
    case rest =>
      obtain ⟨rfl, rfl⟩ := hcut
      go_wp2_with fail
      with_reducible refine (HHO.out _).mono ?_
      rintro e wq ⟨rfl, hww⟩
      subst hww
      clear HHO HST HA2 HB2
      cases b1 with
      | false =>
        have HE : Hid (o = none) := Lib.hid (by rw [← HOO2.out, if_neg (fun h => of_decide_eq_false HH1.out h.1)])
        go_wp2
        (try simp only [Exit.inBlock, Exit.then]); refine bodyPost_ret (results_tmp4 rfl _ _ _) rfl ?_; exact ⟨by rw [HE.out]; rfl, HO4.out⟩
      | true =>
        have hemp := HEMP.out
        by_cases hB0 : B = []
        · rw [decide_eq_true hB0] at hemp
          have HE : Hid (o = some ⟨sch, A, Dp⟩) := Lib.hid (by rw [← HOO2.out, if_pos ⟨of_decide_eq_true HH1.out, .inl hB0⟩])
          have HP : Hid ((⟨#[]⟩ : ByteArray) = strOfNums (Dp)) := Lib.hid (by rw [HD0.out hB0]; rfl)
          clear hB0
          go_wp2
          (try simp only [Exit.inBlock, Exit.then]); refine bodyPost_ret (results_tmp4 rfl _ _ _) rfl ?_; exact ⟨by rw [HE.out, HP.out]; rfl, HO4.out⟩
        · rw [decide_eq_false hB0] at hemp
          have h1 := HB1.out hB0
          have h1I : (1 : Int) ≤ (strOfNums B).size := by omega
          have HB0 := Lib.hid hB0
          clear hB0
          go_wp2_with fail
          rw [← HDR.out]
          with_reducible refine (HFG.out _).mono ?_
          rintro e wq ⟨rfl, hww⟩
          subst hww
          have hstar := HSTAR.out
          by_cases hs1 : Dp = [42]
          · rw [decide_eq_true hs1] at hstar
            have HE : Hid (o = some ⟨sch, A, Dp⟩) := Lib.hid (by rw [← HOO2.out, if_pos ⟨of_decide_eq_true HH1.out, .inr (.inl hs1)⟩])
            clear hs1
            go_wp2
            (try simp only [Exit.inBlock, Exit.then]); refine bodyPost_ret (results_tmp4 rfl _ _ _) rfl ?_; exact ⟨by rw [HE.out]; rfl, HO4.out⟩
          · rw [decide_eq_false hs1] at hstar
            cases hfi : figI (Dp) 1 5 with
            | none =>
              have HE : Hid (o = none) := Lib.hid (by
                rw [← HOO2.out, if_neg]
                rintro ⟨_, h | h | ⟨nn, h, _⟩⟩
                · exact HB0.out h
                · exact hs1 h
                · rw [hfi] at h; cases h)
              simp only [Option.getD_none, Option.isSome_none]
              clear hs1 hfi
              go_wp2
              (try simp only [Exit.inBlock, Exit.then]); refine bodyPost_ret (results_tmp4 rfl _ _ _) rfl ?_; exact ⟨by rw [HE.out]; rfl, HO4.out⟩
            | some nn =>
              simp only [Option.getD_some, Option.isSome_some]
              by_cases hn : 65535 < nn
              · have HE : Hid (o = none) := Lib.hid (by
                  rw [← HOO2.out, if_neg]
                  rintro ⟨_, h | h | ⟨mm, h, h3⟩⟩
                  · exact HB0.out h
                  · exact hs1 h
                  · rw [hfi] at h; cases h; omega)
                clear hs1 hfi
                go_wp2
                (try simp only [Exit.inBlock, Exit.then]); refine bodyPost_ret (results_tmp4 rfl _ _ _) rfl ?_; exact ⟨by rw [HE.out]; rfl, HO4.out⟩
              · have HE : Hid (o = some ⟨sch, A, Dp⟩) := Lib.hid (by rw [← HOO2.out, if_pos ⟨of_decide_eq_true HH1.out, .inr (.inr ⟨nn, hfi, by omega⟩)⟩])
                clear hs1 hfi
                go_wp2
                (try simp only [Exit.inBlock, Exit.then]); refine bodyPost_ret (results_tmp4 rfl _ _ _) rfl ?_; exact ⟨by rw [HE.out]; rfl, HO4.out⟩
end Go.Proofs.YtfgaikacijdodaaGreatDoor
/-
  The document's own 'ends', in plain Go.
-/
namespace Go.Proofs.YtfgaikacijdodaaGreatDoor
set_option linter.unusedVariables false
set_option linter.unusedSimpArgs false
set_option maxRecDepth 20000
open Go.RowKit

set_option maxHeartbeats 1000000 in
theorem ends_c {w : World} (s p : ByteArray) (hs : s.size ≤ 1073741824) (hp : p.size ≤ 1073741824) : Calls Tryz.prog 35 #[.string s, .string p] w fun e w' => e = .returned (.bool (endI (sb p) (sb s))) ∧ w = w' := by
  by_cases h : p.size ≤ s.size
  · have h' : (p.size : Int) ≤ s.size := by omega
    have hw : IntKind.i64.wrap ((s.size : Int) - p.size) = (s.size : Int) - p.size := IntWalk.i64_in _ (by omega)
    have hto : ((s.size : Int) - p.size).toNat = s.size - p.size := by omega
    have h0 : (0 : Int) ≤ (s.size : Int) - p.size := by omega
    have h1 : (s.size : Int) - p.size ≤ s.size := by omega
    have hb : ((s.extract (s.size - p.size) s.size).toList == p.toList) = endI (sb p) (sb s) := by
      rw [beq_sb, sb_from]
      unfold endI
      rw [length_sb, length_sb, decide_eq_true h, Bool.true_and]
    generalize endI (sb p) (sb s) = b at *
    go_enter Tryz.func35, Tryz.ntmps35
    go_wp2
    go_ret
    exact ⟨rfl, rfl⟩
  · have h' : ¬ ((p.size : Int) ≤ s.size) := by omega
    have e : endI (sb p) (sb s) = false := by
      unfold endI
      rw [length_sb, length_sb, decide_eq_false h, Bool.false_and]
    rw [e]
    go_enter Tryz.func35, Tryz.ntmps35
    go_wp2
    go_ret
    exact ⟨rfl, rfl⟩
end Go.Proofs.YtfgaikacijdodaaGreatDoor
/-
  The document's own like, Match, Allows, CheckCSP, in plain Go.
-/
namespace Go.Proofs.YtfgaikacijdodaaGreatDoor
set_option linter.unusedVariables false
set_option linter.unusedSimpArgs false
set_option maxRecDepth 20000
open Go.RowKit

theorem str_is {l : List Int} (hB : Byt l) (m : List Int) (hm : Byt m) : ((strOfNums l).toList == (strOfNums m).toList) = decide (l = m) := beq_str hB hm
theorem selfW_byt : Byt selfW := by intro x hx; simp [selfW] at hx; omega
theorem noneW_byt : Byt noneW := by intro x hx; simp [noneW] at hx; omega
structure SL.Fit (x : SL) (n : Nat) : Prop where
  schB : Byt x.sch
  hostB : Byt x.host
  portB : Byt x.port
  schL : x.sch.length ≤ 5
  hostL : x.host.length ≤ n
  portL : x.port.length ≤ n
theorem hostP_fit {sch r : List Int} {x : SL} {n : Nat} (hs : Byt sch) (hsl : sch.length ≤ 5) (hr : Byt r) (hrl : r.length ≤ n) (h : hostP sch r = some x) : x.Fit n := by
  unfold hostP at h
  split at h
  · cases h
    refine ⟨hs, ahead_byt hr, byt_drop (behind_byt hr) 1, hsl, Nat.le_trans (List.takeWhile_sublist _).length_le hrl, ?_⟩
    show ((behind [58] r).drop 1).length ≤ n
    have := Nat.le_trans (List.dropWhile_sublist (fun x => !([58] : List Int).contains x) (l := r)).length_le hrl
    unfold behind
    rw [List.length_drop]; omega
  · cases h
theorem sourceL_fit {S : List Int} {x : SL} (hB : Byt S) (h : sourceL S = some x) : x.Fit S.length := by
  unfold sourceL at h
  split at h
  · cases h; exact ⟨http_byt, (fun x hx => by cases hx), (fun x hx => by cases hx), by decide, Nat.zero_le _, Nat.zero_le _⟩
  · split at h
    · exact hostP_fit http_byt (by decide) (byt_drop hB _) (by rw [List.length_drop]; omega) h
    · split at h
      · cases h; exact ⟨https_byt, (fun x hx => by cases hx), (fun x hx => by cases hx), by decide, Nat.zero_le _, Nat.zero_le _⟩
      · split at h
        · exact hostP_fit https_byt (by decide) (byt_drop hB _) (by rw [List.length_drop]; omega) h
        · exact hostP_fit (fun x hx => by cases hx) (by decide) hB (Nat.le_refl _) h
theorem sourceI_fit {s : ByteArray} {x : SL} (h : sourceI (sb s) = some x) : x.Fit s.size := by
  have := sourceL_fit (lowL_byt (byt_sb s)) h
  unfold lowL at this
  rwa [List.length_map, length_sb] at this
theorem UL.Half.origB' {u : UL} (h : u.Half) : Byt (originI u) := by
  unfold originI
  refine byt_append (byt_append (byt_append h.schB ?_) h.hostB) ?_
  · intro x hx; simp at hx; omega
  · split
    · intro x hx
      rcases List.mem_cons.1 hx with rfl | hx
      · omega
      · exact digs_byt _ x hx
    · intro x hx; cases hx
set_option maxHeartbeats 4000000 in
theorem rlike_c {w0 w : World} {R : Blks} (hO : Own w0 w R) (sc : List Int) (hs : Byt sc) (u : UL) (hu : Byt u.sch) :
    Calls Tryz.prog 33 #[.string (strOfNums sc), .agg u.val.toArray] w fun e w' => e = .returned (.bool (likeI sc u)) ∧ Own w0 w' R := by
  have t1 := str_is hu sc hs
  have t2 := str_is hs httpI http_byt
  have t3 := str_is hu httpsI https_byt
  rw [lit_list (m := httpI) (k := [104, 116, 116, 112]) rfl] at t2
  rw [lit_list (m := httpsI) (k := [104, 116, 116, 112, 115]) rfl] at t3
  unfold likeI
  obtain ⟨b1, hb1⟩ : ∃ b, decide (u.sch = sc) = b := ⟨_, rfl⟩
  obtain ⟨b2, hb2⟩ : ∃ b, decide (sc = httpI) = b := ⟨_, rfl⟩
  obtain ⟨b3, hb3⟩ : ∃ b, decide (u.sch = httpsI) = b := ⟨_, rfl⟩
  rw [hb1] at t1 ⊢; rw [hb2] at t2 ⊢; rw [hb3] at t3 ⊢
  unfold UL.val
  generalize strOfNums sc = sS at *
  generalize strOfNums u.sch = us at *
  generalize strOfNums u.host = uh at *
  generalize strOfNums u.path = ux at *
  generalize strOfNums u.query = uq at *
  generalize u.port = up at *
  have HO := Lib.hid hO
  clear hO hb1 hb2 hb3 hs hu
  cases b1 <;> cases b2 <;> cases b3 <;>
  (go_enter Tryz.func33, Tryz.ntmps33
   go_wp2_with (refine wl_box rfl _ _ rfl HO.out [Value.string us, Value.string uh, Value.int .i64 up, Value.string ux, Value.string uq].toArray (by rfl) ?_; intro g w1 hO1; have HO1 := Lib.hid hO1; have c0 : w1.cell? ⟨g, 0, none⟩ = some (.string us) := hO1.cell (.head _) 0; clear hO1 HO)
   go_ret
   exact ⟨rfl, HO1.out.tail⟩)
def MidP (H : Prop) (w0 : World) (L : Blks) (x : Value) (s : Value) (wx : World) : Prop := s = x ∧ H ∧ Own w0 wx L
set_option maxRecDepth 100000 in
set_option maxHeartbeats 16000000 in
theorem rmatch_c {w0 w : World} {R : Blks} (hO : Own w0 w R) (s : ByteArray) (hs : s.size ≤ 100000000) (page u : UL) (hp : page.Half) (hu : u.Half) :
    Calls Tryz.prog 10 #[.string s, .agg page.val.toArray, .agg u.val.toArray] w fun e w' => e = .returned (.bool (matchI (sb s) page u)) ∧ Own w0 w' R := by
  obtain ⟨S, hS⟩ : ∃ S, lowL (sb s) = S := ⟨_, rfl⟩
  obtain ⟨ans, hans⟩ : ∃ ans, matchI (sb s) page u = ans := ⟨_, rfl⟩
  rw [hans]
  unfold matchI at hans
  rw [hS] at hans
  have hSB : Byt S := by rw [← hS]; exact lowL_byt (byt_sb s)
  have t1 := str_is hSB selfW selfW_byt
  rw [lit_list (m := selfW) (k := [39, 115, 101, 108, 102, 39]) rfl] at t1
  have t2 := str_is hSB [42] (fun x hx => by rw [List.mem_singleton.1 hx]; omega)
  rw [lit_list (m := [42]) (k := [42]) rfl] at t2
  have hlow := fun (w1 : World) (R1 : Blks) (h : Own w0 w1 R1) => rlower_c h s (by omega)
  rw [hS] at hlow
  have hsame := fun (w1 : World) (R1 : Blks) (h : Own w0 w1 R1) => rsame_c h page u hp.ok hu.ok
  have hse : ((strOfNums (originI page)).toList == (strOfNums (originI u)).toList) = decide (originI page = originI u) := beq_str hp.origB' hu.origB'
  simp only [hse] at hsame
  have hsrc := fun (w1 : World) (R1 : Blks) (h : Own w0 w1 R1) => rsource_c h s hs
  have hlike := fun (w1 : World) (R1 : Blks) (h : Own w0 w1 R1) (sc : List Int) (hsc : Byt sc) => rlike_c h sc hsc u hu.schB
  have hown := fun w : World => own_c (w := w) (strOfNums u.sch)
  rw [sb_str hu.schB] at hown
  have huh := sb_str hu.hostB
  have huhl : (strOfNums u.host).size ≤ 1000 := by rw [strOfNums_size]; have := hu.host.2.1; omega
  have hup0 := hu.port0
  have hup1 := hu.port1
  have hpsB := hp.schB
  have hopd : ownPort u = if u.port = 0 then ownI u.sch else u.port := rfl
  simp only [UL.val] at hsame hlike ⊢
  obtain ⟨ps, hps⟩ : ∃ x, strOfNums page.sch = x := ⟨_, rfl⟩
  rw [hps] at hsame ⊢
  generalize strOfNums page.host = ph at *
  generalize strOfNums page.path = px at *
  generalize strOfNums page.query = pq at *
  obtain ⟨us, hus⟩ : ∃ x, strOfNums u.sch = x := ⟨_, rfl⟩
  rw [hus] at hsame hlike hown ⊢
  obtain ⟨uh, huhe⟩ : ∃ x, strOfNums u.host = x := ⟨_, rfl⟩
  rw [huhe] at hsame hlike huh huhl ⊢
  generalize strOfNums u.path = ux at *
  generalize strOfNums u.query = uq at *
  obtain ⟨pp, hpp⟩ : ∃ x, page.port = x := ⟨_, rfl⟩
  obtain ⟨up, hup⟩ : ∃ x, u.port = x := ⟨_, rfl⟩
  rw [hpp, hup] at hsame ⊢
  rw [hup] at hlike hup0 hup1
  generalize strOfNums S = Z at *
  have HANS := Lib.hid hans; have HLOW := Lib.hid hlow; have HSAME := Lib.hid hsame; have HSRC := Lib.hid hsrc; have HLIKE := Lib.hid hlike; have HOWN := Lib.hid hown; have HUH := Lib.hid huh; have HUHL := Lib.hid huhl; have HPS := Lib.hid hps; have HPSB := Lib.hid hpsB; have HUP := Lib.hid hup; have HOPD := Lib.hid hopd
  have HO := Lib.hid hO
  clear hans hlow hsame hsrc hlike hown huh huhl hps hpsB hpp hup hopd hus huhe hse hS hSB hO hp hu
  go_enter Tryz.func10, Tryz.ntmps10
  go_wp2_with (first | (refine wl_box rfl _ _ rfl HO.out [Value.string ps, Value.string ph, Value.int .i64 pp, Value.string px, Value.string pq].toArray (by rfl) ?_; intro g1 w1 hO; have HO1 := Lib.hid hO; clear hO HO) | (refine wl_box rfl _ _ rfl HO1.out [Value.string us, Value.string uh, Value.int .i64 up, Value.string ux, Value.string uq].toArray (by rfl) ?_; intro g2 w2 hO; have HO2 := Lib.hid (hO.cast (L' := (g2, .cells [Value.string us, Value.string uh, Value.int .i64 up, Value.string ux, Value.string uq].toArray 29) :: (g1, .cells [Value.string ps, Value.string ph, Value.int .i64 pp, Value.string px, Value.string pq].toArray 29) :: R) rfl); clear hO HO1))
  with_reducible refine (HLOW.out _ _ HO2.out).mono ?_
  rintro e w3 ⟨rfl, hO⟩
  have HO3 := Lib.hid hO; clear hO HO2 HLOW
  by_cases h1 : S = selfW
  · rw [decide_eq_true h1] at t1
    have HE : Hid (ans = decide (originI page = originI u)) := Lib.hid (by rw [← HANS.out, if_pos h1])
    clear h1 t2
    go_wp2_with (first | (refine wl_load rfl _ _ rfl g1 0 [Value.string ps, Value.string ph, Value.int .i64 pp, Value.string px, Value.string pq] [Value.string ps, Value.string ph, Value.int .i64 pp, Value.string px, Value.string pq] _ (HO3.out.heap (.tail _ (.head _))) (by rfl) _ Tryz.underlying29 rfl rurl_size (by rfl) ?_) | (refine wl_load rfl _ _ rfl g2 0 [Value.string us, Value.string uh, Value.int .i64 up, Value.string ux, Value.string uq] [Value.string us, Value.string uh, Value.int .i64 up, Value.string ux, Value.string uq] _ (HO3.out.heap (.head _)) (by rfl) _ Tryz.underlying29 rfl rurl_size (by rfl) ?_))
    with_reducible refine (HSAME.out _ _ HO3.out).mono ?_
    rintro e w4 ⟨rfl, hO⟩
    have HO4 := Lib.hid hO; clear hO HO3
    go_wp2
    go_ret
    exact ⟨by rw [HE.out]; rfl, HO4.out.tail.tail⟩
  · rw [decide_eq_false h1] at t1
    by_cases h2 : S = [42]
    · rw [decide_eq_true h2] at t2
      have HE : Hid (ans = true) := Lib.hid (by rw [← HANS.out, if_neg h1, if_pos h2])
      clear h1 h2
      go_wp2
      go_ret
      exact ⟨by rw [HE.out]; rfl, HO3.out.tail.tail⟩
    · rw [decide_eq_false h2] at t2
      have HANS2 : Hid ((match sourceI (sb s) with | none => false | some x => matchS x page u) = ans) := Lib.hid (by have h := HANS.out; rwa [if_neg h1, if_neg h2] at h)
      clear h1 h2 HANS HSAME
      go_wp2_with fail
      with_reducible refine (HSRC.out _ _ HO3.out).mono ?_
      rintro e w4 ⟨rfl, hO⟩
      have HO4 := Lib.hid hO; clear hO HO3 HSRC
      cases hsr : sourceI (sb s) with
      | none =>
        have HE : Hid (ans = false) := Lib.hid (by rw [← HANS2.out, hsr])
        simp only [Option.getD_none, Option.isSome_none]
        clear hsr HANS2
        go_wp2
        go_ret
        exact ⟨by rw [HE.out]; rfl, HO4.out.tail.tail⟩
      | some x =>
        have hf := sourceI_fit hsr
        have hma : ans = matchS x page u := by rw [← HANS2.out, hsr]
        simp only [Option.getD_some, Option.isSome_some]
        have th := str_mt x.host hf.hostB
        have HF := Lib.hid hf
        clear hsr HANS2 hf t1 t2
        unfold matchS at hma
        by_cases hh : x.host = []
        · rw [decide_eq_true hh] at th
          have HE : Hid (ans = likeI x.sch u) := Lib.hid (by rw [hma, if_pos hh])
          clear hh hma
          go_wp2_with (refine wl_load rfl _ _ rfl g2 0 [Value.string us, Value.string uh, Value.int .i64 up, Value.string ux, Value.string uq] [Value.string us, Value.string uh, Value.int .i64 up, Value.string ux, Value.string uq] _ (HO4.out.heap (.head _)) (by rfl) _ Tryz.underlying29 rfl rurl_size (by rfl) ?_)
          with_reducible refine (HLIKE.out _ _ HO4.out x.sch HF.out.schB).mono ?_
          rintro e w5 ⟨rfl, hO⟩
          have HO5 := Lib.hid hO; clear hO HO4
          go_wp2
          go_ret
          exact ⟨by rw [HE.out]; rfl, HO5.out.tail.tail⟩
        · rw [decide_eq_false hh] at th
          rw [if_neg hh] at hma
          obtain ⟨sc, hsc⟩ : ∃ sc, sc = if x.sch = [] then page.sch else x.sch := ⟨_, rfl⟩
          rw [← hsc] at hma
          have hscB : Byt sc := by rw [hsc]; split; exact HPSB.out; exact HF.out.schB
          have ts := str_mt x.sch HF.out.schB
          obtain ⟨b0, hb0⟩ : ∃ b, decide (x.sch = []) = b := ⟨_, rfl⟩
          rw [hb0] at ts
          have HSC : Hid (strOfNums sc = if b0 = true then ps else strOfNums x.sch) := Lib.hid (by
            rw [hsc, ← hb0]
            simp only [decide_eq_true_iff]
            split
            · exact HPS.out
            · rfl)
          have HMA := Lib.hid hma; have HSCB := Lib.hid hscB
          clear hma hscB hsc hb0 hh
          have c0 : w4.cell? ⟨g1, 0, none⟩ = some (.string ps) := HO4.out.cell (.tail _ (.head _)) 0
          go_upto_if 38 with fail
          go_cut [7] (fun s7 wx => MidV (.string (strOfNums sc)) w4 s7 wx)
          case first =>
            cases b0 with
            | true =>
              have HE : Hid (strOfNums sc = ps) := Lib.hid (by rw [HSC.out, if_pos rfl])
              go_wp2
              go_meet
              exact ⟨by rw [HE.out], rfl⟩
            | false =>
              have HE : Hid (strOfNums sc = strOfNums x.sch) := Lib.hid (by rw [HSC.out, if_neg (by simp)])
              go_wp2
              go_meet
              exact ⟨by rw [HE.out], rfl⟩
          case rest =>
            obtain ⟨rfl, rfl⟩ := hcut
            clear c0 ts HSC
            go_wp2_with (refine wl_load rfl _ _ rfl g2 0 [Value.string us, Value.string uh, Value.int .i64 up, Value.string ux, Value.string uq] [Value.string us, Value.string uh, Value.int .i64 up, Value.string ux, Value.string uq] _ (HO4.out.heap (.head _)) (by rfl) _ Tryz.underlying29 rfl rurl_size (by rfl) ?_)
            with_reducible refine (HLIKE.out _ _ HO4.out sc HSCB.out).mono ?_
            rintro e w5 ⟨rfl, hO⟩
            have HO5 := Lib.hid hO; clear hO HO4
            cases hli : likeI sc u with
            | false =>
              have HE : Hid (ans = false) := Lib.hid (by rw [HMA.out, hli]; rfl)
              clear hli
              go_wp2
              go_ret
              exact ⟨by rw [HE.out]; rfl, HO5.out.tail.tail⟩
            | true =>
              have HM2 : Hid (ans = (hostM x.host u && portM x.port u)) := Lib.hid (by rw [HMA.out, hli]; rfl)
              clear hli HMA HLIKE
              have hbg := fun w : World => begins_c (w := w) (strOfNums x.host) ⟨#[42, 46]⟩ (by rw [strOfNums_size]; have := HF.out.hostL; omega) (by decide)
              rw [sb_str HF.out.hostB, show sb ⟨#[42, 46]⟩ = [42, 46] from rfl] at hbg
              have hen := fun w : World => ends_c (w := w) uh (strOfNums (x.host.drop 1)) (by have := HUHL.out; omega) (by rw [strOfNums_size, List.length_drop]; have := HF.out.hostL; omega)
              rw [HUH.out, sb_str (byt_drop HF.out.hostB 1)] at hen
              have hhd : strOfNums (x.host.drop 1) = (strOfNums x.host).extract 1 (strOfNums x.host).size := by rw [← str_sb ((strOfNums x.host).extract 1 (strOfNums x.host).size), sb_from, sb_str HF.out.hostB]
              have heq : (uh.toList == (strOfNums x.host).toList) = decide (u.host = x.host) := by rw [beq_sb, HUH.out, sb_str HF.out.hostB]
              have hxl : (strOfNums x.host).size = x.host.length := strOfNums_size _
              have hul : uh.size = u.host.length := by rw [← HUH.out, length_sb]
              obtain ⟨b3, hb3⟩ : ∃ b, begI [42, 46] x.host = b := ⟨_, rfl⟩
              have HHM : Hid (hostM x.host u = if b3 = true then endI (x.host.drop 1) u.host && decide (u.host.length ≠ x.host.length - 1) else decide (u.host = x.host)) := Lib.hid (by unfold hostM; rw [hb3])
              have HX2 : Hid (b3 = true → 2 ≤ x.host.length) := Lib.hid (fun h => by rw [← hb3] at h; exact begI_len h)
              rw [hb3] at hbg
              have HBG := Lib.hid hbg; have HEND := Lib.hid hen; have HHD := Lib.hid hhd; have HEQ := Lib.hid heq; have HXL := Lib.hid hxl; have HUL := Lib.hid hul
              clear hbg hen hhd heq hxl hul hb3
              go_wp2_with fail
              with_reducible refine (HBG.out _).mono ?_
              rintro e wq ⟨rfl, hww⟩
              subst hww
              clear HBG
              go_upto_if 46 with fail
              go_cut [8] (fun s8 wx => MidP (hostM x.host u = true) w0 ((g2, .cells [Value.string us, Value.string uh, Value.int .i64 up, Value.string ux, Value.string uq].toArray 29) :: (g1, .cells [Value.string ps, Value.string ph, Value.int .i64 pp, Value.string px, Value.string pq].toArray 29) :: R) (.string (strOfNums x.host)) s8 wx)
              case first =>
                cases b3 with
                | true =>
                  have hx2 := HX2.out rfl
                  have hz1 : (1 : Int) ≤ (strOfNums x.host).size := by rw [HXL.out]; omega
                  have hw1 : IntKind.i64.wrap (((strOfNums x.host).size : Int) - 1) = ((strOfNums x.host).size : Int) - 1 := IntWalk.i64_in _ (by rw [HXL.out]; have := HF.out.hostL; omega)
                  have hhm := HHM.out
                  rw [if_pos rfl] at hhm
                  have hlq : (((uh.size : Int) == ((strOfNums x.host).size : Int) - 1)) = decide (u.host.length = x.host.length - 1) := by
                    rw [HUL.out, HXL.out, Bool.eq_iff_iff, beq_iff_eq, decide_eq_true_iff]; omega
                  cases hed : endI (x.host.drop 1) u.host with
                  | false =>
                    have HE : Hid (ans = false) := Lib.hid (by rw [HM2.out, hhm, hed]; rfl)
                    have HEND2 := HEND.out
                    rw [hed] at HEND2
                    have HEND := Lib.hid HEND2
                    clear hhm hed HEND2 hlq
                    go_wp2_with fail
                    refine wp_region_lin (fun w' => Own w0 w' ((g2, .cells [Value.string us, Value.string uh, Value.int .i64 up, Value.string ux, Value.string uq].toArray 29) :: (g1, .cells [Value.string ps, Value.string ph, Value.int .i64 pp, Value.string px, Value.string pq].toArray 29) :: R)) 15 [(0, true), (1, true), (2, true), (3, true), (4, false), (5, true), (6, true), (7, true), (8, true), (9, true), (10, true), (11, true), (12, true), (13, true), (14, true)] (by kernel_rfl) (by kernel_rfl) (fun _ _ d _ _ h => by cases d <;> exact h) HO5.out.drew ?_
                    simp only [List.map_cons, List.map_nil, pick_zero, pick_succ, List.drop_succ_cons, List.drop_zero]
                    iterate 4 (refine lin_q ?_ rfl ?_ ?_; rotate_left 1; (focus (rintro w' hO; have k1 : w'.cell? ⟨g2, 1, none⟩ = some (.string uh) := hO.cell (.head _) 1; clear hO; go_simp; first | done | with_reducible rfl | (trace_state; fail))); simp only [Act.put, List.setIfInBounds_toArray, List.set_cons_zero, List.set_cons_succ])
                    refine lin_act ?_
                    rw [← HHD.out]
                    refine wl_call rfl _ _ _ (by go_simp) (HEND.out _) ?_
                    rintro e wq ⟨rfl, hww⟩
                    subst hww
                    have HO6 := Lib.hid HO5.out.drew; clear HO5
                    refine ⟨_, rfl, LinPost.mk HO6.out ?_⟩
                    simp only [Act.put, List.setIfInBounds_toArray, List.set_cons_zero, List.set_cons_succ]
                    iterate 2 (refine lin_q ?_ rfl ?_ ?_; rotate_left 1; (focus (rintro w' hO; have k1 : w'.cell? ⟨g2, 1, none⟩ = some (.string uh) := hO.cell (.head _) 1; clear hO; go_simp; first | done | with_reducible rfl | (trace_state; fail))); simp only [Act.put, List.setIfInBounds_toArray, List.set_cons_zero, List.set_cons_succ])
                    iterate 7 (refine lin_no (by rfl) ?_; simp only [Act.put, List.setIfInBounds_toArray, List.set_cons_zero, List.set_cons_succ])
                    iterate 1 (refine lin_q ?_ rfl ?_ ?_; rotate_left 1; (focus (rintro w' hO; have k1 : w'.cell? ⟨g2, 1, none⟩ = some (.string uh) := hO.cell (.head _) 1; clear hO; go_simp; first | done | with_reducible rfl | (trace_state; fail))); simp only [Act.put, List.setIfInBounds_toArray, List.set_cons_zero, List.set_cons_succ])
                    refine lin_nil ?_
                    go_wp2
                    go_ret
                    exact ⟨by rw [HE.out]; rfl, HO6.out.tail.tail⟩
                  | true =>
                    have HEND2 := HEND.out
                    rw [hed] at HEND2
                    have HEND := Lib.hid HEND2
                    rw [hed, Bool.true_and] at hhm
                    obtain ⟨b4, hb4⟩ : ∃ b, decide (u.host.length = x.host.length - 1) = b := ⟨_, rfl⟩
                    rw [hb4] at hlq
                    have HH4 : Hid (hostM x.host u = !b4) := Lib.hid (by rw [hhm, ← hb4, decide_not])
                    clear hhm hed HEND2 hb4
                    go_wp2_with fail
                    refine wp_region_lin (fun w' => Own w0 w' ((g2, .cells [Value.string us, Value.string uh, Value.int .i64 up, Value.string ux, Value.string uq].toArray 29) :: (g1, .cells [Value.string ps, Value.string ph, Value.int .i64 pp, Value.string px, Value.string pq].toArray 29) :: R)) 15 [(0, true), (1, true), (2, true), (3, true), (4, false), (5, true), (6, true), (7, true), (8, true), (9, true), (10, true), (11, true), (12, true), (13, true), (14, true)] (by kernel_rfl) (by kernel_rfl) (fun _ _ d _ _ h => by cases d <;> exact h) HO5.out.drew ?_
                    simp only [List.map_cons, List.map_nil, pick_zero, pick_succ, List.drop_succ_cons, List.drop_zero]
                    iterate 4 (refine lin_q ?_ rfl ?_ ?_; rotate_left 1; (focus (rintro w' hO; have k1 : w'.cell? ⟨g2, 1, none⟩ = some (.string uh) := hO.cell (.head _) 1; clear hO; go_simp; first | done | with_reducible rfl | (trace_state; fail))); simp only [Act.put, List.setIfInBounds_toArray, List.set_cons_zero, List.set_cons_succ])
                    refine lin_act ?_
                    rw [← HHD.out]
                    refine wl_call rfl _ _ _ (by go_simp) (HEND.out _) ?_
                    rintro e wq ⟨rfl, hww⟩
                    subst hww
                    have HO6 := Lib.hid HO5.out.drew; clear HO5
                    refine ⟨_, rfl, LinPost.mk HO6.out ?_⟩
                    simp only [Act.put, List.setIfInBounds_toArray, List.set_cons_zero, List.set_cons_succ]
                    iterate 2 (refine lin_q ?_ rfl ?_ ?_; rotate_left 1; (focus (rintro w' hO; have k1 : w'.cell? ⟨g2, 1, none⟩ = some (.string uh) := hO.cell (.head _) 1; clear hO; go_simp; first | done | with_reducible rfl | (trace_state; fail))); simp only [Act.put, List.setIfInBounds_toArray, List.set_cons_zero, List.set_cons_succ])
                    iterate 7 (refine lin_g ?_ (by rfl) ?_ ?_; rotate_left 1; (focus (rintro w' hO; have k1 : w'.cell? ⟨g2, 1, none⟩ = some (.string uh) := hO.cell (.head _) 1; clear hO; go_simp; first | done | with_reducible rfl | (trace_state; fail))); simp only [Act.put, List.setIfInBounds_toArray, List.set_cons_zero, List.set_cons_succ])
                    iterate 1 (refine lin_q ?_ rfl ?_ ?_; rotate_left 1; (focus (rintro w' hO; have k1 : w'.cell? ⟨g2, 1, none⟩ = some (.string uh) := hO.cell (.head _) 1; clear hO; go_simp; first | done | with_reducible rfl | (trace_state; fail))); simp only [Act.put, List.setIfInBounds_toArray, List.set_cons_zero, List.set_cons_succ])
                    refine lin_nil ?_
                    cases b4 with
                    | true =>
                      have HE : Hid (ans = false) := Lib.hid (by rw [HM2.out, HH4.out]; rfl)
                      go_wp2
                      go_ret
                      exact ⟨by rw [HE.out]; rfl, HO6.out.tail.tail⟩
                    | false =>
                      go_wp2
                      go_meet
                      exact ⟨rfl, by rw [HH4.out]; rfl, HO6.out⟩
                | false =>
                  have heq := HEQ.out
                  have hhm := HHM.out
                  rw [if_neg (by simp)] at hhm
                  have c1 : w5.cell? ⟨g2, 1, none⟩ = some (.string uh) := HO5.out.cell (.head _) 1
                  by_cases hq : u.host = x.host
                  · rw [decide_eq_true hq] at heq
                    have HH4 : Hid (hostM x.host u = true) := Lib.hid (by rw [hhm]; exact decide_eq_true hq)
                    clear hhm hq
                    go_wp2
                    go_meet
                    exact ⟨rfl, HH4.out, HO5.out⟩
                  · rw [decide_eq_false hq] at heq
                    have HE : Hid (ans = false) := Lib.hid (by rw [HM2.out, hhm, decide_eq_false hq]; rfl)
                    clear hhm hq
                    go_wp2
                    go_ret
                    exact ⟨by rw [HE.out]; rfl, HO5.out.tail.tail⟩
              case rest =>
                obtain ⟨rfl, hhm, hO⟩ := hcut
                have HO6 := Lib.hid hO
                have HM3 : Hid (ans = portM x.port u) := Lib.hid (by rw [HM2.out, hhm, Bool.true_and])
                clear hO hhm HM2 HO5 HEND HHD HEQ HXL HUL HHM HX2
                have c2 : wc.cell? ⟨g2, 2, none⟩ = some (.int .i64 up) := HO6.out.cell (.head _) 2
                have c0 : wc.cell? ⟨g2, 0, none⟩ = some (.string us) := HO6.out.cell (.head _) 0
                obtain ⟨op, hop⟩ : ∃ op, ownPort u = op := ⟨_, rfl⟩
                have hop2 : op = if up = 0 then ownI u.sch else up := by rw [← hop, HOPD.out, HUP.out]
                have HOP2 := Lib.hid hop2; have HOP := Lib.hid hop
                obtain ⟨b5, hb5⟩ : ∃ b, (up == 0) = b := ⟨_, rfl⟩
                have HB5 := Lib.hid hb5
                clear hop2 hop
                go_upto_if 69 with fail
                go_cut [11] (fun s11 wx => MidV (.int .i64 op) wc s11 wx)
                case first =>
                  cases b5 with
                  | true =>
                    have HE : Hid (op = ownI u.sch) := Lib.hid (by rw [HOP2.out, if_pos (by simpa using HB5.out)])
                    go_wp2_with fail
                    with_reducible refine (HOWN.out _).mono ?_
                    rintro e wq ⟨rfl, hww⟩
                    subst hww
                    go_wp2
                    go_meet
                    exact ⟨by rw [HE.out], rfl⟩
                  | false =>
                    have HE : Hid (op = up) := Lib.hid (by rw [HOP2.out, if_neg (by have := HB5.out; simpa using this)])
                    go_wp2
                    go_meet
                    exact ⟨by rw [HE.out], rfl⟩
                case rest =>
                  obtain ⟨rfl, rfl⟩ := hcut
                  have tp0 := str_mt x.port HF.out.portB
                  have tp1 := str_is HF.out.portB [42] (fun x hx => by rw [List.mem_singleton.1 hx]; omega)
                  rw [lit_list (m := [42]) (k := [42]) rfl] at tp1
                  have hfg := fun w : World => figures_c (w := w) (strOfNums x.port) 1 5 (by omega)
                  rw [sb_str HF.out.portB] at hfg
                  have hpm := HM3.out
                  unfold portM at hpm
                  rw [HUP.out, HOP.out] at hpm
                  have HFG := Lib.hid hfg
                  clear hfg HM3
                  by_cases hp1 : x.port = [42]
                  · rw [decide_eq_true hp1] at tp1
                    have HE : Hid (ans = true) := Lib.hid (by rw [hpm, if_pos hp1])
                    clear hp1 hpm
                    go_wp2
                    go_ret
                    exact ⟨by rw [HE.out]; rfl, HO6.out.tail.tail⟩
                  · rw [decide_eq_false hp1] at tp1
                    rw [if_neg hp1] at hpm
                    by_cases hp2 : x.port = []
                    · rw [decide_eq_true hp2] at tp0
                      have HE : Hid (ans = b5) := Lib.hid (by rw [hpm, if_pos hp2, ← HB5.out, Bool.eq_iff_iff, decide_eq_true_iff, beq_iff_eq])
                      clear hp1 hp2 hpm
                      go_wp2
                      go_ret
                      exact ⟨by rw [HE.out]; rfl, HO6.out.tail.tail⟩
                    · rw [decide_eq_false hp2] at tp0
                      obtain ⟨fn, hfn⟩ : ∃ fn, (figI x.port 1 5).getD 0 = fn := ⟨_, rfl⟩
                      have HFG2 := HFG.out
                      simp only [hfn] at HFG2
                      have HFG := Lib.hid HFG2
                      rw [if_neg hp2, hfn] at hpm
                      have HE : Hid (ans = (op == fn)) := Lib.hid (by rw [hpm, Bool.eq_iff_iff, decide_eq_true_iff, beq_iff_eq])
                      clear hp1 hp2 hpm hfn HFG2
                      go_wp2_with fail
                      with_reducible refine (HFG.out _).mono ?_
                      rintro e wq ⟨rfl, hww⟩
                      subst hww
                      go_wp2
                      go_ret
                      exact ⟨by rw [HE.out]; rfl, HO6.out.tail.tail⟩
end Go.Proofs.YtfgaikacijdodaaGreatDoor
