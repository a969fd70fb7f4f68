/-
  Texts that the laws stand on: UrlP4, UrlP, CspP1.
-/
import Derived.Test.YtfgaikacijdodaaDoorM7
import Derived.Deep.CutBlock
import Derived.Test.YtfgaikacijdodaaDoorM3
import Derived.Test.YtfgaikacijdodaaDoorM6
import Derived.Test.YtfgaikacijdodaaDoorM1

/-
  Package url: read (an inner function of the landed program): Parse of what is trimmed already.
-/
namespace Go.Proofs.YtfgaikacijdodaaDoor
set_option linter.unusedVariables false
set_option linter.unusedSimpArgs false
set_option maxRecDepth 20000
open Go.RowKit

theorem rawGo_len : ∀ (ps st : List (List Int)), (slashed (rawGo st ps)).length ≤ (slashed st).length + (slashed ps).length
  | [], st => Nat.le_add_right _ _
  | [p], st => by
    have := rawStep_len st p true
    have h2 := slashed_cons p []
    show (slashed (rawStep st p true)).length ≤ _
    omega
  | p :: q :: r, st => by
    have h1 := rawStep_len st p false
    have h2 := slashed_cons p (q :: r)
    have h3 := rawGo_len (q :: r) (rawStep st p false)
    show (slashed (rawGo (rawStep st p false) (q :: r))).length ≤ _
    omega
theorem walkI_len (l : List Int) : (walkI l).length ≤ l.length + 1 := by
  have h1 := rawGo_len (partsI l) []
  have h2 := partsI_len l
  unfold walkI
  simp [slashed] at h1 h2 ⊢
  omega
theorem rawGo_ok : ∀ (ps st : List (List Int)), PartsOk st → PartsOk ps → PartsOk (rawGo st ps)
  | [], st, h, _ => h
  | [p], st, h, hp => rawStep_ok true h (hp p (.head _))
  | p :: q :: r, st, h, hp => rawGo_ok (q :: r) _ (rawStep_ok false h (hp p (.head _))) (fun x hx => hp x (.tail _ hx))
theorem walkI_byt {l : List Int} (h : Byt l) : Byt (walkI l) := by
  have hk : PartsOk (rawGo [] (partsI l)) := rawGo_ok _ _ (fun p hp => by cases hp) (fun p hp => ⟨parts_byt l h p hp, parts_noslash l p hp⟩)
  intro x hx
  unfold walkI slashed at hx
  rw [List.mem_flatMap] at hx
  obtain ⟨p, hp, hx⟩ := hx
  rcases List.mem_cons.1 hx with rfl | hx
  · omega
  · exact (hk p hp).1 x hx
theorem cut3_byt {l : List Int} (h : Byt l) : Byt (cut3 l).1 ∧ Byt (cut3 l).2 := ⟨fun x hx => h x ((cut3_mem l).1 x hx), fun x hx => h x ((cut3_mem l).2.1 x hx)⟩
theorem schI_is {s sch : List Int} (h : schI s = some sch) : sch = httpI ∨ sch = httpsI := by
  unfold schI at h
  split at h
  · cases h; exact .inl rfl
  · split at h
    · cases h; exact .inr rfl
    · cases h
/-- What read reads, its parts by name. -/
theorem readI_parts (l : List Int) {A1 A2 at_ : List Int} (h1 : ahead [35] l = A1) (h2 : ahead [63] A1 = A2) (h3 : ahead [47] (cut3 A2).2 = at_) :
    readI l = (schI (cut3 A2).1).bind fun sch => if HostOk (lowL (ahead [58] at_)) then
      (prtI' at_).bind fun n => some ⟨sch, lowL (ahead [58] at_), if n = ownI sch then 0 else n, pctE (walkI ((behind [47] (cut3 A2).2).drop 1)), if (behind [63] A1).drop 1 = [] then [] else 63 :: pctE ((behind [63] A1).drop 1)⟩
    else none := by
  subst h1 h2 h3; rfl
def PortS (w0 : World) (R : Blks) (g2 : Nat) (sch host at_ : List Int) (w : World) : Prop := ∃ n : Int, prtI' at_ = some n ∧ 0 ≤ n ∧ n < 100000 ∧ Own w0 w ((g2, .cells (UL.mk sch host n [] []).val.toArray 23) :: R)
def OwnS (w0 : World) (R : Blks) (g2 : Nat) (sch host : List Int) (p : Int) (w : World) : Prop := Own w0 w ((g2, .cells (UL.mk sch host p [] []).val.toArray 23) :: R)
set_option maxRecDepth 100000 in
set_option maxHeartbeats 16000000 in
theorem read_c {w0 w : World} {R : Blks} (hV : VarsOk w0) (hO : Own w0 w R) (s : ByteArray) (hs : s.size ≤ 5000000) :
    Calls Tryd.prog 17 #[.string s] w (GotU w0 R (readI (sb s))) := by
  have HO := Lib.hid hO; have HV := Lib.hid hV
  have hB0 : Byt (sb s) := byt_sb s
  have hl0 : (sb s).length ≤ 5000000 := by rw [length_sb]; exact hs
  have c1 : ∀ (w' : World) (R' : Blks), Own w0 w' R' → _ := fun w' R' h => lcut_c HV.out h s (by omega) 35 35 rfl
  obtain ⟨A1, hA1⟩ : ∃ A1, ahead [35] (sb s) = A1 := ⟨_, rfl⟩
  have hB1 : Byt A1 := by rw [← hA1]; exact ahead_byt hB0
  have hl1 : A1.length ≤ 5000000 := by rw [← hA1]; exact Nat.le_trans (ahead_len _ _) hl0
  rw [hA1] at c1
  have c2 : ∀ (w' : World) (R' : Blks), Own w0 w' R' → _ := fun w' R' h => lcut_c HV.out h (strOfNums A1) (by rw [strOfNums_size]; omega) 63 63 rfl
  rw [sb_str hB1] at c2
  obtain ⟨A2, hA2⟩ : ∃ A2, ahead [63] A1 = A2 := ⟨_, rfl⟩
  have hB2 : Byt A2 := by rw [← hA2]; exact ahead_byt hB1
  have hl2 : A2.length ≤ 5000000 := by rw [← hA2]; exact Nat.le_trans (ahead_len _ _) hl1
  rw [hA2] at c2
  have c3 : ∀ (w' : World) (R' : Blks), Own w0 w' R' → _ := fun w' R' h => lcut3_c HV.out h (strOfNums A2) (by rw [strOfNums_size]; omega)
  rw [sb_str hB2] at c3
  have hBc := cut3_byt hB2
  have hlc := (cut3_mem A2).2.2
  have c4 : ∀ (w' : World) (R' : Blks), Own w0 w' R' → _ := fun w' R' h => lcut_c HV.out h (strOfNums (cut3 A2).2) (by rw [strOfNums_size]; omega) 47 47 rfl
  rw [sb_str hBc.2] at c4
  obtain ⟨at_, hA4⟩ : ∃ at_, ahead [47] (cut3 A2).2 = at_ := ⟨_, rfl⟩
  have hB4 : Byt at_ := by rw [← hA4]; exact ahead_byt hBc.2
  have hl4 : at_.length ≤ 5000000 := by rw [← hA4]; exact Nat.le_trans (ahead_len _ _) (by omega)
  rw [hA4] at c4
  have c5 : ∀ (w' : World) (R' : Blks), Own w0 w' R' → _ := fun w' R' h => lcut_c HV.out h (strOfNums at_) (by rw [strOfNums_size]; omega) 58 58 rfl
  rw [sb_str hB4] at c5
  have hres := readI_parts (sb s) hA1 hA2 hA4
  obtain ⟨res, hr⟩ : ∃ res, readI (sb s) = res := ⟨_, rfl⟩
  rw [hr] at hres ⊢
  have hprt : prtI' at_ = if behind [58] at_ = [] then some 0 else prtI ((behind [58] at_).drop 1) := rfl
  -- names for the parts
  have hBp : Byt ((behind [47] (cut3 A2).2).drop 1) := byt_drop (behind_byt hBc.2) 1
  have hlp : ((behind [47] (cut3 A2).2).drop 1).length ≤ 5000000 := by rw [List.length_drop]; have := behind_len [47] (cut3 A2).2; omega
  have hBq : Byt ((behind [63] A1).drop 1) := byt_drop (behind_byt hB1) 1
  have hlq : ((behind [63] A1).drop 1).length ≤ 5000000 := by rw [List.length_drop]; have := behind_len [63] A1; omega
  have hBh : Byt (ahead [58] at_) := ahead_byt hB4
  have hlh : (ahead [58] at_).length ≤ 5000000 := Nat.le_trans (ahead_len _ _) hl4
  have hBn : Byt ((behind [58] at_).drop 1) := byt_drop (behind_byt hB4) 1
  have hBs := hBc.1
  have hls : (cut3 A2).1.length ≤ 5000000 := by omega
  obtain ⟨b3, hb3⟩ : ∃ b, (Lib.cut (strOfNums A2).data.toList [58, 47, 47]).2.2 = b := ⟨_, rfl⟩
  rw [hb3] at c3
  obtain ⟨b2, hb2⟩ : ∃ b, decide (behind [63] A1 ≠ []) = b := ⟨_, rfl⟩
  rw [hb2] at c2
  obtain ⟨b4, hb4⟩ : ∃ b, decide (behind [47] (cut3 A2).2 ≠ []) = b := ⟨_, rfl⟩
  rw [hb4] at c4
  obtain ⟨prt, hpt⟩ : ∃ p, (behind [58] at_).drop 1 = p := ⟨_, rfl⟩
  rw [hpt] at c5 hprt hBn
  obtain ⟨b5, hb5⟩ : ∃ b, decide (behind [58] at_ ≠ []) = b := ⟨_, rfl⟩
  rw [hb5] at c5
  have HB5 := Lib.hid hb5
  clear hb3 hb2 hb4 hb5 hpt hA1 hA2 hA4 hr hBc hlc hB0 hl0 hB1 hl1 hB2 hl2
  generalize (cut3 A2).1 = sc at *
  generalize (behind [47] (cut3 A2).2).drop 1 = pth at *
  generalize (cut3 A2).2 = rs at *
  generalize (behind [63] A1).drop 1 = q at *
  generalize ahead [58] at_ = ho at *
  have C1 := Lib.hid c1; have C2 := Lib.hid c2; have C3 := Lib.hid c3; have C4 := Lib.hid c4; have C5 := Lib.hid c5; have HRES := Lib.hid hres; have HPRT := Lib.hid hprt
  have hcs : ∀ (w' : World) (R' : Blks), Own w0 w' R' → _ := fun w' R' h => readScheme_c h (strOfNums sc) (by rw [strOfNums_size]; omega)
  rw [sb_str hBs] at hcs
  have hlw : ∀ (w' : World) (R' : Blks), Own w0 w' R' → _ := fun w' R' h => lower_c h (strOfNums ho) (by rw [strOfNums_size]; omega)
  rw [sb_str hBh] at hlw
  have hBl : Byt (lowL ho) := lowL_byt hBh
  have hih : ∀ (w' : World) (R' : Blks), Own w0 w' R' → _ := fun w' R' h => isHost_c HV.out h (strOfNums (lowL ho)) (by rw [strOfNums_size, lowL, List.length_map]; omega)
  rw [sb_str hBl] at hih
  have hrp : ∀ (w' : World) (R' : Blks), Own w0 w' R' → Calls Tryd.prog 34 #[.string (strOfNums prt)] w' fun e w'' => e = .returned (.tuple #[.int .i64 ((figI prt 1 5).getD 0), .bool (prtI prt).isSome]) ∧ Own w0 w'' R' := fun w' R' h => (readPort_c (w := w') (strOfNums prt)).mono fun e w'' ⟨he, hw⟩ => ⟨by rw [he, sb_str hBn], hw ▸ h⟩
  have hwk : ∀ (w' : World) (R' : Blks), Own w0 w' R' → _ := fun w' R' h => walk_c HV.out h (strOfNums pth) (by rw [strOfNums_size]; omega)
  rw [sb_str hBp] at hwk
  have hBw : Byt (walkI pth) := walkI_byt hBp
  have hlwk := walkI_len pth
  have hen : ∀ (w' : World) (R' : Blks), Own w0 w' R' → _ := fun w' R' h => encode_c h (strOfNums (walkI pth)) (by rw [strOfNums_size]; omega)
  rw [sb_str hBw] at hen
  have heq : ∀ (w' : World) (R' : Blks), Own w0 w' R' → _ := fun w' R' h => encode_c h (strOfNums q) (by rw [strOfNums_size]; omega)
  rw [sb_str hBq] at heq
  have hq0 : ((strOfNums q).toList == []) = decide (q = []) := by rw [beq_lit, sb_str hBq]; rfl
  have hqs : (strOfNums (pctE q)).size ≤ 60000000 := by rw [strOfNums_size]; have := pctE_len q; omega
  have CS := Lib.hid hcs; have CL := Lib.hid hlw; have CH := Lib.hid hih; have CP := Lib.hid hrp; have CW := Lib.hid hwk; have CE := Lib.hid hen; have CQ := Lib.hid heq; have HQ0 := Lib.hid hq0; have HQS := Lib.hid hqs
  generalize hho : lowL ho = host at *
  obtain ⟨hok, hhk⟩ : ∃ b, decide (HostOk host) = b := ⟨_, rfl⟩
  rw [hhk] at CH
  have HHK := Lib.hid hhk
  clear hO hV c1 c2 c3 c4 c5 hres hprt hcs hlw hBl hih hrp hwk hBw hlwk hen heq hq0 hqs hhk hho hBp hlp hBq hlq hBh hlh hBn hBs hls hB4 hl4
  generalize strOfNums A1 = S1 at *
  generalize strOfNums A2 = S2 at *
  generalize strOfNums rs = S4 at *
  generalize strOfNums at_ = S5 at *
  generalize strOfNums sc = SC at *
  generalize strOfNums ho = SH at *
  generalize strOfNums pth = SP at *
  generalize strOfNums q = SQ at *
  generalize strOfNums prt = SN at *
  go_enter Tryd.func17, Tryd.ntmps17
  go_wp2_with (refine wl_alloc rfl _ rfl HO.out _ (alloc_url _) ?_; intro g2 w1 hO1; have HO1 := Lib.hid hO1; clear hO1 HO)
  with_reducible refine (C1.out _ _ HO1.out).mono ?_
  rintro e w2 ⟨rfl, hO⟩
  have HO2 := Lib.hid hO
  clear hO HO1 C1
  go_wp2_with fail
  with_reducible refine (C2.out _ _ HO2.out).mono ?_
  rintro e w3 ⟨rfl, hO⟩
  have HO3 := Lib.hid hO
  clear hO HO2 C2
  go_wp2_with fail
  with_reducible refine (C3.out _ _ HO3.out).mono ?_
  rintro e w4 ⟨rfl, hO⟩
  have HO4 := Lib.hid hO
  clear hO HO3 C3
  go_wp2_with fail
  with_reducible refine (C4.out _ _ HO4.out).mono ?_
  rintro e w5 ⟨rfl, hO⟩
  have HO5 := Lib.hid hO
  clear hO HO4 C4
  go_wp2_with fail
  with_reducible refine (C5.out _ _ HO5.out).mono ?_
  rintro e w6 ⟨rfl, hO⟩
  have HO6 := Lib.hid hO
  clear hO HO5 C5
  go_wp2_with fail
  with_reducible refine (CS.out _ _ HO6.out).mono ?_
  rintro e w7 ⟨rfl, hO⟩
  have HO7 := Lib.hid hO
  clear hO HO6 CS
  cases hsc : schI sc with
  | none =>
    have hno : res = none := by rw [HRES.out, hsc]; rfl
    subst hno
    clear hsc
    simp only [Option.getD_none, Option.isSome_none]
    go_wp2_with (first | (refine wl_store1 rfl _ _ _ rfl HO7.out 0 g2 0 _ (.string (strOfNums [])) _ rfl (by rfl) (by rfl) (by rfl) (by kernel_rfl) (by rfl) (by decide) ?_; intro w8 hO; have HO8 := Lib.hid (hO.cast (L' := (g2, .cells UL.zero.val.toArray 23) :: R) rfl); clear hO HO7) | (refine wl_store rfl _ _ _ rfl HO8.out 0 g2 0 _ UL.zero.val _ rfl (by rfl) (by rfl) url_size (one_url _) (by decide) ?_; intro w9 hO; have HOZ := Lib.hid (hO.cast (L' := (g2, .cells UL.zero.val.toArray 23) :: R) rfl); clear hO HO8))
    have hr0 : w9.cell? ⟨g2, 0, none⟩ = some (Value.string ⟨#[]⟩) := by rw [HOZ.out.cell (.head _)]; rfl
    have hr1 : w9.cell? ⟨g2, 1, none⟩ = some (Value.string ⟨#[]⟩) := by rw [HOZ.out.cell (.head _)]; rfl
    have hr2 : w9.cell? ⟨g2, 2, none⟩ = some (Value.int .i64 0) := by rw [HOZ.out.cell (.head _)]; rfl
    have hr3 : w9.cell? ⟨g2, 3, none⟩ = some (Value.string ⟨#[]⟩) := by rw [HOZ.out.cell (.head _)]; rfl
    have hr4 : w9.cell? ⟨g2, 4, none⟩ = some (Value.string ⟨#[]⟩) := by rw [HOZ.out.cell (.head _)]; rfl
    exact bodyPost_ret (v := .tuple #[.agg #[.string ⟨#[]⟩, .string ⟨#[]⟩, .int .i64 0, .string ⟨#[]⟩, .string ⟨#[]⟩], .bool false]) (by simp [results, Tryd.results17, go_sem, hr0, hr1, hr2, hr3, hr4]) rfl ⟨rfl, HOZ.out.tail⟩
  | some sch =>
    have hsi := schI_is hsc
    have hres2 : res = if HostOk host then (prtI' at_).bind fun n => some ⟨sch, host, if n = ownI sch then 0 else n, pctE (walkI pth), if q = [] then [] else 63 :: pctE q⟩ else none := by rw [HRES.out, hsc]; rfl
    have HSI := Lib.hid hsi; have HRES2 := Lib.hid hres2
    clear hsc hsi hres2 HRES
    simp only [Option.getD_some, Option.isSome_some]
    go_wp2_with (refine wl_store1 rfl _ _ _ rfl HO7.out 0 g2 0 _ (.string (strOfNums sch)) _ rfl (by rfl) (by rfl) (by rfl) (by kernel_rfl) (by rfl) (by decide) ?_; intro w8 hO; have HO8 := Lib.hid (hO.cast (L' := (g2, .cells (UL.mk sch [] 0 [] []).val.toArray 23) :: R) rfl); clear hO HO7)
    with_reducible refine (CL.out _ _ HO8.out).mono ?_
    rintro e w9 ⟨rfl, hO⟩
    have HO9 := Lib.hid hO
    clear hO HO8 CL
    go_wp2_with (first | (refine wl_store1 rfl _ _ _ rfl HO9.out 0 g2 1 _ (.string (strOfNums host)) _ rfl (by rfl) (by rfl) (by rfl) (by kernel_rfl) (by rfl) (by simp [UL.val]) ?_; intro w10 hO; have HO10 := Lib.hid (hO.cast (L' := (g2, .cells (UL.mk sch host 0 [] []).val.toArray 23) :: R) rfl); have k1 : w10.cell? ⟨g2, 1, none⟩ = some (.string (strOfNums host)) := (by rw [HO10.out.cell (.head _)]; rfl); clear hO HO9))
    with_reducible refine (CH.out _ _ HO10.out).mono ?_
    rintro e w11 ⟨rfl, hO⟩
    have HO11 := Lib.hid hO
    clear hO HO10 CH k1
    cases hok with
    | false =>
      have hno : res = none := by rw [HRES2.out, if_neg (of_decide_eq_false HHK.out)]
      subst hno
      go_wp2_with (refine wl_store rfl _ _ _ rfl HO11.out 0 g2 0 _ UL.zero.val _ rfl (by rfl) (by rfl) url_size (one_url _) (by simp [UL.val, UL.zero]) ?_; intro w12 hO; have HOZ := Lib.hid (hO.cast (L' := (g2, .cells UL.zero.val.toArray 23) :: R) rfl); clear hO HO11)
      have hr0 : w12.cell? ⟨g2, 0, none⟩ = some (Value.string ⟨#[]⟩) := by rw [HOZ.out.cell (.head _)]; rfl
      have hr1 : w12.cell? ⟨g2, 1, none⟩ = some (Value.string ⟨#[]⟩) := by rw [HOZ.out.cell (.head _)]; rfl
      have hr2 : w12.cell? ⟨g2, 2, none⟩ = some (Value.int .i64 0) := by rw [HOZ.out.cell (.head _)]; rfl
      have hr3 : w12.cell? ⟨g2, 3, none⟩ = some (Value.string ⟨#[]⟩) := by rw [HOZ.out.cell (.head _)]; rfl
      have hr4 : w12.cell? ⟨g2, 4, none⟩ = some (Value.string ⟨#[]⟩) := by rw [HOZ.out.cell (.head _)]; rfl
      exact bodyPost_ret (v := .tuple #[.agg #[.string ⟨#[]⟩, .string ⟨#[]⟩, .int .i64 0, .string ⟨#[]⟩, .string ⟨#[]⟩], .bool false]) (by simp [results, Tryd.results17, go_sem, hr0, hr1, hr2, hr3, hr4]) rfl ⟨rfl, HOZ.out.tail⟩

    | true =>
      have hres3 : res = (prtI' at_).bind fun n => some ⟨sch, host, if n = ownI sch then 0 else n, pctE (walkI pth), if q = [] then [] else 63 :: pctE q⟩ := by rw [HRES2.out, if_pos (of_decide_eq_true HHK.out)]
      have HRES4 := Lib.hid hres3
      clear hres3 HRES2 HHK
      go_upto_if 62 with fail
      go_cut [3] (fun v wx => PortS w0 R g2 sch host at_ wx)
      case first =>
        cases b5 with
        | false =>
          have hbe : behind [58] at_ = [] := by have := of_decide_eq_false HB5.out; simpa using this
          have hpz : prtI' at_ = some 0 := by rw [HPRT.out, if_pos hbe]
          have HPZ := Lib.hid hpz
          clear hpz hbe
          go_wp2
          go_meet
          exact ⟨0, HPZ.out, by omega, by omega, HO11.out⟩
        | true =>
          have hpz : prtI' at_ = prtI prt := by rw [HPRT.out, if_neg (of_decide_eq_true HB5.out)]
          have HPZ := Lib.hid hpz
          clear hpz HPRT HB5
          go_wp2_with fail
          with_reducible refine (CP.out _ _ HO11.out).mono ?_
          rintro e w12 ⟨rfl, hO⟩
          have HO12 := Lib.hid hO
          clear hO HO11 CP
          cases hfg : figI prt 1 5 with
          | none =>
            have hpn : prtI prt = none := by unfold prtI; rw [hfg]; rfl
            have hno : res = none := by rw [HRES4.out, HPZ.out, hpn]; rfl
            subst hno
            rw [hpn]
            clear hpn hfg
            simp only [Option.getD_none, Option.isSome_none]
            go_wp2_with (first | (refine wl_store1 rfl _ _ _ rfl HO12.out 0 g2 2 _ (.int .i64 0) _ rfl (by rfl) (by rfl) (by rfl) (by kernel_rfl) (by rfl) (by simp [UL.val]) ?_; intro w13 hO; have HO13 := Lib.hid (hO.cast (L' := (g2, .cells (UL.mk sch host 0 [] []).val.toArray 23) :: R) rfl); clear hO HO12) | (refine wl_store rfl _ _ _ rfl HO13.out 0 g2 0 _ UL.zero.val _ rfl (by rfl) (by rfl) url_size (one_url _) (by simp [UL.val, UL.zero]) ?_; intro w14 hO; have HOZ := Lib.hid (hO.cast (L' := (g2, .cells UL.zero.val.toArray 23) :: R) rfl); clear hO HO13))
            have hr0 : w14.cell? ⟨g2, 0, none⟩ = some (Value.string ⟨#[]⟩) := by rw [HOZ.out.cell (.head _)]; rfl
            have hr1 : w14.cell? ⟨g2, 1, none⟩ = some (Value.string ⟨#[]⟩) := by rw [HOZ.out.cell (.head _)]; rfl
            have hr2 : w14.cell? ⟨g2, 2, none⟩ = some (Value.int .i64 0) := by rw [HOZ.out.cell (.head _)]; rfl
            have hr3 : w14.cell? ⟨g2, 3, none⟩ = some (Value.string ⟨#[]⟩) := by rw [HOZ.out.cell (.head _)]; rfl
            have hr4 : w14.cell? ⟨g2, 4, none⟩ = some (Value.string ⟨#[]⟩) := by rw [HOZ.out.cell (.head _)]; rfl
            exact bodyPost_ret (v := .tuple #[.agg #[.string ⟨#[]⟩, .string ⟨#[]⟩, .int .i64 0, .string ⟨#[]⟩, .string ⟨#[]⟩], .bool false]) (by simp [results, Tryd.results17, go_sem, hr0, hr1, hr2, hr3, hr4]) rfl ⟨rfl, HOZ.out.tail⟩
          | some n =>
            have hnr := figI_range hfg
            have hn0 := hnr.1; have hn1 := hnr.2
            by_cases hbig : 65535 < n
            · have hpn : prtI prt = none := by unfold prtI; rw [hfg]; simp [hbig]
              have hno : res = none := by rw [HRES4.out, HPZ.out, hpn]; rfl
              subst hno
              rw [hpn]
              clear hpn hfg hbig hnr
              simp only [Option.getD_some, Option.isSome_none]
              go_wp2_with (first | (refine wl_store1 rfl _ _ _ rfl HO12.out 0 g2 2 _ (.int .i64 n) _ rfl (by rfl) (by rfl) (by rfl) (by kernel_rfl) (by rfl) (by simp [UL.val]) ?_; intro w13 hO; have HO13 := Lib.hid (hO.cast (L' := (g2, .cells (UL.mk sch host n [] []).val.toArray 23) :: R) rfl); clear hO HO12) | (refine wl_store rfl _ _ _ rfl HO13.out 0 g2 0 _ UL.zero.val _ rfl (by rfl) (by rfl) url_size (one_url _) (by simp [UL.val, UL.zero]) ?_; intro w14 hO; have HOZ := Lib.hid (hO.cast (L' := (g2, .cells UL.zero.val.toArray 23) :: R) rfl); clear hO HO13))
              have hr0 : w14.cell? ⟨g2, 0, none⟩ = some (Value.string ⟨#[]⟩) := by rw [HOZ.out.cell (.head _)]; rfl
              have hr1 : w14.cell? ⟨g2, 1, none⟩ = some (Value.string ⟨#[]⟩) := by rw [HOZ.out.cell (.head _)]; rfl
              have hr2 : w14.cell? ⟨g2, 2, none⟩ = some (Value.int .i64 0) := by rw [HOZ.out.cell (.head _)]; rfl
              have hr3 : w14.cell? ⟨g2, 3, none⟩ = some (Value.string ⟨#[]⟩) := by rw [HOZ.out.cell (.head _)]; rfl
              have hr4 : w14.cell? ⟨g2, 4, none⟩ = some (Value.string ⟨#[]⟩) := by rw [HOZ.out.cell (.head _)]; rfl
              exact bodyPost_ret (v := .tuple #[.agg #[.string ⟨#[]⟩, .string ⟨#[]⟩, .int .i64 0, .string ⟨#[]⟩, .string ⟨#[]⟩], .bool false]) (by simp [results, Tryd.results17, go_sem, hr0, hr1, hr2, hr3, hr4]) rfl ⟨rfl, HOZ.out.tail⟩
            · have hpn : prtI prt = some n := by unfold prtI; rw [hfg]; simp [hbig]
              have HPN := Lib.hid (HPZ.out.trans hpn)
              rw [hpn]
              clear hpn hfg hbig hnr
              simp only [Option.getD_some, Option.isSome_some]
              go_wp2_with (refine wl_store1 rfl _ _ _ rfl HO12.out 0 g2 2 _ (.int .i64 n) _ rfl (by rfl) (by rfl) (by rfl) (by kernel_rfl) (by rfl) (by simp [UL.val]) ?_; intro w13 hO; have HO13 := Lib.hid (hO.cast (L' := (g2, .cells (UL.mk sch host n [] []).val.toArray 23) :: R) rfl); clear hO HO12)
              go_meet
              exact ⟨n, HPN.out, hn0, hn1, HO13.out⟩
      case rest =>
        obtain ⟨n, hpn, hn0, hn1, hO⟩ := hcut
        have HO14 := Lib.hid hO
        have hres5 : res = some ⟨sch, host, if n = ownI sch then 0 else n, pctE (walkI pth), if q = [] then [] else 63 :: pctE q⟩ := by rw [HRES4.out, hpn]; rfl
        have HRES5 := Lib.hid hres5
        clear hO hpn hres5 HRES4 HO11 CP HPRT HB5
        have how : ∀ w' : World, _ := fun w' => ownPort_c (w := w') (strOfNums sch)
        rw [sb_str (by rcases HSI.out with e | e <;> rw [e]; exact http_byt; exact https_byt)] at how
        have HOW := Lib.hid how
        clear how
        obtain ⟨own, hown⟩ : ∃ k, ownI sch = k := ⟨_, rfl⟩
        rw [hown] at HOW HRES5
        clear hown
        go_upto_region 16 with fail
        refine wp_region_lin (fun w' => w'.heap[g2]? = some (.cells (UL.mk sch host n [] []).val.toArray 23)) 6 [(0, true), (2, true), (1, true), (3, true), (4, false), (5, true)] (by kernel_rfl) (by kernel_rfl) (fun _ _ d _ _ h => by cases d <;> exact h) (HO14.out.drew.heap (.head _)) ?_
        simp only [List.map_cons, List.map_nil, pick_zero, pick_succ, List.drop_succ_cons, List.drop_zero]
        iterate 4 (refine lin_q ?_ rfl ?_ ?_; rotate_left 1; (focus (rintro w' hw; have k0 : w'.cell? ⟨g2, 0, none⟩ = some (.string (strOfNums sch)) := (by rw [cell_of_row w' g2 0 _ _ (0, 0) hw]; rfl); have k2 : w'.cell? ⟨g2, 2, none⟩ = some (.int .i64 n) := (by rw [cell_of_row w' g2 2 _ _ (0, 0) hw]; rfl); clear hw; go_simp; first | done | with_reducible rfl | (trace_state; fail))); simp only [Act.put, List.setIfInBounds_toArray, List.set_cons_zero, List.set_cons_succ])
        refine lin_act ?_
        refine wl_call rfl _ _ _ (by go_simp) (HOW.out _) ?_
        rintro e w15 ⟨rfl, rfl⟩
        refine ⟨_, rfl, LinPost.mk (HO14.out.drew.heap (.head _)) ?_⟩
        have HO15 := Lib.hid HO14.out.drew
        clear HO14 HOW
        generalize wc.drew = w15 at *
        simp only [Act.put, List.setIfInBounds_toArray, List.set_cons_zero, List.set_cons_succ]
        iterate 1 (refine lin_q ?_ rfl ?_ ?_; rotate_left 1; (focus (rintro w' -; go_simp; first | done | with_reducible rfl | (trace_state; fail))); simp only [Act.put, List.setIfInBounds_toArray, List.set_cons_zero, List.set_cons_succ])
        refine lin_nil ?_
        obtain ⟨bo, hbo⟩ : ∃ b, (n == own) = b := ⟨_, rfl⟩
        rw [hbo]
        have HBO := Lib.hid hbo
        clear hbo
        go_upto_if 77 with fail
        go_cut [3] (fun v wx => OwnS w0 R g2 sch host (if n = own then 0 else n) wx)
        case first =>
          cases bo with
          | true =>
            have hif := Lib.hid (if_pos (beq_iff_eq.1 HBO.out) : (if n = own then (0 : Int) else n) = 0)
            go_wp2_with (refine wl_store1 rfl _ _ _ rfl HO15.out 0 g2 2 _ (.int .i64 0) _ rfl (by rfl) (by rfl) (by rfl) (by kernel_rfl) (by rfl) (by simp [UL.val]) ?_; intro w16 hO; have HO16 := Lib.hid (hO.cast (L' := (g2, .cells (UL.mk sch host 0 [] []).val.toArray 23) :: R) rfl); clear hO HO15)
            go_meet
            show OwnS _ _ _ _ _ _ _
            rw [hif.out]
            exact HO16.out
          | false =>
            have hif := Lib.hid (if_neg (beq_eq_false_iff_ne.1 HBO.out) : (if n = own then (0 : Int) else n) = n)
            go_wp2
            go_meet
            show OwnS _ _ _ _ _ _ _
            rw [hif.out]
            exact HO15.out
        case rest =>
          have HO17 := Lib.hid (show Own w0 wc (_ :: R) from hcut)
          clear hcut HO15 HBO
          generalize (if n = own then 0 else n) = pt at *
          generalize pctE (walkI pth) = pp at *
          generalize strOfNums (walkI pth) = SW at *
          go_wp2_with fail
          with_reducible refine (CW.out _ _ HO17.out).mono ?_
          rintro e w18 ⟨rfl, hO⟩
          have HO18 := Lib.hid hO
          clear hO HO17 CW
          go_wp2_with fail
          with_reducible refine (CE.out _ _ HO18.out).mono ?_
          rintro e w19 ⟨rfl, hO⟩
          have HO19 := Lib.hid hO
          clear hO HO18 CE
          by_cases hqn : q = []
          · have hq1 : (SQ.toList == []) = true := by rw [HQ0.out]; exact decide_eq_true hqn
            have hre : res = some ⟨sch, host, pt, pp, []⟩ := by rw [HRES5.out, if_pos hqn]
            have HRES3 := Lib.hid hre
            clear hqn hre HRES5 HQ0 CQ HQS
            go_upto_region 21 with (refine wl_store1 rfl _ _ _ rfl HO19.out 0 g2 3 _ (.string (strOfNums pp)) _ rfl (by rfl) (by rfl) (by rfl) (by kernel_rfl) (by rfl) (by simp [UL.val]) ?_; intro w20 hO; have HO20 := Lib.hid (hO.cast (L' := (g2, .cells (UL.mk sch host pt pp []).val.toArray 23) :: R) rfl); clear hO HO19)
            go_wp2_with (first | (refine wl_load rfl _ _ rfl g2 0 (UL.mk sch host pt pp []).val (UL.mk sch host pt pp []).val _ (HO20.out.heap (.head _)) (by rfl) _ Tryd.underlying23 rfl url_size (by rfl) ?_) | (refine wl_store rfl _ _ _ rfl HO20.out 0 g2 0 _ (UL.mk sch host pt pp []).val _ rfl (by rfl) (by rfl) url_size (one_url _) (by simp [UL.val]) ?_; intro w21 hO; have HOZ := Lib.hid (hO.cast (L' := (g2, .cells (UL.mk sch host pt pp []).val.toArray 23) :: R) rfl); clear hO HO20))
            have hr0 : w21.cell? ⟨g2, 0, none⟩ = some (Value.string (strOfNums sch)) := by rw [HOZ.out.cell (.head _)]; rfl
            have hr1 : w21.cell? ⟨g2, 1, none⟩ = some (Value.string (strOfNums host)) := by rw [HOZ.out.cell (.head _)]; rfl
            have hr2 : w21.cell? ⟨g2, 2, none⟩ = some (Value.int .i64 pt) := by rw [HOZ.out.cell (.head _)]; rfl
            have hr3 : w21.cell? ⟨g2, 3, none⟩ = some (Value.string (strOfNums pp)) := by rw [HOZ.out.cell (.head _)]; rfl
            have hr4 : w21.cell? ⟨g2, 4, none⟩ = some (Value.string (strOfNums [])) := by rw [HOZ.out.cell (.head _)]; rfl
            exact bodyPost_ret (v := .tuple #[.agg #[Value.string (strOfNums sch), Value.string (strOfNums host), Value.int .i64 pt, Value.string (strOfNums pp), Value.string (strOfNums [])], .bool true]) (by simp [results, Tryd.results17, go_sem, hr0, hr1, hr2, hr3, hr4]) rfl ⟨by rw [HRES3.out]; rfl, HOZ.out.tail⟩

          · have hq1 : (SQ.toList == []) = false := by rw [HQ0.out]; exact decide_eq_false hqn
            have hre : res = some ⟨sch, host, pt, pp, 63 :: pctE q⟩ := by rw [HRES5.out, if_neg hqn]
            have hcat : (⟨#[63]⟩ : ByteArray) ++ strOfNums (pctE q) = strOfNums (63 :: pctE q) := by rw [show (63 : Int) :: pctE q = [63] ++ pctE q from rfl, strs_app]; rfl
            have hadd : ¬ (9223372036854775807 < 1 + (strOfNums (pctE q)).size) := by have := HQS.out; omega
            have HRES3 := Lib.hid hre; have HCAT := Lib.hid hcat
            clear hqn hre HRES5 HQ0 HQS hcat
            generalize 63 :: pctE q = qq at *
            generalize strOfNums (pctE q) = PQ at *
            go_wp2_with (refine wl_store1 rfl _ _ _ rfl HO19.out 0 g2 3 _ (.string (strOfNums pp)) _ rfl (by rfl) (by rfl) (by rfl) (by kernel_rfl) (by rfl) (by simp [UL.val]) ?_; intro w20 hO; have HO20 := Lib.hid (hO.cast (L' := (g2, .cells (UL.mk sch host pt pp []).val.toArray 23) :: R) rfl); clear hO HO19)
            with_reducible refine (CQ.out _ _ HO20.out).mono ?_
            rintro e w22 ⟨rfl, hO⟩
            have HO22 := Lib.hid hO
            clear hO HO20 CQ
            go_upto_region 21 with (refine wl_store1 rfl _ _ _ rfl HO22.out 0 g2 4 _ (.string (⟨#[63]⟩ ++ PQ)) _ rfl (by rfl) (by rfl) (by rfl) (by kernel_rfl) (by rfl) (by simp [UL.val]) ?_; intro w23 hO; have HO23 := Lib.hid (hO.cast (L' := (g2, .cells (UL.mk sch host pt pp qq).val.toArray 23) :: R) (by rw [HCAT.out]; rfl)); clear hO HO22)
            clear hadd
            go_wp2_with (first | (refine wl_load rfl _ _ rfl g2 0 (UL.mk sch host pt pp qq).val (UL.mk sch host pt pp qq).val _ (HO23.out.heap (.head _)) (by rfl) _ Tryd.underlying23 rfl url_size (by rfl) ?_) | (refine wl_store rfl _ _ _ rfl HO23.out 0 g2 0 _ (UL.mk sch host pt pp qq).val _ rfl (by rfl) (by rfl) url_size (one_url _) (by simp [UL.val]) ?_; intro w24 hO; have HOZ := Lib.hid (hO.cast (L' := (g2, .cells (UL.mk sch host pt pp qq).val.toArray 23) :: R) rfl); clear hO HO23))
            have hr0 : w24.cell? ⟨g2, 0, none⟩ = some (Value.string (strOfNums sch)) := by rw [HOZ.out.cell (.head _)]; rfl
            have hr1 : w24.cell? ⟨g2, 1, none⟩ = some (Value.string (strOfNums host)) := by rw [HOZ.out.cell (.head _)]; rfl
            have hr2 : w24.cell? ⟨g2, 2, none⟩ = some (Value.int .i64 pt) := by rw [HOZ.out.cell (.head _)]; rfl
            have hr3 : w24.cell? ⟨g2, 3, none⟩ = some (Value.string (strOfNums pp)) := by rw [HOZ.out.cell (.head _)]; rfl
            have hr4 : w24.cell? ⟨g2, 4, none⟩ = some (Value.string (strOfNums qq)) := by rw [HOZ.out.cell (.head _)]; rfl
            exact bodyPost_ret (v := .tuple #[.agg #[Value.string (strOfNums sch), Value.string (strOfNums host), Value.int .i64 pt, Value.string (strOfNums pp), Value.string (strOfNums qq)], .bool true]) (by simp [results, Tryd.results17, go_sem, hr0, hr1, hr2, hr3, hr4]) rfl ⟨by rw [HRES3.out]; rfl, HOZ.out.tail⟩
end Go.Proofs.YtfgaikacijdodaaDoor
/-
  Package url: its calls, in the landed program.
-/
namespace Go.Proofs.YtfgaikacijdodaaDoor
set_option linter.unusedVariables false
set_option linter.unusedSimpArgs false
set_option maxRecDepth 20000
open Go.RowKit

theorem UL.Half.origB {u : UL} (h : u.Half) : Byt (originI u) := by
  unfold originI
  refine byt_append (byt_append (byt_append h.schB ?_) h.hostB) ?_
  · intro x hx; simp at hx; omega
  · split
    · intro x hx
      rcases List.mem_cons.1 hx with rfl | hx
      · omega
      · exact digs_byt _ x hx
    · intro x hx; cases hx
theorem UL.Half.orig {u : UL} (h : u.Half) : (originI u).length ≤ 100 := by
  have h1 := h.schl
  have h2 := h.host.2.1
  have h3 := (digs_len u.port.toNat).2
  unfold originI
  split <;> simp <;> omega
set_option maxHeartbeats 2000000 in
theorem uorigin_c {w0 w : World} {R : Blks} (hV : VarsOk w0) (hO : Own w0 w R) (u : UL) (hu : u.Half) : Calls Tryd.prog 30 #[.agg u.val.toArray] w fun e w' => e = .returned (.string (strOfNums (originI u))) ∧ Own w0 w' R := by
  obtain ⟨a1, a2, a3, a4, a5, a6⟩ := hu.ok
  have hp5 := hu.port1
  obtain ⟨sch, host, port, path, query⟩ := u
  simp only at a1 a2 a3 a4 a5 a6 hp5
  obtain ⟨p, rfl⟩ : ∃ p : Nat, port = p := ⟨port.toNat, by omega⟩
  have HO := Lib.hid hO
  have e1 : strOfNums (originI ⟨sch, host, (p : Int), path, query⟩) = strOfNums sch ++ ⟨#[58, 47, 47]⟩ ++ strOfNums host ++ (if (0 : Int) < p then ⟨#[58]⟩ ++ strOfNums (digs p) else ⟨#[]⟩) := by
    unfold originI
    rw [strs_app, strs_app, strs_app]
    congr 1
    split
    · rw [Int.toNat_natCast, show (58 : Int) :: digs p = [58] ++ digs p from rfl, strs_app]; rfl
    · rfl
  have s1 : (strOfNums sch).size ≤ 1000000000 := by rw [strOfNums_size]; exact a1
  have s2 : (strOfNums host).size ≤ 1000000000 := by rw [strOfNums_size]; exact a2
  have s3 : (strOfNums (digs p)).size ≤ 21 := by rw [strOfNums_size]; exact (digs_len _).2
  have hd : ∀ (w' : World) (R' : Blks), Own w0 w' R' → _ := fun w' R' h => litoa_c hV h (p : Int) (by omega) (by omega)
  simp only [Int.toNat_natCast] at hd
  unfold UL.val
  rw [e1]
  simp only
  clear e1
  generalize strOfNums sch = t1 at *
  generalize strOfNums host = t2 at *
  generalize strOfNums (digs p) = t3 at *
  generalize strOfNums path = t4 at *
  generalize strOfNums query = t5 at *
  have HD := Lib.hid hd
  have n1 : ¬ (9223372036854775807 < t1.size + 3) := by omega
  have n2 : ¬ (9223372036854775807 < t1.size + 3 + t2.size) := by omega
  have n3 : ¬ (9223372036854775807 < 1 + t3.size) := by omega
  have n4 : ¬ (9223372036854775807 < t1.size + 3 + t2.size + (1 + t3.size)) := by omega
  clear hO a1 a2 a3 a4 a5 a6 hd s1 s2 s3 hu hV
  by_cases h0 : 0 < p
  · have h0' : (0 : Int) < p := by omega
    have t0 : ((p : Int) != 0) = true := by simp; omega
    have t0' : (p != 0) = true := by simp; omega
    rw [if_pos h0']
    go_enter Tryd.func30, Tryd.ntmps30
    go_wp2_with (refine wl_box rfl _ _ rfl HO.out _ (by rfl) ?_; intro g w1 hO1; have HO1 := Lib.hid hO1; have c0 : w1.cell? ⟨g, 0, none⟩ = some (.string t1) := (by rw [hO1.cell (.head _)]; rfl); have c1 : w1.cell? ⟨g, 1, none⟩ = some (.string t2) := (by rw [hO1.cell (.head _)]; rfl); have c2 : w1.cell? ⟨g, 2, none⟩ = some (.int .i64 (p : Int)) := (by rw [hO1.cell (.head _)]; rfl); clear hO1 HO)
    with_reducible refine (HD.out _ _ HO1.out).mono ?_
    rintro e w2 ⟨rfl, hO2⟩
    have HO2 := Lib.hid hO2.tail
    clear c0 c1 c2 HO1 hO2
    go_wp2
    go_ret
    exact ⟨rfl, HO2.out⟩
  · have h0' : ¬ ((0 : Int) < p) := by omega
    obtain rfl : p = 0 := by omega
    rw [if_neg h0']
    have en : ∀ x : ByteArray, x ++ ⟨#[]⟩ = x := fun x => by apply sb_inj; rw [sb_append, sb_empty, List.append_nil]
    rw [en]
    clear en
    go_enter Tryd.func30, Tryd.ntmps30
    go_wp2_with (refine wl_box rfl _ _ rfl HO.out _ (by rfl) ?_; intro g w1 hO1; have HO1 := Lib.hid hO1; have c0 : w1.cell? ⟨g, 0, none⟩ = some (.string t1) := (by rw [hO1.cell (.head _)]; rfl); have c1 : w1.cell? ⟨g, 1, none⟩ = some (.string t2) := (by rw [hO1.cell (.head _)]; rfl); have c2 : w1.cell? ⟨g, 2, none⟩ = some (.int .i64 0) := (by rw [hO1.cell (.head _)]; rfl); clear hO1 HO)
    go_ret
    exact ⟨rfl, HO1.out.tail⟩
set_option maxHeartbeats 2000000 in
theorem uprint0_c {w0 w : World} {R : Blks} (hV : VarsOk w0) (hO : Own w0 w R) (u : UL) (hu : u.Half) : Calls Tryd.prog 19 #[.agg u.val.toArray] w fun e w' => e = .returned (.string (strOfNums (printI u))) ∧ Own w0 w' R := by
  have HO := Lib.hid hO
  have hor : ∀ (w1 : World) (R1 : Blks), Own w0 w1 R1 → _ := fun w1 R1 h => uorigin_c hV h u hu
  have e1 : strOfNums (printI u) = strOfNums (originI u) ++ strOfNums u.path ++ strOfNums u.query := by unfold printI; rw [strs_app, strs_app]
  have s0 : (strOfNums (originI u)).size ≤ 2000000025 := by rw [strOfNums_size]; exact originI_len hu.ok
  obtain ⟨a1, a2, a3, a4, a5, a6⟩ := hu.ok
  have s1 : (strOfNums u.path).size ≤ 1000000000 := by rw [strOfNums_size]; exact a3
  have s2 : (strOfNums u.query).size ≤ 1000000000 := by rw [strOfNums_size]; exact a4
  rw [e1]
  unfold UL.val at *
  clear hu
  generalize strOfNums (originI u) = t0 at *
  generalize strOfNums u.sch = t1 at *
  generalize strOfNums u.host = t2 at *
  generalize strOfNums u.path = t4 at *
  generalize strOfNums u.query = t5 at *
  generalize u.port = p at *
  have HOR := Lib.hid hor
  have n1 : ¬ (9223372036854775807 < t0.size + t4.size) := by omega
  have n2 : ¬ (9223372036854775807 < t0.size + t4.size + t5.size) := by omega
  clear hO hor a1 a2 a3 a4 a5 a6 e1 s0 s1 s2 hV
  go_enter Tryd.func19, Tryd.ntmps19
  go_wp2_with (refine wl_box rfl _ _ rfl HO.out _ (by rfl) ?_; intro g w1 hO1; have HO1 := Lib.hid hO1; clear hO1 HO)
  refine wp_region_lin (fun w' => w'.heap[g]? = some (.cells [Value.string t1, Value.string t2, Value.int .i64 p, Value.string t4, Value.string t5].toArray 23)) 9 [(0, true), (2, true), (3, true), (5, true), (6, true), (1, false), (4, true), (7, true), (8, true)] (by kernel_rfl) (by kernel_rfl) (fun _ _ d _ _ h => by cases d <;> exact h) (HO1.out.drew.heap (.head _)) ?_
  simp only [List.map_cons, List.map_nil, pick_zero, pick_succ, List.drop_succ_cons, List.drop_zero]
  refine lin_load rfl _ _ rfl g 0 [Value.string t1, Value.string t2, Value.int .i64 p, Value.string t4, Value.string t5] [Value.string t1, Value.string t2, Value.int .i64 p, Value.string t4, Value.string t5] 23 (by rfl) _ Tryd.underlying23 rfl url_size (by rfl) (fun w' ew => ew) ?_
  simp only [Act.put, List.setIfInBounds_toArray, List.set_cons_zero, List.set_cons_succ]
  iterate 4 (refine lin_q ?_ rfl ?_ ?_; rotate_left 1; (focus (rintro w' hw; have c3 : w'.cell? ⟨g, 3, none⟩ = some (.string t4) := (by rw [cell_of_row w' g 3 _ _ (0, 0) hw]; rfl); have c4 : w'.cell? ⟨g, 4, none⟩ = some (.string t5) := (by rw [cell_of_row w' g 4 _ _ (0, 0) hw]; rfl); clear hw; go_simp; first | done | with_reducible rfl | (trace_state; fail))); simp only [Act.put, List.setIfInBounds_toArray, List.set_cons_zero, List.set_cons_succ])
  refine lin_act ?_
  refine wl_call rfl _ _ _ (by go_simp) (HOR.out _ _ HO1.out.drew) ?_
  rintro e w3 ⟨rfl, hO3⟩
  refine ⟨_, rfl, LinPost.mk (hO3.heap (.head _)) ?_⟩
  have HO3 := Lib.hid hO3.tail
  clear hO3 HO1 HOR
  simp only [Act.put, List.setIfInBounds_toArray, List.set_cons_zero, List.set_cons_succ]
  iterate 3 (refine lin_q ?_ rfl ?_ ?_; rotate_left 1; (focus (rintro w' -; go_simp; first | done | with_reducible rfl | (trace_state; fail))); simp only [Act.put, List.setIfInBounds_toArray, List.set_cons_zero, List.set_cons_succ])
  refine lin_nil ?_
  go_wp2
  go_ret
  exact ⟨rfl, HO3.out⟩
theorem uprint_c {w0 w : World} {R : Blks} (hV : VarsOk w0) (hO : Own w0 w R) (u : UL) (hu : u.Fine) : Calls Tryd.prog 19 #[.agg u.val.toArray] w fun e w' => e = .returned (.string (strOfNums (printI u))) ∧ Own w0 w' R := uprint0_c hV hO u hu.half
set_option maxHeartbeats 2000000 in
theorem usame_c {w0 w : World} {R : Blks} (hV : VarsOk w0) (hO : Own w0 w R) (u v : UL) (hu : u.Half) (hv : v.Half) : Calls Tryd.prog 16 #[.agg u.val.toArray, .agg v.val.toArray] w fun e w' => e = .returned (.bool (decide (originI u = originI v))) ∧ Own w0 w' R := by
  rw [← beq_str hu.origB hv.origB]
  have HO := Lib.hid hO
  have hor : ∀ (w1 : World) (R1 : Blks), Own w0 w1 R1 → _ := fun w1 R1 h => uorigin_c hV h u hu
  have hov : ∀ (w1 : World) (R1 : Blks), Own w0 w1 R1 → _ := fun w1 R1 h => uorigin_c hV h v hv
  unfold UL.val at *
  clear hu hv hV
  generalize strOfNums (originI u) = t0 at *
  generalize strOfNums u.sch = t1 at *
  generalize strOfNums u.host = t2 at *
  generalize strOfNums u.path = t4 at *
  generalize strOfNums u.query = t5 at *
  generalize u.port = p at *
  generalize strOfNums (originI v) = q0 at *
  generalize strOfNums v.sch = q1 at *
  generalize strOfNums v.host = q2 at *
  generalize strOfNums v.path = q4 at *
  generalize strOfNums v.query = q5 at *
  generalize v.port = q at *
  have HOR := Lib.hid hor; have HOV := Lib.hid hov
  clear hO hor hov
  go_enter Tryd.func16, Tryd.ntmps16
  go_wp2_with (first | (refine wl_box rfl _ _ rfl HO.out _ (by rfl) ?_; intro g w1 hO1; have HO1 := Lib.hid hO1; clear hO1 HO) | (refine wl_box rfl _ _ rfl HO1.out _ (by rfl) ?_; intro g2 w2 hO2; have HO2 := Lib.hid hO2; clear hO2 HO1))
  refine wp_region_lin (fun w' => w'.heap[g]? = some (.cells [Value.string t1, Value.string t2, Value.int .i64 p, Value.string t4, Value.string t5].toArray 23) ∧ w'.heap[g2]? = some (.cells [Value.string q1, Value.string q2, Value.int .i64 q, Value.string q4, Value.string q5].toArray 23)) 6 [(0, true), (2, true), (1, false), (3, false), (4, true), (5, true)] (by kernel_rfl) (by kernel_rfl) (fun _ _ d _ _ h => by cases d <;> exact h) ⟨HO2.out.drew.heap (.tail _ (.head _)), HO2.out.drew.heap (.head _)⟩ ?_
  simp only [List.map_cons, List.map_nil, pick_zero, pick_succ, List.drop_succ_cons, List.drop_zero]
  refine lin_load rfl _ _ rfl g 0 [Value.string t1, Value.string t2, Value.int .i64 p, Value.string t4, Value.string t5] [Value.string t1, Value.string t2, Value.int .i64 p, Value.string t4, Value.string t5] 23 (by rfl) _ Tryd.underlying23 rfl url_size (by rfl) (fun w' ew => ew.1) ?_
  simp only [Act.put, List.setIfInBounds_toArray, List.set_cons_zero, List.set_cons_succ]
  refine lin_load rfl _ _ rfl g2 0 [Value.string q1, Value.string q2, Value.int .i64 q, Value.string q4, Value.string q5] [Value.string q1, Value.string q2, Value.int .i64 q, Value.string q4, Value.string q5] 23 (by rfl) _ Tryd.underlying23 rfl url_size (by rfl) (fun w' ew => ew.2) ?_
  simp only [Act.put, List.setIfInBounds_toArray, List.set_cons_zero, List.set_cons_succ]
  refine lin_act ?_
  refine wl_call rfl _ _ _ (by go_simp) (HOR.out _ _ HO2.out.drew) ?_
  rintro e w3 ⟨rfl, hO3⟩
  refine ⟨_, rfl, LinPost.mk ⟨hO3.heap (.tail _ (.head _)), hO3.heap (.head _)⟩ ?_⟩
  simp only [Act.put, List.setIfInBounds_toArray, List.set_cons_zero, List.set_cons_succ]
  refine lin_act ?_
  refine wl_call rfl _ _ _ (by go_simp) (HOV.out _ _ hO3) ?_
  rintro e w4 ⟨rfl, hO4⟩
  refine ⟨_, rfl, LinPost.mk ⟨hO4.heap (.tail _ (.head _)), hO4.heap (.head _)⟩ ?_⟩
  have HO4 := Lib.hid hO4.tail.tail
  clear hO3 hO4 HO2 HOR HOV
  simp only [Act.put, List.setIfInBounds_toArray, List.set_cons_zero, List.set_cons_succ]
  iterate 2 (refine lin_q ?_ rfl ?_ ?_; rotate_left 1; (focus (rintro w' -; go_simp; first | done | with_reducible rfl | (trace_state; fail))); simp only [Act.put, List.setIfInBounds_toArray, List.set_cons_zero, List.set_cons_succ])
  refine lin_nil ?_
  go_wp2
  go_ret
  exact ⟨rfl, HO4.out⟩
/-- What is read is a URL but for its length. -/
theorem readI_half {l : List Int} (hB : Byt l) (hl : l.length ≤ 5000000) {u : UL} (h : readI l = some u) : u.Half := by
  rw [readI_parts l rfl rfl rfl, Option.bind_eq_some_iff] at h
  obtain ⟨sch, hs, h⟩ := h
  have hB1 : Byt (ahead [35] l) := ahead_byt hB
  have hl1 := ahead_len [35] l
  have hB2 : Byt (ahead [63] (ahead [35] l)) := ahead_byt hB1
  have hl2 := ahead_len [63] (ahead [35] l)
  have hBc := cut3_byt hB2
  have hlc := (cut3_mem (ahead [63] (ahead [35] l))).2.2
  have hq := behind_len [63] (ahead [35] l)
  split at h
  · rename_i hho
    rw [Option.bind_eq_some_iff] at h
    obtain ⟨n, hp, h⟩ := h
    have hn : 0 ≤ n ∧ n < 100000 := by
      unfold prtI' prtI at hp
      split at hp
      · cases hp; omega
      · rw [Option.bind_eq_some_iff] at hp
        obtain ⟨k, hk, hp⟩ := hp
        have := figI_range hk
        split at hp
        · cases hp
        · cases hp; exact this
    cases h
    refine ⟨schI_is hs, hho, lowL_byt (ahead_byt (ahead_byt hBc.2)), ?_, ?_, ?_, ?_⟩
    · show 0 ≤ (if n = ownI sch then (0 : Int) else n); split <;> omega
    · show (if n = ownI sch then (0 : Int) else n) < 100000; split <;> omega
    · have h1 := pctE_len (walkI ((behind [47] (cut3 (ahead [63] (ahead [35] l))).2).drop 1))
      have h2 := walkI_len ((behind [47] (cut3 (ahead [63] (ahead [35] l))).2).drop 1)
      have h3 := behind_len [47] (cut3 (ahead [63] (ahead [35] l))).2
      rw [List.length_drop] at h2
      show (pctE (walkI ((behind [47] (cut3 (ahead [63] (ahead [35] l))).2).drop 1))).length ≤ _
      omega
    · have h1 := pctE_len ((behind [63] (ahead [35] l)).drop 1)
      rw [List.length_drop] at h1
      show (if (behind [63] (ahead [35] l)).drop 1 = [] then [] else 63 :: pctE ((behind [63] (ahead [35] l)).drop 1)).length ≤ _
      split
      · simp
      · rw [List.length_cons]; omega
  · cases h
theorem build_url (w : World) : (Instr.build 23 #[]).run Tryd.prog w = .ok (.agg UL.zero.val.toArray) w := by kernel_rfl
set_option maxHeartbeats 8000000 in
theorem uparse_c {w0 w : World} {R : Blks} (hV : VarsOk w0) (hO : Own w0 w R) (s : ByteArray) (hs : s.size ≤ 5000000) :
    Calls Tryd.prog 7 #[.string s] w (GotE w0 R (parseI (sb s))) := by
  have HO := Lib.hid hO
  have htr : ∀ (w' : World) (R' : Blks), Own w0 w' R' → _ := fun w' R' h => trim_c h s (by omega)
  have hTB : Byt (trimI (sb s)) := fun x hx => byt_sb s x ((trimI_sub _).subset hx)
  have hTl : (trimI (sb s)).length ≤ 5000000 := by have := (trimI_sub (sb s)).length_le; rw [length_sb] at this; omega
  have hre : ∀ (w' : World) (R' : Blks), Own w0 w' R' → _ := fun w' R' h => read_c hV h (strOfNums (trimI (sb s))) (by rw [strOfNums_size]; omega)
  rw [sb_str hTB] at hre
  have hhalf : ∀ u, readI (trimI (sb s)) = some u → u.Half := fun u h => readI_half hTB hTl h
  have hres := parse_read (sb s)
  generalize readI (trimI (sb s)) = r at *
  generalize strOfNums (trimI (sb s)) = Z at *
  obtain ⟨res, hr⟩ : ∃ res, parseI (sb s) = res := ⟨_, rfl⟩
  rw [hr] at hres ⊢
  have HT := Lib.hid htr; have HR := Lib.hid hre; have HRES := Lib.hid hres; have HV := Lib.hid hV
  clear hO htr hTB hTl hre hres hr hV
  go_enter Tryd.func7, Tryd.ntmps7
  go_wp2_with (refine wl_alloc rfl _ rfl HO.out _ (alloc_url _) ?_; intro g2 w1 hO1; have HO1 := Lib.hid hO1; clear hO1 HO)
  with_reducible refine (HT.out _ _ HO1.out).mono ?_
  rintro e w2 ⟨rfl, hO⟩
  have HO2 := Lib.hid hO
  clear hO HO1 HT
  go_wp2_with fail
  with_reducible refine (HR.out _ _ HO2.out).mono ?_
  rintro e w3 ⟨rfl, hO⟩
  have HO3 := Lib.hid hO
  clear hO HO2 HR
  cases r with
  | none =>
    have hno : res = none := by rw [HRES.out]; rfl
    subst hno
    clear HRES hhalf
    simp only [Option.getD_none, Option.isSome_none]
    go_wp2_with (first | (refine wl_alloc rfl _ rfl HO3.out _ (alloc_url _) ?_; intro g4 w4 hO; have HO4 := Lib.hid hO; clear hO HO3) | (refine wl_store rfl _ _ _ rfl HO4.out 0 g4 0 _ UL.zero.val _ rfl (by rfl) (by rfl) url_size (one_url _) (by decide) ?_; intro w5 hO; have HO5 := Lib.hid (hO.cast (L' := (g4, .cells UL.zero.val.toArray 23) :: (g2, .cells UL.zero.val.toArray 23) :: R) rfl); clear hO HO4) | (refine wl_store rfl _ _ _ rfl HO5.out 1 g2 0 _ UL.zero.val _ rfl (by rfl) (by rfl) url_size (one_url _) (by decide) ?_; intro w6 hO; have HO6 := Lib.hid (hO.cast (L' := (g4, .cells UL.zero.val.toArray 23) :: (g2, .cells UL.zero.val.toArray 23) :: R) rfl); clear hO HO5))
    have hr0 : w6.cell? ⟨g2, 0, none⟩ = some (Value.string ⟨#[]⟩) := by rw [HO6.out.cell (.tail _ (.head _))]; rfl
    have hr1 : w6.cell? ⟨g2, 1, none⟩ = some (Value.string ⟨#[]⟩) := by rw [HO6.out.cell (.tail _ (.head _))]; rfl
    have hr2 : w6.cell? ⟨g2, 2, none⟩ = some (Value.int .i64 0) := by rw [HO6.out.cell (.tail _ (.head _))]; rfl
    have hr3 : w6.cell? ⟨g2, 3, none⟩ = some (Value.string ⟨#[]⟩) := by rw [HO6.out.cell (.tail _ (.head _))]; rfl
    have hr4 : w6.cell? ⟨g2, 4, none⟩ = some (Value.string ⟨#[]⟩) := by rw [HO6.out.cell (.tail _ (.head _))]; rfl
    exact bodyPost_ret (v := .tuple #[.agg #[.string ⟨#[]⟩, .string ⟨#[]⟩, .int .i64 0, .string ⟨#[]⟩, .string ⟨#[]⟩], .int .i64 2]) (by simp [results, Tryd.results7, go_sem, hr0, hr1, hr2, hr3, hr4]) rfl ⟨rfl, HO6.out.tail.tail⟩
  | some u =>
    have hu := hhalf u rfl
    have hpr : ∀ (w' : World) (R' : Blks), Own w0 w' R' → _ := fun w' R' h => uprint0_c HV.out h u hu
    have hps : (strOfNums (printI u)).size = (printI u).length := strOfNums_size _
    have hres : res = if 40 < (printI u).length then none else some u := by rw [HRES.out]; rfl
    have HPR := Lib.hid hpr; have HRES2 := Lib.hid hres
    obtain ⟨pl, hpl⟩ : ∃ pl, (printI u).length = pl := ⟨_, rfl⟩
    rw [hpl] at hps HRES2
    clear hhalf hu hpr hres hpl HRES
    generalize strOfNums (printI u) = PS at *
    simp only [Option.getD_some, Option.isSome_some]
    obtain ⟨v1, v2, v3, v4, v5⟩ := u
    go_wp2_with (first | (refine wl_alloc rfl _ rfl HO3.out _ (alloc_url _) ?_; intro g4 w4 hO; have HO4 := Lib.hid hO; clear hO HO3) | (refine wl_store rfl _ _ _ rfl HO4.out 0 g4 0 _ (UL.mk v1 v2 v3 v4 v5).val _ rfl (by rfl) (by rfl) url_size (one_url _) (by simp [UL.val, UL.zero]) ?_; intro w5 hO; have HO5 := Lib.hid (hO.cast (L' := (g4, .cells (UL.mk v1 v2 v3 v4 v5).val.toArray 23) :: (g2, .cells UL.zero.val.toArray 23) :: R) rfl); clear hO HO4) | (refine wl_g (by rfl) ?_; refine wl_load rfl _ _ rfl g4 0 (UL.mk v1 v2 v3 v4 v5).val (UL.mk v1 v2 v3 v4 v5).val _ (HO5.out.heap (.head _)) (by rfl) _ Tryd.underlying23 rfl url_size (by rfl) ?_))
    with_reducible refine (HPR.out _ _ HO5.out).mono ?_
    rintro e w6 ⟨rfl, hO⟩
    have HO6 := Lib.hid hO
    clear hO HO5 HPR
    by_cases h40 : 40 < pl
    · have h40' : 40 < PS.size := by omega
      have h40I : (40 : Int) < PS.size := by omega
      have hno : res = none := by rw [HRES2.out, if_pos h40]
      subst hno
      clear HRES2
      go_wp2_with (refine wl_store rfl _ _ _ rfl HO6.out 1 g2 0 _ UL.zero.val _ rfl (by rfl) (by rfl) url_size (one_url _) (by decide) ?_; intro w7 hO; have HO7 := Lib.hid (hO.cast (L' := (g4, .cells (UL.mk v1 v2 v3 v4 v5).val.toArray 23) :: (g2, .cells UL.zero.val.toArray 23) :: R) rfl); clear hO HO6)
      have hr0 : w7.cell? ⟨g2, 0, none⟩ = some (Value.string ⟨#[]⟩) := by rw [HO7.out.cell (.tail _ (.head _))]; rfl
      have hr1 : w7.cell? ⟨g2, 1, none⟩ = some (Value.string ⟨#[]⟩) := by rw [HO7.out.cell (.tail _ (.head _))]; rfl
      have hr2 : w7.cell? ⟨g2, 2, none⟩ = some (Value.int .i64 0) := by rw [HO7.out.cell (.tail _ (.head _))]; rfl
      have hr3 : w7.cell? ⟨g2, 3, none⟩ = some (Value.string ⟨#[]⟩) := by rw [HO7.out.cell (.tail _ (.head _))]; rfl
      have hr4 : w7.cell? ⟨g2, 4, none⟩ = some (Value.string ⟨#[]⟩) := by rw [HO7.out.cell (.tail _ (.head _))]; rfl
      exact bodyPost_ret (v := .tuple #[.agg #[.string ⟨#[]⟩, .string ⟨#[]⟩, .int .i64 0, .string ⟨#[]⟩, .string ⟨#[]⟩], .int .i64 2]) (by simp [results, Tryd.results7, go_sem, hr0, hr1, hr2, hr3, hr4]) rfl ⟨rfl, HO7.out.tail.tail⟩
    · have h40' : ¬ 40 < PS.size := by omega
      have h40I : ¬ (40 : Int) < PS.size := by omega
      have hyes : res = some ⟨v1, v2, v3, v4, v5⟩ := by rw [HRES2.out, if_neg h40]
      have HY := Lib.hid hyes
      clear HRES2 hyes
      go_wp2_with (first | (refine wl_load rfl _ _ rfl g4 0 (UL.mk v1 v2 v3 v4 v5).val (UL.mk v1 v2 v3 v4 v5).val _ (HO6.out.heap (.head _)) (by rfl) _ Tryd.underlying23 rfl url_size (by rfl) ?_) | (refine wl_store rfl _ _ _ rfl HO6.out 1 g2 0 _ (UL.mk v1 v2 v3 v4 v5).val _ rfl (by rfl) (by rfl) url_size (one_url _) (by simp [UL.val, UL.zero]) ?_; intro w7 hO; have HO7 := Lib.hid (hO.cast (L' := (g4, .cells (UL.mk v1 v2 v3 v4 v5).val.toArray 23) :: (g2, .cells (UL.mk v1 v2 v3 v4 v5).val.toArray 23) :: R) rfl); clear hO HO6))
      have hr0 : w7.cell? ⟨g2, 0, none⟩ = some (.string (strOfNums v1)) := by rw [HO7.out.cell (.tail _ (.head _))]; rfl
      have hr1 : w7.cell? ⟨g2, 1, none⟩ = some (.string (strOfNums v2)) := by rw [HO7.out.cell (.tail _ (.head _))]; rfl
      have hr2 : w7.cell? ⟨g2, 2, none⟩ = some (.int .i64 v3) := by rw [HO7.out.cell (.tail _ (.head _))]; rfl
      have hr3 : w7.cell? ⟨g2, 3, none⟩ = some (.string (strOfNums v4)) := by rw [HO7.out.cell (.tail _ (.head _))]; rfl
      have hr4 : w7.cell? ⟨g2, 4, none⟩ = some (.string (strOfNums v5)) := by rw [HO7.out.cell (.tail _ (.head _))]; rfl
      exact bodyPost_ret (v := .tuple #[.agg #[.string (strOfNums v1), .string (strOfNums v2), .int .i64 v3, .string (strOfNums v4), .string (strOfNums v5)], .int .i64 0]) (by simp [results, Tryd.results7, go_sem, hr0, hr1, hr2, hr3, hr4]) rfl ⟨by rw [HY.out]; rfl, HO7.out.tail.tail⟩
end Go.Proofs.YtfgaikacijdodaaDoor
/-
  The landed program's isOrSafer, portOf, readPort, isHost, hasScheme, hasHost, hasPort, split.
-/
namespace Go.Proofs.YtfgaikacijdodaaDoor
set_option linter.unusedVariables false
set_option linter.unusedSimpArgs false
set_option maxRecDepth 20000
open Go.RowKit

/-- A string held against a constant, as the walk compares them. -/
theorem beq_litC (o : ByteArray) (l : List UInt8) (m : List Int) (h : l.map (fun b => (b.toNat : Int)) = m) : (o.toList == l) = decide (sb o = m) := by
  have h1 := beq_sb o ⟨l.toArray⟩
  have h2 : (⟨l.toArray⟩ : ByteArray).toList = l := by rw [ByteArray.toList_eq]
  have h3 : sb ⟨l.toArray⟩ = m := by rw [← h]; rfl
  rw [h2, h3] at h1
  exact h1
theorem str_mtC (l : List Int) (hB : Byt l) : ((strOfNums l).toList == []) = decide (l = []) := by
  have := beq_litC (strOfNums l) [] [] rfl
  rw [sb_str hB] at this
  exact this
def PL.val (p : PL) : List Value := [.string (strOfNums p.sch), .string (strOfNums p.host), .bool p.under, .int .i64 p.port]
theorem pl_size : (Tryd.prog.info? 50).map (·.size) = some 4 := by kernel_rfl
theorem alloc_pl (w : World) : (Instr.alloc 50 true (.tuple #[])).run Tryd.prog w = .ok (.pointer (some ⟨w.heap.size, 0, none⟩)) (w.alloc (.cells PL.zero.val.toArray 50)) := by kernel_rfl
theorem one_pl (p : PL) : ∀ v ∈ p.val, v.oneCell' = true := by
  intro v hv
  simp only [PL.val, List.mem_cons, List.not_mem_nil, or_false] at hv
  rcases hv with rfl | rfl | rfl | rfl <;> rfl

set_option maxHeartbeats 4000000 in
theorem csafer_c {w : World} (a b : List Int) (ha : Byt a) (hb : Byt b) :
    Calls Tryd.prog 21 #[.string (strOfNums a), .string (strOfNums b)] w fun e w' => e = .returned (.bool (saferI a b)) ∧ w = w' := by
  have t1 := beq_str ha hb
  have t2 := beq_litC (strOfNums a) [104, 116, 116, 112, 115] httpsI rfl
  rw [sb_str ha] at t2
  unfold saferI
  obtain ⟨b1, hb1⟩ : ∃ b', decide (a = b) = b' := ⟨_, rfl⟩
  obtain ⟨b2, hb2⟩ : ∃ b', decide (a = httpsI) = b' := ⟨_, rfl⟩
  rw [hb1] at t1 ⊢; rw [hb2] at t2 ⊢
  generalize strOfNums a = sa at *
  generalize strOfNums b = sb' at *
  clear hb1 hb2 ha hb
  cases b1 <;> cases b2 <;>
  (go_enter Tryd.func21, Tryd.ntmps21
   go_wp2
   go_ret
   exact ⟨rfl, rfl⟩)

set_option maxHeartbeats 4000000 in
theorem cportof_c {w0 w : World} {R : Blks} (hO : Own w0 w R) (u : UL) (hu : Byt u.sch) :
    Calls Tryd.prog 45 #[.agg u.val.toArray] w fun e w' => e = .returned (.int .i64 (ownPort u)) ∧ Own w0 w' R := by
  have t2 := beq_litC (strOfNums u.sch) [104, 116, 116, 112, 115] httpsI rfl
  rw [sb_str hu] at t2
  have hop : ownPort u = if u.port = 0 then (if u.sch = httpsI then 443 else 80) else u.port := rfl
  rw [hop]
  obtain ⟨b2, hb2⟩ : ∃ b', decide (u.sch = httpsI) = b' := ⟨_, rfl⟩
  rw [hb2] at t2
  have hb3 : (if u.sch = httpsI then (443 : Int) else 80) = if b2 = true then 443 else 80 := by rw [← hb2]; simp only [decide_eq_true_iff]
  rw [hb3]
  unfold UL.val
  clear hb2 hb3 hop hu
  generalize strOfNums u.sch = us at *
  generalize strOfNums u.host = uh at *
  generalize strOfNums u.path = ux at *
  generalize strOfNums u.query = uq at *
  generalize u.port = up at *
  have HO := Lib.hid hO
  clear hO
  by_cases h0 : up = 0
  · subst h0
    rw [if_pos rfl]
    cases b2 <;>
    (go_enter Tryd.func45, Tryd.ntmps45
     go_wp2_with (refine wl_box rfl _ _ rfl HO.out [Value.string us, Value.string uh, Value.int .i64 0, Value.string ux, Value.string uq].toArray (by rfl) ?_; intro g w1 hO1; have HO1 := Lib.hid hO1; have c0 : w1.cell? ⟨g, 0, none⟩ = some (.string us) := hO1.cell (.head _) 0; have c2 : w1.cell? ⟨g, 2, none⟩ = some (.int .i64 0) := hO1.cell (.head _) 2; clear hO1 HO)
     go_ret
     exact ⟨rfl, HO1.out.tail⟩)
  · rw [if_neg h0]
    have t0 : (up != 0) = true := by simp [h0]
    clear h0
    go_enter Tryd.func45, Tryd.ntmps45
    go_wp2_with (refine wl_box rfl _ _ rfl HO.out [Value.string us, Value.string uh, Value.int .i64 up, Value.string ux, Value.string uq].toArray (by rfl) ?_; intro g w1 hO1; have HO1 := Lib.hid hO1; have c0 : w1.cell? ⟨g, 0, none⟩ = some (.string us) := hO1.cell (.head _) 0; have c2 : w1.cell? ⟨g, 2, none⟩ = some (.int .i64 up) := hO1.cell (.head _) 2; clear hO1 HO)
    go_ret
    exact ⟨rfl, HO1.out.tail⟩

set_option maxHeartbeats 4000000 in
theorem creadport_c {w0 w : World} {R : Blks} (hV : VarsOk w0) (hO : Own w0 w R) (s : ByteArray) (hs : s.size ≤ 1073741824) :
    Calls Tryd.prog 43 #[.string s] w fun e w' => e = .returned (.tuple #[.int .i64 ((portG (sb s)).getD 0), .bool (portG (sb s)).isSome]) ∧ Own w0 w' R := by
  have t1 := beq_litC s [42] [42] rfl
  have hpu := fun (w1 : World) (R1 : Blks) (h : Own w0 w1 R1) => cuint_c hV h s hs
  have HO := Lib.hid hO; have HP := Lib.hid hpu
  clear hO hpu
  by_cases h1 : sb s = [42]
  · rw [decide_eq_true h1] at t1
    rw [h1]
    show Calls _ _ _ _ fun e w' => e = .returned (.tuple #[.int .i64 (-2), .bool true]) ∧ _
    clear h1 HP
    go_enter Tryd.func43, Tryd.ntmps43
    go_wp2
    go_ret2
    exact ⟨rfl, HO.out⟩
  · rw [decide_eq_false h1] at t1
    have hg : portG (sb s) = prtI (sb s) := by unfold portG; rw [if_neg h1]
    rw [hg]
    obtain ⟨o, ho⟩ : ∃ o, prtI (sb s) = o := ⟨_, rfl⟩
    rw [ho]
    have HPO := Lib.hid ho
    clear h1 hg ho
    go_enter Tryd.func43, Tryd.ntmps43
    go_wp2_with fail
    with_reducible refine (HP.out _ _ HO.out).mono ?_
    rintro e w2 ⟨n, er, rfl, hcase, hO⟩
    have HO2 := Lib.hid hO
    clear hO HO HP
    rcases hcase with ⟨rfl, hn, hpa⟩ | ⟨⟨te, ve, rfl⟩, hpa⟩
    · by_cases h5 : (5 : Int) < s.size
      · have hno : o = none := by rw [← HPO.out]; exact prt_long (by rw [length_sb]; omega)
        subst hno
        clear hpa HPO
        try simp only []
        go_wp2
        go_ret2
        exact ⟨rfl, HO2.out⟩
      · have hyes : o = some (n : Int) := by rw [← HPO.out]; exact (uint_port (s := s) (by omega) n).1 hpa
        subst hyes
        have hnI : (n : Int) ≤ 65535 := by omega
        clear hpa HPO
        have hw1 : IntKind.i64.wrap (n : Int) = n := IntWalk.i64_in _ (by omega)
        try simp only []
        go_wp2
        go_ret2
        exact ⟨rfl, HO2.out⟩
    · have hno : o = none := by
        rw [← HPO.out]
        by_cases h5 : s.size ≤ 5
        · cases hp : prtI (sb s) with
          | none => rfl
          | some m =>
            have hm := prt_some.1 hp
            have hb := figN_bound (sb s) hm.1.2.2
            obtain ⟨k, rfl⟩ : ∃ k : Nat, m = k := ⟨m.toNat, by omega⟩
            exact absurd ((uint_port h5 k).2 hp) (hpa k)
        · exact prt_long (by rw [length_sb]; omega)
      subst hno
      clear hpa HPO
      try simp only []
      go_wp2
      go_ret2
      exact ⟨rfl, HO2.out⟩

set_option maxHeartbeats 8000000 in
theorem cishost_c {w0 w : World} {R : Blks} (hV : VarsOk w0) (hO : Own w0 w R) (s : ByteArray) (hs : s.size ≤ 4000000) :
    Calls Tryd.prog 42 #[.string s] w fun e w' => e = .returned (.bool (decide (HostOk (sb s)))) ∧ Own w0 w' R := by
  have hsz : ((⟨#[104, 116, 116, 112, 58, 47, 47]⟩ : ByteArray) ++ s).size ≤ 5000000 := by
    rw [ByteArray.size_append]
    have : (⟨#[104, 116, 116, 112, 58, 47, 47]⟩ : ByteArray).size = 7 := rfl
    omega
  have hre := fun (w1 : World) (R1 : Blks) (h : Own w0 w1 R1) => uparse_c hV h (⟨#[104, 116, 116, 112, 58, 47, 47]⟩ ++ s) hsz
  have hsb : sb ((⟨#[104, 116, 116, 112, 58, 47, 47]⟩ : ByteArray) ++ s) = httpI ++ markI ++ sb s := by rw [sb_append]; rfl
  rw [hsb] at hre
  have hh := host_parse (byt_sb s)
  rw [← hh]
  have hn7 : ¬ (9223372036854775807 < 7 + s.size) := by omega
  obtain ⟨o, ho⟩ : ∃ o, parseI (httpI ++ markI ++ sb s) = o := ⟨_, rfl⟩
  rw [ho] at hre ⊢
  have hoB : ∀ u, o = some u → Byt u.host := fun u e => (parseI_norm (byt_append (byt_append http_byt mark_byt) (byt_sb s)) (ho.trans e)).fine.half.hostB
  have HO := Lib.hid hO; have HR := Lib.hid hre; have HB := Lib.hid hoB
  clear hO hre ho hoB hh hsb hsz
  go_enter Tryd.func42, Tryd.ntmps42
  go_wp2_with fail
  with_reducible refine (HR.out _ _ HO.out).mono ?_
  rintro e w3 ⟨rfl, hO⟩
  have HO3 := Lib.hid hO
  clear hO HO HR
  cases o with
  | none =>
    simp only [Option.getD_none, Option.isSome_none, Bool.false_eq_true, if_false]
    go_wp2_with (first | (refine wl_alloc rfl _ rfl HO3.out _ (alloc_url _) ?_; intro g4 w4 hO; have HO4 := Lib.hid hO; clear hO HO3) | (refine wl_store rfl _ _ _ rfl HO4.out 0 g4 0 _ UL.zero.val _ rfl (by rfl) (by rfl) url_size (one_url _) (by decide) ?_; intro w5 hO; have HO5 := Lib.hid (hO.cast (L' := (g4, .cells UL.zero.val.toArray 23) :: R) rfl); clear hO HO4))
    go_ret
    exact ⟨rfl, HO5.out.tail⟩
  | some u =>
    have huB := HB.out u rfl
    have t : ((strOfNums u.host).toList == s.toList) = decide (u.host = sb s) := by rw [beq_sb, sb_str huB]
    simp only [Option.getD_some, Option.isSome_some, if_true]
    obtain ⟨v1, v2, v3, v4, v5⟩ := u
    obtain ⟨b, hb⟩ : ∃ b, decide (v2 = sb s) = b := ⟨_, rfl⟩
    simp only at t huB
    rw [hb] at t
    have HBB := Lib.hid hb
    clear HB hb huB
    cases b with
    | true =>
      go_wp2_with (first | (refine wl_alloc rfl _ rfl HO3.out _ (alloc_url _) ?_; intro g4 w4 hO; have HO4 := Lib.hid hO; clear hO HO3) | (refine wl_store rfl _ _ _ rfl HO4.out 0 g4 0 _ (UL.mk v1 v2 v3 v4 v5).val _ rfl (by rfl) (by rfl) url_size (one_url _) (by simp [UL.val, UL.zero]) ?_; intro w5 hO; have HO5 := Lib.hid (hO.cast (L' := (g4, .cells (UL.mk v1 v2 v3 v4 v5).val.toArray 23) :: R) rfl); have k1 : w5.cell? ⟨g4, 1, none⟩ = some (.string (strOfNums v2)) := (by rw [HO5.out.cell (.head _)]; rfl); clear hO HO4))
      go_ret
      exact ⟨by rw [show decide ((UL.mk v1 v2 v3 v4 v5).host = sb s) = _ from HBB.out]; rfl, HO5.out.tail⟩
    | false =>
      go_wp2_with (first | (refine wl_alloc rfl _ rfl HO3.out _ (alloc_url _) ?_; intro g4 w4 hO; have HO4 := Lib.hid hO; clear hO HO3) | (refine wl_store rfl _ _ _ rfl HO4.out 0 g4 0 _ (UL.mk v1 v2 v3 v4 v5).val _ rfl (by rfl) (by rfl) url_size (one_url _) (by simp [UL.val, UL.zero]) ?_; intro w5 hO; have HO5 := Lib.hid (hO.cast (L' := (g4, .cells (UL.mk v1 v2 v3 v4 v5).val.toArray 23) :: R) rfl); have k1 : w5.cell? ⟨g4, 1, none⟩ = some (.string (strOfNums v2)) := (by rw [HO5.out.cell (.head _)]; rfl); clear hO HO4))
      go_ret
      exact ⟨by rw [show decide ((UL.mk v1 v2 v3 v4 v5).host = sb s) = _ from HBB.out]; rfl, HO5.out.tail⟩

theorem csplit_c {w0 w : World} {R : Blks} (hO : Own w0 w R) (s : ByteArray) (hs : s.size ≤ 1073741824) :
    Calls Tryd.prog 27 #[.string s] w fun e w' => ∃ v L, e = .returned v ∧ IsStrs v ((wordsI (sb s)).map strOfNums) L ∧ Own w0 w' (L ++ R) := by
  have HF := Lib.hid (fun (w1 : World) (R1 : Blks) (h : Own w0 w1 R1) => cfields_c h s hs)
  have HO := Lib.hid hO
  clear hO
  go_enter Tryd.func27, Tryd.ntmps27
  go_wp2_with fail
  with_reducible refine (HF.out _ _ HO.out).mono ?_
  rintro e w2 ⟨v, L, rfl, hv, hO⟩
  obtain ⟨A, c, hve⟩ := hv.val
  rw [List.length_map] at hve
  subst hve
  have HO2 := Lib.hid hO; have HI := Lib.hid hv
  clear hO HO HF hv
  go_wp2
  go_ret
  exact ⟨_, L, rfl, HI.out, HO2.out⟩
end Go.Proofs.YtfgaikacijdodaaDoor
