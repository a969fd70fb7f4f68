/-
  URLPorts: whatever number below 70000, http or https, zeros before it: it is the port told, or left out where it is the scheme's own or 0; above 65535 nothing is told.
  Conditions: none but the row's own.
-/
import Derived.Test.YtakihnmajgmnpaaDoorL07b0
import Derived.Test.YtakihnmajgmnpaaDoorVars
import Derived.Test.YtakihnmajgmnpaaDoorUrl11
namespace Go.Proofs.YtakihnmajgmnpaaDoor
set_option linter.unusedVariables false
set_option linter.unusedSimpArgs false
set_option maxRecDepth 20000
open Go.ChangeShapes Go.WideShapes Go.ChangeAt Go.RowKit
open Go.ChangeMaps (open_string shut_string)

/-- A port's digits with k zeros before them. -/
def zdig (k n : Nat) : ByteArray := strOfNums (List.replicate k 48 ++ digs n)
theorem zdig_size (k n : Nat) : (zdig k n).size = k + (digs n).length := by unfold zdig; rw [strOfNums_size]; simp
theorem zdig_byt (k n : Nat) : Byt (List.replicate k 48 ++ digs n) := by
  intro x hx
  rcases List.mem_append.1 hx with h | h
  · have := (List.mem_replicate.1 h).2; omega
  · exact digs_byt n x h
theorem sb_zdig (k n : Nat) : sb (zdig k n) = List.replicate k 48 ++ digs n := sb_str (zdig_byt k n)
theorem zdig_succ (k n : Nat) : zdig (k + 1) n = ⟨#[48]⟩ ++ zdig k n := by
  unfold zdig
  rw [List.replicate_succ, show (48 : Int) :: List.replicate k 48 ++ digs n = [48] ++ (List.replicate k 48 ++ digs n) by rfl, strs_app]
  rfl
theorem fine_x {sch : List Int} (hs : sch = httpI ∨ sch = httpsI) {p : Int} (h0 : 0 ≤ p) (h1 : p < 100000) : UL.Fine ⟨sch, abI, p, [47, 120], []⟩ := by
  refine ⟨hs, abI_ok, ?_, ?_, ?_, h0, h1, ?_⟩
  · intro x hx; simp [abI] at hx; omega
  · intro x hx; simp at hx; omega
  · intro x hx; cases hx
  · have hl := portT_len (u := ⟨sch, abI, p, [47, 120], []⟩) h1
    rw [printI_parts]
    rcases hs with rfl | rfl <;> simp [httpI, httpsI, abI] at * <;> omega
theorem fine_0 {sch : List Int} (hs : sch = httpI ∨ sch = httpsI) : UL.Fine ⟨sch, abI, 0, [47], []⟩ := by
  refine ⟨hs, abI_ok, ?_, ?_, ?_, Int.le_refl _, by show (0 : Int) < 100000; omega, ?_⟩
  · intro x hx; simp [abI] at hx; omega
  · intro x hx; simp at hx; omega
  · intro x hx; cases hx
  · rw [printI_parts]
    rcases hs with rfl | rfl <;> decide
theorem printS_of {u : UL} {T : ByteArray} (h : strOfNums (originI u) = T) (hp : u.path = [47, 120]) (hq : u.query = []) : strOfNums (printI u) = T ++ ⟨#[47, 120]⟩ := by
  unfold printI
  rw [hp, hq, List.append_nil, strs_app, h]
  rfl
theorem origin_more {sch h : List Int} {n : Nat} (hn : 0 < n) (q1 r1 q2 r2 : List Int) : originI ⟨sch, h, n, q1, r1⟩ ≠ originI ⟨sch, h, 0, q2, r2⟩ := by
  intro e
  have hl := congrArg List.length e
  have := digs_len n
  simp only [originI] at hl
  rw [if_pos (by omega), if_neg (by omega)] at hl
  simp at hl
theorem port_parse_http {w0 w : World} {R : Blks} (hV : VarsOk w0) (hO : Own w0 w R) {n k : Nat} {zs : ByteArray} (hz : sb zs = List.replicate k 48 ++ digs n) (hn : n < 100000) (hk : k + (digs n).length ≤ 5) :
    Calls Tryd.prog 9 #[.string (⟨#[104, 116, 116, 112]⟩ ++ ⟨#[58, 47, 47, 97, 46, 98, 58]⟩ ++ zs ++ ⟨#[47, 120]⟩)] w (GotE w0 R (if 65535 < n then none else some ⟨httpI, abI, if (n : Int) = 80 then 0 else n, [47, 120], []⟩)) := by
  have hA : sb (⟨#[104, 116, 116, 112]⟩ ++ ⟨#[58, 47, 47, 97, 46, 98, 58]⟩) = httpI ++ ([58, 47, 47] ++ (abI ++ [58])) := by decide +kernel
  have hAs : (⟨#[104, 116, 116, 112]⟩ ++ ⟨#[58, 47, 47, 97, 46, 98, 58]⟩ : ByteArray).size ≤ 20 := by decide +kernel
  have hB : sb ⟨#[47, 120]⟩ = [47, 120] := rfl
  have hBs : (⟨#[47, 120]⟩ : ByteArray).size = 2 := rfl
  generalize (⟨#[104, 116, 116, 112]⟩ ++ ⟨#[58, 47, 47, 97, 46, 98, 58]⟩ : ByteArray) = A at *
  generalize (⟨#[47, 120]⟩ : ByteArray) = B at *
  have hzl : zs.size ≤ 5 := by rw [← length_sb, hz]; simp; omega
  have := uparse_c hV hO (A ++ zs ++ B) (by rw [ByteArray.size_append, ByteArray.size_append]; omega)
  have hs : sb (A ++ zs ++ B) = httpI ++ ([58, 47, 47] ++ (abI ++ 58 :: ((List.replicate k 48 ++ digs n) ++ [47, 120]))) := by
    rw [sb_append, sb_append, hA, hB, hz]
    simp [List.append_assoc]
  rw [hs, parseI_port (by decide) hn hk, show ownI httpI = 80 by decide] at this
  exact this
theorem bare_parse_http {w0 w : World} {R : Blks} (hV : VarsOk w0) (hO : Own w0 w R) : Calls Tryd.prog 9 #[.string (⟨#[104, 116, 116, 112]⟩ ++ ⟨#[58, 47, 47, 97, 46, 98, 47]⟩)] w (GotE w0 R (some ⟨httpI, abI, 0, [47], []⟩)) := by
  have := uparse_c hV hO (⟨#[104, 116, 116, 112]⟩ ++ ⟨#[58, 47, 47, 97, 46, 98, 47]⟩) (by decide +kernel)
  rw [show sb (⟨#[104, 116, 116, 112]⟩ ++ ⟨#[58, 47, 47, 97, 46, 98, 47]⟩) = httpI ++ ([58, 47, 47] ++ (abI ++ [47])) by decide +kernel, parseI_bare (by decide)] at this
  exact this
theorem orig_own_http (q r : List Int) : strOfNums (originI ⟨httpI, abI, 0, q, r⟩) = ⟨#[104, 116, 116, 112]⟩ ++ ⟨#[58, 47, 47, 97, 46, 98]⟩ := by
  simp only [originI]
  rw [if_neg (by omega)]
  decide +kernel
theorem orig_n_http {n : Nat} (hn : 0 < n) (q r : List Int) : strOfNums (originI ⟨httpI, abI, n, q, r⟩) = ⟨#[104, 116, 116, 112]⟩ ++ ⟨#[58, 47, 47, 97, 46, 98]⟩ ++ (⟨#[58]⟩ ++ strOfNums (digs n)) := by
  have e : strOfNums (httpI ++ [58, 47, 47] ++ abI) = ⟨#[104, 116, 116, 112]⟩ ++ ⟨#[58, 47, 47, 97, 46, 98]⟩ := by decide +kernel
  simp only [originI]
  rw [if_pos (by omega), Int.toNat_natCast, show (58 : Int) :: digs n = [58] ++ digs n by rfl, strs_app, strs_app [58], e]
  rfl
theorem port_parse_https {w0 w : World} {R : Blks} (hV : VarsOk w0) (hO : Own w0 w R) {n k : Nat} {zs : ByteArray} (hz : sb zs = List.replicate k 48 ++ digs n) (hn : n < 100000) (hk : k + (digs n).length ≤ 5) :
    Calls Tryd.prog 9 #[.string (⟨#[104, 116, 116, 112, 115]⟩ ++ ⟨#[58, 47, 47, 97, 46, 98, 58]⟩ ++ zs ++ ⟨#[47, 120]⟩)] w (GotE w0 R (if 65535 < n then none else some ⟨httpsI, abI, if (n : Int) = 443 then 0 else n, [47, 120], []⟩)) := by
  have hA : sb (⟨#[104, 116, 116, 112, 115]⟩ ++ ⟨#[58, 47, 47, 97, 46, 98, 58]⟩) = httpsI ++ ([58, 47, 47] ++ (abI ++ [58])) := by decide +kernel
  have hAs : (⟨#[104, 116, 116, 112, 115]⟩ ++ ⟨#[58, 47, 47, 97, 46, 98, 58]⟩ : ByteArray).size ≤ 20 := by decide +kernel
  have hB : sb ⟨#[47, 120]⟩ = [47, 120] := rfl
  have hBs : (⟨#[47, 120]⟩ : ByteArray).size = 2 := rfl
  generalize (⟨#[104, 116, 116, 112, 115]⟩ ++ ⟨#[58, 47, 47, 97, 46, 98, 58]⟩ : ByteArray) = A at *
  generalize (⟨#[47, 120]⟩ : ByteArray) = B at *
  have hzl : zs.size ≤ 5 := by rw [← length_sb, hz]; simp; omega
  have := uparse_c hV hO (A ++ zs ++ B) (by rw [ByteArray.size_append, ByteArray.size_append]; omega)
  have hs : sb (A ++ zs ++ B) = httpsI ++ ([58, 47, 47] ++ (abI ++ 58 :: ((List.replicate k 48 ++ digs n) ++ [47, 120]))) := by
    rw [sb_append, sb_append, hA, hB, hz]
    simp [List.append_assoc]
  rw [hs, parseI_port (by decide) hn hk, show ownI httpsI = 443 by decide] at this
  exact this
theorem bare_parse_https {w0 w : World} {R : Blks} (hV : VarsOk w0) (hO : Own w0 w R) : Calls Tryd.prog 9 #[.string (⟨#[104, 116, 116, 112, 115]⟩ ++ ⟨#[58, 47, 47, 97, 46, 98, 47]⟩)] w (GotE w0 R (some ⟨httpsI, abI, 0, [47], []⟩)) := by
  have := uparse_c hV hO (⟨#[104, 116, 116, 112, 115]⟩ ++ ⟨#[58, 47, 47, 97, 46, 98, 47]⟩) (by decide +kernel)
  rw [show sb (⟨#[104, 116, 116, 112, 115]⟩ ++ ⟨#[58, 47, 47, 97, 46, 98, 47]⟩) = httpsI ++ ([58, 47, 47] ++ (abI ++ [47])) by decide +kernel, parseI_bare (by decide)] at this
  exact this
theorem orig_own_https (q r : List Int) : strOfNums (originI ⟨httpsI, abI, 0, q, r⟩) = ⟨#[104, 116, 116, 112, 115]⟩ ++ ⟨#[58, 47, 47, 97, 46, 98]⟩ := by
  simp only [originI]
  rw [if_neg (by omega)]
  decide +kernel
theorem orig_n_https {n : Nat} (hn : 0 < n) (q r : List Int) : strOfNums (originI ⟨httpsI, abI, n, q, r⟩) = ⟨#[104, 116, 116, 112, 115]⟩ ++ ⟨#[58, 47, 47, 97, 46, 98]⟩ ++ (⟨#[58]⟩ ++ strOfNums (digs n)) := by
  have e : strOfNums (httpsI ++ [58, 47, 47] ++ abI) = ⟨#[104, 116, 116, 112, 115]⟩ ++ ⟨#[58, 47, 47, 97, 46, 98]⟩ := by decide +kernel
  simp only [originI]
  rw [if_pos (by omega), Int.toNat_natCast, show (58 : Int) :: digs n = [58] ++ digs n by rfl, strs_app, strs_app [58], e]
  rfl
set_option maxRecDepth 100000 in
set_option maxHeartbeats 16000000 in
theorem uRLPorts_walk {W : World} (hV : VarsOk W) (a0 : Int) (w0 : (Lit.int .i64 a0).wf = true) (b : Bool) (a2 : Int) (w2 : (Lit.int .i64 a2).wf = true) :
    Calls Tryd.prog 7 #[.int .i64 a0, .bool b, .int .i64 a2] W (Yes W) := by
  have HO := Lib.hid (Own.start W)
  have HVV := Lib.hid hV
  clear hV
  have hn0 := Int.emod_nonneg a0 (show (70000 : Int) ≠ 0 by omega)
  have hn1 := Int.emod_lt_of_pos a0 (show (0 : Int) < 70000 by omega)
  have hm0 := Int.emod_nonneg a2 (show (5 : Int) ≠ 0 by omega)
  have hm1 := Int.emod_lt_of_pos a2 (show (0 : Int) < 5 by omega)
  have q1 : ∀ w : World, _ := fun w => within_c (w := w) a0 70000 (by omega) (by omega)
  have q2 : ∀ w : World, _ := fun w => within_c (w := w) a2 5 (by omega) (by omega)
  obtain ⟨n, hn⟩ : ∃ n : Nat, a0 % 70000 = (n : Int) := ⟨_, (Int.toNat_of_nonneg hn0).symm⟩
  obtain ⟨m, hm⟩ : ∃ m : Nat, a2 % 5 = (m : Int) := ⟨_, (Int.toNat_of_nonneg hm0).symm⟩
  rw [hn] at q1; rw [hm] at q2
  have Q1 := Lib.hid q1; have Q2 := Lib.hid q2
  have hnn : n < 70000 := by omega
  have hmm : m < 5 := by omega
  clear q1 q2 hn hm hn0 hn1 hm0 hm1
  go_enter Tryd.func7, Tryd.ntmps7
  go_wp2_with fail
  with_reducible refine (Q1.out _).mono ?_
  rintro e w1 ⟨rfl, rfl⟩
  go_wp2_with fail
  with_reducible refine (digits_c n (by omega) _).mono ?_
  rintro e w3 ⟨rfl, m3, rfl⟩
  have HO1 := Lib.hid (HO.out.drewN m3); clear HO
  rw [show strOfNums (digs n) = zdig 0 n by rfl]
  have hdl := digs_len n
  have hds := digs_short (n := n) (by omega)
  generalize hww : World.drewN _ m3 = ww at *
  clear hww
  go_wp2
  go_loopw [7, 8] (fun u t w' => ∃ k : Nat, k ≤ m ∧ k + (digs n).length ≤ 5 ∧ u = .string (zdig k n) ∧ t = .int .i64 k ∧ w' = ww) (fun _ t _ => 5 - (intOf t).toNat)
  case atStart => exact ⟨0, by omega, by omega, rfl, rfl, rfl⟩
  case round =>
    obtain ⟨k, hkm, hk5, rfl, rfl, rfl⟩ := hrel
    have hsz := zdig_size k n
    go_wp2_with fail
    with_reducible refine (Q2.out _).mono ?_
    rintro e w4 ⟨rfl, rfl⟩
    by_cases hcnd : k < m ∧ (zdig k n).size < 5
    · obtain ⟨hc1, hc2⟩ := hcnd
      have i1 : (k : Int) < m := by omega
      have i2 : ((zdig k n).size : Int) < 5 := by omega
      have i3 : ¬ (9223372036854775807 < 1 + (zdig k n).size) := by omega
      have hk1 : k + 1 + (digs n).length ≤ 5 := by omega
      have hz := zdig_succ k n
      have HZ := Lib.hid hz
      clear hz hsz
      go_wp2
      go_roundw
      case rel => exact ⟨k + 1, by omega, hk1, by rw [HZ.out], by go_num, trivial⟩
      case measure => simp [intOf]; omega
    · obtain ⟨zs, hzs⟩ : ∃ zs, zdig k n = zs := ⟨_, rfl⟩
      have hzl : zs.size ≤ 5 := by rw [← hzs]; omega
      have hsb := sb_zdig k n
      rw [hzs] at hsb hcnd
      have HSB := Lib.hid hsb
      have HK5 := Lib.hid hk5
      rw [hzs]
      have hcnd2 : (if (k : Int) < m then decide ((zs.size : Int) < 5) else false) = false := by
        split
        · exact decide_eq_false (by omega)
        · rfl
      have hstop : ¬ ((k : Int) < m) ∨ ((k : Int) < m ∧ ¬ ((zs.size : Int) < 5)) := by omega
      clear hsz hzs hsb hk5 hcnd hcnd2 Q1 Q2
      rcases hstop with hst | ⟨hst, hst2⟩
      · go_wp2_with fail
        · have hp : ∀ (w' : World) (R' : Blks), Own W w' R' → _ := fun w' R' h => port_parse_https HVV.out h HSB.out (by omega) HK5.out
          by_cases h65 : 65535 < n
          · rw [if_pos h65] at hp
            have hI : (65535 : Int) < n := by omega
            have HP := Lib.hid hp; clear hp
            with_reducible refine (HP.out _ _ HO1.out).mono ?_
            rintro e w2 ⟨rfl, hO2⟩
            have HO2 := Lib.hid hO2; clear hO2 HO1
            simp only [Option.getD_none, Option.isSome_none, Option.getD_some, Option.isSome_some, UL.val, UL.zero]
            go_wp2_with (first | (refine wl_alloc rfl _ rfl HO2.out _ (alloc_url _) ?_; intro g7 w3 hO3; have HO3 := Lib.hid hO3; clear hO3 HO2) | (refine wl_store rfl _ _ _ rfl HO3.out 0 g7 0 _ [Value.string (⟨#[]⟩), Value.string (⟨#[]⟩), Value.int .i64 0, Value.string (⟨#[]⟩), Value.string (⟨#[]⟩)] _ rfl (by rfl) (by rfl) url_size (one_url UL.zero) (by simp [UL.val, UL.zero]) ?_; intro w4 hO4; have HO4 := Lib.hid (hO4.cast (L' := [(g7, .cells [Value.string (⟨#[]⟩), Value.string (⟨#[]⟩), Value.int .i64 0, Value.string (⟨#[]⟩), Value.string (⟨#[]⟩)].toArray 25)]) rfl); clear hO4 HO3) | (refine wl_g (by rfl) ?_; refine wl_load rfl _ _ rfl g7 0 [Value.string (⟨#[]⟩), Value.string (⟨#[]⟩), Value.int .i64 0, Value.string (⟨#[]⟩), Value.string (⟨#[]⟩)] [Value.string (⟨#[]⟩), Value.string (⟨#[]⟩), Value.int .i64 0, Value.string (⟨#[]⟩), Value.string (⟨#[]⟩)] _ (HO4.out.heap (.head _)) (by rfl) _ Tryd.underlying25 rfl url_size (by rfl) ?_))
            with_reducible refine (wakes7_c HVV.out HO4.out).mono ?_
            rintro e w90 ⟨rfl, hO90⟩
            have HO90 := Lib.hid hO90; clear hO90 HO4
            go_wp2
            go_ret
            exact HO90.out.yes rfl
          · rw [if_neg h65] at hp
            have hI : ¬ ((65535 : Int) < n) := by omega
            obtain ⟨v, hv⟩ : ∃ v : UL, v = ⟨httpsI, abI, 0, [47], []⟩ := ⟨_, rfl⟩
            have hb : ∀ (w' : World) (R' : Blks), Own W w' R' → _ := fun w' R' h => bare_parse_https HVV.out h
            rw [← hv] at hb
            have hfv : v.Fine := by rw [hv]; exact fine_0 (by decide)
            rcases (by omega : ((n : Int) = 443) ∨ (n = 0) ∨ (¬ ((n : Int) = 443) ∧ 0 < n)) with hc | hc | ⟨hc, hc0⟩
            · rw [if_pos hc] at hp
              have b1 : ((n : Int) == 443) = true := by simp; omega
              have b2 : ((n : Int) != 443) = false := by simp; omega
              obtain ⟨u, hu⟩ : ∃ u : UL, u = ⟨httpsI, abI, 0, [47, 120], []⟩ := ⟨_, rfl⟩
              rw [← hu] at hp
              have hfu : u.Fine := by rw [hu]; exact fine_x (by decide) (by omega) (by omega)
              have hT : strOfNums (originI u) = ⟨#[104, 116, 116, 112, 115]⟩ ++ ⟨#[58, 47, 47, 97, 46, 98]⟩ := by rw [hu]; exact orig_own_https _ _
              have hPT := printS_of hT (by rw [hu]) (by rw [hu])
              have hsm : decide (originI u = originI v) = true := by rw [hu, hv]; exact decide_eq_true rfl
              have q1 : ∀ (w' : World) (R' : Blks), Own W w' R' → _ := fun w' R' h => uprint_c HVV.out h u hfu
              have q2 : ∀ (w' : World) (R' : Blks), Own W w' R' → _ := fun w' R' h => uorigin_c HVV.out h u hfu.half
              have q3 : ∀ (w' : World) (R' : Blks), Own W w' R' → _ := fun w' R' h => usame_c HVV.out h u v hfu.half hfv.half
              rw [hPT] at q1; rw [hT] at q2; rw [hsm] at q3
              clear hT hPT hsm hu hv hfu hfv h65 hc
              obtain ⟨a1, a2, a3, a4, a5⟩ := u
              obtain ⟨b1', b2', b3', b4', b5'⟩ := v
              simp only [UL.val] at q1 q2 q3
              have Q1 := Lib.hid q1; have Q2 := Lib.hid q2; have Q3 := Lib.hid q3; have HP := Lib.hid hp; have HB := Lib.hid hb
              clear q1 q2 q3 hp hb
              with_reducible refine (HP.out _ _ HO1.out).mono ?_
              rintro e w2 ⟨rfl, hO2⟩
              have HO2 := Lib.hid hO2; clear hO2 HO1
              simp only [Option.getD_none, Option.isSome_none, Option.getD_some, Option.isSome_some, UL.val, UL.zero]
              go_wp2_with (first | (refine wl_alloc rfl _ rfl HO2.out _ (alloc_url _) ?_; intro g7 w3 hO3; have HO3 := Lib.hid hO3; clear hO3 HO2) | (refine wl_store rfl _ _ _ rfl HO3.out 0 g7 0 _ [Value.string (strOfNums a1), Value.string (strOfNums a2), Value.int .i64 a3, Value.string (strOfNums a4), Value.string (strOfNums a5)] _ rfl (by rfl) (by rfl) url_size (one_url ⟨a1, a2, a3, a4, a5⟩) (by simp [UL.val, UL.zero]) ?_; intro w4 hO4; have HO4 := Lib.hid (hO4.cast (L' := [(g7, .cells [Value.string (strOfNums a1), Value.string (strOfNums a2), Value.int .i64 a3, Value.string (strOfNums a4), Value.string (strOfNums a5)].toArray 25)]) rfl); clear hO4 HO3))
              with_reducible refine (HB.out _ _ HO4.out).mono ?_
              rintro e w6 ⟨rfl, hO6⟩
              have HO6 := Lib.hid hO6; clear hO6 HO4
              simp only [Option.getD_none, Option.isSome_none, Option.getD_some, Option.isSome_some, UL.val, UL.zero]
              go_wp2_with (first | (refine wl_alloc rfl _ rfl HO6.out _ (alloc_url _) ?_; intro g14 w7 hO7; have HO7 := Lib.hid hO7; clear hO7 HO6) | (refine wl_store rfl _ _ _ rfl HO7.out 0 g14 0 _ [Value.string (strOfNums b1'), Value.string (strOfNums b2'), Value.int .i64 b3', Value.string (strOfNums b4'), Value.string (strOfNums b5')] _ rfl (by rfl) (by rfl) url_size (one_url ⟨b1', b2', b3', b4', b5'⟩) (by simp [UL.val, UL.zero]) ?_; intro w8 hO8; have HO8 := Lib.hid (hO8.cast (L' := [(g14, .cells [Value.string (strOfNums b1'), Value.string (strOfNums b2'), Value.int .i64 b3', Value.string (strOfNums b4'), Value.string (strOfNums b5')].toArray 25), (g7, .cells [Value.string (strOfNums a1), Value.string (strOfNums a2), Value.int .i64 a3, Value.string (strOfNums a4), Value.string (strOfNums a5)].toArray 25)]) rfl); clear hO8 HO7) | (refine wl_g (by rfl) ?_; refine wl_load rfl _ _ rfl g7 0 [Value.string (strOfNums a1), Value.string (strOfNums a2), Value.int .i64 a3, Value.string (strOfNums a4), Value.string (strOfNums a5)] [Value.string (strOfNums a1), Value.string (strOfNums a2), Value.int .i64 a3, Value.string (strOfNums a4), Value.string (strOfNums a5)] _ (HO8.out.heap (.tail _ (.head _))) (by rfl) _ Tryd.underlying25 rfl url_size (by rfl) ?_))
              with_reducible refine (Q1.out _ _ HO8.out).mono ?_
              rintro e w9 ⟨rfl, hO9⟩
              have HO9 := Lib.hid hO9; clear hO9 HO8
              go_wp2_with (first | (refine wl_g (by rfl) ?_; refine wl_load rfl _ _ rfl g7 0 [Value.string (strOfNums a1), Value.string (strOfNums a2), Value.int .i64 a3, Value.string (strOfNums a4), Value.string (strOfNums a5)] [Value.string (strOfNums a1), Value.string (strOfNums a2), Value.int .i64 a3, Value.string (strOfNums a4), Value.string (strOfNums a5)] _ (HO9.out.heap (.tail _ (.head _))) (by rfl) _ Tryd.underlying25 rfl url_size (by rfl) ?_))
              with_reducible refine (Q2.out _ _ HO9.out).mono ?_
              rintro e w10 ⟨rfl, hO10⟩
              have HO10 := Lib.hid hO10; clear hO10 HO9
              go_wp2_with (first | (refine wl_g (by rfl) ?_; refine wl_load rfl _ _ rfl g7 0 [Value.string (strOfNums a1), Value.string (strOfNums a2), Value.int .i64 a3, Value.string (strOfNums a4), Value.string (strOfNums a5)] [Value.string (strOfNums a1), Value.string (strOfNums a2), Value.int .i64 a3, Value.string (strOfNums a4), Value.string (strOfNums a5)] _ (HO10.out.heap (.tail _ (.head _))) (by rfl) _ Tryd.underlying25 rfl url_size (by rfl) ?_) | (refine wl_g (by rfl) ?_; refine wl_load rfl _ _ rfl g14 0 [Value.string (strOfNums b1'), Value.string (strOfNums b2'), Value.int .i64 b3', Value.string (strOfNums b4'), Value.string (strOfNums b5')] [Value.string (strOfNums b1'), Value.string (strOfNums b2'), Value.int .i64 b3', Value.string (strOfNums b4'), Value.string (strOfNums b5')] _ (HO10.out.heap (.head _)) (by rfl) _ Tryd.underlying25 rfl url_size (by rfl) ?_))
              with_reducible refine (Q3.out _ _ HO10.out).mono ?_
              rintro e w11 ⟨rfl, hO11⟩
              have HO11 := Lib.hid hO11; clear hO11 HO10
              go_wp2_with fail
              with_reducible refine (wakes7_c HVV.out HO11.out).mono ?_
              rintro e w90 ⟨rfl, hO90⟩
              have HO90 := Lib.hid hO90; clear hO90 HO11
              go_wp2
              go_ret
              exact HO90.out.yes rfl
            · rw [if_neg (by omega)] at hp
              have b1 : ((n : Int) == 443) = false := by simp; omega
              have b2 : ((n : Int) != 443) = true := by simp; omega
              have b3 : ((n : Int) == 0) = true := by simp; omega
              have b4 : ((n : Int) != 0) = false := by simp; omega
              rw [show ((n : Nat) : Int) = 0 by omega] at hp
              obtain ⟨u, hu⟩ : ∃ u : UL, u = ⟨httpsI, abI, 0, [47, 120], []⟩ := ⟨_, rfl⟩
              rw [← hu] at hp
              have hfu : u.Fine := by rw [hu]; exact fine_x (by decide) (by omega) (by omega)
              have hT : strOfNums (originI u) = ⟨#[104, 116, 116, 112, 115]⟩ ++ ⟨#[58, 47, 47, 97, 46, 98]⟩ := by rw [hu]; exact orig_own_https _ _
              have hPT := printS_of hT (by rw [hu]) (by rw [hu])
              have hsm : decide (originI u = originI v) = true := by rw [hu, hv]; exact decide_eq_true rfl
              have q1 : ∀ (w' : World) (R' : Blks), Own W w' R' → _ := fun w' R' h => uprint_c HVV.out h u hfu
              have q2 : ∀ (w' : World) (R' : Blks), Own W w' R' → _ := fun w' R' h => uorigin_c HVV.out h u hfu.half
              have q3 : ∀ (w' : World) (R' : Blks), Own W w' R' → _ := fun w' R' h => usame_c HVV.out h u v hfu.half hfv.half
              rw [hPT] at q1; rw [hT] at q2; rw [hsm] at q3
              clear hT hPT hsm hu hv hfu hfv h65 hc
              obtain ⟨a1, a2, a3, a4, a5⟩ := u
              obtain ⟨b1', b2', b3', b4', b5'⟩ := v
              simp only [UL.val] at q1 q2 q3
              have Q1 := Lib.hid q1; have Q2 := Lib.hid q2; have Q3 := Lib.hid q3; have HP := Lib.hid hp; have HB := Lib.hid hb
              clear q1 q2 q3 hp hb
              with_reducible refine (HP.out _ _ HO1.out).mono ?_
              rintro e w2 ⟨rfl, hO2⟩
              have HO2 := Lib.hid hO2; clear hO2 HO1
              simp only [Option.getD_none, Option.isSome_none, Option.getD_some, Option.isSome_some, UL.val, UL.zero]
              go_wp2_with (first | (refine wl_alloc rfl _ rfl HO2.out _ (alloc_url _) ?_; intro g7 w3 hO3; have HO3 := Lib.hid hO3; clear hO3 HO2) | (refine wl_store rfl _ _ _ rfl HO3.out 0 g7 0 _ [Value.string (strOfNums a1), Value.string (strOfNums a2), Value.int .i64 a3, Value.string (strOfNums a4), Value.string (strOfNums a5)] _ rfl (by rfl) (by rfl) url_size (one_url ⟨a1, a2, a3, a4, a5⟩) (by simp [UL.val, UL.zero]) ?_; intro w4 hO4; have HO4 := Lib.hid (hO4.cast (L' := [(g7, .cells [Value.string (strOfNums a1), Value.string (strOfNums a2), Value.int .i64 a3, Value.string (strOfNums a4), Value.string (strOfNums a5)].toArray 25)]) rfl); clear hO4 HO3))
              with_reducible refine (HB.out _ _ HO4.out).mono ?_
              rintro e w6 ⟨rfl, hO6⟩
              have HO6 := Lib.hid hO6; clear hO6 HO4
              simp only [Option.getD_none, Option.isSome_none, Option.getD_some, Option.isSome_some, UL.val, UL.zero]
              go_wp2_with (first | (refine wl_alloc rfl _ rfl HO6.out _ (alloc_url _) ?_; intro g14 w7 hO7; have HO7 := Lib.hid hO7; clear hO7 HO6) | (refine wl_store rfl _ _ _ rfl HO7.out 0 g14 0 _ [Value.string (strOfNums b1'), Value.string (strOfNums b2'), Value.int .i64 b3', Value.string (strOfNums b4'), Value.string (strOfNums b5')] _ rfl (by rfl) (by rfl) url_size (one_url ⟨b1', b2', b3', b4', b5'⟩) (by simp [UL.val, UL.zero]) ?_; intro w8 hO8; have HO8 := Lib.hid (hO8.cast (L' := [(g14, .cells [Value.string (strOfNums b1'), Value.string (strOfNums b2'), Value.int .i64 b3', Value.string (strOfNums b4'), Value.string (strOfNums b5')].toArray 25), (g7, .cells [Value.string (strOfNums a1), Value.string (strOfNums a2), Value.int .i64 a3, Value.string (strOfNums a4), Value.string (strOfNums a5)].toArray 25)]) rfl); clear hO8 HO7) | (refine wl_g (by rfl) ?_; refine wl_load rfl _ _ rfl g7 0 [Value.string (strOfNums a1), Value.string (strOfNums a2), Value.int .i64 a3, Value.string (strOfNums a4), Value.string (strOfNums a5)] [Value.string (strOfNums a1), Value.string (strOfNums a2), Value.int .i64 a3, Value.string (strOfNums a4), Value.string (strOfNums a5)] _ (HO8.out.heap (.tail _ (.head _))) (by rfl) _ Tryd.underlying25 rfl url_size (by rfl) ?_))
              with_reducible refine (Q1.out _ _ HO8.out).mono ?_
              rintro e w9 ⟨rfl, hO9⟩
              have HO9 := Lib.hid hO9; clear hO9 HO8
              go_wp2_with (first | (refine wl_g (by rfl) ?_; refine wl_load rfl _ _ rfl g7 0 [Value.string (strOfNums a1), Value.string (strOfNums a2), Value.int .i64 a3, Value.string (strOfNums a4), Value.string (strOfNums a5)] [Value.string (strOfNums a1), Value.string (strOfNums a2), Value.int .i64 a3, Value.string (strOfNums a4), Value.string (strOfNums a5)] _ (HO9.out.heap (.tail _ (.head _))) (by rfl) _ Tryd.underlying25 rfl url_size (by rfl) ?_))
              with_reducible refine (Q2.out _ _ HO9.out).mono ?_
              rintro e w10 ⟨rfl, hO10⟩
              have HO10 := Lib.hid hO10; clear hO10 HO9
              go_wp2_with (first | (refine wl_g (by rfl) ?_; refine wl_load rfl _ _ rfl g7 0 [Value.string (strOfNums a1), Value.string (strOfNums a2), Value.int .i64 a3, Value.string (strOfNums a4), Value.string (strOfNums a5)] [Value.string (strOfNums a1), Value.string (strOfNums a2), Value.int .i64 a3, Value.string (strOfNums a4), Value.string (strOfNums a5)] _ (HO10.out.heap (.tail _ (.head _))) (by rfl) _ Tryd.underlying25 rfl url_size (by rfl) ?_) | (refine wl_g (by rfl) ?_; refine wl_load rfl _ _ rfl g14 0 [Value.string (strOfNums b1'), Value.string (strOfNums b2'), Value.int .i64 b3', Value.string (strOfNums b4'), Value.string (strOfNums b5')] [Value.string (strOfNums b1'), Value.string (strOfNums b2'), Value.int .i64 b3', Value.string (strOfNums b4'), Value.string (strOfNums b5')] _ (HO10.out.heap (.head _)) (by rfl) _ Tryd.underlying25 rfl url_size (by rfl) ?_))
              with_reducible refine (Q3.out _ _ HO10.out).mono ?_
              rintro e w11 ⟨rfl, hO11⟩
              have HO11 := Lib.hid hO11; clear hO11 HO10
              go_wp2_with fail
              with_reducible refine (wakes7_c HVV.out HO11.out).mono ?_
              rintro e w90 ⟨rfl, hO90⟩
              have HO90 := Lib.hid hO90; clear hO90 HO11
              go_wp2
              go_ret
              exact HO90.out.yes rfl
            · rw [if_neg hc] at hp
              have b1 : ((n : Int) == 443) = false := by simp; omega
              have b2 : ((n : Int) != 443) = true := by simp; omega
              have b3 : ((n : Int) == 0) = false := by simp; omega
              have b4 : ((n : Int) != 0) = true := by simp; omega
              obtain ⟨u, hu⟩ : ∃ u : UL, u = ⟨httpsI, abI, n, [47, 120], []⟩ := ⟨_, rfl⟩
              rw [← hu] at hp
              have hfu : u.Fine := by rw [hu]; exact fine_x (by decide) (by omega) (by omega)
              have hT : strOfNums (originI u) = ⟨#[104, 116, 116, 112, 115]⟩ ++ ⟨#[58, 47, 47, 97, 46, 98]⟩ ++ (⟨#[58]⟩ ++ strOfNums (digs n)) := by rw [hu]; exact orig_n_https hc0 _ _
              have hPT := printS_of hT (by rw [hu]) (by rw [hu])
              have hsm : decide (originI u = originI v) = false := by rw [hu, hv]; exact decide_eq_false (origin_more hc0 _ _ _ _)
              have q1 : ∀ (w' : World) (R' : Blks), Own W w' R' → _ := fun w' R' h => uprint_c HVV.out h u hfu
              have q2 : ∀ (w' : World) (R' : Blks), Own W w' R' → _ := fun w' R' h => uorigin_c HVV.out h u hfu.half
              have q3 : ∀ (w' : World) (R' : Blks), Own W w' R' → _ := fun w' R' h => usame_c HVV.out h u v hfu.half hfv.half
              rw [hPT] at q1; rw [hT] at q2; rw [hsm] at q3
              clear hT hPT hsm hu hv hfu hfv h65 hc
              obtain ⟨a1, a2, a3, a4, a5⟩ := u
              obtain ⟨b1', b2', b3', b4', b5'⟩ := v
              simp only [UL.val] at q1 q2 q3
              have Q1 := Lib.hid q1; have Q2 := Lib.hid q2; have Q3 := Lib.hid q3; have HP := Lib.hid hp; have HB := Lib.hid hb
              clear q1 q2 q3 hp hb
              with_reducible refine (HP.out _ _ HO1.out).mono ?_
              rintro e w2 ⟨rfl, hO2⟩
              have HO2 := Lib.hid hO2; clear hO2 HO1
              simp only [Option.getD_none, Option.isSome_none, Option.getD_some, Option.isSome_some, UL.val, UL.zero]
              go_wp2_with (first | (refine wl_alloc rfl _ rfl HO2.out _ (alloc_url _) ?_; intro g7 w3 hO3; have HO3 := Lib.hid hO3; clear hO3 HO2) | (refine wl_store rfl _ _ _ rfl HO3.out 0 g7 0 _ [Value.string (strOfNums a1), Value.string (strOfNums a2), Value.int .i64 a3, Value.string (strOfNums a4), Value.string (strOfNums a5)] _ rfl (by rfl) (by rfl) url_size (one_url ⟨a1, a2, a3, a4, a5⟩) (by simp [UL.val, UL.zero]) ?_; intro w4 hO4; have HO4 := Lib.hid (hO4.cast (L' := [(g7, .cells [Value.string (strOfNums a1), Value.string (strOfNums a2), Value.int .i64 a3, Value.string (strOfNums a4), Value.string (strOfNums a5)].toArray 25)]) rfl); clear hO4 HO3))
              with_reducible refine (digits_c n (by omega) _).mono ?_
              rintro e w5 ⟨rfl, m5, rfl⟩
              have HO5 := Lib.hid (HO4.out.drewN m5); clear HO4
              generalize hww : World.drewN _ m5 = ww at *
              clear hww
              obtain ⟨D, hD⟩ : ∃ D, strOfNums (digs n) = D := ⟨_, rfl⟩
              have hDl : D.size ≤ 21 := by rw [← hD, strOfNums_size]; omega
              rw [hD] at Q1 Q2
              rw [hD]
              clear hD
              go_wp2_with fail
              with_reducible refine (HB.out _ _ HO5.out).mono ?_
              rintro e w6 ⟨rfl, hO6⟩
              have HO6 := Lib.hid hO6; clear hO6 HO5
              simp only [Option.getD_none, Option.isSome_none, Option.getD_some, Option.isSome_some, UL.val, UL.zero]
              go_wp2_with (first | (refine wl_alloc rfl _ rfl HO6.out _ (alloc_url _) ?_; intro g14 w7 hO7; have HO7 := Lib.hid hO7; clear hO7 HO6) | (refine wl_store rfl _ _ _ rfl HO7.out 0 g14 0 _ [Value.string (strOfNums b1'), Value.string (strOfNums b2'), Value.int .i64 b3', Value.string (strOfNums b4'), Value.string (strOfNums b5')] _ rfl (by rfl) (by rfl) url_size (one_url ⟨b1', b2', b3', b4', b5'⟩) (by simp [UL.val, UL.zero]) ?_; intro w8 hO8; have HO8 := Lib.hid (hO8.cast (L' := [(g14, .cells [Value.string (strOfNums b1'), Value.string (strOfNums b2'), Value.int .i64 b3', Value.string (strOfNums b4'), Value.string (strOfNums b5')].toArray 25), (g7, .cells [Value.string (strOfNums a1), Value.string (strOfNums a2), Value.int .i64 a3, Value.string (strOfNums a4), Value.string (strOfNums a5)].toArray 25)]) rfl); clear hO8 HO7) | (refine wl_g (by rfl) ?_; refine wl_load rfl _ _ rfl g7 0 [Value.string (strOfNums a1), Value.string (strOfNums a2), Value.int .i64 a3, Value.string (strOfNums a4), Value.string (strOfNums a5)] [Value.string (strOfNums a1), Value.string (strOfNums a2), Value.int .i64 a3, Value.string (strOfNums a4), Value.string (strOfNums a5)] _ (HO8.out.heap (.tail _ (.head _))) (by rfl) _ Tryd.underlying25 rfl url_size (by rfl) ?_))
              with_reducible refine (Q1.out _ _ HO8.out).mono ?_
              rintro e w9 ⟨rfl, hO9⟩
              have HO9 := Lib.hid hO9; clear hO9 HO8
              go_wp2_with (first | (refine wl_g (by rfl) ?_; refine wl_load rfl _ _ rfl g7 0 [Value.string (strOfNums a1), Value.string (strOfNums a2), Value.int .i64 a3, Value.string (strOfNums a4), Value.string (strOfNums a5)] [Value.string (strOfNums a1), Value.string (strOfNums a2), Value.int .i64 a3, Value.string (strOfNums a4), Value.string (strOfNums a5)] _ (HO9.out.heap (.tail _ (.head _))) (by rfl) _ Tryd.underlying25 rfl url_size (by rfl) ?_))
              with_reducible refine (Q2.out _ _ HO9.out).mono ?_
              rintro e w10 ⟨rfl, hO10⟩
              have HO10 := Lib.hid hO10; clear hO10 HO9
              go_wp2_with (first | (refine wl_g (by rfl) ?_; refine wl_load rfl _ _ rfl g7 0 [Value.string (strOfNums a1), Value.string (strOfNums a2), Value.int .i64 a3, Value.string (strOfNums a4), Value.string (strOfNums a5)] [Value.string (strOfNums a1), Value.string (strOfNums a2), Value.int .i64 a3, Value.string (strOfNums a4), Value.string (strOfNums a5)] _ (HO10.out.heap (.tail _ (.head _))) (by rfl) _ Tryd.underlying25 rfl url_size (by rfl) ?_) | (refine wl_g (by rfl) ?_; refine wl_load rfl _ _ rfl g14 0 [Value.string (strOfNums b1'), Value.string (strOfNums b2'), Value.int .i64 b3', Value.string (strOfNums b4'), Value.string (strOfNums b5')] [Value.string (strOfNums b1'), Value.string (strOfNums b2'), Value.int .i64 b3', Value.string (strOfNums b4'), Value.string (strOfNums b5')] _ (HO10.out.heap (.head _)) (by rfl) _ Tryd.underlying25 rfl url_size (by rfl) ?_))
              with_reducible refine (Q3.out _ _ HO10.out).mono ?_
              rintro e w11 ⟨rfl, hO11⟩
              have HO11 := Lib.hid hO11; clear hO11 HO10
              go_wp2_with fail
              with_reducible refine (wakes7_c HVV.out HO11.out).mono ?_
              rintro e w90 ⟨rfl, hO90⟩
              have HO90 := Lib.hid hO90; clear hO90 HO11
              go_wp2
              go_ret
              exact HO90.out.yes rfl
        · have hp : ∀ (w' : World) (R' : Blks), Own W w' R' → _ := fun w' R' h => port_parse_http HVV.out h HSB.out (by omega) HK5.out
          by_cases h65 : 65535 < n
          · rw [if_pos h65] at hp
            have hI : (65535 : Int) < n := by omega
            have HP := Lib.hid hp; clear hp
            with_reducible refine (HP.out _ _ HO1.out).mono ?_
            rintro e w2 ⟨rfl, hO2⟩
            have HO2 := Lib.hid hO2; clear hO2 HO1
            simp only [Option.getD_none, Option.isSome_none, Option.getD_some, Option.isSome_some, UL.val, UL.zero]
            go_wp2_with (first | (refine wl_alloc rfl _ rfl HO2.out _ (alloc_url _) ?_; intro g7 w3 hO3; have HO3 := Lib.hid hO3; clear hO3 HO2) | (refine wl_store rfl _ _ _ rfl HO3.out 0 g7 0 _ [Value.string (⟨#[]⟩), Value.string (⟨#[]⟩), Value.int .i64 0, Value.string (⟨#[]⟩), Value.string (⟨#[]⟩)] _ rfl (by rfl) (by rfl) url_size (one_url UL.zero) (by simp [UL.val, UL.zero]) ?_; intro w4 hO4; have HO4 := Lib.hid (hO4.cast (L' := [(g7, .cells [Value.string (⟨#[]⟩), Value.string (⟨#[]⟩), Value.int .i64 0, Value.string (⟨#[]⟩), Value.string (⟨#[]⟩)].toArray 25)]) rfl); clear hO4 HO3) | (refine wl_g (by rfl) ?_; refine wl_load rfl _ _ rfl g7 0 [Value.string (⟨#[]⟩), Value.string (⟨#[]⟩), Value.int .i64 0, Value.string (⟨#[]⟩), Value.string (⟨#[]⟩)] [Value.string (⟨#[]⟩), Value.string (⟨#[]⟩), Value.int .i64 0, Value.string (⟨#[]⟩), Value.string (⟨#[]⟩)] _ (HO4.out.heap (.head _)) (by rfl) _ Tryd.underlying25 rfl url_size (by rfl) ?_))
            with_reducible refine (wakes7_c HVV.out HO4.out).mono ?_
            rintro e w90 ⟨rfl, hO90⟩
            have HO90 := Lib.hid hO90; clear hO90 HO4
            go_wp2
            go_ret
            exact HO90.out.yes rfl
          · rw [if_neg h65] at hp
            have hI : ¬ ((65535 : Int) < n) := by omega
            obtain ⟨v, hv⟩ : ∃ v : UL, v = ⟨httpI, abI, 0, [47], []⟩ := ⟨_, rfl⟩
            have hb : ∀ (w' : World) (R' : Blks), Own W w' R' → _ := fun w' R' h => bare_parse_http HVV.out h
            rw [← hv] at hb
            have hfv : v.Fine := by rw [hv]; exact fine_0 (by decide)
            rcases (by omega : ((n : Int) = 80) ∨ (n = 0) ∨ (¬ ((n : Int) = 80) ∧ 0 < n)) with hc | hc | ⟨hc, hc0⟩
            · rw [if_pos hc] at hp
              have b1 : ((n : Int) == 80) = true := by simp; omega
              have b2 : ((n : Int) != 80) = false := by simp; omega
              obtain ⟨u, hu⟩ : ∃ u : UL, u = ⟨httpI, abI, 0, [47, 120], []⟩ := ⟨_, rfl⟩
              rw [← hu] at hp
              have hfu : u.Fine := by rw [hu]; exact fine_x (by decide) (by omega) (by omega)
              have hT : strOfNums (originI u) = ⟨#[104, 116, 116, 112]⟩ ++ ⟨#[58, 47, 47, 97, 46, 98]⟩ := by rw [hu]; exact orig_own_http _ _
              have hPT := printS_of hT (by rw [hu]) (by rw [hu])
              have hsm : decide (originI u = originI v) = true := by rw [hu, hv]; exact decide_eq_true rfl
              have q1 : ∀ (w' : World) (R' : Blks), Own W w' R' → _ := fun w' R' h => uprint_c HVV.out h u hfu
              have q2 : ∀ (w' : World) (R' : Blks), Own W w' R' → _ := fun w' R' h => uorigin_c HVV.out h u hfu.half
              have q3 : ∀ (w' : World) (R' : Blks), Own W w' R' → _ := fun w' R' h => usame_c HVV.out h u v hfu.half hfv.half
              rw [hPT] at q1; rw [hT] at q2; rw [hsm] at q3
              clear hT hPT hsm hu hv hfu hfv h65 hc
              obtain ⟨a1, a2, a3, a4, a5⟩ := u
              obtain ⟨b1', b2', b3', b4', b5'⟩ := v
              simp only [UL.val] at q1 q2 q3
              have Q1 := Lib.hid q1; have Q2 := Lib.hid q2; have Q3 := Lib.hid q3; have HP := Lib.hid hp; have HB := Lib.hid hb
              clear q1 q2 q3 hp hb
              with_reducible refine (HP.out _ _ HO1.out).mono ?_
              rintro e w2 ⟨rfl, hO2⟩
              have HO2 := Lib.hid hO2; clear hO2 HO1
              simp only [Option.getD_none, Option.isSome_none, Option.getD_some, Option.isSome_some, UL.val, UL.zero]
              go_wp2_with (first | (refine wl_alloc rfl _ rfl HO2.out _ (alloc_url _) ?_; intro g7 w3 hO3; have HO3 := Lib.hid hO3; clear hO3 HO2) | (refine wl_store rfl _ _ _ rfl HO3.out 0 g7 0 _ [Value.string (strOfNums a1), Value.string (strOfNums a2), Value.int .i64 a3, Value.string (strOfNums a4), Value.string (strOfNums a5)] _ rfl (by rfl) (by rfl) url_size (one_url ⟨a1, a2, a3, a4, a5⟩) (by simp [UL.val, UL.zero]) ?_; intro w4 hO4; have HO4 := Lib.hid (hO4.cast (L' := [(g7, .cells [Value.string (strOfNums a1), Value.string (strOfNums a2), Value.int .i64 a3, Value.string (strOfNums a4), Value.string (strOfNums a5)].toArray 25)]) rfl); clear hO4 HO3))
              with_reducible refine (HB.out _ _ HO4.out).mono ?_
              rintro e w6 ⟨rfl, hO6⟩
              have HO6 := Lib.hid hO6; clear hO6 HO4
              simp only [Option.getD_none, Option.isSome_none, Option.getD_some, Option.isSome_some, UL.val, UL.zero]
              go_wp2_with (first | (refine wl_alloc rfl _ rfl HO6.out _ (alloc_url _) ?_; intro g14 w7 hO7; have HO7 := Lib.hid hO7; clear hO7 HO6) | (refine wl_store rfl _ _ _ rfl HO7.out 0 g14 0 _ [Value.string (strOfNums b1'), Value.string (strOfNums b2'), Value.int .i64 b3', Value.string (strOfNums b4'), Value.string (strOfNums b5')] _ rfl (by rfl) (by rfl) url_size (one_url ⟨b1', b2', b3', b4', b5'⟩) (by simp [UL.val, UL.zero]) ?_; intro w8 hO8; have HO8 := Lib.hid (hO8.cast (L' := [(g14, .cells [Value.string (strOfNums b1'), Value.string (strOfNums b2'), Value.int .i64 b3', Value.string (strOfNums b4'), Value.string (strOfNums b5')].toArray 25), (g7, .cells [Value.string (strOfNums a1), Value.string (strOfNums a2), Value.int .i64 a3, Value.string (strOfNums a4), Value.string (strOfNums a5)].toArray 25)]) rfl); clear hO8 HO7) | (refine wl_g (by rfl) ?_; refine wl_load rfl _ _ rfl g7 0 [Value.string (strOfNums a1), Value.string (strOfNums a2), Value.int .i64 a3, Value.string (strOfNums a4), Value.string (strOfNums a5)] [Value.string (strOfNums a1), Value.string (strOfNums a2), Value.int .i64 a3, Value.string (strOfNums a4), Value.string (strOfNums a5)] _ (HO8.out.heap (.tail _ (.head _))) (by rfl) _ Tryd.underlying25 rfl url_size (by rfl) ?_))
              with_reducible refine (Q1.out _ _ HO8.out).mono ?_
              rintro e w9 ⟨rfl, hO9⟩
              have HO9 := Lib.hid hO9; clear hO9 HO8
              go_wp2_with (first | (refine wl_g (by rfl) ?_; refine wl_load rfl _ _ rfl g7 0 [Value.string (strOfNums a1), Value.string (strOfNums a2), Value.int .i64 a3, Value.string (strOfNums a4), Value.string (strOfNums a5)] [Value.string (strOfNums a1), Value.string (strOfNums a2), Value.int .i64 a3, Value.string (strOfNums a4), Value.string (strOfNums a5)] _ (HO9.out.heap (.tail _ (.head _))) (by rfl) _ Tryd.underlying25 rfl url_size (by rfl) ?_))
              with_reducible refine (Q2.out _ _ HO9.out).mono ?_
              rintro e w10 ⟨rfl, hO10⟩
              have HO10 := Lib.hid hO10; clear hO10 HO9
              go_wp2_with (first | (refine wl_g (by rfl) ?_; refine wl_load rfl _ _ rfl g7 0 [Value.string (strOfNums a1), Value.string (strOfNums a2), Value.int .i64 a3, Value.string (strOfNums a4), Value.string (strOfNums a5)] [Value.string (strOfNums a1), Value.string (strOfNums a2), Value.int .i64 a3, Value.string (strOfNums a4), Value.string (strOfNums a5)] _ (HO10.out.heap (.tail _ (.head _))) (by rfl) _ Tryd.underlying25 rfl url_size (by rfl) ?_) | (refine wl_g (by rfl) ?_; refine wl_load rfl _ _ rfl g14 0 [Value.string (strOfNums b1'), Value.string (strOfNums b2'), Value.int .i64 b3', Value.string (strOfNums b4'), Value.string (strOfNums b5')] [Value.string (strOfNums b1'), Value.string (strOfNums b2'), Value.int .i64 b3', Value.string (strOfNums b4'), Value.string (strOfNums b5')] _ (HO10.out.heap (.head _)) (by rfl) _ Tryd.underlying25 rfl url_size (by rfl) ?_))
              with_reducible refine (Q3.out _ _ HO10.out).mono ?_
              rintro e w11 ⟨rfl, hO11⟩
              have HO11 := Lib.hid hO11; clear hO11 HO10
              go_wp2_with fail
              with_reducible refine (wakes7_c HVV.out HO11.out).mono ?_
              rintro e w90 ⟨rfl, hO90⟩
              have HO90 := Lib.hid hO90; clear hO90 HO11
              go_wp2
              go_ret
              exact HO90.out.yes rfl
            · rw [if_neg (by omega)] at hp
              have b1 : ((n : Int) == 80) = false := by simp; omega
              have b2 : ((n : Int) != 80) = true := by simp; omega
              have b3 : ((n : Int) == 0) = true := by simp; omega
              have b4 : ((n : Int) != 0) = false := by simp; omega
              rw [show ((n : Nat) : Int) = 0 by omega] at hp
              obtain ⟨u, hu⟩ : ∃ u : UL, u = ⟨httpI, abI, 0, [47, 120], []⟩ := ⟨_, rfl⟩
              rw [← hu] at hp
              have hfu : u.Fine := by rw [hu]; exact fine_x (by decide) (by omega) (by omega)
              have hT : strOfNums (originI u) = ⟨#[104, 116, 116, 112]⟩ ++ ⟨#[58, 47, 47, 97, 46, 98]⟩ := by rw [hu]; exact orig_own_http _ _
              have hPT := printS_of hT (by rw [hu]) (by rw [hu])
              have hsm : decide (originI u = originI v) = true := by rw [hu, hv]; exact decide_eq_true rfl
              have q1 : ∀ (w' : World) (R' : Blks), Own W w' R' → _ := fun w' R' h => uprint_c HVV.out h u hfu
              have q2 : ∀ (w' : World) (R' : Blks), Own W w' R' → _ := fun w' R' h => uorigin_c HVV.out h u hfu.half
              have q3 : ∀ (w' : World) (R' : Blks), Own W w' R' → _ := fun w' R' h => usame_c HVV.out h u v hfu.half hfv.half
              rw [hPT] at q1; rw [hT] at q2; rw [hsm] at q3
              clear hT hPT hsm hu hv hfu hfv h65 hc
              obtain ⟨a1, a2, a3, a4, a5⟩ := u
              obtain ⟨b1', b2', b3', b4', b5'⟩ := v
              simp only [UL.val] at q1 q2 q3
              have Q1 := Lib.hid q1; have Q2 := Lib.hid q2; have Q3 := Lib.hid q3; have HP := Lib.hid hp; have HB := Lib.hid hb
              clear q1 q2 q3 hp hb
              with_reducible refine (HP.out _ _ HO1.out).mono ?_
              rintro e w2 ⟨rfl, hO2⟩
              have HO2 := Lib.hid hO2; clear hO2 HO1
              simp only [Option.getD_none, Option.isSome_none, Option.getD_some, Option.isSome_some, UL.val, UL.zero]
              go_wp2_with (first | (refine wl_alloc rfl _ rfl HO2.out _ (alloc_url _) ?_; intro g7 w3 hO3; have HO3 := Lib.hid hO3; clear hO3 HO2) | (refine wl_store rfl _ _ _ rfl HO3.out 0 g7 0 _ [Value.string (strOfNums a1), Value.string (strOfNums a2), Value.int .i64 a3, Value.string (strOfNums a4), Value.string (strOfNums a5)] _ rfl (by rfl) (by rfl) url_size (one_url ⟨a1, a2, a3, a4, a5⟩) (by simp [UL.val, UL.zero]) ?_; intro w4 hO4; have HO4 := Lib.hid (hO4.cast (L' := [(g7, .cells [Value.string (strOfNums a1), Value.string (strOfNums a2), Value.int .i64 a3, Value.string (strOfNums a4), Value.string (strOfNums a5)].toArray 25)]) rfl); clear hO4 HO3))
              with_reducible refine (HB.out _ _ HO4.out).mono ?_
              rintro e w6 ⟨rfl, hO6⟩
              have HO6 := Lib.hid hO6; clear hO6 HO4
              simp only [Option.getD_none, Option.isSome_none, Option.getD_some, Option.isSome_some, UL.val, UL.zero]
              go_wp2_with (first | (refine wl_alloc rfl _ rfl HO6.out _ (alloc_url _) ?_; intro g14 w7 hO7; have HO7 := Lib.hid hO7; clear hO7 HO6) | (refine wl_store rfl _ _ _ rfl HO7.out 0 g14 0 _ [Value.string (strOfNums b1'), Value.string (strOfNums b2'), Value.int .i64 b3', Value.string (strOfNums b4'), Value.string (strOfNums b5')] _ rfl (by rfl) (by rfl) url_size (one_url ⟨b1', b2', b3', b4', b5'⟩) (by simp [UL.val, UL.zero]) ?_; intro w8 hO8; have HO8 := Lib.hid (hO8.cast (L' := [(g14, .cells [Value.string (strOfNums b1'), Value.string (strOfNums b2'), Value.int .i64 b3', Value.string (strOfNums b4'), Value.string (strOfNums b5')].toArray 25), (g7, .cells [Value.string (strOfNums a1), Value.string (strOfNums a2), Value.int .i64 a3, Value.string (strOfNums a4), Value.string (strOfNums a5)].toArray 25)]) rfl); clear hO8 HO7) | (refine wl_g (by rfl) ?_; refine wl_load rfl _ _ rfl g7 0 [Value.string (strOfNums a1), Value.string (strOfNums a2), Value.int .i64 a3, Value.string (strOfNums a4), Value.string (strOfNums a5)] [Value.string (strOfNums a1), Value.string (strOfNums a2), Value.int .i64 a3, Value.string (strOfNums a4), Value.string (strOfNums a5)] _ (HO8.out.heap (.tail _ (.head _))) (by rfl) _ Tryd.underlying25 rfl url_size (by rfl) ?_))
              with_reducible refine (Q1.out _ _ HO8.out).mono ?_
              rintro e w9 ⟨rfl, hO9⟩
              have HO9 := Lib.hid hO9; clear hO9 HO8
              go_wp2_with (first | (refine wl_g (by rfl) ?_; refine wl_load rfl _ _ rfl g7 0 [Value.string (strOfNums a1), Value.string (strOfNums a2), Value.int .i64 a3, Value.string (strOfNums a4), Value.string (strOfNums a5)] [Value.string (strOfNums a1), Value.string (strOfNums a2), Value.int .i64 a3, Value.string (strOfNums a4), Value.string (strOfNums a5)] _ (HO9.out.heap (.tail _ (.head _))) (by rfl) _ Tryd.underlying25 rfl url_size (by rfl) ?_))
              with_reducible refine (Q2.out _ _ HO9.out).mono ?_
              rintro e w10 ⟨rfl, hO10⟩
              have HO10 := Lib.hid hO10; clear hO10 HO9
              go_wp2_with (first | (refine wl_g (by rfl) ?_; refine wl_load rfl _ _ rfl g7 0 [Value.string (strOfNums a1), Value.string (strOfNums a2), Value.int .i64 a3, Value.string (strOfNums a4), Value.string (strOfNums a5)] [Value.string (strOfNums a1), Value.string (strOfNums a2), Value.int .i64 a3, Value.string (strOfNums a4), Value.string (strOfNums a5)] _ (HO10.out.heap (.tail _ (.head _))) (by rfl) _ Tryd.underlying25 rfl url_size (by rfl) ?_) | (refine wl_g (by rfl) ?_; refine wl_load rfl _ _ rfl g14 0 [Value.string (strOfNums b1'), Value.string (strOfNums b2'), Value.int .i64 b3', Value.string (strOfNums b4'), Value.string (strOfNums b5')] [Value.string (strOfNums b1'), Value.string (strOfNums b2'), Value.int .i64 b3', Value.string (strOfNums b4'), Value.string (strOfNums b5')] _ (HO10.out.heap (.head _)) (by rfl) _ Tryd.underlying25 rfl url_size (by rfl) ?_))
              with_reducible refine (Q3.out _ _ HO10.out).mono ?_
              rintro e w11 ⟨rfl, hO11⟩
              have HO11 := Lib.hid hO11; clear hO11 HO10
              go_wp2_with fail
              with_reducible refine (wakes7_c HVV.out HO11.out).mono ?_
              rintro e w90 ⟨rfl, hO90⟩
              have HO90 := Lib.hid hO90; clear hO90 HO11
              go_wp2
              go_ret
              exact HO90.out.yes rfl
            · rw [if_neg hc] at hp
              have b1 : ((n : Int) == 80) = false := by simp; omega
              have b2 : ((n : Int) != 80) = true := by simp; omega
              have b3 : ((n : Int) == 0) = false := by simp; omega
              have b4 : ((n : Int) != 0) = true := by simp; omega
              obtain ⟨u, hu⟩ : ∃ u : UL, u = ⟨httpI, abI, n, [47, 120], []⟩ := ⟨_, rfl⟩
              rw [← hu] at hp
              have hfu : u.Fine := by rw [hu]; exact fine_x (by decide) (by omega) (by omega)
              have hT : strOfNums (originI u) = ⟨#[104, 116, 116, 112]⟩ ++ ⟨#[58, 47, 47, 97, 46, 98]⟩ ++ (⟨#[58]⟩ ++ strOfNums (digs n)) := by rw [hu]; exact orig_n_http hc0 _ _
              have hPT := printS_of hT (by rw [hu]) (by rw [hu])
              have hsm : decide (originI u = originI v) = false := by rw [hu, hv]; exact decide_eq_false (origin_more hc0 _ _ _ _)
              have q1 : ∀ (w' : World) (R' : Blks), Own W w' R' → _ := fun w' R' h => uprint_c HVV.out h u hfu
              have q2 : ∀ (w' : World) (R' : Blks), Own W w' R' → _ := fun w' R' h => uorigin_c HVV.out h u hfu.half
              have q3 : ∀ (w' : World) (R' : Blks), Own W w' R' → _ := fun w' R' h => usame_c HVV.out h u v hfu.half hfv.half
              rw [hPT] at q1; rw [hT] at q2; rw [hsm] at q3
              clear hT hPT hsm hu hv hfu hfv h65 hc
              obtain ⟨a1, a2, a3, a4, a5⟩ := u
              obtain ⟨b1', b2', b3', b4', b5'⟩ := v
              simp only [UL.val] at q1 q2 q3
              have Q1 := Lib.hid q1; have Q2 := Lib.hid q2; have Q3 := Lib.hid q3; have HP := Lib.hid hp; have HB := Lib.hid hb
              clear q1 q2 q3 hp hb
              with_reducible refine (HP.out _ _ HO1.out).mono ?_
              rintro e w2 ⟨rfl, hO2⟩
              have HO2 := Lib.hid hO2; clear hO2 HO1
              simp only [Option.getD_none, Option.isSome_none, Option.getD_some, Option.isSome_some, UL.val, UL.zero]
              go_wp2_with (first | (refine wl_alloc rfl _ rfl HO2.out _ (alloc_url _) ?_; intro g7 w3 hO3; have HO3 := Lib.hid hO3; clear hO3 HO2) | (refine wl_store rfl _ _ _ rfl HO3.out 0 g7 0 _ [Value.string (strOfNums a1), Value.string (strOfNums a2), Value.int .i64 a3, Value.string (strOfNums a4), Value.string (strOfNums a5)] _ rfl (by rfl) (by rfl) url_size (one_url ⟨a1, a2, a3, a4, a5⟩) (by simp [UL.val, UL.zero]) ?_; intro w4 hO4; have HO4 := Lib.hid (hO4.cast (L' := [(g7, .cells [Value.string (strOfNums a1), Value.string (strOfNums a2), Value.int .i64 a3, Value.string (strOfNums a4), Value.string (strOfNums a5)].toArray 25)]) rfl); clear hO4 HO3))
              with_reducible refine (digits_c n (by omega) _).mono ?_
              rintro e w5 ⟨rfl, m5, rfl⟩
              have HO5 := Lib.hid (HO4.out.drewN m5); clear HO4
              generalize hww : World.drewN _ m5 = ww at *
              clear hww
              obtain ⟨D, hD⟩ : ∃ D, strOfNums (digs n) = D := ⟨_, rfl⟩
              have hDl : D.size ≤ 21 := by rw [← hD, strOfNums_size]; omega
              rw [hD] at Q1 Q2
              rw [hD]
              clear hD
              go_wp2_with fail
              with_reducible refine (HB.out _ _ HO5.out).mono ?_
              rintro e w6 ⟨rfl, hO6⟩
              have HO6 := Lib.hid hO6; clear hO6 HO5
              simp only [Option.getD_none, Option.isSome_none, Option.getD_some, Option.isSome_some, UL.val, UL.zero]
              go_wp2_with (first | (refine wl_alloc rfl _ rfl HO6.out _ (alloc_url _) ?_; intro g14 w7 hO7; have HO7 := Lib.hid hO7; clear hO7 HO6) | (refine wl_store rfl _ _ _ rfl HO7.out 0 g14 0 _ [Value.string (strOfNums b1'), Value.string (strOfNums b2'), Value.int .i64 b3', Value.string (strOfNums b4'), Value.string (strOfNums b5')] _ rfl (by rfl) (by rfl) url_size (one_url ⟨b1', b2', b3', b4', b5'⟩) (by simp [UL.val, UL.zero]) ?_; intro w8 hO8; have HO8 := Lib.hid (hO8.cast (L' := [(g14, .cells [Value.string (strOfNums b1'), Value.string (strOfNums b2'), Value.int .i64 b3', Value.string (strOfNums b4'), Value.string (strOfNums b5')].toArray 25), (g7, .cells [Value.string (strOfNums a1), Value.string (strOfNums a2), Value.int .i64 a3, Value.string (strOfNums a4), Value.string (strOfNums a5)].toArray 25)]) rfl); clear hO8 HO7) | (refine wl_g (by rfl) ?_; refine wl_load rfl _ _ rfl g7 0 [Value.string (strOfNums a1), Value.string (strOfNums a2), Value.int .i64 a3, Value.string (strOfNums a4), Value.string (strOfNums a5)] [Value.string (strOfNums a1), Value.string (strOfNums a2), Value.int .i64 a3, Value.string (strOfNums a4), Value.string (strOfNums a5)] _ (HO8.out.heap (.tail _ (.head _))) (by rfl) _ Tryd.underlying25 rfl url_size (by rfl) ?_))
              with_reducible refine (Q1.out _ _ HO8.out).mono ?_
              rintro e w9 ⟨rfl, hO9⟩
              have HO9 := Lib.hid hO9; clear hO9 HO8
              go_wp2_with (first | (refine wl_g (by rfl) ?_; refine wl_load rfl _ _ rfl g7 0 [Value.string (strOfNums a1), Value.string (strOfNums a2), Value.int .i64 a3, Value.string (strOfNums a4), Value.string (strOfNums a5)] [Value.string (strOfNums a1), Value.string (strOfNums a2), Value.int .i64 a3, Value.string (strOfNums a4), Value.string (strOfNums a5)] _ (HO9.out.heap (.tail _ (.head _))) (by rfl) _ Tryd.underlying25 rfl url_size (by rfl) ?_))
              with_reducible refine (Q2.out _ _ HO9.out).mono ?_
              rintro e w10 ⟨rfl, hO10⟩
              have HO10 := Lib.hid hO10; clear hO10 HO9
              go_wp2_with (first | (refine wl_g (by rfl) ?_; refine wl_load rfl _ _ rfl g7 0 [Value.string (strOfNums a1), Value.string (strOfNums a2), Value.int .i64 a3, Value.string (strOfNums a4), Value.string (strOfNums a5)] [Value.string (strOfNums a1), Value.string (strOfNums a2), Value.int .i64 a3, Value.string (strOfNums a4), Value.string (strOfNums a5)] _ (HO10.out.heap (.tail _ (.head _))) (by rfl) _ Tryd.underlying25 rfl url_size (by rfl) ?_) | (refine wl_g (by rfl) ?_; refine wl_load rfl _ _ rfl g14 0 [Value.string (strOfNums b1'), Value.string (strOfNums b2'), Value.int .i64 b3', Value.string (strOfNums b4'), Value.string (strOfNums b5')] [Value.string (strOfNums b1'), Value.string (strOfNums b2'), Value.int .i64 b3', Value.string (strOfNums b4'), Value.string (strOfNums b5')] _ (HO10.out.heap (.head _)) (by rfl) _ Tryd.underlying25 rfl url_size (by rfl) ?_))
              with_reducible refine (Q3.out _ _ HO10.out).mono ?_
              rintro e w11 ⟨rfl, hO11⟩
              have HO11 := Lib.hid hO11; clear hO11 HO10
              go_wp2_with fail
              with_reducible refine (wakes7_c HVV.out HO11.out).mono ?_
              rintro e w90 ⟨rfl, hO90⟩
              have HO90 := Lib.hid hO90; clear hO90 HO11
              go_wp2
              go_ret
              exact HO90.out.yes rfl
      · go_wp2_with fail
        · have hp : ∀ (w' : World) (R' : Blks), Own W w' R' → _ := fun w' R' h => port_parse_https HVV.out h HSB.out (by omega) HK5.out
          by_cases h65 : 65535 < n
          · rw [if_pos h65] at hp
            have hI : (65535 : Int) < n := by omega
            have HP := Lib.hid hp; clear hp
            with_reducible refine (HP.out _ _ HO1.out).mono ?_
            rintro e w2 ⟨rfl, hO2⟩
            have HO2 := Lib.hid hO2; clear hO2 HO1
            simp only [Option.getD_none, Option.isSome_none, Option.getD_some, Option.isSome_some, UL.val, UL.zero]
            go_wp2_with (first | (refine wl_alloc rfl _ rfl HO2.out _ (alloc_url _) ?_; intro g7 w3 hO3; have HO3 := Lib.hid hO3; clear hO3 HO2) | (refine wl_store rfl _ _ _ rfl HO3.out 0 g7 0 _ [Value.string (⟨#[]⟩), Value.string (⟨#[]⟩), Value.int .i64 0, Value.string (⟨#[]⟩), Value.string (⟨#[]⟩)] _ rfl (by rfl) (by rfl) url_size (one_url UL.zero) (by simp [UL.val, UL.zero]) ?_; intro w4 hO4; have HO4 := Lib.hid (hO4.cast (L' := [(g7, .cells [Value.string (⟨#[]⟩), Value.string (⟨#[]⟩), Value.int .i64 0, Value.string (⟨#[]⟩), Value.string (⟨#[]⟩)].toArray 25)]) rfl); clear hO4 HO3) | (refine wl_g (by rfl) ?_; refine wl_load rfl _ _ rfl g7 0 [Value.string (⟨#[]⟩), Value.string (⟨#[]⟩), Value.int .i64 0, Value.string (⟨#[]⟩), Value.string (⟨#[]⟩)] [Value.string (⟨#[]⟩), Value.string (⟨#[]⟩), Value.int .i64 0, Value.string (⟨#[]⟩), Value.string (⟨#[]⟩)] _ (HO4.out.heap (.head _)) (by rfl) _ Tryd.underlying25 rfl url_size (by rfl) ?_))
            with_reducible refine (wakes7_c HVV.out HO4.out).mono ?_
            rintro e w90 ⟨rfl, hO90⟩
            have HO90 := Lib.hid hO90; clear hO90 HO4
            go_wp2
            go_ret
            exact HO90.out.yes rfl
          · rw [if_neg h65] at hp
            have hI : ¬ ((65535 : Int) < n) := by omega
            obtain ⟨v, hv⟩ : ∃ v : UL, v = ⟨httpsI, abI, 0, [47], []⟩ := ⟨_, rfl⟩
            have hb : ∀ (w' : World) (R' : Blks), Own W w' R' → _ := fun w' R' h => bare_parse_https HVV.out h
            rw [← hv] at hb
            have hfv : v.Fine := by rw [hv]; exact fine_0 (by decide)
            rcases (by omega : ((n : Int) = 443) ∨ (n = 0) ∨ (¬ ((n : Int) = 443) ∧ 0 < n)) with hc | hc | ⟨hc, hc0⟩
            · rw [if_pos hc] at hp
              have b1 : ((n : Int) == 443) = true := by simp; omega
              have b2 : ((n : Int) != 443) = false := by simp; omega
              obtain ⟨u, hu⟩ : ∃ u : UL, u = ⟨httpsI, abI, 0, [47, 120], []⟩ := ⟨_, rfl⟩
              rw [← hu] at hp
              have hfu : u.Fine := by rw [hu]; exact fine_x (by decide) (by omega) (by omega)
              have hT : strOfNums (originI u) = ⟨#[104, 116, 116, 112, 115]⟩ ++ ⟨#[58, 47, 47, 97, 46, 98]⟩ := by rw [hu]; exact orig_own_https _ _
              have hPT := printS_of hT (by rw [hu]) (by rw [hu])
              have hsm : decide (originI u = originI v) = true := by rw [hu, hv]; exact decide_eq_true rfl
              have q1 : ∀ (w' : World) (R' : Blks), Own W w' R' → _ := fun w' R' h => uprint_c HVV.out h u hfu
              have q2 : ∀ (w' : World) (R' : Blks), Own W w' R' → _ := fun w' R' h => uorigin_c HVV.out h u hfu.half
              have q3 : ∀ (w' : World) (R' : Blks), Own W w' R' → _ := fun w' R' h => usame_c HVV.out h u v hfu.half hfv.half
              rw [hPT] at q1; rw [hT] at q2; rw [hsm] at q3
              clear hT hPT hsm hu hv hfu hfv h65 hc
              obtain ⟨a1, a2, a3, a4, a5⟩ := u
              obtain ⟨b1', b2', b3', b4', b5'⟩ := v
              simp only [UL.val] at q1 q2 q3
              have Q1 := Lib.hid q1; have Q2 := Lib.hid q2; have Q3 := Lib.hid q3; have HP := Lib.hid hp; have HB := Lib.hid hb
              clear q1 q2 q3 hp hb
              with_reducible refine (HP.out _ _ HO1.out).mono ?_
              rintro e w2 ⟨rfl, hO2⟩
              have HO2 := Lib.hid hO2; clear hO2 HO1
              simp only [Option.getD_none, Option.isSome_none, Option.getD_some, Option.isSome_some, UL.val, UL.zero]
              go_wp2_with (first | (refine wl_alloc rfl _ rfl HO2.out _ (alloc_url _) ?_; intro g7 w3 hO3; have HO3 := Lib.hid hO3; clear hO3 HO2) | (refine wl_store rfl _ _ _ rfl HO3.out 0 g7 0 _ [Value.string (strOfNums a1), Value.string (strOfNums a2), Value.int .i64 a3, Value.string (strOfNums a4), Value.string (strOfNums a5)] _ rfl (by rfl) (by rfl) url_size (one_url ⟨a1, a2, a3, a4, a5⟩) (by simp [UL.val, UL.zero]) ?_; intro w4 hO4; have HO4 := Lib.hid (hO4.cast (L' := [(g7, .cells [Value.string (strOfNums a1), Value.string (strOfNums a2), Value.int .i64 a3, Value.string (strOfNums a4), Value.string (strOfNums a5)].toArray 25)]) rfl); clear hO4 HO3))
              with_reducible refine (HB.out _ _ HO4.out).mono ?_
              rintro e w6 ⟨rfl, hO6⟩
              have HO6 := Lib.hid hO6; clear hO6 HO4
              simp only [Option.getD_none, Option.isSome_none, Option.getD_some, Option.isSome_some, UL.val, UL.zero]
              go_wp2_with (first | (refine wl_alloc rfl _ rfl HO6.out _ (alloc_url _) ?_; intro g14 w7 hO7; have HO7 := Lib.hid hO7; clear hO7 HO6) | (refine wl_store rfl _ _ _ rfl HO7.out 0 g14 0 _ [Value.string (strOfNums b1'), Value.string (strOfNums b2'), Value.int .i64 b3', Value.string (strOfNums b4'), Value.string (strOfNums b5')] _ rfl (by rfl) (by rfl) url_size (one_url ⟨b1', b2', b3', b4', b5'⟩) (by simp [UL.val, UL.zero]) ?_; intro w8 hO8; have HO8 := Lib.hid (hO8.cast (L' := [(g14, .cells [Value.string (strOfNums b1'), Value.string (strOfNums b2'), Value.int .i64 b3', Value.string (strOfNums b4'), Value.string (strOfNums b5')].toArray 25), (g7, .cells [Value.string (strOfNums a1), Value.string (strOfNums a2), Value.int .i64 a3, Value.string (strOfNums a4), Value.string (strOfNums a5)].toArray 25)]) rfl); clear hO8 HO7) | (refine wl_g (by rfl) ?_; refine wl_load rfl _ _ rfl g7 0 [Value.string (strOfNums a1), Value.string (strOfNums a2), Value.int .i64 a3, Value.string (strOfNums a4), Value.string (strOfNums a5)] [Value.string (strOfNums a1), Value.string (strOfNums a2), Value.int .i64 a3, Value.string (strOfNums a4), Value.string (strOfNums a5)] _ (HO8.out.heap (.tail _ (.head _))) (by rfl) _ Tryd.underlying25 rfl url_size (by rfl) ?_))
              with_reducible refine (Q1.out _ _ HO8.out).mono ?_
              rintro e w9 ⟨rfl, hO9⟩
              have HO9 := Lib.hid hO9; clear hO9 HO8
              go_wp2_with (first | (refine wl_g (by rfl) ?_; refine wl_load rfl _ _ rfl g7 0 [Value.string (strOfNums a1), Value.string (strOfNums a2), Value.int .i64 a3, Value.string (strOfNums a4), Value.string (strOfNums a5)] [Value.string (strOfNums a1), Value.string (strOfNums a2), Value.int .i64 a3, Value.string (strOfNums a4), Value.string (strOfNums a5)] _ (HO9.out.heap (.tail _ (.head _))) (by rfl) _ Tryd.underlying25 rfl url_size (by rfl) ?_))
              with_reducible refine (Q2.out _ _ HO9.out).mono ?_
              rintro e w10 ⟨rfl, hO10⟩
              have HO10 := Lib.hid hO10; clear hO10 HO9
              go_wp2_with (first | (refine wl_g (by rfl) ?_; refine wl_load rfl _ _ rfl g7 0 [Value.string (strOfNums a1), Value.string (strOfNums a2), Value.int .i64 a3, Value.string (strOfNums a4), Value.string (strOfNums a5)] [Value.string (strOfNums a1), Value.string (strOfNums a2), Value.int .i64 a3, Value.string (strOfNums a4), Value.string (strOfNums a5)] _ (HO10.out.heap (.tail _ (.head _))) (by rfl) _ Tryd.underlying25 rfl url_size (by rfl) ?_) | (refine wl_g (by rfl) ?_; refine wl_load rfl _ _ rfl g14 0 [Value.string (strOfNums b1'), Value.string (strOfNums b2'), Value.int .i64 b3', Value.string (strOfNums b4'), Value.string (strOfNums b5')] [Value.string (strOfNums b1'), Value.string (strOfNums b2'), Value.int .i64 b3', Value.string (strOfNums b4'), Value.string (strOfNums b5')] _ (HO10.out.heap (.head _)) (by rfl) _ Tryd.underlying25 rfl url_size (by rfl) ?_))
              with_reducible refine (Q3.out _ _ HO10.out).mono ?_
              rintro e w11 ⟨rfl, hO11⟩
              have HO11 := Lib.hid hO11; clear hO11 HO10
              go_wp2_with fail
              with_reducible refine (wakes7_c HVV.out HO11.out).mono ?_
              rintro e w90 ⟨rfl, hO90⟩
              have HO90 := Lib.hid hO90; clear hO90 HO11
              go_wp2
              go_ret
              exact HO90.out.yes rfl
            · rw [if_neg (by omega)] at hp
              have b1 : ((n : Int) == 443) = false := by simp; omega
              have b2 : ((n : Int) != 443) = true := by simp; omega
              have b3 : ((n : Int) == 0) = true := by simp; omega
              have b4 : ((n : Int) != 0) = false := by simp; omega
              rw [show ((n : Nat) : Int) = 0 by omega] at hp
              obtain ⟨u, hu⟩ : ∃ u : UL, u = ⟨httpsI, abI, 0, [47, 120], []⟩ := ⟨_, rfl⟩
              rw [← hu] at hp
              have hfu : u.Fine := by rw [hu]; exact fine_x (by decide) (by omega) (by omega)
              have hT : strOfNums (originI u) = ⟨#[104, 116, 116, 112, 115]⟩ ++ ⟨#[58, 47, 47, 97, 46, 98]⟩ := by rw [hu]; exact orig_own_https _ _
              have hPT := printS_of hT (by rw [hu]) (by rw [hu])
              have hsm : decide (originI u = originI v) = true := by rw [hu, hv]; exact decide_eq_true rfl
              have q1 : ∀ (w' : World) (R' : Blks), Own W w' R' → _ := fun w' R' h => uprint_c HVV.out h u hfu
              have q2 : ∀ (w' : World) (R' : Blks), Own W w' R' → _ := fun w' R' h => uorigin_c HVV.out h u hfu.half
              have q3 : ∀ (w' : World) (R' : Blks), Own W w' R' → _ := fun w' R' h => usame_c HVV.out h u v hfu.half hfv.half
              rw [hPT] at q1; rw [hT] at q2; rw [hsm] at q3
              clear hT hPT hsm hu hv hfu hfv h65 hc
              obtain ⟨a1, a2, a3, a4, a5⟩ := u
              obtain ⟨b1', b2', b3', b4', b5'⟩ := v
              simp only [UL.val] at q1 q2 q3
              have Q1 := Lib.hid q1; have Q2 := Lib.hid q2; have Q3 := Lib.hid q3; have HP := Lib.hid hp; have HB := Lib.hid hb
              clear q1 q2 q3 hp hb
              with_reducible refine (HP.out _ _ HO1.out).mono ?_
              rintro e w2 ⟨rfl, hO2⟩
              have HO2 := Lib.hid hO2; clear hO2 HO1
              simp only [Option.getD_none, Option.isSome_none, Option.getD_some, Option.isSome_some, UL.val, UL.zero]
              go_wp2_with (first | (refine wl_alloc rfl _ rfl HO2.out _ (alloc_url _) ?_; intro g7 w3 hO3; have HO3 := Lib.hid hO3; clear hO3 HO2) | (refine wl_store rfl _ _ _ rfl HO3.out 0 g7 0 _ [Value.string (strOfNums a1), Value.string (strOfNums a2), Value.int .i64 a3, Value.string (strOfNums a4), Value.string (strOfNums a5)] _ rfl (by rfl) (by rfl) url_size (one_url ⟨a1, a2, a3, a4, a5⟩) (by simp [UL.val, UL.zero]) ?_; intro w4 hO4; have HO4 := Lib.hid (hO4.cast (L' := [(g7, .cells [Value.string (strOfNums a1), Value.string (strOfNums a2), Value.int .i64 a3, Value.string (strOfNums a4), Value.string (strOfNums a5)].toArray 25)]) rfl); clear hO4 HO3))
              with_reducible refine (HB.out _ _ HO4.out).mono ?_
              rintro e w6 ⟨rfl, hO6⟩
              have HO6 := Lib.hid hO6; clear hO6 HO4
              simp only [Option.getD_none, Option.isSome_none, Option.getD_some, Option.isSome_some, UL.val, UL.zero]
              go_wp2_with (first | (refine wl_alloc rfl _ rfl HO6.out _ (alloc_url _) ?_; intro g14 w7 hO7; have HO7 := Lib.hid hO7; clear hO7 HO6) | (refine wl_store rfl _ _ _ rfl HO7.out 0 g14 0 _ [Value.string (strOfNums b1'), Value.string (strOfNums b2'), Value.int .i64 b3', Value.string (strOfNums b4'), Value.string (strOfNums b5')] _ rfl (by rfl) (by rfl) url_size (one_url ⟨b1', b2', b3', b4', b5'⟩) (by simp [UL.val, UL.zero]) ?_; intro w8 hO8; have HO8 := Lib.hid (hO8.cast (L' := [(g14, .cells [Value.string (strOfNums b1'), Value.string (strOfNums b2'), Value.int .i64 b3', Value.string (strOfNums b4'), Value.string (strOfNums b5')].toArray 25), (g7, .cells [Value.string (strOfNums a1), Value.string (strOfNums a2), Value.int .i64 a3, Value.string (strOfNums a4), Value.string (strOfNums a5)].toArray 25)]) rfl); clear hO8 HO7) | (refine wl_g (by rfl) ?_; refine wl_load rfl _ _ rfl g7 0 [Value.string (strOfNums a1), Value.string (strOfNums a2), Value.int .i64 a3, Value.string (strOfNums a4), Value.string (strOfNums a5)] [Value.string (strOfNums a1), Value.string (strOfNums a2), Value.int .i64 a3, Value.string (strOfNums a4), Value.string (strOfNums a5)] _ (HO8.out.heap (.tail _ (.head _))) (by rfl) _ Tryd.underlying25 rfl url_size (by rfl) ?_))
              with_reducible refine (Q1.out _ _ HO8.out).mono ?_
              rintro e w9 ⟨rfl, hO9⟩
              have HO9 := Lib.hid hO9; clear hO9 HO8
              go_wp2_with (first | (refine wl_g (by rfl) ?_; refine wl_load rfl _ _ rfl g7 0 [Value.string (strOfNums a1), Value.string (strOfNums a2), Value.int .i64 a3, Value.string (strOfNums a4), Value.string (strOfNums a5)] [Value.string (strOfNums a1), Value.string (strOfNums a2), Value.int .i64 a3, Value.string (strOfNums a4), Value.string (strOfNums a5)] _ (HO9.out.heap (.tail _ (.head _))) (by rfl) _ Tryd.underlying25 rfl url_size (by rfl) ?_))
              with_reducible refine (Q2.out _ _ HO9.out).mono ?_
              rintro e w10 ⟨rfl, hO10⟩
              have HO10 := Lib.hid hO10; clear hO10 HO9
              go_wp2_with (first | (refine wl_g (by rfl) ?_; refine wl_load rfl _ _ rfl g7 0 [Value.string (strOfNums a1), Value.string (strOfNums a2), Value.int .i64 a3, Value.string (strOfNums a4), Value.string (strOfNums a5)] [Value.string (strOfNums a1), Value.string (strOfNums a2), Value.int .i64 a3, Value.string (strOfNums a4), Value.string (strOfNums a5)] _ (HO10.out.heap (.tail _ (.head _))) (by rfl) _ Tryd.underlying25 rfl url_size (by rfl) ?_) | (refine wl_g (by rfl) ?_; refine wl_load rfl _ _ rfl g14 0 [Value.string (strOfNums b1'), Value.string (strOfNums b2'), Value.int .i64 b3', Value.string (strOfNums b4'), Value.string (strOfNums b5')] [Value.string (strOfNums b1'), Value.string (strOfNums b2'), Value.int .i64 b3', Value.string (strOfNums b4'), Value.string (strOfNums b5')] _ (HO10.out.heap (.head _)) (by rfl) _ Tryd.underlying25 rfl url_size (by rfl) ?_))
              with_reducible refine (Q3.out _ _ HO10.out).mono ?_
              rintro e w11 ⟨rfl, hO11⟩
              have HO11 := Lib.hid hO11; clear hO11 HO10
              go_wp2_with fail
              with_reducible refine (wakes7_c HVV.out HO11.out).mono ?_
              rintro e w90 ⟨rfl, hO90⟩
              have HO90 := Lib.hid hO90; clear hO90 HO11
              go_wp2
              go_ret
              exact HO90.out.yes rfl
            · rw [if_neg hc] at hp
              have b1 : ((n : Int) == 443) = false := by simp; omega
              have b2 : ((n : Int) != 443) = true := by simp; omega
              have b3 : ((n : Int) == 0) = false := by simp; omega
              have b4 : ((n : Int) != 0) = true := by simp; omega
              obtain ⟨u, hu⟩ : ∃ u : UL, u = ⟨httpsI, abI, n, [47, 120], []⟩ := ⟨_, rfl⟩
              rw [← hu] at hp
              have hfu : u.Fine := by rw [hu]; exact fine_x (by decide) (by omega) (by omega)
              have hT : strOfNums (originI u) = ⟨#[104, 116, 116, 112, 115]⟩ ++ ⟨#[58, 47, 47, 97, 46, 98]⟩ ++ (⟨#[58]⟩ ++ strOfNums (digs n)) := by rw [hu]; exact orig_n_https hc0 _ _
              have hPT := printS_of hT (by rw [hu]) (by rw [hu])
              have hsm : decide (originI u = originI v) = false := by rw [hu, hv]; exact decide_eq_false (origin_more hc0 _ _ _ _)
              have q1 : ∀ (w' : World) (R' : Blks), Own W w' R' → _ := fun w' R' h => uprint_c HVV.out h u hfu
              have q2 : ∀ (w' : World) (R' : Blks), Own W w' R' → _ := fun w' R' h => uorigin_c HVV.out h u hfu.half
              have q3 : ∀ (w' : World) (R' : Blks), Own W w' R' → _ := fun w' R' h => usame_c HVV.out h u v hfu.half hfv.half
              rw [hPT] at q1; rw [hT] at q2; rw [hsm] at q3
              clear hT hPT hsm hu hv hfu hfv h65 hc
              obtain ⟨a1, a2, a3, a4, a5⟩ := u
              obtain ⟨b1', b2', b3', b4', b5'⟩ := v
              simp only [UL.val] at q1 q2 q3
              have Q1 := Lib.hid q1; have Q2 := Lib.hid q2; have Q3 := Lib.hid q3; have HP := Lib.hid hp; have HB := Lib.hid hb
              clear q1 q2 q3 hp hb
              with_reducible refine (HP.out _ _ HO1.out).mono ?_
              rintro e w2 ⟨rfl, hO2⟩
              have HO2 := Lib.hid hO2; clear hO2 HO1
              simp only [Option.getD_none, Option.isSome_none, Option.getD_some, Option.isSome_some, UL.val, UL.zero]
              go_wp2_with (first | (refine wl_alloc rfl _ rfl HO2.out _ (alloc_url _) ?_; intro g7 w3 hO3; have HO3 := Lib.hid hO3; clear hO3 HO2) | (refine wl_store rfl _ _ _ rfl HO3.out 0 g7 0 _ [Value.string (strOfNums a1), Value.string (strOfNums a2), Value.int .i64 a3, Value.string (strOfNums a4), Value.string (strOfNums a5)] _ rfl (by rfl) (by rfl) url_size (one_url ⟨a1, a2, a3, a4, a5⟩) (by simp [UL.val, UL.zero]) ?_; intro w4 hO4; have HO4 := Lib.hid (hO4.cast (L' := [(g7, .cells [Value.string (strOfNums a1), Value.string (strOfNums a2), Value.int .i64 a3, Value.string (strOfNums a4), Value.string (strOfNums a5)].toArray 25)]) rfl); clear hO4 HO3))
              with_reducible refine (digits_c n (by omega) _).mono ?_
              rintro e w5 ⟨rfl, m5, rfl⟩
              have HO5 := Lib.hid (HO4.out.drewN m5); clear HO4
              generalize hww : World.drewN _ m5 = ww at *
              clear hww
              obtain ⟨D, hD⟩ : ∃ D, strOfNums (digs n) = D := ⟨_, rfl⟩
              have hDl : D.size ≤ 21 := by rw [← hD, strOfNums_size]; omega
              rw [hD] at Q1 Q2
              rw [hD]
              clear hD
              go_wp2_with fail
              with_reducible refine (HB.out _ _ HO5.out).mono ?_
              rintro e w6 ⟨rfl, hO6⟩
              have HO6 := Lib.hid hO6; clear hO6 HO5
              simp only [Option.getD_none, Option.isSome_none, Option.getD_some, Option.isSome_some, UL.val, UL.zero]
              go_wp2_with (first | (refine wl_alloc rfl _ rfl HO6.out _ (alloc_url _) ?_; intro g14 w7 hO7; have HO7 := Lib.hid hO7; clear hO7 HO6) | (refine wl_store rfl _ _ _ rfl HO7.out 0 g14 0 _ [Value.string (strOfNums b1'), Value.string (strOfNums b2'), Value.int .i64 b3', Value.string (strOfNums b4'), Value.string (strOfNums b5')] _ rfl (by rfl) (by rfl) url_size (one_url ⟨b1', b2', b3', b4', b5'⟩) (by simp [UL.val, UL.zero]) ?_; intro w8 hO8; have HO8 := Lib.hid (hO8.cast (L' := [(g14, .cells [Value.string (strOfNums b1'), Value.string (strOfNums b2'), Value.int .i64 b3', Value.string (strOfNums b4'), Value.string (strOfNums b5')].toArray 25), (g7, .cells [Value.string (strOfNums a1), Value.string (strOfNums a2), Value.int .i64 a3, Value.string (strOfNums a4), Value.string (strOfNums a5)].toArray 25)]) rfl); clear hO8 HO7) | (refine wl_g (by rfl) ?_; refine wl_load rfl _ _ rfl g7 0 [Value.string (strOfNums a1), Value.string (strOfNums a2), Value.int .i64 a3, Value.string (strOfNums a4), Value.string (strOfNums a5)] [Value.string (strOfNums a1), Value.string (strOfNums a2), Value.int .i64 a3, Value.string (strOfNums a4), Value.string (strOfNums a5)] _ (HO8.out.heap (.tail _ (.head _))) (by rfl) _ Tryd.underlying25 rfl url_size (by rfl) ?_))
              with_reducible refine (Q1.out _ _ HO8.out).mono ?_
              rintro e w9 ⟨rfl, hO9⟩
              have HO9 := Lib.hid hO9; clear hO9 HO8
              go_wp2_with (first | (refine wl_g (by rfl) ?_; refine wl_load rfl _ _ rfl g7 0 [Value.string (strOfNums a1), Value.string (strOfNums a2), Value.int .i64 a3, Value.string (strOfNums a4), Value.string (strOfNums a5)] [Value.string (strOfNums a1), Value.string (strOfNums a2), Value.int .i64 a3, Value.string (strOfNums a4), Value.string (strOfNums a5)] _ (HO9.out.heap (.tail _ (.head _))) (by rfl) _ Tryd.underlying25 rfl url_size (by rfl) ?_))
              with_reducible refine (Q2.out _ _ HO9.out).mono ?_
              rintro e w10 ⟨rfl, hO10⟩
              have HO10 := Lib.hid hO10; clear hO10 HO9
              go_wp2_with (first | (refine wl_g (by rfl) ?_; refine wl_load rfl _ _ rfl g7 0 [Value.string (strOfNums a1), Value.string (strOfNums a2), Value.int .i64 a3, Value.string (strOfNums a4), Value.string (strOfNums a5)] [Value.string (strOfNums a1), Value.string (strOfNums a2), Value.int .i64 a3, Value.string (strOfNums a4), Value.string (strOfNums a5)] _ (HO10.out.heap (.tail _ (.head _))) (by rfl) _ Tryd.underlying25 rfl url_size (by rfl) ?_) | (refine wl_g (by rfl) ?_; refine wl_load rfl _ _ rfl g14 0 [Value.string (strOfNums b1'), Value.string (strOfNums b2'), Value.int .i64 b3', Value.string (strOfNums b4'), Value.string (strOfNums b5')] [Value.string (strOfNums b1'), Value.string (strOfNums b2'), Value.int .i64 b3', Value.string (strOfNums b4'), Value.string (strOfNums b5')] _ (HO10.out.heap (.head _)) (by rfl) _ Tryd.underlying25 rfl url_size (by rfl) ?_))
              with_reducible refine (Q3.out _ _ HO10.out).mono ?_
              rintro e w11 ⟨rfl, hO11⟩
              have HO11 := Lib.hid hO11; clear hO11 HO10
              go_wp2_with fail
              with_reducible refine (wakes7_c HVV.out HO11.out).mono ?_
              rintro e w90 ⟨rfl, hO90⟩
              have HO90 := Lib.hid hO90; clear hO90 HO11
              go_wp2
              go_ret
              exact HO90.out.yes rfl
        · have hp : ∀ (w' : World) (R' : Blks), Own W w' R' → _ := fun w' R' h => port_parse_http HVV.out h HSB.out (by omega) HK5.out
          by_cases h65 : 65535 < n
          · rw [if_pos h65] at hp
            have hI : (65535 : Int) < n := by omega
            have HP := Lib.hid hp; clear hp
            with_reducible refine (HP.out _ _ HO1.out).mono ?_
            rintro e w2 ⟨rfl, hO2⟩
            have HO2 := Lib.hid hO2; clear hO2 HO1
            simp only [Option.getD_none, Option.isSome_none, Option.getD_some, Option.isSome_some, UL.val, UL.zero]
            go_wp2_with (first | (refine wl_alloc rfl _ rfl HO2.out _ (alloc_url _) ?_; intro g7 w3 hO3; have HO3 := Lib.hid hO3; clear hO3 HO2) | (refine wl_store rfl _ _ _ rfl HO3.out 0 g7 0 _ [Value.string (⟨#[]⟩), Value.string (⟨#[]⟩), Value.int .i64 0, Value.string (⟨#[]⟩), Value.string (⟨#[]⟩)] _ rfl (by rfl) (by rfl) url_size (one_url UL.zero) (by simp [UL.val, UL.zero]) ?_; intro w4 hO4; have HO4 := Lib.hid (hO4.cast (L' := [(g7, .cells [Value.string (⟨#[]⟩), Value.string (⟨#[]⟩), Value.int .i64 0, Value.string (⟨#[]⟩), Value.string (⟨#[]⟩)].toArray 25)]) rfl); clear hO4 HO3) | (refine wl_g (by rfl) ?_; refine wl_load rfl _ _ rfl g7 0 [Value.string (⟨#[]⟩), Value.string (⟨#[]⟩), Value.int .i64 0, Value.string (⟨#[]⟩), Value.string (⟨#[]⟩)] [Value.string (⟨#[]⟩), Value.string (⟨#[]⟩), Value.int .i64 0, Value.string (⟨#[]⟩), Value.string (⟨#[]⟩)] _ (HO4.out.heap (.head _)) (by rfl) _ Tryd.underlying25 rfl url_size (by rfl) ?_))
            with_reducible refine (wakes7_c HVV.out HO4.out).mono ?_
            rintro e w90 ⟨rfl, hO90⟩
            have HO90 := Lib.hid hO90; clear hO90 HO4
            go_wp2
            go_ret
            exact HO90.out.yes rfl
          · rw [if_neg h65] at hp
            have hI : ¬ ((65535 : Int) < n) := by omega
            obtain ⟨v, hv⟩ : ∃ v : UL, v = ⟨httpI, abI, 0, [47], []⟩ := ⟨_, rfl⟩
            have hb : ∀ (w' : World) (R' : Blks), Own W w' R' → _ := fun w' R' h => bare_parse_http HVV.out h
            rw [← hv] at hb
            have hfv : v.Fine := by rw [hv]; exact fine_0 (by decide)
            rcases (by omega : ((n : Int) = 80) ∨ (n = 0) ∨ (¬ ((n : Int) = 80) ∧ 0 < n)) with hc | hc | ⟨hc, hc0⟩
            · rw [if_pos hc] at hp
              have b1 : ((n : Int) == 80) = true := by simp; omega
              have b2 : ((n : Int) != 80) = false := by simp; omega
              obtain ⟨u, hu⟩ : ∃ u : UL, u = ⟨httpI, abI, 0, [47, 120], []⟩ := ⟨_, rfl⟩
              rw [← hu] at hp
              have hfu : u.Fine := by rw [hu]; exact fine_x (by decide) (by omega) (by omega)
              have hT : strOfNums (originI u) = ⟨#[104, 116, 116, 112]⟩ ++ ⟨#[58, 47, 47, 97, 46, 98]⟩ := by rw [hu]; exact orig_own_http _ _
              have hPT := printS_of hT (by rw [hu]) (by rw [hu])
              have hsm : decide (originI u = originI v) = true := by rw [hu, hv]; exact decide_eq_true rfl
              have q1 : ∀ (w' : World) (R' : Blks), Own W w' R' → _ := fun w' R' h => uprint_c HVV.out h u hfu
              have q2 : ∀ (w' : World) (R' : Blks), Own W w' R' → _ := fun w' R' h => uorigin_c HVV.out h u hfu.half
              have q3 : ∀ (w' : World) (R' : Blks), Own W w' R' → _ := fun w' R' h => usame_c HVV.out h u v hfu.half hfv.half
              rw [hPT] at q1; rw [hT] at q2; rw [hsm] at q3
              clear hT hPT hsm hu hv hfu hfv h65 hc
              obtain ⟨a1, a2, a3, a4, a5⟩ := u
              obtain ⟨b1', b2', b3', b4', b5'⟩ := v
              simp only [UL.val] at q1 q2 q3
              have Q1 := Lib.hid q1; have Q2 := Lib.hid q2; have Q3 := Lib.hid q3; have HP := Lib.hid hp; have HB := Lib.hid hb
              clear q1 q2 q3 hp hb
              with_reducible refine (HP.out _ _ HO1.out).mono ?_
              rintro e w2 ⟨rfl, hO2⟩
              have HO2 := Lib.hid hO2; clear hO2 HO1
              simp only [Option.getD_none, Option.isSome_none, Option.getD_some, Option.isSome_some, UL.val, UL.zero]
              go_wp2_with (first | (refine wl_alloc rfl _ rfl HO2.out _ (alloc_url _) ?_; intro g7 w3 hO3; have HO3 := Lib.hid hO3; clear hO3 HO2) | (refine wl_store rfl _ _ _ rfl HO3.out 0 g7 0 _ [Value.string (strOfNums a1), Value.string (strOfNums a2), Value.int .i64 a3, Value.string (strOfNums a4), Value.string (strOfNums a5)] _ rfl (by rfl) (by rfl) url_size (one_url ⟨a1, a2, a3, a4, a5⟩) (by simp [UL.val, UL.zero]) ?_; intro w4 hO4; have HO4 := Lib.hid (hO4.cast (L' := [(g7, .cells [Value.string (strOfNums a1), Value.string (strOfNums a2), Value.int .i64 a3, Value.string (strOfNums a4), Value.string (strOfNums a5)].toArray 25)]) rfl); clear hO4 HO3))
              with_reducible refine (HB.out _ _ HO4.out).mono ?_
              rintro e w6 ⟨rfl, hO6⟩
              have HO6 := Lib.hid hO6; clear hO6 HO4
              simp only [Option.getD_none, Option.isSome_none, Option.getD_some, Option.isSome_some, UL.val, UL.zero]
              go_wp2_with (first | (refine wl_alloc rfl _ rfl HO6.out _ (alloc_url _) ?_; intro g14 w7 hO7; have HO7 := Lib.hid hO7; clear hO7 HO6) | (refine wl_store rfl _ _ _ rfl HO7.out 0 g14 0 _ [Value.string (strOfNums b1'), Value.string (strOfNums b2'), Value.int .i64 b3', Value.string (strOfNums b4'), Value.string (strOfNums b5')] _ rfl (by rfl) (by rfl) url_size (one_url ⟨b1', b2', b3', b4', b5'⟩) (by simp [UL.val, UL.zero]) ?_; intro w8 hO8; have HO8 := Lib.hid (hO8.cast (L' := [(g14, .cells [Value.string (strOfNums b1'), Value.string (strOfNums b2'), Value.int .i64 b3', Value.string (strOfNums b4'), Value.string (strOfNums b5')].toArray 25), (g7, .cells [Value.string (strOfNums a1), Value.string (strOfNums a2), Value.int .i64 a3, Value.string (strOfNums a4), Value.string (strOfNums a5)].toArray 25)]) rfl); clear hO8 HO7) | (refine wl_g (by rfl) ?_; refine wl_load rfl _ _ rfl g7 0 [Value.string (strOfNums a1), Value.string (strOfNums a2), Value.int .i64 a3, Value.string (strOfNums a4), Value.string (strOfNums a5)] [Value.string (strOfNums a1), Value.string (strOfNums a2), Value.int .i64 a3, Value.string (strOfNums a4), Value.string (strOfNums a5)] _ (HO8.out.heap (.tail _ (.head _))) (by rfl) _ Tryd.underlying25 rfl url_size (by rfl) ?_))
              with_reducible refine (Q1.out _ _ HO8.out).mono ?_
              rintro e w9 ⟨rfl, hO9⟩
              have HO9 := Lib.hid hO9; clear hO9 HO8
              go_wp2_with (first | (refine wl_g (by rfl) ?_; refine wl_load rfl _ _ rfl g7 0 [Value.string (strOfNums a1), Value.string (strOfNums a2), Value.int .i64 a3, Value.string (strOfNums a4), Value.string (strOfNums a5)] [Value.string (strOfNums a1), Value.string (strOfNums a2), Value.int .i64 a3, Value.string (strOfNums a4), Value.string (strOfNums a5)] _ (HO9.out.heap (.tail _ (.head _))) (by rfl) _ Tryd.underlying25 rfl url_size (by rfl) ?_))
              with_reducible refine (Q2.out _ _ HO9.out).mono ?_
              rintro e w10 ⟨rfl, hO10⟩
              have HO10 := Lib.hid hO10; clear hO10 HO9
              go_wp2_with (first | (refine wl_g (by rfl) ?_; refine wl_load rfl _ _ rfl g7 0 [Value.string (strOfNums a1), Value.string (strOfNums a2), Value.int .i64 a3, Value.string (strOfNums a4), Value.string (strOfNums a5)] [Value.string (strOfNums a1), Value.string (strOfNums a2), Value.int .i64 a3, Value.string (strOfNums a4), Value.string (strOfNums a5)] _ (HO10.out.heap (.tail _ (.head _))) (by rfl) _ Tryd.underlying25 rfl url_size (by rfl) ?_) | (refine wl_g (by rfl) ?_; refine wl_load rfl _ _ rfl g14 0 [Value.string (strOfNums b1'), Value.string (strOfNums b2'), Value.int .i64 b3', Value.string (strOfNums b4'), Value.string (strOfNums b5')] [Value.string (strOfNums b1'), Value.string (strOfNums b2'), Value.int .i64 b3', Value.string (strOfNums b4'), Value.string (strOfNums b5')] _ (HO10.out.heap (.head _)) (by rfl) _ Tryd.underlying25 rfl url_size (by rfl) ?_))
              with_reducible refine (Q3.out _ _ HO10.out).mono ?_
              rintro e w11 ⟨rfl, hO11⟩
              have HO11 := Lib.hid hO11; clear hO11 HO10
              go_wp2_with fail
              with_reducible refine (wakes7_c HVV.out HO11.out).mono ?_
              rintro e w90 ⟨rfl, hO90⟩
              have HO90 := Lib.hid hO90; clear hO90 HO11
              go_wp2
              go_ret
              exact HO90.out.yes rfl
            · rw [if_neg (by omega)] at hp
              have b1 : ((n : Int) == 80) = false := by simp; omega
              have b2 : ((n : Int) != 80) = true := by simp; omega
              have b3 : ((n : Int) == 0) = true := by simp; omega
              have b4 : ((n : Int) != 0) = false := by simp; omega
              rw [show ((n : Nat) : Int) = 0 by omega] at hp
              obtain ⟨u, hu⟩ : ∃ u : UL, u = ⟨httpI, abI, 0, [47, 120], []⟩ := ⟨_, rfl⟩
              rw [← hu] at hp
              have hfu : u.Fine := by rw [hu]; exact fine_x (by decide) (by omega) (by omega)
              have hT : strOfNums (originI u) = ⟨#[104, 116, 116, 112]⟩ ++ ⟨#[58, 47, 47, 97, 46, 98]⟩ := by rw [hu]; exact orig_own_http _ _
              have hPT := printS_of hT (by rw [hu]) (by rw [hu])
              have hsm : decide (originI u = originI v) = true := by rw [hu, hv]; exact decide_eq_true rfl
              have q1 : ∀ (w' : World) (R' : Blks), Own W w' R' → _ := fun w' R' h => uprint_c HVV.out h u hfu
              have q2 : ∀ (w' : World) (R' : Blks), Own W w' R' → _ := fun w' R' h => uorigin_c HVV.out h u hfu.half
              have q3 : ∀ (w' : World) (R' : Blks), Own W w' R' → _ := fun w' R' h => usame_c HVV.out h u v hfu.half hfv.half
              rw [hPT] at q1; rw [hT] at q2; rw [hsm] at q3
              clear hT hPT hsm hu hv hfu hfv h65 hc
              obtain ⟨a1, a2, a3, a4, a5⟩ := u
              obtain ⟨b1', b2', b3', b4', b5'⟩ := v
              simp only [UL.val] at q1 q2 q3
              have Q1 := Lib.hid q1; have Q2 := Lib.hid q2; have Q3 := Lib.hid q3; have HP := Lib.hid hp; have HB := Lib.hid hb
              clear q1 q2 q3 hp hb
              with_reducible refine (HP.out _ _ HO1.out).mono ?_
              rintro e w2 ⟨rfl, hO2⟩
              have HO2 := Lib.hid hO2; clear hO2 HO1
              simp only [Option.getD_none, Option.isSome_none, Option.getD_some, Option.isSome_some, UL.val, UL.zero]
              go_wp2_with (first | (refine wl_alloc rfl _ rfl HO2.out _ (alloc_url _) ?_; intro g7 w3 hO3; have HO3 := Lib.hid hO3; clear hO3 HO2) | (refine wl_store rfl _ _ _ rfl HO3.out 0 g7 0 _ [Value.string (strOfNums a1), Value.string (strOfNums a2), Value.int .i64 a3, Value.string (strOfNums a4), Value.string (strOfNums a5)] _ rfl (by rfl) (by rfl) url_size (one_url ⟨a1, a2, a3, a4, a5⟩) (by simp [UL.val, UL.zero]) ?_; intro w4 hO4; have HO4 := Lib.hid (hO4.cast (L' := [(g7, .cells [Value.string (strOfNums a1), Value.string (strOfNums a2), Value.int .i64 a3, Value.string (strOfNums a4), Value.string (strOfNums a5)].toArray 25)]) rfl); clear hO4 HO3))
              with_reducible refine (HB.out _ _ HO4.out).mono ?_
              rintro e w6 ⟨rfl, hO6⟩
              have HO6 := Lib.hid hO6; clear hO6 HO4
              simp only [Option.getD_none, Option.isSome_none, Option.getD_some, Option.isSome_some, UL.val, UL.zero]
              go_wp2_with (first | (refine wl_alloc rfl _ rfl HO6.out _ (alloc_url _) ?_; intro g14 w7 hO7; have HO7 := Lib.hid hO7; clear hO7 HO6) | (refine wl_store rfl _ _ _ rfl HO7.out 0 g14 0 _ [Value.string (strOfNums b1'), Value.string (strOfNums b2'), Value.int .i64 b3', Value.string (strOfNums b4'), Value.string (strOfNums b5')] _ rfl (by rfl) (by rfl) url_size (one_url ⟨b1', b2', b3', b4', b5'⟩) (by simp [UL.val, UL.zero]) ?_; intro w8 hO8; have HO8 := Lib.hid (hO8.cast (L' := [(g14, .cells [Value.string (strOfNums b1'), Value.string (strOfNums b2'), Value.int .i64 b3', Value.string (strOfNums b4'), Value.string (strOfNums b5')].toArray 25), (g7, .cells [Value.string (strOfNums a1), Value.string (strOfNums a2), Value.int .i64 a3, Value.string (strOfNums a4), Value.string (strOfNums a5)].toArray 25)]) rfl); clear hO8 HO7) | (refine wl_g (by rfl) ?_; refine wl_load rfl _ _ rfl g7 0 [Value.string (strOfNums a1), Value.string (strOfNums a2), Value.int .i64 a3, Value.string (strOfNums a4), Value.string (strOfNums a5)] [Value.string (strOfNums a1), Value.string (strOfNums a2), Value.int .i64 a3, Value.string (strOfNums a4), Value.string (strOfNums a5)] _ (HO8.out.heap (.tail _ (.head _))) (by rfl) _ Tryd.underlying25 rfl url_size (by rfl) ?_))
              with_reducible refine (Q1.out _ _ HO8.out).mono ?_
              rintro e w9 ⟨rfl, hO9⟩
              have HO9 := Lib.hid hO9; clear hO9 HO8
              go_wp2_with (first | (refine wl_g (by rfl) ?_; refine wl_load rfl _ _ rfl g7 0 [Value.string (strOfNums a1), Value.string (strOfNums a2), Value.int .i64 a3, Value.string (strOfNums a4), Value.string (strOfNums a5)] [Value.string (strOfNums a1), Value.string (strOfNums a2), Value.int .i64 a3, Value.string (strOfNums a4), Value.string (strOfNums a5)] _ (HO9.out.heap (.tail _ (.head _))) (by rfl) _ Tryd.underlying25 rfl url_size (by rfl) ?_))
              with_reducible refine (Q2.out _ _ HO9.out).mono ?_
              rintro e w10 ⟨rfl, hO10⟩
              have HO10 := Lib.hid hO10; clear hO10 HO9
              go_wp2_with (first | (refine wl_g (by rfl) ?_; refine wl_load rfl _ _ rfl g7 0 [Value.string (strOfNums a1), Value.string (strOfNums a2), Value.int .i64 a3, Value.string (strOfNums a4), Value.string (strOfNums a5)] [Value.string (strOfNums a1), Value.string (strOfNums a2), Value.int .i64 a3, Value.string (strOfNums a4), Value.string (strOfNums a5)] _ (HO10.out.heap (.tail _ (.head _))) (by rfl) _ Tryd.underlying25 rfl url_size (by rfl) ?_) | (refine wl_g (by rfl) ?_; refine wl_load rfl _ _ rfl g14 0 [Value.string (strOfNums b1'), Value.string (strOfNums b2'), Value.int .i64 b3', Value.string (strOfNums b4'), Value.string (strOfNums b5')] [Value.string (strOfNums b1'), Value.string (strOfNums b2'), Value.int .i64 b3', Value.string (strOfNums b4'), Value.string (strOfNums b5')] _ (HO10.out.heap (.head _)) (by rfl) _ Tryd.underlying25 rfl url_size (by rfl) ?_))
              with_reducible refine (Q3.out _ _ HO10.out).mono ?_
              rintro e w11 ⟨rfl, hO11⟩
              have HO11 := Lib.hid hO11; clear hO11 HO10
              go_wp2_with fail
              with_reducible refine (wakes7_c HVV.out HO11.out).mono ?_
              rintro e w90 ⟨rfl, hO90⟩
              have HO90 := Lib.hid hO90; clear hO90 HO11
              go_wp2
              go_ret
              exact HO90.out.yes rfl
            · rw [if_neg hc] at hp
              have b1 : ((n : Int) == 80) = false := by simp; omega
              have b2 : ((n : Int) != 80) = true := by simp; omega
              have b3 : ((n : Int) == 0) = false := by simp; omega
              have b4 : ((n : Int) != 0) = true := by simp; omega
              obtain ⟨u, hu⟩ : ∃ u : UL, u = ⟨httpI, abI, n, [47, 120], []⟩ := ⟨_, rfl⟩
              rw [← hu] at hp
              have hfu : u.Fine := by rw [hu]; exact fine_x (by decide) (by omega) (by omega)
              have hT : strOfNums (originI u) = ⟨#[104, 116, 116, 112]⟩ ++ ⟨#[58, 47, 47, 97, 46, 98]⟩ ++ (⟨#[58]⟩ ++ strOfNums (digs n)) := by rw [hu]; exact orig_n_http hc0 _ _
              have hPT := printS_of hT (by rw [hu]) (by rw [hu])
              have hsm : decide (originI u = originI v) = false := by rw [hu, hv]; exact decide_eq_false (origin_more hc0 _ _ _ _)
              have q1 : ∀ (w' : World) (R' : Blks), Own W w' R' → _ := fun w' R' h => uprint_c HVV.out h u hfu
              have q2 : ∀ (w' : World) (R' : Blks), Own W w' R' → _ := fun w' R' h => uorigin_c HVV.out h u hfu.half
              have q3 : ∀ (w' : World) (R' : Blks), Own W w' R' → _ := fun w' R' h => usame_c HVV.out h u v hfu.half hfv.half
              rw [hPT] at q1; rw [hT] at q2; rw [hsm] at q3
              clear hT hPT hsm hu hv hfu hfv h65 hc
              obtain ⟨a1, a2, a3, a4, a5⟩ := u
              obtain ⟨b1', b2', b3', b4', b5'⟩ := v
              simp only [UL.val] at q1 q2 q3
              have Q1 := Lib.hid q1; have Q2 := Lib.hid q2; have Q3 := Lib.hid q3; have HP := Lib.hid hp; have HB := Lib.hid hb
              clear q1 q2 q3 hp hb
              with_reducible refine (HP.out _ _ HO1.out).mono ?_
              rintro e w2 ⟨rfl, hO2⟩
              have HO2 := Lib.hid hO2; clear hO2 HO1
              simp only [Option.getD_none, Option.isSome_none, Option.getD_some, Option.isSome_some, UL.val, UL.zero]
              go_wp2_with (first | (refine wl_alloc rfl _ rfl HO2.out _ (alloc_url _) ?_; intro g7 w3 hO3; have HO3 := Lib.hid hO3; clear hO3 HO2) | (refine wl_store rfl _ _ _ rfl HO3.out 0 g7 0 _ [Value.string (strOfNums a1), Value.string (strOfNums a2), Value.int .i64 a3, Value.string (strOfNums a4), Value.string (strOfNums a5)] _ rfl (by rfl) (by rfl) url_size (one_url ⟨a1, a2, a3, a4, a5⟩) (by simp [UL.val, UL.zero]) ?_; intro w4 hO4; have HO4 := Lib.hid (hO4.cast (L' := [(g7, .cells [Value.string (strOfNums a1), Value.string (strOfNums a2), Value.int .i64 a3, Value.string (strOfNums a4), Value.string (strOfNums a5)].toArray 25)]) rfl); clear hO4 HO3))
              with_reducible refine (digits_c n (by omega) _).mono ?_
              rintro e w5 ⟨rfl, m5, rfl⟩
              have HO5 := Lib.hid (HO4.out.drewN m5); clear HO4
              generalize hww : World.drewN _ m5 = ww at *
              clear hww
              obtain ⟨D, hD⟩ : ∃ D, strOfNums (digs n) = D := ⟨_, rfl⟩
              have hDl : D.size ≤ 21 := by rw [← hD, strOfNums_size]; omega
              rw [hD] at Q1 Q2
              rw [hD]
              clear hD
              go_wp2_with fail
              with_reducible refine (HB.out _ _ HO5.out).mono ?_
              rintro e w6 ⟨rfl, hO6⟩
              have HO6 := Lib.hid hO6; clear hO6 HO5
              simp only [Option.getD_none, Option.isSome_none, Option.getD_some, Option.isSome_some, UL.val, UL.zero]
              go_wp2_with (first | (refine wl_alloc rfl _ rfl HO6.out _ (alloc_url _) ?_; intro g14 w7 hO7; have HO7 := Lib.hid hO7; clear hO7 HO6) | (refine wl_store rfl _ _ _ rfl HO7.out 0 g14 0 _ [Value.string (strOfNums b1'), Value.string (strOfNums b2'), Value.int .i64 b3', Value.string (strOfNums b4'), Value.string (strOfNums b5')] _ rfl (by rfl) (by rfl) url_size (one_url ⟨b1', b2', b3', b4', b5'⟩) (by simp [UL.val, UL.zero]) ?_; intro w8 hO8; have HO8 := Lib.hid (hO8.cast (L' := [(g14, .cells [Value.string (strOfNums b1'), Value.string (strOfNums b2'), Value.int .i64 b3', Value.string (strOfNums b4'), Value.string (strOfNums b5')].toArray 25), (g7, .cells [Value.string (strOfNums a1), Value.string (strOfNums a2), Value.int .i64 a3, Value.string (strOfNums a4), Value.string (strOfNums a5)].toArray 25)]) rfl); clear hO8 HO7) | (refine wl_g (by rfl) ?_; refine wl_load rfl _ _ rfl g7 0 [Value.string (strOfNums a1), Value.string (strOfNums a2), Value.int .i64 a3, Value.string (strOfNums a4), Value.string (strOfNums a5)] [Value.string (strOfNums a1), Value.string (strOfNums a2), Value.int .i64 a3, Value.string (strOfNums a4), Value.string (strOfNums a5)] _ (HO8.out.heap (.tail _ (.head _))) (by rfl) _ Tryd.underlying25 rfl url_size (by rfl) ?_))
              with_reducible refine (Q1.out _ _ HO8.out).mono ?_
              rintro e w9 ⟨rfl, hO9⟩
              have HO9 := Lib.hid hO9; clear hO9 HO8
              go_wp2_with (first | (refine wl_g (by rfl) ?_; refine wl_load rfl _ _ rfl g7 0 [Value.string (strOfNums a1), Value.string (strOfNums a2), Value.int .i64 a3, Value.string (strOfNums a4), Value.string (strOfNums a5)] [Value.string (strOfNums a1), Value.string (strOfNums a2), Value.int .i64 a3, Value.string (strOfNums a4), Value.string (strOfNums a5)] _ (HO9.out.heap (.tail _ (.head _))) (by rfl) _ Tryd.underlying25 rfl url_size (by rfl) ?_))
              with_reducible refine (Q2.out _ _ HO9.out).mono ?_
              rintro e w10 ⟨rfl, hO10⟩
              have HO10 := Lib.hid hO10; clear hO10 HO9
              go_wp2_with (first | (refine wl_g (by rfl) ?_; refine wl_load rfl _ _ rfl g7 0 [Value.string (strOfNums a1), Value.string (strOfNums a2), Value.int .i64 a3, Value.string (strOfNums a4), Value.string (strOfNums a5)] [Value.string (strOfNums a1), Value.string (strOfNums a2), Value.int .i64 a3, Value.string (strOfNums a4), Value.string (strOfNums a5)] _ (HO10.out.heap (.tail _ (.head _))) (by rfl) _ Tryd.underlying25 rfl url_size (by rfl) ?_) | (refine wl_g (by rfl) ?_; refine wl_load rfl _ _ rfl g14 0 [Value.string (strOfNums b1'), Value.string (strOfNums b2'), Value.int .i64 b3', Value.string (strOfNums b4'), Value.string (strOfNums b5')] [Value.string (strOfNums b1'), Value.string (strOfNums b2'), Value.int .i64 b3', Value.string (strOfNums b4'), Value.string (strOfNums b5')] _ (HO10.out.heap (.head _)) (by rfl) _ Tryd.underlying25 rfl url_size (by rfl) ?_))
              with_reducible refine (Q3.out _ _ HO10.out).mono ?_
              rintro e w11 ⟨rfl, hO11⟩
              have HO11 := Lib.hid hO11; clear hO11 HO10
              go_wp2_with fail
              with_reducible refine (wakes7_c HVV.out HO11.out).mono ?_
              rintro e w90 ⟨rfl, hO90⟩
              have HO90 := Lib.hid hO90; clear hO90 HO11
              go_wp2
              go_ret
              exact HO90.out.yes rfl
set_option maxRecDepth 100000 in
theorem uRLPorts_contract (H : Type) (enc : TypeId × Value → H) (W : World) (base : Nat) (args : Array Value) (ds gs : List (DataW H)) (before : List MemPlace)
    (hval : ∀ (j : Nat) t v, Tryd.f7.params[j]? = some t → args[j]? = some v → Value.okWide Tryd.prog W .any base t v)
    (hW : DataW.Whole enc Tryd.prog Tryd.f7.params.toList Rows.uRLPortsSpec.vars false W args.toList ds gs before) (hV0 : VarsOk W) :
    Calls Tryd.prog 7 args W fun e W' => ∃ v, e = .returned v ∧ Rows.uRLPortsSpec.post enc Tryd.prog Tryd.f7 false true false false W args v W' := by
  have hW' := hW
  obtain ⟨p, q, hA0, hV, rfl, hfz, hnd⟩ := hW
  have hA : DataW.TrodAll enc Tryd.prog W 0 (fun _ => true) true Tryd.f7.params.toList args.toList ds p := hA0
  rw [Tryd.params7] at hA hval
  obtain ⟨v0, vs0, d0, ds0, p0, q0, hargs, rfl, rfl, h0, r0⟩ := trodAll_cons hA
  obtain ⟨v1, vs1, d1, ds1, p1, q1, rfl, rfl, rfl, h1, r1⟩ := trodAll_cons r0
  obtain ⟨v2, vs2, d2, ds2, p2, q2, rfl, rfl, rfl, h2, r2⟩ := trodAll_cons r1
  obtain ⟨rfl, rfl, rfl⟩ := trodAll_nil r2
  obtain rfl : args = #[v0, v1, v2] := by cases args; simp_all
  obtain ⟨rfl, rfl⟩ := trodVars_none hV
  obtain ⟨a0, rfl, rfl, rfl, w0⟩ := open_int Tryd.underlying3 (hval 0 3 v0 rfl rfl) h0
  obtain ⟨a1, rfl, rfl, rfl⟩ := open_bool Tryd.underlying4 (hval 1 4 v1 rfl rfl) h1
  obtain ⟨a2, rfl, rfl, rfl, w2⟩ := open_int Tryd.underlying3 (hval 2 3 v2 rfl rfl) h2
  clear hA0
  refine (uRLPorts_walk hV0 a0 w0 a1 a2 w2).mono fun e W' ⟨he, bel⟩ => ?_
  subst he
  exact ⟨_, rfl, _, _, _, [], _, [], hW', trodAll_mk1 (shut_bool Tryd.underlying4 _), (trodAll_cons_mk (shut_int Tryd.underlying3 w0) (trodAll_cons_mk (shut_bool Tryd.underlying4 a1) (trodAll_cons_mk (shut_int Tryd.underlying3 w2) trodAll_mk0))), rfl, bel.frame _, fun h => by cases h⟩

theorem uRLPorts_met (os : Os) : laidMet Tryd.prog Rows.uRLPortsRow.laid ((laidWorld os).forCall (fun _ _ => 0) ⟨#[], #[.int .i64 0, .bool false, .int .i64 0], []⟩).memory :=
  laidMet_of_run' 8 (by kernel_rfl) (by kernel_rfl)
theorem uRLPorts_reads (os : Os) {H : Type} (enc : TypeId × Value → H) : ∃ places, DataW.whole enc Tryd.prog ((laidWorld os).forCall (fun _ _ => 0) ⟨#[], #[.int .i64 0, .bool false, .int .i64 0], []⟩).memory Tryd.f7.params.toList Rows.uRLPortsSpec.vars false (#[.int .i64 0, .bool false, .int .i64 0] : Array Value).toList 8 = some ([.lit (.int .i64 0), .lit (.bool false), .lit (.int .i64 0)], [], places) :=
  ⟨[], by kernel_rfl⟩
set_option maxRecDepth 100000 in
theorem uRLPorts_lifted (os : Os) (started : os.Started) (H : Type) (enc : TypeId × Value → H) (F : Stop.Interp) :
    ReturnsInHanded {} Tryd.checked os 7 .any ((OpenSpec.ofChange Rows.uRLPortsSpec).preRow enc Tryd.prog Tryd.f7 Rows.uRLPortsRow.domain false Rows.uRLPortsRow.laid) (((OpenSpec.ofChange Rows.uRLPortsSpec).at F).post enc Tryd.prog Tryd.f7 false true false false) := by
  obtain ⟨places, hx⟩ := uRLPorts_reads os enc
  refine returnsInHanded_of_row (C := Tryd.checked) (s := OpenSpec.ofChange Rows.uRLPortsSpec) own_none started (by kernel_rfl) Tryd.func7
    (witness_row_at (enc := enc) (C := Tryd.checked) false (laidWorld os) #[.int .i64 0, .bool false, .int .i64 0] rfl (by kernel_rfl) (by kernel_rfl) (by kernel_rfl)
      (OpenSpec.preRow_of_cond 8 hx (by kernel_rfl) (fun k hk => by cases hk) (by kernel_rfl) (uRLPorts_met os))) ?_
  intro W base args ds gs before hval hW _ _ _ hL hsh _
  exact uRLPorts_contract H enc W base args ds gs before hval hW (vars_of hL hsh)
theorem uRLPorts_said : Rows.URLPortsSaid :=
  OpenClaim.holds_of_cond 7 Tryd.f7 rfl rfl rfl rfl rfl rfl rfl ⟨rfl, rfl, rfl, rfl, rfl⟩ rfl rfl rfl rfl rfl (by kernel_rfl) Tryd.func7 (by kernel_rfl)
    (of_decide_eq_true (by kernel_rfl)) (by unfold Func.isWrapper; first | (rw [if_pos (by decide +kernel)]; kernel_rfl) | (rw [if_neg (by decide +kernel)]; exact ⟨rfl, rfl⟩))
    (fun os started H enc _ F => by rw [OpenClaim.pre_eq_preRow]; exact uRLPorts_lifted os started H enc F)
theorem uRLPorts_plain (f : FuncId) (fn : Func) (hf : Tryd.pinned.checked.prog.funcNamed "postilion/postilionlaw07.URLPorts" = some f) (hfn : Tryd.pinned.checked.prog.funcs[f]? = some fn) :
    false = Tryd.pinned.checked.prog.looks [] ∧ ∀ (j : Nat) t, fn.params[j]? = some t → Tryd.pinned.checked.prog.wantsStandIn t = false := by
  obtain rfl : f = 7 := Option.some.inj ((show Tryd.prog.funcNamed "postilion/postilionlaw07.URLPorts" = some 7 by kernel_rfl).symm.trans hf) |>.symm
  obtain rfl : fn = Tryd.f7 := (Option.some.inj (Tryd.func7.symm.trans hfn)).symm
  refine ⟨by kernel_rfl, fun j t ht => ?_⟩
  rw [Tryd.params7] at ht
  have hall : ∀ t ∈ ([3, 4, 3] : List TypeId), Tryd.prog.wantsStandIn t = false := List.forall_mem_cons.2 ⟨by kernel_rfl, List.forall_mem_cons.2 ⟨by kernel_rfl, List.forall_mem_cons.2 ⟨by kernel_rfl, fun _ h => by cases h⟩⟩⟩
  exact hall t (by simpa using Array.mem_of_getElem? ht)
/-- The statement: the card. -/
theorem uRLPorts_proved : Rows.URLPortsCardSaid :=
  Claim7.holds_tied_plain_at .later [] _ _ _ _ uRLPorts_said (fun _ h => by cases h) (by kernel_rfl) (fun _ h => by cases h) uRLPorts_row_tie rfl ⟨rfl, rfl⟩ (by kernel_rfl) rfl uRLPorts_plain (by kernel_rfl)
end Go.Proofs.YtakihnmajgmnpaaDoor

