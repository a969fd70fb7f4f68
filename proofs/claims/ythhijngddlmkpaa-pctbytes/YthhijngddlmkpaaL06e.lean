/-
  PctBytes: any bytes (the first forty), each as a percent sign and two digits, great or small, decode to themselves; a byte that is cut off at the end does not; such a text is encoded to itself.
  Conditions: none but the row's own.
-/
import Derived.Test.YthhijngddlmkpaaL06a
import Derived.Test.YthhijngddlmkpaaInb
namespace Go.Proofs.Ythhijngddlmkpaa
set_option linter.unusedVariables false
set_option linter.unusedSimpArgs false
set_option maxRecDepth 20000
open Go.ChangeShapes Go.WideShapes Go.ChangeAt Go.RowKit
open Go.ChangeMaps (open_string shut_string)

def hexL (x : Int) : Int := if x < 10 then 48 + x else 87 + x
theorem hexL_dig {x : Int} (h0 : 0 ≤ x) (h1 : x < 16) : digI (hexL x) = some x := by
  unfold digI hexL
  split
  · rw [if_pos (by omega)]; congr 1; omega
  · rw [if_neg (by omega), if_pos (by omega)]; congr 1; omega
theorem hexL_plain {x : Int} (h0 : 0 ≤ x) (h1 : x < 16) : (48 ≤ hexL x ∧ hexL x ≤ 57) ∨ (97 ≤ hexL x ∧ hexL x ≤ 102) := by unfold hexL; split <;> omega
def hx (small : Bool) (x : Int) : Int := if small then hexL x else hexD x
def enc3 (small : Bool) (b : Int) : List Int := [37, hx small (b / 16), hx small (b % 16)]
theorem hx_dig (small : Bool) {x : Int} (h0 : 0 ≤ x) (h1 : x < 16) : digI (hx small x) = some x := by cases small; exact digI_hex h0 h1; exact hexL_dig h0 h1
theorem hx_plain (small : Bool) {x : Int} (h0 : 0 ≤ x) (h1 : x < 16) : (48 ≤ hx small x ∧ hx small x ≤ 57) ∨ (65 ≤ hx small x ∧ hx small x ≤ 70) ∨ (97 ≤ hx small x ∧ hx small x ≤ 102) := by
  cases small
  · rcases hexD_plain h0 h1 with h | h; exact .inl h; exact .inr (.inl h)
  · rcases hexL_plain h0 h1 with h | h; exact .inl h; exact .inr (.inr h)
theorem unp_enc3 (small : Bool) {b : Int} (h : 0 ≤ b ∧ b ≤ 255) (r : List Int) : unp (enc3 small b ++ r) = (unp r).map fun t => b :: t := by
  show unp (37 :: hx small (b / 16) :: hx small (b % 16) :: r) = _
  rw [unp_pct, hx_dig small (by omega) (by omega), hx_dig small (by omega) (by omega)]
  simp only [Option.bind_some]
  rw [show 16 * (b / 16) + b % 16 = b by omega]
theorem unp_encs (small : Bool) : ∀ (bs : List Int), Byt bs → ∀ r, unp (bs.flatMap (enc3 small) ++ r) = (unp r).map fun t => bs ++ t
  | [], _, r => by simp
  | b :: bs, h, r => by
    rw [List.flatMap_cons, List.append_assoc, unp_enc3 small (h b (.head _)), unp_encs small bs (fun x hx => h x (.tail _ hx))]
    cases unp r <;> simp
theorem encs_len (small : Bool) : ∀ l : List Int, (l.flatMap (enc3 small)).length = 3 * l.length
  | [] => rfl
  | x :: l => by rw [List.flatMap_cons, List.length_append, encs_len small l]; simp [enc3]; omega
theorem encs_plain (small : Bool) {bs : List Int} (h : Byt bs) : ∀ x ∈ bs.flatMap (enc3 small), 0 ≤ x ∧ x < 128 ∧ plainR x.toNat = true := by
  intro x hx'
  rw [List.mem_flatMap] at hx'
  obtain ⟨b, hb, hx'⟩ := hx'
  have hbb := h b hb
  have h1 := hx_plain small (x := b / 16) (by omega) (by omega)
  have h2 := hx_plain small (x := b % 16) (by omega) (by omega)
  simp only [enc3, List.mem_cons, List.not_mem_nil, or_false] at hx'
  rw [plainR_iff]
  rcases hx' with rfl | rfl | rfl <;> omega
theorem encs_snoc (small : Bool) (l : List Int) (k : Nat) (h : k < l.length) : (l.take (k + 1)).flatMap (enc3 small) = (l.take k).flatMap (enc3 small) ++ enc3 small l[k] := by
  rw [List.take_succ_eq_append_getElem h, List.flatMap_append]; simp
theorem hexsD_at (w : World) (k : Int) (h0 : 0 ≤ k) (h1 : k < 16) : (Instr.slice 9 (.string ⟨#[48, 49, 50, 51, 52, 53, 54, 55, 56, 57, 65, 66, 67, 68, 69, 70]⟩) (some (.int .u8 k)) (some (.int .u8 (k + 1))) none).run Try.prog w = .ok (.string (strOfNums [hx false k])) w := by
  rcases (by omega : k = 0 ∨ k = 1 ∨ k = 2 ∨ k = 3 ∨ k = 4 ∨ k = 5 ∨ k = 6 ∨ k = 7 ∨ k = 8 ∨ k = 9 ∨ k = 10 ∨ k = 11 ∨ k = 12 ∨ k = 13 ∨ k = 14 ∨ k = 15) with rfl | rfl | rfl | rfl | rfl | rfl | rfl | rfl | rfl | rfl | rfl | rfl | rfl | rfl | rfl | rfl <;> kernel_rfl
theorem hexsL_at (w : World) (k : Int) (h0 : 0 ≤ k) (h1 : k < 16) : (Instr.slice 9 (.string ⟨#[48, 49, 50, 51, 52, 53, 54, 55, 56, 57, 97, 98, 99, 100, 101, 102]⟩) (some (.int .u8 k)) (some (.int .u8 (k + 1))) none).run Try.prog w = .ok (.string (strOfNums [hx true k])) w := by
  rcases (by omega : k = 0 ∨ k = 1 ∨ k = 2 ∨ k = 3 ∨ k = 4 ∨ k = 5 ∨ k = 6 ∨ k = 7 ∨ k = 8 ∨ k = 9 ∨ k = 10 ∨ k = 11 ∨ k = 12 ∨ k = 13 ∨ k = 14 ∨ k = 15) with rfl | rfl | rfl | rfl | rfl | rfl | rfl | rfl | rfl | rfl | rfl | rfl | rfl | rfl | rfl | rfl <;> kernel_rfl
theorem hx_byt (small : Bool) {k : Int} (h0 : 0 ≤ k) (h1 : k < 16) : 0 ≤ hx small k ∧ hx small k ≤ 255 := by have := hx_plain small h0 h1; omega
theorem sb_enc3 (small : Bool) {x : Int} (h : 0 ≤ x ∧ x ≤ 255) : sb (⟨#[37]⟩ ++ strOfNums [hx small (x / 16)] ++ strOfNums [hx small (x % 16)]) = enc3 small x := by
  have h1 := hx_byt small (k := x / 16) (by omega) (by omega)
  have h2 := hx_byt small (k := x % 16) (by omega) (by omega)
  rw [sb_append, sb_append, sb_str (by intro y hy; rw [List.mem_singleton] at hy; subst hy; exact h1), sb_str (by intro y hy; rw [List.mem_singleton] at hy; subst hy; exact h2)]
  rfl
theorem str_cons (x y : List Int) : strOfNums (x ++ y) = strOfNums x ++ strOfNums y := by
  apply ba_ext
  simp [strOfNums_data]
/-- What Decode answers to such a text, and to it with a byte cut off, or between others. -/
theorem enc_facts (small : Bool) {ys : List Int} (hB : Byt ys) (hl : ys.length ≤ 40) {o : ByteArray} (ho : sb o = ys.flatMap (enc3 small)) {W : World} :
    (∀ w', Own W w' [] → Calls Try.prog 9 #[.string o] w' fun e w'' => e = .returned (.tuple #[.string (strOfNums ys), .bool true]) ∧ Own W w'' []) ∧
    (∀ w', Own W w' [] → Calls Try.prog 9 #[.string (o ++ ⟨#[37]⟩)] w' fun e w'' => e = .returned (.tuple #[.string ⟨#[]⟩, .bool false]) ∧ Own W w'' []) ∧
    (∀ w', Own W w' [] → Calls Try.prog 9 #[.string (o ++ ⟨#[37, 52]⟩)] w' fun e w'' => e = .returned (.tuple #[.string ⟨#[]⟩, .bool false]) ∧ Own W w'' []) ∧
    (∀ w', Own W w' [] → Calls Try.prog 9 #[.string (⟨#[120]⟩ ++ o ++ ⟨#[121]⟩)] w' fun e w'' => e = .returned (.tuple #[.string (⟨#[120]⟩ ++ strOfNums ys ++ ⟨#[121]⟩), .bool true]) ∧ Own W w'' []) ∧
    (∀ w', Own W w' [] → Calls Try.prog 8 #[.string o] w' fun e w'' => e = .returned (.string o) ∧ Own W w'' []) ∧ o.size ≤ 120 := by
  have hos : o.size ≤ 120 := by rw [← length_sb, ho, encs_len]; omega
  have u0 : unp (sb o) = some ys := by
    have := unp_encs small ys hB []
    rw [List.append_nil] at this
    rw [ho, this, unp_nil]; simp
  have u1 : unp (sb (o ++ ⟨#[37]⟩)) = none := by rw [sb_append, ho, unp_encs small ys hB]; rfl
  have u2 : unp (sb (o ++ ⟨#[37, 52]⟩)) = none := by rw [sb_append, ho, unp_encs small ys hB]; rfl
  have u3 : unp (sb (⟨#[120]⟩ ++ o ++ ⟨#[121]⟩)) = some ([120] ++ ys ++ [121]) := by
    rw [sb_append, sb_append, ho, List.append_assoc]
    show unp (120 :: (ys.flatMap (enc3 small) ++ [121])) = _
    rw [unp_other (by decide), unp_encs small ys hB]
    rfl
  have s1 : (⟨#[37]⟩ : ByteArray).size = 1 := rfl
  have s2 : (⟨#[37, 52]⟩ : ByteArray).size = 2 := rfl
  have s3 : (⟨#[120]⟩ : ByteArray).size = 1 := rfl
  have s4 : (⟨#[121]⟩ : ByteArray).size = 1 := rfl
  refine ⟨fun w' h => ?_, fun w' h => ?_, fun w' h => ?_, fun w' h => ?_, fun w' h => ?_, hos⟩
  · have := decode_c h o (by omega)
    rw [u0] at this; exact this
  · have := decode_c h (o ++ ⟨#[37]⟩) (by rw [ByteArray.size_append, s1]; omega)
    rw [u1] at this; exact this
  · have := decode_c h (o ++ ⟨#[37, 52]⟩) (by rw [ByteArray.size_append, s2]; omega)
    rw [u2] at this; exact this
  · have := decode_c h (⟨#[120]⟩ ++ o ++ ⟨#[121]⟩) (by rw [ByteArray.size_append, ByteArray.size_append, s3, s4]; omega)
    rw [u3, Option.getD_some, str_cons, str_cons] at this
    exact this
  · have := encode_c h o (by omega)
    rw [ho, pctE_same (encs_plain small hB), ← ho, str_sb] at this
    exact this
set_option maxHeartbeats 8000000 in
theorem pctBytes_walk (v : Value) (xs : List Int) {W : World} (hv : InRow .u8 W v xs) (small : Bool) : Calls Try.prog 7 #[v, .bool small] W (Yes W) := by
  have hrd := hv.rdb []
  have hB := hv.bytb
  obtain ⟨A, n, cp, rfl, hn, hc, hm, hw, hA⟩ := hv
  have hc' : (n : Int) ≤ cp := by omega
  have HN := Lib.hid hn; have HRD := Lib.hid hrd; have HB := Lib.hid hB
  have HO := Lib.hid (Own.start W)
  have hnm : (n : Int) ≤ 9223372036854775807 := by simp only [maxLen] at hm; omega
  clear hrd hn hw hA hm hB
  go_enter Try.func7, Try.ntmps7
  go_wp2
  go_loopw [0, 5, 18] (fun b u t w' => ∃ (i : Nat) (o : ByteArray), i ≤ n ∧ i ≤ 40 ∧ b = .slice A n cp ∧ u = .string o ∧ t = .int .i64 i ∧ Hid (sb o = (xs.take i).flatMap (enc3 small)) ∧ Hid (Own W w' [])) (fun _ _ t _ => n - (intOf t).toNat)
  case atStart => exact ⟨0, ⟨#[]⟩, Nat.zero_le _, by omega, rfl, rfl, rfl, Lib.hid rfl, HO.out⟩
  case round =>
    obtain ⟨i, o, hi, hi40, rfl, rfl, rfl, HS, HO2⟩ := hrel
    clear HO
    by_cases hlt : i < n
    · have hix : i < xs.length := by rw [HN.out]; exact hlt
      obtain ⟨A', n', cp', e, hn', _, hA'⟩ := HRD.out wr [] HO2.out
      cases e
      obtain ⟨ad, rfl, hcell⟩ := hA' (by omega)
      have hc1 := hcell i xs[i] (List.getElem?_eq_getElem hix)
      have hin : (i : Int) < n := by omega
      clear hcell hn'
      by_cases h40 : i < 40
      · have hbx := HB.out xs[i] (List.getElem_mem hix)
        have hst := encs_snoc small xs i hix
        have HST := Lib.hid hst
        have hos : o.size ≤ 120 := by rw [← length_sb, HS.out, encs_len, List.length_take]; omega
        clear hst
        generalize xs[i] = x at *
        have h40' : ¬ ((40 : Int) ≤ i) := by omega
        have hx0 := hbx.1; have hx1 := hbx.2
        cases small with
        | true =>
          have q1 : ∀ w', _ := fun w' => hexsL_at w' (x / 16) (by omega) (by omega)
          have q2 : ∀ w', _ := fun w' => hexsL_at w' (x % 16) (by omega) (by omega)
          have hsp := sb_enc3 true hbx
          have s1 : (strOfNums [hx true (x / 16)]).size = 1 := strOfNums_size _
          have s2 : (strOfNums [hx true (x % 16)]).size = 1 := strOfNums_size _
          generalize strOfNums [hx true (x / 16)] = t1 at *
          generalize strOfNums [hx true (x % 16)] = t2 at *
          have HSP := Lib.hid hsp; have Q1 := Lib.hid q1; have Q2 := Lib.hid q2
          clear hsp q1 q2 hbx hix
          go_wp2_with fail
          refine wp_region_lin (fun w' => w' = wr.drew) 17 [(0, true), (1, true), (2, true), (3, true), (4, true), (5, true), (6, true), (7, true), (8, true), (9, true), (10, true), (11, true), (12, true), (13, true), (14, true), (15, true), (16, true)] (by kernel_rfl) (by kernel_rfl) (fun _ _ d _ _ h => by cases d <;> exact h) rfl ?_
          simp only [List.map_cons, List.map_nil, pick_zero, pick_succ, List.drop_succ_cons, List.drop_zero]
          iterate 17 (refine lin_q ?_ rfl ?_ ?_; rotate_left 1; (focus (rintro w' rfl; have q1 := Q1.out wr.drew; have q2 := Q2.out wr.drew; have q6 : ¬ (9223372036854775807 < o.size + 3) := (by omega); have q3 := u8and15 x hx0 hx1; have q4 : IntKind.u8.wrap (x / 16 + 1) = x / 16 + 1 := wraps_u8 _ (by omega) (by omega); have q5 : IntKind.u8.wrap (x % 16 + 1) = x % 16 + 1 := wraps_u8 _ (by omega) (by omega); go_simp; first | done | with_reducible rfl | (trace_state; fail))); simp only [Act.put, List.setIfInBounds_toArray, List.set_cons_zero, List.set_cons_succ])
          refine lin_nil ?_
          go_wp2
          go_roundw
          case rel => exact ⟨i + 1, _, by omega, by omega, rfl, rfl, by go_num, Lib.hid (by rw [sb_append, HS.out, HST.out, HSP.out]), HO2.out.drew⟩
          case measure => simp [intOf]; omega
        | false =>
          have q1 : ∀ w', _ := fun w' => hexsD_at w' (x / 16) (by omega) (by omega)
          have q2 : ∀ w', _ := fun w' => hexsD_at w' (x % 16) (by omega) (by omega)
          have hsp := sb_enc3 false hbx
          have s1 : (strOfNums [hx false (x / 16)]).size = 1 := strOfNums_size _
          have s2 : (strOfNums [hx false (x % 16)]).size = 1 := strOfNums_size _
          generalize strOfNums [hx false (x / 16)] = t1 at *
          generalize strOfNums [hx false (x % 16)] = t2 at *
          have HSP := Lib.hid hsp; have Q1 := Lib.hid q1; have Q2 := Lib.hid q2
          clear hsp q1 q2 hbx hix
          go_wp2_with fail
          refine wp_region_lin (fun w' => w' = wr.drew) 17 [(0, true), (1, true), (2, true), (3, true), (4, true), (5, true), (6, true), (7, true), (8, true), (9, true), (10, true), (11, true), (12, true), (13, true), (14, true), (15, true), (16, true)] (by kernel_rfl) (by kernel_rfl) (fun _ _ d _ _ h => by cases d <;> exact h) rfl ?_
          simp only [List.map_cons, List.map_nil, pick_zero, pick_succ, List.drop_succ_cons, List.drop_zero]
          iterate 17 (refine lin_q ?_ rfl ?_ ?_; rotate_left 1; (focus (rintro w' rfl; have q1 := Q1.out wr.drew; have q2 := Q2.out wr.drew; have q6 : ¬ (9223372036854775807 < o.size + 3) := (by omega); have q3 := u8and15 x hx0 hx1; have q4 : IntKind.u8.wrap (x / 16 + 1) = x / 16 + 1 := wraps_u8 _ (by omega) (by omega); have q5 : IntKind.u8.wrap (x % 16 + 1) = x % 16 + 1 := wraps_u8 _ (by omega) (by omega); go_simp; first | done | with_reducible rfl | (trace_state; fail))); simp only [Act.put, List.setIfInBounds_toArray, List.set_cons_zero, List.set_cons_succ])
          refine lin_nil ?_
          go_wp2
          go_roundw
          case rel => exact ⟨i + 1, _, by omega, by omega, rfl, rfl, by go_num, Lib.hid (by rw [sb_append, HS.out, HST.out, HSP.out]), HO2.out.drew⟩
          case measure => simp [intOf]; omega
      · obtain rfl : i = 40 := by omega
        have h40' : (40 : Int) ≤ 40 := by omega
        have hsl := sl_upto wr (some ad) n cp 40 (by omega) (by omega) (fun h => by cases h)
        obtain ⟨f1, f2, f3, f4, f5, hos⟩ := enc_facts small (byt_take HB.out 40) (by rw [List.length_take]; omega) HS.out (W := W)
        have hbs : ∀ w', Own W w' [] → (convert 34 9 (.slice (some ad) 40 cp)).run Try.prog w' = .ok (.string (strOfNums (xs.take 40))) w' := fun w' h => convert_str ((HRD.out.front 40 (by omega)) w' [] h)
        have hds : (strOfNums (xs.take 40)).size ≤ 40 := by rw [strOfNums_size, List.length_take]; omega
        have hc2 : wr.cell? ⟨ad.block, ad.off + 40, none⟩ = some (.int .u8 xs[40]) := hc1
        generalize xs[40] = x40 at *
        clear hix hc1
        have n1 : ¬ (9223372036854775807 < o.size + 1) := by omega
        have n2 : ¬ (9223372036854775807 < o.size + 2) := by omega
        have n3 : ¬ (9223372036854775807 < 1 + o.size) := by omega
        have n4 : ¬ (9223372036854775807 < 1 + o.size + 1) := by omega
        have F1 := Lib.hid f1; have F2 := Lib.hid f2; have F3 := Lib.hid f3; have F4 := Lib.hid f4; have F5 := Lib.hid f5; have HBS := Lib.hid hbs
        generalize strOfNums _ = d at F1 F4 HBS hds
        have n5 : ¬ (9223372036854775807 < 1 + d.size) := by omega
        have n6 : ¬ (9223372036854775807 < 1 + d.size + 1) := by omega
        clear f1 f2 f3 f4 f5 hbs hos hds HS HB HN HRD
        go_wp2_with fail
        have hcall := F1.out _ HO2.out
        with_reducible refine hcall.mono ?_
        clear hcall
        rintro en v0 ⟨rfl, hO⟩
        have HP0 := Lib.hid hO; clear hO HO2
        go_wp2_with fail
        have hcall := F2.out _ HP0.out
        with_reducible refine hcall.mono ?_
        clear hcall
        rintro en v1 ⟨rfl, hO⟩
        have HP1 := Lib.hid hO; clear hO HP0
        go_wp2_with fail
        have hcall := F3.out _ HP1.out
        with_reducible refine hcall.mono ?_
        clear hcall
        rintro en v2 ⟨rfl, hO⟩
        have HP2 := Lib.hid hO; clear hO HP1
        go_wp2_with fail
        have hcall := F4.out _ HP2.out
        with_reducible refine hcall.mono ?_
        clear hcall
        rintro en v3 ⟨rfl, hO⟩
        have HP3 := Lib.hid hO; clear hO HP2
        have hcv := HBS.out _ HP3.out
        go_wp2_with fail
        have hcall := F5.out _ HP3.out
        with_reducible refine hcall.mono ?_
        clear hcall
        rintro en v5 ⟨rfl, hO⟩
        have HP5 := Lib.hid hO; clear hO HP3 hcv
        go_wp2_with fail
        have hcall := wakes6_c HP5.out
        with_reducible refine hcall.mono ?_
        clear hcall
        rintro en v6 ⟨rfl, hO⟩
        have HP6 := Lib.hid hO; clear hO HP5
        go_wp2
        go_ret
        exact HP6.out.yes rfl
    · obtain rfl : i = n := by omega
      have ht : xs.take i = xs := List.take_of_length_le (by rw [HN.out]; exact Nat.le_refl _)
      have hs0 := HS.out
      rw [ht] at hs0
      obtain ⟨f1, f2, f3, f4, f5, hos⟩ := enc_facts small HB.out (by rw [HN.out]; omega) hs0 (W := W)
      have hbs : ∀ w', Own W w' [] → (convert 34 9 (.slice A i cp)).run Try.prog w' = .ok (.string (strOfNums xs)) w' := fun w' h => convert_str (HRD.out w' [] h)
      have hds : (strOfNums xs).size ≤ 40 := by rw [strOfNums_size, HN.out]; omega
      clear hs0 ht
      have n1 : ¬ (9223372036854775807 < o.size + 1) := by omega
      have n2 : ¬ (9223372036854775807 < o.size + 2) := by omega
      have n3 : ¬ (9223372036854775807 < 1 + o.size) := by omega
      have n4 : ¬ (9223372036854775807 < 1 + o.size + 1) := by omega
      have F1 := Lib.hid f1; have F2 := Lib.hid f2; have F3 := Lib.hid f3; have F4 := Lib.hid f4; have F5 := Lib.hid f5; have HBS := Lib.hid hbs
      generalize strOfNums _ = d at F1 F4 HBS hds
      have n5 : ¬ (9223372036854775807 < 1 + d.size) := by omega
      have n6 : ¬ (9223372036854775807 < 1 + d.size + 1) := by omega
      clear f1 f2 f3 f4 f5 hbs hos hds HS HB HN HRD
      go_wp2_with fail
      have hcall := F1.out _ HO2.out
      with_reducible refine hcall.mono ?_
      clear hcall
      rintro en v0 ⟨rfl, hO⟩
      have HP0 := Lib.hid hO; clear hO HO2
      go_wp2_with fail
      have hcall := F2.out _ HP0.out
      with_reducible refine hcall.mono ?_
      clear hcall
      rintro en v1 ⟨rfl, hO⟩
      have HP1 := Lib.hid hO; clear hO HP0
      go_wp2_with fail
      have hcall := F3.out _ HP1.out
      with_reducible refine hcall.mono ?_
      clear hcall
      rintro en v2 ⟨rfl, hO⟩
      have HP2 := Lib.hid hO; clear hO HP1
      go_wp2_with fail
      have hcall := F4.out _ HP2.out
      with_reducible refine hcall.mono ?_
      clear hcall
      rintro en v3 ⟨rfl, hO⟩
      have HP3 := Lib.hid hO; clear hO HP2
      have hcv := HBS.out _ HP3.out
      go_wp2_with fail
      have hcall := F5.out _ HP3.out
      with_reducible refine hcall.mono ?_
      clear hcall
      rintro en v5 ⟨rfl, hO⟩
      have HP5 := Lib.hid hO; clear hO HP3 hcv
      go_wp2_with fail
      have hcall := wakes6_c HP5.out
      with_reducible refine hcall.mono ?_
      clear hcall
      rintro en v6 ⟨rfl, hO⟩
      have HP6 := Lib.hid hO; clear hO HP5
      go_wp2
      go_ret
      exact HP6.out.yes rfl
set_option maxRecDepth 100000 in
theorem pctBytes_lifted (os : Os) (started : os.Started) (H : Type) (enc : TypeId × Value → H) :
    ReturnsInHanded {} Try.checked os 7 .any (Rows.pctBytesSpec.pre6 enc Try.prog Try.f7 Rows.pctBytesRow.domain false) (Rows.pctBytesSpec.post enc Try.prog Try.f7 false true false false) := by
  refine returnsInHanded_of_change (C := Try.checked) (by kernel_rfl) started (by kernel_rfl) Try.func7
    (ChangeSpec.witness6 (enc := enc) (C := Try.checked) false ⟨#[], #[.slice none 0 0, .bool false], []⟩ 8 (by kernel_rfl) (by kernel_rfl) (by kernel_rfl) (by kernel_rfl)) ?_
  intro W base args ds gs before hval0 hW hcnd _
  have hval : ∀ (j : Nat) t v, Try.f7.params[j]? = some t → args[j]? = some v → Value.okWide Try.prog W .any base t v := hval0
  have hW' := hW
  obtain ⟨p, q, hA0, hV, rfl, hfz, hnd⟩ := hW
  have hA : DataW.TrodAll enc Try.prog W 0 (fun _ => true) true Try.f7.params.toList args.toList ds p := hA0
  rw [Try.params7] at hA hval
  obtain ⟨v0, vs0, d0, ds0, p0, q0, hargs, rfl, rfl, h0, r0⟩ := trodAll_cons hA
  obtain ⟨v1, vs1, d1, ds1, p1, q1, rfl, rfl, rfl, h1, r1⟩ := trodAll_cons r0
  obtain ⟨rfl, rfl, rfl⟩ := trodAll_nil r1
  obtain rfl : args = #[v0, v1] := by cases args; simp_all
  obtain ⟨rfl, rfl⟩ := trodVars_none hV
  obtain ⟨b0, len0, cap0, rfl⟩ := okWide_slice Try.underlying34 (hval 0 34 v0 rfl rfl)
  have k0 := h0
  have lt0 : ∀ x ∈ p0, x.block < W.heap.size := by obtain ⟨m, hm⟩ := k0; exact DataW.trod_lt m _ _ _ hm
  obtain ⟨a0, w0⟩ : ∃ xs, InRow .u8 W (.slice b0 len0 cap0) xs := by
    obtain ⟨fuel, hf⟩ := h0
    rcases open_ints Try.underlying34 Try.underlying5 (by kernel_rfl) hf with ⟨hcs, _⟩ | ⟨x, l, c, zs, hcs, _, hl, hm, hz, _, hcell, hwz⟩
    · simp [Value.cells] at hcs
      obtain ⟨rfl, rfl, rfl⟩ := hcs
      exact ⟨[], inRow_nil _ _⟩
    · simp [Value.cells] at hcs
      obtain ⟨rfl, rfl, rfl⟩ := hcs
      exact ⟨zs.take len0, inRow_mk hl hm (by simpa using hz) hcell hwz⟩
  obtain ⟨a1, rfl, rfl, rfl⟩ := open_bool Try.underlying4 (hval 1 4 v1 rfl rfl) h1
  clear hA0 hval0
  refine (pctBytes_walk _ a0 w0 a1).mono fun e W' ⟨he, bel⟩ => ?_
  subst he
  exact ⟨_, rfl, _, _, _, [], _, [], hW', trodAll_mk1 (shut_bool Try.underlying4 _), (trodAll_cons_mk (Below.trod laidOut (by kernel_rfl) (of_decide_eq_true (by kernel_rfl)) k0 bel lt0) (trodAll_cons_mk (shut_bool Try.underlying4 a1) trodAll_mk0)), rfl, bel.frame _, fun h => by cases h⟩

/-- The statement. -/
theorem pctBytes_proved : Rows.PctBytesSaid :=
  OpenClaim.holds_of_wide 7 Try.f7 rfl rfl rfl rfl rfl rfl rfl ⟨rfl, rfl, rfl, rfl, rfl⟩ rfl rfl rfl rfl rfl (by kernel_rfl) Try.func7 (by kernel_rfl)
    (of_decide_eq_true (by kernel_rfl)) (by unfold Func.isWrapper; first | (rw [if_pos (by decide +kernel)]; kernel_rfl) | (rw [if_neg (by decide +kernel)]; exact ⟨rfl, rfl⟩))
    (fun os started H enc _ => pctBytes_lifted os started H enc)
end Go.Proofs.Ythhijngddlmkpaa
