/-
  The document's Encode of percent signs.
-/
import Derived.Test.YtakihnmajgmnpaaDoorPct3
import Derived.Test.YtakihnmajgmnpaaDoorPct5
import Derived.Deep.DeepCutAuto
namespace Go.Proofs.YtakihnmajgmnpaaDoor
set_option linter.unusedVariables false
set_option linter.unusedSimpArgs false
set_option maxRecDepth 20000
open Go.RowKit

theorem hexs_at (w : World) (k : Int) (h0 : 0 ≤ k) (h1 : k < 16) : (Instr.slice 9 (.string ⟨#[48, 49, 50, 51, 52, 53, 54, 55, 56, 57, 65, 66, 67, 68, 69, 70]⟩) (some (.int .u8 k)) (some (.int .u8 (k + 1))) none).run Tryd.prog w = .ok (.string (strOfNums [hexD k])) w := by
  rcases (by omega : k = 0 ∨ k = 1 ∨ k = 2 ∨ k = 3 ∨ k = 4 ∨ k = 5 ∨ k = 6 ∨ k = 7 ∨ k = 8 ∨ k = 9 ∨ k = 10 ∨ k = 11 ∨ k = 12 ∨ k = 13 ∨ k = 14 ∨ k = 15) with rfl | rfl | rfl | rfl | rfl | rfl | rfl | rfl | rfl | rfl | rfl | rfl | rfl | rfl | rfl | rfl <;> kernel_rfl
theorem hexD_byt {k : Int} (h0 : 0 ≤ k) (h1 : k < 16) : 0 ≤ hexD k ∧ hexD k ≤ 255 := by have := hexD_plain h0 h1; omega
theorem sb_pct3 {x : Int} (h : 0 ≤ x ∧ x ≤ 255) : sb (⟨#[37]⟩ ++ strOfNums [hexD (x / 16)] ++ strOfNums [hexD (x % 16)]) = pct3 x := by
  have h1 := hexD_byt (k := x / 16) (by omega) (by omega)
  have h2 := hexD_byt (k := x % 16) (by omega) (by omega)
  rw [sb_append, sb_append, sb_str (by intro y hy; rw [List.mem_singleton] at hy; subst hy; exact h1), sb_str (by intro y hy; rw [List.mem_singleton] at hy; subst hy; exact h2)]
  rfl
theorem encode_nat (c : Nat) : sb (Utf8.encode (c : Int)) = encI c := sb_encode c
/-- The test that a rune is no plain one, as the document's program has it. -/
def BadState (w0 : World) (L : Blks) (c : Nat) (u : Value) (w : World) : Prop := u = .bool (!plainR c) ∧ Own w0 w L
set_option maxHeartbeats 8000000 in
theorem rpct_c {w0 w : World} {R : Blks} (hO : Own w0 w R) (s : ByteArray) (hs : s.size ≤ 80000000) :
    Calls Tryd.prog 39 #[.string s] w fun e w' => e = .returned (.string (strOfNums (pctE (sb s)))) ∧ Own w0 w' R := by
  have HO := Lib.hid hO
  obtain ⟨l, hl⟩ : ∃ l, sb s = l := ⟨_, rfl⟩
  have hn : l.length = s.size := by rw [← hl]; exact length_sb s
  have HL := Lib.hid hl; have HN := Lib.hid hn
  rw [hl]
  clear hO hl hn
  go_enter Tryd.func39, Tryd.ntmps39
  go_wp2_with (refine wl_rangeS rfl _ _ rfl (by rfl) HO.out s (by rfl) ?_; intro r w1 hO1; have HO1 := Lib.hid hO1; clear hO1 HO)
  simp only [Act.put, List.setIfInBounds_toArray, List.set_cons_zero, List.set_cons_succ]
  go_loopw [3] (fun u w' => ∃ pos o, pos ≤ s.size ∧ u = .string o ∧ Hid (pctE l = sb o ++ pctE (l.drop pos)) ∧ Hid (Own w0 w' ((r, .stringIter s pos) :: R))) (fun _ w' => leftOf w' r)
  case atStart => exact ⟨0, ⟨#[]⟩, Nat.zero_le _, rfl, Lib.hid (by rw [sb_empty]; simp), HO1.out⟩
  case round =>
    obtain ⟨pos, o, hpos, rfl, HE, HO2⟩ := hrel
    clear HO1
    by_cases hlt : pos < s.size
    · have hlt' : pos < l.length := by rw [HN.out]; exact hlt
      have hst := pctE_drop hlt'
      have hfit := dec_fits hlt'
      have hval := decI_valid (l.drop pos)
      have hge := decI_pos (l.drop pos)
      have hlen : o.size ≤ 960000000 := by
        have h1 := pctE_len l
        rw [HE.out, List.length_append, HN.out, length_sb] at h1
        omega
      have hcs : pctR (decI (l.drop pos)).1 = if plainR (decI (l.drop pos)).1 then [((decI (l.drop pos)).1 : Int)] else (encI (decI (l.drop pos)).1).flatMap pct3 := rfl
      have hit := Lib.hid (HO2.out.heap (.head _))
      obtain ⟨c, hc⟩ : ∃ c, (decI (l.drop pos)).1 = c := ⟨_, rfl⟩
      obtain ⟨k, hk⟩ : ∃ k, (decI (l.drop pos)).2 = k := ⟨_, rfl⟩
      rw [hc] at hst hval hcs
      rw [hk] at hst hfit hge
      have HC := Lib.hid hc; have HK := Lib.hid hk; have HST := Lib.hid hst; have HVAL := Lib.hid hval; have HCS := Lib.hid hcs
      have HLEN := Lib.hid hlen
      clear hc hk hst hval hcs hlen
      go_upto_region 5 with (refine wl_nextS rfl _ rfl HO2.out 0 r s pos rfl hlt (by rfl) ?_; intro w3 hO3; rw [HL.out, HK.out] at hO3; rw [HL.out, HC.out]; have HO3 := Lib.hid hO3; clear hO3 HO2)
      go_cut [6] (fun u wx => BadState w0 ((r, .stringIter s (pos + k)) :: R) c u wx)
      case first =>
        rcases (by omega : c = 34 ∨ c = 96 ∨ c = 35 ∨ c = 60 ∨ c = 62 ∨ c = 63 ∨ c = 123 ∨ c = 125 ∨ (c ≠ 34 ∧ c ≠ 96 ∧ c ≠ 35 ∧ c ≠ 60 ∧ c ≠ 62 ∧ c ≠ 63 ∧ c ≠ 123 ∧ c ≠ 125)) with hh | hh | hh | hh | hh | hh | hh | hh | h
        iterate 8
          · have HH := Lib.hid hh
            clear HC HST HVAL HCS
            subst hh
            go_wp2
            go_meet
            exact ⟨rfl, HO3.out⟩
        · obtain ⟨h1, h2, h3, h4, h5, h6, h7, h8⟩ := h
          have t1 : ((c : Int) == 34) = false := by simp; omega
          have t2 : ((c : Int) == 96) = false := by simp; omega
          have t3 : ((c : Int) == 35) = false := by simp; omega
          have t4 : ((c : Int) == 60) = false := by simp; omega
          have t5 : ((c : Int) == 62) = false := by simp; omega
          have t6 : ((c : Int) == 63) = false := by simp; omega
          have t7 : ((c : Int) == 123) = false := by simp; omega
          have t8 : ((c : Int) == 125) = false := by simp; omega
          by_cases h9 : (c : Int) < 33
          · have hp : plainR c = false := by rw [← Bool.not_eq_true, plainR_iff]; omega
            have HP := Lib.hid hp
            clear hp h1 h2 h3 h4 h5 h6 h7 h8
            go_wp2
            go_meet
            exact ⟨by rw [HP.out]; rfl, HO3.out⟩
          · by_cases h10 : (126 : Int) < c
            · have hp : plainR c = false := by rw [← Bool.not_eq_true, plainR_iff]; omega
              have HP := Lib.hid hp
              clear hp h1 h2 h3 h4 h5 h6 h7 h8
              go_wp2
              go_meet
              exact ⟨by rw [HP.out]; rfl, HO3.out⟩
            · have hp : plainR c = true := by rw [plainR_iff]; omega
              have HP := Lib.hid hp
              clear hp h1 h2 h3 h4 h5 h6 h7 h8
              go_wp2
              go_meet
              exact ⟨by rw [HP.out]; rfl, HO3.out⟩
      case rest =>
        obtain ⟨rfl, hO4⟩ := hcut
        have HO4 := Lib.hid hO4
        clear hO4 HO3
        have hen := encode_nat c
        have hel : (Utf8.encode (c : Int)).size ≤ 4 := by rw [← length_sb, hen]; exact encI_len c
        have hcv : (convert 21 9 (.int .i32 (c : Int))).run Tryd.prog wc = .ok (.string (Utf8.encode (c : Int))) wc := run_convert_int_string wc _ _ _ _ (by kernel_rfl) Tryd.underlying9
        generalize hed : Utf8.encode (c : Int) = ec at *
        have HEN := Lib.hid hen; have HED := Lib.hid hed
        have ho := HLEN.out
        clear hen hed
        cases hp : plainR c with
        | true =>
          have hce := HCS.out
          have hcb := (plainR_iff c).1 hp
          rw [if_pos hp, ← encI_one (by omega)] at hce
          have HCE := Lib.hid hce
          clear hce hcb hp HCS
          have hadd : ¬ (9223372036854775807 < o.size + ec.size) := by omega
          clear ho hel
          go_wp2
          go_roundw
          case rel =>
            refine ⟨pos + k, o ++ ec, by have := HN.out; omega, rfl, Lib.hid ?_, HO4.out⟩
            rw [sb_append, HEN.out, HE.out, HST.out, HCE.out, List.append_assoc]
          case measure => rw [leftOf_eq (HO4.out.heap (.head _)), leftOf_eq hit.out]; omega
        | false =>
          have hce := HCS.out
          rw [if_neg (by rw [hp]; simp)] at hce
          have HCE := Lib.hid hce
          have hB := encI_byt c
          clear hce hp HCS
          go_wp2_with (refine wl_str2b rfl _ rfl HO4.out ec (by rfl) ?_; intro g cap sp w5 hcap hO5; rw [HEN.out] at hO5; have HO5 := Lib.hid hO5; clear hO5 HO4)
          obtain ⟨n, hn⟩ : ∃ n, ec.size = n := ⟨_, rfl⟩
          have hesn : (encI c).length = n := by rw [← HEN.out, length_sb, hn]
          generalize hes : encI c = es at *
          have HB := Lib.hid hB; have HESN := Lib.hid hesn
          rw [hn] at hel hcap ⊢
          clear hB hesn hes hcv hn HED HEN
          go_loopw [3, 62] (fun u t w' => ∃ (o2 : ByteArray) (j : Nat), j ≤ n ∧ u = .string o2 ∧ t = .int .i64 j ∧ Hid (sb o2 = sb o ++ (es.take j).flatMap pct3) ∧ Hid (Own w0 w' (zrow g (bv es ++ sp) :: (r, .stringIter s (pos + k)) :: R))) (fun _ t _ => n - (intOf t).toNat)
          case atStart => exact ⟨o, 0, Nat.zero_le _, rfl, rfl, Lib.hid (by simp), HO5.out⟩
          case round =>
            obtain ⟨o2, j, hj, rfl, rfl, HS2, HO6⟩ := hrel
            clear HO5
            have ho2 : o2.size ≤ 960000012 := by
              rw [← length_sb, HS2.out, List.length_append, length_sb, length_pct3s, List.length_take]
              omega
            by_cases hlj : j < n
            · have hjx : j < es.length := by rw [HESN.out]; exact hlj
              have hcell : wr.cell? ⟨g, j, none⟩ = some (.int .u8 es[j]) := by
                rw [cell_zrow HO6.out (.head _), List.getElem?_append_left (by rw [length_bv]; exact hjx)]
                simp [bv, hjx]
              have hbx := HB.out es[j] (List.getElem_mem hjx)
              have hst2 := pct3s_snoc es j hjx
              have HST2 := Lib.hid hst2
              clear hst2
              generalize es[j] = x at *
              have q1 : ∀ w', _ := fun w' => hexs_at w' (x / 16) (by omega) (by omega)
              have q2 : ∀ w', _ := fun w' => hexs_at w' (x % 16) (by omega) (by omega)
              have hsp := sb_pct3 hbx
              have s1 : (strOfNums [hexD (x / 16)]).size = 1 := strOfNums_size _
              have s2 : (strOfNums [hexD (x % 16)]).size = 1 := strOfNums_size _
              generalize strOfNums [hexD (x / 16)] = t1 at *
              generalize strOfNums [hexD (x % 16)] = t2 at *
              have HSP := Lib.hid hsp; have Q1 := Lib.hid q1; have Q2 := Lib.hid q2
              have hx0 := hbx.1; have hx1 := hbx.2
              have hjn : (j : Int) < n := by omega
              clear hsp q1 q2 hbx hjx
              go_wp2_with fail
              refine wp_region_lin (fun w' => w' = wr.drew) 17 [(0, true), (1, true), (2, true), (3, true), (4, true), (5, true), (6, true), (7, true), (8, true), (9, true), (10, true), (11, true), (12, true), (13, true), (14, true), (15, true), (16, true)] (by kernel_rfl) (by kernel_rfl) (fun _ _ d _ _ h => by cases d <;> exact h) rfl ?_
              simp only [List.map_cons, List.map_nil, pick_zero, pick_succ, List.drop_succ_cons, List.drop_zero]
              iterate 17 (refine lin_q ?_ rfl ?_ ?_; rotate_left 1; (focus (rintro w' rfl; have q1 := Q1.out wr.drew; have q2 := Q2.out wr.drew; have q6 : ¬ (9223372036854775807 < o2.size + 3) := (by omega); have q3 := u8and15 x hx0 hx1; have q4 : IntKind.u8.wrap (x / 16 + 1) = x / 16 + 1 := wraps_u8 _ (by omega) (by omega); have q5 : IntKind.u8.wrap (x % 16 + 1) = x % 16 + 1 := wraps_u8 _ (by omega) (by omega); go_simp; first | done | with_reducible rfl | (trace_state; fail))); simp only [Act.put, List.setIfInBounds_toArray, List.set_cons_zero, List.set_cons_succ])
              refine lin_nil ?_
              go_wp2
              go_roundw
              case rel =>
                refine ⟨_, j + 1, by omega, rfl, by go_num, Lib.hid ?_, HO6.out.drew⟩
                rw [sb_append, HS2.out, HST2.out, HSP.out, List.append_assoc]
              case measure => simp [intOf]; omega
            · obtain rfl : j = n := by omega
              go_wp2
              go_roundw
              case rel =>
                refine ⟨pos + k, o2, by have := HN.out; omega, rfl, Lib.hid ?_, HO6.out.tail⟩
                rw [HS2.out, List.take_of_length_le (by rw [HESN.out]; exact Nat.le_refl _), HE.out, HST.out, HCE.out, List.append_assoc]
              case measure => rw [leftOf_eq (HO6.out.heap (.tail _ (.head _))), leftOf_eq hit.out]; omega
    · have hpe : pos = s.size := by omega
      subst hpe
      have hd : l.drop s.size = [] := List.drop_eq_nil_of_le (by rw [HN.out]; exact Nat.le_refl _)
      have he : o = strOfNums (pctE l) := by
        rw [HE.out, hd]
        show o = strOfNums (sb o ++ [])
        rw [List.append_nil, str_sb]
      have HEQ := Lib.hid he
      clear HE hd he hlt
      go_wp2_with (first | (refine wl_nextS_end rfl _ rfl HO2.out 0 r s s.size rfl (by omega) (by rfl) ?_))
      go_ret
      exact ⟨by rw [← HEQ.out]; rfl, HO2.out.tail⟩
end Go.Proofs.YtakihnmajgmnpaaDoor
