/-
  DiskTears: whatever n, m and keep: a write that is torn has its first half as it was to be and the other one as it was, kept it is whole, else it was not: the law returns true.
-/
import Derived.Test.YtdngllegoljpeaaL01a
namespace Go.Proofs.Ytdngllegoljpeaa
set_option linter.unusedVariables false
set_option linter.unusedSimpArgs false
open Go.ChangeShapes Go.WideShapes Go.ChangeAt Go.RowKit
open Go.ChangeMaps (open_string shut_string)

theorem build_int1 (k : Int) (w : World) : (Instr.buildSlice 22 1 #[(0, .int .i64 k)]).run Try.prog w = .ok (.slice (some ⟨w.heap.size, 0, none⟩) 1 1) (w.alloc (.cells (iv [k]).toArray 3)) := by kernel_rfl
theorem rdv_block {w0 : World} {R : Blks} {g n c : Nat} {vs : List Value} {t : TypeId} (hm : (g, Obj.cells vs.toArray t) ∈ R) (hn : vs.length = n) (hc : n ≤ c) : RdV w0 R (.slice (some ⟨g, 0, none⟩) n c) vs := by
  intro w' L' hO
  refine ⟨_, _, _, rfl, hn, hc, fun _ => ⟨_, rfl, fun j u hu => ?_⟩⟩
  rw [addr_add_zero, hO.cell (List.mem_append_right _ hm) j]
  simpa using hu
/-- The sector behind the crash. -/
def torn (xs ys : List Int) (k : Int) : List Int := if k = 2 then ys else if k = 1 then ys.take 16 ++ xs.drop 16 else xs
theorem torn_crash (xs ys : List Int) (k : Int) : DSt.crash ⟨[zsec, xs], [(1, ys)], -1, false⟩ [k] = ⟨[zsec, torn xs ys k], [], -1, false⟩ := by
  unfold DSt.crash torn
  simp only [survAll, surv]
  split
  · rfl
  · split <;> rfl
theorem length_torn (xs ys : List Int) (k : Int) (hx : xs.length = 32) (hy : ys.length = 32) : (torn xs ys k).length = 32 := by
  unfold torn; split
  · exact hy
  · split
    · simp [hx, hy]
    · exact hx
theorem torn_get (xs ys : List Int) (K : Int) (k : Nat) (hx : xs.length = 32) (hy : ys.length = 32) (hk : k < 32) :
    (torn xs ys K)[k]? = some (if K = 2 ∨ K = 1 ∧ k < 16 then ys[k] else xs[k]) := by
  unfold torn
  by_cases h2 : K = 2
  · simp [h2, hy, hk]
  · by_cases h1 : K = 1
    · by_cases h16 : k < 16
      · rw [if_neg h2, if_pos h1, List.getElem?_append_left (by simp; omega), List.getElem?_take_of_lt h16, if_pos (.inr ⟨h1, h16⟩)]
        exact List.getElem?_eq_getElem (by omega)
      · rw [if_neg h2, if_pos h1, List.getElem?_append_right (by simp; omega), List.getElem?_drop, if_neg (by rintro (h | h); exact h2 h; exact h16 h.2)]
        simp only [List.length_take, hy]
        rw [show 16 + (k - min 16 32) = k by omega]
        exact List.getElem?_eq_getElem (by omega)
    · rw [if_neg h2, if_neg h1, if_neg (by rintro (h | h); exact h2 h; exact h1 h.1)]
      exact List.getElem?_eq_getElem (by omega)
theorem Bs.at_ {w : World} {v : Value} {xs : List Int} {n : Nat} (h : Bs w v xs) (hn : xs.length = n + 1) : ∃ ad c, v = .slice (some ad) (n + 1) c ∧ ∀ j x, xs[j]? = some x → w.cell? (ad.add j) = some (.int .u8 x) := by
  obtain ⟨A, m, c, rfl, hm, _, hA⟩ := h
  obtain rfl : m = n + 1 := by omega
  obtain ⟨ad, rfl, hc⟩ := hA (by omega)
  exact ⟨ad, c, rfl, hc⟩
set_option maxRecDepth 100000 in
set_option maxHeartbeats 4000000 in
theorem diskTears_walk (a0 : Int) (_ : (Lit.int .i64 a0).wf = true) (a1 : Int) (_ : (Lit.int .i64 a1).wf = true) (a2 : Int) (_ : (Lit.int .i64 a2).wf = true) (w : World) :
    Calls Try.prog 7 #[.int .i64 a0, .int .i64 a1, .int .i64 a2] w (Yes w) := by
  go_enter Try.func7, Try.ntmps7
  go_wp2_with fail
  have hcall := new_is (Own.start w) 2 2 rfl
  with_reducible refine hcall.mono ?_
  clear hcall
  rintro e w1 ⟨d, Ld, rfl, hd, hO⟩
  obtain ⟨bd, rfl⟩ := hd.ptr
  have HD := Lib.hid hd; have HO := Lib.hid hO; clear hO hd
  go_wp2_with fail
  have hcall := bytes32_c HO.out a0
  with_reducible refine hcall.mono ?_
  clear hcall
  rintro e w2 ⟨x, Lx, rfl, hx, hO2⟩
  have hbx := hx.bs hO2
  obtain ⟨ax, cx, rfl, _⟩ : ∃ ad c, x = .slice (some ad) 32 c ∧ _ := hbx.at_ (n := 31) (length_pbytes a0 32)
  have HO2 := Lib.hid hO2; clear hO2 HO hbx
  have HXL := Lib.hid (length_pbytes a0 32)
  have HX := Lib.hid hx
  generalize hxe : pbytes a0 32 = xs at *
  clear hxe hx
  go_wp2_with fail
  have hcall := bytes32_c HO2.out a1
  with_reducible refine hcall.mono ?_
  clear hcall
  rintro e w3 ⟨y, Ly, rfl, hy, hO3⟩
  have hby := hy.bs hO3
  obtain ⟨ay, cy, rfl, _⟩ : ∃ ad c, y = .slice (some ad) 32 c ∧ _ := hby.at_ (n := 31) (length_pbytes a1 32)
  have HO3 := Lib.hid hO3.rot3; clear hO3 HO2 hby
  have HYL := Lib.hid (length_pbytes a1 32)
  have HY := Lib.hid hy
  generalize hye : pbytes a1 32 = ys at *
  clear hye hy
  have HRX := Lib.hid (HX.out.rd (w0 := w) (R := Ly ++ (Lx ++ [])) ((List.sublist_append_left _ _).trans (List.sublist_append_right _ _)))
  have HRY := Lib.hid (HY.out.rd (w0 := w) (R := Ly ++ (Lx ++ [])) (List.sublist_append_left _ _))
  go_wp2_with fail
  have hw := write_go (s := newSt 2) (i := 1) (xs := xs) (by rfl) HXL.out rfl
  have hcall := write_is HD.out HO3.out 1 _ xs HRX.out (by simp [newSt_pend]) ⟨zsecs 2, [(1, xs)], -1, false⟩ 0 hw.1 hw.2
  with_reducible refine hcall.mono ?_
  clear hcall
  rintro e w4 ⟨rfl, L4, hd4, hO4⟩
  have HD4 := Lib.hid hd4; have HO4 := Lib.hid hO4; clear hd4 hO4 HD HO3 hw
  go_wp2_with fail
  have hcall := flush_is HD4.out HO4.out ⟨[zsec, xs], [], -1, false⟩ 0 rfl rfl
  with_reducible refine hcall.mono ?_
  clear hcall
  rintro e w5 ⟨rfl, L5, hd5, hO5⟩
  have HD5 := Lib.hid hd5; have HO5 := Lib.hid hO5; clear hd5 hO5 HD4 HO4
  go_wp2_with fail
  have hw := write_go (s := ⟨[zsec, xs], [], -1, false⟩) (i := 1) (xs := ys) (by rfl) HYL.out rfl
  have hcall := write_is HD5.out HO5.out 1 _ ys HRY.out (by simp) ⟨[zsec, xs], [(1, ys)], -1, false⟩ 0 hw.1 hw.2
  with_reducible refine hcall.mono ?_
  clear hcall
  rintro e w6 ⟨rfl, L6, hd6, hO6⟩
  have HD6 := Lib.hid hd6; have HO6 := Lib.hid hO6; clear hd6 hO6 HD5 HO5 hw
  go_wp2_with fail
  have hcall := read_ok HD6.out HO6.out 1 ys (by rfl) (by rfl)
  with_reducible refine hcall.mono ?_
  clear hcall
  rintro e w7 ⟨vr, Lr, Ld8, rfl, hd7, hO7, hr⟩
  obtain ⟨ar, cr, rfl, _⟩ : ∃ ad c, vr = .slice (some ad) 32 c ∧ _ := (hr.bs hO7).at_ (n := 31) HYL.out
  have hbr := Lib.hid (hr.bs hO7)
  have hby := Lib.hid (HY.out.bs hO7.right.right)
  have HD8 := Lib.hid hd7; have HO7 := Lib.hid hO7.right; clear hd7 hO7 hr HD6 HO6
  go_wp2_with fail
  have hcall := same_c (.slice (some ar) 32 cr) (.slice (some ay) 32 cy) ys ys hbr.out hby.out (by rw [HYL.out]; omega)
  with_reducible refine hcall.mono ?_
  clear hcall
  rintro e w' ⟨rfl, m, rfl⟩
  rw [show decide (ys = ys) = true by simp]
  have HO8 := Lib.hid (HO7.out.drewN m)
  clear HO7 hbr hby
  generalize w7.drewN m = w8 at *
  by_cases h9 : a2.tmod 9 = 8
  · have h9' : (a2.tmod 9 != 8) = false := by simp [h9]
    clear h9
    have hbi := build_int1 a2
    go_wp2_with (refine wl_buildSlice rfl _ _ _ rfl HO8.out _ (by exact hbi _) ?_; intro gk w9 hO9; have HO9 := Lib.hid hO9; clear hO9 HO8)
    have hO9 := Own.rot (A := [_]) HO9.out
    have hO9' : Own w w9 (Ld8 ++ ([(gk, Obj.cells (iv [a2]).toArray 3)] ++ (Ly ++ (Lx ++ [])))) := hO9
    have hrk : RdV w ([(gk, Obj.cells (iv [a2]).toArray 3)] ++ (Ly ++ (Lx ++ []))) (.slice (some ⟨gk, 0, none⟩) 1 1) (iv [a2]) := rdv_block (t := 3) (by simp) rfl (Nat.le_refl _)
    have hcall := crash_is HD8.out hO9' (.slice (some ⟨gk, 0, none⟩) 1 1) [a2] hrk ⟨[zsec, torn xs ys (a2)], [], -1, false⟩ (torn_crash xs ys (a2))
    with_reducible refine hcall.mono ?_
    clear hcall
    rintro e w10 ⟨rfl, L10, hd10, hO10⟩
    have HD10 := Lib.hid hd10; have HO10 := Lib.hid hO10; clear hd10 hO10 hrk hO9 hO9' HO9 HD8 hbi
    go_wp2_with fail
    have hcall := read_ok HD10.out HO10.out 1 (torn xs ys (a2)) (by rfl) (by rfl)
    with_reducible refine hcall.mono ?_
    clear hcall
    rintro e w11 ⟨vb, Lb, L11, rfl, hd11, hO11, hb⟩
    have hbb := hb.bs hO11
    have hbx : Bs w11 (.slice (some ax) 32 cx) xs := HX.out.bs (by exact (hO11.right.right.right.rot))
    have hby : Bs w11 (.slice (some ay) 32 cy) ys := HY.out.bs (by exact (hO11.right.right.right))
    obtain ⟨ab, cb, rfl, hcb⟩ : ∃ ad c, vb = .slice (some ad) 32 c ∧ _ := hbb.at_ (n := 31) (length_torn xs ys (a2) HXL.out HYL.out)
    obtain ⟨ax', cx', ex, hcx⟩ := hbx.at_ (n := 31) HXL.out
    obtain ⟨ay', cy', ey, hcy⟩ := hby.at_ (n := 31) HYL.out
    cases ex
    cases ey
    have hp11 := Lib.hid (pending_is hd11 hO11.right 0 rfl)
    have HO11 := Lib.hid hO11
    have HCB := Lib.hid hcb; have HCX := Lib.hid hcx; have HCY := Lib.hid hcy
    clear hbb hbx hby hcb hcx hcy hb hd11 hO11 HD10 HO10
    go_wp2
    go_loop [70] (fun t => ∃ k : Nat, k ≤ 32 ∧ t = .int .i64 k) (fun t => 32 - (intOf t).toNat)
    case atStart => exact ⟨0, by omega, rfl⟩
    case round =>
      obtain ⟨k, hk, rfl⟩ := hrel
      by_cases hlt : k < 32
      · have hkx : k < xs.length := by rw [HXL.out]; exact hlt
        have hky : k < ys.length := by rw [HYL.out]; exact hlt
        have c1 : w11.cell? (ax.add k) = some (.int .u8 xs[k]) := HCX.out k _ (List.getElem?_eq_getElem hkx)
        have c2 : w11.cell? (ay.add k) = some (.int .u8 ys[k]) := HCY.out k _ (List.getElem?_eq_getElem hky)
        have hz := torn_get xs ys (a2) k HXL.out HYL.out hlt
        have hz3 := HCB.out k _ hz
        generalize xs[k] = a at *
        generalize ys[k] = b at *
        have hk0 : (0 : Int) ≤ k := by omega
        have hk32 : (k : Int) < 32 := by omega
        have haa : (a != a) = false := by simp
        have hbb : (b != b) = false := by simp
        clear hz hkx hky HCB HCX HCY
        by_cases h2 : (a2) = 2
        · have h2' : ((a2) == 2) = true := by simp [h2]
          rw [if_pos (.inl h2)] at hz3
          clear h2
          go_wp2
          go_round
          case rel => exact ⟨k + 1, by omega, by go_num⟩
          case measure => simp [intOf]; omega
        · have h2' : ((a2) == 2) = false := by simp [h2]
          by_cases h1 : (a2) = 1
          · have h1' : ((a2) == 1) = true := by simp [h1]
            by_cases h16 : k < 16
            · have h16' : (k : Int) < 16 := by omega
              rw [if_pos (.inr ⟨h1, h16⟩)] at hz3
              clear h2 h1
              go_wp2
              go_round
              case rel => exact ⟨k + 1, by omega, by go_num⟩
              case measure => simp [intOf]; omega
            · have h16' : ¬ (k : Int) < 16 := by omega
              rw [if_neg (by rintro (h | h); exact h2 h; exact h16 h.2)] at hz3
              clear h2 h1
              go_wp2
              go_round
              case rel => exact ⟨k + 1, by omega, by go_num⟩
              case measure => simp [intOf]; omega
          · have h1' : ((a2) == 1) = false := by simp [h1]
            rw [if_neg (by rintro (h | h); exact h2 h; exact h1 h.1)] at hz3
            clear h2 h1
            go_wp2
            go_round
            case rel => exact ⟨k + 1, by omega, by go_num⟩
            case measure => simp [intOf]; omega
      · obtain rfl : k = 32 := by omega
        clear HCB HCX HCY
        go_wp2_with fail
        with_reducible refine hp11.out.mono ?_
        rintro e w' ⟨rfl, rfl⟩
        go_wp2_with fail
        have hcall := wakes_c HO11.out
        with_reducible refine hcall.mono ?_
        clear hcall
        rintro e w12 ⟨rfl, hO12⟩
        have HO12 := Lib.hid hO12; clear hO12 HO11
        go_wp2
        go_ret
        exact HO12.out.yes rfl
  · have h9' : (a2.tmod 9 != 8) = true := by simp [h9]
    clear h9
    go_wp2_with fail
    have hcall := within_c (w := w8) a2 3 (by omega) (by omega)
    with_reducible refine hcall.mono ?_
    clear hcall
    rintro e w' ⟨rfl, rfl⟩
    have hbi := build_int1 (a2 % 3)
    go_wp2_with (refine wl_buildSlice rfl _ _ _ rfl HO8.out _ (by exact hbi _) ?_; intro gk w9 hO9; have HO9 := Lib.hid hO9; clear hO9 HO8)
    have hO9 := Own.rot (A := [_]) HO9.out
    have hO9' : Own w w9 (Ld8 ++ ([(gk, Obj.cells (iv [a2 % 3]).toArray 3)] ++ (Ly ++ (Lx ++ [])))) := hO9
    have hrk : RdV w ([(gk, Obj.cells (iv [a2 % 3]).toArray 3)] ++ (Ly ++ (Lx ++ []))) (.slice (some ⟨gk, 0, none⟩) 1 1) (iv [a2 % 3]) := rdv_block (t := 3) (by simp) rfl (Nat.le_refl _)
    have hcall := crash_is HD8.out hO9' (.slice (some ⟨gk, 0, none⟩) 1 1) [a2 % 3] hrk ⟨[zsec, torn xs ys (a2 % 3)], [], -1, false⟩ (torn_crash xs ys (a2 % 3))
    with_reducible refine hcall.mono ?_
    clear hcall
    rintro e w10 ⟨rfl, L10, hd10, hO10⟩
    have HD10 := Lib.hid hd10; have HO10 := Lib.hid hO10; clear hd10 hO10 hrk hO9 hO9' HO9 HD8 hbi
    go_wp2_with fail
    have hcall := read_ok HD10.out HO10.out 1 (torn xs ys (a2 % 3)) (by rfl) (by rfl)
    with_reducible refine hcall.mono ?_
    clear hcall
    rintro e w11 ⟨vb, Lb, L11, rfl, hd11, hO11, hb⟩
    have hbb := hb.bs hO11
    have hbx : Bs w11 (.slice (some ax) 32 cx) xs := HX.out.bs (by exact (hO11.right.right.right.rot))
    have hby : Bs w11 (.slice (some ay) 32 cy) ys := HY.out.bs (by exact (hO11.right.right.right))
    obtain ⟨ab, cb, rfl, hcb⟩ : ∃ ad c, vb = .slice (some ad) 32 c ∧ _ := hbb.at_ (n := 31) (length_torn xs ys (a2 % 3) HXL.out HYL.out)
    obtain ⟨ax', cx', ex, hcx⟩ := hbx.at_ (n := 31) HXL.out
    obtain ⟨ay', cy', ey, hcy⟩ := hby.at_ (n := 31) HYL.out
    cases ex
    cases ey
    have hp11 := Lib.hid (pending_is hd11 hO11.right 0 rfl)
    have HO11 := Lib.hid hO11
    have HCB := Lib.hid hcb; have HCX := Lib.hid hcx; have HCY := Lib.hid hcy
    clear hbb hbx hby hcb hcx hcy hb hd11 hO11 HD10 HO10
    go_wp2
    go_loop [70] (fun t => ∃ k : Nat, k ≤ 32 ∧ t = .int .i64 k) (fun t => 32 - (intOf t).toNat)
    case atStart => exact ⟨0, by omega, rfl⟩
    case round =>
      obtain ⟨k, hk, rfl⟩ := hrel
      by_cases hlt : k < 32
      · have hkx : k < xs.length := by rw [HXL.out]; exact hlt
        have hky : k < ys.length := by rw [HYL.out]; exact hlt
        have c1 : w11.cell? (ax.add k) = some (.int .u8 xs[k]) := HCX.out k _ (List.getElem?_eq_getElem hkx)
        have c2 : w11.cell? (ay.add k) = some (.int .u8 ys[k]) := HCY.out k _ (List.getElem?_eq_getElem hky)
        have hz := torn_get xs ys (a2 % 3) k HXL.out HYL.out hlt
        have hz3 := HCB.out k _ hz
        generalize xs[k] = a at *
        generalize ys[k] = b at *
        have hk0 : (0 : Int) ≤ k := by omega
        have hk32 : (k : Int) < 32 := by omega
        have haa : (a != a) = false := by simp
        have hbb : (b != b) = false := by simp
        clear hz hkx hky HCB HCX HCY
        by_cases h2 : (a2 % 3) = 2
        · have h2' : ((a2 % 3) == 2) = true := by simp [h2]
          rw [if_pos (.inl h2)] at hz3
          clear h2
          go_wp2
          go_round
          case rel => exact ⟨k + 1, by omega, by go_num⟩
          case measure => simp [intOf]; omega
        · have h2' : ((a2 % 3) == 2) = false := by simp [h2]
          by_cases h1 : (a2 % 3) = 1
          · have h1' : ((a2 % 3) == 1) = true := by simp [h1]
            by_cases h16 : k < 16
            · have h16' : (k : Int) < 16 := by omega
              rw [if_pos (.inr ⟨h1, h16⟩)] at hz3
              clear h2 h1
              go_wp2
              go_round
              case rel => exact ⟨k + 1, by omega, by go_num⟩
              case measure => simp [intOf]; omega
            · have h16' : ¬ (k : Int) < 16 := by omega
              rw [if_neg (by rintro (h | h); exact h2 h; exact h16 h.2)] at hz3
              clear h2 h1
              go_wp2
              go_round
              case rel => exact ⟨k + 1, by omega, by go_num⟩
              case measure => simp [intOf]; omega
          · have h1' : ((a2 % 3) == 1) = false := by simp [h1]
            rw [if_neg (by rintro (h | h); exact h2 h; exact h1 h.1)] at hz3
            clear h2 h1
            go_wp2
            go_round
            case rel => exact ⟨k + 1, by omega, by go_num⟩
            case measure => simp [intOf]; omega
      · obtain rfl : k = 32 := by omega
        clear HCB HCX HCY
        go_wp2_with fail
        with_reducible refine hp11.out.mono ?_
        rintro e w' ⟨rfl, rfl⟩
        go_wp2_with fail
        have hcall := wakes_c HO11.out
        with_reducible refine hcall.mono ?_
        clear hcall
        rintro e w12 ⟨rfl, hO12⟩
        have HO12 := Lib.hid hO12; clear hO12 HO11
        go_wp2
        go_ret
        exact HO12.out.yes rfl
set_option maxRecDepth 100000 in
theorem diskTears_lifted (os : Os) (started : os.Started) (H : Type) (enc : TypeId × Value → H) :
    ReturnsInHanded {} Try.checked os 7 .any (Rows.diskTearsSpec.pre6 enc Try.prog Try.f7 Rows.diskTearsRow.domain false) (Rows.diskTearsSpec.post enc Try.prog Try.f7 false true false false) := by
  refine returnsInHanded_of_change (C := Try.checked) (by kernel_rfl) started (by kernel_rfl) Try.func7
    (ChangeSpec.witness6 (enc := enc) (C := Try.checked) false ⟨#[], #[.int .i64 0, .int .i64 0, .int .i64 0], []⟩ 8 (by kernel_rfl) (by kernel_rfl) (by kernel_rfl) (by kernel_rfl)) ?_
  intro W base args ds gs before hval0 hW hcnd _
  have hval : ∀ (j : Nat) t v, Try.f7.params[j]? = some t → args[j]? = some v → Value.okWide Try.prog W .any base t v := hval0
  have hW' := hW
  obtain ⟨p, q, hA0, hV, rfl, hfz, hnd⟩ := hW
  have hA : DataW.TrodAll enc Try.prog W 0 (fun _ => true) true Try.f7.params.toList args.toList ds p := hA0
  rw [Try.params7] at hA hval
  obtain ⟨v0, vs0, d0, ds0, p0, q0, hargs, rfl, rfl, h0, r0⟩ := trodAll_cons hA
  obtain ⟨v1, vs1, d1, ds1, p1, q1, rfl, rfl, rfl, h1, r1⟩ := trodAll_cons r0
  obtain ⟨v2, vs2, d2, ds2, p2, q2, rfl, rfl, rfl, h2, r2⟩ := trodAll_cons r1
  obtain ⟨rfl, rfl, rfl⟩ := trodAll_nil r2
  obtain rfl : args = #[v0, v1, v2] := by cases args; simp_all
  obtain ⟨rfl, rfl⟩ := trodVars_none hV
  obtain ⟨a0, rfl, rfl, rfl, w0⟩ := open_int Try.underlying3 (hval 0 3 v0 rfl rfl) h0
  obtain ⟨a1, rfl, rfl, rfl, w1⟩ := open_int Try.underlying3 (hval 1 3 v1 rfl rfl) h1
  obtain ⟨a2, rfl, rfl, rfl, w2⟩ := open_int Try.underlying3 (hval 2 3 v2 rfl rfl) h2
  clear hA0 hval0
  refine (diskTears_walk a0 w0 a1 w1 a2 w2 W).mono fun e W' ⟨he, bel⟩ => ?_
  subst he
  exact ⟨_, rfl, _, _, _, [], _, [], hW', trodAll_mk1 (shut_bool Try.underlying4 _), (trodAll_cons_mk (shut_int Try.underlying3 w0) (trodAll_cons_mk (shut_int Try.underlying3 w1) (trodAll_cons_mk (shut_int Try.underlying3 w2) trodAll_mk0))), rfl, bel.frame _, fun h => by cases h⟩

/-- The statement. -/
theorem diskTears_proved : Rows.DiskTearsSaid :=
  OpenClaim.holds_of_wide 7 Try.f7 rfl rfl rfl rfl rfl rfl rfl ⟨rfl, rfl, rfl, rfl, rfl⟩ rfl rfl rfl rfl rfl (by kernel_rfl) Try.func7 (by kernel_rfl)
    (of_decide_eq_true (by kernel_rfl)) (by unfold Func.isWrapper; first | (rw [if_pos (by decide +kernel)]; kernel_rfl) | (rw [if_neg (by decide +kernel)]; exact ⟨rfl, rfl⟩))
    (fun os started H enc _ => diskTears_lifted os started H enc)
end Go.Proofs.Ytdngllegoljpeaa
