/-
  DiskErrors: whatever n and size: the calls answer the errors that chapter 1 names, a refused write takes no power, disks of no size and of too great a one are cut: the law returns true.
-/
import Derived.Test.YtdngllegoljpeaaL01a
namespace Go.Proofs.Ytdngllegoljpeaa
set_option linter.unusedVariables false
set_option linter.unusedSimpArgs false
open Go.ChangeShapes Go.WideShapes Go.ChangeAt Go.RowKit
open Go.ChangeMaps (open_string shut_string)

set_option maxRecDepth 100000 in
set_option maxHeartbeats 4000000 in
theorem diskErrors_walk (a0 : Int) (_ : (Lit.int .i64 a0).wf = true) (a1 : Int) (_ : (Lit.int .i64 a1).wf = true) (w : World) :
    Calls Try.prog 4 #[.int .i64 a0, .int .i64 a1] w (Yes w) := by
  have hw1 := within_c (w := w) a0 1000 (by omega) (by omega)
  have hw2 := within_c (w := w) a1 60 (by omega) (by omega)
  obtain ⟨n, hn⟩ := Int.eq_ofNat_of_zero_le (show 0 ≤ a0 % 1000 by omega)
  obtain ⟨k, hk⟩ := Int.eq_ofNat_of_zero_le (show 0 ≤ a1 % 60 by omega)
  have hn1 : n < 1000 := by omega
  have hk1 : k < 60 := by omega
  rw [hn] at hw1
  rw [hk] at hw2
  replace hw1 := Lib.hid hw1
  replace hw2 := Lib.hid hw2
  clear hn hk
  go_enter Try.func4, Try.ntmps4
  go_wp2_with fail
  with_reducible refine hw1.out.mono ?_
  rintro e w' ⟨rfl, rfl⟩
  go_wp2_with fail
  with_reducible refine hw2.out.mono ?_
  rintro e w' ⟨rfl, rfl⟩
  clear hw1 hw2
  go_wp2_with fail
  with_reducible refine (new_is (Own.start w) 3 3 rfl).mono ?_
  rintro e w1 ⟨d, Ld, rfl, hd, hO⟩
  obtain ⟨bd, rfl⟩ := hd.ptr
  have HD := Lib.hid hd; have HO := Lib.hid hO; clear hO hd
  go_wp2_with fail
  with_reducible refine (new_is HO.out (-(1 + ↑n)) 0 (by omega)).mono ?_
  rintro e w2 ⟨d, La, rfl, hd, hO⟩
  obtain ⟨ba, rfl⟩ := hd.ptr
  have HA := Lib.hid hd; have HO2 := Lib.hid hO; clear hO hd HO
  go_wp2_with fail
  with_reducible refine (new_is HO2.out (1024 + (1 + ↑n)) 1024 (by omega)).mono ?_
  rintro e w3 ⟨d, Lb, rfl, hd, hO⟩
  obtain ⟨bb, rfl⟩ := hd.ptr
  have hOa := hO.rot
  have hla := Lib.hid (len_is HA.out hOa 0 (by rw [newSt_n]; rfl))
  have hlb := Lib.hid (len_is hd hO 1024 (by rw [newSt_n]; rfl))
  have HO3 := Lib.hid hO.rot3; clear hO hd HO2 hOa
  go_wp2_with fail
  with_reducible refine hla.out.mono ?_
  rintro e w' ⟨rfl, rfl⟩
  go_wp2_with fail
  with_reducible refine hlb.out.mono ?_
  rintro e w' ⟨rfl, rfl⟩
  have hmk := make_bytes k (by omega)
  clear hla hlb
  by_cases hk32 : k = 32
  · have hkb : ((k : Int) == 32) = true := by simp [hk32]
    have hk5 : (5 : Int) < k := by omega
    have HK := Lib.hid hk32
    clear hk32
    go_wp2_with (refine wl_makeSlice rfl _ _ _ rfl HO3.out _ k k (by exact hmk _) ?_; intro g w4 hO4; have HO4 := Lib.hid hO4; clear hO4 HO3)
    have hO4 := HO4.out
    clear HO4
    replace hO4 : Own w w4 (Ld ++ ([(g, Obj.cells (bv (List.replicate k 0)).toArray 5)] ++ (Lb ++ (La ++ [])))) := Own.rot (A := [_]) hO4
    have hrd4 : ∀ R', (g, Obj.cells (bv (List.replicate k 0)).toArray 5) ∈ R' → Rd w R' (.slice (some ⟨g, 0, none⟩) k k) (List.replicate k 0) := by
      intro R' hm
      have := rd_block (w0 := w) (R := R') (c := k) hm k (by simp) (Nat.le_refl _)
      rwa [List.take_of_length_le (by simp)] at this
    have hrd5 : ∀ R' m, (g, Obj.cells (bv (List.replicate k 0)).toArray 5) ∈ R' → m ≤ k → Rd w R' (.slice (some ⟨g, 0, none⟩) m k) ((List.replicate k 0).take m) := by
      intro R' m hm h
      exact rd_block (w0 := w) (R := R') (c := k) hm m (by simpa using h) h
    have HR := Lib.hid hrd4
    have HR5 := Lib.hid hrd5
    have HO4 := Lib.hid hO4
    clear hO4 hrd4 hrd5 hmk
    with_reducible refine (read_no HD.out HO4.out (-(1 + ↑n)) 9 (refuse9 rfl (by omega)) (by omega)).mono ?_
    rintro e w5 ⟨v5, L5, Ld5, rfl, hd5, hO5, hv5⟩
    have HD5 := Lib.hid hd5; have HO5 := Lib.hid hO5.right; clear hd5 hO5 hv5 HD HO4
    go_wp2_with fail
    with_reducible refine (read_no HD5.out HO5.out (2 + (1 + ↑n)) 9 (refuse9 rfl (by rw [newSt_n]; omega)) (by omega)).mono ?_
    rintro e w6 ⟨v6, L6, Ld6, rfl, hd6, hO6, hv6⟩
    have HD6 := Lib.hid hd6; have HO6 := Lib.hid hO6.right; clear hd6 hO6 hv6 HD5 HO5
    go_wp2_with fail
    with_reducible refine (read_no HA.out (HO6.out.rot4) 0 9 (refuse9 rfl (by rw [newSt_n]; omega)) (by omega)).mono ?_
    rintro e w7 ⟨v7, L7, La7, rfl, hd7, hO7, hv7⟩
    have HO7 := Lib.hid hO7.right.right; clear hd7 hO7 hv7 HO6 HA
    go_wp2_with fail
    have hwr := write_ref (s := newSt 3) (i := -(1 + (n : Int))) (xs := List.replicate k 0) (r := 9) (refuse9 rfl (by omega)) (by omega)
    with_reducible refine (write_is HD6.out HO7.out (-(1 + ↑n)) _ _ (HR.out _ (by simp)) (by simp [newSt_pend]) _ 9 hwr.1 hwr.2).mono ?_
    rintro e w8 ⟨rfl, L8, hd8, hO8⟩
    have HD8 := Lib.hid hd8; have HO8 := Lib.hid hO8; clear hd8 hO8 HD6 HO7 hwr
    go_wp2_with fail
    have hwr := write_ref (s := newSt 3) (i := 2 + (1 + (n : Int))) (xs := List.replicate k 0) (r := 9) (refuse9 rfl (by rw [newSt_n]; omega)) (by omega)
    with_reducible refine (write_is HD8.out HO8.out (2 + (1 + ↑n)) _ _ (HR.out _ (by simp)) (by simp [newSt_pend]) _ 9 hwr.1 hwr.2).mono ?_
    rintro e w9 ⟨rfl, L9, hd9, hO9⟩
    have HD9 := Lib.hid hd9; have HO9 := Lib.hid hO9; clear hd9 hO9 HD8 HO8 hwr
    go_wp2_with fail
    have hw1 := write_go (s := newSt 3) (i := 1) (xs := List.replicate k 0) (refuse0 rfl (by omega) (by rw [newSt_n]; omega)) (by simp [HK.out]) rfl
    with_reducible refine (write_is HD9.out HO9.out 1 _ _ (HR.out _ (by simp)) (by simp [newSt_pend]) _ 0 hw1.1 hw1.2).mono ?_
    rintro e w10 ⟨rfl, L10, hd10, hO10⟩
    obtain ⟨s, hs, hsn, hsd, hsl, hsp⟩ : ∃ s : DSt, IsDisk (.pointer (some ⟨bd, 0, none⟩)) s L10 ∧ s.n = 3 ∧ s.down = false ∧ s.left = -1 ∧ s.pend.length ≤ 1 := ⟨_, hd10, rfl, rfl, rfl, by simp [newSt_pend]⟩
    have HD10 := Lib.hid hs; have HO10 := Lib.hid hO10; clear hs hd10 hO10 HD9 HO9 hw1
    have HSN := Lib.hid hsn; have HSD := Lib.hid hsd; have HSL := Lib.hid hsl; clear hsn hsd hsl
    go_wp2_with fail
    with_reducible refine (limit_c HD10.out HO10.out 0 (by omega)).mono ?_
    rintro e w11 ⟨rfl, L11, hd11, hO11⟩
    rw [show max (0 : Int) (-1) = 0 by omega] at hd11
    have HD11 := Lib.hid hd11; have HO11 := Lib.hid hO11; clear hd11 hO11 HD10 HO10
    go_wp2_with fail
    have hwr := write_ref (s := { s with left := 0 }) (i := -1) (xs := List.replicate k 0) (r := 9) (refuse9 HSD.out (by omega)) (by omega)
    with_reducible refine (write_is HD11.out HO11.out (-1) _ _ (HR.out _ (by simp)) (by show s.pend.length < 1000000; omega) _ 9 hwr.1 hwr.2).mono ?_
    rintro e w12 ⟨rfl, L12, hd12, hO12⟩
    have HD12 := Lib.hid hd12; have HO12 := Lib.hid hO12; clear hd12 hO12 HD11 HO11 hwr
    go_wp2_with fail
    have hwr := write_arg (s := { s with left := 0 }) (i := 0) (xs := (List.replicate k 0).take 5) (refuse0 HSD.out (by omega) (by show (0 : Int) < (s.n : Nat); rw [HSN.out]; omega)) (by simp; omega)
    with_reducible refine (write_is HD12.out HO12.out 0 _ _ (HR5.out _ 5 (by simp) (by omega)) (by show s.pend.length < 1000000; omega) _ 1 hwr.1 hwr.2).mono ?_
    rintro e w13 ⟨rfl, L13, hd13, hO13⟩
    have HD13 := Lib.hid hd13; have HO13 := Lib.hid hO13; clear hd13 hO13 HD12 HO12 hwr
    go_wp2_with fail
    with_reducible refine (down_is HD13.out HO13.out false HSD.out).mono ?_
    rintro e w' ⟨rfl, rfl⟩
    have hmk := make_bytes 32 (by omega)
    go_wp2_with (refine wl_g (by rfl) ?_; refine wl_makeSlice rfl _ _ _ rfl HO13.out _ 32 32 (by exact hmk _) ?_; intro g2 w14 hO14; have HO14 := Lib.hid hO14; clear hO14 HO13)
    have hO15 := Own.rot (A := [_]) HO14.out
    have hrd : Rd w (((g2, Obj.cells (bv (List.replicate 32 0)).toArray 5) :: []) ++ ([(g, Obj.cells (bv (List.replicate k 0)).toArray 5)] ++ (Lb ++ []))) (.slice (some ⟨g2, 0, none⟩) 32 32) (List.replicate 32 0) :=
      rd_block (w0 := w) (c := 32) (xs := List.replicate 32 0) (by simp) 32 (by simp) (Nat.le_refl _)
    have hwr := write_down (s := { s with left := 0 }) (i := 0) (xs := List.replicate 32 0) (refuse0 HSD.out (by omega) (by show (0 : Int) < (s.n : Nat); rw [HSN.out]; omega)) rfl rfl
    with_reducible refine (write_is HD13.out hO15 0 _ _ hrd (by show s.pend.length < 1000000; omega) _ 8 hwr.1 hwr.2).mono ?_
    rintro e w16 ⟨rfl, L16, hd16, hO16⟩
    have HD16 := Lib.hid hd16; have HO16 := Lib.hid hO16; clear hd16 hO16 HD13 HO14 hO15 hwr hrd hmk
    go_wp2_with fail
    with_reducible refine (down_is HD16.out HO16.out true rfl).mono ?_
    rintro e w' ⟨rfl, rfl⟩
    go_wp2_with fail
    with_reducible refine (read_no HD16.out HO16.out (-(1 + ↑n)) 8 (refuse8 rfl) (by omega)).mono ?_
    rintro e w17 ⟨v17, L17, Ld17, rfl, hd17, hO17, hv17⟩
    have HD17 := Lib.hid hd17; have HO17 := Lib.hid hO17.right; clear hd17 hO17 hv17 HD16 HO16
    go_wp2_with fail
    have hwr := write_ref (s := { s with left := 0, down := true }) (i := -(1 + (n : Int))) (xs := []) (r := 8) (refuse8 rfl) (by omega)
    with_reducible refine (write_is HD17.out HO17.out (-(1 + ↑n)) _ _ (rd_nil _ _) (by show s.pend.length < 1000000; omega) _ 8 hwr.1 hwr.2).mono ?_
    rintro e w18 ⟨rfl, L18, hd18, hO18⟩
    have HO18 := Lib.hid hO18; clear hd18 hO18 HD17 HO17 hwr
    go_wp2_with fail
    with_reducible refine (wakes_c HO18.out).mono ?_
    rintro e w19 ⟨rfl, hO19⟩
    have HO19 := Lib.hid hO19; clear hO19 HO18
    go_wp2
    go_ret
    exact HO19.out.yes rfl
  · have hkb : ((k : Int) == 32) = false := by simp; omega
    have HK := Lib.hid hk32
    clear hk32
    by_cases hk5 : (k : Int) ≤ 5
    · skip
      go_wp2_with (refine wl_makeSlice rfl _ _ _ rfl HO3.out _ k k (by exact hmk _) ?_; intro g w4 hO4; have HO4 := Lib.hid hO4; clear hO4 HO3)
      have hO4 := HO4.out
      clear HO4
      replace hO4 : Own w w4 (Ld ++ ([(g, Obj.cells (bv (List.replicate k 0)).toArray 5)] ++ (Lb ++ (La ++ [])))) := Own.rot (A := [_]) hO4
      have hrd4 : ∀ R', (g, Obj.cells (bv (List.replicate k 0)).toArray 5) ∈ R' → Rd w R' (.slice (some ⟨g, 0, none⟩) k k) (List.replicate k 0) := by
        intro R' hm
        have := rd_block (w0 := w) (R := R') (c := k) hm k (by simp) (Nat.le_refl _)
        rwa [List.take_of_length_le (by simp)] at this
      have hrd5 : ∀ R' m, (g, Obj.cells (bv (List.replicate k 0)).toArray 5) ∈ R' → m ≤ k → Rd w R' (.slice (some ⟨g, 0, none⟩) m k) ((List.replicate k 0).take m) := by
        intro R' m hm h
        exact rd_block (w0 := w) (R := R') (c := k) hm m (by simpa using h) h
      have HR := Lib.hid hrd4
      have HR5 := Lib.hid hrd5
      have HO4 := Lib.hid hO4
      clear hO4 hrd4 hrd5 hmk
      with_reducible refine (read_no HD.out HO4.out (-(1 + ↑n)) 9 (refuse9 rfl (by omega)) (by omega)).mono ?_
      rintro e w5 ⟨v5, L5, Ld5, rfl, hd5, hO5, hv5⟩
      have HD5 := Lib.hid hd5; have HO5 := Lib.hid hO5.right; clear hd5 hO5 hv5 HD HO4
      go_wp2_with fail
      with_reducible refine (read_no HD5.out HO5.out (2 + (1 + ↑n)) 9 (refuse9 rfl (by rw [newSt_n]; omega)) (by omega)).mono ?_
      rintro e w6 ⟨v6, L6, Ld6, rfl, hd6, hO6, hv6⟩
      have HD6 := Lib.hid hd6; have HO6 := Lib.hid hO6.right; clear hd6 hO6 hv6 HD5 HO5
      go_wp2_with fail
      with_reducible refine (read_no HA.out (HO6.out.rot4) 0 9 (refuse9 rfl (by rw [newSt_n]; omega)) (by omega)).mono ?_
      rintro e w7 ⟨v7, L7, La7, rfl, hd7, hO7, hv7⟩
      have HO7 := Lib.hid hO7.right.right; clear hd7 hO7 hv7 HO6 HA
      go_wp2_with fail
      have hwr := write_ref (s := newSt 3) (i := -(1 + (n : Int))) (xs := List.replicate k 0) (r := 9) (refuse9 rfl (by omega)) (by omega)
      with_reducible refine (write_is HD6.out HO7.out (-(1 + ↑n)) _ _ (HR.out _ (by simp)) (by simp [newSt_pend]) _ 9 hwr.1 hwr.2).mono ?_
      rintro e w8 ⟨rfl, L8, hd8, hO8⟩
      have HD8 := Lib.hid hd8; have HO8 := Lib.hid hO8; clear hd8 hO8 HD6 HO7 hwr
      go_wp2_with fail
      have hwr := write_ref (s := newSt 3) (i := 2 + (1 + (n : Int))) (xs := List.replicate k 0) (r := 9) (refuse9 rfl (by rw [newSt_n]; omega)) (by omega)
      with_reducible refine (write_is HD8.out HO8.out (2 + (1 + ↑n)) _ _ (HR.out _ (by simp)) (by simp [newSt_pend]) _ 9 hwr.1 hwr.2).mono ?_
      rintro e w9 ⟨rfl, L9, hd9, hO9⟩
      have HD9 := Lib.hid hd9; have HO9 := Lib.hid hO9; clear hd9 hO9 HD8 HO8 hwr
      go_wp2_with fail
      have hw1 := write_arg (s := newSt 3) (i := 1) (xs := List.replicate k 0) (refuse0 rfl (by omega) (by rw [newSt_n]; omega)) (by simp [HK.out])
      with_reducible refine (write_is HD9.out HO9.out 1 _ _ (HR.out _ (by simp)) (by simp [newSt_pend]) _ 1 hw1.1 hw1.2).mono ?_
      rintro e w10 ⟨rfl, L10, hd10, hO10⟩
      obtain ⟨s, hs, hsn, hsd, hsl, hsp⟩ : ∃ s : DSt, IsDisk (.pointer (some ⟨bd, 0, none⟩)) s L10 ∧ s.n = 3 ∧ s.down = false ∧ s.left = -1 ∧ s.pend.length ≤ 1 := ⟨_, hd10, rfl, rfl, rfl, by simp [newSt_pend]⟩
      have HD10 := Lib.hid hs; have HO10 := Lib.hid hO10; clear hs hd10 hO10 HD9 HO9 hw1
      have HSN := Lib.hid hsn; have HSD := Lib.hid hsd; have HSL := Lib.hid hsl; clear hsn hsd hsl
      go_wp2_with fail
      with_reducible refine (limit_c HD10.out HO10.out 0 (by omega)).mono ?_
      rintro e w11 ⟨rfl, L11, hd11, hO11⟩
      rw [show max (0 : Int) (-1) = 0 by omega] at hd11
      have HD11 := Lib.hid hd11; have HO11 := Lib.hid hO11; clear hd11 hO11 HD10 HO10
      go_wp2_with fail
      have hwr := write_ref (s := { s with left := 0 }) (i := -1) (xs := List.replicate k 0) (r := 9) (refuse9 HSD.out (by omega)) (by omega)
      with_reducible refine (write_is HD11.out HO11.out (-1) _ _ (HR.out _ (by simp)) (by show s.pend.length < 1000000; omega) _ 9 hwr.1 hwr.2).mono ?_
      rintro e w12 ⟨rfl, L12, hd12, hO12⟩
      have HD12 := Lib.hid hd12; have HO12 := Lib.hid hO12; clear hd12 hO12 HD11 HO11 hwr
      go_wp2_with fail
      have hwr := write_arg (s := { s with left := 0 }) (i := 0) (xs := (List.replicate k 0).take k) (refuse0 HSD.out (by omega) (by show (0 : Int) < (s.n : Nat); rw [HSN.out]; omega)) (by simp; omega)
      with_reducible refine (write_is HD12.out HO12.out 0 _ _ (HR5.out _ k (by simp) (by omega)) (by show s.pend.length < 1000000; omega) _ 1 hwr.1 hwr.2).mono ?_
      rintro e w13 ⟨rfl, L13, hd13, hO13⟩
      have HD13 := Lib.hid hd13; have HO13 := Lib.hid hO13; clear hd13 hO13 HD12 HO12 hwr
      go_wp2_with fail
      with_reducible refine (down_is HD13.out HO13.out false HSD.out).mono ?_
      rintro e w' ⟨rfl, rfl⟩
      have hmk := make_bytes 32 (by omega)
      go_wp2_with (refine wl_g (by rfl) ?_; refine wl_makeSlice rfl _ _ _ rfl HO13.out _ 32 32 (by exact hmk _) ?_; intro g2 w14 hO14; have HO14 := Lib.hid hO14; clear hO14 HO13)
      have hO15 := Own.rot (A := [_]) HO14.out
      have hrd : Rd w (((g2, Obj.cells (bv (List.replicate 32 0)).toArray 5) :: []) ++ ([(g, Obj.cells (bv (List.replicate k 0)).toArray 5)] ++ (Lb ++ []))) (.slice (some ⟨g2, 0, none⟩) 32 32) (List.replicate 32 0) :=
        rd_block (w0 := w) (c := 32) (xs := List.replicate 32 0) (by simp) 32 (by simp) (Nat.le_refl _)
      have hwr := write_down (s := { s with left := 0 }) (i := 0) (xs := List.replicate 32 0) (refuse0 HSD.out (by omega) (by show (0 : Int) < (s.n : Nat); rw [HSN.out]; omega)) rfl rfl
      with_reducible refine (write_is HD13.out hO15 0 _ _ hrd (by show s.pend.length < 1000000; omega) _ 8 hwr.1 hwr.2).mono ?_
      rintro e w16 ⟨rfl, L16, hd16, hO16⟩
      have HD16 := Lib.hid hd16; have HO16 := Lib.hid hO16; clear hd16 hO16 HD13 HO14 hO15 hwr hrd hmk
      go_wp2_with fail
      with_reducible refine (down_is HD16.out HO16.out true rfl).mono ?_
      rintro e w' ⟨rfl, rfl⟩
      go_wp2_with fail
      with_reducible refine (read_no HD16.out HO16.out (-(1 + ↑n)) 8 (refuse8 rfl) (by omega)).mono ?_
      rintro e w17 ⟨v17, L17, Ld17, rfl, hd17, hO17, hv17⟩
      have HD17 := Lib.hid hd17; have HO17 := Lib.hid hO17.right; clear hd17 hO17 hv17 HD16 HO16
      go_wp2_with fail
      have hwr := write_ref (s := { s with left := 0, down := true }) (i := -(1 + (n : Int))) (xs := []) (r := 8) (refuse8 rfl) (by omega)
      with_reducible refine (write_is HD17.out HO17.out (-(1 + ↑n)) _ _ (rd_nil _ _) (by show s.pend.length < 1000000; omega) _ 8 hwr.1 hwr.2).mono ?_
      rintro e w18 ⟨rfl, L18, hd18, hO18⟩
      have HO18 := Lib.hid hO18; clear hd18 hO18 HD17 HO17 hwr
      go_wp2_with fail
      with_reducible refine (wakes_c HO18.out).mono ?_
      rintro e w19 ⟨rfl, hO19⟩
      have HO19 := Lib.hid hO19; clear hO19 HO18
      go_wp2
      go_ret
      exact HO19.out.yes rfl

    · replace hk5 : (5 : Int) < k := by omega
      go_wp2_with (refine wl_makeSlice rfl _ _ _ rfl HO3.out _ k k (by exact hmk _) ?_; intro g w4 hO4; have HO4 := Lib.hid hO4; clear hO4 HO3)
      have hO4 := HO4.out
      clear HO4
      replace hO4 : Own w w4 (Ld ++ ([(g, Obj.cells (bv (List.replicate k 0)).toArray 5)] ++ (Lb ++ (La ++ [])))) := Own.rot (A := [_]) hO4
      have hrd4 : ∀ R', (g, Obj.cells (bv (List.replicate k 0)).toArray 5) ∈ R' → Rd w R' (.slice (some ⟨g, 0, none⟩) k k) (List.replicate k 0) := by
        intro R' hm
        have := rd_block (w0 := w) (R := R') (c := k) hm k (by simp) (Nat.le_refl _)
        rwa [List.take_of_length_le (by simp)] at this
      have hrd5 : ∀ R' m, (g, Obj.cells (bv (List.replicate k 0)).toArray 5) ∈ R' → m ≤ k → Rd w R' (.slice (some ⟨g, 0, none⟩) m k) ((List.replicate k 0).take m) := by
        intro R' m hm h
        exact rd_block (w0 := w) (R := R') (c := k) hm m (by simpa using h) h
      have HR := Lib.hid hrd4
      have HR5 := Lib.hid hrd5
      have HO4 := Lib.hid hO4
      clear hO4 hrd4 hrd5 hmk
      with_reducible refine (read_no HD.out HO4.out (-(1 + ↑n)) 9 (refuse9 rfl (by omega)) (by omega)).mono ?_
      rintro e w5 ⟨v5, L5, Ld5, rfl, hd5, hO5, hv5⟩
      have HD5 := Lib.hid hd5; have HO5 := Lib.hid hO5.right; clear hd5 hO5 hv5 HD HO4
      go_wp2_with fail
      with_reducible refine (read_no HD5.out HO5.out (2 + (1 + ↑n)) 9 (refuse9 rfl (by rw [newSt_n]; omega)) (by omega)).mono ?_
      rintro e w6 ⟨v6, L6, Ld6, rfl, hd6, hO6, hv6⟩
      have HD6 := Lib.hid hd6; have HO6 := Lib.hid hO6.right; clear hd6 hO6 hv6 HD5 HO5
      go_wp2_with fail
      with_reducible refine (read_no HA.out (HO6.out.rot4) 0 9 (refuse9 rfl (by rw [newSt_n]; omega)) (by omega)).mono ?_
      rintro e w7 ⟨v7, L7, La7, rfl, hd7, hO7, hv7⟩
      have HO7 := Lib.hid hO7.right.right; clear hd7 hO7 hv7 HO6 HA
      go_wp2_with fail
      have hwr := write_ref (s := newSt 3) (i := -(1 + (n : Int))) (xs := List.replicate k 0) (r := 9) (refuse9 rfl (by omega)) (by omega)
      with_reducible refine (write_is HD6.out HO7.out (-(1 + ↑n)) _ _ (HR.out _ (by simp)) (by simp [newSt_pend]) _ 9 hwr.1 hwr.2).mono ?_
      rintro e w8 ⟨rfl, L8, hd8, hO8⟩
      have HD8 := Lib.hid hd8; have HO8 := Lib.hid hO8; clear hd8 hO8 HD6 HO7 hwr
      go_wp2_with fail
      have hwr := write_ref (s := newSt 3) (i := 2 + (1 + (n : Int))) (xs := List.replicate k 0) (r := 9) (refuse9 rfl (by rw [newSt_n]; omega)) (by omega)
      with_reducible refine (write_is HD8.out HO8.out (2 + (1 + ↑n)) _ _ (HR.out _ (by simp)) (by simp [newSt_pend]) _ 9 hwr.1 hwr.2).mono ?_
      rintro e w9 ⟨rfl, L9, hd9, hO9⟩
      have HD9 := Lib.hid hd9; have HO9 := Lib.hid hO9; clear hd9 hO9 HD8 HO8 hwr
      go_wp2_with fail
      have hw1 := write_arg (s := newSt 3) (i := 1) (xs := List.replicate k 0) (refuse0 rfl (by omega) (by rw [newSt_n]; omega)) (by simp [HK.out])
      with_reducible refine (write_is HD9.out HO9.out 1 _ _ (HR.out _ (by simp)) (by simp [newSt_pend]) _ 1 hw1.1 hw1.2).mono ?_
      rintro e w10 ⟨rfl, L10, hd10, hO10⟩
      obtain ⟨s, hs, hsn, hsd, hsl, hsp⟩ : ∃ s : DSt, IsDisk (.pointer (some ⟨bd, 0, none⟩)) s L10 ∧ s.n = 3 ∧ s.down = false ∧ s.left = -1 ∧ s.pend.length ≤ 1 := ⟨_, hd10, rfl, rfl, rfl, by simp [newSt_pend]⟩
      have HD10 := Lib.hid hs; have HO10 := Lib.hid hO10; clear hs hd10 hO10 HD9 HO9 hw1
      have HSN := Lib.hid hsn; have HSD := Lib.hid hsd; have HSL := Lib.hid hsl; clear hsn hsd hsl
      go_wp2_with fail
      with_reducible refine (limit_c HD10.out HO10.out 0 (by omega)).mono ?_
      rintro e w11 ⟨rfl, L11, hd11, hO11⟩
      rw [show max (0 : Int) (-1) = 0 by omega] at hd11
      have HD11 := Lib.hid hd11; have HO11 := Lib.hid hO11; clear hd11 hO11 HD10 HO10
      go_wp2_with fail
      have hwr := write_ref (s := { s with left := 0 }) (i := -1) (xs := List.replicate k 0) (r := 9) (refuse9 HSD.out (by omega)) (by omega)
      with_reducible refine (write_is HD11.out HO11.out (-1) _ _ (HR.out _ (by simp)) (by show s.pend.length < 1000000; omega) _ 9 hwr.1 hwr.2).mono ?_
      rintro e w12 ⟨rfl, L12, hd12, hO12⟩
      have HD12 := Lib.hid hd12; have HO12 := Lib.hid hO12; clear hd12 hO12 HD11 HO11 hwr
      go_wp2_with fail
      have hwr := write_arg (s := { s with left := 0 }) (i := 0) (xs := (List.replicate k 0).take 5) (refuse0 HSD.out (by omega) (by show (0 : Int) < (s.n : Nat); rw [HSN.out]; omega)) (by simp; omega)
      with_reducible refine (write_is HD12.out HO12.out 0 _ _ (HR5.out _ 5 (by simp) (by omega)) (by show s.pend.length < 1000000; omega) _ 1 hwr.1 hwr.2).mono ?_
      rintro e w13 ⟨rfl, L13, hd13, hO13⟩
      have HD13 := Lib.hid hd13; have HO13 := Lib.hid hO13; clear hd13 hO13 HD12 HO12 hwr
      go_wp2_with fail
      with_reducible refine (down_is HD13.out HO13.out false HSD.out).mono ?_
      rintro e w' ⟨rfl, rfl⟩
      have hmk := make_bytes 32 (by omega)
      go_wp2_with (refine wl_g (by rfl) ?_; refine wl_makeSlice rfl _ _ _ rfl HO13.out _ 32 32 (by exact hmk _) ?_; intro g2 w14 hO14; have HO14 := Lib.hid hO14; clear hO14 HO13)
      have hO15 := Own.rot (A := [_]) HO14.out
      have hrd : Rd w (((g2, Obj.cells (bv (List.replicate 32 0)).toArray 5) :: []) ++ ([(g, Obj.cells (bv (List.replicate k 0)).toArray 5)] ++ (Lb ++ []))) (.slice (some ⟨g2, 0, none⟩) 32 32) (List.replicate 32 0) :=
        rd_block (w0 := w) (c := 32) (xs := List.replicate 32 0) (by simp) 32 (by simp) (Nat.le_refl _)
      have hwr := write_down (s := { s with left := 0 }) (i := 0) (xs := List.replicate 32 0) (refuse0 HSD.out (by omega) (by show (0 : Int) < (s.n : Nat); rw [HSN.out]; omega)) rfl rfl
      with_reducible refine (write_is HD13.out hO15 0 _ _ hrd (by show s.pend.length < 1000000; omega) _ 8 hwr.1 hwr.2).mono ?_
      rintro e w16 ⟨rfl, L16, hd16, hO16⟩
      have HD16 := Lib.hid hd16; have HO16 := Lib.hid hO16; clear hd16 hO16 HD13 HO14 hO15 hwr hrd hmk
      go_wp2_with fail
      with_reducible refine (down_is HD16.out HO16.out true rfl).mono ?_
      rintro e w' ⟨rfl, rfl⟩
      go_wp2_with fail
      with_reducible refine (read_no HD16.out HO16.out (-(1 + ↑n)) 8 (refuse8 rfl) (by omega)).mono ?_
      rintro e w17 ⟨v17, L17, Ld17, rfl, hd17, hO17, hv17⟩
      have HD17 := Lib.hid hd17; have HO17 := Lib.hid hO17.right; clear hd17 hO17 hv17 HD16 HO16
      go_wp2_with fail
      have hwr := write_ref (s := { s with left := 0, down := true }) (i := -(1 + (n : Int))) (xs := []) (r := 8) (refuse8 rfl) (by omega)
      with_reducible refine (write_is HD17.out HO17.out (-(1 + ↑n)) _ _ (rd_nil _ _) (by show s.pend.length < 1000000; omega) _ 8 hwr.1 hwr.2).mono ?_
      rintro e w18 ⟨rfl, L18, hd18, hO18⟩
      have HO18 := Lib.hid hO18; clear hd18 hO18 HD17 HO17 hwr
      go_wp2_with fail
      with_reducible refine (wakes_c HO18.out).mono ?_
      rintro e w19 ⟨rfl, hO19⟩
      have HO19 := Lib.hid hO19; clear hO19 HO18
      go_wp2
      go_ret
      exact HO19.out.yes rfl

set_option maxRecDepth 100000 in
theorem diskErrors_lifted (os : Os) (started : os.Started) (H : Type) (enc : TypeId × Value → H) :
    ReturnsInHanded {} Try.checked os 4 .any (Rows.diskErrorsSpec.pre6 enc Try.prog Try.f4 Rows.diskErrorsRow.domain false) (Rows.diskErrorsSpec.post enc Try.prog Try.f4 false true false false) := by
  refine returnsInHanded_of_change (C := Try.checked) (by kernel_rfl) started (by kernel_rfl) Try.func4
    (ChangeSpec.witness6 (enc := enc) (C := Try.checked) false ⟨#[], #[.int .i64 0, .int .i64 0], []⟩ 8 (by kernel_rfl) (by kernel_rfl) (by kernel_rfl) (by kernel_rfl)) ?_
  intro W base args ds gs before hval0 hW hcnd _
  have hval : ∀ (j : Nat) t v, Try.f4.params[j]? = some t → args[j]? = some v → Value.okWide Try.prog W .any base t v := hval0
  have hW' := hW
  obtain ⟨p, q, hA0, hV, rfl, hfz, hnd⟩ := hW
  have hA : DataW.TrodAll enc Try.prog W 0 (fun _ => true) true Try.f4.params.toList args.toList ds p := hA0
  rw [Try.params4] at hA hval
  obtain ⟨v0, vs0, d0, ds0, p0, q0, hargs, rfl, rfl, h0, r0⟩ := trodAll_cons hA
  obtain ⟨v1, vs1, d1, ds1, p1, q1, rfl, rfl, rfl, h1, r1⟩ := trodAll_cons r0
  obtain ⟨rfl, rfl, rfl⟩ := trodAll_nil r1
  obtain rfl : args = #[v0, v1] := by cases args; simp_all
  obtain ⟨rfl, rfl⟩ := trodVars_none hV
  obtain ⟨a0, rfl, rfl, rfl, w0⟩ := open_int Try.underlying3 (hval 0 3 v0 rfl rfl) h0
  obtain ⟨a1, rfl, rfl, rfl, w1⟩ := open_int Try.underlying3 (hval 1 3 v1 rfl rfl) h1
  clear hA0 hval0
  refine (diskErrors_walk a0 w0 a1 w1 W).mono fun e W' ⟨he, bel⟩ => ?_
  subst he
  exact ⟨_, rfl, _, _, _, [], _, [], hW', trodAll_mk1 (shut_bool Try.underlying4 _), (trodAll_cons_mk (shut_int Try.underlying3 w0) (trodAll_cons_mk (shut_int Try.underlying3 w1) trodAll_mk0)), rfl, bel.frame _, fun h => by cases h⟩

/-- The statement. -/
theorem diskErrors_proved : Rows.DiskErrorsSaid :=
  OpenClaim.holds_of_wide 4 Try.f4 rfl rfl rfl rfl rfl rfl rfl ⟨rfl, rfl, rfl, rfl, rfl⟩ rfl rfl rfl rfl rfl (by kernel_rfl) Try.func4 (by kernel_rfl)
    (of_decide_eq_true (by kernel_rfl)) (by unfold Func.isWrapper; first | (rw [if_pos (by decide +kernel)]; kernel_rfl) | (rw [if_neg (by decide +kernel)]; exact ⟨rfl, rfl⟩))
    (fun os started H enc _ => diskErrors_lifted os started H enc)
end Go.Proofs.Ytdngllegoljpeaa
