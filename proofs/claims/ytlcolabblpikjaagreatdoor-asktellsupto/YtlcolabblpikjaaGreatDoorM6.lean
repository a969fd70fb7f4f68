/-
  Texts that the laws stand on: Url5, Url6, Url9.
-/
import Derived.Test.YtlcolabblpikjaaGreatDoorM5

/-
  The document's own Parse of URLs.
-/
namespace Go.Proofs.YtlcolabblpikjaaGreatDoor
set_option linter.unusedVariables false
set_option linter.unusedSimpArgs false
set_option maxRecDepth 20000
open Go.RowKit

theorem slashed_cons (p : List Int) (ps : List (List Int)) : (slashed (p :: ps)).length = p.length + 1 + (slashed ps).length := by
  show ((47 :: p) ++ slashed ps).length = _
  simp only [List.length_append, List.length_cons]
theorem dotGo_len : ∀ (ps st : List (List Int)), (slashed (dotGo st ps)).length ≤ (slashed st).length + 12 * (slashed ps).length
  | [], st => by simp [dotGo, slashed]
  | [p], st => by
    have := dotStep_len st p true
    show (slashed (dotStep st p true)).length ≤ _
    rw [slashed_cons]
    omega
  | p :: q :: r, st => by
    have h1 := dotStep_len st p false
    have h2 := dotGo_len (q :: r) (dotStep st p false)
    show (slashed (dotGo (dotStep st p false) (q :: r))).length ≤ _
    rw [slashed_cons p (q :: r)]
    omega
theorem partsI_len : ∀ l : List Int, (slashed (partsI l)).length = l.length + 1
  | [] => rfl
  | c :: r => by
    have ih := partsI_len r
    unfold partsI
    split
    · rw [slashed_cons, ih]; simp; omega
    · split
      · rename_i p ps hps
        rw [hps, slashed_cons] at ih
        rw [slashed_cons]; simp; omega
      · rename_i hps
        exact absurd hps (partsI_ne r)
theorem dotsI_len (l : List Int) : (dotsI l).length ≤ 12 * (l.length + 1) := by
  unfold dotsI
  have h1 := dotGo_len (partsI (l.drop 1)) []
  rw [partsI_len] at h1
  have h2 : (slashed ([] : List (List Int))).length = 0 := rfl
  rw [h2, List.length_drop] at h1
  omega
def UL.zero : UL := ⟨[], [], 0, [], []⟩
theorem alloc_rurl (w : World) : (Instr.alloc 64 true (.tuple #[])).run Tryz.prog w = .ok (.pointer (some ⟨w.heap.size, 0, none⟩)) (w.alloc (.cells UL.zero.val.toArray 64)) := by kernel_rfl
theorem build_rurl (w : World) : (Instr.build 64 #[]).run Tryz.prog w = .ok (.agg UL.zero.val.toArray) w := by kernel_rfl
theorem one_url (u : UL) : ∀ v ∈ u.val, v.oneCell' = true := by
  intro v hv
  simp only [UL.val, List.mem_cons, List.not_mem_nil, or_false] at hv
  rcases hv with rfl | rfl | rfl | rfl | rfl <;> rfl
def GotU (w0 : World) (R : Blks) (o : Option UL) (e : Ending) (w' : World) : Prop := e = .returned (.tuple #[.agg (o.getD UL.zero).val.toArray, .bool o.isSome]) ∧ Own w0 w' R
theorem http_byt : Byt httpI := by intro x hx; simp [httpI] at hx; omega
theorem https_byt : Byt httpsI := by intro x hx; simp [httpsI] at hx; omega
theorem schemeI_is {t sch r : List Int} (h : schemeI t = some (sch, r)) : (sch = httpI ∧ r = t.drop 7) ∨ (sch = httpsI ∧ r = t.drop 8) := by
  unfold schemeI at h
  split at h
  · cases h; exact .inl ⟨rfl, rfl⟩
  · split at h
    · cases h; exact .inr ⟨rfl, rfl⟩
    · cases h
theorem figI_range {l : List Int} {n : Int} (h : figI l 1 5 = some n) : 0 ≤ n ∧ n < 100000 := by
  unfold figI at h
  split at h
  · rename_i hf
    cases h
    have hb := figN_bound l hf.2.2
    have hall : ∀ k, k < 6 → (10 : Int) ^ k ≤ 10 ^ 5 := by decide
    have := hall l.length (by have := hf.2.1; omega)
    exact ⟨hb.1, Int.lt_of_lt_of_le hb.2 this⟩
  · cases h
/-- Behind the loop over the two schemes. -/
def SchemeState (w0 : World) (R : Blks) (g4 g2 : Nat) (T : List Int) (v : Value) (w : World) : Prop :=
  (∃ sch r, schemeI T = some (sch, r) ∧ v = .string (strOfNums r) ∧ Own w0 w ((g4, .cells (UL.mk sch [] 0 [] []).val.toArray 64) :: (g2, .cells UL.zero.val.toArray 64) :: R)) ∨
  (schemeI T = none ∧ ∃ t, v = .string t ∧ Own w0 w ((g4, .cells UL.zero.val.toArray 64) :: (g2, .cells UL.zero.val.toArray 64) :: R))
/-- Behind the port. -/
def PortState (w0 : World) (R : Blks) (g4 g2 : Nat) (sch host rest : List Int) (v : Value) (w : World) : Prop :=
  ∃ port rest2, portI sch rest = some (port, rest2) ∧ 0 ≤ port ∧ port < 100000 ∧ v = .string (strOfNums rest2) ∧ Byt rest2 ∧ rest2.length ≤ rest.length ∧ Own w0 w ((g4, .cells (UL.mk sch host port [] []).val.toArray 64) :: (g2, .cells UL.zero.val.toArray 64) :: R)
set_option maxRecDepth 100000 in
set_option maxHeartbeats 16000000 in
theorem rparse_c {w0 w : World} {R : Blks} (hO : Own w0 w R) (s : ByteArray) (hs : s.size ≤ 5000000) :
    Calls Tryz.prog 24 #[.string s] w (GotU w0 R (parseI (sb s))) := by
  have HO := Lib.hid hO
  obtain ⟨T, hT⟩ : ∃ T, trimI (sb s) = T := ⟨_, rfl⟩
  have htrim : ∀ w' : World, _ := fun w' => rtrim_c (w := w') s (by omega)
  have hTB : Byt T := by rw [← hT]; exact fun x hx => byt_sb s x ((trimI_sub _).subset hx)
  have hTl : T.length ≤ 5000000 := by rw [← hT]; have := (trimI_sub (sb s)).length_le; rw [length_sb] at this; omega
  have hres : parseI (sb s) = (schemeI T).bind fun p => hostI p.1 p.2 := by unfold parseI; rw [hT]
  rw [hT] at htrim
  rw [hres]
  obtain ⟨res, hr⟩ : ∃ res, ((schemeI T).bind fun p => hostI p.1 p.2) = res := ⟨_, rfl⟩
  rw [hr]
  have HTB := Lib.hid hTB; have HTL := Lib.hid hTl; have HRES := Lib.hid hr
  have hsbT : sb (strOfNums T) = T := sb_str hTB
  have hsT : (strOfNums T).size ≤ 5000000 := by rw [strOfNums_size]; exact hTl
  obtain ⟨Z, hZ⟩ : ∃ Z, strOfNums T = Z := ⟨_, rfl⟩
  rw [hZ] at hsbT hsT htrim
  have HZB := Lib.hid hsbT; have HZS := Lib.hid hsT; have HTR := Lib.hid htrim
  clear hO hT htrim hTB hTl hres hr hsbT hsT hZ
  go_enter Tryz.func24, Tryz.ntmps24
  go_wp2_with (refine wl_alloc rfl _ rfl HO.out _ (alloc_rurl _) ?_; intro g2 w1 hO1; have HO1 := Lib.hid hO1; clear hO1 HO)
  with_reducible refine (HTR.out _).mono ?_
  rintro e w2 ⟨rfl, rfl⟩
  go_upto_block 0 with (first | (refine wl_alloc rfl _ rfl HO1.out _ (alloc_rurl _) ?_; intro g4 w3 hO3; have HO3 := Lib.hid hO3; clear hO3 HO1) | (refine wl_store rfl _ _ _ rfl HO3.out 0 g4 0 _ UL.zero.val _ rfl (by rfl) (by rfl) rurl_size (one_url _) (by decide) ?_; intro w4 hO4; have HO4 := Lib.hid (hO4.cast (L' := (g4, .cells UL.zero.val.toArray 64) :: (g2, .cells UL.zero.val.toArray 64) :: R) rfl); clear hO4 HO3))
  go_cut [0] (fun v wx => SchemeState w0 R g4 g2 T v wx)
  case first =>
    have HO5 := Lib.hid (HO4.out.alloc (.cells (sv [⟨#[104, 116, 116, 112]⟩, ⟨#[104, 116, 116, 112, 115]⟩]).toArray 9))
    clear HO4 HTR HRES
    go_wp2_with fail
    go_loopw [0, 21] (fun u v w' => ∃ k : Nat, k ≤ 2 ∧ u = .string Z ∧ v = .int .i64 k ∧ Hid ((1 ≤ k → begI (httpI ++ [58, 47, 47]) (lowL T) = false) ∧ (2 ≤ k → begI (httpsI ++ [58, 47, 47]) (lowL T) = false)) ∧ Hid (Own w0 w' ((w4.heap.size, .cells (sv [⟨#[104, 116, 116, 112]⟩, ⟨#[104, 116, 116, 112, 115]⟩]).toArray 9) :: (g4, .cells UL.zero.val.toArray 64) :: (g2, .cells UL.zero.val.toArray 64) :: R))) (fun _ v _ => 2 - (intOf v).toNat)
    case atStart => exact ⟨0, by omega, rfl, rfl, Lib.hid ⟨fun h => by omega, fun h => by omega⟩, HO5.out⟩
    case round =>
      obtain ⟨k, hk, rfl, rfl, HNO, HO6⟩ := hrel
      clear HO5
      rcases (by omega : k = 0 ∨ k = 1 ∨ k = 2) with rfl | rfl | rfl
      · have hcell : wr.cell? ⟨w4.heap.size, 0, none⟩ = some (.string ⟨#[104, 116, 116, 112]⟩) := by rw [HO6.out.cell (.head _)]; rfl
        have hX : sb (⟨#[104, 116, 116, 112]⟩ ++ ⟨#[58, 47, 47]⟩) = httpI ++ [58, 47, 47] := by decide +kernel
        have hXs : (⟨#[104, 116, 116, 112]⟩ ++ ⟨#[58, 47, 47]⟩ : ByteArray).size = 7 := by decide +kernel
        obtain ⟨X, hXd⟩ : ∃ X : ByteArray, ⟨#[104, 116, 116, 112]⟩ ++ ⟨#[58, 47, 47]⟩ = X := ⟨_, rfl⟩
        have hadd : (Op.stringOp .add ⟨#[104, 116, 116, 112]⟩ ⟨#[58, 47, 47]⟩).run Tryz.prog wr = .ok (.string X) wr := by rw [← hXd]; exact run_string_add_sum wr _ _ (by decide +kernel)
        rw [hXd] at hX hXs
        clear hXd
        have hlow := rlower_c HO6.out Z (by have := HZS.out; omega)
        rw [HZB.out] at hlow
        have hlB : Byt (lowL T) := lowL_byt HTB.out
        have hbeg : ∀ w' : World, _ := fun w' => begins_c (w := w') (strOfNums (lowL T)) X (by rw [strOfNums_size, lowL, List.length_map]; have := HTL.out; omega) (by rw [hXs]; omega)
        rw [hX, sb_str hlB] at hbeg
        have HBEG := Lib.hid hbeg; have HLOW := Lib.hid hlow
        obtain ⟨b, hb⟩ : ∃ b, begI (httpI ++ [58, 47, 47]) (lowL T) = b := ⟨_, rfl⟩
        rw [hb] at HBEG
        have HB := Lib.hid hb
        have HXX := Lib.hid hXs
        clear hlow hlB hbeg hX hb hXs
        go_wp2_with fail
        with_reducible refine HLOW.out.mono ?_
        rintro e w6 ⟨rfl, hO7⟩
        have HO7 := Lib.hid hO7
        clear hO7 HO6 HLOW hcell hadd
        go_wp2_with fail
        with_reducible refine (HBEG.out _).mono ?_
        rintro e w7 ⟨rfl, rfl⟩
        cases b with
        | true =>
          have h7 : 7 ≤ Z.size := by
            have := begI_len HB.out
            rw [lowL, List.length_map, ← HZB.out, length_sb] at this
            exact this
          have h7I : (7 : Int) ≤ Z.size := by omega
          have hXI : (X.size : Int) = 7 := by rw [HXX.out]; rfl
          have hst : schemeI T = some (httpI, T.drop 7) := by
            unfold schemeI
            rw [if_pos HB.out]
          have hr : Z.extract 7 Z.size = strOfNums (T.drop 7) := by rw [← str_sb (Z.extract 7 Z.size), sb_from, HZB.out]
          have HST := Lib.hid hst; have HR := Lib.hid hr
          clear hst hr HBEG
          go_wp2_with fail
          refine wp_region_lin (fun w' => True) 8 [(0, true), (1, true), (2, true), (3, true), (4, true), (5, true), (6, false), (7, true)] (by kernel_rfl) (by kernel_rfl) (fun _ _ d _ _ h => by cases d <;> exact h) trivial ?_
          simp only [List.map_cons, List.map_nil, pick_zero, pick_succ, List.drop_succ_cons, List.drop_zero]
          iterate 6 (refine lin_q ?_ rfl ?_ ?_; rotate_left 1; (focus (rintro w' -; go_simp; first | done | with_reducible rfl | (trace_state; fail))); simp only [Act.put, List.setIfInBounds_toArray, List.set_cons_zero, List.set_cons_succ])
          refine lin_act ?_
          refine wl_store1 rfl _ _ _ rfl HO7.out.drew 1 g4 0 _ (.string ⟨#[104, 116, 116, 112]⟩) _ rfl (by rfl) (by rfl) (by rfl) (by kernel_rfl) (by rfl) (by decide) ?_
          intro w8 hO8
          refine LinPost.mk trivial ?_
          have HO8 := Lib.hid (hO8.tail.cast (L' := (g4, .cells (UL.mk httpI [] 0 [] []).val.toArray 64) :: (g2, .cells UL.zero.val.toArray 64) :: R) rfl)
          clear hO8 HO7
          simp only [Act.put, List.setIfInBounds_toArray, List.set_cons_zero, List.set_cons_succ]
          iterate 1 (refine lin_q ?_ rfl ?_ ?_; rotate_left 1; (focus (rintro w' -; go_simp; first | done | with_reducible rfl | (trace_state; fail))); simp only [Act.put, List.setIfInBounds_toArray, List.set_cons_zero, List.set_cons_succ])
          refine lin_nil ?_
          go_wp2
          go_meet
          exact .inl ⟨_, _, HST.out, by rw [← HR.out], HO8.out⟩
        | false =>
          go_wp2
          go_roundw
          case rel => exact ⟨0+1, by omega, rfl, by go_num, Lib.hid ⟨fun _ => HB.out, fun h => by omega⟩, HO7.out⟩
          case measure => simp [intOf]
      · have hcell : wr.cell? ⟨w4.heap.size, 1, none⟩ = some (.string ⟨#[104, 116, 116, 112, 115]⟩) := by rw [HO6.out.cell (.head _)]; rfl
        have hX : sb (⟨#[104, 116, 116, 112, 115]⟩ ++ ⟨#[58, 47, 47]⟩) = httpsI ++ [58, 47, 47] := by decide +kernel
        have hXs : (⟨#[104, 116, 116, 112, 115]⟩ ++ ⟨#[58, 47, 47]⟩ : ByteArray).size = 8 := by decide +kernel
        obtain ⟨X, hXd⟩ : ∃ X : ByteArray, ⟨#[104, 116, 116, 112, 115]⟩ ++ ⟨#[58, 47, 47]⟩ = X := ⟨_, rfl⟩
        have hadd : (Op.stringOp .add ⟨#[104, 116, 116, 112, 115]⟩ ⟨#[58, 47, 47]⟩).run Tryz.prog wr = .ok (.string X) wr := by rw [← hXd]; exact run_string_add_sum wr _ _ (by decide +kernel)
        rw [hXd] at hX hXs
        clear hXd
        have hlow := rlower_c HO6.out Z (by have := HZS.out; omega)
        rw [HZB.out] at hlow
        have hlB : Byt (lowL T) := lowL_byt HTB.out
        have hbeg : ∀ w' : World, _ := fun w' => begins_c (w := w') (strOfNums (lowL T)) X (by rw [strOfNums_size, lowL, List.length_map]; have := HTL.out; omega) (by rw [hXs]; omega)
        rw [hX, sb_str hlB] at hbeg
        have HBEG := Lib.hid hbeg; have HLOW := Lib.hid hlow
        obtain ⟨b, hb⟩ : ∃ b, begI (httpsI ++ [58, 47, 47]) (lowL T) = b := ⟨_, rfl⟩
        rw [hb] at HBEG
        have HB := Lib.hid hb
        have HXX := Lib.hid hXs
        clear hlow hlB hbeg hX hb hXs
        go_wp2_with fail
        with_reducible refine HLOW.out.mono ?_
        rintro e w6 ⟨rfl, hO7⟩
        have HO7 := Lib.hid hO7
        clear hO7 HO6 HLOW hcell hadd
        go_wp2_with fail
        with_reducible refine (HBEG.out _).mono ?_
        rintro e w7 ⟨rfl, rfl⟩
        cases b with
        | true =>
          have h7 : 8 ≤ Z.size := by
            have := begI_len HB.out
            rw [lowL, List.length_map, ← HZB.out, length_sb] at this
            exact this
          have h7I : (8 : Int) ≤ Z.size := by omega
          have hXI : (X.size : Int) = 8 := by rw [HXX.out]; rfl
          have hst : schemeI T = some (httpsI, T.drop 8) := by
            unfold schemeI
            rw [if_neg (by rw [HNO.out.1 (by omega)]; simp), if_pos HB.out]
          have hr : Z.extract 8 Z.size = strOfNums (T.drop 8) := by rw [← str_sb (Z.extract 8 Z.size), sb_from, HZB.out]
          have HST := Lib.hid hst; have HR := Lib.hid hr
          clear hst hr HBEG
          go_wp2_with fail
          refine wp_region_lin (fun w' => True) 8 [(0, true), (1, true), (2, true), (3, true), (4, true), (5, true), (6, false), (7, true)] (by kernel_rfl) (by kernel_rfl) (fun _ _ d _ _ h => by cases d <;> exact h) trivial ?_
          simp only [List.map_cons, List.map_nil, pick_zero, pick_succ, List.drop_succ_cons, List.drop_zero]
          iterate 6 (refine lin_q ?_ rfl ?_ ?_; rotate_left 1; (focus (rintro w' -; go_simp; first | done | with_reducible rfl | (trace_state; fail))); simp only [Act.put, List.setIfInBounds_toArray, List.set_cons_zero, List.set_cons_succ])
          refine lin_act ?_
          refine wl_store1 rfl _ _ _ rfl HO7.out.drew 1 g4 0 _ (.string ⟨#[104, 116, 116, 112, 115]⟩) _ rfl (by rfl) (by rfl) (by rfl) (by kernel_rfl) (by rfl) (by decide) ?_
          intro w8 hO8
          refine LinPost.mk trivial ?_
          have HO8 := Lib.hid (hO8.tail.cast (L' := (g4, .cells (UL.mk httpsI [] 0 [] []).val.toArray 64) :: (g2, .cells UL.zero.val.toArray 64) :: R) rfl)
          clear hO8 HO7
          simp only [Act.put, List.setIfInBounds_toArray, List.set_cons_zero, List.set_cons_succ]
          iterate 1 (refine lin_q ?_ rfl ?_ ?_; rotate_left 1; (focus (rintro w' -; go_simp; first | done | with_reducible rfl | (trace_state; fail))); simp only [Act.put, List.setIfInBounds_toArray, List.set_cons_zero, List.set_cons_succ])
          refine lin_nil ?_
          go_wp2
          go_meet
          exact .inl ⟨_, _, HST.out, by rw [← HR.out], HO8.out⟩
        | false =>
          go_wp2
          go_roundw
          case rel => exact ⟨1+1, by omega, rfl, by go_num, Lib.hid ⟨fun _ => HNO.out.1 (by omega), fun _ => HB.out⟩, HO7.out⟩
          case measure => simp [intOf]
      · have hst : schemeI T = none := by
          unfold schemeI
          rw [if_neg (by rw [HNO.out.1 (by omega)]; simp), if_neg (by rw [HNO.out.2 (by omega)]; simp)]
        have HST := Lib.hid hst
        clear hst
        go_wp2
        go_meet
        exact .inr ⟨HST.out, _, rfl, HO6.out.tail⟩
  case rest =>
    clear HO4 HTR
    rcases hcut with ⟨sch, r, hsch, rfl, hO5⟩ | ⟨hsch, tz, rfl, hO5⟩
    · have hsr := schemeI_is hsch
      have hres : res = hostI sch r := by rw [← HRES.out, hsch]; rfl
      have hrB : Byt r := by rcases hsr with ⟨_, rfl⟩ | ⟨_, rfl⟩ <;> exact byt_drop HTB.out _
      have hrl : r.length ≤ 5000000 := by have := HTL.out; rcases hsr with ⟨_, rfl⟩ | ⟨_, rfl⟩ <;> (rw [List.length_drop]; omega)
      have hsl : sch.length ≤ 5 := by rcases hsr with ⟨rfl, _⟩ | ⟨rfl, _⟩ <;> decide
      have hsB : Byt sch := by rcases hsr with ⟨rfl, _⟩ | ⟨rfl, _⟩; exact http_byt; exact https_byt
      have hsne : sch ≠ [] := by rcases hsr with ⟨rfl, _⟩ | ⟨rfl, _⟩ <;> decide
      have hS0 : ((strOfNums sch).toList == []) = false := by rw [beq_lit, sb_str hsB]; exact decide_eq_false hsne
      have hRES2 := Lib.hid hres; have HRB := Lib.hid hrB; have HRL := Lib.hid hrl; have HSL := Lib.hid hsl; have HSB := Lib.hid hsB
      clear HRES hsch hsr hres hrB hrl hsl hsB hsne HTB HTL HZB HZS
      have hu1 : ∀ w' : World, _ := fun w' => until_c (w := w') (strOfNums r) ⟨#[58, 47, 63, 35]⟩ (by rw [strOfNums_size]; have := HRL.out; omega) (by decide)
      have e1 : sb ⟨#[58, 47, 63, 35]⟩ = [58, 47, 63, 35] := by decide +kernel
      rw [e1, sb_str HRB.out] at hu1
      have haB : Byt (ahead [58, 47, 63, 35] r) := ahead_byt HRB.out
      have hbB : Byt (behind [58, 47, 63, 35] r) := behind_byt HRB.out
      have hal : (ahead [58, 47, 63, 35] r).length ≤ 5000000 := Nat.le_trans (ahead_len _ _) HRL.out
      have hbl : (behind [58, 47, 63, 35] r).length ≤ 5000000 := Nat.le_trans (behind_len _ _) HRL.out
      have hhost : res = if HostOk (lowL (ahead [58, 47, 63, 35] r)) then (portI sch (behind [58, 47, 63, 35] r)).bind fun p => restI sch (lowL (ahead [58, 47, 63, 35] r)) p.1 p.2 else none := by rw [hRES2.out]; rfl
      clear e1 hRES2
      generalize ahead [58, 47, 63, 35] r = ho at *
      generalize behind [58, 47, 63, 35] r = rest at *
      have HU1 := Lib.hid hu1; have HAB := Lib.hid haB; have HBB := Lib.hid hbB; have HAL := Lib.hid hal; have HBL := Lib.hid hbl; have HHOST := Lib.hid hhost
      have HO5 := Lib.hid hO5
      have c0 : wc.cell? ⟨g4, 0, none⟩ = some (.string (strOfNums sch)) := by rw [hO5.cell (.head _)]; rfl
      clear hO5 hu1 haB hbB hal hbl hhost
      go_wp2_with fail
      with_reducible refine (HU1.out _).mono ?_
      rintro e w6 ⟨rfl, m6, rfl⟩
      have HO6 := Lib.hid (HO5.out.drewN m6)
      clear HO5 HU1 c0 hS0
      generalize wc.drewN m6 = w6 at *
      go_wp2_with fail
      have hcall := rlower_c HO6.out (strOfNums ho) (by rw [strOfNums_size]; have := HAL.out; omega)
      rw [sb_str HAB.out] at hcall
      with_reducible refine hcall.mono ?_
      clear hcall
      rintro e w7 ⟨rfl, hO7⟩
      have HO7 := Lib.hid hO7; clear hO7 HO6
      have hHB : Byt (lowL ho) := lowL_byt HAB.out
      have hhc : ∀ w' : World, _ := fun w' => host_c (w := w') (strOfNums (lowL ho))
      rw [sb_str hHB] at hhc
      have HHB := Lib.hid hHB; have HHC := Lib.hid hhc
      have hHl : (lowL ho).length ≤ 5000000 := by rw [lowL, List.length_map]; exact HAL.out
      have HHL := Lib.hid hHl
      clear hHB hhc hHl
      generalize lowL ho = host at *
      go_wp2_with (refine wl_store1 rfl _ _ _ rfl HO7.out 0 g4 1 _ (.string (strOfNums host)) _ rfl (by rfl) (by rfl) (by rfl) (by kernel_rfl) (by rfl) (by simp [UL.val]) ?_; intro w8 hO8; have HO8 := Lib.hid (hO8.cast (L' := (g4, .cells (UL.mk sch host 0 [] []).val.toArray 64) :: (g2, .cells UL.zero.val.toArray 64) :: R) rfl); have c1 : w8.cell? ⟨g4, 1, none⟩ = some (.string (strOfNums host)) := (by rw [HO8.out.cell (.head _)]; rfl); clear hO8 HO7)
      with_reducible refine (HHC.out _).mono ?_
      rintro e w9 ⟨rfl, rfl⟩
      clear c1 HHC
      obtain ⟨hok, hokd⟩ : ∃ b, decide (HostOk host) = b := ⟨_, rfl⟩
      rw [hokd]
      have HOKD := Lib.hid hokd; clear hokd
      cases hok with
      | false =>
        have hno : res = none := by rw [HHOST.out, if_neg (of_decide_eq_false HOKD.out)]
        subst hno
        go_wp2_with (refine wl_store rfl _ _ _ rfl HO8.out 1 g2 0 _ UL.zero.val _ rfl (by rfl) (by rfl) rurl_size (one_url _) (by decide) ?_; intro w10 hO10; have HO10 := Lib.hid (hO10.tail.cast (L' := (g2, .cells UL.zero.val.toArray 64) :: R) rfl); clear hO10 HO8)
        have hr0 : w10.cell? ⟨g2, 0, none⟩ = some (Value.string ⟨#[]⟩) := by rw [HO10.out.cell (.head _)]; rfl
        have hr1 : w10.cell? ⟨g2, 1, none⟩ = some (Value.string ⟨#[]⟩) := by rw [HO10.out.cell (.head _)]; rfl
        have hr2 : w10.cell? ⟨g2, 2, none⟩ = some (Value.int .i64 0) := by rw [HO10.out.cell (.head _)]; rfl
        have hr3 : w10.cell? ⟨g2, 3, none⟩ = some (Value.string ⟨#[]⟩) := by rw [HO10.out.cell (.head _)]; rfl
        have hr4 : w10.cell? ⟨g2, 4, none⟩ = some (Value.string ⟨#[]⟩) := by rw [HO10.out.cell (.head _)]; rfl
        exact bodyPost_ret (v := .tuple #[.agg #[.string ⟨#[]⟩, .string ⟨#[]⟩, .int .i64 0, .string ⟨#[]⟩, .string ⟨#[]⟩], .bool false]) (by simp [results, Tryz.results24, go_sem, hr0, hr1, hr2, hr3, hr4]) rfl ⟨rfl, HO10.out.tail⟩

      | true =>
        have hpr : res = (portI sch rest).bind fun p => restI sch host p.1 p.2 := by rw [HHOST.out, if_pos (of_decide_eq_true HOKD.out)]
        have HPR := Lib.hid hpr
        have hbeg : ∀ w' : World, _ := fun w' => begins_c (w := w') (strOfNums rest) ⟨#[58]⟩ (by rw [strOfNums_size]; have := HBL.out; omega) (by decide)
        have e2 : sb ⟨#[58]⟩ = [58] := by decide +kernel
        rw [e2, sb_str HBB.out] at hbeg
        have HBEG := Lib.hid hbeg
        clear hpr hbeg e2 HHOST
        go_wp2_with fail
        with_reducible refine (HBEG.out _).mono ?_
        rintro e w10 ⟨rfl, rfl⟩
        obtain ⟨b, hb⟩ : ∃ b, begI [58] rest = b := ⟨_, rfl⟩
        rw [hb]
        have HB := Lib.hid hb
        clear hb HBEG
        go_upto_if 56 with fail
        go_cut [9] (fun v wx => PortState w0 R g4 g2 sch host rest v wx)
        case first =>
          cases b with
          | false =>
            have hpi : portI sch rest = some (0, rest) := by unfold portI; rw [if_neg (by rw [HB.out]; simp)]
            have HPI := Lib.hid hpi
            clear hpi
            go_wp2
            go_meet
            exact ⟨0, rest, HPI.out, by omega, by omega, rfl, HBB.out, Nat.le_refl _, HO8.out⟩
          | true =>
            have hr1 : 1 ≤ rest.length := begI_len HB.out
            have hr1I : (1 : Int) ≤ (strOfNums rest).size := by rw [strOfNums_size]; omega
            have hnx : (strOfNums rest).extract 1 (strOfNums rest).size = strOfNums (rest.drop 1) := by rw [← str_sb ((strOfNums rest).extract 1 (strOfNums rest).size), sb_from, sb_str HBB.out]
            have hdB : Byt (rest.drop 1) := byt_drop HBB.out 1
            have hdl : (rest.drop 1).length ≤ 5000000 := by rw [List.length_drop]; have := HBL.out; omega
            have hu2 : ∀ w' : World, _ := fun w' => until_c (w := w') (strOfNums (rest.drop 1)) ⟨#[47, 63, 35]⟩ (by rw [strOfNums_size]; omega) (by decide)
            have e3 : sb ⟨#[47, 63, 35]⟩ = [47, 63, 35] := by decide +kernel
            rw [e3, sb_str hdB] at hu2
            have hpi : portI sch rest = (figI (ahead [47, 63, 35] (rest.drop 1)) 1 5).bind fun n => if 65535 < n then none else some (if n = ownI sch then 0 else n, behind [47, 63, 35] (rest.drop 1)) := by unfold portI; rw [if_pos HB.out]
            have hpB : Byt (ahead [47, 63, 35] (rest.drop 1)) := ahead_byt hdB
            have hmB : Byt (behind [47, 63, 35] (rest.drop 1)) := behind_byt hdB
            have hml : (behind [47, 63, 35] (rest.drop 1)).length ≤ rest.length := Nat.le_trans (behind_len _ _) (by rw [List.length_drop]; omega)
            clear e3 hdB hdl
            generalize ahead [47, 63, 35] (rest.drop 1) = pt at *
            generalize behind [47, 63, 35] (rest.drop 1) = more at *
            obtain ⟨Y, hY⟩ : ∃ Y, strOfNums (rest.drop 1) = Y := ⟨_, rfl⟩
            rw [hY] at hu2 hnx
            clear hY
            have hfg : ∀ w' : World, _ := fun w' => figures_c (w := w') (strOfNums pt) 1 5 (by omega)
            rw [sb_str hpB] at hfg
            have HU2 := Lib.hid hu2; have HPI := Lib.hid hpi; have HMB := Lib.hid hmB; have HML := Lib.hid hml; have HFG := Lib.hid hfg
            clear hu2 hpi hpB hmB hml hfg hr1
            go_wp2_with fail
            with_reducible refine (HU2.out _).mono ?_
            rintro e w11 ⟨rfl, m11, rfl⟩
            have HO9 := Lib.hid (HO8.out.drewN m11)
            clear HO8 HU2 hnx hr1I
            generalize w8.drewN m11 = w11 at *
            go_wp2_with fail
            with_reducible refine (HFG.out _).mono ?_
            rintro e w12 ⟨rfl, rfl⟩
            clear HFG
            cases hf : figI pt 1 5 with
            | none =>
              have hno : res = none := by rw [HPR.out, HPI.out, hf]; rfl
              subst hno
              clear hf
              simp only [Option.getD_none, Option.isSome_none]
              go_wp2_with (refine wl_store rfl _ _ _ rfl HO9.out 1 g2 0 _ UL.zero.val _ rfl (by rfl) (by rfl) rurl_size (one_url _) (by decide) ?_; intro w13 hO13; have HO13 := Lib.hid (hO13.tail.cast (L' := (g2, .cells UL.zero.val.toArray 64) :: R) rfl); clear hO13 HO9)
              have hr0 : w13.cell? ⟨g2, 0, none⟩ = some (Value.string ⟨#[]⟩) := by rw [HO13.out.cell (.head _)]; rfl
              have hr1 : w13.cell? ⟨g2, 1, none⟩ = some (Value.string ⟨#[]⟩) := by rw [HO13.out.cell (.head _)]; rfl
              have hr2 : w13.cell? ⟨g2, 2, none⟩ = some (Value.int .i64 0) := by rw [HO13.out.cell (.head _)]; rfl
              have hr3 : w13.cell? ⟨g2, 3, none⟩ = some (Value.string ⟨#[]⟩) := by rw [HO13.out.cell (.head _)]; rfl
              have hr4 : w13.cell? ⟨g2, 4, none⟩ = some (Value.string ⟨#[]⟩) := by rw [HO13.out.cell (.head _)]; rfl
              exact bodyPost_ret (v := .tuple #[.agg #[.string ⟨#[]⟩, .string ⟨#[]⟩, .int .i64 0, .string ⟨#[]⟩, .string ⟨#[]⟩], .bool false]) (by simp [results, Tryz.results24, go_sem, hr0, hr1, hr2, hr3, hr4]) rfl ⟨rfl, HO13.out.tail⟩

            | some n =>
              have hnr := figI_range hf
              by_cases hbig : 65535 < n
              · have hno : res = none := by rw [HPR.out, HPI.out, hf]; simp [hbig]
                subst hno
                clear hf
                simp only [Option.getD_some, Option.isSome_some]
                go_wp2_with (refine wl_store rfl _ _ _ rfl HO9.out 1 g2 0 _ UL.zero.val _ rfl (by rfl) (by rfl) rurl_size (one_url _) (by decide) ?_; intro w13 hO13; have HO13 := Lib.hid (hO13.tail.cast (L' := (g2, .cells UL.zero.val.toArray 64) :: R) rfl); clear hO13 HO9)
                have hr0 : w13.cell? ⟨g2, 0, none⟩ = some (Value.string ⟨#[]⟩) := by rw [HO13.out.cell (.head _)]; rfl
                have hr1 : w13.cell? ⟨g2, 1, none⟩ = some (Value.string ⟨#[]⟩) := by rw [HO13.out.cell (.head _)]; rfl
                have hr2 : w13.cell? ⟨g2, 2, none⟩ = some (Value.int .i64 0) := by rw [HO13.out.cell (.head _)]; rfl
                have hr3 : w13.cell? ⟨g2, 3, none⟩ = some (Value.string ⟨#[]⟩) := by rw [HO13.out.cell (.head _)]; rfl
                have hr4 : w13.cell? ⟨g2, 4, none⟩ = some (Value.string ⟨#[]⟩) := by rw [HO13.out.cell (.head _)]; rfl
                exact bodyPost_ret (v := .tuple #[.agg #[.string ⟨#[]⟩, .string ⟨#[]⟩, .int .i64 0, .string ⟨#[]⟩, .string ⟨#[]⟩], .bool false]) (by simp [results, Tryz.results24, go_sem, hr0, hr1, hr2, hr3, hr4]) rfl ⟨rfl, HO13.out.tail⟩

              · have hps : portI sch rest = some (if n = ownI sch then 0 else n, more) := by rw [HPI.out, hf]; simp [hbig]
                have HPS := Lib.hid hps
                have c0 : w11.cell? ⟨g4, 0, none⟩ = some (.string (strOfNums sch)) := by rw [HO9.out.cell (.head _)]; rfl
                have how : ∀ w' : World, _ := fun w' => own_c (w := w') (strOfNums sch)
                rw [sb_str HSB.out] at how
                have HOW := Lib.hid how
                have hn0 := hnr.1; have hn1 := hnr.2
                clear hf hps how hnr
                simp only [Option.getD_some, Option.isSome_some]
                go_wp2_with fail
                with_reducible refine (HOW.out _).mono ?_
                rintro e w13 ⟨rfl, rfl⟩
                clear c0 HOW
                by_cases heq : n = ownI sch
                · have tn : (n != ownI sch) = false := by simp [heq]
                  have HPS2 := Lib.hid (by rw [HPS.out, if_pos heq] : portI sch rest = some (0, more))
                  clear heq HPS
                  go_wp2
                  go_meet
                  exact ⟨0, more, HPS2.out, by omega, by omega, rfl, HMB.out, HML.out, HO9.out⟩
                · have tn : (n != ownI sch) = true := by simp [heq]
                  have HPS2 := Lib.hid (by rw [HPS.out, if_neg heq] : portI sch rest = some (n, more))
                  clear heq HPS
                  go_wp2_with (refine wl_store1 rfl _ _ _ rfl HO9.out 0 g4 2 _ (.int .i64 n) _ rfl (by rfl) (by rfl) (by rfl) (by kernel_rfl) (by rfl) (by simp [UL.val]) ?_; intro w14 hO14; have HO14 := Lib.hid (hO14.cast (L' := (g4, .cells (UL.mk sch host n [] []).val.toArray 64) :: (g2, .cells UL.zero.val.toArray 64) :: R) rfl); clear hO14 HO9)
                  go_meet
                  exact ⟨n, more, HPS2.out, by omega, by omega, rfl, HMB.out, HML.out, HO14.out⟩
        case rest =>
          obtain ⟨port, rest2, hpi, hp0, hp1, rfl, hr2B, hr2l, hO20⟩ := hcut
          have hrs : res = restI sch host port rest2 := by rw [HPR.out, hpi]; rfl
          have HRS := Lib.hid hrs; have HO20 := Lib.hid hO20
          have hr2L : rest2.length ≤ 5000000 := Nat.le_trans hr2l HBL.out
          clear hpi hrs hO20 HO8 HPR HB hr2l HBB HBL
          have hu3 : ∀ w' : World, _ := fun w' => until_c (w := w') (strOfNums rest2) ⟨#[35]⟩ (by rw [strOfNums_size]; omega) (by decide)
          have e4 : sb ⟨#[35]⟩ = [35] := by decide +kernel
          rw [e4, sb_str hr2B] at hu3
          have h3B : Byt (ahead [35] rest2) := ahead_byt hr2B
          have h3l : (ahead [35] rest2).length ≤ 5000000 := Nat.le_trans (ahead_len _ _) hr2L
          have hfin : res = if 40 < (printI (UL.mk sch host port (dotsI (ahead [63] (ahead [35] rest2))) (queryI (behind [63] (ahead [35] rest2))))).length then none else some (UL.mk sch host port (dotsI (ahead [63] (ahead [35] rest2))) (queryI (behind [63] (ahead [35] rest2)))) := by rw [HRS.out]; rfl
          clear HRS e4 hr2B hr2L
          generalize ahead [35] rest2 = r3 at *
          have hu4 : ∀ w' : World, _ := fun w' => until_c (w := w') (strOfNums r3) ⟨#[63]⟩ (by rw [strOfNums_size]; omega) (by decide)
          have e5 : sb ⟨#[63]⟩ = [63] := by decide +kernel
          rw [e5, sb_str h3B] at hu4
          have hpB : Byt (ahead [63] r3) := ahead_byt h3B
          have hqB : Byt (behind [63] r3) := behind_byt h3B
          have hpl : (ahead [63] r3).length ≤ 5000000 := Nat.le_trans (ahead_len _ _) h3l
          have hql : (behind [63] r3).length ≤ 5000000 := Nat.le_trans (behind_len _ _) h3l
          clear e5 h3B h3l
          generalize ahead [63] r3 = path at *
          generalize behind [63] r3 = query at *
          have HU3 := Lib.hid hu3; have HU4 := Lib.hid hu4; have HPB := Lib.hid hpB; have HQB := Lib.hid hqB; have HPL := Lib.hid hpl; have HQL := Lib.hid hql; have HFIN := Lib.hid hfin
          clear hu3 hu4 hpB hqB hpl hql hfin
          go_wp2_with fail
          with_reducible refine (HU3.out _).mono ?_
          rintro e w21 ⟨rfl, m21, rfl⟩
          have HO21 := Lib.hid (HO20.out.drewN m21)
          clear HO20 HU3
          generalize wc.drewN m21 = w21 at *
          go_wp2_with fail
          with_reducible refine (HU4.out _).mono ?_
          rintro e w22 ⟨rfl, m22, rfl⟩
          have HO22 := Lib.hid (HO21.out.drewN m22)
          clear HO21 HU4
          generalize w21.drewN m22 = w22 at *
          go_wp2_with fail
          have hcall := dots_c HO22.out (strOfNums path) (by rw [strOfNums_size]; have := HPL.out; omega)
          rw [sb_str HPB.out] at hcall
          with_reducible refine hcall.mono ?_
          clear hcall
          rintro e w23 ⟨rfl, hO23⟩
          have HO23 := Lib.hid hO23
          clear hO23 HO22
          by_cases hq1 : 1 < query.length
          · have hqI : (1 : Int) < (strOfNums query).size := by rw [strOfNums_size]; omega
            have hqI1 : (1 : Int) ≤ (strOfNums query).size := by omega
            have hqq : queryI query = 63 :: pctE (query.drop 1) := by unfold queryI; rw [if_pos hq1]
            have hnx : (strOfNums query).extract 1 (strOfNums query).size = strOfNums (query.drop 1) := by rw [← str_sb ((strOfNums query).extract 1 (strOfNums query).size), sb_from, sb_str HQB.out]
            have hqdl : (query.drop 1).length ≤ 5000000 := by rw [List.length_drop]; have := HQL.out; omega
            have hpc : ∀ (w' : World) (R' : Blks), Own w0 w' R' → _ := fun w' R' h => rpct_c h (strOfNums (query.drop 1)) (by rw [strOfNums_size]; omega)
            rw [sb_str (byt_drop HQB.out 1)] at hpc
            have hpsz : (strOfNums (pctE (query.drop 1))).size ≤ 60000000 := by rw [strOfNums_size]; have := pctE_len (query.drop 1); omega
            have hcat : (⟨#[63]⟩ : ByteArray) ++ strOfNums (pctE (query.drop 1)) = strOfNums (queryI query) := by rw [hqq, show (63 : Int) :: pctE (query.drop 1) = [63] ++ pctE (query.drop 1) from rfl, strs_app]; rfl
            have hqsz : (queryI query).length ≤ 60000001 := by rw [hqq, List.length_cons]; have := pctE_len (query.drop 1); omega
            obtain ⟨Y, hY⟩ : ∃ Y, strOfNums (query.drop 1) = Y := ⟨_, rfl⟩
            rw [hY] at hnx hpc
            have hadd : ¬ (9223372036854775807 < 1 + (strOfNums (pctE (query.drop 1))).size) := by omega
            have HPC := Lib.hid hpc; have HCAT := Lib.hid hcat; have HQSZ := Lib.hid hqsz
            clear hqq hqdl hpc hpsz hcat hqsz hY hq1
            generalize strOfNums (pctE (query.drop 1)) = PQ at *
            generalize queryI query = qq at *
            go_wp2_with (refine wl_store1 rfl _ _ _ rfl HO23.out 0 g4 3 _ (.string (strOfNums (dotsI path))) _ rfl (by rfl) (by rfl) (by rfl) (by kernel_rfl) (by rfl) (by simp [UL.val]) ?_; intro w24 hO24; have HO24 := Lib.hid (hO24.cast (L' := (g4, .cells (UL.mk sch host port (dotsI path) []).val.toArray 64) :: (g2, .cells UL.zero.val.toArray 64) :: R) rfl); clear hO24 HO23)
            with_reducible refine (HPC.out _ _ HO24.out).mono ?_
            rintro e w25 ⟨rfl, hO25⟩
            have HO25 := Lib.hid hO25
            clear hO25 HO24 HPC hnx
            go_upto_region 29 with (refine wl_store1 rfl _ _ _ rfl HO25.out 0 g4 4 _ (.string (⟨#[63]⟩ ++ PQ)) _ rfl (by rfl) (by rfl) (by rfl) (by kernel_rfl) (by rfl) (by simp [UL.val]) ?_; intro w26 hO26; have HO26 := Lib.hid (hO26.cast (L' := (g4, .cells (UL.mk sch host port (dotsI path) qq).val.toArray 64) :: (g2, .cells UL.zero.val.toArray 64) :: R) (by rw [HCAT.out]; rfl)); clear hO26 HO25)
            clear hadd
            have hok2 : (UL.mk sch host port (dotsI path) qq).Ok := by
              refine ⟨?_, ?_, ?_, ?_, ?_, ?_⟩
              · have := HSL.out; show sch.length ≤ _; omega
              · have := HHL.out; show host.length ≤ _; omega
              · have h1 := dotsI_len path; have h2 := HPL.out; show (dotsI path).length ≤ _; omega
              · have := HQSZ.out; show qq.length ≤ _; omega
              · exact hp0
              · show port < _; omega
            have hprint : ∀ (w' : World) (R' : Blks), Own w0 w' R' → _ := fun w' R' h => rprint_c h (UL.mk sch host port (dotsI path) qq) hok2
            have hps : (strOfNums (printI (UL.mk sch host port (dotsI path) qq))).size = (printI (UL.mk sch host port (dotsI path) qq)).length := strOfNums_size _
            have hfin : res = if 40 < (printI (UL.mk sch host port (dotsI path) qq)).length then none else some (UL.mk sch host port (dotsI path) qq) := HFIN.out
            have HPRINT := Lib.hid hprint; have HFIN2 := Lib.hid hfin
            obtain ⟨pl, hpl⟩ : ∃ pl, (printI (UL.mk sch host port (dotsI path) qq)).length = pl := ⟨_, rfl⟩
            rw [hpl] at hps
            rw [hpl] at HFIN2
            obtain ⟨PS, hPS⟩ : ∃ PS, strOfNums (printI (UL.mk sch host port (dotsI path) qq)) = PS := ⟨_, rfl⟩
            rw [hPS] at hps HPRINT
            clear hok2 hprint hfin HFIN hpl hPS
            go_wp2_with (refine wl_load rfl _ _ rfl g4 0 (UL.mk sch host port (dotsI path) qq).val (UL.mk sch host port (dotsI path) qq).val _ (HO26.out.heap (.head _)) (by rfl) _ Tryz.underlying64 rfl rurl_size (by rfl) ?_)
            with_reducible refine (HPRINT.out _ _ HO26.out).mono ?_
            rintro e w30 ⟨rfl, hO30⟩
            have HO30 := Lib.hid hO30
            clear hO30 HO26 HPRINT
            by_cases h40 : 40 < pl
            · have hno : res = none := by rw [HFIN2.out, if_pos h40]
              subst hno
              have h40I : (40 : Int) < PS.size := by rw [hps]; omega
              clear hps h40
              go_wp2_with (refine wl_store rfl _ _ _ rfl HO30.out 1 g2 0 _ UL.zero.val _ rfl (by rfl) (by rfl) rurl_size (one_url _) (by decide) ?_; intro w31 hO31; have HO31 := Lib.hid (hO31.tail.cast (L' := (g2, .cells UL.zero.val.toArray 64) :: R) rfl); clear hO31 HO30)
              have hr0 : w31.cell? ⟨g2, 0, none⟩ = some (Value.string ⟨#[]⟩) := by rw [HO31.out.cell (.head _)]; rfl
              have hr1 : w31.cell? ⟨g2, 1, none⟩ = some (Value.string ⟨#[]⟩) := by rw [HO31.out.cell (.head _)]; rfl
              have hr2 : w31.cell? ⟨g2, 2, none⟩ = some (Value.int .i64 0) := by rw [HO31.out.cell (.head _)]; rfl
              have hr3 : w31.cell? ⟨g2, 3, none⟩ = some (Value.string ⟨#[]⟩) := by rw [HO31.out.cell (.head _)]; rfl
              have hr4 : w31.cell? ⟨g2, 4, none⟩ = some (Value.string ⟨#[]⟩) := by rw [HO31.out.cell (.head _)]; rfl
              exact bodyPost_ret (v := .tuple #[.agg #[.string ⟨#[]⟩, .string ⟨#[]⟩, .int .i64 0, .string ⟨#[]⟩, .string ⟨#[]⟩], .bool false]) (by simp [results, Tryz.results24, go_sem, hr0, hr1, hr2, hr3, hr4]) rfl ⟨rfl, HO31.out.tail⟩

            · have hyes : res = some (UL.mk sch host port (dotsI path) qq) := by rw [HFIN2.out, if_neg h40]
              subst hyes
              have h40I : ¬ ((40 : Int) < PS.size) := by rw [hps]; omega
              clear hps h40 HFIN2
              go_wp2_with (first | (refine wl_load rfl _ _ rfl g4 0 (UL.mk sch host port (dotsI path) qq).val (UL.mk sch host port (dotsI path) qq).val _ (HO30.out.heap (.head _)) (by rfl) _ Tryz.underlying64 rfl rurl_size (by rfl) ?_) | (refine wl_store rfl _ _ _ rfl HO30.out 1 g2 0 _ (UL.mk sch host port (dotsI path) qq).val _ rfl (by rfl) (by rfl) rurl_size (one_url _) (by simp [UL.val, UL.zero]) ?_; intro w31 hO31; have HO31 := Lib.hid (hO31.tail.cast (L' := (g2, .cells (UL.mk sch host port (dotsI path) qq).val.toArray 64) :: R) rfl); clear hO31 HO30))
              have hr0 : w31.cell? ⟨g2, 0, none⟩ = some (.string (strOfNums sch)) := by rw [HO31.out.cell (.head _)]; rfl
              have hr1 : w31.cell? ⟨g2, 1, none⟩ = some (.string (strOfNums host)) := by rw [HO31.out.cell (.head _)]; rfl
              have hr2 : w31.cell? ⟨g2, 2, none⟩ = some (.int .i64 port) := by rw [HO31.out.cell (.head _)]; rfl
              have hr3 : w31.cell? ⟨g2, 3, none⟩ = some (.string (strOfNums (dotsI path))) := by rw [HO31.out.cell (.head _)]; rfl
              have hr4 : w31.cell? ⟨g2, 4, none⟩ = some (.string (strOfNums qq)) := by rw [HO31.out.cell (.head _)]; rfl
              exact bodyPost_ret (v := .tuple #[.agg #[.string (strOfNums sch), .string (strOfNums host), .int .i64 port, .string (strOfNums (dotsI path)), .string (strOfNums qq)], .bool true]) (by simp [results, Tryz.results24, go_sem, hr0, hr1, hr2, hr3, hr4]) rfl ⟨rfl, HO31.out.tail⟩

          · have hqI : ¬ ((1 : Int) < (strOfNums query).size) := by rw [strOfNums_size]; omega
            have hqq : queryI query = [] := by unfold queryI; rw [if_neg hq1]
            have HFIN3 := HFIN.out
            rw [hqq] at HFIN3
            have HFIN := Lib.hid HFIN3
            clear hqq hq1 HFIN3
            go_upto_region 29 with (refine wl_store1 rfl _ _ _ rfl HO23.out 0 g4 3 _ (.string (strOfNums (dotsI path))) _ rfl (by rfl) (by rfl) (by rfl) (by kernel_rfl) (by rfl) (by simp [UL.val]) ?_; intro w24 hO24; have HO24 := Lib.hid (hO24.cast (L' := (g4, .cells (UL.mk sch host port (dotsI path) []).val.toArray 64) :: (g2, .cells UL.zero.val.toArray 64) :: R) rfl); clear hO24 HO23)
            clear hqI
            have hok2 : (UL.mk sch host port (dotsI path) []).Ok := by
              refine ⟨?_, ?_, ?_, ?_, ?_, ?_⟩
              · have := HSL.out; show sch.length ≤ _; omega
              · have := HHL.out; show host.length ≤ _; omega
              · have h1 := dotsI_len path; have h2 := HPL.out; show (dotsI path).length ≤ _; omega
              · show ([] : List Int).length ≤ _; simp
              · exact hp0
              · show port < _; omega
            have hprint : ∀ (w' : World) (R' : Blks), Own w0 w' R' → _ := fun w' R' h => rprint_c h (UL.mk sch host port (dotsI path) []) hok2
            have hps : (strOfNums (printI (UL.mk sch host port (dotsI path) []))).size = (printI (UL.mk sch host port (dotsI path) [])).length := strOfNums_size _
            have hfin : res = if 40 < (printI (UL.mk sch host port (dotsI path) [])).length then none else some (UL.mk sch host port (dotsI path) []) := HFIN.out
            have HPRINT := Lib.hid hprint; have HFIN2 := Lib.hid hfin
            obtain ⟨pl, hpl⟩ : ∃ pl, (printI (UL.mk sch host port (dotsI path) [])).length = pl := ⟨_, rfl⟩
            rw [hpl] at hps
            rw [hpl] at HFIN2
            obtain ⟨PS, hPS⟩ : ∃ PS, strOfNums (printI (UL.mk sch host port (dotsI path) [])) = PS := ⟨_, rfl⟩
            rw [hPS] at hps HPRINT
            clear hok2 hprint hfin HFIN hpl hPS
            go_wp2_with (refine wl_load rfl _ _ rfl g4 0 (UL.mk sch host port (dotsI path) []).val (UL.mk sch host port (dotsI path) []).val _ (HO24.out.heap (.head _)) (by rfl) _ Tryz.underlying64 rfl rurl_size (by rfl) ?_)
            with_reducible refine (HPRINT.out _ _ HO24.out).mono ?_
            rintro e w30 ⟨rfl, hO30⟩
            have HO30 := Lib.hid hO30
            clear hO30 HO24 HPRINT
            by_cases h40 : 40 < pl
            · have hno : res = none := by rw [HFIN2.out, if_pos h40]
              subst hno
              have h40I : (40 : Int) < PS.size := by rw [hps]; omega
              clear hps h40
              go_wp2_with (refine wl_store rfl _ _ _ rfl HO30.out 1 g2 0 _ UL.zero.val _ rfl (by rfl) (by rfl) rurl_size (one_url _) (by decide) ?_; intro w31 hO31; have HO31 := Lib.hid (hO31.tail.cast (L' := (g2, .cells UL.zero.val.toArray 64) :: R) rfl); clear hO31 HO30)
              have hr0 : w31.cell? ⟨g2, 0, none⟩ = some (Value.string ⟨#[]⟩) := by rw [HO31.out.cell (.head _)]; rfl
              have hr1 : w31.cell? ⟨g2, 1, none⟩ = some (Value.string ⟨#[]⟩) := by rw [HO31.out.cell (.head _)]; rfl
              have hr2 : w31.cell? ⟨g2, 2, none⟩ = some (Value.int .i64 0) := by rw [HO31.out.cell (.head _)]; rfl
              have hr3 : w31.cell? ⟨g2, 3, none⟩ = some (Value.string ⟨#[]⟩) := by rw [HO31.out.cell (.head _)]; rfl
              have hr4 : w31.cell? ⟨g2, 4, none⟩ = some (Value.string ⟨#[]⟩) := by rw [HO31.out.cell (.head _)]; rfl
              exact bodyPost_ret (v := .tuple #[.agg #[.string ⟨#[]⟩, .string ⟨#[]⟩, .int .i64 0, .string ⟨#[]⟩, .string ⟨#[]⟩], .bool false]) (by simp [results, Tryz.results24, go_sem, hr0, hr1, hr2, hr3, hr4]) rfl ⟨rfl, HO31.out.tail⟩

            · have hyes : res = some (UL.mk sch host port (dotsI path) []) := by rw [HFIN2.out, if_neg h40]
              subst hyes
              have h40I : ¬ ((40 : Int) < PS.size) := by rw [hps]; omega
              clear hps h40 HFIN2
              go_wp2_with (first | (refine wl_load rfl _ _ rfl g4 0 (UL.mk sch host port (dotsI path) []).val (UL.mk sch host port (dotsI path) []).val _ (HO30.out.heap (.head _)) (by rfl) _ Tryz.underlying64 rfl rurl_size (by rfl) ?_) | (refine wl_store rfl _ _ _ rfl HO30.out 1 g2 0 _ (UL.mk sch host port (dotsI path) []).val _ rfl (by rfl) (by rfl) rurl_size (one_url _) (by simp [UL.val, UL.zero]) ?_; intro w31 hO31; have HO31 := Lib.hid (hO31.tail.cast (L' := (g2, .cells (UL.mk sch host port (dotsI path) []).val.toArray 64) :: R) rfl); clear hO31 HO30))
              have hr0 : w31.cell? ⟨g2, 0, none⟩ = some (.string (strOfNums sch)) := by rw [HO31.out.cell (.head _)]; rfl
              have hr1 : w31.cell? ⟨g2, 1, none⟩ = some (.string (strOfNums host)) := by rw [HO31.out.cell (.head _)]; rfl
              have hr2 : w31.cell? ⟨g2, 2, none⟩ = some (.int .i64 port) := by rw [HO31.out.cell (.head _)]; rfl
              have hr3 : w31.cell? ⟨g2, 3, none⟩ = some (.string (strOfNums (dotsI path))) := by rw [HO31.out.cell (.head _)]; rfl
              have hr4 : w31.cell? ⟨g2, 4, none⟩ = some (.string (strOfNums [])) := by rw [HO31.out.cell (.head _)]; rfl
              exact bodyPost_ret (v := .tuple #[.agg #[.string (strOfNums sch), .string (strOfNums host), .int .i64 port, .string (strOfNums (dotsI path)), .string (strOfNums [])], .bool true]) (by simp [results, Tryz.results24, go_sem, hr0, hr1, hr2, hr3, hr4]) rfl ⟨rfl, HO31.out.tail⟩
    · have hno : res = none := by rw [← HRES.out, hsch]; rfl
      subst hno
      have HO5 := Lib.hid hO5
      have c0 : wc.cell? ⟨g4, 0, none⟩ = some (.string ⟨#[]⟩) := by rw [hO5.cell (.head _)]; rfl
      clear hO5 hsch HRES
      go_wp2_with (refine wl_store rfl _ _ _ rfl HO5.out 1 g2 0 _ UL.zero.val _ rfl (by rfl) (by rfl) rurl_size (one_url _) (by decide) ?_; intro w6 hO6; have HO6 := Lib.hid (hO6.tail.cast (L' := (g2, .cells UL.zero.val.toArray 64) :: R) rfl); clear hO6 HO5)
      have hr0 : w6.cell? ⟨g2, 0, none⟩ = some (Value.string ⟨#[]⟩) := by rw [HO6.out.cell (.head _)]; rfl
      have hr1 : w6.cell? ⟨g2, 1, none⟩ = some (Value.string ⟨#[]⟩) := by rw [HO6.out.cell (.head _)]; rfl
      have hr2 : w6.cell? ⟨g2, 2, none⟩ = some (Value.int .i64 0) := by rw [HO6.out.cell (.head _)]; rfl
      have hr3 : w6.cell? ⟨g2, 3, none⟩ = some (Value.string ⟨#[]⟩) := by rw [HO6.out.cell (.head _)]; rfl
      have hr4 : w6.cell? ⟨g2, 4, none⟩ = some (Value.string ⟨#[]⟩) := by rw [HO6.out.cell (.head _)]; rfl
      exact bodyPost_ret (v := .tuple #[.agg #[.string ⟨#[]⟩, .string ⟨#[]⟩, .int .i64 0, .string ⟨#[]⟩, .string ⟨#[]⟩], .bool false]) (by simp [results, Tryz.results24, go_sem, hr0, hr1, hr2, hr3, hr4]) rfl ⟨rfl, HO6.out.tail⟩
end Go.Proofs.YtlcolabblpikjaaGreatDoor
/-
  The document's own Join of URLs; what a parsed URL is like.
-/
namespace Go.Proofs.YtlcolabblpikjaaGreatDoor
set_option linter.unusedVariables false
set_option linter.unusedSimpArgs false
set_option maxRecDepth 20000
open Go.RowKit

/-- A URL whose parts are short, and bytes. -/
structure UL.Fine (u : UL) : Prop where
  sch : u.sch = httpI ∨ u.sch = httpsI
  host : HostOk u.host
  hostB : Byt u.host
  pathB : Byt u.path
  queryB : Byt u.query
  port0 : 0 ≤ u.port
  port1 : u.port < 100000
  short : (printI u).length ≤ 40
theorem UL.Fine.schB {u : UL} (h : u.Fine) : Byt u.sch := by rcases h.sch with e | e <;> rw [e]; exact http_byt; exact https_byt
theorem UL.Fine.schl {u : UL} (h : u.Fine) : u.sch.length ≤ 5 := by rcases h.sch with e | e <;> rw [e] <;> decide
theorem UL.Fine.orig {u : UL} (h : u.Fine) : (originI u).length ≤ 40 := by have := h.short; unfold printI at this; simp only [List.length_append] at this; omega
theorem UL.Fine.lens {u : UL} (h : u.Fine) : u.path.length ≤ 40 ∧ u.query.length ≤ 40 := by have := h.short; unfold printI at this; simp only [List.length_append] at this; omega
theorem UL.Fine.ok {u : UL} (h : u.Fine) : u.Ok := ⟨by have := h.schl; omega, by have := h.host.2.1; omega, by have := h.lens; omega, by have := h.lens; omega, h.port0, by have := h.port1; omega⟩
theorem originI_byt {u : UL} (h : u.Fine) : Byt (originI u) := by
  unfold originI
  refine byt_append (byt_append (byt_append h.schB ?_) h.hostB) ?_
  · intro x hx; simp at hx; omega
  · split
    · intro x hx
      rcases List.mem_cons.1 hx with rfl | hx
      · omega
      · exact digs_byt _ x hx
    · intro x hx; cases hx
theorem pctE_byt' (l : List Int) : Byt (pctE l) := fun x hx => by have := pctE_plain l x hx; omega
theorem dotStep_byt {st : List (List Int)} {p : List Int} {last : Bool} (h : ∀ q ∈ st, Byt q) : ∀ q ∈ dotStep st p last, Byt q := by
  intro q hq
  unfold dotStep at hq
  split at hq
  · simp only [] at hq
    have hst : ∀ q ∈ (if p = [46, 46] then st.dropLast else st), Byt q := by
      intro q hq
      split at hq
      · exact h q ((List.dropLast_sublist _).subset hq)
      · exact h q hq
    split at hq
    · rcases List.mem_append.1 hq with hq | hq
      · exact hst q hq
      · rw [List.mem_singleton] at hq; subst hq; intro x hx; cases hx
    · exact hst q hq
  · rcases List.mem_append.1 hq with hq | hq
    · exact h q hq
    · rw [List.mem_singleton] at hq; subst hq; exact pctE_byt' p
theorem dotGo_byt : ∀ (ps st : List (List Int)), (∀ q ∈ st, Byt q) → ∀ q ∈ dotGo st ps, Byt q
  | [], st, h => h
  | [p], st, h => dotStep_byt h
  | p :: q :: r, st, h => dotGo_byt (q :: r) _ (dotStep_byt h)
theorem dotsI_byt (l : List Int) : Byt (dotsI l) := by
  intro x hx
  unfold dotsI slashed at hx
  rw [List.mem_flatMap] at hx
  obtain ⟨p, hp, hx⟩ := hx
  rcases List.mem_cons.1 hx with rfl | hx
  · omega
  · exact dotGo_byt _ [] (by simp) p hp x hx
theorem queryI_byt (q : List Int) : Byt (queryI q) := by
  unfold queryI
  split
  · intro x hx
    rcases List.mem_cons.1 hx with rfl | hx
    · omega
    · exact pctE_byt' _ x hx
  · intro x hx; cases hx
theorem ahead_sub (st l : List Int) : (ahead st l).Sublist l := List.takeWhile_sublist _
/-- What is parsed is fine. -/
theorem parseI_fine {l : List Int} (hB : Byt l) {u : UL} (h : parseI l = some u) : u.Fine := by
  unfold parseI at h
  rw [Option.bind_eq_some_iff] at h
  obtain ⟨⟨sch, r⟩, hs, h⟩ := h
  have hsr := schemeI_is hs
  have hrB : Byt r := by
    have ht : Byt (trimI l) := fun x hx => hB x ((trimI_sub l).subset hx)
    rcases hsr with ⟨_, rfl⟩ | ⟨_, rfl⟩ <;> exact byt_drop ht _
  unfold hostI at h
  simp only at h
  split at h
  · rename_i hho
    rw [Option.bind_eq_some_iff] at h
    obtain ⟨⟨port, rest2⟩, hp, h⟩ := h
    simp only at h
    have hpr : 0 ≤ port ∧ port < 100000 := by
      unfold portI at hp
      split at hp
      · rw [Option.bind_eq_some_iff] at hp
        obtain ⟨n, hn, hp⟩ := hp
        have hr := figI_range hn
        split at hp
        · cases hp
        · cases hp
          split <;> omega
      · cases hp; omega
    unfold restI at h
    simp only at h
    split at h
    · cases h
    · rename_i h40
      cases h
      refine ⟨?_, hho, lowL_byt (ahead_byt hrB), dotsI_byt _, queryI_byt _, hpr.1, hpr.2, by omega⟩
      rcases hsr with ⟨e, _⟩ | ⟨e, _⟩
      · exact .inl e
      · exact .inr e
  · cases h
end Go.Proofs.YtlcolabblpikjaaGreatDoor
/-
  A parsed URL's print is parsed to itself: plain lists; nothing runs here.
-/
namespace Go.Proofs.YtlcolabblpikjaaGreatDoor
set_option linter.unusedVariables false
set_option linter.unusedSimpArgs false
set_option maxRecDepth 20000

/-- Bytes that stand for themselves. -/
def Plain (l : List Int) : Prop := ∀ x ∈ l, 0 ≤ x ∧ x < 128 ∧ plainR x.toNat = true
theorem Plain.rng {l : List Int} (h : Plain l) : ∀ x ∈ l, 33 ≤ x ∧ x ≤ 126 ∧ x ≠ 34 ∧ x ≠ 96 ∧ x ≠ 35 ∧ x ≠ 60 ∧ x ≠ 62 ∧ x ≠ 63 ∧ x ≠ 123 ∧ x ≠ 125 := by
  intro x hx
  have := h x hx
  have h2 := (plainR_iff _).1 this.2.2
  omega
theorem Plain.same {l : List Int} (h : Plain l) : pctE l = l := pctE_same h
theorem plain_pctE (l : List Int) : Plain (pctE l) := pctE_plain l
/-- A part of a path that stays. -/
structure PartOk (p : List Int) : Prop where
  plain : Plain p
  slash : ∀ x ∈ p, x ≠ 47
  dot1 : p ≠ [46]
  dot2 : p ≠ [46, 46]
theorem partOk_nil : PartOk [] := ⟨fun x hx => (by cases hx), fun x hx => (by cases hx), by simp, by simp⟩
theorem parts_noslash : ∀ (l : List Int), ∀ p ∈ partsI l, ∀ x ∈ p, x ≠ 47
  | [], p, hp => by
    rw [show partsI [] = [[]] from rfl, List.mem_singleton] at hp
    subst hp; intro x hx; cases hx
  | c :: r, p, hp => by
    have ih := parts_noslash r
    unfold partsI at hp
    split at hp
    · rcases List.mem_cons.1 hp with rfl | hp
      · intro x hx; cases hx
      · exact ih p hp
    · rename_i hc
      split at hp
      · rename_i q qs hq
        rw [hq] at ih
        rcases List.mem_cons.1 hp with rfl | hp
        · intro x hx
          rcases List.mem_cons.1 hx with rfl | hx
          · exact hc
          · exact ih q (.head _) x hx
        · exact ih p (.tail _ hp)
      · rw [List.mem_singleton] at hp; subst hp
        intro x hx; rw [List.mem_singleton] at hx; subst hx; exact hc
/-- The runes of bytes without one that is below 128 do not hold it. -/
theorem decI_ascii (l : List Int) (h : (decI l).1 < 128) (hl : l ≠ []) : ((decI l).1 : Int) = ((l.getD 0 0).toNat : Int) ∧ (decI l).2 = 1 := by
  unfold decI at *
  rcases Lib.decodeN_shape l.length (l.getD 0 0).toNat (l.getD 1 0).toNat (l.getD 2 0).toNat (l.getD 3 0).toNat with ⟨h1, e⟩ | ⟨h1, h2, h3, h4, e⟩ | ⟨h1, h2, h3, h4, h5, h6, e⟩ | ⟨h1, h2, h3, h4, h5, h6, h7, e⟩ | e
  · rw [e]; exact ⟨rfl, rfl⟩
  all_goals rw [e] at h
  all_goals simp only [] at h
  all_goals omega
theorem runes_mem {l : List Int} (hB : Byt l) {c : Nat} (hc : c < 128) (h : c ∈ runes l) : (c : Int) ∈ l := by
  induction hn : l.length using Nat.strongRecOn generalizing l with
  | ind n ih =>
    by_cases hl : l = []
    · subst hl; cases h
    · rw [runes_step hl] at h
      rcases List.mem_cons.1 h with e | h
      · have h2 := decI_ascii l (by omega) hl
        rw [← e] at h2
        have h3 : 0 < l.length := List.length_pos_iff.2 hl
        have h4 : l.getD 0 0 ∈ l := by rw [List.getD_eq_getElem?_getD, List.getElem?_eq_getElem h3]; exact List.getElem_mem h3
        have h5 := hB _ h4
        have : (c : Int) = l.getD 0 0 := by omega
        rw [this]; exact h4
      · have hp := decI_pos l
        have h3 : 0 < l.length := List.length_pos_iff.2 hl
        have := ih _ (by rw [← hn, List.length_drop]; omega) (l := l.drop (decI l).2) (byt_drop hB _) h rfl
        exact List.mem_of_mem_drop this
theorem pctE_noslash {p : List Int} (hB : Byt p) (h : ∀ x ∈ p, x ≠ 47) : ∀ x ∈ pctE p, x ≠ 47 := by
  intro x hx e
  subst e
  rw [pctE, List.mem_flatMap] at hx
  obtain ⟨c, hc, hx⟩ := hx
  unfold pctR at hx
  split at hx
  · rw [List.mem_singleton] at hx
    have hc47 : c = 47 := by omega
    subst hc47
    exact h 47 (runes_mem hB (by decide) hc) rfl
  · rw [List.mem_flatMap] at hx
    obtain ⟨b, hb, hx⟩ := hx
    have hbb := encI_byt c b hb
    have h1 := hexD_plain (x := b / 16) (by omega) (by omega)
    have h2 := hexD_plain (x := b % 16) (by omega) (by omega)
    simp only [pct3, List.mem_cons, List.not_mem_nil, or_false] at hx
    omega
theorem pctR_one {c : Nat} {l : List Int} (h : pctR c = l) (hl : l.length < 3) : plainR c = true ∧ l = [(c : Int)] := by
  unfold pctR at h
  split at h
  · rename_i hp; exact ⟨hp, h.symm⟩
  · exfalso
    have h1 : (encI c) ≠ [] := encI_ne c
    obtain ⟨x, r, e⟩ := List.exists_cons_of_ne_nil h1
    rw [e, List.flatMap_cons] at h
    have := congrArg List.length h
    rw [List.length_append] at this
    simp [pct3] at this
    omega
theorem pctR_pos (c : Nat) : 1 ≤ (pctR c).length := by
  unfold pctR
  split
  · simp
  · obtain ⟨x, r, e⟩ := List.exists_cons_of_ne_nil (encI_ne c)
    rw [e, List.flatMap_cons, List.length_append]
    simp [pct3]; omega
/-- What is encoded to one point, or two, was that. -/
theorem pctE_dots {p : List Int} (hB : Byt p) : ∀ (k : Nat), k ≤ 2 → pctE p = List.replicate k 46 → p = List.replicate k 46 := by
  intro k hk h
  induction k generalizing p with
  | zero =>
    by_cases hp : p = []
    · exact hp
    · rw [pctE, runes_step hp, List.flatMap_cons] at h
      have := congrArg List.length h
      have h2 := pctR_pos (decI p).1
      rw [List.length_append, List.replicate_zero, List.length_nil] at this
      omega
  | succ k ih =>
    have hp : p ≠ [] := by rintro rfl; have := congrArg List.length h; rw [show pctE [] = [] from rfl] at this; simp at this
    rw [pctE, runes_step hp, List.flatMap_cons] at h
    have hlen := congrArg List.length h
    rw [List.length_append, List.length_replicate] at hlen
    obtain ⟨hpl, he⟩ := pctR_one (c := (decI p).1) rfl (by omega)
    rw [he, List.replicate_succ, List.singleton_append] at h
    injection h with h1 h2
    have h3 := decI_ascii p (by omega) hp
    have h4 : 0 < p.length := List.length_pos_iff.2 hp
    have h5 := getD_byt hB 0
    have h6 : p = p.getD 0 0 :: p.drop 1 := by
      rw [List.getD_eq_getElem?_getD, List.getElem?_eq_getElem h4, Option.getD_some]
      have := List.drop_eq_getElem_cons h4
      rwa [List.drop_zero] at this
    rw [h3.2] at h2
    have h7 := ih (p := p.drop 1) (byt_drop hB 1) (by omega) h2
    rw [h6, h7, List.replicate_succ]
    congr 1
    omega
theorem partOk_of {p : List Int} (hB : Byt p) (hs : ∀ x ∈ p, x ≠ 47) (h1 : p ≠ [46]) (h2 : p ≠ [46, 46]) : PartOk (pctE p) :=
  ⟨plain_pctE p, pctE_noslash hB hs, fun e => h1 (pctE_dots hB 1 (by omega) e), fun e => h2 (pctE_dots hB 2 (by omega) e)⟩
theorem dotStep_okp {st : List (List Int)} {p : List Int} {last : Bool} (h : ∀ q ∈ st, PartOk q) (hB : Byt p) (hs : ∀ x ∈ p, x ≠ 47) : ∀ q ∈ dotStep st p last, PartOk q := by
  intro q hq
  unfold dotStep at hq
  split at hq
  · simp only [] at hq
    have hst : ∀ q ∈ (if p = [46, 46] then st.dropLast else st), PartOk q := by
      intro q hq
      split at hq
      · exact h q ((List.dropLast_sublist _).subset hq)
      · exact h q hq
    split at hq
    · rcases List.mem_append.1 hq with hq | hq
      · exact hst q hq
      · rw [List.mem_singleton] at hq; subst hq; exact partOk_nil
    · exact hst q hq
  · rename_i hne
    rcases List.mem_append.1 hq with hq | hq
    · exact h q hq
    · rw [List.mem_singleton] at hq; subst hq
      exact partOk_of hB hs (fun e => hne (.inl e)) (fun e => hne (.inr e))
theorem dotGo_okp : ∀ (ps st : List (List Int)), (∀ q ∈ st, PartOk q) → (∀ q ∈ ps, Byt q ∧ ∀ x ∈ q, x ≠ 47) → ∀ q ∈ dotGo st ps, PartOk q
  | [], st, h, _ => h
  | [p], st, h, hp => dotStep_okp h (hp p (.head _)).1 (hp p (.head _)).2
  | p :: q :: r, st, h, hp => dotGo_okp (q :: r) _ (dotStep_okp h (hp p (.head _)).1 (hp p (.head _)).2) (fun x hx => hp x (.tail _ hx))
theorem dotStep_last (st : List (List Int)) (p : List Int) : dotStep st p true ≠ [] := by
  unfold dotStep
  split
  · simp
  · simp
theorem dotGo_ne : ∀ (ps st : List (List Int)), ps ≠ [] → dotGo st ps ≠ []
  | [], _, h => absurd rfl h
  | [p], st, _ => dotStep_last st p
  | p :: q :: r, st, _ => dotGo_ne (q :: r) _ (by simp)
theorem parts_byt : ∀ (l : List Int), Byt l → ∀ p ∈ partsI l, Byt p
  | [], _, p, hp => by
    rw [show partsI [] = [[]] from rfl, List.mem_singleton] at hp
    subst hp; intro x hx; cases hx
  | c :: r, h, p, hp => by
    have ih := parts_byt r (fun x hx => h x (.tail _ hx))
    unfold partsI at hp
    split at hp
    · rcases List.mem_cons.1 hp with rfl | hp
      · intro x hx; cases hx
      · exact ih p hp
    · split at hp
      · rename_i q qs hq
        rw [hq] at ih
        rcases List.mem_cons.1 hp with rfl | hp
        · intro x hx
          rcases List.mem_cons.1 hx with rfl | hx
          · exact h _ (.head _)
          · exact ih q (.head _) x hx
        · exact ih p (.tail _ hp)
      · rw [List.mem_singleton] at hp; subst hp
        intro x hx; rw [List.mem_singleton] at hx; subst hx; exact h _ (.head _)
/-- A path that stays as it is. -/
def PathOk (path : List Int) : Prop := ∃ ps, ps ≠ [] ∧ path = slashed ps ∧ ∀ p ∈ ps, PartOk p
theorem dotsI_ok {l : List Int} (h : Byt l) : PathOk (dotsI l) :=
  ⟨_, dotGo_ne _ _ (partsI_ne _), rfl, dotGo_okp _ [] (by simp) (fun q hq => ⟨parts_byt _ (byt_drop h 1) q hq, parts_noslash _ q hq⟩)⟩
theorem parts_slashed : ∀ (p : List Int) (ps : List (List Int)), (∀ q ∈ p :: ps, ∀ x ∈ q, x ≠ 47) → partsI (p ++ slashed ps) = p :: ps
  | [], [], _ => rfl
  | [], q :: qs, h => by
    show partsI (47 :: (q ++ slashed qs)) = _
    unfold partsI
    rw [if_pos rfl, parts_slashed q qs (fun x hx => h x (.tail _ hx))]
  | c :: p, ps, h => by
    have hc : c ≠ 47 := h _ (.head _) c (.head _)
    have ih := parts_slashed p ps (fun q hq x hx => by
      rcases List.mem_cons.1 hq with rfl | hq
      · exact h _ (.head _) x (.tail _ hx)
      · exact h q (.tail _ hq) x hx)
    show partsI (c :: (p ++ slashed ps)) = _
    unfold partsI
    rw [if_neg hc, ih]
theorem dotGo_id : ∀ (ps st : List (List Int)), ps ≠ [] → (∀ p ∈ ps, PartOk p) → dotGo st ps = st ++ ps
  | [], _, h, _ => absurd rfl h
  | [p], st, _, h => by
    have hp := h p (.head _)
    show dotStep st p true = _
    unfold dotStep
    rw [if_neg (by rintro (e | e); exact hp.dot1 e; exact hp.dot2 e), hp.plain.same]
  | p :: q :: r, st, _, h => by
    have hp := h p (.head _)
    show dotGo (dotStep st p false) (q :: r) = _
    rw [dotGo_id (q :: r) _ (by simp) (fun x hx => h x (.tail _ hx))]
    unfold dotStep
    rw [if_neg (by rintro (e | e); exact hp.dot1 e; exact hp.dot2 e), hp.plain.same]
    simp
theorem dotsI_same {path : List Int} (h : PathOk path) : dotsI path = path := by
  obtain ⟨ps, hne, rfl, hp⟩ := h
  obtain ⟨p, r, rfl⟩ := List.exists_cons_of_ne_nil hne
  unfold dotsI
  have : (slashed (p :: r)).drop 1 = p ++ slashed r := rfl
  rw [this, parts_slashed p r (fun q hq => (hp q hq).slash), dotGo_id _ [] (by simp) hp]
  rfl
theorem PathOk.plain {path : List Int} (h : PathOk path) : Plain path := by
  obtain ⟨ps, _, rfl, hp⟩ := h
  intro x hx
  unfold slashed at hx
  rw [List.mem_flatMap] at hx
  obtain ⟨p, hpp, hx⟩ := hx
  rcases List.mem_cons.1 hx with rfl | hx
  · exact ⟨by omega, by omega, by decide⟩
  · exact (hp p hpp).plain x hx
theorem PathOk.head {path : List Int} (h : PathOk path) : ∃ r, path = 47 :: r := by
  obtain ⟨ps, hne, rfl, _⟩ := h
  obtain ⟨p, r, rfl⟩ := List.exists_cons_of_ne_nil hne
  exact ⟨p ++ slashed r, rfl⟩
def QueryOk (q : List Int) : Prop := q = [] ∨ ∃ r, r ≠ [] ∧ q = 63 :: r ∧ Plain r
theorem queryI_ok (q : List Int) (hB : Byt q) : QueryOk (queryI q) := by
  unfold queryI
  split
  · rename_i h
    refine .inr ⟨_, ?_, rfl, plain_pctE _⟩
    intro e
    have := pctE_dots (byt_drop hB 1) 0 (by omega) e
    have h2 := congrArg List.length this
    rw [List.length_drop] at h2
    simp at h2
    omega
  · exact .inl rfl
theorem queryI_same {q : List Int} (h : QueryOk q) : queryI q = q := by
  rcases h with rfl | ⟨r, hr, rfl, hp⟩
  · rfl
  · unfold queryI
    have : 0 < r.length := List.length_pos_iff.2 hr
    rw [if_pos (by simp; omega)]
    show 63 :: pctE r = _
    rw [hp.same]
end Go.Proofs.YtlcolabblpikjaaGreatDoor
