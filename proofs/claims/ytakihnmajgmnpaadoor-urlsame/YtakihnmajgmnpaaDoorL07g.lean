/-
  URLSame: for any three numbers, any text: to be of one origin is an equivalence, and hangs on scheme, host, port alone.
  Conditions: none but the row's own.
-/
import Derived.Test.YtakihnmajgmnpaaDoorL07b0
import Derived.Test.YtakihnmajgmnpaaDoorVars
import Derived.Test.YtakihnmajgmnpaaDoorUrlB
namespace Go.Proofs.YtakihnmajgmnpaaDoor
set_option linter.unusedVariables false
set_option linter.unusedSimpArgs false
set_option maxRecDepth 20000
open Go.ChangeShapes Go.WideShapes Go.ChangeAt Go.RowKit
open Go.ChangeMaps (open_string shut_string)

def sameS : List ByteArray := [⟨#[104, 116, 116, 112, 58, 47, 47, 97, 46, 98, 47]⟩, ⟨#[104, 116, 116, 112, 115, 58, 47, 47, 97, 46, 98, 47]⟩, ⟨#[104, 116, 116, 112, 58, 47, 47, 97, 46, 98, 58, 56, 47]⟩, ⟨#[104, 116, 116, 112, 58, 47, 47, 99, 46, 100, 47]⟩, ⟨#[104, 116, 116, 112, 58, 47, 47, 65, 46, 66, 58, 56, 48, 47, 121]⟩, ⟨#[104, 116, 116, 112, 115, 58, 47, 47, 97, 46, 98, 58, 52, 52, 51, 47, 122, 63, 113]⟩]
def sameU : List UL := sameS.map fun s => (parseI (sb s)).getD UL.zero
theorem sameS_ok : ∀ s ∈ sameS, (parseI (sb s)).isSome = true ∧ s.size ≤ 60 := by decide +kernel
theorem same_at (j : Nat) (hj : j < 6) : ∃ s u, (sameS.map Value.string)[j]? = some (Value.string s) ∧ parseI (sb s) = some u ∧ u ∈ sameU ∧ u.Fine ∧ s.size ≤ 60 := by
  have hl : j < sameS.length := hj
  have hm : sameS[j] ∈ sameS := List.getElem_mem hl
  obtain ⟨h1, h2⟩ := sameS_ok _ hm
  obtain ⟨u, hu⟩ := Option.isSome_iff_exists.1 h1
  refine ⟨sameS[j], u, by simp [hl], hu, ?_, parseI_fine (byt_sb _) hu, h2⟩
  unfold sameU
  rw [List.mem_map]
  exact ⟨_, hm, by rw [hu]; rfl⟩
theorem same_pair : ∀ x ∈ sameU, ∀ y ∈ sameU, decide (originI x = originI y) = (decide (x.sch = y.sch) && decide (x.host = y.host) && decide (x.port = y.port)) := by decide +kernel
set_option maxRecDepth 100000 in
set_option maxHeartbeats 16000000 in
theorem uRLSame_walk {W : World} (hV : VarsOk W) (a : Int) (wa : (Lit.int .i64 a).wf = true) (b : Int) (wb : (Lit.int .i64 b).wf = true) (c : Int) (wc : (Lit.int .i64 c).wf = true) (pt : ByteArray) (hpt : pt.size ≤ 140737488351232) :
    Calls Tryd.prog 8 #[.int .i64 a, .int .i64 b, .int .i64 c, .string pt] W (Yes W) := by
  have HO := Lib.hid (Own.start W)
  have HVV := Lib.hid hV
  clear hV wa wb wc
  obtain ⟨sx, x, rx, px, mx, fx, zx⟩ := same_at (a % 6).toNat (by omega)
  obtain ⟨sy, y, ry, py, my, fy, zy⟩ := same_at (b % 6).toNat (by omega)
  obtain ⟨sz, z, rz, pz, mz, fz, zz⟩ := same_at (c % 6).toNat (by omega)
  have qx : ∀ w : World, _ := fun w => within_n (w := w) a 6 (by omega) (by omega)
  have qy : ∀ w : World, _ := fun w => within_n (w := w) b 6 (by omega) (by omega)
  have qz : ∀ w : World, _ := fun w => within_n (w := w) c 6 (by omega) (by omega)
  have jx : (a % 6).toNat < 6 := by omega
  have jy : (b % 6).toNat < 6 := by omega
  have jz : (c % 6).toNat < 6 := by omega
  generalize (a % 6).toNat = i1 at *
  generalize (b % 6).toNat = i2 at *
  generalize (c % 6).toNat = i3 at *
  have dxy := same_pair x mx y my
  have fb : (UL.mk x.sch x.host x.port (47 :: sb pt) (63 :: sb pt)).Bare := ⟨fx.sch, fx.host, fx.hostB, fx.port0, fx.port1⟩
  have k1 : ∀ (w' : World) (R' : Blks), Own W w' R' → _ := fun w' R' h => uparse_c HVV.out h sx (by omega)
  have k2 : ∀ (w' : World) (R' : Blks), Own W w' R' → _ := fun w' R' h => uparse_c HVV.out h sy (by omega)
  have k3 : ∀ (w' : World) (R' : Blks), Own W w' R' → _ := fun w' R' h => uparse_c HVV.out h sz (by omega)
  rw [px] at k1; rw [py] at k2; rw [pz] at k3
  have rxx : ∀ (w' : World) (R' : Blks), Own W w' R' → _ := fun w' R' h => usame_c HVV.out h x x fx.half fx.half
  have rxy : ∀ (w' : World) (R' : Blks), Own W w' R' → _ := fun w' R' h => usame_c HVV.out h x y fx.half fy.half
  have ryx : ∀ (w' : World) (R' : Blks), Own W w' R' → _ := fun w' R' h => usame_c HVV.out h y x fy.half fx.half
  have ryz : ∀ (w' : World) (R' : Blks), Own W w' R' → _ := fun w' R' h => usame_c HVV.out h y z fy.half fz.half
  have rxz : ∀ (w' : World) (R' : Blks), Own W w' R' → _ := fun w' R' h => usame_c HVV.out h x z fx.half fz.half
  have rwx : ∀ (w' : World) (R' : Blks), Own W w' R' → _ := fun w' R' h => usame_b HVV.out h _ x fb fx.half.bare
  have row : ∀ (w' : World) (R' : Blks), Own W w' R' → _ := fun w' R' h => uorigin_b HVV.out h _ fb
  have rox : ∀ (w' : World) (R' : Blks), Own W w' R' → _ := fun w' R' h => uorigin_c HVV.out h x fx.half
  have ew : originI (UL.mk x.sch x.host x.port (47 :: sb pt) (63 :: sb pt)) = originI x := rfl
  rw [ew] at rwx row
  have e1 : decide (originI x = originI x) = true := decide_eq_true rfl
  have eyx : decide (originI y = originI x) = decide (originI x = originI y) := by rw [Bool.eq_iff_iff, decide_eq_true_iff, decide_eq_true_iff]; exact eq_comm
  have etr : (decide (originI x = originI y) = true → decide (originI y = originI z) = true → decide (originI x = originI z) = true) := by
    simp only [decide_eq_true_iff]; exact fun h1 h2 => h1.trans h2
  rw [e1] at rxx rwx
  rw [eyx] at ryx
  have hs : ((strOfNums x.sch).toList == (strOfNums y.sch).toList) = decide (x.sch = y.sch) := beq_str fx.schB fy.schB
  have hh : ((strOfNums x.host).toList == (strOfNums y.host).toList) = decide (x.host = y.host) := beq_str fx.hostB fy.hostB
  have hp : (x.port == y.port) = decide (x.port = y.port) := rfl
  have c4 : strOfNums (47 :: sb pt) = ⟨#[47]⟩ ++ pt := by rw [show (47 : Int) :: sb pt = [47] ++ sb pt from rfl, strs_app, str_sb]; rfl
  have c5 : strOfNums (63 :: sb pt) = ⟨#[63]⟩ ++ pt := by rw [show (63 : Int) :: sb pt = [63] ++ sb pt from rfl, strs_app, str_sb]; rfl
  clear e1 eyx ew px py pz mx my mz fb fx fy fz
  obtain ⟨x1, x2, x3, x4, x5⟩ := x
  obtain ⟨y1, y2, y3, y4, y5⟩ := y
  obtain ⟨z1, z2, z3, z4, z5⟩ := z
  simp only at dxy hs hh hp rwx row rox
  generalize strOfNums (originI _) = so at row rox
  generalize decide (originI (UL.mk x1 x2 x3 x4 x5) = originI (UL.mk y1 y2 y3 y4 y5)) = bxy at *
  generalize decide (originI (UL.mk y1 y2 y3 y4 y5) = originI (UL.mk z1 z2 z3 z4 z5)) = byz at *
  generalize decide (originI (UL.mk x1 x2 x3 x4 x5) = originI (UL.mk z1 z2 z3 z4 z5)) = bxz at *
  generalize decide (x1 = y1) = bs at *
  generalize decide (x2 = y2) = bh at *
  generalize decide (x3 = y3) = bp at *
  simp only [UL.val, c4, c5] at k1 k2 k3 rxx rxy ryx ryz rxz rwx row rox
  have n1 : ¬ (9223372036854775807 < 1 + pt.size) := by omega
  have QX := Lib.hid qx; have QY := Lib.hid qy; have QZ := Lib.hid qz; have K1 := Lib.hid k1; have K2 := Lib.hid k2; have K3 := Lib.hid k3
  have RXX := Lib.hid rxx; have RXY := Lib.hid rxy; have RYX := Lib.hid ryx; have RYZ := Lib.hid ryz; have RXZ := Lib.hid rxz; have RWX := Lib.hid rwx; have ROW := Lib.hid row; have ROX := Lib.hid rox
  have HRX := Lib.hid rx; have HRY := Lib.hid ry; have HRZ := Lib.hid rz
  have DXY := Lib.hid dxy; have ETR := Lib.hid etr; have HS := Lib.hid hs; have HH := Lib.hid hh; have HP := Lib.hid hp
  have i1I : (i1 : Int) < 6 := by omega
  have i2I : (i2 : Int) < 6 := by omega
  have i3I : (i3 : Int) < 6 := by omega
  clear qx qy qz k1 k2 k3 rxx rxy ryx ryz rxz rwx row rox rx ry rz dxy etr hs hh hp c4 c5 zx zy zz
  go_enter Tryd.func8, Tryd.ntmps8
  go_wp2_with fail
  generalize hwx : W.alloc _ = w1
  have hO1 : Own W w1 [(W.heap.size, .cells (sameS.map Value.string).toArray 9)] := by rw [← hwx]; exact HO.out.alloc _
  have HO1 := Lib.hid hO1
  clear hwx hO1 HO
  with_reducible refine (QX.out _).mono ?_
  rintro en w20 ⟨rfl, hww⟩
  subst hww
  have hc7 : _ := HO1.out.cell (.head _) i1
  rw [List.getElem?_toArray, HRX.out] at hc7
  clear QX
  go_wp2_with fail
  with_reducible refine (K1.out _ _ HO1.out).mono ?_
  rintro e w21 ⟨rfl, hO⟩
  have HO2 := Lib.hid hO; clear hO HO1 K1 hc7
  simp only [Option.getD_some, Option.isSome_some, UL.val]
  go_wp2_with (first | (refine wl_alloc rfl _ rfl HO2.out _ (alloc_url _) ?_; intro gx w31 hO; have HO2a := Lib.hid hO; clear hO HO2) | (refine wl_store rfl _ _ _ rfl HO2a.out 0 gx 0 _ [Value.string (strOfNums x1), Value.string (strOfNums x2), Value.int .i64 x3, Value.string (strOfNums x4), Value.string (strOfNums x5)] _ rfl (by rfl) (by rfl) url_size (one_url ⟨x1, x2, x3, x4, x5⟩) (by simp [UL.val, UL.zero]) ?_; intro w41 hO; have HO3 := Lib.hid (hO.cast (L' := [(gx, .cells [Value.string (strOfNums x1), Value.string (strOfNums x2), Value.int .i64 x3, Value.string (strOfNums x4), Value.string (strOfNums x5)].toArray 25), (W.heap.size, .cells (sameS.map Value.string).toArray 9)]) rfl); clear hO HO2a))
  with_reducible refine (QY.out _).mono ?_
  rintro en w20 ⟨rfl, hww⟩
  subst hww
  have hc7 : _ := HO3.out.cell (.tail _ (.head _)) i2
  rw [List.getElem?_toArray, HRY.out] at hc7
  clear QY
  go_wp2_with fail
  with_reducible refine (K2.out _ _ HO3.out).mono ?_
  rintro e w22 ⟨rfl, hO⟩
  have HO4 := Lib.hid hO; clear hO HO3 K2 hc7
  simp only [Option.getD_some, Option.isSome_some, UL.val]
  go_wp2_with (first | (refine wl_alloc rfl _ rfl HO4.out _ (alloc_url _) ?_; intro gy w32 hO; have HO4a := Lib.hid hO; clear hO HO4) | (refine wl_store rfl _ _ _ rfl HO4a.out 0 gy 0 _ [Value.string (strOfNums y1), Value.string (strOfNums y2), Value.int .i64 y3, Value.string (strOfNums y4), Value.string (strOfNums y5)] _ rfl (by rfl) (by rfl) url_size (one_url ⟨y1, y2, y3, y4, y5⟩) (by simp [UL.val, UL.zero]) ?_; intro w42 hO; have HO5 := Lib.hid (hO.cast (L' := [(gy, .cells [Value.string (strOfNums y1), Value.string (strOfNums y2), Value.int .i64 y3, Value.string (strOfNums y4), Value.string (strOfNums y5)].toArray 25), (gx, .cells [Value.string (strOfNums x1), Value.string (strOfNums x2), Value.int .i64 x3, Value.string (strOfNums x4), Value.string (strOfNums x5)].toArray 25), (W.heap.size, .cells (sameS.map Value.string).toArray 9)]) rfl); clear hO HO4a))
  with_reducible refine (QZ.out _).mono ?_
  rintro en w20 ⟨rfl, hww⟩
  subst hww
  have hc7 : _ := HO5.out.cell (.tail _ (.tail _ (.head _))) i3
  rw [List.getElem?_toArray, HRZ.out] at hc7
  clear QZ
  go_wp2_with fail
  with_reducible refine (K3.out _ _ HO5.out).mono ?_
  rintro e w23 ⟨rfl, hO⟩
  have HO6 := Lib.hid hO; clear hO HO5 K3 hc7
  simp only [Option.getD_some, Option.isSome_some, UL.val]
  go_wp2_with (first | (refine wl_alloc rfl _ rfl HO6.out _ (alloc_url _) ?_; intro gz w33 hO; have HO6a := Lib.hid hO; clear hO HO6) | (refine wl_store rfl _ _ _ rfl HO6a.out 0 gz 0 _ [Value.string (strOfNums z1), Value.string (strOfNums z2), Value.int .i64 z3, Value.string (strOfNums z4), Value.string (strOfNums z5)] _ rfl (by rfl) (by rfl) url_size (one_url ⟨z1, z2, z3, z4, z5⟩) (by simp [UL.val, UL.zero]) ?_; intro w43 hO; have HO7 := Lib.hid (hO.cast (L' := [(gz, .cells [Value.string (strOfNums z1), Value.string (strOfNums z2), Value.int .i64 z3, Value.string (strOfNums z4), Value.string (strOfNums z5)].toArray 25), (gy, .cells [Value.string (strOfNums y1), Value.string (strOfNums y2), Value.int .i64 y3, Value.string (strOfNums y4), Value.string (strOfNums y5)].toArray 25), (gx, .cells [Value.string (strOfNums x1), Value.string (strOfNums x2), Value.int .i64 x3, Value.string (strOfNums x4), Value.string (strOfNums x5)].toArray 25), (W.heap.size, .cells (sameS.map Value.string).toArray 9)]) rfl); clear hO HO6a))
  clear HRX HRY HRZ
  cases bxy with
  | true =>
    have hd := DXY.out
    obtain ⟨rfl, rfl, rfl⟩ : bs = true ∧ bh = true ∧ bp = true := by cases bs <;> cases bh <;> cases bp <;> simp at hd ⊢
    clear hd DXY
    cases byz with
    | true =>
      obtain rfl : bxz = true := ETR.out rfl rfl
      clear ETR
      have hs := HS.out
      have hh := HH.out
      have hp := HP.out
      clear HS HH HP
      refine wp_region_lin (fun w' => w'.heap[gx]? = some (.cells [Value.string (strOfNums x1), Value.string (strOfNums x2), Value.int .i64 x3, Value.string (strOfNums x4), Value.string (strOfNums x5)].toArray 25) ∧ w'.heap[gy]? = some (.cells [Value.string (strOfNums y1), Value.string (strOfNums y2), Value.int .i64 y3, Value.string (strOfNums y4), Value.string (strOfNums y5)].toArray 25) ∧ w'.heap[gz]? = some (.cells [Value.string (strOfNums z1), Value.string (strOfNums z2), Value.int .i64 z3, Value.string (strOfNums z4), Value.string (strOfNums z5)].toArray 25)) 54 [(0, true), (1, true), (2, false), (3, true), (4, true), (5, true), (6, true), (8, true), (9, true), (7, false), (10, false), (11, true), (12, true), (13, true), (14, true), (15, true), (16, false), (17, true), (18, true), (19, true), (20, false), (21, true), (22, true), (23, true), (24, true), (25, false), (26, true), (27, true), (28, true), (29, true), (30, true), (31, true), (33, true), (34, true), (35, true), (36, true), (37, true), (32, false), (38, true), (39, true), (40, true), (41, true), (42, true), (43, true), (44, true), (45, true), (46, true), (47, true), (48, true), (49, true), (50, true), (51, true), (52, true), (53, true)] (by kernel_rfl) (by kernel_rfl) (fun _ _ d _ _ h => by cases d <;> exact h) ⟨HO7.out.drew.heap (.tail _ (.tail _ (.head _))), HO7.out.drew.heap (.tail _ (.head _)), HO7.out.drew.heap (.head _)⟩ ?_
      simp only [List.map_cons, List.map_nil, pick_zero, pick_succ, List.drop_succ_cons, List.drop_zero]
      refine lin_load rfl _ _ rfl gx 0 [Value.string (strOfNums x1), Value.string (strOfNums x2), Value.int .i64 x3, Value.string (strOfNums x4), Value.string (strOfNums x5)] [Value.string (strOfNums x1), Value.string (strOfNums x2), Value.int .i64 x3, Value.string (strOfNums x4), Value.string (strOfNums x5)] 25 (by rfl) _ Tryd.underlying25 rfl url_size (by rfl) (fun w' hw => hw.1) ?_
      simp only [Act.put, List.setIfInBounds_toArray, List.set_cons_zero, List.set_cons_succ]
      refine lin_load rfl _ _ rfl gx 0 [Value.string (strOfNums x1), Value.string (strOfNums x2), Value.int .i64 x3, Value.string (strOfNums x4), Value.string (strOfNums x5)] [Value.string (strOfNums x1), Value.string (strOfNums x2), Value.int .i64 x3, Value.string (strOfNums x4), Value.string (strOfNums x5)] 25 (by rfl) _ Tryd.underlying25 rfl url_size (by rfl) (fun w' hw => hw.1) ?_
      simp only [Act.put, List.setIfInBounds_toArray, List.set_cons_zero, List.set_cons_succ]
      refine lin_act ?_
      refine wl_call rfl _ _ _ (by go_simp) (RXX.out _ _ HO7.out.drew) ?_
      rintro e whR1 ⟨rfl, hR1⟩
      refine ⟨_, rfl, LinPost.mk ⟨hR1.heap (.tail _ (.tail _ (.head _))), hR1.heap (.tail _ (.head _)), hR1.heap (.head _)⟩ ?_⟩
      simp only [Act.put, List.setIfInBounds_toArray, List.set_cons_zero, List.set_cons_succ]
      refine lin_q ?_ rfl ?_ ?_; rotate_left 1; (focus (rintro w' -; go_simp; first | done | with_reducible rfl | (trace_state; fail)))
      simp only [Act.put, List.setIfInBounds_toArray, List.set_cons_zero, List.set_cons_succ]
      refine lin_q ?_ rfl ?_ ?_; rotate_left 1; (focus (rintro w' -; go_simp; first | done | with_reducible rfl | (trace_state; fail)))
      simp only [Act.put, List.setIfInBounds_toArray, List.set_cons_zero, List.set_cons_succ]
      refine lin_loadG (by rfl) _ _ rfl gx 0 [Value.string (strOfNums x1), Value.string (strOfNums x2), Value.int .i64 x3, Value.string (strOfNums x4), Value.string (strOfNums x5)] [Value.string (strOfNums x1), Value.string (strOfNums x2), Value.int .i64 x3, Value.string (strOfNums x4), Value.string (strOfNums x5)] 25 (by rfl) _ Tryd.underlying25 rfl url_size (by rfl) (fun w' hw => hw.1) ?_
      simp only [Act.put, List.setIfInBounds_toArray, List.set_cons_zero, List.set_cons_succ]
      refine lin_loadG (by rfl) _ _ rfl gy 0 [Value.string (strOfNums y1), Value.string (strOfNums y2), Value.int .i64 y3, Value.string (strOfNums y4), Value.string (strOfNums y5)] [Value.string (strOfNums y1), Value.string (strOfNums y2), Value.int .i64 y3, Value.string (strOfNums y4), Value.string (strOfNums y5)] 25 (by rfl) _ Tryd.underlying25 rfl url_size (by rfl) (fun w' hw => hw.2.1) ?_
      simp only [Act.put, List.setIfInBounds_toArray, List.set_cons_zero, List.set_cons_succ]
      refine lin_loadG (by rfl) _ _ rfl gy 0 [Value.string (strOfNums y1), Value.string (strOfNums y2), Value.int .i64 y3, Value.string (strOfNums y4), Value.string (strOfNums y5)] [Value.string (strOfNums y1), Value.string (strOfNums y2), Value.int .i64 y3, Value.string (strOfNums y4), Value.string (strOfNums y5)] 25 (by rfl) _ Tryd.underlying25 rfl url_size (by rfl) (fun w' hw => hw.2.1) ?_
      simp only [Act.put, List.setIfInBounds_toArray, List.set_cons_zero, List.set_cons_succ]
      refine lin_loadG (by rfl) _ _ rfl gx 0 [Value.string (strOfNums x1), Value.string (strOfNums x2), Value.int .i64 x3, Value.string (strOfNums x4), Value.string (strOfNums x5)] [Value.string (strOfNums x1), Value.string (strOfNums x2), Value.int .i64 x3, Value.string (strOfNums x4), Value.string (strOfNums x5)] 25 (by rfl) _ Tryd.underlying25 rfl url_size (by rfl) (fun w' hw => hw.1) ?_
      simp only [Act.put, List.setIfInBounds_toArray, List.set_cons_zero, List.set_cons_succ]
      refine lin_act ?_
      refine wl_g (by rfl) ?_
      refine wl_call rfl _ _ _ (by go_simp) (RXY.out _ _ hR1) ?_
      rintro e whR2 ⟨rfl, hR2⟩
      refine ⟨_, rfl, LinPost.mk ⟨hR2.heap (.tail _ (.tail _ (.head _))), hR2.heap (.tail _ (.head _)), hR2.heap (.head _)⟩ ?_⟩
      simp only [Act.put, List.setIfInBounds_toArray, List.set_cons_zero, List.set_cons_succ]
      refine lin_act ?_
      refine wl_g (by rfl) ?_
      refine wl_call rfl _ _ _ (by go_simp) (RYX.out _ _ hR2) ?_
      rintro e whR3 ⟨rfl, hR3⟩
      refine ⟨_, rfl, LinPost.mk ⟨hR3.heap (.tail _ (.tail _ (.head _))), hR3.heap (.tail _ (.head _)), hR3.heap (.head _)⟩ ?_⟩
      simp only [Act.put, List.setIfInBounds_toArray, List.set_cons_zero, List.set_cons_succ]
      refine lin_g ?_ (by rfl) ?_ ?_; rotate_left 1; (focus (rintro w' -; go_simp; first | done | with_reducible rfl | (trace_state; fail)))
      simp only [Act.put, List.setIfInBounds_toArray, List.set_cons_zero, List.set_cons_succ]
      refine lin_q ?_ rfl ?_ ?_; rotate_left 1; (focus (rintro w' -; go_simp; first | done | with_reducible rfl | (trace_state; fail)))
      simp only [Act.put, List.setIfInBounds_toArray, List.set_cons_zero, List.set_cons_succ]
      refine lin_q ?_ rfl ?_ ?_; rotate_left 1; (focus (rintro w' -; go_simp; first | done | with_reducible rfl | (trace_state; fail)))
      simp only [Act.put, List.setIfInBounds_toArray, List.set_cons_zero, List.set_cons_succ]
      refine lin_loadG (by rfl) _ _ rfl gx 0 [Value.string (strOfNums x1), Value.string (strOfNums x2), Value.int .i64 x3, Value.string (strOfNums x4), Value.string (strOfNums x5)] [Value.string (strOfNums x1), Value.string (strOfNums x2), Value.int .i64 x3, Value.string (strOfNums x4), Value.string (strOfNums x5)] 25 (by rfl) _ Tryd.underlying25 rfl url_size (by rfl) (fun w' hw => hw.1) ?_
      simp only [Act.put, List.setIfInBounds_toArray, List.set_cons_zero, List.set_cons_succ]
      refine lin_loadG (by rfl) _ _ rfl gy 0 [Value.string (strOfNums y1), Value.string (strOfNums y2), Value.int .i64 y3, Value.string (strOfNums y4), Value.string (strOfNums y5)] [Value.string (strOfNums y1), Value.string (strOfNums y2), Value.int .i64 y3, Value.string (strOfNums y4), Value.string (strOfNums y5)] 25 (by rfl) _ Tryd.underlying25 rfl url_size (by rfl) (fun w' hw => hw.2.1) ?_
      simp only [Act.put, List.setIfInBounds_toArray, List.set_cons_zero, List.set_cons_succ]
      refine lin_act ?_
      refine wl_g (by rfl) ?_
      refine wl_call rfl _ _ _ (by go_simp) (RXY.out _ _ hR3) ?_
      rintro e whR4 ⟨rfl, hR4⟩
      refine ⟨_, rfl, LinPost.mk ⟨hR4.heap (.tail _ (.tail _ (.head _))), hR4.heap (.tail _ (.head _)), hR4.heap (.head _)⟩ ?_⟩
      simp only [Act.put, List.setIfInBounds_toArray, List.set_cons_zero, List.set_cons_succ]
      refine lin_g ?_ (by rfl) ?_ ?_; rotate_left 1; (focus (rintro w' -; go_simp; first | done | with_reducible rfl | (trace_state; fail)))
      simp only [Act.put, List.setIfInBounds_toArray, List.set_cons_zero, List.set_cons_succ]
      refine lin_loadG (by rfl) _ _ rfl gy 0 [Value.string (strOfNums y1), Value.string (strOfNums y2), Value.int .i64 y3, Value.string (strOfNums y4), Value.string (strOfNums y5)] [Value.string (strOfNums y1), Value.string (strOfNums y2), Value.int .i64 y3, Value.string (strOfNums y4), Value.string (strOfNums y5)] 25 (by rfl) _ Tryd.underlying25 rfl url_size (by rfl) (fun w' hw => hw.2.1) ?_
      simp only [Act.put, List.setIfInBounds_toArray, List.set_cons_zero, List.set_cons_succ]
      refine lin_loadG (by rfl) _ _ rfl gz 0 [Value.string (strOfNums z1), Value.string (strOfNums z2), Value.int .i64 z3, Value.string (strOfNums z4), Value.string (strOfNums z5)] [Value.string (strOfNums z1), Value.string (strOfNums z2), Value.int .i64 z3, Value.string (strOfNums z4), Value.string (strOfNums z5)] 25 (by rfl) _ Tryd.underlying25 rfl url_size (by rfl) (fun w' hw => hw.2.2) ?_
      simp only [Act.put, List.setIfInBounds_toArray, List.set_cons_zero, List.set_cons_succ]
      refine lin_act ?_
      refine wl_g (by rfl) ?_
      refine wl_call rfl _ _ _ (by go_simp) (RYZ.out _ _ hR4) ?_
      rintro e whR5 ⟨rfl, hR5⟩
      refine ⟨_, rfl, LinPost.mk ⟨hR5.heap (.tail _ (.tail _ (.head _))), hR5.heap (.tail _ (.head _)), hR5.heap (.head _)⟩ ?_⟩
      simp only [Act.put, List.setIfInBounds_toArray, List.set_cons_zero, List.set_cons_succ]
      refine lin_g ?_ (by rfl) ?_ ?_; rotate_left 1; (focus (rintro w' -; go_simp; first | done | with_reducible rfl | (trace_state; fail)))
      simp only [Act.put, List.setIfInBounds_toArray, List.set_cons_zero, List.set_cons_succ]
      refine lin_g ?_ (by rfl) ?_ ?_; rotate_left 1; (focus (rintro w' -; go_simp; first | done | with_reducible rfl | (trace_state; fail)))
      simp only [Act.put, List.setIfInBounds_toArray, List.set_cons_zero, List.set_cons_succ]
      refine lin_loadG (by rfl) _ _ rfl gx 0 [Value.string (strOfNums x1), Value.string (strOfNums x2), Value.int .i64 x3, Value.string (strOfNums x4), Value.string (strOfNums x5)] [Value.string (strOfNums x1), Value.string (strOfNums x2), Value.int .i64 x3, Value.string (strOfNums x4), Value.string (strOfNums x5)] 25 (by rfl) _ Tryd.underlying25 rfl url_size (by rfl) (fun w' hw => hw.1) ?_
      simp only [Act.put, List.setIfInBounds_toArray, List.set_cons_zero, List.set_cons_succ]
      refine lin_loadG (by rfl) _ _ rfl gz 0 [Value.string (strOfNums z1), Value.string (strOfNums z2), Value.int .i64 z3, Value.string (strOfNums z4), Value.string (strOfNums z5)] [Value.string (strOfNums z1), Value.string (strOfNums z2), Value.int .i64 z3, Value.string (strOfNums z4), Value.string (strOfNums z5)] 25 (by rfl) _ Tryd.underlying25 rfl url_size (by rfl) (fun w' hw => hw.2.2) ?_
      simp only [Act.put, List.setIfInBounds_toArray, List.set_cons_zero, List.set_cons_succ]
      refine lin_act ?_
      refine wl_g (by rfl) ?_
      refine wl_call rfl _ _ _ (by go_simp) (RXZ.out _ _ hR5) ?_
      rintro e whR6 ⟨rfl, hR6⟩
      refine ⟨_, rfl, LinPost.mk ⟨hR6.heap (.tail _ (.tail _ (.head _))), hR6.heap (.tail _ (.head _)), hR6.heap (.head _)⟩ ?_⟩
      simp only [Act.put, List.setIfInBounds_toArray, List.set_cons_zero, List.set_cons_succ]
      refine lin_g ?_ (by rfl) ?_ ?_; rotate_left 1; (focus (rintro w' -; go_simp; first | done | with_reducible rfl | (trace_state; fail)))
      simp only [Act.put, List.setIfInBounds_toArray, List.set_cons_zero, List.set_cons_succ]
      refine lin_g ?_ (by rfl) ?_ ?_; rotate_left 1; (focus (rintro w' -; go_simp; first | done | with_reducible rfl | (trace_state; fail)))
      simp only [Act.put, List.setIfInBounds_toArray, List.set_cons_zero, List.set_cons_succ]
      refine lin_q ?_ rfl ?_ ?_; rotate_left 1; (focus (rintro w' -; go_simp; first | done | with_reducible rfl | (trace_state; fail)))
      simp only [Act.put, List.setIfInBounds_toArray, List.set_cons_zero, List.set_cons_succ]
      refine lin_q ?_ rfl ?_ ?_; rotate_left 1; (focus (rintro w' -; go_simp; first | done | with_reducible rfl | (trace_state; fail)))
      simp only [Act.put, List.setIfInBounds_toArray, List.set_cons_zero, List.set_cons_succ]
      refine lin_loadG (by rfl) _ _ rfl gx 0 [Value.string (strOfNums x1), Value.string (strOfNums x2), Value.int .i64 x3, Value.string (strOfNums x4), Value.string (strOfNums x5)] [Value.string (strOfNums x1), Value.string (strOfNums x2), Value.int .i64 x3, Value.string (strOfNums x4), Value.string (strOfNums x5)] 25 (by rfl) _ Tryd.underlying25 rfl url_size (by rfl) (fun w' hw => hw.1) ?_
      simp only [Act.put, List.setIfInBounds_toArray, List.set_cons_zero, List.set_cons_succ]
      refine lin_loadG (by rfl) _ _ rfl gy 0 [Value.string (strOfNums y1), Value.string (strOfNums y2), Value.int .i64 y3, Value.string (strOfNums y4), Value.string (strOfNums y5)] [Value.string (strOfNums y1), Value.string (strOfNums y2), Value.int .i64 y3, Value.string (strOfNums y4), Value.string (strOfNums y5)] 25 (by rfl) _ Tryd.underlying25 rfl url_size (by rfl) (fun w' hw => hw.2.1) ?_
      simp only [Act.put, List.setIfInBounds_toArray, List.set_cons_zero, List.set_cons_succ]
      refine lin_g ?_ (by rfl) ?_ ?_; rotate_left 1; (focus (rintro w' -; go_simp; first | done | with_reducible rfl | (trace_state; fail)))
      simp only [Act.put, List.setIfInBounds_toArray, List.set_cons_zero, List.set_cons_succ]
      refine lin_g ?_ (by rfl) ?_ ?_; rotate_left 1; (focus (rintro w' hw; have k0 : w'.cell? ⟨gx, 0, none⟩ = some (.string (strOfNums x1)) := (by rw [cell_of_row w' gx 0 _ _ (0, 0) hw.1]; rfl); clear hw; go_simp; first | done | with_reducible rfl | (trace_state; fail)))
      simp only [Act.put, List.setIfInBounds_toArray, List.set_cons_zero, List.set_cons_succ]
      refine lin_g ?_ (by rfl) ?_ ?_; rotate_left 1; (focus (rintro w' -; go_simp; first | done | with_reducible rfl | (trace_state; fail)))
      simp only [Act.put, List.setIfInBounds_toArray, List.set_cons_zero, List.set_cons_succ]
      refine lin_g ?_ (by rfl) ?_ ?_; rotate_left 1; (focus (rintro w' hw; have k0 : w'.cell? ⟨gy, 0, none⟩ = some (.string (strOfNums y1)) := (by rw [cell_of_row w' gy 0 _ _ (0, 0) hw.2.1]; rfl); clear hw; go_simp; first | done | with_reducible rfl | (trace_state; fail)))
      simp only [Act.put, List.setIfInBounds_toArray, List.set_cons_zero, List.set_cons_succ]
      refine lin_g ?_ (by rfl) ?_ ?_; rotate_left 1; (focus (rintro w' -; go_simp; first | done | with_reducible rfl | (trace_state; fail)))
      simp only [Act.put, List.setIfInBounds_toArray, List.set_cons_zero, List.set_cons_succ]
      refine lin_act ?_
      refine wl_g (by rfl) ?_
      refine wl_call rfl _ _ _ (by go_simp) (RXY.out _ _ hR6) ?_
      rintro e whR7 ⟨rfl, hR7⟩
      refine ⟨_, rfl, LinPost.mk ⟨hR7.heap (.tail _ (.tail _ (.head _))), hR7.heap (.tail _ (.head _)), hR7.heap (.head _)⟩ ?_⟩
      simp only [Act.put, List.setIfInBounds_toArray, List.set_cons_zero, List.set_cons_succ]
      refine lin_g ?_ (by rfl) ?_ ?_; rotate_left 1; (focus (rintro w' -; go_simp; first | done | with_reducible rfl | (trace_state; fail)))
      simp only [Act.put, List.setIfInBounds_toArray, List.set_cons_zero, List.set_cons_succ]
      refine lin_g ?_ (by rfl) ?_ ?_; rotate_left 1; (focus (rintro w' -; go_simp; first | done | with_reducible rfl | (trace_state; fail)))
      simp only [Act.put, List.setIfInBounds_toArray, List.set_cons_zero, List.set_cons_succ]
      refine lin_g ?_ (by rfl) ?_ ?_; rotate_left 1; (focus (rintro w' hw; have k0 : w'.cell? ⟨gx, 1, none⟩ = some (.string (strOfNums x2)) := (by rw [cell_of_row w' gx 1 _ _ (0, 0) hw.1]; rfl); clear hw; go_simp; first | done | with_reducible rfl | (trace_state; fail)))
      simp only [Act.put, List.setIfInBounds_toArray, List.set_cons_zero, List.set_cons_succ]
      refine lin_g ?_ (by rfl) ?_ ?_; rotate_left 1; (focus (rintro w' -; go_simp; first | done | with_reducible rfl | (trace_state; fail)))
      simp only [Act.put, List.setIfInBounds_toArray, List.set_cons_zero, List.set_cons_succ]
      refine lin_g ?_ (by rfl) ?_ ?_; rotate_left 1; (focus (rintro w' hw; have k0 : w'.cell? ⟨gy, 1, none⟩ = some (.string (strOfNums y2)) := (by rw [cell_of_row w' gy 1 _ _ (0, 0) hw.2.1]; rfl); clear hw; go_simp; first | done | with_reducible rfl | (trace_state; fail)))
      simp only [Act.put, List.setIfInBounds_toArray, List.set_cons_zero, List.set_cons_succ]
      refine lin_g ?_ (by rfl) ?_ ?_; rotate_left 1; (focus (rintro w' -; go_simp; first | done | with_reducible rfl | (trace_state; fail)))
      simp only [Act.put, List.setIfInBounds_toArray, List.set_cons_zero, List.set_cons_succ]
      refine lin_g ?_ (by rfl) ?_ ?_; rotate_left 1; (focus (rintro w' -; go_simp; first | done | with_reducible rfl | (trace_state; fail)))
      simp only [Act.put, List.setIfInBounds_toArray, List.set_cons_zero, List.set_cons_succ]
      refine lin_g ?_ (by rfl) ?_ ?_; rotate_left 1; (focus (rintro w' -; go_simp; first | done | with_reducible rfl | (trace_state; fail)))
      simp only [Act.put, List.setIfInBounds_toArray, List.set_cons_zero, List.set_cons_succ]
      refine lin_g ?_ (by rfl) ?_ ?_; rotate_left 1; (focus (rintro w' -; go_simp; first | done | with_reducible rfl | (trace_state; fail)))
      simp only [Act.put, List.setIfInBounds_toArray, List.set_cons_zero, List.set_cons_succ]
      refine lin_g ?_ (by rfl) ?_ ?_; rotate_left 1; (focus (rintro w' hw; have k0 : w'.cell? ⟨gx, 2, none⟩ = some (.int .i64 x3) := (by rw [cell_of_row w' gx 2 _ _ (0, 0) hw.1]; rfl); clear hw; go_simp; first | done | with_reducible rfl | (trace_state; fail)))
      simp only [Act.put, List.setIfInBounds_toArray, List.set_cons_zero, List.set_cons_succ]
      refine lin_g ?_ (by rfl) ?_ ?_; rotate_left 1; (focus (rintro w' -; go_simp; first | done | with_reducible rfl | (trace_state; fail)))
      simp only [Act.put, List.setIfInBounds_toArray, List.set_cons_zero, List.set_cons_succ]
      refine lin_g ?_ (by rfl) ?_ ?_; rotate_left 1; (focus (rintro w' hw; have k0 : w'.cell? ⟨gy, 2, none⟩ = some (.int .i64 y3) := (by rw [cell_of_row w' gy 2 _ _ (0, 0) hw.2.1]; rfl); clear hw; go_simp; first | done | with_reducible rfl | (trace_state; fail)))
      simp only [Act.put, List.setIfInBounds_toArray, List.set_cons_zero, List.set_cons_succ]
      refine lin_g ?_ (by rfl) ?_ ?_; rotate_left 1; (focus (rintro w' -; go_simp; first | done | with_reducible rfl | (trace_state; fail)))
      simp only [Act.put, List.setIfInBounds_toArray, List.set_cons_zero, List.set_cons_succ]
      refine lin_g ?_ (by rfl) ?_ ?_; rotate_left 1; (focus (rintro w' -; go_simp; first | done | with_reducible rfl | (trace_state; fail)))
      simp only [Act.put, List.setIfInBounds_toArray, List.set_cons_zero, List.set_cons_succ]
      refine lin_g ?_ (by rfl) ?_ ?_; rotate_left 1; (focus (rintro w' -; go_simp; first | done | with_reducible rfl | (trace_state; fail)))
      simp only [Act.put, List.setIfInBounds_toArray, List.set_cons_zero, List.set_cons_succ]
      refine lin_q ?_ rfl ?_ ?_; rotate_left 1; (focus (rintro w' -; go_simp; first | done | with_reducible rfl | (trace_state; fail)))
      simp only [Act.put, List.setIfInBounds_toArray, List.set_cons_zero, List.set_cons_succ]
      refine lin_nil ?_
      clear hs hh hp
      have HO8 := Lib.hid hR7
      go_wp2_with (first | (refine wl_load rfl _ _ rfl gx 0 [Value.string (strOfNums x1), Value.string (strOfNums x2), Value.int .i64 x3, Value.string (strOfNums x4), Value.string (strOfNums x5)] [Value.string (strOfNums x1), Value.string (strOfNums x2), Value.int .i64 x3, Value.string (strOfNums x4), Value.string (strOfNums x5)] _ (HO8.out.heap (.tail _ (.tail _ (.head _)))) (by rfl) _ Tryd.underlying25 rfl url_size (by rfl) ?_) | (refine wl_alloc rfl _ rfl HO8.out _ (alloc_url _) ?_; intro gw w50 hO; have HO9 := Lib.hid hO; clear hO HO8) | (refine wl_store rfl _ _ _ rfl HO9.out 0 gw 0 _ [Value.string (strOfNums x1), Value.string (strOfNums x2), Value.int .i64 x3, Value.string (strOfNums x4), Value.string (strOfNums x5)] _ rfl (by rfl) (by rfl) url_size (one_url ⟨x1, x2, x3, x4, x5⟩) (by simp [UL.val, UL.zero]) ?_; intro w51 hO; have HO10 := Lib.hid (hO.cast (L' := [(gw, .cells [Value.string (strOfNums x1), Value.string (strOfNums x2), Value.int .i64 x3, Value.string (strOfNums x4), Value.string (strOfNums x5)].toArray 25), (gz, .cells [Value.string (strOfNums z1), Value.string (strOfNums z2), Value.int .i64 z3, Value.string (strOfNums z4), Value.string (strOfNums z5)].toArray 25), (gy, .cells [Value.string (strOfNums y1), Value.string (strOfNums y2), Value.int .i64 y3, Value.string (strOfNums y4), Value.string (strOfNums y5)].toArray 25), (gx, .cells [Value.string (strOfNums x1), Value.string (strOfNums x2), Value.int .i64 x3, Value.string (strOfNums x4), Value.string (strOfNums x5)].toArray 25), (W.heap.size, .cells (sameS.map Value.string).toArray 9)]) rfl); clear hO HO9) | (refine wl_store1 rfl _ _ _ rfl HO10.out 0 gw 3 _ (.string (⟨#[47]⟩ ++ pt)) _ rfl (by rfl) (by rfl) (by rfl) (by kernel_rfl) (by rfl) (by simp) ?_; intro w52 hO; have HO11 := Lib.hid (hO.cast (L' := [(gw, .cells [Value.string (strOfNums x1), Value.string (strOfNums x2), Value.int .i64 x3, Value.string (⟨#[47]⟩ ++ pt), Value.string (strOfNums x5)].toArray 25), (gz, .cells [Value.string (strOfNums z1), Value.string (strOfNums z2), Value.int .i64 z3, Value.string (strOfNums z4), Value.string (strOfNums z5)].toArray 25), (gy, .cells [Value.string (strOfNums y1), Value.string (strOfNums y2), Value.int .i64 y3, Value.string (strOfNums y4), Value.string (strOfNums y5)].toArray 25), (gx, .cells [Value.string (strOfNums x1), Value.string (strOfNums x2), Value.int .i64 x3, Value.string (strOfNums x4), Value.string (strOfNums x5)].toArray 25), (W.heap.size, .cells (sameS.map Value.string).toArray 9)]) rfl); clear hO HO10) | (refine wl_store1 rfl _ _ _ rfl HO11.out 0 gw 4 _ (.string (⟨#[63]⟩ ++ pt)) _ rfl (by rfl) (by rfl) (by rfl) (by kernel_rfl) (by rfl) (by simp) ?_; intro w53 hO; have HO12 := Lib.hid (hO.cast (L' := [(gw, .cells [Value.string (strOfNums x1), Value.string (strOfNums x2), Value.int .i64 x3, Value.string (⟨#[47]⟩ ++ pt), Value.string (⟨#[63]⟩ ++ pt)].toArray 25), (gz, .cells [Value.string (strOfNums z1), Value.string (strOfNums z2), Value.int .i64 z3, Value.string (strOfNums z4), Value.string (strOfNums z5)].toArray 25), (gy, .cells [Value.string (strOfNums y1), Value.string (strOfNums y2), Value.int .i64 y3, Value.string (strOfNums y4), Value.string (strOfNums y5)].toArray 25), (gx, .cells [Value.string (strOfNums x1), Value.string (strOfNums x2), Value.int .i64 x3, Value.string (strOfNums x4), Value.string (strOfNums x5)].toArray 25), (W.heap.size, .cells (sameS.map Value.string).toArray 9)]) rfl); clear hO HO11))
      refine wp_region_lin (fun w' => w'.heap[gw]? = some (.cells [Value.string (strOfNums x1), Value.string (strOfNums x2), Value.int .i64 x3, Value.string (⟨#[47]⟩ ++ pt), Value.string (⟨#[63]⟩ ++ pt)].toArray 25) ∧ w'.heap[gx]? = some (.cells [Value.string (strOfNums x1), Value.string (strOfNums x2), Value.int .i64 x3, Value.string (strOfNums x4), Value.string (strOfNums x5)].toArray 25)) 14 [(0, true), (1, true), (2, false), (3, true), (4, true), (6, true), (5, false), (7, false), (8, true), (9, true), (10, true), (11, false), (12, true), (13, true)] (by kernel_rfl) (by kernel_rfl) (fun _ _ d _ _ h => by cases d <;> exact h) ⟨HO12.out.drew.heap (.head _), HO12.out.drew.heap (.tail _ (.tail _ (.tail _ (.head _))))⟩ ?_
      simp only [List.map_cons, List.map_nil, pick_zero, pick_succ, List.drop_succ_cons, List.drop_zero]
      refine lin_load rfl _ _ rfl gw 0 [Value.string (strOfNums x1), Value.string (strOfNums x2), Value.int .i64 x3, Value.string (⟨#[47]⟩ ++ pt), Value.string (⟨#[63]⟩ ++ pt)] [Value.string (strOfNums x1), Value.string (strOfNums x2), Value.int .i64 x3, Value.string (⟨#[47]⟩ ++ pt), Value.string (⟨#[63]⟩ ++ pt)] 25 (by rfl) _ Tryd.underlying25 rfl url_size (by rfl) (fun w' hw => hw.1) ?_
      simp only [Act.put, List.setIfInBounds_toArray, List.set_cons_zero, List.set_cons_succ]
      refine lin_load rfl _ _ rfl gx 0 [Value.string (strOfNums x1), Value.string (strOfNums x2), Value.int .i64 x3, Value.string (strOfNums x4), Value.string (strOfNums x5)] [Value.string (strOfNums x1), Value.string (strOfNums x2), Value.int .i64 x3, Value.string (strOfNums x4), Value.string (strOfNums x5)] 25 (by rfl) _ Tryd.underlying25 rfl url_size (by rfl) (fun w' hw => hw.2) ?_
      simp only [Act.put, List.setIfInBounds_toArray, List.set_cons_zero, List.set_cons_succ]
      refine lin_act ?_
      refine wl_call rfl _ _ _ (by go_simp) (RWX.out _ _ HO12.out.drew) ?_
      rintro e whR101 ⟨rfl, hR101⟩
      refine ⟨_, rfl, LinPost.mk ⟨hR101.heap (.head _), hR101.heap (.tail _ (.tail _ (.tail _ (.head _))))⟩ ?_⟩
      simp only [Act.put, List.setIfInBounds_toArray, List.set_cons_zero, List.set_cons_succ]
      refine lin_q ?_ rfl ?_ ?_; rotate_left 1; (focus (rintro w' -; go_simp; first | done | with_reducible rfl | (trace_state; fail)))
      simp only [Act.put, List.setIfInBounds_toArray, List.set_cons_zero, List.set_cons_succ]
      refine lin_loadG (by rfl) _ _ rfl gw 0 [Value.string (strOfNums x1), Value.string (strOfNums x2), Value.int .i64 x3, Value.string (⟨#[47]⟩ ++ pt), Value.string (⟨#[63]⟩ ++ pt)] [Value.string (strOfNums x1), Value.string (strOfNums x2), Value.int .i64 x3, Value.string (⟨#[47]⟩ ++ pt), Value.string (⟨#[63]⟩ ++ pt)] 25 (by rfl) _ Tryd.underlying25 rfl url_size (by rfl) (fun w' hw => hw.1) ?_
      simp only [Act.put, List.setIfInBounds_toArray, List.set_cons_zero, List.set_cons_succ]
      refine lin_loadG (by rfl) _ _ rfl gx 0 [Value.string (strOfNums x1), Value.string (strOfNums x2), Value.int .i64 x3, Value.string (strOfNums x4), Value.string (strOfNums x5)] [Value.string (strOfNums x1), Value.string (strOfNums x2), Value.int .i64 x3, Value.string (strOfNums x4), Value.string (strOfNums x5)] 25 (by rfl) _ Tryd.underlying25 rfl url_size (by rfl) (fun w' hw => hw.2) ?_
      simp only [Act.put, List.setIfInBounds_toArray, List.set_cons_zero, List.set_cons_succ]
      refine lin_act ?_
      refine wl_g (by rfl) ?_
      refine wl_call rfl _ _ _ (by go_simp) (ROW.out _ _ hR101) ?_
      rintro e whR102 ⟨rfl, hR102⟩
      refine ⟨_, rfl, LinPost.mk ⟨hR102.heap (.head _), hR102.heap (.tail _ (.tail _ (.tail _ (.head _))))⟩ ?_⟩
      simp only [Act.put, List.setIfInBounds_toArray, List.set_cons_zero, List.set_cons_succ]
      refine lin_act ?_
      refine wl_g (by rfl) ?_
      refine wl_call rfl _ _ _ (by go_simp) (ROX.out _ _ hR102) ?_
      rintro e whR103 ⟨rfl, hR103⟩
      refine ⟨_, rfl, LinPost.mk ⟨hR103.heap (.head _), hR103.heap (.tail _ (.tail _ (.tail _ (.head _))))⟩ ?_⟩
      simp only [Act.put, List.setIfInBounds_toArray, List.set_cons_zero, List.set_cons_succ]
      refine lin_g ?_ (by rfl) ?_ ?_; rotate_left 1; (focus (rintro w' -; go_simp; first | done | with_reducible rfl | (trace_state; fail)))
      simp only [Act.put, List.setIfInBounds_toArray, List.set_cons_zero, List.set_cons_succ]
      refine lin_q ?_ rfl ?_ ?_; rotate_left 1; (focus (rintro w' -; go_simp; first | done | with_reducible rfl | (trace_state; fail)))
      simp only [Act.put, List.setIfInBounds_toArray, List.set_cons_zero, List.set_cons_succ]
      refine lin_q ?_ rfl ?_ ?_; rotate_left 1; (focus (rintro w' -; go_simp; first | done | with_reducible rfl | (trace_state; fail)))
      simp only [Act.put, List.setIfInBounds_toArray, List.set_cons_zero, List.set_cons_succ]
      refine lin_act ?_
      refine wl_g (by rfl) ?_
      refine wl_call rfl _ _ _ (by go_simp) (wakes7_c HVV.out hR103) ?_
      rintro e whR104 ⟨rfl, hR104⟩
      refine ⟨_, rfl, LinPost.mk ⟨hR104.heap (.head _), hR104.heap (.tail _ (.tail _ (.tail _ (.head _))))⟩ ?_⟩
      simp only [Act.put, List.setIfInBounds_toArray, List.set_cons_zero, List.set_cons_succ]
      refine lin_q ?_ rfl ?_ ?_; rotate_left 1; (focus (rintro w' -; go_simp; first | done | with_reducible rfl | (trace_state; fail)))
      simp only [Act.put, List.setIfInBounds_toArray, List.set_cons_zero, List.set_cons_succ]
      refine lin_q ?_ rfl ?_ ?_; rotate_left 1; (focus (rintro w' -; go_simp; first | done | with_reducible rfl | (trace_state; fail)))
      simp only [Act.put, List.setIfInBounds_toArray, List.set_cons_zero, List.set_cons_succ]
      refine lin_nil ?_
      go_wp2
      go_ret
      exact hR104.yes rfl
    | false =>
      clear ETR
      have hs := HS.out
      have hh := HH.out
      have hp := HP.out
      clear HS HH HP
      refine wp_region_lin (fun w' => w'.heap[gx]? = some (.cells [Value.string (strOfNums x1), Value.string (strOfNums x2), Value.int .i64 x3, Value.string (strOfNums x4), Value.string (strOfNums x5)].toArray 25) ∧ w'.heap[gy]? = some (.cells [Value.string (strOfNums y1), Value.string (strOfNums y2), Value.int .i64 y3, Value.string (strOfNums y4), Value.string (strOfNums y5)].toArray 25) ∧ w'.heap[gz]? = some (.cells [Value.string (strOfNums z1), Value.string (strOfNums z2), Value.int .i64 z3, Value.string (strOfNums z4), Value.string (strOfNums z5)].toArray 25)) 54 [(0, true), (1, true), (2, false), (3, true), (4, true), (5, true), (6, true), (8, true), (9, true), (7, false), (10, false), (11, true), (12, true), (13, true), (14, true), (15, true), (16, false), (17, true), (18, true), (19, true), (20, false), (21, true), (22, true), (23, true), (24, true), (25, false), (26, true), (27, true), (28, true), (29, true), (30, true), (31, true), (33, true), (34, true), (35, true), (36, true), (37, true), (32, false), (38, true), (39, true), (40, true), (41, true), (42, true), (43, true), (44, true), (45, true), (46, true), (47, true), (48, true), (49, true), (50, true), (51, true), (52, true), (53, true)] (by kernel_rfl) (by kernel_rfl) (fun _ _ d _ _ h => by cases d <;> exact h) ⟨HO7.out.drew.heap (.tail _ (.tail _ (.head _))), HO7.out.drew.heap (.tail _ (.head _)), HO7.out.drew.heap (.head _)⟩ ?_
      simp only [List.map_cons, List.map_nil, pick_zero, pick_succ, List.drop_succ_cons, List.drop_zero]
      refine lin_load rfl _ _ rfl gx 0 [Value.string (strOfNums x1), Value.string (strOfNums x2), Value.int .i64 x3, Value.string (strOfNums x4), Value.string (strOfNums x5)] [Value.string (strOfNums x1), Value.string (strOfNums x2), Value.int .i64 x3, Value.string (strOfNums x4), Value.string (strOfNums x5)] 25 (by rfl) _ Tryd.underlying25 rfl url_size (by rfl) (fun w' hw => hw.1) ?_
      simp only [Act.put, List.setIfInBounds_toArray, List.set_cons_zero, List.set_cons_succ]
      refine lin_load rfl _ _ rfl gx 0 [Value.string (strOfNums x1), Value.string (strOfNums x2), Value.int .i64 x3, Value.string (strOfNums x4), Value.string (strOfNums x5)] [Value.string (strOfNums x1), Value.string (strOfNums x2), Value.int .i64 x3, Value.string (strOfNums x4), Value.string (strOfNums x5)] 25 (by rfl) _ Tryd.underlying25 rfl url_size (by rfl) (fun w' hw => hw.1) ?_
      simp only [Act.put, List.setIfInBounds_toArray, List.set_cons_zero, List.set_cons_succ]
      refine lin_act ?_
      refine wl_call rfl _ _ _ (by go_simp) (RXX.out _ _ HO7.out.drew) ?_
      rintro e whR1 ⟨rfl, hR1⟩
      refine ⟨_, rfl, LinPost.mk ⟨hR1.heap (.tail _ (.tail _ (.head _))), hR1.heap (.tail _ (.head _)), hR1.heap (.head _)⟩ ?_⟩
      simp only [Act.put, List.setIfInBounds_toArray, List.set_cons_zero, List.set_cons_succ]
      refine lin_q ?_ rfl ?_ ?_; rotate_left 1; (focus (rintro w' -; go_simp; first | done | with_reducible rfl | (trace_state; fail)))
      simp only [Act.put, List.setIfInBounds_toArray, List.set_cons_zero, List.set_cons_succ]
      refine lin_q ?_ rfl ?_ ?_; rotate_left 1; (focus (rintro w' -; go_simp; first | done | with_reducible rfl | (trace_state; fail)))
      simp only [Act.put, List.setIfInBounds_toArray, List.set_cons_zero, List.set_cons_succ]
      refine lin_loadG (by rfl) _ _ rfl gx 0 [Value.string (strOfNums x1), Value.string (strOfNums x2), Value.int .i64 x3, Value.string (strOfNums x4), Value.string (strOfNums x5)] [Value.string (strOfNums x1), Value.string (strOfNums x2), Value.int .i64 x3, Value.string (strOfNums x4), Value.string (strOfNums x5)] 25 (by rfl) _ Tryd.underlying25 rfl url_size (by rfl) (fun w' hw => hw.1) ?_
      simp only [Act.put, List.setIfInBounds_toArray, List.set_cons_zero, List.set_cons_succ]
      refine lin_loadG (by rfl) _ _ rfl gy 0 [Value.string (strOfNums y1), Value.string (strOfNums y2), Value.int .i64 y3, Value.string (strOfNums y4), Value.string (strOfNums y5)] [Value.string (strOfNums y1), Value.string (strOfNums y2), Value.int .i64 y3, Value.string (strOfNums y4), Value.string (strOfNums y5)] 25 (by rfl) _ Tryd.underlying25 rfl url_size (by rfl) (fun w' hw => hw.2.1) ?_
      simp only [Act.put, List.setIfInBounds_toArray, List.set_cons_zero, List.set_cons_succ]
      refine lin_loadG (by rfl) _ _ rfl gy 0 [Value.string (strOfNums y1), Value.string (strOfNums y2), Value.int .i64 y3, Value.string (strOfNums y4), Value.string (strOfNums y5)] [Value.string (strOfNums y1), Value.string (strOfNums y2), Value.int .i64 y3, Value.string (strOfNums y4), Value.string (strOfNums y5)] 25 (by rfl) _ Tryd.underlying25 rfl url_size (by rfl) (fun w' hw => hw.2.1) ?_
      simp only [Act.put, List.setIfInBounds_toArray, List.set_cons_zero, List.set_cons_succ]
      refine lin_loadG (by rfl) _ _ rfl gx 0 [Value.string (strOfNums x1), Value.string (strOfNums x2), Value.int .i64 x3, Value.string (strOfNums x4), Value.string (strOfNums x5)] [Value.string (strOfNums x1), Value.string (strOfNums x2), Value.int .i64 x3, Value.string (strOfNums x4), Value.string (strOfNums x5)] 25 (by rfl) _ Tryd.underlying25 rfl url_size (by rfl) (fun w' hw => hw.1) ?_
      simp only [Act.put, List.setIfInBounds_toArray, List.set_cons_zero, List.set_cons_succ]
      refine lin_act ?_
      refine wl_g (by rfl) ?_
      refine wl_call rfl _ _ _ (by go_simp) (RXY.out _ _ hR1) ?_
      rintro e whR2 ⟨rfl, hR2⟩
      refine ⟨_, rfl, LinPost.mk ⟨hR2.heap (.tail _ (.tail _ (.head _))), hR2.heap (.tail _ (.head _)), hR2.heap (.head _)⟩ ?_⟩
      simp only [Act.put, List.setIfInBounds_toArray, List.set_cons_zero, List.set_cons_succ]
      refine lin_act ?_
      refine wl_g (by rfl) ?_
      refine wl_call rfl _ _ _ (by go_simp) (RYX.out _ _ hR2) ?_
      rintro e whR3 ⟨rfl, hR3⟩
      refine ⟨_, rfl, LinPost.mk ⟨hR3.heap (.tail _ (.tail _ (.head _))), hR3.heap (.tail _ (.head _)), hR3.heap (.head _)⟩ ?_⟩
      simp only [Act.put, List.setIfInBounds_toArray, List.set_cons_zero, List.set_cons_succ]
      refine lin_g ?_ (by rfl) ?_ ?_; rotate_left 1; (focus (rintro w' -; go_simp; first | done | with_reducible rfl | (trace_state; fail)))
      simp only [Act.put, List.setIfInBounds_toArray, List.set_cons_zero, List.set_cons_succ]
      refine lin_q ?_ rfl ?_ ?_; rotate_left 1; (focus (rintro w' -; go_simp; first | done | with_reducible rfl | (trace_state; fail)))
      simp only [Act.put, List.setIfInBounds_toArray, List.set_cons_zero, List.set_cons_succ]
      refine lin_q ?_ rfl ?_ ?_; rotate_left 1; (focus (rintro w' -; go_simp; first | done | with_reducible rfl | (trace_state; fail)))
      simp only [Act.put, List.setIfInBounds_toArray, List.set_cons_zero, List.set_cons_succ]
      refine lin_loadG (by rfl) _ _ rfl gx 0 [Value.string (strOfNums x1), Value.string (strOfNums x2), Value.int .i64 x3, Value.string (strOfNums x4), Value.string (strOfNums x5)] [Value.string (strOfNums x1), Value.string (strOfNums x2), Value.int .i64 x3, Value.string (strOfNums x4), Value.string (strOfNums x5)] 25 (by rfl) _ Tryd.underlying25 rfl url_size (by rfl) (fun w' hw => hw.1) ?_
      simp only [Act.put, List.setIfInBounds_toArray, List.set_cons_zero, List.set_cons_succ]
      refine lin_loadG (by rfl) _ _ rfl gy 0 [Value.string (strOfNums y1), Value.string (strOfNums y2), Value.int .i64 y3, Value.string (strOfNums y4), Value.string (strOfNums y5)] [Value.string (strOfNums y1), Value.string (strOfNums y2), Value.int .i64 y3, Value.string (strOfNums y4), Value.string (strOfNums y5)] 25 (by rfl) _ Tryd.underlying25 rfl url_size (by rfl) (fun w' hw => hw.2.1) ?_
      simp only [Act.put, List.setIfInBounds_toArray, List.set_cons_zero, List.set_cons_succ]
      refine lin_act ?_
      refine wl_g (by rfl) ?_
      refine wl_call rfl _ _ _ (by go_simp) (RXY.out _ _ hR3) ?_
      rintro e whR4 ⟨rfl, hR4⟩
      refine ⟨_, rfl, LinPost.mk ⟨hR4.heap (.tail _ (.tail _ (.head _))), hR4.heap (.tail _ (.head _)), hR4.heap (.head _)⟩ ?_⟩
      simp only [Act.put, List.setIfInBounds_toArray, List.set_cons_zero, List.set_cons_succ]
      refine lin_g ?_ (by rfl) ?_ ?_; rotate_left 1; (focus (rintro w' -; go_simp; first | done | with_reducible rfl | (trace_state; fail)))
      simp only [Act.put, List.setIfInBounds_toArray, List.set_cons_zero, List.set_cons_succ]
      refine lin_loadG (by rfl) _ _ rfl gy 0 [Value.string (strOfNums y1), Value.string (strOfNums y2), Value.int .i64 y3, Value.string (strOfNums y4), Value.string (strOfNums y5)] [Value.string (strOfNums y1), Value.string (strOfNums y2), Value.int .i64 y3, Value.string (strOfNums y4), Value.string (strOfNums y5)] 25 (by rfl) _ Tryd.underlying25 rfl url_size (by rfl) (fun w' hw => hw.2.1) ?_
      simp only [Act.put, List.setIfInBounds_toArray, List.set_cons_zero, List.set_cons_succ]
      refine lin_loadG (by rfl) _ _ rfl gz 0 [Value.string (strOfNums z1), Value.string (strOfNums z2), Value.int .i64 z3, Value.string (strOfNums z4), Value.string (strOfNums z5)] [Value.string (strOfNums z1), Value.string (strOfNums z2), Value.int .i64 z3, Value.string (strOfNums z4), Value.string (strOfNums z5)] 25 (by rfl) _ Tryd.underlying25 rfl url_size (by rfl) (fun w' hw => hw.2.2) ?_
      simp only [Act.put, List.setIfInBounds_toArray, List.set_cons_zero, List.set_cons_succ]
      refine lin_act ?_
      refine wl_g (by rfl) ?_
      refine wl_call rfl _ _ _ (by go_simp) (RYZ.out _ _ hR4) ?_
      rintro e whR5 ⟨rfl, hR5⟩
      refine ⟨_, rfl, LinPost.mk ⟨hR5.heap (.tail _ (.tail _ (.head _))), hR5.heap (.tail _ (.head _)), hR5.heap (.head _)⟩ ?_⟩
      simp only [Act.put, List.setIfInBounds_toArray, List.set_cons_zero, List.set_cons_succ]
      refine lin_g ?_ (by rfl) ?_ ?_; rotate_left 1; (focus (rintro w' -; go_simp; first | done | with_reducible rfl | (trace_state; fail)))
      simp only [Act.put, List.setIfInBounds_toArray, List.set_cons_zero, List.set_cons_succ]
      refine lin_g ?_ (by rfl) ?_ ?_; rotate_left 1; (focus (rintro w' -; go_simp; first | done | with_reducible rfl | (trace_state; fail)))
      simp only [Act.put, List.setIfInBounds_toArray, List.set_cons_zero, List.set_cons_succ]
      refine lin_no (by rfl) ?_
      simp only [Act.put, List.setIfInBounds_toArray, List.set_cons_zero, List.set_cons_succ]
      refine lin_no (by rfl) ?_
      simp only [Act.put, List.setIfInBounds_toArray, List.set_cons_zero, List.set_cons_succ]
      refine lin_actno (by rfl) ⟨hR5.heap (.tail _ (.tail _ (.head _))), hR5.heap (.tail _ (.head _)), hR5.heap (.head _)⟩ ?_
      simp only [Act.put, List.setIfInBounds_toArray, List.set_cons_zero, List.set_cons_succ]
      refine lin_no (by rfl) ?_
      simp only [Act.put, List.setIfInBounds_toArray, List.set_cons_zero, List.set_cons_succ]
      refine lin_g ?_ (by rfl) ?_ ?_; rotate_left 1; (focus (rintro w' -; go_simp; first | done | with_reducible rfl | (trace_state; fail)))
      simp only [Act.put, List.setIfInBounds_toArray, List.set_cons_zero, List.set_cons_succ]
      refine lin_q ?_ rfl ?_ ?_; rotate_left 1; (focus (rintro w' -; go_simp; first | done | with_reducible rfl | (trace_state; fail)))
      simp only [Act.put, List.setIfInBounds_toArray, List.set_cons_zero, List.set_cons_succ]
      refine lin_q ?_ rfl ?_ ?_; rotate_left 1; (focus (rintro w' -; go_simp; first | done | with_reducible rfl | (trace_state; fail)))
      simp only [Act.put, List.setIfInBounds_toArray, List.set_cons_zero, List.set_cons_succ]
      refine lin_loadG (by rfl) _ _ rfl gx 0 [Value.string (strOfNums x1), Value.string (strOfNums x2), Value.int .i64 x3, Value.string (strOfNums x4), Value.string (strOfNums x5)] [Value.string (strOfNums x1), Value.string (strOfNums x2), Value.int .i64 x3, Value.string (strOfNums x4), Value.string (strOfNums x5)] 25 (by rfl) _ Tryd.underlying25 rfl url_size (by rfl) (fun w' hw => hw.1) ?_
      simp only [Act.put, List.setIfInBounds_toArray, List.set_cons_zero, List.set_cons_succ]
      refine lin_loadG (by rfl) _ _ rfl gy 0 [Value.string (strOfNums y1), Value.string (strOfNums y2), Value.int .i64 y3, Value.string (strOfNums y4), Value.string (strOfNums y5)] [Value.string (strOfNums y1), Value.string (strOfNums y2), Value.int .i64 y3, Value.string (strOfNums y4), Value.string (strOfNums y5)] 25 (by rfl) _ Tryd.underlying25 rfl url_size (by rfl) (fun w' hw => hw.2.1) ?_
      simp only [Act.put, List.setIfInBounds_toArray, List.set_cons_zero, List.set_cons_succ]
      refine lin_g ?_ (by rfl) ?_ ?_; rotate_left 1; (focus (rintro w' -; go_simp; first | done | with_reducible rfl | (trace_state; fail)))
      simp only [Act.put, List.setIfInBounds_toArray, List.set_cons_zero, List.set_cons_succ]
      refine lin_g ?_ (by rfl) ?_ ?_; rotate_left 1; (focus (rintro w' hw; have k0 : w'.cell? ⟨gx, 0, none⟩ = some (.string (strOfNums x1)) := (by rw [cell_of_row w' gx 0 _ _ (0, 0) hw.1]; rfl); clear hw; go_simp; first | done | with_reducible rfl | (trace_state; fail)))
      simp only [Act.put, List.setIfInBounds_toArray, List.set_cons_zero, List.set_cons_succ]
      refine lin_g ?_ (by rfl) ?_ ?_; rotate_left 1; (focus (rintro w' -; go_simp; first | done | with_reducible rfl | (trace_state; fail)))
      simp only [Act.put, List.setIfInBounds_toArray, List.set_cons_zero, List.set_cons_succ]
      refine lin_g ?_ (by rfl) ?_ ?_; rotate_left 1; (focus (rintro w' hw; have k0 : w'.cell? ⟨gy, 0, none⟩ = some (.string (strOfNums y1)) := (by rw [cell_of_row w' gy 0 _ _ (0, 0) hw.2.1]; rfl); clear hw; go_simp; first | done | with_reducible rfl | (trace_state; fail)))
      simp only [Act.put, List.setIfInBounds_toArray, List.set_cons_zero, List.set_cons_succ]
      refine lin_g ?_ (by rfl) ?_ ?_; rotate_left 1; (focus (rintro w' -; go_simp; first | done | with_reducible rfl | (trace_state; fail)))
      simp only [Act.put, List.setIfInBounds_toArray, List.set_cons_zero, List.set_cons_succ]
      refine lin_act ?_
      refine wl_g (by rfl) ?_
      refine wl_call rfl _ _ _ (by go_simp) (RXY.out _ _ hR5) ?_
      rintro e whR6 ⟨rfl, hR6⟩
      refine ⟨_, rfl, LinPost.mk ⟨hR6.heap (.tail _ (.tail _ (.head _))), hR6.heap (.tail _ (.head _)), hR6.heap (.head _)⟩ ?_⟩
      simp only [Act.put, List.setIfInBounds_toArray, List.set_cons_zero, List.set_cons_succ]
      refine lin_g ?_ (by rfl) ?_ ?_; rotate_left 1; (focus (rintro w' -; go_simp; first | done | with_reducible rfl | (trace_state; fail)))
      simp only [Act.put, List.setIfInBounds_toArray, List.set_cons_zero, List.set_cons_succ]
      refine lin_g ?_ (by rfl) ?_ ?_; rotate_left 1; (focus (rintro w' -; go_simp; first | done | with_reducible rfl | (trace_state; fail)))
      simp only [Act.put, List.setIfInBounds_toArray, List.set_cons_zero, List.set_cons_succ]
      refine lin_g ?_ (by rfl) ?_ ?_; rotate_left 1; (focus (rintro w' hw; have k0 : w'.cell? ⟨gx, 1, none⟩ = some (.string (strOfNums x2)) := (by rw [cell_of_row w' gx 1 _ _ (0, 0) hw.1]; rfl); clear hw; go_simp; first | done | with_reducible rfl | (trace_state; fail)))
      simp only [Act.put, List.setIfInBounds_toArray, List.set_cons_zero, List.set_cons_succ]
      refine lin_g ?_ (by rfl) ?_ ?_; rotate_left 1; (focus (rintro w' -; go_simp; first | done | with_reducible rfl | (trace_state; fail)))
      simp only [Act.put, List.setIfInBounds_toArray, List.set_cons_zero, List.set_cons_succ]
      refine lin_g ?_ (by rfl) ?_ ?_; rotate_left 1; (focus (rintro w' hw; have k0 : w'.cell? ⟨gy, 1, none⟩ = some (.string (strOfNums y2)) := (by rw [cell_of_row w' gy 1 _ _ (0, 0) hw.2.1]; rfl); clear hw; go_simp; first | done | with_reducible rfl | (trace_state; fail)))
      simp only [Act.put, List.setIfInBounds_toArray, List.set_cons_zero, List.set_cons_succ]
      refine lin_g ?_ (by rfl) ?_ ?_; rotate_left 1; (focus (rintro w' -; go_simp; first | done | with_reducible rfl | (trace_state; fail)))
      simp only [Act.put, List.setIfInBounds_toArray, List.set_cons_zero, List.set_cons_succ]
      refine lin_g ?_ (by rfl) ?_ ?_; rotate_left 1; (focus (rintro w' -; go_simp; first | done | with_reducible rfl | (trace_state; fail)))
      simp only [Act.put, List.setIfInBounds_toArray, List.set_cons_zero, List.set_cons_succ]
      refine lin_g ?_ (by rfl) ?_ ?_; rotate_left 1; (focus (rintro w' -; go_simp; first | done | with_reducible rfl | (trace_state; fail)))
      simp only [Act.put, List.setIfInBounds_toArray, List.set_cons_zero, List.set_cons_succ]
      refine lin_g ?_ (by rfl) ?_ ?_; rotate_left 1; (focus (rintro w' -; go_simp; first | done | with_reducible rfl | (trace_state; fail)))
      simp only [Act.put, List.setIfInBounds_toArray, List.set_cons_zero, List.set_cons_succ]
      refine lin_g ?_ (by rfl) ?_ ?_; rotate_left 1; (focus (rintro w' hw; have k0 : w'.cell? ⟨gx, 2, none⟩ = some (.int .i64 x3) := (by rw [cell_of_row w' gx 2 _ _ (0, 0) hw.1]; rfl); clear hw; go_simp; first | done | with_reducible rfl | (trace_state; fail)))
      simp only [Act.put, List.setIfInBounds_toArray, List.set_cons_zero, List.set_cons_succ]
      refine lin_g ?_ (by rfl) ?_ ?_; rotate_left 1; (focus (rintro w' -; go_simp; first | done | with_reducible rfl | (trace_state; fail)))
      simp only [Act.put, List.setIfInBounds_toArray, List.set_cons_zero, List.set_cons_succ]
      refine lin_g ?_ (by rfl) ?_ ?_; rotate_left 1; (focus (rintro w' hw; have k0 : w'.cell? ⟨gy, 2, none⟩ = some (.int .i64 y3) := (by rw [cell_of_row w' gy 2 _ _ (0, 0) hw.2.1]; rfl); clear hw; go_simp; first | done | with_reducible rfl | (trace_state; fail)))
      simp only [Act.put, List.setIfInBounds_toArray, List.set_cons_zero, List.set_cons_succ]
      refine lin_g ?_ (by rfl) ?_ ?_; rotate_left 1; (focus (rintro w' -; go_simp; first | done | with_reducible rfl | (trace_state; fail)))
      simp only [Act.put, List.setIfInBounds_toArray, List.set_cons_zero, List.set_cons_succ]
      refine lin_g ?_ (by rfl) ?_ ?_; rotate_left 1; (focus (rintro w' -; go_simp; first | done | with_reducible rfl | (trace_state; fail)))
      simp only [Act.put, List.setIfInBounds_toArray, List.set_cons_zero, List.set_cons_succ]
      refine lin_g ?_ (by rfl) ?_ ?_; rotate_left 1; (focus (rintro w' -; go_simp; first | done | with_reducible rfl | (trace_state; fail)))
      simp only [Act.put, List.setIfInBounds_toArray, List.set_cons_zero, List.set_cons_succ]
      refine lin_q ?_ rfl ?_ ?_; rotate_left 1; (focus (rintro w' -; go_simp; first | done | with_reducible rfl | (trace_state; fail)))
      simp only [Act.put, List.setIfInBounds_toArray, List.set_cons_zero, List.set_cons_succ]
      refine lin_nil ?_
      clear hs hh hp
      have HO8 := Lib.hid hR6
      go_wp2_with (first | (refine wl_load rfl _ _ rfl gx 0 [Value.string (strOfNums x1), Value.string (strOfNums x2), Value.int .i64 x3, Value.string (strOfNums x4), Value.string (strOfNums x5)] [Value.string (strOfNums x1), Value.string (strOfNums x2), Value.int .i64 x3, Value.string (strOfNums x4), Value.string (strOfNums x5)] _ (HO8.out.heap (.tail _ (.tail _ (.head _)))) (by rfl) _ Tryd.underlying25 rfl url_size (by rfl) ?_) | (refine wl_alloc rfl _ rfl HO8.out _ (alloc_url _) ?_; intro gw w50 hO; have HO9 := Lib.hid hO; clear hO HO8) | (refine wl_store rfl _ _ _ rfl HO9.out 0 gw 0 _ [Value.string (strOfNums x1), Value.string (strOfNums x2), Value.int .i64 x3, Value.string (strOfNums x4), Value.string (strOfNums x5)] _ rfl (by rfl) (by rfl) url_size (one_url ⟨x1, x2, x3, x4, x5⟩) (by simp [UL.val, UL.zero]) ?_; intro w51 hO; have HO10 := Lib.hid (hO.cast (L' := [(gw, .cells [Value.string (strOfNums x1), Value.string (strOfNums x2), Value.int .i64 x3, Value.string (strOfNums x4), Value.string (strOfNums x5)].toArray 25), (gz, .cells [Value.string (strOfNums z1), Value.string (strOfNums z2), Value.int .i64 z3, Value.string (strOfNums z4), Value.string (strOfNums z5)].toArray 25), (gy, .cells [Value.string (strOfNums y1), Value.string (strOfNums y2), Value.int .i64 y3, Value.string (strOfNums y4), Value.string (strOfNums y5)].toArray 25), (gx, .cells [Value.string (strOfNums x1), Value.string (strOfNums x2), Value.int .i64 x3, Value.string (strOfNums x4), Value.string (strOfNums x5)].toArray 25), (W.heap.size, .cells (sameS.map Value.string).toArray 9)]) rfl); clear hO HO9) | (refine wl_store1 rfl _ _ _ rfl HO10.out 0 gw 3 _ (.string (⟨#[47]⟩ ++ pt)) _ rfl (by rfl) (by rfl) (by rfl) (by kernel_rfl) (by rfl) (by simp) ?_; intro w52 hO; have HO11 := Lib.hid (hO.cast (L' := [(gw, .cells [Value.string (strOfNums x1), Value.string (strOfNums x2), Value.int .i64 x3, Value.string (⟨#[47]⟩ ++ pt), Value.string (strOfNums x5)].toArray 25), (gz, .cells [Value.string (strOfNums z1), Value.string (strOfNums z2), Value.int .i64 z3, Value.string (strOfNums z4), Value.string (strOfNums z5)].toArray 25), (gy, .cells [Value.string (strOfNums y1), Value.string (strOfNums y2), Value.int .i64 y3, Value.string (strOfNums y4), Value.string (strOfNums y5)].toArray 25), (gx, .cells [Value.string (strOfNums x1), Value.string (strOfNums x2), Value.int .i64 x3, Value.string (strOfNums x4), Value.string (strOfNums x5)].toArray 25), (W.heap.size, .cells (sameS.map Value.string).toArray 9)]) rfl); clear hO HO10) | (refine wl_store1 rfl _ _ _ rfl HO11.out 0 gw 4 _ (.string (⟨#[63]⟩ ++ pt)) _ rfl (by rfl) (by rfl) (by rfl) (by kernel_rfl) (by rfl) (by simp) ?_; intro w53 hO; have HO12 := Lib.hid (hO.cast (L' := [(gw, .cells [Value.string (strOfNums x1), Value.string (strOfNums x2), Value.int .i64 x3, Value.string (⟨#[47]⟩ ++ pt), Value.string (⟨#[63]⟩ ++ pt)].toArray 25), (gz, .cells [Value.string (strOfNums z1), Value.string (strOfNums z2), Value.int .i64 z3, Value.string (strOfNums z4), Value.string (strOfNums z5)].toArray 25), (gy, .cells [Value.string (strOfNums y1), Value.string (strOfNums y2), Value.int .i64 y3, Value.string (strOfNums y4), Value.string (strOfNums y5)].toArray 25), (gx, .cells [Value.string (strOfNums x1), Value.string (strOfNums x2), Value.int .i64 x3, Value.string (strOfNums x4), Value.string (strOfNums x5)].toArray 25), (W.heap.size, .cells (sameS.map Value.string).toArray 9)]) rfl); clear hO HO11))
      refine wp_region_lin (fun w' => w'.heap[gw]? = some (.cells [Value.string (strOfNums x1), Value.string (strOfNums x2), Value.int .i64 x3, Value.string (⟨#[47]⟩ ++ pt), Value.string (⟨#[63]⟩ ++ pt)].toArray 25) ∧ w'.heap[gx]? = some (.cells [Value.string (strOfNums x1), Value.string (strOfNums x2), Value.int .i64 x3, Value.string (strOfNums x4), Value.string (strOfNums x5)].toArray 25)) 14 [(0, true), (1, true), (2, false), (3, true), (4, true), (6, true), (5, false), (7, false), (8, true), (9, true), (10, true), (11, false), (12, true), (13, true)] (by kernel_rfl) (by kernel_rfl) (fun _ _ d _ _ h => by cases d <;> exact h) ⟨HO12.out.drew.heap (.head _), HO12.out.drew.heap (.tail _ (.tail _ (.tail _ (.head _))))⟩ ?_
      simp only [List.map_cons, List.map_nil, pick_zero, pick_succ, List.drop_succ_cons, List.drop_zero]
      refine lin_load rfl _ _ rfl gw 0 [Value.string (strOfNums x1), Value.string (strOfNums x2), Value.int .i64 x3, Value.string (⟨#[47]⟩ ++ pt), Value.string (⟨#[63]⟩ ++ pt)] [Value.string (strOfNums x1), Value.string (strOfNums x2), Value.int .i64 x3, Value.string (⟨#[47]⟩ ++ pt), Value.string (⟨#[63]⟩ ++ pt)] 25 (by rfl) _ Tryd.underlying25 rfl url_size (by rfl) (fun w' hw => hw.1) ?_
      simp only [Act.put, List.setIfInBounds_toArray, List.set_cons_zero, List.set_cons_succ]
      refine lin_load rfl _ _ rfl gx 0 [Value.string (strOfNums x1), Value.string (strOfNums x2), Value.int .i64 x3, Value.string (strOfNums x4), Value.string (strOfNums x5)] [Value.string (strOfNums x1), Value.string (strOfNums x2), Value.int .i64 x3, Value.string (strOfNums x4), Value.string (strOfNums x5)] 25 (by rfl) _ Tryd.underlying25 rfl url_size (by rfl) (fun w' hw => hw.2) ?_
      simp only [Act.put, List.setIfInBounds_toArray, List.set_cons_zero, List.set_cons_succ]
      refine lin_act ?_
      refine wl_call rfl _ _ _ (by go_simp) (RWX.out _ _ HO12.out.drew) ?_
      rintro e whR101 ⟨rfl, hR101⟩
      refine ⟨_, rfl, LinPost.mk ⟨hR101.heap (.head _), hR101.heap (.tail _ (.tail _ (.tail _ (.head _))))⟩ ?_⟩
      simp only [Act.put, List.setIfInBounds_toArray, List.set_cons_zero, List.set_cons_succ]
      refine lin_q ?_ rfl ?_ ?_; rotate_left 1; (focus (rintro w' -; go_simp; first | done | with_reducible rfl | (trace_state; fail)))
      simp only [Act.put, List.setIfInBounds_toArray, List.set_cons_zero, List.set_cons_succ]
      refine lin_loadG (by rfl) _ _ rfl gw 0 [Value.string (strOfNums x1), Value.string (strOfNums x2), Value.int .i64 x3, Value.string (⟨#[47]⟩ ++ pt), Value.string (⟨#[63]⟩ ++ pt)] [Value.string (strOfNums x1), Value.string (strOfNums x2), Value.int .i64 x3, Value.string (⟨#[47]⟩ ++ pt), Value.string (⟨#[63]⟩ ++ pt)] 25 (by rfl) _ Tryd.underlying25 rfl url_size (by rfl) (fun w' hw => hw.1) ?_
      simp only [Act.put, List.setIfInBounds_toArray, List.set_cons_zero, List.set_cons_succ]
      refine lin_loadG (by rfl) _ _ rfl gx 0 [Value.string (strOfNums x1), Value.string (strOfNums x2), Value.int .i64 x3, Value.string (strOfNums x4), Value.string (strOfNums x5)] [Value.string (strOfNums x1), Value.string (strOfNums x2), Value.int .i64 x3, Value.string (strOfNums x4), Value.string (strOfNums x5)] 25 (by rfl) _ Tryd.underlying25 rfl url_size (by rfl) (fun w' hw => hw.2) ?_
      simp only [Act.put, List.setIfInBounds_toArray, List.set_cons_zero, List.set_cons_succ]
      refine lin_act ?_
      refine wl_g (by rfl) ?_
      refine wl_call rfl _ _ _ (by go_simp) (ROW.out _ _ hR101) ?_
      rintro e whR102 ⟨rfl, hR102⟩
      refine ⟨_, rfl, LinPost.mk ⟨hR102.heap (.head _), hR102.heap (.tail _ (.tail _ (.tail _ (.head _))))⟩ ?_⟩
      simp only [Act.put, List.setIfInBounds_toArray, List.set_cons_zero, List.set_cons_succ]
      refine lin_act ?_
      refine wl_g (by rfl) ?_
      refine wl_call rfl _ _ _ (by go_simp) (ROX.out _ _ hR102) ?_
      rintro e whR103 ⟨rfl, hR103⟩
      refine ⟨_, rfl, LinPost.mk ⟨hR103.heap (.head _), hR103.heap (.tail _ (.tail _ (.tail _ (.head _))))⟩ ?_⟩
      simp only [Act.put, List.setIfInBounds_toArray, List.set_cons_zero, List.set_cons_succ]
      refine lin_g ?_ (by rfl) ?_ ?_; rotate_left 1; (focus (rintro w' -; go_simp; first | done | with_reducible rfl | (trace_state; fail)))
      simp only [Act.put, List.setIfInBounds_toArray, List.set_cons_zero, List.set_cons_succ]
      refine lin_q ?_ rfl ?_ ?_; rotate_left 1; (focus (rintro w' -; go_simp; first | done | with_reducible rfl | (trace_state; fail)))
      simp only [Act.put, List.setIfInBounds_toArray, List.set_cons_zero, List.set_cons_succ]
      refine lin_q ?_ rfl ?_ ?_; rotate_left 1; (focus (rintro w' -; go_simp; first | done | with_reducible rfl | (trace_state; fail)))
      simp only [Act.put, List.setIfInBounds_toArray, List.set_cons_zero, List.set_cons_succ]
      refine lin_act ?_
      refine wl_g (by rfl) ?_
      refine wl_call rfl _ _ _ (by go_simp) (wakes7_c HVV.out hR103) ?_
      rintro e whR104 ⟨rfl, hR104⟩
      refine ⟨_, rfl, LinPost.mk ⟨hR104.heap (.head _), hR104.heap (.tail _ (.tail _ (.tail _ (.head _))))⟩ ?_⟩
      simp only [Act.put, List.setIfInBounds_toArray, List.set_cons_zero, List.set_cons_succ]
      refine lin_q ?_ rfl ?_ ?_; rotate_left 1; (focus (rintro w' -; go_simp; first | done | with_reducible rfl | (trace_state; fail)))
      simp only [Act.put, List.setIfInBounds_toArray, List.set_cons_zero, List.set_cons_succ]
      refine lin_q ?_ rfl ?_ ?_; rotate_left 1; (focus (rintro w' -; go_simp; first | done | with_reducible rfl | (trace_state; fail)))
      simp only [Act.put, List.setIfInBounds_toArray, List.set_cons_zero, List.set_cons_succ]
      refine lin_nil ?_
      go_wp2
      go_ret
      exact hR104.yes rfl
  | false =>
    clear ETR
    have hd := DXY.out
    cases bs with
    | false =>
      clear hd DXY
      have hs := HS.out
      have hh := HH.out
      have hp := HP.out
      clear HS HH HP
      refine wp_region_lin (fun w' => w'.heap[gx]? = some (.cells [Value.string (strOfNums x1), Value.string (strOfNums x2), Value.int .i64 x3, Value.string (strOfNums x4), Value.string (strOfNums x5)].toArray 25) ∧ w'.heap[gy]? = some (.cells [Value.string (strOfNums y1), Value.string (strOfNums y2), Value.int .i64 y3, Value.string (strOfNums y4), Value.string (strOfNums y5)].toArray 25) ∧ w'.heap[gz]? = some (.cells [Value.string (strOfNums z1), Value.string (strOfNums z2), Value.int .i64 z3, Value.string (strOfNums z4), Value.string (strOfNums z5)].toArray 25)) 54 [(0, true), (1, true), (2, false), (3, true), (4, true), (5, true), (6, true), (8, true), (9, true), (7, false), (10, false), (11, true), (12, true), (13, true), (14, true), (15, true), (16, false), (17, true), (18, true), (19, true), (20, false), (21, true), (22, true), (23, true), (24, true), (25, false), (26, true), (27, true), (28, true), (29, true), (30, true), (31, true), (33, true), (34, true), (35, true), (36, true), (37, true), (32, false), (38, true), (39, true), (40, true), (41, true), (42, true), (43, true), (44, true), (45, true), (46, true), (47, true), (48, true), (49, true), (50, true), (51, true), (52, true), (53, true)] (by kernel_rfl) (by kernel_rfl) (fun _ _ d _ _ h => by cases d <;> exact h) ⟨HO7.out.drew.heap (.tail _ (.tail _ (.head _))), HO7.out.drew.heap (.tail _ (.head _)), HO7.out.drew.heap (.head _)⟩ ?_
      simp only [List.map_cons, List.map_nil, pick_zero, pick_succ, List.drop_succ_cons, List.drop_zero]
      refine lin_load rfl _ _ rfl gx 0 [Value.string (strOfNums x1), Value.string (strOfNums x2), Value.int .i64 x3, Value.string (strOfNums x4), Value.string (strOfNums x5)] [Value.string (strOfNums x1), Value.string (strOfNums x2), Value.int .i64 x3, Value.string (strOfNums x4), Value.string (strOfNums x5)] 25 (by rfl) _ Tryd.underlying25 rfl url_size (by rfl) (fun w' hw => hw.1) ?_
      simp only [Act.put, List.setIfInBounds_toArray, List.set_cons_zero, List.set_cons_succ]
      refine lin_load rfl _ _ rfl gx 0 [Value.string (strOfNums x1), Value.string (strOfNums x2), Value.int .i64 x3, Value.string (strOfNums x4), Value.string (strOfNums x5)] [Value.string (strOfNums x1), Value.string (strOfNums x2), Value.int .i64 x3, Value.string (strOfNums x4), Value.string (strOfNums x5)] 25 (by rfl) _ Tryd.underlying25 rfl url_size (by rfl) (fun w' hw => hw.1) ?_
      simp only [Act.put, List.setIfInBounds_toArray, List.set_cons_zero, List.set_cons_succ]
      refine lin_act ?_
      refine wl_call rfl _ _ _ (by go_simp) (RXX.out _ _ HO7.out.drew) ?_
      rintro e whR1 ⟨rfl, hR1⟩
      refine ⟨_, rfl, LinPost.mk ⟨hR1.heap (.tail _ (.tail _ (.head _))), hR1.heap (.tail _ (.head _)), hR1.heap (.head _)⟩ ?_⟩
      simp only [Act.put, List.setIfInBounds_toArray, List.set_cons_zero, List.set_cons_succ]
      refine lin_q ?_ rfl ?_ ?_; rotate_left 1; (focus (rintro w' -; go_simp; first | done | with_reducible rfl | (trace_state; fail)))
      simp only [Act.put, List.setIfInBounds_toArray, List.set_cons_zero, List.set_cons_succ]
      refine lin_q ?_ rfl ?_ ?_; rotate_left 1; (focus (rintro w' -; go_simp; first | done | with_reducible rfl | (trace_state; fail)))
      simp only [Act.put, List.setIfInBounds_toArray, List.set_cons_zero, List.set_cons_succ]
      refine lin_loadG (by rfl) _ _ rfl gx 0 [Value.string (strOfNums x1), Value.string (strOfNums x2), Value.int .i64 x3, Value.string (strOfNums x4), Value.string (strOfNums x5)] [Value.string (strOfNums x1), Value.string (strOfNums x2), Value.int .i64 x3, Value.string (strOfNums x4), Value.string (strOfNums x5)] 25 (by rfl) _ Tryd.underlying25 rfl url_size (by rfl) (fun w' hw => hw.1) ?_
      simp only [Act.put, List.setIfInBounds_toArray, List.set_cons_zero, List.set_cons_succ]
      refine lin_loadG (by rfl) _ _ rfl gy 0 [Value.string (strOfNums y1), Value.string (strOfNums y2), Value.int .i64 y3, Value.string (strOfNums y4), Value.string (strOfNums y5)] [Value.string (strOfNums y1), Value.string (strOfNums y2), Value.int .i64 y3, Value.string (strOfNums y4), Value.string (strOfNums y5)] 25 (by rfl) _ Tryd.underlying25 rfl url_size (by rfl) (fun w' hw => hw.2.1) ?_
      simp only [Act.put, List.setIfInBounds_toArray, List.set_cons_zero, List.set_cons_succ]
      refine lin_loadG (by rfl) _ _ rfl gy 0 [Value.string (strOfNums y1), Value.string (strOfNums y2), Value.int .i64 y3, Value.string (strOfNums y4), Value.string (strOfNums y5)] [Value.string (strOfNums y1), Value.string (strOfNums y2), Value.int .i64 y3, Value.string (strOfNums y4), Value.string (strOfNums y5)] 25 (by rfl) _ Tryd.underlying25 rfl url_size (by rfl) (fun w' hw => hw.2.1) ?_
      simp only [Act.put, List.setIfInBounds_toArray, List.set_cons_zero, List.set_cons_succ]
      refine lin_loadG (by rfl) _ _ rfl gx 0 [Value.string (strOfNums x1), Value.string (strOfNums x2), Value.int .i64 x3, Value.string (strOfNums x4), Value.string (strOfNums x5)] [Value.string (strOfNums x1), Value.string (strOfNums x2), Value.int .i64 x3, Value.string (strOfNums x4), Value.string (strOfNums x5)] 25 (by rfl) _ Tryd.underlying25 rfl url_size (by rfl) (fun w' hw => hw.1) ?_
      simp only [Act.put, List.setIfInBounds_toArray, List.set_cons_zero, List.set_cons_succ]
      refine lin_act ?_
      refine wl_g (by rfl) ?_
      refine wl_call rfl _ _ _ (by go_simp) (RXY.out _ _ hR1) ?_
      rintro e whR2 ⟨rfl, hR2⟩
      refine ⟨_, rfl, LinPost.mk ⟨hR2.heap (.tail _ (.tail _ (.head _))), hR2.heap (.tail _ (.head _)), hR2.heap (.head _)⟩ ?_⟩
      simp only [Act.put, List.setIfInBounds_toArray, List.set_cons_zero, List.set_cons_succ]
      refine lin_act ?_
      refine wl_g (by rfl) ?_
      refine wl_call rfl _ _ _ (by go_simp) (RYX.out _ _ hR2) ?_
      rintro e whR3 ⟨rfl, hR3⟩
      refine ⟨_, rfl, LinPost.mk ⟨hR3.heap (.tail _ (.tail _ (.head _))), hR3.heap (.tail _ (.head _)), hR3.heap (.head _)⟩ ?_⟩
      simp only [Act.put, List.setIfInBounds_toArray, List.set_cons_zero, List.set_cons_succ]
      refine lin_g ?_ (by rfl) ?_ ?_; rotate_left 1; (focus (rintro w' -; go_simp; first | done | with_reducible rfl | (trace_state; fail)))
      simp only [Act.put, List.setIfInBounds_toArray, List.set_cons_zero, List.set_cons_succ]
      refine lin_q ?_ rfl ?_ ?_; rotate_left 1; (focus (rintro w' -; go_simp; first | done | with_reducible rfl | (trace_state; fail)))
      simp only [Act.put, List.setIfInBounds_toArray, List.set_cons_zero, List.set_cons_succ]
      refine lin_q ?_ rfl ?_ ?_; rotate_left 1; (focus (rintro w' -; go_simp; first | done | with_reducible rfl | (trace_state; fail)))
      simp only [Act.put, List.setIfInBounds_toArray, List.set_cons_zero, List.set_cons_succ]
      refine lin_loadG (by rfl) _ _ rfl gx 0 [Value.string (strOfNums x1), Value.string (strOfNums x2), Value.int .i64 x3, Value.string (strOfNums x4), Value.string (strOfNums x5)] [Value.string (strOfNums x1), Value.string (strOfNums x2), Value.int .i64 x3, Value.string (strOfNums x4), Value.string (strOfNums x5)] 25 (by rfl) _ Tryd.underlying25 rfl url_size (by rfl) (fun w' hw => hw.1) ?_
      simp only [Act.put, List.setIfInBounds_toArray, List.set_cons_zero, List.set_cons_succ]
      refine lin_loadG (by rfl) _ _ rfl gy 0 [Value.string (strOfNums y1), Value.string (strOfNums y2), Value.int .i64 y3, Value.string (strOfNums y4), Value.string (strOfNums y5)] [Value.string (strOfNums y1), Value.string (strOfNums y2), Value.int .i64 y3, Value.string (strOfNums y4), Value.string (strOfNums y5)] 25 (by rfl) _ Tryd.underlying25 rfl url_size (by rfl) (fun w' hw => hw.2.1) ?_
      simp only [Act.put, List.setIfInBounds_toArray, List.set_cons_zero, List.set_cons_succ]
      refine lin_act ?_
      refine wl_g (by rfl) ?_
      refine wl_call rfl _ _ _ (by go_simp) (RXY.out _ _ hR3) ?_
      rintro e whR4 ⟨rfl, hR4⟩
      refine ⟨_, rfl, LinPost.mk ⟨hR4.heap (.tail _ (.tail _ (.head _))), hR4.heap (.tail _ (.head _)), hR4.heap (.head _)⟩ ?_⟩
      simp only [Act.put, List.setIfInBounds_toArray, List.set_cons_zero, List.set_cons_succ]
      refine lin_g ?_ (by rfl) ?_ ?_; rotate_left 1; (focus (rintro w' -; go_simp; first | done | with_reducible rfl | (trace_state; fail)))
      simp only [Act.put, List.setIfInBounds_toArray, List.set_cons_zero, List.set_cons_succ]
      refine lin_no (by rfl) ?_
      simp only [Act.put, List.setIfInBounds_toArray, List.set_cons_zero, List.set_cons_succ]
      refine lin_no (by rfl) ?_
      simp only [Act.put, List.setIfInBounds_toArray, List.set_cons_zero, List.set_cons_succ]
      refine lin_actno (by rfl) ⟨hR4.heap (.tail _ (.tail _ (.head _))), hR4.heap (.tail _ (.head _)), hR4.heap (.head _)⟩ ?_
      simp only [Act.put, List.setIfInBounds_toArray, List.set_cons_zero, List.set_cons_succ]
      refine lin_g ?_ (by rfl) ?_ ?_; rotate_left 1; (focus (rintro w' -; go_simp; first | done | with_reducible rfl | (trace_state; fail)))
      simp only [Act.put, List.setIfInBounds_toArray, List.set_cons_zero, List.set_cons_succ]
      refine lin_g ?_ (by rfl) ?_ ?_; rotate_left 1; (focus (rintro w' -; go_simp; first | done | with_reducible rfl | (trace_state; fail)))
      simp only [Act.put, List.setIfInBounds_toArray, List.set_cons_zero, List.set_cons_succ]
      refine lin_no (by rfl) ?_
      simp only [Act.put, List.setIfInBounds_toArray, List.set_cons_zero, List.set_cons_succ]
      refine lin_no (by rfl) ?_
      simp only [Act.put, List.setIfInBounds_toArray, List.set_cons_zero, List.set_cons_succ]
      refine lin_actno (by rfl) ⟨hR4.heap (.tail _ (.tail _ (.head _))), hR4.heap (.tail _ (.head _)), hR4.heap (.head _)⟩ ?_
      simp only [Act.put, List.setIfInBounds_toArray, List.set_cons_zero, List.set_cons_succ]
      refine lin_no (by rfl) ?_
      simp only [Act.put, List.setIfInBounds_toArray, List.set_cons_zero, List.set_cons_succ]
      refine lin_g ?_ (by rfl) ?_ ?_; rotate_left 1; (focus (rintro w' -; go_simp; first | done | with_reducible rfl | (trace_state; fail)))
      simp only [Act.put, List.setIfInBounds_toArray, List.set_cons_zero, List.set_cons_succ]
      refine lin_q ?_ rfl ?_ ?_; rotate_left 1; (focus (rintro w' -; go_simp; first | done | with_reducible rfl | (trace_state; fail)))
      simp only [Act.put, List.setIfInBounds_toArray, List.set_cons_zero, List.set_cons_succ]
      refine lin_q ?_ rfl ?_ ?_; rotate_left 1; (focus (rintro w' -; go_simp; first | done | with_reducible rfl | (trace_state; fail)))
      simp only [Act.put, List.setIfInBounds_toArray, List.set_cons_zero, List.set_cons_succ]
      refine lin_loadG (by rfl) _ _ rfl gx 0 [Value.string (strOfNums x1), Value.string (strOfNums x2), Value.int .i64 x3, Value.string (strOfNums x4), Value.string (strOfNums x5)] [Value.string (strOfNums x1), Value.string (strOfNums x2), Value.int .i64 x3, Value.string (strOfNums x4), Value.string (strOfNums x5)] 25 (by rfl) _ Tryd.underlying25 rfl url_size (by rfl) (fun w' hw => hw.1) ?_
      simp only [Act.put, List.setIfInBounds_toArray, List.set_cons_zero, List.set_cons_succ]
      refine lin_loadG (by rfl) _ _ rfl gy 0 [Value.string (strOfNums y1), Value.string (strOfNums y2), Value.int .i64 y3, Value.string (strOfNums y4), Value.string (strOfNums y5)] [Value.string (strOfNums y1), Value.string (strOfNums y2), Value.int .i64 y3, Value.string (strOfNums y4), Value.string (strOfNums y5)] 25 (by rfl) _ Tryd.underlying25 rfl url_size (by rfl) (fun w' hw => hw.2.1) ?_
      simp only [Act.put, List.setIfInBounds_toArray, List.set_cons_zero, List.set_cons_succ]
      refine lin_g ?_ (by rfl) ?_ ?_; rotate_left 1; (focus (rintro w' -; go_simp; first | done | with_reducible rfl | (trace_state; fail)))
      simp only [Act.put, List.setIfInBounds_toArray, List.set_cons_zero, List.set_cons_succ]
      refine lin_g ?_ (by rfl) ?_ ?_; rotate_left 1; (focus (rintro w' hw; have k0 : w'.cell? ⟨gx, 0, none⟩ = some (.string (strOfNums x1)) := (by rw [cell_of_row w' gx 0 _ _ (0, 0) hw.1]; rfl); clear hw; go_simp; first | done | with_reducible rfl | (trace_state; fail)))
      simp only [Act.put, List.setIfInBounds_toArray, List.set_cons_zero, List.set_cons_succ]
      refine lin_g ?_ (by rfl) ?_ ?_; rotate_left 1; (focus (rintro w' -; go_simp; first | done | with_reducible rfl | (trace_state; fail)))
      simp only [Act.put, List.setIfInBounds_toArray, List.set_cons_zero, List.set_cons_succ]
      refine lin_g ?_ (by rfl) ?_ ?_; rotate_left 1; (focus (rintro w' hw; have k0 : w'.cell? ⟨gy, 0, none⟩ = some (.string (strOfNums y1)) := (by rw [cell_of_row w' gy 0 _ _ (0, 0) hw.2.1]; rfl); clear hw; go_simp; first | done | with_reducible rfl | (trace_state; fail)))
      simp only [Act.put, List.setIfInBounds_toArray, List.set_cons_zero, List.set_cons_succ]
      refine lin_g ?_ (by rfl) ?_ ?_; rotate_left 1; (focus (rintro w' -; go_simp; first | done | with_reducible rfl | (trace_state; fail)))
      simp only [Act.put, List.setIfInBounds_toArray, List.set_cons_zero, List.set_cons_succ]
      refine lin_act ?_
      refine wl_g (by rfl) ?_
      refine wl_call rfl _ _ _ (by go_simp) (RXY.out _ _ hR4) ?_
      rintro e whR5 ⟨rfl, hR5⟩
      refine ⟨_, rfl, LinPost.mk ⟨hR5.heap (.tail _ (.tail _ (.head _))), hR5.heap (.tail _ (.head _)), hR5.heap (.head _)⟩ ?_⟩
      simp only [Act.put, List.setIfInBounds_toArray, List.set_cons_zero, List.set_cons_succ]
      refine lin_g ?_ (by rfl) ?_ ?_; rotate_left 1; (focus (rintro w' -; go_simp; first | done | with_reducible rfl | (trace_state; fail)))
      simp only [Act.put, List.setIfInBounds_toArray, List.set_cons_zero, List.set_cons_succ]
      refine lin_no (by rfl) ?_
      simp only [Act.put, List.setIfInBounds_toArray, List.set_cons_zero, List.set_cons_succ]
      refine lin_no (by rfl) ?_
      simp only [Act.put, List.setIfInBounds_toArray, List.set_cons_zero, List.set_cons_succ]
      refine lin_no (by rfl) ?_
      simp only [Act.put, List.setIfInBounds_toArray, List.set_cons_zero, List.set_cons_succ]
      refine lin_no (by rfl) ?_
      simp only [Act.put, List.setIfInBounds_toArray, List.set_cons_zero, List.set_cons_succ]
      refine lin_no (by rfl) ?_
      simp only [Act.put, List.setIfInBounds_toArray, List.set_cons_zero, List.set_cons_succ]
      refine lin_g ?_ (by rfl) ?_ ?_; rotate_left 1; (focus (rintro w' -; go_simp; first | done | with_reducible rfl | (trace_state; fail)))
      simp only [Act.put, List.setIfInBounds_toArray, List.set_cons_zero, List.set_cons_succ]
      refine lin_g ?_ (by rfl) ?_ ?_; rotate_left 1; (focus (rintro w' -; go_simp; first | done | with_reducible rfl | (trace_state; fail)))
      simp only [Act.put, List.setIfInBounds_toArray, List.set_cons_zero, List.set_cons_succ]
      refine lin_no (by rfl) ?_
      simp only [Act.put, List.setIfInBounds_toArray, List.set_cons_zero, List.set_cons_succ]
      refine lin_no (by rfl) ?_
      simp only [Act.put, List.setIfInBounds_toArray, List.set_cons_zero, List.set_cons_succ]
      refine lin_no (by rfl) ?_
      simp only [Act.put, List.setIfInBounds_toArray, List.set_cons_zero, List.set_cons_succ]
      refine lin_no (by rfl) ?_
      simp only [Act.put, List.setIfInBounds_toArray, List.set_cons_zero, List.set_cons_succ]
      refine lin_no (by rfl) ?_
      simp only [Act.put, List.setIfInBounds_toArray, List.set_cons_zero, List.set_cons_succ]
      refine lin_g ?_ (by rfl) ?_ ?_; rotate_left 1; (focus (rintro w' -; go_simp; first | done | with_reducible rfl | (trace_state; fail)))
      simp only [Act.put, List.setIfInBounds_toArray, List.set_cons_zero, List.set_cons_succ]
      refine lin_g ?_ (by rfl) ?_ ?_; rotate_left 1; (focus (rintro w' -; go_simp; first | done | with_reducible rfl | (trace_state; fail)))
      simp only [Act.put, List.setIfInBounds_toArray, List.set_cons_zero, List.set_cons_succ]
      refine lin_q ?_ rfl ?_ ?_; rotate_left 1; (focus (rintro w' -; go_simp; first | done | with_reducible rfl | (trace_state; fail)))
      simp only [Act.put, List.setIfInBounds_toArray, List.set_cons_zero, List.set_cons_succ]
      refine lin_nil ?_
      clear hs hh hp
      have HO8 := Lib.hid hR5
      go_wp2_with (first | (refine wl_load rfl _ _ rfl gx 0 [Value.string (strOfNums x1), Value.string (strOfNums x2), Value.int .i64 x3, Value.string (strOfNums x4), Value.string (strOfNums x5)] [Value.string (strOfNums x1), Value.string (strOfNums x2), Value.int .i64 x3, Value.string (strOfNums x4), Value.string (strOfNums x5)] _ (HO8.out.heap (.tail _ (.tail _ (.head _)))) (by rfl) _ Tryd.underlying25 rfl url_size (by rfl) ?_) | (refine wl_alloc rfl _ rfl HO8.out _ (alloc_url _) ?_; intro gw w50 hO; have HO9 := Lib.hid hO; clear hO HO8) | (refine wl_store rfl _ _ _ rfl HO9.out 0 gw 0 _ [Value.string (strOfNums x1), Value.string (strOfNums x2), Value.int .i64 x3, Value.string (strOfNums x4), Value.string (strOfNums x5)] _ rfl (by rfl) (by rfl) url_size (one_url ⟨x1, x2, x3, x4, x5⟩) (by simp [UL.val, UL.zero]) ?_; intro w51 hO; have HO10 := Lib.hid (hO.cast (L' := [(gw, .cells [Value.string (strOfNums x1), Value.string (strOfNums x2), Value.int .i64 x3, Value.string (strOfNums x4), Value.string (strOfNums x5)].toArray 25), (gz, .cells [Value.string (strOfNums z1), Value.string (strOfNums z2), Value.int .i64 z3, Value.string (strOfNums z4), Value.string (strOfNums z5)].toArray 25), (gy, .cells [Value.string (strOfNums y1), Value.string (strOfNums y2), Value.int .i64 y3, Value.string (strOfNums y4), Value.string (strOfNums y5)].toArray 25), (gx, .cells [Value.string (strOfNums x1), Value.string (strOfNums x2), Value.int .i64 x3, Value.string (strOfNums x4), Value.string (strOfNums x5)].toArray 25), (W.heap.size, .cells (sameS.map Value.string).toArray 9)]) rfl); clear hO HO9) | (refine wl_store1 rfl _ _ _ rfl HO10.out 0 gw 3 _ (.string (⟨#[47]⟩ ++ pt)) _ rfl (by rfl) (by rfl) (by rfl) (by kernel_rfl) (by rfl) (by simp) ?_; intro w52 hO; have HO11 := Lib.hid (hO.cast (L' := [(gw, .cells [Value.string (strOfNums x1), Value.string (strOfNums x2), Value.int .i64 x3, Value.string (⟨#[47]⟩ ++ pt), Value.string (strOfNums x5)].toArray 25), (gz, .cells [Value.string (strOfNums z1), Value.string (strOfNums z2), Value.int .i64 z3, Value.string (strOfNums z4), Value.string (strOfNums z5)].toArray 25), (gy, .cells [Value.string (strOfNums y1), Value.string (strOfNums y2), Value.int .i64 y3, Value.string (strOfNums y4), Value.string (strOfNums y5)].toArray 25), (gx, .cells [Value.string (strOfNums x1), Value.string (strOfNums x2), Value.int .i64 x3, Value.string (strOfNums x4), Value.string (strOfNums x5)].toArray 25), (W.heap.size, .cells (sameS.map Value.string).toArray 9)]) rfl); clear hO HO10) | (refine wl_store1 rfl _ _ _ rfl HO11.out 0 gw 4 _ (.string (⟨#[63]⟩ ++ pt)) _ rfl (by rfl) (by rfl) (by rfl) (by kernel_rfl) (by rfl) (by simp) ?_; intro w53 hO; have HO12 := Lib.hid (hO.cast (L' := [(gw, .cells [Value.string (strOfNums x1), Value.string (strOfNums x2), Value.int .i64 x3, Value.string (⟨#[47]⟩ ++ pt), Value.string (⟨#[63]⟩ ++ pt)].toArray 25), (gz, .cells [Value.string (strOfNums z1), Value.string (strOfNums z2), Value.int .i64 z3, Value.string (strOfNums z4), Value.string (strOfNums z5)].toArray 25), (gy, .cells [Value.string (strOfNums y1), Value.string (strOfNums y2), Value.int .i64 y3, Value.string (strOfNums y4), Value.string (strOfNums y5)].toArray 25), (gx, .cells [Value.string (strOfNums x1), Value.string (strOfNums x2), Value.int .i64 x3, Value.string (strOfNums x4), Value.string (strOfNums x5)].toArray 25), (W.heap.size, .cells (sameS.map Value.string).toArray 9)]) rfl); clear hO HO11))
      refine wp_region_lin (fun w' => w'.heap[gw]? = some (.cells [Value.string (strOfNums x1), Value.string (strOfNums x2), Value.int .i64 x3, Value.string (⟨#[47]⟩ ++ pt), Value.string (⟨#[63]⟩ ++ pt)].toArray 25) ∧ w'.heap[gx]? = some (.cells [Value.string (strOfNums x1), Value.string (strOfNums x2), Value.int .i64 x3, Value.string (strOfNums x4), Value.string (strOfNums x5)].toArray 25)) 14 [(0, true), (1, true), (2, false), (3, true), (4, true), (6, true), (5, false), (7, false), (8, true), (9, true), (10, true), (11, false), (12, true), (13, true)] (by kernel_rfl) (by kernel_rfl) (fun _ _ d _ _ h => by cases d <;> exact h) ⟨HO12.out.drew.heap (.head _), HO12.out.drew.heap (.tail _ (.tail _ (.tail _ (.head _))))⟩ ?_
      simp only [List.map_cons, List.map_nil, pick_zero, pick_succ, List.drop_succ_cons, List.drop_zero]
      refine lin_load rfl _ _ rfl gw 0 [Value.string (strOfNums x1), Value.string (strOfNums x2), Value.int .i64 x3, Value.string (⟨#[47]⟩ ++ pt), Value.string (⟨#[63]⟩ ++ pt)] [Value.string (strOfNums x1), Value.string (strOfNums x2), Value.int .i64 x3, Value.string (⟨#[47]⟩ ++ pt), Value.string (⟨#[63]⟩ ++ pt)] 25 (by rfl) _ Tryd.underlying25 rfl url_size (by rfl) (fun w' hw => hw.1) ?_
      simp only [Act.put, List.setIfInBounds_toArray, List.set_cons_zero, List.set_cons_succ]
      refine lin_load rfl _ _ rfl gx 0 [Value.string (strOfNums x1), Value.string (strOfNums x2), Value.int .i64 x3, Value.string (strOfNums x4), Value.string (strOfNums x5)] [Value.string (strOfNums x1), Value.string (strOfNums x2), Value.int .i64 x3, Value.string (strOfNums x4), Value.string (strOfNums x5)] 25 (by rfl) _ Tryd.underlying25 rfl url_size (by rfl) (fun w' hw => hw.2) ?_
      simp only [Act.put, List.setIfInBounds_toArray, List.set_cons_zero, List.set_cons_succ]
      refine lin_act ?_
      refine wl_call rfl _ _ _ (by go_simp) (RWX.out _ _ HO12.out.drew) ?_
      rintro e whR101 ⟨rfl, hR101⟩
      refine ⟨_, rfl, LinPost.mk ⟨hR101.heap (.head _), hR101.heap (.tail _ (.tail _ (.tail _ (.head _))))⟩ ?_⟩
      simp only [Act.put, List.setIfInBounds_toArray, List.set_cons_zero, List.set_cons_succ]
      refine lin_q ?_ rfl ?_ ?_; rotate_left 1; (focus (rintro w' -; go_simp; first | done | with_reducible rfl | (trace_state; fail)))
      simp only [Act.put, List.setIfInBounds_toArray, List.set_cons_zero, List.set_cons_succ]
      refine lin_loadG (by rfl) _ _ rfl gw 0 [Value.string (strOfNums x1), Value.string (strOfNums x2), Value.int .i64 x3, Value.string (⟨#[47]⟩ ++ pt), Value.string (⟨#[63]⟩ ++ pt)] [Value.string (strOfNums x1), Value.string (strOfNums x2), Value.int .i64 x3, Value.string (⟨#[47]⟩ ++ pt), Value.string (⟨#[63]⟩ ++ pt)] 25 (by rfl) _ Tryd.underlying25 rfl url_size (by rfl) (fun w' hw => hw.1) ?_
      simp only [Act.put, List.setIfInBounds_toArray, List.set_cons_zero, List.set_cons_succ]
      refine lin_loadG (by rfl) _ _ rfl gx 0 [Value.string (strOfNums x1), Value.string (strOfNums x2), Value.int .i64 x3, Value.string (strOfNums x4), Value.string (strOfNums x5)] [Value.string (strOfNums x1), Value.string (strOfNums x2), Value.int .i64 x3, Value.string (strOfNums x4), Value.string (strOfNums x5)] 25 (by rfl) _ Tryd.underlying25 rfl url_size (by rfl) (fun w' hw => hw.2) ?_
      simp only [Act.put, List.setIfInBounds_toArray, List.set_cons_zero, List.set_cons_succ]
      refine lin_act ?_
      refine wl_g (by rfl) ?_
      refine wl_call rfl _ _ _ (by go_simp) (ROW.out _ _ hR101) ?_
      rintro e whR102 ⟨rfl, hR102⟩
      refine ⟨_, rfl, LinPost.mk ⟨hR102.heap (.head _), hR102.heap (.tail _ (.tail _ (.tail _ (.head _))))⟩ ?_⟩
      simp only [Act.put, List.setIfInBounds_toArray, List.set_cons_zero, List.set_cons_succ]
      refine lin_act ?_
      refine wl_g (by rfl) ?_
      refine wl_call rfl _ _ _ (by go_simp) (ROX.out _ _ hR102) ?_
      rintro e whR103 ⟨rfl, hR103⟩
      refine ⟨_, rfl, LinPost.mk ⟨hR103.heap (.head _), hR103.heap (.tail _ (.tail _ (.tail _ (.head _))))⟩ ?_⟩
      simp only [Act.put, List.setIfInBounds_toArray, List.set_cons_zero, List.set_cons_succ]
      refine lin_g ?_ (by rfl) ?_ ?_; rotate_left 1; (focus (rintro w' -; go_simp; first | done | with_reducible rfl | (trace_state; fail)))
      simp only [Act.put, List.setIfInBounds_toArray, List.set_cons_zero, List.set_cons_succ]
      refine lin_q ?_ rfl ?_ ?_; rotate_left 1; (focus (rintro w' -; go_simp; first | done | with_reducible rfl | (trace_state; fail)))
      simp only [Act.put, List.setIfInBounds_toArray, List.set_cons_zero, List.set_cons_succ]
      refine lin_q ?_ rfl ?_ ?_; rotate_left 1; (focus (rintro w' -; go_simp; first | done | with_reducible rfl | (trace_state; fail)))
      simp only [Act.put, List.setIfInBounds_toArray, List.set_cons_zero, List.set_cons_succ]
      refine lin_act ?_
      refine wl_g (by rfl) ?_
      refine wl_call rfl _ _ _ (by go_simp) (wakes7_c HVV.out hR103) ?_
      rintro e whR104 ⟨rfl, hR104⟩
      refine ⟨_, rfl, LinPost.mk ⟨hR104.heap (.head _), hR104.heap (.tail _ (.tail _ (.tail _ (.head _))))⟩ ?_⟩
      simp only [Act.put, List.setIfInBounds_toArray, List.set_cons_zero, List.set_cons_succ]
      refine lin_q ?_ rfl ?_ ?_; rotate_left 1; (focus (rintro w' -; go_simp; first | done | with_reducible rfl | (trace_state; fail)))
      simp only [Act.put, List.setIfInBounds_toArray, List.set_cons_zero, List.set_cons_succ]
      refine lin_q ?_ rfl ?_ ?_; rotate_left 1; (focus (rintro w' -; go_simp; first | done | with_reducible rfl | (trace_state; fail)))
      simp only [Act.put, List.setIfInBounds_toArray, List.set_cons_zero, List.set_cons_succ]
      refine lin_nil ?_
      go_wp2
      go_ret
      exact hR104.yes rfl
    | true =>
      cases bh with
      | false =>
        clear hd DXY
        have hs := HS.out
        have hh := HH.out
        have hp := HP.out
        clear HS HH HP
        refine wp_region_lin (fun w' => w'.heap[gx]? = some (.cells [Value.string (strOfNums x1), Value.string (strOfNums x2), Value.int .i64 x3, Value.string (strOfNums x4), Value.string (strOfNums x5)].toArray 25) ∧ w'.heap[gy]? = some (.cells [Value.string (strOfNums y1), Value.string (strOfNums y2), Value.int .i64 y3, Value.string (strOfNums y4), Value.string (strOfNums y5)].toArray 25) ∧ w'.heap[gz]? = some (.cells [Value.string (strOfNums z1), Value.string (strOfNums z2), Value.int .i64 z3, Value.string (strOfNums z4), Value.string (strOfNums z5)].toArray 25)) 54 [(0, true), (1, true), (2, false), (3, true), (4, true), (5, true), (6, true), (8, true), (9, true), (7, false), (10, false), (11, true), (12, true), (13, true), (14, true), (15, true), (16, false), (17, true), (18, true), (19, true), (20, false), (21, true), (22, true), (23, true), (24, true), (25, false), (26, true), (27, true), (28, true), (29, true), (30, true), (31, true), (33, true), (34, true), (35, true), (36, true), (37, true), (32, false), (38, true), (39, true), (40, true), (41, true), (42, true), (43, true), (44, true), (45, true), (46, true), (47, true), (48, true), (49, true), (50, true), (51, true), (52, true), (53, true)] (by kernel_rfl) (by kernel_rfl) (fun _ _ d _ _ h => by cases d <;> exact h) ⟨HO7.out.drew.heap (.tail _ (.tail _ (.head _))), HO7.out.drew.heap (.tail _ (.head _)), HO7.out.drew.heap (.head _)⟩ ?_
        simp only [List.map_cons, List.map_nil, pick_zero, pick_succ, List.drop_succ_cons, List.drop_zero]
        refine lin_load rfl _ _ rfl gx 0 [Value.string (strOfNums x1), Value.string (strOfNums x2), Value.int .i64 x3, Value.string (strOfNums x4), Value.string (strOfNums x5)] [Value.string (strOfNums x1), Value.string (strOfNums x2), Value.int .i64 x3, Value.string (strOfNums x4), Value.string (strOfNums x5)] 25 (by rfl) _ Tryd.underlying25 rfl url_size (by rfl) (fun w' hw => hw.1) ?_
        simp only [Act.put, List.setIfInBounds_toArray, List.set_cons_zero, List.set_cons_succ]
        refine lin_load rfl _ _ rfl gx 0 [Value.string (strOfNums x1), Value.string (strOfNums x2), Value.int .i64 x3, Value.string (strOfNums x4), Value.string (strOfNums x5)] [Value.string (strOfNums x1), Value.string (strOfNums x2), Value.int .i64 x3, Value.string (strOfNums x4), Value.string (strOfNums x5)] 25 (by rfl) _ Tryd.underlying25 rfl url_size (by rfl) (fun w' hw => hw.1) ?_
        simp only [Act.put, List.setIfInBounds_toArray, List.set_cons_zero, List.set_cons_succ]
        refine lin_act ?_
        refine wl_call rfl _ _ _ (by go_simp) (RXX.out _ _ HO7.out.drew) ?_
        rintro e whR1 ⟨rfl, hR1⟩
        refine ⟨_, rfl, LinPost.mk ⟨hR1.heap (.tail _ (.tail _ (.head _))), hR1.heap (.tail _ (.head _)), hR1.heap (.head _)⟩ ?_⟩
        simp only [Act.put, List.setIfInBounds_toArray, List.set_cons_zero, List.set_cons_succ]
        refine lin_q ?_ rfl ?_ ?_; rotate_left 1; (focus (rintro w' -; go_simp; first | done | with_reducible rfl | (trace_state; fail)))
        simp only [Act.put, List.setIfInBounds_toArray, List.set_cons_zero, List.set_cons_succ]
        refine lin_q ?_ rfl ?_ ?_; rotate_left 1; (focus (rintro w' -; go_simp; first | done | with_reducible rfl | (trace_state; fail)))
        simp only [Act.put, List.setIfInBounds_toArray, List.set_cons_zero, List.set_cons_succ]
        refine lin_loadG (by rfl) _ _ rfl gx 0 [Value.string (strOfNums x1), Value.string (strOfNums x2), Value.int .i64 x3, Value.string (strOfNums x4), Value.string (strOfNums x5)] [Value.string (strOfNums x1), Value.string (strOfNums x2), Value.int .i64 x3, Value.string (strOfNums x4), Value.string (strOfNums x5)] 25 (by rfl) _ Tryd.underlying25 rfl url_size (by rfl) (fun w' hw => hw.1) ?_
        simp only [Act.put, List.setIfInBounds_toArray, List.set_cons_zero, List.set_cons_succ]
        refine lin_loadG (by rfl) _ _ rfl gy 0 [Value.string (strOfNums y1), Value.string (strOfNums y2), Value.int .i64 y3, Value.string (strOfNums y4), Value.string (strOfNums y5)] [Value.string (strOfNums y1), Value.string (strOfNums y2), Value.int .i64 y3, Value.string (strOfNums y4), Value.string (strOfNums y5)] 25 (by rfl) _ Tryd.underlying25 rfl url_size (by rfl) (fun w' hw => hw.2.1) ?_
        simp only [Act.put, List.setIfInBounds_toArray, List.set_cons_zero, List.set_cons_succ]
        refine lin_loadG (by rfl) _ _ rfl gy 0 [Value.string (strOfNums y1), Value.string (strOfNums y2), Value.int .i64 y3, Value.string (strOfNums y4), Value.string (strOfNums y5)] [Value.string (strOfNums y1), Value.string (strOfNums y2), Value.int .i64 y3, Value.string (strOfNums y4), Value.string (strOfNums y5)] 25 (by rfl) _ Tryd.underlying25 rfl url_size (by rfl) (fun w' hw => hw.2.1) ?_
        simp only [Act.put, List.setIfInBounds_toArray, List.set_cons_zero, List.set_cons_succ]
        refine lin_loadG (by rfl) _ _ rfl gx 0 [Value.string (strOfNums x1), Value.string (strOfNums x2), Value.int .i64 x3, Value.string (strOfNums x4), Value.string (strOfNums x5)] [Value.string (strOfNums x1), Value.string (strOfNums x2), Value.int .i64 x3, Value.string (strOfNums x4), Value.string (strOfNums x5)] 25 (by rfl) _ Tryd.underlying25 rfl url_size (by rfl) (fun w' hw => hw.1) ?_
        simp only [Act.put, List.setIfInBounds_toArray, List.set_cons_zero, List.set_cons_succ]
        refine lin_act ?_
        refine wl_g (by rfl) ?_
        refine wl_call rfl _ _ _ (by go_simp) (RXY.out _ _ hR1) ?_
        rintro e whR2 ⟨rfl, hR2⟩
        refine ⟨_, rfl, LinPost.mk ⟨hR2.heap (.tail _ (.tail _ (.head _))), hR2.heap (.tail _ (.head _)), hR2.heap (.head _)⟩ ?_⟩
        simp only [Act.put, List.setIfInBounds_toArray, List.set_cons_zero, List.set_cons_succ]
        refine lin_act ?_
        refine wl_g (by rfl) ?_
        refine wl_call rfl _ _ _ (by go_simp) (RYX.out _ _ hR2) ?_
        rintro e whR3 ⟨rfl, hR3⟩
        refine ⟨_, rfl, LinPost.mk ⟨hR3.heap (.tail _ (.tail _ (.head _))), hR3.heap (.tail _ (.head _)), hR3.heap (.head _)⟩ ?_⟩
        simp only [Act.put, List.setIfInBounds_toArray, List.set_cons_zero, List.set_cons_succ]
        refine lin_g ?_ (by rfl) ?_ ?_; rotate_left 1; (focus (rintro w' -; go_simp; first | done | with_reducible rfl | (trace_state; fail)))
        simp only [Act.put, List.setIfInBounds_toArray, List.set_cons_zero, List.set_cons_succ]
        refine lin_q ?_ rfl ?_ ?_; rotate_left 1; (focus (rintro w' -; go_simp; first | done | with_reducible rfl | (trace_state; fail)))
        simp only [Act.put, List.setIfInBounds_toArray, List.set_cons_zero, List.set_cons_succ]
        refine lin_q ?_ rfl ?_ ?_; rotate_left 1; (focus (rintro w' -; go_simp; first | done | with_reducible rfl | (trace_state; fail)))
        simp only [Act.put, List.setIfInBounds_toArray, List.set_cons_zero, List.set_cons_succ]
        refine lin_loadG (by rfl) _ _ rfl gx 0 [Value.string (strOfNums x1), Value.string (strOfNums x2), Value.int .i64 x3, Value.string (strOfNums x4), Value.string (strOfNums x5)] [Value.string (strOfNums x1), Value.string (strOfNums x2), Value.int .i64 x3, Value.string (strOfNums x4), Value.string (strOfNums x5)] 25 (by rfl) _ Tryd.underlying25 rfl url_size (by rfl) (fun w' hw => hw.1) ?_
        simp only [Act.put, List.setIfInBounds_toArray, List.set_cons_zero, List.set_cons_succ]
        refine lin_loadG (by rfl) _ _ rfl gy 0 [Value.string (strOfNums y1), Value.string (strOfNums y2), Value.int .i64 y3, Value.string (strOfNums y4), Value.string (strOfNums y5)] [Value.string (strOfNums y1), Value.string (strOfNums y2), Value.int .i64 y3, Value.string (strOfNums y4), Value.string (strOfNums y5)] 25 (by rfl) _ Tryd.underlying25 rfl url_size (by rfl) (fun w' hw => hw.2.1) ?_
        simp only [Act.put, List.setIfInBounds_toArray, List.set_cons_zero, List.set_cons_succ]
        refine lin_act ?_
        refine wl_g (by rfl) ?_
        refine wl_call rfl _ _ _ (by go_simp) (RXY.out _ _ hR3) ?_
        rintro e whR4 ⟨rfl, hR4⟩
        refine ⟨_, rfl, LinPost.mk ⟨hR4.heap (.tail _ (.tail _ (.head _))), hR4.heap (.tail _ (.head _)), hR4.heap (.head _)⟩ ?_⟩
        simp only [Act.put, List.setIfInBounds_toArray, List.set_cons_zero, List.set_cons_succ]
        refine lin_g ?_ (by rfl) ?_ ?_; rotate_left 1; (focus (rintro w' -; go_simp; first | done | with_reducible rfl | (trace_state; fail)))
        simp only [Act.put, List.setIfInBounds_toArray, List.set_cons_zero, List.set_cons_succ]
        refine lin_no (by rfl) ?_
        simp only [Act.put, List.setIfInBounds_toArray, List.set_cons_zero, List.set_cons_succ]
        refine lin_no (by rfl) ?_
        simp only [Act.put, List.setIfInBounds_toArray, List.set_cons_zero, List.set_cons_succ]
        refine lin_actno (by rfl) ⟨hR4.heap (.tail _ (.tail _ (.head _))), hR4.heap (.tail _ (.head _)), hR4.heap (.head _)⟩ ?_
        simp only [Act.put, List.setIfInBounds_toArray, List.set_cons_zero, List.set_cons_succ]
        refine lin_g ?_ (by rfl) ?_ ?_; rotate_left 1; (focus (rintro w' -; go_simp; first | done | with_reducible rfl | (trace_state; fail)))
        simp only [Act.put, List.setIfInBounds_toArray, List.set_cons_zero, List.set_cons_succ]
        refine lin_g ?_ (by rfl) ?_ ?_; rotate_left 1; (focus (rintro w' -; go_simp; first | done | with_reducible rfl | (trace_state; fail)))
        simp only [Act.put, List.setIfInBounds_toArray, List.set_cons_zero, List.set_cons_succ]
        refine lin_no (by rfl) ?_
        simp only [Act.put, List.setIfInBounds_toArray, List.set_cons_zero, List.set_cons_succ]
        refine lin_no (by rfl) ?_
        simp only [Act.put, List.setIfInBounds_toArray, List.set_cons_zero, List.set_cons_succ]
        refine lin_actno (by rfl) ⟨hR4.heap (.tail _ (.tail _ (.head _))), hR4.heap (.tail _ (.head _)), hR4.heap (.head _)⟩ ?_
        simp only [Act.put, List.setIfInBounds_toArray, List.set_cons_zero, List.set_cons_succ]
        refine lin_no (by rfl) ?_
        simp only [Act.put, List.setIfInBounds_toArray, List.set_cons_zero, List.set_cons_succ]
        refine lin_g ?_ (by rfl) ?_ ?_; rotate_left 1; (focus (rintro w' -; go_simp; first | done | with_reducible rfl | (trace_state; fail)))
        simp only [Act.put, List.setIfInBounds_toArray, List.set_cons_zero, List.set_cons_succ]
        refine lin_q ?_ rfl ?_ ?_; rotate_left 1; (focus (rintro w' -; go_simp; first | done | with_reducible rfl | (trace_state; fail)))
        simp only [Act.put, List.setIfInBounds_toArray, List.set_cons_zero, List.set_cons_succ]
        refine lin_q ?_ rfl ?_ ?_; rotate_left 1; (focus (rintro w' -; go_simp; first | done | with_reducible rfl | (trace_state; fail)))
        simp only [Act.put, List.setIfInBounds_toArray, List.set_cons_zero, List.set_cons_succ]
        refine lin_loadG (by rfl) _ _ rfl gx 0 [Value.string (strOfNums x1), Value.string (strOfNums x2), Value.int .i64 x3, Value.string (strOfNums x4), Value.string (strOfNums x5)] [Value.string (strOfNums x1), Value.string (strOfNums x2), Value.int .i64 x3, Value.string (strOfNums x4), Value.string (strOfNums x5)] 25 (by rfl) _ Tryd.underlying25 rfl url_size (by rfl) (fun w' hw => hw.1) ?_
        simp only [Act.put, List.setIfInBounds_toArray, List.set_cons_zero, List.set_cons_succ]
        refine lin_loadG (by rfl) _ _ rfl gy 0 [Value.string (strOfNums y1), Value.string (strOfNums y2), Value.int .i64 y3, Value.string (strOfNums y4), Value.string (strOfNums y5)] [Value.string (strOfNums y1), Value.string (strOfNums y2), Value.int .i64 y3, Value.string (strOfNums y4), Value.string (strOfNums y5)] 25 (by rfl) _ Tryd.underlying25 rfl url_size (by rfl) (fun w' hw => hw.2.1) ?_
        simp only [Act.put, List.setIfInBounds_toArray, List.set_cons_zero, List.set_cons_succ]
        refine lin_g ?_ (by rfl) ?_ ?_; rotate_left 1; (focus (rintro w' -; go_simp; first | done | with_reducible rfl | (trace_state; fail)))
        simp only [Act.put, List.setIfInBounds_toArray, List.set_cons_zero, List.set_cons_succ]
        refine lin_g ?_ (by rfl) ?_ ?_; rotate_left 1; (focus (rintro w' hw; have k0 : w'.cell? ⟨gx, 0, none⟩ = some (.string (strOfNums x1)) := (by rw [cell_of_row w' gx 0 _ _ (0, 0) hw.1]; rfl); clear hw; go_simp; first | done | with_reducible rfl | (trace_state; fail)))
        simp only [Act.put, List.setIfInBounds_toArray, List.set_cons_zero, List.set_cons_succ]
        refine lin_g ?_ (by rfl) ?_ ?_; rotate_left 1; (focus (rintro w' -; go_simp; first | done | with_reducible rfl | (trace_state; fail)))
        simp only [Act.put, List.setIfInBounds_toArray, List.set_cons_zero, List.set_cons_succ]
        refine lin_g ?_ (by rfl) ?_ ?_; rotate_left 1; (focus (rintro w' hw; have k0 : w'.cell? ⟨gy, 0, none⟩ = some (.string (strOfNums y1)) := (by rw [cell_of_row w' gy 0 _ _ (0, 0) hw.2.1]; rfl); clear hw; go_simp; first | done | with_reducible rfl | (trace_state; fail)))
        simp only [Act.put, List.setIfInBounds_toArray, List.set_cons_zero, List.set_cons_succ]
        refine lin_g ?_ (by rfl) ?_ ?_; rotate_left 1; (focus (rintro w' -; go_simp; first | done | with_reducible rfl | (trace_state; fail)))
        simp only [Act.put, List.setIfInBounds_toArray, List.set_cons_zero, List.set_cons_succ]
        refine lin_act ?_
        refine wl_g (by rfl) ?_
        refine wl_call rfl _ _ _ (by go_simp) (RXY.out _ _ hR4) ?_
        rintro e whR5 ⟨rfl, hR5⟩
        refine ⟨_, rfl, LinPost.mk ⟨hR5.heap (.tail _ (.tail _ (.head _))), hR5.heap (.tail _ (.head _)), hR5.heap (.head _)⟩ ?_⟩
        simp only [Act.put, List.setIfInBounds_toArray, List.set_cons_zero, List.set_cons_succ]
        refine lin_g ?_ (by rfl) ?_ ?_; rotate_left 1; (focus (rintro w' -; go_simp; first | done | with_reducible rfl | (trace_state; fail)))
        simp only [Act.put, List.setIfInBounds_toArray, List.set_cons_zero, List.set_cons_succ]
        refine lin_g ?_ (by rfl) ?_ ?_; rotate_left 1; (focus (rintro w' -; go_simp; first | done | with_reducible rfl | (trace_state; fail)))
        simp only [Act.put, List.setIfInBounds_toArray, List.set_cons_zero, List.set_cons_succ]
        refine lin_g ?_ (by rfl) ?_ ?_; rotate_left 1; (focus (rintro w' hw; have k0 : w'.cell? ⟨gx, 1, none⟩ = some (.string (strOfNums x2)) := (by rw [cell_of_row w' gx 1 _ _ (0, 0) hw.1]; rfl); clear hw; go_simp; first | done | with_reducible rfl | (trace_state; fail)))
        simp only [Act.put, List.setIfInBounds_toArray, List.set_cons_zero, List.set_cons_succ]
        refine lin_g ?_ (by rfl) ?_ ?_; rotate_left 1; (focus (rintro w' -; go_simp; first | done | with_reducible rfl | (trace_state; fail)))
        simp only [Act.put, List.setIfInBounds_toArray, List.set_cons_zero, List.set_cons_succ]
        refine lin_g ?_ (by rfl) ?_ ?_; rotate_left 1; (focus (rintro w' hw; have k0 : w'.cell? ⟨gy, 1, none⟩ = some (.string (strOfNums y2)) := (by rw [cell_of_row w' gy 1 _ _ (0, 0) hw.2.1]; rfl); clear hw; go_simp; first | done | with_reducible rfl | (trace_state; fail)))
        simp only [Act.put, List.setIfInBounds_toArray, List.set_cons_zero, List.set_cons_succ]
        refine lin_g ?_ (by rfl) ?_ ?_; rotate_left 1; (focus (rintro w' -; go_simp; first | done | with_reducible rfl | (trace_state; fail)))
        simp only [Act.put, List.setIfInBounds_toArray, List.set_cons_zero, List.set_cons_succ]
        refine lin_g ?_ (by rfl) ?_ ?_; rotate_left 1; (focus (rintro w' -; go_simp; first | done | with_reducible rfl | (trace_state; fail)))
        simp only [Act.put, List.setIfInBounds_toArray, List.set_cons_zero, List.set_cons_succ]
        refine lin_g ?_ (by rfl) ?_ ?_; rotate_left 1; (focus (rintro w' -; go_simp; first | done | with_reducible rfl | (trace_state; fail)))
        simp only [Act.put, List.setIfInBounds_toArray, List.set_cons_zero, List.set_cons_succ]
        refine lin_no (by rfl) ?_
        simp only [Act.put, List.setIfInBounds_toArray, List.set_cons_zero, List.set_cons_succ]
        refine lin_no (by rfl) ?_
        simp only [Act.put, List.setIfInBounds_toArray, List.set_cons_zero, List.set_cons_succ]
        refine lin_no (by rfl) ?_
        simp only [Act.put, List.setIfInBounds_toArray, List.set_cons_zero, List.set_cons_succ]
        refine lin_no (by rfl) ?_
        simp only [Act.put, List.setIfInBounds_toArray, List.set_cons_zero, List.set_cons_succ]
        refine lin_no (by rfl) ?_
        simp only [Act.put, List.setIfInBounds_toArray, List.set_cons_zero, List.set_cons_succ]
        refine lin_g ?_ (by rfl) ?_ ?_; rotate_left 1; (focus (rintro w' -; go_simp; first | done | with_reducible rfl | (trace_state; fail)))
        simp only [Act.put, List.setIfInBounds_toArray, List.set_cons_zero, List.set_cons_succ]
        refine lin_g ?_ (by rfl) ?_ ?_; rotate_left 1; (focus (rintro w' -; go_simp; first | done | with_reducible rfl | (trace_state; fail)))
        simp only [Act.put, List.setIfInBounds_toArray, List.set_cons_zero, List.set_cons_succ]
        refine lin_q ?_ rfl ?_ ?_; rotate_left 1; (focus (rintro w' -; go_simp; first | done | with_reducible rfl | (trace_state; fail)))
        simp only [Act.put, List.setIfInBounds_toArray, List.set_cons_zero, List.set_cons_succ]
        refine lin_nil ?_
        clear hs hh hp
        have HO8 := Lib.hid hR5
        go_wp2_with (first | (refine wl_load rfl _ _ rfl gx 0 [Value.string (strOfNums x1), Value.string (strOfNums x2), Value.int .i64 x3, Value.string (strOfNums x4), Value.string (strOfNums x5)] [Value.string (strOfNums x1), Value.string (strOfNums x2), Value.int .i64 x3, Value.string (strOfNums x4), Value.string (strOfNums x5)] _ (HO8.out.heap (.tail _ (.tail _ (.head _)))) (by rfl) _ Tryd.underlying25 rfl url_size (by rfl) ?_) | (refine wl_alloc rfl _ rfl HO8.out _ (alloc_url _) ?_; intro gw w50 hO; have HO9 := Lib.hid hO; clear hO HO8) | (refine wl_store rfl _ _ _ rfl HO9.out 0 gw 0 _ [Value.string (strOfNums x1), Value.string (strOfNums x2), Value.int .i64 x3, Value.string (strOfNums x4), Value.string (strOfNums x5)] _ rfl (by rfl) (by rfl) url_size (one_url ⟨x1, x2, x3, x4, x5⟩) (by simp [UL.val, UL.zero]) ?_; intro w51 hO; have HO10 := Lib.hid (hO.cast (L' := [(gw, .cells [Value.string (strOfNums x1), Value.string (strOfNums x2), Value.int .i64 x3, Value.string (strOfNums x4), Value.string (strOfNums x5)].toArray 25), (gz, .cells [Value.string (strOfNums z1), Value.string (strOfNums z2), Value.int .i64 z3, Value.string (strOfNums z4), Value.string (strOfNums z5)].toArray 25), (gy, .cells [Value.string (strOfNums y1), Value.string (strOfNums y2), Value.int .i64 y3, Value.string (strOfNums y4), Value.string (strOfNums y5)].toArray 25), (gx, .cells [Value.string (strOfNums x1), Value.string (strOfNums x2), Value.int .i64 x3, Value.string (strOfNums x4), Value.string (strOfNums x5)].toArray 25), (W.heap.size, .cells (sameS.map Value.string).toArray 9)]) rfl); clear hO HO9) | (refine wl_store1 rfl _ _ _ rfl HO10.out 0 gw 3 _ (.string (⟨#[47]⟩ ++ pt)) _ rfl (by rfl) (by rfl) (by rfl) (by kernel_rfl) (by rfl) (by simp) ?_; intro w52 hO; have HO11 := Lib.hid (hO.cast (L' := [(gw, .cells [Value.string (strOfNums x1), Value.string (strOfNums x2), Value.int .i64 x3, Value.string (⟨#[47]⟩ ++ pt), Value.string (strOfNums x5)].toArray 25), (gz, .cells [Value.string (strOfNums z1), Value.string (strOfNums z2), Value.int .i64 z3, Value.string (strOfNums z4), Value.string (strOfNums z5)].toArray 25), (gy, .cells [Value.string (strOfNums y1), Value.string (strOfNums y2), Value.int .i64 y3, Value.string (strOfNums y4), Value.string (strOfNums y5)].toArray 25), (gx, .cells [Value.string (strOfNums x1), Value.string (strOfNums x2), Value.int .i64 x3, Value.string (strOfNums x4), Value.string (strOfNums x5)].toArray 25), (W.heap.size, .cells (sameS.map Value.string).toArray 9)]) rfl); clear hO HO10) | (refine wl_store1 rfl _ _ _ rfl HO11.out 0 gw 4 _ (.string (⟨#[63]⟩ ++ pt)) _ rfl (by rfl) (by rfl) (by rfl) (by kernel_rfl) (by rfl) (by simp) ?_; intro w53 hO; have HO12 := Lib.hid (hO.cast (L' := [(gw, .cells [Value.string (strOfNums x1), Value.string (strOfNums x2), Value.int .i64 x3, Value.string (⟨#[47]⟩ ++ pt), Value.string (⟨#[63]⟩ ++ pt)].toArray 25), (gz, .cells [Value.string (strOfNums z1), Value.string (strOfNums z2), Value.int .i64 z3, Value.string (strOfNums z4), Value.string (strOfNums z5)].toArray 25), (gy, .cells [Value.string (strOfNums y1), Value.string (strOfNums y2), Value.int .i64 y3, Value.string (strOfNums y4), Value.string (strOfNums y5)].toArray 25), (gx, .cells [Value.string (strOfNums x1), Value.string (strOfNums x2), Value.int .i64 x3, Value.string (strOfNums x4), Value.string (strOfNums x5)].toArray 25), (W.heap.size, .cells (sameS.map Value.string).toArray 9)]) rfl); clear hO HO11))
        refine wp_region_lin (fun w' => w'.heap[gw]? = some (.cells [Value.string (strOfNums x1), Value.string (strOfNums x2), Value.int .i64 x3, Value.string (⟨#[47]⟩ ++ pt), Value.string (⟨#[63]⟩ ++ pt)].toArray 25) ∧ w'.heap[gx]? = some (.cells [Value.string (strOfNums x1), Value.string (strOfNums x2), Value.int .i64 x3, Value.string (strOfNums x4), Value.string (strOfNums x5)].toArray 25)) 14 [(0, true), (1, true), (2, false), (3, true), (4, true), (6, true), (5, false), (7, false), (8, true), (9, true), (10, true), (11, false), (12, true), (13, true)] (by kernel_rfl) (by kernel_rfl) (fun _ _ d _ _ h => by cases d <;> exact h) ⟨HO12.out.drew.heap (.head _), HO12.out.drew.heap (.tail _ (.tail _ (.tail _ (.head _))))⟩ ?_
        simp only [List.map_cons, List.map_nil, pick_zero, pick_succ, List.drop_succ_cons, List.drop_zero]
        refine lin_load rfl _ _ rfl gw 0 [Value.string (strOfNums x1), Value.string (strOfNums x2), Value.int .i64 x3, Value.string (⟨#[47]⟩ ++ pt), Value.string (⟨#[63]⟩ ++ pt)] [Value.string (strOfNums x1), Value.string (strOfNums x2), Value.int .i64 x3, Value.string (⟨#[47]⟩ ++ pt), Value.string (⟨#[63]⟩ ++ pt)] 25 (by rfl) _ Tryd.underlying25 rfl url_size (by rfl) (fun w' hw => hw.1) ?_
        simp only [Act.put, List.setIfInBounds_toArray, List.set_cons_zero, List.set_cons_succ]
        refine lin_load rfl _ _ rfl gx 0 [Value.string (strOfNums x1), Value.string (strOfNums x2), Value.int .i64 x3, Value.string (strOfNums x4), Value.string (strOfNums x5)] [Value.string (strOfNums x1), Value.string (strOfNums x2), Value.int .i64 x3, Value.string (strOfNums x4), Value.string (strOfNums x5)] 25 (by rfl) _ Tryd.underlying25 rfl url_size (by rfl) (fun w' hw => hw.2) ?_
        simp only [Act.put, List.setIfInBounds_toArray, List.set_cons_zero, List.set_cons_succ]
        refine lin_act ?_
        refine wl_call rfl _ _ _ (by go_simp) (RWX.out _ _ HO12.out.drew) ?_
        rintro e whR101 ⟨rfl, hR101⟩
        refine ⟨_, rfl, LinPost.mk ⟨hR101.heap (.head _), hR101.heap (.tail _ (.tail _ (.tail _ (.head _))))⟩ ?_⟩
        simp only [Act.put, List.setIfInBounds_toArray, List.set_cons_zero, List.set_cons_succ]
        refine lin_q ?_ rfl ?_ ?_; rotate_left 1; (focus (rintro w' -; go_simp; first | done | with_reducible rfl | (trace_state; fail)))
        simp only [Act.put, List.setIfInBounds_toArray, List.set_cons_zero, List.set_cons_succ]
        refine lin_loadG (by rfl) _ _ rfl gw 0 [Value.string (strOfNums x1), Value.string (strOfNums x2), Value.int .i64 x3, Value.string (⟨#[47]⟩ ++ pt), Value.string (⟨#[63]⟩ ++ pt)] [Value.string (strOfNums x1), Value.string (strOfNums x2), Value.int .i64 x3, Value.string (⟨#[47]⟩ ++ pt), Value.string (⟨#[63]⟩ ++ pt)] 25 (by rfl) _ Tryd.underlying25 rfl url_size (by rfl) (fun w' hw => hw.1) ?_
        simp only [Act.put, List.setIfInBounds_toArray, List.set_cons_zero, List.set_cons_succ]
        refine lin_loadG (by rfl) _ _ rfl gx 0 [Value.string (strOfNums x1), Value.string (strOfNums x2), Value.int .i64 x3, Value.string (strOfNums x4), Value.string (strOfNums x5)] [Value.string (strOfNums x1), Value.string (strOfNums x2), Value.int .i64 x3, Value.string (strOfNums x4), Value.string (strOfNums x5)] 25 (by rfl) _ Tryd.underlying25 rfl url_size (by rfl) (fun w' hw => hw.2) ?_
        simp only [Act.put, List.setIfInBounds_toArray, List.set_cons_zero, List.set_cons_succ]
        refine lin_act ?_
        refine wl_g (by rfl) ?_
        refine wl_call rfl _ _ _ (by go_simp) (ROW.out _ _ hR101) ?_
        rintro e whR102 ⟨rfl, hR102⟩
        refine ⟨_, rfl, LinPost.mk ⟨hR102.heap (.head _), hR102.heap (.tail _ (.tail _ (.tail _ (.head _))))⟩ ?_⟩
        simp only [Act.put, List.setIfInBounds_toArray, List.set_cons_zero, List.set_cons_succ]
        refine lin_act ?_
        refine wl_g (by rfl) ?_
        refine wl_call rfl _ _ _ (by go_simp) (ROX.out _ _ hR102) ?_
        rintro e whR103 ⟨rfl, hR103⟩
        refine ⟨_, rfl, LinPost.mk ⟨hR103.heap (.head _), hR103.heap (.tail _ (.tail _ (.tail _ (.head _))))⟩ ?_⟩
        simp only [Act.put, List.setIfInBounds_toArray, List.set_cons_zero, List.set_cons_succ]
        refine lin_g ?_ (by rfl) ?_ ?_; rotate_left 1; (focus (rintro w' -; go_simp; first | done | with_reducible rfl | (trace_state; fail)))
        simp only [Act.put, List.setIfInBounds_toArray, List.set_cons_zero, List.set_cons_succ]
        refine lin_q ?_ rfl ?_ ?_; rotate_left 1; (focus (rintro w' -; go_simp; first | done | with_reducible rfl | (trace_state; fail)))
        simp only [Act.put, List.setIfInBounds_toArray, List.set_cons_zero, List.set_cons_succ]
        refine lin_q ?_ rfl ?_ ?_; rotate_left 1; (focus (rintro w' -; go_simp; first | done | with_reducible rfl | (trace_state; fail)))
        simp only [Act.put, List.setIfInBounds_toArray, List.set_cons_zero, List.set_cons_succ]
        refine lin_act ?_
        refine wl_g (by rfl) ?_
        refine wl_call rfl _ _ _ (by go_simp) (wakes7_c HVV.out hR103) ?_
        rintro e whR104 ⟨rfl, hR104⟩
        refine ⟨_, rfl, LinPost.mk ⟨hR104.heap (.head _), hR104.heap (.tail _ (.tail _ (.tail _ (.head _))))⟩ ?_⟩
        simp only [Act.put, List.setIfInBounds_toArray, List.set_cons_zero, List.set_cons_succ]
        refine lin_q ?_ rfl ?_ ?_; rotate_left 1; (focus (rintro w' -; go_simp; first | done | with_reducible rfl | (trace_state; fail)))
        simp only [Act.put, List.setIfInBounds_toArray, List.set_cons_zero, List.set_cons_succ]
        refine lin_q ?_ rfl ?_ ?_; rotate_left 1; (focus (rintro w' -; go_simp; first | done | with_reducible rfl | (trace_state; fail)))
        simp only [Act.put, List.setIfInBounds_toArray, List.set_cons_zero, List.set_cons_succ]
        refine lin_nil ?_
        go_wp2
        go_ret
        exact hR104.yes rfl
      | true =>
        obtain rfl : bp = false := by cases bp; rfl; cases hd
        clear hd DXY
        have hs := HS.out
        have hh := HH.out
        have hp := HP.out
        clear HS HH HP
        refine wp_region_lin (fun w' => w'.heap[gx]? = some (.cells [Value.string (strOfNums x1), Value.string (strOfNums x2), Value.int .i64 x3, Value.string (strOfNums x4), Value.string (strOfNums x5)].toArray 25) ∧ w'.heap[gy]? = some (.cells [Value.string (strOfNums y1), Value.string (strOfNums y2), Value.int .i64 y3, Value.string (strOfNums y4), Value.string (strOfNums y5)].toArray 25) ∧ w'.heap[gz]? = some (.cells [Value.string (strOfNums z1), Value.string (strOfNums z2), Value.int .i64 z3, Value.string (strOfNums z4), Value.string (strOfNums z5)].toArray 25)) 54 [(0, true), (1, true), (2, false), (3, true), (4, true), (5, true), (6, true), (8, true), (9, true), (7, false), (10, false), (11, true), (12, true), (13, true), (14, true), (15, true), (16, false), (17, true), (18, true), (19, true), (20, false), (21, true), (22, true), (23, true), (24, true), (25, false), (26, true), (27, true), (28, true), (29, true), (30, true), (31, true), (33, true), (34, true), (35, true), (36, true), (37, true), (32, false), (38, true), (39, true), (40, true), (41, true), (42, true), (43, true), (44, true), (45, true), (46, true), (47, true), (48, true), (49, true), (50, true), (51, true), (52, true), (53, true)] (by kernel_rfl) (by kernel_rfl) (fun _ _ d _ _ h => by cases d <;> exact h) ⟨HO7.out.drew.heap (.tail _ (.tail _ (.head _))), HO7.out.drew.heap (.tail _ (.head _)), HO7.out.drew.heap (.head _)⟩ ?_
        simp only [List.map_cons, List.map_nil, pick_zero, pick_succ, List.drop_succ_cons, List.drop_zero]
        refine lin_load rfl _ _ rfl gx 0 [Value.string (strOfNums x1), Value.string (strOfNums x2), Value.int .i64 x3, Value.string (strOfNums x4), Value.string (strOfNums x5)] [Value.string (strOfNums x1), Value.string (strOfNums x2), Value.int .i64 x3, Value.string (strOfNums x4), Value.string (strOfNums x5)] 25 (by rfl) _ Tryd.underlying25 rfl url_size (by rfl) (fun w' hw => hw.1) ?_
        simp only [Act.put, List.setIfInBounds_toArray, List.set_cons_zero, List.set_cons_succ]
        refine lin_load rfl _ _ rfl gx 0 [Value.string (strOfNums x1), Value.string (strOfNums x2), Value.int .i64 x3, Value.string (strOfNums x4), Value.string (strOfNums x5)] [Value.string (strOfNums x1), Value.string (strOfNums x2), Value.int .i64 x3, Value.string (strOfNums x4), Value.string (strOfNums x5)] 25 (by rfl) _ Tryd.underlying25 rfl url_size (by rfl) (fun w' hw => hw.1) ?_
        simp only [Act.put, List.setIfInBounds_toArray, List.set_cons_zero, List.set_cons_succ]
        refine lin_act ?_
        refine wl_call rfl _ _ _ (by go_simp) (RXX.out _ _ HO7.out.drew) ?_
        rintro e whR1 ⟨rfl, hR1⟩
        refine ⟨_, rfl, LinPost.mk ⟨hR1.heap (.tail _ (.tail _ (.head _))), hR1.heap (.tail _ (.head _)), hR1.heap (.head _)⟩ ?_⟩
        simp only [Act.put, List.setIfInBounds_toArray, List.set_cons_zero, List.set_cons_succ]
        refine lin_q ?_ rfl ?_ ?_; rotate_left 1; (focus (rintro w' -; go_simp; first | done | with_reducible rfl | (trace_state; fail)))
        simp only [Act.put, List.setIfInBounds_toArray, List.set_cons_zero, List.set_cons_succ]
        refine lin_q ?_ rfl ?_ ?_; rotate_left 1; (focus (rintro w' -; go_simp; first | done | with_reducible rfl | (trace_state; fail)))
        simp only [Act.put, List.setIfInBounds_toArray, List.set_cons_zero, List.set_cons_succ]
        refine lin_loadG (by rfl) _ _ rfl gx 0 [Value.string (strOfNums x1), Value.string (strOfNums x2), Value.int .i64 x3, Value.string (strOfNums x4), Value.string (strOfNums x5)] [Value.string (strOfNums x1), Value.string (strOfNums x2), Value.int .i64 x3, Value.string (strOfNums x4), Value.string (strOfNums x5)] 25 (by rfl) _ Tryd.underlying25 rfl url_size (by rfl) (fun w' hw => hw.1) ?_
        simp only [Act.put, List.setIfInBounds_toArray, List.set_cons_zero, List.set_cons_succ]
        refine lin_loadG (by rfl) _ _ rfl gy 0 [Value.string (strOfNums y1), Value.string (strOfNums y2), Value.int .i64 y3, Value.string (strOfNums y4), Value.string (strOfNums y5)] [Value.string (strOfNums y1), Value.string (strOfNums y2), Value.int .i64 y3, Value.string (strOfNums y4), Value.string (strOfNums y5)] 25 (by rfl) _ Tryd.underlying25 rfl url_size (by rfl) (fun w' hw => hw.2.1) ?_
        simp only [Act.put, List.setIfInBounds_toArray, List.set_cons_zero, List.set_cons_succ]
        refine lin_loadG (by rfl) _ _ rfl gy 0 [Value.string (strOfNums y1), Value.string (strOfNums y2), Value.int .i64 y3, Value.string (strOfNums y4), Value.string (strOfNums y5)] [Value.string (strOfNums y1), Value.string (strOfNums y2), Value.int .i64 y3, Value.string (strOfNums y4), Value.string (strOfNums y5)] 25 (by rfl) _ Tryd.underlying25 rfl url_size (by rfl) (fun w' hw => hw.2.1) ?_
        simp only [Act.put, List.setIfInBounds_toArray, List.set_cons_zero, List.set_cons_succ]
        refine lin_loadG (by rfl) _ _ rfl gx 0 [Value.string (strOfNums x1), Value.string (strOfNums x2), Value.int .i64 x3, Value.string (strOfNums x4), Value.string (strOfNums x5)] [Value.string (strOfNums x1), Value.string (strOfNums x2), Value.int .i64 x3, Value.string (strOfNums x4), Value.string (strOfNums x5)] 25 (by rfl) _ Tryd.underlying25 rfl url_size (by rfl) (fun w' hw => hw.1) ?_
        simp only [Act.put, List.setIfInBounds_toArray, List.set_cons_zero, List.set_cons_succ]
        refine lin_act ?_
        refine wl_g (by rfl) ?_
        refine wl_call rfl _ _ _ (by go_simp) (RXY.out _ _ hR1) ?_
        rintro e whR2 ⟨rfl, hR2⟩
        refine ⟨_, rfl, LinPost.mk ⟨hR2.heap (.tail _ (.tail _ (.head _))), hR2.heap (.tail _ (.head _)), hR2.heap (.head _)⟩ ?_⟩
        simp only [Act.put, List.setIfInBounds_toArray, List.set_cons_zero, List.set_cons_succ]
        refine lin_act ?_
        refine wl_g (by rfl) ?_
        refine wl_call rfl _ _ _ (by go_simp) (RYX.out _ _ hR2) ?_
        rintro e whR3 ⟨rfl, hR3⟩
        refine ⟨_, rfl, LinPost.mk ⟨hR3.heap (.tail _ (.tail _ (.head _))), hR3.heap (.tail _ (.head _)), hR3.heap (.head _)⟩ ?_⟩
        simp only [Act.put, List.setIfInBounds_toArray, List.set_cons_zero, List.set_cons_succ]
        refine lin_g ?_ (by rfl) ?_ ?_; rotate_left 1; (focus (rintro w' -; go_simp; first | done | with_reducible rfl | (trace_state; fail)))
        simp only [Act.put, List.setIfInBounds_toArray, List.set_cons_zero, List.set_cons_succ]
        refine lin_q ?_ rfl ?_ ?_; rotate_left 1; (focus (rintro w' -; go_simp; first | done | with_reducible rfl | (trace_state; fail)))
        simp only [Act.put, List.setIfInBounds_toArray, List.set_cons_zero, List.set_cons_succ]
        refine lin_q ?_ rfl ?_ ?_; rotate_left 1; (focus (rintro w' -; go_simp; first | done | with_reducible rfl | (trace_state; fail)))
        simp only [Act.put, List.setIfInBounds_toArray, List.set_cons_zero, List.set_cons_succ]
        refine lin_loadG (by rfl) _ _ rfl gx 0 [Value.string (strOfNums x1), Value.string (strOfNums x2), Value.int .i64 x3, Value.string (strOfNums x4), Value.string (strOfNums x5)] [Value.string (strOfNums x1), Value.string (strOfNums x2), Value.int .i64 x3, Value.string (strOfNums x4), Value.string (strOfNums x5)] 25 (by rfl) _ Tryd.underlying25 rfl url_size (by rfl) (fun w' hw => hw.1) ?_
        simp only [Act.put, List.setIfInBounds_toArray, List.set_cons_zero, List.set_cons_succ]
        refine lin_loadG (by rfl) _ _ rfl gy 0 [Value.string (strOfNums y1), Value.string (strOfNums y2), Value.int .i64 y3, Value.string (strOfNums y4), Value.string (strOfNums y5)] [Value.string (strOfNums y1), Value.string (strOfNums y2), Value.int .i64 y3, Value.string (strOfNums y4), Value.string (strOfNums y5)] 25 (by rfl) _ Tryd.underlying25 rfl url_size (by rfl) (fun w' hw => hw.2.1) ?_
        simp only [Act.put, List.setIfInBounds_toArray, List.set_cons_zero, List.set_cons_succ]
        refine lin_act ?_
        refine wl_g (by rfl) ?_
        refine wl_call rfl _ _ _ (by go_simp) (RXY.out _ _ hR3) ?_
        rintro e whR4 ⟨rfl, hR4⟩
        refine ⟨_, rfl, LinPost.mk ⟨hR4.heap (.tail _ (.tail _ (.head _))), hR4.heap (.tail _ (.head _)), hR4.heap (.head _)⟩ ?_⟩
        simp only [Act.put, List.setIfInBounds_toArray, List.set_cons_zero, List.set_cons_succ]
        refine lin_g ?_ (by rfl) ?_ ?_; rotate_left 1; (focus (rintro w' -; go_simp; first | done | with_reducible rfl | (trace_state; fail)))
        simp only [Act.put, List.setIfInBounds_toArray, List.set_cons_zero, List.set_cons_succ]
        refine lin_no (by rfl) ?_
        simp only [Act.put, List.setIfInBounds_toArray, List.set_cons_zero, List.set_cons_succ]
        refine lin_no (by rfl) ?_
        simp only [Act.put, List.setIfInBounds_toArray, List.set_cons_zero, List.set_cons_succ]
        refine lin_actno (by rfl) ⟨hR4.heap (.tail _ (.tail _ (.head _))), hR4.heap (.tail _ (.head _)), hR4.heap (.head _)⟩ ?_
        simp only [Act.put, List.setIfInBounds_toArray, List.set_cons_zero, List.set_cons_succ]
        refine lin_g ?_ (by rfl) ?_ ?_; rotate_left 1; (focus (rintro w' -; go_simp; first | done | with_reducible rfl | (trace_state; fail)))
        simp only [Act.put, List.setIfInBounds_toArray, List.set_cons_zero, List.set_cons_succ]
        refine lin_g ?_ (by rfl) ?_ ?_; rotate_left 1; (focus (rintro w' -; go_simp; first | done | with_reducible rfl | (trace_state; fail)))
        simp only [Act.put, List.setIfInBounds_toArray, List.set_cons_zero, List.set_cons_succ]
        refine lin_no (by rfl) ?_
        simp only [Act.put, List.setIfInBounds_toArray, List.set_cons_zero, List.set_cons_succ]
        refine lin_no (by rfl) ?_
        simp only [Act.put, List.setIfInBounds_toArray, List.set_cons_zero, List.set_cons_succ]
        refine lin_actno (by rfl) ⟨hR4.heap (.tail _ (.tail _ (.head _))), hR4.heap (.tail _ (.head _)), hR4.heap (.head _)⟩ ?_
        simp only [Act.put, List.setIfInBounds_toArray, List.set_cons_zero, List.set_cons_succ]
        refine lin_no (by rfl) ?_
        simp only [Act.put, List.setIfInBounds_toArray, List.set_cons_zero, List.set_cons_succ]
        refine lin_g ?_ (by rfl) ?_ ?_; rotate_left 1; (focus (rintro w' -; go_simp; first | done | with_reducible rfl | (trace_state; fail)))
        simp only [Act.put, List.setIfInBounds_toArray, List.set_cons_zero, List.set_cons_succ]
        refine lin_q ?_ rfl ?_ ?_; rotate_left 1; (focus (rintro w' -; go_simp; first | done | with_reducible rfl | (trace_state; fail)))
        simp only [Act.put, List.setIfInBounds_toArray, List.set_cons_zero, List.set_cons_succ]
        refine lin_q ?_ rfl ?_ ?_; rotate_left 1; (focus (rintro w' -; go_simp; first | done | with_reducible rfl | (trace_state; fail)))
        simp only [Act.put, List.setIfInBounds_toArray, List.set_cons_zero, List.set_cons_succ]
        refine lin_loadG (by rfl) _ _ rfl gx 0 [Value.string (strOfNums x1), Value.string (strOfNums x2), Value.int .i64 x3, Value.string (strOfNums x4), Value.string (strOfNums x5)] [Value.string (strOfNums x1), Value.string (strOfNums x2), Value.int .i64 x3, Value.string (strOfNums x4), Value.string (strOfNums x5)] 25 (by rfl) _ Tryd.underlying25 rfl url_size (by rfl) (fun w' hw => hw.1) ?_
        simp only [Act.put, List.setIfInBounds_toArray, List.set_cons_zero, List.set_cons_succ]
        refine lin_loadG (by rfl) _ _ rfl gy 0 [Value.string (strOfNums y1), Value.string (strOfNums y2), Value.int .i64 y3, Value.string (strOfNums y4), Value.string (strOfNums y5)] [Value.string (strOfNums y1), Value.string (strOfNums y2), Value.int .i64 y3, Value.string (strOfNums y4), Value.string (strOfNums y5)] 25 (by rfl) _ Tryd.underlying25 rfl url_size (by rfl) (fun w' hw => hw.2.1) ?_
        simp only [Act.put, List.setIfInBounds_toArray, List.set_cons_zero, List.set_cons_succ]
        refine lin_g ?_ (by rfl) ?_ ?_; rotate_left 1; (focus (rintro w' -; go_simp; first | done | with_reducible rfl | (trace_state; fail)))
        simp only [Act.put, List.setIfInBounds_toArray, List.set_cons_zero, List.set_cons_succ]
        refine lin_g ?_ (by rfl) ?_ ?_; rotate_left 1; (focus (rintro w' hw; have k0 : w'.cell? ⟨gx, 0, none⟩ = some (.string (strOfNums x1)) := (by rw [cell_of_row w' gx 0 _ _ (0, 0) hw.1]; rfl); clear hw; go_simp; first | done | with_reducible rfl | (trace_state; fail)))
        simp only [Act.put, List.setIfInBounds_toArray, List.set_cons_zero, List.set_cons_succ]
        refine lin_g ?_ (by rfl) ?_ ?_; rotate_left 1; (focus (rintro w' -; go_simp; first | done | with_reducible rfl | (trace_state; fail)))
        simp only [Act.put, List.setIfInBounds_toArray, List.set_cons_zero, List.set_cons_succ]
        refine lin_g ?_ (by rfl) ?_ ?_; rotate_left 1; (focus (rintro w' hw; have k0 : w'.cell? ⟨gy, 0, none⟩ = some (.string (strOfNums y1)) := (by rw [cell_of_row w' gy 0 _ _ (0, 0) hw.2.1]; rfl); clear hw; go_simp; first | done | with_reducible rfl | (trace_state; fail)))
        simp only [Act.put, List.setIfInBounds_toArray, List.set_cons_zero, List.set_cons_succ]
        refine lin_g ?_ (by rfl) ?_ ?_; rotate_left 1; (focus (rintro w' -; go_simp; first | done | with_reducible rfl | (trace_state; fail)))
        simp only [Act.put, List.setIfInBounds_toArray, List.set_cons_zero, List.set_cons_succ]
        refine lin_act ?_
        refine wl_g (by rfl) ?_
        refine wl_call rfl _ _ _ (by go_simp) (RXY.out _ _ hR4) ?_
        rintro e whR5 ⟨rfl, hR5⟩
        refine ⟨_, rfl, LinPost.mk ⟨hR5.heap (.tail _ (.tail _ (.head _))), hR5.heap (.tail _ (.head _)), hR5.heap (.head _)⟩ ?_⟩
        simp only [Act.put, List.setIfInBounds_toArray, List.set_cons_zero, List.set_cons_succ]
        refine lin_g ?_ (by rfl) ?_ ?_; rotate_left 1; (focus (rintro w' -; go_simp; first | done | with_reducible rfl | (trace_state; fail)))
        simp only [Act.put, List.setIfInBounds_toArray, List.set_cons_zero, List.set_cons_succ]
        refine lin_g ?_ (by rfl) ?_ ?_; rotate_left 1; (focus (rintro w' -; go_simp; first | done | with_reducible rfl | (trace_state; fail)))
        simp only [Act.put, List.setIfInBounds_toArray, List.set_cons_zero, List.set_cons_succ]
        refine lin_g ?_ (by rfl) ?_ ?_; rotate_left 1; (focus (rintro w' hw; have k0 : w'.cell? ⟨gx, 1, none⟩ = some (.string (strOfNums x2)) := (by rw [cell_of_row w' gx 1 _ _ (0, 0) hw.1]; rfl); clear hw; go_simp; first | done | with_reducible rfl | (trace_state; fail)))
        simp only [Act.put, List.setIfInBounds_toArray, List.set_cons_zero, List.set_cons_succ]
        refine lin_g ?_ (by rfl) ?_ ?_; rotate_left 1; (focus (rintro w' -; go_simp; first | done | with_reducible rfl | (trace_state; fail)))
        simp only [Act.put, List.setIfInBounds_toArray, List.set_cons_zero, List.set_cons_succ]
        refine lin_g ?_ (by rfl) ?_ ?_; rotate_left 1; (focus (rintro w' hw; have k0 : w'.cell? ⟨gy, 1, none⟩ = some (.string (strOfNums y2)) := (by rw [cell_of_row w' gy 1 _ _ (0, 0) hw.2.1]; rfl); clear hw; go_simp; first | done | with_reducible rfl | (trace_state; fail)))
        simp only [Act.put, List.setIfInBounds_toArray, List.set_cons_zero, List.set_cons_succ]
        refine lin_g ?_ (by rfl) ?_ ?_; rotate_left 1; (focus (rintro w' -; go_simp; first | done | with_reducible rfl | (trace_state; fail)))
        simp only [Act.put, List.setIfInBounds_toArray, List.set_cons_zero, List.set_cons_succ]
        refine lin_g ?_ (by rfl) ?_ ?_; rotate_left 1; (focus (rintro w' -; go_simp; first | done | with_reducible rfl | (trace_state; fail)))
        simp only [Act.put, List.setIfInBounds_toArray, List.set_cons_zero, List.set_cons_succ]
        refine lin_g ?_ (by rfl) ?_ ?_; rotate_left 1; (focus (rintro w' -; go_simp; first | done | with_reducible rfl | (trace_state; fail)))
        simp only [Act.put, List.setIfInBounds_toArray, List.set_cons_zero, List.set_cons_succ]
        refine lin_g ?_ (by rfl) ?_ ?_; rotate_left 1; (focus (rintro w' -; go_simp; first | done | with_reducible rfl | (trace_state; fail)))
        simp only [Act.put, List.setIfInBounds_toArray, List.set_cons_zero, List.set_cons_succ]
        refine lin_g ?_ (by rfl) ?_ ?_; rotate_left 1; (focus (rintro w' hw; have k0 : w'.cell? ⟨gx, 2, none⟩ = some (.int .i64 x3) := (by rw [cell_of_row w' gx 2 _ _ (0, 0) hw.1]; rfl); clear hw; go_simp; first | done | with_reducible rfl | (trace_state; fail)))
        simp only [Act.put, List.setIfInBounds_toArray, List.set_cons_zero, List.set_cons_succ]
        refine lin_g ?_ (by rfl) ?_ ?_; rotate_left 1; (focus (rintro w' -; go_simp; first | done | with_reducible rfl | (trace_state; fail)))
        simp only [Act.put, List.setIfInBounds_toArray, List.set_cons_zero, List.set_cons_succ]
        refine lin_g ?_ (by rfl) ?_ ?_; rotate_left 1; (focus (rintro w' hw; have k0 : w'.cell? ⟨gy, 2, none⟩ = some (.int .i64 y3) := (by rw [cell_of_row w' gy 2 _ _ (0, 0) hw.2.1]; rfl); clear hw; go_simp; first | done | with_reducible rfl | (trace_state; fail)))
        simp only [Act.put, List.setIfInBounds_toArray, List.set_cons_zero, List.set_cons_succ]
        refine lin_g ?_ (by rfl) ?_ ?_; rotate_left 1; (focus (rintro w' -; go_simp; first | done | with_reducible rfl | (trace_state; fail)))
        simp only [Act.put, List.setIfInBounds_toArray, List.set_cons_zero, List.set_cons_succ]
        refine lin_g ?_ (by rfl) ?_ ?_; rotate_left 1; (focus (rintro w' -; go_simp; first | done | with_reducible rfl | (trace_state; fail)))
        simp only [Act.put, List.setIfInBounds_toArray, List.set_cons_zero, List.set_cons_succ]
        refine lin_g ?_ (by rfl) ?_ ?_; rotate_left 1; (focus (rintro w' -; go_simp; first | done | with_reducible rfl | (trace_state; fail)))
        simp only [Act.put, List.setIfInBounds_toArray, List.set_cons_zero, List.set_cons_succ]
        refine lin_q ?_ rfl ?_ ?_; rotate_left 1; (focus (rintro w' -; go_simp; first | done | with_reducible rfl | (trace_state; fail)))
        simp only [Act.put, List.setIfInBounds_toArray, List.set_cons_zero, List.set_cons_succ]
        refine lin_nil ?_
        clear hs hh hp
        have HO8 := Lib.hid hR5
        go_wp2_with (first | (refine wl_load rfl _ _ rfl gx 0 [Value.string (strOfNums x1), Value.string (strOfNums x2), Value.int .i64 x3, Value.string (strOfNums x4), Value.string (strOfNums x5)] [Value.string (strOfNums x1), Value.string (strOfNums x2), Value.int .i64 x3, Value.string (strOfNums x4), Value.string (strOfNums x5)] _ (HO8.out.heap (.tail _ (.tail _ (.head _)))) (by rfl) _ Tryd.underlying25 rfl url_size (by rfl) ?_) | (refine wl_alloc rfl _ rfl HO8.out _ (alloc_url _) ?_; intro gw w50 hO; have HO9 := Lib.hid hO; clear hO HO8) | (refine wl_store rfl _ _ _ rfl HO9.out 0 gw 0 _ [Value.string (strOfNums x1), Value.string (strOfNums x2), Value.int .i64 x3, Value.string (strOfNums x4), Value.string (strOfNums x5)] _ rfl (by rfl) (by rfl) url_size (one_url ⟨x1, x2, x3, x4, x5⟩) (by simp [UL.val, UL.zero]) ?_; intro w51 hO; have HO10 := Lib.hid (hO.cast (L' := [(gw, .cells [Value.string (strOfNums x1), Value.string (strOfNums x2), Value.int .i64 x3, Value.string (strOfNums x4), Value.string (strOfNums x5)].toArray 25), (gz, .cells [Value.string (strOfNums z1), Value.string (strOfNums z2), Value.int .i64 z3, Value.string (strOfNums z4), Value.string (strOfNums z5)].toArray 25), (gy, .cells [Value.string (strOfNums y1), Value.string (strOfNums y2), Value.int .i64 y3, Value.string (strOfNums y4), Value.string (strOfNums y5)].toArray 25), (gx, .cells [Value.string (strOfNums x1), Value.string (strOfNums x2), Value.int .i64 x3, Value.string (strOfNums x4), Value.string (strOfNums x5)].toArray 25), (W.heap.size, .cells (sameS.map Value.string).toArray 9)]) rfl); clear hO HO9) | (refine wl_store1 rfl _ _ _ rfl HO10.out 0 gw 3 _ (.string (⟨#[47]⟩ ++ pt)) _ rfl (by rfl) (by rfl) (by rfl) (by kernel_rfl) (by rfl) (by simp) ?_; intro w52 hO; have HO11 := Lib.hid (hO.cast (L' := [(gw, .cells [Value.string (strOfNums x1), Value.string (strOfNums x2), Value.int .i64 x3, Value.string (⟨#[47]⟩ ++ pt), Value.string (strOfNums x5)].toArray 25), (gz, .cells [Value.string (strOfNums z1), Value.string (strOfNums z2), Value.int .i64 z3, Value.string (strOfNums z4), Value.string (strOfNums z5)].toArray 25), (gy, .cells [Value.string (strOfNums y1), Value.string (strOfNums y2), Value.int .i64 y3, Value.string (strOfNums y4), Value.string (strOfNums y5)].toArray 25), (gx, .cells [Value.string (strOfNums x1), Value.string (strOfNums x2), Value.int .i64 x3, Value.string (strOfNums x4), Value.string (strOfNums x5)].toArray 25), (W.heap.size, .cells (sameS.map Value.string).toArray 9)]) rfl); clear hO HO10) | (refine wl_store1 rfl _ _ _ rfl HO11.out 0 gw 4 _ (.string (⟨#[63]⟩ ++ pt)) _ rfl (by rfl) (by rfl) (by rfl) (by kernel_rfl) (by rfl) (by simp) ?_; intro w53 hO; have HO12 := Lib.hid (hO.cast (L' := [(gw, .cells [Value.string (strOfNums x1), Value.string (strOfNums x2), Value.int .i64 x3, Value.string (⟨#[47]⟩ ++ pt), Value.string (⟨#[63]⟩ ++ pt)].toArray 25), (gz, .cells [Value.string (strOfNums z1), Value.string (strOfNums z2), Value.int .i64 z3, Value.string (strOfNums z4), Value.string (strOfNums z5)].toArray 25), (gy, .cells [Value.string (strOfNums y1), Value.string (strOfNums y2), Value.int .i64 y3, Value.string (strOfNums y4), Value.string (strOfNums y5)].toArray 25), (gx, .cells [Value.string (strOfNums x1), Value.string (strOfNums x2), Value.int .i64 x3, Value.string (strOfNums x4), Value.string (strOfNums x5)].toArray 25), (W.heap.size, .cells (sameS.map Value.string).toArray 9)]) rfl); clear hO HO11))
        refine wp_region_lin (fun w' => w'.heap[gw]? = some (.cells [Value.string (strOfNums x1), Value.string (strOfNums x2), Value.int .i64 x3, Value.string (⟨#[47]⟩ ++ pt), Value.string (⟨#[63]⟩ ++ pt)].toArray 25) ∧ w'.heap[gx]? = some (.cells [Value.string (strOfNums x1), Value.string (strOfNums x2), Value.int .i64 x3, Value.string (strOfNums x4), Value.string (strOfNums x5)].toArray 25)) 14 [(0, true), (1, true), (2, false), (3, true), (4, true), (6, true), (5, false), (7, false), (8, true), (9, true), (10, true), (11, false), (12, true), (13, true)] (by kernel_rfl) (by kernel_rfl) (fun _ _ d _ _ h => by cases d <;> exact h) ⟨HO12.out.drew.heap (.head _), HO12.out.drew.heap (.tail _ (.tail _ (.tail _ (.head _))))⟩ ?_
        simp only [List.map_cons, List.map_nil, pick_zero, pick_succ, List.drop_succ_cons, List.drop_zero]
        refine lin_load rfl _ _ rfl gw 0 [Value.string (strOfNums x1), Value.string (strOfNums x2), Value.int .i64 x3, Value.string (⟨#[47]⟩ ++ pt), Value.string (⟨#[63]⟩ ++ pt)] [Value.string (strOfNums x1), Value.string (strOfNums x2), Value.int .i64 x3, Value.string (⟨#[47]⟩ ++ pt), Value.string (⟨#[63]⟩ ++ pt)] 25 (by rfl) _ Tryd.underlying25 rfl url_size (by rfl) (fun w' hw => hw.1) ?_
        simp only [Act.put, List.setIfInBounds_toArray, List.set_cons_zero, List.set_cons_succ]
        refine lin_load rfl _ _ rfl gx 0 [Value.string (strOfNums x1), Value.string (strOfNums x2), Value.int .i64 x3, Value.string (strOfNums x4), Value.string (strOfNums x5)] [Value.string (strOfNums x1), Value.string (strOfNums x2), Value.int .i64 x3, Value.string (strOfNums x4), Value.string (strOfNums x5)] 25 (by rfl) _ Tryd.underlying25 rfl url_size (by rfl) (fun w' hw => hw.2) ?_
        simp only [Act.put, List.setIfInBounds_toArray, List.set_cons_zero, List.set_cons_succ]
        refine lin_act ?_
        refine wl_call rfl _ _ _ (by go_simp) (RWX.out _ _ HO12.out.drew) ?_
        rintro e whR101 ⟨rfl, hR101⟩
        refine ⟨_, rfl, LinPost.mk ⟨hR101.heap (.head _), hR101.heap (.tail _ (.tail _ (.tail _ (.head _))))⟩ ?_⟩
        simp only [Act.put, List.setIfInBounds_toArray, List.set_cons_zero, List.set_cons_succ]
        refine lin_q ?_ rfl ?_ ?_; rotate_left 1; (focus (rintro w' -; go_simp; first | done | with_reducible rfl | (trace_state; fail)))
        simp only [Act.put, List.setIfInBounds_toArray, List.set_cons_zero, List.set_cons_succ]
        refine lin_loadG (by rfl) _ _ rfl gw 0 [Value.string (strOfNums x1), Value.string (strOfNums x2), Value.int .i64 x3, Value.string (⟨#[47]⟩ ++ pt), Value.string (⟨#[63]⟩ ++ pt)] [Value.string (strOfNums x1), Value.string (strOfNums x2), Value.int .i64 x3, Value.string (⟨#[47]⟩ ++ pt), Value.string (⟨#[63]⟩ ++ pt)] 25 (by rfl) _ Tryd.underlying25 rfl url_size (by rfl) (fun w' hw => hw.1) ?_
        simp only [Act.put, List.setIfInBounds_toArray, List.set_cons_zero, List.set_cons_succ]
        refine lin_loadG (by rfl) _ _ rfl gx 0 [Value.string (strOfNums x1), Value.string (strOfNums x2), Value.int .i64 x3, Value.string (strOfNums x4), Value.string (strOfNums x5)] [Value.string (strOfNums x1), Value.string (strOfNums x2), Value.int .i64 x3, Value.string (strOfNums x4), Value.string (strOfNums x5)] 25 (by rfl) _ Tryd.underlying25 rfl url_size (by rfl) (fun w' hw => hw.2) ?_
        simp only [Act.put, List.setIfInBounds_toArray, List.set_cons_zero, List.set_cons_succ]
        refine lin_act ?_
        refine wl_g (by rfl) ?_
        refine wl_call rfl _ _ _ (by go_simp) (ROW.out _ _ hR101) ?_
        rintro e whR102 ⟨rfl, hR102⟩
        refine ⟨_, rfl, LinPost.mk ⟨hR102.heap (.head _), hR102.heap (.tail _ (.tail _ (.tail _ (.head _))))⟩ ?_⟩
        simp only [Act.put, List.setIfInBounds_toArray, List.set_cons_zero, List.set_cons_succ]
        refine lin_act ?_
        refine wl_g (by rfl) ?_
        refine wl_call rfl _ _ _ (by go_simp) (ROX.out _ _ hR102) ?_
        rintro e whR103 ⟨rfl, hR103⟩
        refine ⟨_, rfl, LinPost.mk ⟨hR103.heap (.head _), hR103.heap (.tail _ (.tail _ (.tail _ (.head _))))⟩ ?_⟩
        simp only [Act.put, List.setIfInBounds_toArray, List.set_cons_zero, List.set_cons_succ]
        refine lin_g ?_ (by rfl) ?_ ?_; rotate_left 1; (focus (rintro w' -; go_simp; first | done | with_reducible rfl | (trace_state; fail)))
        simp only [Act.put, List.setIfInBounds_toArray, List.set_cons_zero, List.set_cons_succ]
        refine lin_q ?_ rfl ?_ ?_; rotate_left 1; (focus (rintro w' -; go_simp; first | done | with_reducible rfl | (trace_state; fail)))
        simp only [Act.put, List.setIfInBounds_toArray, List.set_cons_zero, List.set_cons_succ]
        refine lin_q ?_ rfl ?_ ?_; rotate_left 1; (focus (rintro w' -; go_simp; first | done | with_reducible rfl | (trace_state; fail)))
        simp only [Act.put, List.setIfInBounds_toArray, List.set_cons_zero, List.set_cons_succ]
        refine lin_act ?_
        refine wl_g (by rfl) ?_
        refine wl_call rfl _ _ _ (by go_simp) (wakes7_c HVV.out hR103) ?_
        rintro e whR104 ⟨rfl, hR104⟩
        refine ⟨_, rfl, LinPost.mk ⟨hR104.heap (.head _), hR104.heap (.tail _ (.tail _ (.tail _ (.head _))))⟩ ?_⟩
        simp only [Act.put, List.setIfInBounds_toArray, List.set_cons_zero, List.set_cons_succ]
        refine lin_q ?_ rfl ?_ ?_; rotate_left 1; (focus (rintro w' -; go_simp; first | done | with_reducible rfl | (trace_state; fail)))
        simp only [Act.put, List.setIfInBounds_toArray, List.set_cons_zero, List.set_cons_succ]
        refine lin_q ?_ rfl ?_ ?_; rotate_left 1; (focus (rintro w' -; go_simp; first | done | with_reducible rfl | (trace_state; fail)))
        simp only [Act.put, List.setIfInBounds_toArray, List.set_cons_zero, List.set_cons_succ]
        refine lin_nil ?_
        go_wp2
        go_ret
        exact hR104.yes rfl
set_option maxRecDepth 100000 in
theorem uRLSame_contract (H : Type) (enc : TypeId × Value → H) (W : World) (base : Nat) (args : Array Value) (ds gs : List (DataW H)) (before : List MemPlace)
    (hval : ∀ (j : Nat) t v, Tryd.f8.params[j]? = some t → args[j]? = some v → Value.okWide Tryd.prog W .any base t v)
    (hW : DataW.Whole enc Tryd.prog Tryd.f8.params.toList Rows.uRLSameSpec.vars false W args.toList ds gs before) (hsz : (DataW.weightsEach Tryd.prog (Tryd.f8.params.toList ++ (OpenSpec.ofChange Rows.uRLSameSpec).bare.plain.varTypes Tryd.prog) (ds ++ gs)).all (· ≤ reachBytes) = true) (hV0 : VarsOk W) :
    Calls Tryd.prog 8 args W fun e W' => ∃ v, e = .returned v ∧ Rows.uRLSameSpec.post enc Tryd.prog Tryd.f8 false true false false W args v W' := by
  have hW' := hW
  obtain ⟨p, q, hA0, hV, rfl, hfz, hnd⟩ := hW
  have hA : DataW.TrodAll enc Tryd.prog W 0 (fun _ => true) true Tryd.f8.params.toList args.toList ds p := hA0
  rw [Tryd.params8] at hA hval
  obtain ⟨v0, vs0, d0, ds0, p0, q0, hargs, rfl, rfl, h0, r0⟩ := trodAll_cons hA
  obtain ⟨v1, vs1, d1, ds1, p1, q1, rfl, rfl, rfl, h1, r1⟩ := trodAll_cons r0
  obtain ⟨v2, vs2, d2, ds2, p2, q2, rfl, rfl, rfl, h2, r2⟩ := trodAll_cons r1
  obtain ⟨v3, vs3, d3, ds3, p3, q3, rfl, rfl, rfl, h3, r3⟩ := trodAll_cons r2
  obtain ⟨rfl, rfl, rfl⟩ := trodAll_nil r3
  obtain rfl : args = #[v0, v1, v2, v3] := by cases args; simp_all
  obtain ⟨rfl, rfl⟩ := trodVars_none hV
  obtain ⟨a0, rfl, rfl, rfl, w0⟩ := open_int Tryd.underlying3 (hval 0 3 v0 rfl rfl) h0
  obtain ⟨a1, rfl, rfl, rfl, w1⟩ := open_int Tryd.underlying3 (hval 1 3 v1 rfl rfl) h1
  obtain ⟨a2, rfl, rfl, rfl, w2⟩ := open_int Tryd.underlying3 (hval 2 3 v2 rfl rfl) h2
  obtain ⟨a3, rfl, rfl, rfl, w3⟩ := open_string Tryd.underlying9 (hval 3 9 v3 rfl rfl) h3
  have z3 : a3.size ≤ 140737488351232 := string_reach hsz (j := 3) (t := 9) (by kernel_rfl) rfl
  clear hA0
  refine (uRLSame_walk hV0 a0 w0 a1 w1 a2 w2 a3 z3).mono fun e W' ⟨he, bel⟩ => ?_
  subst he
  exact ⟨_, rfl, _, _, _, [], _, [], hW', trodAll_mk1 (shut_bool Tryd.underlying4 _), (trodAll_cons_mk (shut_int Tryd.underlying3 w0) (trodAll_cons_mk (shut_int Tryd.underlying3 w1) (trodAll_cons_mk (shut_int Tryd.underlying3 w2) (trodAll_cons_mk (shut_string Tryd.underlying9 w3) trodAll_mk0)))), rfl, bel.frame _, fun h => by cases h⟩

theorem uRLSame_met (os : Os) : laidMet Tryd.prog Rows.uRLSameRow.laid ((laidWorld os).forCall (fun _ _ => 0) ⟨#[], #[.int .i64 0, .int .i64 0, .int .i64 0, .string .empty], []⟩).memory :=
  laidMet_of_run' 8 (by kernel_rfl) (by kernel_rfl)
theorem uRLSame_reads (os : Os) {H : Type} (enc : TypeId × Value → H) : ∃ places, DataW.whole enc Tryd.prog ((laidWorld os).forCall (fun _ _ => 0) ⟨#[], #[.int .i64 0, .int .i64 0, .int .i64 0, .string .empty], []⟩).memory Tryd.f8.params.toList Rows.uRLSameSpec.vars false (#[.int .i64 0, .int .i64 0, .int .i64 0, .string .empty] : Array Value).toList 8 = some ([.lit (.int .i64 0), .lit (.int .i64 0), .lit (.int .i64 0), .lit (.string [])], [], places) :=
  ⟨[], by kernel_rfl⟩
set_option maxRecDepth 100000 in
theorem uRLSame_lifted (os : Os) (started : os.Started) (H : Type) (enc : TypeId × Value → H) (F : Stop.Interp) :
    ReturnsInHanded {} Tryd.checked os 8 .any ((OpenSpec.ofChange Rows.uRLSameSpec).preRow enc Tryd.prog Tryd.f8 Rows.uRLSameRow.domain false Rows.uRLSameRow.laid) (((OpenSpec.ofChange Rows.uRLSameSpec).at F).post enc Tryd.prog Tryd.f8 false true false false) := by
  obtain ⟨places, hx⟩ := uRLSame_reads os enc
  refine returnsInHanded_of_row (C := Tryd.checked) (s := OpenSpec.ofChange Rows.uRLSameSpec) own_none started (by kernel_rfl) Tryd.func8
    (witness_row_at (enc := enc) (C := Tryd.checked) false (laidWorld os) #[.int .i64 0, .int .i64 0, .int .i64 0, .string .empty] rfl (by kernel_rfl) (by kernel_rfl) (by kernel_rfl)
      (OpenSpec.preRow_of_cond 8 hx (by kernel_rfl) (fun k hk => by cases hk) (by kernel_rfl) (uRLSame_met os))) ?_
  intro W base args ds gs before hval hW _ _ hsz hL hsh _
  exact uRLSame_contract H enc W base args ds gs before hval hW hsz (vars_of hL hsh)
theorem uRLSame_said : Rows.URLSameSaid :=
  OpenClaim.holds_of_cond 8 Tryd.f8 rfl rfl rfl rfl rfl rfl rfl ⟨rfl, rfl, rfl, rfl, rfl⟩ rfl rfl rfl rfl rfl (by kernel_rfl) Tryd.func8 (by kernel_rfl)
    (of_decide_eq_true (by kernel_rfl)) (by unfold Func.isWrapper; first | (rw [if_pos (by decide +kernel)]; kernel_rfl) | (rw [if_neg (by decide +kernel)]; exact ⟨rfl, rfl⟩))
    (fun os started H enc _ F => by rw [OpenClaim.pre_eq_preRow]; exact uRLSame_lifted os started H enc F)
theorem uRLSame_plain (f : FuncId) (fn : Func) (hf : Tryd.pinned.checked.prog.funcNamed "postilion/postilionlaw07.URLSame" = some f) (hfn : Tryd.pinned.checked.prog.funcs[f]? = some fn) :
    false = Tryd.pinned.checked.prog.looks [] ∧ ∀ (j : Nat) t, fn.params[j]? = some t → Tryd.pinned.checked.prog.wantsStandIn t = false := by
  obtain rfl : f = 8 := Option.some.inj ((show Tryd.prog.funcNamed "postilion/postilionlaw07.URLSame" = some 8 by kernel_rfl).symm.trans hf) |>.symm
  obtain rfl : fn = Tryd.f8 := (Option.some.inj (Tryd.func8.symm.trans hfn)).symm
  refine ⟨by kernel_rfl, fun j t ht => ?_⟩
  rw [Tryd.params8] at ht
  have hall : ∀ t ∈ ([3, 3, 3, 9] : List TypeId), Tryd.prog.wantsStandIn t = false := List.forall_mem_cons.2 ⟨by kernel_rfl, List.forall_mem_cons.2 ⟨by kernel_rfl, List.forall_mem_cons.2 ⟨by kernel_rfl, List.forall_mem_cons.2 ⟨by kernel_rfl, fun _ h => by cases h⟩⟩⟩⟩
  exact hall t (by simpa using Array.mem_of_getElem? ht)
/-- The statement: the card. -/
theorem uRLSame_proved : Rows.URLSameCardSaid :=
  Claim7.holds_tied_plain_at .later [] _ _ _ _ uRLSame_said (fun _ h => by cases h) (by kernel_rfl) (fun _ h => by cases h) uRLSame_row_tie rfl ⟨rfl, rfl⟩ (by kernel_rfl) rfl uRLSame_plain (by kernel_rfl)
end Go.Proofs.YtakihnmajgmnpaaDoor

