/-
  URLForms: whatever n: URLs by hand, texts that are none, URLs behind another one.
  Conditions: none but the row's own.
-/
import Derived.Test.YtakihnmajgmnpaaDoorL07b0
import Derived.Test.YtakihnmajgmnpaaDoorVars
namespace Go.Proofs.YtakihnmajgmnpaaDoor
set_option linter.unusedVariables false
set_option linter.unusedSimpArgs false
set_option maxRecDepth 20000
open Go.ChangeShapes Go.WideShapes Go.ChangeAt Go.RowKit
open Go.ChangeMaps (open_string shut_string)

def pv3 (ps : List (ByteArray × ByteArray × ByteArray)) : List Value := ps.flatMap fun p => [Value.string p.1, Value.string p.2.1, Value.string p.2.2]
def pv2 (ps : List (ByteArray × ByteArray)) : List Value := ps.flatMap fun p => [Value.string p.1, Value.string p.2]
def fvA : List (ByteArray × ByteArray × ByteArray) := [(⟨#[104, 116, 116, 112, 58, 47, 47, 97, 46, 98]⟩, ⟨#[104, 116, 116, 112, 58, 47, 47, 97, 46, 98, 47]⟩, ⟨#[104, 116, 116, 112, 58, 47, 47, 97, 46, 98]⟩), (⟨#[72, 84, 84, 80, 83, 58, 47, 47, 65, 46, 66, 58, 52, 52, 51, 47, 120]⟩, ⟨#[104, 116, 116, 112, 115, 58, 47, 47, 97, 46, 98, 47, 120]⟩, ⟨#[104, 116, 116, 112, 115, 58, 47, 47, 97, 46, 98]⟩), (⟨#[104, 116, 116, 112, 58, 47, 47, 97, 46, 98, 58, 52, 52, 51, 47]⟩, ⟨#[104, 116, 116, 112, 58, 47, 47, 97, 46, 98, 58, 52, 52, 51, 47]⟩, ⟨#[104, 116, 116, 112, 58, 47, 47, 97, 46, 98, 58, 52, 52, 51]⟩), (⟨#[32, 104, 116, 116, 112, 58, 47, 47, 97, 46, 98, 47, 195, 169, 63, 97, 32, 98, 35, 99, 32]⟩, ⟨#[104, 116, 116, 112, 58, 47, 47, 97, 46, 98, 47, 37, 67, 51, 37, 65, 57, 63, 97, 37, 50, 48, 98]⟩, ⟨#[104, 116, 116, 112, 58, 47, 47, 97, 46, 98]⟩), (⟨#[104, 116, 116, 112, 58, 47, 47, 97, 46, 98, 47, 97, 47, 46, 47, 98, 47, 46, 46, 47, 99]⟩, ⟨#[104, 116, 116, 112, 58, 47, 47, 97, 46, 98, 47, 97, 47, 99]⟩, ⟨#[104, 116, 116, 112, 58, 47, 47, 97, 46, 98]⟩), (⟨#[104, 116, 116, 112, 58, 47, 47, 97, 46, 98, 47, 97, 47, 46, 46]⟩, ⟨#[104, 116, 116, 112, 58, 47, 47, 97, 46, 98, 47]⟩, ⟨#[104, 116, 116, 112, 58, 47, 47, 97, 46, 98]⟩), (⟨#[104, 116, 116, 112, 58, 47, 47, 97, 46, 98, 47, 97, 47, 46]⟩, ⟨#[104, 116, 116, 112, 58, 47, 47, 97, 46, 98, 47, 97, 47]⟩, ⟨#[104, 116, 116, 112, 58, 47, 47, 97, 46, 98]⟩), (⟨#[104, 116, 116, 112, 58, 47, 47, 97, 46, 98, 47, 46, 46, 47, 46, 46, 47, 120]⟩, ⟨#[104, 116, 116, 112, 58, 47, 47, 97, 46, 98, 47, 120]⟩, ⟨#[104, 116, 116, 112, 58, 47, 47, 97, 46, 98]⟩), (⟨#[104, 116, 116, 112, 58, 47, 47, 97, 46, 98, 47, 97, 47, 47, 46, 46]⟩, ⟨#[104, 116, 116, 112, 58, 47, 47, 97, 46, 98, 47, 97, 47]⟩, ⟨#[104, 116, 116, 112, 58, 47, 47, 97, 46, 98]⟩), (⟨#[104, 116, 116, 112, 58, 47, 47, 97, 46, 98, 63]⟩, ⟨#[104, 116, 116, 112, 58, 47, 47, 97, 46, 98, 47]⟩, ⟨#[104, 116, 116, 112, 58, 47, 47, 97, 46, 98]⟩), (⟨#[104, 116, 116, 112, 58, 47, 47, 97, 46, 98, 63, 120, 35]⟩, ⟨#[104, 116, 116, 112, 58, 47, 47, 97, 46, 98, 47, 63, 120]⟩, ⟨#[104, 116, 116, 112, 58, 47, 47, 97, 46, 98]⟩), (⟨#[104, 116, 116, 112, 58, 47, 47, 97, 46, 98, 58, 48, 48, 56, 48, 47]⟩, ⟨#[104, 116, 116, 112, 58, 47, 47, 97, 46, 98, 47]⟩, ⟨#[104, 116, 116, 112, 58, 47, 47, 97, 46, 98]⟩), (⟨#[104, 116, 116, 112, 58, 47, 47, 97, 46, 98, 58, 48, 47]⟩, ⟨#[104, 116, 116, 112, 58, 47, 47, 97, 46, 98, 47]⟩, ⟨#[104, 116, 116, 112, 58, 47, 47, 97, 46, 98]⟩), (⟨#[104, 116, 116, 112, 58, 47, 47, 49, 45, 50, 46, 120, 47]⟩, ⟨#[104, 116, 116, 112, 58, 47, 47, 49, 45, 50, 46, 120, 47]⟩, ⟨#[104, 116, 116, 112, 58, 47, 47, 49, 45, 50, 46, 120]⟩)]
def fvJ : List (ByteArray × ByteArray) := [(⟨#[47, 122]⟩, ⟨#[104, 116, 116, 112, 115, 58, 47, 47, 97, 46, 98, 58, 56, 47, 122]⟩), (⟨#[47, 47, 99, 46, 100, 47, 101]⟩, ⟨#[104, 116, 116, 112, 115, 58, 47, 47, 99, 46, 100, 47, 101]⟩), (⟨#[104, 116, 116, 112, 58, 47, 47, 99, 46, 100]⟩, ⟨#[104, 116, 116, 112, 58, 47, 47, 99, 46, 100, 47]⟩), (⟨#[32, 47, 46, 46, 47, 113, 32]⟩, ⟨#[104, 116, 116, 112, 115, 58, 47, 47, 97, 46, 98, 58, 56, 47, 113]⟩)]
def fvB : List ByteArray := [⟨#[]⟩, ⟨#[97]⟩, ⟨#[104, 116, 116, 112, 58]⟩, ⟨#[104, 116, 116, 112, 58, 47, 97, 46, 98]⟩, ⟨#[104, 116, 116, 112, 58, 47, 47]⟩, ⟨#[104, 116, 116, 112, 58, 47, 47, 47, 120]⟩, ⟨#[102, 116, 112, 58, 47, 47, 97, 46, 98]⟩, ⟨#[104, 116, 116, 112, 58, 47, 47, 97, 46, 46, 98]⟩, ⟨#[104, 116, 116, 112, 58, 47, 47, 46, 97]⟩, ⟨#[104, 116, 116, 112, 58, 47, 47, 97, 46]⟩, ⟨#[104, 116, 116, 112, 58, 47, 47, 97, 95, 98]⟩, ⟨#[104, 116, 116, 112, 58, 47, 47, 117, 64, 97, 46, 98]⟩, ⟨#[104, 116, 116, 112, 58, 47, 47, 97, 46, 98, 58]⟩, ⟨#[104, 116, 116, 112, 58, 47, 47, 97, 46, 98, 58, 120]⟩, ⟨#[104, 116, 116, 112, 58, 47, 47, 97, 46, 98, 58, 54, 53, 53, 51, 54]⟩, ⟨#[104, 116, 116, 112, 58, 47, 47, 97, 46, 98, 58, 49, 50, 51, 52, 53, 54]⟩, ⟨#[104, 116, 116, 112, 58, 47, 47, 195, 169, 46, 98]⟩, ⟨#[104, 116, 116, 112, 58, 47, 47, 97, 32, 98, 47]⟩, ⟨#[104, 116, 116, 112, 115, 58, 47, 47, 49, 50, 51, 52, 53, 54, 55, 56, 57, 48, 49, 50, 51, 52, 53, 54, 55, 56, 57, 48, 49, 47]⟩, ⟨#[104, 116, 116, 112, 58, 47, 47, 97, 46, 98, 47, 49, 50, 51, 52, 53, 54, 55, 56, 57, 48, 49, 50, 51, 52, 53, 54, 55, 56, 57, 48, 49, 50, 51, 52, 53, 54, 55, 56, 57, 48]⟩, ⟨#[47, 47, 97, 46, 98]⟩, ⟨#[47, 120]⟩, ⟨#[104, 116, 116, 112, 32, 58, 47, 47, 97, 46, 98]⟩]
def tellI (o : Option UL) : Option (ByteArray × ByteArray) := o.map fun u => (strOfNums (printI u), strOfNums (originI u))
def baseS : ByteArray := ⟨#[104, 116, 116, 112, 115, 58, 47, 47, 97, 46, 98, 58, 56, 47, 120, 63, 121]⟩
def locS : ByteArray := ⟨#[104, 116, 116, 112, 58, 47, 47, 108, 111, 99, 97, 108, 104, 111, 115, 116, 58, 57, 47]⟩
theorem alloc_p3 (w : World) : (Instr.alloc 22 true (.tuple #[])).run Tryd.prog w = .ok (.pointer (some ⟨w.heap.size, 0, none⟩)) (w.alloc (.cells [Value.string ⟨#[]⟩, Value.string ⟨#[]⟩, Value.string ⟨#[]⟩].toArray 22)) := by kernel_rfl
theorem p3_size : (Tryd.prog.info? 22).map (·.size) = some 3 := by kernel_rfl
theorem one_p3 (a b c : ByteArray) : ∀ v ∈ [Value.string a, Value.string b, Value.string c], v.oneCell' = true := by
  intro v hv; simp at hv; rcases hv with rfl | rfl | rfl <;> rfl
theorem alloc_p2 (w : World) : (Instr.alloc 32 true (.tuple #[])).run Tryd.prog w = .ok (.pointer (some ⟨w.heap.size, 0, none⟩)) (w.alloc (.cells [Value.string ⟨#[]⟩, Value.string ⟨#[]⟩].toArray 32)) := by kernel_rfl
theorem p2_size : (Tryd.prog.info? 32).map (·.size) = some 2 := by kernel_rfl
theorem one_p2 (a b : ByteArray) : ∀ v ∈ [Value.string a, Value.string b], v.oneCell' = true := by
  intro v hv; simp at hv; rcases hv with rfl | rfl <;> rfl
theorem rowA (k : Nat) (hk : k < 14) : ∃ a b c : ByteArray, ((pv3 fvA).drop (k * 3)).take 3 = [Value.string a, Value.string b, Value.string c] ∧ tellI (parseI (sb a)) = some (b, c) ∧ a.size ≤ 60 := by
  match k, hk with
  | 0, _ => exact ⟨_, _, _, rfl, by decide +kernel, by decide +kernel⟩
  | 1, _ => exact ⟨_, _, _, rfl, by decide +kernel, by decide +kernel⟩
  | 2, _ => exact ⟨_, _, _, rfl, by decide +kernel, by decide +kernel⟩
  | 3, _ => exact ⟨_, _, _, rfl, by decide +kernel, by decide +kernel⟩
  | 4, _ => exact ⟨_, _, _, rfl, by decide +kernel, by decide +kernel⟩
  | 5, _ => exact ⟨_, _, _, rfl, by decide +kernel, by decide +kernel⟩
  | 6, _ => exact ⟨_, _, _, rfl, by decide +kernel, by decide +kernel⟩
  | 7, _ => exact ⟨_, _, _, rfl, by decide +kernel, by decide +kernel⟩
  | 8, _ => exact ⟨_, _, _, rfl, by decide +kernel, by decide +kernel⟩
  | 9, _ => exact ⟨_, _, _, rfl, by decide +kernel, by decide +kernel⟩
  | 10, _ => exact ⟨_, _, _, rfl, by decide +kernel, by decide +kernel⟩
  | 11, _ => exact ⟨_, _, _, rfl, by decide +kernel, by decide +kernel⟩
  | 12, _ => exact ⟨_, _, _, rfl, by decide +kernel, by decide +kernel⟩
  | 13, _ => exact ⟨_, _, _, rfl, by decide +kernel, by decide +kernel⟩
theorem rowB (k : Nat) (hk : k < 23) : ∃ a : ByteArray, (fvB.map Value.string)[k]? = some (Value.string a) ∧ parseI (sb a) = none ∧ a.size ≤ 60 := by
  have h : ∀ s ∈ fvB, (parseI (sb s)).isNone = true ∧ s.size ≤ 60 := by decide +kernel
  have hl : k < fvB.length := hk
  have h1 := h _ (List.getElem_mem hl)
  exact ⟨fvB[k], by simp [hl], Option.isNone_iff_eq_none.1 h1.1, h1.2⟩
theorem base_is : ∃ u, parseI (sb baseS) = some u ∧ u.Fine ∧ secureI u = true ∧ joinI u (sb ⟨#[122]⟩) = none ∧ joinI u (sb ⟨#[]⟩) = none ∧ (∀ k, k < 4 → ∃ a b : ByteArray, ((pv2 fvJ).drop (k * 2)).take 2 = [Value.string a, Value.string b] ∧ (∃ v, joinI u (sb a) = some v ∧ v.Fine ∧ strOfNums (printI v) = b) ∧ a.size ≤ 60) ∧
    (∃ l, parseI (sb locS) = some l ∧ l.Fine ∧ secureI l = true ∧ decide (originI u = originI l) = false) := by
  have h0 : (parseI (sb baseS)).isSome = true := by decide +kernel
  obtain ⟨u, hu⟩ := Option.isSome_iff_exists.1 h0
  have hf := parseI_fine (byt_sb _) hu
  have h1 : (parseI (sb locS)).isSome = true := by decide +kernel
  obtain ⟨l, hl⟩ := Option.isSome_iff_exists.1 h1
  have hlf := parseI_fine (byt_sb _) hl
  have g1 : (parseI (sb baseS)).all (fun u => secureI u && (joinI u (sb ⟨#[122]⟩)).isNone && (joinI u (sb ⟨#[]⟩)).isNone) = true := by decide +kernel
  rw [hu] at g1
  simp only [Option.all_some, Bool.and_eq_true, Option.isNone_iff_eq_none] at g1
  have g2 : (parseI (sb locS)).all (fun l => secureI l && (parseI (sb baseS)).all (fun u => !decide (originI u = originI l))) = true := by decide +kernel
  rw [hu, hl] at g2
  simp only [Option.all_some, Bool.and_eq_true, Bool.not_eq_true'] at g2
  have gj : ∀ p ∈ fvJ, (parseI (sb baseS)).all (fun u => decide ((tellI (joinI u (sb p.1))).map Prod.fst = some p.2)) = true := by decide +kernel
  have key : ∀ a b : ByteArray, (a, b) ∈ fvJ → ∃ v, joinI u (sb a) = some v ∧ v.Fine ∧ strOfNums (printI v) = b := by
    intro a b hm
    have h := gj _ hm
    rw [hu] at h
    simp only [Option.all_some, decide_eq_true_iff] at h
    unfold tellI at h
    rw [Option.map_map, Option.map_eq_some_iff] at h
    obtain ⟨v, hv, he⟩ := h
    refine ⟨v, hv, ?_, he⟩
    unfold joinI at hv
    have hT : Byt (trimI (sb a)) := fun x hx => byt_sb a x ((trimI_sub _).subset hx)
    split at hv
    · exact parseI_fine (byt_append (byt_append hf.schB (by intro x hx; simp at hx; omega)) hT) hv
    · split at hv
      · exact parseI_fine (byt_append (originI_byt hf) hT) hv
      · exact parseI_fine hT hv
  refine ⟨u, hu, hf, g1.1.1, g1.1.2, g1.2, fun k hk => ?_, l, hl, hlf, g2.1, g2.2⟩
  match k, hk with
  | 0, _ => exact ⟨_, _, rfl, key _ _ (by simp [fvJ]), by decide +kernel⟩
  | 1, _ => exact ⟨_, _, rfl, key _ _ (by simp [fvJ]), by decide +kernel⟩
  | 2, _ => exact ⟨_, _, rfl, key _ _ (by simp [fvJ]), by decide +kernel⟩
  | 3, _ => exact ⟨_, _, rfl, key _ _ (by simp [fvJ]), by decide +kernel⟩
set_option maxRecDepth 100000 in
set_option maxHeartbeats 16000000 in
theorem uRLForms_walk {W : World} (hV : VarsOk W) (a0 : Int) (_ : (Lit.int .i64 a0).wf = true) : Calls Tryd.prog 3 #[.int .i64 a0] W (Yes W) := by
  have HO := Lib.hid (Own.start W)
  have HVV := Lib.hid hV
  clear hV
  go_enter Tryd.func3, Tryd.ntmps3
  go_wp2_with fail
  have HO1 := Lib.hid (HO.out.alloc (.cells (pv3 fvA).toArray 22))
  clear HO
  go_loopw [38] (fun t w' => ∃ k : Nat, k ≤ 14 ∧ t = .int .i64 k ∧ Hid (Own W w' [(W.heap.size, .cells (pv3 fvA).toArray 22)])) (fun t _ => 14 - (intOf t).toNat)
  case atStart => exact ⟨0, by omega, rfl, HO1.out⟩
  case round =>
    obtain ⟨k, hk, rfl, HO2⟩ := hrel
    clear HO1
    by_cases hlt : k < 14
    · obtain ⟨a, b, c, hrow, htell, has⟩ := rowA k hlt
      unfold tellI at htell
      rw [Option.map_eq_some_iff] at htell
      obtain ⟨u, hpu, hte⟩ := htell
      have hF := parseI_fine (byt_sb _) hpu
      have p1 : ∀ (w' : World) (R' : Blks), Own W w' R' → _ := fun w' R' h => uparse_c HVV.out h a (by omega)
      rw [hpu] at p1
      have p2 : ∀ (w' : World) (R' : Blks), Own W w' R' → _ := fun w' R' h => uprint_c HVV.out h u hF
      have p3 : ∀ (w' : World) (R' : Blks), Own W w' R' → _ := fun w' R' h => uorigin_c HVV.out h u hF.half
      rw [(Prod.mk.inj hte).1] at p2
      rw [(Prod.mk.inj hte).2] at p3
      obtain ⟨u1, u2, u3, u4, u5⟩ := u
      simp only [Option.getD_some, Option.isSome_some, UL.val] at p1 p2 p3
      have P1 := Lib.hid p1; have P2 := Lib.hid p2; have P3 := Lib.hid p3; have HROW := Lib.hid hrow
      clear hrow hpu hte hF p1 p2 p3 has
      have hk14 : (k : Int) < 14 := by omega
      go_wp2_with (first | (refine wl_load rfl _ _ rfl W.heap.size (k * 3) (pv3 fvA) [Value.string a, Value.string b, Value.string c] _ (HO2.out.heap (.head _)) (by rfl) _ Tryd.underlying22 rfl p3_size HROW.out ?_) | (refine wl_alloc rfl _ rfl HO2.out _ (alloc_p3 _) ?_; intro g4 w11 hO11; have HO11 := Lib.hid hO11; clear hO11 HO2) | (refine wl_store rfl _ _ _ rfl HO11.out 0 g4 0 _ [Value.string a, Value.string b, Value.string c] _ rfl (by rfl) (by rfl) p3_size (one_p3 _ _ _) (by simp) ?_; intro w12 hO12; have HO12 := Lib.hid (hO12.cast (L' := [(g4, .cells [Value.string a, Value.string b, Value.string c].toArray 22), (W.heap.size, .cells (pv3 fvA).toArray 22)]) rfl); have hc0 : w12.cell? ⟨g4, 0, none⟩ = some (.string a) := (by rw [HO12.out.cell (.head _)]; rfl); clear hO12 HO11))
      with_reducible refine (P1.out _ _ HO12.out).mono ?_
      rintro e w13 ⟨rfl, hO⟩
      have HO13 := Lib.hid hO; clear hO HO12 hc0 P1
      simp only [Option.getD_some, Option.isSome_some, UL.val]
      go_wp2_with (first | (refine wl_alloc rfl _ rfl HO13.out _ (alloc_url _) ?_; intro g5 w14 hO; have HO14 := Lib.hid hO; clear hO HO13) | (refine wl_store rfl _ _ _ rfl HO14.out 0 g5 0 _ [Value.string (strOfNums u1), Value.string (strOfNums u2), Value.int .i64 u3, Value.string (strOfNums u4), Value.string (strOfNums u5)] _ rfl (by rfl) (by rfl) url_size (one_url ⟨u1, u2, u3, u4, u5⟩) (by simp [UL.val, UL.zero]) ?_; intro w15 hO; have HO15 := Lib.hid (hO.cast (L' := [(g5, .cells [Value.string (strOfNums u1), Value.string (strOfNums u2), Value.int .i64 u3, Value.string (strOfNums u4), Value.string (strOfNums u5)].toArray 25), (g4, .cells [Value.string a, Value.string b, Value.string c].toArray 22), (W.heap.size, .cells (pv3 fvA).toArray 22)]) rfl); clear hO HO14))
      refine wp_region_lin (fun w' => w'.heap[g5]? = some (.cells [Value.string (strOfNums u1), Value.string (strOfNums u2), Value.int .i64 u3, Value.string (strOfNums u4), Value.string (strOfNums u5)].toArray 25) ∧ w'.heap[g4]? = some (.cells [Value.string a, Value.string b, Value.string c].toArray 22)) 16 [(0, true), (1, true), (2, true), (3, true), (5, true), (6, true), (4, false), (7, true), (8, true), (9, true), (10, true), (12, true), (13, true), (11, false), (14, true), (15, true)] (by kernel_rfl) (by kernel_rfl) (fun _ _ d _ _ h => by cases d <;> exact h) ⟨HO15.out.drew.heap (.head _), HO15.out.drew.heap (.tail _ (.head _))⟩ ?_
      simp only [List.map_cons, List.map_nil, pick_zero, pick_succ, List.drop_succ_cons, List.drop_zero]
      refine lin_q ?_ rfl ?_ ?_; rotate_left 1; (focus (rintro w' -; go_simp; first | done | with_reducible rfl | (trace_state; fail)))
      simp only [Act.put, List.setIfInBounds_toArray, List.set_cons_zero, List.set_cons_succ]
      refine lin_q ?_ rfl ?_ ?_; rotate_left 1; (focus (rintro w' -; go_simp; first | done | with_reducible rfl | (trace_state; fail)))
      simp only [Act.put, List.setIfInBounds_toArray, List.set_cons_zero, List.set_cons_succ]
      refine lin_q ?_ rfl ?_ ?_; rotate_left 1; (focus (rintro w' -; go_simp; first | done | with_reducible rfl | (trace_state; fail)))
      simp only [Act.put, List.setIfInBounds_toArray, List.set_cons_zero, List.set_cons_succ]
      refine lin_loadG (by rfl) _ _ rfl g5 0 [Value.string (strOfNums u1), Value.string (strOfNums u2), Value.int .i64 u3, Value.string (strOfNums u4), Value.string (strOfNums u5)] [Value.string (strOfNums u1), Value.string (strOfNums u2), Value.int .i64 u3, Value.string (strOfNums u4), Value.string (strOfNums u5)] 25 (by rfl) _ Tryd.underlying25 rfl url_size (by rfl) (fun w' hw => hw.1) ?_
      simp only [Act.put, List.setIfInBounds_toArray, List.set_cons_zero, List.set_cons_succ]
      refine lin_g ?_ (by rfl) ?_ ?_; rotate_left 1; (focus (rintro w' -; go_simp; first | done | with_reducible rfl | (trace_state; fail)))
      simp only [Act.put, List.setIfInBounds_toArray, List.set_cons_zero, List.set_cons_succ]
      refine lin_g ?_ (by rfl) ?_ ?_; rotate_left 1; (focus (rintro w' hw; have k0 : w'.cell? ⟨g4, 1, none⟩ = some (.string b) := (by rw [cell_of_row w' g4 1 _ _ (0, 0) hw.2]; rfl); clear hw; go_simp; first | done | with_reducible rfl | (trace_state; fail)))
      simp only [Act.put, List.setIfInBounds_toArray, List.set_cons_zero, List.set_cons_succ]
      refine lin_act ?_
      refine wl_g (by rfl) ?_
      refine wl_call rfl _ _ _ (by go_simp) (P2.out _ _ HO15.out.drew) ?_
      rintro e whR1 ⟨rfl, hR1⟩
      refine ⟨_, rfl, LinPost.mk ⟨hR1.heap (.head _), hR1.heap (.tail _ (.head _))⟩ ?_⟩
      simp only [Act.put, List.setIfInBounds_toArray, List.set_cons_zero, List.set_cons_succ]
      refine lin_g ?_ (by rfl) ?_ ?_; rotate_left 1; (focus (rintro w' -; go_simp; first | done | with_reducible rfl | (trace_state; fail)))
      simp only [Act.put, List.setIfInBounds_toArray, List.set_cons_zero, List.set_cons_succ]
      refine lin_q ?_ rfl ?_ ?_; rotate_left 1; (focus (rintro w' -; go_simp; first | done | with_reducible rfl | (trace_state; fail)))
      simp only [Act.put, List.setIfInBounds_toArray, List.set_cons_zero, List.set_cons_succ]
      refine lin_q ?_ rfl ?_ ?_; rotate_left 1; (focus (rintro w' -; go_simp; first | done | with_reducible rfl | (trace_state; fail)))
      simp only [Act.put, List.setIfInBounds_toArray, List.set_cons_zero, List.set_cons_succ]
      refine lin_loadG (by rfl) _ _ rfl g5 0 [Value.string (strOfNums u1), Value.string (strOfNums u2), Value.int .i64 u3, Value.string (strOfNums u4), Value.string (strOfNums u5)] [Value.string (strOfNums u1), Value.string (strOfNums u2), Value.int .i64 u3, Value.string (strOfNums u4), Value.string (strOfNums u5)] 25 (by rfl) _ Tryd.underlying25 rfl url_size (by rfl) (fun w' hw => hw.1) ?_
      simp only [Act.put, List.setIfInBounds_toArray, List.set_cons_zero, List.set_cons_succ]
      refine lin_g ?_ (by rfl) ?_ ?_; rotate_left 1; (focus (rintro w' -; go_simp; first | done | with_reducible rfl | (trace_state; fail)))
      simp only [Act.put, List.setIfInBounds_toArray, List.set_cons_zero, List.set_cons_succ]
      refine lin_g ?_ (by rfl) ?_ ?_; rotate_left 1; (focus (rintro w' hw; have k0 : w'.cell? ⟨g4, 2, none⟩ = some (.string c) := (by rw [cell_of_row w' g4 2 _ _ (0, 0) hw.2]; rfl); clear hw; go_simp; first | done | with_reducible rfl | (trace_state; fail)))
      simp only [Act.put, List.setIfInBounds_toArray, List.set_cons_zero, List.set_cons_succ]
      refine lin_act ?_
      refine wl_g (by rfl) ?_
      refine wl_call rfl _ _ _ (by go_simp) (P3.out _ _ hR1) ?_
      rintro e whR2 ⟨rfl, hR2⟩
      refine ⟨_, rfl, LinPost.mk ⟨hR2.heap (.head _), hR2.heap (.tail _ (.head _))⟩ ?_⟩
      simp only [Act.put, List.setIfInBounds_toArray, List.set_cons_zero, List.set_cons_succ]
      refine lin_g ?_ (by rfl) ?_ ?_; rotate_left 1; (focus (rintro w' -; go_simp; first | done | with_reducible rfl | (trace_state; fail)))
      simp only [Act.put, List.setIfInBounds_toArray, List.set_cons_zero, List.set_cons_succ]
      refine lin_q ?_ rfl ?_ ?_; rotate_left 1; (focus (rintro w' -; go_simp; first | done | with_reducible rfl | (trace_state; fail)))
      simp only [Act.put, List.setIfInBounds_toArray, List.set_cons_zero, List.set_cons_succ]
      refine lin_nil ?_
      have HO20 := Lib.hid hR2.tail.tail
      clear HO15 P2 P3 hR2
      go_wp2
      go_roundw
      case rel => exact ⟨k + 1, by omega, by go_num, HO20.out⟩
      case measure => simp [intOf]; omega
    · have hk14 : ¬ ((k : Int) < 14) := by omega
      have HO3 := Lib.hid HO2.out.tail
      clear HO2
      have hj : (a0 % 23).toNat < 23 := by omega
      obtain ⟨a, hrow, hno, has⟩ := rowB (a0 % 23).toNat hj
      obtain ⟨bu, hbp, hbF, hbS, hj1, hj2, hjr, lu, hlp, hlF, hlS, hbl⟩ := base_is
      have p1 : ∀ (w' : World) (R' : Blks), Own W w' R' → _ := fun w' R' h => uparse_c HVV.out h a (by omega)
      rw [hno] at p1
      have p2 : ∀ (w' : World) (R' : Blks), Own W w' R' → _ := fun w' R' h => uparse_c HVV.out h baseS (by decide +kernel)
      rw [hbp] at p2
      have p3 : ∀ (w' : World) (R' : Blks), Own W w' R' → _ := fun w' R' h => uparse_c HVV.out h locS (by decide +kernel)
      rw [hlp] at p3
      have q1 : ∀ (w' : World) (R' : Blks), Own W w' R' → _ := fun w' R' h => ujoin_c HVV.out h bu hbF.half ⟨#[122]⟩ (by decide +kernel)
      rw [hj1] at q1
      have q2 : ∀ (w' : World) (R' : Blks), Own W w' R' → _ := fun w' R' h => ujoin_c HVV.out h bu hbF.half ⟨#[]⟩ (by decide +kernel)
      rw [hj2] at q2
      have q3 : ∀ (w' : World) (R' : Blks), Own W w' R' → _ := fun w' R' h => usecure_c h bu hbF.half
      have q4 : ∀ (w' : World) (R' : Blks), Own W w' R' → _ := fun w' R' h => usecure_c h lu hlF.half
      have q5 : ∀ (w' : World) (R' : Blks), Own W w' R' → _ := fun w' R' h => usame_c HVV.out h bu lu hbF.half hlF.half
      rw [hbS] at q3; rw [hlS] at q4; rw [hbl] at q5
      have hjr2 : ∀ k, k < 4 → ∃ a b : ByteArray, ((pv2 fvJ).drop (k * 2)).take 2 = [Value.string a, Value.string b] ∧ ∃ v : UL, (∀ (w' : World) (R' : Blks), Own W w' R' → Calls Tryd.prog 13 #[.agg bu.val.toArray, .string a] w' (GotE W R' (some v))) ∧ (∀ (w' : World) (R' : Blks), Own W w' R' → Calls Tryd.prog 10 #[.agg v.val.toArray] w' fun e w'' => e = .returned (.string b) ∧ Own W w'' R') := by
        intro k hk
        obtain ⟨a, b, h1, ⟨v, h2, h3, h4⟩, h5⟩ := hjr k hk
        refine ⟨a, b, h1, v, fun w' R' h => ?_, fun w' R' h => ?_⟩
        · have := ujoin_c HVV.out h bu hbF.half a (by omega)
          rwa [h2] at this
        · have := uprint_c HVV.out h v h3
          rwa [h4] at this
      obtain ⟨b1, b2, b3, b4, b5⟩ := bu
      obtain ⟨l1, l2, l3, l4, l5⟩ := lu
      simp only [Option.getD_some, Option.isSome_some, Option.getD_none, Option.isSome_none, UL.val, baseS, locS] at p1 p2 p3 q1 q2 q3 q4 q5
      have P1 := Lib.hid p1; have P2 := Lib.hid p2; have P3 := Lib.hid p3; have Q1 := Lib.hid q1; have Q2 := Lib.hid q2; have Q3 := Lib.hid q3; have Q4 := Lib.hid q4; have Q5 := Lib.hid q5; have HJR := Lib.hid hjr2
      clear hno hbp hbF hbS hj1 hj2 hjr hlp hlF hlS hbl p1 p2 p3 q1 q2 q3 q4 q5 hjr2 has
      generalize hjj : (a0 % 23).toNat = j at *
      go_wp2_with fail
      generalize hwx : wr.alloc _ = wx
      have hO7 : Own W wx [(wr.heap.size, .cells (fvB.map Value.string).toArray 9)] := by rw [← hwx]; exact HO3.out.alloc (.cells (fvB.map Value.string).toArray 9)
      have HO7 := Lib.hid hO7
      clear hwx hO7
      have hwn := within_n (w := wx) a0 23 (by omega) (by omega)
      rw [hjj] at hwn
      with_reducible refine hwn.mono ?_
      rintro en w20 ⟨rfl, hww⟩
      subst hww
      have hc7 : wx.cell? ⟨wr.heap.size, j, none⟩ = some (.string a) := by rw [HO7.out.cell (.head _), List.getElem?_toArray]; exact hrow
      have HO8 := Lib.hid HO7.out
      have hj7 : (j : Int) < 23 := by omega
      clear hwn HO7 HO3 hrow hjj
      go_wp2_with fail
      with_reducible refine (P1.out _ _ HO8.out).mono ?_
      rintro e w21 ⟨rfl, hO⟩
      have HO9 := Lib.hid hO.tail; clear hO HO8 hc7 P1
      simp only [Option.getD_none, Option.isSome_none, UL.val, UL.zero, str_nil]
      go_wp2_with (first | (refine wl_alloc rfl _ rfl HO9.out _ (alloc_url _) ?_; intro g8 w22 hO; have HO10 := Lib.hid hO; clear hO HO9) | (refine wl_store rfl _ _ _ rfl HO10.out 0 g8 0 _ [Value.string ⟨#[]⟩, Value.string ⟨#[]⟩, Value.int .i64 0, Value.string ⟨#[]⟩, Value.string ⟨#[]⟩] _ rfl (by rfl) (by rfl) url_size (one_url UL.zero) (by simp [UL.val, UL.zero]) ?_; intro w23 hO; have HO11 := Lib.hid (hO.cast (L' := [(g8, .cells [Value.string ⟨#[]⟩, Value.string ⟨#[]⟩, Value.int .i64 0, Value.string ⟨#[]⟩, Value.string ⟨#[]⟩].toArray 25)]) rfl); clear hO HO10) | (refine wl_g (by rfl) ?_; refine wl_load rfl _ _ rfl g8 0 [Value.string ⟨#[]⟩, Value.string ⟨#[]⟩, Value.int .i64 0, Value.string ⟨#[]⟩, Value.string ⟨#[]⟩] [Value.string ⟨#[]⟩, Value.string ⟨#[]⟩, Value.int .i64 0, Value.string ⟨#[]⟩, Value.string ⟨#[]⟩] _ (HO11.out.heap (.head _)) (by rfl) _ Tryd.underlying25 rfl url_size (by rfl) ?_))
      with_reducible refine (P2.out _ _ HO11.out.tail).mono ?_
      rintro e w24 ⟨rfl, hO⟩
      have HO12 := Lib.hid hO; clear hO HO11 P2
      simp only [Option.getD_some, Option.isSome_some, UL.val]
      go_wp2_with (first | (refine wl_alloc rfl _ rfl HO12.out _ (alloc_url _) ?_; intro g10 w25 hO; have HO13 := Lib.hid hO; clear hO HO12) | (refine wl_store rfl _ _ _ rfl HO13.out 0 g10 0 _ [Value.string (strOfNums b1), Value.string (strOfNums b2), Value.int .i64 b3, Value.string (strOfNums b4), Value.string (strOfNums b5)] _ rfl (by rfl) (by rfl) url_size (one_url ⟨b1, b2, b3, b4, b5⟩) (by simp [UL.val, UL.zero]) ?_; intro w26 hO; have HO14 := Lib.hid (hO.cast (L' := [(g10, .cells [Value.string (strOfNums b1), Value.string (strOfNums b2), Value.int .i64 b3, Value.string (strOfNums b4), Value.string (strOfNums b5)].toArray 25)]) rfl); clear hO HO13))
      have HO15 := Lib.hid (HO14.out.alloc (.cells (pv2 fvJ).toArray 32))
      clear HO14
      go_loopw [94] (fun t w' => ∃ q : Nat, q ≤ 4 ∧ t = .int .i64 q ∧ Hid (Own W w' [(w26.heap.size, .cells (pv2 fvJ).toArray 32), (g10, .cells [Value.string (strOfNums b1), Value.string (strOfNums b2), Value.int .i64 b3, Value.string (strOfNums b4), Value.string (strOfNums b5)].toArray 25)])) (fun t _ => 4 - (intOf t).toNat)
      case atStart => exact ⟨0, by omega, rfl, HO15.out⟩
      case round =>
        obtain ⟨q, hq, rfl, HO16⟩ := hrel
        clear HO15
        by_cases hlt4 : q < 4
        · obtain ⟨sa, sb', hrow, v, hjoin, hprint⟩ := HJR.out q hlt4
          obtain ⟨v1, v2, v3, v4, v5⟩ := v
          simp only [UL.val] at hjoin hprint
          have HROW := Lib.hid hrow; have HJ := Lib.hid hjoin; have HP := Lib.hid hprint
          clear hrow hjoin hprint
          have hq4 : (q : Int) < 4 := by omega
          go_wp2_with (first | (refine wl_load rfl _ _ rfl _ (q * 2) (pv2 fvJ) [Value.string sa, Value.string sb'] _ (HO16.out.heap (.head _)) (by rfl) _ Tryd.underlying32 rfl p2_size HROW.out ?_) | (refine wl_alloc rfl _ rfl HO16.out _ (alloc_p2 _) ?_; intro g13 w31 hO; have HO17 := Lib.hid hO; clear hO HO16) | (refine wl_store rfl _ _ _ rfl HO17.out 0 g13 0 _ [Value.string sa, Value.string sb'] _ rfl (by rfl) (by rfl) p2_size (one_p2 _ _) (by simp) ?_; intro w32 hO; have HO18 := Lib.hid (hO.cast (L' := [(g13, .cells [Value.string sa, Value.string sb'].toArray 32), (w26.heap.size, .cells (pv2 fvJ).toArray 32), (g10, .cells [Value.string (strOfNums b1), Value.string (strOfNums b2), Value.int .i64 b3, Value.string (strOfNums b4), Value.string (strOfNums b5)].toArray 25)]) rfl); have hc0 : w32.cell? ⟨g13, 0, none⟩ = some (.string sa) := (by rw [HO18.out.cell (.head _)]; rfl); clear hO HO17) | (refine wl_load rfl _ _ rfl g10 0 [Value.string (strOfNums b1), Value.string (strOfNums b2), Value.int .i64 b3, Value.string (strOfNums b4), Value.string (strOfNums b5)] [Value.string (strOfNums b1), Value.string (strOfNums b2), Value.int .i64 b3, Value.string (strOfNums b4), Value.string (strOfNums b5)] _ (HO18.out.heap (.tail _ (.tail _ (.head _)))) (by rfl) _ Tryd.underlying25 rfl url_size (by rfl) ?_))
          with_reducible refine (HJ.out _ _ HO18.out).mono ?_
          rintro e w33 ⟨rfl, hO⟩
          have HO19 := Lib.hid hO; clear hO HO18 hc0 HJ
          simp only [Option.getD_some, Option.isSome_some, UL.val]
          go_wp2_with (first | (refine wl_alloc rfl _ rfl HO19.out _ (alloc_url _) ?_; intro g14 w34 hO; have HO20 := Lib.hid hO; clear hO HO19) | (refine wl_store rfl _ _ _ rfl HO20.out 0 g14 0 _ [Value.string (strOfNums v1), Value.string (strOfNums v2), Value.int .i64 v3, Value.string (strOfNums v4), Value.string (strOfNums v5)] _ rfl (by rfl) (by rfl) url_size (one_url ⟨v1, v2, v3, v4, v5⟩) (by simp [UL.val, UL.zero]) ?_; intro w35 hO; have HO21 := Lib.hid (hO.cast (L' := [(g14, .cells [Value.string (strOfNums v1), Value.string (strOfNums v2), Value.int .i64 v3, Value.string (strOfNums v4), Value.string (strOfNums v5)].toArray 25), (g13, .cells [Value.string sa, Value.string sb'].toArray 32), (w26.heap.size, .cells (pv2 fvJ).toArray 32), (g10, .cells [Value.string (strOfNums b1), Value.string (strOfNums b2), Value.int .i64 b3, Value.string (strOfNums b4), Value.string (strOfNums b5)].toArray 25)]) rfl); clear hO HO20))
          refine wp_region_lin (fun w' => w'.heap[g14]? = some (.cells [Value.string (strOfNums v1), Value.string (strOfNums v2), Value.int .i64 v3, Value.string (strOfNums v4), Value.string (strOfNums v5)].toArray 25) ∧ w'.heap[g13]? = some (.cells [Value.string sa, Value.string sb'].toArray 32)) 9 [(0, true), (1, true), (2, true), (3, true), (5, true), (6, true), (4, false), (7, true), (8, true)] (by kernel_rfl) (by kernel_rfl) (fun _ _ d _ _ h => by cases d <;> exact h) ⟨HO21.out.drew.heap (.head _), HO21.out.drew.heap (.tail _ (.head _))⟩ ?_
          simp only [List.map_cons, List.map_nil, pick_zero, pick_succ, List.drop_succ_cons, List.drop_zero]
          refine lin_q ?_ rfl ?_ ?_; rotate_left 1; (focus (rintro w' -; go_simp; first | done | with_reducible rfl | (trace_state; fail)))
          simp only [Act.put, List.setIfInBounds_toArray, List.set_cons_zero, List.set_cons_succ]
          refine lin_q ?_ rfl ?_ ?_; rotate_left 1; (focus (rintro w' -; go_simp; first | done | with_reducible rfl | (trace_state; fail)))
          simp only [Act.put, List.setIfInBounds_toArray, List.set_cons_zero, List.set_cons_succ]
          refine lin_q ?_ rfl ?_ ?_; rotate_left 1; (focus (rintro w' -; go_simp; first | done | with_reducible rfl | (trace_state; fail)))
          simp only [Act.put, List.setIfInBounds_toArray, List.set_cons_zero, List.set_cons_succ]
          refine lin_loadG (by rfl) _ _ rfl g14 0 [Value.string (strOfNums v1), Value.string (strOfNums v2), Value.int .i64 v3, Value.string (strOfNums v4), Value.string (strOfNums v5)] [Value.string (strOfNums v1), Value.string (strOfNums v2), Value.int .i64 v3, Value.string (strOfNums v4), Value.string (strOfNums v5)] 25 (by rfl) _ Tryd.underlying25 rfl url_size (by rfl) (fun w' hw => hw.1) ?_
          simp only [Act.put, List.setIfInBounds_toArray, List.set_cons_zero, List.set_cons_succ]
          refine lin_g ?_ (by rfl) ?_ ?_; rotate_left 1; (focus (rintro w' -; go_simp; first | done | with_reducible rfl | (trace_state; fail)))
          simp only [Act.put, List.setIfInBounds_toArray, List.set_cons_zero, List.set_cons_succ]
          refine lin_g ?_ (by rfl) ?_ ?_; rotate_left 1; (focus (rintro w' hw; have k0 : w'.cell? ⟨g13, 1, none⟩ = some (.string sb') := (by rw [cell_of_row w' g13 1 _ _ (0, 0) hw.2]; rfl); clear hw; go_simp; first | done | with_reducible rfl | (trace_state; fail)))
          simp only [Act.put, List.setIfInBounds_toArray, List.set_cons_zero, List.set_cons_succ]
          refine lin_act ?_
          refine wl_g (by rfl) ?_
          refine wl_call rfl _ _ _ (by go_simp) (HP.out _ _ HO21.out.drew) ?_
          rintro e whR51 ⟨rfl, hR51⟩
          refine ⟨_, rfl, LinPost.mk ⟨hR51.heap (.head _), hR51.heap (.tail _ (.head _))⟩ ?_⟩
          simp only [Act.put, List.setIfInBounds_toArray, List.set_cons_zero, List.set_cons_succ]
          refine lin_g ?_ (by rfl) ?_ ?_; rotate_left 1; (focus (rintro w' -; go_simp; first | done | with_reducible rfl | (trace_state; fail)))
          simp only [Act.put, List.setIfInBounds_toArray, List.set_cons_zero, List.set_cons_succ]
          refine lin_q ?_ rfl ?_ ?_; rotate_left 1; (focus (rintro w' -; go_simp; first | done | with_reducible rfl | (trace_state; fail)))
          simp only [Act.put, List.setIfInBounds_toArray, List.set_cons_zero, List.set_cons_succ]
          refine lin_nil ?_
          have HO22 := Lib.hid hR51.tail.tail
          clear HO21 HP hR51
          go_wp2
          go_roundw
          case rel => exact ⟨q + 1, by omega, by go_num, HO22.out⟩
          case measure => simp [intOf]; omega
        · have hq4 : ¬ ((q : Int) < 4) := by omega
          have HO17 := Lib.hid HO16.out.tail
          clear HO16 HJR
          go_wp2_with (refine wl_load rfl _ _ rfl g10 0 [Value.string (strOfNums b1), Value.string (strOfNums b2), Value.int .i64 b3, Value.string (strOfNums b4), Value.string (strOfNums b5)] [Value.string (strOfNums b1), Value.string (strOfNums b2), Value.int .i64 b3, Value.string (strOfNums b4), Value.string (strOfNums b5)] _ (HO17.out.heap (.head _)) (by rfl) _ Tryd.underlying25 rfl url_size (by rfl) ?_)
          with_reducible refine (Q1.out _ _ HO17.out).mono ?_
          rintro e w40 ⟨rfl, hO⟩
          have HO18 := Lib.hid hO; clear hO HO17 Q1
          simp only [Option.getD_none, Option.isSome_none, UL.val, UL.zero]
          go_wp2_with (first | (refine wl_alloc rfl _ rfl HO18.out _ (alloc_url _) ?_; intro g16 w41 hO; have HO19 := Lib.hid hO; clear hO HO18) | (refine wl_store rfl _ _ _ rfl HO19.out 0 g16 0 _ [Value.string (strOfNums []), Value.string (strOfNums []), Value.int .i64 0, Value.string (strOfNums []), Value.string (strOfNums [])] _ rfl (by rfl) (by rfl) url_size (one_url UL.zero) (by simp [UL.val, UL.zero]) ?_; intro w42 hO; have HO20 := Lib.hid (hO.cast (L' := [(g16, .cells [Value.string (strOfNums []), Value.string (strOfNums []), Value.int .i64 0, Value.string (strOfNums []), Value.string (strOfNums [])].toArray 25), (g10, .cells [Value.string (strOfNums b1), Value.string (strOfNums b2), Value.int .i64 b3, Value.string (strOfNums b4), Value.string (strOfNums b5)].toArray 25)]) rfl); clear hO HO19) | (refine wl_load rfl _ _ rfl g10 0 [Value.string (strOfNums b1), Value.string (strOfNums b2), Value.int .i64 b3, Value.string (strOfNums b4), Value.string (strOfNums b5)] [Value.string (strOfNums b1), Value.string (strOfNums b2), Value.int .i64 b3, Value.string (strOfNums b4), Value.string (strOfNums b5)] _ (HO20.out.heap (.tail _ (.head _))) (by rfl) _ Tryd.underlying25 rfl url_size (by rfl) ?_))
          with_reducible refine (Q2.out _ _ HO20.out.tail).mono ?_
          rintro e w43 ⟨rfl, hO⟩
          have HO21 := Lib.hid hO; clear hO HO20 Q2
          simp only [Option.getD_none, Option.isSome_none, UL.val, UL.zero]
          go_wp2_with (first | (refine wl_alloc rfl _ rfl HO21.out _ (alloc_url _) ?_; intro g18 w44 hO; have HO22 := Lib.hid hO; clear hO HO21) | (refine wl_store rfl _ _ _ rfl HO22.out 0 g18 0 _ [Value.string (strOfNums []), Value.string (strOfNums []), Value.int .i64 0, Value.string (strOfNums []), Value.string (strOfNums [])] _ rfl (by rfl) (by rfl) url_size (one_url UL.zero) (by simp [UL.val, UL.zero]) ?_; intro w45 hO; have HO23 := Lib.hid (hO.cast (L' := [(g18, .cells [Value.string (strOfNums []), Value.string (strOfNums []), Value.int .i64 0, Value.string (strOfNums []), Value.string (strOfNums [])].toArray 25), (g10, .cells [Value.string (strOfNums b1), Value.string (strOfNums b2), Value.int .i64 b3, Value.string (strOfNums b4), Value.string (strOfNums b5)].toArray 25)]) rfl); clear hO HO22))
          with_reducible refine (P3.out _ _ HO23.out.tail).mono ?_
          rintro e w46 ⟨rfl, hO⟩
          have HO24 := Lib.hid hO; clear hO HO23 P3
          simp only [Option.getD_some, Option.isSome_some, UL.val]
          go_wp2_with (first | (refine wl_alloc rfl _ rfl HO24.out _ (alloc_url _) ?_; intro g20 w47 hO; have HO25 := Lib.hid hO; clear hO HO24) | (refine wl_store rfl _ _ _ rfl HO25.out 0 g20 0 _ [Value.string (strOfNums l1), Value.string (strOfNums l2), Value.int .i64 l3, Value.string (strOfNums l4), Value.string (strOfNums l5)] _ rfl (by rfl) (by rfl) url_size (one_url ⟨l1, l2, l3, l4, l5⟩) (by simp [UL.val, UL.zero]) ?_; intro w48 hO; have HO26 := Lib.hid (hO.cast (L' := [(g20, .cells [Value.string (strOfNums l1), Value.string (strOfNums l2), Value.int .i64 l3, Value.string (strOfNums l4), Value.string (strOfNums l5)].toArray 25), (g10, .cells [Value.string (strOfNums b1), Value.string (strOfNums b2), Value.int .i64 b3, Value.string (strOfNums b4), Value.string (strOfNums b5)].toArray 25)]) rfl); clear hO HO25) | (refine wl_g (by rfl) ?_; refine wl_load rfl _ _ rfl g10 0 [Value.string (strOfNums b1), Value.string (strOfNums b2), Value.int .i64 b3, Value.string (strOfNums b4), Value.string (strOfNums b5)] [Value.string (strOfNums b1), Value.string (strOfNums b2), Value.int .i64 b3, Value.string (strOfNums b4), Value.string (strOfNums b5)] _ (HO26.out.heap (.tail _ (.head _))) (by rfl) _ Tryd.underlying25 rfl url_size (by rfl) ?_))
          with_reducible refine (Q3.out _ _ HO26.out).mono ?_
          rintro e w49 ⟨rfl, hO⟩
          have HO27 := Lib.hid hO; clear hO HO26 Q3
          go_wp2_with (refine wl_g (by rfl) ?_; refine wl_load rfl _ _ rfl g20 0 [Value.string (strOfNums l1), Value.string (strOfNums l2), Value.int .i64 l3, Value.string (strOfNums l4), Value.string (strOfNums l5)] [Value.string (strOfNums l1), Value.string (strOfNums l2), Value.int .i64 l3, Value.string (strOfNums l4), Value.string (strOfNums l5)] _ (HO27.out.heap (.head _)) (by rfl) _ Tryd.underlying25 rfl url_size (by rfl) ?_)
          with_reducible refine (Q4.out _ _ HO27.out).mono ?_
          rintro e w50 ⟨rfl, hO⟩
          have HO28 := Lib.hid hO; clear hO HO27 Q4
          go_wp2_with (first | (refine wl_g (by rfl) ?_; refine wl_load rfl _ _ rfl g10 0 [Value.string (strOfNums b1), Value.string (strOfNums b2), Value.int .i64 b3, Value.string (strOfNums b4), Value.string (strOfNums b5)] [Value.string (strOfNums b1), Value.string (strOfNums b2), Value.int .i64 b3, Value.string (strOfNums b4), Value.string (strOfNums b5)] _ (HO28.out.heap (.tail _ (.head _))) (by rfl) _ Tryd.underlying25 rfl url_size (by rfl) ?_) | (refine wl_g (by rfl) ?_; refine wl_load rfl _ _ rfl g20 0 [Value.string (strOfNums l1), Value.string (strOfNums l2), Value.int .i64 l3, Value.string (strOfNums l4), Value.string (strOfNums l5)] [Value.string (strOfNums l1), Value.string (strOfNums l2), Value.int .i64 l3, Value.string (strOfNums l4), Value.string (strOfNums l5)] _ (HO28.out.heap (.head _)) (by rfl) _ Tryd.underlying25 rfl url_size (by rfl) ?_))
          with_reducible refine (Q5.out _ _ HO28.out).mono ?_
          rintro e w51 ⟨rfl, hO⟩
          have HO29 := Lib.hid hO; clear hO HO28 Q5
          go_wp2_with fail
          with_reducible refine (wakes7_c HVV.out HO29.out).mono ?_
          rintro e w52 ⟨rfl, hO⟩
          have HO30 := Lib.hid hO; clear hO HO29
          go_wp2
          go_ret
          exact HO30.out.yes rfl
set_option maxRecDepth 100000 in
theorem uRLForms_contract (H : Type) (enc : TypeId × Value → H) (W : World) (base : Nat) (args : Array Value) (ds gs : List (DataW H)) (before : List MemPlace)
    (hval : ∀ (j : Nat) t v, Tryd.f3.params[j]? = some t → args[j]? = some v → Value.okWide Tryd.prog W .any base t v)
    (hW : DataW.Whole enc Tryd.prog Tryd.f3.params.toList Rows.uRLFormsSpec.vars false W args.toList ds gs before) (hV0 : VarsOk W) :
    Calls Tryd.prog 3 args W fun e W' => ∃ v, e = .returned v ∧ Rows.uRLFormsSpec.post enc Tryd.prog Tryd.f3 false true false false W args v W' := by
  have hW' := hW
  obtain ⟨p, q, hA0, hV, rfl, hfz, hnd⟩ := hW
  have hA : DataW.TrodAll enc Tryd.prog W 0 (fun _ => true) true Tryd.f3.params.toList args.toList ds p := hA0
  rw [Tryd.params3] at hA hval
  obtain ⟨v0, vs0, d0, ds0, p0, q0, hargs, rfl, rfl, h0, r0⟩ := trodAll_cons hA
  obtain ⟨rfl, rfl, rfl⟩ := trodAll_nil r0
  obtain rfl : args = #[v0] := by cases args; simp_all
  obtain ⟨rfl, rfl⟩ := trodVars_none hV
  obtain ⟨a0, rfl, rfl, rfl, w0⟩ := open_int Tryd.underlying3 (hval 0 3 v0 rfl rfl) h0
  clear hA0
  refine (uRLForms_walk hV0 a0 w0).mono fun e W' ⟨he, bel⟩ => ?_
  subst he
  exact ⟨_, rfl, _, _, _, [], _, [], hW', trodAll_mk1 (shut_bool Tryd.underlying4 _), (trodAll_cons_mk (shut_int Tryd.underlying3 w0) trodAll_mk0), rfl, bel.frame _, fun h => by cases h⟩

theorem uRLForms_met (os : Os) : laidMet Tryd.prog Rows.uRLFormsRow.laid ((laidWorld os).forCall (fun _ _ => 0) ⟨#[], #[.int .i64 0], []⟩).memory :=
  laidMet_of_run' 8 (by kernel_rfl) (by kernel_rfl)
theorem uRLForms_reads (os : Os) {H : Type} (enc : TypeId × Value → H) : ∃ places, DataW.whole enc Tryd.prog ((laidWorld os).forCall (fun _ _ => 0) ⟨#[], #[.int .i64 0], []⟩).memory Tryd.f3.params.toList Rows.uRLFormsSpec.vars false (#[.int .i64 0] : Array Value).toList 8 = some ([.lit (.int .i64 0)], [], places) :=
  ⟨[], by kernel_rfl⟩
set_option maxRecDepth 100000 in
theorem uRLForms_lifted (os : Os) (started : os.Started) (H : Type) (enc : TypeId × Value → H) (F : Stop.Interp) :
    ReturnsInHanded {} Tryd.checked os 3 .any ((OpenSpec.ofChange Rows.uRLFormsSpec).preRow enc Tryd.prog Tryd.f3 Rows.uRLFormsRow.domain false Rows.uRLFormsRow.laid) (((OpenSpec.ofChange Rows.uRLFormsSpec).at F).post enc Tryd.prog Tryd.f3 false true false false) := by
  obtain ⟨places, hx⟩ := uRLForms_reads os enc
  refine returnsInHanded_of_row (C := Tryd.checked) (s := OpenSpec.ofChange Rows.uRLFormsSpec) own_none started (by kernel_rfl) Tryd.func3
    (witness_row_at (enc := enc) (C := Tryd.checked) false (laidWorld os) #[.int .i64 0] rfl (by kernel_rfl) (by kernel_rfl) (by kernel_rfl)
      (OpenSpec.preRow_of_cond 8 hx (by kernel_rfl) (fun k hk => by cases hk) (by kernel_rfl) (uRLForms_met os))) ?_
  intro W base args ds gs before hval hW _ _ _ hL hsh _
  exact uRLForms_contract H enc W base args ds gs before hval hW (vars_of hL hsh)
theorem uRLForms_said : Rows.URLFormsSaid :=
  OpenClaim.holds_of_cond 3 Tryd.f3 rfl rfl rfl rfl rfl rfl rfl ⟨rfl, rfl, rfl, rfl, rfl⟩ rfl rfl rfl rfl rfl (by kernel_rfl) Tryd.func3 (by kernel_rfl)
    (of_decide_eq_true (by kernel_rfl)) (by unfold Func.isWrapper; first | (rw [if_pos (by decide +kernel)]; kernel_rfl) | (rw [if_neg (by decide +kernel)]; exact ⟨rfl, rfl⟩))
    (fun os started H enc _ F => by rw [OpenClaim.pre_eq_preRow]; exact uRLForms_lifted os started H enc F)
theorem uRLForms_plain (f : FuncId) (fn : Func) (hf : Tryd.pinned.checked.prog.funcNamed "postilion/postilionlaw07.URLForms" = some f) (hfn : Tryd.pinned.checked.prog.funcs[f]? = some fn) :
    false = Tryd.pinned.checked.prog.looks [] ∧ ∀ (j : Nat) t, fn.params[j]? = some t → Tryd.pinned.checked.prog.wantsStandIn t = false := by
  obtain rfl : f = 3 := Option.some.inj ((show Tryd.prog.funcNamed "postilion/postilionlaw07.URLForms" = some 3 by kernel_rfl).symm.trans hf) |>.symm
  obtain rfl : fn = Tryd.f3 := (Option.some.inj (Tryd.func3.symm.trans hfn)).symm
  refine ⟨by kernel_rfl, fun j t ht => ?_⟩
  rw [Tryd.params3] at ht
  have hall : ∀ t ∈ ([3] : List TypeId), Tryd.prog.wantsStandIn t = false := List.forall_mem_cons.2 ⟨by kernel_rfl, fun _ h => by cases h⟩
  exact hall t (by simpa using Array.mem_of_getElem? ht)
/-- The statement: the card. -/
theorem uRLForms_proved : Rows.URLFormsCardSaid :=
  Claim7.holds_tied_plain_at .later [] _ _ _ _ uRLForms_said (fun _ h => by cases h) (by kernel_rfl) (fun _ h => by cases h) uRLForms_row_tie rfl ⟨rfl, rfl⟩ (by kernel_rfl) rfl uRLForms_plain (by kernel_rfl)
end Go.Proofs.YtakihnmajgmnpaaDoor

