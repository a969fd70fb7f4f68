/-
  Package code: Encode.
-/
import Derived.Test.YtpapbmamkggfhaaCode2
namespace Go.Proofs.Ytpapbmamkggfhaa
set_option linter.unusedVariables false
set_option linter.unusedSimpArgs false
set_option maxRecDepth 20000
open Go.RowKit

/-- The bytes of values. -/
def encL : List AV → Option (List Int)
  | [] => some []
  | a :: r => (enc1 a).bind fun x => (encL r).map fun y => x ++ y
theorem encL_append (l m : List AV) : encL (l ++ m) = (encL l).bind fun x => (encL m).map fun y => x ++ y := by
  induction l with
  | nil => simp [encL]
  | cons a l ih =>
    simp only [List.cons_append, encL, ih]
    cases enc1 a with
    | none => rfl
    | some x =>
      cases encL l with
      | none => rfl
      | some y => cases encL m <;> simp
theorem encL_snoc (l : List AV) (a : AV) {x y : List Int} (h : encL l = some x) (h2 : enc1 a = some y) : encL (l ++ [a]) = some (x ++ y) := by
  rw [encL_append, h]; simp [encL, h2]
theorem encL_none {l : List AV} {a : AV} (hm : a ∈ l) (h : enc1 a = none) : encL l = none := by
  induction l with
  | nil => cases hm
  | cons b l ih =>
    rcases List.mem_cons.1 hm with rfl | hm
    · simp [encL, h]
    · simp only [encL, ih hm]; cases enc1 b <;> rfl
theorem encL_len {l : List AV} {x : List Int} (h : encL l = some x) : x.length ≤ 257 * l.length := by
  induction l generalizing x with
  | nil => simp [encL] at h; subst h; simp
  | cons a l ih =>
    simp only [encL] at h
    cases ha : enc1 a with
    | none => simp [ha] at h
    | some y =>
      cases hl : encL l with
      | none => simp [ha, hl] at h
      | some z =>
        simp [ha, hl] at h
        subst h
        have := enc1_len ha
        have := ih hl
        simp only [List.length_append, List.length_cons]
        omega
theorem encL_byt {l : List AV} {x : List Int} (h : encL l = some x) : Byt x := by
  induction l generalizing x with
  | nil => simp [encL] at h; subst h; intro y hy; cases hy
  | cons a l ih =>
    simp only [encL] at h
    cases ha : enc1 a with
    | none => simp [ha] at h
    | some y =>
      cases hl : encL l with
      | none => simp [ha, hl] at h
      | some z =>
        simp [ha, hl] at h
        subst h
        exact byt_append (enc1_byt ha) (ih hl)
/-- What Encode answers. -/
def GotEnc (w0 : World) (R : Blks) (o : Option (List Int)) (e : Ending) (w' : World) : Prop :=
  (∃ bs v L, o = some bs ∧ e = .returned (.tuple #[v, .int .i64 0]) ∧ IsBytes v bs L ∧ Own w0 w' (L ++ R)) ∨ (o = none ∧ e = .returned (.tuple #[.slice none 0 0, .int .i64 1]) ∧ Own w0 w' R)
set_option maxHeartbeats 4000000 in
theorem encode_c {w0 w : World} {R : Blks} {v : Value} {vs : List AV} (hO : Own w0 w R) (hv : RdV w0 R v (vs.map AV.val)) (ho : ∀ a ∈ vs, a.Ok) (hl : vs.length ≤ 1000000) :
    Calls Try.prog 8 #[v] w (GotEnc w0 R (encL vs)) := by
  obtain ⟨A, c, e⟩ := (hv w [] hO).len
  simp only [List.length_map] at e
  subst e
  have HO := Lib.hid hO; have HV := Lib.hid hv; have HK := Lib.hid ho
  clear hO hv ho
  go_enter Try.func8, Try.ntmps8
  go_wp2
  go_loopw [4, 10] (fun b t w' => ∃ k : Nat, k ≤ vs.length ∧ t = .int .i64 (k : Int) ∧ Hid (∃ bs L', encL (vs.take k) = some bs ∧ IsBytes b bs L' ∧ Own w0 w' (L' ++ R))) (fun _ t _ => vs.length - (intOf t).toNat)
  case atStart => exact ⟨0, by omega, rfl, [], [], rfl, isBytes_nil, HO.out⟩
  case round =>
    obtain ⟨k, hk, rfl, HB⟩ := hrel
    clear HO
    by_cases hlt : k < vs.length
    · obtain ⟨bs, L2, he2, hv2, hO2⟩ := HB.out
      obtain ⟨A', n', c', e, hn', hc', hA⟩ := HV.out _ _ hO2
      simp only [Value.slice.injEq] at e
      obtain ⟨rfl, rfl, rfl⟩ := e
      obtain ⟨ad, rfl, hcell⟩ := hA (by omega)
      have hc1 := hcell k vs[k].val (by simp [hlt])
      have hbl : bs.length ≤ 1000000000 := by have := encL_len he2; simp only [List.length_take] at this; omega
      have hcall := Lib.hid (add_c hv2 hO2 hbl vs[k] (HK.out _ (List.getElem_mem hlt)))
      have hsn : ∀ y, enc1 vs[k] = some y → encL (vs.take (k + 1)) = some (bs ++ y) := fun y hy => by rw [List.take_succ_eq_append_getElem hlt]; exact encL_snoc _ _ he2 hy
      have hno : enc1 vs[k] = none → encL vs = none := encL_none (List.getElem_mem hlt)
      have HSN := Lib.hid hsn; have HNO := Lib.hid hno
      have hk0 : (0 : Int) ≤ k := by omega
      have hkn : (k : Int) < vs.length := by omega
      clear hv2 hO2 he2 hcell hA hc' hn' HB hsn hno
      generalize vs[k].val = x at *
      generalize enc1 vs[k] = ox at *
      go_wp2_with fail
      with_reducible refine hcall.out.mono ?_
      clear hcall hc1
      rintro e w3 (⟨y, v3, L3, rfl, rfl, hv3, hO3⟩ | ⟨rfl, rfl, hO3⟩)
      · have HV3 := Lib.hid hv3; have HO3 := Lib.hid hO3; clear hv3 hO3
        simp only []
        go_wp2
        go_roundw
        case rel => exact ⟨k + 1, by omega, by go_num, _, L3, HSN.out _ rfl, HV3.out, HO3.out⟩
        case measure => simp [intOf]; omega
      · have HO3 := Lib.hid hO3; clear hO3
        simp only []
        go_wp2
        go_ret2
        exact .inr ⟨HNO.out trivial, rfl, HO3.out⟩
    · obtain rfl : k = vs.length := by omega
      go_wp2
      go_ret2
      obtain ⟨bs, L2, he2, hv2, hO2⟩ := HB.out
      rw [List.take_of_length_le (Nat.le_refl _)] at he2
      exact .inl ⟨bs, _, L2, he2, rfl, hv2, hO2⟩
end Go.Proofs.Ytpapbmamkggfhaa
