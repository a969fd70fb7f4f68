/-
  CodeMust: for all numbers, any text and any place, MustInt and MustText panic just where Int and Text tell false.
  Conditions: none but the statement's own.
-/
import Derived.Test.YtpapbmamkggfhaaL05a
import Derived.Defers
import Derived.Recover
import Derived.Deep.DeepCutAuto
namespace Go.Proofs.Ytpapbmamkggfhaa
set_option linter.unusedVariables false
set_option linter.unusedSimpArgs false
set_option maxRecDepth 20000
open Go.ChangeShapes Go.WideShapes Go.ChangeAt Go.RowKit
open Go.ChangeMaps (open_string shut_string)

/-- How an assertion that does not hold ends. -/
def Fell (W : World) (r : Result Value) : Prop := ∃ o, r = .halt (.panic (.iface 15 (.pointer (some ⟨W.heap.size, 0, none⟩)))) (W.alloc o)
theorem fell_int (W : World) {a : AV} (hp : a.plain ∨ a = .z) (h : a.int.2 = false) : Fell W ((Instr.typeAssert a.val 20 3 false).run Try.prog W) := by
  cases a with
  | i n => cases h
  | s b => exact ⟨.cells #[typeHandle Try.prog 20, typeHandle Try.prog 9, typeHandle Try.prog 3, strVal ""] 78, by kernel_rfl⟩
  | f b => exact ⟨.cells #[typeHandle Try.prog 20, typeHandle Try.prog 4, typeHandle Try.prog 3, strVal ""] 78, by kernel_rfl⟩
  | z => exact ⟨.cells #[typeHandle Try.prog 20, .pointer none, typeHandle Try.prog 3, strVal ""] 78, by kernel_rfl⟩
  | o _ _ => rcases hp with hp | hp; exact hp.elim; cases hp
theorem fell_text (W : World) {a : AV} (hp : a.plain ∨ a = .z) (h : a.text.2 = false) : Fell W ((Instr.typeAssert a.val 20 9 false).run Try.prog W) := by
  cases a with
  | s n => cases h
  | i b => exact ⟨.cells #[typeHandle Try.prog 20, typeHandle Try.prog 3, typeHandle Try.prog 9, strVal ""] 78, by kernel_rfl⟩
  | f b => exact ⟨.cells #[typeHandle Try.prog 20, typeHandle Try.prog 4, typeHandle Try.prog 9, strVal ""] 78, by kernel_rfl⟩
  | z => exact ⟨.cells #[typeHandle Try.prog 20, .pointer none, typeHandle Try.prog 9, strVal ""] 78, by kernel_rfl⟩
  | o _ _ => rcases hp with hp | hp; exact hp.elim; cases hp
/-- A call that panics, with a new block and nothing else. -/
def Panics (w : World) (e : Ending) (w' : World) : Prop := ∃ o, e = .panicked [{ v := .iface 15 (.pointer (some ⟨w.heap.size, 0, none⟩)), recovered := false }] ∧ w' = w.alloc o
theorem at_plain {vs : List AV} (h : ∀ a ∈ vs, a.plain) (k : Int) : (at_ vs k).plain ∨ at_ vs k = .z := by
  unfold at_
  split
  · exact .inr rfl
  · rcases Nat.lt_or_ge k.toNat vs.length with hl | hl
    · rw [List.getD_eq_getElem?_getD, List.getElem?_eq_getElem hl]; exact .inl (h _ (List.getElem_mem hl))
    · rw [List.getD_eq_getElem?_getD, List.getElem?_eq_none hl]; exact .inr rfl
theorem mustInt_falls {w : World} {a : AV} (hp : a.plain ∨ a = .z) (h : a.int.2 = false) : Calls Try.prog 35 #[a.val] w (Panics w) := by
  obtain ⟨o, h1⟩ := fell_int w hp h
  clear hp h
  generalize a.val = x at *
  go_enter Try.func35, Try.ntmps35
  go_wp2
  exact ⟨rfl, o, rfl, rfl⟩
theorem MustInt_falls {w : World} {v : Value} {vs : List AV} (hv : Vs w v (vs.map AV.val)) (hp : ∀ a ∈ vs, a.plain) (k : Int) (h : (at_ vs k).int.2 = false) : Calls Try.prog 23 #[v, .int .i64 k] w (Panics w) := by
  have h1 := Lib.hid (value_c hv k)
  have h2 := Lib.hid (mustInt_falls (w := w) (at_plain hp k) h)
  clear hv hp h
  go_enter Try.func23, Try.ntmps23
  go_wp2_with fail
  with_reducible refine h1.out.mono ?_
  rintro e w1 ⟨rfl, rfl⟩
  go_wp2_with fail
  with_reducible refine h2.out.mono ?_
  rintro e w1 ⟨o, rfl, rfl⟩
  exact ⟨rfl, o, rfl, rfl⟩
theorem mustText_falls {w : World} {a : AV} (hp : a.plain ∨ a = .z) (h : a.text.2 = false) : Calls Try.prog 36 #[a.val] w (Panics w) := by
  obtain ⟨o, h1⟩ := fell_text w hp h
  clear hp h
  generalize a.val = x at *
  go_enter Try.func36, Try.ntmps36
  go_wp2
  exact ⟨rfl, o, rfl, rfl⟩
theorem MustText_falls {w : World} {v : Value} {vs : List AV} (hv : Vs w v (vs.map AV.val)) (hp : ∀ a ∈ vs, a.plain) (k : Int) (h : (at_ vs k).text.2 = false) : Calls Try.prog 24 #[v, .int .i64 k] w (Panics w) := by
  have h1 := Lib.hid (value_c hv k)
  have h2 := Lib.hid (mustText_falls (w := w) (at_plain hp k) h)
  clear hv hp h
  go_enter Try.func24, Try.ntmps24
  go_wp2_with fail
  with_reducible refine h1.out.mono ?_
  rintro e w1 ⟨rfl, rfl⟩
  go_wp2_with fail
  with_reducible refine h2.out.mono ?_
  rintro e w1 ⟨o, rfl, rfl⟩
  exact ⟨rfl, o, rfl, rfl⟩
theorem catch_fell (p : Addr) (x : Bool) (u : TypeId) (pv : Value) (w : World) (hc : w.cell? p = some (.bool x)) (hz : w.frozen? p = false) :
    CallsD Try.prog 30 #[.pointer (some p)] (.panicking [{ v := .iface u pv, recovered := false }]) w fun e u' w' =>
      e = .returned (.tuple #[]) ∧ u' = .panicking [{ v := .iface u pv, recovered := true }] ∧ w' = w.setCell p (.bool true) := by
  refine callsD_of_wpS Try.func30 rfl fun c₀ cs hu => ?_
  apply wpS_region
  simp [wpOpsS, go_sem, recoverD, hu, Try.ntmps30, Exit.thenS, hc, hz, bodyPostS, results, Try.results30]
theorem catch_none (p : Addr) (x : Bool) (w : World) (hc : w.cell? p = some (.bool x)) (hz : w.frozen? p = false) :
    CallsD Try.prog 30 #[.pointer (some p)] .returning w fun e u' w' => e = .returned (.tuple #[]) ∧ u' = .returning ∧ w' = w.setCell p (.bool false) := by
  refine callsD_of_wpS Try.func30 rfl fun c₀ cs hu => ?_
  apply wpS_region
  simp [wpOpsS, go_sem, recoverD, hu, Try.ntmps30, Exit.thenS, hc, hz, bodyPostS, results, Try.results30]
  cases c₀
  simp_all
theorem Own.setHead {w0 w : World} {R : Blks} {g : Nat} {x y : Value} {t : TypeId} (h : Own w0 w ((g, .cells #[x] t) :: R)) : Own w0 (w.setCell ⟨g, 0, none⟩ y) ((g, .cells #[y] t) :: R) := h.setAt 0 rfl 0 y
set_option maxHeartbeats 4000000 in
theorem fallsMustInt_no {w0 w : World} {R : Blks} {v : Value} {vs : List AV} (hO : Own w0 w R) (hv : RdV w0 R v (vs.map AV.val)) (hp : ∀ a ∈ vs, a.plain) (k : Int) (h : (at_ vs k).int.2 = false) : Calls Try.prog 17 #[v, .int .i64 k, .bool true] w fun e w' => e = .returned (.bool true) ∧ Own w0 w' R := by
  have hO1 : Own w0 (w.alloc (.cells #[.bool false] 4)) ((w.heap.size, .cells #[.bool false] 4) :: R) := hO.alloc _
  have h1 := Lib.hid (MustInt_falls (hv _ [(w.heap.size, .cells #[.bool false] 4)] hO1) hp k h)
  have HO1 := Lib.hid hO1; have HO := Lib.hid hO
  clear hO hv hp h hO1
  have hmf : ∀ (fn : Fn) (first cap : Array Value) (w : World), (Instr.makeFunc fn first cap).run Try.prog w = .ok (.func fn first cap) w := fun _ _ _ _ => rfl
  go_enter_defers Try.func17, Try.ntmps17
  go_wp2_with fail
  with_reducible refine h1.out.mono ?_
  rintro e w1 ⟨o, rfl, rfl⟩
  have HO2 := Lib.hid (HO1.out.alloc o)
  refine leaves_cons (f := 30) (args := #[.pointer (some ⟨w.heap.size, 0, none⟩)]) (by simp) (by simp [go_sem]) ?_
  refine (catch_fell ⟨w.heap.size, 0, none⟩ false _ _ _ ?_ ?_).mono ?_
  · rw [HO2.out.cell (.tail _ (.head _)) 0]; rfl
  · exact HO2.out.frozen (.tail _ (.head _)) 0
  rintro e u' w'' ⟨rfl, rfl, rfl⟩
  have HO3 := Lib.hid (HO2.out.tail.setHead (y := .bool true))
  have hc := HO3.out.cell (.head _) 0
  simp [Leaves, settle, results, Try.results17, go_sem, hc]
  exact ((HO.out.alloc _).alloc _).tail.tail
set_option maxHeartbeats 4000000 in
theorem fallsMustInt_yes {w0 w : World} {R : Blks} {v : Value} {vs : List AV} (hO : Own w0 w R) (hv : RdV w0 R v (vs.map AV.val)) (k : Int) (n : Int) (h : at_ vs k = .i n) : Calls Try.prog 17 #[v, .int .i64 k, .bool true] w fun e w' => e = .returned (.bool false) ∧ Own w0 w' R := by
  have hO1 : Own w0 (w.alloc (.cells #[.bool false] 4)) ((w.heap.size, .cells #[.bool false] 4) :: R) := hO.alloc _
  have h1 := Lib.hid (mustInt_c (hv _ [(w.heap.size, .cells #[.bool false] 4)] hO1) k n h)
  have HO1 := Lib.hid hO1
  clear hO hv h hO1
  have hmf : ∀ (fn : Fn) (first cap : Array Value) (w : World), (Instr.makeFunc fn first cap).run Try.prog w = .ok (.func fn first cap) w := fun _ _ _ _ => rfl
  go_enter_defers Try.func17, Try.ntmps17
  go_wp2_with fail
  with_reducible refine h1.out.mono ?_
  rintro e w1 ⟨rfl, rfl⟩
  go_wp2
  have HO2 := HO1
  refine leaves_cons (f := 30) (args := #[.pointer (some ⟨w.heap.size, 0, none⟩)]) (by simp) (by simp [go_sem]) ?_
  refine (catch_none ⟨w.heap.size, 0, none⟩ false _ ?_ ?_).mono ?_
  · rw [HO2.out.cell (.head _) 0]; rfl
  · exact HO2.out.frozen (.head _) 0
  rintro e u' w'' ⟨rfl, rfl, rfl⟩
  have HO3 := HO1
  have hc := HO3.out.cell (.head _) 0
  simp [Leaves, settle, results, Try.results17, go_sem, hc]
  exact HO3.out.tail
set_option maxHeartbeats 4000000 in
theorem fallsMustText_no {w0 w : World} {R : Blks} {v : Value} {vs : List AV} (hO : Own w0 w R) (hv : RdV w0 R v (vs.map AV.val)) (hp : ∀ a ∈ vs, a.plain) (k : Int) (h : (at_ vs k).text.2 = false) : Calls Try.prog 17 #[v, .int .i64 k, .bool false] w fun e w' => e = .returned (.bool true) ∧ Own w0 w' R := by
  have hO1 : Own w0 (w.alloc (.cells #[.bool false] 4)) ((w.heap.size, .cells #[.bool false] 4) :: R) := hO.alloc _
  have h1 := Lib.hid (MustText_falls (hv _ [(w.heap.size, .cells #[.bool false] 4)] hO1) hp k h)
  have HO1 := Lib.hid hO1; have HO := Lib.hid hO
  clear hO hv hp h hO1
  have hmf : ∀ (fn : Fn) (first cap : Array Value) (w : World), (Instr.makeFunc fn first cap).run Try.prog w = .ok (.func fn first cap) w := fun _ _ _ _ => rfl
  go_enter_defers Try.func17, Try.ntmps17
  go_wp2_with fail
  with_reducible refine h1.out.mono ?_
  rintro e w1 ⟨o, rfl, rfl⟩
  have HO2 := Lib.hid (HO1.out.alloc o)
  refine leaves_cons (f := 30) (args := #[.pointer (some ⟨w.heap.size, 0, none⟩)]) (by simp) (by simp [go_sem]) ?_
  refine (catch_fell ⟨w.heap.size, 0, none⟩ false _ _ _ ?_ ?_).mono ?_
  · rw [HO2.out.cell (.tail _ (.head _)) 0]; rfl
  · exact HO2.out.frozen (.tail _ (.head _)) 0
  rintro e u' w'' ⟨rfl, rfl, rfl⟩
  have HO3 := Lib.hid (HO2.out.tail.setHead (y := .bool true))
  have hc := HO3.out.cell (.head _) 0
  simp [Leaves, settle, results, Try.results17, go_sem, hc]
  exact ((HO.out.alloc _).alloc _).tail.tail
set_option maxHeartbeats 4000000 in
theorem fallsMustText_yes {w0 w : World} {R : Blks} {v : Value} {vs : List AV} (hO : Own w0 w R) (hv : RdV w0 R v (vs.map AV.val)) (k : Int) (n : ByteArray) (h : at_ vs k = .s n) : Calls Try.prog 17 #[v, .int .i64 k, .bool false] w fun e w' => e = .returned (.bool false) ∧ Own w0 w' R := by
  have hO1 : Own w0 (w.alloc (.cells #[.bool false] 4)) ((w.heap.size, .cells #[.bool false] 4) :: R) := hO.alloc _
  have h1 := Lib.hid (mustText_c (hv _ [(w.heap.size, .cells #[.bool false] 4)] hO1) k n h)
  have HO1 := Lib.hid hO1
  clear hO hv h hO1
  have hmf : ∀ (fn : Fn) (first cap : Array Value) (w : World), (Instr.makeFunc fn first cap).run Try.prog w = .ok (.func fn first cap) w := fun _ _ _ _ => rfl
  go_enter_defers Try.func17, Try.ntmps17
  go_wp2_with fail
  with_reducible refine h1.out.mono ?_
  rintro e w1 ⟨rfl, rfl⟩
  go_wp2
  have HO2 := HO1
  refine leaves_cons (f := 30) (args := #[.pointer (some ⟨w.heap.size, 0, none⟩)]) (by simp) (by simp [go_sem]) ?_
  refine (catch_none ⟨w.heap.size, 0, none⟩ false _ ?_ ?_).mono ?_
  · rw [HO2.out.cell (.head _) 0]; rfl
  · exact HO2.out.frozen (.head _) 0
  rintro e u' w'' ⟨rfl, rfl, rfl⟩
  have HO3 := HO1
  have hc := HO3.out.cell (.head _) 0
  simp [Leaves, settle, results, Try.results17, go_sem, hc]
  exact HO3.out.tail
theorem fallsI_c {w0 w : World} {R : Blks} {v : Value} {vs : List AV} (hO : Own w0 w R) (hv : RdV w0 R v (vs.map AV.val)) (hp : ∀ a ∈ vs, a.plain) (k : Int) (r : Bool) (h : (at_ vs k).int.2 = r) : Calls Try.prog 17 #[v, .int .i64 k, .bool true] w fun e w' => e = .returned (.bool !r) ∧ Own w0 w' R := by
  cases r with
  | false => exact fallsMustInt_no hO hv hp k h
  | true =>
    cases ha : at_ vs k with
    | i n => exact fallsMustInt_yes hO hv k n ha
    | s n => rw [ha] at h; cases h
    | f n => rw [ha] at h; cases h
    | z => rw [ha] at h; cases h
    | o _ _ => rw [ha] at h; cases h
theorem fallsT_c {w0 w : World} {R : Blks} {v : Value} {vs : List AV} (hO : Own w0 w R) (hv : RdV w0 R v (vs.map AV.val)) (hp : ∀ a ∈ vs, a.plain) (k : Int) (r : Bool) (h : (at_ vs k).text.2 = r) : Calls Try.prog 17 #[v, .int .i64 k, .bool false] w fun e w' => e = .returned (.bool !r) ∧ Own w0 w' R := by
  cases r with
  | false => exact fallsMustText_no hO hv hp k h
  | true =>
    cases ha : at_ vs k with
    | s n => exact fallsMustText_yes hO hv k n ha
    | i n => rw [ha] at h; cases h
    | f n => rw [ha] at h; cases h
    | z => rw [ha] at h; cases h
    | o _ _ => rw [ha] at h; cases h
set_option maxHeartbeats 20000000 in
theorem codeMust_walk {w : World} (v0 : Value) (a0 : List Int) (h0 : InRow .i64 w v0 a0) (a1 : ByteArray) (_ : a1.size ≤ maxLen) (a2 : Int) (_ : (Lit.int .i64 a2).wf = true) :
    Calls Try.prog 4 #[v0, .string a1, .int .i64 a2] w (Yes w) := by
  have HB0 := Lib.hid h0; clear h0
  have HO := Lib.hid (Own.start w)
  have htext := Lib.hid (ktextN (w := w) a1 100 (by omega) 100 rfl)
  go_enter Try.func4, Try.ntmps4
  go_wp2_with fail
  with_reducible refine htext.out.mono ?_
  clear htext
  rintro e w1 ⟨t, ht, rfl, rfl⟩
  go_wp2_with fail
  have hvals := values_c HO.out v0 a0 HB0.out t (by omega) 0
  with_reducible refine hvals.mono ?_
  clear hvals
  rintro e w1 ⟨vs, v, L, rfl, hvs, hv, hO1⟩
  obtain ⟨K, hK, rfl⟩ := hvs.good
  have hok := valsK_ok (by obtain ⟨_, _, _, _, _, _, _, h, _⟩ := HB0.out; exact h) t K
  have hpl := valsK_plain a0 t K
  have hln := length_valsK a0 t K
  generalize valsK a0 t K = vs at *
  subst hln
  have HOK := Lib.hid hok; have HPL := Lib.hid hpl; have HV := Lib.hid hv; have HO1 := Lib.hid hO1
  clear hvs hok hpl hv hO1 HO HB0
  obtain ⟨A1, c1, rfl⟩ := HV.out.val
  have HRD := Lib.hid (HV.out.rdv (w0 := w) (R := L ++ []) sub_here)
  have HVA := Lib.hid (HV.out.vs HO1.out)
  generalize hN : vs.length = N at *
  clear hN
  go_wp2_with fail
  with_reducible refine (within_c a2 (N + 2) (by omega) (by omega)).mono ?_
  rintro e w4 ⟨rfl, rfl⟩
  have hk1 : 0 ≤ a2 % ((N : Int) + 2) := Int.emod_nonneg _ (by omega)
  have hk2 : a2 % ((N : Int) + 2) < N + 2 := Int.emod_lt_of_pos _ (by omega)
  generalize a2 % ((N : Int) + 2) = k at *
  go_wp2_with fail
  have hcall := int_c HVA.out HOK.out (k - 1)
  generalize hi : (at_ vs (k - 1)).int = ri at *
  have HI := Lib.hid (congrArg Prod.snd hi); clear hi
  obtain ⟨i1, i2⟩ := ri
  with_reducible refine hcall.mono ?_
  clear hcall
  rintro e w4 ⟨rfl, rfl⟩
  simp only []
  go_wp2_with fail
  have hcall := text_c HVA.out HOK.out (k - 1)
  generalize hi : (at_ vs (k - 1)).text = rt at *
  have HT := Lib.hid (congrArg Prod.snd hi); clear hi
  obtain ⟨t1, t2⟩ := rt
  with_reducible refine hcall.mono ?_
  clear hcall
  rintro e w4 ⟨rfl, rfl⟩
  simp only []
  go_wp2_with fail
  with_reducible refine (fallsI_c HO1.out HRD.out HPL.out (k - 1) i2 HI.out).mono ?_
  rintro e w5 ⟨rfl, hO5⟩
  have HO5 := Lib.hid hO5; clear hO5 HVA
  have he1 : ((!i2) == (!i2)) = true := by simp
  have he2 : ((!t2) == (!t2)) = true := by simp
  go_wp2_with fail
  with_reducible refine (fallsT_c HO5.out HRD.out HPL.out (k - 1) t2 HT.out).mono ?_
  rintro e w6 ⟨rfl, hO6⟩
  have HO6 := Lib.hid hO6; clear hO6
  go_wp2_with fail
  with_reducible refine (wakes5_c HO6.out).mono ?_
  rintro e w7 ⟨rfl, hO7⟩
  have HO7 := Lib.hid hO7; clear hO7
  go_wp2
  go_ret
  exact HO7.out.yes rfl
set_option maxRecDepth 100000 in
theorem codeMust_lifted (os : Os) (started : os.Started) (H : Type) (enc : TypeId × Value → H) :
    ReturnsInHanded {} Try.checked os 4 .any (Rows.codeMustSpec.pre6 enc Try.prog Try.f4 Rows.codeMustRow.domain false) (Rows.codeMustSpec.post enc Try.prog Try.f4 false true false false) := by
  refine returnsInHanded_of_change (C := Try.checked) (by kernel_rfl) started (by kernel_rfl) Try.func4
    (ChangeSpec.witness6 (enc := enc) (C := Try.checked) false ⟨#[], #[.slice none 0 0, .string ByteArray.empty, .int .i64 0], []⟩ 8 (by kernel_rfl) (by kernel_rfl) (by kernel_rfl) (by kernel_rfl)) ?_
  intro W base args ds gs before hval0 hW hcnd _
  have hval : ∀ (j : Nat) t v, Try.f4.params[j]? = some t → args[j]? = some v → Value.okWide Try.prog W .any base t v := hval0
  have hW' := hW
  obtain ⟨p, q, hA0, hV, rfl, hfz, hnd⟩ := hW
  have hA : DataW.TrodAll enc Try.prog W 0 (fun _ => true) true Try.f4.params.toList args.toList ds p := hA0
  rw [Try.params4] at hA hval
  obtain ⟨v0, vs0, d0, ds0, p0, q0, hargs, rfl, rfl, h0, r0⟩ := trodAll_cons hA
  obtain ⟨v1, vs1, d1, ds1, p1, q1, rfl, rfl, rfl, h1, r1⟩ := trodAll_cons r0
  obtain ⟨v2, vs2, d2, ds2, p2, q2, rfl, rfl, rfl, h2, r2⟩ := trodAll_cons r1
  obtain ⟨rfl, rfl, rfl⟩ := trodAll_nil r2
  obtain rfl : args = #[v0, v1, v2] := by cases args; simp_all
  obtain ⟨rfl, rfl⟩ := trodVars_none hV
  obtain ⟨b0, len0, cap0, rfl⟩ := okWide_slice Try.underlying37 (hval 0 37 v0 rfl rfl)
  have k0 := h0
  have lt0 : ∀ x ∈ p0, x.block < W.heap.size := by obtain ⟨m, hm⟩ := k0; exact DataW.trod_lt m _ _ _ hm
  obtain ⟨a0, w0⟩ : ∃ xs, InRow .i64 W (.slice b0 len0 cap0) xs := by
    obtain ⟨fuel, hf⟩ := h0
    rcases open_ints Try.underlying37 Try.underlying3 (by kernel_rfl) hf with ⟨hcs, _⟩ | ⟨x, l, c, zs, hcs, _, hl, hm, hz, _, hcell, hwz⟩
    · simp [Value.cells] at hcs
      obtain ⟨rfl, rfl, rfl⟩ := hcs
      exact ⟨[], inRow_nil _ _⟩
    · simp [Value.cells] at hcs
      obtain ⟨rfl, rfl, rfl⟩ := hcs
      exact ⟨zs.take len0, inRow_mk hl hm (by simpa using hz) hcell hwz⟩
  obtain ⟨a1, rfl, rfl, rfl, w1⟩ := open_string Try.underlying9 (hval 1 9 v1 rfl rfl) h1
  obtain ⟨a2, rfl, rfl, rfl, w2⟩ := open_int Try.underlying3 (hval 2 3 v2 rfl rfl) h2
  clear hA0 hval0
  refine (codeMust_walk _ a0 w0 a1 w1 a2 w2).mono fun e W' ⟨he, bel⟩ => ?_
  subst he
  exact ⟨_, rfl, _, _, _, [], _, [], hW', trodAll_mk1 (shut_bool Try.underlying4 _), (trodAll_cons_mk (Below.trod laidOut (by kernel_rfl) (of_decide_eq_true (by kernel_rfl)) k0 bel lt0) (trodAll_cons_mk (shut_string Try.underlying9 w1) (trodAll_cons_mk (shut_int Try.underlying3 w2) trodAll_mk0))), rfl, bel.frame _, fun h => by cases h⟩

/-- The statement. -/
theorem codeMust_proved : Rows.CodeMustSaid :=
  OpenClaim.holds_of_wide 4 Try.f4 rfl rfl rfl rfl rfl rfl rfl ⟨rfl, rfl, rfl, rfl, rfl⟩ rfl rfl rfl rfl rfl (by kernel_rfl) Try.func4 (by kernel_rfl)
    (of_decide_eq_true (by kernel_rfl)) (by unfold Func.isWrapper; first | (rw [if_pos (by decide +kernel)]; kernel_rfl) | (rw [if_neg (by decide +kernel)]; exact ⟨rfl, rfl⟩))
    (fun os started H enc _ => codeMust_lifted os started H enc)
end Go.Proofs.Ytpapbmamkggfhaa

