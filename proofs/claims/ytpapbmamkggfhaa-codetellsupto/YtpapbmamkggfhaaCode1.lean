/-
  Package code: values, what an assertion tells of them.
-/
import Derived.Test.YtpapbmamkggfhaaStr
import Derived.Test.YtpapbmamkggfhaaBts
namespace Go.Proofs.Ytpapbmamkggfhaa
set_option linter.unusedVariables false
set_option linter.unusedSimpArgs false
set_option maxRecDepth 20000
open Go.RowKit

/-- A value of type any: an int, a string, a bool, nil, another one. -/
inductive AV where
  | i (n : Int)
  | s (b : ByteArray)
  | f (b : Bool)
  | z
  | o (t : TypeId) (v : Value)
def AV.val : AV → Value
  | .i n => .iface 3 (.int .i64 n)
  | .s b => .iface 9 (.string b)
  | .f b => .iface 4 (.bool b)
  | .z => .nilIface
  | .o t v => .iface t v
def AV.Ok : AV → Prop
  | .i n => (Lit.int .i64 n).wf = true
  | .o t _ => t ≠ 3 ∧ t ≠ 9 ∧ t ≠ 4
  | _ => True
theorem AV.one (a : AV) : a.val.oneCell' = true := by cases a <;> rfl
theorem one_avs (vs : List AV) : ∀ v ∈ vs.map AV.val, v.oneCell' = true := by
  intro v hv; simp only [List.mem_map] at hv; obtain ⟨x, _, rfl⟩ := hv; exact x.one
def AV.int : AV → Int × Bool
  | .i n => (n, true)
  | _ => (0, false)
def AV.text : AV → ByteArray × Bool
  | .s b => (b, true)
  | _ => (⟨#[]⟩, false)
def AV.flag : AV → Bool × Bool
  | .f b => (b, true)
  | _ => (false, false)
section
variable (W : World)
theorem asI_yes (v : Value) : (Instr.typeAssert (.iface 3 v) 20 3 true).run Try.prog W = .ok (.tuple #[v, .bool true]) W := by kernel_rfl
theorem asS_yes (v : Value) : (Instr.typeAssert (.iface 9 v) 20 9 true).run Try.prog W = .ok (.tuple #[v, .bool true]) W := by kernel_rfl
theorem asB_yes (v : Value) : (Instr.typeAssert (.iface 4 v) 20 4 true).run Try.prog W = .ok (.tuple #[v, .bool true]) W := by kernel_rfl
theorem asI_nil : (Instr.typeAssert .nilIface 20 3 true).run Try.prog W = .ok (.tuple #[.int .i64 0, .bool false]) W := by kernel_rfl
theorem asS_nil : (Instr.typeAssert .nilIface 20 9 true).run Try.prog W = .ok (.tuple #[.string ⟨#[]⟩, .bool false]) W := by kernel_rfl
theorem asB_nil : (Instr.typeAssert .nilIface 20 4 true).run Try.prog W = .ok (.tuple #[.bool false, .bool false]) W := by kernel_rfl
theorem zero_int : (do pure (Value.tuple #[← zeroValue 3, .bool false]) : Sem Value).run Try.prog W = .ok (.tuple #[.int .i64 0, .bool false]) W := by kernel_rfl
theorem zero_str : (do pure (Value.tuple #[← zeroValue 9, .bool false]) : Sem Value).run Try.prog W = .ok (.tuple #[.string ⟨#[]⟩, .bool false]) W := by kernel_rfl
theorem zero_bool : (do pure (Value.tuple #[← zeroValue 4, .bool false]) : Sem Value).run Try.prog W = .ok (.tuple #[.bool false, .bool false]) W := by kernel_rfl
theorem asI_no (u : TypeId) (v : Value) (h : u ≠ 3) : (Instr.typeAssert (.iface u v) 20 3 true).run Try.prog W = .ok (.tuple #[.int .i64 0, .bool false]) W := by
  have e : (Instr.typeAssert (.iface u v) 20 3 true).run Try.prog W = (if u = 3 then (pure (Value.tuple #[v, .bool true]) : Sem Value) else (do pure (Value.tuple #[← zeroValue 3, .bool false]))).run Try.prog W := by kernel_rfl
  rw [e, if_neg h]; exact zero_int W
theorem asS_no (u : TypeId) (v : Value) (h : u ≠ 9) : (Instr.typeAssert (.iface u v) 20 9 true).run Try.prog W = .ok (.tuple #[.string ⟨#[]⟩, .bool false]) W := by
  have e : (Instr.typeAssert (.iface u v) 20 9 true).run Try.prog W = (if u = 9 then (pure (Value.tuple #[v, .bool true]) : Sem Value) else (do pure (Value.tuple #[← zeroValue 9, .bool false]))).run Try.prog W := by kernel_rfl
  rw [e, if_neg h]; exact zero_str W
theorem asB_no (u : TypeId) (v : Value) (h : u ≠ 4) : (Instr.typeAssert (.iface u v) 20 4 true).run Try.prog W = .ok (.tuple #[.bool false, .bool false]) W := by
  have e : (Instr.typeAssert (.iface u v) 20 4 true).run Try.prog W = (if u = 4 then (pure (Value.tuple #[v, .bool true]) : Sem Value) else (do pure (Value.tuple #[← zeroValue 4, .bool false]))).run Try.prog W := by kernel_rfl
  rw [e, if_neg h]; exact zero_bool W
theorem assert_int {a : AV} (ha : a.Ok) : (Instr.typeAssert a.val 20 3 true).run Try.prog W = .ok (.tuple #[.int .i64 a.int.1, .bool a.int.2]) W := by
  cases a with
  | i n => exact asI_yes W _
  | s b => exact asI_no W _ _ (by decide)
  | f b => exact asI_no W _ _ (by decide)
  | z => exact asI_nil W
  | o t v => exact asI_no W _ _ ha.1
theorem assert_str {a : AV} (ha : a.Ok) : (Instr.typeAssert a.val 20 9 true).run Try.prog W = .ok (.tuple #[.string a.text.1, .bool a.text.2]) W := by
  cases a with
  | i n => exact asS_no W _ _ (by decide)
  | s b => exact asS_yes W _
  | f b => exact asS_no W _ _ (by decide)
  | z => exact asS_nil W
  | o t v => exact asS_no W _ _ ha.2.1
theorem assert_bool {a : AV} (ha : a.Ok) : (Instr.typeAssert a.val 20 4 true).run Try.prog W = .ok (.tuple #[.bool a.flag.1, .bool a.flag.2]) W := by
  cases a with
  | i n => exact asB_no W _ _ (by decide)
  | s b => exact asB_no W _ _ (by decide)
  | f b => exact asB_yes W _
  | z => exact asB_nil W
  | o t v => exact asB_no W _ _ ha.2.2
end
theorem asInt_c {w : World} {a : AV} (ha : a.Ok) : Calls Try.prog 27 #[a.val] w fun e w' => e = .returned (.tuple #[.int .i64 a.int.1, .bool a.int.2]) ∧ w = w' := by
  have h := assert_int w ha
  generalize a.val = v at *
  go_enter Try.func27, Try.ntmps27
  go_wp2
  go_ret2
  exact ⟨rfl, rfl⟩
theorem asText_c {w : World} {a : AV} (ha : a.Ok) : Calls Try.prog 29 #[a.val] w fun e w' => e = .returned (.tuple #[.string a.text.1, .bool a.text.2]) ∧ w = w' := by
  have h := assert_str w ha
  generalize a.val = v at *
  go_enter Try.func29, Try.ntmps29
  go_wp2
  go_ret2
  exact ⟨rfl, rfl⟩
theorem asFlag_c {w : World} {a : AV} (ha : a.Ok) : Calls Try.prog 34 #[a.val] w fun e w' => e = .returned (.tuple #[.bool a.flag.1, .bool a.flag.2]) ∧ w = w' := by
  have h := assert_bool w ha
  generalize a.val = v at *
  go_enter Try.func34, Try.ntmps34
  go_wp2
  go_ret2
  exact ⟨rfl, rfl⟩
/-- The k-th value; nil where there is none. -/
def at_ (vs : List AV) (k : Int) : AV := if k < 0 then .z else vs.getD k.toNat .z
theorem at_ok {vs : List AV} (h : ∀ a ∈ vs, a.Ok) (k : Int) : (at_ vs k).Ok := by
  unfold at_
  split
  · trivial
  · rcases Nat.lt_or_ge k.toNat vs.length with hl | hl
    · rw [List.getD_eq_getElem?_getD, List.getElem?_eq_getElem hl]; exact h _ (List.getElem_mem hl)
    · rw [List.getD_eq_getElem?_getD, List.getElem?_eq_none hl]; trivial
set_option maxHeartbeats 1000000 in
theorem value_c {w : World} {v : Value} {vs : List AV} (hv : Vs w v (vs.map AV.val)) (k : Int) : Calls Try.prog 28 #[v, .int .i64 k] w fun e w' => e = .returned (at_ vs k).val ∧ w = w' := by
  obtain ⟨A, n, c, rfl, hn, hc, hA⟩ := hv
  simp only [List.length_map] at hn
  unfold at_
  by_cases hk : k < 0
  · rw [if_pos hk]
    clear hA
    go_enter Try.func28, Try.ntmps28
    go_wp2
    go_ret
    exact ⟨rfl, rfl⟩
  · rw [if_neg hk]
    obtain ⟨j, rfl⟩ : ∃ j : Nat, k = j := ⟨k.toNat, by omega⟩
    rw [Int.toNat_natCast]
    by_cases hj : j < n
    · obtain ⟨ad, rfl, hcell⟩ := hA (by omega)
      have hj' : j < vs.length := by omega
      have hc1 := hcell j vs[j].val (by simp [hj'])
      rw [List.getD_eq_getElem?_getD, List.getElem?_eq_getElem hj', Option.getD_some]
      generalize vs[j] = a at *
      have hk1 : ¬ ((n : Int) ≤ j) := by omega
      have hk2 : ((j : Int) < n) := by omega
      clear hcell hA hj hj' hn
      generalize a.val = x at *
      go_enter Try.func28, Try.ntmps28
      go_wp2
      go_ret
      exact ⟨rfl, rfl⟩
    · rw [List.getD_eq_getElem?_getD, List.getElem?_eq_none (by omega), Option.getD_none]
      have hk1 : ((n : Int) ≤ j) := by omega
      clear hA hj hn
      go_enter Try.func28, Try.ntmps28
      go_wp2
      go_ret
      exact ⟨rfl, rfl⟩
set_option maxHeartbeats 1000000 in
theorem int_c {w : World} {v : Value} {vs : List AV} (hv : Vs w v (vs.map AV.val)) (ho : ∀ a ∈ vs, a.Ok) (k : Int) : Calls Try.prog 15 #[v, .int .i64 k] w fun e w' => e = .returned (.tuple #[.int .i64 (at_ vs k).int.1, .bool (at_ vs k).int.2]) ∧ w = w' := by
  have h1 := Lib.hid (value_c hv k)
  have h2 := Lib.hid (asInt_c (w := w) (at_ok ho k))
  clear hv ho
  go_enter Try.func15, Try.ntmps15
  go_wp2_with fail
  with_reducible refine h1.out.mono ?_
  rintro e w1 ⟨rfl, rfl⟩
  go_wp2_with fail
  with_reducible refine h2.out.mono ?_
  rintro e w1 ⟨rfl, rfl⟩
  go_wp2
  go_ret2
  exact ⟨rfl, rfl⟩
set_option maxHeartbeats 1000000 in
theorem text_c {w : World} {v : Value} {vs : List AV} (hv : Vs w v (vs.map AV.val)) (ho : ∀ a ∈ vs, a.Ok) (k : Int) : Calls Try.prog 16 #[v, .int .i64 k] w fun e w' => e = .returned (.tuple #[.string (at_ vs k).text.1, .bool (at_ vs k).text.2]) ∧ w = w' := by
  have h1 := Lib.hid (value_c hv k)
  have h2 := Lib.hid (asText_c (w := w) (at_ok ho k))
  clear hv ho
  go_enter Try.func16, Try.ntmps16
  go_wp2_with fail
  with_reducible refine h1.out.mono ?_
  rintro e w1 ⟨rfl, rfl⟩
  go_wp2_with fail
  with_reducible refine h2.out.mono ?_
  rintro e w1 ⟨rfl, rfl⟩
  go_wp2
  go_ret2
  exact ⟨rfl, rfl⟩
set_option maxHeartbeats 1000000 in
theorem flag_c {w : World} {v : Value} {vs : List AV} (hv : Vs w v (vs.map AV.val)) (ho : ∀ a ∈ vs, a.Ok) (k : Int) : Calls Try.prog 22 #[v, .int .i64 k] w fun e w' => e = .returned (.tuple #[.bool (at_ vs k).flag.1, .bool (at_ vs k).flag.2]) ∧ w = w' := by
  have h1 := Lib.hid (value_c hv k)
  have h2 := Lib.hid (asFlag_c (w := w) (at_ok ho k))
  clear hv ho
  go_enter Try.func22, Try.ntmps22
  go_wp2_with fail
  with_reducible refine h1.out.mono ?_
  rintro e w1 ⟨rfl, rfl⟩
  go_wp2_with fail
  with_reducible refine h2.out.mono ?_
  rintro e w1 ⟨rfl, rfl⟩
  go_wp2
  go_ret2
  exact ⟨rfl, rfl⟩
end Go.Proofs.Ytpapbmamkggfhaa
