/-
  The document's own values: I, S, B; refs of values.
-/
import Derived.Test.YtpapbmamkggfhaaCode8
namespace Go.Proofs.Ytpapbmamkggfhaa
set_option linter.unusedVariables false
set_option linter.unusedSimpArgs false
set_option maxRecDepth 20000
open Go.RowKit

/-- A value as the document's own: kind, number, text, flag. -/
def rv : AV → List Value
  | .i n => [.int .i64 1, .int .i64 n, .string ⟨#[]⟩, .bool false]
  | .s b => [.int .i64 2, .int .i64 0, .string b, .bool false]
  | .f b => [.int .i64 3, .int .i64 0, .string ⟨#[]⟩, .bool b]
  | _ => [.int .i64 0, .int .i64 0, .string ⟨#[]⟩, .bool false]
theorem length_rv (a : AV) : (rv a).length = 4 := by cases a <;> rfl
theorem one_rv (a : AV) : ∀ v ∈ rv a, v.oneCell' = true := by cases a <;> simp [rv, Value.oneCell']
def rvs (vs : List AV) : List Value := vs.flatMap rv
theorem length_rvs (vs : List AV) : (rvs vs).length = vs.length * 4 := by
  induction vs with
  | nil => rfl
  | cons a vs ih => simp only [rvs, List.flatMap_cons, List.length_append, length_rv, List.length_cons] at *; omega
theorem rvs_snoc (vs : List AV) (a : AV) : rvs (vs ++ [a]) = rvs vs ++ rv a := by simp [rvs]
theorem rvs_at : ∀ (vs : List AV) (k : Nat) (hk : k < vs.length), ((rvs vs).drop (k * 4)).take 4 = rv vs[k]
  | a :: vs, 0, _ => by
    simp only [rvs, List.flatMap_cons, Nat.zero_mul, List.drop_zero, List.getElem_cons_zero]
    rw [List.take_append_of_le_length (by rw [length_rv]; omega), List.take_of_length_le (by rw [length_rv]; omega)]
  | a :: vs, k + 1, hk => by
    simp only [List.length_cons] at hk
    have ih := rvs_at vs k (by omega)
    simp only [rvs, List.flatMap_cons, List.getElem_cons_succ] at *
    rw [show (k + 1) * 4 = (rv a).length + k * 4 by rw [length_rv]; omega, ← List.drop_drop, List.drop_append_of_le_length (Nat.le_refl _), List.drop_of_length_le (Nat.le_refl _), List.nil_append]
    exact ih
/-- A slice of such values in blocks of its own. -/
def IsRV (v : Value) (vs : List AV) (L : Blks) : Prop := IsRow 55 4 v vs.length (rvs vs) L
theorem isRV_nil : IsRV (.slice none 0 0) [] [] := ⟨rfl, .inl ⟨rfl, rfl, rfl⟩⟩
theorem IsRV.cast {v : Value} {xs ys : List AV} {L : Blks} (h : IsRV v xs L) (e : xs = ys) : IsRV v ys L := e ▸ h
theorem IsRV.val {v : Value} {vs : List AV} {L : Blks} (h : IsRV v vs L) : ∃ A c, v = .slice A vs.length c := IsRow.val h
theorem rv_info : (Try.prog.info? 55).map (fun i => (i.zero, i.size, i.bytes)) = some (some (.agg #[.int .i64 0, .int .i64 0, .string ⟨#[]⟩, .bool false]), 4, 40) := by kernel_rfl
section
variable {w0 w : World} {L R : Blks} {ops : Array Oper} {rest : List Oper} {op : Oper} {a : Act} {Q : Exit → Act → World → Prop}
theorem cells_new {w0 w : World} {R : Blks} (hO : Own w0 w R) (us : List Value) (t : TypeId) : ∀ j u, us[j]? = some u → (w.alloc (.cells us.toArray t)).cell? ((⟨w.heap.size, 0, none⟩ : Addr).add j) = some u := by
  intro j u hu
  rw [addr_add_zero, (hO.alloc _).cell (.head _) j]; simpa using hu
/-- append(out, x), behind the walk's own buildSlice. -/
theorem wl_appendR (hgd : op.guard = none) (s x : Operand)
    (ho : op.op = .call { callee := .builtin .append, args := #[s, x], argTypes := #[50, 50] })
    (v : Value) (vs : List AV) (hs : a.eval s = v) (hr : IsRV v vs L) (hO : Own w0 w (L ++ R))
    (ad : Addr) (b : AV) (hx : a.eval x = .slice (some ad) 1 1) (hV : ∀ j u, (rv b)[j]? = some u → w.cell? (ad.add j) = some u) (h63 : vs.length ≤ 1073741824)
    (h : ∀ v' w' L', IsRV v' (vs ++ [b]) L' → Own w0 w' (L' ++ R) → wpList Try.prog ops Q rest (a.put op.dst v') w') : wpList Try.prog ops Q (op :: rest) a w := by
  refine wl_append hgd s x _ ho _ _ 4 40 Try.underlying50 rv_info (by rfl) (by omega) v vs.length (rvs vs) hs hr hO ad 1 1 (rv b) hx (by rw [length_rv]) hV (one_rv b) (by simp only [maxLen]; omega) (by omega) ?_
  intro v' w' L' hr' hO' _
  refine h v' w' L' ?_ hO'
  unfold IsRV
  rw [List.length_append, rvs_snoc]
  exact hr'
end
theorem alloc_rv (w : World) : (Instr.alloc 55 true (.tuple #[])).run Try.prog w = .ok (.pointer (some ⟨w.heap.size, 0, none⟩)) (w.alloc (.cells (rv .z).toArray 55)) := by kernel_rfl
theorem rv_size : (Try.prog.info? 55).map (·.size) = some 4 := by kernel_rfl
/-- What I, S and B answer. -/
def GaveV (w0 : World) (R : Blks) (a : AV) (e : Ending) (w' : World) : Prop := e = .returned (.agg (rv a).toArray) ∧ Own w0 w' R
theorem refI_c {w0 w : World} {R : Blks} (hO : Own w0 w R) (n : Int) : Calls Try.prog 31 #[.int .i64 n] w (GaveV w0 R (.i n)) := by
  have HO := Lib.hid hO; clear hO
  go_enter Try.func31, Try.ntmps31
  go_wp2_with (first | (refine wl_alloc rfl _ rfl HO.out _ (alloc_rv _) ?_; intro g w1 hO1; have HO1 := Lib.hid hO1; clear hO1 HO) | (refine wl_store rfl _ _ _ rfl HO1.out 0 g 0 _ [Value.int .i64 1, Value.int .i64 n, Value.string ⟨#[]⟩, Value.bool false] _ rfl (by rfl) (by rfl) rv_size (one_rv (.i n)) (by simp [rv]) ?_; intro w3 hO3; have HO3 := Lib.hid hO3; clear hO3 HO1))
  have hO3 : Own w0 w3 ((g, .cells [Value.int .i64 1, Value.int .i64 n, Value.string ⟨#[]⟩, Value.bool false].toArray 55) :: R) := HO3.out
  have hc0 : w3.cell? ⟨g, 0, none⟩ = some (.int .i64 1) := hO3.cell (.head _) 0
  have hc1 : w3.cell? ⟨g, 1, none⟩ = some (.int .i64 n) := hO3.cell (.head _) 1
  have hc2 : w3.cell? ⟨g, 2, none⟩ = some (.string ⟨#[]⟩) := hO3.cell (.head _) 2
  have hc3 : w3.cell? ⟨g, 3, none⟩ = some (.bool false) := hO3.cell (.head _) 3
  exact bodyPost_ret (v := .agg [Value.int .i64 1, Value.int .i64 n, Value.string ⟨#[]⟩, Value.bool false].toArray) (by simp [results, Try.results31, go_sem, hc0, hc1, hc2, hc3]) rfl ⟨rfl, hO3.tail⟩
theorem refS_c {w0 w : World} {R : Blks} (hO : Own w0 w R) (n : ByteArray) : Calls Try.prog 32 #[.string n] w (GaveV w0 R (.s n)) := by
  have HO := Lib.hid hO; clear hO
  go_enter Try.func32, Try.ntmps32
  go_wp2_with (first | (refine wl_alloc rfl _ rfl HO.out _ (alloc_rv _) ?_; intro g w1 hO1; have HO1 := Lib.hid hO1; clear hO1 HO) | (refine wl_store rfl _ _ _ rfl HO1.out 0 g 0 _ [Value.int .i64 2, Value.int .i64 0, Value.string n, Value.bool false] _ rfl (by rfl) (by rfl) rv_size (one_rv (.s n)) (by simp [rv]) ?_; intro w3 hO3; have HO3 := Lib.hid hO3; clear hO3 HO1))
  have hO3 : Own w0 w3 ((g, .cells [Value.int .i64 2, Value.int .i64 0, Value.string n, Value.bool false].toArray 55) :: R) := HO3.out
  have hc0 : w3.cell? ⟨g, 0, none⟩ = some (.int .i64 2) := hO3.cell (.head _) 0
  have hc1 : w3.cell? ⟨g, 1, none⟩ = some (.int .i64 0) := hO3.cell (.head _) 1
  have hc2 : w3.cell? ⟨g, 2, none⟩ = some (.string n) := hO3.cell (.head _) 2
  have hc3 : w3.cell? ⟨g, 3, none⟩ = some (.bool false) := hO3.cell (.head _) 3
  exact bodyPost_ret (v := .agg [Value.int .i64 2, Value.int .i64 0, Value.string n, Value.bool false].toArray) (by simp [results, Try.results32, go_sem, hc0, hc1, hc2, hc3]) rfl ⟨rfl, hO3.tail⟩
theorem refB_c {w0 w : World} {R : Blks} (hO : Own w0 w R) (n : Bool) : Calls Try.prog 33 #[.bool n] w (GaveV w0 R (.f n)) := by
  have HO := Lib.hid hO; clear hO
  go_enter Try.func33, Try.ntmps33
  go_wp2_with (first | (refine wl_alloc rfl _ rfl HO.out _ (alloc_rv _) ?_; intro g w1 hO1; have HO1 := Lib.hid hO1; clear hO1 HO) | (refine wl_store rfl _ _ _ rfl HO1.out 0 g 0 _ [Value.int .i64 3, Value.int .i64 0, Value.string ⟨#[]⟩, Value.bool n] _ rfl (by rfl) (by rfl) rv_size (one_rv (.f n)) (by simp [rv]) ?_; intro w3 hO3; have HO3 := Lib.hid hO3; clear hO3 HO1))
  have hO3 : Own w0 w3 ((g, .cells [Value.int .i64 3, Value.int .i64 0, Value.string ⟨#[]⟩, Value.bool n].toArray 55) :: R) := HO3.out
  have hc0 : w3.cell? ⟨g, 0, none⟩ = some (.int .i64 3) := hO3.cell (.head _) 0
  have hc1 : w3.cell? ⟨g, 1, none⟩ = some (.int .i64 0) := hO3.cell (.head _) 1
  have hc2 : w3.cell? ⟨g, 2, none⟩ = some (.string ⟨#[]⟩) := hO3.cell (.head _) 2
  have hc3 : w3.cell? ⟨g, 3, none⟩ = some (.bool n) := hO3.cell (.head _) 3
  exact bodyPost_ret (v := .agg [Value.int .i64 3, Value.int .i64 0, Value.string ⟨#[]⟩, Value.bool n].toArray) (by simp [results, Try.results33, go_sem, hc0, hc1, hc2, hc3]) rfl ⟨rfl, hO3.tail⟩
/-- What refs answers. -/
def GotRV (w0 : World) (R : Blks) (vs : List AV) (e : Ending) (w' : World) : Prop := ∃ v L, e = .returned v ∧ IsRV v vs L ∧ Own w0 w' (L ++ R)
set_option maxHeartbeats 4000000 in
theorem refs_c {w0 w : World} {R : Blks} {v : Value} {vs : List AV} (hO : Own w0 w R) (hv : RdV w0 R v (vs.map AV.val)) (ho : ∀ a ∈ vs, a.Ok) (hl : vs.length ≤ 1073741824) :
    Calls Try.prog 20 #[v] w (GotRV w0 R vs) := by
  obtain ⟨A, c, e⟩ := (hv w [] hO).len
  simp only [List.length_map] at e
  subst e
  have HO := Lib.hid hO; have HV := Lib.hid hv; have HK := Lib.hid ho
  clear hO hv ho
  go_enter Try.func20, Try.ntmps20
  go_wp2
  generalize hN : vs.length = N at *
  have HN := Lib.hid hN; clear hN
  go_loopw [3, 12] (fun b t w' => ∃ k : Nat, k ≤ N ∧ t = .int .i64 (k : Int) ∧ Hid (∃ L', IsRV b (vs.take k) L' ∧ Own w0 w' (L' ++ R))) (fun _ t _ => N - (intOf t).toNat)
  case atStart => exact ⟨0, by omega, rfl, [], isRV_nil, HO.out⟩
  case round =>
    obtain ⟨k, hk, rfl, HB⟩ := hrel
    clear HO
    by_cases hlt : k < N
    · obtain ⟨L2, hv2, hO2⟩ := HB.out
      have hkv : k < vs.length := by rw [HN.out]; exact hlt
      obtain ⟨A', n', c', e, hn', hc', hA⟩ := HV.out _ _ hO2
      simp only [Value.slice.injEq] at e
      obtain ⟨rfl, rfl, rfl⟩ := e
      obtain ⟨ad, rfl, hcell⟩ := hA (by omega)
      have hc1 := hcell k vs[k].val (by simp [hkv])
      have hst : vs.take (k + 1) = vs.take k ++ [vs[k]] := List.take_succ_eq_append_getElem hkv
      have hok := HK.out _ (List.getElem_mem hkv)
      have hlk : (vs.take k).length ≤ 1073741824 := by simp; omega
      have HV2 := Lib.hid hv2; have HO2 := Lib.hid hO2; have HST := Lib.hid hst; have HLK := Lib.hid hlk
      have hkn : (k : Int) < N := by omega
      clear hv2 hO2 hcell hA hc' hn' HB hst hlk
      generalize vs[k] = x at *
      cases x with
      | i n =>
        have has := asI_yes wr (.int .i64 n)
        simp only [AV.val] at hc1
        go_wp2_with fail
        with_reducible refine (refI_c HO2.out n).mono ?_
        rintro e w3 ⟨rfl, hO3⟩
        have HO3 := Lib.hid hO3; clear hO3 HO2
        simp only [rv]
        go_wp2_with (refine wl_appendR rfl _ _ rfl _ (vs.take k) (by rfl) HV2.out (HO3.out.put2 _) _ (.i n) (by rfl) (cells_new HO3.out _ _) HLK.out ?_; intro v4 w4 L4 hv4 hO4; have HV4 := Lib.hid hv4; have HO4 := Lib.hid hO4.strike; clear hv4 hO4 HV2 HO3)
        go_roundw
        case rel => exact ⟨k + 1, by omega, by go_num, L4, HV4.out.cast HST.out.symm, HO4.out⟩
        case measure => simp [intOf]; omega
      | s b =>
        have has0 := asI_no wr 9 (.string b) (by decide)
        have has := asS_yes wr (.string b)
        simp only [AV.val] at hc1
        go_wp2_with fail
        with_reducible refine (refS_c HO2.out b).mono ?_
        rintro e w3 ⟨rfl, hO3⟩
        have HO3 := Lib.hid hO3; clear hO3 HO2
        simp only [rv]
        go_wp2_with (refine wl_appendR rfl _ _ rfl _ (vs.take k) (by rfl) HV2.out (HO3.out.put2 _) _ (.s b) (by rfl) (cells_new HO3.out _ _) HLK.out ?_; intro v4 w4 L4 hv4 hO4; have HV4 := Lib.hid hv4; have HO4 := Lib.hid hO4.strike; clear hv4 hO4 HV2 HO3)
        go_roundw
        case rel => exact ⟨k + 1, by omega, by go_num, L4, HV4.out.cast HST.out.symm, HO4.out⟩
        case measure => simp [intOf]; omega
      | f b =>
        have has0 := asI_no wr 4 (.bool b) (by decide)
        have has1 := asS_no wr 4 (.bool b) (by decide)
        have has := asB_yes wr (.bool b)
        simp only [AV.val] at hc1
        go_wp2_with fail
        with_reducible refine (refB_c HO2.out b).mono ?_
        rintro e w3 ⟨rfl, hO3⟩
        have HO3 := Lib.hid hO3; clear hO3 HO2
        simp only [rv]
        go_wp2_with (refine wl_appendR rfl _ _ rfl _ (vs.take k) (by rfl) HV2.out (HO3.out.put2 _) _ (.f b) (by rfl) (cells_new HO3.out _ _) HLK.out ?_; intro v4 w4 L4 hv4 hO4; have HV4 := Lib.hid hv4; have HO4 := Lib.hid hO4.strike; clear hv4 hO4 HV2 HO3)
        go_roundw
        case rel => exact ⟨k + 1, by omega, by go_num, L4, HV4.out.cast HST.out.symm, HO4.out⟩
        case measure => simp [intOf]; omega
      | z =>
        have has0 := asI_nil wr
        have has1 := asS_nil wr
        have has := asB_nil wr
        simp only [AV.val] at hc1
        go_wp2_with (refine wl_appendR rfl _ _ rfl _ (vs.take k) (by rfl) HV2.out (HO2.out.put2 _) _ .z (by rfl) (cells_new HO2.out _ _) HLK.out ?_; intro v4 w4 L4 hv4 hO4; have HV4 := Lib.hid hv4; have HO4 := Lib.hid hO4.strike; clear hv4 hO4 HV2 HO2)
        go_roundw
        case rel => exact ⟨k + 1, by omega, by go_num, L4, HV4.out.cast HST.out.symm, HO4.out⟩
        case measure => simp [intOf]; omega
      | o t x =>
        have has0 := asI_no wr t x hok.1
        have has1 := asS_no wr t x hok.2.1
        have has := asB_no wr t x hok.2.2
        simp only [AV.val] at hc1
        clear hok
        go_wp2_with (refine wl_appendR rfl _ _ rfl _ (vs.take k) (by rfl) HV2.out (HO2.out.put2 _) _ (.o t x) (by rfl) (cells_new HO2.out _ _) HLK.out ?_; intro v4 w4 L4 hv4 hO4; have HV4 := Lib.hid hv4; have HO4 := Lib.hid hO4.strike; clear hv4 hO4 HV2 HO2)
        go_roundw
        case rel => exact ⟨k + 1, by omega, by go_num, L4, HV4.out.cast HST.out.symm, HO4.out⟩
        case measure => simp [intOf]; omega
    · obtain rfl : k = N := by omega
      go_wp2
      go_ret
      obtain ⟨L2, hv2, hO2⟩ := HB.out
      rw [List.take_of_length_le (by rw [HN.out]; omega)] at hv2
      exact ⟨_, L2, rfl, hv2, hO2⟩
end Go.Proofs.Ytpapbmamkggfhaa
