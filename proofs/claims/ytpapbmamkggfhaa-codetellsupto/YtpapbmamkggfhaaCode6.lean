/-
  Package code: Decode.
-/
import Derived.Test.YtpapbmamkggfhaaCode5
namespace Go.Proofs.Ytpapbmamkggfhaa
set_option linter.unusedVariables false
set_option linter.unusedSimpArgs false
set_option maxRecDepth 20000
open Go.RowKit

def decF : Nat → List Int → Option (List AV)
  | _, [] => some []
  | 0, _ => none
  | f + 1, xs => (dec1 xs).bind fun p => (decF f p.2).map fun l => p.1 :: l
/-- The values of bytes. -/
def decL (xs : List Int) : Option (List AV) := decF xs.length xs
theorem i64_wf (n : Int) : (Lit.int .i64 (IntKind.i64.wrap n)).wf = true := by
  simp only [Lit.wf]
  rw [IntKind.wrap_i64]
  simp only [IntKind.min, IntKind.max, IntKind.bits, IntKind.signed]
  simp
  omega
theorem dec1_ok {xs r : List Int} {a : AV} (h : dec1 xs = some (a, r)) : a.Ok ∧ r.length < xs.length ∧ ∃ k, r = xs.drop k := by
  cases xs with
  | nil => cases h
  | cons c q =>
    rw [dec1_eq] at h
    split at h
    · unfold decInt at h
      split at h
      · cases h
      · simp only [Option.some.injEq, Prod.mk.injEq] at h
        obtain ⟨rfl, rfl⟩ := h
        exact ⟨i64_wf _, by simp; omega, 9, by simp⟩
    · split at h
      · cases q with
        | nil => cases h
        | cons m q =>
          simp only [decText] at h
          split at h
          · cases h
          · simp only [Option.some.injEq, Prod.mk.injEq] at h
            obtain ⟨rfl, rfl⟩ := h
            exact ⟨trivial, by simp; omega, m.toNat + 2, by simp⟩
      · split at h
        · simp only [Option.some.injEq, Prod.mk.injEq] at h
          obtain ⟨rfl, rfl⟩ := h
          exact ⟨trivial, by simp, 1, by simp⟩
        · split at h
          · simp only [Option.some.injEq, Prod.mk.injEq] at h
            obtain ⟨rfl, rfl⟩ := h
            exact ⟨trivial, by simp, 1, by simp⟩
          · cases h
theorem dec1_iface {xs r : List Int} {a : AV} (h : dec1 xs = some (a, r)) : ∃ t v, a.val = .iface t v := by
  cases a with
  | i n => exact ⟨_, _, rfl⟩
  | s b => exact ⟨_, _, rfl⟩
  | f b => exact ⟨_, _, rfl⟩
  | o t v => exact ⟨_, _, rfl⟩
  | z =>
    exfalso
    cases xs with
    | nil => cases h
    | cons c q =>
      rw [dec1_eq] at h
      split at h
      · unfold decInt at h
        split at h <;> cases h
      · split at h
        · cases q with
          | nil => cases h
          | cons m q =>
            simp only [decText] at h
            split at h <;> cases h
        · split at h
          · cases h
          · split at h <;> cases h
theorem decF_any : ∀ (f g : Nat) (xs : List Int), xs.length ≤ f → xs.length ≤ g → decF f xs = decF g xs
  | f, g, [], _, _ => by cases f <;> cases g <;> rfl
  | 0, _, c :: q, h, _ => by simp at h
  | f + 1, 0, c :: q, _, h => by simp at h
  | f + 1, g + 1, c :: q, hf, hg => by
    simp only [decF]
    cases hd : dec1 (c :: q) with
    | none => rfl
    | some p =>
      have hlt := (dec1_ok (a := p.1) (r := p.2) hd).2.1
      simp only [List.length_cons] at hlt hf hg
      simp only [Option.bind_some]
      rw [decF_any f g p.2 (by omega) (by omega)]
theorem decL_nil : decL [] = some [] := rfl
theorem decL_step {xs r : List Int} {a : AV} (h : dec1 xs = some (a, r)) : decL xs = (decL r).map fun l => a :: l := by
  have hlt := (dec1_ok h).2.1
  cases xs with
  | nil => cases h
  | cons c q =>
    unfold decL
    simp only [List.length_cons, decF, h, Option.bind_some]
    simp only [List.length_cons] at hlt
    rw [decF_any q.length r.length r (by omega) (Nat.le_refl _)]
theorem decL_fail {c : Int} {q : List Int} (h : dec1 (c :: q) = none) : decL (c :: q) = none := by
  unfold decL
  simp only [List.length_cons, decF, h, Option.bind_none]
theorem any_info : (Try.prog.info? 20).map (fun i => (i.zero, i.size, i.bytes)) = some (some .nilIface, 1, 16) := by kernel_rfl
/-- A slice of values in blocks of its own. -/
def IsAny (v : Value) (vs : List AV) (L : Blks) : Prop := IsRow 20 1 v vs.length (vs.map AV.val) L
theorem isAny_nil : IsAny (.slice none 0 0) [] [] := ⟨rfl, .inl ⟨rfl, rfl, rfl⟩⟩
theorem IsAny.cast {v : Value} {xs ys : List AV} {L : Blks} (h : IsAny v xs L) (e : xs = ys) : IsAny v ys L := e ▸ h
theorem IsAny.val {v : Value} {vs : List AV} {L : Blks} (h : IsAny v vs L) : ∃ A c, v = .slice A vs.length c := IsRow.val h
theorem IsAny.vs {w0 w : World} {v : Value} {vs : List AV} {L R : Blks} (h : IsAny v vs L) (hO : Own w0 w (L ++ R)) : Vs w v (vs.map AV.val) := by
  rcases h.2 with ⟨rfl, hn, rfl⟩ | ⟨g, cap, sp, rfl, rfl, hl, hn, hm⟩
  · exact ⟨_, _, _, rfl, by simpa using hn, Nat.le_refl _, fun h => absurd h (by omega)⟩
  · refine ⟨_, _, _, rfl, by simp, hn, fun _ => ⟨_, rfl, fun j x hx => ?_⟩⟩
    rw [addr_add_zero, hO.cell (.head _) j]
    have hj : j < (vs.map AV.val).length := (List.getElem?_eq_some_iff.1 hx).1
    simp only [List.getElem?_toArray]
    rw [List.getElem?_append_left hj]
    exact hx
theorem IsAny.rdv {w0 : World} {v : Value} {vs : List AV} {L R : Blks} (h : IsAny v vs L) (hs : L.Sublist R) : RdV w0 R v (vs.map AV.val) := by
  intro w' L' hO
  have h1 : Own w0 w' L := hO.right.sub hs
  exact h.vs (R := []) (by rw [List.append_nil]; exact h1)
theorem vs_any1 {w0 w : World} {R : Blks} (hO : Own w0 w R) (x : Value) : Vs (w.alloc (.cells [x].toArray 20)) (.slice (some ⟨w.heap.size, 0, none⟩) 1 1) [x] :=
  ⟨_, _, _, rfl, rfl, Nat.le_refl _, fun _ => ⟨_, rfl, fun j u hu => by rw [addr_add_zero, (hO.alloc _).cell (.head _) j]; simpa using hu⟩⟩
theorem build_any1 (a : AV) (w : World) : (Instr.buildSlice 22 1 #[(0, a.val)]).run Try.prog w = .ok (.slice (some ⟨w.heap.size, 0, none⟩) 1 1) (w.alloc (.cells [a.val].toArray 20)) := by
  cases a <;> kernel_rfl
section
variable {w0 w : World} {L R : Blks} {ops : Array Oper} {rest : List Oper} {op : Oper} {a : Act} {Q : Exit → Act → World → Prop}
/-- append(v, x), behind the walk's own buildSlice. -/
theorem wl_appendA (hgd : op.guard = none) (s x : Operand)
    (ho : op.op = .call { callee := .builtin .append, args := #[s, x], argTypes := #[22, 22] })
    (v : Value) (vs : List AV) (hs : a.eval s = v) (hr : IsAny v vs L) (hO : Own w0 w (L ++ R))
    (xv : Value) (us : List AV) (hx : a.eval x = xv) (hV : Vs w xv (us.map AV.val)) (h63 : vs.length + us.length ≤ 1073741825)
    (h : ∀ v' w' L', IsAny v' (vs ++ us) L' → Own w0 w' (L' ++ R) → wpList Try.prog ops Q rest (a.put op.dst v') w') : wpList Try.prog ops Q (op :: rest) a w := by
  refine wl_appendV hgd s x _ ho _ _ 16 Try.underlying22 any_info (by rfl) v vs.length (vs.map AV.val) hs hr hO xv (us.map AV.val) hx hV (one_avs _) (by simp only [List.length_map, maxLen]; omega) (by simp only [List.length_map]; omega) ?_
  intro v' w' L' hr' hO'
  refine h v' w' L' ?_ hO'
  unfold IsAny
  rw [List.length_append, List.map_append]
  simpa using hr'
end
def slen : Value → Nat
  | .slice _ n _ => n
  | _ => 0
/-- What Decode answers. -/
def GotDec (w0 : World) (R : Blks) (o : Option (List AV)) (e : Ending) (w' : World) : Prop :=
  (∃ vs v L, o = some vs ∧ (∀ a ∈ vs, a.Ok) ∧ e = .returned (.tuple #[v, .int .i64 0]) ∧ IsAny v vs L ∧ Own w0 w' (L ++ R)) ∨ (o = none ∧ e = .returned (.tuple #[.slice none 0 0, .int .i64 2]) ∧ Own w0 w' R)
/-- A round of Decode's loop: the values told, the bytes that are left. -/
def DState (w0 : World) (R : Blks) (xs : List Int) (t v : Value) (w' : World) : Prop :=
  ∃ vs ys L, IsAny v vs L ∧ Own w0 w' (L ++ R) ∧ Rd w0 R t ys ∧ Byt ys ∧ vs.length + ys.length ≤ xs.length ∧ (∀ a ∈ vs, a.Ok) ∧ decL xs = (decL ys).map fun l => vs ++ l
set_option maxHeartbeats 4000000 in
theorem decode_c {w0 w : World} {R : Blks} {v : Value} {xs : List Int} (hO : Own w0 w R) (hv : Rd w0 R v xs) (hB : Byt xs) (hl : xs.length ≤ 1073741824) :
    Calls Try.prog 9 #[v] w (GotDec w0 R (decL xs)) := by
  have HO := Lib.hid hO; have HV := Lib.hid hv; have HB := Lib.hid hB
  clear hO hv hB
  go_enter Try.func9, Try.ntmps9
  go_wp2
  go_loopw [0, 4] (fun t b w' => DState w0 R xs t b w') (fun t _ _ => slen t)
  case atStart => exact ⟨[], xs, [], isAny_nil, HO.out, HV.out, HB.out, by simp, by simp, by cases decL xs <;> simp⟩
  case round =>
    obtain ⟨vs, ys, L2, hv2, hO2, hr2, hB2, hl2, hok2, hd2⟩ := hrel
    clear HO HV HB
    obtain ⟨A, n, c, rfl, hn, hc, hA⟩ := hr2 _ _ hO2
    have HV2 := Lib.hid hv2; have HO2 := Lib.hid hO2; have HOK := Lib.hid hok2; have HD := Lib.hid hd2; have HN := Lib.hid hn; have HL2 := Lib.hid hl2
    by_cases h0 : n = 0
    · subst h0
      have hy : ys = [] := List.eq_nil_of_length_eq_zero hn
      have HY := Lib.hid hy
      clear hv2 hO2 hr2 hB2 hl2 hok2 hd2 hA hn hy
      go_wp2
      go_ret2
      have := HD.out
      rw [HY.out, decL_nil] at this
      exact .inl ⟨vs, _, L2, by rw [this]; simp, HOK.out, rfl, HV2.out, HO2.out⟩
    · have hcut := Lib.hid (cut_c hO2.right hr2 hB2 (by omega) (by omega))
      have hpos : (0 : Int) < n := by omega
      have HB2 := Lib.hid hB2
      clear hv2 hO2 hr2 hB2 hl2 hok2 hd2 hA hn
      go_wp2_with fail
      with_reducible refine hcut.out.mono ?_
      clear hcut
      rintro e w1 ⟨⟨a, zs, v1, ho, rfl, hr1⟩ | ⟨ho, rfl⟩, k, rfl⟩
      · have hD1 := dec1_ok ho
        have hlt : zs.length < n := by have := HN.out; omega
        have hBz : Byt zs := by obtain ⟨j, e⟩ := hD1.2.2; rw [e]; exact byt_drop HB2.out j
        have hdec : decL xs = (decL zs).map fun l => (vs ++ [a]) ++ l := by
          rw [HD.out, decL_step ho]
          cases decL zs <;> simp
        obtain ⟨A1, c1, rfl, -⟩ := (hr1 wr [] HO2.out.right).len
        have hvl : vs.length + 1 ≤ 1073741825 := by have := HL2.out; omega
        have hsum : (vs ++ [a]).length + zs.length ≤ xs.length := by have := HL2.out; have := HN.out; simp only [List.length_append, List.length_singleton]; omega
        have hoks : ∀ b ∈ vs ++ [a], b.Ok := by
          intro b hb
          rcases List.mem_append.1 hb with hb | hb
          · exact HOK.out b hb
          · rw [List.mem_singleton] at hb; subst hb; exact hD1.1
        have HDEC := Lib.hid hdec; have HBZ := Lib.hid hBz; have HR1 := Lib.hid hr1; have HLT := Lib.hid hlt; have HSUM := Lib.hid hsum; have HOKS := Lib.hid hoks
        obtain ⟨ta, va, hav⟩ := dec1_iface ho
        rw [hav]
        have HAV := Lib.hid hav
        clear hav
        clear ho hr1 hD1 hlt hBz hdec hsum hoks HD HOK HB2 HN
        simp only []
        have HO3 := Lib.hid (HO2.out.drewN k)
        clear HO2
        generalize wr.drewN k = w3 at *
        go_wp2_with (refine wl_appendA rfl _ _ rfl _ vs (by rfl) HV2.out (HO3.out.put2 _) (.slice (some ⟨_, 0, none⟩) 1 1) [a] (by rfl) (by rw [show [a].map AV.val = [Value.iface ta va] by simp [HAV.out]]; exact vs_any1 HO3.out _) (by simpa using hvl) ?_; intro v4 w4 L4 hv4 hO4; have HV4 := Lib.hid hv4; have HO4 := Lib.hid hO4.strike; clear hv4 hO4 HV2 HO3)
        go_roundw
        case rel => exact ⟨vs ++ [a], zs, L4, HV4.out, HO4.out, HR1.out, HBZ.out, HSUM.out, HOKS.out, HDEC.out⟩
        case measure => exact HLT.out
      · have HN' := Lib.hid ho; clear ho
        simp only []
        have HO3 := Lib.hid (HO2.out.drewN k)
        generalize wr.drewN k = w3 at *
        go_wp2
        go_ret2
        refine .inr ⟨?_, rfl, HO3.out.right⟩
        rw [HD.out]
        obtain ⟨y, zs, rfl⟩ : ∃ y zs, ys = y :: zs := by cases ys with | nil => have := HN.out; simp at this; omega | cons y zs => exact ⟨y, zs, rfl⟩
        rw [decL_fail HN'.out]; rfl
end Go.Proofs.Ytpapbmamkggfhaa
