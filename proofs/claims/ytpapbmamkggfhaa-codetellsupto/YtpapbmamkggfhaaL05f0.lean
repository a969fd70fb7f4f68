/-
  For CodeTells: bytes that came in, a byte turned, what Values makes, comparing the document's values.
-/
import Derived.Test.YtpapbmamkggfhaaRef7
import Derived.Test.YtpapbmamkggfhaaL05a
import Derived.OpenShut
namespace Go.Proofs.Ytpapbmamkggfhaa
set_option linter.unusedVariables false
set_option linter.unusedSimpArgs false
set_option maxRecDepth 20000
open Go.ChangeShapes Go.WideShapes Go.ChangeAt Go.RowKit

theorem Rd.grow {w0 : World} {R R' : Blks} {v : Value} {xs : List Int} (h : Rd w0 R v xs) (hs : R.Sublist R') : Rd w0 R' v xs := fun w' L' hO => h w' [] (hO.right.sub hs)
theorem InRow.rdb {w : World} {v : Value} {xs : List Int} (h : InRow .u8 w v xs) (R : Blks) : Rd w R v xs := by
  intro w' L' hO
  obtain ⟨A, n, c, rfl, hn, hc, _, _, hA⟩ := h
  refine ⟨_, _, _, rfl, hn, hc, fun h => ?_⟩
  obtain ⟨ad, rfl, hb, hcell⟩ := hA h
  refine ⟨ad, rfl, fun j x hx => ?_⟩
  rw [hO.below.cell (by rw [block_of_add]; exact hb)]
  exact hcell j x hx
theorem InRow.bytb {w : World} {v : Value} {xs : List Int} (h : InRow .u8 w v xs) : Byt xs := by
  obtain ⟨A, n, c, rfl, hn, hc, _, hw, hA⟩ := h
  exact fun x hx => bounds_u8 (hw x hx)
theorem xor_byt {x c : Int} (hx : 0 ≤ x ∧ x ≤ 255) (hc : 0 ≤ c ∧ c ≤ 255) : 0 ≤ bits .xor .u8 x c ∧ bits .xor .u8 x c ≤ 255 := by
  rw [u8_xor x c hx.1 (by omega) hc.1 (by omega)]
  have h := Nat.xor_lt_two_pow (x := x.toNat) (y := c.toNat) (n := 8) (by omega) (by omega)
  omega
theorem byt_set {xs : List Int} (h : Byt xs) (j : Nat) {x : Int} (hx : 0 ≤ x ∧ x ≤ 255) : Byt (xs.set j x) := by
  intro y hy
  rcases List.mem_or_eq_of_mem_set hy with hy | rfl
  · exact h y hy
  · exact hx
theorem IsVals.okay {xs : List Int} {s : ByteArray} {bad : Int} {vs : List AV} (h : IsVals xs s bad vs) (hw : ∀ x ∈ xs, (Lit.int .i64 x).wf = true) : (∀ a ∈ vs, a.Ok) ∧ vs.length ≤ 9 := by
  obtain ⟨k, tl, hk, rfl, rfl | ⟨h2, x, rfl, hx, _⟩⟩ := h
  · rw [List.append_nil]; exact ⟨valsK_ok hw s k, by rw [length_valsK]; omega⟩
  · refine ⟨fun a ha => ?_, by rw [List.length_append, length_valsK]; simp; omega⟩
    rcases List.mem_append.1 ha with ha | ha
    · exact valsK_ok hw s k a ha
    · rw [List.mem_singleton] at ha; subst ha; exact hx
/-- Both answers of an Encode: bytes, or none; the slice in blocks of its own. -/
theorem both_enc {w0 w' : World} {R : Blks} {o : Option (List Int)} {e : Ending} (h : GotEnc w0 R o e w') : ∃ v L, e = .returned (.tuple #[v, .int .i64 (if o.isSome then 0 else 1)]) ∧ IsBytes v (o.getD []) L ∧ Own w0 w' (L ++ R) := by
  rcases h with ⟨bs, v, L, rfl, rfl, hv, hO⟩ | ⟨rfl, rfl, hO⟩
  · exact ⟨v, L, rfl, hv, hO⟩
  · exact ⟨_, [], rfl, isBytes_nil, hO⟩
theorem both_renc {w0 w' : World} {R : Blks} {o : Option (List Int)} {e : Ending} (h : GotREnc w0 R o e w') : ∃ v L, e = .returned (.tuple #[v, .bool o.isSome]) ∧ IsBytes v (o.getD []) L ∧ Own w0 w' (L ++ R) := by
  rcases h with ⟨bs, v, L, rfl, rfl, hv, hO⟩ | ⟨rfl, rfl, hO⟩
  · exact ⟨v, L, rfl, hv, hO⟩
  · exact ⟨_, [], rfl, isBytes_nil, hO⟩
theorem both_dec {w0 w' : World} {R : Blks} {o : Option (List AV)} {e : Ending} (h : GotDec w0 R o e w') : ∃ v L, e = .returned (.tuple #[v, .int .i64 (if o.isSome then 0 else 2)]) ∧ IsAny v (o.getD []) L ∧ (∀ a ∈ o.getD [], a.Ok) ∧ Own w0 w' (L ++ R) := by
  rcases h with ⟨vs, v, L, rfl, ho, rfl, hv, hO⟩ | ⟨rfl, rfl, hO⟩
  · exact ⟨v, L, rfl, hv, ho, hO⟩
  · exact ⟨_, [], rfl, isAny_nil, by simp, hO⟩
theorem both_rdec {w0 w' : World} {R : Blks} {o : Option (List AV)} {e : Ending} (h : GotRDec w0 R o e w') : ∃ v L, e = .returned (.tuple #[v, .bool o.isSome]) ∧ IsRV v (o.getD []) L ∧ Own w0 w' (L ++ R) := by
  rcases h with ⟨vs, v, L, rfl, rfl, hv, hO⟩ | ⟨rfl, rfl, hO⟩
  · exact ⟨v, L, rfl, hv, hO⟩
  · exact ⟨_, [], rfl, isRV_nil, hO⟩
theorem getD_byts {o : Option (List Int)} (h : ∀ bs, o = some bs → Byt bs) : Byt (o.getD []) := by
  cases o with
  | none => intro x hx; cases hx
  | some b => exact h b rfl
/-- The law's own comparison of two answers that say the same. -/
theorem decF_len : ∀ (f : Nat) (xs : List Int) (vs : List AV), decF f xs = some vs → vs.length ≤ xs.length
  | f, [], vs, h => by cases f <;> (simp only [decF, Option.some.injEq] at h; subst h; simp)
  | 0, _ :: _, vs, h => by simp [decF] at h
  | f + 1, c :: q, vs, h => by
    simp only [decF] at h
    cases hd : dec1 (c :: q) with
    | none => simp [hd] at h
    | some p =>
      have hlt := (dec1_ok (a := p.1) (r := p.2) hd).2.1
      cases hr : decF f p.2 with
      | none => simp [hd, hr] at h
      | some l =>
        simp [hd, hr] at h
        subst h
        have := decF_len f p.2 l hr
        simp only [List.length_cons] at *
        omega
theorem decL_len {xs : List Int} : ((decL xs).getD []).length ≤ xs.length := by
  cases h : decL xs with
  | none => simp
  | some vs => exact decF_len _ _ _ h
theorem ne_rv (W : World) (a : AV) : (binOp .neq 55 (.agg (rv a).toArray) (.agg (rv a).toArray)).run Try.prog W = .ok (.bool false) W ∧ (eqGuard .neq 55 (.tmp 130) (.tmp 134) (.agg (rv a).toArray) (.agg (rv a).toArray)).run Try.prog W = .ok () W := by
  cases a with
  | i n => exact ⟨by simp only [rv]; go_simp, by simp only [rv]; go_simp⟩
  | s n => exact ⟨by simp only [rv]; go_simp, by simp only [rv]; go_simp⟩
  | f n => exact ⟨by simp only [rv]; go_simp, by simp only [rv]; go_simp⟩
  | z => exact ⟨by simp only [rv]; go_simp, by simp only [rv]; go_simp⟩
  | o t n => exact ⟨by simp only [rv]; go_simp, by simp only [rv]; go_simp⟩
end Go.Proofs.Ytpapbmamkggfhaa
