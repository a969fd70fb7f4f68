/-
  Package disk: Write at all arguments; Read; slices.Clone of bytes.
-/
import Derived.Test.YtelboocnenaicaaDisk3
namespace Go.Proofs.Ytelboocnenaicaa
set_option linter.unusedVariables false
set_option linter.unusedSimpArgs false
set_option maxRecDepth 20000
open Go.RowKit

def DSt.write (s : DSt) (i : Int) (xs : List Int) : DSt :=
  if s.refuse i ≠ 0 then s else if xs.length ≠ 32 then s else if s.left = 0 then s.spend else { s.spend with pend := s.pend ++ [(i.toNat, xs)] }
def DSt.writeE (s : DSt) (i : Int) (xs : List Int) : Int :=
  if s.refuse i ≠ 0 then s.refuse i else if xs.length ≠ 32 then 1 else if s.left = 0 then 8 else 0
section
variable {w0 w : World} {d : Value} {s : DSt} {L R : Blks}
set_option maxHeartbeats 1000000 in
theorem write_c (hd : IsDisk d s L) (hO : Own w0 w (L ++ R)) (i : Int) (v : Value) (xs : List Int) (hb : Rd w0 R v xs) (hpl : s.pend.length < 1000000) :
    Calls Try.prog 7 #[d, .int .i64 i, v] w (HasDisk w0 R d (s.write i xs) (.int .i64 (s.writeE i xs))) := by
  by_cases h0 : s.refuse i = 0
  · by_cases hx : xs.length = 32
    · by_cases hl : s.left = 0
      · rw [show s.write i xs = s.spend by simp [DSt.write, h0, hx, hl], show s.writeE i xs = 8 by simp [DSt.writeE, h0, hx, hl]]
        have hrf := Lib.hid (refusal_c hd hO i)
        have hsp := Lib.hid (spend_c hd hO)
        obtain ⟨A, n, c, rfl, hn, _, _⟩ := hb w L hO
        obtain rfl : n = 32 := by omega
        rw [h0] at hrf
        rw [show decide (s.left ≠ 0) = false by simp [hl]] at hsp
        clear hb hx h0 hl hn
        go_enter Try.func7, Try.ntmps7
        go_wp2_with (go_at_call 18; refine (hrf.out).mono ?_; rintro e w' ⟨rfl, rfl⟩)
        refine (hsp.out).mono ?_
        rintro e w1 ⟨rfl, hq⟩
        have HQ := Lib.hid hq
        clear hq
        go_wp2
        go_ret
        exact ⟨rfl, HQ.out⟩
      · rw [show s.write i xs = { s.spend with pend := s.pend ++ [(i.toNat, xs)] } by simp [DSt.write, h0, hx, hl], show s.writeE i xs = 0 by simp [DSt.writeE, h0, hx, hl]]
        obtain ⟨_, hi0, hin⟩ := refuse_zero h0
        obtain ⟨k, rfl⟩ := Int.eq_ofNat_of_zero_le hi0
        rw [Int.toNat_natCast]
        exact write_ok hd hO k v xs hb hpl h0 hx hl
    · rw [show s.write i xs = s by simp [DSt.write, h0, hx], show s.writeE i xs = 1 by simp [DSt.writeE, h0, hx]]
      have hrf := Lib.hid (refusal_c hd hO i)
      have HD := Lib.hid hd
      have HO := Lib.hid hO
      obtain ⟨A, n, c, rfl, hn, _, _⟩ := hb w L hO
      have hne : ((n : Int) != 32) = true := by rw [bne_iff_ne]; omega
      rw [h0] at hrf
      clear hb hx h0 hn hd hO
      go_enter Try.func7, Try.ntmps7
      go_wp2_with (go_at_call 18; refine (hrf.out).mono ?_; rintro e w' ⟨rfl, rfl⟩)
      go_ret
      exact ⟨rfl, _, HD.out, HO.out⟩
  · rw [show s.write i xs = s by simp [DSt.write, h0], show s.writeE i xs = s.refuse i by simp [DSt.writeE, h0]]
    have hrf := Lib.hid (refusal_c hd hO i)
    have HD := Lib.hid hd
    have HO := Lib.hid hO
    have hne : (s.refuse i != 0) = true := by rw [bne_iff_ne]; exact h0
    clear hb h0 hd hO
    go_enter Try.func7, Try.ntmps7
    go_wp2_with (go_at_call 18; refine (hrf.out).mono ?_; rintro e w' ⟨rfl, rfl⟩)
    go_ret
    exact ⟨rfl, _, HD.out, HO.out⟩

/-- A row of the call's own is handed back. -/
def GotRow (w0 : World) (R : Blks) (t : TypeId) (size n : Nat) (vs : List Value) (e : Ending) (w' : World) : Prop :=
  ∃ v L, e = .returned v ∧ IsRow t size v n vs L ∧ v ≠ .slice none 0 0 ∧ Own w0 w' (L ++ R)
set_option maxHeartbeats 1000000 in
theorem clone_bytes (hO : Own w0 w R) (ad : Addr) (n c : Nat) (vs : List Value) (hl : vs.length = n * 1) (h1 : ∀ u ∈ vs, u.oneCell' = true) (hn : n ≤ 1073741824)
    (hsrc : ∀ w' L', Own w0 w' (L' ++ R) → ∀ j u, vs[j]? = some u → w'.cell? (ad.add j) = some u) :
    Calls Try.prog 20 #[.slice (some ad) n c] w (GotRow w0 R 5 1 n vs) := by
  have heq := Lib.run_eql_slice_nil (P := Try.prog) w 27 _ (some ad) n c 0 0 Try.underlying27
  have HL := Lib.hid hl
  have HS := Lib.hid hsrc
  have H1 := Lib.hid h1
  have HO := Lib.hid hO
  clear hsrc hO hl h1
  go_enter Try.func20, Try.ntmps20
  go_wp2_with (first | (refine wl_buildSlice rfl _ _ _ rfl HO.out (.cells [].toArray 5) (by kernel_rfl) ?_; intro g w1 hO1; have HO1 := Lib.hid hO1; clear hO1) | (refine wl_append rfl _ _ _ rfl _ _ 1 1 Try.underlying27 byte_info (by rfl) (by omega) (.slice (some ⟨g, 0, none⟩) 0 0) 0 [] (by rfl) (L := [(g, .cells [].toArray 5)]) (R := R) ⟨rfl, .inr ⟨g, 0, [], rfl, rfl, by simp, Nat.le_refl _, by simp [maxLen]⟩⟩ (by exact HO1.out) ad n c vs (by rfl) HL.out (HS.out w1 [_] HO1.out) H1.out (by simp only [maxLen]; omega) (by omega) ?_; intro v' w2 L2 hr2 hO2 hv2; have HR2 := Lib.hid hr2; have HV2 := Lib.hid hv2; have HO2 := Lib.hid hO2; clear hr2 hv2 hO2))
  go_ret
  refine ⟨v', L2, rfl, ?_, fun e => ?_, HO2.out⟩
  · have := HR2.out
    rwa [Nat.zero_add, List.nil_append] at this
  · have := HV2.out e
    cases this

def DSt.readE (s : DSt) (i : Int) : Int := s.refuse i
/-- What Read answers: nothing beside an error. -/
def GotRead (w0 : World) (R : Blks) (d : Value) (s : DSt) (i : Int) (e : Ending) (w' : World) : Prop :=
  ∃ v Lv L, e = .returned (.tuple #[v, .int .i64 (s.refuse i)]) ∧ IsDisk d s L ∧ Own w0 w' (Lv ++ (L ++ R)) ∧ IsBytes v (if s.refuse i = 0 then s.la.getD i.toNat [] else []) Lv
set_option maxHeartbeats 1000000 in
theorem read_c (hd : IsDisk d s L) (hO : Own w0 w (L ++ R)) (i : Int) : Calls Try.prog 8 #[d, .int .i64 i] w (GotRead w0 R d s i) := by
  by_cases h0 : s.refuse i = 0
  · have hrf := Lib.hid (refusal_c hd hO i)
    rw [h0] at hrf
    obtain ⟨_, hi0, hin⟩ := refuse_zero h0
    obtain ⟨k, rfl⟩ := Int.eq_ofNat_of_zero_le hi0
    have HD := Lib.hid hd
    obtain ⟨ok, bd, bf, bl, cf, cl, sf, sl, pv, pb, rfl, hp, hcf, hcl, rfl⟩ := hd
    have hc1 : w.cell? ⟨bd, 1, none⟩ = some (.slice (some ⟨bl, 0, none⟩) s.n cl) := hO.cell (.head _) 1
    have hlal : s.la.length = s.n := s.length_la
    have hk : k < s.la.length := by omega
    have hrow := ok.larow s.la[k] (List.getElem_mem hk)
    have htk : ∀ j u, (bv (s.la[k]))[j]? = some u → (secs s.la ++ sl)[k * 32 + j]? = some u := by
      intro j u hu
      have hj : j < 32 := by have := (List.getElem?_eq_some_iff.1 hu).1; simp only [length_bv] at this; omega
      have hlen := length_secs _ ok.larow
      rw [List.getElem?_append_left (by omega)]
      rw [← secs_take k s.la ok.larow hk] at hu
      rw [List.getElem?_take_of_lt hj, List.getElem?_drop] at hu
      exact hu
    have hcl := Lib.hid (clone_bytes hO ⟨bl, k * 32, none⟩ 32 32 (bv (s.la[k])) (by simp [hrow]) (one_bv _) (by omega) (fun w' L' hw j u hu => by
      rw [Addr.add_mid, hw.cell (List.mem_append_right _ (.tail _ (.tail _ (.head _)))) _]
      simpa using htk j u hu))
    have HO := Lib.hid hO
    have HE := Lib.hid h0
    have hg : s.la.getD k [] = s.la[k] := by simp [List.getD, hk]
    have HG := Lib.hid hg
    have HROW := Lib.hid hrow
    clear hp hcf ok hO h0 htk hrow hlal hg
    go_enter Try.func8, Try.ntmps8
    go_wp2_with (go_at_call 18; refine (hrf.out).mono ?_; rintro e w' ⟨rfl, rfl⟩)
    refine (hcl.out).mono ?_
    rintro e w' ⟨v, L, rfl, hr, hv, hO'⟩
    have HR := Lib.hid hr
    have HO' := Lib.hid hO'
    clear hr hv hO'
    go_wp2
    go_ret2
    refine ⟨v, L, _, by rw [HE.out]; rfl, HD.out, HO'.out, ?_⟩
    rw [if_pos HE.out, Int.toNat_natCast, HG.out]
    have := HR.out
    unfold IsBytes
    rw [HROW.out]
    exact this
  · have hrf := Lib.hid (refusal_c hd hO i)
    have HD := Lib.hid hd
    have HO := Lib.hid hO
    have HE := Lib.hid h0
    have hne : (s.refuse i != 0) = true := by rw [bne_iff_ne]; exact h0
    clear h0 hd hO
    go_enter Try.func8, Try.ntmps8
    go_wp2_with (go_at_call 18; refine (hrf.out).mono ?_; rintro e w' ⟨rfl, rfl⟩)
    go_ret2
    refine ⟨_, [], _, rfl, HD.out, HO.out, ?_⟩
    rw [if_neg HE.out]
    exact ⟨rfl, .inl ⟨rfl, rfl, rfl⟩⟩
end
end Go.Proofs.Ytelboocnenaicaa
