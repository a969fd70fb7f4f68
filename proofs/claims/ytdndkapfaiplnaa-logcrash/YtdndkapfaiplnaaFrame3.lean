/-
  Package frame: Write.
-/
import Derived.Test.YtdndkapfaiplnaaFrame2
import Derived.Test.YtdndkapfaiplnaaDiskU
namespace Go.Proofs.Ytdndkapfaiplnaa
set_option linter.unusedVariables false
set_option linter.unusedSimpArgs false
set_option maxRecDepth 20000
open Go.RowKit

/-- Sectors written one behind the other, up to the first that is refused. -/
def DSt.writes (s : DSt) (at_ : Int) : List (List Int) → DSt × Int
  | [] => (s, 0)
  | x :: xs => if s.writeE at_ x = 0 then (s.write at_ x).writes (at_ + 1) xs else (s.write at_ x, s.writeE at_ x)
theorem writes_cons (s : DSt) (a : Int) (x : List Int) (xs : List (List Int)) : s.writes a (x :: xs) = if s.writeE a x = 0 then (s.write a x).writes (a + 1) xs else (s.write a x, s.writeE a x) := rfl
/-- A record's sectors. -/
def secs_of (e q : Int) (xs : List Int) : List (List Int) := (List.range (need xs)).map (sec e q xs)
theorem length_secs_of (e q : Int) (xs : List Int) : (secs_of e q xs).length = need xs := by simp [secs_of]
theorem secs_of_drop (e q : Int) (xs : List Int) (i : Nat) (h : i < need xs) : (secs_of e q xs).drop i = sec e q xs i :: (secs_of e q xs).drop (i + 1) := by
  rw [List.drop_eq_getElem_cons (by rw [length_secs_of]; exact h)]
  simp [secs_of]
theorem write_pend (s : DSt) (at_ : Int) (x : List Int) : (s.write at_ x).pend.length ≤ s.pend.length + 1 := by
  unfold DSt.write
  (repeat' split) <;> simp [DSt.spend] <;> (try split) <;> simp
def WTo (w0 : World) (R : Blks) (d : Value) (s : DSt) (at_ : Int) (S : List (List Int)) (i : Nat) (w' : World) : Prop :=
  ∃ si Li, IsDisk d si Li ∧ s.writes at_ S = si.writes (at_ + i) (S.drop i) ∧ si.pend.length ≤ s.pend.length + i ∧ Own w0 w' (Li ++ R)
/-- What Write leaves and answers: the disk, the next sector, the error. -/
def FWrote (w0 : World) (R : Blks) (d : Value) (r : DSt × Int) (nx : Int) (e : Ending) (w' : World) : Prop := HasDisk w0 R d r.1 (.tuple #[.int .i64 (if r.2 = 0 then nx else 0), .int .i64 r.2]) e w'
section
variable {w0 w : World} {R L : Blks} {d : Value} {s : DSt}
set_option maxHeartbeats 2000000 in
theorem fwrite_arg (hd : IsDisk d s L) (hO : Own w0 w (L ++ R)) (at_ e q : Int) (v : Value) (xs : List Int) (hb : Rd w0 R v xs) (hB : Byt xs) (hl : xs.length ≤ 1000000) (h : 255 < need xs ∨ okMark e q = false) :
    Calls Try.prog 61 #[d, .int .i64 at_, .agg #[.int .i64 e, .int .i64 q], v] w (HasDisk w0 R d s (.tuple #[.int .i64 0, .int .i64 1])) := by
  have hcall : ∀ (w1 : World) (A : Blks), Own w0 w1 (A ++ (L ++ R)) → Calls Try.prog 66 #[.agg #[.int .i64 e, .int .i64 q], v] w1 (Gave w0 (A ++ (L ++ R)) (.tuple #[.slice none 0 0, .int .i64 1])) := by
    intro w1 A hO1
    by_cases h1 : 255 < need xs
    · exact fseal_big hO1 e q v xs hb.more.more hl h1
    · exact fseal_err hO1 e q v xs hb.more.more hB (h.resolve_left h1) (by omega)
  have HC := Lib.hid hcall; have HO := Lib.hid hO; have HD := Lib.hid hd
  clear hcall hO hd hb hB h
  go_enter Try.func61, Try.ntmps61
  go_wp2_with (first | (refine wl_box rfl _ _ rfl HO.out _ (by rfl) ?_; intro gm w1 hO1; have HO1 := Lib.hid hO1; clear hO1 HO) | (refine wl_load rfl _ _ rfl gm 0 [.int .i64 e, .int .i64 q] [.int .i64 e, .int .i64 q] 44 (HO1.out.heap (.head _)) (by rfl) _ Try.underlying44 rfl mark_size (by rfl) ?_))
  have hcall := HC.out w1 [_] HO1.out
  with_reducible refine hcall.mono ?_
  clear hcall HC
  rintro en w2 ⟨rfl, hO2⟩
  have HO2 := Lib.hid hO2; clear hO2 HO1
  go_wp2
  go_ret2
  exact ⟨rfl, L, HD.out, HO2.out.tail⟩
set_option maxHeartbeats 2000000 in
theorem fwrite_range (hd : IsDisk d s L) (hO : Own w0 w (L ++ R)) (at_ e q : Int) (v : Value) (xs : List Int) (hb : Rd w0 R v xs) (hB : Byt xs) (h1 : need xs ≤ 255) (h2 : okMark e q = true) (h : at_ < 0 ∨ (s.n : Int) - need xs < at_) :
    Calls Try.prog 61 #[d, .int .i64 at_, .agg #[.int .i64 e, .int .i64 q], v] w (HasDisk w0 R d s (.tuple #[.int .i64 0, .int .i64 9])) := by
  have hcall : ∀ (w1 : World) (A : Blks), Own w0 w1 (A ++ (L ++ R)) → Calls Try.prog 66 #[.agg #[.int .i64 e, .int .i64 q], v] w1 (GotSecs w0 (A ++ (L ++ R)) (need xs) (sec e q xs)) :=
    fun w1 A hO1 => fseal_ok hO1 e q v xs hb.more.more hB h2 h1
  have hn := hd.1.n
  have HC := Lib.hid hcall; have HO := Lib.hid hO; have HD := Lib.hid hd
  clear hcall hO hd hb hB h2
  generalize need xs = p at *
  go_enter Try.func61, Try.ntmps61
  go_wp2_with (first | (refine wl_box rfl _ _ rfl HO.out _ (by rfl) ?_; intro gm w1 hO1; have HO1 := Lib.hid hO1; clear hO1 HO) | (refine wl_load rfl _ _ rfl gm 0 [.int .i64 e, .int .i64 q] [.int .i64 e, .int .i64 q] 44 (HO1.out.heap (.head _)) (by rfl) _ Try.underlying44 rfl mark_size (by rfl) ?_))
  have hcall := HC.out w1 [_] HO1.out
  with_reducible refine hcall.mono ?_
  clear hcall HC
  rintro en w2 ⟨g, cs, X, rfl, hcs, hX, hO2⟩
  have hO3 : Own w0 w2 (L ++ R) := Own.right (A := (g, _) :: (X ++ [_])) (by simpa [List.append_assoc] using hO2)
  have hl := Lib.hid (len_c HD.out hO3)
  have HO3 := Lib.hid hO3
  clear hcs hX hO2 hO3 HO1
  rcases h with h | h
  · go_wp2
    go_ret2
    exact ⟨rfl, L, HD.out, HO3.out⟩
  · by_cases h0 : at_ < 0
    · go_wp2
      go_ret2
      exact ⟨rfl, L, HD.out, HO3.out⟩
    · go_wp2_with (go_at_call 19; refine (hl.out).mono ?_; rintro e w' ⟨rfl, rfl⟩)
      go_ret2
      exact ⟨rfl, L, HD.out, HO3.out⟩
set_option maxHeartbeats 2000000 in
theorem fwrite_go (hd : IsDisk d s L) (hO : Own w0 w (L ++ R)) (at_ e q : Int) (v : Value) (xs : List Int) (hb : Rd w0 R v xs) (hB : Byt xs) (h1 : need xs ≤ 255) (h2 : okMark e q = true) (h3 : 0 ≤ at_) (h4 : at_ ≤ (s.n : Int) - need xs) (hpl : s.pend.length + need xs ≤ 1000000) :
    Calls Try.prog 61 #[d, .int .i64 at_, .agg #[.int .i64 e, .int .i64 q], v] w
      (FWrote w0 R d (s.writes at_ (secs_of e q xs)) (at_ + need xs)) := by
  have hcall : ∀ (w1 : World) (A : Blks), Own w0 w1 (A ++ (L ++ R)) → Calls Try.prog 66 #[.agg #[.int .i64 e, .int .i64 q], v] w1 (GotSecs w0 (A ++ (L ++ R)) (need xs) (sec e q xs)) :=
    fun w1 A hO1 => fseal_ok hO1 e q v xs hb.more.more hB h2 h1
  have hn := hd.1.n
  have hdr := Lib.hid (secs_of_drop e q xs)
  have hsl := Lib.hid (length_secs_of e q xs)
  have HC := Lib.hid hcall; have HO := Lib.hid hO; have HD := Lib.hid hd
  clear hcall hO hd hb hB h2
  generalize need xs = p at *
  generalize secs_of e q xs = S at *
  generalize sec e q xs = f at *
  go_enter Try.func61, Try.ntmps61
  go_wp2_with (first | (refine wl_box rfl _ _ rfl HO.out _ (by rfl) ?_; intro gm w1 hO1; have HO1 := Lib.hid hO1; clear hO1 HO) | (refine wl_load rfl _ _ rfl gm 0 [.int .i64 e, .int .i64 q] [.int .i64 e, .int .i64 q] 44 (HO1.out.heap (.head _)) (by rfl) _ Try.underlying44 rfl mark_size (by rfl) ?_))
  have hcall := HC.out w1 [_] HO1.out
  with_reducible refine hcall.mono ?_
  clear hcall HC
  rintro en w2 ⟨g, cs, X, rfl, hcs, hX, hO2⟩
  have hO3 : Own w0 w2 (L ++ ([(g, .cells (List.toArray cs) 27)] ++ (X ++ R))) := by
    have h5 : Own w0 w2 (((g, .cells (List.toArray cs) 27) :: X) ++ (L ++ R)) := hO2.sub (by simp)
    have h6 := h5.rot
    simpa [List.append_assoc] using h6
  have hl := Lib.hid (len_c HD.out hO3)
  have HO3 := Lib.hid hO3; have HCS := Lib.hid hcs; have HX := Lib.hid hX
  clear hcs hX hO2 hO3 HO1
  have h5 : ¬ (at_ < 0) := by omega
  have h6 : ¬ ((s.n : Int) - ↑p < at_) := by omega
  go_wp2_with (go_at_call 19; refine (hl.out).mono ?_; rintro e w' ⟨rfl, rfl⟩)
  go_loopw [36] (fun t w' => ∃ i : Nat, i ≤ p ∧ t = .int .i64 i ∧ Hid (WTo w0 ([(g, .cells (List.toArray cs) 27)] ++ (X ++ R)) d s at_ S i w')) (fun t _ => p - (intOf t).toNat)
  case atStart => exact ⟨0, Nat.zero_le _, rfl, s, L, HD.out, by simp, by omega, HO3.out⟩
  case round =>
    obtain ⟨i, hi, rfl, HR⟩ := hrel
    clear HO3 hl
    obtain ⟨si, Li, hdi, hwi, hpi, hOi⟩ := HR.out
    clear HR
    by_cases hlt : i < p
    · have hci : wr.cell? ⟨g, i, none⟩ = some (cs.getD i undef) := by
        rw [hOi.cell (List.mem_append_right _ (.head _)) i]
        simp [List.getD, HCS.out, hlt]
      have hrd : Rd w0 ([(g, .cells (List.toArray cs) 27)] ++ (X ++ R)) (cs.getD i undef) (f i) := (HX.out i hlt).sublist ((List.sublist_append_left X R).trans (List.sublist_append_right _ _))
      have hcall := write_c hdi hOi (at_ + i) (cs.getD i undef) (f i) hrd (by omega)
      rw [hdr.out i hlt] at hwi
      have HC := Lib.hid hcall; have HW := Lib.hid hwi; have HPI := Lib.hid hpi
      clear hcall hwi hpi hrd hOi hdi
      generalize cs.getD i undef = vi at *
      have hin : at_ + i ≤ 1024 := by omega
      have hiI : (i : Int) < p := by omega
      go_wp2_with fail
      with_reducible refine HC.out.mono ?_
      rintro en w3 ⟨rfl, L3, hd3, hO3⟩
      have HD3 := Lib.hid hd3; have HO3 := Lib.hid hO3
      clear hd3 hO3 HC hci
      have hpw := write_pend si (at_ + i) (f i)
      have HPW := Lib.hid hpw
      clear hpw
      have hW := HW.out
      rw [writes_cons] at hW
      by_cases hE : si.writeE (at_ + i) (f i) = 0
      · rw [if_pos hE] at hW
        have HW2 := Lib.hid hW
        clear hW HW
        generalize si.write (at_ + i) (f i) = s3 at *
        rw [hE]
        clear hE
        go_wp2
        go_roundw
        case rel => exact ⟨i + 1, by omega, by go_num, s3, L3, HD3.out, by rw [HW2.out]; congr 1; push_cast; omega, by have := HPI.out; have := HPW.out; omega, HO3.out⟩
        case measure => simp [intOf]; omega
      · rw [if_neg hE] at hW
        have HW2 := Lib.hid hW
        clear hW HW
        have hne : (si.writeE (at_ + i) (f i) != 0) = true := by simpa using hE
        have HE := Lib.hid hE
        clear hE
        generalize si.write (at_ + i) (f i) = s3 at *
        generalize si.writeE (at_ + i) (f i) = r at *
        go_wp2
        go_ret2
        unfold FWrote
        rw [HW2.out]
        exact ⟨by simp [HE.out], L3, HD3.out, by have := HO3.out; exact (this.sub (by simp))⟩
    · obtain rfl : i = p := by omega
      rw [List.drop_of_length_le (by rw [hsl.out]; exact Nat.le_refl _)] at hwi
      have HW := Lib.hid hwi; have HDI := Lib.hid hdi; have HOI := Lib.hid hOi
      clear hwi hpi hOi hdi
      go_wp2
      go_ret2
      unfold FWrote
      rw [HW.out]
      exact ⟨by simp [DSt.writes], Li, HDI.out, by have := HOI.out; exact (this.sub (by simp))⟩
end
end Go.Proofs.Ytdndkapfaiplnaa
