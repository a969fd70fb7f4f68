/-
  Package frame: a record that was written stands there, and is read. Nothing runs here.
-/
import Derived.Test.YtdndkapfaiplnaaFrame3
import Derived.Test.YtdndkapfaiplnaaFrame6
namespace Go.Proofs.Ytdndkapfaiplnaa
set_option linter.unusedVariables false
set_option linter.unusedSimpArgs false
set_option maxRecDepth 20000
open Go.RowKit

/-- Pending writes, one sector behind the other. -/
def pendOf (k : Nat) : List (List Int) → List (Nat × List Int)
  | [] => []
  | x :: xs => (k, x) :: pendOf (k + 1) xs
theorem length_pendOf : ∀ (k : Nat) (S : List (List Int)), (pendOf k S).length = S.length
  | _, [] => rfl
  | k, x :: xs => by simp [pendOf, length_pendOf (k + 1) xs]
theorem over_append (F : List (List Int)) (p q : List (Nat × List Int)) : over F (p ++ q) = over (over F p) q := by simp [over]
theorem over_pendOf : ∀ (S : List (List Int)) (F : List (List Int)) (k j : Nat), k + S.length ≤ F.length → (over F (pendOf k S))[j]? = if k ≤ j ∧ j < k + S.length then S[j - k]? else F[j]?
  | [], F, k, j, _ => by
    rw [if_neg (by simp only [List.length_nil]; omega)]; rfl
  | x :: S, F, k, j, h => by
    simp only [List.length_cons] at h
    have ih := over_pendOf S (F.set k x) (k + 1) j (by simp; omega)
    have e : over F (pendOf k (x :: S)) = over (F.set k x) (pendOf (k + 1) S) := rfl
    rw [e, ih]
    by_cases hk : k = j
    · subst hk
      rw [if_neg (by omega), if_pos (by simp), List.getElem?_set_self (by omega)]
      simp
    · rw [List.getElem?_set_ne hk]
      by_cases hj : k + 1 ≤ j ∧ j < k + 1 + S.length
      · rw [if_pos hj, if_pos (by simp only [List.length_cons]; omega)]
        rw [show j - k = (j - (k + 1)) + 1 by omega]
        simp
      · rw [if_neg hj, if_neg (by simp only [List.length_cons]; omega)]
theorem writes_go : ∀ (S : List (List Int)) (s : DSt) (a : Nat), s.down = false → s.left = -1 → a + S.length ≤ s.n → (∀ x ∈ S, x.length = 32) → s.writes a S = ({ s with pend := s.pend ++ pendOf a S }, 0)
  | [], s, a, _, _, _, _ => by simp [DSt.writes, pendOf]
  | x :: S, s, a, hd, hl, hn, hx => by
    simp only [List.length_cons] at hn
    have h0 : s.refuse a = 0 := refuse0 hd (by omega) (by omega)
    obtain ⟨h1, h2⟩ := write_go (xs := x) h0 (hx x (.head _)) hl
    rw [writes_cons, if_pos h2, h1]
    have ih := writes_go S { s with pend := s.pend ++ [((a : Int).toNat, x)] } (a + 1) hd hl (by simp only [DSt.n] at *; omega) (fun y hy => hx y (.tail _ hy))
    rw [Int.natCast_add] at ih
    rw [show ((a : Int) + 1) = (a : Int) + ((1 : Nat) : Int) from rfl, ih]
    simp [pendOf]
theorem sec_len (e q : Int) (b : List Int) (j : Nat) : (sec e q b j).length = 32 := length_sealed _ _ _ _ _ (length_chunk _ _)
theorem secs_of_len (e q : Int) (b : List Int) : ∀ x ∈ secs_of e q b, x.length = 32 := by
  intro x hx
  simp only [secs_of, List.mem_map] at hx
  obtain ⟨j, _, rfl⟩ := hx
  exact sec_len e q b j
theorem secs_of_get (e q : Int) (b : List Int) (j : Nat) (h : j < need b) : (secs_of e q b)[j]? = some (sec e q b j) := by simp [secs_of, h]
theorem byt_framed {b : List Int} (hb : Byt b) : Byt (framed b) := byt_append (byt_be4 _) hb
theorem byt_chunk {xs : List Int} (h : Byt xs) (j : Nat) : Byt (chunk xs j) := byt_take (byt_drop h _) _
theorem sec_ok {e q : Int} {b : List Int} {j : Nat} (hm : okMark e q = true) (hn : need b ≤ 255) (hj : j < need b) : okSeal e q j (need b) (chunk (framed b) j).length = true :=
  okSeal_mark hm ⟨by omega, by omega, by omega, length_chunk _ _⟩
theorem byt_sec {e q : Int} {b : List Int} {j : Nat} (hm : okMark e q = true) (hn : need b ≤ 255) (hj : j < need b) (hb : Byt b) : Byt (sec e q b j) := byt_sealed (sec_ok hm hn hj) (byt_chunk (byt_framed hb) j)
/-- The record b of mark (e, q) stands from sector a on. -/
def Stands (F : List (List Int)) (a : Nat) (e q : Int) (b : List Int) : Prop := ∀ j, j < need b → F.getD (a + j) [] = sec e q b j
theorem chunk_len {b : List Int} {j : Nat} (h : j + 1 < need b) : (chunk (framed b) j).length = 19 := by
  unfold need at h
  simp only [chunk, List.length_take, List.length_drop, length_framed]
  omega
theorem openR_sec {e q : Int} {b : List Int} {j : Nat} (hm : okMark e q = true) (hn : need b ≤ 255) (hj : j < need b) : openR (sec e q b j) = ⟨e, q, j, need b, chunk (framed b) j, 0⟩ := openR_sealed (sec_ok hm hn hj)
section
variable {s : DSt} {a : Nat} {e q : Int} {b : List Int}
theorem Stands.piece (h : Stands s.la a e q b) (hm : okMark e q = true) (hn : need b ≤ 255) (hd : s.down = false) (hin : a + need b ≤ s.n) {j : Nat} (hj : j < need b) : pieceR s ((a : Int) + j) = ⟨e, q, j, need b, chunk (framed b) j, 0⟩ := by
  have h0 : s.refuse ((a : Int) + j) = 0 := refuse0 hd (by omega) (by omega)
  unfold pieceR
  rw [if_pos h0, show ((a : Int) + j).toNat = a + j by omega, h j hj, openR_sec hm hn hj]
theorem take_chunk (xs : List Int) (n : Nat) : xs.take (19 * n) ++ chunk xs n = xs.take (19 * (n + 1)) := by
  unfold chunk
  rw [show 19 * (n + 1) = 19 * n + 19 by omega, List.take_add]
theorem Stands.join (h : Stands s.la a e q b) (hm : okMark e q = true) (hn : need b ≤ 255) (hd : s.down = false) (hin : a + need b ≤ s.n) : ∀ n, n ≤ need b → joinB s a n = (framed b).take (19 * n)
  | 0, _ => by simp [joinB]
  | n + 1, hle => by
    rw [joinB, h.join hm hn hd hin n (by omega), h.piece hm hn hd hin (by omega : n < need b), ← take_chunk]
theorem Stands.joinAll (h : Stands s.la a e q b) (hm : okMark e q = true) (hn : need b ≤ 255) (hd : s.down = false) (hin : a + need b ≤ s.n) : joinB s a (need b) = framed b := by
  rw [h.join hm hn hd hin _ (Nat.le_refl _)]
  apply List.take_of_length_le
  rw [length_framed]
  unfold need
  omega
theorem drop_framed (b : List Int) : (framed b).drop 4 = b := by simp [framed, be4]
theorem Stands.rec (h : Stands s.la a e q b) (hm : okMark e q = true) (hn : need b ≤ 255) (hd : s.down = false) (hin : a + need b ≤ s.n) (hb : Byt b) (en : Int) (hen : (a : Int) + need b ≤ en) : RecOk s a en ⟨e, q, 0, need b, chunk (framed b) 0, 0⟩ := by
  refine ⟨by simp only; omega, ?_, ?_, ?_⟩
  · intro j hj
    simp only [Int.toNat_natCast] at hj
    unfold goodPart
    rw [h.piece hm hn hd hin hj]
    refine ⟨rfl, ?_⟩
    simp only [cont, decide_eq_true_eq, true_and]
    by_cases hl : j + 1 < need b
    · exact .inl (chunk_len hl)
    · right; omega
  · simp only [Int.toNat_natCast]
    rw [h.joinAll hm hn hd hin, length_framed]; omega
  · simp only [Int.toNat_natCast]
    rw [h.joinAll hm hn hd hin, drop_framed, framed, num4_be4 _ (crc_lt b hb)]
end
section
variable {w0 w : World} {R L : Blks} {d : Value} {s : DSt} {a : Nat} {e q : Int} {b : List Int}
/-- A record that stands there is read as it is. -/
theorem fread_ok (hd : IsDisk d s L) (hO : Own w0 w (L ++ R)) (h : Stands s.la a e q b) (hm : okMark e q = true) (hn : need b ≤ 255) (hdn : s.down = false) (hB : ∀ j : Nat, Byt (s.la.getD j [])) (hb : Byt b) (at_ en nx : Int) (hat : (a : Int) = at_) (hnx : at_ + need b = nx) (hen : nx ≤ en) (hen2 : en ≤ s.n) :
    Calls Try.prog 60 #[d, .int .i64 at_, .int .i64 en] w (GotRec w0 R d s e q b nx 0) := by
  subst hat
  have hp := need_pos b
  have hin : a + need b ≤ s.n := by omega
  have hpc := h.piece hm hn hdn hin (by omega : 0 < need b)
  rw [show ((a : Int) + ((0 : Nat) : Int)) = a by omega] at hpc
  have hcall := fread_go hd hO a en (by omega) (by omega) hen2 hdn hB _ hpc rfl
  refine hcall.mono ?_
  rintro en' w' (⟨_, v, Lv, L', rfl, h1, h2, h3⟩ | ⟨hno, _⟩)
  · simp only [Int.toNat_natCast] at h1
    rw [h.joinAll hm hn hdn hin, drop_framed] at h1
    exact ⟨v, Lv, L', by simp only [hnx], h1, h2, h3⟩
  · exact absurd (h.rec hm hn hdn hin hb en (by omega)) hno
/-- What is no record is told as none. -/
theorem fread_form (hd : IsDisk d s L) (hO : Own w0 w (L ++ R)) (at_ en : Int) (h1 : 0 ≤ at_) (h2 : at_ < en) (h3 : en ≤ s.n) (hdn : s.down = false) (hB : ∀ j : Nat, Byt (s.la.getD j [])) (h : (pieceR s at_).r = 0 → ¬ RecOk s at_ en (pieceR s at_)) :
    Calls Try.prog 60 #[d, .int .i64 at_, .int .i64 en] w (GotRec w0 R d s 0 0 [] 0 2) := by
  by_cases h0 : (pieceR s at_).r = 0
  · have hcall := fread_go hd hO at_ en h1 h2 h3 hdn hB _ rfl h0
    refine hcall.mono ?_
    rintro en' w' (⟨hy, _⟩ | ⟨_, hg⟩)
    · exact absurd hy (h h0)
    · exact hg
  · have hr : (pieceR s at_).r = 2 := by
      have hpo : pieceR s at_ = openR (s.la.getD at_.toNat []) := by unfold pieceR; rw [if_pos (refuse0 hdn h1 (by omega))]
      rw [hpo] at h0 ⊢
      exact (openR_r02 _).resolve_left h0
    have hcall := fread_none hd hO at_ en h1 h2 h3 (hB _) h0
    rw [hr] at hcall
    exact hcall
end
/-- The disk behind a Write that had power. -/
def DSt.put (s : DSt) (a : Nat) (S : List (List Int)) : DSt := { s with pend := s.pend ++ pendOf a S }
theorem put_la (s : DSt) (a : Nat) (S : List (List Int)) (h : a + S.length ≤ s.n) (j : Nat) : (s.put a S).la[j]? = if a ≤ j ∧ j < a + S.length then S[j - a]? else s.la[j]? := by
  have e : (s.put a S).la = over s.la (pendOf a S) := over_append _ _ _
  rw [e, over_pendOf S s.la a j (by rw [s.length_la]; exact h)]
theorem put_stands (s : DSt) (a : Nat) (e q : Int) (b : List Int) (h : a + need b ≤ s.n) : Stands (s.put a (secs_of e q b)).la a e q b := by
  intro j hj
  simp only [List.getD]
  rw [put_la s a _ (by rw [length_secs_of]; exact h), if_pos (by rw [length_secs_of]; omega), Nat.add_sub_cancel_left, secs_of_get e q b j hj]
  rfl
theorem put_other (s : DSt) (a : Nat) (S : List (List Int)) (h : a + S.length ≤ s.n) (j : Nat) (hj : j < a ∨ a + S.length ≤ j) : (s.put a S).la.getD j [] = s.la.getD j [] := by
  simp only [List.getD]
  rw [put_la s a S h, if_neg (by omega)]
theorem put_byt {s : DSt} {a : Nat} {e q : Int} {b : List Int} (hB : ∀ j : Nat, Byt (s.la.getD j [])) (hm : okMark e q = true) (hn : need b ≤ 255) (hb : Byt b) (h : a + need b ≤ s.n) : ∀ j : Nat, Byt ((s.put a (secs_of e q b)).la.getD j []) := by
  intro j
  by_cases hj : a ≤ j ∧ j < a + need b
  · have := put_stands s a e q b h (j - a) (by omega)
    rw [show a + (j - a) = j by omega] at this
    rw [this]
    exact byt_sec hm hn (by omega) hb
  · rw [put_other s a _ (by rw [length_secs_of]; exact h) j (by rw [length_secs_of]; omega)]
    exact hB j
theorem zsec_byt : Byt zsec := by intro x hx; simp [zsec] at hx; omega
theorem new_byt (n : Nat) : ∀ j : Nat, Byt ((newSt n).la.getD j []) := by
  intro j
  have e : (newSt n).la = zsecs n := rfl
  rw [e]
  simp only [List.getD, zsecs, List.getElem?_replicate]
  split
  · exact zsec_byt
  · intro x hx; simp at hx
section
variable {w0 w : World} {R L : Blks} {d : Value} {s : DSt} {a : Nat} {e q : Int} {b : List Int}
/-- Write with power, within the disk. -/
theorem fwrite_ok (hd : IsDisk d s L) (hO : Own w0 w (L ++ R)) (v : Value) (hb : Rd w0 R v b) (hB : Byt b) (hn : need b ≤ 255) (hm : okMark e q = true) (hdn : s.down = false) (hl : s.left = -1) (hin : a + need b ≤ s.n) (hpl : s.pend.length + need b ≤ 1000000) (at_ nx : Int) (hat : (a : Int) = at_) (hnx : at_ + need b = nx) :
    Calls Try.prog 61 #[d, .int .i64 at_, .agg #[.int .i64 e, .int .i64 q], v] w (HasDisk w0 R d (s.put a (secs_of e q b)) (.tuple #[.int .i64 nx, .int .i64 0])) := by
  subst hat
  have h := fwrite_go hd hO a e q v b hb hB hn hm (by omega) (by omega) hpl
  rw [writes_go _ s a hdn hl (by rw [length_secs_of]; exact hin) (secs_of_len e q b)] at h
  unfold FWrote at h
  simp only [if_true, hnx] at h
  exact h
end
end Go.Proofs.Ytdndkapfaiplnaa
