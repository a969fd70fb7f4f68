/-
  Package log: load: the records of a half.
-/
import Derived.Test.YtdndkapfaiplnaaLog3
import Derived.Test.YtdndkapfaiplnaaTree
import Derived.Deep.DeepCutAuto
namespace Go.Proofs.Ytdndkapfaiplnaa
set_option linter.unusedVariables false
set_option linter.unusedSimpArgs false
set_option maxRecDepth 20000
open Go.RowKit

/-- A record: its epoch, its bytes. -/
abbrev Rec := Int × List Int
def needR (rs : List Rec) : Nat := needs (rs.map (·.2))
theorem needR_cons (r : Rec) (rs : List Rec) : needR (r :: rs) = need r.2 + needR rs := rfl
theorem needs_append : ∀ (a b : List (List Int)), needs (a ++ b) = needs a + needs b
  | [], b => by simp [needs]
  | x :: a, b => by simp [needs, needs_append a b]; omega
theorem needR_append (a b : List Rec) : needR (a ++ b) = needR a + needR b := by simp [needR, needs_append]
theorem needR_take_succ (rs : List Rec) (i : Nat) (h : i < rs.length) : needR (rs.take (i + 1)) = needR (rs.take i) + need (rs[i]).2 := by
  rw [List.take_succ_eq_append_getElem h, needR_append]; simp [needR, needs]
theorem needR_take_le (rs : List Rec) (i : Nat) : needR (rs.take i) ≤ needR rs := by
  have := needR_append (rs.take i) (rs.drop i)
  rw [List.take_append_drop] at this
  omega
/-- Records stand one behind the other, from sector a on, numbered from q on. -/
def Laid (F : List (List Int)) : Nat → Int → List Rec → Prop
  | _, _, [] => True
  | a, q, r :: rs => Stands F a r.1 q r.2 ∧ Laid F (a + need r.2) (q + 1) rs
theorem Laid.get {F : List (List Int)} : ∀ {a : Nat} {q : Int} {rs : List Rec}, Laid F a q rs → ∀ (i : Nat) (h : i < rs.length), Stands F (a + needR (rs.take i)) (rs[i]).1 (q + i) (rs[i]).2
  | a, q, [], _, i, h => by simp at h
  | a, q, r :: rs, hl, 0, h => by simpa [needR, needs] using hl.1
  | a, q, r :: rs, hl, i + 1, h => by
    have := Laid.get hl.2 i (by simpa using h)
    simp only [List.take_succ_cons, needR_cons, List.getElem_cons_succ]
    rw [show a + (need r.2 + needR (rs.take i)) = a + need r.2 + needR (rs.take i) by omega]
    rw [show q + ((i + 1 : Nat) : Int) = q + 1 + i by push_cast; omega]
    exact this
/-- The epoch that the next record may not be below. -/
def lastEp (b : Int) : List Rec → Int
  | [] => b
  | r :: rs => lastEp r.1 rs
theorem lastEp_append (b : Int) : ∀ (rs : List Rec) (r : Rec), lastEp b (rs ++ [r]) = r.1
  | [], r => rfl
  | x :: rs, r => lastEp_append x.1 rs r
theorem lastEp_take_succ (b : Int) (rs : List Rec) (i : Nat) (h : i < rs.length) : lastEp b (rs.take (i + 1)) = (rs[i]).1 := by
  rw [List.take_succ_eq_append_getElem h, lastEp_append]
structure RecsOk (q b top : Int) (rs : List Rec) : Prop where
  mark : ∀ i (h : i < rs.length), okMark (rs[i]).1 (q + i) = true
  need : ∀ r ∈ rs, need r.2 ≤ 255
  byt : ∀ r ∈ rs, Byt r.2
  up : ∀ i (h : i < rs.length), lastEp b (rs.take i) ≤ (rs[i]).1 ∧ (rs[i]).1 ≤ top
/-- No further record of number q, and of epoch ep at least. -/
def Stop (s : DSt) (a brim q ep : Int) : Prop := a < brim → (pieceR s a).r = 0 → RecOk s a brim (pieceR s a) → (pieceR s a).s ≠ q ∨ (pieceR s a).e < ep
/-- Rows of bytes in blocks of their own. -/
def GotRows (w0 : World) (X : Blks) (rv : Value) (bs : List (List Int)) : Prop :=
  ∃ vs Lr Y, X = Lr ++ Y ∧ IsRow 27 1 rv bs.length vs Lr ∧ ∀ i, i < bs.length → Rd w0 Y (vs.getD i undef) (bs.getD i [])
theorem GotRows.rd {w0 : World} {X : Blks} {rv : Value} {bs : List (List Int)} (h : GotRows w0 X rv bs) (R : Blks) : RdRows w0 (X ++ R) rv bs := by
  obtain ⟨vs, Lr, Y, rfl, h1, h2⟩ := h
  refine ⟨vs, fun w' L' hO => ?_, by have := h1.1; omega, fun i hi => (h2 i hi).sublist (by rw [List.append_assoc]; exact (List.sublist_append_left Y R).trans (List.sublist_append_right _ _))⟩
  have hvl : vs.length = bs.length := by have := h1.1; omega
  rcases h1.2 with ⟨rfl, hn, rfl⟩ | ⟨g, cap, sp, rfl, rfl, hl, hn, hm⟩
  · exact ⟨_, _, _, rfl, by omega, Nat.le_refl _, fun h => absurd h (by omega)⟩
  · refine ⟨_, _, _, rfl, hvl, hn, fun _ => ⟨_, rfl, fun j u hu => ?_⟩⟩
    rw [addr_add_zero, hO.cell (List.mem_append_right _ (List.mem_append_left _ (List.mem_append_left _ (.head _)))) j]
    have hj : j < vs.length := (List.getElem?_eq_some_iff.1 hu).1
    simp only [List.getElem?_toArray]
    rw [List.getElem?_append_left hj]; exact hu
theorem gotRows_snoc {w0 : World} {Lr Y Lv L' : Blks} {rv rv' v : Value} {bs : List (List Int)} {b : List Int} {vs : List Value} (h1 : IsRow 27 1 rv bs.length vs Lr) (h2 : ∀ i, i < bs.length → Rd w0 Y (vs.getD i undef) (bs.getD i []))
    (hv : Rd w0 Lv v b) (h' : IsRow 27 1 rv' (bs.length + 1) (vs ++ [v]) L') : ∀ i, i < (bs ++ [b]).length → Rd w0 (Lv ++ Y) ((vs ++ [v]).getD i undef) ((bs ++ [b]).getD i []) := by
  have hvl : vs.length = bs.length := by have := h1.1; omega
  intro i hi
  simp only [List.length_append, List.length_singleton] at hi
  by_cases h : i < bs.length
  · have := (h2 i h).sublist (List.sublist_append_right Lv Y)
    simp only [List.getD, List.getElem?_append_left (hvl ▸ h), List.getElem?_append_left h] at this ⊢
    exact this
  · have hi : i = bs.length := by omega
    subst hi
    have := hv.sublist (List.sublist_append_left Lv Y)
    simp only [List.getD, List.getElem?_append_right (Nat.le_refl _), List.getElem?_append_right (Nat.le_of_eq hvl), hvl]
    simpa using this
theorem alloc_rows0 (w : World) : (Instr.buildSlice 28 0 #[]).run Try.prog w = .ok (.slice (some ⟨w.heap.size, 0, none⟩) 0 0) (w.alloc (.cells #[] 27)) := by kernel_rfl
/-- What one Read in the loop tells. -/
def ReadP (t : Slot) (rs : List Rec) (a : Nat) (i : Nat) (e q : Int) (xs : List Int) (nx r : Int) : Prop :=
  (∃ h : i < rs.length, e = (rs[i]).1 ∧ q = t.first + i ∧ xs = (rs[i]).2 ∧ nx = a + needR (rs.take (i + 1)) ∧ r = 0) ∨
  (i = rs.length ∧ (r = 2 ∨ (r = 0 ∧ (q ≠ t.first + i ∨ (q = t.first + i ∧ e < lastEp t.begun rs)))))
section
variable {w0 w : World} {R L : Blks} {d v : Value} {s : DSt} {l : LSt}
theorem fread_rec (hd : IsDisk d s L) (hO : Own w0 w (L ++ R)) (t : Slot) (rs : List Rec) (a : Nat) (hl : Laid s.la a t.first rs) (hk : RecsOk t.first t.begun t.ep rs) (hdn : s.down = false) (hB : ∀ j : Nat, Byt (s.la.getD j [])) (hfit : needR rs ≤ 256) (hn : (a : Int) + 256 ≤ s.n)
    (hst : Stop s (a + needR rs : Nat) (a + 256) (t.first + rs.length) (lastEp t.begun rs)) (i : Nat) (hi : i ≤ rs.length) (hlt : needR (rs.take i) < 256) :
    Calls Try.prog 60 #[d, .int .i64 ((a + needR (rs.take i) : Nat) : Int), .int .i64 ((a : Int) + 256)] w (fun en w' => ∃ e q xs nx r, ReadP t rs a i e q xs nx r ∧ GotRec w0 R d s e q xs nx r en w') := by
  by_cases h : i < rs.length
  · have h2 := hk.need rs[i] (List.getElem_mem h)
    have h3 := needR_take_succ rs i h
    have h4 := needR_take_le rs (i + 1)
    have hin : (((a + needR (rs.take i)) : Nat) : Int) + need (rs[i]).2 ≤ (a : Int) + 256 := by push_cast; omega
    refine (fread_ok hd hO (hl.get i h) (hk.mark i h) h2 hdn hB (hk.byt _ (List.getElem_mem h)) _ _ ((((a + needR (rs.take i)) : Nat) : Int) + need (rs[i]).2) rfl rfl hin hn).mono ?_
    intro en w' hg
    exact ⟨_, _, _, _, _, .inl ⟨h, rfl, rfl, rfl, by rw [h3]; push_cast; omega, rfl⟩, hg⟩
  · have hi2 : i = rs.length := by omega
    subst hi2
    have e : rs.take rs.length = rs := List.take_length
    rw [e] at hlt ⊢
    have hrf : s.refuse ((a + needR rs : Nat) : Int) = 0 := refuse0 hdn (by omega) (by push_cast; omega)
    by_cases hp : (pieceR s ((a + needR rs : Nat) : Int)).r = 0
    · refine (fread_go hd hO _ _ (by omega) (by push_cast; omega) hn hdn hB _ rfl hp).mono ?_
      rintro en w' (⟨hr, hg⟩ | ⟨hr, hg⟩)
      · refine ⟨_, _, _, _, _, .inr ⟨rfl, .inr ⟨rfl, ?_⟩⟩, hg⟩
        have := hst (by push_cast; omega) hp hr
        rcases this with h' | h'
        · exact .inl h'
        · by_cases hq : (pieceR s ((a + needR rs : Nat) : Int)).s = t.first + rs.length
          · exact .inr ⟨hq, h'⟩
          · exact .inl hq
      · exact ⟨_, _, _, _, _, .inr ⟨rfl, .inl rfl⟩, hg⟩
    · have hr2 : (pieceR s ((a + needR rs : Nat) : Int)).r = 2 := by
        have : pieceR s ((a + needR rs : Nat) : Int) = openR (s.la.getD (a + needR rs) []) := by unfold pieceR; rw [if_pos hrf, Int.toNat_natCast]
        rw [this] at hp ⊢
        rcases openR_r02 (s.la.getD (a + needR rs) []) with h' | h'
        · exact absurd h' hp
        · exact h'
      refine (fread_none hd hO _ _ (by omega) (by push_cast; omega) hn (hB _) hp).mono ?_
      intro en w' hg
      rw [hr2] at hg
      exact ⟨_, _, _, _, _, .inr ⟨rfl, .inl rfl⟩, hg⟩
end
end Go.Proofs.Ytdndkapfaiplnaa
