/-
  The lists of CspWords: their words, whatever the blanks and the order; its pages and URLs: nothing runs here.
-/
import Derived.Test.YtfgaikacijdodaaDoorM11
namespace Go.Proofs.YtfgaikacijdodaaDoor
set_option linter.unusedVariables false
set_option linter.unusedSimpArgs false
set_option maxRecDepth 20000

def srcB : List ByteArray := [⟨#[39, 115, 101, 108, 102, 39]⟩, ⟨#[104, 116, 116, 112, 115, 58]⟩, ⟨#[99, 46, 100]⟩, ⟨#[42, 46, 99, 46, 100]⟩, ⟨#[99, 46, 100, 58, 56]⟩, ⟨#[108, 111, 99, 97, 108, 104, 111, 115, 116]⟩, ⟨#[104, 116, 116, 112, 58, 47, 47, 97, 46, 98]⟩]
def pgB : List ByteArray := [⟨#[104, 116, 116, 112, 58, 47, 47, 97, 46, 98, 47]⟩, ⟨#[104, 116, 116, 112, 115, 58, 47, 47, 97, 46, 98, 47, 120]⟩, ⟨#[104, 116, 116, 112, 58, 47, 47, 108, 111, 99, 97, 108, 104, 111, 115, 116, 47, 108]⟩]
def toB11 : List ByteArray := [⟨#[104, 116, 116, 112, 115, 58, 47, 47, 99, 46, 100, 47]⟩, ⟨#[104, 116, 116, 112, 58, 47, 47, 97, 46, 98, 47, 120]⟩, ⟨#[104, 116, 116, 112, 115, 58, 47, 47, 115, 46, 99, 46, 100, 47, 121]⟩, ⟨#[104, 116, 116, 112, 115, 58, 47, 47, 99, 46, 100, 58, 56, 47]⟩, ⟨#[104, 116, 116, 112, 58, 47, 47, 108, 111, 99, 97, 108, 104, 111, 115, 116, 47]⟩]
def srcI (j : Nat) : List Int := sb (srcB.getD j ⟨#[]⟩)
theorem srcI_byt (j : Nat) : Byt (srcI j) := byt_sb _
theorem src_words : ∀ j, j < 7 → srcI j ≠ [] ∧ (∀ x ∈ srcI j, x ≠ 32) ∧ (srcI j).length ≤ 10 := by decide +kernel
theorem src_at {j : Nat} (h : j < 7) : ((srcB.map Value.string).toArray)[j]? = some (Value.string (strOfNums (srcI j))) := by
  unfold srcI
  rw [str_sb]
  match j, h with
  | 0, _ => rfl
  | 1, _ => rfl
  | 2, _ => rfl
  | 3, _ => rfl
  | 4, _ => rfl
  | 5, _ => rfl
  | 6, _ => rfl
theorem parsed_half {t : ByteArray} (h : (parseI (sb t)).isSome = true) : ∃ u, parseI (sb t) = some u ∧ u.Half := by
  obtain ⟨u, hu⟩ := Option.isSome_iff_exists.1 h
  exact ⟨u, hu, (parseI_norm (byt_sb t) hu).fine.half⟩
theorem pg_ok : ∀ t ∈ pgB, (parseI (sb t)).isSome = true ∧ t.size ≤ 20 := by decide +kernel
theorem to_ok : ∀ t ∈ toB11, (parseI (sb t)).isSome = true ∧ t.size ≤ 20 := by decide +kernel
theorem pg_at {j : Nat} (h : j < 3) : ∃ t u, ((pgB.map Value.string).toArray)[j]? = some (Value.string t) ∧ parseI (sb t) = some u ∧ u.Half ∧ t.size ≤ 20 := by
  have hj : j < pgB.length := h
  have hm := pg_ok _ (List.getElem_mem hj)
  obtain ⟨u, hu, hh⟩ := parsed_half hm.1
  refine ⟨pgB[j], u, ?_, hu, hh, hm.2⟩
  rw [List.getElem?_toArray, List.getElem?_map, List.getElem?_eq_getElem hj]
  rfl
theorem to_at {j : Nat} (h : j < 5) : ∃ t u, ((toB11.map Value.string).toArray)[j]? = some (Value.string t) ∧ parseI (sb t) = some u ∧ u.Half ∧ t.size ≤ 20 := by
  have hj : j < toB11.length := h
  have hm := to_ok _ (List.getElem_mem hj)
  obtain ⟨u, hu, hh⟩ := parsed_half hm.1
  refine ⟨toB11[j], u, ?_, hu, hh, hm.2⟩
  rw [List.getElem?_toArray, List.getElem?_map, List.getElem?_eq_getElem hj]
  rfl
/-- The law's two lists. -/
def aI (js : List Nat) : List Int := js.flatMap fun j => 32 :: srcI j
def bF (t : List Int) (j : Nat) : List Int := 32 :: (srcI j ++ (32 :: 32 :: 32 :: t))
def bI (js : List Nat) : List Int := js.foldl bF [32, 32]
theorem aI_snoc (js : List Nat) (j : Nat) : aI (js ++ [j]) = aI js ++ (32 :: srcI j) := by
  unfold aI
  rw [List.flatMap_append]
  simp
theorem bI_snoc (js : List Nat) (j : Nat) : bI (js ++ [j]) = bF (bI js) j := by
  unfold bI
  rw [List.foldl_append]
  rfl
theorem words_src {j : Nat} (h : j < 7) : wordsI (srcI j) = [srcI j] := words_one (src_words j h).1 (src_words j h).2.1
theorem words_bl (t : List Int) : wordsI (32 :: t) = wordsI t := by
  have := wordsI_two [] t
  rw [List.nil_append] at this
  rw [this]
  rfl
theorem words_aI : ∀ (js : List Nat) (t : List Int), (∀ j ∈ js, j < 7) → wordsI (t ++ aI js) = wordsI t ++ js.map srcI
  | [], t, _ => by show wordsI (t ++ []) = wordsI t ++ []; rw [List.append_nil, List.append_nil]
  | j :: js, t, h => by
    have e : t ++ aI (j :: js) = (t ++ (32 :: srcI j)) ++ aI js := by
      show t ++ ((32 :: srcI j) ++ aI js) = _
      rw [List.append_assoc]
    rw [e, words_aI js _ (fun x hx => h x (.tail _ hx)), wordsI_two, words_src (h j (.head _)), List.append_assoc]
    rfl
theorem words_bI : ∀ (js : List Nat) (t : List Int), (∀ j ∈ js, j < 7) → wordsI (js.foldl bF t) = (js.map srcI).reverse ++ wordsI t
  | [], t, _ => rfl
  | j :: js, t, h => by
    rw [List.foldl_cons, words_bI js _ (fun x hx => h x (.tail _ hx))]
    unfold bF
    rw [words_bl, wordsI_two, words_bl, words_bl, words_src (h j (.head _)), List.map_cons, List.reverse_cons, List.append_assoc]
theorem allows_aI {js : List Nat} (h : ∀ j ∈ js, j < 7) (p u : UL) : allowsI (aI js) p u = (js.any (fun j => matchI (srcI j) p u) || decide (js = [])) := by
  have e := words_aI js [] h
  rw [List.nil_append] at e
  have e2 : wordsI (aI js) = js.map srcI := e
  unfold allowsI
  rw [e2, List.any_map]
  congr 1
  rw [decide_eq_decide]
  simp
theorem allows_bI {js : List Nat} (h : ∀ j ∈ js, j < 7) (p u : UL) : allowsI (bI js) p u = (js.any (fun j => matchI (srcI j) p u) || decide (js = [])) := by
  have e := words_bI js [32, 32] h
  have e2 : wordsI (bI js) = (js.map srcI).reverse := by
    unfold bI
    rw [e, show wordsI [32, 32] = [] from by decide, List.append_nil]
  unfold allowsI
  rw [e2, List.any_reverse, List.any_map]
  congr 1
  rw [decide_eq_decide]
  simp
theorem aI_len : ∀ (js : List Nat), (∀ j ∈ js, j < 7) → (aI js).length ≤ 11 * js.length
  | [], _ => by simp [aI]
  | j :: js, h => by
    have h1 := (src_words j (h j (.head _))).2.2
    have h2 := aI_len js (fun x hx => h x (.tail _ hx))
    have e : aI (j :: js) = (32 :: srcI j) ++ aI js := rfl
    rw [e, List.length_append, List.length_cons, List.length_cons]
    omega
theorem bF_len : ∀ (js : List Nat) (t : List Int), (∀ j ∈ js, j < 7) → (js.foldl bF t).length ≤ 14 * js.length + t.length
  | [], t, _ => by simp
  | j :: js, t, h => by
    have h1 := (src_words j (h j (.head _))).2.2
    have h2 := bF_len js (bF t j) (fun x hx => h x (.tail _ hx))
    rw [List.foldl_cons]
    have h3 : (bF t j).length = (srcI j).length + t.length + 4 := by unfold bF; simp; omega
    rw [List.length_cons]
    omega
theorem aI_byt (js : List Nat) : Byt (aI js) := by
  intro x hx
  unfold aI at hx
  obtain ⟨j, _, hx⟩ := List.mem_flatMap.1 hx
  rcases List.mem_cons.1 hx with rfl | hx
  · omega
  · exact srcI_byt j x hx
theorem bF_byt : ∀ (js : List Nat) (t : List Int), Byt t → Byt (js.foldl bF t)
  | [], t, h => h
  | j :: js, t, h => by
    rw [List.foldl_cons]
    refine bF_byt js _ (fun x hx => ?_)
    unfold bF at hx
    rcases List.mem_cons.1 hx with rfl | hx
    · omega
    rcases List.mem_append.1 hx with hx | hx
    · exact srcI_byt j x hx
    rcases List.mem_cons.1 hx with rfl | hx
    · omega
    rcases List.mem_cons.1 hx with rfl | hx
    · omega
    rcases List.mem_cons.1 hx with rfl | hx
    · omega
    exact h x hx
theorem bI_byt (js : List Nat) : Byt (bI js) := bF_byt js _ (by intro x hx; simp at hx; omega)
/-- The sources that a slice of numbers chooses: the first i. -/
def jsI (xs : List Int) (i : Nat) : List Nat := (xs.take i).map fun x => (x % 7).toNat
theorem jsI_succ {xs : List Int} {i : Nat} {x : Int} (h : xs[i]? = some x) : jsI xs (i + 1) = jsI xs i ++ [(x % 7).toNat] := by
  unfold jsI
  obtain ⟨hi, rfl⟩ := List.getElem?_eq_some_iff.1 h
  rw [List.take_succ_eq_append_getElem hi, List.map_append]
  rfl
theorem jsI_lt (xs : List Int) (i : Nat) : ∀ j ∈ jsI xs i, j < 7 := by
  intro j hj
  unfold jsI at hj
  obtain ⟨x, _, rfl⟩ := List.mem_map.1 hj
  omega
theorem jsI_len {xs : List Int} {i : Nat} (h : i ≤ xs.length) : (jsI xs i).length = i := by
  unfold jsI
  rw [List.length_map, List.length_take]
  omega
end Go.Proofs.YtfgaikacijdodaaDoor
