/-
  Answers that are built, cut off, told a length (for ReplyHeads, ReplyBack, ReplyCuts): plain lists; nothing runs here.
-/
import Derived.Test.YtkmfbfmmlldphaaDoorRep1
namespace Go.Proofs.YtkmfbfmmlldphaaDoor
set_option linter.unusedVariables false
set_option linter.unusedSimpArgs false
set_option maxRecDepth 20000

/-! ### lines with blanks -/
abbrev QL := (List Int × List Int) × Nat × Nat
def lineQ (q : QL) : List Int := q.1.1 ++ 58 :: (List.replicate q.2.1 32 ++ q.1.2 ++ List.replicate q.2.2 32) ++ [13, 10]
theorem headsI_lines : ∀ (qs : List QL) (ks : HL) (had : Option Int) (s : List Int), (∀ q ∈ qs, HeadOk q.1 ∧ lowL q.1.1 ≠ clI) → ks.length ≤ 8 →
    headsI ks had (qs.flatMap lineQ ++ (13 :: 10 :: s)) = if ks.length + qs.length ≤ 8 then some (ks ++ qs.map (·.1), had, s) else none
  | [], ks, had, s, _, hk => by
    show headsI ks had (13 :: 10 :: s) = _
    rw [headsI_end, if_pos (by simpa using hk)]
    simp
  | q :: qs, ks, had, s, hok, hk => by
    obtain ⟨⟨n, v⟩, a, b⟩ := q
    have h0 := hok _ (.head _)
    have e : ((((n, v), a, b) : QL) :: qs).flatMap lineQ ++ (13 :: 10 :: s) = n ++ 58 :: (List.replicate a 32 ++ v ++ List.replicate b 32) ++ (13 :: 10 :: (qs.flatMap lineQ ++ (13 :: 10 :: s))) := by
      simp [lineQ]
    rw [e, headsI_line h0.1]
    by_cases h8 : ks.length = 8
    · rw [if_pos h8, if_neg (by simp; omega)]
    · have hl : lenI had (n, v) = some had := by unfold lenI; rw [if_neg h0.2]
      rw [if_neg h8, hl, Option.bind_some, headsI_lines qs (ks ++ [(n, v)]) had s (fun x hx => hok x (.tail _ hx)) (by simp; omega)]
      simp only [List.length_append, List.length_cons, List.length_nil, List.map_cons, List.append_assoc, List.singleton_append]
      rw [show ks.length + (0 + 1) + qs.length = ks.length + (qs.length + 1) by omega]
/-- An answer 200 of such lines. -/
def head200 : List Int := [72, 84, 84, 80, 47, 49, 46, 49, 32, 50, 48, 48, 32, 45, 13, 10]
theorem replyI_lines (qs : List QL) (body : List Int) (hok : ∀ q ∈ qs, HeadOk q.1 ∧ lowL q.1.1 ≠ clI) :
    replyI (head200 ++ (qs.flatMap lineQ ++ (13 :: 10 :: body))) = if qs.length ≤ 8 then some ⟨200, qs.map (·.1), body, false⟩ else none := by
  have e : head200 ++ (qs.flatMap lineQ ++ (13 :: 10 :: body)) = [72, 84, 84, 80, 47, 49, 46, 49, 32, 50, 48, 48, 32, 45] ++ (13 :: 10 :: (qs.flatMap lineQ ++ (13 :: 10 :: body))) := rfl
  unfold replyI
  rw [e, lineI_app _ (by decide), Option.bind_some]
  rw [show firstI [72, 84, 84, 80, 47, 49, 46, 49, 32, 50, 48, 48, 32, 45] = some 200 by decide +kernel, Option.bind_some, headsI_lines qs [] none body hok (by simp)]
  simp only [List.length_nil, Nat.zero_add, List.nil_append]
  split
  · rfl
  · rfl
/-! ### a length that is told -/
def etagI : List Int := [101, 116, 97, 103]
theorem figI_digs {k : Nat} (h : k < 1000000) : figI (digs k) 1 6 = some (k : Int) := by
  have hl : (digs k).length ≤ 6 := by
    have h1 := digs_len k
    by_cases h2 : k < 10
    · rw [digs_small h2]; simp
    · rw [digs_step (by omega) (by omega)]
      have : ∀ n : Nat, n < 100000 → (digs n).length ≤ 5 := fun n hn => digs_short hn
      rw [List.length_append]; have := this (k / 10) (by omega); simp; omega
  have h1 := (digs_len k).1
  unfold figI
  rw [if_pos ⟨by omega, by omega, digs_dig k⟩, fig_digs (by omega)]
theorem value_digs {k : Nat} (h : k < 1000000) : ValueOk 40 (digs k) := by
  have hd := digs_dig k
  have h1 := digs_len k
  refine ⟨fun x hx => by have := hd x hx; omega, by omega, .inr ⟨?_, ?_⟩⟩
  · have hm : (digs k).getD 0 0 ∈ digs k := by rw [List.getD_eq_getElem?_getD, List.getElem?_eq_getElem (by omega)]; exact List.getElem_mem _
    have := hd _ hm; omega
  · have hm : (digs k).getD ((digs k).length - 1) 0 ∈ digs k := by rw [List.getD_eq_getElem?_getD, List.getElem?_eq_getElem (by omega)]; exact List.getElem_mem _
    have := hd _ hm; omega
/-- One header, and a length behind it. -/
theorem lens_told {n v c : List Int} {k : Nat} (hn : lowL n ≠ clI) (hc : lowL c = clI) (hk : k < 1000000) : lensI none [(n, v), (c, digs k)] = some (some (k : Int)) := by
  simp only [lensI, lenI]
  rw [if_neg hn, Option.bind_some, if_pos hc, figI_digs hk]
  rfl
theorem lens_twice {n v c : List Int} {k : Nat} (hn : lowL n ≠ clI) (hc : lowL c = clI) (hk : k < 1000000) : lensI none [(n, v), (c, digs k), (c, digs k)] = none := by
  simp only [lensI, lenI]
  rw [if_neg hn, Option.bind_some]
  simp [hc, figI_digs hk]
theorem replyI_told {c : Nat} (h1 : 100 ≤ c) (h2 : c ≤ 599) {n v cl : List Int} {k : Nat} (hh : HeadOk (n, v)) (hn : lowL n ≠ clI) (hcn : NameOk 20 cl) (hc : lowL cl = clI) (hk : k < 1000000) (body : List Int) :
    replyI (replyP c [(n, v), (cl, digs k)] body) = some ⟨c, [(n, v), (cl, digs k)], body.take k, decide (body.length < k)⟩ := by
  rw [replyI_print h1 h2 (hs := [(n, v), (cl, digs k)]) (by
    intro x hx
    simp only [List.mem_cons, List.not_mem_nil, or_false] at hx
    rcases hx with rfl | rfl
    · exact hh
    · exact ⟨hcn, value_digs hk⟩) (by simp), lens_told hn hc hk]
  simp only [Option.map_some, bodyI]
  congr 1
  simp
theorem replyI_twice {c : Nat} (h1 : 100 ≤ c) (h2 : c ≤ 599) {n v cl : List Int} {k : Nat} (hh : HeadOk (n, v)) (hn : lowL n ≠ clI) (hcn : NameOk 20 cl) (hc : lowL cl = clI) (hk : k < 1000000) (body : List Int) :
    replyI (replyP c [(n, v), (cl, digs k), (cl, digs k)] body) = none := by
  rw [replyI_print h1 h2 (hs := [(n, v), (cl, digs k), (cl, digs k)]) (by
    intro x hx
    simp only [List.mem_cons, List.not_mem_nil, or_false] at hx
    rcases hx with rfl | rfl | rfl
    · exact hh
    · exact ⟨hcn, value_digs hk⟩
    · exact ⟨hcn, value_digs hk⟩) (by simp), lens_twice hn hc hk]
  rfl
theorem replyI_bare {c : Nat} (h1 : 100 ≤ c) (h2 : c ≤ 599) {n v : List Int} (hh : HeadOk (n, v)) (hn : lowL n ≠ clI) (body : List Int) :
    replyI (replyP c [(n, v)] body) = some ⟨c, [(n, v)], body, false⟩ := by
  rw [replyI_print h1 h2 (hs := [(n, v)]) (by intro x hx; rw [List.mem_singleton.1 hx]; exact hh) (by simp)]
  simp only [lensI, lenI]
  rw [if_neg hn]
  rfl
/-! ### an answer that is cut off (ReplyCuts) -/
def cutHead (code k : Nat) : List Int := replyP code [(etagI, [120]), ([67, 111, 110, 116, 101, 110, 116, 45, 76, 101, 110, 103, 116, 104], digs k)] []
theorem cutHead_app (code k : Nat) (body : List Int) : replyP code [(etagI, [120]), ([67, 111, 110, 116, 101, 110, 116, 45, 76, 101, 110, 103, 116, 104], digs k)] body = cutHead code k ++ body := by simp [cutHead, replyP]
theorem cut_none : ∀ k, k < 61 → ∀ code ∈ ([200, 206, 503] : List Nat), ∀ c, c < (cutHead code k).length → (replyI ((cutHead code k).take c)).isNone = true := by decide +kernel
end Go.Proofs.YtkmfbfmmlldphaaDoor
