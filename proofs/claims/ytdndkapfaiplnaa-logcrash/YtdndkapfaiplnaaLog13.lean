/-
  The log's states: Append and Turn, whole or cut off. Nothing runs here.
-/
import Derived.Test.YtdndkapfaiplnaaLog12
namespace Go.Proofs.Ytdndkapfaiplnaa
set_option linter.unusedVariables false
set_option linter.unusedSimpArgs false
set_option maxRecDepth 20000
open Go.RowKit

theorem over_getD (S : List (List Int)) (F : List (List Int)) (k j : Nat) (h : k + S.length ≤ F.length) : (over F (pendOf k S)).getD j [] = if k ≤ j ∧ j < k + S.length then S.getD (j - k) [] else F.getD j [] := by
  simp only [List.getD, over_pendOf S F k j h]
  split <;> rfl
theorem surv_at (S F : List (List Int)) (a : Nat) (ks : List Int) (j : Nat) (h : a + S.length ≤ F.length) :
    (survAll F (pendOf a S) ks).getD j [] = F.getD j [] ∨ (∃ i, i < S.length ∧ j = a + i ∧ ((survAll F (pendOf a S) ks).getD j [] = S.getD i [] ∨ (survAll F (pendOf a S) ks).getD j [] = half2 (S.getD i []) (F.getD j []))) := by
  rw [survAll_pendOf S F a ks j h]
  by_cases hj : a ≤ j ∧ j < a + S.length
  · rw [if_pos hj]
    unfold surv1
    by_cases h2 : ks[j - a]? = some 2
    · rw [if_pos h2]; exact .inr ⟨j - a, by omega, by omega, .inl rfl⟩
    · rw [if_neg h2]
      by_cases h1 : ks[j - a]? = some 1
      · rw [if_pos h1]; exact .inr ⟨j - a, by omega, by omega, .inr rfl⟩
      · rw [if_neg h1]; exact .inl rfl
  · rw [if_neg hj]; exact .inl rfl
theorem bytH {x y : List Int} (hx : Byt x) (hy : Byt y) : Byt (half2 x y) := byt_append (byt_take hx _) (byt_drop hy _)
theorem getD_mem {S : List (List Int)} {i : Nat} (h : i < S.length) : S.getD i [] ∈ S := by simp only [List.getD, List.getElem?_eq_getElem h, Option.getD_some]; exact List.getElem_mem h
theorem allSecs_one (e q : Int) (b : List Int) : allSecs e q [b] = secs_of e q b := by simp [allSecs]
theorem lastEp_le {q b top : Int} {rs : List Rec} (h : RecsOk q b top rs) (hb : b ≤ top) : lastEp b rs ≤ top := by
  rcases Nat.eq_zero_or_pos rs.length with h0 | h0
  · rw [List.eq_nil_of_length_eq_zero h0]; exact hb
  · have hi : rs.length - 1 < rs.length := by omega
    have := lastEp_take_succ b rs (rs.length - 1) hi
    rw [show rs.length - 1 + 1 = rs.length by omega, List.take_length] at this
    rw [this]; exact (h.up _ hi).2
theorem laid_snoc {F : List (List Int)} : ∀ {a : Nat} {q : Int} {rs : List Rec} {r : Rec}, Laid F a q rs → Stands F (a + needR rs) r.1 (q + rs.length) r.2 → Laid F a q (rs ++ [r])
  | a, q, [], r, _, h => ⟨by simpa [needR, needs] using h, trivial⟩
  | a, q, x :: rs, r, hl, h => by
    refine ⟨hl.1, laid_snoc hl.2 ?_⟩
    rw [needR_cons] at h
    rw [show a + need x.2 + needR rs = a + (need x.2 + needR rs) by omega, show q + 1 + (rs.length : Int) = q + ((x :: rs).length : Int) by simp only [List.length_cons]; push_cast; omega]
    exact h
theorem laid_allSecs {F : List (List Int)} (e : Int) : ∀ (bs : List (List Int)) (a : Nat) (q : Int), (∀ i, i < needs bs → F.getD (a + i) [] = (allSecs e q bs).getD i []) → Laid F a q (bs.map (Prod.mk e))
  | [], _, _, _ => trivial
  | b :: bs, a, q, h => by
    refine ⟨fun j hj => ?_, laid_allSecs e bs (a + need b) (q + 1) (fun i hi => ?_)⟩
    · have hj : j < need b := hj
      rw [h j (by simp only [needs]; omega)]
      simp only [allSecs, List.getD]
      rw [List.getElem?_append_left (by rw [length_secs_of]; exact hj), secs_of_get e q b j hj]; rfl
    · have := h (need b + i) (by simp only [needs]; omega)
      rw [show a + need b + i = a + (need b + i) by omega, this]
      simp only [allSecs, List.getD]
      rw [List.getElem?_append_right (by rw [length_secs_of]; omega), length_secs_of, show need b + i - need b = i by omega]
theorem recs_snoc {q b top : Int} {rs : List Rec} {r : Rec} (h : RecsOk q b top rs) (hm : okMark r.1 (q + rs.length) = true) (hn : need r.2 ≤ 255) (hB : Byt r.2) (h1 : lastEp b rs ≤ r.1) (h2 : r.1 ≤ top) : RecsOk q b top (rs ++ [r]) where
  mark := by
    intro i hi
    simp only [List.length_append, List.length_singleton] at hi
    by_cases h' : i < rs.length
    · rw [List.getElem_append_left h']; exact h.mark i h'
    · have : i = rs.length := by omega
      subst this
      rw [List.getElem_append_right (Nat.le_refl _)]; simpa using hm
  need := by intro x hx; rcases List.mem_append.1 hx with hx | hx; exact h.need x hx; rw [List.mem_singleton.1 hx]; exact hn
  byt := by intro x hx; rcases List.mem_append.1 hx with hx | hx; exact h.byt x hx; rw [List.mem_singleton.1 hx]; exact hB
  up := by
    intro i hi
    simp only [List.length_append, List.length_singleton] at hi
    by_cases h' : i < rs.length
    · rw [List.getElem_append_left h', List.take_append_of_le_length (by omega)]; exact h.up i h'
    · have : i = rs.length := by omega
      subst this
      rw [List.getElem_append_right (Nat.le_refl _), List.take_append_of_le_length (Nat.le_refl _), List.take_length]; simpa using ⟨h1, h2⟩

section
variable {F : List (List Int)} {t : Slot} {l : LSt} {rs : List Rec} {b : List Int} {bs : List (List Int)}
theorem Live.bounds (h : Live F t l rs) : 2 ≤ t.at_ ∧ t.at_ + 256 ≤ 514 := by
  have hat := Slot.at_eq h.rest.tok.half
  rcases h.rest.tok.half with e | e <;> rw [e] at hat <;> omega
theorem Live.append_ok (h : Live F t l rs) (hb : Byt b) (hn : need b ≤ 255) (hfit : needR rs + need b ≤ 256) (hq : l.nx ≤ 16777215) :
    Live (over F (pendOf (t.at_ + needR rs) (allSecs l.ep l.nx [b]))) t { l with en := l.en + need b, nx := l.nx + 1 } (rs ++ [(l.ep, b)]) := by
  obtain ⟨hb1, hb2⟩ := h.bounds
  have hFn := h.rest.n
  have hep := h.ep
  have hnx := h.nx
  have hm : okMark l.ep l.nx = true := by
    have h1 := h.rest.tok.ep; have h2 := h.rest.tok.first
    simp only [okMark, decide_eq_true_eq]; omega
  rw [allSecs_one]
  have hg : ∀ j, (over F (pendOf (t.at_ + needR rs) (secs_of l.ep l.nx b))).getD j [] = if t.at_ + needR rs ≤ j ∧ j < t.at_ + needR rs + need b then sec l.ep l.nx b (j - (t.at_ + needR rs)) else F.getD j [] := by
    intro j
    rw [over_getD _ _ _ _ (by rw [length_secs_of]; omega), length_secs_of]
    by_cases hj : t.at_ + needR rs ≤ j ∧ j < t.at_ + needR rs + need b
    · rw [if_pos hj, if_pos hj]
      simp only [List.getD, secs_of_get l.ep l.nx b _ (show j - (t.at_ + needR rs) < need b by omega), Option.getD_some]
    · rw [if_neg hj, if_neg hj]
  have hlen : (over F (pendOf (t.at_ + needR rs) (secs_of l.ep l.nx b))).length = 514 := by rw [length_over]; exact hFn
  generalize over F (pendOf (t.at_ + needR rs) (secs_of l.ep l.nx b)) = F' at *
  have hout : ∀ j, j < t.at_ + needR rs ∨ t.at_ + needR rs + need b ≤ j → F'.getD j [] = F.getD j [] := fun j hj => by rw [hg, if_neg (by omega)]
  refine ⟨⟨hlen, ?_, h.rest.tok, h.rest.num, ?_, ?_, ?_, ?_, ?_, ?_, ?_, h.rest.beg⟩, h.num, h.ep, h.half, ?_, ?_, h.dead, ?_⟩
  · intro j
    rw [hg]
    split
    · exact byt_sec hm hn (by omega) hb
    · exact h.rest.byt j
  · rw [hout _ (.inl (by omega))]; exact h.rest.slot
  · rw [hout _ (.inl (by omega))]; exact h.rest.other
  · intro j h1 h2
    rw [hg]
    split
    · rw [sec_tail.1]; omega
    · exact h.rest.tails j h1 h2
  · refine laid_snoc (laid_congr (fun j h1 h2 => hout j (.inl h2)) h.rest.laid) (fun j hj => ?_)
    simp only at hj ⊢
    rw [hg, if_pos (by omega), ← hnx]
    congr 1; omega
  · exact recs_snoc h.rest.ok (by simp only; rw [← hnx]; exact hm) hn hb (by simp only; rw [hep]; exact lastEp_le h.rest.ok h.rest.beg) (by simp only; omega)
  · rw [needR_append]; simpa [needR, needs] using hfit
  · rw [lastEp_append, needR_append, show needR [(l.ep, b)] = need b by simp [needR, needs]]
    intro hlt hr hk
    rw [pieceR_fl (s := onF F') rfl (by omega) (by show _ < (F'.length : Int); rw [hlen]; push_cast at *; omega), onF_la, Int.toNat_natCast, hout _ (.inr (by omega))] at hr ⊢
    obtain ⟨h1, h2, h3, _⟩ := openR_seal hr
    have ht := tail_seal h1
    rw [h2, h3, ← ht.1, ← ht.2]
    rcases h.new (t.at_ + (needR rs + need b)) (by omega) (by push_cast at hlt; omega) with h' | ⟨_, h'⟩
    · exact .inr h'
    · refine .inl ?_
      simp only [List.length_append, List.length_singleton]
      push_cast
      omega
  · simp only [needR_append, show needR [(l.ep, b)] = need b by simp [needR, needs]]
    rw [h.en]; push_cast; omega
  · simp only [List.length_append, List.length_singleton]; push_cast; omega
  · intro j h1 h2
    rw [hg]
    split
    · exact .inr ⟨sec_tail.1, by rw [sec_tail.2]; simp only; omega⟩
    · rcases h.new j h1 h2 with h' | ⟨h', h''⟩
      · exact .inl h'
      · exact .inr ⟨h', by simp only; omega⟩
theorem Live.append_cut (h : Live F t l rs) (hb : Byt b) (hn : need b ≤ 255) (hfit : needR rs + need b ≤ 256) (hq : l.nx ≤ 16777215) (k : Nat) (hk : k < need b) (ks : List Int) :
    Rest (survAll F (pendOf (t.at_ + needR rs) ((allSecs l.ep l.nx [b]).take k)) ks) t rs := by
  obtain ⟨hb1, hb2⟩ := h.bounds
  have hFn := h.rest.n
  have hep := h.ep
  have hnx := h.nx
  have hm : okMark l.ep l.nx = true := by
    have h1 := h.rest.tok.ep; have h2 := h.rest.tok.first
    simp only [okMark, decide_eq_true_eq]; omega
  rw [allSecs_one]
  have hsl : ((secs_of l.ep l.nx b).take k).length = k := by rw [List.length_take, length_secs_of]; omega
  have hsec : ∀ i, i < k → ((secs_of l.ep l.nx b).take k).getD i [] = sec l.ep l.nx b i := fun i hi => by
    simp only [List.getD, List.getElem?_take_of_lt hi, secs_of_get l.ep l.nx b i (by omega), Option.getD_some]
  have hat : ∀ j, (survAll F (pendOf (t.at_ + needR rs) ((secs_of l.ep l.nx b).take k)) ks).getD j [] = F.getD j [] ∨ (∃ i, i < k ∧ j = t.at_ + needR rs + i ∧ ((survAll F (pendOf (t.at_ + needR rs) ((secs_of l.ep l.nx b).take k)) ks).getD j [] = sec l.ep l.nx b i ∨ (survAll F (pendOf (t.at_ + needR rs) ((secs_of l.ep l.nx b).take k)) ks).getD j [] = half2 (sec l.ep l.nx b i) (F.getD j []))) := by
    intro j
    rcases surv_at ((secs_of l.ep l.nx b).take k) F (t.at_ + needR rs) ks j (by rw [hsl]; omega) with h' | ⟨i, h1, h2, h3⟩
    · exact .inl h'
    · rw [hsl] at h1
      rw [hsec i h1] at h3
      exact .inr ⟨i, h1, h2, h3⟩
  have hlen : (survAll F (pendOf (t.at_ + needR rs) ((secs_of l.ep l.nx b).take k)) ks).length = 514 := by rw [length_survAll]; exact hFn
  generalize survAll F (pendOf (t.at_ + needR rs) ((secs_of l.ep l.nx b).take k)) ks = F' at *
  have hout : ∀ j, j < t.at_ + needR rs ∨ t.at_ + needR rs + k ≤ j → F'.getD j [] = F.getD j [] := fun j hj => by
    rcases hat j with h' | ⟨i, h1, h2, _⟩
    · exact h'
    · omega
  -- a sector that has turned bears the new mark, if it is one
  have hmark : ∀ j, F'.getD j [] ≠ F.getD j [] → (openR (F'.getD j [])).r = 0 → (openR (F'.getD j [])).e = l.ep ∧ (openR (F'.getD j [])).s = l.nx ∧ (openR (F'.getD j [])).q = need b := by
    intro j hne hr
    obtain ⟨_, h2, h3, h4⟩ := openR_seal hr
    rw [h2, h3, h4]
    rcases hat j with h' | ⟨i, _, _, h' | h'⟩
    · exact absurd h' hne
    · rw [h']; exact sec_head
    · rw [h']
      have := head_half2 (x := sec l.ep l.nx b i) (y := F.getD j []) (sec_len _ _ _ _)
      rw [this.1, this.2.1, this.2.2]; exact sec_head
  -- an old sector bears an older one
  have hold : ∀ j, 2 ≤ j → j < 514 → (openR (F.getD j [])).r = 0 → ¬ ((openR (F.getD j [])).e = l.ep ∧ (openR (F.getD j [])).s = l.nx) := by
    intro j h1 h2 hr
    obtain ⟨h3, h4, h5, _⟩ := openR_seal hr
    have ht := tail_seal h3
    rw [h4, h5, ← ht.1, ← ht.2]
    rcases h.new j h1 h2 with h' | ⟨_, h'⟩ <;> omega
  refine ⟨hlen, ?_, h.rest.tok, h.rest.num, ?_, ?_, ?_, ?_, h.rest.ok, h.rest.fit, ?_, h.rest.beg⟩
  · intro j
    rcases hat j with h' | ⟨i, h1, _, h' | h'⟩
    · rw [h']; exact h.rest.byt j
    · rw [h']; exact byt_sec hm hn (by omega) hb
    · rw [h']; exact bytH (byt_sec hm hn (by omega) hb) (h.rest.byt j)
  · rw [hout _ (.inl (by omega))]; exact h.rest.slot
  · rw [hout _ (.inl (by omega))]; exact h.rest.other
  · intro j h1 h2
    rcases hat j with h' | ⟨i, _, _, h' | h'⟩
    · rw [h']; exact h.rest.tails j h1 h2
    · rw [h', sec_tail.1]; omega
    · rw [h', (tail_half2 (sec_len _ _ _ _)).1]; exact h.rest.tails j h1 h2
  · exact laid_congr (fun j h1 h2 => hout j (.inl h2)) h.rest.laid
  · intro hlt hr hk'
    have hp : ∀ j : Nat, t.at_ + needR rs + j < 514 → pieceR (onF F') (((t.at_ + needR rs : Nat) : Int) + j) = openR (F'.getD (t.at_ + needR rs + j) []) := fun j hj => by
      rw [pieceR_fl (s := onF F') rfl (by omega) (by show _ < (F'.length : Int); rw [hlen]; push_cast; omega), onF_la, ← Int.natCast_add, Int.toNat_natCast]
    have hpo : ∀ j : Nat, t.at_ + needR rs + j < 514 → pieceR (onF F) (((t.at_ + needR rs : Nat) : Int) + j) = openR (F.getD (t.at_ + needR rs + j) []) := fun j hj => by
      rw [pieceR_fl (s := onF F) rfl (by omega) (by show _ < (F.length : Int); rw [hFn]; push_cast; omega), onF_la, ← Int.natCast_add, Int.toNat_natCast]
    have hp0 := hp 0 (by push_cast at hlt; omega)
    have hpo0 := hpo 0 (by push_cast at hlt; omega)
    rw [show (((t.at_ + needR rs : Nat) : Int) + ((0 : Nat) : Int)) = ((t.at_ + needR rs : Nat) : Int) by omega] at hp0 hpo0
    rw [Nat.add_zero] at hp0 hpo0
    rw [hp0] at hr hk' ⊢
    have hq' := hk'.1
    by_cases hch : F'.getD (t.at_ + needR rs) [] = F.getD (t.at_ + needR rs) []
    · -- it is the old one: then all its parts are
      rw [hch] at hr hk' hq' ⊢
      have hne := hold (t.at_ + needR rs) (by omega) (by push_cast at hlt; omega) hr
      have hst := h.rest.stop hlt (by rw [hpo0]; exact hr)
      rw [hpo0] at hst
      refine hst (recOk_congr (fun j hj => ?_) hk')
      have hj2 : t.at_ + needR rs + j < 514 := by push_cast at hq'; omega
      rw [hp j hj2, hpo j hj2]
      by_cases hcj : F'.getD (t.at_ + needR rs + j) [] = F.getD (t.at_ + needR rs + j) []
      · rw [hcj]
      · exfalso
        obtain ⟨hg1, hg2⟩ := hk'.2.1 j hj
        rw [hp j hj2] at hg1 hg2
        have := hmark _ hcj hg1
        unfold cont at hg2
        have := (of_decide_eq_true hg2).1
        omega
    · -- it is the new one: one of its parts was not written
      obtain ⟨h1, h2, h3⟩ := hmark _ hch hr
      exfalso
      have hkq : k < (openR (F'.getD (t.at_ + needR rs) [])).q.toNat := by rw [h3]; omega
      obtain ⟨hg1, hg2⟩ := hk'.2.1 k hkq
      have hj2 : t.at_ + needR rs + k < 514 := by omega
      rw [hp k hj2, hout (t.at_ + needR rs + k) (.inr (by omega))] at hg1 hg2
      have hne := hold (t.at_ + needR rs + k) (by omega) hj2 hg1
      unfold cont at hg2
      have := (of_decide_eq_true hg2).1
      omega
/-- The other half's first sector. -/
theorem LSt.tslot_at (h : Live F t l rs) : (l.tslot.at_ : Int) = 2 + (1 - l.half) * 256 ∧ l.tslot.at_ + 256 ≤ 514 ∧ 2 ≤ l.tslot.at_ ∧ (l.tslot.at_ + 256 ≤ t.at_ ∨ t.at_ + 256 ≤ l.tslot.at_) := by
  have hat := Slot.at_eq h.rest.tok.half
  have hh := h.half
  have hat2 : (l.tslot.at_ : Int) = 2 + (1 - l.half) * 256 := Slot.at_eq (t := l.tslot) (by show 1 - l.half = 0 ∨ 1 - l.half = 1; have := h.rest.tok.half; omega)
  refine ⟨hat2, ?_⟩
  rcases h.rest.tok.half with e | e <;> rw [e] at hat hh <;> rw [hh] at hat2 <;> omega
theorem Live.turn_cut (h : Live F t l rs) (hB : ∀ b ∈ bs, Byt b) (hN : ∀ b ∈ bs, need b ≤ 255) (hfit : needs bs ≤ 256) (hq : l.nx + bs.length ≤ 16777216) (k : Nat) (ks : List Int) :
    Rest (survAll F (pendOf l.tslot.at_ ((allSecs l.ep l.nx bs).take k)) ks) t rs := by
  obtain ⟨ha1, ha2, ha3, ha4⟩ := LSt.tslot_at h
  have hFn := h.rest.n
  have hep := h.ep
  have hnx := h.nx
  have hel : ∀ x ∈ (allSecs l.ep l.nx bs).take k, x.length = 32 ∧ Byt x ∧ tailE x = l.ep := by
    intro x hx
    obtain ⟨q', b, j, h1, h2, h3, h4, rfl⟩ := allSecs_mem (List.mem_of_mem_take hx)
    refine ⟨sec_len _ _ _ _, byt_sec ?_ (hN b h3) h4 (hB b h3), sec_tail.1⟩
    have h5 := h.rest.tok.ep; have h6 := h.rest.tok.first
    simp only [okMark, decide_eq_true_eq]; omega
  have hsl : ((allSecs l.ep l.nx bs).take k).length ≤ needs bs := by rw [List.length_take, length_allSecs]; omega
  have hat := fun j => surv_at ((allSecs l.ep l.nx bs).take k) F l.tslot.at_ ks j (by omega)
  generalize (allSecs l.ep l.nx bs).take k = S at *
  refine h.rest.far (by rw [length_survAll]; exact hFn) ?_ ?_ ?_
  · intro j
    rcases hat j with h' | ⟨i, h1, _, h' | h'⟩
    · rw [h']; exact h.rest.byt j
    · rw [h']; exact (hel _ (getD_mem h1)).2.1
    · rw [h']; exact bytH (hel _ (getD_mem h1)).2.1 (h.rest.byt j)
  · intro j hj
    rcases hat j with h' | ⟨i, h1, h2, _⟩
    · exact h'
    · omega
  · intro j h1 h2
    rcases hat j with h' | ⟨i, h3, _, h' | h'⟩
    · rw [h']; exact h.rest.tails j h1 h2
    · rw [h', (hel _ (getD_mem h3)).2.2]; omega
    · rw [h', (tail_half2 (hel _ (getD_mem h3)).1).1]; exact h.rest.tails j h1 h2
theorem over_rows (h : Live F t l rs) (hfit : needs bs ≤ 256) : ∀ j, (over F (pendOf l.tslot.at_ (allSecs l.ep l.nx bs))).getD j [] = if l.tslot.at_ ≤ j ∧ j < l.tslot.at_ + needs bs then (allSecs l.ep l.nx bs).getD (j - l.tslot.at_) [] else F.getD j [] := by
  obtain ⟨ha1, ha2, ha3, ha4⟩ := LSt.tslot_at h
  intro j
  rw [over_getD _ _ _ _ (by rw [length_allSecs, h.rest.n]; omega), length_allSecs]
theorem Live.turn_half (h : Live F t l rs) (hB : ∀ b ∈ bs, Byt b) (hN : ∀ b ∈ bs, need b ≤ 255) (hfit : needs bs ≤ 256) (hq : l.nx + bs.length ≤ 16777216) :
    Rest (over F (pendOf l.tslot.at_ (allSecs l.ep l.nx bs))) t rs := by
  obtain ⟨ha1, ha2, ha3, ha4⟩ := LSt.tslot_at h
  have hg := over_rows (bs := bs) h hfit
  have hep := h.ep
  have hnx := h.nx
  have hel : ∀ i, i < needs bs → Byt ((allSecs l.ep l.nx bs).getD i []) ∧ tailE ((allSecs l.ep l.nx bs).getD i []) = l.ep := by
    intro i hi
    obtain ⟨q', b, j, h1, h2, h3, h4, h5⟩ := allSecs_mem (getD_mem (S := allSecs l.ep l.nx bs) (i := i) (by rw [length_allSecs]; exact hi))
    rw [h5]
    refine ⟨byt_sec ?_ (hN b h3) h4 (hB b h3), sec_tail.1⟩
    have h5 := h.rest.tok.ep; have h6 := h.rest.tok.first
    simp only [okMark, decide_eq_true_eq]; omega
  refine h.rest.far (by rw [length_over]; exact h.rest.n) ?_ ?_ ?_
  · intro j
    rw [hg]
    split
    · exact (hel _ (by omega)).1
    · exact h.rest.byt j
  · intro j hj
    rw [hg, if_neg (by omega)]
  · intro j h1 h2
    rw [hg]
    split
    · rw [(hel _ (by omega)).2]; omega
    · exact h.rest.tails j h1 h2
theorem lastEp_const (e : Int) : ∀ (bs : List (List Int)), lastEp e (bs.map (Prod.mk e)) = e
  | [] => rfl
  | b :: bs => lastEp_const e bs
theorem needR_map (e : Int) (bs : List (List Int)) : needR (bs.map (Prod.mk e)) = needs bs := by
  unfold needR
  rw [List.map_map]
  congr 1
  exact List.map_id' bs
theorem Live.turn_ok (h : Live F t l rs) (hB : ∀ b ∈ bs, Byt b) (hN : ∀ b ∈ bs, need b ≤ 255) (hfit : needs bs ≤ 256) (hq : l.nx + bs.length ≤ 16777215) (hnum : l.num < 16777215) :
    Live ((over F (pendOf l.tslot.at_ (allSecs l.ep l.nx bs))).set ((l.num + 1) % 2).toNat l.tslot.sec) l.tslot (l.turnTo bs) (bs.map (Prod.mk l.ep)) := by
  have hr := h.turn_half hB hN hfit (by omega)
  obtain ⟨ha1, ha2, ha3, ha4⟩ := LSt.tslot_at h
  have hg := over_rows (bs := bs) h hfit
  have hep := h.ep
  have hnx := h.nx
  have hnm := h.num
  have hn1 := h.rest.num
  have htok : l.tslot.Ok := ⟨⟨by simp only [LSt.tslot]; omega, by simp only [LSt.tslot]; omega⟩, by have := h.rest.tok.ep; simp only [LSt.tslot]; omega, by have := h.rest.tok.half; have := h.half; simp only [LSt.tslot]; omega, by have := h.rest.tok.first; simp only [LSt.tslot]; omega, by have := h.rest.tok.ep; simp only [LSt.tslot]; omega⟩
  have hlen : (over F (pendOf l.tslot.at_ (allSecs l.ep l.nx bs))).length = 514 := hr.n
  have hil : ((l.num + 1) % 2).toNat < (over F (pendOf l.tslot.at_ (allSecs l.ep l.nx bs))).length := by rw [hlen]; omega
  have hsl := hr.slot
  have hby := hr.byt
  have hoth : ∀ j, 2 ≤ j → ((over F (pendOf l.tslot.at_ (allSecs l.ep l.nx bs))).set ((l.num + 1) % 2).toNat l.tslot.sec).getD j [] = if l.tslot.at_ ≤ j ∧ j < l.tslot.at_ + needs bs then (allSecs l.ep l.nx bs).getD (j - l.tslot.at_) [] else F.getD j [] := fun j hj => by rw [getD_set hil, if_neg (by omega), hg]
  generalize hF1 : over F (pendOf l.tslot.at_ (allSecs l.ep l.nx bs)) = F1 at *
  have hel : ∀ i, i < needs bs → tailE ((allSecs l.ep l.nx bs).getD i []) = l.ep ∧ tailS ((allSecs l.ep l.nx bs).getD i []) < l.nx + bs.length := by
    intro i hi
    obtain ⟨q', b, j, h1, h2, h3, h4, h5⟩ := allSecs_mem (getD_mem (S := allSecs l.ep l.nx bs) (i := i) (by rw [length_allSecs]; exact hi))
    rw [h5, sec_tail.2]
    exact ⟨sec_tail.1, h2⟩
  have hnew : ∀ j, 2 ≤ j → j < 514 → tailE ((F1.set ((l.num + 1) % 2).toNat l.tslot.sec).getD j []) < l.ep ∨ (tailE ((F1.set ((l.num + 1) % 2).toNat l.tslot.sec).getD j []) = l.ep ∧ tailS ((F1.set ((l.num + 1) % 2).toNat l.tslot.sec).getD j []) < l.nx + bs.length) := by
    intro j h1 h2
    rw [hoth j h1]
    split
    · exact .inr (hel _ (by omega))
    · rcases h.new j h1 h2 with h' | ⟨h', h''⟩
      · exact .inl h'
      · exact .inr ⟨h', by omega⟩
  have hlen2 : (F1.set ((l.num + 1) % 2).toNat l.tslot.sec).length = 514 := by rw [List.length_set]; exact hlen
  refine ⟨⟨hlen2, ?_, htok, ?_, ?_, ?_, ?_, ?_, ⟨?_, ?_, ?_, ?_⟩, by rw [needR_map]; exact hfit, ?_, Int.le_refl _⟩, rfl, rfl, rfl, ?_, ?_, h.dead, hnew⟩
  · intro j
    rw [getD_set hil]
    split
    · exact byt_sealed (Slot.okSeal htok) (Slot.byt htok)
    · exact hby j
  · show 1 ≤ l.num + 1; omega
  · show (F1.set ((l.num + 1) % 2).toNat l.tslot.sec).getD ((l.num + 1) % 2).toNat [] = _
    rw [getD_set hil, if_pos rfl]
  · show tailS ((F1.set ((l.num + 1) % 2).toNat l.tslot.sec).getD (1 - (l.num + 1) % 2).toNat []) < l.num + 1
    rw [getD_set hil, if_neg (by omega), show (1 - (l.num + 1) % 2).toNat = (t.num % 2).toNat by omega, hsl]
    have : tailS t.sec = t.num := (tail_sealed (by simp [Slot.by])).2
    omega
  · intro j h1 h2
    show _ ≤ l.ep
    rcases hnew j h1 h2 with h' | ⟨h', _⟩ <;> omega
  · refine laid_allSecs l.ep bs l.tslot.at_ l.nx (fun i hi => ?_)
    rw [hoth _ (by omega), if_pos (by omega)]
    congr 1; omega
  · intro i hi
    rw [List.length_map] at hi
    have h5 := h.rest.tok.ep; have h6 := h.rest.tok.first
    simp only [List.getElem_map, okMark, decide_eq_true_eq]
    show 0 ≤ l.ep ∧ l.ep ≤ 65535 ∧ 0 ≤ l.nx + (i : Int) ∧ l.nx + (i : Int) ≤ 16777215
    omega
  · intro r hr
    obtain ⟨b, hb, rfl⟩ := List.mem_map.1 hr
    exact hN b hb
  · intro r hr
    obtain ⟨b, hb, rfl⟩ := List.mem_map.1 hr
    exact hB b hb
  · intro i hi
    rw [← List.map_take]
    show lastEp l.ep _ ≤ _ ∧ _ ≤ l.ep
    rw [lastEp_const]
    simp
  · show Stop _ _ _ _ (lastEp l.ep _)
    rw [lastEp_const, needR_map]
    intro hlt hr hk
    rw [pieceR_fl (s := onF _) rfl (by omega) (by show _ < ((F1.set _ _).length : Int); rw [hlen2]; push_cast at *; omega), onF_la, Int.toNat_natCast] at hr ⊢
    obtain ⟨h1, h2, h3, _⟩ := openR_seal hr
    have ht := tail_seal h1
    rw [h2, h3, ← ht.1, ← ht.2]
    rcases hnew (l.tslot.at_ + needs bs) (by omega) (by push_cast at hlt; omega) with h' | ⟨_, h'⟩
    · exact .inr h'
    · refine .inl ?_
      rw [List.length_map]
      show _ ≠ l.nx + _
      omega
  · rw [needR_map]
    show 2 + (1 - l.half) * 256 + (needs bs : Int) = _
    push_cast; omega
  · rw [List.length_map]; rfl
end
end Go.Proofs.Ytdndkapfaiplnaa
