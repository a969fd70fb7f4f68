/-
  The log's states: what writes leave, with power or without. Nothing runs here.
-/
import Derived.Test.YtdndkapfaiplnaaLog11
namespace Go.Proofs.Ytdndkapfaiplnaa
set_option linter.unusedVariables false
set_option linter.unusedSimpArgs false
set_option maxRecDepth 20000
open Go.RowKit

theorem write_any {s : DSt} {i : Int} {x : List Int} (hd : s.down = false) (hl : -1 ≤ s.left) (h0 : 0 ≤ i) (h1 : i < s.n) (hx : x.length = 32) :
    (∃ lf, (-1 ≤ lf ∧ (s.left = -1 → lf = -1)) ∧ s.write i x = { s with pend := s.pend ++ [(i.toNat, x)], left := lf } ∧ s.writeE i x = 0) ∨ (s.left ≠ -1 ∧ s.write i x = { s with down := true } ∧ s.writeE i x = 8) := by
  have hr := refuse0 hd h0 h1
  rcases (show s.left = 0 ∨ s.left = -1 ∨ 0 < s.left by omega) with h | h | h
  · exact .inr ⟨by omega, write_down hr hx h⟩
  · obtain ⟨e1, e2⟩ := write_go (xs := x) hr hx h
    exact .inl ⟨-1, ⟨by omega, fun _ => rfl⟩, by rw [e1, ← h], e2⟩
  · obtain ⟨e1, e2⟩ := write_cnt (xs := x) hr hx h
    exact .inl ⟨s.left - 1, ⟨by omega, fun _ => by omega⟩, e1, e2⟩
theorem writes_any : ∀ (S : List (List Int)) (s : DSt) (a : Nat), s.down = false → -1 ≤ s.left → a + S.length ≤ s.n → (∀ x ∈ S, x.length = 32) →
    (∃ lf, (-1 ≤ lf ∧ (s.left = -1 → lf = -1)) ∧ s.writes a S = ({ s with pend := s.pend ++ pendOf a S, left := lf }, 0)) ∨ (∃ k lf, (s.left ≠ -1 ∧ k < S.length) ∧ s.writes a S = ({ s with pend := s.pend ++ pendOf a (S.take k), left := lf, down := true }, 8))
  | [], s, a, _, hl, _, _ => .inl ⟨s.left, ⟨hl, id⟩, by simp [DSt.writes, pendOf]⟩
  | x :: S, s, a, hd, hl, hn, hx => by
    simp only [List.length_cons] at hn
    rcases write_any (x := x) hd hl (Int.natCast_nonneg a) (by omega) (hx x (.head _)) with ⟨lf, hlf, e1, e2⟩ | ⟨hne, e1, e2⟩
    · rw [writes_cons, if_pos e2, e1, Int.toNat_natCast]
      have ih := writes_any S { s with pend := s.pend ++ [(a, x)], left := lf } (a + 1) hd hlf.1 (by simp only [DSt.n] at *; omega) (fun y hy => hx y (.tail _ hy))
      rw [Int.natCast_add] at ih
      rcases ih with ⟨lf', hlf', e⟩ | ⟨k, lf', hk, e⟩
      · refine .inl ⟨lf', ⟨hlf'.1, fun h => hlf'.2 (hlf.2 h)⟩, ?_⟩
        rw [show ((a : Int) + 1) = (a : Int) + ((1 : Nat) : Int) from rfl, e]
        simp [pendOf]
      · refine .inr ⟨k + 1, lf', ⟨fun h => hk.1 (hlf.2 h), by have := hk.2; simp only [List.length_cons]; omega⟩, ?_⟩
        rw [show ((a : Int) + 1) = (a : Int) + ((1 : Nat) : Int) from rfl, e]
        simp [pendOf]
    · refine .inr ⟨0, s.left, ⟨hne, by simp⟩, ?_⟩
      rw [writes_cons, if_neg (by rw [e2]; omega), e1, e2]
      simp [pendOf]
theorem putS_any {s : DSt} {F : List (List Int)} {a : Int} {x : List Int} (h : OnF s F) (hl : -1 ≤ s.left) (h0 : 0 ≤ a) (h1 : a < s.n) (hx : x.length = 32) :
    (∃ s', s.putS a x = (s', 0) ∧ OnF s' (F.set a.toNat x) ∧ -1 ≤ s'.left ∧ (s.left = -1 → s'.left = -1)) ∨ (∃ s', s.putS a x = (s', 8) ∧ s.left ≠ -1 ∧ s'.fl = F ∧ s'.pend = [] ∧ s'.down = true) := by
  rcases write_any (x := x) h.up hl h0 h1 hx with ⟨lf, hlf, e1, e2⟩ | ⟨hne, e1, e2⟩
  · have e : s.putS a x = ({ fl := over s.fl (s.pend ++ [(a.toNat, x)]), pend := [], left := lf, down := s.down }, 0) := by
      unfold DSt.putS; rw [if_pos e2, e1]
      unfold DSt.flush DSt.flushE
      simp only [h.up]
      rfl
    exact .inl ⟨_, e, ⟨by show over s.fl (s.pend ++ [(a.toNat, x)]) = _; rw [h.pend, h.fl]; rfl, rfl, h.up⟩, hlf.1, hlf.2⟩
  · have e : s.putS a x = ({ s with down := true }, 8) := by unfold DSt.putS; rw [if_neg (by rw [e2]; omega), e1, e2]
    exact .inr ⟨_, e, hne, h.fl, h.pend, rfl⟩
theorem allSecs_mem {e : Int} : ∀ {q : Int} {bs : List (List Int)} {x : List Int}, x ∈ allSecs e q bs → ∃ q' b j, q ≤ q' ∧ q' < q + bs.length ∧ b ∈ bs ∧ j < need b ∧ x = sec e q' b j
  | _, [], _, h => by simp [allSecs] at h
  | q, b :: bs, x, h => by
    rcases List.mem_append.1 h with h | h
    · obtain ⟨j, hj, rfl⟩ := List.mem_map.1 h
      exact ⟨q, b, j, by omega, by simp only [List.length_cons]; omega, .head _, List.mem_range.1 hj, rfl⟩
    · obtain ⟨q', b', j, h1, h2, h3, h4, h5⟩ := allSecs_mem h
      exact ⟨q', b', j, by omega, by simp only [List.length_cons]; omega, .tail _ h3, h4, h5⟩
theorem allSecs_len {e q : Int} {bs : List (List Int)} : ∀ x ∈ allSecs e q bs, x.length = 32 := by
  intro x hx
  obtain ⟨q', b, j, _, _, _, _, rfl⟩ := allSecs_mem hx
  exact sec_len _ _ _ _
theorem lwrite_any {s : DSt} {F : List (List Int)} {a : Nat} {e q : Int} {bs : List (List Int)} (h : OnF s F) (hl : -1 ≤ s.left) (hn : a + needs bs ≤ s.n) :
    (∃ s', s.lwrite a e q bs = (s', 0) ∧ OnF s' (over F (pendOf a (allSecs e q bs))) ∧ -1 ≤ s'.left ∧ (s.left = -1 → s'.left = -1)) ∨ (∃ s' k, (s.left ≠ -1 ∧ k < needs bs) ∧ s.lwrite a e q bs = (s', 8) ∧ s'.fl = F ∧ s'.pend = pendOf a ((allSecs e q bs).take k) ∧ s'.down = true) := by
  rcases writes_any (allSecs e q bs) s a h.up hl (by rw [length_allSecs]; exact hn) allSecs_len with ⟨lf, hlf, he⟩ | ⟨k, lf, hk, he⟩
  · have e2 : s.lwrite a e q bs = ({ fl := over s.fl (s.pend ++ pendOf a (allSecs e q bs)), pend := [], left := lf, down := s.down }, 0) := by
      unfold DSt.lwrite
      rw [he]
      simp only [if_true]
      unfold DSt.flush DSt.flushE
      simp only [h.up]
      rfl
    exact .inl ⟨_, e2, ⟨by show over s.fl (s.pend ++ pendOf a (allSecs e q bs)) = _; rw [h.pend, h.fl]; rfl, rfl, h.up⟩, hlf.1, hlf.2⟩
  · rw [length_allSecs] at hk
    have e2 : s.lwrite a e q bs = ({ s with pend := s.pend ++ pendOf a ((allSecs e q bs).take k), left := lf, down := true }, 8) := by
      unfold DSt.lwrite
      rw [he]
      simp
    exact .inr ⟨_, k, hk, e2, h.fl, by show s.pend ++ _ = _; rw [h.pend]; rfl, rfl⟩
theorem setD_same {F : List (List Int)} {i : Nat} {x : List Int} (h : F.getD i [] = x) : F.set i x = F := by
  apply List.ext_getElem?
  intro j
  by_cases hj : i = j
  · subst hj
    by_cases hl : i < F.length
    · rw [List.getElem?_set_self hl, ← h, List.getElem?_eq_getElem hl]; simp [List.getD, hl]
    · rw [List.getElem?_eq_none (by simp; omega), List.getElem?_eq_none (by omega)]
  · rw [List.getElem?_set_ne hj]
theorem getD_set {F : List (List Int)} {i j : Nat} {x : List Int} (hi : i < F.length) : (F.set i x).getD j [] = if j = i then x else F.getD j [] := by
  by_cases h : j = i
  · subst h; rw [if_pos rfl]; simp [List.getD, hi]
  · rw [if_neg h]; simp only [List.getD]; rw [List.getElem?_set_ne (fun e => h e.symm)]
theorem Rest.far {F F' : List (List Int)} {t : Slot} {rs : List Rec} (h : Rest F t rs) (hn : F'.length = 514) (hb : ∀ j : Nat, Byt (F'.getD j [])) (hs : ∀ j, (j < 2 ∨ (t.at_ ≤ j ∧ j < t.at_ + 256)) → F'.getD j [] = F.getD j []) (ht : ∀ j, 2 ≤ j → j < 514 → tailE (F'.getD j []) ≤ t.ep) : Rest F' t rs where
  n := hn
  byt := hb
  tok := h.tok
  num := h.num
  slot := by rw [hs _ (.inl (by omega))]; exact h.slot
  other := by rw [hs _ (.inl (by omega))]; exact h.other
  tails := ht
  laid := laid_congr (fun j h1 h2 => hs j (.inr ⟨h1, by have := h.fit; omega⟩)) h.laid
  ok := h.ok
  fit := h.fit
  stop := by
    have hat := Slot.at_eq h.tok.half
    have hh := h.tok.half
    refine stop_congr (fun i h1 h2 => ?_) h.stop
    have hlt : i < 514 := by rcases hh with e | e <;> rw [e] at hat <;> omega
    rw [pieceR_fl (s := onF F) rfl (by omega) (by show i < (F.length : Int); rw [h.n]; omega), pieceR_fl (s := onF F') rfl (by omega) (by show i < (F'.length : Int); rw [hn]; omega), onF_la, onF_la, hs i.toNat (.inr (by omega))]
  beg := h.beg
/-- The slot of the same half under a newer epoch and number. -/
theorem Rest.up {F : List (List Int)} {t : Slot} {rs : List Rec} (h : Rest F t rs) (h1 : t.num < 16777215) (h2 : t.ep < 65535) : Live (F.set ((t.num + 1) % 2).toNat t.up.sec) t.up ⟨t.num + 1, t.ep + 1, t.half, ((t.at_ + needR rs : Nat) : Int), t.first + rs.length, false⟩ rs := by
  have hn := h.num
  have hup : t.up.Ok := ⟨⟨by simp only [Slot.up]; omega, by simp only [Slot.up]; omega⟩, ⟨by have := h.tok.ep.1; simp only [Slot.up]; omega, by simp only [Slot.up]; omega⟩, h.tok.half, h.tok.first, h.tok.begun⟩
  have hil : ((t.num + 1) % 2).toNat < F.length := by rw [h.n]; omega
  have hat := Slot.at_eq h.tok.half
  have hat2 : 2 ≤ t.at_ := by rcases h.tok.half with e | e <;> rw [e] at hat <;> omega
  have hatu : t.up.at_ = t.at_ := rfl
  have hoth : ∀ j, 2 ≤ j → (F.set ((t.num + 1) % 2).toNat t.up.sec).getD j [] = F.getD j [] := fun j hj => by rw [getD_set hil, if_neg (by omega)]
  refine ⟨⟨by rw [List.length_set]; exact h.n, ?_, hup, ?_, ?_, ?_, ?_, ?_, ⟨h.ok.mark, h.ok.need, h.ok.byt, ?_⟩, h.fit, ?_, ?_⟩, rfl, rfl, rfl, rfl, rfl, rfl, ?_⟩
  · intro j
    rw [getD_set hil]
    split
    · exact byt_sealed (Slot.okSeal hup) (Slot.byt hup)
    · exact h.byt j
  · show 1 ≤ t.num + 1; omega
  · show (F.set ((t.num + 1) % 2).toNat t.up.sec).getD ((t.num + 1) % 2).toNat [] = _
    rw [getD_set hil, if_pos rfl]
  · show tailS ((F.set ((t.num + 1) % 2).toNat t.up.sec).getD (1 - (t.num + 1) % 2).toNat []) < t.num + 1
    rw [getD_set hil, if_neg (by omega), show (1 - (t.num + 1) % 2).toNat = (t.num % 2).toNat by omega, h.slot]
    have : tailS t.sec = t.num := (tail_sealed (by simp [Slot.by])).2
    omega
  · intro j h3 h4
    rw [hoth j h3]
    have := h.tails j h3 h4
    show _ ≤ t.ep + 1
    omega
  · rw [hatu]; exact laid_congr (fun j h3 h4 => hoth j (by omega)) h.laid
  · intro i hi
    have := h.ok.up i hi
    exact ⟨this.1, by show _ ≤ t.ep + 1; omega⟩
  · rw [hatu]
    refine stop_congr (fun i h3 h4 => ?_) h.stop
    have hlt : i < 514 := by rcases h.tok.half with e | e <;> rw [e] at hat <;> omega
    rw [pieceR_fl (s := onF F) rfl (by omega) (by show i < (F.length : Int); rw [h.n]; omega), pieceR_fl (s := onF _) rfl (by omega) (by show i < ((F.set _ _).length : Int); rw [List.length_set, h.n]; omega), onF_la, onF_la, hoth i.toNat (by omega)]
  · have := h.beg; show t.begun ≤ t.ep + 1; omega
  · intro j h3 h4
    rw [hoth j h3]
    have := h.tails j h3 h4
    exact .inl (by show _ < t.ep + 1; omega)
theorem Rest.opened {F : List (List Int)} {t : Slot} {rs : List Rec} {s : DSt} (h : Rest F t rs) (hs : OnF s F) (hl : -1 ≤ s.left) (h1 : t.num < 16777215) (h2 : t.ep < 65535) :
    (∃ s', s.opened t (t.num % 2) = (s', 0) ∧ OnF s' (F.set ((t.num + 1) % 2).toNat t.up.sec) ∧ -1 ≤ s'.left ∧ (s.left = -1 → s'.left = -1)) ∨ (∃ s', s.opened t (t.num % 2) = (s', 8) ∧ s.left ≠ -1 ∧ s'.fl = F ∧ s'.pend = [] ∧ s'.down = true) := by
  have hn := hs.n
  rw [h.n] at hn
  unfold DSt.opened
  rcases putS_any hs hl (a := t.num % 2) (x := t.sec) (by omega) (by omega) t.sec_len with ⟨s1, e1, o1, hl1, hp1⟩ | ⟨s1, e1, o1⟩
  · rw [e1]
    simp only [if_true]
    rw [setD_same h.slot] at o1
    have hn1 := o1.n
    rw [h.n] at hn1
    rcases putS_any o1 hl1 (a := (t.num + 1) % 2) (x := t.up.sec) (by omega) (by omega) t.up.sec_len with ⟨s2, e2, o2, hl2, hp2⟩ | ⟨s2, e2, hne, o2⟩
    · exact .inl ⟨s2, e2, o2, hl2, fun h => hp2 (hp1 h)⟩
    · exact .inr ⟨s2, e2, fun h => hne (hp1 h), o2⟩
  · rw [e1]
    exact .inr ⟨s1, by simp, o1⟩
end Go.Proofs.Ytdndkapfaiplnaa
