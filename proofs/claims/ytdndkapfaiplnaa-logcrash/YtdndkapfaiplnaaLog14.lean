/-
  Package log: Open, Append, Turn upon a log that rests or lives; the document's example.
-/
import Derived.Test.YtdndkapfaiplnaaLog13
namespace Go.Proofs.Ytdndkapfaiplnaa
set_option linter.unusedVariables false
set_option linter.unusedSimpArgs false
set_option maxRecDepth 20000
open Go.RowKit

/-- No power; and whatever survives, the log rests so. -/
def Cut (s : DSt) (t : Slot) (rs : List Rec) : Prop := s.down = true ∧ ∀ ks, ∃ F, OnF (s.crash ks) F ∧ Rest F t rs
theorem cut_same {s : DSt} {F : List (List Int)} {t : Slot} {rs : List Rec} (h : Rest F t rs) (hf : s.fl = F) (hp : s.pend = []) (hd : s.down = true) : Cut s t rs :=
  ⟨hd, fun ks => ⟨F, ⟨by unfold DSt.crash; rw [hp, hf]; rfl, rfl, rfl⟩, h⟩⟩
def upL (t : Slot) (rs : List Rec) : LSt := ⟨t.num + 1, t.ep + 1, t.half, ((t.at_ + needR rs : Nat) : Int), t.first + rs.length, false⟩
def OpenLive (w0 : World) (R : Blks) (d : Value) (s : DSt) (t : Slot) (rs : List Rec) (en : Ending) (w' : World) : Prop :=
  (∃ s' F' gv rv X Ld Lg, en = .returned (.tuple #[gv, rv, .int .i64 0]) ∧ OnF s' F' ∧ Live F' t.up (upL t rs) rs ∧ (s.left = -1 → s'.left = -1) ∧ IsLog gv d (upL t rs) Lg ∧ GotRows w0 X rv (rs.map (·.2)) ∧ IsDisk d s' Ld ∧ Own w0 w' (Ld ++ (Lg ++ (X ++ R)))) ∨
  (∃ s', s.left ≠ -1 ∧ Cut s' t rs ∧ NoOpen w0 R d s' 8 en w')
def DidLive (w0 : World) (R : Blks) (v d : Value) (s : DSt) (t : Slot) (rs : List Rec) (t' : Slot) (l' : LSt) (rs' : List Rec) (en : Ending) (w' : World) : Prop :=
  (∃ s' F', OnF s' F' ∧ Live F' t' l' rs' ∧ (s.left = -1 → s'.left = -1) ∧ HasBoth w0 R v d s' l' 0 en w') ∨ (∃ s' l2, s.left ≠ -1 ∧ Cut s' t rs ∧ HasBoth w0 R v d s' l2 8 en w')
section
variable {w0 w : World} {R L Lg : Blks} {d v bw rv : Value} {s : DSt} {F : List (List Int)} {t : Slot} {l : LSt} {rs : List Rec} {b : List Int} {bs : List (List Int)}
theorem open_live (hd : IsDisk d s L) (hO : Own w0 w (L ++ R)) (hs : OnF s F) (h : Rest F t rs) (h1 : t.num < 16777215) (h2 : t.ep < 65535) (hq : t.first + rs.length ≤ 16777216) : Calls Try.prog 25 #[d] w (OpenLive w0 R d s t rs) := by
  have hla := hs.la
  have hn : s.n = 514 := by rw [hs.n, h.n]
  refine (lopen_c hd hO hn hs.up (by rw [hla]; exact h.byt) t (t.num % 2) (by rw [hla]; exact h.newest) h.tok h1 h2 (by rw [hs.pend]; simp) rs t.at_ (Slot.at_eq h.tok.half) hq (by rw [hla]; exact h.laid) h.ok h.fit (stop_on hs.fl hs.pend hs.up h.stop)).mono ?_
  intro en w' hp
  rcases h.opened hs hd.1.left.1 h1 h2 with ⟨s', e, o, hl, hpw⟩ | ⟨s', e, hne, hf, hp', hdn⟩
  · rw [e] at hp
    rcases hp with ⟨_, gv, rv, X, Ld, Lg, h3, h4, h5, h6, h7⟩ | ⟨h3, _⟩
    · exact .inl ⟨s', _, gv, rv, X, Ld, Lg, h3, o, h.up h1 h2, hpw, h4, h5, h6, h7⟩
    · exact absurd rfl h3
  · rw [e] at hp
    rcases hp with ⟨h3, _⟩ | ⟨_, h3⟩
    · simp at h3
    · exact .inr ⟨s', hne, cut_same h hf hp' hdn, h3⟩
theorem append_live (hd : IsDisk d s L) (hg : IsLog v d l Lg) (hO : Own w0 w (L ++ (Lg ++ R))) (hs : OnF s F) (h : Live F t l rs) (hb : Rd w0 R bw b) (hB : Byt b) (hn : need b ≤ 255) (hbl : b.length ≤ 1000000) (hfit : needR rs + need b ≤ 256) (hq : l.nx ≤ 16777215) :
    Calls Try.prog 26 #[v, bw] w (DidLive w0 R v d s t rs t { l with en := l.en + need b, nx := l.nx + 1 } (rs ++ [(l.ep, b)])) := by
  have hat := Slot.at_eq h.rest.tok.half
  have hen := h.en; have hh := h.half; have hnx := h.nx; have hep := h.ep
  have hte := h.rest.tok.ep; have hfi := h.rest.tok.first
  obtain ⟨hb1, hb2⟩ := h.bounds
  refine (append_go hd hg hO hb hB hn hbl (by rw [hh]; exact h.rest.tok.half) (by omega) h.dead (by rw [hen, hh]; push_cast; omega) (by rw [hs.n, h.rest.n]) ⟨by omega, hq⟩ (by omega) (by rw [hs.pend]; simp)).mono ?_
  intro en w' hp
  rw [hen] at hp
  have hnn : t.at_ + needR rs + needs [b] ≤ s.n := by rw [hs.n, h.rest.n]; simp only [needs]; omega
  rcases lwrite_any (a := t.at_ + needR rs) (e := l.ep) (q := l.nx) (bs := [b]) hs hd.1.left.1 hnn with ⟨s', e, o, hl, hpw⟩ | ⟨s', k, ⟨hne, hk⟩, e, hf, hpe, hdn⟩
  · rw [e] at hp
    rcases hp with ⟨_, h3⟩ | ⟨h3, _⟩
    · refine .inl ⟨s', _, o, h.append_ok hB hn hfit hq, hpw, ?_⟩
      rw [hen]; exact h3
    · exact absurd rfl h3
  · rw [e] at hp
    rcases hp with ⟨h3, _⟩ | ⟨_, h3⟩
    · simp at h3
    · refine .inr ⟨s', _, hne, ⟨hdn, fun ks => ⟨_, ⟨rfl, rfl, rfl⟩, ?_⟩⟩, h3⟩
      have := h.append_cut hB hn hfit hq k (by simpa [needs] using hk) ks
      show Rest (survAll s'.fl s'.pend ks) t rs
      rw [hf, hpe]; exact this
theorem turn_live (hd : IsDisk d s L) (hg : IsLog v d l Lg) (hO : Own w0 w (L ++ (Lg ++ R))) (hs : OnF s F) (h : Live F t l rs) (hr : RdRows w0 R rv bs) (hB : ∀ b ∈ bs, Byt b) (hN : ∀ b ∈ bs, need b ≤ 255) (hbl : ∀ b ∈ bs, b.length ≤ 1000000) (hlb : bs.length ≤ 1000) (hfit : needs bs ≤ 256) (hnum : l.num < 16777215) (hq : l.nx + bs.length ≤ 16777215) :
    Calls Try.prog 27 #[v, rv] w (DidLive w0 R v d s t rs l.tslot (l.turnTo bs) (bs.map (Prod.mk l.ep))) := by
  have hen := h.en; have hh := h.half; have hnx := h.nx; have hep := h.ep; have hnm := h.num; have hn1 := h.rest.num
  have hte := h.rest.tok.ep; have hfi := h.rest.tok.first
  obtain ⟨ha1, ha2, ha3, ha4⟩ := LSt.tslot_at h
  refine (turn_go hd hg hO hr hB hN hbl hlb (by rw [hh]; exact h.rest.tok.half) h.dead hfit (by rw [hs.n, h.rest.n]) ⟨by omega, hnum⟩ ⟨by omega, hq⟩ (by omega) (by rw [hs.pend]; simp)).mono ?_
  intro en w' hp
  have hnn : l.tslot.at_ + needs bs ≤ s.n := by rw [hs.n, h.rest.n]; omega
  unfold DSt.turned at hp
  rw [← ha1] at hp
  rcases lwrite_any (a := l.tslot.at_) (e := l.ep) (q := l.nx) (bs := bs) hs hd.1.left.1 hnn with ⟨s1, e1, o1, hl1, hpw1⟩ | ⟨s', k, ⟨hne, hk⟩, e, hf, hpe, hdn⟩
  · rw [e1] at hp
    simp only [if_true] at hp
    have hn1 : s1.n = 514 := by rw [o1.n, length_over, h.rest.n]
    rcases putS_any o1 hl1 (a := (l.num + 1) % 2) (x := l.tslot.sec) (by omega) (by omega) l.tslot.sec_len with ⟨s2, e2, o2, hl2, hpw2⟩ | ⟨s2, e2, hne, hf, hpe, hdn⟩
    · rw [e2] at hp
      rcases hp with ⟨_, h3⟩ | ⟨h3, _⟩
      · exact .inl ⟨s2, _, o2, h.turn_ok hB hN hfit hq hnum, fun h' => hpw2 (hpw1 h'), h3⟩
      · exact absurd rfl h3
    · rw [e2] at hp
      rcases hp with ⟨h3, _⟩ | ⟨_, h3⟩
      · simp at h3
      · exact .inr ⟨s2, _, fun h' => hne (hpw1 h'), cut_same (h.turn_half hB hN hfit (by omega)) hf hpe hdn, h3⟩
  · rw [e] at hp
    simp only [show ¬ ((8 : Int) = 0) by omega, if_false] at hp
    rcases hp with ⟨h3, _⟩ | ⟨_, h3⟩
    · simp at h3
    · refine .inr ⟨s', _, hne, ⟨hdn, fun ks => ⟨_, ⟨rfl, rfl, rfl⟩, ?_⟩⟩, h3⟩
      have := h.turn_cut hB hN hfit (by omega) k ks
      show Rest (survAll s'.fl s'.pend ks) t rs
      rw [hf, hpe]; exact this
end
/-! ### behind a Format -/
theorem fmt_get (j : Nat) (h : j < 514) : fmtSt.fl.getD j [] = if j = 1 then slot1.sec else zsec := by
  show ((zsecs 514).set 1 slot1.sec).getD j [] = _
  rw [getD_set (by rw [zsecs_len]; omega), zsecs_getD 514 j h]
theorem fmt_len : fmtSt.fl.length = 514 := by show ((zsecs 514).set 1 slot1.sec).length = _; rw [List.length_set, zsecs_len]
theorem rest_fmt : Rest fmtSt.fl slot1 [] where
  n := fmt_len
  byt := by
    intro j
    by_cases h : j < 514
    · rw [fmt_get j h]
      split
      · exact byt_sealed (Slot.okSeal slot1_ok) (Slot.byt slot1_ok)
      · exact zsec_byt
    · rw [List.getD, List.getElem?_eq_none (by rw [fmt_len]; omega)]
      intro x hx; simp at hx
  tok := slot1_ok
  num := by decide
  slot := by rw [fmt_get _ (by decide)]; rfl
  other := by rw [fmt_get _ (by decide)]; decide
  tails := by
    intro j h1 h2
    rw [fmt_get j h2, if_neg (by omega), zsec_tail.1]; decide
  laid := trivial
  ok := ⟨by intro i h; simp at h, by simp, by simp, by intro i h; simp at h⟩
  fit := by simp [needR, needs]
  stop := by
    intro _ hr
    exfalso
    have e : ((slot1.at_ + needR [] : Nat) : Int) = 2 := by decide
    rw [e, pieceR_fl (s := onF fmtSt.fl) rfl (by omega) (by show (2 : Int) < (fmtSt.fl.length : Int); rw [fmt_len]; omega), onF_la] at hr
    rw [show fmtSt.fl.getD (2 : Int).toNat [] = zsec from (fmt_get 2 (by decide)).trans (if_neg (by decide))] at hr
    exact absurd hr (by decide)
  beg := by decide
theorem onF_fmt : OnF fmtSt fmtSt.fl := ⟨rfl, rfl, rfl⟩
theorem new_la (n : Nat) : (newSt n).la = zsecs n := rfl
theorem newTo_zero : (newTo (zsecs 514) 2).2.2 = false := by
  have h0 : (slotR ((zsecs 514).getD 0 [])).2 = false := by rw [zsecs_getD 514 0 (by omega)]; decide
  have h1 : (slotR ((zsecs 514).getD 1 [])).2 = false := by rw [zsecs_getD 514 1 (by omega)]; decide
  rw [newTo_no _ 1 (.inl h1), newTo_no _ 0 (.inl h0)]; rfl
end Go.Proofs.Ytdndkapfaiplnaa
