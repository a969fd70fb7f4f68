/-
  The log's states upon the disk's sectors: nothing runs here.
-/
import Derived.Test.YtdndkapfaiplnaaFrame8
import Derived.Test.YtdndkapfaiplnaaLog9
import Derived.Test.YtdndkapfaiplnaaLog10
namespace Go.Proofs.Ytdndkapfaiplnaa
set_option linter.unusedVariables false
set_option linter.unusedSimpArgs false
set_option maxRecDepth 20000
open Go.RowKit

def tailE (y : List Int) : Int := y.getD 30 0 * 256 + y.getD 31 0
def tailS (y : List Int) : Int := y.getD 27 0 * 65536 + y.getD 28 0 * 256 + y.getD 29 0
theorem tail_sealed {e s p q : Int} {b : List Int} (hb : b.length ≤ 19) : tailE (sealed e s p q b) = e ∧ tailS (sealed e s p q b) = s := by
  obtain ⟨h1, h2, h3, h4, h5⟩ := sealed_ends e s p q b hb
  unfold tailE tailS
  rw [h1, h2, h3, h4, h5]
  omega
theorem tail_seal {xs : List Int} (h : isSeal xs = true) : tailE xs = tE xs ∧ tailS xs = tS xs := by
  obtain ⟨h1, h2, h3, h4, h5⟩ := isSeal_ends h
  unfold tailE tailS tE tS
  rw [h1, h2, h3, h4, h5]
  exact ⟨rfl, rfl⟩
theorem tail_half2 {x y : List Int} (hx : x.length = 32) : tailE (half2 x y) = tailE y ∧ tailS (half2 x y) = tailS y := by
  unfold tailE tailS
  simp only [half2_get x y hx]
  simp
theorem head_half2 {x y : List Int} (hx : x.length = 32) : tE (half2 x y) = tE x ∧ tS (half2 x y) = tS x ∧ (half2 x y).getD 6 0 = x.getD 6 0 := by
  unfold tE tS
  simp only [half2_get x y hx]
  simp
theorem openR_seal {xs : List Int} (h : (openR xs).r = 0) : isSeal xs = true ∧ (openR xs).e = tE xs ∧ (openR xs).s = tS xs ∧ (openR xs).q = xs.getD 6 0 := by
  have h1 := openR_r.1 h
  refine ⟨h1, ?_⟩
  unfold openR
  rw [if_pos h1]
  exact ⟨rfl, rfl, rfl⟩
theorem zsec_tail : tailE zsec = 0 ∧ tailS zsec = 0 := by decide
theorem sec_tail {e q : Int} {b : List Int} {j : Nat} : tailE (sec e q b j) = e ∧ tailS (sec e q b j) = q := tail_sealed (length_chunk _ _)
theorem sec_head {e q : Int} {b : List Int} {j : Nat} : tE (sec e q b j) = e ∧ tS (sec e q b j) = q ∧ (sec e q b j).getD 6 0 = need b := ⟨tE_sealed, tS_sealed, (sealed_head _ _ _ _ _).2.2.2.2.2.2.1⟩

/-! ### what is read hangs on the half's sectors -/
theorem pieceR_fl {s : DSt} {i : Int} (hd : s.down = false) (h0 : 0 ≤ i) (h1 : i < s.n) : pieceR s i = openR (s.la.getD i.toNat []) := by
  unfold pieceR; rw [if_pos (refuse0 hd h0 h1)]
theorem joinB_congr {s s' : DSt} {a : Int} : ∀ (n : Nat), (∀ j, j < n → pieceR s (a + j) = pieceR s' (a + j)) → joinB s a n = joinB s' a n
  | 0, _ => rfl
  | n + 1, h => by rw [joinB, joinB, joinB_congr n (fun j hj => h j (by omega)), h n (by omega)]
theorem recOk_congr {s s' : DSt} {a en : Int} {f : Opened} (h : ∀ j, j < f.q.toNat → pieceR s (a + j) = pieceR s' (a + j)) (hr : RecOk s a en f) : RecOk s' a en f := by
  obtain ⟨h1, h2, h3, h4⟩ := hr
  rw [joinB_congr _ h] at h3 h4
  refine ⟨h1, fun j hj => ?_, h3, h4⟩
  have := h2 j hj
  unfold goodPart at this ⊢
  rw [h j hj] at this
  exact this
theorem stop_congr {s s' : DSt} {a brim q ep : Int} (h : ∀ i : Int, a ≤ i → i < brim → pieceR s i = pieceR s' i) (hs : Stop s a brim q ep) : Stop s' a brim q ep := by
  intro hlt hr hk
  rw [← h a (by omega) hlt] at hr hk ⊢
  refine hs hlt hr (recOk_congr (fun j hj => ?_) hk)
  have := hk.1
  exact (h (a + j) (by omega) (by omega)).symm
/-- A disk of these sectors, with power. -/
def onF (F : List (List Int)) : DSt := { fl := F, pend := [], left := -1, down := false }
theorem onF_la (F : List (List Int)) : (onF F).la = F := rfl
theorem pieceR_on {s : DSt} {F : List (List Int)} (hf : s.fl = F) (hp : s.pend = []) (hd : s.down = false) (i : Int) : pieceR s i = pieceR (onF F) i := by
  subst hf
  have hr : s.refuse i = (onF s.fl).refuse i := by unfold DSt.refuse; rw [hd]; rfl
  have hl : s.la = (onF s.fl).la := by unfold DSt.la; rw [hp]; rfl
  unfold pieceR
  rw [hr, hl]
theorem stop_on {s : DSt} {F : List (List Int)} (hf : s.fl = F) (hp : s.pend = []) (hd : s.down = false) {a brim q ep : Int} (h : Stop (onF F) a brim q ep) : Stop s a brim q ep := stop_congr (fun i _ _ => (pieceR_on hf hp hd i).symm) h

/-! ### a log at rest -/
def Slot.at_ (t : Slot) : Nat := (2 + t.half * 256).toNat
theorem Slot.at_eq {t : Slot} (h : t.half = 0 ∨ t.half = 1) : (t.at_ : Int) = 2 + t.half * 256 := by unfold Slot.at_; rcases h with h | h <;> rw [h] <;> rfl
structure Rest (F : List (List Int)) (t : Slot) (rs : List Rec) : Prop where
  n : F.length = 514
  byt : ∀ j : Nat, Byt (F.getD j [])
  tok : t.Ok
  num : 1 ≤ t.num
  slot : F.getD (t.num % 2).toNat [] = t.sec
  other : tailS (F.getD (1 - t.num % 2).toNat []) < t.num
  tails : ∀ j, 2 ≤ j → j < 514 → tailE (F.getD j []) ≤ t.ep
  laid : Laid F t.at_ t.first rs
  ok : RecsOk t.first t.begun t.ep rs
  fit : needR rs ≤ 256
  stop : Stop (onF F) (t.at_ + needR rs : Nat) (t.at_ + 256) (t.first + rs.length) (lastEp t.begun rs)
  beg : t.begun ≤ t.ep
structure Live (F : List (List Int)) (t : Slot) (l : LSt) (rs : List Rec) : Prop where
  rest : Rest F t rs
  num : l.num = t.num
  ep : l.ep = t.ep
  half : l.half = t.half
  en : l.en = (t.at_ + needR rs : Nat)
  nx : l.nx = t.first + rs.length
  dead : l.dead = false
  new : ∀ j, 2 ≤ j → j < 514 → tailE (F.getD j []) < l.ep ∨ (tailE (F.getD j []) = l.ep ∧ tailS (F.getD j []) < l.nx)
/-- A disk that rests upon these sectors. -/
structure OnF (s : DSt) (F : List (List Int)) : Prop where
  fl : s.fl = F
  pend : s.pend = []
  up : s.down = false
theorem OnF.la {s : DSt} {F : List (List Int)} (h : OnF s F) : s.la = F := by unfold DSt.la; rw [h.pend, h.fl]; rfl
theorem OnF.n {s : DSt} {F : List (List Int)} (h : OnF s F) : s.n = F.length := by unfold DSt.n; rw [h.fl]
theorem laid_congr {F F' : List (List Int)} : ∀ {a : Nat} {q : Int} {rs : List Rec}, (∀ j, a ≤ j → j < a + needR rs → F'.getD j [] = F.getD j []) → Laid F a q rs → Laid F' a q rs
  | _, _, [], _, _ => trivial
  | a, q, r :: rs, h, hl => by
    rw [needR_cons] at h
    exact ⟨fun j hj => (h (a + j) (by omega) (by omega)).trans (hl.1 j hj), laid_congr (fun j h1 h2 => h j (by omega) (by omega)) hl.2⟩

theorem slotR_sec {t : Slot} (h : t.Ok) : slotR t.sec = (t, true) := by
  have ho : openR t.sec = ⟨t.ep, t.num, 0, 1, t.by, 0⟩ := openR_sealed (Slot.okSeal h)
  unfold slotR
  rw [ho]
  obtain ⟨nu, ep, ha, fi, be⟩ := t
  have h1 := h.half; have h2 := h.first; have h3 := h.begun
  simp only at h1 h2 h3
  have hi : isSlot ⟨ep, nu, 0, 1, (Slot.mk nu ep ha fi be).by, 0⟩ = true := by
    simp only [isSlot, Slot.by, decide_eq_true_eq]
    refine ⟨trivial, trivial, trivial, rfl, ?_⟩
    show ha ≤ 1
    omega
  rw [if_pos hi]
  unfold slotIn Slot.by
  simp only [Prod.mk.injEq, and_true, Slot.mk.injEq, true_and]
  refine ⟨rfl, ?_, ?_⟩
  · show fi / 65536 * 65536 + fi / 256 % 256 * 256 + fi % 256 = fi
    omega
  · show be / 256 * 256 + be % 256 = be
    omega
theorem slotR_num {y : List Int} (h : (slotR y).2 = true) : (slotR y).1.num = tailS y := by
  unfold slotR at h ⊢
  by_cases hi : isSlot (openR y) = true
  · rw [if_pos hi] at h ⊢
    have hr : (openR y).r = 0 := by unfold isSlot at hi; exact (of_decide_eq_true hi).1
    obtain ⟨h1, h2, h3, h4⟩ := openR_seal hr
    show (openR y).s = tailS y
    rw [h3, (tail_seal h1).2]
  · rw [if_neg hi] at h; cases h
theorem Rest.newest {F : List (List Int)} {t : Slot} {rs : List Rec} (h : Rest F t rs) : newTo F 2 = (t, t.num % 2, true) := by
  have hs := h.slot; have ho := h.other
  have hsl := slotR_sec h.tok
  rcases (show t.num % 2 = 0 ∨ t.num % 2 = 1 by omega) with hm | hm
  · rw [hm] at hs ho ⊢
    have hs : F.getD 0 [] = t.sec := hs
    have ho : tailS (F.getD 1 []) < t.num := ho
    have h1 : newTo F 1 = (t, 0, true) := by rw [newTo_yes F 0 (by rw [hs, hsl]) (.inl rfl), hs, hsl]; rfl
    rw [newTo_no F 1 ?_, h1]
    rw [h1]
    cases h2 : (slotR (F.getD 1 [])).2
    · exact .inl rfl
    · exact .inr ⟨rfl, by rw [slotR_num h2]; simp only; omega⟩
  · rw [hm] at hs ho ⊢
    have hs : F.getD 1 [] = t.sec := hs
    have ho : tailS (F.getD 0 []) < t.num := ho
    refine (newTo_yes F 1 (by rw [hs, hsl]) ?_).trans (by rw [hs, hsl]; rfl)
    rw [hs, hsl]
    cases h2 : (slotR (F.getD 0 [])).2
    · have : newTo F 1 = newTo F 0 := newTo_no F 0 (.inl h2)
      rw [this]; exact .inl rfl
    · have : newTo F 1 = ((slotR (F.getD 0 [])).1, ((0 : Nat) : Int), true) := newTo_yes F 0 h2 (.inl rfl)
      rw [this]
      exact .inr (by simp only; rw [slotR_num h2]; exact ho)
end Go.Proofs.Ytdndkapfaiplnaa
