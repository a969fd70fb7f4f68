/-
  What the laws of chapter 4 share: the document's example; a slot of a disk.
-/
import Derived.Test.YtdndkapfaiplnaaLog14
namespace Go.Proofs.Ytdndkapfaiplnaa
set_option linter.unusedVariables false
set_option linter.unusedSimpArgs false
set_option maxRecDepth 20000
open Go.RowKit

/-- A log lives upon the disk: its blocks, then the others. -/
def Lives (w0 : World) (R : Blks) (d gv : Value) (t : Slot) (l : LSt) (rs : List Rec) (wx : World) : Prop :=
  ∃ s F Ld Lg, OnF s F ∧ Live F t l rs ∧ s.left = -1 ∧ IsDisk d s Ld ∧ IsLog gv d l Lg ∧ Own w0 wx (Ld ++ (Lg ++ R))
theorem open_up {w0 w : World} {R L : Blks} {d : Value} {s : DSt} {F : List (List Int)} {t : Slot} {rs : List Rec} (hd : IsDisk d s L) (hO : Own w0 w (L ++ R)) (hs : OnF s F) (h : Rest F t rs) (hl : s.left = -1) (h1 : t.num < 16777215) (h2 : t.ep < 65535) (hq : t.first + rs.length ≤ 16777216) :
    Calls Try.prog 25 #[d] w (fun en w' => ∃ g rv X, en = .returned (.tuple #[.pointer (some ⟨g, 0, none⟩), rv, .int .i64 0]) ∧ GotRows w0 X rv (rs.map (·.2)) ∧ Lives w0 (X ++ R) d (.pointer (some ⟨g, 0, none⟩)) t.up (upL t rs) rs w') := by
  refine (open_live hd hO hs h h1 h2 hq).mono ?_
  rintro en w' (⟨s', F', gv, rv, X, Ld, Lg, h3, h4, h5, h6, h7, h8, h9, h10⟩ | ⟨_, h3, _⟩)
  · obtain ⟨g, rfl, hg⟩ := h7
    exact ⟨g, rv, X, h3, h8, s', F', Ld, Lg, h4, h5, h6 hl, h9, ⟨g, rfl, hg⟩, h10⟩
  · exact absurd hl h3
theorem room_lives {w0 w : World} {R : Blks} {d gv : Value} {t : Slot} {l : LSt} {rs : List Rec} (h : Lives w0 R d gv t l rs w) (k : Int) (hk : (256 : Int) - needR rs = k) : Calls Try.prog 28 #[gv] w (fun en w' => en = .returned (.int .i64 k) ∧ Lives w0 R d gv t l rs w') := by
  obtain ⟨s, F, Ld, Lg, h1, h2, h3, h4, h5, h6⟩ := h
  have hat := Slot.at_eq h2.rest.tok.half
  obtain ⟨hb1, hb2⟩ := h2.bounds
  have hf := h2.rest.fit
  refine (room_c h5 h6.rot (by rw [h2.half]; exact h2.rest.tok.half) (by rw [h2.en]; omega)).mono ?_
  rintro en w' ⟨rfl, m, rfl⟩
  refine ⟨?_, s, F, Ld, Lg, h1, h2, h3, h4, h5, h6.drewN m⟩
  rw [h2.en, h2.half, ← hk]
  congr 2
  push_cast
  omega
theorem epoch_lives {w0 w : World} {R : Blks} {d gv : Value} {t : Slot} {l : LSt} {rs : List Rec} (h : Lives w0 R d gv t l rs w) (k : Int) (hk : l.ep = k) : Calls Try.prog 31 #[gv] w (fun en w' => en = .returned (.int .i64 k) ∧ Lives w0 R d gv t l rs w') := by
  obtain ⟨s, F, Ld, Lg, h1, h2, h3, h4, h5, h6⟩ := h
  refine (epoch_c h5 h6.rot).mono ?_
  rintro en w' ⟨rfl, rfl⟩
  exact ⟨by rw [hk], s, F, Ld, Lg, h1, h2, h3, h4, h5, h6⟩
theorem append_up {w0 w : World} {R : Blks} {d gv bw : Value} {t : Slot} {l : LSt} {rs : List Rec} {b : List Int} (h : Lives w0 R d gv t l rs w) (hb : Rd w0 R bw b) (hB : Byt b) (hn : need b ≤ 255) (hbl : b.length ≤ 1000000) (hfit : needR rs + need b ≤ 256) (hq : l.nx ≤ 16777215) :
    Calls Try.prog 26 #[gv, bw] w (fun en w' => en = .returned (.int .i64 0) ∧ Lives w0 R d gv t { l with en := l.en + need b, nx := l.nx + 1 } (rs ++ [(l.ep, b)]) w') := by
  obtain ⟨s, F, Ld, Lg, h1, h2, h3, h4, h5, h6⟩ := h
  refine (append_live h4 h5 h6 h1 h2 hb hB hn hbl hfit hq).mono ?_
  rintro en w' (⟨s', F', o, hl, hp, he, L', Lg', hd', hg', hO'⟩ | ⟨_, _, hne, _⟩)
  · exact ⟨he, s', F', L', Lg', o, hl, hp h3, hd', hg', hO'⟩
  · exact absurd h3 hne
theorem turn_up {w0 w : World} {R : Blks} {d gv rv : Value} {t : Slot} {l : LSt} {rs : List Rec} {bs : List (List Int)} (h : Lives w0 R d gv t l rs w) (hr : RdRows w0 R rv bs) (hB : ∀ b ∈ bs, Byt b) (hN : ∀ b ∈ bs, need b ≤ 255) (hbl : ∀ b ∈ bs, b.length ≤ 1000000) (hlb : bs.length ≤ 1000) (hfit : needs bs ≤ 256) (hnum : l.num < 16777215) (hq : l.nx + bs.length ≤ 16777215) :
    Calls Try.prog 27 #[gv, rv] w (fun en w' => en = .returned (.int .i64 0) ∧ Lives w0 R d gv l.tslot (l.turnTo bs) (bs.map (Prod.mk l.ep)) w') := by
  obtain ⟨s, F, Ld, Lg, h1, h2, h3, h4, h5, h6⟩ := h
  refine (turn_live h4 h5 h6 h1 h2 hr hB hN hbl hlb hfit hnum hq).mono ?_
  rintro en w' (⟨s', F', o, hl, hp, he, L', Lg', hd', hg', hO'⟩ | ⟨_, _, hne, _⟩)
  · exact ⟨he, s', F', L', Lg', o, hl, hp h3, hd', hg', hO'⟩
  · exact absurd h3 hne
set_option maxHeartbeats 4000000 in
theorem wakes4_c {w0 w : World} {R : Blks} (hO : Own w0 w R) : Calls Try.prog 29 #[] w (Gave w0 R (.bool true)) := by
  have HO := Lib.hid hO; clear hO
  go_enter Try.func29, Try.ntmps29
  go_wp2_with fail
  have hcall := new_is HO.out 514 514 (by decide)
  with_reducible refine hcall.mono ?_
  clear hcall
  rintro en w1 ⟨d, L1, rfl, hd1, hO1⟩
  obtain ⟨bd, rfl⟩ := hd1.ptr
  have HD1 := Lib.hid hd1; have HO1 := Lib.hid hO1
  clear hd1 hO1 HO
  go_wp2_with fail
  have hcall := lopen_none HD1.out HO1.out (newSt_n 514) rfl (new_byt 514) (by rw [new_la]; exact newTo_zero)
  with_reducible refine hcall.mono ?_
  clear hcall
  rintro en w2 ⟨rfl, L2, hd2, hO2⟩
  have HD2 := Lib.hid hd2; have HO2 := Lib.hid hO2
  clear hd2 hO2 HD1 HO1
  go_wp2_with fail
  have hcall := format_ok HD2.out HO2.out (newSt_n 514) rfl rfl (by decide)
  with_reducible refine hcall.mono ?_
  clear hcall
  rintro en w3 ⟨rfl, L3, hd3, hO3⟩
  have HD3 := Lib.hid hd3; have HO3 := Lib.hid hO3
  clear hd3 hO3 HD2 HO2
  go_wp2_with fail
  have hcall := open_up HD3.out HO3.out onF_fmt rest_fmt rfl (by decide) (by decide) (by decide)
  with_reducible refine hcall.mono ?_
  clear hcall
  rintro en w4 ⟨g, rv, X, rfl, hrv, hl⟩
  obtain ⟨Ar, cr, rfl⟩ : ∃ A c, rv = .slice A 0 c := by
    obtain ⟨vs, Lr, Y, _, h1, _⟩ := hrv
    exact h1.val
  have HL := Lib.hid hl
  clear hl hrv HD3 HO3
  go_wp2_with fail
  have hcall := epoch_lives HL.out 2 rfl
  with_reducible refine hcall.mono ?_
  clear hcall HL
  rintro en w5 ⟨rfl, hl⟩
  have HL := Lib.hid hl
  clear hl
  go_wp2_with fail
  have hcall := room_lives HL.out 256 (by decide)
  with_reducible refine hcall.mono ?_
  clear hcall HL
  rintro en w6 ⟨rfl, hl⟩
  obtain ⟨s, F, Ld, Lg, _, _, _, _, _, h6⟩ := hl
  have HO6 := Lib.hid h6.right.right.right
  clear h6
  go_wp2
  go_ret
  exact ⟨rfl, HO6.out⟩
/-- What a sector says, as the laws look it up. -/
def GotSl (w0 : World) (R : Blks) (d : Value) (s : DSt) (o : Opened) (en : Ending) (w' : World) : Prop :=
  ∃ v Lv L, en = .returned (.tuple #[.agg [Value.int .i64 o.e, .int .i64 o.s].toArray, v]) ∧ IsBytes v o.b Lv ∧ IsDisk d s L ∧ Own w0 w' (Lv ++ (L ++ R))
set_option maxHeartbeats 4000000 in
theorem lawslot_c {w0 w : World} {R L : Blks} {d : Value} {s : DSt} (hd : IsDisk d s L) (hO : Own w0 w (L ++ R)) (i : Int) (h : s.refuse i = 0) (x : List Int) (hx : s.la.getD i.toNat [] = x) (hB : Byt x) (o : Opened) (ho : openR x = o) :
    Calls Try.prog 24 #[d, .int .i64 i] w (GotSl w0 R d s o) := by
  have HH := Lib.hid h
  have HO := Lib.hid hO; have HD := Lib.hid hd; have HB := Lib.hid hB; have HX := Lib.hid hx; have HOO := Lib.hid ho
  clear hO hd h hB hx ho
  go_enter Try.func24, Try.ntmps24
  go_wp2_with (refine wl_alloc rfl _ rfl HO.out _ (alloc_mark _) ?_; intro g4 w1 hO1; have HO1 := Lib.hid (Own.rot (A := [_]) hO1); clear hO1 HO)
  have hcall := read_ok HD.out HO1.out i _ HH.out HX.out
  with_reducible refine hcall.mono ?_
  clear hcall HH HD HX
  rintro en w2 ⟨v2, L2, L3, rfl, hd3, hO2, h2⟩
  have HO2 := Lib.hid hO2; have HD := Lib.hid hd3; have H2 := Lib.hid h2
  clear hO2 hd3 HO1 h2
  go_wp2_with fail
  have hcall := open_is HO2.out v2 x (H2.out.rd sub_here) HB.out o HOO.out
  with_reducible refine hcall.mono ?_
  clear hcall HOO HB
  rintro en w3 ⟨v4, L4, rfl, h4, hO3⟩
  obtain ⟨A4, c4, rfl⟩ := h4.val
  obtain ⟨oe, os, op, oq, ob, or_⟩ := o
  simp only at h4
  simp only []
  have hO4 : Own w0 w3 ([(g4, Obj.cells [Value.int .i64 0, Value.int .i64 0].toArray 44)] ++ (L4 ++ (L3 ++ R))) := by
    have h5 : Own w0 w3 (L4 ++ (L3 ++ ([(g4, Obj.cells [Value.int .i64 0, Value.int .i64 0].toArray 44)] ++ R))) := hO3.sub (by simp)
    exact h5.rot3
  have HO4 := Lib.hid hO4; have H4 := Lib.hid h4
  clear hO4 h4 hO3 HO2 H2
  go_wp2_with (first | (refine wl_alloc rfl _ rfl HO4.out _ (alloc_mark _) ?_; intro gm w5 hO5; have HO5 := Lib.hid hO5; clear hO5 HO4) | (refine wl_store rfl _ _ _ rfl HO5.out 0 gm 0 _ [Value.int .i64 oe, Value.int .i64 os] _ rfl (by rfl) (by rfl) mark_size (one_2i _ _) (by simp) ?_; intro w6 hO6; have HO6 := Lib.hid hO6; clear hO6 HO5) | (refine wl_load rfl _ _ rfl gm 0 [.int .i64 oe, .int .i64 os] [.int .i64 oe, .int .i64 os] 44 (HO6.out.heap (.head _)) (by rfl) _ Try.underlying44 rfl mark_size (by rfl) ?_) | (refine wl_store rfl _ _ _ rfl HO6.out 1 g4 0 _ [Value.int .i64 oe, Value.int .i64 os] _ rfl (by rfl) (by rfl) mark_size (one_2i _ _) (by simp) ?_; intro w7 hO7; have HO7 := Lib.hid hO7; clear hO7 HO6))
  have hO7 : Own w0 w7 ((gm, .cells #[.int .i64 oe, .int .i64 os] 44) :: (g4, .cells #[.int .i64 oe, .int .i64 os] 44) :: (L4 ++ (L3 ++ R))) := HO7.out
  have hc0 : w7.cell? ⟨g4, 0, none⟩ = some (.int .i64 oe) := hO7.cell (.tail _ (.head _)) 0
  have hc1 : w7.cell? ⟨g4, 1, none⟩ = some (.int .i64 os) := hO7.cell (.tail _ (.head _)) 1
  exact bodyPost_ret (v := .tuple #[.agg #[.int .i64 oe, .int .i64 os], .slice A4 ob.length c4]) (by simp [results, Try.results24, go_sem, hc0, hc1]) rfl ⟨_, L4, L3, rfl, H4.out, HD.out, hO7.tail.tail⟩
end Go.Proofs.Ytdndkapfaiplnaa
