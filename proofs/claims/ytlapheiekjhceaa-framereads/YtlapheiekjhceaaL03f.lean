/-
  FrameReads: every input answers true (a record is read as it was written, within its bounds alone; with any of its sectors spoilt, of another mark, or another part, it is none).
  No conditions beyond the statement's own.
-/
import Derived.Test.YtlapheiekjhceaaL03a
import Derived.Test.YtlapheiekjhceaaFrame11
import Derived.Test.YtlapheiekjhceaaColl5
import Derived.Test.YtlapheiekjhceaaKeep2
import Derived.Deep.DeepCutAuto
import Derived.Deep.CutBlock
namespace Go.Proofs.Ytlapheiekjhceaa
set_option linter.unusedVariables false
set_option linter.unusedSimpArgs false
open Go.ChangeShapes Go.WideShapes Go.ChangeAt Go.RowKit
open Go.ChangeMaps (open_string shut_string)

theorem build_mf (a b : Int) (w : World) : (Instr.build 48 #[(0, .int .i64 a), (1, .int .i64 b)]).run Try.prog w = .ok (.agg [Value.int .i64 a, Value.int .i64 b].toArray) w := by kernel_rfl
/-- Up to the sector ahead of its end it is no record. -/
theorem fread_short {w0 w : World} {R L : Blks} {d : Value} {s : DSt} {a : Nat} {b : List Int} (hd : IsDisk d s L) (hO : Own w0 w (L ++ R)) (h : Stands s.la a 3 7 b) (hn : need b ≤ 255) (hdn : s.down = false) (hB : ∀ j : Nat, Byt (s.la.getD j [])) (at_ en : Int) (hat : (a : Int) = at_) (hen : at_ + need b - 1 = en) (hen2 : a + need b ≤ s.n) :
    Calls Try.prog 27 #[d, .int .i64 at_, .int .i64 en] w (fun e w' => ∃ r : Int, r ≠ 0 ∧ GotRec w0 R d s 0 0 [] 0 r e w') := by
  subst hat
  have hp := need_pos b
  by_cases h1 : need b = 1
  · exact (fread_range hd hO a en (.inr (.inl (by omega)))).mono fun e w' hg => ⟨9, by decide, hg⟩
  · refine (fread_form hd hO a en (by omega) (by omega) (by omega) hdn hB (fun _ hok => ?_)).mono fun e w' hg => ⟨2, by decide, hg⟩
    have hpc := h.piece (by decide) hn hdn hen2 (by omega : 0 < need b)
    rw [show ((a : Int) + ((0 : Nat) : Int)) = a by omega] at hpc
    have := hok.1
    rw [hpc] at this
    simp only at this
    omega
theorem within_ex {w : World} (v n : Int) (h1 : 1 ≤ n) (h2 : n ≤ 1000000000) : Calls Try.prog 9 #[.int .i64 v, .int .i64 n] w fun e w' => ∃ i : Nat, (i : Int) < n ∧ e = .returned (.int .i64 (i : Int)) ∧ w = w' :=
  (within_n v n h1 h2).mono fun e w' ⟨h3, h4⟩ => ⟨_, by have := Int.emod_lt_of_pos v (show 0 < n by omega); have := Int.emod_nonneg v (show n ≠ 0 by omega); omega, h3, h4⟩
theorem make_b (n : Nat) (k : Int) (hk : (n : Int) = k) (hn : n ≤ 1073741824) (w : World) : (Instr.makeSlice 27 (.int .i64 k) (.int .i64 k)).run Try.prog w =
    .ok (.slice (some ⟨w.heap.size, 0, none⟩) n n) (w.alloc (.cells (bv (List.replicate n 0)).toArray 5)) := by rw [← hk]; exact make_bytes n hn w
def ReadsMid (w : World) (R : Blks) (d : Value) (a : Nat) (b : List Int) (k : Nat) (m4 : Int) (s36 : Value) (wx : World) : Prop :=
  ∃ Y LY Ld, Rd w LY s36 Y ∧ Y.length = 32 ∧ Byt Y ∧ (Bad a b k Y ∨ (m4 = 1 ∧ need b = 1)) ∧ IsDisk d ((newSt 12).put a (secs_of 3 7 b)) Ld ∧ Own w wx (LY ++ (Ld ++ R))
set_option maxRecDepth 100000 in
set_option maxHeartbeats 32000000 in
theorem frameReads_walk {w : World} (a0 : Int) (_ : (Lit.int .i64 a0).wf = true) (a1 : Int) (_ : (Lit.int .i64 a1).wf = true) (a2 : Int) (_ : (Lit.int .i64 a2).wf = true) (a3 : Int) (_ : (Lit.int .i64 a3).wf = true) (a4 : Int) (_ : (Lit.int .i64 a4).wf = true) :
    Calls Try.prog 8 #[.int .i64 a0, .int .i64 a1, .int .i64 a2, .int .i64 a3, .int .i64 a4] w (Yes w) := by
  have HO := Lib.hid (Own.start w)
  go_enter Try.func8, Try.ntmps8
  go_wp2_with fail
  have hcall := new_is HO.out 12 12 (by decide)
  with_reducible refine hcall.mono ?_
  clear hcall
  rintro en w1 ⟨d, L, rfl, hd, hO1⟩
  obtain ⟨bd, rfl⟩ := hd.ptr
  have HD := Lib.hid hd; have HO1 := Lib.hid hO1; clear hd hO1 HO
  go_wp2_with fail
  have hcall := within_n (w := w1) a1 100 (by omega) (by omega)
  obtain ⟨K, hK⟩ : ∃ K, (a1 % 100).toNat = K := ⟨_, rfl⟩
  have hK99 : K ≤ 99 := by omega
  rw [hK] at hcall
  clear hK
  with_reducible refine hcall.mono ?_
  clear hcall
  rintro en w' ⟨rfl, rfl⟩
  go_wp2_with fail
  have hcall := bytes_c HO1.out a0 K (by omega)
  with_reducible refine hcall.mono ?_
  clear hcall
  rintro en w2 ⟨v2, L2, rfl, h2, hO2⟩
  have hbl : (pbytes a0 K).length ≤ 99 := by simp; omega
  have hbb : Byt (pbytes a0 K) := byt_pbytes _ _
  have hcoll : 1 < need (pbytes a0 K) → crc (pbytes a0 K) ≠ crc ((pbytes a0 K).take 15) := fun h => pbytes_far a0 K (by unfold need at h; rw [length_pbytes] at h; omega) hK99
  generalize pbytes a0 K = b at *
  obtain ⟨A2, c2, rfl⟩ := h2.val
  have HO2 := Lib.hid (hO2.rot); have H2 := Lib.hid h2; have HBB := Lib.hid hbb; have HCOLL := Lib.hid hcoll; clear hO2 h2 hbb hcoll HO1
  go_wp2_with fail
  have hcall := within_n (w := w2) a2 4 (by omega) (by omega)
  obtain ⟨a, ha⟩ : ∃ a, (a2 % 4).toNat = a := ⟨_, rfl⟩
  have ha3 : a ≤ 3 := by omega
  rw [ha] at hcall
  clear ha
  with_reducible refine hcall.mono ?_
  clear hcall
  rintro en w' ⟨rfl, rfl⟩
  have hn6 : need b ≤ 6 := by unfold need; omega
  have hp1 := need_pos b
  have hquo : ((b.length : Int) + 22).tdiv 19 = ((need b : Nat) : Int) := by
    rw [Int.tdiv_eq_ediv_of_nonneg (by omega)]; unfold need; omega
  have HQUO := Lib.hid hquo; clear hquo
  go_wp2_with (first | (refine wl_build rfl _ _ rfl _ (by exact build_mf _ _ _) ?_) | (refine wl_alloc rfl _ rfl HO2.out _ (alloc_mark _) ?_; intro gm w4 hO4; have HO4 := Lib.hid hO4; clear hO4 HO2) | (refine wl_store rfl _ _ _ rfl HO4.out 0 gm 0 _ [Value.int .i64 3, Value.int .i64 7] _ rfl (by rfl) (by rfl) mark_size (one_2i _ _) (by simp) ?_; intro w5 hO5; have HO5 := Lib.hid (Own.rot (A := [_]) hO5); clear hO5 HO4) | (refine wl_load rfl _ _ rfl gm 0 [.int .i64 3, .int .i64 7] [.int .i64 3, .int .i64 7] 48 (HO5.out.heap (List.mem_append_right _ (.head _))) (by rfl) _ Try.underlying48 rfl mark_size (by rfl) ?_))
  have hcall := fwrite_ok (a := a) (e := 3) (q := 7) (b := b) HD.out HO5.out (.slice A2 b.length c2) (H2.out.rd (sub_there (B := [_]) sub_here)) HBB.out (by omega) (by decide) rfl rfl (by rw [newSt_n]; omega) (by simp [newSt]; omega) a (a + need b) rfl rfl
  with_reducible refine hcall.mono ?_
  clear hcall
  rintro en w6 ⟨rfl, L6, hd6, hO6⟩
  have hst := put_stands (newSt 12) a 3 7 b (by rw [newSt_n]; omega)
  have hsn : ((newSt 12).put a (secs_of 3 7 b)).n = 12 := newSt_n 12
  have hsd : ((newSt 12).put a (secs_of 3 7 b)).down = false := rfl
  have hsl : ((newSt 12).put a (secs_of 3 7 b)).left = -1 := rfl
  have hsp : ((newSt 12).put a (secs_of 3 7 b)).pend.length ≤ 10 := by simp [DSt.put, newSt, length_pendOf, length_secs_of]; omega
  have hsb := put_byt (new_byt 12) (show okMark 3 7 = true by decide) (show need b ≤ 255 by omega) HBB.out (show a + need b ≤ (newSt 12).n by rw [newSt_n]; omega)
  have hspl : ∀ (kk : Nat) (Y : List Int), { ((newSt 12).put a (secs_of 3 7 b)) with pend := ((newSt 12).put a (secs_of 3 7 b)).pend ++ [(a + kk, Y)] } = spoilt a b kk Y := fun _ _ => rfl
  have HST := Lib.hid hst; have HSN := Lib.hid hsn; have HSD := Lib.hid hsd; have HSB := Lib.hid hsb; have HSL := Lib.hid hsl; have HSP := Lib.hid hsp; have HSPL := Lib.hid hspl
  have hmid : ∀ k m4 s36 wx, (∃ Y LY Ld, Rd w LY s36 Y ∧ Y.length = 32 ∧ Byt Y ∧ (Bad a b k Y ∨ (m4 = 1 ∧ need b = 1)) ∧ IsDisk (.pointer (some ⟨bd, 0, none⟩)) ((newSt 12).put a (secs_of 3 7 b)) Ld ∧ Own w wx (LY ++ (Ld ++ ([(gm, .cells [Value.int .i64 3, Value.int .i64 7].toArray 48)] ++ (L2 ++ []))))) ↔ ReadsMid w ([(gm, .cells [Value.int .i64 3, Value.int .i64 7].toArray 48)] ++ (L2 ++ [])) (.pointer (some ⟨bd, 0, none⟩)) a b k m4 s36 wx := fun _ _ _ _ => Iff.rfl
  have HMID := Lib.hid hmid
  clear hst hsn hsd hsb hsl hsp hspl hmid HD
  generalize (newSt 12).put a (secs_of 3 7 b) = s1 at *
  have HD6 := Lib.hid hd6; have HO6 := Lib.hid hO6; clear hd6 hO6 HO5
  obtain ⟨p, hp⟩ : ∃ p, need b = p := ⟨_, rfl⟩
  have HP := Lib.hid hp
  rw [hp] at hn6 hp1 HQUO ⊢
  clear hp
  have hquo := HQUO.out; clear HQUO
  have k3 : (((a : Int) + p) != ((a : Int) + p)) = false := by simp
  go_wp2_with fail
  clear hquo
  have hcall := fread_ok HD6.out HO6.out HST.out (by decide) (by rw [HP.out]; omega) HSD.out HSB.out HBB.out (a : Int) ((a : Int) + p) ((a : Int) + p) rfl (by rw [HP.out]) (by omega) (by rw [HSN.out]; omega)
  with_reducible refine hcall.mono ?_
  clear hcall
  rintro en w7 ⟨v7, L7, Ld7, rfl, hrd7, hd7, hO7⟩
  obtain ⟨A7, c7, rfl, hc7⟩ := (hrd7.bs_sub hO7 sub_here).len
  have HO7 := Lib.hid hO7; have HRD7 := Lib.hid hrd7; have HD7 := Lib.hid hd7; clear hO7 hrd7 hd7 HO6 HD6 hc7
  go_wp2_with (first | (refine wl_alloc rfl _ rfl HO7.out _ (alloc_mark _) ?_; intro g8 w8 hO8; have HO8 := Lib.hid hO8; clear hO8 HO7) | (refine wl_store rfl _ _ _ rfl HO8.out 0 g8 0 _ [Value.int .i64 3, Value.int .i64 7] _ rfl (by rfl) (by rfl) mark_size (one_2i _ _) (by simp) ?_; intro w9 hO9; have HO9 := Lib.hid hO9; clear hO9 HO8) | (refine wl_g (by rfl) ?_; refine wl_load rfl _ _ rfl g8 0 [.int .i64 3, .int .i64 7] [.int .i64 3, .int .i64 7] 48 (HO9.out.heap (.head _)) (by rfl) _ Try.underlying48 rfl mark_size (by rfl) ?_) | (refine wl_g (by rfl) ?_; refine wl_load rfl _ _ rfl gm 0 [.int .i64 3, .int .i64 7] [.int .i64 3, .int .i64 7] 48 (HO9.out.heap (.tail _ (List.mem_append_right _ (List.mem_append_right _ (.head _))))) (by rfl) _ Try.underlying48 rfl mark_size (by rfl) ?_))
  have h1 : Bs w9 (.slice A7 b.length c7) b := HRD7.out.bs_sub HO9.out ((sub_here).trans (List.sublist_cons_self _ _))
  have h2 : Bs w9 (.slice A2 b.length c2) b := H2.out.bs_sub HO9.out ((sub_there (sub_there (sub_there (B := [_]) sub_here))).trans (List.sublist_cons_self _ _))
  have hcall := same_c _ _ _ _ h1 h2 (by omega)
  rw [decide_eq_true rfl] at hcall
  with_reducible refine hcall.mono ?_
  clear hcall h1 h2 HRD7
  rintro en w10 ⟨rfl, m10, rfl⟩
  have HO10 := Lib.hid (HO9.out.drewN m10).tail.right; clear HO9
  generalize w9.drewN m10 = w10 at HO10
  go_wp2_with fail
  have hcall := fread_short HD7.out HO10.out HST.out (by rw [HP.out]; omega) HSD.out HSB.out (a : Int) ((a : Int) + p - 1) rfl (by rw [HP.out]) (by rw [HSN.out, HP.out]; omega)
  with_reducible refine hcall.mono ?_
  clear hcall
  rintro en w11 ⟨r, hr0, v11, L11, Ld11, rfl, hrd11, hd11, hO11⟩
  obtain ⟨A11, c11, rfl, hc11⟩ := (hrd11.bs_sub hO11 sub_here).len
  have HO11 := Lib.hid hO11; have HD11 := Lib.hid hd11; clear hO11 hrd11 hd11 HO10 HD7 hc11
  simp only [List.length_nil]
  have hrb : (r == 0) = false := by simpa using hr0
  clear hr0
  go_wp2_with (first | (refine wl_alloc rfl _ rfl HO11.out _ (alloc_mark _) ?_; intro g12 w12 hO12; have HO12 := Lib.hid hO12; clear hO12 HO11) | (refine wl_store rfl _ _ _ rfl HO12.out 0 g12 0 _ [Value.int .i64 0, Value.int .i64 0] _ rfl (by rfl) (by rfl) mark_size (one_2i _ _) (by simp) ?_; intro w13 hO13; have HO13 := Lib.hid hO13.tail.right; clear hO13 HO12))
  have hcall := (fread_range HD11.out HO13.out (a : Int) 13 (.inr (.inr (by rw [HSN.out]; decide))))
  with_reducible refine hcall.mono ?_
  clear hcall
  rintro en w14 ⟨v14, L14, Ld14, rfl, hrd14, hd14, hO14⟩
  obtain ⟨A14, c14, rfl, hc14⟩ := (hrd14.bs_sub hO14 sub_here).len
  have HO14 := Lib.hid hO14; have HD14 := Lib.hid hd14; clear hO14 hrd14 hd14 HO13 HD11 hc14
  simp only [List.length_nil]
  go_wp2_with (first | (refine wl_alloc rfl _ rfl HO14.out _ (alloc_mark _) ?_; intro g15 w15 hO15; have HO15 := Lib.hid hO15; clear hO15 HO14) | (refine wl_store rfl _ _ _ rfl HO15.out 0 g15 0 _ [Value.int .i64 0, Value.int .i64 0] _ rfl (by rfl) (by rfl) mark_size (one_2i _ _) (by simp) ?_; intro w16 hO16; have HO16 := Lib.hid hO16.tail.right; clear hO16 HO15))
  have hcall := (fread_range HD14.out HO16.out ((a : Int) + p) ((a : Int) + p) (.inr (.inl (by omega))))
  with_reducible refine hcall.mono ?_
  clear hcall
  rintro en w17 ⟨v17, L17, Ld17, rfl, hrd17, hd17, hO17⟩
  obtain ⟨A17, c17, rfl, hc17⟩ := (hrd17.bs_sub hO17 sub_here).len
  have HO17 := Lib.hid hO17; have HD17 := Lib.hid hd17; clear hO17 hrd17 hd17 HO16 HD14 hc17
  simp only [List.length_nil]
  go_wp2_with (first | (refine wl_alloc rfl _ rfl HO17.out _ (alloc_mark _) ?_; intro g18 w18 hO18; have HO18 := Lib.hid hO18; clear hO18 HO17) | (refine wl_store rfl _ _ _ rfl HO18.out 0 g18 0 _ [Value.int .i64 0, Value.int .i64 0] _ rfl (by rfl) (by rfl) mark_size (one_2i _ _) (by simp) ?_; intro w19 hO19; have HO19 := Lib.hid hO19.tail.right; clear hO19 HO18))
  have hcall := (fread_range HD17.out HO19.out (-1) 5 (.inl (by decide)))
  with_reducible refine hcall.mono ?_
  clear hcall
  rintro en w20 ⟨v20, L20, Ld20, rfl, hrd20, hd20, hO20⟩
  obtain ⟨A20, c20, rfl, hc20⟩ := (hrd20.bs_sub hO20 sub_here).len
  have HO20 := Lib.hid hO20; have HD20 := Lib.hid hd20; clear hO20 hrd20 hd20 HO19 HD17 hc20
  simp only [List.length_nil]
  go_wp2_with (first | (refine wl_alloc rfl _ rfl HO20.out _ (alloc_mark _) ?_; intro g21 w21 hO21; have HO21 := Lib.hid hO21; clear hO21 HO20) | (refine wl_store rfl _ _ _ rfl HO21.out 0 g21 0 _ [Value.int .i64 0, Value.int .i64 0] _ rfl (by rfl) (by rfl) mark_size (one_2i _ _) (by simp) ?_; intro w22 hO22; have HO22 := Lib.hid hO22.tail.right; clear hO22 HO21))
  clear hrb k3
  have hcall := within_n (w := w22) a3 ((a : Int) + p - a) (by omega) (by omega)
  obtain ⟨k, hk⟩ : ∃ k, (a3 % ((a : Int) + p - a)).toNat = k := ⟨_, rfl⟩
  have hkp : k < p := by
    have h1 := Int.emod_lt_of_pos a3 (show 0 < (a : Int) + p - a by omega)
    have h2 := Int.emod_nonneg a3 (show (a : Int) + p - a ≠ 0 by omega)
    omega
  rw [hk] at hcall
  clear hk
  with_reducible refine hcall.mono ?_
  clear hcall
  rintro en w' ⟨rfl, rfl⟩
  have hkn : k < need b := by rw [HP.out]; exact hkp
  have HKN := Lib.hid hkn; clear hkn
  go_wp2_with fail
  have hcall := read_ok HD20.out HO22.out ((a : Int) + k) (sec 3 7 b k) (refuse0 HSD.out (by omega) (by rw [HSN.out]; omega)) (by rw [show ((a : Int) + k).toNat = a + k by omega]; exact HST.out k HKN.out)
  with_reducible refine hcall.mono ?_
  clear hcall
  rintro en w23 ⟨v23, L23, Ld23, rfl, hd23, hO23, h23⟩
  obtain ⟨g23, c23, sp23, rfl, rfl, hc23⟩ := h23.blkn 32 (sec_len _ _ _ _) (by decide)
  have HO23 := Lib.hid hO23; have HD23 := Lib.hid hd23; have H23 := Lib.hid h23; clear hO23 hd23 h23 HO22 HD20
  have hXb : Byt (sec 3 7 b k) := byt_sec (by decide) (by rw [HP.out]; omega) HKN.out HBB.out
  have HXB := Lib.hid hXb; clear hXb
  go_wp2_with fail
  have hcall := open_is HO23.out (.slice (some ⟨g23, 0, none⟩) 32 c23) (sec 3 7 b k) (H23.out.rd sub_here) HXB.out ⟨3, 7, k, p, chunk (framed b) k, 0⟩ (by rw [openR_sec (by decide) (by rw [HP.out]; omega) HKN.out, HP.out])
  with_reducible refine hcall.mono ?_
  clear hcall
  rintro en w24 ⟨v24, L24, rfl, h24, hO24⟩
  have hch := length_chunk (framed b) k
  obtain ⟨A24, c24, rfl⟩ := h24.val
  have HO24 := Lib.hid hO24; have H24 := Lib.hid h24; clear hO24 h24 HO23
  simp only
  go_wp2_with (first | (refine wl_alloc rfl _ rfl HO24.out _ (alloc_mark _) ?_; intro g25 w25 hO25; have HO25 := Lib.hid hO25; clear hO25 HO24) | (refine wl_store rfl _ _ _ rfl HO25.out 0 g25 0 _ [Value.int .i64 3, Value.int .i64 7] _ rfl (by rfl) (by rfl) mark_size (one_2i _ _) (by simp) ?_; intro w26 hO26; have HO26 := Lib.hid hO26.tail; clear hO26 HO25))
  have hctx : Ctx a b k := ⟨ha3, hbl, HKN.out, HBB.out⟩
  have HCTX := Lib.hid hctx; clear hctx
  obtain ⟨m4, hm4⟩ : ∃ m, (a4 % 4).toNat = m := ⟨_, rfl⟩
  have hm4l : m4 < 4 := by omega
  have HM4 := Lib.hid hm4
  have hcall := within_n (w := w26) a4 4 (by omega) (by omega)
  rw [hm4] at hcall
  clear hm4
  with_reducible refine hcall.mono ?_
  clear hcall
  rintro en w' ⟨rfl, rfl⟩
  go_upto_block 0 with fail
  go_cut [36] (fun s36 wx => ReadsMid w ([(gm, .cells [Value.int .i64 3, Value.int .i64 7].toArray 48)] ++ (L2 ++ [])) (.pointer (some ⟨bd, 0, none⟩)) a b k (m4 : Nat) s36 wx)
  case first =>
    have hm : m4 = 0 ∨ m4 = 1 ∨ m4 = 2 ∨ m4 = 3 := by omega
    rcases hm with rfl | rfl | rfl | rfl
    · go_wp2_with fail
      with_reducible refine (within_ex _ 32 (by omega) (by omega)).mono ?_
      rintro en w' ⟨i0, hi0, rfl, rfl⟩
      by_cases h7 : i0 = 7
      · subst h7
        have hib : ((6 : Nat) : Int) < 32 := by omega
        have hib0 : (0 : Int) ≤ ((6 : Nat) : Int) := by omega
        have hO27 : Own w w26 ((g23, .cells (List.toArray (bv (sec 3 7 b k) ++ sp23)) 5) :: (Ld23 ++ ([(gm, .cells [Value.int .i64 3, Value.int .i64 7].toArray 48)] ++ (L2 ++ [])))) := HO26.out.right
        have HO27 := Lib.hid hO27; clear hO27 HO26
        have hXI := getD_byt HXB.out 6
        have hcx : w26.drew.cell? ⟨g23, 6, none⟩ = some (.int .u8 ((sec 3 7 b k).getD 6 0)) := by
          rw [HO27.out.drew.cell (.head _) 6, bv_get_sp _ _ _ (by rw [sec_len]; omega)]
          simp [List.getD, show 6 < (sec 3 7 b k).length by rw [sec_len]; omega]
        obtain ⟨y, hy⟩ : ∃ y, (sec 3 7 b k).getD 6 0 = y := ⟨_, rfl⟩
        have HY := Lib.hid hy
        rw [hy] at hXI hcx
        clear hy
        obtain ⟨x, hx⟩ : ∃ x, a4 % 255 = x := ⟨_, rfl⟩
        have hx0 : 0 ≤ x := by omega
        have hx1 : x ≤ 254 := by omega
        have HX := Lib.hid hx; clear hx
        have hxor := xor8 hXI.1 hXI.2 (show 0 ≤ 1 + x by omega) (show 1 + x ≤ 255 by omega)
        have HXOR := Lib.hid hxor; clear hxor
        have hw1 : IntKind.i64.wrap (1 + x) = 1 + x := IntWalk.i64_in _ (by omega)
        have hw2 : IntKind.u8.wrap (1 + x) = 1 + x := by rw [IntKind.wrap_u8']; omega
        go_wp2_with fail
        refine wp_region_lin (fun w' => w' = w26.drew) 10 [(0, true), (1, true), (2, true), (3, true), (4, true), (5, true), (6, false), (7, true), (8, true), (9, true)] (by kernel_rfl) (by kernel_rfl) (fun _ _ d _ _ h => by cases d <;> exact h) rfl ?_
        simp only [List.map_cons, List.map_nil, pick_zero, pick_succ, List.drop_succ_cons, List.drop_zero]
        iterate 6 (refine lin_q ?_ rfl ?_ ?_; rotate_left 1; (focus (rintro w' rfl; go_simp; first | done | with_reducible rfl | (trace_state; fail))); simp only [Act.put, List.setIfInBounds_toArray, List.set_cons_zero, List.set_cons_succ])
        refine lin_act ?_
        have hcall := within_c (w := w26.drew) a4 255 (by omega) (by omega)
        rw [HX.out] at hcall
        refine wl_call rfl _ _ _ (by go_simp) hcall ?_
        clear hcall
        rintro en w' ⟨rfl, rfl⟩
        refine ⟨_, rfl, LinPost.mk rfl ?_⟩
        simp only [Act.put, List.setIfInBounds_toArray, List.set_cons_zero, List.set_cons_succ]
        iterate 3 (refine lin_q ?_ rfl ?_ ?_; rotate_left 1; (focus (rintro w' rfl; go_simp; first | done | with_reducible rfl | (trace_state; fail))); simp only [Act.put, List.setIfInBounds_toArray, List.set_cons_zero, List.set_cons_succ])
        refine lin_nil ?_
        have HO28 := Lib.hid HO27.out.drew; clear HO27
        clear hcx hw1 hw2
        generalize w26.drew = w27 at HO28
        obtain ⟨z, hz⟩ : ∃ z, bits .xor .u8 y (1 + x) = z := ⟨_, rfl⟩
        rw [hz] at HXOR
        have hcy : w27.cell? ⟨g23, 6, none⟩ = some (.int .u8 y) := by
          rw [HO28.out.cell (.head _) 6, bv_get_sp _ _ _ (by rw [sec_len]; omega), ← HY.out]
          simp [List.getD, show 6 < (sec 3 7 b k).length by rw [sec_len]; omega]
        rw [hz]
        clear hz
        go_wp2_with (refine wl_store1 rfl _ _ _ rfl HO28.out 0 g23 6 _ (.int .u8 z) _ rfl (by rfl) (by rfl) (by rfl) (by kernel_rfl) (by rfl) (by simp [sec_len]; omega) ?_; intro w29 hO29; have HO29 := Lib.hid hO29; clear hO29 HO28)
        have hO30 : Own w w29 ([(g23, .cells (List.toArray (bv ((sec 3 7 b k).set 6 z) ++ sp23)) 5)] ++ (Ld23 ++ ([(gm, .cells [Value.int .i64 3, Value.int .i64 7].toArray 48)] ++ (L2 ++ [])))) := by
          have h30 := HO29.out
          rw [bv_set_sp _ _ _ _ (by rw [sec_len]; omega)] at h30
          exact h30
        have hrd30 : Rd w [(g23, .cells (List.toArray (bv ((sec 3 7 b k).set 6 z) ++ sp23)) 5)] (.slice (some ⟨g23, 0, none⟩) 32 c23) ((sec 3 7 b k).set 6 z) := by
          have h30 := rd_blk (w0 := w) (R := [(g23, Obj.cells (List.toArray (bv ((sec 3 7 b k).set 6 z) ++ sp23)) 5)]) (xs := (sec 3 7 b k).set 6 z) (sp := sp23) (t := 5) (.head _) 0 32 c23 (by rw [List.length_set, sec_len]; omega) hc23
          rw [List.drop_zero, List.take_of_length_le (by rw [List.length_set, sec_len]; omega)] at h30
          exact h30
        have hbyt30 : Byt ((sec 3 7 b k).set 6 z) := by
          intro q hq
          rcases List.mem_or_eq_of_mem_set hq with hq | rfl
          · exact HXB.out q hq
          · exact ⟨HXOR.out.1, HXOR.out.2.1⟩
        have hbad30 : Bad a b k ((sec 3 7 b k).set 6 z) := bad_spoil HCTX.out 6 (by omega) (by omega) z ⟨HXOR.out.1, HXOR.out.2.1⟩ (by rw [HY.out]; exact fun e => by have := HXOR.out.2.2.1 e; omega) HCOLL.out
        have HFIN := Lib.hid (And.intro hO30 (And.intro hrd30 (And.intro hbyt30 hbad30)))
        clear hO30 hrd30 hbyt30 hbad30 HO29 hcy
        go_wp2_with fail
        go_meet
        exact (HMID.out _ _ _ _).1 ⟨_, [_], Ld23, HFIN.out.2.1, by rw [List.length_set, sec_len], HFIN.out.2.2.1, .inl HFIN.out.2.2.2, HD23.out, HFIN.out.1⟩
      · have h7' : ((i0 : Int) == 7) = false := by simp; omega
        have hib : ((i0 : Nat) : Int) < 32 := by omega
        have hib0 : (0 : Int) ≤ ((i0 : Nat) : Int) := by omega
        have hO27 : Own w w26 ((g23, .cells (List.toArray (bv (sec 3 7 b k) ++ sp23)) 5) :: (Ld23 ++ ([(gm, .cells [Value.int .i64 3, Value.int .i64 7].toArray 48)] ++ (L2 ++ [])))) := HO26.out.right
        have HO27 := Lib.hid hO27; clear hO27 HO26
        have hXI := getD_byt HXB.out i0
        have hcx : w26.drew.cell? ⟨g23, i0, none⟩ = some (.int .u8 ((sec 3 7 b k).getD i0 0)) := by
          rw [HO27.out.drew.cell (.head _) i0, bv_get_sp _ _ _ (by rw [sec_len]; omega)]
          simp [List.getD, show i0 < (sec 3 7 b k).length by rw [sec_len]; omega]
        obtain ⟨y, hy⟩ : ∃ y, (sec 3 7 b k).getD i0 0 = y := ⟨_, rfl⟩
        have HY := Lib.hid hy
        rw [hy] at hXI hcx
        clear hy
        obtain ⟨x, hx⟩ : ∃ x, a4 % 255 = x := ⟨_, rfl⟩
        have hx0 : 0 ≤ x := by omega
        have hx1 : x ≤ 254 := by omega
        have HX := Lib.hid hx; clear hx
        have hxor := xor8 hXI.1 hXI.2 (show 0 ≤ 1 + x by omega) (show 1 + x ≤ 255 by omega)
        have HXOR := Lib.hid hxor; clear hxor
        have hw1 : IntKind.i64.wrap (1 + x) = 1 + x := IntWalk.i64_in _ (by omega)
        have hw2 : IntKind.u8.wrap (1 + x) = 1 + x := by rw [IntKind.wrap_u8']; omega
        go_wp2_with fail
        refine wp_region_lin (fun w' => w' = w26.drew) 10 [(0, true), (1, true), (2, true), (3, true), (4, true), (5, true), (6, false), (7, true), (8, true), (9, true)] (by kernel_rfl) (by kernel_rfl) (fun _ _ d _ _ h => by cases d <;> exact h) rfl ?_
        simp only [List.map_cons, List.map_nil, pick_zero, pick_succ, List.drop_succ_cons, List.drop_zero]
        iterate 6 (refine lin_q ?_ rfl ?_ ?_; rotate_left 1; (focus (rintro w' rfl; go_simp; first | done | with_reducible rfl | (trace_state; fail))); simp only [Act.put, List.setIfInBounds_toArray, List.set_cons_zero, List.set_cons_succ])
        refine lin_act ?_
        have hcall := within_c (w := w26.drew) a4 255 (by omega) (by omega)
        rw [HX.out] at hcall
        refine wl_call rfl _ _ _ (by go_simp) hcall ?_
        clear hcall
        rintro en w' ⟨rfl, rfl⟩
        refine ⟨_, rfl, LinPost.mk rfl ?_⟩
        simp only [Act.put, List.setIfInBounds_toArray, List.set_cons_zero, List.set_cons_succ]
        iterate 3 (refine lin_q ?_ rfl ?_ ?_; rotate_left 1; (focus (rintro w' rfl; go_simp; first | done | with_reducible rfl | (trace_state; fail))); simp only [Act.put, List.setIfInBounds_toArray, List.set_cons_zero, List.set_cons_succ])
        refine lin_nil ?_
        have HO28 := Lib.hid HO27.out.drew; clear HO27
        clear hcx hw1 hw2
        generalize w26.drew = w27 at HO28
        obtain ⟨z, hz⟩ : ∃ z, bits .xor .u8 y (1 + x) = z := ⟨_, rfl⟩
        rw [hz] at HXOR
        have hcy : w27.cell? ⟨g23, i0, none⟩ = some (.int .u8 y) := by
          rw [HO28.out.cell (.head _) i0, bv_get_sp _ _ _ (by rw [sec_len]; omega), ← HY.out]
          simp [List.getD, show i0 < (sec 3 7 b k).length by rw [sec_len]; omega]
        rw [hz]
        clear hz
        go_wp2_with (refine wl_store1 rfl _ _ _ rfl HO28.out 0 g23 i0 _ (.int .u8 z) _ rfl (by rfl) (by rfl) (by rfl) (by kernel_rfl) (by rfl) (by simp [sec_len]; omega) ?_; intro w29 hO29; have HO29 := Lib.hid hO29; clear hO29 HO28)
        have hO30 : Own w w29 ([(g23, .cells (List.toArray (bv ((sec 3 7 b k).set i0 z) ++ sp23)) 5)] ++ (Ld23 ++ ([(gm, .cells [Value.int .i64 3, Value.int .i64 7].toArray 48)] ++ (L2 ++ [])))) := by
          have h30 := HO29.out
          rw [bv_set_sp _ _ _ _ (by rw [sec_len]; omega)] at h30
          exact h30
        have hrd30 : Rd w [(g23, .cells (List.toArray (bv ((sec 3 7 b k).set i0 z) ++ sp23)) 5)] (.slice (some ⟨g23, 0, none⟩) 32 c23) ((sec 3 7 b k).set i0 z) := by
          have h30 := rd_blk (w0 := w) (R := [(g23, Obj.cells (List.toArray (bv ((sec 3 7 b k).set i0 z) ++ sp23)) 5)]) (xs := (sec 3 7 b k).set i0 z) (sp := sp23) (t := 5) (.head _) 0 32 c23 (by rw [List.length_set, sec_len]; omega) hc23
          rw [List.drop_zero, List.take_of_length_le (by rw [List.length_set, sec_len]; omega)] at h30
          exact h30
        have hbyt30 : Byt ((sec 3 7 b k).set i0 z) := by
          intro q hq
          rcases List.mem_or_eq_of_mem_set hq with hq | rfl
          · exact HXB.out q hq
          · exact ⟨HXOR.out.1, HXOR.out.2.1⟩
        have hbad30 : Bad a b k ((sec 3 7 b k).set i0 z) := bad_spoil HCTX.out i0 (by omega) (by omega) z ⟨HXOR.out.1, HXOR.out.2.1⟩ (by rw [HY.out]; exact fun e => by have := HXOR.out.2.2.1 e; omega) HCOLL.out
        have HFIN := Lib.hid (And.intro hO30 (And.intro hrd30 (And.intro hbyt30 hbad30)))
        clear hO30 hrd30 hbyt30 hbad30 HO29 hcy
        go_wp2_with fail
        go_meet
        exact (HMID.out _ _ _ _).1 ⟨_, [_], Ld23, HFIN.out.2.1, by rw [List.length_set, sec_len], HFIN.out.2.2.1, .inl HFIN.out.2.2.2, HD23.out, HFIN.out.1⟩
    · go_wp2_with (refine wl_build rfl _ _ rfl _ (by exact build_mf _ _ _) ?_)
      have hcall := seal_ok HO26.out 3 8 k (p : Nat) (.slice A24 (chunk (framed b) k).length c24) (chunk (framed b) k) (H24.out.rd sub_here) (okSeal_mark (by decide) ⟨by omega, by omega, by omega, hch⟩)
      with_reducible refine hcall.mono ?_
      clear hcall
      rintro en w27 ⟨v27, L27, rfl, h27, hO27⟩
      obtain ⟨A27, c27, rfl⟩ := h27.val
      have hl27 : (sealed 3 8 (k : Int) (p : Nat) (chunk (framed b) k)).length = 32 := length_sealed _ _ _ _ _ hch
      rw [hl27]
      have hO28 : Own w w27 (L27 ++ (Ld23 ++ ([(gm, .cells [Value.int .i64 3, Value.int .i64 7].toArray 48)] ++ (L2 ++ [])))) := hO27.sub (List.Sublist.append_left ((List.sublist_append_right [_] _).trans (List.sublist_append_right L24 _)) L27)
      have hb27 : Byt (sealed 3 8 (k : Int) (p : Nat) (chunk (framed b) k)) := byt_sealed (okSeal_mark (by decide) ⟨by omega, by omega, by omega, hch⟩) (byt_chunk (byt_framed HBB.out) k)
      have hr27 : Rd w L27 (.slice A27 32 c27) (sealed 3 8 (k : Int) (p : Nat) (chunk (framed b) k)) := by
        have h9 := h27.rd (w0 := w) (List.Sublist.refl L27)
        rw [hl27] at h9
        exact h9
      have HO28 := Lib.hid hO28; have HR27 := Lib.hid hr27; have HB27 := Lib.hid hb27; have HL27 := Lib.hid hl27
      clear hO28 hr27 hb27 hl27 h27 hO27 HO26
      go_wp2_with fail
      go_meet
      refine (HMID.out _ _ _ _).1 ⟨_, L27, Ld23, HR27.out, HL27.out, HB27.out, ?_, HD23.out, HO28.out⟩
      by_cases hp1e : p = 1
      · exact .inr ⟨rfl, by rw [HP.out]; exact hp1e⟩
      · left
        have h9 := bad_seal_mark HCTX.out (by rw [HP.out]; omega) 3 8 (by decide) (by decide)
        rw [HP.out] at h9
        exact h9
    · go_wp2_with (refine wl_build rfl _ _ rfl _ (by exact build_mf _ _ _) ?_)
      have hcall := seal_ok HO26.out 4 7 k (p : Nat) (.slice A24 (chunk (framed b) k).length c24) (chunk (framed b) k) (H24.out.rd sub_here) (okSeal_mark (by decide) ⟨by omega, by omega, by omega, hch⟩)
      with_reducible refine hcall.mono ?_
      clear hcall
      rintro en w27 ⟨v27, L27, rfl, h27, hO27⟩
      obtain ⟨A27, c27, rfl⟩ := h27.val
      have hl27 : (sealed 4 7 (k : Int) (p : Nat) (chunk (framed b) k)).length = 32 := length_sealed _ _ _ _ _ hch
      rw [hl27]
      have hO28 : Own w w27 (L27 ++ (Ld23 ++ ([(gm, .cells [Value.int .i64 3, Value.int .i64 7].toArray 48)] ++ (L2 ++ [])))) := hO27.sub (List.Sublist.append_left ((List.sublist_append_right [_] _).trans (List.sublist_append_right L24 _)) L27)
      have hb27 : Byt (sealed 4 7 (k : Int) (p : Nat) (chunk (framed b) k)) := byt_sealed (okSeal_mark (by decide) ⟨by omega, by omega, by omega, hch⟩) (byt_chunk (byt_framed HBB.out) k)
      have hr27 : Rd w L27 (.slice A27 32 c27) (sealed 4 7 (k : Int) (p : Nat) (chunk (framed b) k)) := by
        have h9 := h27.rd (w0 := w) (List.Sublist.refl L27)
        rw [hl27] at h9
        exact h9
      have HO28 := Lib.hid hO28; have HR27 := Lib.hid hr27; have HB27 := Lib.hid hb27; have HL27 := Lib.hid hl27
      clear hO28 hr27 hb27 hl27 h27 hO27 HO26
      by_cases hp1e : p = 1
      · have hpe : ((p : Int) == 1) = true := by simp; omega
        have HP1E := Lib.hid hp1e; clear hp1e
        go_wp2_with (refine wl_makeSlice rfl _ _ _ rfl HO28.out _ 32 32 (by exact make_b 32 32 rfl (by decide) _) ?_; intro g29 w29 hO29; have HO29 := Lib.hid hO29; clear hO29)
        have hO30 := Lib.hid (HO29.out.sub ((List.sublist_append_right L27 _).cons_cons _)); clear HO29
        go_wp2_with fail
        go_meet
        exact (HMID.out _ _ _ _).1 ⟨_, [_], Ld23, rd_whole3 (xs := List.replicate 32 0) (.head _) (by simp) (Nat.le_refl _), by simp, fun q hq => by rw [List.mem_replicate] at hq; omega, .inl (bad_zero HCTX.out), HD23.out, hO30.out⟩
      · have hpe : ((p : Int) == 1) = false := by simp; omega
        have HP1E := Lib.hid hp1e; clear hp1e
        go_wp2_with fail
        go_meet
        refine (HMID.out _ _ _ _).1 ⟨_, L27, Ld23, HR27.out, HL27.out, HB27.out, .inl ?_, HD23.out, HO28.out⟩
        have h9 := bad_seal_mark HCTX.out (by rw [HP.out]; have := HP1E.out; omega) 4 7 (by decide) (by decide)
        rw [HP.out] at h9
        exact h9
    · go_wp2_with (refine wl_load rfl _ _ rfl gm 0 [.int .i64 3, .int .i64 7] [.int .i64 3, .int .i64 7] 48 (HO26.out.heap (List.mem_append_right _ (List.mem_append_right _ (List.mem_append_right _ (.head _))))) (by rfl) _ Try.underlying48 rfl mark_size (by rfl) ?_)
      have hcall := seal_ok HO26.out 3 7 k ((p : Int) + 1) (.slice A24 (chunk (framed b) k).length c24) (chunk (framed b) k) (H24.out.rd sub_here) (okSeal_mark (by decide) ⟨by omega, by omega, by omega, hch⟩)
      with_reducible refine hcall.mono ?_
      clear hcall
      rintro en w27 ⟨v27, L27, rfl, h27, hO27⟩
      obtain ⟨A27, c27, rfl⟩ := h27.val
      have hl27 : (sealed 3 7 (k : Int) ((p : Int) + 1) (chunk (framed b) k)).length = 32 := length_sealed _ _ _ _ _ hch
      rw [hl27]
      have hO28 : Own w w27 (L27 ++ (Ld23 ++ ([(gm, .cells [Value.int .i64 3, Value.int .i64 7].toArray 48)] ++ (L2 ++ [])))) := hO27.sub (List.Sublist.append_left ((List.sublist_append_right [_] _).trans (List.sublist_append_right L24 _)) L27)
      have hb27 : Byt (sealed 3 7 (k : Int) ((p : Int) + 1) (chunk (framed b) k)) := byt_sealed (okSeal_mark (by decide) ⟨by omega, by omega, by omega, hch⟩) (byt_chunk (byt_framed HBB.out) k)
      have hr27 : Rd w L27 (.slice A27 32 c27) (sealed 3 7 (k : Int) ((p : Int) + 1) (chunk (framed b) k)) := by
        have h9 := h27.rd (w0 := w) (List.Sublist.refl L27)
        rw [hl27] at h9
        exact h9
      have HO28 := Lib.hid hO28; have HR27 := Lib.hid hr27; have HB27 := Lib.hid hb27; have HL27 := Lib.hid hl27
      clear hO28 hr27 hb27 hl27 h27 hO27 HO26
      go_wp2_with fail
      go_meet
      refine (HMID.out _ _ _ _).1 ⟨_, L27, Ld23, HR27.out, HL27.out, HB27.out, .inl ?_, HD23.out, HO28.out⟩
      have h9 := bad_seal_parts HCTX.out
      rw [HP.out] at h9
      exact h9
  case rest =>
    have hcut2 := (HMID.out _ _ _ _).2 hcut
    clear hcut
    obtain ⟨Y, LY, Ld, hrdY, hlenY, hbytY, hbadY, hdY, hOY⟩ := hcut2
    obtain ⟨AY, cY, hvY, hcY⟩ := (hrdY.bs_sub hOY sub_here).len
    rw [hlenY] at hvY
    subst hvY
    have HRDY := Lib.hid hrdY; have HLENY := Lib.hid hlenY; have HBYTY := Lib.hid hbytY; have HBADY := Lib.hid hbadY; have HDY := Lib.hid hdY; have HOY := Lib.hid hOY.rot
    clear hrdY hlenY hbytY hbadY hdY hOY hcY HO26 HD23 H23 H24 HXB
    go_wp2_with fail
    have hcall := within_n (w := wc) a4 4 (by omega) (by omega)
    rw [HM4.out] at hcall
    with_reducible refine hcall.mono ?_
    clear hcall
    rintro en w' ⟨rfl, rfl⟩
    by_cases hboth : m4 = 1 ∧ p = 1
    · obtain ⟨rfl, hp1e⟩ := hboth
      have hpe : ((p : Int) == 1) = true := by simp; omega
      go_wp2_with fail
      have hcall := wakes3_c HOY.out
      with_reducible refine hcall.mono ?_
      clear hcall
      rintro en w30 ⟨rfl, hO30⟩
      have HO30 := Lib.hid hO30; clear hO30 HOY
      go_wp2
      go_ret
      exact HO30.out.yes rfl
    · have hbad2 : Bad a b k Y := HBADY.out.resolve_right (fun h => hboth ⟨by have := h.1; omega, by rw [← HP.out]; exact h.2⟩)
      have HBAD2 := Lib.hid hbad2; clear hbad2
      have hwr := write_go (s := s1) (i := (a : Int) + k) (xs := Y) (refuse0 HSD.out (by omega) (by rw [HSN.out]; omega)) HLENY.out HSL.out
      rw [show ((a : Int) + k).toNat = a + k by omega, HSPL.out] at hwr
      have HWR := Lib.hid hwr; clear hwr
      have hfin : ∀ wz, Own w wz (Ld ++ (LY ++ ([(gm, .cells [Value.int .i64 3, Value.int .i64 7].toArray 48)] ++ (L2 ++ [])))) → Calls Try.prog 12 #[(.pointer (some ⟨bd, 0, none⟩)), .int .i64 ((a : Int) + k), .slice AY 32 cY] wz (HasDisk w (LY ++ ([(gm, .cells [Value.int .i64 3, Value.int .i64 7].toArray 48)] ++ (L2 ++ []))) (.pointer (some ⟨bd, 0, none⟩)) (spoilt a b k Y) (.int .i64 0)) := fun wz hz => write_is HDY.out hz _ _ Y (HRDY.out.sublist sub_here) (by have := HSP.out; omega) _ _ HWR.out.1 HWR.out.2
      have HFINW := Lib.hid hfin; clear hfin
      by_cases hm1 : m4 = 1
      · subst hm1
        have hpe : ((p : Int) == 1) = false := by simp; omega
        clear hboth
        go_wp2_with fail
        with_reducible refine (HFINW.out _ HOY.out).mono ?_
        rintro en w31 ⟨rfl, L31, hd31, hO31⟩
        have HO31 := Lib.hid hO31; have HD31 := Lib.hid hd31; clear hO31 hd31 HOY HFINW
        go_wp2_with fail
        have hcall := fread_form HD31.out HO31.out (a : Int) 12 (by omega) (by omega) (by rw [spoilt_n]; decide) rfl (spoilt_byt HCTX.out HBYTY.out) HBAD2.out
        with_reducible refine hcall.mono ?_
        clear hcall
        rintro en w32 ⟨v32, L32, Ld32, rfl, hrd32, hd32, hO32⟩
        obtain ⟨A32, c32, rfl, hc32⟩ := (hrd32.bs_sub hO32 sub_here).len
        have HO32 := Lib.hid hO32; clear hO32 hrd32 hd32 HO31 HD31 hc32
        simp only [List.length_nil]
        go_wp2_with fail
        have hcall := wakes3_c HO32.out
        with_reducible refine hcall.mono ?_
        clear hcall
        rintro en w33 ⟨rfl, hO33⟩
        have HO33 := Lib.hid hO33; clear hO33 HO32
        go_wp2
        go_ret
        exact HO33.out.yes rfl
      · have hme : ((m4 : Int) == 1) = false := by simp; omega
        clear hboth hm1
        go_wp2_with fail
        with_reducible refine (HFINW.out _ HOY.out).mono ?_
        rintro en w31 ⟨rfl, L31, hd31, hO31⟩
        have HO31 := Lib.hid hO31; have HD31 := Lib.hid hd31; clear hO31 hd31 HOY HFINW
        go_wp2_with fail
        have hcall := fread_form HD31.out HO31.out (a : Int) 12 (by omega) (by omega) (by rw [spoilt_n]; decide) rfl (spoilt_byt HCTX.out HBYTY.out) HBAD2.out
        with_reducible refine hcall.mono ?_
        clear hcall
        rintro en w32 ⟨v32, L32, Ld32, rfl, hrd32, hd32, hO32⟩
        obtain ⟨A32, c32, rfl, hc32⟩ := (hrd32.bs_sub hO32 sub_here).len
        have HO32 := Lib.hid hO32; clear hO32 hrd32 hd32 HO31 HD31 hc32
        simp only [List.length_nil]
        go_wp2_with fail
        have hcall := wakes3_c HO32.out
        with_reducible refine hcall.mono ?_
        clear hcall
        rintro en w33 ⟨rfl, hO33⟩
        have HO33 := Lib.hid hO33; clear hO33 HO32
        go_wp2
        go_ret
        exact HO33.out.yes rfl
set_option maxRecDepth 100000 in
theorem frameReads_lifted (os : Os) (started : os.Started) (H : Type) (enc : TypeId × Value → H) :
    ReturnsInHanded {} Try.checked os 8 .any (Rows.frameReadsSpec.pre6 enc Try.prog Try.f8 Rows.frameReadsRow.domain false) (Rows.frameReadsSpec.post enc Try.prog Try.f8 false true false false) := by
  refine returnsInHanded_of_change (C := Try.checked) (by kernel_rfl) started (by kernel_rfl) Try.func8
    (ChangeSpec.witness6 (enc := enc) (C := Try.checked) false ⟨#[], #[.int .i64 0, .int .i64 0, .int .i64 0, .int .i64 0, .int .i64 0], []⟩ 8 (by kernel_rfl) (by kernel_rfl) (by kernel_rfl) (by kernel_rfl)) ?_
  intro W base args ds gs before hval0 hW hcnd _
  have hval : ∀ (j : Nat) t v, Try.f8.params[j]? = some t → args[j]? = some v → Value.okWide Try.prog W .any base t v := hval0
  have hW' := hW
  obtain ⟨p, q, hA0, hV, rfl, hfz, hnd⟩ := hW
  have hA : DataW.TrodAll enc Try.prog W 0 (fun _ => true) true Try.f8.params.toList args.toList ds p := hA0
  rw [Try.params8] at hA hval
  obtain ⟨v0, vs0, d0, ds0, p0, q0, hargs, rfl, rfl, h0, r0⟩ := trodAll_cons hA
  obtain ⟨v1, vs1, d1, ds1, p1, q1, rfl, rfl, rfl, h1, r1⟩ := trodAll_cons r0
  obtain ⟨v2, vs2, d2, ds2, p2, q2, rfl, rfl, rfl, h2, r2⟩ := trodAll_cons r1
  obtain ⟨v3, vs3, d3, ds3, p3, q3, rfl, rfl, rfl, h3, r3⟩ := trodAll_cons r2
  obtain ⟨v4, vs4, d4, ds4, p4, q4, rfl, rfl, rfl, h4, r4⟩ := trodAll_cons r3
  obtain ⟨rfl, rfl, rfl⟩ := trodAll_nil r4
  obtain rfl : args = #[v0, v1, v2, v3, v4] := by cases args; simp_all
  obtain ⟨rfl, rfl⟩ := trodVars_none hV
  obtain ⟨a0, rfl, rfl, rfl, w0⟩ := open_int Try.underlying3 (hval 0 3 v0 rfl rfl) h0
  obtain ⟨a1, rfl, rfl, rfl, w1⟩ := open_int Try.underlying3 (hval 1 3 v1 rfl rfl) h1
  obtain ⟨a2, rfl, rfl, rfl, w2⟩ := open_int Try.underlying3 (hval 2 3 v2 rfl rfl) h2
  obtain ⟨a3, rfl, rfl, rfl, w3⟩ := open_int Try.underlying3 (hval 3 3 v3 rfl rfl) h3
  obtain ⟨a4, rfl, rfl, rfl, w4⟩ := open_int Try.underlying3 (hval 4 3 v4 rfl rfl) h4
  clear hA0 hval0
  refine (frameReads_walk a0 w0 a1 w1 a2 w2 a3 w3 a4 w4).mono fun e W' ⟨he, bel⟩ => ?_
  subst he
  exact ⟨_, rfl, _, _, _, [], _, [], hW', trodAll_mk1 (shut_bool Try.underlying4 _), (trodAll_cons_mk (shut_int Try.underlying3 w0) (trodAll_cons_mk (shut_int Try.underlying3 w1) (trodAll_cons_mk (shut_int Try.underlying3 w2) (trodAll_cons_mk (shut_int Try.underlying3 w3) (trodAll_cons_mk (shut_int Try.underlying3 w4) trodAll_mk0))))), rfl, bel.frame _, fun h => by cases h⟩

/-- The statement. -/
theorem frameReads_proved : Rows.FrameReadsSaid :=
  OpenClaim.holds_of_wide 8 Try.f8 rfl rfl rfl rfl rfl rfl rfl ⟨rfl, rfl, rfl, rfl, rfl⟩ rfl rfl rfl rfl rfl (by kernel_rfl) Try.func8 (by kernel_rfl)
    (of_decide_eq_true (by kernel_rfl)) (by unfold Func.isWrapper; first | (rw [if_pos (by decide +kernel)]; kernel_rfl) | (rw [if_neg (by decide +kernel)]; exact ⟨rfl, rfl⟩))
    (fun os started H enc _ => frameReads_lifted os started H enc)
end Go.Proofs.Ytlapheiekjhceaa

