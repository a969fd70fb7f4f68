/-
  The document's own answers (postilionref01): Open.
-/
import Derived.Test.YtjdomggboikndaaRef1
namespace Go.Proofs.Ytjdomggboikndaa
set_option linter.unusedVariables false
set_option linter.unusedSimpArgs false
open Go.RowKit

def GotOpenB (w0 : World) (R : Blks) (o : Opened) (en : Ending) (w' : World) : Prop :=
  ∃ v L, en = .returned (.tuple #[.int .i64 o.e, .int .i64 o.s, .int .i64 o.p, .int .i64 o.q, v, .bool (decide (o.r = 0))]) ∧ IsBytes v o.b L ∧ Own w0 w' (L ++ R)
theorem gotOpenB_no {w0 w' : World} {R : Blks} {xs : List Int} (h : isSeal xs = false) (hO : Own w0 w' R) :
    GotOpenB w0 R (openR xs) (.returned (.tuple #[.int .i64 0, .int .i64 0, .int .i64 0, .int .i64 0, .slice none 0 0, .bool false])) w' := by
  rw [openR_no h]
  exact ⟨_, [], rfl, ⟨rfl, .inl ⟨rfl, rfl, rfl⟩⟩, hO⟩
theorem bne_str {xs ys : List Int} (hx : Byt xs) (hy : Byt ys) : ((strOfNums xs).toList != (strOfNums ys).toList) = !decide (xs = ys) := by
  rw [bne, beq_str hx hy]
set_option maxHeartbeats 4000000 in
theorem refOpen_len {w0 w : World} {R : Blks} (hO : Own w0 w R) (v : Value) (xs : List Int) (hb : Rd w0 R v xs) (h : xs.length ≠ 32) :
    Calls Try.prog 29 #[v] w (GotOpenB w0 R (openR xs)) := by
  have hn : isSeal xs = false := by simp [isSeal, h]
  obtain ⟨A, c, rfl, _⟩ := (hb w [] hO).len
  have HN := Lib.hid hn; have HO := Lib.hid hO; clear hO hb hn
  have hne : ((xs.length : Int) != 32) = true := by rw [bne_iff_ne]; omega
  clear h
  go_enter Try.func29, Try.ntmps29
  go_wp2
  exact bodyPost_ret (v := .tuple #[.int .i64 0, .int .i64 0, .int .i64 0, .int .i64 0, .slice none 0 0, .bool false]) (by simp [results, Try.results29, go_sem]) rfl (gotOpenB_no HN.out HO.out)
set_option maxHeartbeats 4000000 in
theorem refOpen_big {w0 w : World} {R : Blks} (hO : Own w0 w R) (ad : Addr) (c : Nat) (xs : List Int) (hb : Rd w0 R (.slice (some ad) 32 c) xs) (h : xs.length = 32) (h7 : 19 < xs.getD 7 0) :
    Calls Try.prog 29 #[.slice (some ad) 32 c] w (GotOpenB w0 R (openR xs)) := by
  have hn : isSeal xs = false := by
    have : ¬ (xs.getD 7 0 ≤ 19) := by omega
    simp only [isSeal, h, this, and_false, decide_false, Bool.false_and]
  have hc7 : w.cell? ⟨ad.block, ad.off + 7, none⟩ = some (.int .u8 (xs.getD 7 0)) := hb.at_ (L := []) hO 6 (by omega)
  generalize xs.getD 7 0 = z at *
  have HN := Lib.hid hn; have HO := Lib.hid hO; clear hO hb hn h
  go_enter Try.func29, Try.ntmps29
  go_wp2
  exact bodyPost_ret (v := .tuple #[.int .i64 0, .int .i64 0, .int .i64 0, .int .i64 0, .slice none 0 0, .bool false]) (by simp [results, Try.results29, go_sem]) rfl (gotOpenB_no HN.out HO.out)
set_option maxHeartbeats 4000000 in
theorem refOpen_go {w0 w : World} {R : Blks} (hO : Own w0 w R) (ad : Addr) (c : Nat) (xs : List Int) (hb : Rd w0 R (.slice (some ad) 32 c) xs) (hB : Byt xs) (h : xs.length = 32) (h7 : xs.getD 7 0 ≤ 19) :
    Calls Try.prog 29 #[.slice (some ad) 32 c] w (GotOpenB w0 R (openR xs)) := by
  have hc32 : 32 ≤ c := by obtain ⟨A, n', c2, e, hn, hc, _⟩ := hb w [] hO; cases e; exact hc
  have hc8 : ¬ (c = 8) := by omega
  have hBB := Lib.hid hB
  have b0 := getD_byt hB 0
  have b1 := getD_byt hB 1
  have b2 := getD_byt hB 2
  have b3 := getD_byt hB 3
  have b4 := getD_byt hB 4
  have b5 := getD_byt hB 5
  have b6 := getD_byt hB 6
  have b7 := getD_byt hB 7
  have hbs := hb.bsat (L := []) hO
  have g0 : w.cell? ad = some (.int .u8 (xs.getD 0 0)) := by have := hbs 0 (by omega); rwa [show ad.add 0 = ad by unfold Addr.add; simp] at this
  have g1 : w.cell? ⟨ad.block, ad.off + 1, none⟩ = some (.int .u8 (xs.getD 1 0)) := hbs 1 (by omega)
  have g2 : w.cell? ⟨ad.block, ad.off + 2, none⟩ = some (.int .u8 (xs.getD 2 0)) := hbs 2 (by omega)
  have g3 : w.cell? ⟨ad.block, ad.off + 3, none⟩ = some (.int .u8 (xs.getD 3 0)) := hbs 3 (by omega)
  have g4 : w.cell? ⟨ad.block, ad.off + 4, none⟩ = some (.int .u8 (xs.getD 4 0)) := hbs 4 (by omega)
  have g5 : w.cell? ⟨ad.block, ad.off + 5, none⟩ = some (.int .u8 (xs.getD 5 0)) := hbs 5 (by omega)
  have g6 : w.cell? ⟨ad.block, ad.off + 6, none⟩ = some (.int .u8 (xs.getD 6 0)) := hbs 6 (by omega)
  have g7 : w.cell? ⟨ad.block, ad.off + 7, none⟩ = some (.int .u8 (xs.getD 7 0)) := hbs 7 (by omega)
  have HO := Lib.hid hO; have HB := Lib.hid hb; have HX := Lib.hid h; clear hO hb h hB hbs
  have hte : tE xs = xs.getD 0 0 * 256 + xs.getD 1 0 := rfl
  have hts : tS xs = xs.getD 2 0 * 65536 + xs.getD 3 0 * 256 + xs.getD 4 0 := rfl
  have hsl := isSeal_eq HX.out h7
  have hop : isSeal xs = true → openR xs = ⟨tE xs, tS xs, xs.getD 5 0, xs.getD 6 0, tB xs, 0⟩ := fun h => by unfold openR; rw [if_pos h]
  have htb : tB xs = (xs.drop 8).take (xs.getD 7 0).toNat := rfl
  rw [hte, hts] at hsl hop
  clear hte hts
  generalize xs.getD 0 0 = x0 at *
  generalize xs.getD 1 0 = x1 at *
  generalize xs.getD 2 0 = x2 at *
  generalize xs.getD 3 0 = x3 at *
  generalize xs.getD 4 0 = x4 at *
  generalize xs.getD 5 0 = x5 at *
  generalize xs.getD 6 0 = x6 at *
  generalize xs.getD 7 0 = x7 at *
  have HSL := Lib.hid hsl; have HOP := Lib.hid hop; have HTB := Lib.hid htb; clear hsl hop htb
  have hj1 := join8 (x0 * 256) x1 (by omega) (by omega) (by omega) b1.1 (by omega)
  have hj2 := join16 (x2 * 65536) (x3 * 256) (by omega) (by omega) (by omega) (by omega) (by omega)
  have hj3 := join8 (x2 * 65536 + x3 * 256) x4 (by omega) (by omega) (by omega) b4.1 (by omega)
  have hw0 : IntKind.i64.wrap (x0 * 256) = x0 * 256 := IntWalk.i64_in _ (by omega)
  have hw2 : IntKind.i64.wrap (x2 * 65536) = x2 * 65536 := IntWalk.i64_in _ (by omega)
  have hw3 : IntKind.i64.wrap (x3 * 256) = x3 * 256 := IntWalk.i64_in _ (by omega)
  have u0 : IntKind.i64.wrap x0 = x0 := IntWalk.i64_in _ (by omega)
  have u1 : IntKind.i64.wrap x1 = x1 := IntWalk.i64_in _ (by omega)
  have u2 : IntKind.i64.wrap x2 = x2 := IntWalk.i64_in _ (by omega)
  have u3 : IntKind.i64.wrap x3 = x3 := IntWalk.i64_in _ (by omega)
  have u4 : IntKind.i64.wrap x4 = x4 := IntWalk.i64_in _ (by omega)
  have u5 : IntKind.i64.wrap x5 = x5 := IntWalk.i64_in _ (by omega)
  have u6 : IntKind.i64.wrap x6 = x6 := IntWalk.i64_in _ (by omega)
  go_enter Try.func29, Try.ntmps29
  go_wp2
  refine wp_region_lin (fun w' => w' = w.drew) 38 [(0, true), (1, true), (2, true), (3, true), (4, true), (5, true), (6, true), (7, true), (8, true), (9, true), (10, true), (11, true), (12, true), (13, true), (14, true), (15, true), (16, true), (17, true), (18, true), (19, true), (20, true), (21, true), (22, true), (23, true), (24, true), (25, true), (26, true), (27, true), (28, true), (29, true), (30, true), (31, true), (32, true), (33, true), (34, true), (35, true), (36, true), (37, true)] (by kernel_rfl) (by decide +kernel) (fun _ _ d _ _ h => by cases d <;> exact h) rfl ?_
  simp only [List.map_cons, List.map_nil, pick_zero, pick_succ, List.drop_succ_cons, List.drop_zero]
  iterate 38 (refine lin_q ?_ rfl ?_ ?_; rotate_left 1; (focus (rintro w' rfl; go_simp; first | done | with_reducible rfl | (trace_state; fail))); simp only [Act.put, List.setIfInBounds_toArray, List.set_cons_zero, List.set_cons_succ])
  refine lin_nil ?_
  clear hj1 hj2 hj3 hw0 hw2 hw3 u0 u1 u2 u3 u4 u5 u6 g0 g1 g2 g3 g4 g5 g6
  have HO6 := Lib.hid HO.out.drew; clear HO
  have hc7 : w.drew.cell? ⟨ad.block, ad.off + 7, none⟩ = some (.int .u8 x7) := g7
  clear g7
  generalize w.drew = w6 at HO6 hc7
  obtain ⟨k, rfl⟩ := Int.eq_ofNat_of_zero_le b7.1
  have hk : k ≤ 19 := by omega
  have hrd : Rd w0 R (.slice (some ⟨ad.block, ad.off + 8, none⟩) k (c - 8)) ((xs.drop 8).take k) := HB.out.sub 8 k (c - 8) (by omega) (by omega)
  have hbl : ((xs.drop 8).take k).length = k := by simp [HX.out]; omega
  have hbb : Byt ((xs.drop 8).take k) := byt_take (byt_drop hBB.out 8) k
  have htb : tB xs = (xs.drop 8).take k := by rw [HTB.out]; simp
  have HRD := Lib.hid hrd; have HBL := Lib.hid hbl; have HBB := Lib.hid hbb; have HTB' := Lib.hid htb; clear hrd hbl hbb htb HTB
  generalize (xs.drop 8).take k = bs at *
  generalize x0 * 256 + x1 = E at *
  generalize x2 * 65536 + x3 * 256 + x4 = S at *
  go_wp2_with (refine wl_appendB rfl _ _ rfl (.slice none 0 0) [] (by rfl) (L := []) isBytes_nil HO6.out (.slice (some ⟨ad.block, ad.off + 8, none⟩) k (c - 8)) bs (by show Value.slice _ _ _ = _; congr 1; omega) (HRD.out w6 [] HO6.out) (by have := HBL.out; simp only [List.length_nil]; omega) ?_; intro v7 w7 L7 h7' hO7; have H7 := Lib.hid h7'; have HO7 := Lib.hid hO7; clear h7' hO7 HO6)
  have hcall := refSeal_c HO7.out E S x5 x6 v7 bs (H7.out.rd sub_here)
  with_reducible refine hcall.mono ?_
  clear hcall
  rintro en w8 ⟨v8, L8, rfl, h8, hO8⟩
  have hsl := HSL.out
  have hop := HOP.out
  rw [HTB'.out] at hsl hop
  cases hk : okSeal E S x5 x6 bs.length
  · rw [hk, Bool.false_and] at hsl
    have HSL' := Lib.hid hsl; clear hsl HSL HOP hop
    have HO9 := Lib.hid hO8.right.right; clear hO8 HO7 h8
    go_wp2
    exact bodyPost_ret (v := .tuple #[.int .i64 0, .int .i64 0, .int .i64 0, .int .i64 0, .slice none 0 0, .bool false]) (by simp [results, Try.results29, go_sem]) rfl (gotOpenB_no HSL'.out HO9.out)
  · rw [hk, Bool.true_and] at hsl
    have HSL' := Lib.hid hsl; have HOP' := Lib.hid hop; clear hsl HSL HOP hop
    rw [if_pos hk] at h8
    have hbs : Byt (sealed E S x5 x6 bs) := byt_sealed hk HBB.out
    have c1 := convert_str (h8.bs hO8)
    have c2 := convert_str (HB.out w8 (L8 ++ L7) (by rw [List.append_assoc]; exact hO8))
    have HNE := Lib.hid (beq_str hbs hBB.out)
    obtain ⟨A7, c7, rfl⟩ := H7.out.val
    obtain ⟨A8, c8, rfl⟩ := h8.val
    have HO8 := Lib.hid hO8; clear hO8 HO7 h8 hbs hk
    cases hd : decide (sealed E S x5 x6 bs = xs)
    · rw [hd] at HSL' HNE
      clear hd
      have hne := HNE.out
      clear HNE
      go_wp2
      exact bodyPost_ret (v := .tuple #[.int .i64 0, .int .i64 0, .int .i64 0, .int .i64 0, .slice none 0 0, .bool false]) (by simp [results, Try.results29, go_sem]) rfl (gotOpenB_no HSL'.out HO8.out.right.right)
    · rw [hd] at HSL' HNE
      clear hd
      have hne := HNE.out
      clear HNE
      go_wp2
      refine bodyPost_ret (v := .tuple #[.int .i64 E, .int .i64 S, .int .i64 x5, .int .i64 x6, .slice A7 bs.length c7, .bool true]) (by simp [results, Try.results29, go_sem]) rfl ?_
      rw [HOP'.out HSL'.out]
      exact ⟨_, L7, rfl, H7.out, HO8.out.right⟩
theorem refOpen_c {w0 w : World} {R : Blks} (hO : Own w0 w R) (v : Value) (xs : List Int) (hb : Rd w0 R v xs) (hB : Byt xs) :
    Calls Try.prog 29 #[v] w (GotOpenB w0 R (openR xs)) := by
  by_cases h : xs.length = 32
  · obtain ⟨A, n, c, rfl, hn, _, hA⟩ := hb w [] hO
    obtain ⟨ad, rfl, _⟩ := hA (by omega)
    obtain rfl : n = 32 := by omega
    by_cases h7 : xs.getD 7 0 ≤ 19
    · exact refOpen_go hO ad c xs hb hB h h7
    · exact refOpen_big hO ad c xs hb h (by omega)
  · exact refOpen_len hO v xs hb h
end Go.Proofs.Ytjdomggboikndaa
