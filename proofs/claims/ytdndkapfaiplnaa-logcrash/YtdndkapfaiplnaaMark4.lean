/-
  Package mark: Open.
-/
import Derived.Test.YtdndkapfaiplnaaMark3
import Derived.Test.YtdndkapfaiplnaaLaw
namespace Go.Proofs.Ytdndkapfaiplnaa
set_option linter.unusedVariables false
set_option linter.unusedSimpArgs false
set_option maxRecDepth 20000
open Go.RowKit

theorem add_of_add (a : Addr) (i j : Nat) : (a.add i).add j = a.add (i + j) := by
  unfold Addr.add
  by_cases hi : i = 0 <;> by_cases hj : j = 0 <;> simp [hi, hj, Nat.add_assoc]
theorem Rd.sub {w0 : World} {R : Blks} {ad : Addr} {n c : Nat} {xs : List Int} (h : Rd w0 R (.slice (some ad) n c) xs) (lo m c' : Nat) (hl : lo + m ≤ n) (hc : m ≤ c') :
    Rd w0 R (.slice (some (ad.add lo)) m c') ((xs.drop lo).take m) := by
  intro w' L' hO
  obtain ⟨A, n', c2, e, hn, _, hA⟩ := h w' L' hO
  cases e
  refine ⟨_, _, _, rfl, by simp; omega, hc, fun h0 => ⟨_, rfl, fun j x hx => ?_⟩⟩
  obtain ⟨ad', e, hcell⟩ := hA (by omega)
  cases e
  have hj : j < m := by have := (List.getElem?_eq_some_iff.1 hx).1; simp at this; omega
  rw [List.getElem?_take_of_lt hj, List.getElem?_drop] at hx
  rw [add_of_add]
  exact hcell _ x hx
theorem wl_call {P : Program} {w : World} {ops : Array Oper} {rest : List Oper} {op : Oper} {a : Act} {Q : Exit → Act → World → Prop} (hgd : op.guard = none) (f : FuncId) (args : Array Value) (post : Ending → World → Prop)
    (hrun : (execOp a.eval op).run P w = .ok (.enter f args) w) (hc : Calls P f args w post)
    (h : ∀ e w', post e w' → ∃ v, e = .returned v ∧ wpList P ops Q rest (a.put op.dst v) w') : wpList P ops Q (op :: rest) a w := by
  refine wpList_plain hgd fun K hK => ?_
  unfold Oper.wp
  rw [hrun]
  simp only [Oper.upon]
  refine hc.mono fun e w' he => ?_
  obtain ⟨v, rfl, hv⟩ := h e w' he
  exact hK _ _ hv
structure Opened where
  e : Int
  s : Int
  p : Int
  q : Int
  b : List Int
  r : Int
def noneOpened : Opened := ⟨0, 0, 0, 0, [], 2⟩
def tE (xs : List Int) : Int := xs.getD 0 0 * 256 + xs.getD 1 0
def tS (xs : List Int) : Int := xs.getD 2 0 * 65536 + xs.getD 3 0 * 256 + xs.getD 4 0
def tB (xs : List Int) : List Int := (xs.drop 8).take (xs.getD 7 0).toNat
def isSeal (xs : List Int) : Bool := decide (xs.length = 32 ∧ xs.getD 7 0 ≤ 19) && (okSeal (tE xs) (tS xs) (xs.getD 5 0) (xs.getD 6 0) (tB xs).length && decide (sealed (tE xs) (tS xs) (xs.getD 5 0) (xs.getD 6 0) (tB xs) = xs))
def openR (xs : List Int) : Opened := if isSeal xs then ⟨tE xs, tS xs, xs.getD 5 0, xs.getD 6 0, tB xs, 0⟩ else noneOpened
def GotOpen (w0 : World) (R : Blks) (o : Opened) (en : Ending) (w' : World) : Prop :=
  ∃ v L, en = .returned (.tuple #[.agg #[.int .i64 o.e, .int .i64 o.s], .int .i64 o.p, .int .i64 o.q, v, .int .i64 o.r]) ∧ IsBytes v o.b L ∧ Own w0 w' (L ++ R)
theorem openR_no {xs : List Int} (h : isSeal xs = false) : openR xs = noneOpened := by unfold openR; rw [h]; rfl
theorem gotOpen_no {w0 w' : World} {R : Blks} {xs : List Int} (h : isSeal xs = false) (hO : Own w0 w' R) :
    GotOpen w0 R (openR xs) (.returned (.tuple #[.agg #[.int .i64 0, .int .i64 0], .int .i64 0, .int .i64 0, .slice none 0 0, .int .i64 2])) w' := by
  rw [openR_no h]
  exact ⟨_, [], rfl, ⟨rfl, .inl ⟨rfl, rfl, rfl⟩⟩, hO⟩
theorem alloc_mark (w : World) : (Instr.alloc 44 true (.tuple #[])).run Try.prog w = .ok (.pointer (some ⟨w.heap.size, 0, none⟩)) (w.alloc (.cells [Value.int .i64 0, Value.int .i64 0].toArray 44)) := by kernel_rfl
theorem mark_size : (Try.prog.info? 44).map (·.size) = some 2 := by kernel_rfl
theorem one_2i (a b : Int) : ∀ v ∈ [Value.int .i64 a, Value.int .i64 b], v.oneCell' = true := by simp; exact ⟨rfl, rfl⟩
theorem build_mark0 (w : World) : (Instr.build 44 #[]).run Try.prog w = .ok (.agg [Value.int .i64 0, Value.int .i64 0].toArray) w := by kernel_rfl
theorem build_mark2 (a b : Int) (w : World) : (Instr.build 44 #[(0, .int .i64 a), (1, .int .i64 b)]).run Try.prog w = .ok (.agg [Value.int .i64 a, Value.int .i64 b].toArray) w := by kernel_rfl
set_option maxHeartbeats 4000000 in
theorem open_len {w0 w : World} {R : Blks} (hO : Own w0 w R) (v : Value) (xs : List Int) (hb : Rd w0 R v xs) (h : xs.length ≠ 32) :
    Calls Try.prog 43 #[v] w (GotOpen w0 R (openR xs)) := by
  have hn : isSeal xs = false := by simp [isSeal, h]
  obtain ⟨A, c, rfl, _⟩ := (hb w [] hO).len
  have HN := Lib.hid hn; have HO := Lib.hid hO; clear hO hb hn
  have hne : ((xs.length : Int) != 32) = true := by rw [bne_iff_ne]; omega
  clear h
  go_enter Try.func43, Try.ntmps43
  go_wp2_with (first | (refine wl_alloc rfl _ rfl HO.out _ (alloc_mark _) ?_; intro gm w1 hO1; have HO1 := Lib.hid hO1; clear hO1 HO) | (refine wl_store rfl _ _ _ rfl HO1.out 0 gm 0 _ [Value.int .i64 0, Value.int .i64 0] _ rfl (by rfl) (by rfl) mark_size (one_2i _ _) (by simp) ?_; intro w2 hO2; have HO2 := Lib.hid hO2; clear hO2 HO1))
  have hO2 : Own w0 w2 ((gm, .cells #[.int .i64 0, .int .i64 0] 44) :: R) := HO2.out
  have hc0 : w2.cell? ⟨gm, 0, none⟩ = some (.int .i64 0) := hO2.cell (.head _) 0
  have hc1 : w2.cell? ⟨gm, 1, none⟩ = some (.int .i64 0) := hO2.cell (.head _) 1
  exact bodyPost_ret (v := .tuple #[.agg #[.int .i64 0, .int .i64 0], .int .i64 0, .int .i64 0, .slice none 0 0, .int .i64 2]) (by simp [results, Try.results43, go_sem, hc0, hc1]) rfl (gotOpen_no HN.out hO2.tail)
/-- Byte j of a slice that lies somewhere. -/
theorem Rd.at_ {w0 w : World} {L R : Blks} {ad : Addr} {n c : Nat} {xs : List Int} (h : Rd w0 R (.slice (some ad) n c) xs) (hO : Own w0 w (L ++ R)) (j : Nat) (hj : j + 1 < xs.length) : w.cell? ⟨ad.block, ad.off + (j + 1), none⟩ = some (.int .u8 (xs.getD (j + 1) 0)) := by
  obtain ⟨A, n', c2, e, hn, _, hA⟩ := h w L hO
  cases e
  obtain ⟨ad', e, hcell⟩ := hA (by omega)
  cases e
  have := hcell (j + 1) (xs.getD (j + 1) 0) (by simp [List.getD, hj])
  simpa [Addr.add] using this
theorem Rd.bsat {w0 w : World} {L R : Blks} {ad : Addr} {n c : Nat} {xs : List Int} (h : Rd w0 R (.slice (some ad) n c) xs) (hO : Own w0 w (L ++ R)) : ∀ j, j < xs.length → w.cell? (ad.add j) = some (.int .u8 (xs.getD j 0)) := by
  intro j hj
  obtain ⟨A, n', c2, e, hn, _, hA⟩ := h w L hO
  cases e
  obtain ⟨ad', e, hcell⟩ := hA (by omega)
  cases e
  exact hcell j (xs.getD j 0) (by simp [List.getD, hj])
theorem getD_byt {xs : List Int} (h : Byt xs) (j : Nat) : 0 ≤ xs.getD j 0 ∧ xs.getD j 0 ≤ 255 := by
  by_cases hj : j < xs.length
  · have := h xs[j] (List.getElem_mem hj)
    simpa [List.getD, hj] using this
  · simp [List.getD, hj]
set_option maxHeartbeats 4000000 in
theorem open_big {w0 w : World} {R : Blks} (hO : Own w0 w R) (ad : Addr) (c : Nat) (xs : List Int) (hb : Rd w0 R (.slice (some ad) 32 c) xs) (h : xs.length = 32) (h7 : 19 < xs.getD 7 0) :
    Calls Try.prog 43 #[.slice (some ad) 32 c] w (GotOpen w0 R (openR xs)) := by
  have hn : isSeal xs = false := by
    have : ¬ (xs.getD 7 0 ≤ 19) := by omega
    simp only [isSeal, h, this, and_false, decide_false, Bool.false_and]
  have HN := Lib.hid hn; have HO := Lib.hid hO; have HB := Lib.hid hb; clear hO hb hn
  have HX := Lib.hid h
  clear h
  generalize hz : xs.getD 7 0 = z at h7
  have HZ := Lib.hid hz; clear hz
  go_enter Try.func43, Try.ntmps43
  go_wp2_with (first | (refine wl_alloc rfl _ rfl HO.out _ (alloc_mark _) ?_; intro gm w1 hO1; have hc7 : w1.cell? ⟨ad.block, ad.off + 7, none⟩ = some (.int .u8 z) := (by rw [← HZ.out]; exact HB.out.at_ (L := [_]) hO1 6 (by rw [HX.out]; omega)); have HO1 := Lib.hid hO1; clear hO1 HO) | (refine wl_store rfl _ _ _ rfl HO1.out 0 gm 0 _ [Value.int .i64 0, Value.int .i64 0] _ rfl (by rfl) (by rfl) mark_size (one_2i _ _) (by simp) ?_; intro w2 hO2; have HO2 := Lib.hid hO2; clear hO2 HO1))
  have hO2 : Own w0 w2 ((gm, .cells #[.int .i64 0, .int .i64 0] 44) :: R) := HO2.out
  have hc0 : w2.cell? ⟨gm, 0, none⟩ = some (.int .i64 0) := hO2.cell (.head _) 0
  have hc1 : w2.cell? ⟨gm, 1, none⟩ = some (.int .i64 0) := hO2.cell (.head _) 1
  exact bodyPost_ret (v := .tuple #[.agg #[.int .i64 0, .int .i64 0], .int .i64 0, .int .i64 0, .slice none 0 0, .int .i64 2]) (by simp [results, Try.results43, go_sem, hc0, hc1]) rfl (gotOpen_no HN.out hO2.tail)
theorem Rd.more {w0 : World} {A R : Blks} {v : Value} {xs : List Int} (h : Rd w0 R v xs) : Rd w0 (A ++ R) v xs := fun w' L' hO => h w' (L' ++ A) (by rw [List.append_assoc]; exact hO)
theorem byt_take {xs : List Int} (h : Byt xs) (n : Nat) : Byt (xs.take n) := fun x hx => h x (List.mem_of_mem_take hx)
theorem byt_drop {xs : List Int} (h : Byt xs) (n : Nat) : Byt (xs.drop n) := fun x hx => h x (List.mem_of_mem_drop hx)
theorem byt_append {xs ys : List Int} (h : Byt xs) (h2 : Byt ys) : Byt (xs ++ ys) := fun x hx => (List.mem_append.1 hx).elim (h x) (h2 x)
theorem byt_sealed {e s p q : Int} {b : List Int} (h : okSeal e s p q b.length = true) (hb : Byt b) : Byt (sealed e s p q b) := by
  unfold okSeal okMark at h
  simp only [Bool.and_eq_true, decide_eq_true_eq] at h
  have h2 : Byt (e2 e) := by intro x hx; simp [e2] at hx; omega
  have h3 : Byt (s3 s) := by intro x hx; simp [s3] at hx; omega
  have h4 : Byt [p, q, (b.length : Int)] := by intro x hx; simp at hx; omega
  have h5 : Byt (List.replicate (19 - b.length) 0) := by intro x hx; rw [List.mem_replicate] at hx; omega
  exact byt_append (byt_append (byt_append (byt_append (byt_append h2 h3) h4) (byt_append hb h5)) h3) h2
theorem isSeal_eq {xs : List Int} (h : xs.length = 32) (h7 : xs.getD 7 0 ≤ 19) : isSeal xs = (okSeal (tE xs) (tS xs) (xs.getD 5 0) (xs.getD 6 0) (tB xs).length && decide (sealed (tE xs) (tS xs) (xs.getD 5 0) (xs.getD 6 0) (tB xs) = xs)) := by
  unfold isSeal
  rw [decide_eq_true ⟨h, h7⟩, Bool.true_and]
set_option maxHeartbeats 4000000 in
theorem open_go {w0 w : World} {R : Blks} (hO : Own w0 w R) (ad : Addr) (c : Nat) (xs : List Int) (hb : Rd w0 R (.slice (some ad) 32 c) xs) (hB : Byt xs) (h : xs.length = 32) (h7 : xs.getD 7 0 ≤ 19) :
    Calls Try.prog 43 #[.slice (some ad) 32 c] w (GotOpen w0 R (openR xs)) := by
  have hc32 : 32 ≤ c := by obtain ⟨A, n', c2, e, hn, hc, _⟩ := hb w [] hO; cases e; exact hc
  have hc2 : ¬ (c = 2) := by omega
  have hc8 : ¬ (c = 8) := by omega
  have hBB := Lib.hid hB
  have b0 := getD_byt hB 0
  have b1 := getD_byt hB 1
  have b2 := getD_byt hB 2
  have b3 := getD_byt hB 3
  have b4 := getD_byt hB 4
  have b5 := getD_byt hB 5
  have b6 := getD_byt hB 6
  have b7 := getD_byt hB 7
  have HO := Lib.hid hO; have HB := Lib.hid hb; have HX := Lib.hid h; clear hO hb h hB
  generalize hz : xs.getD 7 0 = z at h7 b7
  have HZ := Lib.hid hz; clear hz
  go_enter Try.func43, Try.ntmps43
  go_wp2_with (first | (refine wl_alloc rfl _ rfl HO.out _ (alloc_mark _) ?_; intro gm w1 hO1; have hc7 : w1.cell? ⟨ad.block, ad.off + 7, none⟩ = some (.int .u8 z) := (by rw [← HZ.out]; exact HB.out.at_ (L := [_]) hO1 6 (by rw [HX.out]; omega)); have HO1 := Lib.hid hO1; clear hO1 HO))
  refine wp_region_lin (fun w' => True) 6 [(0, true), (1, true), (3, true), (4, true), (2, false), (5, false)] (by kernel_rfl) (by kernel_rfl) (fun _ _ d _ _ h => by cases d <;> exact h) trivial ?_
  simp only [List.map_cons, List.map_nil, pick_zero, pick_succ, List.drop_succ_cons, List.drop_zero]
  iterate 4 (refine lin_q ?_ rfl ?_ ?_; rotate_left 1; (focus (rintro w' hq; go_simp; first | done | with_reducible rfl | (trace_state; fail))); simp only [Act.put, List.setIfInBounds_toArray, List.set_cons_zero, List.set_cons_succ])
  have HO2 := Lib.hid HO1.out.drew; clear HO1
  clear hc7
  generalize w1.drew = w2 at HO2
  refine lin_act ?_
  have hbs := HB.out.bsat (L := [_]) HO2.out
  have hcall := epochAt_c (w := w2) ad 32 c (by omega) (xs.getD 0 0) (xs.getD 1 0) (hbs 0 (by rw [HX.out]; omega)) (hbs 1 (by rw [HX.out]; omega)) b0.1 b0.2 b1.1 b1.2
  refine wl_call rfl _ _ _ (by go_simp) hcall ?_
  clear hcall hbs
  rintro e w3 ⟨rfl, m3, rfl⟩
  refine ⟨_, rfl, LinPost.mk trivial ?_⟩
  have HO3 := Lib.hid (HO2.out.drewN m3); clear HO2
  generalize w2.drewN m3 = w3 at HO3
  refine lin_act ?_
  have hbs := HB.out.bsat (L := [_]) HO3.out
  have hcall := seqAt_c (w := w3) ⟨ad.block, ad.off + 2, none⟩ 30 (c - 2) (by omega) (xs.getD 2 0) (xs.getD 3 0) (xs.getD 4 0) (hbs 2 (by rw [HX.out]; omega)) (hbs 3 (by rw [HX.out]; omega)) (hbs 4 (by rw [HX.out]; omega)) b2.1 b2.2 b3.1 b3.2 b4.1 b4.2
  refine wl_call rfl _ _ _ (by go_simp) hcall ?_
  clear hcall hbs
  rintro e w4 ⟨rfl, m4, rfl⟩
  refine ⟨_, rfl, LinPost.mk trivial ?_⟩
  have HO4 := Lib.hid (HO3.out.drewN m4); clear HO3
  generalize w3.drewN m4 = w4 at HO4
  simp only [Act.put, List.setIfInBounds_toArray, List.set_cons_zero, List.set_cons_succ]
  refine lin_nil ?_
  generalize hE : xs.getD 0 0 * 256 + xs.getD 1 0 = E
  generalize hS : xs.getD 2 0 * 65536 + xs.getD 3 0 * 256 + xs.getD 4 0 = S
  have HE := Lib.hid hE; have HS := Lib.hid hS; clear hE hS
  go_wp2_with (first | (refine wl_build rfl _ _ rfl _ (by exact build_mark2 E S _) ?_) | (refine wl_store rfl _ _ _ rfl HO4.out 0 gm 0 _ [Value.int .i64 E, Value.int .i64 S] _ rfl (by rfl) (by rfl) mark_size (one_2i _ _) (by simp) ?_; intro w5 hO5; have HO5 := Lib.hid hO5; clear hO5 HO4))
  have hc5 : w5.cell? ⟨ad.block, ad.off + 5, none⟩ = some (.int .u8 (xs.getD 5 0)) := HB.out.at_ (L := [_]) HO5.out 4 (by rw [HX.out]; omega)
  have hc6 : w5.cell? ⟨ad.block, ad.off + 6, none⟩ = some (.int .u8 (xs.getD 6 0)) := HB.out.at_ (L := [_]) HO5.out 5 (by rw [HX.out]; omega)
  generalize hp : xs.getD 5 0 = p at hc5 b5
  generalize hq : xs.getD 6 0 = q at hc6 b6
  have HP := Lib.hid hp; have HQ := Lib.hid hq; clear hp hq
  have hwp : IntKind.i64.wrap p = p := IntWalk.i64_in _ (by omega)
  have hwq : IntKind.i64.wrap q = q := IntWalk.i64_in _ (by omega)
  refine wp_region_lin (fun w' => w' = w5.drew) 10 [(0, true), (1, true), (2, true), (3, true), (4, true), (5, true), (6, true), (7, true), (8, true), (9, true)] (by kernel_rfl) (by kernel_rfl) (fun _ _ d _ _ h => by cases d <;> exact h) rfl ?_
  simp only [List.map_cons, List.map_nil, pick_zero, pick_succ, List.drop_succ_cons, List.drop_zero]
  simp only [Act.put]
  iterate 10 (refine lin_q ?_ rfl ?_ ?_; rotate_left 1; (focus (rintro w' rfl; go_simp; first | done | with_reducible rfl | (trace_state; fail))); simp only [Act.put, List.setIfInBounds_toArray, List.set_cons_zero, List.set_cons_succ])
  refine lin_nil ?_
  clear hwp hwq hc5 hc6
  have HO6 := Lib.hid HO5.out.drew; clear HO5
  generalize w5.drew = w6 at HO6
  have hc7 : w6.cell? ⟨ad.block, ad.off + 7, none⟩ = some (.int .u8 z) := by rw [← HZ.out]; exact HB.out.at_ (L := [_]) HO6.out 6 (by rw [HX.out]; omega)
  obtain ⟨k, rfl⟩ := Int.eq_ofNat_of_zero_le b7.1
  have hk : k ≤ 19 := by omega
  have hrd : Rd w0 ([(gm, Obj.cells [Value.int .i64 E, Value.int .i64 S].toArray 44)] ++ R) (.slice (some ⟨ad.block, ad.off + 8, none⟩) k (c - 8)) ((xs.drop 8).take k) := (HB.out.sub 8 k (c - 8) (by omega) (by omega)).more
  have HR := Lib.hid hrd; clear hrd
  have hbl : ((xs.drop 8).take k).length = k := by simp [HX.out]; omega
  have hbb : Byt ((xs.drop 8).take k) := byt_take (byt_drop hBB.out 8) k
  have htb : tB xs = (xs.drop 8).take k := by unfold tB; rw [HZ.out]; simp
  have HBL := Lib.hid hbl; have HBB := Lib.hid hbb; have HTB := Lib.hid htb; clear hbl hbb htb
  generalize (xs.drop 8).take k = bs at *
  go_wp2_with fail
  have hcall := cloneB_c (R := [(gm, Obj.cells [Value.int .i64 E, Value.int .i64 S].toArray 44)] ++ R) HO6.out ⟨ad.block, ad.off + 8, none⟩ k (c - 8) bs HR.out (by omega)
  with_reducible refine hcall.mono ?_
  clear hcall
  rintro en w7 ⟨vb, Lb, rfl, hvb, hO7⟩
  have hO7' : Own w0 w7 (Lb ++ ((gm, Obj.cells #[Value.int .i64 E, Value.int .i64 S] 44) :: R)) := hO7
  have hc0 : w7.cell? ⟨gm, 0, none⟩ = some (.int .i64 E) := hO7'.cell (List.mem_append_right _ (.head _)) 0
  have hc1 : w7.cell? ⟨gm, 1, none⟩ = some (.int .i64 S) := hO7'.cell (List.mem_append_right _ (.head _)) 1
  have HVB := Lib.hid hvb; have HO7 := Lib.hid hO7'; clear hvb hO7 hO7' HO6 hc7 HR
  obtain ⟨Ab, cb, rfl⟩ := HVB.out.val
  go_wp2_with fail
  have hcall := seal_c HO7.out E S p q (.slice Ab bs.length cb) bs (HVB.out.rd sub_here)
  with_reducible refine hcall.mono ?_
  clear hcall hc0 hc1
  rintro en w8 ⟨vs, Ls, rfl, hvs, hO8⟩
  have hsl := isSeal_eq HX.out (by rw [HZ.out]; exact h7)
  rw [HTB.out, show tE xs = E from HE.out, show tS xs = S from HS.out, HP.out, HQ.out] at hsl
  cases hk : okSeal E S p q bs.length
  · rw [hk, Bool.false_and] at hsl
    have HSL := Lib.hid hsl; clear hsl
    simp only [hk, Bool.false_eq_true, if_false] at hvs ⊢
    have hO9 : Own w0 w8 ((gm, Obj.cells [Value.int .i64 E, Value.int .i64 S].toArray 44) :: R) := hO8.right.right
    have HO9 := Lib.hid hO9; clear hO9 hO8 hvs HO7 hk
    go_wp2_with (first | (refine wl_build rfl _ _ rfl _ (by exact build_mark0 _) ?_) | (refine wl_store rfl _ _ _ rfl HO9.out 0 gm 0 _ [Value.int .i64 0, Value.int .i64 0] _ rfl (by rfl) (by rfl) mark_size (one_2i _ _) (by simp) ?_; intro w10 hO10; have HO10 := Lib.hid hO10; clear hO10 HO9))
    have hO2 : Own w0 w10 ((gm, .cells #[.int .i64 0, .int .i64 0] 44) :: R) := HO10.out
    have hc0 : w10.cell? ⟨gm, 0, none⟩ = some (.int .i64 0) := hO2.cell (.head _) 0
    have hc1 : w10.cell? ⟨gm, 1, none⟩ = some (.int .i64 0) := hO2.cell (.head _) 1
    exact bodyPost_ret (v := .tuple #[.agg #[.int .i64 0, .int .i64 0], .int .i64 0, .int .i64 0, .slice none 0 0, .int .i64 2]) (by simp [results, Try.results43, go_sem, hc0, hc1]) rfl (gotOpen_no HSL.out hO2.tail)
  · rw [hk, Bool.true_and] at hsl
    have HSL := Lib.hid hsl; clear hsl
    simp only [hk, if_true] at hvs ⊢
    have hbs : Byt (sealed E S p q bs) := byt_sealed hk HBB.out
    obtain ⟨As, cs, rfl⟩ := hvs.val
    have h1 := hvs.bs hO8
    have h2 : Bs w8 (.slice (some ad) 32 c) xs := HB.out w8 (Ls ++ (Lb ++ [_])) (by simpa using hO8)
    have heq := equal_c _ _ _ _ h1 h2 hbs hBB.out
    have HEQ := Lib.hid heq
    have HO8 := Lib.hid hO8
    clear hO8 hvs HO7 hbs h1 h2 heq hk
    cases hd : decide (sealed E S p q bs = xs)
    · rw [hd] at HSL HEQ
      clear hd
      go_wp2_with fail
      refine HEQ.out.mono ?_
      rintro en w9 ⟨rfl, rfl⟩
      have hO9 : Own w0 w8 ((gm, Obj.cells [Value.int .i64 E, Value.int .i64 S].toArray 44) :: R) := HO8.out.right.right
      have HO9 := Lib.hid hO9; clear hO9 HO8 HEQ
      go_wp2_with (first | (refine wl_build rfl _ _ rfl _ (by exact build_mark0 _) ?_) | (refine wl_store rfl _ _ _ rfl HO9.out 0 gm 0 _ [Value.int .i64 0, Value.int .i64 0] _ rfl (by rfl) (by rfl) mark_size (one_2i _ _) (by simp) ?_; intro w10 hO10; have HO10 := Lib.hid hO10; clear hO10 HO9))
      have hO2 : Own w0 w10 ((gm, .cells #[.int .i64 0, .int .i64 0] 44) :: R) := HO10.out
      have hc0 : w10.cell? ⟨gm, 0, none⟩ = some (.int .i64 0) := hO2.cell (.head _) 0
      have hc1 : w10.cell? ⟨gm, 1, none⟩ = some (.int .i64 0) := hO2.cell (.head _) 1
      exact bodyPost_ret (v := .tuple #[.agg #[.int .i64 0, .int .i64 0], .int .i64 0, .int .i64 0, .slice none 0 0, .int .i64 2]) (by simp [results, Try.results43, go_sem, hc0, hc1]) rfl (gotOpen_no HSL.out hO2.tail)
    · rw [hd] at HSL HEQ
      clear hd
      go_wp2_with fail
      refine HEQ.out.mono ?_
      rintro en w9 ⟨rfl, rfl⟩
      have hO9 : Own w0 w8 ((gm, Obj.cells [Value.int .i64 E, Value.int .i64 S].toArray 44) :: (Lb ++ R)) := Own.rot (A := Lb) (B := [_]) HO8.out.right
      have hc0 : w8.cell? ⟨gm, 0, none⟩ = some (.int .i64 E) := hO9.cell (.head _) 0
      have hc1 : w8.cell? ⟨gm, 1, none⟩ = some (.int .i64 S) := hO9.cell (.head _) 1
      have HO9 := Lib.hid hO9; clear hO9 HO8 HEQ
      go_wp2_with ((refine wl_store rfl _ _ _ rfl HO9.out 0 gm 0 _ [Value.int .i64 E, Value.int .i64 S] _ rfl (by rfl) (by rfl) mark_size (one_2i _ _) (by simp) ?_; intro w10 hO10; have HO10 := Lib.hid hO10; clear hO10 HO9))
      clear hc0 hc1
      have hO2 : Own w0 w10 ((gm, .cells #[.int .i64 E, .int .i64 S] 44) :: (Lb ++ R)) := HO10.out
      have hc0 : w10.cell? ⟨gm, 0, none⟩ = some (.int .i64 E) := hO2.cell (.head _) 0
      have hc1 : w10.cell? ⟨gm, 1, none⟩ = some (.int .i64 S) := hO2.cell (.head _) 1
      have hop : openR xs = ⟨E, S, p, q, bs, 0⟩ := by
        unfold openR
        rw [if_pos HSL.out, HTB.out, show tE xs = E from HE.out, show tS xs = S from HS.out, HP.out, HQ.out]
      refine bodyPost_ret (v := .tuple #[.agg #[.int .i64 E, .int .i64 S], .int .i64 p, .int .i64 q, .slice Ab bs.length cb, .int .i64 0]) (by simp [results, Try.results43, go_sem, hc0, hc1]) rfl ?_
      rw [hop]
      exact ⟨_, Lb, rfl, HVB.out, hO2.tail⟩
theorem open_c {w0 w : World} {R : Blks} (hO : Own w0 w R) (v : Value) (xs : List Int) (hb : Rd w0 R v xs) (hB : Byt xs) :
    Calls Try.prog 43 #[v] w (GotOpen w0 R (openR xs)) := by
  by_cases h : xs.length = 32
  · obtain ⟨A, n, c, rfl, hn, _, hA⟩ := hb w [] hO
    obtain ⟨ad, rfl, _⟩ := hA (by omega)
    obtain rfl : n = 32 := by omega
    by_cases h7 : xs.getD 7 0 ≤ 19
    · exact open_go hO ad c xs hb hB h h7
    · exact open_big hO ad c xs hb h (by omega)
  · exact open_len hO v xs hb h
end Go.Proofs.Ytdndkapfaiplnaa
