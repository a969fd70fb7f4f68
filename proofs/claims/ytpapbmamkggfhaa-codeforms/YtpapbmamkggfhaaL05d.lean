/-
  CodeForms: a few values by hand are encoded and decoded so; bytes that are none, for any number, are refused.
  Conditions: none but the statement's own.
-/
import Derived.Test.YtpapbmamkggfhaaL05a
import Derived.Deep.DeepCutAuto
import Derived.Stop.Asserts
namespace Go.Proofs.Ytpapbmamkggfhaa
set_option linter.unusedVariables false
set_option linter.unusedSimpArgs false
set_option maxRecDepth 20000
open Go.ChangeShapes Go.WideShapes Go.ChangeAt Go.RowKit
open Go.ChangeMaps (open_string shut_string)

theorem Own.new {w0 w : World} {L : Blks} (h : Own w0 w L) {n : Nat} (hn : w.heap.size = n) (o : Obj) : Own w0 (w.alloc o) ((n, o) :: L) ∧ (w.alloc o).heap.size = n + 1 := by
  subst hn
  exact ⟨h.alloc o, by simp⟩
def oA (vs : List AV) : Obj := .cells (vs.map AV.val).toArray 20
def oB (bs : List Int) : Obj := .cells (bv bs).toArray 5
def sl (g n : Nat) : Value := .slice (some ⟨g, 0, none⟩) n n
def fv2 : List AV := [.i 1]
def fv3 : List AV := [.i (-2)]
def fv4 : List AV := [.s ⟨#[97, 98]⟩, .s ⟨#[]⟩, .f false, .f true]
def fv5 : List AV := [.i 9223372036854775807]
def fb2 : List Int := [105, 0, 0, 0, 0, 0, 0, 0, 1]
def fb3 : List Int := [105, 255, 255, 255, 255, 255, 255, 255, 254]
def fb4 : List Int := [115, 2, 97, 98, 115, 0, 102, 116]
def fb5 : List Int := [105, 127, 255, 255, 255, 255, 255, 255, 255]
def ftab (n : Nat) : List Value := [.slice none 0 0, .slice none 0 0, sl n 1, sl (n + 1) 9, sl (n + 1 + 1) 1, sl (n + 1 + 1 + 1) 9, sl (n + 1 + 1 + 1 + 1) 4, sl (n + 1 + 1 + 1 + 1 + 1) 8, sl (n + 1 + 1 + 1 + 1 + 1 + 1) 1, sl (n + 1 + 1 + 1 + 1 + 1 + 1 + 1) 9]
/-- The table's blocks. -/
def ftbl (n : Nat) : Blks := [(n + 1 + 1 + 1 + 1 + 1 + 1 + 1 + 1, .cells (ftab n).toArray 24), (n + 1 + 1 + 1 + 1 + 1 + 1 + 1, oB fb5), (n + 1 + 1 + 1 + 1 + 1 + 1, oA fv5), (n + 1 + 1 + 1 + 1 + 1, oB fb4), (n + 1 + 1 + 1 + 1, oA fv4), (n + 1 + 1 + 1, oB fb3), (n + 1 + 1, oA fv3), (n + 1, oB fb2), (n, oA fv2)]
theorem ftbl_own (w : World) : Own w (((((((((w.alloc (oA fv2)).alloc (oB fb2)).alloc (oA fv3)).alloc (oB fb3)).alloc (oA fv4)).alloc (oB fb4)).alloc (oA fv5)).alloc (oB fb5)).alloc (.cells (ftab w.heap.size).toArray 24)) (ftbl w.heap.size) := by
  obtain ⟨h1, e1⟩ := (Own.start w).new rfl (oA fv2)
  obtain ⟨h2, e2⟩ := h1.new e1 (oB fb2)
  obtain ⟨h3, e3⟩ := h2.new e2 (oA fv3)
  obtain ⟨h4, e4⟩ := h3.new e3 (oB fb3)
  obtain ⟨h5, e5⟩ := h4.new e4 (oA fv4)
  obtain ⟨h6, e6⟩ := h5.new e5 (oB fb4)
  obtain ⟨h7, e7⟩ := h6.new e6 (oA fv5)
  obtain ⟨h8, e8⟩ := h7.new e7 (oB fb5)
  exact (h8.new e8 _).1
theorem rd_oB {w0 : World} {R : Blks} {g : Nat} (bs : List Int) (hm : (g, oB bs) ∈ R) : Rd w0 R (sl g bs.length) bs := by
  intro w' L' hO
  refine ⟨_, _, _, rfl, rfl, Nat.le_refl _, fun _ => ⟨_, rfl, fun j x hx => ?_⟩⟩
  rw [addr_add_zero, hO.cell (List.mem_append_right _ hm) j]
  simp [bv, hx]
theorem rdv_oA {w0 : World} {R : Blks} {g : Nat} (vs : List AV) (hm : (g, oA vs) ∈ R) : RdV w0 R (sl g vs.length) (vs.map AV.val) := rdv_new _ vs rfl vs.length (by simp) hm
theorem rdv_nil {w0 : World} {R : Blks} : RdV w0 R (.slice none 0 0) [] := fun w' L' hO => ⟨_, _, _, rfl, rfl, Nat.le_refl _, fun h => absurd h (by omega)⟩
/-- A row of the table. -/
structure FRow (w0 : World) (R : Blks) (n k : Nat) (A B : Option Addr) (vs : List AV) (bs : List Int) : Prop where
  cells : ((ftab n).drop (k * 2)).take 2 = [.slice A vs.length vs.length, .slice B bs.length bs.length]
  rdv : RdV w0 R (.slice A vs.length vs.length) (vs.map AV.val)
  rd : Rd w0 R (.slice B bs.length bs.length) bs
  enc : encL vs = some bs
  ok : ∀ a ∈ vs, a.Ok
  plain : ∀ a ∈ vs, a.plain
  len : vs.length ≤ 4
theorem ftbl_row {w0 : World} {R : Blks} {n k : Nat} (hk : k < 5) (hR : ∀ p ∈ ftbl n, p ∈ R) : ∃ A B vs bs, FRow w0 R n k A B vs bs := by
  have ok1 : ∀ x : Int, (Lit.int .i64 x).wf = true → ∀ a ∈ [AV.i x], a.Ok := by intro x hx a ha; rw [List.mem_singleton] at ha; subst ha; exact hx
  have pl1 : ∀ x : Int, ∀ a ∈ [AV.i x], a.plain := by intro x a ha; rw [List.mem_singleton] at ha; subst ha; trivial
  match k, hk with
  | 0, _ => exact ⟨none, none, [], [], rfl, rdv_nil, rd_nil _ _, rfl, by simp, by simp, by simp⟩
  | 1, _ => exact ⟨_, _, fv2, fb2, rfl, rdv_oA fv2 (hR _ (by simp [ftbl])), rd_oB fb2 (hR _ (by simp [ftbl])), by decide +kernel, ok1 _ (by decide), pl1 _, by decide⟩
  | 2, _ => exact ⟨_, _, fv3, fb3, rfl, rdv_oA fv3 (hR _ (by simp [ftbl])), rd_oB fb3 (hR _ (by simp [ftbl])), by decide +kernel, ok1 _ (by decide), pl1 _, by decide⟩
  | 3, _ =>
    refine ⟨_, _, fv4, fb4, rfl, rdv_oA fv4 (hR _ (by simp [ftbl])), rd_oB fb4 (hR _ (by simp [ftbl])), by decide +kernel, ?_, ?_, by decide⟩
    · intro a ha; simp only [fv4, List.mem_cons, List.not_mem_nil, or_false] at ha; rcases ha with rfl | rfl | rfl | rfl <;> trivial
    · intro a ha; simp only [fv4, List.mem_cons, List.not_mem_nil, or_false] at ha; rcases ha with rfl | rfl | rfl | rfl <;> trivial
  | 4, _ => exact ⟨_, _, fv5, fb5, rfl, rdv_oA fv5 (hR _ (by simp [ftbl])), rd_oB fb5 (hR _ (by simp [ftbl])), by decide +kernel, ok1 _ (by decide), pl1 _, by decide⟩
/-! ### the bytes that are none -/
def gb (k : Nat) : List Int := ([[120], [105], [105, 0, 0, 0, 0, 0, 0, 0], [115], [115, 1], [115, 3, 97, 98], [116, 121], [0], [102, 115, 255]] : List (List Int)).getD k []
def gtab (n : Nat) : List Value := [sl n 1, sl (n + 1) 1, sl (n + 1 + 1) 8, sl (n + 1 + 1 + 1) 1, sl (n + 1 + 1 + 1 + 1) 2, sl (n + 1 + 1 + 1 + 1 + 1) 4, sl (n + 1 + 1 + 1 + 1 + 1 + 1) 2, sl (n + 1 + 1 + 1 + 1 + 1 + 1 + 1) 1, sl (n + 1 + 1 + 1 + 1 + 1 + 1 + 1 + 1) 3]
def gtbl (n : Nat) : Blks := [(n + 1 + 1 + 1 + 1 + 1 + 1 + 1 + 1 + 1, .cells (gtab n).toArray 23), (n + 1 + 1 + 1 + 1 + 1 + 1 + 1 + 1, oB (gb 8)), (n + 1 + 1 + 1 + 1 + 1 + 1 + 1, oB (gb 7)), (n + 1 + 1 + 1 + 1 + 1 + 1, oB (gb 6)), (n + 1 + 1 + 1 + 1 + 1, oB (gb 5)), (n + 1 + 1 + 1 + 1, oB (gb 4)), (n + 1 + 1 + 1, oB (gb 3)), (n + 1 + 1, oB (gb 2)), (n + 1, oB (gb 1)), (n, oB (gb 0))]
theorem gtbl_own {w0 w : World} {R : Blks} (h0 : Own w0 w R) : Own w0 ((((((((((w.alloc (oB (gb 0))).alloc (oB (gb 1))).alloc (oB (gb 2))).alloc (oB (gb 3))).alloc (oB (gb 4))).alloc (oB (gb 5))).alloc (oB (gb 6))).alloc (oB (gb 7))).alloc (oB (gb 8))).alloc (.cells (gtab w.heap.size).toArray 23)) (gtbl w.heap.size ++ R) := by
  obtain ⟨h1, e1⟩ := h0.new rfl (oB (gb 0))
  obtain ⟨h2, e2⟩ := h1.new e1 (oB (gb 1))
  obtain ⟨h3, e3⟩ := h2.new e2 (oB (gb 2))
  obtain ⟨h4, e4⟩ := h3.new e3 (oB (gb 3))
  obtain ⟨h5, e5⟩ := h4.new e4 (oB (gb 4))
  obtain ⟨h6, e6⟩ := h5.new e5 (oB (gb 5))
  obtain ⟨h7, e7⟩ := h6.new e6 (oB (gb 6))
  obtain ⟨h8, e8⟩ := h7.new e7 (oB (gb 7))
  obtain ⟨h9, e9⟩ := h8.new e8 (oB (gb 8))
  exact (h9.new e9 _).1
theorem gtbl_row {w0 : World} {R : Blks} {n k : Nat} (hk : k < 9) (hR : ∀ p ∈ gtbl n, p ∈ R) : ∃ B, (gtab n)[k]? = some (.slice B (gb k).length (gb k).length) ∧ Rd w0 R (.slice B (gb k).length (gb k).length) (gb k) ∧ decL (gb k) = none ∧ Byt (gb k) ∧ (gb k).length ≤ 8 := by
  match k, hk with
  | 0, _ => exact ⟨_, rfl, rd_oB (gb 0) (hR _ (by simp [gtbl])), by first | rfl | decide +kernel, by intro x hx; simp [gb] at hx; omega, by decide⟩
  | 1, _ => exact ⟨_, rfl, rd_oB (gb 1) (hR _ (by simp [gtbl])), by first | rfl | decide +kernel, by intro x hx; simp [gb] at hx; omega, by decide⟩
  | 2, _ => exact ⟨_, rfl, rd_oB (gb 2) (hR _ (by simp [gtbl])), by first | rfl | decide +kernel, by intro x hx; simp [gb] at hx; omega, by decide⟩
  | 3, _ => exact ⟨_, rfl, rd_oB (gb 3) (hR _ (by simp [gtbl])), by first | rfl | decide +kernel, by intro x hx; simp [gb] at hx; omega, by decide⟩
  | 4, _ => exact ⟨_, rfl, rd_oB (gb 4) (hR _ (by simp [gtbl])), by first | rfl | decide +kernel, by intro x hx; simp [gb] at hx; omega, by decide⟩
  | 5, _ => exact ⟨_, rfl, rd_oB (gb 5) (hR _ (by simp [gtbl])), by first | rfl | decide +kernel, by intro x hx; simp [gb] at hx; omega, by decide⟩
  | 6, _ => exact ⟨_, rfl, rd_oB (gb 6) (hR _ (by simp [gtbl])), by first | rfl | decide +kernel, by intro x hx; simp [gb] at hx; omega, by decide⟩
  | 7, _ => exact ⟨_, rfl, rd_oB (gb 7) (hR _ (by simp [gtbl])), by first | rfl | decide +kernel, by intro x hx; simp [gb] at hx; omega, by decide⟩
  | 8, _ => exact ⟨_, rfl, rd_oB (gb 8) (hR _ (by simp [gtbl])), by first | rfl | decide +kernel, by intro x hx; simp [gb] at hx; omega, by decide⟩
theorem ne_same (W : World) {a : AV} (ha : a.plain) : (binOp .neq 20 a.val a.val).run Try.prog W = .ok (.bool false) W ∧ (eqGuard .neq 20 (.tmp 88) (.tmp 93) a.val a.val).run Try.prog W = .ok () W := by
  cases a with
  | z => exact ha.elim
  | o _ _ => exact ha.elim
  | i n =>
    have h : (binOp .neq 20 (AV.i n).val (AV.i n).val).run Try.prog W = .ok (.bool (!(n == n))) W := by kernel_rfl
    exact ⟨by rw [h]; simp, by kernel_rfl⟩
  | s n =>
    have h : (binOp .neq 20 (AV.s n).val (AV.s n).val).run Try.prog W = .ok (.bool (!(n == n))) W := by kernel_rfl
    have e : (n == n) = true := by
      obtain ⟨x⟩ := n
      have h : ((ByteArray.mk x == ByteArray.mk x) : Bool) = (x == x) := by first | rfl | simp [BEq.beq]
      rw [h, beq_iff_eq]
    exact ⟨by rw [h, e]; rfl, by kernel_rfl⟩
  | f n =>
    have h : (binOp .neq 20 (AV.f n).val (AV.f n).val).run Try.prog W = .ok (.bool (!(n == n))) W := by kernel_rfl
    exact ⟨by rw [h]; simp, by kernel_rfl⟩
theorem alloc_frow (w : World) : (Instr.alloc 24 true (.tuple #[])).run Try.prog w = .ok (.pointer (some ⟨w.heap.size, 0, none⟩)) (w.alloc (.cells [Value.slice none 0 0, Value.slice none 0 0].toArray 24)) := by kernel_rfl
theorem Rd.at_ {w0 w : World} {R R' : Blks} {v : Value} {xs : List Int} (h : Rd w0 R v xs) (hO : Own w0 w R') (hs : R.Sublist R') : Bs w v xs := h w [] (hO.sub hs)
theorem RdV.at_ {w0 w : World} {R R' : Blks} {v : Value} {xs : List Value} (h : RdV w0 R v xs) (hO : Own w0 w R') (hs : R.Sublist R') : Vs w v xs := h w [] (hO.sub hs)
theorem Rd.grow {w0 : World} {R R' : Blks} {v : Value} {xs : List Int} (h : Rd w0 R v xs) (hs : R.Sublist R') : Rd w0 R' v xs := fun w' L' hO => h w' [] (hO.right.sub hs)
theorem RdV.grow {w0 : World} {R R' : Blks} {v : Value} {xs : List Value} (h : RdV w0 R v xs) (hs : R.Sublist R') : RdV w0 R' v xs := fun w' L' hO => h w' [] (hO.right.sub hs)
theorem enc_str255 : ∃ bs, encL [.s (strOfNums (List.replicate 255 0))] = some bs := encL_some (by
  intro a ha; rw [List.mem_singleton] at ha; subst ha; simp only [enc1]; rw [if_pos (by rw [strOfNums_size, List.length_replicate]; omega)]; rfl)
theorem enc_str256 : encL [.s (strOfNums (List.replicate 256 0))] = none := encL_none (.head _) (by
  simp only [enc1]; rw [if_neg (by rw [strOfNums_size, List.length_replicate]; omega)])
set_option maxHeartbeats 20000000 in
theorem codeForms_walk (a0 : Int) (_ : (Lit.int .i64 a0).wf = true) (w : World) :
    Calls Try.prog 3 #[.int .i64 a0] w (Yes w) := by
  go_enter Try.func3, Try.ntmps3
  go_wp2
  go_loopw [43] (fun t w' => ∃ k : Nat, k ≤ 5 ∧ t = .int .i64 (k : Int) ∧ Hid (Own w w' (ftbl w.heap.size))) (fun t _ => 5 - (intOf t).toNat)
  case atStart => exact ⟨0, by omega, rfl, ftbl_own w⟩
  case round =>
    obtain ⟨k, hk, rfl, HT⟩ := hrel
    by_cases hlt : k < 5
    · obtain ⟨A, B, vs, bs, hrow⟩ := ftbl_row (w0 := w) (R := ftbl w.heap.size) hlt (fun p hp => hp)
      have hcs := hrow.cells; have hrv := hrow.rdv; have hrb := hrow.rd; have hen := hrow.enc; have hok := hrow.ok; have hpl := hrow.plain; have hl4 := hrow.len
      have hbl := encL_len hen; have hby := encL_byt hen
      have hdec := decL_encL hen hok
      clear hrow
      generalize hN : vs.length = N at *
      generalize hM : bs.length = M at *
      have HCS := Lib.hid hcs; have HRV := Lib.hid hrv; have HRB := Lib.hid hrb; have HEN := Lib.hid hen; have HOK := Lib.hid hok; have HPL := Lib.hid hpl; have HDEC := Lib.hid hdec; have HBY := Lib.hid hby
      have HN := Lib.hid hN; have HM := Lib.hid hM
      have hbm : M ≤ 2000 := by omega
      clear hcs hrv hrb hen hok hpl hdec hby hN hM hbl
      have hk5 : (k : Int) < 5 := by omega
      have hnn : ((N : Int) != N) = false := by simp
      go_wp2_with (first | (refine wl_load rfl _ _ rfl _ (k * 2) (ftab w.heap.size) [.slice A N N, .slice B M M] _ (HT.out.heap (.head _)) (by rfl) _ Try.underlying24 rfl (by kernel_rfl) HCS.out ?_) | (refine wl_alloc rfl _ rfl HT.out _ (alloc_frow _) ?_; intro g4 w4 hO4; have HO4 := Lib.hid hO4; clear hO4 HT) | (refine wl_store rfl _ _ _ rfl HO4.out 0 g4 0 _ [.slice A N N, .slice B M M] _ rfl (by rfl) (by rfl) (by kernel_rfl) (by simp [Value.oneCell']) (by simp) ?_; intro w5 hO5'; have hO5 : Own w w5 ((g4, .cells #[.slice A N N, .slice B M M] 24) :: ftbl w.heap.size) := hO5'; have hc0 : w5.cell? ⟨g4, 0, none⟩ = some (.slice A N N) := hO5.cell (.head _) 0; have HO5 := Lib.hid hO5; clear hO5 hO5' HO4))
      have hcall := encode_c HO5.out (HRV.out.grow (List.sublist_cons_self _ _)) HOK.out (by rw [HN.out]; omega)
      rw [HEN.out] at hcall
      with_reducible refine hcall.mono ?_
      clear hcall hc0
      rintro e w6 (⟨bs', v6, L6, ho, rfl, hv, hO6⟩ | ⟨ho, _⟩)
      rotate_left
      · cases ho
      cases ho
      simp only []
      have HV6 := Lib.hid hv; have HO6 := Lib.hid hO6
      have hc1 : w6.cell? ⟨g4, 1, none⟩ = some (.slice B M M) := hO6.right.cell (.head _) 1
      clear hv hO6 HO5
      go_wp2_with fail
      have hcall := decode_c HO6.out (HRB.out.grow (sub_there (List.sublist_cons_self _ _))) HBY.out (by rw [HM.out]; omega)
      rw [HDEC.out] at hcall
      with_reducible refine hcall.mono ?_
      clear hcall hc1
      rintro e w7 (⟨us, v7, L7, ho, -, rfl, hv, hO7⟩ | ⟨ho, _⟩)
      rotate_left
      · cases ho
      cases ho
      simp only []
      have HV7 := Lib.hid hv; have HO7 := Lib.hid hO7
      have hc1 : w7.cell? ⟨g4, 1, none⟩ = some (.slice B M M) := hO7.right.right.cell (.head _) 1
      clear hv hO7 HO6
      obtain ⟨A7, c7, hv7⟩ := HV7.out.val
      rw [HN.out] at hv7
      subst hv7
      go_wp2_with fail
      have hcall := same_c (w := w7) v6 (.slice B M M) bs bs (HV6.out.bs_sub HO7.out (sub_there sub_here)) (HRB.out.at_ HO7.out (sub_there (sub_there (List.sublist_cons_self _ _)))) (by rw [HM.out]; omega)
      rw [decide_eq_true rfl] at hcall
      with_reducible refine hcall.mono ?_
      clear hcall hc1
      rintro e w8 ⟨rfl, q, rfl⟩
      have hO8 := HO7.out.drewN q
      have hc0 : (w7.drewN q).cell? ⟨g4, 0, none⟩ = some (.slice A N N) := hO8.right.right.cell (.head _) 0
      have HO8 := Lib.hid hO8
      clear hO8 HO7
      generalize w7.drewN q = w8 at *
      go_wp2
      clear hc0
      go_loopw [82] (fun t w' => ∃ j : Nat, j ≤ N ∧ t = .int .i64 (j : Int) ∧ Hid (Own w w' (L7 ++ (L6 ++ ((g4, .cells #[.slice A N N, .slice B M M] 24) :: ftbl w.heap.size))))) (fun t _ => N - (intOf t).toNat)
      case atStart => exact ⟨0, by omega, rfl, HO8.out⟩
      case round =>
        obtain ⟨j, hj, rfl, HW⟩ := hrel
        clear HO8
        by_cases hjn : j < N
        · have hjv : j < vs.length := by rw [HN.out]; exact hjn
          obtain ⟨A', n', c', e, hn', hc', hA⟩ := HV7.out.vs HW.out
          simp only [Value.slice.injEq] at e
          obtain ⟨rfl, rfl, rfl⟩ := e
          obtain ⟨ad, rfl, hcell⟩ := hA (by omega)
          have hca := hcell j vs[j].val (by rw [List.getElem?_map, List.getElem?_eq_getElem hjv]; rfl)
          clear hcell hA hn' hc'
          obtain ⟨A', n', c', e, hn', hc', hA⟩ := HRV.out.at_ HW.out (sub_there (sub_there (List.sublist_cons_self _ _)))
          simp only [Value.slice.injEq] at e
          obtain ⟨rfl, rfl, rfl⟩ := e
          obtain ⟨bd, rfl, hcell⟩ := hA (by omega)
          have hcb := hcell j vs[j].val (by rw [List.getElem?_map, List.getElem?_eq_getElem hjv]; rfl)
          clear hcell hA hn' hc'
          have hc0 : wr.cell? ⟨g4, 0, none⟩ = some (.slice (some bd) N N) := HW.out.right.right.cell (.head _) 0
          obtain ⟨hrun, hrun2⟩ := ne_same wr.drew (HPL.out _ (List.getElem_mem hjv))
          generalize vs[j].val = xa at *
          have hja : (j : Int) < N := by omega
          clear hjv
          go_wp2
          refine wp_region_lin (fun w' => w' = wr.drew) 10 [(0, true), (1, true), (2, true), (3, true), (4, true), (5, true), (6, true), (7, true), (8, true), (9, true)] (by kernel_rfl) (by kernel_rfl) (fun _ _ d _ _ h => by cases d <;> exact h) rfl ?_
          simp only [List.map_cons, List.map_nil, pick_zero, pick_succ, List.drop_succ_cons, List.drop_zero]
          iterate 9 (refine lin_q ?_ rfl ?_ ?_; rotate_left 1; (focus (rintro w' rfl; go_simp; try with_reducible rfl)); simp only [Act.put, List.setIfInBounds_toArray, List.set_cons_zero, List.set_cons_succ])
          refine lin_q (.bool false) rfl ?_ ?_
          · rintro w' rfl
            simp [execOp, Act.eval, hrun, hrun2]
          simp only [Act.put, List.setIfInBounds_toArray, List.set_cons_zero, List.set_cons_succ]
          refine lin_nil ?_
          go_wp2
          go_roundw
          case rel => exact ⟨j + 1, by omega, by go_num, HW.out.drew⟩
          case measure => simp [intOf]; omega
        · obtain rfl : j = N := by omega
          go_wp2
          go_roundw
          case rel => exact ⟨k + 1, by omega, by go_num, HW.out.right.right.tail⟩
          case measure => simp [intOf]; omega
    · obtain rfl : k = 5 := by omega
      go_wp2_with fail
      with_reducible refine (within_n a0 9 (by omega) (by omega)).mono ?_
      rintro e w1 ⟨rfl, hw1⟩
      have hr9 : (a0 % 9).toNat < 9 := by omega
      generalize (a0 % 9).toNat = r at *
      have hO1 : Own w w1 (gtbl wr.heap.size ++ ftbl w.heap.size) := by rw [← hw1]; exact gtbl_own HT.out
      clear hw1 HT
      obtain ⟨B, hgr, hrd, hdn, hgb, hgl⟩ := gtbl_row (w0 := w) (R := gtbl wr.heap.size ++ ftbl w.heap.size) hr9 (fun p hp => List.mem_append_left _ hp)
      have hc : w1.cell? ⟨wr.heap.size + 1 + 1 + 1 + 1 + 1 + 1 + 1 + 1 + 1, r, none⟩ = some (.slice B (gb r).length (gb r).length) := by
        have := hO1.cell (.head _) r
        rw [this, List.getElem?_toArray, hgr]
      have hcall := decode_c hO1 hrd hgb (by omega)
      rw [hdn] at hcall
      have HCALL := Lib.hid hcall
      clear hcall hgr hrd hdn hgb hO1
      generalize (gb r).length = gl at *
      have hr9' : (r : Int) < 9 := by omega
      go_wp2_with fail
      with_reducible refine HCALL.out.mono ?_
      clear HCALL hc
      rintro e w2 (⟨us, v7, L7, ho, -, rfl, hv, hO7⟩ | ⟨-, rfl, hO2⟩)
      · cases ho
      simp only []
      have HO2 := Lib.hid hO2; clear hO2
      have hmk := make_bytes 255 (by omega)
      obtain ⟨b255, hb255⟩ := enc_str255
      have HB255 := Lib.hid hb255; clear hb255
      go_wp2_with (first | (refine wl_makeSlice rfl _ _ _ rfl HO2.out _ 255 255 (by exact hmk _) ?_; intro g3 w3 hO3; have HO3 := Lib.hid hO3; clear hO3 HO2 hmk) | (refine wl_str rfl _ rfl (.slice (some ⟨g3, 0, none⟩) 255 255) (List.replicate 255 0) (by rfl) (bs_mid (L := []) (by simp) HO3.out) ?_; generalize strOfNums (List.replicate 255 0) = s255 at *))
      have hcall := encode_new HO3.out [.iface 9 (.string s255)] [.s s255] rfl 1 rfl (by omega) (by intro a ha; rw [List.mem_singleton] at ha; subst ha; trivial)
      rw [HB255.out] at hcall
      with_reducible refine hcall.mono ?_
      clear hcall HB255
      rintro e w4 (⟨bs', v4, L4, ho, rfl, hv, hO4⟩ | ⟨ho, _⟩)
      rotate_left
      · cases ho
      clear ho hv
      simp only []
      have HO4 := Lib.hid hO4.right.tail; clear hO4 HO3
      have hmk := make_bytes 256 (by omega)
      have HB256 := Lib.hid enc_str256
      go_wp2_with (first | (refine wl_makeSlice rfl _ _ _ rfl HO4.out _ 256 256 (by exact hmk _) ?_; intro g5 w5 hO5; have HO5 := Lib.hid hO5; clear hO5 HO4 hmk) | (refine wl_str rfl _ rfl (.slice (some ⟨g5, 0, none⟩) 256 256) (List.replicate 256 0) (by rfl) (bs_mid (L := []) (by simp) HO5.out) ?_; generalize strOfNums (List.replicate 256 0) = s256 at *))
      have hcall := encode_new HO5.out [.iface 9 (.string s256)] [.s s256] rfl 1 rfl (by omega) (by intro a ha; rw [List.mem_singleton] at ha; subst ha; trivial)
      rw [HB256.out] at hcall
      with_reducible refine hcall.mono ?_
      clear hcall
      rintro e w6 (⟨bs', v6, L6, ho, -, -, -⟩ | ⟨-, rfl, hO6⟩)
      · cases ho
      simp only []
      have HO6 := Lib.hid hO6.tail; clear hO6 HO5
      go_wp2_with fail
      have hcall := encode_new HO6.out [.iface 3 (.int .i64 1), .nilIface] [.i 1, .z] rfl 2 rfl (by omega) (by intro a ha; simp only [List.mem_cons, List.not_mem_nil, or_false] at ha; rcases ha with rfl | rfl; (show (Lit.int .i64 1).wf = true; decide); trivial)
      with_reducible refine hcall.mono ?_
      clear hcall
      rintro e w8 (⟨bs', v6, L6, ho, -, -, -⟩ | ⟨-, rfl, hO8⟩)
      · cases ho
      simp only []
      have HO8 := Lib.hid hO8; clear hO8 HO6
      go_wp2_with fail
      have hcall := encode_new HO8.out [.iface 34 (.int .u64 1)] [.o 34 (.int .u64 1)] rfl 1 rfl (by omega) (by intro a ha; rw [List.mem_singleton] at ha; subst ha; exact ⟨by decide, by decide, by decide⟩)
      with_reducible refine hcall.mono ?_
      clear hcall
      rintro e w9 (⟨bs', v6, L6, ho, -, -, -⟩ | ⟨-, rfl, hO9⟩)
      · cases ho
      simp only []
      have HO9 := Lib.hid hO9; clear hO9 HO8
      go_wp2_with fail
      with_reducible refine (wakes5_c HO9.out).mono ?_
      rintro e w10 ⟨rfl, hO10⟩
      have HO10 := Lib.hid hO10; clear hO10 HO9
      go_wp2
      go_ret
      exact HO10.out.yes rfl
set_option maxRecDepth 100000 in
theorem codeForms_lifted (os : Os) (started : os.Started) (H : Type) (enc : TypeId × Value → H) :
    ReturnsInHanded {} Try.checked os 3 .any (Rows.codeFormsSpec.pre6 enc Try.prog Try.f3 Rows.codeFormsRow.domain false) (Rows.codeFormsSpec.post enc Try.prog Try.f3 false true false false) := by
  refine returnsInHanded_of_change (C := Try.checked) (by kernel_rfl) started (by kernel_rfl) Try.func3
    (ChangeSpec.witness6 (enc := enc) (C := Try.checked) false ⟨#[], #[.int .i64 0], []⟩ 8 (by kernel_rfl) (by kernel_rfl) (by kernel_rfl) (by kernel_rfl)) ?_
  intro W base args ds gs before hval0 hW hcnd _
  have hval : ∀ (j : Nat) t v, Try.f3.params[j]? = some t → args[j]? = some v → Value.okWide Try.prog W .any base t v := hval0
  have hW' := hW
  obtain ⟨p, q, hA0, hV, rfl, hfz, hnd⟩ := hW
  have hA : DataW.TrodAll enc Try.prog W 0 (fun _ => true) true Try.f3.params.toList args.toList ds p := hA0
  rw [Try.params3] at hA hval
  obtain ⟨v0, vs0, d0, ds0, p0, q0, hargs, rfl, rfl, h0, r0⟩ := trodAll_cons hA
  obtain ⟨rfl, rfl, rfl⟩ := trodAll_nil r0
  obtain rfl : args = #[v0] := by cases args; simp_all
  obtain ⟨rfl, rfl⟩ := trodVars_none hV
  obtain ⟨a0, rfl, rfl, rfl, w0⟩ := open_int Try.underlying3 (hval 0 3 v0 rfl rfl) h0
  clear hA0 hval0
  refine (codeForms_walk a0 w0 W).mono fun e W' ⟨he, bel⟩ => ?_
  subst he
  exact ⟨_, rfl, _, _, _, [], _, [], hW', trodAll_mk1 (shut_bool Try.underlying4 _), (trodAll_cons_mk (shut_int Try.underlying3 w0) trodAll_mk0), rfl, bel.frame _, fun h => by cases h⟩

/-- The statement. -/
theorem codeForms_proved : Rows.CodeFormsSaid :=
  OpenClaim.holds_of_wide 3 Try.f3 rfl rfl rfl rfl rfl rfl rfl ⟨rfl, rfl, rfl, rfl, rfl⟩ rfl rfl rfl rfl rfl (by kernel_rfl) Try.func3 (by kernel_rfl)
    (of_decide_eq_true (by kernel_rfl)) (by unfold Func.isWrapper; first | (rw [if_pos (by decide +kernel)]; kernel_rfl) | (rw [if_neg (by decide +kernel)]; exact ⟨rfl, rfl⟩))
    (fun os started H enc _ => codeForms_lifted os started H enc)
end Go.Proofs.Ytpapbmamkggfhaa

