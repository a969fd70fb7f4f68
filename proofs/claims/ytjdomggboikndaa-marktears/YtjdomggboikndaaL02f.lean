/-
  MarkTears: whatever the lists and the bytes: sectors sealed under unlike marks, each kept whole, by its first half, or not at all, over zeros and over one another: what stands there is one of them, or none: the law returns true.
-/
import Derived.Test.YtjdomggboikndaaL02a
import Derived.Test.YtjdomggboikndaaTear2
import Derived.Test.YtjdomggboikndaaTree
import Derived.Deep.DeepCutAuto
namespace Go.Proofs.Ytjdomggboikndaa
set_option linter.unusedVariables false
set_option linter.unusedSimpArgs false
open Go.ChangeShapes Go.WideShapes Go.ChangeAt Go.RowKit
open Go.ChangeMaps (open_string shut_string)
open Go.Maps (Keyed)

def markV (e s : Int) : Value := .agg #[.int .i64 e, .int .i64 s]
structure TS (w : World) (gh : Nat) (s10 s11 : Value) (i : Nat) (now : List Int) (ss : List Sec) (vals : List Value) (es : Array MapEntry) (clock : Nat) (Ln Lm Ls : Blks) : Prop where
  torn : Torn now ss
  now : IsBytes s10 now Ln
  vl : vals.length = ss.length
  sl : ss.length ≤ i
  row : IsRow 27 1 s11 vals.length vals Lm
  vs : ∀ (j : Nat) (x : Sec), ss[j]? = some x → ∃ (A : Option Addr) (c : Nat), vals[j]? = some (Value.slice A 32 c) ∧ Rd w Ls (Value.slice A 32 c) x.bytes
  one : ∀ v ∈ vals, v.oneCell' = true
  good : GoodMap Try.prog 44 es clock
  has : ∀ k v, Has es k v ↔ v = .bool true ∧ ∃ x ∈ ss, k = markV x.e x.s
def TState (w : World) (gh : Nat) (s10 s11 : Value) (i : Nat) (wx : World) : Prop :=
  ∃ (now : List Int) (ss : List Sec) (vals : List Value) (es : Array MapEntry) (clock : Nat) (Ln Lm Ls : Blks), TS w gh s10 s11 i now ss vals es clock Ln Lm Ls ∧ Own w wx ((gh, .map es clock) :: (Ln ++ (Lm ++ Ls)))
def MidM (w : World) (E S : Int) (B : Blks) (s14 : Value) (wx : World) : Prop := ∃ gm, s14 = .pointer (some ⟨gm, 0, none⟩) ∧ Own w wx ((gm, .cells #[.int .i64 E, .int .i64 S] 44) :: B)
def MidN (w : World) (ys : List Int) (B : Blks) (s10 : Value) (wx : World) : Prop := ∃ L, IsBytes s10 ys L ∧ Own w wx (L ++ B)
theorem isBytes_frm2 {v : Value} {xs : List Int} {L : Blks} (h : IsBytes v xs L) : ∃ A n c, v = .slice A n c ∧ n = xs.length ∧ n ≤ c := by
  rcases h.2 with ⟨rfl, h0, _⟩ | ⟨g, cap, sp, rfl, _, _, hn, _⟩
  · exact ⟨_, _, _, rfl, h0.symm, Nat.le_refl _⟩
  · exact ⟨_, _, _, rfl, rfl, hn⟩
theorem Own.rot3x {w0 w : World} {a b : Nat × Obj} {B C R : Blks} (h : Own w0 w (a :: b :: (B ++ (C ++ R)))) : Own w0 w (C ++ (a :: b :: (B ++ R))) := Own.rot3 (A := [a, b]) h
theorem run_front (A : Option Addr) (n c k : Nat) (h : k ≤ c) (w : World) : (Instr.slice 27 (.slice A n c) none (some (.int .i64 (k : Int))) none).run Try.prog w = .ok (.slice A k c) w := by
  have h1 : (k : Int) ≤ c := by omega
  cases A <;> go_simp
theorem vs_one {w0 w : World} {L : Blks} {g : Nat} {v : Value} {t : TypeId} (hO : Own w0 w L) (hm : (g, Obj.cells [v].toArray t) ∈ L) : Vs w (.slice (some ⟨g, 0, none⟩) 1 1) [v] :=
  ⟨_, _, _, rfl, rfl, Nat.le_refl _, fun _ => ⟨_, rfl, fun j u hu => by rw [addr_add_zero, hO.cell hm j]; simpa using hu⟩⟩
theorem bs_empty (w : World) (A : Option Addr) (c : Nat) : Bs w (.slice A 0 c) [] := ⟨_, _, _, rfl, rfl, Nat.zero_le _, fun h => absurd h (by omega)⟩
theorem row_some {e : TypeId} {v : Value} {n : Nat} {xs : List Value} {L : Blks} (h : IsRow e 1 v n xs L) (hn : 0 < n) : ∃ g cap sp, v = .slice (some ⟨g, 0, none⟩) n cap ∧ L = [(g, .cells (List.toArray (xs ++ sp)) e)] := by
  rcases h.2 with ⟨_, h0, _⟩ | ⟨g, cap, sp, rfl, rfl, _⟩
  · omega
  · exact ⟨g, cap, sp, rfl, rfl⟩
def SomeR (w : World) (e : Ending) (w' : World) : Prop := ∃ r : Nat, r ≤ 2 ∧ e = .returned (.int .i64 (r : Int)) ∧ w = w'
theorem within_r3 {w : World} (v : Int) : Calls Try.prog 9 #[.int .i64 v, .int .i64 3] w (SomeR w) :=
  (within_n v 3 (by omega) (by omega)).mono fun e w' ⟨h1, h2⟩ => ⟨_, by omega, h1, h2⟩
theorem Own.fin {w0 w : World} {A B C D X R : Blks} (h : Own w0 w (A ++ (B ++ (C ++ (D ++ (X ++ R)))))) : Own w0 w (D ++ (A ++ (B ++ (C ++ R)))) :=
  (Own.rot4 h).sub ((((List.sublist_append_right X R).append_left C).append_left B).append_left A |>.append_left D)
def anyB (now : List Int) (ss : List Sec) (j : Nat) : Bool := (ss.take j).any fun x => decide (now = x.bytes)
theorem anyB_succ (now : List Int) (ss : List Sec) (j : Nat) (x : Sec) (h : ss[j]? = some x) : anyB now ss (j + 1) = (anyB now ss j || decide (now = x.bytes)) := by
  unfold anyB
  obtain ⟨hj, rfl⟩ := List.getElem?_eq_some_iff.1 h
  rw [List.take_succ_eq_append_getElem hj, List.any_append]
  simp only [List.any_cons, List.any_nil, Bool.or_false]
theorem anyB_all {now : List Int} {ss : List Sec} {x : Sec} (hx : x ∈ ss) (h : now = x.bytes) : anyB now ss ss.length = true := by
  unfold anyB
  rw [List.take_length, List.any_eq_true]
  exact ⟨x, hx, by simp [h]⟩
theorem slice_info : (Try.prog.info? 27).map (fun i => (i.zero, i.size, i.bytes)) = some (some (.slice none 0 0), 1, 24) := by kernel_rfl
theorem build_s1 (A : Option Addr) (n c : Nat) (w : World) : (Instr.buildSlice 28 1 #[(0, .slice A n c)]).run Try.prog w = .ok (.slice (some ⟨w.heap.size, 0, none⟩) 1 1) (w.alloc (.cells [Value.slice A n c].toArray 27)) := by kernel_rfl
theorem TS.more {w : World} {gh : Nat} {s10 s11 : Value} {i j : Nat} {now : List Int} {ss : List Sec} {vals : List Value} {es : Array MapEntry} {clock : Nat} {Ln Lm Ls : Blks} (h : TS w gh s10 s11 i now ss vals es clock Ln Lm Ls) (hj : i ≤ j) : TS w gh s10 s11 j now ss vals es clock Ln Lm Ls :=
  ⟨h.torn, h.now, h.vl, by have := h.sl; omega, h.row, h.vs, h.one, h.good, h.has⟩
theorem markV_inj {e s e' s' : Int} (h : markV e s = markV e' s') : e = e' ∧ s = s' := by
  unfold markV at h
  injection h with h
  simp at h
  exact h
theorem TS.next {w : World} {gh : Nat} {s10 s11 s10' s11' : Value} {i : Nat} {now : List Int} {ss : List Sec} {vals : List Value} {es es' : Array MapEntry} {clock clock' : Nat} {Ln Lm Ls Ln' Lm' Lv : Blks} (h : TS w gh s10 s11 i now ss vals es clock Ln Lm Ls)
    (x : Sec) (hx : x.Ok) (hn : ∀ y ∈ ss, ¬ (x.e = y.e ∧ x.s = y.s)) (c : Nat) (hc : c = 0 ∨ c = 16 ∨ c = 32) (hnow : IsBytes s10' (x.bytes.take c ++ now.drop c) Ln') (A : Option Addr) (cc : Nat)
    (hrow : IsRow 27 1 s11' (vals.length + 1) (vals ++ [.slice A 32 cc]) Lm') (hrd : Rd w (Lv ++ Ls) (.slice A 32 cc) x.bytes) (hG : GoodMap Try.prog 44 es' clock')
    (hH : ∀ k v, Has es' k v ↔ (k = markV x.e x.s ∧ v = .bool true) ∨ (k ≠ markV x.e x.s ∧ Has es k v)) :
    TS w gh s10' s11' (i + 1) (x.bytes.take c ++ now.drop c) (ss ++ [x]) (vals ++ [.slice A 32 cc]) es' clock' Ln' Lm' (Lv ++ Ls) where
  torn := h.torn.next x hx hn c hc
  now := hnow
  vl := by simp [h.vl]
  sl := by simp; exact h.sl
  row := by simpa using hrow
  vs := by
    intro j y hy
    by_cases hj : j < ss.length
    · rw [List.getElem?_append_left hj] at hy
      obtain ⟨A', c', h1, h2⟩ := h.vs j y hy
      exact ⟨A', c', by rw [List.getElem?_append_left (by rw [h.vl]; exact hj)]; exact h1, h2.more⟩
    · rw [List.getElem?_append_right (by omega)] at hy
      have : j - ss.length = 0 := by
        have := (List.getElem?_eq_some_iff.1 hy).1; simp at this; omega
      rw [this] at hy
      simp at hy
      subst hy
      exact ⟨A, cc, by rw [List.getElem?_append_right (by rw [h.vl]; omega), h.vl, this]; rfl, hrd⟩
  one := by
    intro v hv
    rcases List.mem_append.1 hv with hv | hv
    · exact h.one v hv
    · rw [List.mem_singleton.1 hv]; rfl
  good := hG
  has := by
    intro k v
    rw [hH k v, h.has k v]
    constructor
    · rintro (⟨rfl, rfl⟩ | ⟨_, rfl, y, hy, rfl⟩)
      · exact ⟨rfl, x, by simp, rfl⟩
      · exact ⟨rfl, y, List.mem_append_left _ hy, rfl⟩
    · rintro ⟨rfl, y, hy, rfl⟩
      rcases List.mem_append.1 hy with hy | hy
      · refine .inr ⟨fun e => ?_, rfl, y, hy, rfl⟩
        have := markV_inj e
        exact hn y hy ⟨this.1.symm, this.2.symm⟩
      · rw [List.mem_singleton.1 hy]; exact .inl ⟨rfl, rfl⟩
theorem InRow.ints {w : World} {v : Value} {xs : List Int} (h : InRow .i64 w v xs) : ∃ A n c, v = .slice A n c ∧ xs.length = n ∧ ∀ i (hi : i < n), ∃ ad, A = some ad ∧ ∀ wx L, Own w wx L → wx.cell? (ad.add i) = some (.int .i64 (xs.getD i 0)) := by
  obtain ⟨A, n, c, rfl, hn, hc, _, _, hA⟩ := h
  refine ⟨A, n, c, rfl, hn, fun i hi => ?_⟩
  obtain ⟨ad, rfl, hb, hcell⟩ := hA (by omega)
  refine ⟨ad, rfl, fun wx L hO => ?_⟩
  rw [hO.below.cell (by rw [block_of_add]; exact hb)]
  exact hcell i _ (by simp [List.getD, show i < xs.length by omega])
set_option maxRecDepth 100000 in
set_option maxHeartbeats 8000000 in
theorem markTears_walk {w : World} (v0 : Value) (a0 : List Int) (h0 : InRow .i64 w v0 a0) (v1 : Value) (a1 : List Int) (h1 : InRow .i64 w v1 a1) (v2 : Value) (a2 : List Int) (h2 : InRow .i64 w v2 a2) (v3 : Value) (a3 : List Int) (h3 : InRow .u8 w v3 a3) :
    Calls Try.prog 8 #[v0, v1, v2, v3] w (Yes w) := by
  obtain ⟨A0, n0, c0, rfl, hl0, hr0⟩ := h0.ints
  obtain ⟨A1, n1, c1, rfl, hl1, hr1⟩ := h1.ints
  obtain ⟨A2, n2, c2, rfl, hl2, hr2⟩ := h2.ints
  have HR0 := Lib.hid hr0; have HR1 := Lib.hid hr1; have HR2 := Lib.hid hr2; have HB3 := Lib.hid h3
  clear h0 h1 h2 h3 hl0 hl1 hl2 hr0 hr1 hr2
  have HO := Lib.hid (Own.start w)
  have hmk := make_bytes 32 (by omega)
  have hmk' : ∀ w, (Instr.makeSlice 27 (.int .i64 32) (.int .i64 32)).run Try.prog w =
    .ok (.slice (some ⟨w.heap.size, 0, none⟩) 32 32) (w.alloc (.cells (bv (List.replicate 32 0)).toArray 5)) := hmk
  clear hmk
  go_enter Try.func8, Try.ntmps8
  go_wp2_with (first | (refine wl_makeSlice rfl _ _ _ rfl HO.out _ 32 32 (by exact hmk' _) ?_; intro g10 w1 hO1; have HO1 := Lib.hid hO1; clear hO1 HO) | (refine wl_makeMap rfl _ rfl HO1.out ?_; intro gh w2 hO2; have HO2 := Lib.hid hO2; clear hO2 HO1))
  clear hmk'
  go_loopg [10, 11, 13] 6 (fun g s10 s11 s13 wx => ∃ i : Nat, i ≤ 6 ∧ g = 6 - i ∧ s13 = .int .i64 i ∧ TState w gh s10 s11 i wx)
  case atStart =>
    refine ⟨0, by omega, rfl, rfl, zero32, [], [], #[], 0, [_], [], [], ⟨torn_start, isBytes_whole g10 zero32 (by decide), rfl, Nat.le_refl _, ⟨rfl, .inl ⟨rfl, rfl, rfl⟩⟩, by simp, by simp, goodMap_nil, ?_⟩, HO2.out⟩
    intro k v
    constructor
    · intro h; exact absurd h (has_nil k v)
    · rintro ⟨_, x, hx, _⟩; simp at hx
  case round =>
    obtain ⟨i, hi6, rfl, rfl, now, ss, vals, es, clock, Ln, Lm, Ls, hTS, hO⟩ := hrel
    obtain ⟨gn, cn, spn, hs10, hLnE, hcn⟩ := hTS.now.blkn 32 hTS.torn.len (by omega)
    clear hLnE
    subst hs10
    obtain ⟨A11, c11, hs11⟩ := hTS.row.val
    subst hs11
    have HTS := Lib.hid hTS; have HOr := Lib.hid hO; clear hTS hO HO2
    by_cases hall : i < n0 ∧ i < n1 ∧ i < n2 ∧ i < 6
    · obtain ⟨hi0, hi1, hi2, hi3⟩ := hall
      obtain ⟨ad0, rfl, hx0⟩ := HR0.out i hi0
      obtain ⟨ad1, rfl, hx1⟩ := HR1.out i hi1
      obtain ⟨ad2, rfl, hx2⟩ := HR2.out i hi2
      generalize a0.getD i 0 = x0 at hx0
      generalize a1.getD i 0 = x1 at hx1
      generalize a2.getD i 0 = x2 at hx2
      have HX0 := Lib.hid hx0; have HX1 := Lib.hid hx1; have HX2 := Lib.hid hx2; clear hx0 hx1 hx2 HR0 HR1 HR2
      have hj0 : (i : Int) < n0 := by omega
      have hj1 : (i : Int) < n1 := by omega
      have hj2 : (i : Int) < n2 := by omega
      have hj3 : (i : Int) < 6 := by omega
      go_upto_region 8 with fail
      go_cut [14] (fun s14 wx => MidM w (1 + x0 % 300) (1 + x1 % 70000) ((gh, .map es clock) :: (Ln ++ (Lm ++ Ls))) s14 wx)
      case first =>
        rename_i JJ KK hJJ hKK
        have hwE : IntKind.i64.wrap (1 + x0 % 300) = 1 + x0 % 300 := IntWalk.i64_in _ (by omega)
        have hwS : IntKind.i64.wrap (1 + x1 % 70000) = 1 + x1 % 70000 := IntWalk.i64_in _ (by omega)
        have hbm := build_mark (1 + x0 % 300) (1 + x1 % 70000)
        refine wp_region_tree (fun w' => w'.cell? (ad0.add i) = some (.int .i64 x0) ∧ w'.cell? (ad1.add i) = some (.int .i64 x1)) 17 (.q 0 (.q 1 (.q 2 (.q 3 (.q 4 (.q 7 (.q 8 (.q 9 (.q 10 (.q 11 (.two 5 (.q 6 (.two 12 (.q 13 (.q 14 (.one 15 (.one 16 .done)))) 15 (.one 12 (.q 13 (.q 14 (.one 16 .done)))))) 15 (.one 5 (.q 6 (.one 12 (.q 13 (.q 14 (.one 16 .done))))))))))))))))) (by kernel_rfl) (by decide +kernel) (fun _ _ d _ _ h => by cases d <;> exact h) ⟨HX0.out _ _ HOr.out.drew, HX1.out _ _ HOr.out.drew⟩ ?_
        iterate 10 (refine tr_q ?_ rfl ?_ ?_; rotate_left 1; (focus (rintro w' ⟨hq0, hq1⟩; simp only [pick_zero, pick_succ]; go_simp; first | done | with_reducible rfl | (trace_state; fail))); simp only [pick_zero, pick_succ]; simp only [Act.put, List.setIfInBounds_toArray, List.set_cons_zero, List.set_cons_succ])
        have HOa := Lib.hid HOr.out.drew; clear HOr
        generalize wr.drew = w10 at HOa
        refine tr_two ?_ ?_
        · simp only [pick_zero, pick_succ]
          have hcall := within_c (w := w10) x0 300 (by omega) (by omega)
          refine wl_call rfl _ _ _ (by go_simp) hcall ?_
          clear hcall
          rintro en w' ⟨rfl, rfl⟩
          refine ⟨_, rfl, LinPost.mk ⟨HX0.out _ _ HOa.out, HX1.out _ _ HOa.out⟩ ?_⟩
          simp only [Act.put, List.setIfInBounds_toArray, List.set_cons_zero, List.set_cons_succ]
          iterate 1 (refine tr_q ?_ rfl ?_ ?_; rotate_left 1; (focus (rintro w' ⟨hq0, hq1⟩; simp only [pick_zero, pick_succ]; go_simp; first | done | with_reducible rfl | (trace_state; fail))); simp only [pick_zero, pick_succ]; simp only [Act.put, List.setIfInBounds_toArray, List.set_cons_zero, List.set_cons_succ])
          refine tr_two ?_ ?_
          · simp only [pick_zero, pick_succ]
            have hcall := within_c (w := w10) x1 70000 (by omega) (by omega)
            refine wl_call rfl _ _ _ (by go_simp) hcall ?_
            clear hcall
            rintro en w' ⟨rfl, rfl⟩
            refine ⟨_, rfl, LinPost.mk ⟨HX0.out _ _ HOa.out, HX1.out _ _ HOa.out⟩ ?_⟩
            simp only [Act.put, List.setIfInBounds_toArray, List.set_cons_zero, List.set_cons_succ]
            iterate 2 (refine tr_q ?_ rfl ?_ ?_; rotate_left 1; (focus (rintro w' ⟨hq0, hq1⟩; simp only [pick_zero, pick_succ]; go_simp; first | done | with_reducible rfl | (trace_state; fail))); simp only [pick_zero, pick_succ]; simp only [Act.put, List.setIfInBounds_toArray, List.set_cons_zero, List.set_cons_succ])
            refine tr_one ?_
            simp only [pick_zero, pick_succ]
            refine wl_alloc rfl _ rfl HOa.out _ (alloc_mark _) ?_
            intro gm w11 hO
            have HOb := Lib.hid hO; clear hO HOa
            refine LinPost.mk ⟨HX0.out _ _ HOb.out, HX1.out _ _ HOb.out⟩ ?_
            simp only [Act.put, List.setIfInBounds_toArray, List.set_cons_zero, List.set_cons_succ]
            refine tr_one ?_
            simp only [pick_zero, pick_succ]
            refine wl_store rfl _ _ _ rfl HOb.out 0 gm 0 _ [Value.int .i64 (1 + x0 % 300), Value.int .i64 (1 + x1 % 70000)] _ rfl (by rfl) (by rfl) mark_size (one_2i _ _) (by simp) ?_
            intro w12 hO
            have HOc := Lib.hid hO; clear hO HOb
            refine LinPost.mk ⟨HX0.out _ _ HOc.out, HX1.out _ _ HOc.out⟩ ?_
            refine tr_done ?_
            refine hKK _ _ ?_
            simp only [Act.put, List.setIfInBounds_toArray, List.set_cons_zero, List.set_cons_succ]
            go_meet
            exact ⟨gm, rfl, HOc.out⟩
          · simp only [pick_zero, pick_succ]
            refine wl_alloc rfl _ rfl HOa.out _ (alloc_mark _) ?_
            intro gm w11 hO
            have HOb := Lib.hid hO; clear hO HOa
            refine LinPost.mk ⟨HX0.out _ _ HOb.out, HX1.out _ _ HOb.out⟩ ?_
            simp only [Act.put, List.setIfInBounds_toArray, List.set_cons_zero, List.set_cons_succ]
            refine tr_one ?_
            simp only [pick_zero, pick_succ]
            have hcall := within_c (w := w11) x1 70000 (by omega) (by omega)
            refine wl_call rfl _ _ _ (by go_simp) hcall ?_
            clear hcall
            rintro en w' ⟨rfl, rfl⟩
            refine ⟨_, rfl, LinPost.mk ⟨HX0.out _ _ HOb.out, HX1.out _ _ HOb.out⟩ ?_⟩
            simp only [Act.put, List.setIfInBounds_toArray, List.set_cons_zero, List.set_cons_succ]
            iterate 2 (refine tr_q ?_ rfl ?_ ?_; rotate_left 1; (focus (rintro w' ⟨hq0, hq1⟩; simp only [pick_zero, pick_succ]; go_simp; first | done | with_reducible rfl | (trace_state; fail))); simp only [pick_zero, pick_succ]; simp only [Act.put, List.setIfInBounds_toArray, List.set_cons_zero, List.set_cons_succ])
            refine tr_one ?_
            simp only [pick_zero, pick_succ]
            refine wl_store rfl _ _ _ rfl HOb.out 0 gm 0 _ [Value.int .i64 (1 + x0 % 300), Value.int .i64 (1 + x1 % 70000)] _ rfl (by rfl) (by rfl) mark_size (one_2i _ _) (by simp) ?_
            intro w12 hO
            have HOc := Lib.hid hO; clear hO HOb
            refine LinPost.mk ⟨HX0.out _ _ HOc.out, HX1.out _ _ HOc.out⟩ ?_
            refine tr_done ?_
            refine hKK _ _ ?_
            simp only [Act.put, List.setIfInBounds_toArray, List.set_cons_zero, List.set_cons_succ]
            go_meet
            exact ⟨gm, rfl, HOc.out⟩
        · simp only [pick_zero, pick_succ]
          refine wl_alloc rfl _ rfl HOa.out _ (alloc_mark _) ?_
          intro gm w11 hO
          have HOb := Lib.hid hO; clear hO HOa
          refine LinPost.mk ⟨HX0.out _ _ HOb.out, HX1.out _ _ HOb.out⟩ ?_
          simp only [Act.put, List.setIfInBounds_toArray, List.set_cons_zero, List.set_cons_succ]
          refine tr_one ?_
          simp only [pick_zero, pick_succ]
          have hcall := within_c (w := w11) x0 300 (by omega) (by omega)
          refine wl_call rfl _ _ _ (by go_simp) hcall ?_
          clear hcall
          rintro en w' ⟨rfl, rfl⟩
          refine ⟨_, rfl, LinPost.mk ⟨HX0.out _ _ HOb.out, HX1.out _ _ HOb.out⟩ ?_⟩
          simp only [Act.put, List.setIfInBounds_toArray, List.set_cons_zero, List.set_cons_succ]
          iterate 1 (refine tr_q ?_ rfl ?_ ?_; rotate_left 1; (focus (rintro w' ⟨hq0, hq1⟩; simp only [pick_zero, pick_succ]; go_simp; first | done | with_reducible rfl | (trace_state; fail))); simp only [pick_zero, pick_succ]; simp only [Act.put, List.setIfInBounds_toArray, List.set_cons_zero, List.set_cons_succ])
          refine tr_one ?_
          simp only [pick_zero, pick_succ]
          have hcall := within_c (w := w11) x1 70000 (by omega) (by omega)
          refine wl_call rfl _ _ _ (by go_simp) hcall ?_
          clear hcall
          rintro en w' ⟨rfl, rfl⟩
          refine ⟨_, rfl, LinPost.mk ⟨HX0.out _ _ HOb.out, HX1.out _ _ HOb.out⟩ ?_⟩
          simp only [Act.put, List.setIfInBounds_toArray, List.set_cons_zero, List.set_cons_succ]
          iterate 2 (refine tr_q ?_ rfl ?_ ?_; rotate_left 1; (focus (rintro w' ⟨hq0, hq1⟩; simp only [pick_zero, pick_succ]; go_simp; first | done | with_reducible rfl | (trace_state; fail))); simp only [pick_zero, pick_succ]; simp only [Act.put, List.setIfInBounds_toArray, List.set_cons_zero, List.set_cons_succ])
          refine tr_one ?_
          simp only [pick_zero, pick_succ]
          refine wl_store rfl _ _ _ rfl HOb.out 0 gm 0 _ [Value.int .i64 (1 + x0 % 300), Value.int .i64 (1 + x1 % 70000)] _ rfl (by rfl) (by rfl) mark_size (one_2i _ _) (by simp) ?_
          intro w12 hO
          have HOc := Lib.hid hO; clear hO HOb
          refine LinPost.mk ⟨HX0.out _ _ HOc.out, HX1.out _ _ HOc.out⟩ ?_
          refine tr_done ?_
          refine hKK _ _ ?_
          simp only [Act.put, List.setIfInBounds_toArray, List.set_cons_zero, List.set_cons_succ]
          go_meet
          exact ⟨gm, rfl, HOc.out⟩
      case rest =>
        obtain ⟨gm, rfl, hO⟩ := hcut
        clear HOr
        have hE1 : 1 ≤ 1 + x0 % 300 := by omega
        have hE2 : 1 + x0 % 300 ≤ 300 := by omega
        have hS1 : 1 ≤ 1 + x1 % 70000 := by omega
        have hS2 : 1 + x1 % 70000 ≤ 70000 := by omega
        generalize 1 + x0 % 300 = E at *
        generalize 1 + x1 % 70000 = S at *
        clear HX0
        obtain ⟨kl, hkl⟩ := key_mark E S (WalkArith.wf_i64 (by omega)) (WalkArith.wf_i64 (by omega))
        have HKL := Lib.hid hkl; clear hkl
        have hm0 : wc.cell? ⟨gm, 0, none⟩ = some (.int .i64 E) := hO.cell (.head _) 0
        have hm1 : wc.cell? ⟨gm, 1, none⟩ = some (.int .i64 S) := hO.cell (.head _) 1
        have HO := Lib.hid hO; clear hO
        by_cases hin : ∃ x ∈ ss, E = x.e ∧ S = x.s
        · have hv : ∀ v, (Has es (markV E S) v ∨ ((∀ v', ¬ Has es (markV E S) v') ∧ v = .bool false)) → v = .bool true := by
            obtain ⟨x, hx, rfl, rfl⟩ := hin
            have hhas : Has es (markV x.e x.s) (.bool true) := (HTS.out.has _ _).2 ⟨rfl, x, hx, rfl⟩
            rintro v (h | ⟨h, _⟩)
            · exact HTS.out.good.fn h hhas
            · exact absurd hhas (h _)
          have HV := Lib.hid hv; clear hv hin
          go_wp2_with (refine wl_look rfl _ _ _ rfl mark_keyed Try.underlying59 _ (zero_bool _) HO.out gh (.tail _ (.head _)) HTS.out.good (by rfl) (markV E S) (by rfl) kl HKL.out ?_; intro v hv; obtain rfl := HV.out v hv; clear hv)
          go_roundg (6 - (i + 1))
          case measure => omega
          case rel => exact ⟨i + 1, by omega, rfl, by go_num, now, ss, vals, es, clock, Ln, Lm, Ls, HTS.out.more (by omega), HO.out.tail⟩
        · have hn : ∀ y ∈ ss, ¬ (E = y.e ∧ S = y.s) := fun y hy h => hin ⟨y, hy, h⟩
          have hv : ∀ v, (Has es (markV E S) v ∨ ((∀ v', ¬ Has es (markV E S) v') ∧ v = .bool false)) → v = .bool false := by
            rintro v (h | ⟨_, h⟩)
            · obtain ⟨_, x, hx, e⟩ := (HTS.out.has _ _).1 h
              exact absurd (markV_inj e) (hn x hx)
            · exact h
          have HV := Lib.hid hv; have HN := Lib.hid hn; clear hv hn hin
          go_upto_region 11 with (first | (refine wl_look rfl _ _ _ rfl mark_keyed Try.underlying59 _ (zero_bool _) HO.out gh (.tail _ (.head _)) HTS.out.good (by rfl) (markV E S) (by rfl) kl HKL.out ?_; intro v hv; obtain rfl := HV.out v hv; clear hv) | (refine wl_upd rfl _ _ _ _ rfl mark_keyed Try.underlying59 HO.out 1 gh rfl HTS.out.good (by rfl) (markV E S) (.bool true) (by rfl) (by rfl) kl HKL.out ?_; intro w5 es' clock' hO5 hG hH; have hO5' : Own w w5 ((gm, Obj.cells #[Value.int .i64 E, Value.int .i64 S] 44) :: (gh, Obj.map es' clock') :: (Ln ++ (Lm ++ Ls))) := hO5; have HG := Lib.hid hG; have HH := Lib.hid hH; have HO5 := Lib.hid hO5'; clear hO5 hO5' hG hH HO))
          clear hm0 hm1 HV HKL
          try simp only [Act.put]
          refine wp_region_lin (fun w' => w'.cell? (ad1.add i) = some (.int .i64 x1) ∧ w'.cell? (ad2.add i) = some (.int .i64 x2)) 14 [(0, true), (1, true), (2, true), (3, true), (4, true), (5, true), (6, true), (7, true), (8, true), (9, true), (10, true), (11, false), (12, false), (13, true)] (by kernel_rfl) (by decide +kernel) (fun _ _ d _ _ h => by cases d <;> exact h) ⟨HX1.out _ _ HO5.out.drew, HX2.out _ _ HO5.out.drew⟩ ?_
          simp only [List.map_cons, List.map_nil, pick_zero, pick_succ, List.drop_succ_cons, List.drop_zero]
          iterate 11 (refine lin_q ?_ rfl ?_ ?_; rotate_left 1; (focus (rintro w' ⟨hq1, hq2⟩; go_simp; first | done | with_reducible rfl | (trace_state; fail))); simp only [Act.put, List.setIfInBounds_toArray, List.set_cons_zero, List.set_cons_succ])
          have HO6 := Lib.hid HO5.out.drew; clear HO5
          generalize w5.drew = w6 at HO6
          refine lin_act ?_
          have hcall := within_n (w := w6) x2 20 (by omega) (by omega)
          refine wl_call rfl _ _ _ (by go_simp) hcall ?_
          clear hcall
          rintro en w' ⟨rfl, rfl⟩
          refine ⟨_, rfl, LinPost.mk ⟨HX1.out _ _ HO6.out, HX2.out _ _ HO6.out⟩ ?_⟩
          simp only [Act.put, List.setIfInBounds_toArray, List.set_cons_zero, List.set_cons_succ]
          have hk : (x2 % 20).toNat ≤ 19 := by omega
          generalize (x2 % 20).toNat = k at *
          refine lin_act ?_
          have hcall := bytes_c HO6.out (IntKind.i64.wrap (x1 + (i : Int))) k (by omega)
          refine wl_call rfl _ _ _ (by go_simp) hcall ?_
          clear hcall
          rintro en w7 ⟨vd, Ld, rfl, hd, hO7⟩
          have hdl : (pbytes (IntKind.i64.wrap (x1 + (i : Int))) k).length = k := length_pbytes _ _
          have hdb : Byt (pbytes (IntKind.i64.wrap (x1 + (i : Int))) k) := byt_pbytes _ _
          generalize pbytes (IntKind.i64.wrap (x1 + (i : Int))) k = data at *
          obtain ⟨Ad, nd, cd, rfl, hnd, hndc⟩ := isBytes_frm2 hd
          obtain rfl : nd = k := by omega
          have HD := Lib.hid hd; have HO7 := Lib.hid hO7; have HDL := Lib.hid hdl; have HDB := Lib.hid hdb; clear hd hO7 hdl hdb HO6 hnd
          refine ⟨_, rfl, LinPost.mk ⟨HX1.out _ _ HO7.out, HX2.out _ _ HO7.out⟩ ?_⟩
          simp only [Act.put, List.setIfInBounds_toArray, List.set_cons_zero, List.set_cons_succ]
          iterate 1 (refine lin_q ?_ rfl ?_ ?_; rotate_left 1; (focus (rintro w' ⟨hq1, hq2⟩; go_simp; first | done | with_reducible rfl | (trace_state; fail))); simp only [Act.put, List.setIfInBounds_toArray, List.set_cons_zero, List.set_cons_succ])
          refine lin_nil ?_
          go_upto_region 12 with fail
          have hmem : (gm, Obj.cells #[Value.int .i64 E, Value.int .i64 S] 44) ∈ Ld ++ ((gm, Obj.cells #[Value.int .i64 E, Value.int .i64 S] 44) :: (gh, Obj.map es' clock') :: (Ln ++ (Lm ++ Ls))) := List.mem_append_right _ (.head _)
          have HMEM := Lib.hid hmem; clear hmem
          have hw4 : IntKind.i64.wrap (1 + (i : Int) % 3) = 1 + (i : Int) % 3 := IntWalk.i64_in _ (by omega)
          have hk19 : ¬ ((19 : Int) < nd) := by omega
          refine wp_region_lin (fun w' => w'.cell? ⟨gm, 0, none⟩ = some (.int .i64 E) ∧ w'.cell? ⟨gm, 1, none⟩ = some (.int .i64 S) ∧ w'.cell? (ad1.add i) = some (.int .i64 x1)) 25 [(0, true), (1, true), (2, true), (5, true), (6, true), (7, true), (8, true), (9, true), (10, true), (13, true), (15, true), (16, true), (17, true), (3, false), (4, true), (11, false), (12, false), (14, false), (18, true), (19, false), (20, true), (21, true), (22, true), (23, true), (24, true)] (by kernel_rfl) (by decide +kernel) (fun _ _ d _ _ h => by cases d <;> exact h) ⟨HO7.out.drew.cell HMEM.out 0, HO7.out.drew.cell HMEM.out 1, HX1.out _ _ HO7.out.drew⟩ ?_
          simp only [List.map_cons, List.map_nil, pick_zero, pick_succ, List.drop_succ_cons, List.drop_zero]
          iterate 13 (refine lin_q ?_ rfl ?_ ?_; rotate_left 1; (focus (rintro w' ⟨hq0, hq1, hq2⟩; go_simp; first | done | with_reducible rfl | (trace_state; fail))); simp only [Act.put, List.setIfInBounds_toArray, List.set_cons_zero, List.set_cons_succ])
          have HO8 := Lib.hid HO7.out.drew; clear HO7
          generalize w7.drew = w8 at HO8
          refine lin_act ?_
          have hcall := within_c (w := w8) (i : Int) 3 (by omega) (by omega)
          refine wl_call rfl _ _ _ (by go_simp) hcall ?_
          clear hcall
          rintro en w' ⟨rfl, rfl⟩
          refine ⟨_, rfl, LinPost.mk ⟨HO8.out.cell HMEM.out 0, HO8.out.cell HMEM.out 1, HX1.out _ _ HO8.out⟩ ?_⟩
          simp only [Act.put, List.setIfInBounds_toArray, List.set_cons_zero, List.set_cons_succ]
          iterate 1 (refine lin_q ?_ rfl ?_ ?_; rotate_left 1; (focus (rintro w' ⟨hq0, hq1, hq2⟩; go_simp; first | done | with_reducible rfl | (trace_state; fail))); simp only [Act.put, List.setIfInBounds_toArray, List.set_cons_zero, List.set_cons_succ])
          refine lin_act ?_
          have hcall := within_n (w := w8) x1 3 (by omega) (by omega)
          refine wl_call rfl _ _ _ (by go_simp) hcall ?_
          clear hcall
          rintro en w' ⟨rfl, rfl⟩
          refine ⟨_, rfl, LinPost.mk ⟨HO8.out.cell HMEM.out 0, HO8.out.cell HMEM.out 1, HX1.out _ _ HO8.out⟩ ?_⟩
          simp only [Act.put, List.setIfInBounds_toArray, List.set_cons_zero, List.set_cons_succ]
          have hc1 : (x1 % 3).toNat ≤ 2 := by omega
          generalize (x1 % 3).toNat = c1' at *
          refine lin_act ?_
          have hcall := cut_c HO8.out v3 a3 (HB3.out.rd _) c1' (by omega)
          refine wl_call rfl _ _ _ (by go_simp) hcall ?_
          clear hcall
          rintro en w9 ⟨vc, Lc, rfl, hvc, hO9⟩
          have hcl : (a3.take c1').length ≤ 2 := by simp; omega
          have hcb : Byt (a3.take c1') := byt_take HB3.out.byt _
          generalize a3.take c1' = ct at *
          have HC := Lib.hid hvc; have HO9 := Lib.hid hO9; have HCB := Lib.hid hcb; have HCL := Lib.hid hcl; clear hvc hO9 hcb HO8 hcl
          refine ⟨_, rfl, LinPost.mk ⟨HO9.out.cell (List.mem_append_right _ HMEM.out) 0, HO9.out.cell (List.mem_append_right _ HMEM.out) 1, HX1.out _ _ HO9.out⟩ ?_⟩
          simp only [Act.put, List.setIfInBounds_toArray, List.set_cons_zero, List.set_cons_succ]
          refine lin_act ?_
          refine wl_appendB rfl _ _ rfl vc _ (by rfl) HC.out HO9.out (.slice Ad nd cd) data (by rfl) (HD.out.bs_sub HO9.out (sub_there sub_here)) (by rw [HDL.out]; have := HCL.out; omega) ?_
          intro v14 w10 L14 h14 hO10
          obtain ⟨A14, n14, c14, rfl, hn14, hc14⟩ := isBytes_frm2 h14
          have H14 := Lib.hid h14; have HO10 := Lib.hid hO10; clear h14 hO10 HO9 HC
          refine LinPost.mk ⟨HO10.out.cell (List.mem_append_right _ HMEM.out) 0, HO10.out.cell (List.mem_append_right _ HMEM.out) 1, HX1.out _ _ HO10.out⟩ ?_
          simp only [Act.put, List.setIfInBounds_toArray, List.set_cons_zero, List.set_cons_succ]
          have hn14' : nd ≤ n14 := by rw [hn14, List.length_append, HDL.out]; omega
          have HN14 := Lib.hid hn14; clear hn14
          have hsl := run_front A14 n14 c14 nd (by omega)
          iterate 1 (refine lin_q ?_ rfl ?_ ?_; rotate_left 1; (focus (rintro w' ⟨hq0, hq1, hq2⟩; go_simp; first | done | with_reducible rfl | (trace_state; fail))); simp only [Act.put, List.setIfInBounds_toArray, List.set_cons_zero, List.set_cons_succ])
          refine lin_act ?_
          have hbl : ((ct ++ data).take nd).length = nd := by simp [HDL.out]
          have hbb : Byt ((ct ++ data).take nd) := byt_take (byt_append HCB.out HDB.out) _
          have hrd := (H14.out.rd (w0 := w) (R := L14 ++ (Ld ++ ((gm, Obj.cells #[Value.int .i64 E, Value.int .i64 S] 44) :: (gh, Obj.map es' clock') :: (Ln ++ (Lm ++ Ls))))) sub_here).front nd hn14'
          generalize (ct ++ data).take nd = b at *
          have hxo : (Sec.mk E S (1 + (i : Int) % 3) b).Ok := ⟨okSeal_mk (by simp only; omega), hE1, hbb⟩
          have hcall := seal_ok HO10.out E S 0 (1 + (i : Int) % 3) (.slice A14 nd c14) b hrd hxo.1
          refine wl_call rfl _ _ _ (by go_simp) hcall ?_
          clear hcall hrd hbl hbb
          rintro en w11 ⟨vs, Lv, rfl, hvs, hO11⟩
          obtain ⟨gs, cs, sps, rfl, rfl, hcs⟩ := hvs.blkn 32 hxo.len (by omega)
          refine ⟨_, rfl, LinPost.mk ⟨hO11.cell (List.mem_append_right _ (List.mem_append_right _ HMEM.out)) 0, hO11.cell (List.mem_append_right _ (List.mem_append_right _ HMEM.out)) 1, HX1.out _ _ hO11⟩ ?_⟩
          have hO12 : Own w w11 ((gs, Obj.cells (List.toArray (bv (Sec.mk E S (1 + (i : Int) % 3) b).bytes ++ sps)) 5) :: (gh, Obj.map es' clock') :: (Ln ++ (Lm ++ Ls))) := hO11.sub ((sub_there (sub_there (List.sublist_cons_self _ _))).append_left [_])
          have hq3 : (Sec.mk E S (1 + (i : Int) % 3) b).q = 1 + (i : Int) % 3 := rfl
          generalize hxx : Sec.mk E S (1 + (i : Int) % 3) b = x at *
          have hxe : x.e = E := by rw [← hxx]
          have hxs : x.s = S := by rw [← hxx]
          have hvsx : IsBytes (.slice (some ⟨gs, 0, none⟩) 32 cs) x.bytes [(gs, Obj.cells (List.toArray (bv x.bytes ++ sps)) 5)] := by rw [← hxx]; exact hvs
          have HXO := Lib.hid hxo; have HXE := Lib.hid hxe; have HXS := Lib.hid hxs; have HVS := Lib.hid hvsx; have HO12 := Lib.hid hO12.rot3x
          clear hxo hxe hxs hvsx hvs hO11 hO12 hxx hq3 HO10 H14 HD HMEM hw4
          simp only [Act.put, List.setIfInBounds_toArray, List.set_cons_zero, List.set_cons_succ]
          iterate 5 (refine lin_q ?_ rfl ?_ ?_; rotate_left 1; (focus (rintro w' ⟨hq0, hq1, hq2⟩; go_simp; first | done | with_reducible rfl | (trace_state; fail))); simp only [Act.put, List.setIfInBounds_toArray, List.set_cons_zero, List.set_cons_succ])
          refine lin_nil ?_
          go_upto_region 13 with fail
          go_upto_region 15 with fail
          go_upto_region 16 with (refine wl_appendV rfl _ _ _ rfl _ _ 24 Try.underlying28 slice_info (by rfl) (.slice A11 vals.length c11) vals.length vals (by rfl) HTS.out.row (Own.rot (A := [_]) (HO12.out.alloc (.cells [Value.slice (some ⟨gs, 0, none⟩) 32 cs].toArray 27))) (.slice (some ⟨w11.heap.size, 0, none⟩) 1 1) [.slice (some ⟨gs, 0, none⟩) 32 cs] (by rfl) (vs_one (HO12.out.alloc (.cells [Value.slice (some ⟨gs, 0, none⟩) 32 cs].toArray 27)) (.head _)) (by simp; rfl) (by have := HTS.out.vl; have := HTS.out.sl; simp only [maxLen, List.length_singleton]; omega) (by have := HTS.out.vl; have := HTS.out.sl; simp only [List.length_singleton]; omega) ?_; intro v17 w13 Lm' hr' hO14; obtain ⟨g11, cap11, sp11, rfl, hLm⟩ := row_some (n := vals.length + 1) hr' (by omega); have HRW := Lib.hid hr'; have HLM := Lib.hid hLm; have hO15 : Own w w13 (Lm' ++ ((gs, Obj.cells (List.toArray (bv x.bytes ++ sps)) 5) :: (gh, Obj.map es' clock') :: (Ln ++ Ls))) := (Own.rot (B := [_]) hO14).tail; have HO14 := Lib.hid hO15; clear hr' hO14 hO15 HO12 hLm)
          have hx2c : w13.cell? (ad2.add i) = some (.int .i64 x2) := HX2.out _ _ HO14.out
          go_wp2_with fail
          with_reducible refine (within_r3 (w := w13) _).mono ?_
          clear hx2c
          rintro en w' ⟨r, hr2, rfl, rfl⟩
          go_upto_region 17 with fail
          go_cut [10] (fun s10 wx => MidN w (x.bytes.take (16 * r) ++ now.drop (16 * r)) (Lm' ++ ((gs, Obj.cells (List.toArray (bv x.bytes ++ sps)) 5) :: (gh, Obj.map es' clock') :: (Ln ++ Ls))) s10 wx)
          case first =>
            rename_i JJ KK hJJ hKK
            have hRn := HTS.out.now.rd (w0 := w) (R := Lm' ++ ((gs, Obj.cells (List.toArray (bv x.bytes ++ sps)) 5) :: (gh, Obj.map es' clock') :: (Ln ++ Ls))) (sub_there (sub_there (B := [_, _]) sub_here))
            have hRs := HVS.out.rd (w0 := w) (R := Lm' ++ ((gs, Obj.cells (List.toArray (bv x.bytes ++ sps)) 5) :: (gh, Obj.map es' clock') :: (Ln ++ Ls))) (sub_there (List.sublist_append_left [_] _))
            have HRN := Lib.hid hRn; have HRS := Lib.hid hRs; clear hRn hRs
            have HNL := Lib.hid HTS.out.torn.len; have HXL := Lib.hid HXO.out.len
            have hcs0 : (0 : Int) ≤ cs := by omega
            have hcs1 : (16 : Int) ≤ cs := by omega
            have hcs2 : (32 : Int) ≤ cs := by omega
            have hcn16 : ¬ (cn = 16) := by omega
            have hcn0 : ¬ (cn = 0) := by omega
            generalize hC : (16 : Int) * (r : Int) = C
            have hrr : r = 0 ∨ r = 1 ∨ r = 2 := by omega
            rcases hrr with hr | hr | hr
            · obtain rfl : C = 0 := by omega
              subst hr
              clear hC
              refine wp_region_lin (fun w' => True) 9 [(0, true), (1, true), (2, true), (4, true), (5, true), (6, true), (3, false), (7, false), (8, true)] (by kernel_rfl) (by decide +kernel) (fun _ _ d _ _ h => by cases d <;> exact h) trivial ?_
              simp only [List.map_cons, List.map_nil, pick_zero, pick_succ, List.drop_succ_cons, List.drop_zero]
              iterate 6 (refine lin_q ?_ rfl ?_ ?_; rotate_left 1; (focus (rintro w' hq; go_simp; first | done | with_reducible rfl | (trace_state; fail))); simp only [Act.put, List.setIfInBounds_toArray, List.set_cons_zero, List.set_cons_succ])
              have HOa := Lib.hid HO14.out.drew; clear HO14
              generalize w13.drew = w14 at HOa
              refine lin_act ?_
              refine wl_appendB rfl _ _ rfl (.slice none 0 0) [] (by rfl) (L := []) isBytes_nil HOa.out (.slice (some ⟨gs, 0, none⟩) 0 cs) (x.bytes.take 0) (by rfl) (HRS.out.front 0 (by omega) w14 [] HOa.out) (by simp) ?_
              intro va w15 La ha hO
              refine LinPost.mk trivial ?_
              have HOb := Lib.hid hO; clear hO HOa
              refine lin_act ?_
              refine wl_appendB rfl _ _ rfl va _ (by rfl) ha HOb.out (.slice (some ⟨gn, 0, none⟩) 32 cn) now (by rfl) (HRN.out w15 La HOb.out) (by simp [HNL.out, HXL.out]) ?_
              intro vb w16 Lb hb hO
              refine LinPost.mk trivial ?_
              have HOc := Lib.hid hO; clear hO HOb
              simp only [Act.put, List.setIfInBounds_toArray, List.set_cons_zero, List.set_cons_succ]
              iterate 1 (refine lin_q ?_ rfl ?_ ?_; rotate_left 1; (focus (rintro w' hq; go_simp; first | done | with_reducible rfl | (trace_state; fail))); simp only [Act.put, List.setIfInBounds_toArray, List.set_cons_zero, List.set_cons_succ])
              refine lin_nil ?_
              refine hKK _ _ ?_
              go_meet
              exact ⟨Lb, by simpa using hb, HOc.out⟩
            · obtain rfl : C = 16 := by omega
              subst hr
              clear hC
              refine wp_region_lin (fun w' => True) 9 [(0, true), (1, true), (2, true), (4, true), (5, true), (6, true), (3, false), (7, false), (8, true)] (by kernel_rfl) (by decide +kernel) (fun _ _ d _ _ h => by cases d <;> exact h) trivial ?_
              simp only [List.map_cons, List.map_nil, pick_zero, pick_succ, List.drop_succ_cons, List.drop_zero]
              iterate 6 (refine lin_q ?_ rfl ?_ ?_; rotate_left 1; (focus (rintro w' hq; go_simp; first | done | with_reducible rfl | (trace_state; fail))); simp only [Act.put, List.setIfInBounds_toArray, List.set_cons_zero, List.set_cons_succ])
              have HOa := Lib.hid HO14.out.drew; clear HO14
              generalize w13.drew = w14 at HOa
              refine lin_act ?_
              refine wl_appendB rfl _ _ rfl (.slice none 0 0) [] (by rfl) (L := []) isBytes_nil HOa.out (.slice (some ⟨gs, 0, none⟩) 16 cs) (x.bytes.take 16) (by rfl) (HRS.out.front 16 (by omega) w14 [] HOa.out) (by simp; omega) ?_
              intro va w15 La ha hO
              refine LinPost.mk trivial ?_
              have HOb := Lib.hid hO; clear hO HOa
              refine lin_act ?_
              refine wl_appendB rfl _ _ rfl va _ (by rfl) ha HOb.out (.slice (some ⟨gn, 16, none⟩) 16 (cn - 16)) ((now.drop 16).take 16) (by rfl) (HRN.out.sub 16 16 (cn - 16) (by omega) (by omega) w15 La HOb.out) (by simp [HNL.out, HXL.out]) ?_
              intro vb w16 Lb hb hO
              refine LinPost.mk trivial ?_
              have HOc := Lib.hid hO; clear hO HOb
              simp only [Act.put, List.setIfInBounds_toArray, List.set_cons_zero, List.set_cons_succ]
              iterate 1 (refine lin_q ?_ rfl ?_ ?_; rotate_left 1; (focus (rintro w' hq; go_simp; first | done | with_reducible rfl | (trace_state; fail))); simp only [Act.put, List.setIfInBounds_toArray, List.set_cons_zero, List.set_cons_succ])
              refine lin_nil ?_
              refine hKK _ _ ?_
              go_meet
              exact ⟨Lb, by rw [List.take_of_length_le (l := List.drop 16 now) (by simp [HNL.out])] at hb; simpa using hb, HOc.out⟩
            · obtain rfl : C = 32 := by omega
              subst hr
              clear hC
              by_cases hc32 : cn = 32
              · subst hc32
                refine wp_region_lin (fun w' => True) 9 [(0, true), (1, true), (2, true), (4, true), (5, true), (6, true), (3, false), (7, false), (8, true)] (by kernel_rfl) (by decide +kernel) (fun _ _ d _ _ h => by cases d <;> exact h) trivial ?_
                simp only [List.map_cons, List.map_nil, pick_zero, pick_succ, List.drop_succ_cons, List.drop_zero]
                iterate 6 (refine lin_q ?_ rfl ?_ ?_; rotate_left 1; (focus (rintro w' hq; go_simp; first | done | with_reducible rfl | (trace_state; fail))); simp only [Act.put, List.setIfInBounds_toArray, List.set_cons_zero, List.set_cons_succ])
                have HOa := Lib.hid HO14.out.drew; clear HO14
                generalize w13.drew = w14 at HOa
                refine lin_act ?_
                refine wl_appendB rfl _ _ rfl (.slice none 0 0) [] (by rfl) (L := []) isBytes_nil HOa.out (.slice (some ⟨gs, 0, none⟩) 32 cs) (x.bytes.take 32) (by rfl) (HRS.out.front 32 (by omega) w14 [] HOa.out) (by simp; omega) ?_
                intro va w15 La ha hO
                refine LinPost.mk trivial ?_
                have HOb := Lib.hid hO; clear hO HOa
                refine lin_act ?_
                refine wl_appendB rfl _ _ rfl va _ (by rfl) ha HOb.out (.slice (some ⟨gn, 0, none⟩) 0 0) [] (by rfl) (bs_empty _ _ _) (by simp; omega) ?_
                intro vb w16 Lb hb hO
                refine LinPost.mk trivial ?_
                have HOc := Lib.hid hO; clear hO HOb
                simp only [Act.put, List.setIfInBounds_toArray, List.set_cons_zero, List.set_cons_succ]
                iterate 1 (refine lin_q ?_ rfl ?_ ?_; rotate_left 1; (focus (rintro w' hq; go_simp; first | done | with_reducible rfl | (trace_state; fail))); simp only [Act.put, List.setIfInBounds_toArray, List.set_cons_zero, List.set_cons_succ])
                refine lin_nil ?_
                refine hKK _ _ ?_
                go_meet
                exact ⟨Lb, by rw [List.drop_of_length_le (l := now) (by rw [HNL.out]; omega)]; simpa using hb, HOc.out⟩
              · skip
                refine wp_region_lin (fun w' => True) 9 [(0, true), (1, true), (2, true), (4, true), (5, true), (6, true), (3, false), (7, false), (8, true)] (by kernel_rfl) (by decide +kernel) (fun _ _ d _ _ h => by cases d <;> exact h) trivial ?_
                simp only [List.map_cons, List.map_nil, pick_zero, pick_succ, List.drop_succ_cons, List.drop_zero]
                iterate 6 (refine lin_q ?_ rfl ?_ ?_; rotate_left 1; (focus (rintro w' hq; go_simp; first | done | with_reducible rfl | (trace_state; fail))); simp only [Act.put, List.setIfInBounds_toArray, List.set_cons_zero, List.set_cons_succ])
                have HOa := Lib.hid HO14.out.drew; clear HO14
                generalize w13.drew = w14 at HOa
                refine lin_act ?_
                refine wl_appendB rfl _ _ rfl (.slice none 0 0) [] (by rfl) (L := []) isBytes_nil HOa.out (.slice (some ⟨gs, 0, none⟩) 32 cs) (x.bytes.take 32) (by rfl) (HRS.out.front 32 (by omega) w14 [] HOa.out) (by simp; omega) ?_
                intro va w15 La ha hO
                refine LinPost.mk trivial ?_
                have HOb := Lib.hid hO; clear hO HOa
                refine lin_act ?_
                refine wl_appendB rfl _ _ rfl va _ (by rfl) ha HOb.out (.slice (some ⟨gn, 32, none⟩) 0 (cn - 32)) [] (by rfl) (bs_empty _ _ _) (by simp; omega) ?_
                intro vb w16 Lb hb hO
                refine LinPost.mk trivial ?_
                have HOc := Lib.hid hO; clear hO HOb
                simp only [Act.put, List.setIfInBounds_toArray, List.set_cons_zero, List.set_cons_succ]
                iterate 1 (refine lin_q ?_ rfl ?_ ?_; rotate_left 1; (focus (rintro w' hq; go_simp; first | done | with_reducible rfl | (trace_state; fail))); simp only [Act.put, List.setIfInBounds_toArray, List.set_cons_zero, List.set_cons_succ])
                refine lin_nil ?_
                refine hKK _ _ ?_
                go_meet
                exact ⟨Lb, by rw [List.drop_of_length_le (l := now) (by rw [HNL.out]; omega)]; simpa using hb, HOc.out⟩
          case rest =>
            obtain ⟨L10, hnow', hO15⟩ := hcut
            have hr' : 16 * r = 0 ∨ 16 * r = 16 ∨ 16 * r = 32 := by omega
            have hne : ∀ y ∈ ss, ¬ (x.e = y.e ∧ x.s = y.s) := by rw [HXE.out, HXS.out]; exact HN.out
            have hH' : ∀ k v, Has es' k v ↔ (k = markV x.e x.s ∧ v = .bool true) ∨ (k ≠ markV x.e x.s ∧ Has es k v) := by rw [HXE.out, HXS.out]; exact HH.out
            have hTS' := HTS.out.next (Lv := [(gs, Obj.cells (List.toArray (bv x.bytes ++ sps)) 5)]) x HXO.out hne (16 * r) hr' hnow' (some ⟨gs, 0, none⟩) cs HRW.out (HVS.out.rd sub_here) HG.out hH'
            have hsl' : (ss ++ [x]).length ≤ i + 1 := hTS'.sl
            have hssl : (ss ++ [x]).length = ss.length + 1 := by simp
            have hvl' : vals.length + 1 = (ss ++ [x]).length := by rw [HTS.out.vl]; simp
            generalize x.bytes.take (16 * r) ++ now.drop (16 * r) = now' at *
            generalize ss ++ [x] = ss' at *
            obtain ⟨gk, ck, spk, hs10, hLkE, hck⟩ := hnow'.blkn 32 hTS'.torn.len (by omega)
            clear hLkE
            subst hs10
            have HT := Lib.hid hTS'; have HVL := Lib.hid hvl'; have HO15 := Lib.hid hO15; have HNOW := Lib.hid hnow'
            clear hTS' hvl' hO15 hnow' hne hH' hr' HO14 HTS HN HH HG HVS HXO HXE HXS HRW hsl hssl
            go_wp2_with fail
            cases hs : isSeal now'
            · have hcall := open_is HO15.out _ now' (HNOW.out.rd sub_here) HT.out.torn.byt _ (openR_r2 hs)
              with_reducible refine hcall.mono ?_
              clear hcall hs
              rintro en w16 ⟨vz, Lz, rfl, _, hO16⟩
              have HO16 := Lib.hid hO16.right; clear hO16 HO15
              go_wp2_with (first | (refine wl_alloc rfl _ rfl HO16.out _ (alloc_mark _) ?_; intro gz w17 hO17; have HO17 := Lib.hid hO17; clear hO17 HO16) | (refine wl_store rfl _ _ _ rfl HO17.out 0 gz 0 _ [Value.int .i64 0, Value.int .i64 0] _ rfl (by rfl) (by rfl) mark_size (one_2i _ _) (by simp) ?_; intro w18 hO18; have HO18 := Lib.hid hO18.tail; clear hO18 HO17))
              go_roundg (6 - (i + 1))
              case measure => omega
              case rel => exact ⟨i + 1, by omega, rfl, by go_num, _, _, _, _, _, _, _, _, HT.out, Own.fin (C := [_]) (D := [_]) HO18.out⟩
            · obtain ⟨xx, hxx, hnx⟩ := HT.out.torn.whole hs
              have hany := anyB_all hxx hnx
              have HANY := Lib.hid hany; clear hany hxx hnx
              obtain ⟨o, ho⟩ : ∃ o, openR now' = o := ⟨_, rfl⟩
              have hor : o.r = 0 := by rw [← ho]; exact openR_r.2 hs
              obtain ⟨oe, os, op, oq, ob, or⟩ := o
              simp only at hor
              subst hor
              have hcall := open_is HO15.out _ now' (HNOW.out.rd sub_here) HT.out.torn.byt _ ho
              with_reducible refine hcall.mono ?_
              clear hcall hs ho
              rintro en w16 ⟨vz, Lz, rfl, _, hO16⟩
              have HO16 := Lib.hid hO16.right; clear hO16 HO15
              go_wp2_with (first | (refine wl_alloc rfl _ rfl HO16.out _ (alloc_mark _) ?_; intro gz w17 hO17; have HO17 := Lib.hid hO17; clear hO17 HO16) | (refine wl_store rfl _ _ _ rfl HO17.out 0 gz 0 _ [Value.int .i64 oe, Value.int .i64 os] _ rfl (by rfl) (by rfl) mark_size (one_2i _ _) (by simp) ?_; intro w18 hO18; have HO18 := Lib.hid hO18.tail; clear hO18 HO17))
              have hvb : vals.length ≤ 6 := by have := HVL.out; omega
              go_loopg [24, 146] (vals.length + 1) (fun g s24 s146 wx => ∃ j : Nat, j ≤ vals.length + 1 ∧ g = vals.length + 1 - j ∧ s146 = .int .i64 j ∧ s24 = .bool (anyB now' ss' j) ∧ Hid (Own w wx (L10 ++ (Lm' ++ ((gs, Obj.cells (List.toArray (bv x.bytes ++ sps)) 5) :: (gh, Obj.map es' clock') :: (Ln ++ Ls))))))
              case atStart => exact ⟨0, by omega, rfl, rfl, rfl, HO18.out⟩
              case round =>
                obtain ⟨j, hj, rfl, rfl, rfl, HOj⟩ := hrel
                clear HO18
                by_cases hlt : j < vals.length + 1
                · obtain ⟨y, hy⟩ : ∃ y, ss'[j]? = some y := ⟨_, List.getElem?_eq_getElem (by rw [← HVL.out]; exact hlt)⟩
                  obtain ⟨Aj, cj, hvj, hrj⟩ := HT.out.vs j y hy
                  have hsucc := anyB_succ now' ss' j y hy
                  have hyl : y.bytes.length = 32 := (HT.out.torn.ok y (List.mem_of_getElem? hy)).len
                  have hcell : wr.cell? ⟨g11, j, none⟩ = some (.slice Aj 32 cj) := by
                    have hm : (g11, Obj.cells (List.toArray ((vals ++ [Value.slice (some ⟨gs, 0, none⟩) 32 cs]) ++ sp11)) 27) ∈ L10 ++ (Lm' ++ ((gs, Obj.cells (List.toArray (bv x.bytes ++ sps)) 5) :: (gh, Obj.map es' clock') :: (Ln ++ Ls))) := by rw [HLM.out]; exact List.mem_append_right _ (.head _)
                    rw [HOj.out.cell hm j]
                    simp only [List.getElem?_toArray]
                    rw [List.getElem?_append_left (by simp; omega)]
                    exact hvj
                  have h1 : Bs wr (.slice (some ⟨gk, 0, none⟩) 32 ck) now' := HNOW.out.bs_sub HOj.out sub_here
                  have hsub : ([(gs, Obj.cells (List.toArray (bv x.bytes ++ sps)) 5)] ++ Ls).Sublist (L10 ++ (Lm' ++ ((gs, Obj.cells (List.toArray (bv x.bytes ++ sps)) 5) :: (gh, Obj.map es' clock') :: (Ln ++ Ls)))) := sub_there (sub_there ((sub_there (B := [_]) (List.sublist_append_right Ln Ls)).append_left [_]))
                  have h2 : Bs wr (.slice Aj 32 cj) y.bytes := hrj wr [] (HOj.out.sub hsub)
                  have hsame := same_c _ _ now' y.bytes h1 h2 (by rw [HT.out.torn.len]; omega)
                  have HS := Lib.hid hsame; have HSU := Lib.hid hsucc
                  clear hvj hrj hy hyl h1 h2 hsub hsame hsucc
                  have hjn : (j : Int) < (vals.length : Int) + 1 := by omega
                  cases hb : anyB now' ss' j
                  · rw [hb] at HSU
                    rw [Bool.false_or] at HSU
                    clear hb
                    go_wp2_with fail
                    with_reducible refine HS.out.mono ?_
                    clear hcell
                    rintro en w19 ⟨rfl, m19, rfl⟩
                    have HO19 := Lib.hid (HOj.out.drewN m19)
                    generalize wr.drewN m19 = w19 at HO19
                    go_wp2_with fail
                    go_roundg (vals.length + 1 - (j + 1))
                    case measure => omega
                    case rel => exact ⟨j + 1, by omega, rfl, by go_num, by rw [HSU.out], HO19.out⟩
                  · rw [hb] at HSU
                    rw [Bool.true_or] at HSU
                    clear hb
                    go_wp2_with fail
                    go_roundg (vals.length + 1 - (j + 1))
                    case measure => omega
                    case rel => exact ⟨j + 1, by omega, rfl, by go_num, by rw [HSU.out], HOj.out⟩
                · obtain rfl : j = vals.length + 1 := by omega
                  have hwh : anyB now' ss' (vals.length + 1) = true := by rw [HVL.out]; exact HANY.out
                  rw [hwh]
                  clear hwh
                  go_wp2_with fail
                  go_roundg (6 - (i + 1))
                  case measure => omega
                  case rel => exact ⟨i + 1, by omega, rfl, by go_num, _, _, _, _, _, _, _, _, HT.out, Own.fin (C := [_]) (D := [_]) HOj.out⟩
    · have HEX := Lib.hid (HOr.out.sub (List.nil_sublist _))
      clear HR0 HR1 HR2 HOr HTS
      by_cases hi0 : i < n0
      · have hj0 : (i : Int) < n0 := by omega
        by_cases hi1 : i < n1
        · have hj1 : (i : Int) < n1 := by omega
          by_cases hi2 : i < n2
          · have hj2 : (i : Int) < n2 := by omega
            obtain rfl : i = 6 := by omega
            clear hall
            go_wp2_with fail
            have hcall := wakes2_c HEX.out
            with_reducible refine hcall.mono ?_
            clear hcall
            rintro en w24 ⟨rfl, hO24⟩
            have HO24 := Lib.hid hO24; clear hO24 HEX
            go_wp2
            go_ret
            exact HO24.out.yes rfl
          · have hj2 : ¬ ((i : Int) < n2) := by omega
            clear hall
            go_wp2_with fail
            have hcall := wakes2_c HEX.out
            with_reducible refine hcall.mono ?_
            clear hcall
            rintro en w24 ⟨rfl, hO24⟩
            have HO24 := Lib.hid hO24; clear hO24 HEX
            go_wp2
            go_ret
            exact HO24.out.yes rfl
        · have hj1 : ¬ ((i : Int) < n1) := by omega
          clear hall
          go_wp2_with fail
          have hcall := wakes2_c HEX.out
          with_reducible refine hcall.mono ?_
          clear hcall
          rintro en w24 ⟨rfl, hO24⟩
          have HO24 := Lib.hid hO24; clear hO24 HEX
          go_wp2
          go_ret
          exact HO24.out.yes rfl
      · have hj0 : ¬ ((i : Int) < n0) := by omega
        clear hall
        go_wp2_with fail
        have hcall := wakes2_c HEX.out
        with_reducible refine hcall.mono ?_
        clear hcall
        rintro en w24 ⟨rfl, hO24⟩
        have HO24 := Lib.hid hO24; clear hO24 HEX
        go_wp2
        go_ret
        exact HO24.out.yes rfl
set_option maxRecDepth 100000 in
theorem markTears_lifted (os : Os) (started : os.Started) (H : Type) (enc : TypeId × Value → H) :
    ReturnsInHanded {} Try.checked os 8 .any (Rows.markTearsSpec.pre6 enc Try.prog Try.f8 Rows.markTearsRow.domain false) (Rows.markTearsSpec.post enc Try.prog Try.f8 false true false false) := by
  refine returnsInHanded_of_change (C := Try.checked) (by kernel_rfl) started (by kernel_rfl) Try.func8
    (ChangeSpec.witness6 (enc := enc) (C := Try.checked) false ⟨#[], #[.slice none 0 0, .slice none 0 0, .slice none 0 0, .slice none 0 0], []⟩ 8 (by kernel_rfl) (by kernel_rfl) (by kernel_rfl) (by kernel_rfl)) ?_
  intro W base args ds gs before hval0 hW hcnd _
  have hval : ∀ (j : Nat) t v, Try.f8.params[j]? = some t → args[j]? = some v → Value.okWide Try.prog W .any base t v := hval0
  have hW' := hW
  obtain ⟨p, q, hA0, hV, rfl, hfz, hnd⟩ := hW
  have hA : DataW.TrodAll enc Try.prog W 0 (fun _ => true) true Try.f8.params.toList args.toList ds p := hA0
  rw [Try.params8] at hA hval
  obtain ⟨v0, vs0, d0, ds0, p0, q0, hargs, rfl, rfl, h0, r0⟩ := trodAll_cons hA
  obtain ⟨v1, vs1, d1, ds1, p1, q1, rfl, rfl, rfl, h1, r1⟩ := trodAll_cons r0
  obtain ⟨v2, vs2, d2, ds2, p2, q2, rfl, rfl, rfl, h2, r2⟩ := trodAll_cons r1
  obtain ⟨v3, vs3, d3, ds3, p3, q3, rfl, rfl, rfl, h3, r3⟩ := trodAll_cons r2
  obtain ⟨rfl, rfl, rfl⟩ := trodAll_nil r3
  obtain rfl : args = #[v0, v1, v2, v3] := by cases args; simp_all
  obtain ⟨rfl, rfl⟩ := trodVars_none hV
  obtain ⟨b0, len0, cap0, rfl⟩ := okWide_slice Try.underlying22 (hval 0 22 v0 rfl rfl)
  have k0 := h0
  have lt0 : ∀ x ∈ p0, x.block < W.heap.size := by obtain ⟨m, hm⟩ := k0; exact DataW.trod_lt m _ _ _ hm
  obtain ⟨a0, w0⟩ : ∃ xs, InRow .i64 W (.slice b0 len0 cap0) xs := by
    obtain ⟨fuel, hf⟩ := h0
    rcases open_ints Try.underlying22 Try.underlying3 (by kernel_rfl) hf with ⟨hcs, _⟩ | ⟨x, l, c, zs, hcs, _, hl, hm, hz, _, hcell, hwz⟩
    · simp [Value.cells] at hcs
      obtain ⟨rfl, rfl, rfl⟩ := hcs
      exact ⟨[], inRow_nil _ _⟩
    · simp [Value.cells] at hcs
      obtain ⟨rfl, rfl, rfl⟩ := hcs
      exact ⟨zs.take len0, inRow_mk hl hm (by simpa using hz) hcell hwz⟩
  obtain ⟨b1, len1, cap1, rfl⟩ := okWide_slice Try.underlying22 (hval 1 22 v1 rfl rfl)
  have k1 := h1
  have lt1 : ∀ x ∈ p1, x.block < W.heap.size := by obtain ⟨m, hm⟩ := k1; exact DataW.trod_lt m _ _ _ hm
  obtain ⟨a1, w1⟩ : ∃ xs, InRow .i64 W (.slice b1 len1 cap1) xs := by
    obtain ⟨fuel, hf⟩ := h1
    rcases open_ints Try.underlying22 Try.underlying3 (by kernel_rfl) hf with ⟨hcs, _⟩ | ⟨x, l, c, zs, hcs, _, hl, hm, hz, _, hcell, hwz⟩
    · simp [Value.cells] at hcs
      obtain ⟨rfl, rfl, rfl⟩ := hcs
      exact ⟨[], inRow_nil _ _⟩
    · simp [Value.cells] at hcs
      obtain ⟨rfl, rfl, rfl⟩ := hcs
      exact ⟨zs.take len1, inRow_mk hl hm (by simpa using hz) hcell hwz⟩
  obtain ⟨b2, len2, cap2, rfl⟩ := okWide_slice Try.underlying22 (hval 2 22 v2 rfl rfl)
  have k2 := h2
  have lt2 : ∀ x ∈ p2, x.block < W.heap.size := by obtain ⟨m, hm⟩ := k2; exact DataW.trod_lt m _ _ _ hm
  obtain ⟨a2, w2⟩ : ∃ xs, InRow .i64 W (.slice b2 len2 cap2) xs := by
    obtain ⟨fuel, hf⟩ := h2
    rcases open_ints Try.underlying22 Try.underlying3 (by kernel_rfl) hf with ⟨hcs, _⟩ | ⟨x, l, c, zs, hcs, _, hl, hm, hz, _, hcell, hwz⟩
    · simp [Value.cells] at hcs
      obtain ⟨rfl, rfl, rfl⟩ := hcs
      exact ⟨[], inRow_nil _ _⟩
    · simp [Value.cells] at hcs
      obtain ⟨rfl, rfl, rfl⟩ := hcs
      exact ⟨zs.take len2, inRow_mk hl hm (by simpa using hz) hcell hwz⟩
  obtain ⟨b3, len3, cap3, rfl⟩ := okWide_slice Try.underlying27 (hval 3 27 v3 rfl rfl)
  have k3 := h3
  have lt3 : ∀ x ∈ p3, x.block < W.heap.size := by obtain ⟨m, hm⟩ := k3; exact DataW.trod_lt m _ _ _ hm
  obtain ⟨a3, w3⟩ : ∃ xs, InRow .u8 W (.slice b3 len3 cap3) xs := by
    obtain ⟨fuel, hf⟩ := h3
    rcases open_ints Try.underlying27 Try.underlying5 (by kernel_rfl) hf with ⟨hcs, _⟩ | ⟨x, l, c, zs, hcs, _, hl, hm, hz, _, hcell, hwz⟩
    · simp [Value.cells] at hcs
      obtain ⟨rfl, rfl, rfl⟩ := hcs
      exact ⟨[], inRow_nil _ _⟩
    · simp [Value.cells] at hcs
      obtain ⟨rfl, rfl, rfl⟩ := hcs
      exact ⟨zs.take len3, inRow_mk hl hm (by simpa using hz) hcell hwz⟩
  clear hA0 hval0
  refine (markTears_walk _ a0 w0 _ a1 w1 _ a2 w2 _ a3 w3).mono fun e W' ⟨he, bel⟩ => ?_
  subst he
  exact ⟨_, rfl, _, _, _, [], _, [], hW', trodAll_mk1 (shut_bool Try.underlying4 _), (trodAll_cons_mk (Below.trod laidOut (by kernel_rfl) (of_decide_eq_true (by kernel_rfl)) k0 bel lt0) (trodAll_cons_mk (Below.trod laidOut (by kernel_rfl) (of_decide_eq_true (by kernel_rfl)) k1 bel lt1) (trodAll_cons_mk (Below.trod laidOut (by kernel_rfl) (of_decide_eq_true (by kernel_rfl)) k2 bel lt2) (trodAll_cons_mk (Below.trod laidOut (by kernel_rfl) (of_decide_eq_true (by kernel_rfl)) k3 bel lt3) trodAll_mk0)))), rfl, bel.frame _, fun h => by cases h⟩

/-- The statement. -/
theorem markTears_proved : Rows.MarkTearsSaid :=
  OpenClaim.holds_of_wide 8 Try.f8 rfl rfl rfl rfl rfl rfl rfl ⟨rfl, rfl, rfl, rfl, rfl⟩ rfl rfl rfl rfl rfl (by kernel_rfl) Try.func8 (by kernel_rfl)
    (of_decide_eq_true (by kernel_rfl)) (by unfold Func.isWrapper; first | (rw [if_pos (by decide +kernel)]; kernel_rfl) | (rw [if_neg (by decide +kernel)]; exact ⟨rfl, rfl⟩))
    (fun os started H enc _ => markTears_lifted os started H enc)
end Go.Proofs.Ytjdomggboikndaa

