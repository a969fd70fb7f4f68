/-
  Package log: need, write.
-/
import Derived.Test.YtdndkapfaiplnaaLog2
namespace Go.Proofs.Ytdndkapfaiplnaa
set_option linter.unusedVariables false
set_option linter.unusedSimpArgs false
set_option maxRecDepth 20000
open Go.RowKit

/-- The slice rv lists slices that read as these rows of bytes. -/
def RdRows (w0 : World) (R : Blks) (rv : Value) (bs : List (List Int)) : Prop := ∃ vs, RdV w0 R rv vs ∧ vs.length = bs.length ∧ ∀ i, i < bs.length → Rd w0 R (vs.getD i undef) (bs.getD i [])
theorem RdRows.more {w0 : World} {A R : Blks} {rv : Value} {bs : List (List Int)} (h : RdRows w0 R rv bs) : RdRows w0 (A ++ R) rv bs := by
  obtain ⟨vs, h1, h2, h3⟩ := h
  exact ⟨vs, fun w' L' hO => h1 w' (L' ++ A) (by rw [List.append_assoc]; exact hO), h2, fun i hi => (h3 i hi).more⟩
def needs : List (List Int) → Nat
  | [] => 0
  | b :: bs => need b + needs bs
theorem needs_take_succ : ∀ (bs : List (List Int)) (i : Nat), i < bs.length → needs (bs.take (i + 1)) = needs (bs.take i) + need (bs.getD i [])
  | [], _, h => by simp at h
  | b :: bs, 0, _ => by simp [needs]
  | b :: bs, i + 1, h => by
    have := needs_take_succ bs i (by simpa using h)
    simp only [List.take_succ_cons, needs, List.getD_cons_succ]
    omega
theorem needs_take_le : ∀ (bs : List (List Int)) (i : Nat), needs (bs.take i) ≤ needs bs
  | [], _ => by simp
  | b :: bs, 0 => by simp [needs]
  | b :: bs, i + 1 => by
    have := needs_take_le bs i
    simp only [List.take_succ_cons, needs]
    omega
theorem need_le_needs (bs : List (List Int)) (i : Nat) (h : i < bs.length) : needs (bs.take i) + need (bs.getD i []) ≤ needs bs := by
  rw [← needs_take_succ bs i h]; exact needs_take_le _ _
/-- All sectors of these records, one behind the other. -/
def allSecs (e : Int) : Int → List (List Int) → List (List Int)
  | _, [] => []
  | q, b :: bs => secs_of e q b ++ allSecs e (q + 1) bs
theorem length_allSecs (e : Int) : ∀ (q : Int) (bs : List (List Int)), (allSecs e q bs).length = needs bs
  | _, [] => rfl
  | q, b :: bs => by simp [allSecs, needs, length_secs_of, length_allSecs e (q + 1) bs]
theorem writes_append : ∀ (A B : List (List Int)) (s : DSt) (a : Int), s.writes a (A ++ B) = if (s.writes a A).2 = 0 then (s.writes a A).1.writes (a + A.length) B else s.writes a A
  | [], B, s, a => by simp [DSt.writes]
  | x :: A, B, s, a => by
    rw [List.cons_append]
    by_cases h : s.writeE a x = 0
    · have e1 : s.writes a (x :: A) = (s.write a x).writes (a + 1) A := by rw [writes_cons, if_pos h]
      have e2 : s.writes a (x :: (A ++ B)) = (s.write a x).writes (a + 1) (A ++ B) := by rw [writes_cons, if_pos h]
      rw [e1, e2, writes_append A B]
      simp only [List.length_cons]
      rw [show a + 1 + (A.length : Int) = a + ((A.length + 1 : Nat) : Int) by push_cast; omega]
    · have e1 : s.writes a (x :: A) = (s.write a x, s.writeE a x) := by rw [writes_cons, if_neg h]
      have e2 : s.writes a (x :: (A ++ B)) = (s.write a x, s.writeE a x) := by rw [writes_cons, if_neg h]
      rw [e1, e2, if_neg h]
theorem write_n (s : DSt) (a : Int) (x : List Int) : (s.write a x).n = s.n := by
  unfold DSt.write
  split
  · rfl
  · split
    · rfl
    · split
      · exact s.spend_eq.2.2
      · show DSt.n _ = _
        exact s.spend_eq.2.2
theorem writes_n : ∀ (A : List (List Int)) (s : DSt) (a : Int), (s.writes a A).1.n = s.n
  | [], s, a => rfl
  | x :: A, s, a => by
    rw [writes_cons]
    split
    · rw [writes_n A, write_n]
    · exact write_n s a x
theorem writes_pend : ∀ (A : List (List Int)) (s : DSt) (a : Int), (s.writes a A).1.pend.length ≤ s.pend.length + A.length
  | [], s, a => by simp [DSt.writes]
  | x :: A, s, a => by
    rw [writes_cons]
    have h1 := write_pend s a x
    split
    · have := writes_pend A (s.write a x) (a + 1)
      simp only [List.length_cons]; omega
    · simp only [List.length_cons]; omega
/-- What the log's write leaves, and tells. -/
def DSt.lwrite (s : DSt) (at_ e q : Int) (bs : List (List Int)) : DSt × Int := let r := s.writes at_ (allSecs e q bs); if r.2 = 0 then (r.1.flush, r.1.flushE) else r
def LWrote (w0 : World) (R : Blks) (d : Value) (s : DSt) (at_ e q : Int) (bs : List (List Int)) (en : Ending) (w' : World) : Prop :=
  HasDisk w0 R d (s.lwrite at_ e q bs).1 (.tuple #[.int .i64 (if (s.writes at_ (allSecs e q bs)).2 = 0 then at_ + needs bs else 0), .int .i64 (s.lwrite at_ e q bs).2]) en w'
def LWTo (w0 : World) (R : Blks) (d : Value) (s : DSt) (at_ e q : Int) (bs : List (List Int)) (i : Nat) (w' : World) : Prop :=
  ∃ si Li, IsDisk d si Li ∧ s.writes at_ (allSecs e q bs) = si.writes (at_ + needs (bs.take i)) (allSecs e (q + i) (bs.drop i)) ∧ si.n = s.n ∧ si.pend.length ≤ s.pend.length + needs (bs.take i) ∧ Own w0 w' (Li ++ R)
section
variable {w0 w : World} {R L A : Blks} {d rv : Value} {s : DSt} {bs : List (List Int)}
set_option maxHeartbeats 2000000 in
theorem lneed_c (hO : Own w0 w (A ++ R)) (hr : RdRows w0 R rv bs) (hl : ∀ b ∈ bs, b.length ≤ 1000000) (hlb : bs.length ≤ 1000000) (hnd : needs bs ≤ 1000000) : Calls Try.prog 49 #[rv] w fun e w' => e = .returned (.int .i64 (needs bs)) ∧ w = w' := by
  obtain ⟨vs, h1, h2, h3⟩ := hr
  obtain ⟨Av, n, c, rfl, hn, _, hA⟩ := h1 w A hO
  have hnb : n = bs.length := by omega
  subst hnb
  have HA := Lib.hid hA; have H3 := Lib.hid h3; have HO := Lib.hid hO; have HL := Lib.hid hl; have H2 := Lib.hid h2
  have HT := Lib.hid (needs_take_succ bs); have HM := Lib.hid (needs_take_le bs)
  clear hA h3 hO hl hn h1 h2
  go_enter Try.func49, Try.ntmps49
  go_wp2
  go_loopw [3, 8] (fun t u w' => ∃ i : Nat, i ≤ bs.length ∧ u = .int .i64 i ∧ Hid (t = .int .i64 (needs (bs.take i) : Nat)) ∧ w' = w) (fun _ u _ => bs.length - (intOf u).toNat)
  case atStart => exact ⟨0, Nat.zero_le _, rfl, (by show Value.int IntKind.i64 0 = _; rfl), rfl⟩
  case round =>
    obtain ⟨i, hi, rfl, HS, rfl⟩ := hrel
    have hs := HS.out
    subst hs
    by_cases hlt : i < bs.length
    · obtain ⟨ad, rfl, hca⟩ := HA.out (by omega)
      have hci : wr.cell? (ad.add i) = some (vs.getD i undef) := hca i _ (by rw [List.getD, List.getElem?_eq_getElem (by rw [H2.out]; exact hlt)]; rfl)
      have hbs := H3.out i hlt wr A HO.out
      have hcall := need_c (vs.getD i undef) (bs.getD i []) hbs (by have := HL.out (bs.getD i []) (by rw [List.getD, List.getElem?_eq_getElem hlt]; exact List.getElem_mem hlt); omega)
      have hst := HT.out i hlt
      have hm := HM.out (i + 1)
      rw [hst] at hm
      have HC := Lib.hid hcall; have HST := Lib.hid hst
      clear hca hbs hcall hst
      generalize vs.getD i undef = vi at *
      generalize need (bs.getD i []) = k at *
      generalize needs (bs.take i) = m at *
      have hiI : (i : Int) < bs.length := by omega
      go_wp2_with fail
      with_reducible refine HC.out.mono ?_
      rintro en w3 ⟨rfl, rfl⟩
      clear HC hci
      go_wp2
      go_roundw
      case rel => exact ⟨i + 1, by omega, by go_num, (by rw [HST.out]; push_cast; rfl), trivial⟩
      case measure => simp [intOf]; omega
    · obtain rfl : i = bs.length := by omega
      have e : bs.take bs.length = bs := List.take_length
      rw [e]
      clear e
      go_wp2
      go_ret
      exact ⟨rfl, rfl⟩
theorem allSecs_drop (e q : Int) (bs : List (List Int)) (i : Nat) (h : i < bs.length) : allSecs e (q + i) (bs.drop i) = secs_of e (q + i) (bs.getD i []) ++ allSecs e (q + (i + 1 : Nat)) (bs.drop (i + 1)) := by
  rw [List.drop_eq_getElem_cons h, allSecs]
  simp only [List.getD, List.getElem?_eq_getElem h, Option.getD_some]
  congr 2
  push_cast; omega
theorem log_cells {w0 w : World} {X : Blks} {g : Nat} {l : LSt} (h : Own w0 w X) (hm : (g, Obj.cells (lgv d l).toArray 82) ∈ X) :
    w.cell? ⟨g, 0, none⟩ = some d ∧ w.cell? ⟨g, 1, none⟩ = some (.int .i64 l.num) ∧ w.cell? ⟨g, 2, none⟩ = some (.int .i64 l.ep) ∧ w.cell? ⟨g, 3, none⟩ = some (.int .i64 l.half) ∧ w.cell? ⟨g, 4, none⟩ = some (.int .i64 l.en) ∧ w.cell? ⟨g, 5, none⟩ = some (.int .i64 l.nx) ∧ w.cell? ⟨g, 6, none⟩ = some (.bool l.dead) :=
  ⟨h.cell hm 0, h.cell hm 1, h.cell hm 2, h.cell hm 3, h.cell hm 4, h.cell hm 5, h.cell hm 6⟩
set_option maxHeartbeats 4000000 in
theorem lwrite_c {v : Value} {l : LSt} {Lg : Blks} (hd : IsDisk d s L) (hg : IsLog v d l Lg) (hO : Own w0 w (L ++ (Lg ++ R))) (hr : RdRows w0 R rv bs) (hB : ∀ b ∈ bs, Byt b) (hN : ∀ b ∈ bs, need b ≤ 255) (hlb : bs.length ≤ 1000000)
    (at_ : Int) (h0 : 0 ≤ at_) (h1 : at_ + needs bs ≤ s.n) (he : 0 ≤ l.ep ∧ l.ep ≤ 65535) (hq : 0 ≤ l.nx ∧ l.nx + bs.length ≤ 16777216) (hpl : s.pend.length + needs bs ≤ 1000000) :
    Calls Try.prog 47 #[v, .int .i64 at_, rv] w (LWrote w0 (Lg ++ R) d s at_ l.ep l.nx bs) := by
  obtain ⟨g, rfl, rfl⟩ := hg
  obtain ⟨bd, rfl⟩ := hd.ptr
  obtain ⟨vs, hr1, h2, h3⟩ := hr
  obtain ⟨Av, n, c, rfl, hn, _, hA⟩ := hr1 w (L ++ [_]) (by rw [List.append_assoc]; exact hO)
  have hnb : n = bs.length := by omega
  subst hnb
  have hnn := hd.1.n
  have H3 := Lib.hid h3; have HO := Lib.hid hO; have H2 := Lib.hid h2; have HD := Lib.hid hd; have HB := Lib.hid hB; have HN := Lib.hid hN
  have HT := Lib.hid (needs_take_succ bs); have HM := Lib.hid (needs_take_le bs); have HDR := Lib.hid (allSecs_drop l.ep l.nx bs); have HR1 := Lib.hid hr1
  clear hA h3 hO hn hr1 h2 hd hB hN
  go_enter Try.func47, Try.ntmps47
  go_wp2
  go_loopw [1, 7, 12] (fun a e u w' => ∃ i : Nat, i ≤ bs.length ∧ u = .int .i64 i ∧ e = .int .i64 0 ∧ a = .int .i64 (at_ + needs (bs.take i)) ∧ Hid (LWTo w0 ([(g, .cells (lgv (.pointer (some ⟨bd, 0, none⟩)) l).toArray 82)] ++ R) (.pointer (some ⟨bd, 0, none⟩)) s at_ l.ep l.nx bs i w')) (fun _ _ u _ => bs.length - (intOf u).toNat)
  case atStart => exact ⟨0, Nat.zero_le _, rfl, rfl, by simp [needs], ⟨s, L, HD.out, by simp [needs], rfl, by simp [needs], HO.out⟩⟩
  case round =>
    obtain ⟨i, hi, rfl, rfl, rfl, HS⟩ := hrel
    clear HO HD
    obtain ⟨si, Li, hdi, hwi, hni, hpi, hOi⟩ := HS.out
    clear HS
    by_cases hlt : i < bs.length
    · obtain ⟨Av2, n2, c2, e2, hn2, _, hA2⟩ := HR1.out wr (Li ++ [_]) (by rw [List.append_assoc]; exact hOi)
      cases e2
      obtain ⟨ad, rfl, hca⟩ := hA2 (by omega)
      have hci : wr.cell? (ad.add i) = some (vs.getD i undef) := hca i _ (by rw [List.getD, List.getElem?_eq_getElem (by rw [H2.out]; exact hlt)]; rfl)
      have hmem : bs.getD i [] ∈ bs := by rw [List.getD, List.getElem?_eq_getElem hlt]; exact List.getElem_mem hlt
      have hrd := H3.out i hlt
      have hst := HT.out i hlt
      have hm := HM.out (i + 1)
      rw [hst] at hm
      have hcall : ∀ (w1 : World), Own w0 w1 (Li ++ ([(g, .cells (lgv (.pointer (some ⟨bd, 0, none⟩)) l).toArray 82)] ++ R)) → Calls Try.prog 61 #[.pointer (some ⟨bd, 0, none⟩), .int .i64 (at_ + needs (bs.take i)), .agg #[.int .i64 l.ep, .int .i64 (l.nx + i)], vs.getD i undef] w1
          (FWrote w0 ([(g, .cells (lgv (.pointer (some ⟨bd, 0, none⟩)) l).toArray 82)] ++ R) (.pointer (some ⟨bd, 0, none⟩)) (si.writes (at_ + needs (bs.take i)) (secs_of l.ep (l.nx + i) (bs.getD i []))) (at_ + needs (bs.take i) + need (bs.getD i []))) := fun w1 hO1 =>
        fwrite_go hdi hO1 (at_ + needs (bs.take i)) l.ep (l.nx + i) (vs.getD i undef) (bs.getD i []) hrd.more (HB.out _ hmem) (HN.out _ hmem) (by simp only [okMark, decide_eq_true_eq]; omega) (by omega) (by rw [hni]; omega) (by omega)
      rw [HDR.out i hlt, writes_append] at hwi
      have hwn := writes_n (secs_of l.ep (l.nx + i) (bs.getD i [])) si (at_ + needs (bs.take i))
      have hwp := writes_pend (secs_of l.ep (l.nx + i) (bs.getD i [])) si (at_ + needs (bs.take i))
      rw [length_secs_of] at hwi hwp
      have HC := Lib.hid hcall; have HST := Lib.hid hst; have HW := Lib.hid hwi; have HWN := Lib.hid hwn; have HWP := Lib.hid hwp; have HOI := Lib.hid hOi; have HNI := Lib.hid hni
      clear hca hcall hst hwi hwn hwp hOi hdi hrd hmem hn2 hA2 hni HDR H3 HB HN HT HM HR1
      generalize vs.getD i undef = vi at *
      generalize need (bs.getD i []) = k at *
      generalize needs (bs.take i) = m at *
      generalize secs_of l.ep (l.nx + i) (bs.getD i []) = S at *
      have hiI : (i : Int) < bs.length := by omega
      have hwr : IntKind.i64.wrap (l.nx + i) = l.nx + i := IntWalk.i64_in _ (by omega)
      go_wp2_with fail
      clear hci
      have HO1 := Lib.hid HOI.out.drew
      clear HOI
      refine wp_region_lin (fun w' => w'.heap[g]? = some (.cells (lgv (.pointer (some ⟨bd, 0, none⟩)) l).toArray 82)) 23 [(0, true), (1, true), (2, true), (3, true), (4, true), (5, true), (6, true), (7, true), (8, true), (9, true), (10, true), (11, true), (12, true), (13, true), (14, true), (15, true), (16, true), (17, false), (18, true), (19, true), (20, true), (21, true), (22, true)] (by kernel_rfl) (by kernel_rfl) (fun _ _ d _ _ h => by cases d <;> exact h) (HO1.out.heap (List.mem_append_right _ (.head _))) ?_
      generalize wr.drew = w1 at *
      simp only [List.map_cons, List.map_nil, pick_zero, pick_succ, List.drop_succ_cons, List.drop_zero]
      iterate 17 (refine lin_q ?_ rfl ?_ ?_; rotate_left 1; (focus (rintro w' hS; have c0 : w'.cell? ⟨g, 0, none⟩ = some (.pointer (some ⟨bd, 0, none⟩)) := cell_of_row w' g 0 _ _ (0, 0) hS; have c2 : w'.cell? ⟨g, 2, none⟩ = some (.int .i64 l.ep) := cell_of_row w' g 2 _ _ (0, 0) hS; have c5 : w'.cell? ⟨g, 5, none⟩ = some (.int .i64 l.nx) := cell_of_row w' g 5 _ _ (0, 0) hS; clear hS; go_simp; first | done | with_reducible rfl | rfl | (trace_state; fail))); simp only [Act.put, List.setIfInBounds_toArray, List.set_cons_zero, List.set_cons_succ])
      refine lin_act ?_
      have hcall := HC.out w1 HO1.out
      refine wl_call rfl _ _ _ (by go_simp) hcall ?_
      clear hcall HC
      rintro en w3 ⟨rfl, L3, hd3, hO3⟩
      refine ⟨_, rfl, LinPost.mk (hO3.heap (List.mem_append_right _ (.head _))) ?_⟩
      have HD3 := Lib.hid hd3; have HO3 := Lib.hid hO3
      clear hd3 hO3 HO1
      simp only [Act.put, List.setIfInBounds_toArray, List.set_cons_zero, List.set_cons_succ]
      iterate 5 (refine lin_q ?_ rfl ?_ ?_; rotate_left 1; (focus (rintro w' -; go_simp; first | done | with_reducible rfl | (trace_state; fail))); simp only [Act.put, List.setIfInBounds_toArray, List.set_cons_zero, List.set_cons_succ])
      refine lin_nil ?_
      generalize si.writes (at_ + m) S = r at *
      obtain ⟨s3, r3⟩ := r
      have hW := HW.out
      simp only at hW HD3
      simp only
      by_cases hE : r3 = 0
      · subst hE
        simp only [if_true] at hW ⊢
        have HW2 := Lib.hid hW
        clear hW HW
        go_wp2
        go_roundw
        case rel => exact ⟨i + 1, by omega, by go_num, rfl, by rw [HST.out]; congr 1; push_cast; omega, ⟨s3, L3, HD3.out, by rw [HW2.out, HST.out]; congr 1; push_cast; omega, HWN.out.trans HNI.out, by have := HWP.out; rw [HST.out]; simp only at this; omega, HO3.out⟩⟩
        case measure => simp [intOf]; omega
      · rw [if_neg hE] at hW ⊢
        have HW2 := Lib.hid hW
        clear hW HW
        have hne : (r3 != 0) = true := by simpa using hE
        have HE := Lib.hid hE
        clear hE
        go_wp2
        go_ret2
        unfold LWrote DSt.lwrite
        rw [HW2.out]
        simp only [HE.out, if_false]
        exact ⟨rfl, L3, HD3.out, HO3.out⟩
    · obtain rfl : i = bs.length := by omega
      rw [List.take_length, List.drop_length] at hwi
      rw [List.take_length]
      have HW := Lib.hid hwi; have HDI := Lib.hid hdi; have HOI := Lib.hid hOi
      clear hwi hpi hOi hdi
      obtain ⟨c0, -⟩ := log_cells HOI.out (List.mem_append_right _ (.head _))
      go_wp2_with fail
      have hcall := flush_c HDI.out HOI.out
      with_reducible refine hcall.mono ?_
      clear hcall
      rintro en w7 ⟨rfl, L7, hd7, hO7⟩
      have HO7 := Lib.hid hO7; have HD7 := Lib.hid hd7
      clear hO7 hd7 c0
      go_wp2
      go_ret2
      unfold LWrote DSt.lwrite
      rw [HW.out]
      simp only [allSecs, DSt.writes, if_true]
      exact ⟨rfl, L7, HD7.out, HO7.out⟩
end
end Go.Proofs.Ytdndkapfaiplnaa
