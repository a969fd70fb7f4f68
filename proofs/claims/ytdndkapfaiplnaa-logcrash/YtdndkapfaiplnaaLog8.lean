/-
  Package log: Append.
-/
import Derived.Test.YtdndkapfaiplnaaLog6
namespace Go.Proofs.Ytdndkapfaiplnaa
set_option linter.unusedVariables false
set_option linter.unusedSimpArgs false
set_option maxRecDepth 20000
open Go.RowKit

/-- The disk, and the log. -/
def HasBoth (w0 : World) (R : Blks) (v d : Value) (s : DSt) (l : LSt) (r : Int) (en : Ending) (w' : World) : Prop := en = .returned (.int .i64 r) ∧ ∃ L Lg, IsDisk d s L ∧ IsLog v d l Lg ∧ Own w0 w' (L ++ (Lg ++ R))
def LDid (w0 : World) (R : Blks) (v d : Value) (res : DSt × Int) (l l' : LSt) (en : Ending) (w' : World) : Prop :=
  (res.2 = 0 ∧ HasBoth w0 R v d res.1 l' 0 en w') ∨ (res.2 ≠ 0 ∧ HasBoth w0 R v d res.1 { l with dead := decide (res.2 = 8) || l.dead } res.2 en w')
theorem rdRows_one {w0 : World} {R : Blks} {g : Nat} {v : Value} {b : List Int} {t : TypeId} (hm : (g, Obj.cells [v].toArray t) ∈ R) (hb : Rd w0 R v b) : RdRows w0 R (.slice (some ⟨g, 0, none⟩) 1 1) [b] :=
  ⟨[v], fun w' L' hO => vs_oneL hO (List.mem_append_right _ hm), rfl, fun i hi => by
    have : i = 0 := by simpa using hi
    subst this
    exact hb⟩
section
variable {w0 w : World} {R L Lg : Blks} {d v bw : Value} {s : DSt} {l : LSt} {b : List Int}
set_option maxHeartbeats 4000000 in
theorem append_full (hd : IsDisk d s L) (hg : IsLog v d l Lg) (hO : Own w0 w (L ++ (Lg ++ R))) (hb : Rd w0 R bw b) (hbl : b.length ≤ 1000000) (hh : l.half = 0 ∨ l.half = 1) (he : 0 ≤ l.en ∧ l.en ≤ 1000000) (hdd : l.dead = false) (hf : 2 + l.half * 256 + 256 - l.en < need b) :
    Calls Try.prog 26 #[v, bw] w (HasBoth w0 R v d s l 5) := by
  have hnd := need_c bw b (hb w (L ++ Lg) (by rw [List.append_assoc]; exact hO)) (by omega)
  have hrm := room_c (w := w) hg hO.rot hh he
  obtain ⟨gl, rfl, rfl⟩ := hg
  have c6 : w.cell? ⟨gl, 6, none⟩ = some (.bool false) := by have := (log_cells hO (List.mem_append_right _ (.head _))).2.2.2.2.2.2; rw [hdd] at this; exact this
  have HN := Lib.hid hnd; have HR := Lib.hid hrm; have HO := Lib.hid hO; have HD := Lib.hid hd
  clear hnd hrm hO hd hb hdd
  go_enter Try.func26, Try.ntmps26
  go_wp2_with fail
  clear c6
  with_reducible refine HN.out.mono ?_
  rintro e w1 ⟨rfl, rfl⟩
  clear HN
  go_wp2_with fail
  with_reducible refine HR.out.mono ?_
  rintro e w1 ⟨rfl, m, rfl⟩
  clear HR
  have HO1 := Lib.hid (HO.out.drewN m); clear HO
  generalize w.drewN m = w1 at *
  go_wp2
  go_ret
  exact ⟨rfl, L, _, HD.out, ⟨gl, rfl, rfl⟩, HO1.out⟩
set_option maxHeartbeats 4000000 in
theorem append_go (hd : IsDisk d s L) (hg : IsLog v d l Lg) (hO : Own w0 w (L ++ (Lg ++ R))) (hb : Rd w0 R bw b) (hB : Byt b) (hn : need b ≤ 255) (hbl : b.length ≤ 1000000) (hh : l.half = 0 ∨ l.half = 1) (he : 0 ≤ l.en) (hdd : l.dead = false) (hf : l.en + need b ≤ 2 + l.half * 256 + 256)
    (hsn : s.n = 514) (hq : 0 ≤ l.nx ∧ l.nx ≤ 16777215) (hep : 0 ≤ l.ep ∧ l.ep ≤ 65535) (hpl : s.pend.length ≤ 1000) :
    Calls Try.prog 26 #[v, bw] w (LDid w0 R v d (s.lwrite l.en l.ep l.nx [b]) l { l with en := l.en + need b, nx := l.nx + 1 }) := by
  have hnd := need_c bw b (hb w (L ++ Lg) (by rw [List.append_assoc]; exact hO)) (by omega)
  have hrm := room_c (w := w) hg hO.rot hh ⟨he, by omega⟩
  obtain ⟨Ab, cb, rfl, -⟩ := (hb w (L ++ Lg) (by rw [List.append_assoc]; exact hO)).len
  obtain ⟨gl, rfl, rfl⟩ := hg
  have hwr := fun (w : World) (R : Blks) (rv : Value) (hO : Own w0 w (L ++ ([(gl, .cells (lgv d l).toArray 82)] ++ R))) (hr : RdRows w0 R rv [b]) => lwrite_c hd ⟨gl, rfl, rfl⟩ hO hr (by simpa using hB) (by simpa using hn) (by simp) l.en he (by simp only [needs]; rw [hsn]; rcases hh with h | h <;> rw [h] at hf <;> push_cast <;> omega) hep ⟨hq.1, by simp only [List.length_singleton]; omega⟩ (by simp only [needs]; omega)
  have c6 : w.cell? ⟨gl, 6, none⟩ = some (.bool false) := by have := (log_cells hO (List.mem_append_right _ (.head _))).2.2.2.2.2.2; rw [hdd] at this; exact this
  have hres0 : (s.lwrite l.en l.ep l.nx [b]).2 = 0 → (s.writes l.en (allSecs l.ep l.nx [b])).2 = 0 := by
    unfold DSt.lwrite
    simp only
    split
    · intro _; assumption
    · exact id
  obtain ⟨res, hres⟩ : ∃ res, s.lwrite l.en l.ep l.nx [b] = res := ⟨_, rfl⟩
  rw [hres] at hres0 ⊢
  have HN := Lib.hid hnd; have HR := Lib.hid hrm; have HO := Lib.hid hO; have HW := Lib.hid hwr; have HRES := Lib.hid hres; have HRES0 := Lib.hid hres0; have HB := Lib.hid hb
  clear hnd hrm hO hd hb hwr hres hdd hB hres0
  have h63 : need b ≤ 1000 := by omega
  have heq : (((needs [b] : Nat) : Int)) = need b := by simp [needs]
  have HEQ := Lib.hid heq; clear heq
  go_enter Try.func26, Try.ntmps26
  go_wp2_with fail
  clear c6
  with_reducible refine HN.out.mono ?_
  rintro e w1 ⟨rfl, rfl⟩
  clear HN
  go_wp2_with fail
  with_reducible refine HR.out.mono ?_
  rintro e w1 ⟨rfl, m, rfl⟩
  clear HR
  have HO1 := Lib.hid (HO.out.drewN m); clear HO
  generalize w.drewN m = w1 at *
  obtain ⟨-, -, -, -, c4, c5, -⟩ := log_cells (l := l) HO1.out (List.mem_append_right _ (.head _))
  have hlt : ¬ (2 + l.half * 256 + 256 - l.en < (need b : Int)) := by omega
  have hlt2 : ¬ ((16777215 : Int) < l.nx) := by omega
  go_wp2_with fail
  clear c4 c5
  have hO2 : Own w0 (w1.alloc (.cells [Value.slice Ab b.length cb].toArray 27)) (L ++ ([(gl, .cells (lgv d l).toArray 82)] ++ ([(w1.heap.size, .cells [Value.slice Ab b.length cb].toArray 27)] ++ R))) := own_count (HO1.out.alloc _) (by intro p; simp only [List.count_append, List.count_cons, List.count_nil]; omega)
  have hcall := HW.out _ _ _ hO2 (rdRows_one (.head _) HB.out.more)
  with_reducible refine hcall.mono ?_
  clear hcall HW HB HO1 hO2
  rintro e w2 ⟨rfl, L2, hd2, hO2⟩
  rw [HRES.out] at hd2
  rw [HRES.out]
  obtain ⟨s2, r2⟩ := res
  simp only at hd2
  simp only []
  have HD2 := Lib.hid hd2; have HO2 := Lib.hid (hO2.sub ((List.Sublist.refl L2).append ((List.Sublist.refl [_]).append ((List.Sublist.refl R).cons _))))
  clear hd2 hO2
  obtain ⟨zz, hzz⟩ : ∃ zz : Int, (if (s.writes l.en (allSecs l.ep l.nx [b])).2 = 0 then l.en + (needs [b] : Int) else 0) = zz := ⟨_, rfl⟩
  rw [hzz]
  have HZZ := Lib.hid hzz
  clear hzz
  by_cases hr2 : r2 = 0
  · subst hr2
    have hz := HZZ.out
    rw [if_pos (HRES0.out rfl)] at hz
    subst hz
    have hw : IntKind.i64.wrap (l.nx + 1) = l.nx + 1 := IntWalk.i64_in _ (by omega)
    have HO3 := Lib.hid (Own.rot HO2.out)
    clear HZZ HRES HRES0 HO2
    go_wp2_with (first | (refine wl_store1 rfl _ _ _ rfl HO3.out 0 gl 4 _ (.int .i64 (l.en + needs [b])) _ rfl (by rfl) (by rfl) (by rfl) (by kernel_rfl) (by rfl) (by simp [lgv]) ?_; intro w4 hO4; have k5 : w4.cell? ⟨gl, 5, none⟩ = some (.int .i64 l.nx) := hO4.cell (.head _) 5; have HO4 := Lib.hid hO4; clear hO4 HO3) | (refine wl_store1 rfl _ _ _ rfl HO4.out 0 gl 5 _ (.int .i64 (l.nx + 1)) _ rfl (by rfl) (by rfl) (by rfl) (by kernel_rfl) (by rfl) (by simp [lgv]) ?_; intro w5 hO5; have HO5 := Lib.hid hO5; clear hO5 HO4))
    go_ret
    refine .inl ⟨rfl, rfl, L2, _, HD2.out, ⟨gl, rfl, rfl⟩, ?_⟩
    rw [← HEQ.out]
    exact Own.rot (A := [_]) HO5.out
  · have hne : (r2 != 0) = true := bne_iff_ne.2 hr2
    have HR2 := Lib.hid hr2
    clear hr2 HRES HRES0
    have hfl := fail_c (v := .pointer (some ⟨gl, 0, none⟩)) (l := l) ⟨gl, rfl, rfl⟩ (Own.rot HO2.out) r2
    have HFL := Lib.hid hfl
    clear hfl HO2
    go_wp2_with fail
    with_reducible refine HFL.out.mono ?_
    rintro e w3 ⟨rfl, L3, hg3, hO3⟩
    have HG3 := Lib.hid hg3; have HO3 := Lib.hid hO3
    clear hg3 hO3 HFL
    go_wp2
    go_ret
    exact .inr ⟨HR2.out, rfl, L2, L3, HD2.out, HG3.out, HO3.out.rot⟩
end
end Go.Proofs.Ytdndkapfaiplnaa
