/-
  Texts that the laws stand on: Ask4.
-/
import Derived.Test.YtlcolabblpikjaaGreatDoorM10
import Derived.Test.YtlcolabblpikjaaGreatDoorM16
import Derived.Deep.DeepCutAuto
import Derived.Deep.CutBlock

/-
  postilionlaw10's own maker of requests: Of.
-/
namespace Go.Proofs.YtlcolabblpikjaaGreatDoor
set_option linter.unusedVariables false
set_option linter.unusedSimpArgs false
set_option maxRecDepth 20000
open Go.RowKit

def meB : List ByteArray := [⟨#[71, 69, 84]⟩, ⟨#[80, 79, 83, 84]⟩, ⟨#[79, 80, 84, 73, 79, 78, 83]⟩, ⟨#[68, 69, 76, 69, 84, 69]⟩]
def nmT : List ByteArray := [⟨#[67, 111, 110, 116, 101, 110, 116, 45, 76, 101, 110, 103, 116, 104]⟩, ⟨#[79, 114, 105, 103, 105, 110]⟩, ⟨#[97, 32, 98]⟩, ⟨#[82, 97, 110, 103, 101]⟩]
def vlT : List ByteArray := [⟨#[51]⟩, ⟨#[110, 117, 108, 108]⟩, ⟨#[]⟩, ⟨#[98, 121, 116, 101, 115, 61, 51, 45]⟩]
theorem build_me (w : World) : (Instr.buildSlice 34 4 #[(0, .string ⟨#[71, 69, 84]⟩), (1, .string ⟨#[80, 79, 83, 84]⟩), (2, .string ⟨#[79, 80, 84, 73, 79, 78, 83]⟩), (3, .string ⟨#[68, 69, 76, 69, 84, 69]⟩)]).run Tryz.prog w = .ok (.slice (some ⟨w.heap.size, 0, none⟩) 4 4) (w.alloc (.cells (meB.map Value.string).toArray 9)) := by kernel_rfl
theorem build_nmT (w : World) : (Instr.buildSlice 34 4 #[(0, .string ⟨#[67, 111, 110, 116, 101, 110, 116, 45, 76, 101, 110, 103, 116, 104]⟩), (1, .string ⟨#[79, 114, 105, 103, 105, 110]⟩), (2, .string ⟨#[97, 32, 98]⟩), (3, .string ⟨#[82, 97, 110, 103, 101]⟩)]).run Tryz.prog w = .ok (.slice (some ⟨w.heap.size, 0, none⟩) 4 4) (w.alloc (.cells (nmT.map Value.string).toArray 9)) := by kernel_rfl
theorem build_vlT (w : World) : (Instr.buildSlice 34 4 #[(0, .string ⟨#[51]⟩), (1, .string ⟨#[110, 117, 108, 108]⟩), (2, .string ⟨#[]⟩), (3, .string ⟨#[98, 121, 116, 101, 115, 61, 51, 45]⟩)]).run Tryz.prog w = .ok (.slice (some ⟨w.heap.size, 0, none⟩) 4 4) (w.alloc (.cells (vlT.map Value.string).toArray 9)) := by kernel_rfl
def twoB : HBL := [(⟨#[120, 58, 121]⟩, ⟨#[49]⟩), (⟨#[]⟩, ⟨#[]⟩)]
theorem twoB_size : HSz 20 twoB := by unfold HSz; decide
theorem hsz_len {j : Nat} : ∀ {hs : HBL}, HSz j hs → (headsP (hl hs)).length ≤ (2 * j + 4) * hs.length
  | [], _ => Nat.le_refl _
  | h :: t, hz => by
    have h1 := hz h (.head _)
    have h2 := hsz_len (hs := t) (fun x hx => hz x (.tail _ hx))
    have h3 : (headsP (hl (h :: t))).length = (h.1.size + h.2.size + 4) + (headsP (hl t)).length := by
      simp only [hl, headsP, List.map_cons, List.flatMap_cons, List.length_append, headP, List.length_cons, List.length_nil, length_sb]; omega
    rw [h3, List.length_cons, Nat.mul_add]
    omega
theorem hl_len_app (hs ks : HBL) : (headsP (hl (hs ++ ks))).length = (headsP (hl hs)).length + (headsP (hl ks)).length := by
  unfold hl; rw [List.map_append, headsP_app, List.length_append]
theorem hl_one (p q : ByteArray) : (headsP (hl [(p, q)])).length = p.size + q.size + 4 := by
  simp only [hl, headsP, List.map_cons, List.map_nil, List.flatMap_cons, List.flatMap_nil, List.length_append, headP, List.length_cons, List.length_nil, length_sb]; omega
theorem meB_size : ∀ s ∈ meB, s.size ≤ 10 := by decide
theorem nmT_size : ∀ s ∈ nmT, s.size ≤ 20 := by decide
theorem vlT_size : ∀ s ∈ vlT, s.size ≤ 20 := by decide
theorem alloc_ask (w : World) : (Instr.alloc 24 true (.tuple #[])).run Tryz.prog w = .ok (.pointer (some ⟨w.heap.size, 0, none⟩)) (w.alloc (.cells (av ⟨#[]⟩ ⟨#[]⟩ (.slice none 0 0) ⟨#[]⟩).toArray 24)) := by kernel_rfl
theorem ask_size : (Tryz.prog.info? 24).map (·.size) = some 4 := by kernel_rfl
def MidOf (w0 : World) (R : Blks) (g10 : Nat) (body : ByteArray) (s11 : Value) (wx : World) : Prop := ∃ (g11 : Nat) (mt u : ByteArray) (A : Option Addr) (k c : Nat) (hs : HBL) (L : Blks), s11 = .pointer (some ⟨g11, 0, none⟩) ∧ mt.size ≤ 10 ∧ u.size ≤ 20 ∧ hs.length = k ∧ k ≤ 4 ∧ IsHeads (.slice A k c) hs L ∧ HSz 20 hs ∧ Own w0 wx ((g11, .cells (av mt u (.slice A k c) body).toArray 24) :: (g10, .cells (av ⟨#[]⟩ ⟨#[]⟩ (.slice none 0 0) ⟨#[]⟩).toArray 24) :: (L ++ R))
def MidOg (w0 : World) (R : Blks) (g10 g11 : Nat) (mt u body : ByteArray) (hs : HBL) (k : Nat) (p q : ByteArray) (s48 : Value) (wx : World) : Prop := ∃ (A : Option Addr) (c : Nat) (L : Blks), IsHeads (.slice A (k + 1) c) (hs ++ [(p, q)]) L ∧ Own w0 wx ((g11, .cells (av mt u (.slice A (k + 1) c) body).toArray 24) :: (g10, .cells (av ⟨#[]⟩ ⟨#[]⟩ (.slice none 0 0) ⟨#[]⟩).toArray 24) :: (L ++ R))
/-- What Of answers: a request of so many bytes, its headers in blocks of their own. -/
def GotOf (w0 : World) (R : Blks) (k : Nat) (body : ByteArray) (e : Ending) (w' : World) : Prop := ∃ mt u v hs L, e = .returned (.agg (av mt u v body).toArray) ∧ mt.size ≤ 10 + k ∧ u.size ≤ 60 + k ∧ hs.length ≤ 8 ∧ IsHeads v hs L ∧ (headsP (hl hs)).length ≤ 300 + k ∧ Own w0 w' (L ++ R)
set_option maxRecDepth 100000 in
set_option maxHeartbeats 16000000 in
theorem of_c {w0 w : World} {R : Blks} (hO : Own w0 w R) (n m how : Int) (s body : ByteArray) (hs : s.size ≤ 1073741824) :
    Calls Tryz.prog 5 #[.int .i64 n, .int .i64 m, .int .i64 how, .string s, .string body] w (GotOf w0 R s.size body) := by
  have HO := Lib.hid hO; have HSS := Lib.hid hs
  have q := fun w : World => within_n (w := w) n 4 (by omega) (by omega)
  have hj : (n % 4).toNat < 4 := by omega
  generalize (n % 4).toNat = j at *
  have HQ := Lib.hid q
  obtain ⟨mt, hmt⟩ : ∃ mt, meB[j]? = some mt := ⟨_, List.getElem?_eq_getElem hj⟩
  have HMT := Lib.hid (meB_size mt (List.mem_of_getElem? hmt))
  have hc : ∀ (w' : World) (L' : Blks) (g : Nat), Own w0 w' L' → (g, Obj.cells (meB.map Value.string).toArray 9) ∈ L' → w'.cell? ⟨g, j, none⟩ = some (.string mt) := fun w' L' g h hm => (h.cell hm j).trans (by simp [hmt])
  have HC := Lib.hid hc
  have hjI : (j : Int) < 4 := by omega
  clear hO hs q hmt hc
  go_enter Tryz.func5, Tryz.ntmps5
  go_upto_region 1 with (refine wl_alloc rfl _ rfl HO.out _ (alloc_ask _) ?_; intro g10 w1 hO; have HO1 := Lib.hid hO; clear hO HO)
  simp only [Act.put, List.setIfInBounds_toArray, List.set_cons_zero, List.set_cons_succ]
  go_cut [11] (fun s11 wx => MidOf w0 R g10 body s11 wx)
  case first =>
    rename_i JJ KK hJJ hKK
    --REGION1
    refine wp_region_tree3 (fun w' => Own w0 w' ((g10, .cells (av ⟨#[]⟩ ⟨#[]⟩ (.slice none 0 0) ⟨#[]⟩).toArray 24) :: R)) 12 (.q 1 (.q 2 (.q 5 (.q 7 (.q 9 (.three 0 (.q 3 (.q 4 (.two 6 (.two 8 (.q 10 (.one 11 .done)) 11 (.one 8 (.q 10 .done))) 11 (.one 6 (.one 8 (.q 10 .done)))))) 6 (.three 0 (.q 3 (.q 4 (.two 8 (.q 10 (.one 11 .done)) 11 (.one 8 (.q 10 .done))))) 8 (.two 0 (.q 3 (.q 4 (.q 10 (.one 11 .done)))) 11 (.one 0 (.q 3 (.q 4 (.q 10 .done))))) 11 (.two 0 (.q 3 (.q 4 (.one 8 (.q 10 .done)))) 8 (.one 0 (.q 3 (.q 4 (.q 10 .done)))))) 11 (.two 0 (.q 3 (.q 4 (.one 6 (.one 8 (.q 10 .done))))) 6 (.two 0 (.q 3 (.q 4 (.one 8 (.q 10 .done)))) 8 (.one 0 (.q 3 (.q 4 (.q 10 .done)))))))))))) (by kernel_rfl) (by decide +kernel) (fun _ _ d _ _ h => by cases d <;> exact h) (HO1.out.drew.sub (List.Sublist.refl _)) ?_
    simp only [List.drop_succ_cons, List.drop_zero]
    have HT := Lib.hid HO1.out.drew; clear HO1
    generalize w1.drew = wdr at *
    refine t3_q ?_ rfl ?_ ?_; rotate_left 1; (focus (rintro w' hO; simp only [pick_zero, pick_succ]; go_simp; first | done | with_reducible rfl | (trace_state; fail))); simp only [pick_zero, pick_succ]; simp only [Act.put, List.setIfInBounds_toArray, List.set_cons_zero, List.set_cons_succ]
    refine t3_call (.int .i64 j) rfl 9 #[.int .i64 n, .int .i64 4] (fun w' => by simp only [pick_zero, pick_succ]; go_simp) (fun w' _ => HQ.out w') ?_; simp only [pick_zero, pick_succ]; simp only [Act.put, List.setIfInBounds_toArray, List.set_cons_zero, List.set_cons_succ]
    refine t3_q ?_ rfl ?_ ?_; rotate_left 1; (focus (rintro w' hO; simp only [pick_zero, pick_succ]; go_simp; first | done | with_reducible rfl | (trace_state; fail))); simp only [pick_zero, pick_succ]; simp only [Act.put, List.setIfInBounds_toArray, List.set_cons_zero, List.set_cons_succ]
    refine t3_q ?_ rfl ?_ ?_; rotate_left 1; (focus (rintro w' hO; simp only [pick_zero, pick_succ]; go_simp; first | done | with_reducible rfl | (trace_state; fail))); simp only [pick_zero, pick_succ]; simp only [Act.put, List.setIfInBounds_toArray, List.set_cons_zero, List.set_cons_succ]
    refine t3_q ?_ rfl ?_ ?_; rotate_left 1; (focus (rintro w' hO; simp only [pick_zero, pick_succ]; go_simp; first | done | with_reducible rfl | (trace_state; fail))); simp only [pick_zero, pick_succ]; simp only [Act.put, List.setIfInBounds_toArray, List.set_cons_zero, List.set_cons_succ]
    refine t3_three ?_ ?_ ?_
    · simp only [pick_zero, pick_succ]
      refine wl_buildSlice rfl _ 4 [(0, _), (1, _), (2, _), (3, _)] rfl HT.out _ (build_me _) ?_
      intro ga wx0 hO; have HT0 := Lib.hid hO; clear hO HT
      refine ActPost.mk (fun w' => Own w0 w' ((ga, .cells (meB.map Value.string).toArray 9) :: (g10, .cells (av ⟨#[]⟩ ⟨#[]⟩ (.slice none 0 0) ⟨#[]⟩).toArray 24) :: R)) (fun w' h => h.tail) (HT0.out.sub (List.Sublist.cons_cons _ (List.Sublist.refl _))) ?_; simp only [Act.put, List.setIfInBounds_toArray, List.set_cons_zero, List.set_cons_succ]
      refine t3_q ?_ rfl ?_ ?_; rotate_left 1; (focus (rintro w' hO; simp only [pick_zero, pick_succ]; go_simp; first | done | with_reducible rfl | (trace_state; fail))); simp only [pick_zero, pick_succ]; simp only [Act.put, List.setIfInBounds_toArray, List.set_cons_zero, List.set_cons_succ]
      refine t3_q ?_ rfl ?_ ?_; rotate_left 1; (focus (rintro w' hO; have hc := HC.out w' _ ga hO (.head _); simp only [pick_zero, pick_succ]; go_simp; first | done | with_reducible rfl | (trace_state; fail))); simp only [pick_zero, pick_succ]; simp only [Act.put, List.setIfInBounds_toArray, List.set_cons_zero, List.set_cons_succ]
      refine t3_two ?_ ?_
      · simp only [pick_zero, pick_succ]
        refine wl_call rfl _ _ _ (by go_simp) (qurl_c HT0.out n) ?_
        rintro e wx6 ⟨u, rfl, hu, hO⟩; have HT06 := Lib.hid hO; have HU := Lib.hid hu; clear hO hu HT0
        refine ⟨_, rfl, ActPost.mk (fun w' => Own w0 w' ((ga, .cells (meB.map Value.string).toArray 9) :: (g10, .cells (av ⟨#[]⟩ ⟨#[]⟩ (.slice none 0 0) ⟨#[]⟩).toArray 24) :: R)) (fun w' h => h) (HT06.out.sub (List.Sublist.cons_cons _ (List.Sublist.refl _))) ?_⟩; simp only [Act.put, List.setIfInBounds_toArray, List.set_cons_zero, List.set_cons_succ]
        refine t3_two ?_ ?_
        · simp only [pick_zero, pick_succ]
          refine wl_call rfl _ _ _ (by go_simp) (pheads_c HT06.out m ⟨#[]⟩) ?_
          rintro e wx8 ⟨vh, hs, L, rfl, hih, hl4, hsz, hO⟩
          obtain ⟨Ah, ch, hvh⟩ := IsRow.val hih; subst hvh
          have HT068 : Hid (Own w0 wx8 ((ga, .cells (meB.map Value.string).toArray 9) :: (g10, .cells (av ⟨#[]⟩ ⟨#[]⟩ (.slice none 0 0) ⟨#[]⟩).toArray 24) :: (L ++ R))) := Lib.hid (Own.rot (A := L) (B := [(ga, .cells (meB.map Value.string).toArray 9), (g10, .cells (av ⟨#[]⟩ ⟨#[]⟩ (.slice none 0 0) ⟨#[]⟩).toArray 24)]) hO)
          have HIH : Hid (IsHeads (.slice Ah hs.length ch) hs L ∧ hs.length ≤ 4 ∧ HSz 20 hs) := Lib.hid ⟨hih, hl4, hsz⟩
          clear hO hih hl4 hsz HT06
          refine ⟨_, rfl, ActPost.mk (fun w' => Own w0 w' ((ga, .cells (meB.map Value.string).toArray 9) :: (g10, .cells (av ⟨#[]⟩ ⟨#[]⟩ (.slice none 0 0) ⟨#[]⟩).toArray 24) :: R)) (fun w' h => h) (HT068.out.sub (List.Sublist.cons_cons _ (List.Sublist.cons_cons _ (List.sublist_append_right _ _)))) ?_⟩; simp only [Act.put, List.setIfInBounds_toArray, List.set_cons_zero, List.set_cons_succ]
          refine t3_q ?_ rfl ?_ ?_; rotate_left 1; (focus (rintro w' hO; simp only [pick_zero, pick_succ]; go_simp; first | done | with_reducible rfl | (trace_state; fail))); simp only [pick_zero, pick_succ]; simp only [Act.put, List.setIfInBounds_toArray, List.set_cons_zero, List.set_cons_succ]
          refine t3_one ?_
          simp only [pick_zero, pick_succ]
          refine wl_alloc rfl _ rfl HT068.out _ (alloc_ask _) ?_
          intro g11 wx11 hO; have HT06811 := Lib.hid hO; clear hO HT068
          refine ActPost.mk (fun w' => Own w0 w' ((g11, .cells (av ⟨#[]⟩ ⟨#[]⟩ (.slice none 0 0) ⟨#[]⟩).toArray 24) :: (ga, .cells (meB.map Value.string).toArray 9) :: (g10, .cells (av ⟨#[]⟩ ⟨#[]⟩ (.slice none 0 0) ⟨#[]⟩).toArray 24) :: R)) (fun w' h => h.tail) (HT06811.out.sub (List.Sublist.cons_cons _ (List.Sublist.cons_cons _ (List.Sublist.cons_cons _ (List.sublist_append_right _ _))))) ?_; simp only [Act.put, List.setIfInBounds_toArray, List.set_cons_zero, List.set_cons_succ]
          refine t3_done ?_
          refine wl_store rfl _ _ _ rfl HT06811.out 0 g11 0 _ (av mt u (.slice Ah hs.length ch) body) _ rfl (by rfl) (by rfl) ask_size (one_av rfl) (by simp [av]) ?_
          intro wy hO
          have HY : Hid (Own w0 wy ((g11, .cells (av mt u (.slice Ah hs.length ch) body).toArray 24) :: (ga, .cells (meB.map Value.string).toArray 9) :: (g10, .cells (av ⟨#[]⟩ ⟨#[]⟩ (.slice none 0 0) ⟨#[]⟩).toArray 24) :: (L ++ R))) := Lib.hid (hO.cast rfl)
          clear hO
          refine hKK _ _ ?_
          simp only [Act.put, List.setIfInBounds_toArray, List.set_cons_zero, List.set_cons_succ]
          go_meet
          exact ⟨g11, mt, u, Ah, _, ch, hs, L, rfl, HMT.out, HU.out, rfl, HIH.out.2.1, HIH.out.1, HIH.out.2.2, HY.out.sub (List.Sublist.cons_cons _ (List.Sublist.cons _ (List.Sublist.refl _)))⟩
        · simp only [pick_zero, pick_succ]
          refine wl_alloc rfl _ rfl HT06.out _ (alloc_ask _) ?_
          intro g11 wx11 hO; have HT0611 := Lib.hid hO; clear hO HT06
          refine ActPost.mk (fun w' => Own w0 w' ((g11, .cells (av ⟨#[]⟩ ⟨#[]⟩ (.slice none 0 0) ⟨#[]⟩).toArray 24) :: (ga, .cells (meB.map Value.string).toArray 9) :: (g10, .cells (av ⟨#[]⟩ ⟨#[]⟩ (.slice none 0 0) ⟨#[]⟩).toArray 24) :: R)) (fun w' h => h.tail) (HT0611.out.sub (List.Sublist.cons_cons _ (List.Sublist.cons_cons _ (List.Sublist.refl _)))) ?_; simp only [Act.put, List.setIfInBounds_toArray, List.set_cons_zero, List.set_cons_succ]
          refine t3_one ?_
          simp only [pick_zero, pick_succ]
          refine wl_call rfl _ _ _ (by go_simp) (pheads_c HT0611.out m ⟨#[]⟩) ?_
          rintro e wx8 ⟨vh, hs, L, rfl, hih, hl4, hsz, hO⟩
          obtain ⟨Ah, ch, hvh⟩ := IsRow.val hih; subst hvh
          have HT06118 : Hid (Own w0 wx8 ((g11, .cells (av ⟨#[]⟩ ⟨#[]⟩ (.slice none 0 0) ⟨#[]⟩).toArray 24) :: (ga, .cells (meB.map Value.string).toArray 9) :: (g10, .cells (av ⟨#[]⟩ ⟨#[]⟩ (.slice none 0 0) ⟨#[]⟩).toArray 24) :: (L ++ R))) := Lib.hid (Own.rot (A := L) (B := [(g11, .cells (av ⟨#[]⟩ ⟨#[]⟩ (.slice none 0 0) ⟨#[]⟩).toArray 24), (ga, .cells (meB.map Value.string).toArray 9), (g10, .cells (av ⟨#[]⟩ ⟨#[]⟩ (.slice none 0 0) ⟨#[]⟩).toArray 24)]) hO)
          have HIH : Hid (IsHeads (.slice Ah hs.length ch) hs L ∧ hs.length ≤ 4 ∧ HSz 20 hs) := Lib.hid ⟨hih, hl4, hsz⟩
          clear hO hih hl4 hsz HT0611
          refine ⟨_, rfl, ActPost.mk (fun w' => Own w0 w' ((g11, .cells (av ⟨#[]⟩ ⟨#[]⟩ (.slice none 0 0) ⟨#[]⟩).toArray 24) :: (ga, .cells (meB.map Value.string).toArray 9) :: (g10, .cells (av ⟨#[]⟩ ⟨#[]⟩ (.slice none 0 0) ⟨#[]⟩).toArray 24) :: R)) (fun w' h => h) (HT06118.out.sub (List.Sublist.cons_cons _ (List.Sublist.cons_cons _ (List.Sublist.cons_cons _ (List.sublist_append_right _ _))))) ?_⟩; simp only [Act.put, List.setIfInBounds_toArray, List.set_cons_zero, List.set_cons_succ]
          refine t3_q ?_ rfl ?_ ?_; rotate_left 1; (focus (rintro w' hO; simp only [pick_zero, pick_succ]; go_simp; first | done | with_reducible rfl | (trace_state; fail))); simp only [pick_zero, pick_succ]; simp only [Act.put, List.setIfInBounds_toArray, List.set_cons_zero, List.set_cons_succ]
          refine t3_done ?_
          refine wl_store rfl _ _ _ rfl HT06118.out 0 g11 0 _ (av mt u (.slice Ah hs.length ch) body) _ rfl (by rfl) (by rfl) ask_size (one_av rfl) (by simp [av]) ?_
          intro wy hO
          have HY : Hid (Own w0 wy ((g11, .cells (av mt u (.slice Ah hs.length ch) body).toArray 24) :: (ga, .cells (meB.map Value.string).toArray 9) :: (g10, .cells (av ⟨#[]⟩ ⟨#[]⟩ (.slice none 0 0) ⟨#[]⟩).toArray 24) :: (L ++ R))) := Lib.hid (hO.cast rfl)
          clear hO
          refine hKK _ _ ?_
          simp only [Act.put, List.setIfInBounds_toArray, List.set_cons_zero, List.set_cons_succ]
          go_meet
          exact ⟨g11, mt, u, Ah, _, ch, hs, L, rfl, HMT.out, HU.out, rfl, HIH.out.2.1, HIH.out.1, HIH.out.2.2, HY.out.sub (List.Sublist.cons_cons _ (List.Sublist.cons _ (List.Sublist.refl _)))⟩
      · simp only [pick_zero, pick_succ]
        refine wl_alloc rfl _ rfl HT0.out _ (alloc_ask _) ?_
        intro g11 wx11 hO; have HT011 := Lib.hid hO; clear hO HT0
        refine ActPost.mk (fun w' => Own w0 w' ((g11, .cells (av ⟨#[]⟩ ⟨#[]⟩ (.slice none 0 0) ⟨#[]⟩).toArray 24) :: (ga, .cells (meB.map Value.string).toArray 9) :: (g10, .cells (av ⟨#[]⟩ ⟨#[]⟩ (.slice none 0 0) ⟨#[]⟩).toArray 24) :: R)) (fun w' h => h.tail) (HT011.out.sub (List.Sublist.cons_cons _ (List.Sublist.cons_cons _ (List.Sublist.refl _)))) ?_; simp only [Act.put, List.setIfInBounds_toArray, List.set_cons_zero, List.set_cons_succ]
        refine t3_one ?_
        simp only [pick_zero, pick_succ]
        refine wl_call rfl _ _ _ (by go_simp) (qurl_c HT011.out n) ?_
        rintro e wx6 ⟨u, rfl, hu, hO⟩; have HT0116 := Lib.hid hO; have HU := Lib.hid hu; clear hO hu HT011
        refine ⟨_, rfl, ActPost.mk (fun w' => Own w0 w' ((g11, .cells (av ⟨#[]⟩ ⟨#[]⟩ (.slice none 0 0) ⟨#[]⟩).toArray 24) :: (ga, .cells (meB.map Value.string).toArray 9) :: (g10, .cells (av ⟨#[]⟩ ⟨#[]⟩ (.slice none 0 0) ⟨#[]⟩).toArray 24) :: R)) (fun w' h => h) (HT0116.out.sub (List.Sublist.cons_cons _ (List.Sublist.cons_cons _ (List.Sublist.refl _)))) ?_⟩; simp only [Act.put, List.setIfInBounds_toArray, List.set_cons_zero, List.set_cons_succ]
        refine t3_one ?_
        simp only [pick_zero, pick_succ]
        refine wl_call rfl _ _ _ (by go_simp) (pheads_c HT0116.out m ⟨#[]⟩) ?_
        rintro e wx8 ⟨vh, hs, L, rfl, hih, hl4, hsz, hO⟩
        obtain ⟨Ah, ch, hvh⟩ := IsRow.val hih; subst hvh
        have HT01168 : Hid (Own w0 wx8 ((g11, .cells (av ⟨#[]⟩ ⟨#[]⟩ (.slice none 0 0) ⟨#[]⟩).toArray 24) :: (ga, .cells (meB.map Value.string).toArray 9) :: (g10, .cells (av ⟨#[]⟩ ⟨#[]⟩ (.slice none 0 0) ⟨#[]⟩).toArray 24) :: (L ++ R))) := Lib.hid (Own.rot (A := L) (B := [(g11, .cells (av ⟨#[]⟩ ⟨#[]⟩ (.slice none 0 0) ⟨#[]⟩).toArray 24), (ga, .cells (meB.map Value.string).toArray 9), (g10, .cells (av ⟨#[]⟩ ⟨#[]⟩ (.slice none 0 0) ⟨#[]⟩).toArray 24)]) hO)
        have HIH : Hid (IsHeads (.slice Ah hs.length ch) hs L ∧ hs.length ≤ 4 ∧ HSz 20 hs) := Lib.hid ⟨hih, hl4, hsz⟩
        clear hO hih hl4 hsz HT0116
        refine ⟨_, rfl, ActPost.mk (fun w' => Own w0 w' ((g11, .cells (av ⟨#[]⟩ ⟨#[]⟩ (.slice none 0 0) ⟨#[]⟩).toArray 24) :: (ga, .cells (meB.map Value.string).toArray 9) :: (g10, .cells (av ⟨#[]⟩ ⟨#[]⟩ (.slice none 0 0) ⟨#[]⟩).toArray 24) :: R)) (fun w' h => h) (HT01168.out.sub (List.Sublist.cons_cons _ (List.Sublist.cons_cons _ (List.Sublist.cons_cons _ (List.sublist_append_right _ _))))) ?_⟩; simp only [Act.put, List.setIfInBounds_toArray, List.set_cons_zero, List.set_cons_succ]
        refine t3_q ?_ rfl ?_ ?_; rotate_left 1; (focus (rintro w' hO; simp only [pick_zero, pick_succ]; go_simp; first | done | with_reducible rfl | (trace_state; fail))); simp only [pick_zero, pick_succ]; simp only [Act.put, List.setIfInBounds_toArray, List.set_cons_zero, List.set_cons_succ]
        refine t3_done ?_
        refine wl_store rfl _ _ _ rfl HT01168.out 0 g11 0 _ (av mt u (.slice Ah hs.length ch) body) _ rfl (by rfl) (by rfl) ask_size (one_av rfl) (by simp [av]) ?_
        intro wy hO
        have HY : Hid (Own w0 wy ((g11, .cells (av mt u (.slice Ah hs.length ch) body).toArray 24) :: (ga, .cells (meB.map Value.string).toArray 9) :: (g10, .cells (av ⟨#[]⟩ ⟨#[]⟩ (.slice none 0 0) ⟨#[]⟩).toArray 24) :: (L ++ R))) := Lib.hid (hO.cast rfl)
        clear hO
        refine hKK _ _ ?_
        simp only [Act.put, List.setIfInBounds_toArray, List.set_cons_zero, List.set_cons_succ]
        go_meet
        exact ⟨g11, mt, u, Ah, _, ch, hs, L, rfl, HMT.out, HU.out, rfl, HIH.out.2.1, HIH.out.1, HIH.out.2.2, HY.out.sub (List.Sublist.cons_cons _ (List.Sublist.cons _ (List.Sublist.refl _)))⟩
    · simp only [pick_zero, pick_succ]
      refine wl_call rfl _ _ _ (by go_simp) (qurl_c HT.out n) ?_
      rintro e wx6 ⟨u, rfl, hu, hO⟩; have HT6 := Lib.hid hO; have HU := Lib.hid hu; clear hO hu HT
      refine ⟨_, rfl, ActPost.mk (fun w' => Own w0 w' ((g10, .cells (av ⟨#[]⟩ ⟨#[]⟩ (.slice none 0 0) ⟨#[]⟩).toArray 24) :: R)) (fun w' h => h) (HT6.out.sub (List.Sublist.refl _)) ?_⟩; simp only [Act.put, List.setIfInBounds_toArray, List.set_cons_zero, List.set_cons_succ]
      refine t3_three ?_ ?_ ?_
      · simp only [pick_zero, pick_succ]
        refine wl_buildSlice rfl _ 4 [(0, _), (1, _), (2, _), (3, _)] rfl HT6.out _ (build_me _) ?_
        intro ga wx0 hO; have HT60 := Lib.hid hO; clear hO HT6
        refine ActPost.mk (fun w' => Own w0 w' ((ga, .cells (meB.map Value.string).toArray 9) :: (g10, .cells (av ⟨#[]⟩ ⟨#[]⟩ (.slice none 0 0) ⟨#[]⟩).toArray 24) :: R)) (fun w' h => h.tail) (HT60.out.sub (List.Sublist.cons_cons _ (List.Sublist.refl _))) ?_; simp only [Act.put, List.setIfInBounds_toArray, List.set_cons_zero, List.set_cons_succ]
        refine t3_q ?_ rfl ?_ ?_; rotate_left 1; (focus (rintro w' hO; simp only [pick_zero, pick_succ]; go_simp; first | done | with_reducible rfl | (trace_state; fail))); simp only [pick_zero, pick_succ]; simp only [Act.put, List.setIfInBounds_toArray, List.set_cons_zero, List.set_cons_succ]
        refine t3_q ?_ rfl ?_ ?_; rotate_left 1; (focus (rintro w' hO; have hc := HC.out w' _ ga hO (.head _); simp only [pick_zero, pick_succ]; go_simp; first | done | with_reducible rfl | (trace_state; fail))); simp only [pick_zero, pick_succ]; simp only [Act.put, List.setIfInBounds_toArray, List.set_cons_zero, List.set_cons_succ]
        refine t3_two ?_ ?_
        · simp only [pick_zero, pick_succ]
          refine wl_call rfl _ _ _ (by go_simp) (pheads_c HT60.out m ⟨#[]⟩) ?_
          rintro e wx8 ⟨vh, hs, L, rfl, hih, hl4, hsz, hO⟩
          obtain ⟨Ah, ch, hvh⟩ := IsRow.val hih; subst hvh
          have HT608 : Hid (Own w0 wx8 ((ga, .cells (meB.map Value.string).toArray 9) :: (g10, .cells (av ⟨#[]⟩ ⟨#[]⟩ (.slice none 0 0) ⟨#[]⟩).toArray 24) :: (L ++ R))) := Lib.hid (Own.rot (A := L) (B := [(ga, .cells (meB.map Value.string).toArray 9), (g10, .cells (av ⟨#[]⟩ ⟨#[]⟩ (.slice none 0 0) ⟨#[]⟩).toArray 24)]) hO)
          have HIH : Hid (IsHeads (.slice Ah hs.length ch) hs L ∧ hs.length ≤ 4 ∧ HSz 20 hs) := Lib.hid ⟨hih, hl4, hsz⟩
          clear hO hih hl4 hsz HT60
          refine ⟨_, rfl, ActPost.mk (fun w' => Own w0 w' ((ga, .cells (meB.map Value.string).toArray 9) :: (g10, .cells (av ⟨#[]⟩ ⟨#[]⟩ (.slice none 0 0) ⟨#[]⟩).toArray 24) :: R)) (fun w' h => h) (HT608.out.sub (List.Sublist.cons_cons _ (List.Sublist.cons_cons _ (List.sublist_append_right _ _)))) ?_⟩; simp only [Act.put, List.setIfInBounds_toArray, List.set_cons_zero, List.set_cons_succ]
          refine t3_q ?_ rfl ?_ ?_; rotate_left 1; (focus (rintro w' hO; simp only [pick_zero, pick_succ]; go_simp; first | done | with_reducible rfl | (trace_state; fail))); simp only [pick_zero, pick_succ]; simp only [Act.put, List.setIfInBounds_toArray, List.set_cons_zero, List.set_cons_succ]
          refine t3_one ?_
          simp only [pick_zero, pick_succ]
          refine wl_alloc rfl _ rfl HT608.out _ (alloc_ask _) ?_
          intro g11 wx11 hO; have HT60811 := Lib.hid hO; clear hO HT608
          refine ActPost.mk (fun w' => Own w0 w' ((g11, .cells (av ⟨#[]⟩ ⟨#[]⟩ (.slice none 0 0) ⟨#[]⟩).toArray 24) :: (ga, .cells (meB.map Value.string).toArray 9) :: (g10, .cells (av ⟨#[]⟩ ⟨#[]⟩ (.slice none 0 0) ⟨#[]⟩).toArray 24) :: R)) (fun w' h => h.tail) (HT60811.out.sub (List.Sublist.cons_cons _ (List.Sublist.cons_cons _ (List.Sublist.cons_cons _ (List.sublist_append_right _ _))))) ?_; simp only [Act.put, List.setIfInBounds_toArray, List.set_cons_zero, List.set_cons_succ]
          refine t3_done ?_
          refine wl_store rfl _ _ _ rfl HT60811.out 0 g11 0 _ (av mt u (.slice Ah hs.length ch) body) _ rfl (by rfl) (by rfl) ask_size (one_av rfl) (by simp [av]) ?_
          intro wy hO
          have HY : Hid (Own w0 wy ((g11, .cells (av mt u (.slice Ah hs.length ch) body).toArray 24) :: (ga, .cells (meB.map Value.string).toArray 9) :: (g10, .cells (av ⟨#[]⟩ ⟨#[]⟩ (.slice none 0 0) ⟨#[]⟩).toArray 24) :: (L ++ R))) := Lib.hid (hO.cast rfl)
          clear hO
          refine hKK _ _ ?_
          simp only [Act.put, List.setIfInBounds_toArray, List.set_cons_zero, List.set_cons_succ]
          go_meet
          exact ⟨g11, mt, u, Ah, _, ch, hs, L, rfl, HMT.out, HU.out, rfl, HIH.out.2.1, HIH.out.1, HIH.out.2.2, HY.out.sub (List.Sublist.cons_cons _ (List.Sublist.cons _ (List.Sublist.refl _)))⟩
        · simp only [pick_zero, pick_succ]
          refine wl_alloc rfl _ rfl HT60.out _ (alloc_ask _) ?_
          intro g11 wx11 hO; have HT6011 := Lib.hid hO; clear hO HT60
          refine ActPost.mk (fun w' => Own w0 w' ((g11, .cells (av ⟨#[]⟩ ⟨#[]⟩ (.slice none 0 0) ⟨#[]⟩).toArray 24) :: (ga, .cells (meB.map Value.string).toArray 9) :: (g10, .cells (av ⟨#[]⟩ ⟨#[]⟩ (.slice none 0 0) ⟨#[]⟩).toArray 24) :: R)) (fun w' h => h.tail) (HT6011.out.sub (List.Sublist.cons_cons _ (List.Sublist.cons_cons _ (List.Sublist.refl _)))) ?_; simp only [Act.put, List.setIfInBounds_toArray, List.set_cons_zero, List.set_cons_succ]
          refine t3_one ?_
          simp only [pick_zero, pick_succ]
          refine wl_call rfl _ _ _ (by go_simp) (pheads_c HT6011.out m ⟨#[]⟩) ?_
          rintro e wx8 ⟨vh, hs, L, rfl, hih, hl4, hsz, hO⟩
          obtain ⟨Ah, ch, hvh⟩ := IsRow.val hih; subst hvh
          have HT60118 : Hid (Own w0 wx8 ((g11, .cells (av ⟨#[]⟩ ⟨#[]⟩ (.slice none 0 0) ⟨#[]⟩).toArray 24) :: (ga, .cells (meB.map Value.string).toArray 9) :: (g10, .cells (av ⟨#[]⟩ ⟨#[]⟩ (.slice none 0 0) ⟨#[]⟩).toArray 24) :: (L ++ R))) := Lib.hid (Own.rot (A := L) (B := [(g11, .cells (av ⟨#[]⟩ ⟨#[]⟩ (.slice none 0 0) ⟨#[]⟩).toArray 24), (ga, .cells (meB.map Value.string).toArray 9), (g10, .cells (av ⟨#[]⟩ ⟨#[]⟩ (.slice none 0 0) ⟨#[]⟩).toArray 24)]) hO)
          have HIH : Hid (IsHeads (.slice Ah hs.length ch) hs L ∧ hs.length ≤ 4 ∧ HSz 20 hs) := Lib.hid ⟨hih, hl4, hsz⟩
          clear hO hih hl4 hsz HT6011
          refine ⟨_, rfl, ActPost.mk (fun w' => Own w0 w' ((g11, .cells (av ⟨#[]⟩ ⟨#[]⟩ (.slice none 0 0) ⟨#[]⟩).toArray 24) :: (ga, .cells (meB.map Value.string).toArray 9) :: (g10, .cells (av ⟨#[]⟩ ⟨#[]⟩ (.slice none 0 0) ⟨#[]⟩).toArray 24) :: R)) (fun w' h => h) (HT60118.out.sub (List.Sublist.cons_cons _ (List.Sublist.cons_cons _ (List.Sublist.cons_cons _ (List.sublist_append_right _ _))))) ?_⟩; simp only [Act.put, List.setIfInBounds_toArray, List.set_cons_zero, List.set_cons_succ]
          refine t3_q ?_ rfl ?_ ?_; rotate_left 1; (focus (rintro w' hO; simp only [pick_zero, pick_succ]; go_simp; first | done | with_reducible rfl | (trace_state; fail))); simp only [pick_zero, pick_succ]; simp only [Act.put, List.setIfInBounds_toArray, List.set_cons_zero, List.set_cons_succ]
          refine t3_done ?_
          refine wl_store rfl _ _ _ rfl HT60118.out 0 g11 0 _ (av mt u (.slice Ah hs.length ch) body) _ rfl (by rfl) (by rfl) ask_size (one_av rfl) (by simp [av]) ?_
          intro wy hO
          have HY : Hid (Own w0 wy ((g11, .cells (av mt u (.slice Ah hs.length ch) body).toArray 24) :: (ga, .cells (meB.map Value.string).toArray 9) :: (g10, .cells (av ⟨#[]⟩ ⟨#[]⟩ (.slice none 0 0) ⟨#[]⟩).toArray 24) :: (L ++ R))) := Lib.hid (hO.cast rfl)
          clear hO
          refine hKK _ _ ?_
          simp only [Act.put, List.setIfInBounds_toArray, List.set_cons_zero, List.set_cons_succ]
          go_meet
          exact ⟨g11, mt, u, Ah, _, ch, hs, L, rfl, HMT.out, HU.out, rfl, HIH.out.2.1, HIH.out.1, HIH.out.2.2, HY.out.sub (List.Sublist.cons_cons _ (List.Sublist.cons _ (List.Sublist.refl _)))⟩
      · simp only [pick_zero, pick_succ]
        refine wl_call rfl _ _ _ (by go_simp) (pheads_c HT6.out m ⟨#[]⟩) ?_
        rintro e wx8 ⟨vh, hs, L, rfl, hih, hl4, hsz, hO⟩
        obtain ⟨Ah, ch, hvh⟩ := IsRow.val hih; subst hvh
        have HT68 : Hid (Own w0 wx8 ((g10, .cells (av ⟨#[]⟩ ⟨#[]⟩ (.slice none 0 0) ⟨#[]⟩).toArray 24) :: (L ++ R))) := Lib.hid (Own.rot (A := L) (B := [(g10, .cells (av ⟨#[]⟩ ⟨#[]⟩ (.slice none 0 0) ⟨#[]⟩).toArray 24)]) hO)
        have HIH : Hid (IsHeads (.slice Ah hs.length ch) hs L ∧ hs.length ≤ 4 ∧ HSz 20 hs) := Lib.hid ⟨hih, hl4, hsz⟩
        clear hO hih hl4 hsz HT6
        refine ⟨_, rfl, ActPost.mk (fun w' => Own w0 w' ((g10, .cells (av ⟨#[]⟩ ⟨#[]⟩ (.slice none 0 0) ⟨#[]⟩).toArray 24) :: R)) (fun w' h => h) (HT68.out.sub (List.Sublist.cons_cons _ (List.sublist_append_right _ _))) ?_⟩; simp only [Act.put, List.setIfInBounds_toArray, List.set_cons_zero, List.set_cons_succ]
        refine t3_two ?_ ?_
        · simp only [pick_zero, pick_succ]
          refine wl_buildSlice rfl _ 4 [(0, _), (1, _), (2, _), (3, _)] rfl HT68.out _ (build_me _) ?_
          intro ga wx0 hO; have HT680 := Lib.hid hO; clear hO HT68
          refine ActPost.mk (fun w' => Own w0 w' ((ga, .cells (meB.map Value.string).toArray 9) :: (g10, .cells (av ⟨#[]⟩ ⟨#[]⟩ (.slice none 0 0) ⟨#[]⟩).toArray 24) :: R)) (fun w' h => h.tail) (HT680.out.sub (List.Sublist.cons_cons _ (List.Sublist.cons_cons _ (List.sublist_append_right _ _)))) ?_; simp only [Act.put, List.setIfInBounds_toArray, List.set_cons_zero, List.set_cons_succ]
          refine t3_q ?_ rfl ?_ ?_; rotate_left 1; (focus (rintro w' hO; simp only [pick_zero, pick_succ]; go_simp; first | done | with_reducible rfl | (trace_state; fail))); simp only [pick_zero, pick_succ]; simp only [Act.put, List.setIfInBounds_toArray, List.set_cons_zero, List.set_cons_succ]
          refine t3_q ?_ rfl ?_ ?_; rotate_left 1; (focus (rintro w' hO; have hc := HC.out w' _ ga hO (.head _); simp only [pick_zero, pick_succ]; go_simp; first | done | with_reducible rfl | (trace_state; fail))); simp only [pick_zero, pick_succ]; simp only [Act.put, List.setIfInBounds_toArray, List.set_cons_zero, List.set_cons_succ]
          refine t3_q ?_ rfl ?_ ?_; rotate_left 1; (focus (rintro w' hO; simp only [pick_zero, pick_succ]; go_simp; first | done | with_reducible rfl | (trace_state; fail))); simp only [pick_zero, pick_succ]; simp only [Act.put, List.setIfInBounds_toArray, List.set_cons_zero, List.set_cons_succ]
          refine t3_one ?_
          simp only [pick_zero, pick_succ]
          refine wl_alloc rfl _ rfl HT680.out _ (alloc_ask _) ?_
          intro g11 wx11 hO; have HT68011 := Lib.hid hO; clear hO HT680
          refine ActPost.mk (fun w' => Own w0 w' ((g11, .cells (av ⟨#[]⟩ ⟨#[]⟩ (.slice none 0 0) ⟨#[]⟩).toArray 24) :: (ga, .cells (meB.map Value.string).toArray 9) :: (g10, .cells (av ⟨#[]⟩ ⟨#[]⟩ (.slice none 0 0) ⟨#[]⟩).toArray 24) :: R)) (fun w' h => h.tail) (HT68011.out.sub (List.Sublist.cons_cons _ (List.Sublist.cons_cons _ (List.Sublist.cons_cons _ (List.sublist_append_right _ _))))) ?_; simp only [Act.put, List.setIfInBounds_toArray, List.set_cons_zero, List.set_cons_succ]
          refine t3_done ?_
          refine wl_store rfl _ _ _ rfl HT68011.out 0 g11 0 _ (av mt u (.slice Ah hs.length ch) body) _ rfl (by rfl) (by rfl) ask_size (one_av rfl) (by simp [av]) ?_
          intro wy hO
          have HY : Hid (Own w0 wy ((g11, .cells (av mt u (.slice Ah hs.length ch) body).toArray 24) :: (ga, .cells (meB.map Value.string).toArray 9) :: (g10, .cells (av ⟨#[]⟩ ⟨#[]⟩ (.slice none 0 0) ⟨#[]⟩).toArray 24) :: (L ++ R))) := Lib.hid (hO.cast rfl)
          clear hO
          refine hKK _ _ ?_
          simp only [Act.put, List.setIfInBounds_toArray, List.set_cons_zero, List.set_cons_succ]
          go_meet
          exact ⟨g11, mt, u, Ah, _, ch, hs, L, rfl, HMT.out, HU.out, rfl, HIH.out.2.1, HIH.out.1, HIH.out.2.2, HY.out.sub (List.Sublist.cons_cons _ (List.Sublist.cons _ (List.Sublist.refl _)))⟩
        · simp only [pick_zero, pick_succ]
          refine wl_alloc rfl _ rfl HT68.out _ (alloc_ask _) ?_
          intro g11 wx11 hO; have HT6811 := Lib.hid hO; clear hO HT68
          refine ActPost.mk (fun w' => Own w0 w' ((g11, .cells (av ⟨#[]⟩ ⟨#[]⟩ (.slice none 0 0) ⟨#[]⟩).toArray 24) :: (g10, .cells (av ⟨#[]⟩ ⟨#[]⟩ (.slice none 0 0) ⟨#[]⟩).toArray 24) :: R)) (fun w' h => h.tail) (HT6811.out.sub (List.Sublist.cons_cons _ (List.Sublist.cons_cons _ (List.sublist_append_right _ _)))) ?_; simp only [Act.put, List.setIfInBounds_toArray, List.set_cons_zero, List.set_cons_succ]
          refine t3_one ?_
          simp only [pick_zero, pick_succ]
          refine wl_buildSlice rfl _ 4 [(0, _), (1, _), (2, _), (3, _)] rfl HT6811.out _ (build_me _) ?_
          intro ga wx0 hO; have HT68110 := Lib.hid hO; clear hO HT6811
          refine ActPost.mk (fun w' => Own w0 w' ((ga, .cells (meB.map Value.string).toArray 9) :: (g11, .cells (av ⟨#[]⟩ ⟨#[]⟩ (.slice none 0 0) ⟨#[]⟩).toArray 24) :: (g10, .cells (av ⟨#[]⟩ ⟨#[]⟩ (.slice none 0 0) ⟨#[]⟩).toArray 24) :: R)) (fun w' h => h.tail) (HT68110.out.sub (List.Sublist.cons_cons _ (List.Sublist.cons_cons _ (List.Sublist.cons_cons _ (List.sublist_append_right _ _))))) ?_; simp only [Act.put, List.setIfInBounds_toArray, List.set_cons_zero, List.set_cons_succ]
          refine t3_q ?_ rfl ?_ ?_; rotate_left 1; (focus (rintro w' hO; simp only [pick_zero, pick_succ]; go_simp; first | done | with_reducible rfl | (trace_state; fail))); simp only [pick_zero, pick_succ]; simp only [Act.put, List.setIfInBounds_toArray, List.set_cons_zero, List.set_cons_succ]
          refine t3_q ?_ rfl ?_ ?_; rotate_left 1; (focus (rintro w' hO; have hc := HC.out w' _ ga hO (.head _); simp only [pick_zero, pick_succ]; go_simp; first | done | with_reducible rfl | (trace_state; fail))); simp only [pick_zero, pick_succ]; simp only [Act.put, List.setIfInBounds_toArray, List.set_cons_zero, List.set_cons_succ]
          refine t3_q ?_ rfl ?_ ?_; rotate_left 1; (focus (rintro w' hO; simp only [pick_zero, pick_succ]; go_simp; first | done | with_reducible rfl | (trace_state; fail))); simp only [pick_zero, pick_succ]; simp only [Act.put, List.setIfInBounds_toArray, List.set_cons_zero, List.set_cons_succ]
          refine t3_done ?_
          refine wl_store rfl _ _ _ rfl HT68110.out 1 g11 0 _ (av mt u (.slice Ah hs.length ch) body) _ rfl (by rfl) (by rfl) ask_size (one_av rfl) (by simp [av]) ?_
          intro wy hO
          have HY : Hid (Own w0 wy ((ga, .cells (meB.map Value.string).toArray 9) :: (g11, .cells (av mt u (.slice Ah hs.length ch) body).toArray 24) :: (g10, .cells (av ⟨#[]⟩ ⟨#[]⟩ (.slice none 0 0) ⟨#[]⟩).toArray 24) :: (L ++ R))) := Lib.hid (hO.cast rfl)
          clear hO
          refine hKK _ _ ?_
          simp only [Act.put, List.setIfInBounds_toArray, List.set_cons_zero, List.set_cons_succ]
          go_meet
          exact ⟨g11, mt, u, Ah, _, ch, hs, L, rfl, HMT.out, HU.out, rfl, HIH.out.2.1, HIH.out.1, HIH.out.2.2, HY.out.sub (List.Sublist.cons _ (List.Sublist.cons_cons _ (List.Sublist.refl _)))⟩
      · simp only [pick_zero, pick_succ]
        refine wl_alloc rfl _ rfl HT6.out _ (alloc_ask _) ?_
        intro g11 wx11 hO; have HT611 := Lib.hid hO; clear hO HT6
        refine ActPost.mk (fun w' => Own w0 w' ((g11, .cells (av ⟨#[]⟩ ⟨#[]⟩ (.slice none 0 0) ⟨#[]⟩).toArray 24) :: (g10, .cells (av ⟨#[]⟩ ⟨#[]⟩ (.slice none 0 0) ⟨#[]⟩).toArray 24) :: R)) (fun w' h => h.tail) (HT611.out.sub (List.Sublist.cons_cons _ (List.Sublist.refl _))) ?_; simp only [Act.put, List.setIfInBounds_toArray, List.set_cons_zero, List.set_cons_succ]
        refine t3_two ?_ ?_
        · simp only [pick_zero, pick_succ]
          refine wl_buildSlice rfl _ 4 [(0, _), (1, _), (2, _), (3, _)] rfl HT611.out _ (build_me _) ?_
          intro ga wx0 hO; have HT6110 := Lib.hid hO; clear hO HT611
          refine ActPost.mk (fun w' => Own w0 w' ((ga, .cells (meB.map Value.string).toArray 9) :: (g11, .cells (av ⟨#[]⟩ ⟨#[]⟩ (.slice none 0 0) ⟨#[]⟩).toArray 24) :: (g10, .cells (av ⟨#[]⟩ ⟨#[]⟩ (.slice none 0 0) ⟨#[]⟩).toArray 24) :: R)) (fun w' h => h.tail) (HT6110.out.sub (List.Sublist.cons_cons _ (List.Sublist.cons_cons _ (List.Sublist.refl _)))) ?_; simp only [Act.put, List.setIfInBounds_toArray, List.set_cons_zero, List.set_cons_succ]
          refine t3_q ?_ rfl ?_ ?_; rotate_left 1; (focus (rintro w' hO; simp only [pick_zero, pick_succ]; go_simp; first | done | with_reducible rfl | (trace_state; fail))); simp only [pick_zero, pick_succ]; simp only [Act.put, List.setIfInBounds_toArray, List.set_cons_zero, List.set_cons_succ]
          refine t3_q ?_ rfl ?_ ?_; rotate_left 1; (focus (rintro w' hO; have hc := HC.out w' _ ga hO (.head _); simp only [pick_zero, pick_succ]; go_simp; first | done | with_reducible rfl | (trace_state; fail))); simp only [pick_zero, pick_succ]; simp only [Act.put, List.setIfInBounds_toArray, List.set_cons_zero, List.set_cons_succ]
          refine t3_one ?_
          simp only [pick_zero, pick_succ]
          refine wl_call rfl _ _ _ (by go_simp) (pheads_c HT6110.out m ⟨#[]⟩) ?_
          rintro e wx8 ⟨vh, hs, L, rfl, hih, hl4, hsz, hO⟩
          obtain ⟨Ah, ch, hvh⟩ := IsRow.val hih; subst hvh
          have HT61108 : Hid (Own w0 wx8 ((ga, .cells (meB.map Value.string).toArray 9) :: (g11, .cells (av ⟨#[]⟩ ⟨#[]⟩ (.slice none 0 0) ⟨#[]⟩).toArray 24) :: (g10, .cells (av ⟨#[]⟩ ⟨#[]⟩ (.slice none 0 0) ⟨#[]⟩).toArray 24) :: (L ++ R))) := Lib.hid (Own.rot (A := L) (B := [(ga, .cells (meB.map Value.string).toArray 9), (g11, .cells (av ⟨#[]⟩ ⟨#[]⟩ (.slice none 0 0) ⟨#[]⟩).toArray 24), (g10, .cells (av ⟨#[]⟩ ⟨#[]⟩ (.slice none 0 0) ⟨#[]⟩).toArray 24)]) hO)
          have HIH : Hid (IsHeads (.slice Ah hs.length ch) hs L ∧ hs.length ≤ 4 ∧ HSz 20 hs) := Lib.hid ⟨hih, hl4, hsz⟩
          clear hO hih hl4 hsz HT6110
          refine ⟨_, rfl, ActPost.mk (fun w' => Own w0 w' ((ga, .cells (meB.map Value.string).toArray 9) :: (g11, .cells (av ⟨#[]⟩ ⟨#[]⟩ (.slice none 0 0) ⟨#[]⟩).toArray 24) :: (g10, .cells (av ⟨#[]⟩ ⟨#[]⟩ (.slice none 0 0) ⟨#[]⟩).toArray 24) :: R)) (fun w' h => h) (HT61108.out.sub (List.Sublist.cons_cons _ (List.Sublist.cons_cons _ (List.Sublist.cons_cons _ (List.sublist_append_right _ _))))) ?_⟩; simp only [Act.put, List.setIfInBounds_toArray, List.set_cons_zero, List.set_cons_succ]
          refine t3_q ?_ rfl ?_ ?_; rotate_left 1; (focus (rintro w' hO; simp only [pick_zero, pick_succ]; go_simp; first | done | with_reducible rfl | (trace_state; fail))); simp only [pick_zero, pick_succ]; simp only [Act.put, List.setIfInBounds_toArray, List.set_cons_zero, List.set_cons_succ]
          refine t3_done ?_
          refine wl_store rfl _ _ _ rfl HT61108.out 1 g11 0 _ (av mt u (.slice Ah hs.length ch) body) _ rfl (by rfl) (by rfl) ask_size (one_av rfl) (by simp [av]) ?_
          intro wy hO
          have HY : Hid (Own w0 wy ((ga, .cells (meB.map Value.string).toArray 9) :: (g11, .cells (av mt u (.slice Ah hs.length ch) body).toArray 24) :: (g10, .cells (av ⟨#[]⟩ ⟨#[]⟩ (.slice none 0 0) ⟨#[]⟩).toArray 24) :: (L ++ R))) := Lib.hid (hO.cast rfl)
          clear hO
          refine hKK _ _ ?_
          simp only [Act.put, List.setIfInBounds_toArray, List.set_cons_zero, List.set_cons_succ]
          go_meet
          exact ⟨g11, mt, u, Ah, _, ch, hs, L, rfl, HMT.out, HU.out, rfl, HIH.out.2.1, HIH.out.1, HIH.out.2.2, HY.out.sub (List.Sublist.cons _ (List.Sublist.cons_cons _ (List.Sublist.refl _)))⟩
        · simp only [pick_zero, pick_succ]
          refine wl_call rfl _ _ _ (by go_simp) (pheads_c HT611.out m ⟨#[]⟩) ?_
          rintro e wx8 ⟨vh, hs, L, rfl, hih, hl4, hsz, hO⟩
          obtain ⟨Ah, ch, hvh⟩ := IsRow.val hih; subst hvh
          have HT6118 : Hid (Own w0 wx8 ((g11, .cells (av ⟨#[]⟩ ⟨#[]⟩ (.slice none 0 0) ⟨#[]⟩).toArray 24) :: (g10, .cells (av ⟨#[]⟩ ⟨#[]⟩ (.slice none 0 0) ⟨#[]⟩).toArray 24) :: (L ++ R))) := Lib.hid (Own.rot (A := L) (B := [(g11, .cells (av ⟨#[]⟩ ⟨#[]⟩ (.slice none 0 0) ⟨#[]⟩).toArray 24), (g10, .cells (av ⟨#[]⟩ ⟨#[]⟩ (.slice none 0 0) ⟨#[]⟩).toArray 24)]) hO)
          have HIH : Hid (IsHeads (.slice Ah hs.length ch) hs L ∧ hs.length ≤ 4 ∧ HSz 20 hs) := Lib.hid ⟨hih, hl4, hsz⟩
          clear hO hih hl4 hsz HT611
          refine ⟨_, rfl, ActPost.mk (fun w' => Own w0 w' ((g11, .cells (av ⟨#[]⟩ ⟨#[]⟩ (.slice none 0 0) ⟨#[]⟩).toArray 24) :: (g10, .cells (av ⟨#[]⟩ ⟨#[]⟩ (.slice none 0 0) ⟨#[]⟩).toArray 24) :: R)) (fun w' h => h) (HT6118.out.sub (List.Sublist.cons_cons _ (List.Sublist.cons_cons _ (List.sublist_append_right _ _)))) ?_⟩; simp only [Act.put, List.setIfInBounds_toArray, List.set_cons_zero, List.set_cons_succ]
          refine t3_one ?_
          simp only [pick_zero, pick_succ]
          refine wl_buildSlice rfl _ 4 [(0, _), (1, _), (2, _), (3, _)] rfl HT6118.out _ (build_me _) ?_
          intro ga wx0 hO; have HT61180 := Lib.hid hO; clear hO HT6118
          refine ActPost.mk (fun w' => Own w0 w' ((ga, .cells (meB.map Value.string).toArray 9) :: (g11, .cells (av ⟨#[]⟩ ⟨#[]⟩ (.slice none 0 0) ⟨#[]⟩).toArray 24) :: (g10, .cells (av ⟨#[]⟩ ⟨#[]⟩ (.slice none 0 0) ⟨#[]⟩).toArray 24) :: R)) (fun w' h => h.tail) (HT61180.out.sub (List.Sublist.cons_cons _ (List.Sublist.cons_cons _ (List.Sublist.cons_cons _ (List.sublist_append_right _ _))))) ?_; simp only [Act.put, List.setIfInBounds_toArray, List.set_cons_zero, List.set_cons_succ]
          refine t3_q ?_ rfl ?_ ?_; rotate_left 1; (focus (rintro w' hO; simp only [pick_zero, pick_succ]; go_simp; first | done | with_reducible rfl | (trace_state; fail))); simp only [pick_zero, pick_succ]; simp only [Act.put, List.setIfInBounds_toArray, List.set_cons_zero, List.set_cons_succ]
          refine t3_q ?_ rfl ?_ ?_; rotate_left 1; (focus (rintro w' hO; have hc := HC.out w' _ ga hO (.head _); simp only [pick_zero, pick_succ]; go_simp; first | done | with_reducible rfl | (trace_state; fail))); simp only [pick_zero, pick_succ]; simp only [Act.put, List.setIfInBounds_toArray, List.set_cons_zero, List.set_cons_succ]
          refine t3_q ?_ rfl ?_ ?_; rotate_left 1; (focus (rintro w' hO; simp only [pick_zero, pick_succ]; go_simp; first | done | with_reducible rfl | (trace_state; fail))); simp only [pick_zero, pick_succ]; simp only [Act.put, List.setIfInBounds_toArray, List.set_cons_zero, List.set_cons_succ]
          refine t3_done ?_
          refine wl_store rfl _ _ _ rfl HT61180.out 1 g11 0 _ (av mt u (.slice Ah hs.length ch) body) _ rfl (by rfl) (by rfl) ask_size (one_av rfl) (by simp [av]) ?_
          intro wy hO
          have HY : Hid (Own w0 wy ((ga, .cells (meB.map Value.string).toArray 9) :: (g11, .cells (av mt u (.slice Ah hs.length ch) body).toArray 24) :: (g10, .cells (av ⟨#[]⟩ ⟨#[]⟩ (.slice none 0 0) ⟨#[]⟩).toArray 24) :: (L ++ R))) := Lib.hid (hO.cast rfl)
          clear hO
          refine hKK _ _ ?_
          simp only [Act.put, List.setIfInBounds_toArray, List.set_cons_zero, List.set_cons_succ]
          go_meet
          exact ⟨g11, mt, u, Ah, _, ch, hs, L, rfl, HMT.out, HU.out, rfl, HIH.out.2.1, HIH.out.1, HIH.out.2.2, HY.out.sub (List.Sublist.cons _ (List.Sublist.cons_cons _ (List.Sublist.refl _)))⟩
    · simp only [pick_zero, pick_succ]
      refine wl_alloc rfl _ rfl HT.out _ (alloc_ask _) ?_
      intro g11 wx11 hO; have HT11 := Lib.hid hO; clear hO HT
      refine ActPost.mk (fun w' => Own w0 w' ((g11, .cells (av ⟨#[]⟩ ⟨#[]⟩ (.slice none 0 0) ⟨#[]⟩).toArray 24) :: (g10, .cells (av ⟨#[]⟩ ⟨#[]⟩ (.slice none 0 0) ⟨#[]⟩).toArray 24) :: R)) (fun w' h => h.tail) (HT11.out.sub (List.Sublist.cons_cons _ (List.Sublist.refl _))) ?_; simp only [Act.put, List.setIfInBounds_toArray, List.set_cons_zero, List.set_cons_succ]
      refine t3_two ?_ ?_
      · simp only [pick_zero, pick_succ]
        refine wl_buildSlice rfl _ 4 [(0, _), (1, _), (2, _), (3, _)] rfl HT11.out _ (build_me _) ?_
        intro ga wx0 hO; have HT110 := Lib.hid hO; clear hO HT11
        refine ActPost.mk (fun w' => Own w0 w' ((ga, .cells (meB.map Value.string).toArray 9) :: (g11, .cells (av ⟨#[]⟩ ⟨#[]⟩ (.slice none 0 0) ⟨#[]⟩).toArray 24) :: (g10, .cells (av ⟨#[]⟩ ⟨#[]⟩ (.slice none 0 0) ⟨#[]⟩).toArray 24) :: R)) (fun w' h => h.tail) (HT110.out.sub (List.Sublist.cons_cons _ (List.Sublist.cons_cons _ (List.Sublist.refl _)))) ?_; simp only [Act.put, List.setIfInBounds_toArray, List.set_cons_zero, List.set_cons_succ]
        refine t3_q ?_ rfl ?_ ?_; rotate_left 1; (focus (rintro w' hO; simp only [pick_zero, pick_succ]; go_simp; first | done | with_reducible rfl | (trace_state; fail))); simp only [pick_zero, pick_succ]; simp only [Act.put, List.setIfInBounds_toArray, List.set_cons_zero, List.set_cons_succ]
        refine t3_q ?_ rfl ?_ ?_; rotate_left 1; (focus (rintro w' hO; have hc := HC.out w' _ ga hO (.head _); simp only [pick_zero, pick_succ]; go_simp; first | done | with_reducible rfl | (trace_state; fail))); simp only [pick_zero, pick_succ]; simp only [Act.put, List.setIfInBounds_toArray, List.set_cons_zero, List.set_cons_succ]
        refine t3_one ?_
        simp only [pick_zero, pick_succ]
        refine wl_call rfl _ _ _ (by go_simp) (qurl_c HT110.out n) ?_
        rintro e wx6 ⟨u, rfl, hu, hO⟩; have HT1106 := Lib.hid hO; have HU := Lib.hid hu; clear hO hu HT110
        refine ⟨_, rfl, ActPost.mk (fun w' => Own w0 w' ((ga, .cells (meB.map Value.string).toArray 9) :: (g11, .cells (av ⟨#[]⟩ ⟨#[]⟩ (.slice none 0 0) ⟨#[]⟩).toArray 24) :: (g10, .cells (av ⟨#[]⟩ ⟨#[]⟩ (.slice none 0 0) ⟨#[]⟩).toArray 24) :: R)) (fun w' h => h) (HT1106.out.sub (List.Sublist.cons_cons _ (List.Sublist.cons_cons _ (List.Sublist.refl _)))) ?_⟩; simp only [Act.put, List.setIfInBounds_toArray, List.set_cons_zero, List.set_cons_succ]
        refine t3_one ?_
        simp only [pick_zero, pick_succ]
        refine wl_call rfl _ _ _ (by go_simp) (pheads_c HT1106.out m ⟨#[]⟩) ?_
        rintro e wx8 ⟨vh, hs, L, rfl, hih, hl4, hsz, hO⟩
        obtain ⟨Ah, ch, hvh⟩ := IsRow.val hih; subst hvh
        have HT11068 : Hid (Own w0 wx8 ((ga, .cells (meB.map Value.string).toArray 9) :: (g11, .cells (av ⟨#[]⟩ ⟨#[]⟩ (.slice none 0 0) ⟨#[]⟩).toArray 24) :: (g10, .cells (av ⟨#[]⟩ ⟨#[]⟩ (.slice none 0 0) ⟨#[]⟩).toArray 24) :: (L ++ R))) := Lib.hid (Own.rot (A := L) (B := [(ga, .cells (meB.map Value.string).toArray 9), (g11, .cells (av ⟨#[]⟩ ⟨#[]⟩ (.slice none 0 0) ⟨#[]⟩).toArray 24), (g10, .cells (av ⟨#[]⟩ ⟨#[]⟩ (.slice none 0 0) ⟨#[]⟩).toArray 24)]) hO)
        have HIH : Hid (IsHeads (.slice Ah hs.length ch) hs L ∧ hs.length ≤ 4 ∧ HSz 20 hs) := Lib.hid ⟨hih, hl4, hsz⟩
        clear hO hih hl4 hsz HT1106
        refine ⟨_, rfl, ActPost.mk (fun w' => Own w0 w' ((ga, .cells (meB.map Value.string).toArray 9) :: (g11, .cells (av ⟨#[]⟩ ⟨#[]⟩ (.slice none 0 0) ⟨#[]⟩).toArray 24) :: (g10, .cells (av ⟨#[]⟩ ⟨#[]⟩ (.slice none 0 0) ⟨#[]⟩).toArray 24) :: R)) (fun w' h => h) (HT11068.out.sub (List.Sublist.cons_cons _ (List.Sublist.cons_cons _ (List.Sublist.cons_cons _ (List.sublist_append_right _ _))))) ?_⟩; simp only [Act.put, List.setIfInBounds_toArray, List.set_cons_zero, List.set_cons_succ]
        refine t3_q ?_ rfl ?_ ?_; rotate_left 1; (focus (rintro w' hO; simp only [pick_zero, pick_succ]; go_simp; first | done | with_reducible rfl | (trace_state; fail))); simp only [pick_zero, pick_succ]; simp only [Act.put, List.setIfInBounds_toArray, List.set_cons_zero, List.set_cons_succ]
        refine t3_done ?_
        refine wl_store rfl _ _ _ rfl HT11068.out 1 g11 0 _ (av mt u (.slice Ah hs.length ch) body) _ rfl (by rfl) (by rfl) ask_size (one_av rfl) (by simp [av]) ?_
        intro wy hO
        have HY : Hid (Own w0 wy ((ga, .cells (meB.map Value.string).toArray 9) :: (g11, .cells (av mt u (.slice Ah hs.length ch) body).toArray 24) :: (g10, .cells (av ⟨#[]⟩ ⟨#[]⟩ (.slice none 0 0) ⟨#[]⟩).toArray 24) :: (L ++ R))) := Lib.hid (hO.cast rfl)
        clear hO
        refine hKK _ _ ?_
        simp only [Act.put, List.setIfInBounds_toArray, List.set_cons_zero, List.set_cons_succ]
        go_meet
        exact ⟨g11, mt, u, Ah, _, ch, hs, L, rfl, HMT.out, HU.out, rfl, HIH.out.2.1, HIH.out.1, HIH.out.2.2, HY.out.sub (List.Sublist.cons _ (List.Sublist.cons_cons _ (List.Sublist.refl _)))⟩
      · simp only [pick_zero, pick_succ]
        refine wl_call rfl _ _ _ (by go_simp) (qurl_c HT11.out n) ?_
        rintro e wx6 ⟨u, rfl, hu, hO⟩; have HT116 := Lib.hid hO; have HU := Lib.hid hu; clear hO hu HT11
        refine ⟨_, rfl, ActPost.mk (fun w' => Own w0 w' ((g11, .cells (av ⟨#[]⟩ ⟨#[]⟩ (.slice none 0 0) ⟨#[]⟩).toArray 24) :: (g10, .cells (av ⟨#[]⟩ ⟨#[]⟩ (.slice none 0 0) ⟨#[]⟩).toArray 24) :: R)) (fun w' h => h) (HT116.out.sub (List.Sublist.cons_cons _ (List.Sublist.refl _))) ?_⟩; simp only [Act.put, List.setIfInBounds_toArray, List.set_cons_zero, List.set_cons_succ]
        refine t3_two ?_ ?_
        · simp only [pick_zero, pick_succ]
          refine wl_buildSlice rfl _ 4 [(0, _), (1, _), (2, _), (3, _)] rfl HT116.out _ (build_me _) ?_
          intro ga wx0 hO; have HT1160 := Lib.hid hO; clear hO HT116
          refine ActPost.mk (fun w' => Own w0 w' ((ga, .cells (meB.map Value.string).toArray 9) :: (g11, .cells (av ⟨#[]⟩ ⟨#[]⟩ (.slice none 0 0) ⟨#[]⟩).toArray 24) :: (g10, .cells (av ⟨#[]⟩ ⟨#[]⟩ (.slice none 0 0) ⟨#[]⟩).toArray 24) :: R)) (fun w' h => h.tail) (HT1160.out.sub (List.Sublist.cons_cons _ (List.Sublist.cons_cons _ (List.Sublist.refl _)))) ?_; simp only [Act.put, List.setIfInBounds_toArray, List.set_cons_zero, List.set_cons_succ]
          refine t3_q ?_ rfl ?_ ?_; rotate_left 1; (focus (rintro w' hO; simp only [pick_zero, pick_succ]; go_simp; first | done | with_reducible rfl | (trace_state; fail))); simp only [pick_zero, pick_succ]; simp only [Act.put, List.setIfInBounds_toArray, List.set_cons_zero, List.set_cons_succ]
          refine t3_q ?_ rfl ?_ ?_; rotate_left 1; (focus (rintro w' hO; have hc := HC.out w' _ ga hO (.head _); simp only [pick_zero, pick_succ]; go_simp; first | done | with_reducible rfl | (trace_state; fail))); simp only [pick_zero, pick_succ]; simp only [Act.put, List.setIfInBounds_toArray, List.set_cons_zero, List.set_cons_succ]
          refine t3_one ?_
          simp only [pick_zero, pick_succ]
          refine wl_call rfl _ _ _ (by go_simp) (pheads_c HT1160.out m ⟨#[]⟩) ?_
          rintro e wx8 ⟨vh, hs, L, rfl, hih, hl4, hsz, hO⟩
          obtain ⟨Ah, ch, hvh⟩ := IsRow.val hih; subst hvh
          have HT11608 : Hid (Own w0 wx8 ((ga, .cells (meB.map Value.string).toArray 9) :: (g11, .cells (av ⟨#[]⟩ ⟨#[]⟩ (.slice none 0 0) ⟨#[]⟩).toArray 24) :: (g10, .cells (av ⟨#[]⟩ ⟨#[]⟩ (.slice none 0 0) ⟨#[]⟩).toArray 24) :: (L ++ R))) := Lib.hid (Own.rot (A := L) (B := [(ga, .cells (meB.map Value.string).toArray 9), (g11, .cells (av ⟨#[]⟩ ⟨#[]⟩ (.slice none 0 0) ⟨#[]⟩).toArray 24), (g10, .cells (av ⟨#[]⟩ ⟨#[]⟩ (.slice none 0 0) ⟨#[]⟩).toArray 24)]) hO)
          have HIH : Hid (IsHeads (.slice Ah hs.length ch) hs L ∧ hs.length ≤ 4 ∧ HSz 20 hs) := Lib.hid ⟨hih, hl4, hsz⟩
          clear hO hih hl4 hsz HT1160
          refine ⟨_, rfl, ActPost.mk (fun w' => Own w0 w' ((ga, .cells (meB.map Value.string).toArray 9) :: (g11, .cells (av ⟨#[]⟩ ⟨#[]⟩ (.slice none 0 0) ⟨#[]⟩).toArray 24) :: (g10, .cells (av ⟨#[]⟩ ⟨#[]⟩ (.slice none 0 0) ⟨#[]⟩).toArray 24) :: R)) (fun w' h => h) (HT11608.out.sub (List.Sublist.cons_cons _ (List.Sublist.cons_cons _ (List.Sublist.cons_cons _ (List.sublist_append_right _ _))))) ?_⟩; simp only [Act.put, List.setIfInBounds_toArray, List.set_cons_zero, List.set_cons_succ]
          refine t3_q ?_ rfl ?_ ?_; rotate_left 1; (focus (rintro w' hO; simp only [pick_zero, pick_succ]; go_simp; first | done | with_reducible rfl | (trace_state; fail))); simp only [pick_zero, pick_succ]; simp only [Act.put, List.setIfInBounds_toArray, List.set_cons_zero, List.set_cons_succ]
          refine t3_done ?_
          refine wl_store rfl _ _ _ rfl HT11608.out 1 g11 0 _ (av mt u (.slice Ah hs.length ch) body) _ rfl (by rfl) (by rfl) ask_size (one_av rfl) (by simp [av]) ?_
          intro wy hO
          have HY : Hid (Own w0 wy ((ga, .cells (meB.map Value.string).toArray 9) :: (g11, .cells (av mt u (.slice Ah hs.length ch) body).toArray 24) :: (g10, .cells (av ⟨#[]⟩ ⟨#[]⟩ (.slice none 0 0) ⟨#[]⟩).toArray 24) :: (L ++ R))) := Lib.hid (hO.cast rfl)
          clear hO
          refine hKK _ _ ?_
          simp only [Act.put, List.setIfInBounds_toArray, List.set_cons_zero, List.set_cons_succ]
          go_meet
          exact ⟨g11, mt, u, Ah, _, ch, hs, L, rfl, HMT.out, HU.out, rfl, HIH.out.2.1, HIH.out.1, HIH.out.2.2, HY.out.sub (List.Sublist.cons _ (List.Sublist.cons_cons _ (List.Sublist.refl _)))⟩
        · simp only [pick_zero, pick_succ]
          refine wl_call rfl _ _ _ (by go_simp) (pheads_c HT116.out m ⟨#[]⟩) ?_
          rintro e wx8 ⟨vh, hs, L, rfl, hih, hl4, hsz, hO⟩
          obtain ⟨Ah, ch, hvh⟩ := IsRow.val hih; subst hvh
          have HT1168 : Hid (Own w0 wx8 ((g11, .cells (av ⟨#[]⟩ ⟨#[]⟩ (.slice none 0 0) ⟨#[]⟩).toArray 24) :: (g10, .cells (av ⟨#[]⟩ ⟨#[]⟩ (.slice none 0 0) ⟨#[]⟩).toArray 24) :: (L ++ R))) := Lib.hid (Own.rot (A := L) (B := [(g11, .cells (av ⟨#[]⟩ ⟨#[]⟩ (.slice none 0 0) ⟨#[]⟩).toArray 24), (g10, .cells (av ⟨#[]⟩ ⟨#[]⟩ (.slice none 0 0) ⟨#[]⟩).toArray 24)]) hO)
          have HIH : Hid (IsHeads (.slice Ah hs.length ch) hs L ∧ hs.length ≤ 4 ∧ HSz 20 hs) := Lib.hid ⟨hih, hl4, hsz⟩
          clear hO hih hl4 hsz HT116
          refine ⟨_, rfl, ActPost.mk (fun w' => Own w0 w' ((g11, .cells (av ⟨#[]⟩ ⟨#[]⟩ (.slice none 0 0) ⟨#[]⟩).toArray 24) :: (g10, .cells (av ⟨#[]⟩ ⟨#[]⟩ (.slice none 0 0) ⟨#[]⟩).toArray 24) :: R)) (fun w' h => h) (HT1168.out.sub (List.Sublist.cons_cons _ (List.Sublist.cons_cons _ (List.sublist_append_right _ _)))) ?_⟩; simp only [Act.put, List.setIfInBounds_toArray, List.set_cons_zero, List.set_cons_succ]
          refine t3_one ?_
          simp only [pick_zero, pick_succ]
          refine wl_buildSlice rfl _ 4 [(0, _), (1, _), (2, _), (3, _)] rfl HT1168.out _ (build_me _) ?_
          intro ga wx0 hO; have HT11680 := Lib.hid hO; clear hO HT1168
          refine ActPost.mk (fun w' => Own w0 w' ((ga, .cells (meB.map Value.string).toArray 9) :: (g11, .cells (av ⟨#[]⟩ ⟨#[]⟩ (.slice none 0 0) ⟨#[]⟩).toArray 24) :: (g10, .cells (av ⟨#[]⟩ ⟨#[]⟩ (.slice none 0 0) ⟨#[]⟩).toArray 24) :: R)) (fun w' h => h.tail) (HT11680.out.sub (List.Sublist.cons_cons _ (List.Sublist.cons_cons _ (List.Sublist.cons_cons _ (List.sublist_append_right _ _))))) ?_; simp only [Act.put, List.setIfInBounds_toArray, List.set_cons_zero, List.set_cons_succ]
          refine t3_q ?_ rfl ?_ ?_; rotate_left 1; (focus (rintro w' hO; simp only [pick_zero, pick_succ]; go_simp; first | done | with_reducible rfl | (trace_state; fail))); simp only [pick_zero, pick_succ]; simp only [Act.put, List.setIfInBounds_toArray, List.set_cons_zero, List.set_cons_succ]
          refine t3_q ?_ rfl ?_ ?_; rotate_left 1; (focus (rintro w' hO; have hc := HC.out w' _ ga hO (.head _); simp only [pick_zero, pick_succ]; go_simp; first | done | with_reducible rfl | (trace_state; fail))); simp only [pick_zero, pick_succ]; simp only [Act.put, List.setIfInBounds_toArray, List.set_cons_zero, List.set_cons_succ]
          refine t3_q ?_ rfl ?_ ?_; rotate_left 1; (focus (rintro w' hO; simp only [pick_zero, pick_succ]; go_simp; first | done | with_reducible rfl | (trace_state; fail))); simp only [pick_zero, pick_succ]; simp only [Act.put, List.setIfInBounds_toArray, List.set_cons_zero, List.set_cons_succ]
          refine t3_done ?_
          refine wl_store rfl _ _ _ rfl HT11680.out 1 g11 0 _ (av mt u (.slice Ah hs.length ch) body) _ rfl (by rfl) (by rfl) ask_size (one_av rfl) (by simp [av]) ?_
          intro wy hO
          have HY : Hid (Own w0 wy ((ga, .cells (meB.map Value.string).toArray 9) :: (g11, .cells (av mt u (.slice Ah hs.length ch) body).toArray 24) :: (g10, .cells (av ⟨#[]⟩ ⟨#[]⟩ (.slice none 0 0) ⟨#[]⟩).toArray 24) :: (L ++ R))) := Lib.hid (hO.cast rfl)
          clear hO
          refine hKK _ _ ?_
          simp only [Act.put, List.setIfInBounds_toArray, List.set_cons_zero, List.set_cons_succ]
          go_meet
          exact ⟨g11, mt, u, Ah, _, ch, hs, L, rfl, HMT.out, HU.out, rfl, HIH.out.2.1, HIH.out.1, HIH.out.2.2, HY.out.sub (List.Sublist.cons _ (List.Sublist.cons_cons _ (List.Sublist.refl _)))⟩
    --ENDREGION1
  case rest =>
    obtain ⟨g11, mt, u, A, k, c, hs, L, rfl, hmt, hu, hk, hk4, hih, hsz, hO⟩ := hcut
    have HMT2 : Hid (mt.size ≤ 10) := Lib.hid hmt; have HU2 : Hid (u.size ≤ 20) := Lib.hid hu; have HK := Lib.hid hk; have HI := Lib.hid hih; have HSZ := Lib.hid hsz; have HO2 := Lib.hid hO
    clear hmt hu hk hih hsz hO HMT HC HO1 HQ
    go_wp2
    go_loopw [12] (fun t w' => ∃ (i : Nat) (A : Option Addr) (k c : Nat) (hs : HBL) (L : Blks), i ≤ 2 ∧ t = .int .i64 i ∧ k ≤ 4 + i ∧ Hid (hs.length = k) ∧ Hid (IsHeads (.slice A k c) hs L) ∧ Hid (HSz 20 hs) ∧ Hid (Own w0 w' ((g11, .cells (av mt u (.slice A k c) body).toArray 24) :: (g10, .cells (av ⟨#[]⟩ ⟨#[]⟩ (.slice none 0 0) ⟨#[]⟩).toArray 24) :: (L ++ R)))) (fun t _ => 3 - (intOf t).toNat)
    case atStart => exact ⟨0, A, k, c, hs, L, by omega, rfl, by omega, HK, HI, HSZ, HO2⟩
    case round =>
      obtain ⟨i, A, k, c, hs, L, hi, rfl, hk, HK, HI, HSZ, HO3⟩ := hrel
      clear HO2
      have q3 := within_n (w := wr) m 3 (by omega) (by omega)
      have hk3 : (m % 3).toNat < 3 := by omega
      generalize (m % 3).toNat = k3 at *
      go_wp2_with fail
      with_reducible refine q3.mono ?_
      clear q3
      rintro e wq ⟨rfl, hww⟩
      subst hww
      by_cases hik : (i : Int) < k3
      · have q1 := fun w : World => within_n (w := w) (IntKind.i64.wrap (how + i)) 4 (by omega) (by omega)
        have q2 := fun w : World => within_n (w := w) (IntKind.i64.wrap (m + i)) 4 (by omega) (by omega)
        have hj1 : (IntKind.i64.wrap (how + i) % 4).toNat < 4 := by omega
        have hj2 : (IntKind.i64.wrap (m + i) % 4).toNat < 4 := by omega
        generalize (IntKind.i64.wrap (how + i) % 4).toNat = j1 at *
        generalize (IntKind.i64.wrap (m + i) % 4).toNat = j2 at *
        have hi2 : i + 1 ≤ 2 := by omega
        obtain ⟨p, hp⟩ : ∃ p, nmT[j1]? = some p := ⟨_, List.getElem?_eq_getElem hj1⟩
        obtain ⟨q, hq⟩ : ∃ q, vlT[j2]? = some q := ⟨_, List.getElem?_eq_getElem hj2⟩
        have HZN : Hid (HSz 20 [(p, q)]) := Lib.hid (HSz.one ⟨nmT_size p (List.mem_of_getElem? hp), vlT_size q (List.mem_of_getElem? hq)⟩)
        have c1' : ∀ (w' : World) (L' : Blks) (g : Nat), Own w0 w' L' → (g, Obj.cells (nmT.map Value.string).toArray 9) ∈ L' → w'.cell? ⟨g, j1, none⟩ = some (.string p) := fun w' L' g h hm => (h.cell hm j1).trans (by simp [hp])
        have c2' : ∀ (w' : World) (L' : Blks) (g : Nat), Own w0 w' L' → (g, Obj.cells (vlT.map Value.string).toArray 9) ∈ L' → w'.cell? ⟨g, j2, none⟩ = some (.string q) := fun w' L' g h hm => (h.cell hm j2).trans (by simp [hq])
        have HC1 := Lib.hid c1'; have HC2 := Lib.hid c2'; have HQ1 := Lib.hid q1; have HQ2 := Lib.hid q2
        have hj1I : (j1 : Int) < 4 := by omega
        have hj2I : (j2 : Int) < 4 := by omega
        clear hp hq c1' c2' q1 q2
        go_upto_region 5 with fail
        clear hik
        --REGION5
        refine wp_region_tree3 (fun w' => Own w0 w' ((g11, .cells (av mt u (.slice A k c) body).toArray 24) :: (g10, .cells (av ⟨#[]⟩ ⟨#[]⟩ (.slice none 0 0) ⟨#[]⟩).toArray 24) :: R)) 19 (.q 0 (.q 1 (.q 3 (.q 4 (.q 5 (.q 6 (.q 10 (.q 11 (.q 12 (.q 13 (.two 2 (.q 7 (.q 8 (.one 9 (.q 14 (.q 15 (.q 16 (.one 17 (.one 18 .done)))))))) 9 (.q 14 (.q 15 (.one 2 (.q 7 (.q 8 (.q 16 (.one 17 (.one 18 .done))))))))))))))))))) (by kernel_rfl) (by decide +kernel) (fun _ _ d _ _ h => by cases d <;> exact h) (HO3.out.drew.sub (List.Sublist.cons_cons _ (List.Sublist.cons_cons _ (List.sublist_append_right _ _)))) ?_
        simp only [List.drop_succ_cons, List.drop_zero]
        have HT := Lib.hid HO3.out.drew; clear HO3
        refine t3_q ?_ rfl ?_ ?_; rotate_left 1; (focus (rintro w' hO; simp only [pick_zero, pick_succ]; go_simp; first | done | with_reducible rfl | (trace_state; fail))); simp only [pick_zero, pick_succ]; simp only [Act.put, List.setIfInBounds_toArray, List.set_cons_zero, List.set_cons_succ]
        refine t3_q ?_ rfl ?_ ?_; rotate_left 1; (focus (rintro w' hO; have hc : w'.cell? ⟨g11, 2, none⟩ = some (.slice A k c) := hO.cell (.head _) 2; simp only [pick_zero, pick_succ]; go_simp; first | done | with_reducible rfl | (trace_state; fail))); simp only [pick_zero, pick_succ]; simp only [Act.put, List.setIfInBounds_toArray, List.set_cons_zero, List.set_cons_succ]
        refine t3_q ?_ rfl ?_ ?_; rotate_left 1; (focus (rintro w' hO; simp only [pick_zero, pick_succ]; go_simp; first | done | with_reducible rfl | (trace_state; fail))); simp only [pick_zero, pick_succ]; simp only [Act.put, List.setIfInBounds_toArray, List.set_cons_zero, List.set_cons_succ]
        refine t3_q ?_ rfl ?_ ?_; rotate_left 1; (focus (rintro w' hO; simp only [pick_zero, pick_succ]; go_simp; first | done | with_reducible rfl | (trace_state; fail))); simp only [pick_zero, pick_succ]; simp only [Act.put, List.setIfInBounds_toArray, List.set_cons_zero, List.set_cons_succ]
        refine t3_q ?_ rfl ?_ ?_; rotate_left 1; (focus (rintro w' hO; simp only [pick_zero, pick_succ]; go_simp; first | done | with_reducible rfl | (trace_state; fail))); simp only [pick_zero, pick_succ]; simp only [Act.put, List.setIfInBounds_toArray, List.set_cons_zero, List.set_cons_succ]
        refine t3_call (.int .i64 j1) rfl 9 #[.int .i64 (IntKind.i64.wrap (how + i)), .int .i64 4] (fun w' => by simp only [pick_zero, pick_succ]; go_simp) (fun w' _ => HQ1.out w') ?_; simp only [pick_zero, pick_succ]; simp only [Act.put, List.setIfInBounds_toArray, List.set_cons_zero, List.set_cons_succ]
        refine t3_q ?_ rfl ?_ ?_; rotate_left 1; (focus (rintro w' hO; simp only [pick_zero, pick_succ]; go_simp; first | done | with_reducible rfl | (trace_state; fail))); simp only [pick_zero, pick_succ]; simp only [Act.put, List.setIfInBounds_toArray, List.set_cons_zero, List.set_cons_succ]
        refine t3_q ?_ rfl ?_ ?_; rotate_left 1; (focus (rintro w' hO; simp only [pick_zero, pick_succ]; go_simp; first | done | with_reducible rfl | (trace_state; fail))); simp only [pick_zero, pick_succ]; simp only [Act.put, List.setIfInBounds_toArray, List.set_cons_zero, List.set_cons_succ]
        refine t3_q ?_ rfl ?_ ?_; rotate_left 1; (focus (rintro w' hO; simp only [pick_zero, pick_succ]; go_simp; first | done | with_reducible rfl | (trace_state; fail))); simp only [pick_zero, pick_succ]; simp only [Act.put, List.setIfInBounds_toArray, List.set_cons_zero, List.set_cons_succ]
        refine t3_call (.int .i64 j2) rfl 9 #[.int .i64 (IntKind.i64.wrap (m + i)), .int .i64 4] (fun w' => by simp only [pick_zero, pick_succ]; go_simp) (fun w' _ => HQ2.out w') ?_; simp only [pick_zero, pick_succ]; simp only [Act.put, List.setIfInBounds_toArray, List.set_cons_zero, List.set_cons_succ]
        refine t3_two ?_ ?_
        · simp only [pick_zero, pick_succ]
          refine wl_buildSlice rfl _ 4 [(0, _), (1, _), (2, _), (3, _)] rfl HT.out _ (build_nmT _) ?_
          intro ga wx2 hO; have HT2 := Lib.hid hO; clear hO HT
          refine ActPost.mk (fun w' => Own w0 w' ((ga, .cells (nmT.map Value.string).toArray 9) :: (g11, .cells (av mt u (.slice A k c) body).toArray 24) :: (g10, .cells (av ⟨#[]⟩ ⟨#[]⟩ (.slice none 0 0) ⟨#[]⟩).toArray 24) :: R)) (fun w' h => h.tail) (HT2.out.sub (List.Sublist.cons_cons _ (List.Sublist.cons_cons _ (List.Sublist.cons_cons _ (List.sublist_append_right _ _))))) ?_; simp only [Act.put, List.setIfInBounds_toArray, List.set_cons_zero, List.set_cons_succ]
          refine t3_q ?_ rfl ?_ ?_; rotate_left 1; (focus (rintro w' hO; simp only [pick_zero, pick_succ]; go_simp; first | done | with_reducible rfl | (trace_state; fail))); simp only [pick_zero, pick_succ]; simp only [Act.put, List.setIfInBounds_toArray, List.set_cons_zero, List.set_cons_succ]
          refine t3_q ?_ rfl ?_ ?_; rotate_left 1; (focus (rintro w' hO; have hc := HC1.out w' _ ga hO (.head _); simp only [pick_zero, pick_succ]; go_simp; first | done | with_reducible rfl | (trace_state; fail))); simp only [pick_zero, pick_succ]; simp only [Act.put, List.setIfInBounds_toArray, List.set_cons_zero, List.set_cons_succ]
          refine t3_one ?_
          simp only [pick_zero, pick_succ]
          refine wl_buildSlice rfl _ 4 [(0, _), (1, _), (2, _), (3, _)] rfl HT2.out _ (build_vlT _) ?_
          intro gb wx9 hO; have HT29 := Lib.hid hO; clear hO HT2
          refine ActPost.mk (fun w' => Own w0 w' ((gb, .cells (vlT.map Value.string).toArray 9) :: (ga, .cells (nmT.map Value.string).toArray 9) :: (g11, .cells (av mt u (.slice A k c) body).toArray 24) :: (g10, .cells (av ⟨#[]⟩ ⟨#[]⟩ (.slice none 0 0) ⟨#[]⟩).toArray 24) :: R)) (fun w' h => h.tail) (HT29.out.sub (List.Sublist.cons_cons _ (List.Sublist.cons_cons _ (List.Sublist.cons_cons _ (List.Sublist.cons_cons _ (List.sublist_append_right _ _)))))) ?_; simp only [Act.put, List.setIfInBounds_toArray, List.set_cons_zero, List.set_cons_succ]
          refine t3_q ?_ rfl ?_ ?_; rotate_left 1; (focus (rintro w' hO; simp only [pick_zero, pick_succ]; go_simp; first | done | with_reducible rfl | (trace_state; fail))); simp only [pick_zero, pick_succ]; simp only [Act.put, List.setIfInBounds_toArray, List.set_cons_zero, List.set_cons_succ]
          refine t3_q ?_ rfl ?_ ?_; rotate_left 1; (focus (rintro w' hO; have hc := HC2.out w' _ gb hO (.head _); simp only [pick_zero, pick_succ]; go_simp; first | done | with_reducible rfl | (trace_state; fail))); simp only [pick_zero, pick_succ]; simp only [Act.put, List.setIfInBounds_toArray, List.set_cons_zero, List.set_cons_succ]
          refine t3_q ?_ rfl ?_ ?_; rotate_left 1; (focus (rintro w' hO; simp only [pick_zero, pick_succ]; go_simp; first | done | with_reducible rfl | (trace_state; fail))); simp only [pick_zero, pick_succ]; simp only [Act.put, List.setIfInBounds_toArray, List.set_cons_zero, List.set_cons_succ]
          refine t3_one ?_
          simp only [pick_zero, pick_succ]
          refine wl_buildSlice rfl _ 1 [(0, _)] rfl HT29.out _ (build_heads1 _ p q) ?_
          intro gh wx17 hO; have HT2917 := Lib.hid hO; clear hO HT29
          refine ActPost.mk (fun w' => Own w0 w' ((gh, .cells (hv2 (p, q)).toArray 46) :: (gb, .cells (vlT.map Value.string).toArray 9) :: (ga, .cells (nmT.map Value.string).toArray 9) :: (g11, .cells (av mt u (.slice A k c) body).toArray 24) :: (g10, .cells (av ⟨#[]⟩ ⟨#[]⟩ (.slice none 0 0) ⟨#[]⟩).toArray 24) :: R)) (fun w' h => h.tail) (HT2917.out.sub (List.Sublist.cons_cons _ (List.Sublist.cons_cons _ (List.Sublist.cons_cons _ (List.Sublist.cons_cons _ (List.Sublist.cons_cons _ (List.sublist_append_right _ _))))))) ?_; simp only [Act.put, List.setIfInBounds_toArray, List.set_cons_zero, List.set_cons_succ]
          refine t3_one ?_
          simp only [pick_zero, pick_succ]
          have hOr : Own w0 _ (L ++ ([(gh, .cells (hv2 (p, q)).toArray 46), (gb, .cells (vlT.map Value.string).toArray 9), (ga, .cells (nmT.map Value.string).toArray 9), (g11, .cells (av mt u (.slice A k c) body).toArray 24), (g10, .cells (av ⟨#[]⟩ ⟨#[]⟩ (.slice none 0 0) ⟨#[]⟩).toArray 24)] ++ R)) := Own.rot (A := [(gh, .cells (hv2 (p, q)).toArray 46), (gb, .cells (vlT.map Value.string).toArray 9), (ga, .cells (nmT.map Value.string).toArray 9), (g11, .cells (av mt u (.slice A k c) body).toArray 24), (g10, .cells (av ⟨#[]⟩ ⟨#[]⟩ (.slice none 0 0) ⟨#[]⟩).toArray 24)]) (B := L) HT2917.out
          refine wl_appendH1 rfl _ _ rfl (.slice A k c) hs (by rfl) HI.out hOr _ 1 (p, q) (by rfl) (.head _) (by rw [HK.out]; omega) ?_
          rintro v2 wx18 L2 hv2' hO; obtain ⟨A2, c2, hve⟩ := IsRow.val hv2'; rw [List.length_append, HK.out, List.length_singleton] at hve; subst hve
          have HT291718 : Hid (Own w0 wx18 ((gh, .cells (hv2 (p, q)).toArray 46) :: (gb, .cells (vlT.map Value.string).toArray 9) :: (ga, .cells (nmT.map Value.string).toArray 9) :: (g11, .cells (av mt u (.slice A k c) body).toArray 24) :: (g10, .cells (av ⟨#[]⟩ ⟨#[]⟩ (.slice none 0 0) ⟨#[]⟩).toArray 24) :: (L2 ++ R))) := Lib.hid (Own.rot (A := L2) (B := [(gh, .cells (hv2 (p, q)).toArray 46), (gb, .cells (vlT.map Value.string).toArray 9), (ga, .cells (nmT.map Value.string).toArray 9), (g11, .cells (av mt u (.slice A k c) body).toArray 24), (g10, .cells (av ⟨#[]⟩ ⟨#[]⟩ (.slice none 0 0) ⟨#[]⟩).toArray 24)]) hO)
          have HV2 := Lib.hid hv2'; clear hO hOr hv2' HT2917
          refine ActPost.mk (fun w' => Own w0 w' ((gh, .cells (hv2 (p, q)).toArray 46) :: (gb, .cells (vlT.map Value.string).toArray 9) :: (ga, .cells (nmT.map Value.string).toArray 9) :: (g11, .cells (av mt u (.slice A k c) body).toArray 24) :: (g10, .cells (av ⟨#[]⟩ ⟨#[]⟩ (.slice none 0 0) ⟨#[]⟩).toArray 24) :: R)) (fun w' h => h) (HT291718.out.sub (List.Sublist.cons_cons _ (List.Sublist.cons_cons _ (List.Sublist.cons_cons _ (List.Sublist.cons_cons _ (List.Sublist.cons_cons _ (List.sublist_append_right _ _))))))) ?_; simp only [Act.put, List.setIfInBounds_toArray, List.set_cons_zero, List.set_cons_succ]
          refine t3_done ?_
          have k2 := HT291718.out.cell ((.tail _ (.tail _ (.tail _ (.head _))))) 2
          refine wl_val rfl (.pointer (some ⟨g11, 2, none⟩)) (by go_simp) ?_
          refine wl_store1 rfl _ _ _ rfl HT291718.out 3 g11 2 _ (.slice A2 (k + 1) c2) _ rfl (by rfl) (by rfl) (by rfl) (by kernel_rfl) (by rfl) (by simp [av]) ?_
          intro wy hO
          have HY : Hid (Own w0 wy ((gh, .cells (hv2 (p, q)).toArray 46) :: (gb, .cells (vlT.map Value.string).toArray 9) :: (ga, .cells (nmT.map Value.string).toArray 9) :: (g11, .cells (av mt u (.slice A2 (k + 1) c2) body).toArray 24) :: (g10, .cells (av ⟨#[]⟩ ⟨#[]⟩ (.slice none 0 0) ⟨#[]⟩).toArray 24) :: (L2 ++ R))) := Lib.hid (hO.cast rfl)
          clear hO
          simp only [Act.put, List.setIfInBounds_toArray, List.set_cons_zero, List.set_cons_succ]
          go_wp2
          go_roundw
          case rel => exact ⟨i + 1, A2, k + 1, c2, hs ++ [(p, q)], L2, hi2, by go_num, by omega, Lib.hid (by rw [List.length_append, HK.out]; rfl), HV2, Lib.hid (HSZ.out.app HZN.out), Lib.hid (HY.out.tail.tail.tail)⟩
          case measure => simp [intOf]; omega
        · simp only [pick_zero, pick_succ]
          refine wl_buildSlice rfl _ 4 [(0, _), (1, _), (2, _), (3, _)] rfl HT.out _ (build_vlT _) ?_
          intro gb wx9 hO; have HT9 := Lib.hid hO; clear hO HT
          refine ActPost.mk (fun w' => Own w0 w' ((gb, .cells (vlT.map Value.string).toArray 9) :: (g11, .cells (av mt u (.slice A k c) body).toArray 24) :: (g10, .cells (av ⟨#[]⟩ ⟨#[]⟩ (.slice none 0 0) ⟨#[]⟩).toArray 24) :: R)) (fun w' h => h.tail) (HT9.out.sub (List.Sublist.cons_cons _ (List.Sublist.cons_cons _ (List.Sublist.cons_cons _ (List.sublist_append_right _ _))))) ?_; simp only [Act.put, List.setIfInBounds_toArray, List.set_cons_zero, List.set_cons_succ]
          refine t3_q ?_ rfl ?_ ?_; rotate_left 1; (focus (rintro w' hO; simp only [pick_zero, pick_succ]; go_simp; first | done | with_reducible rfl | (trace_state; fail))); simp only [pick_zero, pick_succ]; simp only [Act.put, List.setIfInBounds_toArray, List.set_cons_zero, List.set_cons_succ]
          refine t3_q ?_ rfl ?_ ?_; rotate_left 1; (focus (rintro w' hO; have hc := HC2.out w' _ gb hO (.head _); simp only [pick_zero, pick_succ]; go_simp; first | done | with_reducible rfl | (trace_state; fail))); simp only [pick_zero, pick_succ]; simp only [Act.put, List.setIfInBounds_toArray, List.set_cons_zero, List.set_cons_succ]
          refine t3_one ?_
          simp only [pick_zero, pick_succ]
          refine wl_buildSlice rfl _ 4 [(0, _), (1, _), (2, _), (3, _)] rfl HT9.out _ (build_nmT _) ?_
          intro ga wx2 hO; have HT92 := Lib.hid hO; clear hO HT9
          refine ActPost.mk (fun w' => Own w0 w' ((ga, .cells (nmT.map Value.string).toArray 9) :: (gb, .cells (vlT.map Value.string).toArray 9) :: (g11, .cells (av mt u (.slice A k c) body).toArray 24) :: (g10, .cells (av ⟨#[]⟩ ⟨#[]⟩ (.slice none 0 0) ⟨#[]⟩).toArray 24) :: R)) (fun w' h => h.tail) (HT92.out.sub (List.Sublist.cons_cons _ (List.Sublist.cons_cons _ (List.Sublist.cons_cons _ (List.Sublist.cons_cons _ (List.sublist_append_right _ _)))))) ?_; simp only [Act.put, List.setIfInBounds_toArray, List.set_cons_zero, List.set_cons_succ]
          refine t3_q ?_ rfl ?_ ?_; rotate_left 1; (focus (rintro w' hO; simp only [pick_zero, pick_succ]; go_simp; first | done | with_reducible rfl | (trace_state; fail))); simp only [pick_zero, pick_succ]; simp only [Act.put, List.setIfInBounds_toArray, List.set_cons_zero, List.set_cons_succ]
          refine t3_q ?_ rfl ?_ ?_; rotate_left 1; (focus (rintro w' hO; have hc := HC1.out w' _ ga hO (.head _); simp only [pick_zero, pick_succ]; go_simp; first | done | with_reducible rfl | (trace_state; fail))); simp only [pick_zero, pick_succ]; simp only [Act.put, List.setIfInBounds_toArray, List.set_cons_zero, List.set_cons_succ]
          refine t3_q ?_ rfl ?_ ?_; rotate_left 1; (focus (rintro w' hO; simp only [pick_zero, pick_succ]; go_simp; first | done | with_reducible rfl | (trace_state; fail))); simp only [pick_zero, pick_succ]; simp only [Act.put, List.setIfInBounds_toArray, List.set_cons_zero, List.set_cons_succ]
          refine t3_one ?_
          simp only [pick_zero, pick_succ]
          refine wl_buildSlice rfl _ 1 [(0, _)] rfl HT92.out _ (build_heads1 _ p q) ?_
          intro gh wx17 hO; have HT9217 := Lib.hid hO; clear hO HT92
          refine ActPost.mk (fun w' => Own w0 w' ((gh, .cells (hv2 (p, q)).toArray 46) :: (ga, .cells (nmT.map Value.string).toArray 9) :: (gb, .cells (vlT.map Value.string).toArray 9) :: (g11, .cells (av mt u (.slice A k c) body).toArray 24) :: (g10, .cells (av ⟨#[]⟩ ⟨#[]⟩ (.slice none 0 0) ⟨#[]⟩).toArray 24) :: R)) (fun w' h => h.tail) (HT9217.out.sub (List.Sublist.cons_cons _ (List.Sublist.cons_cons _ (List.Sublist.cons_cons _ (List.Sublist.cons_cons _ (List.Sublist.cons_cons _ (List.sublist_append_right _ _))))))) ?_; simp only [Act.put, List.setIfInBounds_toArray, List.set_cons_zero, List.set_cons_succ]
          refine t3_one ?_
          simp only [pick_zero, pick_succ]
          have hOr : Own w0 _ (L ++ ([(gh, .cells (hv2 (p, q)).toArray 46), (ga, .cells (nmT.map Value.string).toArray 9), (gb, .cells (vlT.map Value.string).toArray 9), (g11, .cells (av mt u (.slice A k c) body).toArray 24), (g10, .cells (av ⟨#[]⟩ ⟨#[]⟩ (.slice none 0 0) ⟨#[]⟩).toArray 24)] ++ R)) := Own.rot (A := [(gh, .cells (hv2 (p, q)).toArray 46), (ga, .cells (nmT.map Value.string).toArray 9), (gb, .cells (vlT.map Value.string).toArray 9), (g11, .cells (av mt u (.slice A k c) body).toArray 24), (g10, .cells (av ⟨#[]⟩ ⟨#[]⟩ (.slice none 0 0) ⟨#[]⟩).toArray 24)]) (B := L) HT9217.out
          refine wl_appendH1 rfl _ _ rfl (.slice A k c) hs (by rfl) HI.out hOr _ 1 (p, q) (by rfl) (.head _) (by rw [HK.out]; omega) ?_
          rintro v2 wx18 L2 hv2' hO; obtain ⟨A2, c2, hve⟩ := IsRow.val hv2'; rw [List.length_append, HK.out, List.length_singleton] at hve; subst hve
          have HT921718 : Hid (Own w0 wx18 ((gh, .cells (hv2 (p, q)).toArray 46) :: (ga, .cells (nmT.map Value.string).toArray 9) :: (gb, .cells (vlT.map Value.string).toArray 9) :: (g11, .cells (av mt u (.slice A k c) body).toArray 24) :: (g10, .cells (av ⟨#[]⟩ ⟨#[]⟩ (.slice none 0 0) ⟨#[]⟩).toArray 24) :: (L2 ++ R))) := Lib.hid (Own.rot (A := L2) (B := [(gh, .cells (hv2 (p, q)).toArray 46), (ga, .cells (nmT.map Value.string).toArray 9), (gb, .cells (vlT.map Value.string).toArray 9), (g11, .cells (av mt u (.slice A k c) body).toArray 24), (g10, .cells (av ⟨#[]⟩ ⟨#[]⟩ (.slice none 0 0) ⟨#[]⟩).toArray 24)]) hO)
          have HV2 := Lib.hid hv2'; clear hO hOr hv2' HT9217
          refine ActPost.mk (fun w' => Own w0 w' ((gh, .cells (hv2 (p, q)).toArray 46) :: (ga, .cells (nmT.map Value.string).toArray 9) :: (gb, .cells (vlT.map Value.string).toArray 9) :: (g11, .cells (av mt u (.slice A k c) body).toArray 24) :: (g10, .cells (av ⟨#[]⟩ ⟨#[]⟩ (.slice none 0 0) ⟨#[]⟩).toArray 24) :: R)) (fun w' h => h) (HT921718.out.sub (List.Sublist.cons_cons _ (List.Sublist.cons_cons _ (List.Sublist.cons_cons _ (List.Sublist.cons_cons _ (List.Sublist.cons_cons _ (List.sublist_append_right _ _))))))) ?_; simp only [Act.put, List.setIfInBounds_toArray, List.set_cons_zero, List.set_cons_succ]
          refine t3_done ?_
          have k2 := HT921718.out.cell ((.tail _ (.tail _ (.tail _ (.head _))))) 2
          refine wl_val rfl (.pointer (some ⟨g11, 2, none⟩)) (by go_simp) ?_
          refine wl_store1 rfl _ _ _ rfl HT921718.out 3 g11 2 _ (.slice A2 (k + 1) c2) _ rfl (by rfl) (by rfl) (by rfl) (by kernel_rfl) (by rfl) (by simp [av]) ?_
          intro wy hO
          have HY : Hid (Own w0 wy ((gh, .cells (hv2 (p, q)).toArray 46) :: (ga, .cells (nmT.map Value.string).toArray 9) :: (gb, .cells (vlT.map Value.string).toArray 9) :: (g11, .cells (av mt u (.slice A2 (k + 1) c2) body).toArray 24) :: (g10, .cells (av ⟨#[]⟩ ⟨#[]⟩ (.slice none 0 0) ⟨#[]⟩).toArray 24) :: (L2 ++ R))) := Lib.hid (hO.cast rfl)
          clear hO
          simp only [Act.put, List.setIfInBounds_toArray, List.set_cons_zero, List.set_cons_succ]
          go_wp2
          go_roundw
          case rel => exact ⟨i + 1, A2, k + 1, c2, hs ++ [(p, q)], L2, hi2, by go_num, by omega, Lib.hid (by rw [List.length_append, HK.out]; rfl), HV2, Lib.hid (HSZ.out.app HZN.out), Lib.hid (HY.out.tail.tail.tail)⟩
          case measure => simp [intOf]; omega
        --ENDREGION5
      · have q4 := within_n (w := wr) how 24 (by omega) (by omega)
        have hj : (how % 24).toNat < 24 := by omega
        generalize (how % 24).toNat = jh at *
        have hk6 : k ≤ 6 := by omega
        go_wp2_with fail
        with_reducible refine q4.mono ?_
        clear q4
        rintro e wq ⟨rfl, hww⟩
        subst hww
        clear hik hk3 hj
        by_cases h19 : jh = 19
        · have e19 : ((jh : Int) == 19) = true := by simp; omega
          clear h19
          go_wp2_with (first | (refine wl_store1 rfl _ _ _ rfl HO3.out 0 g11 0 _ (.string s) _ rfl (by rfl) (by rfl) (by rfl) (by kernel_rfl) (by rfl) (by simp [av]) ?_; intro wy hO; have HO5 := Lib.hid (hO.cast (L' := (g11, .cells (av s u (.slice A k c) body).toArray 24) :: (g10, .cells (av ⟨#[]⟩ ⟨#[]⟩ (.slice none 0 0) ⟨#[]⟩).toArray 24) :: (L ++ R)) rfl); clear hO HO3) | (refine wl_load rfl _ _ rfl g11 0 (av s u (.slice A k c) body) (av s u (.slice A k c) body) _ (HO5.out.heap (.head _)) (by rfl) _ Tryz.underlying24 rfl ask_size (by rfl) ?_) | (refine wl_store rfl _ _ _ rfl HO5.out 1 g10 0 _ (av s u (.slice A k c) body) _ rfl (by rfl) (by rfl) ask_size (one_av rfl) (by simp [av]) ?_; intro wz hO; have HZ := Lib.hid (hO.cast (L' := (g11, .cells (av s u (.slice A k c) body).toArray 24) :: (g10, .cells (av s u (.slice A k c) body).toArray 24) :: (L ++ R)) rfl); clear hO HO5))
          have hc0 : wz.cell? ⟨g10, 0, none⟩ = some (.string s) := HZ.out.cell (.tail _ (.head _)) 0
          have hc1 : wz.cell? ⟨g10, 1, none⟩ = some (.string u) := HZ.out.cell (.tail _ (.head _)) 1
          have hc2 : wz.cell? ⟨g10, 2, none⟩ = some (.slice A k c) := HZ.out.cell (.tail _ (.head _)) 2
          have hc3 : wz.cell? ⟨g10, 3, none⟩ = some (.string body) := HZ.out.cell (.tail _ (.head _)) 3
          exact bodyPost_ret (v := .agg (av s u (.slice A k c) body).toArray) (by simp [results, Tryz.results5, go_sem, hc0, hc1, hc2, hc3, av]) rfl ⟨s, u, (.slice A k c), hs, L, rfl, by omega, by have := HU2.out; omega, by rw [HK.out]; omega, HI.out, by have h1 := hsz_len HSZ.out; rw [HK.out] at h1; omega, HZ.out.tail.tail⟩
        · have e19 : ((jh : Int) == 19) = false := by simp; omega
          by_cases h20 : jh = 20
          · have e20 : ((jh : Int) == 20) = true := by simp; omega
            clear h19 h20
            go_wp2_with fail
            with_reducible refine (qodd_c HO3.out _ s HSS.out).mono ?_
            rintro e w2 ⟨t, rfl, ht, hO⟩
            have HO4 := Lib.hid hO; have HT := Lib.hid ht
            clear hO ht HO3
            go_wp2_with (first | (refine wl_store1 rfl _ _ _ rfl HO4.out 0 g11 1 _ (.string t) _ rfl (by rfl) (by rfl) (by rfl) (by kernel_rfl) (by rfl) (by simp [av]) ?_; intro wy hO; have HO5 := Lib.hid (hO.cast (L' := (g11, .cells (av mt t (.slice A k c) body).toArray 24) :: (g10, .cells (av ⟨#[]⟩ ⟨#[]⟩ (.slice none 0 0) ⟨#[]⟩).toArray 24) :: (L ++ R)) rfl); clear hO HO4) | (refine wl_load rfl _ _ rfl g11 0 (av mt t (.slice A k c) body) (av mt t (.slice A k c) body) _ (HO5.out.heap (.head _)) (by rfl) _ Tryz.underlying24 rfl ask_size (by rfl) ?_) | (refine wl_store rfl _ _ _ rfl HO5.out 1 g10 0 _ (av mt t (.slice A k c) body) _ rfl (by rfl) (by rfl) ask_size (one_av rfl) (by simp [av]) ?_; intro wz hO; have HZ := Lib.hid (hO.cast (L' := (g11, .cells (av mt t (.slice A k c) body).toArray 24) :: (g10, .cells (av mt t (.slice A k c) body).toArray 24) :: (L ++ R)) rfl); clear hO HO5))
            have hc0 : wz.cell? ⟨g10, 0, none⟩ = some (.string mt) := HZ.out.cell (.tail _ (.head _)) 0
            have hc1 : wz.cell? ⟨g10, 1, none⟩ = some (.string t) := HZ.out.cell (.tail _ (.head _)) 1
            have hc2 : wz.cell? ⟨g10, 2, none⟩ = some (.slice A k c) := HZ.out.cell (.tail _ (.head _)) 2
            have hc3 : wz.cell? ⟨g10, 3, none⟩ = some (.string body) := HZ.out.cell (.tail _ (.head _)) 3
            exact bodyPost_ret (v := .agg (av mt t (.slice A k c) body).toArray) (by simp [results, Tryz.results5, go_sem, hc0, hc1, hc2, hc3, av]) rfl ⟨mt, t, (.slice A k c), hs, L, rfl, by have := HMT2.out; omega, HT.out, by rw [HK.out]; omega, HI.out, by have h1 := hsz_len HSZ.out; rw [HK.out] at h1; omega, HZ.out.tail.tail⟩
          · have e20 : ((jh : Int) == 20) = false := by simp; omega
            by_cases h21 : jh = 21
            · have e21 : ((jh : Int) == 21) = true := by simp; omega
              clear h19 h20 h21
              have HOr := Lib.hid (Own.rot (A := [(g11, .cells (av mt u (.slice A k c) body).toArray 24), (g10, .cells (av ⟨#[]⟩ ⟨#[]⟩ (.slice none 0 0) ⟨#[]⟩).toArray 24)]) (B := L) HO3.out)
              have k2 : wr.cell? ⟨g11, 2, none⟩ = some (.slice A k c) := HO3.out.cell (.head _) 2
              go_wp2_with (first | (refine wl_appendH1 rfl _ _ rfl (.slice A k c) hs (by rfl) HI.out (HOr.out.put2 (.cells #[.string s, .string ⟨#[118]⟩] 46)) _ 1 (s, ⟨#[118]⟩) (by rfl) (.head _) (by rw [HK.out]; omega) ?_; intro v2 wa L2 hv2' hO; obtain ⟨A2, c2, hve⟩ := IsRow.val hv2'; rw [List.length_append, HK.out, List.length_singleton] at hve; subst hve; have HV2 := Lib.hid hv2'; have HOA := Lib.hid (Own.rot (A := L2) (B := [(_, .cells #[.string s, .string ⟨#[118]⟩] 46), (g11, .cells (av mt u (.slice A k c) body).toArray 24), (g10, .cells (av ⟨#[]⟩ ⟨#[]⟩ (.slice none 0 0) ⟨#[]⟩).toArray 24)]) hO).tail; clear hO hv2' HOr HO3 k2) | (refine wl_store1 rfl _ _ _ rfl HOA.out 0 g11 2 _ (.slice A2 (k + 1) c2) _ rfl (by rfl) (by rfl) (by rfl) (by kernel_rfl) (by rfl) (by simp [av]) ?_; intro wy hO; have HO5 := Lib.hid (hO.cast (L' := (g11, .cells (av mt u (.slice A2 (k + 1) c2) body).toArray 24) :: (g10, .cells (av ⟨#[]⟩ ⟨#[]⟩ (.slice none 0 0) ⟨#[]⟩).toArray 24) :: (L2 ++ R)) rfl); clear hO HOA) | (refine wl_load rfl _ _ rfl g11 0 (av mt u (.slice A2 (k + 1) c2) body) (av mt u (.slice A2 (k + 1) c2) body) _ (HO5.out.heap (.head _)) (by rfl) _ Tryz.underlying24 rfl ask_size (by rfl) ?_) | (refine wl_store rfl _ _ _ rfl HO5.out 1 g10 0 _ (av mt u (.slice A2 (k + 1) c2) body) _ rfl (by rfl) (by rfl) ask_size (one_av rfl) (by simp [av]) ?_; intro wz hO; have HZ := Lib.hid (hO.cast (L' := (g11, .cells (av mt u (.slice A2 (k + 1) c2) body).toArray 24) :: (g10, .cells (av mt u (.slice A2 (k + 1) c2) body).toArray 24) :: (L2 ++ R)) rfl); clear hO HO5))
              have hc0 : wz.cell? ⟨g10, 0, none⟩ = some (.string mt) := HZ.out.cell (.tail _ (.head _)) 0
              have hc1 : wz.cell? ⟨g10, 1, none⟩ = some (.string u) := HZ.out.cell (.tail _ (.head _)) 1
              have hc2 : wz.cell? ⟨g10, 2, none⟩ = some (.slice A2 (k + 1) c2) := HZ.out.cell (.tail _ (.head _)) 2
              have hc3 : wz.cell? ⟨g10, 3, none⟩ = some (.string body) := HZ.out.cell (.tail _ (.head _)) 3
              exact bodyPost_ret (v := .agg (av mt u (.slice A2 (k + 1) c2) body).toArray) (by simp [results, Tryz.results5, go_sem, hc0, hc1, hc2, hc3, av]) rfl ⟨mt, u, (.slice A2 (k + 1) c2), hs ++ [(s, ⟨#[118]⟩)], L2, rfl, by have := HMT2.out; omega, by have := HU2.out; omega, by rw [List.length_append, HK.out, List.length_singleton]; omega, HV2.out, by have h1 := hsz_len HSZ.out; have h2 := hl_one s ⟨#[118]⟩; rw [HK.out] at h1; rw [hl_len_app, h2]; first | omega | (have h3 : (⟨#[110]⟩ : ByteArray).size = 1 := rfl; have h4 : (⟨#[118]⟩ : ByteArray).size = 1 := rfl; omega), HZ.out.tail.tail⟩
            · have e21 : ((jh : Int) == 21) = false := by simp; omega
              by_cases h22 : jh = 22
              · have e22 : ((jh : Int) == 22) = true := by simp; omega
                clear h19 h20 h21 h22
                have HOr := Lib.hid (Own.rot (A := [(g11, .cells (av mt u (.slice A k c) body).toArray 24), (g10, .cells (av ⟨#[]⟩ ⟨#[]⟩ (.slice none 0 0) ⟨#[]⟩).toArray 24)]) (B := L) HO3.out)
                have k2 : wr.cell? ⟨g11, 2, none⟩ = some (.slice A k c) := HO3.out.cell (.head _) 2
                go_wp2_with (first | (refine wl_appendH1 rfl _ _ rfl (.slice A k c) hs (by rfl) HI.out (HOr.out.put2 (.cells #[.string ⟨#[110]⟩, .string s] 46)) _ 1 (⟨#[110]⟩, s) (by rfl) (.head _) (by rw [HK.out]; omega) ?_; intro v2 wa L2 hv2' hO; obtain ⟨A2, c2, hve⟩ := IsRow.val hv2'; rw [List.length_append, HK.out, List.length_singleton] at hve; subst hve; have HV2 := Lib.hid hv2'; have HOA := Lib.hid (Own.rot (A := L2) (B := [(_, .cells #[.string ⟨#[110]⟩, .string s] 46), (g11, .cells (av mt u (.slice A k c) body).toArray 24), (g10, .cells (av ⟨#[]⟩ ⟨#[]⟩ (.slice none 0 0) ⟨#[]⟩).toArray 24)]) hO).tail; clear hO hv2' HOr HO3 k2) | (refine wl_store1 rfl _ _ _ rfl HOA.out 0 g11 2 _ (.slice A2 (k + 1) c2) _ rfl (by rfl) (by rfl) (by rfl) (by kernel_rfl) (by rfl) (by simp [av]) ?_; intro wy hO; have HO5 := Lib.hid (hO.cast (L' := (g11, .cells (av mt u (.slice A2 (k + 1) c2) body).toArray 24) :: (g10, .cells (av ⟨#[]⟩ ⟨#[]⟩ (.slice none 0 0) ⟨#[]⟩).toArray 24) :: (L2 ++ R)) rfl); clear hO HOA) | (refine wl_load rfl _ _ rfl g11 0 (av mt u (.slice A2 (k + 1) c2) body) (av mt u (.slice A2 (k + 1) c2) body) _ (HO5.out.heap (.head _)) (by rfl) _ Tryz.underlying24 rfl ask_size (by rfl) ?_) | (refine wl_store rfl _ _ _ rfl HO5.out 1 g10 0 _ (av mt u (.slice A2 (k + 1) c2) body) _ rfl (by rfl) (by rfl) ask_size (one_av rfl) (by simp [av]) ?_; intro wz hO; have HZ := Lib.hid (hO.cast (L' := (g11, .cells (av mt u (.slice A2 (k + 1) c2) body).toArray 24) :: (g10, .cells (av mt u (.slice A2 (k + 1) c2) body).toArray 24) :: (L2 ++ R)) rfl); clear hO HO5))
                have hc0 : wz.cell? ⟨g10, 0, none⟩ = some (.string mt) := HZ.out.cell (.tail _ (.head _)) 0
                have hc1 : wz.cell? ⟨g10, 1, none⟩ = some (.string u) := HZ.out.cell (.tail _ (.head _)) 1
                have hc2 : wz.cell? ⟨g10, 2, none⟩ = some (.slice A2 (k + 1) c2) := HZ.out.cell (.tail _ (.head _)) 2
                have hc3 : wz.cell? ⟨g10, 3, none⟩ = some (.string body) := HZ.out.cell (.tail _ (.head _)) 3
                exact bodyPost_ret (v := .agg (av mt u (.slice A2 (k + 1) c2) body).toArray) (by simp [results, Tryz.results5, go_sem, hc0, hc1, hc2, hc3, av]) rfl ⟨mt, u, (.slice A2 (k + 1) c2), hs ++ [(⟨#[110]⟩, s)], L2, rfl, by have := HMT2.out; omega, by have := HU2.out; omega, by rw [List.length_append, HK.out, List.length_singleton]; omega, HV2.out, by have h1 := hsz_len HSZ.out; have h2 := hl_one ⟨#[110]⟩ s; rw [HK.out] at h1; rw [hl_len_app, h2]; first | omega | (have h3 : (⟨#[110]⟩ : ByteArray).size = 1 := rfl; have h4 : (⟨#[118]⟩ : ByteArray).size = 1 := rfl; omega), HZ.out.tail.tail⟩
              · have e22 : ((jh : Int) == 22) = false := by simp; omega
                by_cases h23 : jh = 23
                · have e23 : ((jh : Int) == 23) = true := by simp; omega
                  clear h19 h20 h21 h22 h23
                  have HOr := Lib.hid (Own.rot (A := [(g11, .cells (av mt u (.slice A k c) body).toArray 24), (g10, .cells (av ⟨#[]⟩ ⟨#[]⟩ (.slice none 0 0) ⟨#[]⟩).toArray 24)]) (B := L) HO3.out)
                  have HP2 := Lib.hid (HOr.out.put2 (.cells (hv twoB).toArray 46))
                  have hcells : ∀ j v, (hv twoB)[j]? = some v → (wr.alloc (.cells (hv twoB).toArray 46)).cell? ((⟨wr.heap.size, 0, none⟩ : Addr).add j) = some v := fun j v hu => by rw [addr_add_zero, HP2.out.cell (List.mem_append_right _ (.head _))]; simpa using hu
                  have H1 : Hid (IsRow 46 2 (.slice A k c) k (hv hs) L) := Lib.hid (by have := HI.out; unfold IsHeads at this; rw [HK.out] at this; exact this)
                  have HCE := Lib.hid hcells
                  clear hcells
                  have k2 : wr.cell? ⟨g11, 2, none⟩ = some (.slice A k c) := HO3.out.cell (.head _) 2
                  go_wp2_with (first | (refine wl_append rfl _ _ _ rfl _ _ 2 32 Tryz.underlying22 head_info (by rfl) (by omega) (.slice A k c) k (hv hs) (by rfl) H1.out HP2.out ⟨wr.heap.size, 0, none⟩ 2 2 (hv twoB) (by rfl) (by rfl) (fun j u hu => HCE.out j u hu) (one_hv _) (by simp only [maxLen]; omega) (by omega) ?_; intro v2 wa L2 hv2' hO _; obtain ⟨A2, c2, hve⟩ := IsRow.val hv2'; subst hve; have HV2 := Lib.hid hv2'; have HOA := Lib.hid (Own.rot (A := L2) (B := [(_, .cells (hv twoB).toArray 46), (g11, .cells (av mt u (.slice A k c) body).toArray 24), (g10, .cells (av ⟨#[]⟩ ⟨#[]⟩ (.slice none 0 0) ⟨#[]⟩).toArray 24)]) hO).tail; clear hO hv2' HOr HO3 HP2 HCE k2) | (refine wl_store1 rfl _ _ _ rfl HOA.out 0 g11 2 _ (.slice A2 (k + 2) c2) _ rfl (by rfl) (by rfl) (by rfl) (by kernel_rfl) (by rfl) (by simp [av]) ?_; intro wy hO; have HO5 := Lib.hid (hO.cast (L' := (g11, .cells (av mt u (.slice A2 (k + 2) c2) body).toArray 24) :: (g10, .cells (av ⟨#[]⟩ ⟨#[]⟩ (.slice none 0 0) ⟨#[]⟩).toArray 24) :: (L2 ++ R)) rfl); clear hO HOA) | (refine wl_load rfl _ _ rfl g11 0 (av mt u (.slice A2 (k + 2) c2) body) (av mt u (.slice A2 (k + 2) c2) body) _ (HO5.out.heap (.head _)) (by rfl) _ Tryz.underlying24 rfl ask_size (by rfl) ?_) | (refine wl_store rfl _ _ _ rfl HO5.out 1 g10 0 _ (av mt u (.slice A2 (k + 2) c2) body) _ rfl (by rfl) (by rfl) ask_size (one_av rfl) (by simp [av]) ?_; intro wz hO; have HZ := Lib.hid (hO.cast (L' := (g11, .cells (av mt u (.slice A2 (k + 2) c2) body).toArray 24) :: (g10, .cells (av mt u (.slice A2 (k + 2) c2) body).toArray 24) :: (L2 ++ R)) rfl); clear hO HO5))
                  have hc0 : wz.cell? ⟨g10, 0, none⟩ = some (.string mt) := HZ.out.cell (.tail _ (.head _)) 0
                  have hc1 : wz.cell? ⟨g10, 1, none⟩ = some (.string u) := HZ.out.cell (.tail _ (.head _)) 1
                  have hc2 : wz.cell? ⟨g10, 2, none⟩ = some (.slice A2 (k + 2) c2) := HZ.out.cell (.tail _ (.head _)) 2
                  have hc3 : wz.cell? ⟨g10, 3, none⟩ = some (.string body) := HZ.out.cell (.tail _ (.head _)) 3
                  exact bodyPost_ret (v := .agg (av mt u (.slice A2 (k + 2) c2) body).toArray) (by simp [results, Tryz.results5, go_sem, hc0, hc1, hc2, hc3, av]) rfl ⟨mt, u, (.slice A2 (k + 2) c2), hs ++ twoB, L2, rfl, by have := HMT2.out; omega, by have := HU2.out; omega, by rw [List.length_append, HK.out]; simp only [twoB, List.length_cons, List.length_nil]; omega, by unfold IsHeads; rw [List.length_append, hv_append, HK.out]; exact HV2.out, by have h1 := hsz_len HSZ.out; have h2 : (headsP (hl twoB)).length = 12 := rfl; rw [HK.out] at h1; rw [hl_len_app, h2]; omega, HZ.out.tail.tail⟩
                · have e23 : ((jh : Int) == 23) = false := by simp; omega
                  clear h19 h20 h21 h22 h23
                  go_wp2_with (first | (refine wl_load rfl _ _ rfl g11 0 (av mt u (.slice A k c) body) (av mt u (.slice A k c) body) _ (HO3.out.heap (.head _)) (by rfl) _ Tryz.underlying24 rfl ask_size (by rfl) ?_) | (refine wl_store rfl _ _ _ rfl HO3.out 1 g10 0 _ (av mt u (.slice A k c) body) _ rfl (by rfl) (by rfl) ask_size (one_av rfl) (by simp [av]) ?_; intro wz hO; have HZ := Lib.hid (hO.cast (L' := (g11, .cells (av mt u (.slice A k c) body).toArray 24) :: (g10, .cells (av mt u (.slice A k c) body).toArray 24) :: (L ++ R)) rfl); clear hO HO3))
                  have hc0 : wz.cell? ⟨g10, 0, none⟩ = some (.string mt) := HZ.out.cell (.tail _ (.head _)) 0
                  have hc1 : wz.cell? ⟨g10, 1, none⟩ = some (.string u) := HZ.out.cell (.tail _ (.head _)) 1
                  have hc2 : wz.cell? ⟨g10, 2, none⟩ = some (.slice A k c) := HZ.out.cell (.tail _ (.head _)) 2
                  have hc3 : wz.cell? ⟨g10, 3, none⟩ = some (.string body) := HZ.out.cell (.tail _ (.head _)) 3
                  exact bodyPost_ret (v := .agg (av mt u (.slice A k c) body).toArray) (by simp [results, Tryz.results5, go_sem, hc0, hc1, hc2, hc3, av]) rfl ⟨mt, u, (.slice A k c), hs, L, rfl, by have := HMT2.out; omega, by have := HU2.out; omega, by rw [HK.out]; omega, HI.out, by have h1 := hsz_len HSZ.out; rw [HK.out] at h1; omega, HZ.out.tail.tail⟩
end Go.Proofs.YtlcolabblpikjaaGreatDoor
