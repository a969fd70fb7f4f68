/-
  ReplyHeads: whatever numbers and body (together of at most 1,048,576 values and letters): headers of a few names and values, blanks beside the values, are told in order, each as it stood, as many as eight; of nine or ten there is no answer.
  Conditions: the statement's own bound (the arguments hold together at most 1,048,576 values and letters).
-/
import Derived.Test.YtkmfbfmmlldphaaDoorL09a
import Derived.Test.YtkmfbfmmlldphaaDoorVarsR
import Derived.Test.YtkmfbfmmlldphaaDoorRep2
import Derived.Test.YtkmfbfmmlldphaaDoorTree3
import Derived.Test.YtkmfbfmmlldphaaDoorKeep
import Derived.Deep.DeepCutAuto
import Derived.JoinedCond
namespace Go.Proofs.YtkmfbfmmlldphaaDoor
set_option linter.unusedVariables false
set_option linter.unusedSimpArgs false
set_option maxRecDepth 20000
open Go.ChangeShapes Go.WideShapes Go.ChangeAt Go.RowKit
open Go.ChangeMaps (open_string shut_string)

def nmB : List ByteArray := [⟨#[97]⟩, ⟨#[66, 45, 50]⟩, ⟨#[101, 116, 97, 103]⟩, ⟨#[120]⟩]
def vlB : List ByteArray := [⟨#[]⟩, ⟨#[49]⟩, ⟨#[97, 32, 98]⟩, ⟨#[126, 58, 126]⟩]
def saB : List ByteArray := [⟨#[]⟩, ⟨#[32]⟩, ⟨#[32, 32, 32]⟩]
def sbB : List ByteArray := [⟨#[]⟩, ⟨#[32, 32]⟩]
def qJ (j1 j2 j3 j4 : Nat) : QL := ((([[97], [66, 45, 50], [101, 116, 97, 103], [120]] : List (List Int)).getD j1 [], ([[], [49], [97, 32, 98], [126, 58, 126]] : List (List Int)).getD j2 []), ([0, 1, 3] : List Nat).getD j3 0, ([0, 2] : List Nat).getD j4 0)
instance baDec : DecidableEq ByteArray := fun a b => decidable_of_iff (a.data = b.data) ⟨fun h => by cases a; cases b; simp_all, fun h => by rw [h]⟩
instance (h : List Int × List Int) : Decidable (HeadOk h) := by unfold HeadOk; infer_instance
def QOk (j1 j2 j3 j4 : Nat) : Prop :=
    nmB[j1]? = some (strOfNums (qJ j1 j2 j3 j4).1.1) ∧ vlB[j2]? = some (strOfNums (qJ j1 j2 j3 j4).1.2) ∧ saB[j3]? = some (strOfNums (List.replicate (qJ j1 j2 j3 j4).2.1 32)) ∧ sbB[j4]? = some (strOfNums (List.replicate (qJ j1 j2 j3 j4).2.2 32)) ∧
    HeadOk (qJ j1 j2 j3 j4).1 ∧ lowL (qJ j1 j2 j3 j4).1.1 ≠ clI ∧ (qJ j1 j2 j3 j4).1.1.length ≤ 4 ∧ (qJ j1 j2 j3 j4).1.2.length ≤ 3 ∧ (qJ j1 j2 j3 j4).2.1 ≤ 3 ∧ (qJ j1 j2 j3 j4).2.2 ≤ 2
instance (a b c d : Nat) : Decidable (QOk a b c d) := by unfold QOk; infer_instance
theorem qJ_ok : ∀ j1, j1 < 4 → ∀ j2, j2 < 4 → ∀ j3, j3 < 3 → ∀ j4, j4 < 2 → QOk j1 j2 j3 j4 := by decide +kernel
def qOf (x : Int) : QL := qJ (x % 4).toNat (IntKind.i64.wrap (x.tdiv 4) % 4).toNat (IntKind.i64.wrap (x.tdiv 16) % 3).toNat (IntKind.i64.wrap (x.tdiv 48) % 2).toNat
theorem qOf_ok (x : Int) : HeadOk (qOf x).1 ∧ lowL (qOf x).1.1 ≠ clI := by
  have h := qJ_ok (x % 4).toNat (by omega) (IntKind.i64.wrap (x.tdiv 4) % 4).toNat (by omega) (IntKind.i64.wrap (x.tdiv 16) % 3).toNat (by omega) (IntKind.i64.wrap (x.tdiv 48) % 2).toNat (by omega)
  exact ⟨h.2.2.2.2.1, h.2.2.2.2.2.1⟩
theorem lineQ_str (n v : List Int) (a b : Nat) : strOfNums n ++ ⟨#[58]⟩ ++ strOfNums (List.replicate a 32) ++ strOfNums v ++ strOfNums (List.replicate b 32) ++ ⟨#[13, 10]⟩ = strOfNums (lineQ ((n, v), a, b)) := by
  unfold lineQ
  rw [strs_app, show (58 : Int) :: (List.replicate a 32 ++ v ++ List.replicate b 32) = [58] ++ (List.replicate a 32 ++ v ++ List.replicate b 32) from rfl]
  simp only [strs_app, ByteArray.append_assoc]
  rfl
theorem lineQ_len (q : QL) (h1 : q.1.1.length ≤ 4) (h2 : q.1.2.length ≤ 3) (h3 : q.2.1 ≤ 3) (h4 : q.2.2 ≤ 2) : (lineQ q).length ≤ 15 := by
  unfold lineQ; simp; omega
theorem build_nm (w : World) : (Instr.buildSlice 32 4 #[(0, .string ⟨#[97]⟩), (1, .string ⟨#[66, 45, 50]⟩), (2, .string ⟨#[101, 116, 97, 103]⟩), (3, .string ⟨#[120]⟩)]).run Tryd.prog w = .ok (.slice (some ⟨w.heap.size, 0, none⟩) 4 4) (w.alloc (.cells (nmB.map Value.string).toArray 9)) := by kernel_rfl
theorem build_vl (w : World) : (Instr.buildSlice 32 4 #[(0, .string ⟨#[]⟩), (1, .string ⟨#[49]⟩), (2, .string ⟨#[97, 32, 98]⟩), (3, .string ⟨#[126, 58, 126]⟩)]).run Tryd.prog w = .ok (.slice (some ⟨w.heap.size, 0, none⟩) 4 4) (w.alloc (.cells (vlB.map Value.string).toArray 9)) := by kernel_rfl
theorem build_sa (w : World) : (Instr.buildSlice 32 3 #[(0, .string ⟨#[]⟩), (1, .string ⟨#[32]⟩), (2, .string ⟨#[32, 32, 32]⟩)]).run Tryd.prog w = .ok (.slice (some ⟨w.heap.size, 0, none⟩) 3 3) (w.alloc (.cells (saB.map Value.string).toArray 9)) := by kernel_rfl
theorem build_sb (w : World) : (Instr.buildSlice 32 2 #[(0, .string ⟨#[]⟩), (1, .string ⟨#[32, 32]⟩)]).run Tryd.prog w = .ok (.slice (some ⟨w.heap.size, 0, none⟩) 2 2) (w.alloc (.cells (sbB.map Value.string).toArray 9)) := by kernel_rfl
theorem sb_append' (s t : ByteArray) : sb (s ++ t) = sb s ++ sb t := by
  unfold sb
  rw [ByteArray.data_append, Array.toList_append, List.map_append]
theorem lineQ_byt {q : QL} (h : HeadOk q.1) : Byt (lineQ q) := by
  obtain ⟨h1, h2⟩ := headOk_byt h
  intro x hx
  unfold lineQ at hx
  simp only [List.mem_append, List.mem_cons, List.mem_replicate, List.not_mem_nil, or_false] at hx
  rcases hx with (hx | rfl | (⟨_, rfl⟩ | hx) | ⟨_, rfl⟩) | rfl | rfl
  · exact h1 x hx
  · decide
  · decide
  · exact h2 x hx
  · decide
  · decide
  · decide
theorem lines_byt {qs : List QL} (h : ∀ q ∈ qs, HeadOk q.1) : Byt (head200 ++ qs.flatMap lineQ) := by
  intro x hx
  rcases List.mem_append.1 hx with hx | hx
  · have : ∀ x ∈ head200, 0 ≤ x ∧ x ≤ 255 := by decide
    exact this x hx
  · obtain ⟨q, hq, hx⟩ := List.mem_flatMap.1 hx
    exact lineQ_byt (h q hq) x hx
def MidH (W : World) (p q : ByteArray) (L : Blks) (s8 : Value) (wx : World) : Prop := ∃ gh, s8 = .pointer (some ⟨gh, 0, none⟩) ∧ Own W wx ((gh, .cells #[.string p, .string q] 30) :: L)
def MidT (W : World) (t : ByteArray) (L : Blks) (s5 : Value) (wx : World) : Prop := s5 = .string t ∧ Own W wx L
set_option maxRecDepth 100000 in
set_option maxHeartbeats 16000000 in
theorem replyHeads_walk {W : World} (hV : MostOk W) (v : Value) (xs : List Int) (hv : InRow .i64 W v xs) (zv : xs.length ≤ 1048576) (body : ByteArray) (hbz : body.size ≤ 1048576) :
    Calls Tryd.prog 4 #[v, .string body] W (Yes W) := by
  have HVV := Lib.hid hV
  have hrd := hv.rdv []
  obtain ⟨A, n, cp, rfl, hn, _, _, _, _⟩ := hv
  have HN := Lib.hid hn; have HRD := Lib.hid hrd
  have HO := Lib.hid (Own.start W)
  clear hV zv hn hrd
  go_enter Tryd.func4, Tryd.ntmps4
  go_wp2
  go_loopw [5, 6, 7] (fun s t u w' => ∃ (k : Nat) (o : ByteArray) (A1 : Option Addr) (c1 : Nat) (L : Blks), k ≤ n ∧ k ≤ 10 ∧ s = .string o ∧ t = .slice A1 k c1 ∧ u = .int .i64 k ∧ Hid (o = strOfNums (head200 ++ ((xs.map qOf).take k).flatMap lineQ) ∧ o.size ≤ 16 + 15 * k) ∧ Hid (IsHeads (.slice A1 k c1) (((xs.map qOf).take k).map fun q => toB q.1) L) ∧ Hid (Own W w' L)) (fun _ _ u _ => 10 - (intOf u).toNat)
  case atStart => exact ⟨0, _, none, 0, [], Nat.zero_le _, by omega, rfl, rfl, rfl, Lib.hid ⟨by rfl, by decide⟩, Lib.hid isHeads_nil, HO⟩
  case round =>
    obtain ⟨k, o, A1, c1, L, hk, hk10, rfl, rfl, rfl, HS, HI, HO2⟩ := hrel
    clear HO
    by_cases hlt : k < n
    · have hkn : (k : Int) < n := by omega
      by_cases h10 : k < 10
      · have hk10' : (k : Int) < 10 := by omega
        have hkl : k < xs.length := by rw [HN.out]; exact hlt
        obtain ⟨A', n', cp', e', hn', _, hA'⟩ := HRD.out wr L (by rw [List.append_nil]; exact HO2.out)
        cases e'
        obtain ⟨ad, rfl, _⟩ := hA' (by omega)
        have hx : ∀ w' L', Own W w' L' → w'.cell? (ad.add k) = some (.int .i64 xs[k]) := fun w' L' h => HRD.out.src (L' := L') (by rw [List.append_nil]; exact h) k _ (by rw [List.getElem?_map, List.getElem?_eq_getElem hkl]; rfl)
        have htk : (xs.map qOf).take (k + 1) = (xs.map qOf).take k ++ [qOf xs[k]] := by
          rw [List.take_succ_eq_append_getElem (by rw [List.length_map]; exact hkl), List.getElem_map]
        generalize xs[k] = x at *
        have HX := Lib.hid hx; have HTK := Lib.hid htk
        have q1 := fun w : World => within_n (w := w) x 4 (by omega) (by omega)
        have q2 := fun w : World => within_n (w := w) (IntKind.i64.wrap (x.tdiv 4)) 4 (by omega) (by omega)
        have q3 := fun w : World => within_n (w := w) (IntKind.i64.wrap (x.tdiv 16)) 3 (by omega) (by omega)
        have q4 := fun w : World => within_n (w := w) (IntKind.i64.wrap (x.tdiv 48)) 2 (by omega) (by omega)
        have hj1 : (x % 4).toNat < 4 := by omega
        have hj2 : (IntKind.i64.wrap (x.tdiv 4) % 4).toNat < 4 := by omega
        have hj3 : (IntKind.i64.wrap (x.tdiv 16) % 3).toNat < 3 := by omega
        have hj4 : (IntKind.i64.wrap (x.tdiv 48) % 2).toNat < 2 := by omega
        have hok := qJ_ok _ hj1 _ hj2 _ hj3 _ hj4
        unfold QOk at hok
        have hqe : qOf x = qJ (x % 4).toNat (IntKind.i64.wrap (x.tdiv 4) % 4).toNat (IntKind.i64.wrap (x.tdiv 16) % 3).toNat (IntKind.i64.wrap (x.tdiv 48) % 2).toNat := rfl
        generalize (x % 4).toNat = j1 at *
        generalize (IntKind.i64.wrap (x.tdiv 4) % 4).toNat = j2 at *
        generalize (IntKind.i64.wrap (x.tdiv 16) % 3).toNat = j3 at *
        generalize (IntKind.i64.wrap (x.tdiv 48) % 2).toNat = j4 at *
        rw [hqe] at htk HTK
        generalize qJ j1 j2 j3 j4 = qx at *
        obtain ⟨⟨nm, vl⟩, na, nb⟩ := qx
        obtain ⟨e1, e2, e3, e4, hhk, hhl, z1, z2, z3, z4⟩ := hok
        have hls := lineQ_str nm vl na nb
        have hll := lineQ_len ((nm, vl), na, nb) z1 z2 z3 z4
        have s1 : (strOfNums nm).size ≤ 4 := by rw [strOfNums_size]; exact z1
        have s2 : (strOfNums vl).size ≤ 3 := by rw [strOfNums_size]; exact z2
        have s3 : (strOfNums (List.replicate na 32)).size ≤ 3 := by rw [strOfNums_size, List.length_replicate]; exact z3
        have s4 : (strOfNums (List.replicate nb 32)).size ≤ 2 := by rw [strOfNums_size, List.length_replicate]; exact z4
        have hto : toB (nm, vl) = (strOfNums nm, strOfNums vl) := rfl
        simp only at e1 e2 e3 e4
        generalize strOfNums nm = p at *
        generalize strOfNums vl = q at *
        generalize strOfNums (List.replicate na 32) = sa at *
        generalize strOfNums (List.replicate nb 32) = sbb at *
        have c1' : ∀ (w' : World) (L' : Blks) (g : Nat), Own W w' L' → (g, Obj.cells (nmB.map Value.string).toArray 9) ∈ L' → w'.cell? ⟨g, j1, none⟩ = some (.string p) := fun w' L' g h hm => (h.cell hm j1).trans (by simp [e1])
        have c2' : ∀ (w' : World) (L' : Blks) (g : Nat), Own W w' L' → (g, Obj.cells (vlB.map Value.string).toArray 9) ∈ L' → w'.cell? ⟨g, j2, none⟩ = some (.string q) := fun w' L' g h hm => (h.cell hm j2).trans (by simp [e2])
        have c3' : ∀ (w' : World) (L' : Blks) (g : Nat), Own W w' L' → (g, Obj.cells (saB.map Value.string).toArray 9) ∈ L' → w'.cell? ⟨g, j3, none⟩ = some (.string sa) := fun w' L' g h hm => (h.cell hm j3).trans (by simp [e3])
        have c4' : ∀ (w' : World) (L' : Blks) (g : Nat), Own W w' L' → (g, Obj.cells (sbB.map Value.string).toArray 9) ∈ L' → w'.cell? ⟨g, j4, none⟩ = some (.string sbb) := fun w' L' g h hm => (h.cell hm j4).trans (by simp [e4])
        have HC1 := Lib.hid c1'; have HC2 := Lib.hid c2'; have HC3 := Lib.hid c3'; have HC4 := Lib.hid c4'
        have HQ1 := Lib.hid q1; have HQ2 := Lib.hid q2; have HQ3 := Lib.hid q3; have HQ4 := Lib.hid q4
        have HLS := Lib.hid hls; have HTO := Lib.hid hto; have HLL := Lib.hid hll
        have hj1I : (j1 : Int) < 4 := by omega
        have hj2I : (j2 : Int) < 4 := by omega
        have hj3I : (j3 : Int) < 3 := by omega
        have hj4I : (j4 : Int) < 2 := by omega
        clear hx htk hA' hn' e1 e2 e3 e4 hhk hhl z1 z2 z3 z4 hqe c1' c2' c3' c4' q1 q2 q3 q4 hls hto hll
        go_upto_region 6 with fail
        go_cut [8] (fun s8 wx => MidH W p q L s8 wx)
        case first =>
          rename_i JJ KK hJJ hKK
          --REGION6
          refine wp_region_tree3 (fun w' => Own W w' (L)) 19 (.q 1 (.q 2 (.q 3 (.q 4 (.q 5 (.q 9 (.q 10 (.q 11 (.q 12 (.q 13 (.q 14 (.three 0 (.q 6 (.q 7 (.two 8 (.q 15 (.q 16 (.q 17 (.one 18 .done)))) 18 (.one 8 (.q 15 (.q 16 (.q 17 .done))))))) 8 (.q 15 (.q 16 (.two 0 (.q 6 (.q 7 (.q 17 (.one 18 .done)))) 18 (.one 0 (.q 6 (.q 7 (.q 17 .done))))))) 18 (.two 0 (.q 6 (.q 7 (.one 8 (.q 15 (.q 16 (.q 17 .done)))))) 8 (.q 15 (.q 16 (.one 0 (.q 6 (.q 7 (.q 17 .done))))))))))))))))))) (by kernel_rfl) (by decide +kernel) (fun _ _ d _ _ h => by cases d <;> exact h) HO2.out.drew ?_
          simp only [List.drop_succ_cons, List.drop_zero]
          have HT := Lib.hid HO2.out.drew; clear HO2
          generalize wr.drew = wdr at *
          refine t3_q ?_ rfl ?_ ?_; rotate_left 1; (focus (rintro w' hO; simp only [pick_zero, pick_succ]; go_simp; first | done | with_reducible rfl | (trace_state; fail))); simp only [pick_zero, pick_succ]; simp only [Act.put, List.setIfInBounds_toArray, List.set_cons_zero, List.set_cons_succ]
          refine t3_q ?_ rfl ?_ ?_; rotate_left 1; (focus (rintro w' hO; simp only [pick_zero, pick_succ]; go_simp; first | done | with_reducible rfl | (trace_state; fail))); simp only [pick_zero, pick_succ]; simp only [Act.put, List.setIfInBounds_toArray, List.set_cons_zero, List.set_cons_succ]
          refine t3_q ?_ rfl ?_ ?_; rotate_left 1; (focus (rintro w' hO; simp only [pick_zero, pick_succ]; go_simp; first | done | with_reducible rfl | (trace_state; fail))); simp only [pick_zero, pick_succ]; simp only [Act.put, List.setIfInBounds_toArray, List.set_cons_zero, List.set_cons_succ]
          refine t3_q ?_ rfl ?_ ?_; rotate_left 1; (focus (rintro w' hO; have hx := HX.out w' _ hO; simp only [pick_zero, pick_succ]; go_simp; first | done | with_reducible rfl | (trace_state; fail))); simp only [pick_zero, pick_succ]; simp only [Act.put, List.setIfInBounds_toArray, List.set_cons_zero, List.set_cons_succ]
          refine t3_call (.int .i64 j1) rfl 11 #[.int .i64 x, .int .i64 4] (fun w' => by simp only [pick_zero, pick_succ]; go_simp) (fun w' _ => HQ1.out w') ?_; simp only [pick_zero, pick_succ]; simp only [Act.put, List.setIfInBounds_toArray, List.set_cons_zero, List.set_cons_succ]
          refine t3_q ?_ rfl ?_ ?_; rotate_left 1; (focus (rintro w' hO; simp only [pick_zero, pick_succ]; go_simp; first | done | with_reducible rfl | (trace_state; fail))); simp only [pick_zero, pick_succ]; simp only [Act.put, List.setIfInBounds_toArray, List.set_cons_zero, List.set_cons_succ]
          refine t3_q ?_ rfl ?_ ?_; rotate_left 1; (focus (rintro w' hO; simp only [pick_zero, pick_succ]; go_simp; first | done | with_reducible rfl | (trace_state; fail))); simp only [pick_zero, pick_succ]; simp only [Act.put, List.setIfInBounds_toArray, List.set_cons_zero, List.set_cons_succ]
          refine t3_q ?_ rfl ?_ ?_; rotate_left 1; (focus (rintro w' hO; simp only [pick_zero, pick_succ]; go_simp; first | done | with_reducible rfl | (trace_state; fail))); simp only [pick_zero, pick_succ]; simp only [Act.put, List.setIfInBounds_toArray, List.set_cons_zero, List.set_cons_succ]
          refine t3_q ?_ rfl ?_ ?_; rotate_left 1; (focus (rintro w' hO; have hx := HX.out w' _ hO; simp only [pick_zero, pick_succ]; go_simp; first | done | with_reducible rfl | (trace_state; fail))); simp only [pick_zero, pick_succ]; simp only [Act.put, List.setIfInBounds_toArray, List.set_cons_zero, List.set_cons_succ]
          refine t3_q ?_ rfl ?_ ?_; rotate_left 1; (focus (rintro w' hO; simp only [pick_zero, pick_succ]; go_simp; first | done | with_reducible rfl | (trace_state; fail))); simp only [pick_zero, pick_succ]; simp only [Act.put, List.setIfInBounds_toArray, List.set_cons_zero, List.set_cons_succ]
          refine t3_call (.int .i64 j2) rfl 11 #[.int .i64 (IntKind.i64.wrap (x.tdiv 4)), .int .i64 4] (fun w' => by simp only [pick_zero, pick_succ]; go_simp) (fun w' _ => HQ2.out w') ?_; simp only [pick_zero, pick_succ]; simp only [Act.put, List.setIfInBounds_toArray, List.set_cons_zero, List.set_cons_succ]
          refine t3_three ?_ ?_ ?_
          · simp only [pick_zero, pick_succ]
            refine wl_buildSlice rfl _ 4 [(0, _), (1, _), (2, _), (3, _)] rfl HT.out _ (build_nm _) ?_
            intro ga wx0 hO; have HT0 := Lib.hid hO; clear hO HT
            refine ActPost.mk (fun w' => Own W w' ((ga, .cells (nmB.map Value.string).toArray 9) :: L)) (fun w' h => h.tail) HT0.out ?_; simp only [Act.put, List.setIfInBounds_toArray, List.set_cons_zero, List.set_cons_succ]
            refine t3_q ?_ rfl ?_ ?_; rotate_left 1; (focus (rintro w' hO; simp only [pick_zero, pick_succ]; go_simp; first | done | with_reducible rfl | (trace_state; fail))); simp only [pick_zero, pick_succ]; simp only [Act.put, List.setIfInBounds_toArray, List.set_cons_zero, List.set_cons_succ]
            refine t3_q ?_ rfl ?_ ?_; rotate_left 1; (focus (rintro w' hO; have hc := HC1.out w' _ ga hO (.head _); simp only [pick_zero, pick_succ]; go_simp; first | done | with_reducible rfl | (trace_state; fail))); simp only [pick_zero, pick_succ]; simp only [Act.put, List.setIfInBounds_toArray, List.set_cons_zero, List.set_cons_succ]
            refine t3_two ?_ ?_
            · simp only [pick_zero, pick_succ]
              refine wl_buildSlice rfl _ 4 [(0, _), (1, _), (2, _), (3, _)] rfl HT0.out _ (build_vl _) ?_
              intro gb wx8 hO; have HT08 := Lib.hid hO; clear hO HT0
              refine ActPost.mk (fun w' => Own W w' ((gb, .cells (vlB.map Value.string).toArray 9) :: (ga, .cells (nmB.map Value.string).toArray 9) :: L)) (fun w' h => h.tail) HT08.out ?_; simp only [Act.put, List.setIfInBounds_toArray, List.set_cons_zero, List.set_cons_succ]
              refine t3_q ?_ rfl ?_ ?_; rotate_left 1; (focus (rintro w' hO; simp only [pick_zero, pick_succ]; go_simp; first | done | with_reducible rfl | (trace_state; fail))); simp only [pick_zero, pick_succ]; simp only [Act.put, List.setIfInBounds_toArray, List.set_cons_zero, List.set_cons_succ]
              refine t3_q ?_ rfl ?_ ?_; rotate_left 1; (focus (rintro w' hO; have hc := HC2.out w' _ gb hO (.head _); simp only [pick_zero, pick_succ]; go_simp; first | done | with_reducible rfl | (trace_state; fail))); simp only [pick_zero, pick_succ]; simp only [Act.put, List.setIfInBounds_toArray, List.set_cons_zero, List.set_cons_succ]
              refine t3_q ?_ rfl ?_ ?_; rotate_left 1; (focus (rintro w' hO; simp only [pick_zero, pick_succ]; go_simp; first | done | with_reducible rfl | (trace_state; fail))); simp only [pick_zero, pick_succ]; simp only [Act.put, List.setIfInBounds_toArray, List.set_cons_zero, List.set_cons_succ]
              refine t3_one ?_
              simp only [pick_zero, pick_succ]
              refine wl_alloc rfl _ rfl HT08.out _ (alloc_head _) ?_
              intro gh wx18 hO; have HT0818 := Lib.hid hO; clear hO HT08
              refine ActPost.mk (fun w' => Own W w' ((gh, .cells (hv2 (⟨#[]⟩, ⟨#[]⟩)).toArray 30) :: (gb, .cells (vlB.map Value.string).toArray 9) :: (ga, .cells (nmB.map Value.string).toArray 9) :: L)) (fun w' h => h.tail) HT0818.out ?_; simp only [Act.put, List.setIfInBounds_toArray, List.set_cons_zero, List.set_cons_succ]
              refine t3_done ?_
              refine wl_store rfl _ _ _ rfl HT0818.out 0 gh 0 _ [.string p, .string q] _ rfl (by rfl) (by rfl) head_size (one_hv2 (p, q)) (by simp [hv2]) ?_
              intro wy hO
              have HY : Hid (Own W wy ((gh, .cells #[.string p, .string q] 30) :: (gb, .cells (vlB.map Value.string).toArray 9) :: (ga, .cells (nmB.map Value.string).toArray 9) :: L)) := Lib.hid (hO.cast rfl)
              clear hO
              refine hKK _ _ ?_
              simp only [Act.put, List.setIfInBounds_toArray, List.set_cons_zero, List.set_cons_succ]
              go_meet
              exact ⟨gh, rfl, HY.out.sub (List.Sublist.cons_cons _ (List.Sublist.cons _ (List.Sublist.cons _ (List.Sublist.refl _))))⟩
            · simp only [pick_zero, pick_succ]
              refine wl_alloc rfl _ rfl HT0.out _ (alloc_head _) ?_
              intro gh wx18 hO; have HT018 := Lib.hid hO; clear hO HT0
              refine ActPost.mk (fun w' => Own W w' ((gh, .cells (hv2 (⟨#[]⟩, ⟨#[]⟩)).toArray 30) :: (ga, .cells (nmB.map Value.string).toArray 9) :: L)) (fun w' h => h.tail) HT018.out ?_; simp only [Act.put, List.setIfInBounds_toArray, List.set_cons_zero, List.set_cons_succ]
              refine t3_one ?_
              simp only [pick_zero, pick_succ]
              refine wl_buildSlice rfl _ 4 [(0, _), (1, _), (2, _), (3, _)] rfl HT018.out _ (build_vl _) ?_
              intro gb wx8 hO; have HT0188 := Lib.hid hO; clear hO HT018
              refine ActPost.mk (fun w' => Own W w' ((gb, .cells (vlB.map Value.string).toArray 9) :: (gh, .cells (hv2 (⟨#[]⟩, ⟨#[]⟩)).toArray 30) :: (ga, .cells (nmB.map Value.string).toArray 9) :: L)) (fun w' h => h.tail) HT0188.out ?_; simp only [Act.put, List.setIfInBounds_toArray, List.set_cons_zero, List.set_cons_succ]
              refine t3_q ?_ rfl ?_ ?_; rotate_left 1; (focus (rintro w' hO; simp only [pick_zero, pick_succ]; go_simp; first | done | with_reducible rfl | (trace_state; fail))); simp only [pick_zero, pick_succ]; simp only [Act.put, List.setIfInBounds_toArray, List.set_cons_zero, List.set_cons_succ]
              refine t3_q ?_ rfl ?_ ?_; rotate_left 1; (focus (rintro w' hO; have hc := HC2.out w' _ gb hO (.head _); simp only [pick_zero, pick_succ]; go_simp; first | done | with_reducible rfl | (trace_state; fail))); simp only [pick_zero, pick_succ]; simp only [Act.put, List.setIfInBounds_toArray, List.set_cons_zero, List.set_cons_succ]
              refine t3_q ?_ rfl ?_ ?_; rotate_left 1; (focus (rintro w' hO; simp only [pick_zero, pick_succ]; go_simp; first | done | with_reducible rfl | (trace_state; fail))); simp only [pick_zero, pick_succ]; simp only [Act.put, List.setIfInBounds_toArray, List.set_cons_zero, List.set_cons_succ]
              refine t3_done ?_
              refine wl_store rfl _ _ _ rfl HT0188.out 1 gh 0 _ [.string p, .string q] _ rfl (by rfl) (by rfl) head_size (one_hv2 (p, q)) (by simp [hv2]) ?_
              intro wy hO
              have HY : Hid (Own W wy ((gb, .cells (vlB.map Value.string).toArray 9) :: (gh, .cells #[.string p, .string q] 30) :: (ga, .cells (nmB.map Value.string).toArray 9) :: L)) := Lib.hid (hO.cast rfl)
              clear hO
              refine hKK _ _ ?_
              simp only [Act.put, List.setIfInBounds_toArray, List.set_cons_zero, List.set_cons_succ]
              go_meet
              exact ⟨gh, rfl, HY.out.sub (List.Sublist.cons _ (List.Sublist.cons_cons _ (List.Sublist.cons _ (List.Sublist.refl _))))⟩
          · simp only [pick_zero, pick_succ]
            refine wl_buildSlice rfl _ 4 [(0, _), (1, _), (2, _), (3, _)] rfl HT.out _ (build_vl _) ?_
            intro gb wx8 hO; have HT8 := Lib.hid hO; clear hO HT
            refine ActPost.mk (fun w' => Own W w' ((gb, .cells (vlB.map Value.string).toArray 9) :: L)) (fun w' h => h.tail) HT8.out ?_; simp only [Act.put, List.setIfInBounds_toArray, List.set_cons_zero, List.set_cons_succ]
            refine t3_q ?_ rfl ?_ ?_; rotate_left 1; (focus (rintro w' hO; simp only [pick_zero, pick_succ]; go_simp; first | done | with_reducible rfl | (trace_state; fail))); simp only [pick_zero, pick_succ]; simp only [Act.put, List.setIfInBounds_toArray, List.set_cons_zero, List.set_cons_succ]
            refine t3_q ?_ rfl ?_ ?_; rotate_left 1; (focus (rintro w' hO; have hc := HC2.out w' _ gb hO (.head _); simp only [pick_zero, pick_succ]; go_simp; first | done | with_reducible rfl | (trace_state; fail))); simp only [pick_zero, pick_succ]; simp only [Act.put, List.setIfInBounds_toArray, List.set_cons_zero, List.set_cons_succ]
            refine t3_two ?_ ?_
            · simp only [pick_zero, pick_succ]
              refine wl_buildSlice rfl _ 4 [(0, _), (1, _), (2, _), (3, _)] rfl HT8.out _ (build_nm _) ?_
              intro ga wx0 hO; have HT80 := Lib.hid hO; clear hO HT8
              refine ActPost.mk (fun w' => Own W w' ((ga, .cells (nmB.map Value.string).toArray 9) :: (gb, .cells (vlB.map Value.string).toArray 9) :: L)) (fun w' h => h.tail) HT80.out ?_; simp only [Act.put, List.setIfInBounds_toArray, List.set_cons_zero, List.set_cons_succ]
              refine t3_q ?_ rfl ?_ ?_; rotate_left 1; (focus (rintro w' hO; simp only [pick_zero, pick_succ]; go_simp; first | done | with_reducible rfl | (trace_state; fail))); simp only [pick_zero, pick_succ]; simp only [Act.put, List.setIfInBounds_toArray, List.set_cons_zero, List.set_cons_succ]
              refine t3_q ?_ rfl ?_ ?_; rotate_left 1; (focus (rintro w' hO; have hc := HC1.out w' _ ga hO (.head _); simp only [pick_zero, pick_succ]; go_simp; first | done | with_reducible rfl | (trace_state; fail))); simp only [pick_zero, pick_succ]; simp only [Act.put, List.setIfInBounds_toArray, List.set_cons_zero, List.set_cons_succ]
              refine t3_q ?_ rfl ?_ ?_; rotate_left 1; (focus (rintro w' hO; simp only [pick_zero, pick_succ]; go_simp; first | done | with_reducible rfl | (trace_state; fail))); simp only [pick_zero, pick_succ]; simp only [Act.put, List.setIfInBounds_toArray, List.set_cons_zero, List.set_cons_succ]
              refine t3_one ?_
              simp only [pick_zero, pick_succ]
              refine wl_alloc rfl _ rfl HT80.out _ (alloc_head _) ?_
              intro gh wx18 hO; have HT8018 := Lib.hid hO; clear hO HT80
              refine ActPost.mk (fun w' => Own W w' ((gh, .cells (hv2 (⟨#[]⟩, ⟨#[]⟩)).toArray 30) :: (ga, .cells (nmB.map Value.string).toArray 9) :: (gb, .cells (vlB.map Value.string).toArray 9) :: L)) (fun w' h => h.tail) HT8018.out ?_; simp only [Act.put, List.setIfInBounds_toArray, List.set_cons_zero, List.set_cons_succ]
              refine t3_done ?_
              refine wl_store rfl _ _ _ rfl HT8018.out 0 gh 0 _ [.string p, .string q] _ rfl (by rfl) (by rfl) head_size (one_hv2 (p, q)) (by simp [hv2]) ?_
              intro wy hO
              have HY : Hid (Own W wy ((gh, .cells #[.string p, .string q] 30) :: (ga, .cells (nmB.map Value.string).toArray 9) :: (gb, .cells (vlB.map Value.string).toArray 9) :: L)) := Lib.hid (hO.cast rfl)
              clear hO
              refine hKK _ _ ?_
              simp only [Act.put, List.setIfInBounds_toArray, List.set_cons_zero, List.set_cons_succ]
              go_meet
              exact ⟨gh, rfl, HY.out.sub (List.Sublist.cons_cons _ (List.Sublist.cons _ (List.Sublist.cons _ (List.Sublist.refl _))))⟩
            · simp only [pick_zero, pick_succ]
              refine wl_alloc rfl _ rfl HT8.out _ (alloc_head _) ?_
              intro gh wx18 hO; have HT818 := Lib.hid hO; clear hO HT8
              refine ActPost.mk (fun w' => Own W w' ((gh, .cells (hv2 (⟨#[]⟩, ⟨#[]⟩)).toArray 30) :: (gb, .cells (vlB.map Value.string).toArray 9) :: L)) (fun w' h => h.tail) HT818.out ?_; simp only [Act.put, List.setIfInBounds_toArray, List.set_cons_zero, List.set_cons_succ]
              refine t3_one ?_
              simp only [pick_zero, pick_succ]
              refine wl_buildSlice rfl _ 4 [(0, _), (1, _), (2, _), (3, _)] rfl HT818.out _ (build_nm _) ?_
              intro ga wx0 hO; have HT8180 := Lib.hid hO; clear hO HT818
              refine ActPost.mk (fun w' => Own W w' ((ga, .cells (nmB.map Value.string).toArray 9) :: (gh, .cells (hv2 (⟨#[]⟩, ⟨#[]⟩)).toArray 30) :: (gb, .cells (vlB.map Value.string).toArray 9) :: L)) (fun w' h => h.tail) HT8180.out ?_; simp only [Act.put, List.setIfInBounds_toArray, List.set_cons_zero, List.set_cons_succ]
              refine t3_q ?_ rfl ?_ ?_; rotate_left 1; (focus (rintro w' hO; simp only [pick_zero, pick_succ]; go_simp; first | done | with_reducible rfl | (trace_state; fail))); simp only [pick_zero, pick_succ]; simp only [Act.put, List.setIfInBounds_toArray, List.set_cons_zero, List.set_cons_succ]
              refine t3_q ?_ rfl ?_ ?_; rotate_left 1; (focus (rintro w' hO; have hc := HC1.out w' _ ga hO (.head _); simp only [pick_zero, pick_succ]; go_simp; first | done | with_reducible rfl | (trace_state; fail))); simp only [pick_zero, pick_succ]; simp only [Act.put, List.setIfInBounds_toArray, List.set_cons_zero, List.set_cons_succ]
              refine t3_q ?_ rfl ?_ ?_; rotate_left 1; (focus (rintro w' hO; simp only [pick_zero, pick_succ]; go_simp; first | done | with_reducible rfl | (trace_state; fail))); simp only [pick_zero, pick_succ]; simp only [Act.put, List.setIfInBounds_toArray, List.set_cons_zero, List.set_cons_succ]
              refine t3_done ?_
              refine wl_store rfl _ _ _ rfl HT8180.out 1 gh 0 _ [.string p, .string q] _ rfl (by rfl) (by rfl) head_size (one_hv2 (p, q)) (by simp [hv2]) ?_
              intro wy hO
              have HY : Hid (Own W wy ((ga, .cells (nmB.map Value.string).toArray 9) :: (gh, .cells #[.string p, .string q] 30) :: (gb, .cells (vlB.map Value.string).toArray 9) :: L)) := Lib.hid (hO.cast rfl)
              clear hO
              refine hKK _ _ ?_
              simp only [Act.put, List.setIfInBounds_toArray, List.set_cons_zero, List.set_cons_succ]
              go_meet
              exact ⟨gh, rfl, HY.out.sub (List.Sublist.cons _ (List.Sublist.cons_cons _ (List.Sublist.cons _ (List.Sublist.refl _))))⟩
          · simp only [pick_zero, pick_succ]
            refine wl_alloc rfl _ rfl HT.out _ (alloc_head _) ?_
            intro gh wx18 hO; have HT18 := Lib.hid hO; clear hO HT
            refine ActPost.mk (fun w' => Own W w' ((gh, .cells (hv2 (⟨#[]⟩, ⟨#[]⟩)).toArray 30) :: L)) (fun w' h => h.tail) HT18.out ?_; simp only [Act.put, List.setIfInBounds_toArray, List.set_cons_zero, List.set_cons_succ]
            refine t3_two ?_ ?_
            · simp only [pick_zero, pick_succ]
              refine wl_buildSlice rfl _ 4 [(0, _), (1, _), (2, _), (3, _)] rfl HT18.out _ (build_nm _) ?_
              intro ga wx0 hO; have HT180 := Lib.hid hO; clear hO HT18
              refine ActPost.mk (fun w' => Own W w' ((ga, .cells (nmB.map Value.string).toArray 9) :: (gh, .cells (hv2 (⟨#[]⟩, ⟨#[]⟩)).toArray 30) :: L)) (fun w' h => h.tail) HT180.out ?_; simp only [Act.put, List.setIfInBounds_toArray, List.set_cons_zero, List.set_cons_succ]
              refine t3_q ?_ rfl ?_ ?_; rotate_left 1; (focus (rintro w' hO; simp only [pick_zero, pick_succ]; go_simp; first | done | with_reducible rfl | (trace_state; fail))); simp only [pick_zero, pick_succ]; simp only [Act.put, List.setIfInBounds_toArray, List.set_cons_zero, List.set_cons_succ]
              refine t3_q ?_ rfl ?_ ?_; rotate_left 1; (focus (rintro w' hO; have hc := HC1.out w' _ ga hO (.head _); simp only [pick_zero, pick_succ]; go_simp; first | done | with_reducible rfl | (trace_state; fail))); simp only [pick_zero, pick_succ]; simp only [Act.put, List.setIfInBounds_toArray, List.set_cons_zero, List.set_cons_succ]
              refine t3_one ?_
              simp only [pick_zero, pick_succ]
              refine wl_buildSlice rfl _ 4 [(0, _), (1, _), (2, _), (3, _)] rfl HT180.out _ (build_vl _) ?_
              intro gb wx8 hO; have HT1808 := Lib.hid hO; clear hO HT180
              refine ActPost.mk (fun w' => Own W w' ((gb, .cells (vlB.map Value.string).toArray 9) :: (ga, .cells (nmB.map Value.string).toArray 9) :: (gh, .cells (hv2 (⟨#[]⟩, ⟨#[]⟩)).toArray 30) :: L)) (fun w' h => h.tail) HT1808.out ?_; simp only [Act.put, List.setIfInBounds_toArray, List.set_cons_zero, List.set_cons_succ]
              refine t3_q ?_ rfl ?_ ?_; rotate_left 1; (focus (rintro w' hO; simp only [pick_zero, pick_succ]; go_simp; first | done | with_reducible rfl | (trace_state; fail))); simp only [pick_zero, pick_succ]; simp only [Act.put, List.setIfInBounds_toArray, List.set_cons_zero, List.set_cons_succ]
              refine t3_q ?_ rfl ?_ ?_; rotate_left 1; (focus (rintro w' hO; have hc := HC2.out w' _ gb hO (.head _); simp only [pick_zero, pick_succ]; go_simp; first | done | with_reducible rfl | (trace_state; fail))); simp only [pick_zero, pick_succ]; simp only [Act.put, List.setIfInBounds_toArray, List.set_cons_zero, List.set_cons_succ]
              refine t3_q ?_ rfl ?_ ?_; rotate_left 1; (focus (rintro w' hO; simp only [pick_zero, pick_succ]; go_simp; first | done | with_reducible rfl | (trace_state; fail))); simp only [pick_zero, pick_succ]; simp only [Act.put, List.setIfInBounds_toArray, List.set_cons_zero, List.set_cons_succ]
              refine t3_done ?_
              refine wl_store rfl _ _ _ rfl HT1808.out 2 gh 0 _ [.string p, .string q] _ rfl (by rfl) (by rfl) head_size (one_hv2 (p, q)) (by simp [hv2]) ?_
              intro wy hO
              have HY : Hid (Own W wy ((gb, .cells (vlB.map Value.string).toArray 9) :: (ga, .cells (nmB.map Value.string).toArray 9) :: (gh, .cells #[.string p, .string q] 30) :: L)) := Lib.hid (hO.cast rfl)
              clear hO
              refine hKK _ _ ?_
              simp only [Act.put, List.setIfInBounds_toArray, List.set_cons_zero, List.set_cons_succ]
              go_meet
              exact ⟨gh, rfl, HY.out.sub (List.Sublist.cons _ (List.Sublist.cons _ (List.Sublist.cons_cons _ (List.Sublist.refl _))))⟩
            · simp only [pick_zero, pick_succ]
              refine wl_buildSlice rfl _ 4 [(0, _), (1, _), (2, _), (3, _)] rfl HT18.out _ (build_vl _) ?_
              intro gb wx8 hO; have HT188 := Lib.hid hO; clear hO HT18
              refine ActPost.mk (fun w' => Own W w' ((gb, .cells (vlB.map Value.string).toArray 9) :: (gh, .cells (hv2 (⟨#[]⟩, ⟨#[]⟩)).toArray 30) :: L)) (fun w' h => h.tail) HT188.out ?_; simp only [Act.put, List.setIfInBounds_toArray, List.set_cons_zero, List.set_cons_succ]
              refine t3_q ?_ rfl ?_ ?_; rotate_left 1; (focus (rintro w' hO; simp only [pick_zero, pick_succ]; go_simp; first | done | with_reducible rfl | (trace_state; fail))); simp only [pick_zero, pick_succ]; simp only [Act.put, List.setIfInBounds_toArray, List.set_cons_zero, List.set_cons_succ]
              refine t3_q ?_ rfl ?_ ?_; rotate_left 1; (focus (rintro w' hO; have hc := HC2.out w' _ gb hO (.head _); simp only [pick_zero, pick_succ]; go_simp; first | done | with_reducible rfl | (trace_state; fail))); simp only [pick_zero, pick_succ]; simp only [Act.put, List.setIfInBounds_toArray, List.set_cons_zero, List.set_cons_succ]
              refine t3_one ?_
              simp only [pick_zero, pick_succ]
              refine wl_buildSlice rfl _ 4 [(0, _), (1, _), (2, _), (3, _)] rfl HT188.out _ (build_nm _) ?_
              intro ga wx0 hO; have HT1880 := Lib.hid hO; clear hO HT188
              refine ActPost.mk (fun w' => Own W w' ((ga, .cells (nmB.map Value.string).toArray 9) :: (gb, .cells (vlB.map Value.string).toArray 9) :: (gh, .cells (hv2 (⟨#[]⟩, ⟨#[]⟩)).toArray 30) :: L)) (fun w' h => h.tail) HT1880.out ?_; simp only [Act.put, List.setIfInBounds_toArray, List.set_cons_zero, List.set_cons_succ]
              refine t3_q ?_ rfl ?_ ?_; rotate_left 1; (focus (rintro w' hO; simp only [pick_zero, pick_succ]; go_simp; first | done | with_reducible rfl | (trace_state; fail))); simp only [pick_zero, pick_succ]; simp only [Act.put, List.setIfInBounds_toArray, List.set_cons_zero, List.set_cons_succ]
              refine t3_q ?_ rfl ?_ ?_; rotate_left 1; (focus (rintro w' hO; have hc := HC1.out w' _ ga hO (.head _); simp only [pick_zero, pick_succ]; go_simp; first | done | with_reducible rfl | (trace_state; fail))); simp only [pick_zero, pick_succ]; simp only [Act.put, List.setIfInBounds_toArray, List.set_cons_zero, List.set_cons_succ]
              refine t3_q ?_ rfl ?_ ?_; rotate_left 1; (focus (rintro w' hO; simp only [pick_zero, pick_succ]; go_simp; first | done | with_reducible rfl | (trace_state; fail))); simp only [pick_zero, pick_succ]; simp only [Act.put, List.setIfInBounds_toArray, List.set_cons_zero, List.set_cons_succ]
              refine t3_done ?_
              refine wl_store rfl _ _ _ rfl HT1880.out 2 gh 0 _ [.string p, .string q] _ rfl (by rfl) (by rfl) head_size (one_hv2 (p, q)) (by simp [hv2]) ?_
              intro wy hO
              have HY : Hid (Own W wy ((ga, .cells (nmB.map Value.string).toArray 9) :: (gb, .cells (vlB.map Value.string).toArray 9) :: (gh, .cells #[.string p, .string q] 30) :: L)) := Lib.hid (hO.cast rfl)
              clear hO
              refine hKK _ _ ?_
              simp only [Act.put, List.setIfInBounds_toArray, List.set_cons_zero, List.set_cons_succ]
              go_meet
              exact ⟨gh, rfl, HY.out.sub (List.Sublist.cons _ (List.Sublist.cons _ (List.Sublist.cons_cons _ (List.Sublist.refl _))))⟩
          --ENDREGION6
        case rest =>
          obtain ⟨gh, rfl, hO⟩ := hcut
          have HO3 := Lib.hid hO; clear hO HO2
          go_upto_region 7 with fail
          have so : o.size ≤ 166 := by have := HS.out.2; omega
          have n1 : ¬ (9223372036854775807 < p.size + 1) := by omega
          have n2 : ¬ (9223372036854775807 < p.size + 1 + sa.size) := by omega
          have n3 : ¬ (9223372036854775807 < p.size + 1 + sa.size + q.size) := by omega
          have n4 : ¬ (9223372036854775807 < p.size + 1 + sa.size + q.size + sbb.size) := by omega
          have n5 : ¬ (9223372036854775807 < p.size + 1 + sa.size + q.size + sbb.size + 2) := by omega
          have n6 : ¬ (9223372036854775807 < o.size + (p.size + 1 + sa.size + q.size + sbb.size + 2)) := by omega
          go_cut [5] (fun s5 wx => MidT W (o ++ (p ++ ⟨#[58]⟩ ++ sa ++ q ++ sbb ++ ⟨#[13, 10]⟩)) ((gh, .cells #[.string p, .string q] 30) :: L) s5 wx)
          case first =>
            rename_i JJ KK hJJ hKK
            --REGION7
            refine wp_region_tree3 (fun w' => Own W w' ((gh, .cells #[.string p, .string q] 30) :: L)) 29 (.q 0 (.q 1 (.q 2 (.q 3 (.q 5 (.q 6 (.q 7 (.q 8 (.q 9 (.q 10 (.q 14 (.q 15 (.q 18 (.q 19 (.q 20 (.q 21 (.q 22 (.q 23 (.two 4 (.q 11 (.q 12 (.q 13 (.q 16 (.one 17 (.q 24 (.q 25 (.q 26 (.q 27 (.q 28 .done)))))))))) 17 (.q 24 (.q 25 (.one 4 (.q 11 (.q 12 (.q 13 (.q 16 (.q 26 (.q 27 (.q 28 .done))))))))))))))))))))))))))))) (by kernel_rfl) (by decide +kernel) (fun _ _ d _ _ h => by cases d <;> exact h) HO3.out.drew ?_
            simp only [List.drop_succ_cons, List.drop_zero]
            have HT := Lib.hid HO3.out.drew; clear HO3
            refine t3_q ?_ rfl ?_ ?_; rotate_left 1; (focus (rintro w' hO; simp only [pick_zero, pick_succ]; go_simp; first | done | with_reducible rfl | (trace_state; fail))); simp only [pick_zero, pick_succ]; simp only [Act.put, List.setIfInBounds_toArray, List.set_cons_zero, List.set_cons_succ]
            refine t3_q ?_ rfl ?_ ?_; rotate_left 1; (focus (rintro w' hO; simp only [pick_zero, pick_succ]; go_simp; first | done | with_reducible rfl | (trace_state; fail))); simp only [pick_zero, pick_succ]; simp only [Act.put, List.setIfInBounds_toArray, List.set_cons_zero, List.set_cons_succ]
            refine t3_q ?_ rfl ?_ ?_; rotate_left 1; (focus (rintro w' hO; have hc : w'.cell? ⟨gh, 0, none⟩ = some (.string p) := hO.cell (.head _) 0; simp only [pick_zero, pick_succ]; go_simp; first | done | with_reducible rfl | (trace_state; fail))); simp only [pick_zero, pick_succ]; simp only [Act.put, List.setIfInBounds_toArray, List.set_cons_zero, List.set_cons_succ]
            refine t3_q ?_ rfl ?_ ?_; rotate_left 1; (focus (rintro w' hO; simp only [pick_zero, pick_succ]; go_simp; first | done | with_reducible rfl | (trace_state; fail))); simp only [pick_zero, pick_succ]; simp only [Act.put, List.setIfInBounds_toArray, List.set_cons_zero, List.set_cons_succ]
            refine t3_q ?_ rfl ?_ ?_; rotate_left 1; (focus (rintro w' hO; simp only [pick_zero, pick_succ]; go_simp; first | done | with_reducible rfl | (trace_state; fail))); simp only [pick_zero, pick_succ]; simp only [Act.put, List.setIfInBounds_toArray, List.set_cons_zero, List.set_cons_succ]
            refine t3_q ?_ rfl ?_ ?_; rotate_left 1; (focus (rintro w' hO; simp only [pick_zero, pick_succ]; go_simp; first | done | with_reducible rfl | (trace_state; fail))); simp only [pick_zero, pick_succ]; simp only [Act.put, List.setIfInBounds_toArray, List.set_cons_zero, List.set_cons_succ]
            refine t3_q ?_ rfl ?_ ?_; rotate_left 1; (focus (rintro w' hO; simp only [pick_zero, pick_succ]; go_simp; first | done | with_reducible rfl | (trace_state; fail))); simp only [pick_zero, pick_succ]; simp only [Act.put, List.setIfInBounds_toArray, List.set_cons_zero, List.set_cons_succ]
            refine t3_q ?_ rfl ?_ ?_; rotate_left 1; (focus (rintro w' hO; have hx := HX.out w' _ hO; simp only [pick_zero, pick_succ]; go_simp; first | done | with_reducible rfl | (trace_state; fail))); simp only [pick_zero, pick_succ]; simp only [Act.put, List.setIfInBounds_toArray, List.set_cons_zero, List.set_cons_succ]
            refine t3_q ?_ rfl ?_ ?_; rotate_left 1; (focus (rintro w' hO; simp only [pick_zero, pick_succ]; go_simp; first | done | with_reducible rfl | (trace_state; fail))); simp only [pick_zero, pick_succ]; simp only [Act.put, List.setIfInBounds_toArray, List.set_cons_zero, List.set_cons_succ]
            refine t3_call (.int .i64 j3) rfl 11 #[.int .i64 (IntKind.i64.wrap (x.tdiv 16)), .int .i64 3] (fun w' => by simp only [pick_zero, pick_succ]; go_simp) (fun w' _ => HQ3.out w') ?_; simp only [pick_zero, pick_succ]; simp only [Act.put, List.setIfInBounds_toArray, List.set_cons_zero, List.set_cons_succ]
            refine t3_q ?_ rfl ?_ ?_; rotate_left 1; (focus (rintro w' hO; simp only [pick_zero, pick_succ]; go_simp; first | done | with_reducible rfl | (trace_state; fail))); simp only [pick_zero, pick_succ]; simp only [Act.put, List.setIfInBounds_toArray, List.set_cons_zero, List.set_cons_succ]
            refine t3_q ?_ rfl ?_ ?_; rotate_left 1; (focus (rintro w' hO; have hc : w'.cell? ⟨gh, 1, none⟩ = some (.string q) := hO.cell (.head _) 1; simp only [pick_zero, pick_succ]; go_simp; first | done | with_reducible rfl | (trace_state; fail))); simp only [pick_zero, pick_succ]; simp only [Act.put, List.setIfInBounds_toArray, List.set_cons_zero, List.set_cons_succ]
            refine t3_q ?_ rfl ?_ ?_; rotate_left 1; (focus (rintro w' hO; simp only [pick_zero, pick_succ]; go_simp; first | done | with_reducible rfl | (trace_state; fail))); simp only [pick_zero, pick_succ]; simp only [Act.put, List.setIfInBounds_toArray, List.set_cons_zero, List.set_cons_succ]
            refine t3_q ?_ rfl ?_ ?_; rotate_left 1; (focus (rintro w' hO; simp only [pick_zero, pick_succ]; go_simp; first | done | with_reducible rfl | (trace_state; fail))); simp only [pick_zero, pick_succ]; simp only [Act.put, List.setIfInBounds_toArray, List.set_cons_zero, List.set_cons_succ]
            refine t3_q ?_ rfl ?_ ?_; rotate_left 1; (focus (rintro w' hO; simp only [pick_zero, pick_succ]; go_simp; first | done | with_reducible rfl | (trace_state; fail))); simp only [pick_zero, pick_succ]; simp only [Act.put, List.setIfInBounds_toArray, List.set_cons_zero, List.set_cons_succ]
            refine t3_q ?_ rfl ?_ ?_; rotate_left 1; (focus (rintro w' hO; have hx := HX.out w' _ hO; simp only [pick_zero, pick_succ]; go_simp; first | done | with_reducible rfl | (trace_state; fail))); simp only [pick_zero, pick_succ]; simp only [Act.put, List.setIfInBounds_toArray, List.set_cons_zero, List.set_cons_succ]
            refine t3_q ?_ rfl ?_ ?_; rotate_left 1; (focus (rintro w' hO; simp only [pick_zero, pick_succ]; go_simp; first | done | with_reducible rfl | (trace_state; fail))); simp only [pick_zero, pick_succ]; simp only [Act.put, List.setIfInBounds_toArray, List.set_cons_zero, List.set_cons_succ]
            refine t3_call (.int .i64 j4) rfl 11 #[.int .i64 (IntKind.i64.wrap (x.tdiv 48)), .int .i64 2] (fun w' => by simp only [pick_zero, pick_succ]; go_simp) (fun w' _ => HQ4.out w') ?_; simp only [pick_zero, pick_succ]; simp only [Act.put, List.setIfInBounds_toArray, List.set_cons_zero, List.set_cons_succ]
            refine t3_two ?_ ?_
            · simp only [pick_zero, pick_succ]
              refine wl_buildSlice rfl _ 3 [(0, _), (1, _), (2, _)] rfl HT.out _ (build_sa _) ?_
              intro ga wx4 hO; have HT4 := Lib.hid hO; clear hO HT
              refine ActPost.mk (fun w' => Own W w' ((ga, .cells (saB.map Value.string).toArray 9) :: (gh, .cells #[.string p, .string q] 30) :: L)) (fun w' h => h.tail) HT4.out ?_; simp only [Act.put, List.setIfInBounds_toArray, List.set_cons_zero, List.set_cons_succ]
              refine t3_q ?_ rfl ?_ ?_; rotate_left 1; (focus (rintro w' hO; simp only [pick_zero, pick_succ]; go_simp; first | done | with_reducible rfl | (trace_state; fail))); simp only [pick_zero, pick_succ]; simp only [Act.put, List.setIfInBounds_toArray, List.set_cons_zero, List.set_cons_succ]
              refine t3_q ?_ rfl ?_ ?_; rotate_left 1; (focus (rintro w' hO; have hc := HC3.out w' _ ga hO (.head _); simp only [pick_zero, pick_succ]; go_simp; first | done | with_reducible rfl | (trace_state; fail))); simp only [pick_zero, pick_succ]; simp only [Act.put, List.setIfInBounds_toArray, List.set_cons_zero, List.set_cons_succ]
              refine t3_q ?_ rfl ?_ ?_; rotate_left 1; (focus (rintro w' hO; simp only [pick_zero, pick_succ]; go_simp; first | done | with_reducible rfl | (trace_state; fail))); simp only [pick_zero, pick_succ]; simp only [Act.put, List.setIfInBounds_toArray, List.set_cons_zero, List.set_cons_succ]
              refine t3_q ?_ rfl ?_ ?_; rotate_left 1; (focus (rintro w' hO; simp only [pick_zero, pick_succ]; go_simp; first | done | with_reducible rfl | (trace_state; fail))); simp only [pick_zero, pick_succ]; simp only [Act.put, List.setIfInBounds_toArray, List.set_cons_zero, List.set_cons_succ]
              refine t3_one ?_
              simp only [pick_zero, pick_succ]
              refine wl_buildSlice rfl _ 2 [(0, _), (1, _)] rfl HT4.out _ (build_sb _) ?_
              intro gb wx17 hO; have HT417 := Lib.hid hO; clear hO HT4
              refine ActPost.mk (fun w' => Own W w' ((gb, .cells (sbB.map Value.string).toArray 9) :: (ga, .cells (saB.map Value.string).toArray 9) :: (gh, .cells #[.string p, .string q] 30) :: L)) (fun w' h => h.tail) HT417.out ?_; simp only [Act.put, List.setIfInBounds_toArray, List.set_cons_zero, List.set_cons_succ]
              refine t3_q ?_ rfl ?_ ?_; rotate_left 1; (focus (rintro w' hO; simp only [pick_zero, pick_succ]; go_simp; first | done | with_reducible rfl | (trace_state; fail))); simp only [pick_zero, pick_succ]; simp only [Act.put, List.setIfInBounds_toArray, List.set_cons_zero, List.set_cons_succ]
              refine t3_q ?_ rfl ?_ ?_; rotate_left 1; (focus (rintro w' hO; have hc := HC4.out w' _ gb hO (.head _); simp only [pick_zero, pick_succ]; go_simp; first | done | with_reducible rfl | (trace_state; fail))); simp only [pick_zero, pick_succ]; simp only [Act.put, List.setIfInBounds_toArray, List.set_cons_zero, List.set_cons_succ]
              refine t3_q ?_ rfl ?_ ?_; rotate_left 1; (focus (rintro w' hO; simp only [pick_zero, pick_succ]; go_simp; first | done | with_reducible rfl | (trace_state; fail))); simp only [pick_zero, pick_succ]; simp only [Act.put, List.setIfInBounds_toArray, List.set_cons_zero, List.set_cons_succ]
              refine t3_q ?_ rfl ?_ ?_; rotate_left 1; (focus (rintro w' hO; simp only [pick_zero, pick_succ]; go_simp; first | done | with_reducible rfl | (trace_state; fail))); simp only [pick_zero, pick_succ]; simp only [Act.put, List.setIfInBounds_toArray, List.set_cons_zero, List.set_cons_succ]
              refine t3_q ?_ rfl ?_ ?_; rotate_left 1; (focus (rintro w' hO; simp only [pick_zero, pick_succ]; go_simp; first | done | with_reducible rfl | (trace_state; fail))); simp only [pick_zero, pick_succ]; simp only [Act.put, List.setIfInBounds_toArray, List.set_cons_zero, List.set_cons_succ]
              refine t3_done ?_
              go_wp2
              go_meet
              exact ⟨rfl, HT417.out.sub (List.Sublist.cons _ (List.Sublist.cons _ (List.Sublist.refl _)))⟩
            · simp only [pick_zero, pick_succ]
              refine wl_buildSlice rfl _ 2 [(0, _), (1, _)] rfl HT.out _ (build_sb _) ?_
              intro gb wx17 hO; have HT17 := Lib.hid hO; clear hO HT
              refine ActPost.mk (fun w' => Own W w' ((gb, .cells (sbB.map Value.string).toArray 9) :: (gh, .cells #[.string p, .string q] 30) :: L)) (fun w' h => h.tail) HT17.out ?_; simp only [Act.put, List.setIfInBounds_toArray, List.set_cons_zero, List.set_cons_succ]
              refine t3_q ?_ rfl ?_ ?_; rotate_left 1; (focus (rintro w' hO; simp only [pick_zero, pick_succ]; go_simp; first | done | with_reducible rfl | (trace_state; fail))); simp only [pick_zero, pick_succ]; simp only [Act.put, List.setIfInBounds_toArray, List.set_cons_zero, List.set_cons_succ]
              refine t3_q ?_ rfl ?_ ?_; rotate_left 1; (focus (rintro w' hO; have hc := HC4.out w' _ gb hO (.head _); simp only [pick_zero, pick_succ]; go_simp; first | done | with_reducible rfl | (trace_state; fail))); simp only [pick_zero, pick_succ]; simp only [Act.put, List.setIfInBounds_toArray, List.set_cons_zero, List.set_cons_succ]
              refine t3_one ?_
              simp only [pick_zero, pick_succ]
              refine wl_buildSlice rfl _ 3 [(0, _), (1, _), (2, _)] rfl HT17.out _ (build_sa _) ?_
              intro ga wx4 hO; have HT174 := Lib.hid hO; clear hO HT17
              refine ActPost.mk (fun w' => Own W w' ((ga, .cells (saB.map Value.string).toArray 9) :: (gb, .cells (sbB.map Value.string).toArray 9) :: (gh, .cells #[.string p, .string q] 30) :: L)) (fun w' h => h.tail) HT174.out ?_; simp only [Act.put, List.setIfInBounds_toArray, List.set_cons_zero, List.set_cons_succ]
              refine t3_q ?_ rfl ?_ ?_; rotate_left 1; (focus (rintro w' hO; simp only [pick_zero, pick_succ]; go_simp; first | done | with_reducible rfl | (trace_state; fail))); simp only [pick_zero, pick_succ]; simp only [Act.put, List.setIfInBounds_toArray, List.set_cons_zero, List.set_cons_succ]
              refine t3_q ?_ rfl ?_ ?_; rotate_left 1; (focus (rintro w' hO; have hc := HC3.out w' _ ga hO (.head _); simp only [pick_zero, pick_succ]; go_simp; first | done | with_reducible rfl | (trace_state; fail))); simp only [pick_zero, pick_succ]; simp only [Act.put, List.setIfInBounds_toArray, List.set_cons_zero, List.set_cons_succ]
              refine t3_q ?_ rfl ?_ ?_; rotate_left 1; (focus (rintro w' hO; simp only [pick_zero, pick_succ]; go_simp; first | done | with_reducible rfl | (trace_state; fail))); simp only [pick_zero, pick_succ]; simp only [Act.put, List.setIfInBounds_toArray, List.set_cons_zero, List.set_cons_succ]
              refine t3_q ?_ rfl ?_ ?_; rotate_left 1; (focus (rintro w' hO; simp only [pick_zero, pick_succ]; go_simp; first | done | with_reducible rfl | (trace_state; fail))); simp only [pick_zero, pick_succ]; simp only [Act.put, List.setIfInBounds_toArray, List.set_cons_zero, List.set_cons_succ]
              refine t3_q ?_ rfl ?_ ?_; rotate_left 1; (focus (rintro w' hO; simp only [pick_zero, pick_succ]; go_simp; first | done | with_reducible rfl | (trace_state; fail))); simp only [pick_zero, pick_succ]; simp only [Act.put, List.setIfInBounds_toArray, List.set_cons_zero, List.set_cons_succ]
              refine t3_q ?_ rfl ?_ ?_; rotate_left 1; (focus (rintro w' hO; simp only [pick_zero, pick_succ]; go_simp; first | done | with_reducible rfl | (trace_state; fail))); simp only [pick_zero, pick_succ]; simp only [Act.put, List.setIfInBounds_toArray, List.set_cons_zero, List.set_cons_succ]
              refine t3_q ?_ rfl ?_ ?_; rotate_left 1; (focus (rintro w' hO; simp only [pick_zero, pick_succ]; go_simp; first | done | with_reducible rfl | (trace_state; fail))); simp only [pick_zero, pick_succ]; simp only [Act.put, List.setIfInBounds_toArray, List.set_cons_zero, List.set_cons_succ]
              refine t3_done ?_
              go_wp2
              go_meet
              exact ⟨rfl, HT174.out.sub (List.Sublist.cons _ (List.Sublist.cons _ (List.Sublist.refl _)))⟩
            --ENDREGION7
          case rest =>
            obtain ⟨rfl, hO⟩ := hcut
            have HO4 := Lib.hid hO; clear hO HO3
            have hkl2 : ((List.map qOf xs).take k |>.map fun q => toB q.1).length = k := by rw [List.length_map, List.length_take, List.length_map, HN.out]; omega
            have HKL := Lib.hid hkl2
            have hst : o ++ (p ++ ⟨#[58]⟩ ++ sa ++ q ++ sbb ++ ⟨#[13, 10]⟩) = strOfNums (head200 ++ ((xs.map qOf).take (k + 1)).flatMap lineQ) := by
              rw [HLS.out, HTK.out, List.flatMap_append, List.flatMap_cons, List.flatMap_nil, List.append_nil, ← List.append_assoc, strs_app, ← HS.out.1]
            have hss : (o ++ (p ++ ⟨#[58]⟩ ++ sa ++ q ++ sbb ++ ⟨#[13, 10]⟩) : ByteArray).size ≤ 16 + 15 * (k + 1) := by
              rw [ByteArray.size_append, HLS.out, strOfNums_size]; have h1 := HLL.out; have h2 := HS.out.2; omega
            generalize o ++ (p ++ ⟨#[58]⟩ ++ sa ++ q ++ sbb ++ ⟨#[13, 10]⟩) = o2 at *
            have HST := Lib.hid hst; have HSS := Lib.hid hss
            have HO5 : Hid (Own W _ (L ++ [])) := Lib.hid (by rw [List.append_nil]; exact HO4.out.tail)
            have hh0 := HO4.out.heap (.head _)
            have h63 : ((List.map qOf xs).take k |>.map fun q => toB q.1).length + 1 ≤ 1073741824 := by rw [hkl2]; omega
            have H63 := Lib.hid h63
            clear hkl2 hst hss n1 n2 n3 n4 n5 n6 h63 HX HC1 HC2 HC3 HC4 HQ1 HQ2 HQ3 HQ4
            go_wp2_with (first | (refine wl_load rfl _ _ rfl gh 0 [.string p, .string q] [.string p, .string q] _ hh0 (by rfl) _ Tryd.underlying30 rfl head_size (by rfl) ?_; clear hh0) | (refine wl_appendH1 rfl _ _ rfl (.slice A1 k c1) ((List.map qOf xs).take k |>.map fun q => toB q.1) (by rfl) HI.out (HO5.out.put2 (.cells #[.string p, .string q] 30)) _ 1 (p, q) (by rfl) (.head _) H63.out ?_; intro v2 wa L2 hv2' hO; have HV2 := Lib.hid hv2'; have HOA := Lib.hid hO; obtain ⟨A2, c2, hve⟩ := IsRow.val hv2'; rw [List.length_append, HKL.out, List.length_singleton] at hve; subst hve; clear hO hv2' HO5 HO4))
            go_roundw
            case rel => exact ⟨k + 1, o2, A2, c2, L2, by omega, by omega, rfl, rfl, by go_num, Lib.hid ⟨HST.out, HSS.out⟩, Lib.hid (by rw [HTK.out, List.map_append]; have := HV2.out; rw [← HTO.out] at this; exact this), Lib.hid (HOA.out.left)⟩
            case measure => simp [intOf]; omega
      · have hk10' : ¬ (k : Int) < 10 := by omega
        have hokq : ∀ q ∈ (xs.map qOf).take k, HeadOk q.1 ∧ lowL q.1.1 ≠ clI := fun q hq => by
          obtain ⟨x, _, rfl⟩ := List.mem_map.1 (List.mem_of_mem_take hq)
          exact qOf_ok x
        have hlq : ((xs.map qOf).take k).length = k := by rw [List.length_take, List.length_map, HN.out]; omega
        have hos : o.size ≤ 166 := by have := HS.out.2; omega
        have hsb : sb (o ++ ⟨#[13, 10]⟩ ++ body) = head200 ++ (((xs.map qOf).take k).flatMap lineQ ++ (13 :: 10 :: sb body)) := by
          have hb : Byt (head200 ++ ((xs.map qOf).take k).flatMap lineQ) := lines_byt (fun q hq => (hokq q hq).1)
          rw [sb_append', sb_append', HS.out.1, sb_str hb]
          simp [List.append_assoc, sb]
        have hp := rparse_c HVV.out HO2.out (o ++ ⟨#[13, 10]⟩ ++ body) (by rw [ByteArray.size_append, ByteArray.size_append, show (⟨#[13, 10]⟩ : ByteArray).size = 2 from rfl]; omega)
        rw [hsb, replyI_lines _ _ hokq, hlq] at hp
        have hmm : (((xs.map qOf).take k).map (·.1)).map toB = ((xs.map qOf).take k).map fun q => toB q.1 := by rw [List.map_map]; rfl
        have hlm : (((xs.map qOf).take k).map (·.1)).length = k := by rw [List.length_map, hlq]
        have HMM := Lib.hid hmm; have HLM := Lib.hid hlm
        have n1 : ¬ (9223372036854775807 < o.size + 2) := by omega
        have n2 : ¬ (9223372036854775807 < o.size + 2 + body.size) := by omega
        clear hokq hlq hos hsb hmm hlm
        by_cases h8 : k ≤ 8
        · exact absurd h8 (by omega)
        · rw [if_neg h8] at hp
          have HP := Lib.hid hp; clear hp
          have hk8 : (8 : Int) < k := by omega
          go_wp2_with fail
          with_reducible refine HP.out.mono ?_
          rintro e w2 hg
          obtain ⟨A3, c3, rfl, hO⟩ := hg.no
          have HO6 := Lib.hid hO; clear hO hg HP
          go_wp2_with (first | (refine wl_alloc rfl _ rfl HO6.out _ (alloc_rep _) ?_; intro g9 w3 hO; have HO7 := Lib.hid hO; clear hO HO6) | (refine wl_store rfl _ _ _ rfl HO7.out 0 g9 0 _ (rv 0 (.slice A3 0 c3) ⟨#[]⟩ false) _ rfl (by rfl) (by rfl) rep_size (one_rv rfl) (by simp [rv]) ?_; intro w4 hO; have HO8 := Lib.hid (hO.cast (L' := (g9, Obj.cells (rv 0 (.slice A3 0 c3) ⟨#[]⟩ false).toArray 24) :: L) rfl); clear hO HO7))
          with_reducible refine (wakes9_c HVV.out HO8.out).mono ?_
          rintro e w6 ⟨rfl, hO⟩
          have HO10 := Lib.hid hO; clear hO HO8
          go_wp2
          go_ret
          exact HO10.out.yes rfl
    · have hkn : ¬ (k : Int) < n := by omega
      have hokq : ∀ q ∈ (xs.map qOf).take k, HeadOk q.1 ∧ lowL q.1.1 ≠ clI := fun q hq => by
        obtain ⟨x, _, rfl⟩ := List.mem_map.1 (List.mem_of_mem_take hq)
        exact qOf_ok x
      have hlq : ((xs.map qOf).take k).length = k := by rw [List.length_take, List.length_map, HN.out]; omega
      have hos : o.size ≤ 166 := by have := HS.out.2; omega
      have hsb : sb (o ++ ⟨#[13, 10]⟩ ++ body) = head200 ++ (((xs.map qOf).take k).flatMap lineQ ++ (13 :: 10 :: sb body)) := by
        have hb : Byt (head200 ++ ((xs.map qOf).take k).flatMap lineQ) := lines_byt (fun q hq => (hokq q hq).1)
        rw [sb_append', sb_append', HS.out.1, sb_str hb]
        simp [List.append_assoc, sb]
      have hp := rparse_c HVV.out HO2.out (o ++ ⟨#[13, 10]⟩ ++ body) (by rw [ByteArray.size_append, ByteArray.size_append, show (⟨#[13, 10]⟩ : ByteArray).size = 2 from rfl]; omega)
      rw [hsb, replyI_lines _ _ hokq, hlq] at hp
      have hmm : (((xs.map qOf).take k).map (·.1)).map toB = ((xs.map qOf).take k).map fun q => toB q.1 := by rw [List.map_map]; rfl
      have hlm : (((xs.map qOf).take k).map (·.1)).length = k := by rw [List.length_map, hlq]
      have HMM := Lib.hid hmm; have HLM := Lib.hid hlm
      have n1 : ¬ (9223372036854775807 < o.size + 2) := by omega
      have n2 : ¬ (9223372036854775807 < o.size + 2 + body.size) := by omega
      clear hokq hlq hos hsb hmm hlm
      by_cases h8 : k ≤ 8
      · rw [if_pos h8] at hp
        have HP := Lib.hid hp; clear hp
        have hk8 : ¬ (8 : Int) < k := by omega
        go_wp2_with fail
        with_reducible refine HP.out.mono ?_
        rintro e w2 hg
        obtain ⟨A3, c3, L3, rfl, hv3, hO⟩ := hg.yes
        rw [HLM.out, str_sb]
        simp only at hv3
        rw [HMM.out, HLM.out] at hv3
        have HO6 := Lib.hid hO; have HV3 := Lib.hid hv3
        clear hO hg HP hv3
        go_wp2_with (first | (refine wl_alloc rfl _ rfl HO6.out _ (alloc_rep _) ?_; intro g9 w3 hO; have HO7 := Lib.hid hO; clear hO HO6) | (refine wl_store rfl _ _ _ rfl HO7.out 0 g9 0 _ (rv 200 (.slice A3 k c3) body false) _ rfl (by rfl) (by rfl) rep_size (one_rv rfl) (by simp [rv]) ?_; intro w4 hO; have HO8 := Lib.hid (hO.cast (L' := (g9, Obj.cells (rv 200 (.slice A3 k c3) body false).toArray 24) :: (L3 ++ L)) rfl); clear hO HO7; have k0 : w4.cell? ⟨g9, 0, none⟩ = some (.int .i64 200) := HO8.out.cell (.head _) 0; have k1 : w4.cell? ⟨g9, 1, none⟩ = some (.slice A3 k c3) := HO8.out.cell (.head _) 1))
        have hr1 : HRd W ((g9, Obj.cells (rv 200 (.slice A3 k c3) body false).toArray 24) :: (L3 ++ L)) (.slice A3 k c3) (((xs.map qOf).take k).map fun q => toB q.1) := HV3.out.hrd (List.Sublist.cons _ (List.sublist_append_left _ _))
        have hr2 : HRd W ((g9, Obj.cells (rv 200 (.slice A3 k c3) body false).toArray 24) :: (L3 ++ L)) (.slice A1 k c1) (((xs.map qOf).take k).map fun q => toB q.1) := HI.out.hrd (List.Sublist.cons _ (List.sublist_append_right _ _))
        have hsame := sameH_c (w := w4) (.slice A3 k c3) (.slice A1 k c1) _ _ (hr1 w4 [] HO8.out) (hr2 w4 [] HO8.out) (by rw [List.length_map, List.length_take]; omega)
        rw [decide_eq_true rfl] at hsame
        with_reducible refine hsame.mono ?_
        clear hsame hr1 hr2
        rintro e w5 ⟨rfl, qq, hww⟩
        have HO9 := Lib.hid (HO8.out.drewN qq); rw [← hww] at HO9; clear hww HO8 k0 k1
        have k2 : w5.cell? ⟨g9, 2, none⟩ = some (.string body) := HO9.out.cell (.head _) 2
        have k3 : w5.cell? ⟨g9, 3, none⟩ = some (.bool false) := HO9.out.cell (.head _) 3
        have hbb : (body.toList == body.toList) = true := beq_self_eq_true _
        go_wp2_with fail
        with_reducible refine (wakes9_c HVV.out HO9.out).mono ?_
        rintro e w6 ⟨rfl, hO⟩
        have HO10 := Lib.hid hO; clear hO HO9 k2 k3
        go_wp2
        go_ret
        exact HO10.out.yes rfl
      · rw [if_neg h8] at hp
        have HP := Lib.hid hp; clear hp
        have hk8 : (8 : Int) < k := by omega
        go_wp2_with fail
        with_reducible refine HP.out.mono ?_
        rintro e w2 hg
        obtain ⟨A3, c3, rfl, hO⟩ := hg.no
        have HO6 := Lib.hid hO; clear hO hg HP
        go_wp2_with (first | (refine wl_alloc rfl _ rfl HO6.out _ (alloc_rep _) ?_; intro g9 w3 hO; have HO7 := Lib.hid hO; clear hO HO6) | (refine wl_store rfl _ _ _ rfl HO7.out 0 g9 0 _ (rv 0 (.slice A3 0 c3) ⟨#[]⟩ false) _ rfl (by rfl) (by rfl) rep_size (one_rv rfl) (by simp [rv]) ?_; intro w4 hO; have HO8 := Lib.hid (hO.cast (L' := (g9, Obj.cells (rv 0 (.slice A3 0 c3) ⟨#[]⟩ false).toArray 24) :: L) rfl); clear hO HO7))
        with_reducible refine (wakes9_c HVV.out HO8.out).mono ?_
        rintro e w6 ⟨rfl, hO⟩
        have HO10 := Lib.hid hO; clear hO HO8
        go_wp2
        go_ret
        exact HO10.out.yes rfl
theorem bulk_one {H : Type} (d : DataW H) : 1 ≤ Rows.uptoBulk d := by
  cases d with
  | lit l => cases l <;> simp [Rows.uptoBulk]
  | _ => simp [Rows.uptoBulk]
theorem bulk_len {H : Type} (l : List (DataW H)) : l.length ≤ Rows.uptoBulkAll l := by
  induction l with
  | nil => simp
  | cons x r ih => have := bulk_one x; simp only [Rows.uptoBulkAll, List.length_cons]; omega
set_option maxRecDepth 100000 in
theorem replyHeads_contract (H : Type) (enc : TypeId × Value → H) (W : World) (base : Nat) (args : Array Value) (ds gs : List (DataW H)) (before : List MemPlace)
    (hval : ∀ (j : Nat) t v, Tryd.f4.params[j]? = some t → args[j]? = some v → Value.okWide Tryd.prog W .any base t v)
    (hW : DataW.Whole enc Tryd.prog Tryd.f4.params.toList Rows.replyHeadsSpec.vars false W args.toList ds gs before) (hk : Rows.uptoSmall H (ds ++ gs) = true) (hV0 : MostOk W) :
    Calls Tryd.prog 4 args W fun e W' => ∃ v, e = .returned v ∧ Rows.replyHeadsSpec.post enc Tryd.prog Tryd.f4 false true false false W args v W' := by
  have hW' := hW
  obtain ⟨p, q, hA0, hV, rfl, hfz, hnd⟩ := hW
  have hA : DataW.TrodAll enc Tryd.prog W 0 (fun _ => true) true Tryd.f4.params.toList args.toList ds p := hA0
  rw [Tryd.params4] at hA hval
  obtain ⟨v0, vs0, d0, ds0, p0, q0, hargs, rfl, rfl, h0, r0⟩ := trodAll_cons hA
  obtain ⟨v1, vs1, d1, ds1, p1, q1, rfl, rfl, rfl, h1, r1⟩ := trodAll_cons r0
  obtain ⟨rfl, rfl, rfl⟩ := trodAll_nil r1
  obtain rfl : args = #[v0, v1] := by cases args; simp_all
  obtain ⟨rfl, rfl⟩ := trodVars_none hV
  obtain ⟨b0, len0, cap0, rfl⟩ := okWide_slice Tryd.underlying38 (hval 0 38 v0 rfl rfl)
  have k0 := h0
  have lt0 : ∀ x ∈ p0, x.block < W.heap.size := by obtain ⟨m, hm⟩ := k0; exact DataW.trod_lt m _ _ _ hm
  obtain ⟨a0, w0, z0⟩ : ∃ xs, InRow .i64 W (.slice b0 len0 cap0) xs ∧ xs.length ≤ 1048576 := by
    obtain ⟨fuel, hf⟩ := h0
    rcases open_ints Tryd.underlying38 Tryd.underlying3 (by kernel_rfl) hf with ⟨hcs, _⟩ | ⟨x, l, c, zs, hcs, _, hl, hm, hz, hx, hcell, hwz⟩
    · simp [Value.cells] at hcs
      obtain ⟨rfl, rfl, rfl⟩ := hcs
      exact ⟨[], inRow_nil _ _, by simp⟩
    · simp [Value.cells] at hcs
      obtain ⟨rfl, rfl, rfl⟩ := hcs
      refine ⟨zs.take len0, inRow_mk hl hm (by simpa using hz) hcell hwz, ?_⟩
      have hd : d0 = .slice (lits .i64 (zs.take len0)) (lits .i64 (zs.drop len0)) := congrArg Prod.fst hx
      have hb : _ ≤ 1048576 := of_decide_eq_true hk
      rw [hd] at hb
      simp only [List.append_nil, List.cons_append, List.nil_append, Rows.uptoBulkAll, Rows.uptoBulk] at hb
      have h1 := bulk_len (H := H) (lits .i64 (zs.take len0))
      have h2 : (lits (H := H) .i64 (zs.take len0)).length = (zs.take len0).length := by simp [lits]
      omega
  obtain ⟨a1, rfl, rfl, rfl, w1⟩ := open_string Tryd.underlying9 (hval 1 9 v1 rfl rfl) h1
  have z1 : a1.size ≤ 1048576 := by
    have hb : _ ≤ 1048576 := of_decide_eq_true hk
    simp only [List.append_nil, List.cons_append, List.nil_append, Rows.uptoBulkAll, Rows.uptoBulk] at hb
    have e : a1.data.toList.length = a1.size := by simp
    omega
  clear hA0
  refine (replyHeads_walk hV0 _ a0 w0 z0 a1 z1).mono fun e W' ⟨he, bel⟩ => ?_
  subst he
  exact ⟨_, rfl, _, _, _, [], _, [], hW', trodAll_mk1 (shut_bool Tryd.underlying4 _), (trodAll_cons_mk (Below.trod laidOut (by kernel_rfl) (of_decide_eq_true (by kernel_rfl)) k0 bel lt0) (trodAll_cons_mk (shut_string Tryd.underlying9 w1) trodAll_mk0)), rfl, bel.frame _, fun h => by cases h⟩

theorem replyHeads_met (os : Os) : laidMet Tryd.prog Rows.replyHeadsUptoRow.laid ((laidWorld os).forCall (fun _ _ => 0) ⟨#[], #[.slice none 0 0, .string .empty], []⟩).memory :=
  laidMet_of_run' 8 (by kernel_rfl) (by kernel_rfl)
theorem replyHeads_reads (os : Os) {H : Type} (enc : TypeId × Value → H) : ∃ places, DataW.whole enc Tryd.prog ((laidWorld os).forCall (fun _ _ => 0) ⟨#[], #[.slice none 0 0, .string .empty], []⟩).memory Tryd.f4.params.toList Rows.replyHeadsSpec.vars false (#[.slice none 0 0, .string .empty] : Array Value).toList 8 = some ([.nil, .lit (.string [])], [], places) :=
  ⟨[], by kernel_rfl⟩
set_option maxRecDepth 100000 in
theorem replyHeads_lifted (os : Os) (started : os.Started) (H : Type) (enc : TypeId × Value → H) (F : Stop.Interp) :
    ReturnsInHanded {} Tryd.checked os 4 .any ((Rows.OpenSpec.upto Rows.replyHeadsSpec).preRow enc Tryd.prog Tryd.f4 Rows.replyHeadsUptoRow.domain false Rows.replyHeadsUptoRow.laid) (((Rows.OpenSpec.upto Rows.replyHeadsSpec).at F).post enc Tryd.prog Tryd.f4 false true false false) := by
  obtain ⟨places, hx⟩ := replyHeads_reads os enc
  refine returnsInHanded_of_row (C := Tryd.checked) (s := Rows.OpenSpec.upto Rows.replyHeadsSpec) own_none started (by kernel_rfl) Tryd.func4
    (witness_row_at (enc := enc) (C := Tryd.checked) false (laidWorld os) #[.slice none 0 0, .string .empty] rfl (by kernel_rfl) (by kernel_rfl) (by kernel_rfl)
      (OpenSpec.preRow_of_cond 8 hx (by kernel_rfl) (fun k hk => by cases hk; kernel_rfl) (by kernel_rfl) (replyHeads_met os))) ?_
  intro W base args ds gs before hval hW _ hcond _ hL hsh _
  exact replyHeads_contract H enc W base args ds gs before hval hW (hcond _ rfl) (most_of hsh)
theorem replyHeads_said : Rows.ReplyHeadsUptoSaid :=
  OpenClaim.holds_of_cond 4 Tryd.f4 rfl rfl rfl rfl rfl rfl rfl ⟨rfl, rfl, rfl, rfl, rfl⟩ rfl rfl rfl rfl rfl (by kernel_rfl) Tryd.func4 (by kernel_rfl)
    (of_decide_eq_true (by kernel_rfl)) (by unfold Func.isWrapper; first | (rw [if_pos (by decide +kernel)]; kernel_rfl) | (rw [if_neg (by decide +kernel)]; exact ⟨rfl, rfl⟩))
    (fun os started H enc _ F => by rw [OpenClaim.pre_eq_preRow]; exact replyHeads_lifted os started H enc F)
theorem replyHeads_plain (f : FuncId) (fn : Func) (hf : Tryd.pinned.checked.prog.funcNamed "postilion/postilionlaw09.ReplyHeads" = some f) (hfn : Tryd.pinned.checked.prog.funcs[f]? = some fn) :
    false = Tryd.pinned.checked.prog.looks [] ∧ ∀ (j : Nat) t, fn.params[j]? = some t → Tryd.pinned.checked.prog.wantsStandIn t = false := by
  obtain rfl : f = 4 := Option.some.inj ((show Tryd.prog.funcNamed "postilion/postilionlaw09.ReplyHeads" = some 4 by kernel_rfl).symm.trans hf) |>.symm
  obtain rfl : fn = Tryd.f4 := (Option.some.inj (Tryd.func4.symm.trans hfn)).symm
  refine ⟨by kernel_rfl, fun j t ht => ?_⟩
  rw [Tryd.params4] at ht
  have hall : ∀ t ∈ ([38, 9] : List TypeId), Tryd.prog.wantsStandIn t = false := List.forall_mem_cons.2 ⟨by kernel_rfl, List.forall_mem_cons.2 ⟨by kernel_rfl, fun _ h => by cases h⟩⟩
  exact hall t (by simpa using Array.mem_of_getElem? ht)
/-- The statement: the card. -/
theorem replyHeads_proved : Rows.ReplyHeadsUptoCardSaid :=
  Claim7.holds_tied_plain_at .later [] _ _ _ _ replyHeads_said (fun _ h => by cases h) (by kernel_rfl) (fun _ h => by cases h) replyHeadsUpto_row_tie rfl ⟨rfl, rfl⟩ (by kernel_rfl) rfl replyHeads_plain (by kernel_rfl)
end Go.Proofs.YtkmfbfmmlldphaaDoor

