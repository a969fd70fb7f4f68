/-
  Texts that the laws stand on: Ask2.
-/
import Derived.Test.YtlcolabblpikjaaGreatDoorM7
import Derived.Test.YtlcolabblpikjaaGreatDoorM6
import Derived.Test.YtlcolabblpikjaaGreatDoorM8
import Derived.Deep.DeepCutAuto
import Derived.Deep.CutBlock

/-
  The document's own PrintAsk, in plain Go.
-/
namespace Go.Proofs.YtlcolabblpikjaaGreatDoor
set_option linter.unusedVariables false
set_option linter.unusedSimpArgs false
set_option maxRecDepth 20000
open Go.RowKit

/-- Headers as lists. -/
def hl (hs : HBL) : HL := hs.map fun h => (sb h.1, sb h.2)
def aL (m u : ByteArray) (hs : HBL) (body : ByteArray) : AL := ⟨sb m, sb u, hl hs, sb body⟩
def av (m u : ByteArray) (v : Value) (b : ByteArray) : List Value := [.string m, .string u, v, .string b]
theorem one_av {m u : ByteArray} {v : Value} {b : ByteArray} (h : v.oneCell' = true) : ∀ x ∈ av m u v b, x.oneCell' = true := by
  intro x hx; simp only [av, List.mem_cons, List.not_mem_nil, or_false] at hx; rcases hx with rfl | rfl | rfl | rfl
  · rfl
  · rfl
  · exact h
  · rfl
theorem val_dots (n : List Int) : ValueOk ((n.length : Int) + 2) ([46] ++ n ++ [46]) ↔ ∀ x ∈ n, 32 ≤ x ∧ x ≤ 126 := by
  unfold ValueOk
  constructor
  · rintro ⟨h, _, _⟩ x hx; exact h x (by simp [hx])
  · intro h
    refine ⟨fun x hx => ?_, by simp; omega, .inr ⟨by simp, ?_⟩⟩
    · simp only [List.mem_append, List.mem_singleton] at hx
      rcases hx with (rfl | hx) | rfl
      · decide
      · exact h x hx
      · decide
    · have e : ([46] ++ n ++ [46] : List Int).length - 1 = ([46] ++ n : List Int).length := by simp
      rw [e, List.getD_eq_getElem?_getD, List.getElem?_append_right (Nat.le_refl _)]
      simp
theorem val_all (v : List Int) : ValueOk (v.length : Int) v ↔ ValA v := by
  unfold ValueOk ValA
  exact ⟨fun ⟨a, _, c⟩ => ⟨a, c⟩, fun ⟨a, c⟩ => ⟨a, Int.le_refl _, c⟩⟩
theorem drop_nil {p : Int → Bool} : ∀ {l : List Int}, l.dropWhile p = [] → ∀ x ∈ l, p x = true
  | [], _, x, hx => by cases hx
  | a :: t, h, x, hx => by
    by_cases ha : p a = true
    · rw [List.dropWhile_cons_of_pos ha] at h
      rcases List.mem_cons.1 hx with rfl | hx
      · exact ha
      · exact drop_nil h x hx
    · rw [List.dropWhile_cons_of_neg ha] at h; cases h
theorem behind_none (n : List Int) : behind [58] n = [] ↔ ∀ x ∈ n, x ≠ 58 := by
  constructor
  · intro h x hx he
    unfold behind at h
    have h1 := drop_nil h x hx
    rw [he] at h1
    simp at h1
  · intro h
    exact (ahead_full (st := [58]) (fun y hy => by rw [← Bool.not_eq_true]; intro hc; simp at hc; exact h y hy hc)).2
theorem headA_iff (n v : List Int) : HeadA (n, v) ↔ n ≠ [] ∧ behind [58] n = [] ∧ ValueOk ((n.length : Int) + 2) ([46] ++ n ++ [46]) ∧ ValueOk (v.length : Int) v := by
  rw [val_dots, val_all, behind_none]
  unfold HeadA NamA
  constructor
  · rintro ⟨⟨a, b⟩, c⟩; exact ⟨a, fun x hx => (b x hx).2, fun x hx => (b x hx).1, c⟩
  · rintro ⟨a, b, c, d⟩; exact ⟨⟨a, fun x hx => ⟨c x hx, b x hx⟩⟩, d⟩
theorem askP_none {a : AL} (h : ∀ u, parseI a.u = some u → ¬ AskOk a u) : askP a = none := by
  unfold askP
  cases hp : parseI a.u with
  | none => rfl
  | some u => rw [Option.bind_some, if_neg (h u hp)]
theorem askP_some {a : AL} {u : UL} (hp : parseI a.u = some u) (h : AskOk a u) : askP a = some (textA a u) := by
  unfold askP
  rw [hp, Option.bind_some, if_pos h]
theorem parse_small {l : List Int} {u : UL} (h : parseI l = some u) : (printI u).length ≤ 40 := by
  unfold parseI at h
  rw [Option.bind_eq_some_iff] at h
  obtain ⟨p, _, h⟩ := h
  unfold hostI at h
  split at h
  · rw [Option.bind_eq_some_iff] at h
    obtain ⟨q, _, h⟩ := h
    unfold restI at h
    simp only at h
    split at h
    · cases h
    · rename_i hn; cases h; omega
  · cases h
theorem hl_at {hs : HBL} {k : Nat} {h : ByteArray × ByteArray} (e : hs[k]? = some h) : (hl hs).take (k + 1) = (hl hs).take k ++ [(sb h.1, sb h.2)] := by
  obtain ⟨hk, rfl⟩ := List.getElem?_eq_some_iff.1 e
  unfold hl
  rw [List.take_succ_eq_append_getElem (by rw [List.length_map]; exact hk), List.getElem_map]
theorem headsP_take_len (hs : HL) (k : Nat) : (headsP (hs.take k)).length ≤ (headsP hs).length := by
  conv => rhs; rw [← List.take_append_drop k hs, headsP_app, List.length_append]
  omega
theorem one_url5 (a b : ByteArray) (k : Int) (c d : ByteArray) : ∀ v ∈ [Value.string a, Value.string b, Value.int .i64 k, Value.string c, Value.string d], v.oneCell' = true := by
  intro v hv
  simp only [List.mem_cons, List.not_mem_nil, or_false] at hv
  rcases hv with rfl | rfl | rfl | rfl | rfl <;> rfl
def MidS (w0 : World) (s : ByteArray) (L : Blks) (v : Value) (wx : World) : Prop := v = .string s ∧ Own w0 wx L
theorem rask_size : (Tryz.prog.info? 31).map (·.size) = some 4 := by kernel_rfl
set_option maxRecDepth 100000 in
set_option maxHeartbeats 16000000 in
theorem rprintAsk_c {w0 w : World} {R : Blks} (hO : Own w0 w R) (m u : ByteArray) (v : Value) (hs : HBL) (hR : HRd w0 R v hs) (body : ByteArray)
    (hm : m.size ≤ 100000000) (hu : u.size ≤ 5000000) (hb : body.size ≤ 100000000) (hh : (headsP (hl hs)).length ≤ 100000000) :
    Calls Tryz.prog 7 #[.agg (av m u v body).toArray] w fun e w' => e = .returned (.tuple #[.string (strOfNums ((askP (aL m u hs body)).getD [])), .bool (askP (aL m u hs body)).isSome]) ∧ Own w0 w' R := by
  obtain ⟨o, ho⟩ : ∃ o, askP (aL m u hs body) = o := ⟨_, rfl⟩
  rw [ho]
  obtain ⟨A, n, c, rfl, hn, hnc, _⟩ := hR w [] hO
  have hnb : n ≤ 100000000 := by
    have h4 : ∀ l : HL, l.length ≤ (headsP l).length := by
      intro l
      induction l with
      | nil => simp
      | cons h t ih => simp only [headsP, List.flatMap_cons, List.length_append, List.length_cons, headP, List.length_nil] at ih ⊢; omega
    have h5 := h4 (hl hs)
    have h6 : (hl hs).length = hs.length := by unfold hl; rw [List.length_map]
    omega
  have HN := Lib.hid hn; have HRR := Lib.hid hR; have HOO := Lib.hid ho; have HH := Lib.hid hh
  have HO := Lib.hid hO
  have hpar := fun (w1 : World) (R1 : Blks) (h : Own w0 w1 R1) => rparse_c h u hu
  have HPAR := Lib.hid hpar
  clear hn hR ho hO hpar hh hnc
  go_enter Tryz.func7, Tryz.ntmps7
  go_wp2_with (refine wl_box rfl _ _ rfl HO.out (av m u (.slice A n c) body).toArray (by rfl) ?_; intro g1 w1 hO; have HO1 := Lib.hid hO; clear hO HO; have hc1 : w1.cell? ⟨g1, 1, none⟩ = some (.string u) := HO1.out.cell (.head _) 1)
  with_reducible refine (HPAR.out _ _ HO1.out).mono ?_
  rintro e w2 ⟨rfl, hO⟩
  have HO2 := Lib.hid hO; clear hO HO1 HPAR hc1
  cases hp : parseI (sb u) with
  | none =>
    have HE : Hid (o = none) := Lib.hid (by rw [← HOO.out]; exact askP_none (fun uu h => by have h2 : parseI (sb u) = some uu := h; rw [hp] at h2; cases h2))
    simp only [Option.getD_none, Option.isSome_none]
    clear hp
    go_wp2_with (first | (refine wl_alloc rfl _ rfl HO2.out _ (alloc_rurl _) ?_; intro g4 w3 hO; have HO3 := Lib.hid hO; clear hO HO2) | (refine wl_store rfl _ _ _ rfl HO3.out 0 g4 0 _ UL.zero.val _ rfl (by rfl) (by rfl) rurl_size (one_url _) (by decide) ?_; intro w4 hO; have HO4 := Lib.hid (hO.cast (L' := (g4, .cells UL.zero.val.toArray 64) :: (g1, .cells (av m u (.slice A n c) body).toArray 31) :: R) rfl); clear hO HO3))
    refine wp_region_tree3 (fun w' => Own w0 w' ((g4, .cells UL.zero.val.toArray 64) :: (g1, .cells (av m u (.slice A n c) body).toArray 31) :: R)) 21 (.q 0 (.q 1 (.q 2 (.q 3 (.q 4 (.q 5 (.q 6 (.q 7 (.q 8 (.q 9 (.q 10 (.q 11 (.q 12 (.q 13 (.q 14 (.q 15 (.q 16 (.q 17 (.q 18 (.q 19 (.q 20 .done))))))))))))))))))))) (by kernel_rfl) (by decide +kernel) (fun _ _ d _ _ h => by cases d <;> exact h) HO4.out.drew ?_
    simp only [List.drop_succ_cons, List.drop_zero]
    have HD := Lib.hid HO4.out.drew; clear HO4
    iterate 21 ((first | (refine t3_no (by rfl) ?_) | (refine t3_q ?_ rfl ?_ ?_; rotate_left 1; (focus (rintro w' hO; have k0 : w'.cell? ⟨g1, 0, none⟩ = some (.string m) := hO.cell (.tail _ (.head _)) 0; have k1 : w'.cell? ⟨g1, 1, none⟩ = some (.string u) := hO.cell (.tail _ (.head _)) 1; simp only [pick_zero, pick_succ]; go_simp; first | done | with_reducible rfl))) | (refine t3_g ?_ (by rfl) ?_ ?_; rotate_left 1; (focus (rintro w' hO; have k0 : w'.cell? ⟨g1, 0, none⟩ = some (.string m) := hO.cell (.tail _ (.head _)) 0; have k1 : w'.cell? ⟨g1, 1, none⟩ = some (.string u) := hO.cell (.tail _ (.head _)) 1; simp only [pick_zero, pick_succ]; go_simp; first | done | with_reducible rfl)))); simp only [pick_zero, pick_succ]; simp only [Act.put, List.setIfInBounds_toArray, List.set_cons_zero, List.set_cons_succ])
    refine t3_done ?_
    go_wp2
    go_ret2
    exact ⟨by rw [HE.out]; rfl, HD.out.tail.tail⟩
  | some uu =>
    have hN := parseI_norm (byt_sb u) hp
    have hF := hN.fine
    obtain ⟨pn, hpn⟩ : ∃ pn : Nat, uu.port = pn := ⟨uu.port.toNat, by have := hF.port0; omega⟩
    have hprn := fun (w1 : World) (R1 : Blks) (h : Own w0 w1 R1) => rprint_c h uu hF.ok
    have hsz := hF.short
    have hpB := printI_ascii hN
    have hprs : ((strOfNums (printI uu)).toList == u.toList) = decide (printI uu = sb u) := by rw [beq_sb, sb_str (fun x hx => by have := hpB x hx; omega)]
    have hsome := fun (h : AskOk (aL m u hs body) uu) => askP_some (a := aL m u hs body) hp h
    have hnone := fun (h : ¬ AskOk (aL m u hs body) uu) => askP_none (a := aL m u hs body) (fun v hv => by have e : parseI (sb u) = some v := hv; rw [hp] at e; cases e; exact h)
    rw [HOO.out] at hsome hnone
    have HSOME := Lib.hid hsome; have HNONE := Lib.hid hnone; have HF := Lib.hid hF
    simp only [Option.getD_some, Option.isSome_some, UL.val]
    simp only [UL.val] at hprn
    have htop : ∀ (hst : List Int), hst = uu.host ++ portT uu → m ++ ⟨#[32]⟩ ++ strOfNums uu.path ++ strOfNums uu.query ++ ⟨#[32, 72, 84, 84, 80, 47, 49, 46, 49]⟩ ++ ⟨#[13, 10]⟩ ++ ⟨#[72, 111, 115, 116, 58, 32]⟩ ++ strOfNums hst ++ ⟨#[13, 10]⟩ ++ ⟨#[83, 99, 104, 101, 109, 101, 58, 32]⟩ ++ strOfNums uu.sch ++ ⟨#[13, 10]⟩ = strOfNums (topA (sb m) uu) := by
      rintro hst rfl
      unfold topA
      rw [show (32 : Int) :: (uu.path ++ (uu.query ++ (http11 ++ (13 :: 10 :: (hostW ++ (uu.host ++ (portT uu ++ (13 :: 10 :: (schemeW ++ (uu.sch ++ [13, 10])))))))))) = [32] ++ (uu.path ++ (uu.query ++ (http11 ++ ([13, 10] ++ (hostW ++ ((uu.host ++ portT uu) ++ ([13, 10] ++ (schemeW ++ (uu.sch ++ [13, 10])))))))))  by simp]
      simp only [strs_app, str_sb, ByteArray.append_assoc]
      rfl
    have htl : (topA (sb m) uu).length ≤ m.size + 120 := by
      have h1 := hsz
      rw [printI_parts] at h1
      unfold topA
      simp only [List.length_append, List.length_cons, List.length_nil, length_sb, http11, hostW, schemeW] at h1 ⊢
      omega
    have hhost : strOfNums uu.host ++ (⟨#[58]⟩ ++ strOfNums (digs pn)) = strOfNums (uu.host ++ 58 :: digs pn) := by rw [strs_app, show (58 : Int) :: digs pn = [58] ++ digs pn from rfl, strs_app]; rfl
    have hport : portT uu = if 0 < pn then 58 :: digs pn else [] := by unfold portT; rw [hpn, Int.toNat_natCast]; by_cases h : 0 < pn <;> simp [h]
    have hds : (strOfNums (digs pn)).size ≤ 21 := by rw [strOfNums_size]; exact (digs_len pn).2
    have s1 : (strOfNums uu.sch).size ≤ 40 := by rw [strOfNums_size]; have := hF.schl; omega
    have s2 : (strOfNums uu.host).size ≤ 40 := by rw [strOfNums_size]; have := hF.host.2.1; omega
    have s3 : (strOfNums uu.path).size ≤ 40 := by rw [strOfNums_size]; exact hF.lens.1
    have s4 : (strOfNums uu.query).size ≤ 40 := by rw [strOfNums_size]; exact hF.lens.2
    have hpn9 : pn < 100000 := by have := hF.port1; omega
    rw [hpn] at hprn ⊢
    generalize strOfNums uu.sch = us at *
    have HTOP := Lib.hid htop; have HHOST := Lib.hid hhost; have HPORT := Lib.hid hport; have HTL := Lib.hid htl
    clear htop hhost hport htl hN hF hsz hpB hsome hnone hpn
    generalize strOfNums uu.path = up at *
    generalize strOfNums uu.query = uq at *
    generalize huh : strOfNums uu.host = uh at *
    have HUH := Lib.hid huh
    generalize hpr : strOfNums (printI uu) = pr at *
    have HPRN := Lib.hid hprn
    clear hprn huh hpr hp
    go_wp2_with (first | (refine wl_alloc rfl _ rfl HO2.out _ (alloc_rurl _) ?_; intro g4 w3 hO; have HO3 := Lib.hid hO; clear hO HO2) | (refine wl_store rfl _ _ _ rfl HO3.out 0 g4 0 _ [Value.string us, Value.string uh, Value.int .i64 pn, Value.string up, Value.string uq] _ rfl (by rfl) (by rfl) rurl_size (one_url5 _ _ _ _ _) (by simp [UL.val, UL.zero]) ?_; intro w4 hO; have HO4 := Lib.hid (hO.cast (L' := (g4, .cells [Value.string us, Value.string uh, Value.int .i64 pn, Value.string up, Value.string uq].toArray 64) :: (g1, .cells (av m u (.slice A n c) body).toArray 31) :: R) rfl); clear hO HO3))
    obtain ⟨b0, hb0⟩ : ∃ b, decide (printI uu = sb u) = b := ⟨_, rfl⟩
    rw [hb0] at hprs
    cases b0 with
    | false =>
      have HE : Hid (o = none) := Lib.hid (HNONE.out (fun h => of_decide_eq_false hb0 h.1))
      have hprs2 : (pr.toList != u.toList) = true := by unfold bne; rw [hprs]; rfl
      clear hb0
      refine wp_region_tree3 (fun w' => Own w0 w' ((g4, .cells [Value.string us, Value.string uh, Value.int .i64 pn, Value.string up, Value.string uq].toArray 64) :: (g1, .cells (av m u (.slice A n c) body).toArray 31) :: R)) 21 (.q 0 (.q 1 (.q 2 (.q 3 (.q 5 (.q 6 (.one 4 (.q 7 (.q 8 (.q 9 (.q 10 (.q 11 (.q 12 (.q 13 (.q 14 (.q 15 (.q 16 (.q 17 (.q 18 (.q 19 (.q 20 .done))))))))))))))))))))) (by kernel_rfl) (by decide +kernel) (fun _ _ d _ _ h => by cases d <;> exact h) HO4.out.drew ?_
      simp only [List.drop_succ_cons, List.drop_zero]
      have HD := Lib.hid HO4.out.drew; clear HO4
      iterate 3 ((first | (refine t3_no (by rfl) ?_) | (refine t3_q ?_ rfl ?_ ?_; rotate_left 1; (focus (rintro w' hO; have k0 : w'.cell? ⟨g1, 0, none⟩ = some (.string m) := hO.cell (.tail _ (.head _)) 0; have k1 : w'.cell? ⟨g1, 1, none⟩ = some (.string u) := hO.cell (.tail _ (.head _)) 1; simp only [pick_zero, pick_succ]; go_simp; first | done | with_reducible rfl))) | (refine t3_g ?_ (by rfl) ?_ ?_; rotate_left 1; (focus (rintro w' hO; have k0 : w'.cell? ⟨g1, 0, none⟩ = some (.string m) := hO.cell (.tail _ (.head _)) 0; have k1 : w'.cell? ⟨g1, 1, none⟩ = some (.string u) := hO.cell (.tail _ (.head _)) 1; simp only [pick_zero, pick_succ]; go_simp; first | done | with_reducible rfl)))); simp only [pick_zero, pick_succ]; simp only [Act.put, List.setIfInBounds_toArray, List.set_cons_zero, List.set_cons_succ])
      refine t3_loadG (by rfl) _ _ rfl g4 0 [Value.string us, Value.string uh, Value.int .i64 pn, Value.string up, Value.string uq] [Value.string us, Value.string uh, Value.int .i64 pn, Value.string up, Value.string uq] 64 (by rfl) _ Tryz.underlying64 rfl rurl_size (by rfl) (fun w' hO => hO.heap (.head _)) ?_; simp only [pick_zero, pick_succ]; simp only [Act.put, List.setIfInBounds_toArray, List.set_cons_zero, List.set_cons_succ]
      iterate 2 ((first | (refine t3_no (by rfl) ?_) | (refine t3_q ?_ rfl ?_ ?_; rotate_left 1; (focus (rintro w' hO; have k0 : w'.cell? ⟨g1, 0, none⟩ = some (.string m) := hO.cell (.tail _ (.head _)) 0; have k1 : w'.cell? ⟨g1, 1, none⟩ = some (.string u) := hO.cell (.tail _ (.head _)) 1; simp only [pick_zero, pick_succ]; go_simp; first | done | with_reducible rfl))) | (refine t3_g ?_ (by rfl) ?_ ?_; rotate_left 1; (focus (rintro w' hO; have k0 : w'.cell? ⟨g1, 0, none⟩ = some (.string m) := hO.cell (.tail _ (.head _)) 0; have k1 : w'.cell? ⟨g1, 1, none⟩ = some (.string u) := hO.cell (.tail _ (.head _)) 1; simp only [pick_zero, pick_succ]; go_simp; first | done | with_reducible rfl)))); simp only [pick_zero, pick_succ]; simp only [Act.put, List.setIfInBounds_toArray, List.set_cons_zero, List.set_cons_succ])
      refine t3_one ?_
      simp only [pick_zero, pick_succ]
      refine wl_g (by rfl) ?_
      refine wl_call rfl _ _ _ (by go_simp) (HPRN.out _ _ HD.out) ?_
      rintro e w5 ⟨rfl, hO⟩
      have HO5 := Lib.hid hO; clear hO HD
      refine ⟨_, rfl, ActPost.mk (fun w' => Own w0 w' ((g4, .cells [Value.string us, Value.string uh, Value.int .i64 pn, Value.string up, Value.string uq].toArray 64) :: (g1, .cells (av m u (.slice A n c) body).toArray 31) :: R)) (fun w' h => h) HO5.out ?_⟩; simp only [Act.put, List.setIfInBounds_toArray, List.set_cons_zero, List.set_cons_succ]
      iterate 14 ((first | (refine t3_no (by rfl) ?_) | (refine t3_q ?_ rfl ?_ ?_; rotate_left 1; (focus (rintro w' hO; have k0 : w'.cell? ⟨g1, 0, none⟩ = some (.string m) := hO.cell (.tail _ (.head _)) 0; have k1 : w'.cell? ⟨g1, 1, none⟩ = some (.string u) := hO.cell (.tail _ (.head _)) 1; simp only [pick_zero, pick_succ]; go_simp; first | done | with_reducible rfl))) | (refine t3_g ?_ (by rfl) ?_ ?_; rotate_left 1; (focus (rintro w' hO; have k0 : w'.cell? ⟨g1, 0, none⟩ = some (.string m) := hO.cell (.tail _ (.head _)) 0; have k1 : w'.cell? ⟨g1, 1, none⟩ = some (.string u) := hO.cell (.tail _ (.head _)) 1; simp only [pick_zero, pick_succ]; go_simp; first | done | with_reducible rfl)))); simp only [pick_zero, pick_succ]; simp only [Act.put, List.setIfInBounds_toArray, List.set_cons_zero, List.set_cons_succ])
      refine t3_done ?_
      go_wp2
      go_ret2
      exact ⟨by rw [HE.out]; rfl, HO5.out.tail.tail⟩
    | true =>
      have HPU : Hid (printI uu = sb u) := Lib.hid (of_decide_eq_true hb0)
      have hprs2 : (pr.toList != u.toList) = false := by unfold bne; rw [hprs]; rfl
      clear hb0
      by_cases hm1 : m.size < 1
      · have hm1' : (m.size : Int) < 1 := by omega
        have HE : Hid (o = none) := Lib.hid (HNONE.out (fun h => by have h1 : 1 ≤ (sb m).length := h.2.1.1; rw [length_sb] at h1; omega))
        clear hm1
        refine wp_region_tree3 (fun w' => Own w0 w' ((g4, .cells [Value.string us, Value.string uh, Value.int .i64 pn, Value.string up, Value.string uq].toArray 64) :: (g1, .cells (av m u (.slice A n c) body).toArray 31) :: R)) 21 (.q 0 (.q 1 (.q 2 (.q 3 (.q 5 (.q 6 (.one 4 (.q 7 (.q 8 (.q 9 (.q 10 (.q 11 (.q 12 (.q 13 (.q 14 (.q 15 (.q 16 (.q 17 (.q 18 (.q 19 (.q 20 .done))))))))))))))))))))) (by kernel_rfl) (by decide +kernel) (fun _ _ d _ _ h => by cases d <;> exact h) HO4.out.drew ?_
        simp only [List.drop_succ_cons, List.drop_zero]
        have HD := Lib.hid HO4.out.drew; clear HO4
        iterate 3 ((first | (refine t3_no (by rfl) ?_) | (refine t3_q ?_ rfl ?_ ?_; rotate_left 1; (focus (rintro w' hO; have k0 : w'.cell? ⟨g1, 0, none⟩ = some (.string m) := hO.cell (.tail _ (.head _)) 0; have k1 : w'.cell? ⟨g1, 1, none⟩ = some (.string u) := hO.cell (.tail _ (.head _)) 1; simp only [pick_zero, pick_succ]; go_simp; first | done | with_reducible rfl))) | (refine t3_g ?_ (by rfl) ?_ ?_; rotate_left 1; (focus (rintro w' hO; have k0 : w'.cell? ⟨g1, 0, none⟩ = some (.string m) := hO.cell (.tail _ (.head _)) 0; have k1 : w'.cell? ⟨g1, 1, none⟩ = some (.string u) := hO.cell (.tail _ (.head _)) 1; simp only [pick_zero, pick_succ]; go_simp; first | done | with_reducible rfl)))); simp only [pick_zero, pick_succ]; simp only [Act.put, List.setIfInBounds_toArray, List.set_cons_zero, List.set_cons_succ])
        refine t3_loadG (by rfl) _ _ rfl g4 0 [Value.string us, Value.string uh, Value.int .i64 pn, Value.string up, Value.string uq] [Value.string us, Value.string uh, Value.int .i64 pn, Value.string up, Value.string uq] 64 (by rfl) _ Tryz.underlying64 rfl rurl_size (by rfl) (fun w' hO => hO.heap (.head _)) ?_; simp only [pick_zero, pick_succ]; simp only [Act.put, List.setIfInBounds_toArray, List.set_cons_zero, List.set_cons_succ]
        iterate 2 ((first | (refine t3_no (by rfl) ?_) | (refine t3_q ?_ rfl ?_ ?_; rotate_left 1; (focus (rintro w' hO; have k0 : w'.cell? ⟨g1, 0, none⟩ = some (.string m) := hO.cell (.tail _ (.head _)) 0; have k1 : w'.cell? ⟨g1, 1, none⟩ = some (.string u) := hO.cell (.tail _ (.head _)) 1; simp only [pick_zero, pick_succ]; go_simp; first | done | with_reducible rfl))) | (refine t3_g ?_ (by rfl) ?_ ?_; rotate_left 1; (focus (rintro w' hO; have k0 : w'.cell? ⟨g1, 0, none⟩ = some (.string m) := hO.cell (.tail _ (.head _)) 0; have k1 : w'.cell? ⟨g1, 1, none⟩ = some (.string u) := hO.cell (.tail _ (.head _)) 1; simp only [pick_zero, pick_succ]; go_simp; first | done | with_reducible rfl)))); simp only [pick_zero, pick_succ]; simp only [Act.put, List.setIfInBounds_toArray, List.set_cons_zero, List.set_cons_succ])
        refine t3_one ?_
        simp only [pick_zero, pick_succ]
        refine wl_g (by rfl) ?_
        refine wl_call rfl _ _ _ (by go_simp) (HPRN.out _ _ HD.out) ?_
        rintro e w5 ⟨rfl, hO⟩
        have HO5 := Lib.hid hO; clear hO HD
        refine ⟨_, rfl, ActPost.mk (fun w' => Own w0 w' ((g4, .cells [Value.string us, Value.string uh, Value.int .i64 pn, Value.string up, Value.string uq].toArray 64) :: (g1, .cells (av m u (.slice A n c) body).toArray 31) :: R)) (fun w' h => h) HO5.out ?_⟩; simp only [Act.put, List.setIfInBounds_toArray, List.set_cons_zero, List.set_cons_succ]
        iterate 14 ((first | (refine t3_no (by rfl) ?_) | (refine t3_q ?_ rfl ?_ ?_; rotate_left 1; (focus (rintro w' hO; have k0 : w'.cell? ⟨g1, 0, none⟩ = some (.string m) := hO.cell (.tail _ (.head _)) 0; have k1 : w'.cell? ⟨g1, 1, none⟩ = some (.string u) := hO.cell (.tail _ (.head _)) 1; simp only [pick_zero, pick_succ]; go_simp; first | done | with_reducible rfl))) | (refine t3_g ?_ (by rfl) ?_ ?_; rotate_left 1; (focus (rintro w' hO; have k0 : w'.cell? ⟨g1, 0, none⟩ = some (.string m) := hO.cell (.tail _ (.head _)) 0; have k1 : w'.cell? ⟨g1, 1, none⟩ = some (.string u) := hO.cell (.tail _ (.head _)) 1; simp only [pick_zero, pick_succ]; go_simp; first | done | with_reducible rfl)))); simp only [pick_zero, pick_succ]; simp only [Act.put, List.setIfInBounds_toArray, List.set_cons_zero, List.set_cons_succ])
        refine t3_done ?_
        go_wp2
        go_ret2
        exact ⟨by rw [HE.out]; rfl, HO5.out.tail.tail⟩
      · have hm1' : ¬ (m.size : Int) < 1 := by omega
        by_cases hm8 : 8 < m.size
        · have hm8' : (8 : Int) < m.size := by omega
          have HE : Hid (o = none) := Lib.hid (HNONE.out (fun h => by have h1 : (sb m).length ≤ 8 := h.2.1.2.1; rw [length_sb] at h1; omega))
          clear hm1 hm8
          refine wp_region_tree3 (fun w' => Own w0 w' ((g4, .cells [Value.string us, Value.string uh, Value.int .i64 pn, Value.string up, Value.string uq].toArray 64) :: (g1, .cells (av m u (.slice A n c) body).toArray 31) :: R)) 21 (.q 0 (.q 1 (.q 2 (.q 3 (.q 5 (.q 6 (.one 4 (.q 7 (.q 8 (.q 9 (.q 10 (.q 11 (.q 12 (.q 13 (.q 14 (.q 15 (.q 16 (.q 17 (.q 18 (.q 19 (.q 20 .done))))))))))))))))))))) (by kernel_rfl) (by decide +kernel) (fun _ _ d _ _ h => by cases d <;> exact h) HO4.out.drew ?_
          simp only [List.drop_succ_cons, List.drop_zero]
          have HD := Lib.hid HO4.out.drew; clear HO4
          iterate 3 ((first | (refine t3_no (by rfl) ?_) | (refine t3_q ?_ rfl ?_ ?_; rotate_left 1; (focus (rintro w' hO; have k0 : w'.cell? ⟨g1, 0, none⟩ = some (.string m) := hO.cell (.tail _ (.head _)) 0; have k1 : w'.cell? ⟨g1, 1, none⟩ = some (.string u) := hO.cell (.tail _ (.head _)) 1; simp only [pick_zero, pick_succ]; go_simp; first | done | with_reducible rfl))) | (refine t3_g ?_ (by rfl) ?_ ?_; rotate_left 1; (focus (rintro w' hO; have k0 : w'.cell? ⟨g1, 0, none⟩ = some (.string m) := hO.cell (.tail _ (.head _)) 0; have k1 : w'.cell? ⟨g1, 1, none⟩ = some (.string u) := hO.cell (.tail _ (.head _)) 1; simp only [pick_zero, pick_succ]; go_simp; first | done | with_reducible rfl)))); simp only [pick_zero, pick_succ]; simp only [Act.put, List.setIfInBounds_toArray, List.set_cons_zero, List.set_cons_succ])
          refine t3_loadG (by rfl) _ _ rfl g4 0 [Value.string us, Value.string uh, Value.int .i64 pn, Value.string up, Value.string uq] [Value.string us, Value.string uh, Value.int .i64 pn, Value.string up, Value.string uq] 64 (by rfl) _ Tryz.underlying64 rfl rurl_size (by rfl) (fun w' hO => hO.heap (.head _)) ?_; simp only [pick_zero, pick_succ]; simp only [Act.put, List.setIfInBounds_toArray, List.set_cons_zero, List.set_cons_succ]
          iterate 2 ((first | (refine t3_no (by rfl) ?_) | (refine t3_q ?_ rfl ?_ ?_; rotate_left 1; (focus (rintro w' hO; have k0 : w'.cell? ⟨g1, 0, none⟩ = some (.string m) := hO.cell (.tail _ (.head _)) 0; have k1 : w'.cell? ⟨g1, 1, none⟩ = some (.string u) := hO.cell (.tail _ (.head _)) 1; simp only [pick_zero, pick_succ]; go_simp; first | done | with_reducible rfl))) | (refine t3_g ?_ (by rfl) ?_ ?_; rotate_left 1; (focus (rintro w' hO; have k0 : w'.cell? ⟨g1, 0, none⟩ = some (.string m) := hO.cell (.tail _ (.head _)) 0; have k1 : w'.cell? ⟨g1, 1, none⟩ = some (.string u) := hO.cell (.tail _ (.head _)) 1; simp only [pick_zero, pick_succ]; go_simp; first | done | with_reducible rfl)))); simp only [pick_zero, pick_succ]; simp only [Act.put, List.setIfInBounds_toArray, List.set_cons_zero, List.set_cons_succ])
          refine t3_one ?_
          simp only [pick_zero, pick_succ]
          refine wl_g (by rfl) ?_
          refine wl_call rfl _ _ _ (by go_simp) (HPRN.out _ _ HD.out) ?_
          rintro e w5 ⟨rfl, hO⟩
          have HO5 := Lib.hid hO; clear hO HD
          refine ⟨_, rfl, ActPost.mk (fun w' => Own w0 w' ((g4, .cells [Value.string us, Value.string uh, Value.int .i64 pn, Value.string up, Value.string uq].toArray 64) :: (g1, .cells (av m u (.slice A n c) body).toArray 31) :: R)) (fun w' h => h) HO5.out ?_⟩; simp only [Act.put, List.setIfInBounds_toArray, List.set_cons_zero, List.set_cons_succ]
          iterate 14 ((first | (refine t3_no (by rfl) ?_) | (refine t3_q ?_ rfl ?_ ?_; rotate_left 1; (focus (rintro w' hO; have k0 : w'.cell? ⟨g1, 0, none⟩ = some (.string m) := hO.cell (.tail _ (.head _)) 0; have k1 : w'.cell? ⟨g1, 1, none⟩ = some (.string u) := hO.cell (.tail _ (.head _)) 1; simp only [pick_zero, pick_succ]; go_simp; first | done | with_reducible rfl))) | (refine t3_g ?_ (by rfl) ?_ ?_; rotate_left 1; (focus (rintro w' hO; have k0 : w'.cell? ⟨g1, 0, none⟩ = some (.string m) := hO.cell (.tail _ (.head _)) 0; have k1 : w'.cell? ⟨g1, 1, none⟩ = some (.string u) := hO.cell (.tail _ (.head _)) 1; simp only [pick_zero, pick_succ]; go_simp; first | done | with_reducible rfl)))); simp only [pick_zero, pick_succ]; simp only [Act.put, List.setIfInBounds_toArray, List.set_cons_zero, List.set_cons_succ])
          refine t3_done ?_
          go_wp2
          go_ret2
          exact ⟨by rw [HE.out]; rfl, HO5.out.tail.tail⟩
        · have hm8' : ¬ (8 : Int) < m.size := by omega
          refine wp_region_tree3 (fun w' => Own w0 w' ((g4, .cells [Value.string us, Value.string uh, Value.int .i64 pn, Value.string up, Value.string uq].toArray 64) :: (g1, .cells (av m u (.slice A n c) body).toArray 31) :: R)) 21 (.q 0 (.q 1 (.q 2 (.q 3 (.q 5 (.q 6 (.one 4 (.q 7 (.q 8 (.q 9 (.q 10 (.q 11 (.q 12 (.q 13 (.q 14 (.q 15 (.q 16 (.q 17 (.q 18 (.q 19 (.q 20 .done))))))))))))))))))))) (by kernel_rfl) (by decide +kernel) (fun _ _ d _ _ h => by cases d <;> exact h) HO4.out.drew ?_
          simp only [List.drop_succ_cons, List.drop_zero]
          have HD := Lib.hid HO4.out.drew; clear HO4
          iterate 3 ((first | (refine t3_no (by rfl) ?_) | (refine t3_q ?_ rfl ?_ ?_; rotate_left 1; (focus (rintro w' hO; have k0 : w'.cell? ⟨g1, 0, none⟩ = some (.string m) := hO.cell (.tail _ (.head _)) 0; have k1 : w'.cell? ⟨g1, 1, none⟩ = some (.string u) := hO.cell (.tail _ (.head _)) 1; simp only [pick_zero, pick_succ]; go_simp; first | done | with_reducible rfl))) | (refine t3_g ?_ (by rfl) ?_ ?_; rotate_left 1; (focus (rintro w' hO; have k0 : w'.cell? ⟨g1, 0, none⟩ = some (.string m) := hO.cell (.tail _ (.head _)) 0; have k1 : w'.cell? ⟨g1, 1, none⟩ = some (.string u) := hO.cell (.tail _ (.head _)) 1; simp only [pick_zero, pick_succ]; go_simp; first | done | with_reducible rfl)))); simp only [pick_zero, pick_succ]; simp only [Act.put, List.setIfInBounds_toArray, List.set_cons_zero, List.set_cons_succ])
          refine t3_loadG (by rfl) _ _ rfl g4 0 [Value.string us, Value.string uh, Value.int .i64 pn, Value.string up, Value.string uq] [Value.string us, Value.string uh, Value.int .i64 pn, Value.string up, Value.string uq] 64 (by rfl) _ Tryz.underlying64 rfl rurl_size (by rfl) (fun w' hO => hO.heap (.head _)) ?_; simp only [pick_zero, pick_succ]; simp only [Act.put, List.setIfInBounds_toArray, List.set_cons_zero, List.set_cons_succ]
          iterate 2 ((first | (refine t3_no (by rfl) ?_) | (refine t3_q ?_ rfl ?_ ?_; rotate_left 1; (focus (rintro w' hO; have k0 : w'.cell? ⟨g1, 0, none⟩ = some (.string m) := hO.cell (.tail _ (.head _)) 0; have k1 : w'.cell? ⟨g1, 1, none⟩ = some (.string u) := hO.cell (.tail _ (.head _)) 1; simp only [pick_zero, pick_succ]; go_simp; first | done | with_reducible rfl))) | (refine t3_g ?_ (by rfl) ?_ ?_; rotate_left 1; (focus (rintro w' hO; have k0 : w'.cell? ⟨g1, 0, none⟩ = some (.string m) := hO.cell (.tail _ (.head _)) 0; have k1 : w'.cell? ⟨g1, 1, none⟩ = some (.string u) := hO.cell (.tail _ (.head _)) 1; simp only [pick_zero, pick_succ]; go_simp; first | done | with_reducible rfl)))); simp only [pick_zero, pick_succ]; simp only [Act.put, List.setIfInBounds_toArray, List.set_cons_zero, List.set_cons_succ])
          refine t3_one ?_
          simp only [pick_zero, pick_succ]
          refine wl_g (by rfl) ?_
          refine wl_call rfl _ _ _ (by go_simp) (HPRN.out _ _ HD.out) ?_
          rintro e w5 ⟨rfl, hO⟩
          have HO5 := Lib.hid hO; clear hO HD
          refine ⟨_, rfl, ActPost.mk (fun w' => Own w0 w' ((g4, .cells [Value.string us, Value.string uh, Value.int .i64 pn, Value.string up, Value.string uq].toArray 64) :: (g1, .cells (av m u (.slice A n c) body).toArray 31) :: R)) (fun w' h => h) HO5.out ?_⟩; simp only [Act.put, List.setIfInBounds_toArray, List.set_cons_zero, List.set_cons_succ]
          iterate 14 ((first | (refine t3_no (by rfl) ?_) | (refine t3_q ?_ rfl ?_ ?_; rotate_left 1; (focus (rintro w' hO; have k0 : w'.cell? ⟨g1, 0, none⟩ = some (.string m) := hO.cell (.tail _ (.head _)) 0; have k1 : w'.cell? ⟨g1, 1, none⟩ = some (.string u) := hO.cell (.tail _ (.head _)) 1; simp only [pick_zero, pick_succ]; go_simp; first | done | with_reducible rfl))) | (refine t3_g ?_ (by rfl) ?_ ?_; rotate_left 1; (focus (rintro w' hO; have k0 : w'.cell? ⟨g1, 0, none⟩ = some (.string m) := hO.cell (.tail _ (.head _)) 0; have k1 : w'.cell? ⟨g1, 1, none⟩ = some (.string u) := hO.cell (.tail _ (.head _)) 1; simp only [pick_zero, pick_succ]; go_simp; first | done | with_reducible rfl)))); simp only [pick_zero, pick_succ]; simp only [Act.put, List.setIfInBounds_toArray, List.set_cons_zero, List.set_cons_succ])
          refine t3_done ?_
          clear hprs hprs2 HPRN
          have hml : (sb m).length = m.size := length_sb m
          have HML := Lib.hid hml
          clear hml
          go_wp2
          go_loopw [6] (fun t w' => ∃ i : Nat, i ≤ m.size ∧ t = .int .i64 i ∧ Hid (∀ x ∈ (sb m).take i, 65 ≤ x ∧ x ≤ 90) ∧ Hid (Own w0 w' ((g4, .cells [Value.string us, Value.string uh, Value.int .i64 pn, Value.string up, Value.string uq].toArray 64) :: (g1, .cells (av m u (.slice A n c) body).toArray 31) :: R))) (fun t _ => m.size - (intOf t).toNat)
          case atStart => exact ⟨0, Nat.zero_le _, rfl, Lib.hid (by simp), HO5⟩
          case round =>
            obtain ⟨i, hi, rfl, HM, HO6⟩ := hrel
            clear HO5
            have k0 : wr.cell? ⟨g1, 0, none⟩ = some (.string m) := HO6.out.cell (.tail _ (.head _)) 0
            by_cases hlt : i < m.size
            · have hix := index_at wr m i i rfl hlt
              have hin : (i : Int) < m.size := by omega
              have hil : i < (sb m).length := by rw [HML.out]; exact hlt
              have hts : (sb m).take (i + 1) = (sb m).take i ++ [(sb m).getD i 0] := by rw [List.take_succ_eq_append_getElem hil, List.getD_eq_getElem?_getD, List.getElem?_eq_getElem hil]; rfl
              have hmem : (sb m).getD i 0 ∈ sb m := by rw [List.getD_eq_getElem?_getD, List.getElem?_eq_getElem hil]; exact List.getElem_mem hil
              have HTS := Lib.hid hts; have HMEM := Lib.hid hmem
              clear hts hmem hil
              generalize (sb m).getD i 0 = x at *
              by_cases h4 : x < 65
              · have HE : Hid (o = none) := Lib.hid (HNONE.out (fun h => by have := h.2.1.2.2 x HMEM.out; omega))
                go_wp2
                go_ret2
                exact ⟨by rw [HE.out]; rfl, HO6.out.tail.tail⟩
              · by_cases h5 : 90 < x
                · have HE : Hid (o = none) := Lib.hid (HNONE.out (fun h => by have := h.2.1.2.2 x HMEM.out; omega))
                  go_wp2
                  go_ret2
                  exact ⟨by rw [HE.out]; rfl, HO6.out.tail.tail⟩
                · have hA2 : ∀ y ∈ (sb m).take (i + 1), 65 ≤ y ∧ y ≤ 90 := by
                    rw [HTS.out]
                    intro y hy
                    rcases List.mem_append.1 hy with hy | hy
                    · exact HM.out y hy
                    · rw [List.mem_singleton] at hy; omega
                  have HA2 := Lib.hid hA2
                  clear hA2
                  go_wp2
                  go_roundw
                  case rel => exact ⟨i + 1, by omega, by go_num, HA2, HO6⟩
                  case measure => simp [intOf]; omega
            · have hin : ¬ (i : Int) < m.size := by omega
              have hmeth : MethOk (sb m) := ⟨by rw [HML.out]; omega, by rw [HML.out]; omega, by have h1 := HM.out; rwa [List.take_of_length_le (by rw [HML.out]; omega)] at h1⟩
              have HMETH := Lib.hid hmeth
              have c1 : wr.cell? ⟨g4, 1, none⟩ = some (.string uh) := HO6.out.cell (.head _) 1
              have c2 : wr.cell? ⟨g4, 2, none⟩ = some (.int .i64 pn) := HO6.out.cell (.head _) 2
              clear hmeth HM
              go_upto_if 63 with fail
              go_cut [7] (fun s7 wx => MidS w0 (strOfNums (uu.host ++ portT uu)) ((g4, .cells [Value.string us, Value.string uh, Value.int .i64 pn, Value.string up, Value.string uq].toArray 64) :: (g1, .cells (av m u (.slice A n c) body).toArray 31) :: R) s7 wx)
              case first =>
                by_cases hp0 : 0 < pn
                · have hpI : (0 : Int) < pn := by omega
                  go_wp2_with fail
                  have hdg := fun w : World => digits_c pn (by omega) w
                  have hho := HHOST.out
                  have hpt : strOfNums (uu.host ++ portT uu) = strOfNums (uu.host ++ 58 :: digs pn) := by rw [HPORT.out, if_pos hp0]
                  rw [← hho] at hpt
                  generalize strOfNums (digs pn) = ds at *
                  have HPT := Lib.hid hpt
                  have n1 : ¬ (9223372036854775807 < 1 + ds.size) := by omega
                  have n2 : ¬ (9223372036854775807 < uh.size + (1 + ds.size)) := by omega
                  clear hpt hho
                  with_reducible refine (hdg _).mono ?_
                  rintro e w6 ⟨rfl, qq, hww⟩
                  have HO7 := Lib.hid (HO6.out.drewN qq); rw [← hww] at HO7; clear hww HO6 hdg
                  go_wp2_with fail
                  go_meet
                  exact ⟨by rw [HPT.out], HO7.out⟩
                · have hpI : ¬ (0 : Int) < pn := by omega
                  go_wp2_with fail
                  go_meet
                  exact ⟨by rw [HPORT.out, if_neg hp0, List.append_nil, HUH.out], HO6.out⟩
              case rest =>
                obtain ⟨rfl, hO⟩ := hcut
                have HO7 := Lib.hid hO; clear hO HO6 c1 c2
                have htp := HTOP.out _ rfl
                have hhl : (strOfNums (uu.host ++ portT uu)).size ≤ 80 := by
                  rw [strOfNums_size, List.length_append, HPORT.out]
                  have h1 := HF.out.host.2.1
                  have h2 := (digs_len pn).2
                  split
                  · simp only [List.length_cons]; omega
                  · simp only [List.length_nil]; omega
                generalize strOfNums (uu.host ++ portT uu) = hS at *
                have n1 : ¬ (9223372036854775807 < m.size + 1) := by omega
                have n2 : ¬ (9223372036854775807 < m.size + 1 + up.size) := by omega
                have n3 : ¬ (9223372036854775807 < m.size + 1 + up.size + uq.size) := by omega
                have n4 : ¬ (9223372036854775807 < m.size + 1 + up.size + uq.size + 9) := by omega
                have n5 : ¬ (9223372036854775807 < m.size + 1 + up.size + uq.size + 9 + 2) := by omega
                have n6 : ¬ (9223372036854775807 < m.size + 1 + up.size + uq.size + 9 + 2 + 6) := by omega
                have n7 : ¬ (9223372036854775807 < m.size + 1 + up.size + uq.size + 9 + 2 + 6 + hS.size) := by omega
                have n8 : ¬ (9223372036854775807 < m.size + 1 + up.size + uq.size + 9 + 2 + 6 + hS.size + 2) := by omega
                have n9 : ¬ (9223372036854775807 < m.size + 1 + up.size + uq.size + 9 + 2 + 6 + hS.size + 2 + 8) := by omega
                have n10 : ¬ (9223372036854775807 < m.size + 1 + up.size + uq.size + 9 + 2 + 6 + hS.size + 2 + 8 + us.size) := by omega
                have n11 : ¬ (9223372036854775807 < m.size + 1 + up.size + uq.size + 9 + 2 + 6 + hS.size + 2 + 8 + us.size + 2) := by omega
                have k0' := HO7.out.cell (.tail _ (.head _)) 0
                have k2' := HO7.out.cell (.tail _ (.head _)) 2
                simp only [av, List.getElem?_toArray, List.getElem?_cons_succ, List.getElem?_cons_zero] at k0' k2'
                have d0 := HO7.out.cell (.head _) 0
                have d3 := HO7.out.cell (.head _) 3
                have d4 := HO7.out.cell (.head _) 4
                simp only [List.getElem?_toArray, List.getElem?_cons_succ, List.getElem?_cons_zero] at d0 d3 d4
                have HTP := Lib.hid htp
                clear htp
                go_wp2
                clear n1 n2 n3 n4 n5 n6 n7 n8 n9 n10 n11 k0' k2' d0 d3 d4
                go_loopw [8, 93] (fun s t w' => ∃ (k : Nat) (q : ByteArray), k ≤ n ∧ s = .string q ∧ t = .int .i64 k ∧ Hid (q = strOfNums (topA (sb m) uu ++ headsP ((hl hs).take k)) ∧ ∀ h ∈ (hl hs).take k, HeadA h) ∧ Hid (Own w0 w' ((g4, .cells [Value.string us, Value.string uh, Value.int .i64 pn, Value.string up, Value.string uq].toArray 64) :: (g1, .cells (av m u (.slice A n c) body).toArray 31) :: R))) (fun _ t _ => n - (intOf t).toNat)
                case atStart => exact ⟨0, _, Nat.zero_le _, rfl, rfl, Lib.hid ⟨by rw [HTP.out]; simp [headsP], by simp⟩, HO7⟩
                case round =>
                  obtain ⟨k, q, hk, rfl, rfl, HS, HO8⟩ := hrel
                  clear HO7 HTP
                  have hqs : q.size ≤ m.size + 120 + (headsP ((hl hs).take k)).length := by rw [HS.out.1, strOfNums_size, List.length_append]; have := HTL.out; omega
                  have hkl2 := headsP_take_len (hl hs) k
                  have hhh := HH.out
                  by_cases hltk : k < n
                  · have hkl : k < hs.length := by rw [HN.out]; exact hltk
                    obtain ⟨A', n', cp', e, _, _, hA'⟩ := HRR.out wr [_, _] HO8.out
                    cases e
                    obtain ⟨g, rfl, hcell⟩ := hA' (by omega)
                    have hrg := hcell k _ (List.getElem?_eq_getElem hkl)
                    have htk := hl_at (List.getElem?_eq_getElem hkl)
                    have hin2 : (sb hs[k].1, sb hs[k].2) ∈ hl hs := List.mem_map.2 ⟨hs[k], List.getElem_mem hkl, rfl⟩
                    have hle := headsP_take_len (hl hs) (k + 1)
                    rw [htk, headsP_app, List.length_append] at hle
                    generalize hs[k] = h at *
                    obtain ⟨x, y⟩ := h
                    simp only at htk hin2 hle
                    have hhp : (headsP [(sb x, sb y)]).length = x.size + (2 + (y.size + 2)) := by simp [headsP, headP, length_sb]; omega
                    rw [hhp] at hle
                    have hcx : wr.cell? ⟨g, k * 2, none⟩ = some (.string x) := hrg 0 _ rfl
                    have hcy : wr.cell? ⟨g, k * 2 + 1, none⟩ = some (.string y) := hrg 1 _ rfl
                    have hkn : (k : Int) < n := by omega
                    have hxs : x.size ≤ 100000000 := by omega
                    have hys : y.size ≤ 100000000 := by omega
                    have hit := headA_iff (sb x) (sb y)
                    have hnone1 : ¬ HeadA (sb x, sb y) → o = none := fun h => HNONE.out (fun ha => h (ha.2.2 _ hin2))
                    have HIT := Lib.hid hit; have HN1 := Lib.hid hnone1; have HTK := Lib.hid htk
                    have m1 : ¬ (9223372036854775807 < 1 + x.size) := by omega
                    have m2 : ¬ (9223372036854775807 < 1 + x.size + 1) := by omega
                    have m3 : ¬ (9223372036854775807 < x.size + 2) := by omega
                    have m4 : ¬ (9223372036854775807 < x.size + 2 + y.size) := by omega
                    have m5 : ¬ (9223372036854775807 < x.size + 2 + y.size + 2) := by omega
                    have m6 : ¬ (9223372036854775807 < q.size + (x.size + 2 + y.size + 2)) := by omega
                    have hunt := fun w : World => until_c (w := w) x ⟨#[58]⟩ (by omega) (by decide)
                    rw [show sb ⟨#[58]⟩ = [58] from rfl] at hunt
                    have b1 := beq_lit8 x [] [] rfl
                    have b2 := beq_lit8 (strOfNums (behind [58] (sb x))) [] [] rfl
                    rw [sb_str (behind_byt (byt_sb x))] at b2
                    have v1 := fun w : World => valued_c (w := w) (⟨#[46]⟩ ++ x ++ ⟨#[46]⟩) (by rw [ByteArray.size_append, ByteArray.size_append, show (⟨#[46]⟩ : ByteArray).size = 1 from rfl]; omega) ((x.size : Int) + 2)
                    have v2 := fun w : World => valued_c (w := w) y (by omega) (y.size : Int)
                    have hd3 : sb (⟨#[46]⟩ ++ x ++ ⟨#[46]⟩) = [46] ++ sb x ++ [46] := by unfold sb; simp [ByteArray.data_append]
                    rw [hd3] at v1
                    rw [length_sb, length_sb] at hit
                    have HIT := Lib.hid hit
                    obtain ⟨r1, hr1⟩ : ∃ b, decide (sb x = []) = b := ⟨_, rfl⟩
                    obtain ⟨r2, hr2⟩ : ∃ b, decide (behind [58] (sb x) = []) = b := ⟨_, rfl⟩
                    obtain ⟨r3, hr3⟩ : ∃ b, decide (ValueOk ((x.size : Int) + 2) ([46] ++ sb x ++ [46])) = b := ⟨_, rfl⟩
                    obtain ⟨r4, hr4⟩ : ∃ b, decide (ValueOk (y.size : Int) (sb y)) = b := ⟨_, rfl⟩
                    rw [hr1] at b1; rw [hr2] at b2; simp only [hr3] at v1; simp only [hr4] at v2
                    have hall : HeadA (sb x, sb y) ↔ r1 = false ∧ r2 = true ∧ r3 = true ∧ r4 = true := by
                      rw [hit, ← hr1, ← hr2, ← hr3, ← hr4, decide_eq_false_iff_not, decide_eq_true_iff, decide_eq_true_iff, decide_eq_true_iff]
                    have HALL := Lib.hid hall; have V1 := Lib.hid v1; have V2 := Lib.hid v2; have HUN := Lib.hid hunt
                    have b2' : ((strOfNums (behind [58] (sb x))).toList != []) = !r2 := by unfold bne; rw [b2]
                    generalize strOfNums (behind [58] (sb x)) = bh at *
                    generalize strOfNums (ahead [58] (sb x)) = ah at *
                    have HQS := Lib.hid hqs; have HLE := Lib.hid hle
                    clear hcell hA' hrg htk hin2 hle hhp hit hnone1 hunt v1 v2 hd3 hr1 hr2 hr3 hr4 hall hkl hqs hkl2 hhh HIT
                    go_wp2_with (first | (refine wl_alloc rfl _ rfl HO8.out _ (alloc_head _) ?_; intro gh w3 hO; have HO9 := Lib.hid hO; clear hO HO8) | (refine wl_store rfl _ _ _ rfl HO9.out 0 gh 0 _ (hv2 (x, y)) _ rfl (by rfl) (by rfl) head_size (one_hv2 _) (by simp [hv2]) ?_; intro w4 hO; have HO10 := Lib.hid (hO.cast (L' := (gh, .cells (hv2 (x, y)).toArray 46) :: (g4, .cells [Value.string us, Value.string uh, Value.int .i64 pn, Value.string up, Value.string uq].toArray 64) :: (g1, .cells (av m u (.slice (some ⟨g, 0, none⟩) n c) body).toArray 31) :: R) rfl); clear hO HO9; have hc3 : w4.cell? ⟨gh, 0, none⟩ = some (.string x) := HO10.out.cell (.head _) 0; clear hcx hcy))
                    with_reducible refine (HUN.out _).mono ?_
                    rintro e w5 ⟨rfl, qq, hww⟩
                    have HO11 := Lib.hid (HO10.out.drewN qq); rw [← hww] at HO11; clear hww HO10 hc3 HUN
                    have hc3 : w5.cell? ⟨gh, 0, none⟩ = some (.string x) := HO11.out.cell (.head _) 0
                    have hc4 : w5.cell? ⟨gh, 1, none⟩ = some (.string y) := HO11.out.cell (.head _) 1
                    cases r1 with
                    | true =>
                      have HE : Hid (o = none) := Lib.hid (HN1.out (fun h => by have := (HALL.out.1 h).1; cases this))
                      go_wp2
                      go_ret2
                      exact ⟨by rw [HE.out]; rfl, HO11.out.tail.tail.tail⟩
                    | false =>
                      cases r2 with
                      | false =>
                        have HE : Hid (o = none) := Lib.hid (HN1.out (fun h => by have := (HALL.out.1 h).2.1; cases this))
                        simp only [Bool.not_false] at b2'
                        go_wp2
                        go_ret2
                        exact ⟨by rw [HE.out]; rfl, HO11.out.tail.tail.tail⟩
                      | true =>
                        simp only [Bool.not_true] at b2'
                        go_wp2_with fail
                        with_reducible refine (V1.out _).mono ?_
                        rintro e wq ⟨rfl, hww⟩
                        subst hww
                        cases r3 with
                        | false =>
                          have HE : Hid (o = none) := Lib.hid (HN1.out (fun h => by have := (HALL.out.1 h).2.2.1; cases this))
                          go_wp2
                          go_ret2
                          exact ⟨by rw [HE.out]; rfl, HO11.out.tail.tail.tail⟩
                        | true =>
                          go_wp2_with fail
                          with_reducible refine (V2.out _).mono ?_
                          rintro e wq ⟨rfl, hww⟩
                          subst hww
                          cases r4 with
                          | false =>
                            have HE : Hid (o = none) := Lib.hid (HN1.out (fun h => by have := (HALL.out.1 h).2.2.2; cases this))
                            go_wp2
                            go_ret2
                            exact ⟨by rw [HE.out]; rfl, HO11.out.tail.tail.tail⟩
                          | true =>
                            have hq : q ++ (x ++ ⟨#[58, 32]⟩ ++ y ++ ⟨#[13, 10]⟩) = strOfNums (topA (sb m) uu ++ headsP ((hl hs).take (k + 1))) := by
                              rw [HTK.out, headsP_app, ← List.append_assoc, strs_app, ← HS.out.1]
                              congr 1
                              unfold headsP headP
                              simp only [List.flatMap_cons, List.flatMap_nil, List.append_nil, strs_app, str_sb, ByteArray.append_assoc]
                              rfl
                            have hok : ∀ h ∈ (hl hs).take (k + 1), HeadA h := by
                              rw [HTK.out]
                              intro h hm2
                              rcases List.mem_append.1 hm2 with hm2 | hm2
                              · exact HS.out.2 h hm2
                              · rw [List.mem_singleton.1 hm2]; exact HALL.out.2 (by simp)
                            have HQ := Lib.hid hq; have HOK := Lib.hid hok
                            clear hq hok
                            go_wp2
                            go_roundw
                            case rel => exact ⟨k + 1, _, by omega, rfl, by go_num, Lib.hid ⟨by rw [← HQ.out], HOK.out⟩, Lib.hid HO11.out.tail⟩
                            case measure => simp [intOf]; omega
                  · have hkn : ¬ (k : Int) < n := by omega
                    have hta : (hl hs).take k = hl hs := List.take_of_length_le (by unfold hl; rw [List.length_map, HN.out]; omega)
                    have hS2 := HS.out
                    rw [hta] at hS2 hqs
                    have hok : AskOk (aL m u hs body) uu := ⟨HPU.out, HMETH.out, hS2.2⟩
                    have HE := Lib.hid (HSOME.out hok)
                    have k3 : wr.cell? ⟨g1, 3, none⟩ = some (.string body) := HO8.out.cell (.tail _ (.head _)) 3
                    have bb := beq_lit8 body [] [] rfl
                    have hq1 := hS2.1
                    have HQ1 := Lib.hid hq1
                    by_cases hbe : sb body = []
                    · rw [decide_eq_true hbe] at bb
                      have bb' : (body.toList != []) = false := by unfold bne; rw [bb]; rfl
                      have HT : Hid (q ++ ⟨#[13, 10]⟩ ++ body = strOfNums (textA (aL m u hs body) uu)) := Lib.hid (by
                        rw [HQ1.out]
                        unfold textA aL lenT
                        simp only
                        rw [if_pos hbe, List.nil_append, ← List.append_assoc, strs_app _ (13 :: 10 :: sb body), show (13 : Int) :: 10 :: sb body = [13, 10] ++ sb body from rfl, strs_app [13, 10], str_sb, ByteArray.append_assoc]
                        rfl)
                      have n1 : ¬ (9223372036854775807 < q.size + 2) := by omega
                      have n2 : ¬ (9223372036854775807 < q.size + 2 + body.size) := by omega
                      clear hta hS2 hok hq1 hbe
                      go_wp2
                      go_ret2
                      exact ⟨by rw [HE.out]; show Ending.returned (.tuple #[.string (q ++ ⟨#[13, 10]⟩ ++ body), .bool true]) = _; rw [HT.out]; rfl, HO8.out.tail.tail⟩
                    · rw [decide_eq_false hbe] at bb
                      have bb' : (body.toList != []) = true := by unfold bne; rw [bb]; rfl
                      have hdl : (strOfNums (digs body.size)).size ≤ 21 := by rw [strOfNums_size]; exact (digs_len _).2
                      have HT : Hid (q ++ (⟨#[67, 111, 110, 116, 101, 110, 116, 45, 76, 101, 110, 103, 116, 104, 58, 32]⟩ ++ strOfNums (digs body.size) ++ ⟨#[13, 10]⟩) ++ ⟨#[13, 10]⟩ ++ body = strOfNums (textA (aL m u hs body) uu)) := Lib.hid (by
                        rw [HQ1.out]
                        unfold textA aL lenT
                        simp only
                        rw [if_neg hbe, ← List.append_assoc, strs_app _ (headP _ ++ _), length_sb]
                        unfold headP
                        simp only
                        rw [show (13 : Int) :: 10 :: sb body = [13, 10] ++ sb body from rfl]
                        simp only [strs_app, str_sb, ByteArray.append_assoc]
                        rfl)
                      clear hta hS2 hok hq1 hbe
                      go_wp2_with fail
                      have hdg := fun w : World => digits_c body.size (by omega) w
                      generalize strOfNums (digs body.size) = ds at *
                      have n1 : ¬ (9223372036854775807 < 16 + ds.size) := by omega
                      have n2 : ¬ (9223372036854775807 < 16 + ds.size + 2) := by omega
                      have n3 : ¬ (9223372036854775807 < q.size + (16 + ds.size + 2)) := by omega
                      have n4 : ¬ (9223372036854775807 < q.size + (16 + ds.size + 2) + 2) := by omega
                      have n5 : ¬ (9223372036854775807 < q.size + (16 + ds.size + 2) + 2 + body.size) := by omega
                      with_reducible refine (hdg _).mono ?_
                      rintro e w6 ⟨rfl, qq, hww⟩
                      have HO9 := Lib.hid (HO8.out.drewN qq); rw [← hww] at HO9; clear hww HO8 hdg k3
                      have k3 : w6.cell? ⟨g1, 3, none⟩ = some (.string body) := HO9.out.cell (.tail _ (.head _)) 3
                      go_wp2
                      go_ret2
                      exact ⟨by rw [HE.out]; show Ending.returned (.tuple #[.string (q ++ (⟨#[67, 111, 110, 116, 101, 110, 116, 45, 76, 101, 110, 103, 116, 104, 58, 32]⟩ ++ ds ++ ⟨#[13, 10]⟩) ++ ⟨#[13, 10]⟩ ++ body), .bool true]) = _; rw [HT.out]; rfl, HO9.out.tail.tail⟩
end Go.Proofs.YtlcolabblpikjaaGreatDoor
