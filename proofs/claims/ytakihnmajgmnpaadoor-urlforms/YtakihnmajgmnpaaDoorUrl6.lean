/-
  The document's own Join of URLs; what a parsed URL is like.
-/
import Derived.Test.YtakihnmajgmnpaaDoorUrl5
namespace Go.Proofs.YtakihnmajgmnpaaDoor
set_option linter.unusedVariables false
set_option linter.unusedSimpArgs false
set_option maxRecDepth 20000
open Go.RowKit

/-- A URL whose parts are short, and bytes. -/
structure UL.Fine (u : UL) : Prop where
  sch : u.sch = httpI ∨ u.sch = httpsI
  host : HostOk u.host
  hostB : Byt u.host
  pathB : Byt u.path
  queryB : Byt u.query
  port0 : 0 ≤ u.port
  port1 : u.port < 100000
  short : (printI u).length ≤ 40
theorem UL.Fine.schB {u : UL} (h : u.Fine) : Byt u.sch := by rcases h.sch with e | e <;> rw [e]; exact http_byt; exact https_byt
theorem UL.Fine.schl {u : UL} (h : u.Fine) : u.sch.length ≤ 5 := by rcases h.sch with e | e <;> rw [e] <;> decide
theorem UL.Fine.orig {u : UL} (h : u.Fine) : (originI u).length ≤ 40 := by have := h.short; unfold printI at this; simp only [List.length_append] at this; omega
theorem UL.Fine.lens {u : UL} (h : u.Fine) : u.path.length ≤ 40 ∧ u.query.length ≤ 40 := by have := h.short; unfold printI at this; simp only [List.length_append] at this; omega
theorem UL.Fine.ok {u : UL} (h : u.Fine) : u.Ok := ⟨by have := h.schl; omega, by have := h.host.2.1; omega, by have := h.lens; omega, by have := h.lens; omega, h.port0, by have := h.port1; omega⟩
theorem originI_byt {u : UL} (h : u.Fine) : Byt (originI u) := by
  unfold originI
  refine byt_append (byt_append (byt_append h.schB ?_) h.hostB) ?_
  · intro x hx; simp at hx; omega
  · split
    · intro x hx
      rcases List.mem_cons.1 hx with rfl | hx
      · omega
      · exact digs_byt _ x hx
    · intro x hx; cases hx
theorem pctE_byt' (l : List Int) : Byt (pctE l) := fun x hx => by have := pctE_plain l x hx; omega
theorem dotStep_byt {st : List (List Int)} {p : List Int} {last : Bool} (h : ∀ q ∈ st, Byt q) : ∀ q ∈ dotStep st p last, Byt q := by
  intro q hq
  unfold dotStep at hq
  split at hq
  · simp only [] at hq
    have hst : ∀ q ∈ (if p = [46, 46] then st.dropLast else st), Byt q := by
      intro q hq
      split at hq
      · exact h q ((List.dropLast_sublist _).subset hq)
      · exact h q hq
    split at hq
    · rcases List.mem_append.1 hq with hq | hq
      · exact hst q hq
      · rw [List.mem_singleton] at hq; subst hq; intro x hx; cases hx
    · exact hst q hq
  · rcases List.mem_append.1 hq with hq | hq
    · exact h q hq
    · rw [List.mem_singleton] at hq; subst hq; exact pctE_byt' p
theorem dotGo_byt : ∀ (ps st : List (List Int)), (∀ q ∈ st, Byt q) → ∀ q ∈ dotGo st ps, Byt q
  | [], st, h => h
  | [p], st, h => dotStep_byt h
  | p :: q :: r, st, h => dotGo_byt (q :: r) _ (dotStep_byt h)
theorem dotsI_byt (l : List Int) : Byt (dotsI l) := by
  intro x hx
  unfold dotsI slashed at hx
  rw [List.mem_flatMap] at hx
  obtain ⟨p, hp, hx⟩ := hx
  rcases List.mem_cons.1 hx with rfl | hx
  · omega
  · exact dotGo_byt _ [] (by simp) p hp x hx
theorem queryI_byt (q : List Int) : Byt (queryI q) := by
  unfold queryI
  split
  · intro x hx
    rcases List.mem_cons.1 hx with rfl | hx
    · omega
    · exact pctE_byt' _ x hx
  · intro x hx; cases hx
theorem ahead_sub (st l : List Int) : (ahead st l).Sublist l := List.takeWhile_sublist _
/-- What is parsed is fine. -/
theorem parseI_fine {l : List Int} (hB : Byt l) {u : UL} (h : parseI l = some u) : u.Fine := by
  unfold parseI at h
  rw [Option.bind_eq_some_iff] at h
  obtain ⟨⟨sch, r⟩, hs, h⟩ := h
  have hsr := schemeI_is hs
  have hrB : Byt r := by
    have ht : Byt (trimI l) := fun x hx => hB x ((trimI_sub l).subset hx)
    rcases hsr with ⟨_, rfl⟩ | ⟨_, rfl⟩ <;> exact byt_drop ht _
  unfold hostI at h
  simp only at h
  split at h
  · rename_i hho
    rw [Option.bind_eq_some_iff] at h
    obtain ⟨⟨port, rest2⟩, hp, h⟩ := h
    simp only at h
    have hpr : 0 ≤ port ∧ port < 100000 := by
      unfold portI at hp
      split at hp
      · rw [Option.bind_eq_some_iff] at hp
        obtain ⟨n, hn, hp⟩ := hp
        have hr := figI_range hn
        split at hp
        · cases hp
        · cases hp
          split <;> omega
      · cases hp; omega
    unfold restI at h
    simp only at h
    split at h
    · cases h
    · rename_i h40
      cases h
      refine ⟨?_, hho, lowL_byt (ahead_byt hrB), dotsI_byt _, queryI_byt _, hpr.1, hpr.2, by omega⟩
      rcases hsr with ⟨e, _⟩ | ⟨e, _⟩
      · exact .inl e
      · exact .inr e
  · cases h
set_option maxHeartbeats 8000000 in
theorem rjoin_c {w0 w : World} {R : Blks} (hO : Own w0 w R) (u : UL) (hu : u.Fine) (s : ByteArray) (hs : s.size ≤ 4000000) :
    Calls Tryd.prog 20 #[.agg u.val.toArray, .string s] w (GotU w0 R (joinI u (sb s))) := by
  have HO := Lib.hid hO
  obtain ⟨T, hT⟩ : ∃ T, trimI (sb s) = T := ⟨_, rfl⟩
  have htrim : ∀ w' : World, _ := fun w' => rtrim_c (w := w') s (by omega)
  have hTB : Byt T := by rw [← hT]; exact fun x hx => byt_sb s x ((trimI_sub _).subset hx)
  have hTl : T.length ≤ 4000000 := by rw [← hT]; have := (trimI_sub (sb s)).length_le; rw [length_sb] at this; omega
  have hres : joinI u (sb s) = if begI [47, 47] T then parseI (u.sch ++ [58] ++ T) else if begI [47] T then parseI (originI u ++ T) else parseI T := by unfold joinI; rw [hT]
  rw [hT] at htrim
  obtain ⟨res, hre⟩ : ∃ res, joinI u (sb s) = res := ⟨_, rfl⟩
  rw [hre]
  rw [hre] at hres
  clear hre
  have hb1 : ∀ w' : World, _ := fun w' => begins_c (w := w') (strOfNums T) ⟨#[47, 47]⟩ (by rw [strOfNums_size]; omega) (by decide)
  have hb2 : ∀ w' : World, _ := fun w' => begins_c (w := w') (strOfNums T) ⟨#[47]⟩ (by rw [strOfNums_size]; omega) (by decide)
  have e1 : sb ⟨#[47, 47]⟩ = [47, 47] := by decide +kernel
  have e2 : sb ⟨#[47]⟩ = [47] := by decide +kernel
  rw [e1, sb_str hTB] at hb1
  rw [e2, sb_str hTB] at hb2
  have hor : ∀ (w' : World) (R' : Blks), Own w0 w' R' → _ := fun w' R' h => rorigin_c h u hu.ok
  have hp1 : ∀ (w' : World) (R' : Blks), Own w0 w' R' → _ := fun w' R' h => rparse_c h (strOfNums (u.sch ++ [58] ++ T)) (by rw [strOfNums_size]; have := hu.schl; simp; omega)
  have hp2 : ∀ (w' : World) (R' : Blks), Own w0 w' R' → _ := fun w' R' h => rparse_c h (strOfNums (originI u ++ T)) (by rw [strOfNums_size]; have := hu.orig; simp; omega)
  have hp3 : ∀ (w' : World) (R' : Blks), Own w0 w' R' → _ := fun w' R' h => rparse_c h (strOfNums T) (by rw [strOfNums_size]; omega)
  have hb58 : Byt [58] := by intro x hx; simp at hx; omega
  rw [sb_str (byt_append (byt_append hu.schB hb58) hTB)] at hp1
  rw [sb_str (byt_append (originI_byt hu) hTB)] at hp2
  rw [sb_str hTB] at hp3
  have k1 : strOfNums (u.sch ++ [58] ++ T) = strOfNums u.sch ++ ⟨#[58]⟩ ++ strOfNums T := by rw [strs_app, strs_app]; rfl
  have k2 : strOfNums (originI u ++ T) = strOfNums (originI u) ++ strOfNums T := strs_app _ _
  rw [k1] at hp1
  rw [k2] at hp2
  have z1 : (strOfNums u.sch).size ≤ 5 := by rw [strOfNums_size]; exact hu.schl
  have z2 : (strOfNums T).size ≤ 4000000 := by rw [strOfNums_size]; exact hTl
  have z3 : (strOfNums (originI u)).size ≤ 40 := by rw [strOfNums_size]; exact hu.orig
  have n1 : ¬ (9223372036854775807 < (strOfNums u.sch).size + 1) := by omega
  have n2 : ¬ (9223372036854775807 < (strOfNums u.sch).size + 1 + (strOfNums T).size) := by omega
  have n3 : ¬ (9223372036854775807 < (strOfNums (originI u)).size + (strOfNums T).size) := by omega
  generalize parseI (u.sch ++ [58] ++ T) = q1 at *
  generalize parseI (originI u ++ T) = q2 at *
  generalize parseI T = q3 at *
  generalize begI [47, 47] T = b1 at *
  generalize begI [47] T = b2 at *
  unfold UL.val at *
  generalize strOfNums (originI u) = t0 at *
  generalize strOfNums u.sch = t1 at *
  generalize strOfNums u.host = t2 at *
  generalize strOfNums u.path = t4 at *
  generalize strOfNums u.query = t5 at *
  generalize u.port = p at *
  generalize strOfNums T = Z at *
  have HRES0 := Lib.hid hres; have HTR := Lib.hid htrim; have HB1 := Lib.hid hb1; have HB2 := Lib.hid hb2; have HOR := Lib.hid hor; have HP1 := Lib.hid hp1; have HP2 := Lib.hid hp2; have HP3 := Lib.hid hp3
  clear hO hT htrim hTB hTl hres hb1 hb2 e1 e2 hor hp1 hp2 hp3 hb58 k1 k2 z1 z2 z3 hu
  go_enter Tryd.func20, Tryd.ntmps20
  go_wp2_with (first | (refine wl_box rfl _ _ rfl HO.out _ (by rfl) ?_; intro g w1 hO1; have HO1 := Lib.hid hO1; clear hO1 HO) | (refine wl_alloc rfl _ rfl HO1.out _ (alloc_rurl _) ?_; intro g4 w2 hO2; have HO2 := Lib.hid hO2; clear hO2 HO1))
  with_reducible refine (HTR.out _).mono ?_
  rintro e w3 ⟨rfl, rfl⟩
  go_wp2_with fail
  with_reducible refine (HB1.out _).mono ?_
  rintro e w4 ⟨rfl, rfl⟩
  cases b1 with
  | true =>
    have HRES := Lib.hid (by rw [HRES0.out, if_pos rfl] : res = q1)
    have c0 : w2.cell? ⟨g, 0, none⟩ = some (.string t1) := by rw [HO2.out.cell (.tail _ (.head _))]; rfl
    clear HRES0
    go_wp2_with fail
    with_reducible refine (HP1.out _ _ HO2.out).mono ?_
    rintro e w5 ⟨rfl, hO5⟩
    have HO5 := Lib.hid hO5
    clear hO5 HO2 c0
    obtain ⟨v, hv⟩ : ∃ v, q1.getD UL.zero = v := ⟨_, rfl⟩
    obtain ⟨k, hk⟩ : ∃ k, q1.isSome = k := ⟨_, rfl⟩
    rw [hv, hk]
    have HV := Lib.hid hv; have HK := Lib.hid hk
    clear hv hk
    obtain ⟨v1, v2, v3, v4, v5⟩ := v
    go_wp2_with (refine wl_store rfl _ _ _ rfl HO5.out 0 g4 0 _ (UL.mk v1 v2 v3 v4 v5).val _ rfl (by rfl) (by rfl) rurl_size (one_url _) (by simp [UL.val, UL.zero]) ?_; intro w6 hO6; have HO6 := Lib.hid (hO6.cast (L' := (g4, .cells (UL.mk v1 v2 v3 v4 v5).val.toArray 42) :: (g, .cells [Value.string t1, Value.string t2, Value.int .i64 p, Value.string t4, Value.string t5].toArray 42) :: R) rfl); clear hO6 HO5)
    have hr0 : w6.cell? ⟨g4, 0, none⟩ = some (.string (strOfNums v1)) := by rw [HO6.out.cell (.head _)]; rfl
    have hr1 : w6.cell? ⟨g4, 1, none⟩ = some (.string (strOfNums v2)) := by rw [HO6.out.cell (.head _)]; rfl
    have hr2 : w6.cell? ⟨g4, 2, none⟩ = some (.int .i64 v3) := by rw [HO6.out.cell (.head _)]; rfl
    have hr3 : w6.cell? ⟨g4, 3, none⟩ = some (.string (strOfNums v4)) := by rw [HO6.out.cell (.head _)]; rfl
    have hr4 : w6.cell? ⟨g4, 4, none⟩ = some (.string (strOfNums v5)) := by rw [HO6.out.cell (.head _)]; rfl
    exact bodyPost_ret (v := .tuple #[.agg #[.string (strOfNums v1), .string (strOfNums v2), .int .i64 v3, .string (strOfNums v4), .string (strOfNums v5)], .bool k]) (by simp [results, Tryd.results20, go_sem, hr0, hr1, hr2, hr3, hr4]) rfl ⟨by rw [HRES.out, HV.out, HK.out]; rfl, HO6.out.tail.tail⟩
  | false =>
    go_wp2_with fail
    with_reducible refine (HB2.out _).mono ?_
    rintro e w5 ⟨rfl, rfl⟩
    cases b2 with
    | true =>
      have HRES := Lib.hid (by rw [HRES0.out, if_neg (by simp), if_pos rfl] : res = q2)
      clear HRES0
      go_wp2_with (refine wl_load rfl _ _ rfl g 0 [Value.string t1, Value.string t2, Value.int .i64 p, Value.string t4, Value.string t5] [Value.string t1, Value.string t2, Value.int .i64 p, Value.string t4, Value.string t5] _ (HO2.out.heap (.tail _ (.head _))) (by rfl) _ Tryd.underlying42 rfl rurl_size (by rfl) ?_)
      with_reducible refine (HOR.out _ _ HO2.out).mono ?_
      rintro e w6 ⟨rfl, hO6⟩
      have HO6 := Lib.hid hO6
      clear hO6 HO2
      go_wp2_with fail
      with_reducible refine (HP2.out _ _ HO6.out).mono ?_
      rintro e w7 ⟨rfl, hO7⟩
      have HO7 := Lib.hid hO7
      clear hO7 HO6
      obtain ⟨v, hv⟩ : ∃ v, q2.getD UL.zero = v := ⟨_, rfl⟩
      obtain ⟨k, hk⟩ : ∃ k, q2.isSome = k := ⟨_, rfl⟩
      rw [hv, hk]
      have HV := Lib.hid hv; have HK := Lib.hid hk
      clear hv hk
      obtain ⟨v1, v2, v3, v4, v5⟩ := v
      go_wp2_with (refine wl_store rfl _ _ _ rfl HO7.out 0 g4 0 _ (UL.mk v1 v2 v3 v4 v5).val _ rfl (by rfl) (by rfl) rurl_size (one_url _) (by simp [UL.val, UL.zero]) ?_; intro w8 hO8; have HO8 := Lib.hid (hO8.cast (L' := (g4, .cells (UL.mk v1 v2 v3 v4 v5).val.toArray 42) :: (g, .cells [Value.string t1, Value.string t2, Value.int .i64 p, Value.string t4, Value.string t5].toArray 42) :: R) rfl); clear hO8 HO7)
      have hr0 : w8.cell? ⟨g4, 0, none⟩ = some (.string (strOfNums v1)) := by rw [HO8.out.cell (.head _)]; rfl
      have hr1 : w8.cell? ⟨g4, 1, none⟩ = some (.string (strOfNums v2)) := by rw [HO8.out.cell (.head _)]; rfl
      have hr2 : w8.cell? ⟨g4, 2, none⟩ = some (.int .i64 v3) := by rw [HO8.out.cell (.head _)]; rfl
      have hr3 : w8.cell? ⟨g4, 3, none⟩ = some (.string (strOfNums v4)) := by rw [HO8.out.cell (.head _)]; rfl
      have hr4 : w8.cell? ⟨g4, 4, none⟩ = some (.string (strOfNums v5)) := by rw [HO8.out.cell (.head _)]; rfl
      exact bodyPost_ret (v := .tuple #[.agg #[.string (strOfNums v1), .string (strOfNums v2), .int .i64 v3, .string (strOfNums v4), .string (strOfNums v5)], .bool k]) (by simp [results, Tryd.results20, go_sem, hr0, hr1, hr2, hr3, hr4]) rfl ⟨by rw [HRES.out, HV.out, HK.out]; rfl, HO8.out.tail.tail⟩
    | false =>
      have HRES := Lib.hid (by rw [HRES0.out, if_neg (by simp), if_neg (by simp)] : res = q3)
      clear HRES0
      go_wp2_with fail
      with_reducible refine (HP3.out _ _ HO2.out).mono ?_
      rintro e w7 ⟨rfl, hO7⟩
      have HO7 := Lib.hid hO7
      clear hO7 HO2
      obtain ⟨v, hv⟩ : ∃ v, q3.getD UL.zero = v := ⟨_, rfl⟩
      obtain ⟨k, hk⟩ : ∃ k, q3.isSome = k := ⟨_, rfl⟩
      rw [hv, hk]
      have HV := Lib.hid hv; have HK := Lib.hid hk
      clear hv hk
      obtain ⟨v1, v2, v3, v4, v5⟩ := v
      go_wp2_with (refine wl_store rfl _ _ _ rfl HO7.out 0 g4 0 _ (UL.mk v1 v2 v3 v4 v5).val _ rfl (by rfl) (by rfl) rurl_size (one_url _) (by simp [UL.val, UL.zero]) ?_; intro w8 hO8; have HO8 := Lib.hid (hO8.cast (L' := (g4, .cells (UL.mk v1 v2 v3 v4 v5).val.toArray 42) :: (g, .cells [Value.string t1, Value.string t2, Value.int .i64 p, Value.string t4, Value.string t5].toArray 42) :: R) rfl); clear hO8 HO7)
      have hr0 : w8.cell? ⟨g4, 0, none⟩ = some (.string (strOfNums v1)) := by rw [HO8.out.cell (.head _)]; rfl
      have hr1 : w8.cell? ⟨g4, 1, none⟩ = some (.string (strOfNums v2)) := by rw [HO8.out.cell (.head _)]; rfl
      have hr2 : w8.cell? ⟨g4, 2, none⟩ = some (.int .i64 v3) := by rw [HO8.out.cell (.head _)]; rfl
      have hr3 : w8.cell? ⟨g4, 3, none⟩ = some (.string (strOfNums v4)) := by rw [HO8.out.cell (.head _)]; rfl
      have hr4 : w8.cell? ⟨g4, 4, none⟩ = some (.string (strOfNums v5)) := by rw [HO8.out.cell (.head _)]; rfl
      exact bodyPost_ret (v := .tuple #[.agg #[.string (strOfNums v1), .string (strOfNums v2), .int .i64 v3, .string (strOfNums v4), .string (strOfNums v5)], .bool k]) (by simp [results, Tryd.results20, go_sem, hr0, hr1, hr2, hr3, hr4]) rfl ⟨by rw [HRES.out, HV.out, HK.out]; rfl, HO8.out.tail.tail⟩
end Go.Proofs.YtakihnmajgmnpaaDoor
