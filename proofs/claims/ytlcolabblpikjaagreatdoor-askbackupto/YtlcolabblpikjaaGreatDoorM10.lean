/-
  Texts that the laws stand on: Ask3.
-/
import Derived.Test.YtlcolabblpikjaaGreatDoorM9

/-
  The document's own ParseAsk, in plain Go.
-/
namespace Go.Proofs.YtlcolabblpikjaaGreatDoor
set_option linter.unusedVariables false
set_option linter.unusedSimpArgs false
set_option maxRecDepth 20000
open Go.RowKit

def AL.zero : AL := ⟨[], [], [], []⟩
/-- What Parse answers, the program's and the document's. -/
def GotAsk (w0 : World) (R : Blks) (o : Option AL) (yes no : Value) (e : Ending) (w' : World) : Prop :=
  ∃ v L, e = .returned (.tuple #[.agg (av (strOfNums (o.getD AL.zero).m) (strOfNums (o.getD AL.zero).u) v (strOfNums (o.getD AL.zero).body)).toArray, if o.isSome then yes else no]) ∧ IsHeads v ((o.getD AL.zero).hs.map toB) L ∧ Own w0 w' (L ++ R)
theorem hl_toB {hs : HL} (h : ∀ x ∈ hs, Byt x.1 ∧ Byt x.2) : hl (hs.map toB) = hs := by
  unfold hl
  rw [List.map_map]
  conv => rhs; rw [← List.map_id hs]
  refine List.map_congr_left (fun x hx => ?_)
  obtain ⟨h1, h2⟩ := h x hx
  obtain ⟨a, b⟩ := x
  simp only [Function.comp, toB, id]
  rw [sb_str h1, sb_str h2]
theorem aL_str {a : AL} (h1 : Byt a.m) (h2 : Byt a.u) (h3 : ∀ x ∈ a.hs, Byt x.1 ∧ Byt x.2) (h4 : Byt a.body) : aL (strOfNums a.m) (strOfNums a.u) (a.hs.map toB) (strOfNums a.body) = a := by
  unfold aL
  rw [sb_str h1, sb_str h2, hl_toB h3, sb_str h4]
set_option maxHeartbeats 1000000 in
theorem ends_c {w : World} (s p : ByteArray) (hs : s.size ≤ 1073741824) (hp : p.size ≤ 1073741824) : Calls Tryz.prog 31 #[.string s, .string p] w fun e w' => e = .returned (.bool (endI (sb p) (sb s))) ∧ w = w' := by
  by_cases h : p.size ≤ s.size
  · have h' : (p.size : Int) ≤ s.size := by omega
    have hw : IntKind.i64.wrap ((s.size : Int) - p.size) = (s.size : Int) - p.size := IntWalk.i64_in _ (by omega)
    have hto : ((s.size : Int) - p.size).toNat = s.size - p.size := by omega
    have h0 : (0 : Int) ≤ (s.size : Int) - p.size := by omega
    have h1 : (s.size : Int) - p.size ≤ s.size := by omega
    have hb : ((s.extract (s.size - p.size) s.size).toList == p.toList) = endI (sb p) (sb s) := by
      rw [beq_sb, sb_from]
      unfold endI
      rw [length_sb, length_sb, decide_eq_true h, Bool.true_and]
    generalize endI (sb p) (sb s) = b at *
    go_enter Tryz.func31, Tryz.ntmps31
    go_wp2
    go_ret
    exact ⟨rfl, rfl⟩
  · have h' : ¬ ((p.size : Int) ≤ s.size) := by omega
    have e : endI (sb p) (sb s) = false := by
      unfold endI
      rw [length_sb, length_sb, decide_eq_false h, Bool.false_and]
    rw [e]
    go_enter Tryz.func31, Tryz.ntmps31
    go_wp2
    go_ret
    exact ⟨rfl, rfl⟩
theorem ends_l {w : World} {l : List Int} (hB : Byt l) (h : l.length ≤ 1073741824) : Calls Tryz.prog 31 #[.string (strOfNums l), .string ⟨#[32, 72, 84, 84, 80, 47, 49, 46, 49]⟩] w fun e w' => e = .returned (.bool (endI http11 l)) ∧ w = w' := by
  have := ends_c (w := w) (strOfNums l) ⟨#[32, 72, 84, 84, 80, 47, 49, 46, 49]⟩ (strs_size h) (by decide)
  rwa [sb_str hB, show sb ⟨#[32, 72, 84, 84, 80, 47, 49, 46, 49]⟩ = http11 from rfl] at this
theorem begh_l {w : World} {l : List Int} (hB : Byt l) (h : l.length ≤ 1073741824) : Calls Tryz.prog 32 #[.string (strOfNums l), .string ⟨#[72, 111, 115, 116, 58, 32]⟩] w fun e w' => e = .returned (.bool (begI hostW l)) ∧ w = w' := by
  have := begins_c (w := w) (strOfNums l) ⟨#[72, 111, 115, 116, 58, 32]⟩ (strs_size h) (by decide)
  rwa [sb_str hB, show sb ⟨#[72, 111, 115, 116, 58, 32]⟩ = hostW from rfl] at this
theorem begs_l {w : World} {l : List Int} (hB : Byt l) (h : l.length ≤ 1073741824) : Calls Tryz.prog 32 #[.string (strOfNums l), .string ⟨#[83, 99, 104, 101, 109, 101, 58, 32]⟩] w fun e w' => e = .returned (.bool (begI schemeW l)) ∧ w = w' := by
  have := begins_c (w := w) (strOfNums l) ⟨#[83, 99, 104, 101, 109, 101, 58, 32]⟩ (strs_size h) (by decide)
  rwa [sb_str hB, show sb ⟨#[83, 99, 104, 101, 109, 101, 58, 32]⟩ = schemeW from rfl] at this
theorem headA_len {p n v : List Int} (hB : Byt p) (h : headA p = some (n, v)) : (headP (n, v)).length = p.length + 2 ∧ Byt n ∧ Byt v := by
  unfold headA at h
  split at h
  · rename_i hc
    cases h
    have e : ahead [58] p ++ behind [58] p = p := List.takeWhile_append_dropWhile
    have el := congrArg List.length e
    rw [List.length_append] at el
    refine ⟨?_, ahead_byt hB, byt_drop (behind_byt hB) 2⟩
    simp only [headP, List.length_append, List.length_cons, List.length_nil, List.length_drop]
    omega
  · cases h
theorem headsP_count (l : HL) : l.length ≤ (headsP l).length := by
  induction l with
  | nil => simp
  | cons h t ih => simp only [headsP, List.flatMap_cons, List.length_append, List.length_cons, headP, List.length_nil] at ih ⊢; omega
theorem lastA_len (hs : HL) (b : List Int) : (headsP (lastA (hs, b))).length ≤ (headsP hs).length := by
  unfold lastA
  simp only
  split
  · exact Nat.le_refl _
  · rw [List.dropLast_eq_take]; exact headsP_take_len _ _
theorem lastA_sub (hs : HL) (b : List Int) : ∀ x ∈ lastA (hs, b), x ∈ hs := by
  unfold lastA
  simp only
  split
  · exact fun x hx => hx
  · exact fun x hx => (List.dropLast_sublist _).subset hx
theorem textA_byt {a : AL} {u : UL} (h1 : Byt a.m) (h2 : u.Norm) (h3 : ∀ x ∈ a.hs, Byt x.1 ∧ Byt x.2) (h4 : Byt a.body) : Byt (textA a u) := by
  have hasc := printI_ascii h2
  rw [printI_parts] at hasc
  simp only [List.mem_append] at hasc
  have hk : ∀ (l : List Int), (∀ x ∈ l, 33 ≤ x ∧ x ≤ 126) → Byt l := fun l h x hx => by have := h x hx; omega
  have hc : ∀ (x : Int), Byt (x :: []) ↔ (0 ≤ x ∧ x ≤ 255) := fun x => ⟨fun h => h x (.head _), fun h y hy => by rw [List.mem_singleton.1 hy]; exact h⟩
  have hp : ∀ (h : List Int × List Int), Byt h.1 ∧ Byt h.2 → Byt (headP h) := fun h hh => by
    unfold headP
    refine byt_append hh.1 (byt_append (by intro x hx; simp at hx; omega) (byt_append hh.2 (by intro x hx; simp at hx; omega)))
  unfold textA topA
  have e : ∀ (a b : Int) (l : List Int), a :: b :: l = [a, b] ++ l := fun _ _ _ => rfl
  have hcr : Byt ([13, 10] : List Int) := by intro x hx; simp at hx; omega
  have b1 : Byt http11 := by intro x hx; simp [http11] at hx; omega
  have b2 : Byt hostW := by intro x hx; simp [hostW] at hx; omega
  have b3 : Byt schemeW := by intro x hx; simp [schemeW] at hx; omega
  have b4 : Byt clW := by intro x hx; simp [clW] at hx; omega
  have b5 : Byt ([32] : List Int) := by intro x hx; simp at hx; omega
  have q1 : Byt u.sch := hk _ fun x hx => hasc x (.inl hx)
  have q2 : Byt u.host := hk _ fun x hx => hasc x (.inr (.inr (.inl hx)))
  have q3 : Byt (portT u) := hk _ fun x hx => hasc x (.inr (.inr (.inr (.inl hx))))
  have q4 : Byt u.path := hk _ fun x hx => hasc x (.inr (.inr (.inr (.inr (.inl hx)))))
  have q5 : Byt u.query := hk _ fun x hx => hasc x (.inr (.inr (.inr (.inr (.inr hx)))))
  have z1 : Byt (u.sch ++ ([13, 10] : List Int)) := byt_append q1 hcr
  have z2 : Byt (13 :: 10 :: (schemeW ++ (u.sch ++ [13, 10]))) := byt_append hcr (byt_append b3 z1)
  have z3 : Byt (13 :: 10 :: (hostW ++ (u.host ++ (portT u ++ (13 :: 10 :: (schemeW ++ (u.sch ++ [13, 10]))))))) := byt_append hcr (byt_append b2 (byt_append q2 (byt_append q3 z2)))
  have z4 : Byt (32 :: (u.path ++ (u.query ++ (http11 ++ (13 :: 10 :: (hostW ++ (u.host ++ (portT u ++ (13 :: 10 :: (schemeW ++ (u.sch ++ [13, 10]))))))))))) := byt_append b5 (byt_append q4 (byt_append q5 (byt_append b1 z3)))
  have z5 : Byt (headsP a.hs) := by
    intro x hx
    unfold headsP at hx
    obtain ⟨h, hh, hx⟩ := List.mem_flatMap.1 hx
    exact hp h (h3 h hh) x hx
  have z6 : Byt (lenT a.body) := by
    unfold lenT
    split
    · intro x hx; cases hx
    · exact hp _ ⟨b4, digs_byt _⟩
  have z7 : Byt (13 :: 10 :: a.body) := byt_append hcr h4
  exact byt_append (byt_append h1 z4) (byt_append z5 (byt_append z6 z7))
theorem askP_byt {a : AL} {t : List Int} (h1 : Byt a.m) (h2 : Byt a.u) (h3 : ∀ x ∈ a.hs, Byt x.1 ∧ Byt x.2) (h4 : Byt a.body) (h : askP a = some t) : Byt t := by
  unfold askP at h
  rw [Option.bind_eq_some_iff] at h
  obtain ⟨u, hp, h⟩ := h
  split at h
  · cases h; exact textA_byt h1 (parseI_norm h2 hp) h3 h4
  · cases h
def MidP (w0 : World) (R : Blks) (g2 g11 : Nat) (mS uS bS : ByteArray) (hs : HL) (s11 : Value) (wx : World) : Prop :=
  s11 = .pointer (some ⟨g11, 0, none⟩) ∧ ∃ (A : Option Addr) (m c : Nat) (L : Blks), IsHeads (.slice A m c) (hs.map toB) L ∧ Own w0 wx ((g11, .cells (av mS uS (.slice A m c) bS).toArray 31) :: (g2, .cells (av ⟨#[]⟩ ⟨#[]⟩ (.slice none 0 0) ⟨#[]⟩).toArray 31) :: (L ++ R))
theorem alloc_rask (w : World) : (Instr.alloc 31 true (.tuple #[])).run Tryz.prog w = .ok (.pointer (some ⟨w.heap.size, 0, none⟩)) (w.alloc (.cells (av ⟨#[]⟩ ⟨#[]⟩ (.slice none 0 0) ⟨#[]⟩).toArray 31)) := by kernel_rfl
set_option maxRecDepth 100000 in
set_option maxHeartbeats 16000000 in
theorem rpa_l {w0 w : World} {R : Blks} (hO : Own w0 w R) {l : List Int} (hB : Byt l) (hl : l.length ≤ 4000000) : Calls Tryz.prog 11 #[.string (strOfNums l)] w (GotAsk w0 R (askI l) (.bool true) (.bool false)) := by
  have HO := Lib.hid hO; have HB := Lib.hid hB; have HLN := Lib.hid hl
  obtain ⟨o, ho⟩ : ∃ o, askI l = o := ⟨_, rfl⟩
  have hno : candI l = none → o = none := fun h => by rw [← ho]; unfold askI; rw [h]; rfl
  have hyes : ∀ a, candI l = some a → o = if askP a = some l then some a else none := fun a h => by rw [← ho]; unfold askI; rw [h]; rfl
  have HNO := Lib.hid hno; have HYES := Lib.hid hyes
  rw [ho]
  clear hO hB hl ho hno hyes
  go_enter Tryz.func11, Tryz.ntmps11
  go_wp2_with (refine wl_alloc rfl _ rfl HO.out _ (alloc_rask _) ?_; intro g2 w1 hO; have HO1 := Lib.hid hO; clear hO HO)
  with_reducible refine (line_l (w := w1) HB.out (by have := HLN.out; omega)).mono ?_
  rintro e w2 ⟨rfl, qq, hww⟩
  have HO2 := Lib.hid (HO1.out.drewN qq); rw [← hww] at HO2; clear hww HO1
  cases hli : lineI l with
  | none =>
    have HE : Hid (o = none) := Lib.hid (HNO.out (by unfold candI; rw [hli]; rfl))
    simp only [lineV]
    clear hli
    have hunt := until_b (w := w2) (l := []) (by intro x hx; cases hx) (by simp)
    rw [show ahead [32] [] = [] from rfl, show behind [32] [] = [] from rfl, str_nil] at hunt
    go_wp2_with fail
    with_reducible refine hunt.mono ?_
    clear hunt
    rintro e w3 ⟨rfl, qq, hww⟩
    have HO3 := Lib.hid (HO2.out.drewN qq); rw [← hww] at HO3; clear hww HO2
    go_wp2_with (refine wl_store rfl _ _ _ rfl HO3.out 0 g2 0 _ (av ⟨#[]⟩ ⟨#[]⟩ (.slice none 0 0) ⟨#[]⟩) _ rfl (by rfl) (by rfl) rask_size (one_av rfl) (by simp [av]) ?_; intro wz hO; have HZ := Lib.hid (hO.cast (L' := (g2, .cells (av ⟨#[]⟩ ⟨#[]⟩ (.slice none 0 0) ⟨#[]⟩).toArray 31) :: R) rfl); clear hO HO3)
    have hc0 : wz.cell? ⟨g2, 0, none⟩ = some (.string ⟨#[]⟩) := HZ.out.cell (.head _) 0
    have hc1 : wz.cell? ⟨g2, 1, none⟩ = some (.string ⟨#[]⟩) := HZ.out.cell (.head _) 1
    have hc2 : wz.cell? ⟨g2, 2, none⟩ = some (.slice none 0 0) := HZ.out.cell (.head _) 2
    have hc3 : wz.cell? ⟨g2, 3, none⟩ = some (.string ⟨#[]⟩) := HZ.out.cell (.head _) 3
    exact bodyPost_ret (v := .tuple #[.agg #[.string ⟨#[]⟩, .string ⟨#[]⟩, .slice none 0 0, .string ⟨#[]⟩], .bool false]) (by simp [results, Tryz.results11, go_sem, hc0, hc1, hc2, hc3]) rfl ⟨.slice none 0 0, [], by rw [HE.out]; rfl, by rw [HE.out]; exact isHeads_nil, HZ.out.tail⟩
  | some pr =>
    obtain ⟨p1, r1⟩ := pr
    have hpb := lineI_byt HB.out hli
    have hpl := lineI_len hli
    have HPB := Lib.hid hpb.1; have HRB := Lib.hid hpb.2; have HLI := Lib.hid hli
    have HPL : Hid (p1.length + r1.length ≤ 4000000) := Lib.hid (by have := HLN.out; omega)
    simp only [lineV]
    have hunt := fun w : World => until_b (w := w) HPB.out (by have := HPL.out; omega)
    have hends := fun w : World => ends_l (w := w) (behind_byt HPB.out (stops := [32])) (by have h1 : (behind [32] p1).length ≤ p1.length := (List.dropWhile_sublist _).length_le; have := HPL.out; omega)
    have hsz : (strOfNums (behind [32] p1)).size = (behind [32] p1).length := strOfNums_size _
    have hpl1 : (behind [32] p1).length ≤ p1.length := (List.dropWhile_sublist _).length_le
    have hc1 : ¬ (11 ≤ (behind [32] p1).length ∧ endI http11 (behind [32] p1) = true) → o = none := fun h => HNO.out (by unfold candI; rw [HLI.out, Option.bind_some]; simp only; rw [if_neg h])
    have hc2 : (11 ≤ (behind [32] p1).length ∧ endI http11 (behind [32] p1) = true) → candI l = (lineI r1).bind fun p2 => if begI hostW p2.1 = true then (lineI p2.2).bind fun p3 => if begI schemeW p3.1 = true then (headsA [] p3.2).map fun q => ⟨ahead [32] p1, p3.1.drop 8 ++ ([58, 47, 47] ++ (p2.1.drop 6 ++ pathA p1)), lastA q, q.2⟩ else none else none := fun h => by
      conv => lhs; unfold candI
      rw [HLI.out, Option.bind_some]
      simp only
      rw [if_pos h]
    have hex : (strOfNums (behind [32] p1)).extract 1 ((strOfNums (behind [32] p1)).size - 9) = strOfNums (pathA p1) := by
      rw [ext_str, sb_str (behind_byt HPB.out), strOfNums_size]
      rfl
    have HMB : Hid (Byt (ahead [32] p1) ∧ Byt (pathA p1) ∧ (pathA p1).length ≤ p1.length) := Lib.hid ⟨ahead_byt HPB.out, byt_drop (byt_take (behind_byt HPB.out) _) 1, by unfold pathA; rw [List.length_drop, List.length_take]; omega⟩
    have HMTL : Hid ((ahead [32] p1).length ≤ 4000000) := Lib.hid (by have h1 : (ahead [32] p1).length ≤ p1.length := (List.takeWhile_sublist _).length_le; have := HPL.out; omega)
    have HPS : Hid ((strOfNums (pathA p1)).size = (pathA p1).length) := Lib.hid (strOfNums_size _)
    generalize ahead [32] p1 = mt at *
    generalize pathA p1 = pa at *
    generalize endI http11 (behind [32] p1) = be at *
    generalize hbh : behind [32] p1 = bh at *
    have HC1 := Lib.hid hc1; have HC2 := Lib.hid hc2; have HEN := Lib.hid hends
    have hb11 : bh.length ≤ 4000000 := by have := HPL.out; omega
    rw [hsz] at hex
    generalize strOfNums bh = bs at *
    clear hpb hpl hli hc1 hc2 hends hbh hpl1
    go_wp2_with fail
    with_reducible refine (hunt _).mono ?_
    clear hunt
    rintro e w3 ⟨rfl, qq, hww⟩
    have HO3 := Lib.hid (HO2.out.drewN qq); rw [← hww] at HO3; clear hww HO2
    by_cases h2 : bh.length < 2
    · have HE : Hid (o = none) := Lib.hid (HC1.out (by omega))
      have h2' : (bs.size : Int) < 2 := by omega
      go_wp2_with (refine wl_store rfl _ _ _ rfl HO3.out 0 g2 0 _ (av ⟨#[]⟩ ⟨#[]⟩ (.slice none 0 0) ⟨#[]⟩) _ rfl (by rfl) (by rfl) rask_size (one_av rfl) (by simp [av]) ?_; intro wz hO; have HZ := Lib.hid (hO.cast (L' := (g2, .cells (av ⟨#[]⟩ ⟨#[]⟩ (.slice none 0 0) ⟨#[]⟩).toArray 31) :: R) rfl); clear hO HO3)
      have hc0 : wz.cell? ⟨g2, 0, none⟩ = some (.string ⟨#[]⟩) := HZ.out.cell (.head _) 0
      have hc1 : wz.cell? ⟨g2, 1, none⟩ = some (.string ⟨#[]⟩) := HZ.out.cell (.head _) 1
      have hc2 : wz.cell? ⟨g2, 2, none⟩ = some (.slice none 0 0) := HZ.out.cell (.head _) 2
      have hc3 : wz.cell? ⟨g2, 3, none⟩ = some (.string ⟨#[]⟩) := HZ.out.cell (.head _) 3
      exact bodyPost_ret (v := .tuple #[.agg #[.string ⟨#[]⟩, .string ⟨#[]⟩, .slice none 0 0, .string ⟨#[]⟩], .bool false]) (by simp [results, Tryz.results11, go_sem, hc0, hc1, hc2, hc3]) rfl ⟨.slice none 0 0, [], by rw [HE.out]; rfl, by rw [HE.out]; exact isHeads_nil, HZ.out.tail⟩
    · have h2' : ¬ (bs.size : Int) < 2 := by omega
      go_wp2_with fail
      with_reducible refine (HEN.out _).mono ?_
      clear HEN
      rintro e wq ⟨rfl, hww⟩
      subst hww
      cases be with
      | false =>
        have HE : Hid (o = none) := Lib.hid (HC1.out (by simp))
        go_wp2_with (refine wl_store rfl _ _ _ rfl HO3.out 0 g2 0 _ (av ⟨#[]⟩ ⟨#[]⟩ (.slice none 0 0) ⟨#[]⟩) _ rfl (by rfl) (by rfl) rask_size (one_av rfl) (by simp [av]) ?_; intro wz hO; have HZ := Lib.hid (hO.cast (L' := (g2, .cells (av ⟨#[]⟩ ⟨#[]⟩ (.slice none 0 0) ⟨#[]⟩).toArray 31) :: R) rfl); clear hO HO3)
        have hc0 : wz.cell? ⟨g2, 0, none⟩ = some (.string ⟨#[]⟩) := HZ.out.cell (.head _) 0
        have hc1 : wz.cell? ⟨g2, 1, none⟩ = some (.string ⟨#[]⟩) := HZ.out.cell (.head _) 1
        have hc2 : wz.cell? ⟨g2, 2, none⟩ = some (.slice none 0 0) := HZ.out.cell (.head _) 2
        have hc3 : wz.cell? ⟨g2, 3, none⟩ = some (.string ⟨#[]⟩) := HZ.out.cell (.head _) 3
        exact bodyPost_ret (v := .tuple #[.agg #[.string ⟨#[]⟩, .string ⟨#[]⟩, .slice none 0 0, .string ⟨#[]⟩], .bool false]) (by simp [results, Tryz.results11, go_sem, hc0, hc1, hc2, hc3]) rfl ⟨.slice none 0 0, [], by rw [HE.out]; rfl, by rw [HE.out]; exact isHeads_nil, HZ.out.tail⟩
      | true =>
        by_cases h11 : bh.length < 11
        · have HE : Hid (o = none) := Lib.hid (HC1.out (by omega))
          have h11' : (bs.size : Int) < 11 := by omega
          go_wp2_with (refine wl_store rfl _ _ _ rfl HO3.out 0 g2 0 _ (av ⟨#[]⟩ ⟨#[]⟩ (.slice none 0 0) ⟨#[]⟩) _ rfl (by rfl) (by rfl) rask_size (one_av rfl) (by simp [av]) ?_; intro wz hO; have HZ := Lib.hid (hO.cast (L' := (g2, .cells (av ⟨#[]⟩ ⟨#[]⟩ (.slice none 0 0) ⟨#[]⟩).toArray 31) :: R) rfl); clear hO HO3)
          have hc0 : wz.cell? ⟨g2, 0, none⟩ = some (.string ⟨#[]⟩) := HZ.out.cell (.head _) 0
          have hc1 : wz.cell? ⟨g2, 1, none⟩ = some (.string ⟨#[]⟩) := HZ.out.cell (.head _) 1
          have hc2 : wz.cell? ⟨g2, 2, none⟩ = some (.slice none 0 0) := HZ.out.cell (.head _) 2
          have hc3 : wz.cell? ⟨g2, 3, none⟩ = some (.string ⟨#[]⟩) := HZ.out.cell (.head _) 3
          exact bodyPost_ret (v := .tuple #[.agg #[.string ⟨#[]⟩, .string ⟨#[]⟩, .slice none 0 0, .string ⟨#[]⟩], .bool false]) (by simp [results, Tryz.results11, go_sem, hc0, hc1, hc2, hc3]) rfl ⟨.slice none 0 0, [], by rw [HE.out]; rfl, by rw [HE.out]; exact isHeads_nil, HZ.out.tail⟩
        · have h11' : ¬ (bs.size : Int) < 11 := by omega
          have HCA := Lib.hid (HC2.out ⟨by omega, rfl⟩)
          have i1 : (1 : Int) ≤ (bs.size : Int) - 9 := by omega
          have i2 : (bs.size : Int) - 9 ≤ bs.size := by omega
          have i3 : ((bs.size : Int) - 9).toNat = bs.size - 9 := by omega
          have hex2 : bs.extract 1 (bs.size - 9) = strOfNums pa := by rw [← hex, hsz]
          have hbz : bs.size ≤ 4000000 := by omega
          have HSZ := Lib.hid hsz
          clear HC1 HC2 h2 h11 hex hsz
          go_wp2_with fail
          with_reducible refine (line_l HRB.out (by have := HPL.out; omega)).mono ?_
          rintro e w4 ⟨rfl, qq, hww⟩
          have HO4 := Lib.hid (HO3.out.drewN qq); rw [← hww] at HO4; clear hww HO3
          cases hl2 : lineI r1 with
          | none =>
            have HE : Hid (o = none) := Lib.hid (HNO.out (by rw [HCA.out, hl2]; rfl))
            simp only [lineV]
            clear hl2
            go_wp2_with (refine wl_store rfl _ _ _ rfl HO4.out 0 g2 0 _ (av ⟨#[]⟩ ⟨#[]⟩ (.slice none 0 0) ⟨#[]⟩) _ rfl (by rfl) (by rfl) rask_size (one_av rfl) (by simp [av]) ?_; intro wz hO; have HZ := Lib.hid (hO.cast (L' := (g2, .cells (av ⟨#[]⟩ ⟨#[]⟩ (.slice none 0 0) ⟨#[]⟩).toArray 31) :: R) rfl); clear hO HO4)
            have hc0 : wz.cell? ⟨g2, 0, none⟩ = some (.string ⟨#[]⟩) := HZ.out.cell (.head _) 0
            have hc1 : wz.cell? ⟨g2, 1, none⟩ = some (.string ⟨#[]⟩) := HZ.out.cell (.head _) 1
            have hc2 : wz.cell? ⟨g2, 2, none⟩ = some (.slice none 0 0) := HZ.out.cell (.head _) 2
            have hc3 : wz.cell? ⟨g2, 3, none⟩ = some (.string ⟨#[]⟩) := HZ.out.cell (.head _) 3
            exact bodyPost_ret (v := .tuple #[.agg #[.string ⟨#[]⟩, .string ⟨#[]⟩, .slice none 0 0, .string ⟨#[]⟩], .bool false]) (by simp [results, Tryz.results11, go_sem, hc0, hc1, hc2, hc3]) rfl ⟨.slice none 0 0, [], by rw [HE.out]; rfl, by rw [HE.out]; exact isHeads_nil, HZ.out.tail⟩
          | some pr2 =>
            obtain ⟨p2, r2⟩ := pr2
            have hpb2 := lineI_byt HRB.out hl2
            have hpl2 := lineI_len hl2
            have hca2 := HCA.out
            rw [hl2, Option.bind_some] at hca2
            simp only at hca2
            simp only [lineV]
            have HPB2 := Lib.hid hpb2.1; have HRB2 := Lib.hid hpb2.2
            have HPL2 : Hid (p1.length + (p2.length + r2.length) ≤ 4000000) := Lib.hid (by have := HPL.out; omega)
            have HCA2 := Lib.hid hca2
            clear hpb2 hpl2 hca2 hl2 HCA
            go_wp2_with fail
            with_reducible refine (begh_l HPB2.out (by have := HPL2.out; omega)).mono ?_
            rintro e wq ⟨rfl, hww⟩
            subst hww
            cases hbg : begI hostW p2 with
            | false =>
              have HE : Hid (o = none) := Lib.hid (HNO.out (by rw [HCA2.out, hbg]; rfl))
              clear hbg
              go_wp2_with (refine wl_store rfl _ _ _ rfl HO4.out 0 g2 0 _ (av ⟨#[]⟩ ⟨#[]⟩ (.slice none 0 0) ⟨#[]⟩) _ rfl (by rfl) (by rfl) rask_size (one_av rfl) (by simp [av]) ?_; intro wz hO; have HZ := Lib.hid (hO.cast (L' := (g2, .cells (av ⟨#[]⟩ ⟨#[]⟩ (.slice none 0 0) ⟨#[]⟩).toArray 31) :: R) rfl); clear hO HO4)
              have hc0 : wz.cell? ⟨g2, 0, none⟩ = some (.string ⟨#[]⟩) := HZ.out.cell (.head _) 0
              have hc1 : wz.cell? ⟨g2, 1, none⟩ = some (.string ⟨#[]⟩) := HZ.out.cell (.head _) 1
              have hc2 : wz.cell? ⟨g2, 2, none⟩ = some (.slice none 0 0) := HZ.out.cell (.head _) 2
              have hc3 : wz.cell? ⟨g2, 3, none⟩ = some (.string ⟨#[]⟩) := HZ.out.cell (.head _) 3
              exact bodyPost_ret (v := .tuple #[.agg #[.string ⟨#[]⟩, .string ⟨#[]⟩, .slice none 0 0, .string ⟨#[]⟩], .bool false]) (by simp [results, Tryz.results11, go_sem, hc0, hc1, hc2, hc3]) rfl ⟨.slice none 0 0, [], by rw [HE.out]; rfl, by rw [HE.out]; exact isHeads_nil, HZ.out.tail⟩
            | true =>
              have hca3 := HCA2.out
              rw [hbg, if_pos rfl] at hca3
              have hp6 : 6 ≤ p2.length := by
                have := begI_drop hbg
                have h6 := congrArg List.length this
                rw [List.length_append, show hostW.length = 6 from rfl] at h6
                omega
              have HCA3 := Lib.hid hca3
              clear hbg hca3 HCA2
              go_wp2_with fail
              with_reducible refine (line_l HRB2.out (by have := HPL2.out; omega)).mono ?_
              rintro e w5 ⟨rfl, qq, hww⟩
              have HO5 := Lib.hid (HO4.out.drewN qq); rw [← hww] at HO5; clear hww HO4
              cases hl3 : lineI r2 with
              | none =>
                have HE : Hid (o = none) := Lib.hid (HNO.out (by rw [HCA3.out, hl3]; rfl))
                simp only [lineV]
                clear hl3
                go_wp2_with (refine wl_store rfl _ _ _ rfl HO5.out 0 g2 0 _ (av ⟨#[]⟩ ⟨#[]⟩ (.slice none 0 0) ⟨#[]⟩) _ rfl (by rfl) (by rfl) rask_size (one_av rfl) (by simp [av]) ?_; intro wz hO; have HZ := Lib.hid (hO.cast (L' := (g2, .cells (av ⟨#[]⟩ ⟨#[]⟩ (.slice none 0 0) ⟨#[]⟩).toArray 31) :: R) rfl); clear hO HO5)
                have hc0 : wz.cell? ⟨g2, 0, none⟩ = some (.string ⟨#[]⟩) := HZ.out.cell (.head _) 0
                have hc1 : wz.cell? ⟨g2, 1, none⟩ = some (.string ⟨#[]⟩) := HZ.out.cell (.head _) 1
                have hc2 : wz.cell? ⟨g2, 2, none⟩ = some (.slice none 0 0) := HZ.out.cell (.head _) 2
                have hc3 : wz.cell? ⟨g2, 3, none⟩ = some (.string ⟨#[]⟩) := HZ.out.cell (.head _) 3
                exact bodyPost_ret (v := .tuple #[.agg #[.string ⟨#[]⟩, .string ⟨#[]⟩, .slice none 0 0, .string ⟨#[]⟩], .bool false]) (by simp [results, Tryz.results11, go_sem, hc0, hc1, hc2, hc3]) rfl ⟨.slice none 0 0, [], by rw [HE.out]; rfl, by rw [HE.out]; exact isHeads_nil, HZ.out.tail⟩
              | some pr3 =>
                obtain ⟨p3, r3⟩ := pr3
                have hpb3 := lineI_byt HRB2.out hl3
                have hpl3 := lineI_len hl3
                have hca4 := HCA3.out
                rw [hl3, Option.bind_some] at hca4
                simp only at hca4
                simp only [lineV]
                have HPB3 := Lib.hid hpb3.1; have HRB3 := Lib.hid hpb3.2
                have HPL3 : Hid (p1.length + (p2.length + (p3.length + r3.length)) ≤ 4000000) := Lib.hid (by have := HPL2.out; omega)
                have HCA4 := Lib.hid hca4
                clear hpb3 hpl3 hca4 hl3 HCA3
                go_wp2_with fail
                with_reducible refine (begs_l HPB3.out (by have := HPL3.out; omega)).mono ?_
                rintro e wq ⟨rfl, hww⟩
                subst hww
                cases hbg : begI schemeW p3 with
                | false =>
                  have HE : Hid (o = none) := Lib.hid (HNO.out (by rw [HCA4.out, hbg]; rfl))
                  clear hbg
                  go_wp2_with (refine wl_store rfl _ _ _ rfl HO5.out 0 g2 0 _ (av ⟨#[]⟩ ⟨#[]⟩ (.slice none 0 0) ⟨#[]⟩) _ rfl (by rfl) (by rfl) rask_size (one_av rfl) (by simp [av]) ?_; intro wz hO; have HZ := Lib.hid (hO.cast (L' := (g2, .cells (av ⟨#[]⟩ ⟨#[]⟩ (.slice none 0 0) ⟨#[]⟩).toArray 31) :: R) rfl); clear hO HO5)
                  have hc0 : wz.cell? ⟨g2, 0, none⟩ = some (.string ⟨#[]⟩) := HZ.out.cell (.head _) 0
                  have hc1 : wz.cell? ⟨g2, 1, none⟩ = some (.string ⟨#[]⟩) := HZ.out.cell (.head _) 1
                  have hc2 : wz.cell? ⟨g2, 2, none⟩ = some (.slice none 0 0) := HZ.out.cell (.head _) 2
                  have hc3 : wz.cell? ⟨g2, 3, none⟩ = some (.string ⟨#[]⟩) := HZ.out.cell (.head _) 3
                  exact bodyPost_ret (v := .tuple #[.agg #[.string ⟨#[]⟩, .string ⟨#[]⟩, .slice none 0 0, .string ⟨#[]⟩], .bool false]) (by simp [results, Tryz.results11, go_sem, hc0, hc1, hc2, hc3]) rfl ⟨.slice none 0 0, [], by rw [HE.out]; rfl, by rw [HE.out]; exact isHeads_nil, HZ.out.tail⟩
                | true =>
                  have hca5 := HCA4.out
                  rw [hbg, if_pos rfl] at hca5
                  have hp8 : 8 ≤ p3.length := by
                    have := begI_drop hbg
                    have h6 := congrArg List.length this
                    rw [List.length_append, show schemeW.length = 8 from rfl] at h6
                    omega
                  have HCA5 := Lib.hid hca5
                  clear hbg hca5 HCA4
                  have e8 : (strOfNums p3).extract 8 (strOfNums p3).size = strOfNums (p3.drop 8) := by rw [ext_str, sb_str HPB3.out, strOfNums_size, win_rest _ _ _ rfl]
                  have e6 : (strOfNums p2).extract 6 (strOfNums p2).size = strOfNums (p2.drop 6) := by rw [ext_str, sb_str HPB2.out, strOfNums_size, win_rest _ _ _ rfl]
                  have z3 : (strOfNums p3).size = p3.length := strOfNums_size _
                  have z2 : (strOfNums p2).size = p2.length := strOfNums_size _
                  have y3 : (strOfNums (p3.drop 8)).size = p3.length - 8 := by rw [strOfNums_size, List.length_drop]
                  have y2 : (strOfNums (p2.drop 6)).size = p2.length - 6 := by rw [strOfNums_size, List.length_drop]
                  have y1 := HPS.out
                  have y0 := HMB.out.2.2
                  have hpl3 := HPL3.out
                  have hus : strOfNums (p3.drop 8) ++ ⟨#[58, 47, 47]⟩ ++ strOfNums (p2.drop 6) ++ strOfNums pa = strOfNums (p3.drop 8 ++ ([58, 47, 47] ++ (p2.drop 6 ++ pa))) := by
                    simp only [strs_app, ByteArray.append_assoc]
                    rfl
                  have hub : Byt (p3.drop 8 ++ ([58, 47, 47] ++ (p2.drop 6 ++ pa))) := byt_append (byt_drop HPB3.out 8) (byt_append (by intro x hx; simp at hx; omega) (byt_append (byt_drop HPB2.out 6) HMB.out.2.1))
                  have hul : (p3.drop 8 ++ ([58, 47, 47] ++ (p2.drop 6 ++ pa))).length ≤ 4000100 := by
                    simp only [List.length_append, List.length_drop, List.length_cons, List.length_nil]
                    omega
                  have j8 : (8 : Int) ≤ (strOfNums p3).size := by omega
                  have j6 : (6 : Int) ≤ (strOfNums p2).size := by omega
                  generalize p3.drop 8 ++ ([58, 47, 47] ++ (p2.drop 6 ++ pa)) = UU at *
                  generalize strOfNums (p3.drop 8) = d8 at *
                  generalize strOfNums (p2.drop 6) = d6 at *
                  generalize strOfNums p3 = p3s at *
                  generalize strOfNums p2 = p2s at *
                  generalize strOfNums pa = paS at *
                  have n1 : ¬ (9223372036854775807 < d8.size + 3) := by omega
                  have n2 : ¬ (9223372036854775807 < d8.size + 3 + d6.size) := by omega
                  have n3 : ¬ (9223372036854775807 < d8.size + 3 + d6.size + paS.size) := by omega
                  have HUS := Lib.hid hus; have HUB := Lib.hid hub; have HUL := Lib.hid hul
                  have HR3 : Hid (Byt r3 ∧ r3.length ≤ 4000000) := Lib.hid ⟨HRB3.out, by omega⟩
                  clear hus hub hul z3 z2 y3 y2 y1 y0 hpl3
                  go_wp2_with fail
                  refine wp_region_tree3 (fun w' => Own w0 w' ((g2, .cells (av ⟨#[]⟩ ⟨#[]⟩ (.slice none 0 0) ⟨#[]⟩).toArray 31) :: R)) 11 (.q 0 (.q 1 (.q 2 (.q 3 (.q 4 (.q 5 (.q 6 (.q 7 (.q 8 (.q 9 (.one 10 .done))))))))))) (by kernel_rfl) (by decide +kernel) (fun _ _ d _ _ h => by cases d <;> exact h) HO5.out.drew ?_
                  simp only [List.drop_succ_cons, List.drop_zero]
                  have HT := Lib.hid HO5.out.drew; clear HO5
                  iterate 10 (refine t3_q ?_ rfl ?_ ?_; rotate_left 1; (focus (rintro w' hO; simp only [pick_zero, pick_succ]; go_simp; first | done | with_reducible rfl | (trace_state; fail))); simp only [pick_zero, pick_succ]; simp only [Act.put, List.setIfInBounds_toArray, List.set_cons_zero, List.set_cons_succ])
                  refine t3_one ?_
                  simp only [pick_zero, pick_succ]
                  refine wl_alloc rfl _ rfl HT.out _ (alloc_rask _) ?_
                  intro g11 w6 hO
                  have HO6 := Lib.hid hO; clear hO HT
                  refine ActPost.mk (fun w' => Own w0 w' ((g2, .cells (av ⟨#[]⟩ ⟨#[]⟩ (.slice none 0 0) ⟨#[]⟩).toArray 31) :: R)) (fun w' h => h) HO6.out.tail ?_; simp only [Act.put, List.setIfInBounds_toArray, List.set_cons_zero, List.set_cons_succ]
                  refine t3_done ?_
                  generalize hmS : strOfNums mt = mS at *
                  generalize hq : d8 ++ ⟨#[58, 47, 47]⟩ ++ d6 ++ paS = uS at *
                  have HMS := Lib.hid hmS; have HUS2 : Hid (uS = strOfNums UU) := HUS
                  clear hmS hq HUS e8 e6 n1 n2 n3 j8 j6
                  go_wp2_with (refine wl_store rfl _ _ _ rfl HO6.out 0 g11 0 _ (av mS uS (.slice none 0 0) ⟨#[]⟩) _ rfl (by rfl) (by rfl) rask_size (one_av rfl) (by simp [av]) ?_; intro w7 hO; have HO7 : Hid (Own w0 w7 ((g11, .cells (av mS uS (.slice none 0 0) ⟨#[]⟩).toArray 31) :: (g2, .cells (av ⟨#[]⟩ ⟨#[]⟩ (.slice none 0 0) ⟨#[]⟩).toArray 31) :: ([] ++ R))) := Lib.hid (hO.cast rfl); clear hO HO6)
                  simp only [Act.put, List.setIfInBounds_toArray, List.set_cons_zero, List.set_cons_succ]
                  go_loopw [5] (fun s w' => ∃ (r : List Int) (hs : HL) (A : Option Addr) (m c : Nat) (L : Blks), s = .string (strOfNums r) ∧ Hid (Byt r ∧ headsA hs r = headsA [] r3 ∧ (∀ x ∈ hs, Byt x.1 ∧ Byt x.2) ∧ (headsP hs).length + r.length ≤ 4000000) ∧ Hid (IsHeads (.slice A m c) (hs.map toB) L ∧ m = hs.length) ∧ Hid (Own w0 w' ((g11, .cells (av mS uS (.slice A m c) ⟨#[]⟩).toArray 31) :: (g2, .cells (av ⟨#[]⟩ ⟨#[]⟩ (.slice none 0 0) ⟨#[]⟩).toArray 31) :: (L ++ R)))) (fun s _ => strSize s)
                  case atStart => exact ⟨r3, [], none, 0, 0, [], rfl, Lib.hid ⟨HR3.out.1, rfl, (fun x hx => by cases hx), by have := HR3.out.2; simp [headsP]; omega⟩, Lib.hid ⟨isHeads_nil, rfl⟩, HO7⟩
                  case round =>
                    obtain ⟨r, hs, A, m, c, L, rfl, HI, HH, HO8⟩ := hrel
                    clear HO7
                    have hm6 : m ≤ 4000000 := by have h1 := headsP_count hs; have h2 := HI.out.2.2.2; have h3 := HH.out.2; omega
                    have hst := headsA_step hs r
                    rw [HI.out.2.1] at hst
                    go_wp2_with fail
                    with_reducible refine (line_l HI.out.1 (by have := HI.out.2.2.2; omega)).mono ?_
                    rintro e w8 ⟨rfl, qq, hww⟩
                    have HO9 := Lib.hid (HO8.out.drewN qq); rw [← hww] at HO9; clear hww HO8
                    cases hl4 : lineI r with
                    | none =>
                      have HE : Hid (o = none) := Lib.hid (HNO.out (by rw [HCA5.out, hst, hl4]; rfl))
                      simp only [lineV]
                      clear hl4 hst
                      go_wp2_with (refine wl_store rfl _ _ _ rfl HO9.out 1 g2 0 _ (av ⟨#[]⟩ ⟨#[]⟩ (.slice none 0 0) ⟨#[]⟩) _ rfl (by rfl) (by rfl) rask_size (one_av rfl) (by simp [av]) ?_; intro wz hO; have HZ := Lib.hid (hO.cast (L' := (g11, .cells (av mS uS (.slice A m c) ⟨#[]⟩).toArray 31) :: (g2, .cells (av ⟨#[]⟩ ⟨#[]⟩ (.slice none 0 0) ⟨#[]⟩).toArray 31) :: (L ++ R)) rfl); clear hO HO9)
                      have hc0 : wz.cell? ⟨g2, 0, none⟩ = some (.string ⟨#[]⟩) := HZ.out.cell (.tail _ (.head _)) 0
                      have hc1 : wz.cell? ⟨g2, 1, none⟩ = some (.string ⟨#[]⟩) := HZ.out.cell (.tail _ (.head _)) 1
                      have hc2 : wz.cell? ⟨g2, 2, none⟩ = some (.slice none 0 0) := HZ.out.cell (.tail _ (.head _)) 2
                      have hc3 : wz.cell? ⟨g2, 3, none⟩ = some (.string ⟨#[]⟩) := HZ.out.cell (.tail _ (.head _)) 3
                      exact bodyPost_ret (v := .tuple #[.agg #[.string ⟨#[]⟩, .string ⟨#[]⟩, .slice none 0 0, .string ⟨#[]⟩], .bool false]) (by simp [results, Tryz.results11, go_sem, hc0, hc1, hc2, hc3]) rfl ⟨.slice none 0 0, [], by rw [HE.out]; rfl, by rw [HE.out]; exact isHeads_nil, HZ.out.tail.tail.right⟩
                    | some pr4 =>
                      obtain ⟨p4, r4⟩ := pr4
                      have hpb4 := lineI_byt HI.out.1 hl4
                      have hpl4 := lineI_len hl4
                      rw [hl4, Option.bind_some] at hst
                      simp only at hst
                      simp only [lineV]
                      have HPB4 := Lib.hid hpb4.1; have HRB4 := Lib.hid hpb4.2; have HST := Lib.hid hst
                      have HPL4 : Hid (p4.length + r4.length + 2 = r.length) := Lib.hid hpl4
                      have hem := str_lit p4 hpb4.1 [] [] rfl
                      clear hpb4 hpl4 hst hl4
                      by_cases hp : p4 = []
                      · rw [decide_eq_true hp] at hem
                        have hcd : candI l = some ⟨mt, UU, lastA (hs, r4), r4⟩ := by rw [HCA5.out, HST.out, if_pos hp]; rfl
                        have HCD := Lib.hid hcd
                        have hemb := str_lit r4 HRB4.out [] [] rfl
                        have HR4 : Hid (Byt r4 ∧ r4.length ≤ 4000000) := Lib.hid ⟨HRB4.out, by have h1 := HPL4.out; have h2 := HI.out.2.2.2; omega⟩
                        clear hp HST hcd
                        obtain ⟨bS, hbS⟩ : ∃ bS, strOfNums r4 = bS := ⟨_, rfl⟩
                        have HBS := Lib.hid hbS
                        rw [hbS] at hemb ⊢
                        clear hbS
                        by_cases hre : r4 = []
                        · rw [decide_eq_true hre] at hemb
                          have hemb2 : (bS.toList != []) = false := by unfold bne; rw [hemb]; rfl
                          have HLA : Hid (lastA (hs, r4) = hs) := Lib.hid (by unfold lastA; simp only; rw [if_pos hre])
                          have HLH : Hid (IsHeads (.slice A m c) (hs.map toB) L) := Lib.hid HH.out.1
                          clear hre
                          go_wp2_with (first | (refine wl_store1 rfl _ _ _ rfl HO9.out 0 g11 3 _ (.string bS) _ rfl (by rfl) (by rfl) (by rfl) (by kernel_rfl) (by rfl) (by simp [av]) ?_; intro w9 hO; have HO10 := Lib.hid (hO.cast (L' := (g11, .cells (av mS uS (.slice A m c) bS).toArray 31) :: (g2, .cells (av ⟨#[]⟩ ⟨#[]⟩ (.slice none 0 0) ⟨#[]⟩).toArray 31) :: (L ++ R)) rfl); clear hO HO9; have k2 : w9.cell? ⟨g11, 2, none⟩ = some (.slice A m c) := HO10.out.cell (.head _) 2; have k3 : w9.cell? ⟨g11, 3, none⟩ = some (.string bS) := HO10.out.cell (.head _) 3) | (refine wl_load rfl _ _ rfl g11 0 (av mS uS (.slice A m c) bS) (av mS uS (.slice A m c) bS) _ (HO10.out.heap (.head _)) (by rfl) _ Tryz.underlying31 rfl rask_size (by rfl) ?_))
                          have hcd2 := HCD.out
                          rw [HLA.out] at hcd2
                          have hsub : ∀ x ∈ hs, Byt x.1 ∧ Byt x.2 := fun x hx => HI.out.2.2.1 x (by first | exact hx | exact (List.dropLast_sublist _).subset hx)
                          have hasc := rprintAsk_c HO10.out mS uS (.slice A m c) ((hs).map toB) (HLH.out.hrd (List.Sublist.cons _ (List.Sublist.cons _ (List.sublist_append_left _ _)))) bS (by rw [← HMS.out, strOfNums_size]; have := HMTL.out; omega) (by rw [HUS2.out, strOfNums_size]; have := HUL.out; omega) (by rw [← HBS.out, strOfNums_size]; have := HR4.out.2; omega) (by rw [hl_toB hsub]; have h1 := lastA_len hs r4; rw [HLA.out] at h1; have := HI.out.2.2.2; omega)
                          rw [show aL mS uS ((hs).map toB) bS = ⟨mt, UU, hs, r4⟩ by rw [← HMS.out, HUS2.out, ← HBS.out]; exact aL_str (a := ⟨mt, UU, hs, r4⟩) HMB.out.1 HUB.out hsub HR4.out.1] at hasc
                          have hbt := fun t => askP_byt (a := ⟨mt, UU, hs, r4⟩) (t := t) HMB.out.1 HUB.out hsub HR4.out.1
                          have HASC := Lib.hid hasc; have HCD2 := Lib.hid (HYES.out _ hcd2); have HBT := Lib.hid hbt
                          clear hasc hcd2 hsub hbt
                          with_reducible refine HASC.out.mono ?_
                          clear HASC
                          rintro e w10 ⟨rfl, hO⟩
                          have HO11 := Lib.hid hO; clear hO HO10
                          cases hap : askP ⟨mt, UU, hs, r4⟩ with
                          | none =>
                            have HE : Hid (o = none) := Lib.hid (by rw [HCD2.out, hap, if_neg (by simp)])
                            simp only [Option.getD_none, Option.isSome_none]
                            clear hap HCD2 HBT
                            go_wp2_with (refine wl_store rfl _ _ _ rfl HO11.out 1 g2 0 _ (av ⟨#[]⟩ ⟨#[]⟩ (.slice none 0 0) ⟨#[]⟩) _ rfl (by rfl) (by rfl) rask_size (one_av rfl) (by simp [av]) ?_; intro wz hO; have HZ := Lib.hid (hO.cast (L' := (g11, .cells (av mS uS (.slice A m c) bS).toArray 31) :: (g2, .cells (av ⟨#[]⟩ ⟨#[]⟩ (.slice none 0 0) ⟨#[]⟩).toArray 31) :: (L ++ R)) rfl); clear hO HO11)
                            have hc0 : wz.cell? ⟨g2, 0, none⟩ = some (.string ⟨#[]⟩) := HZ.out.cell (.tail _ (.head _)) 0
                            have hc1 : wz.cell? ⟨g2, 1, none⟩ = some (.string ⟨#[]⟩) := HZ.out.cell (.tail _ (.head _)) 1
                            have hc2 : wz.cell? ⟨g2, 2, none⟩ = some (.slice none 0 0) := HZ.out.cell (.tail _ (.head _)) 2
                            have hc3 : wz.cell? ⟨g2, 3, none⟩ = some (.string ⟨#[]⟩) := HZ.out.cell (.tail _ (.head _)) 3
                            exact bodyPost_ret (v := .tuple #[.agg #[.string ⟨#[]⟩, .string ⟨#[]⟩, .slice none 0 0, .string ⟨#[]⟩], .bool false]) (by simp [results, Tryz.results11, go_sem, hc0, hc1, hc2, hc3]) rfl ⟨.slice none 0 0, [], by rw [HE.out]; rfl, by rw [HE.out]; exact isHeads_nil, HZ.out.tail.tail.right⟩
                          | some tt =>
                            have heq := beq_str (HBT.out tt hap) HB.out
                            simp only [Option.getD_some, Option.isSome_some]
                            by_cases htl : tt = l
                            · rw [decide_eq_true htl] at heq
                              have heq2 : ((strOfNums tt).toList != (strOfNums l).toList) = false := by unfold bne; rw [heq]; rfl
                              have HE : Hid (o = some ⟨mt, UU, hs, r4⟩) := Lib.hid (by rw [HCD2.out, hap, htl, if_pos rfl])
                              generalize strOfNums tt = ts at *
                              clear hap HCD2 HBT htl
                              go_wp2_with (first | (refine wl_load rfl _ _ rfl g11 0 (av mS uS (.slice A m c) bS) (av mS uS (.slice A m c) bS) _ (HO11.out.heap (.head _)) (by rfl) _ Tryz.underlying31 rfl rask_size (by rfl) ?_) | (refine wl_store rfl _ _ _ rfl HO11.out 1 g2 0 _ (av mS uS (.slice A m c) bS) _ rfl (by rfl) (by rfl) rask_size (one_av rfl) (by simp [av]) ?_; intro wz hO; have HZ := Lib.hid (hO.cast (L' := (g11, .cells (av mS uS (.slice A m c) bS).toArray 31) :: (g2, .cells (av mS uS (.slice A m c) bS).toArray 31) :: (L ++ R)) rfl); clear hO HO11))
                              have hc0 : wz.cell? ⟨g2, 0, none⟩ = some (.string mS) := HZ.out.cell (.tail _ (.head _)) 0
                              have hc1 : wz.cell? ⟨g2, 1, none⟩ = some (.string uS) := HZ.out.cell (.tail _ (.head _)) 1
                              have hc2 : wz.cell? ⟨g2, 2, none⟩ = some (.slice A m c) := HZ.out.cell (.tail _ (.head _)) 2
                              have hc3 : wz.cell? ⟨g2, 3, none⟩ = some (.string bS) := HZ.out.cell (.tail _ (.head _)) 3
                              exact bodyPost_ret (v := .tuple #[.agg #[.string mS, .string uS, (.slice A m c), .string bS], .bool true]) (by simp [results, Tryz.results11, go_sem, hc0, hc1, hc2, hc3]) rfl ⟨(.slice A m c), L, by rw [HE.out]; simp only [Option.getD_some, Option.isSome_some, if_true]; rw [HMS.out, ← HUS2.out, HBS.out]; rfl, by rw [HE.out]; exact HLH.out, HZ.out.tail.tail⟩
                            · rw [decide_eq_false htl] at heq
                              have heq2 : ((strOfNums tt).toList != (strOfNums l).toList) = true := by unfold bne; rw [heq]; rfl
                              have HE : Hid (o = none) := Lib.hid (by rw [HCD2.out, hap, if_neg (by simpa using htl)])
                              generalize strOfNums tt = ts at *
                              clear hap HCD2 HBT htl
                              go_wp2_with (refine wl_store rfl _ _ _ rfl HO11.out 1 g2 0 _ (av ⟨#[]⟩ ⟨#[]⟩ (.slice none 0 0) ⟨#[]⟩) _ rfl (by rfl) (by rfl) rask_size (one_av rfl) (by simp [av]) ?_; intro wz hO; have HZ := Lib.hid (hO.cast (L' := (g11, .cells (av mS uS (.slice A m c) bS).toArray 31) :: (g2, .cells (av ⟨#[]⟩ ⟨#[]⟩ (.slice none 0 0) ⟨#[]⟩).toArray 31) :: (L ++ R)) rfl); clear hO HO11)
                              have hc0 : wz.cell? ⟨g2, 0, none⟩ = some (.string ⟨#[]⟩) := HZ.out.cell (.tail _ (.head _)) 0
                              have hc1 : wz.cell? ⟨g2, 1, none⟩ = some (.string ⟨#[]⟩) := HZ.out.cell (.tail _ (.head _)) 1
                              have hc2 : wz.cell? ⟨g2, 2, none⟩ = some (.slice none 0 0) := HZ.out.cell (.tail _ (.head _)) 2
                              have hc3 : wz.cell? ⟨g2, 3, none⟩ = some (.string ⟨#[]⟩) := HZ.out.cell (.tail _ (.head _)) 3
                              exact bodyPost_ret (v := .tuple #[.agg #[.string ⟨#[]⟩, .string ⟨#[]⟩, .slice none 0 0, .string ⟨#[]⟩], .bool false]) (by simp [results, Tryz.results11, go_sem, hc0, hc1, hc2, hc3]) rfl ⟨.slice none 0 0, [], by rw [HE.out]; rfl, by rw [HE.out]; exact isHeads_nil, HZ.out.tail.tail.right⟩
                        · rw [decide_eq_false hre] at hemb
                          have hemb2 : (bS.toList != []) = true := by unfold bne; rw [hemb]; rfl
                          by_cases hm0 : m = 0
                          · have hse : hs = [] := List.eq_nil_of_length_eq_zero (by have := HH.out.2; omega)
                            have HLA : Hid (lastA (hs, r4) = hs) := Lib.hid (by unfold lastA; simp only; rw [if_neg hre, hse]; rfl)
                            have HLH : Hid (IsHeads (.slice A m c) (hs.map toB) L) := Lib.hid HH.out.1
                            subst hm0
                            clear hre hse
                            go_wp2_with (first | (refine wl_store1 rfl _ _ _ rfl HO9.out 0 g11 3 _ (.string bS) _ rfl (by rfl) (by rfl) (by rfl) (by kernel_rfl) (by rfl) (by simp [av]) ?_; intro w9 hO; have HO10 := Lib.hid (hO.cast (L' := (g11, .cells (av mS uS (.slice A 0 c) bS).toArray 31) :: (g2, .cells (av ⟨#[]⟩ ⟨#[]⟩ (.slice none 0 0) ⟨#[]⟩).toArray 31) :: (L ++ R)) rfl); clear hO HO9; have k2 : w9.cell? ⟨g11, 2, none⟩ = some (.slice A 0 c) := HO10.out.cell (.head _) 2; have k3 : w9.cell? ⟨g11, 3, none⟩ = some (.string bS) := HO10.out.cell (.head _) 3) | (refine wl_load rfl _ _ rfl g11 0 (av mS uS (.slice A 0 c) bS) (av mS uS (.slice A 0 c) bS) _ (HO10.out.heap (.head _)) (by rfl) _ Tryz.underlying31 rfl rask_size (by rfl) ?_))
                            have hcd2 := HCD.out
                            rw [HLA.out] at hcd2
                            have hsub : ∀ x ∈ hs, Byt x.1 ∧ Byt x.2 := fun x hx => HI.out.2.2.1 x (by first | exact hx | exact (List.dropLast_sublist _).subset hx)
                            have hasc := rprintAsk_c HO10.out mS uS (.slice A 0 c) ((hs).map toB) (HLH.out.hrd (List.Sublist.cons _ (List.Sublist.cons _ (List.sublist_append_left _ _)))) bS (by rw [← HMS.out, strOfNums_size]; have := HMTL.out; omega) (by rw [HUS2.out, strOfNums_size]; have := HUL.out; omega) (by rw [← HBS.out, strOfNums_size]; have := HR4.out.2; omega) (by rw [hl_toB hsub]; have h1 := lastA_len hs r4; rw [HLA.out] at h1; have := HI.out.2.2.2; omega)
                            rw [show aL mS uS ((hs).map toB) bS = ⟨mt, UU, hs, r4⟩ by rw [← HMS.out, HUS2.out, ← HBS.out]; exact aL_str (a := ⟨mt, UU, hs, r4⟩) HMB.out.1 HUB.out hsub HR4.out.1] at hasc
                            have hbt := fun t => askP_byt (a := ⟨mt, UU, hs, r4⟩) (t := t) HMB.out.1 HUB.out hsub HR4.out.1
                            have HASC := Lib.hid hasc; have HCD2 := Lib.hid (HYES.out _ hcd2); have HBT := Lib.hid hbt
                            clear hasc hcd2 hsub hbt
                            with_reducible refine HASC.out.mono ?_
                            clear HASC
                            rintro e w10 ⟨rfl, hO⟩
                            have HO11 := Lib.hid hO; clear hO HO10
                            cases hap : askP ⟨mt, UU, hs, r4⟩ with
                            | none =>
                              have HE : Hid (o = none) := Lib.hid (by rw [HCD2.out, hap, if_neg (by simp)])
                              simp only [Option.getD_none, Option.isSome_none]
                              clear hap HCD2 HBT
                              go_wp2_with (refine wl_store rfl _ _ _ rfl HO11.out 1 g2 0 _ (av ⟨#[]⟩ ⟨#[]⟩ (.slice none 0 0) ⟨#[]⟩) _ rfl (by rfl) (by rfl) rask_size (one_av rfl) (by simp [av]) ?_; intro wz hO; have HZ := Lib.hid (hO.cast (L' := (g11, .cells (av mS uS (.slice A 0 c) bS).toArray 31) :: (g2, .cells (av ⟨#[]⟩ ⟨#[]⟩ (.slice none 0 0) ⟨#[]⟩).toArray 31) :: (L ++ R)) rfl); clear hO HO11)
                              have hc0 : wz.cell? ⟨g2, 0, none⟩ = some (.string ⟨#[]⟩) := HZ.out.cell (.tail _ (.head _)) 0
                              have hc1 : wz.cell? ⟨g2, 1, none⟩ = some (.string ⟨#[]⟩) := HZ.out.cell (.tail _ (.head _)) 1
                              have hc2 : wz.cell? ⟨g2, 2, none⟩ = some (.slice none 0 0) := HZ.out.cell (.tail _ (.head _)) 2
                              have hc3 : wz.cell? ⟨g2, 3, none⟩ = some (.string ⟨#[]⟩) := HZ.out.cell (.tail _ (.head _)) 3
                              exact bodyPost_ret (v := .tuple #[.agg #[.string ⟨#[]⟩, .string ⟨#[]⟩, .slice none 0 0, .string ⟨#[]⟩], .bool false]) (by simp [results, Tryz.results11, go_sem, hc0, hc1, hc2, hc3]) rfl ⟨.slice none 0 0, [], by rw [HE.out]; rfl, by rw [HE.out]; exact isHeads_nil, HZ.out.tail.tail.right⟩
                            | some tt =>
                              have heq := beq_str (HBT.out tt hap) HB.out
                              simp only [Option.getD_some, Option.isSome_some]
                              by_cases htl : tt = l
                              · rw [decide_eq_true htl] at heq
                                have heq2 : ((strOfNums tt).toList != (strOfNums l).toList) = false := by unfold bne; rw [heq]; rfl
                                have HE : Hid (o = some ⟨mt, UU, hs, r4⟩) := Lib.hid (by rw [HCD2.out, hap, htl, if_pos rfl])
                                generalize strOfNums tt = ts at *
                                clear hap HCD2 HBT htl
                                go_wp2_with (first | (refine wl_load rfl _ _ rfl g11 0 (av mS uS (.slice A 0 c) bS) (av mS uS (.slice A 0 c) bS) _ (HO11.out.heap (.head _)) (by rfl) _ Tryz.underlying31 rfl rask_size (by rfl) ?_) | (refine wl_store rfl _ _ _ rfl HO11.out 1 g2 0 _ (av mS uS (.slice A 0 c) bS) _ rfl (by rfl) (by rfl) rask_size (one_av rfl) (by simp [av]) ?_; intro wz hO; have HZ := Lib.hid (hO.cast (L' := (g11, .cells (av mS uS (.slice A 0 c) bS).toArray 31) :: (g2, .cells (av mS uS (.slice A 0 c) bS).toArray 31) :: (L ++ R)) rfl); clear hO HO11))
                                have hc0 : wz.cell? ⟨g2, 0, none⟩ = some (.string mS) := HZ.out.cell (.tail _ (.head _)) 0
                                have hc1 : wz.cell? ⟨g2, 1, none⟩ = some (.string uS) := HZ.out.cell (.tail _ (.head _)) 1
                                have hc2 : wz.cell? ⟨g2, 2, none⟩ = some (.slice A 0 c) := HZ.out.cell (.tail _ (.head _)) 2
                                have hc3 : wz.cell? ⟨g2, 3, none⟩ = some (.string bS) := HZ.out.cell (.tail _ (.head _)) 3
                                exact bodyPost_ret (v := .tuple #[.agg #[.string mS, .string uS, (.slice A 0 c), .string bS], .bool true]) (by simp [results, Tryz.results11, go_sem, hc0, hc1, hc2, hc3]) rfl ⟨(.slice A 0 c), L, by rw [HE.out]; simp only [Option.getD_some, Option.isSome_some, if_true]; rw [HMS.out, ← HUS2.out, HBS.out]; rfl, by rw [HE.out]; exact HLH.out, HZ.out.tail.tail⟩
                              · rw [decide_eq_false htl] at heq
                                have heq2 : ((strOfNums tt).toList != (strOfNums l).toList) = true := by unfold bne; rw [heq]; rfl
                                have HE : Hid (o = none) := Lib.hid (by rw [HCD2.out, hap, if_neg (by simpa using htl)])
                                generalize strOfNums tt = ts at *
                                clear hap HCD2 HBT htl
                                go_wp2_with (refine wl_store rfl _ _ _ rfl HO11.out 1 g2 0 _ (av ⟨#[]⟩ ⟨#[]⟩ (.slice none 0 0) ⟨#[]⟩) _ rfl (by rfl) (by rfl) rask_size (one_av rfl) (by simp [av]) ?_; intro wz hO; have HZ := Lib.hid (hO.cast (L' := (g11, .cells (av mS uS (.slice A 0 c) bS).toArray 31) :: (g2, .cells (av ⟨#[]⟩ ⟨#[]⟩ (.slice none 0 0) ⟨#[]⟩).toArray 31) :: (L ++ R)) rfl); clear hO HO11)
                                have hc0 : wz.cell? ⟨g2, 0, none⟩ = some (.string ⟨#[]⟩) := HZ.out.cell (.tail _ (.head _)) 0
                                have hc1 : wz.cell? ⟨g2, 1, none⟩ = some (.string ⟨#[]⟩) := HZ.out.cell (.tail _ (.head _)) 1
                                have hc2 : wz.cell? ⟨g2, 2, none⟩ = some (.slice none 0 0) := HZ.out.cell (.tail _ (.head _)) 2
                                have hc3 : wz.cell? ⟨g2, 3, none⟩ = some (.string ⟨#[]⟩) := HZ.out.cell (.tail _ (.head _)) 3
                                exact bodyPost_ret (v := .tuple #[.agg #[.string ⟨#[]⟩, .string ⟨#[]⟩, .slice none 0 0, .string ⟨#[]⟩], .bool false]) (by simp [results, Tryz.results11, go_sem, hc0, hc1, hc2, hc3]) rfl ⟨.slice none 0 0, [], by rw [HE.out]; rfl, by rw [HE.out]; exact isHeads_nil, HZ.out.tail.tail.right⟩
                          · have hne : (hs.map toB) ≠ [] := fun h => by have h1 := congrArg List.length h; rw [List.length_map] at h1; have := HH.out.2; simp at h1; subst h1; simp at this; omega
                            have HLA : Hid (lastA (hs, r4) = hs.dropLast) := Lib.hid (by unfold lastA; simp only; rw [if_neg hre])
                            obtain ⟨gh, c', hve, hc1, hc2, hcut⟩ := HH.out.1.cut hne
                            have hml : (hs.map toB).length = m := by rw [List.length_map]; exact HH.out.2.symm
                            rw [hml] at hve hc1 hcut
                            cases hve
                            have HLH : Hid (IsHeads (.slice (some ⟨gh, 0, none⟩) (m - 1) c) (hs.dropLast.map toB) L) := Lib.hid (by rw [List.map_dropLast]; exact hcut)
                            have hmk : (0 : Int) ≤ (m : Int) - 1 := by omega
                            have hmk2 : (m : Int) - 1 ≤ c := by omega
                            have hmk3 : ((m : Int) - 1).toNat = m - 1 := by omega
                            clear hre hcut hml hne hc2
                            go_wp2_with (first | (refine wl_store1 rfl _ _ _ rfl HO9.out 0 g11 3 _ (.string bS) _ rfl (by rfl) (by rfl) (by rfl) (by kernel_rfl) (by rfl) (by simp [av]) ?_; intro w9 hO; have HO10 := Lib.hid (hO.cast (L' := (g11, .cells (av mS uS (.slice (some ⟨gh, 0, none⟩) m c) bS).toArray 31) :: (g2, .cells (av ⟨#[]⟩ ⟨#[]⟩ (.slice none 0 0) ⟨#[]⟩).toArray 31) :: (L ++ R)) rfl); clear hO HO9; have k2 : w9.cell? ⟨g11, 2, none⟩ = some (.slice (some ⟨gh, 0, none⟩) m c) := HO10.out.cell (.head _) 2; have k3 : w9.cell? ⟨g11, 3, none⟩ = some (.string bS) := HO10.out.cell (.head _) 3) | (refine wl_store1 rfl _ _ _ rfl HO10.out 0 g11 2 _ (.slice (some ⟨gh, 0, none⟩) (m - 1) c) _ rfl (by rfl) (by rfl) (by rfl) (by kernel_rfl) (by rfl) (by simp [av]) ?_; intro w9b hO; have HO10 := Lib.hid (hO.cast (L' := (g11, .cells (av mS uS (.slice (some ⟨gh, 0, none⟩) (m - 1) c) bS).toArray 31) :: (g2, .cells (av ⟨#[]⟩ ⟨#[]⟩ (.slice none 0 0) ⟨#[]⟩).toArray 31) :: (L ++ R)) rfl); clear hO k2 k3) | (refine wl_load rfl _ _ rfl g11 0 (av mS uS (.slice (some ⟨gh, 0, none⟩) (m - 1) c) bS) (av mS uS (.slice (some ⟨gh, 0, none⟩) (m - 1) c) bS) _ (HO10.out.heap (.head _)) (by rfl) _ Tryz.underlying31 rfl rask_size (by rfl) ?_))
                            have hcd2 := HCD.out
                            rw [HLA.out] at hcd2
                            have hsub : ∀ x ∈ hs.dropLast, Byt x.1 ∧ Byt x.2 := fun x hx => HI.out.2.2.1 x (by first | exact hx | exact (List.dropLast_sublist _).subset hx)
                            have hasc := rprintAsk_c HO10.out mS uS (.slice (some ⟨gh, 0, none⟩) (m - 1) c) ((hs.dropLast).map toB) (HLH.out.hrd (List.Sublist.cons _ (List.Sublist.cons _ (List.sublist_append_left _ _)))) bS (by rw [← HMS.out, strOfNums_size]; have := HMTL.out; omega) (by rw [HUS2.out, strOfNums_size]; have := HUL.out; omega) (by rw [← HBS.out, strOfNums_size]; have := HR4.out.2; omega) (by rw [hl_toB hsub]; have h1 := lastA_len hs r4; rw [HLA.out] at h1; have := HI.out.2.2.2; omega)
                            rw [show aL mS uS ((hs.dropLast).map toB) bS = ⟨mt, UU, hs.dropLast, r4⟩ by rw [← HMS.out, HUS2.out, ← HBS.out]; exact aL_str (a := ⟨mt, UU, hs.dropLast, r4⟩) HMB.out.1 HUB.out hsub HR4.out.1] at hasc
                            have hbt := fun t => askP_byt (a := ⟨mt, UU, hs.dropLast, r4⟩) (t := t) HMB.out.1 HUB.out hsub HR4.out.1
                            have HASC := Lib.hid hasc; have HCD2 := Lib.hid (HYES.out _ hcd2); have HBT := Lib.hid hbt
                            clear hasc hcd2 hsub hbt
                            with_reducible refine HASC.out.mono ?_
                            clear HASC
                            rintro e w10 ⟨rfl, hO⟩
                            have HO11 := Lib.hid hO; clear hO HO10
                            cases hap : askP ⟨mt, UU, hs.dropLast, r4⟩ with
                            | none =>
                              have HE : Hid (o = none) := Lib.hid (by rw [HCD2.out, hap, if_neg (by simp)])
                              simp only [Option.getD_none, Option.isSome_none]
                              clear hap HCD2 HBT
                              go_wp2_with (refine wl_store rfl _ _ _ rfl HO11.out 1 g2 0 _ (av ⟨#[]⟩ ⟨#[]⟩ (.slice none 0 0) ⟨#[]⟩) _ rfl (by rfl) (by rfl) rask_size (one_av rfl) (by simp [av]) ?_; intro wz hO; have HZ := Lib.hid (hO.cast (L' := (g11, .cells (av mS uS (.slice (some ⟨gh, 0, none⟩) (m - 1) c) bS).toArray 31) :: (g2, .cells (av ⟨#[]⟩ ⟨#[]⟩ (.slice none 0 0) ⟨#[]⟩).toArray 31) :: (L ++ R)) rfl); clear hO HO11)
                              have hc0 : wz.cell? ⟨g2, 0, none⟩ = some (.string ⟨#[]⟩) := HZ.out.cell (.tail _ (.head _)) 0
                              have hc1 : wz.cell? ⟨g2, 1, none⟩ = some (.string ⟨#[]⟩) := HZ.out.cell (.tail _ (.head _)) 1
                              have hc2 : wz.cell? ⟨g2, 2, none⟩ = some (.slice none 0 0) := HZ.out.cell (.tail _ (.head _)) 2
                              have hc3 : wz.cell? ⟨g2, 3, none⟩ = some (.string ⟨#[]⟩) := HZ.out.cell (.tail _ (.head _)) 3
                              exact bodyPost_ret (v := .tuple #[.agg #[.string ⟨#[]⟩, .string ⟨#[]⟩, .slice none 0 0, .string ⟨#[]⟩], .bool false]) (by simp [results, Tryz.results11, go_sem, hc0, hc1, hc2, hc3]) rfl ⟨.slice none 0 0, [], by rw [HE.out]; rfl, by rw [HE.out]; exact isHeads_nil, HZ.out.tail.tail.right⟩
                            | some tt =>
                              have heq := beq_str (HBT.out tt hap) HB.out
                              simp only [Option.getD_some, Option.isSome_some]
                              by_cases htl : tt = l
                              · rw [decide_eq_true htl] at heq
                                have heq2 : ((strOfNums tt).toList != (strOfNums l).toList) = false := by unfold bne; rw [heq]; rfl
                                have HE : Hid (o = some ⟨mt, UU, hs.dropLast, r4⟩) := Lib.hid (by rw [HCD2.out, hap, htl, if_pos rfl])
                                generalize strOfNums tt = ts at *
                                clear hap HCD2 HBT htl
                                go_wp2_with (first | (refine wl_load rfl _ _ rfl g11 0 (av mS uS (.slice (some ⟨gh, 0, none⟩) (m - 1) c) bS) (av mS uS (.slice (some ⟨gh, 0, none⟩) (m - 1) c) bS) _ (HO11.out.heap (.head _)) (by rfl) _ Tryz.underlying31 rfl rask_size (by rfl) ?_) | (refine wl_store rfl _ _ _ rfl HO11.out 1 g2 0 _ (av mS uS (.slice (some ⟨gh, 0, none⟩) (m - 1) c) bS) _ rfl (by rfl) (by rfl) rask_size (one_av rfl) (by simp [av]) ?_; intro wz hO; have HZ := Lib.hid (hO.cast (L' := (g11, .cells (av mS uS (.slice (some ⟨gh, 0, none⟩) (m - 1) c) bS).toArray 31) :: (g2, .cells (av mS uS (.slice (some ⟨gh, 0, none⟩) (m - 1) c) bS).toArray 31) :: (L ++ R)) rfl); clear hO HO11))
                                have hc0 : wz.cell? ⟨g2, 0, none⟩ = some (.string mS) := HZ.out.cell (.tail _ (.head _)) 0
                                have hc1 : wz.cell? ⟨g2, 1, none⟩ = some (.string uS) := HZ.out.cell (.tail _ (.head _)) 1
                                have hc2 : wz.cell? ⟨g2, 2, none⟩ = some (.slice (some ⟨gh, 0, none⟩) (m - 1) c) := HZ.out.cell (.tail _ (.head _)) 2
                                have hc3 : wz.cell? ⟨g2, 3, none⟩ = some (.string bS) := HZ.out.cell (.tail _ (.head _)) 3
                                exact bodyPost_ret (v := .tuple #[.agg #[.string mS, .string uS, (.slice (some ⟨gh, 0, none⟩) (m - 1) c), .string bS], .bool true]) (by simp [results, Tryz.results11, go_sem, hc0, hc1, hc2, hc3]) rfl ⟨(.slice (some ⟨gh, 0, none⟩) (m - 1) c), L, by rw [HE.out]; simp only [Option.getD_some, Option.isSome_some, if_true]; rw [HMS.out, ← HUS2.out, HBS.out]; rfl, by rw [HE.out]; exact HLH.out, HZ.out.tail.tail⟩
                              · rw [decide_eq_false htl] at heq
                                have heq2 : ((strOfNums tt).toList != (strOfNums l).toList) = true := by unfold bne; rw [heq]; rfl
                                have HE : Hid (o = none) := Lib.hid (by rw [HCD2.out, hap, if_neg (by simpa using htl)])
                                generalize strOfNums tt = ts at *
                                clear hap HCD2 HBT htl
                                go_wp2_with (refine wl_store rfl _ _ _ rfl HO11.out 1 g2 0 _ (av ⟨#[]⟩ ⟨#[]⟩ (.slice none 0 0) ⟨#[]⟩) _ rfl (by rfl) (by rfl) rask_size (one_av rfl) (by simp [av]) ?_; intro wz hO; have HZ := Lib.hid (hO.cast (L' := (g11, .cells (av mS uS (.slice (some ⟨gh, 0, none⟩) (m - 1) c) bS).toArray 31) :: (g2, .cells (av ⟨#[]⟩ ⟨#[]⟩ (.slice none 0 0) ⟨#[]⟩).toArray 31) :: (L ++ R)) rfl); clear hO HO11)
                                have hc0 : wz.cell? ⟨g2, 0, none⟩ = some (.string ⟨#[]⟩) := HZ.out.cell (.tail _ (.head _)) 0
                                have hc1 : wz.cell? ⟨g2, 1, none⟩ = some (.string ⟨#[]⟩) := HZ.out.cell (.tail _ (.head _)) 1
                                have hc2 : wz.cell? ⟨g2, 2, none⟩ = some (.slice none 0 0) := HZ.out.cell (.tail _ (.head _)) 2
                                have hc3 : wz.cell? ⟨g2, 3, none⟩ = some (.string ⟨#[]⟩) := HZ.out.cell (.tail _ (.head _)) 3
                                exact bodyPost_ret (v := .tuple #[.agg #[.string ⟨#[]⟩, .string ⟨#[]⟩, .slice none 0 0, .string ⟨#[]⟩], .bool false]) (by simp [results, Tryz.results11, go_sem, hc0, hc1, hc2, hc3]) rfl ⟨.slice none 0 0, [], by rw [HE.out]; rfl, by rw [HE.out]; exact isHeads_nil, HZ.out.tail.tail.right⟩
                      · rw [decide_eq_false hp] at hem
                        have HS2 : Hid (headsA [] r3 = (headA p4).bind fun h => headsA (hs ++ [h]) r4) := Lib.hid (by rw [HST.out, if_neg hp])
                        have hp4 : p4.length ≤ 4000000 := by have h1 := HPL4.out; have h2 := HI.out.2.2.2; omega
                        have hunt := fun w : World => until_l (w := w) HPB4.out (by omega)
                        have hvl : (behind [58] p4).length ≤ p4.length := (List.dropWhile_sublist _).length_le
                        have hsz4 : (strOfNums (behind [58] p4)).size = (behind [58] p4).length := strOfNums_size _
                        have hix := fun (w : World) (h : 1 < (strOfNums (behind [58] p4)).size) => index_at w (strOfNums (behind [58] p4)) 1 1 rfl h
                        rw [sb_str (behind_byt HPB4.out)] at hix
                        have hex4 : (strOfNums (behind [58] p4)).extract 2 (strOfNums (behind [58] p4)).size = strOfNums ((behind [58] p4).drop 2) := by rw [ext_str, sb_str (behind_byt HPB4.out), strOfNums_size, win_rest _ _ _ rfl]
                        have hhn : ¬ (2 ≤ (behind [58] p4).length ∧ (behind [58] p4).getD 1 0 = 32) → headA p4 = none := fun h => by unfold headA; rw [if_neg h]
                        have hhy : (2 ≤ (behind [58] p4).length ∧ (behind [58] p4).getD 1 0 = 32) → headA p4 = some (ahead [58] p4, (behind [58] p4).drop 2) := fun h => by unfold headA; rw [if_pos h]
                        have hhl := fun h => headA_len (p := p4) (n := ahead [58] p4) (v := (behind [58] p4).drop 2) HPB4.out h
                        generalize ahead [58] p4 = na at *
                        generalize (behind [58] p4).drop 2 = va at *
                        generalize (behind [58] p4).getD 1 0 = x4 at *
                        generalize (behind [58] p4).length = ln4 at *
                        generalize strOfNums (behind [58] p4) = vs4 at *
                        have HUN := Lib.hid hunt; have HIX := Lib.hid hix; have HHN := Lib.hid hhn; have HHY := Lib.hid hhy; have HHL := Lib.hid hhl; have HEX4 := Lib.hid hex4
                        have hvz : vs4.size ≤ 4000000 := by omega
                        clear hunt hix hhn hhy hhl hex4 hvl hp HST
                        go_wp2_with fail
                        with_reducible refine (HUN.out _).mono ?_
                        clear HUN
                        rintro e w9 ⟨rfl, qq, hww⟩
                        have HO10 := Lib.hid (HO9.out.drewN qq); rw [← hww] at HO10; clear hww HO9
                        by_cases hc2 : vs4.size < 2
                        · have HE : Hid (o = none) := Lib.hid (HNO.out (by rw [HCA5.out, HS2.out, HHN.out (by omega)]; rfl))
                          have hc2' : (vs4.size : Int) < 2 := by omega
                          clear hsz4
                          go_wp2_with (refine wl_store rfl _ _ _ rfl HO10.out 1 g2 0 _ (av ⟨#[]⟩ ⟨#[]⟩ (.slice none 0 0) ⟨#[]⟩) _ rfl (by rfl) (by rfl) rask_size (one_av rfl) (by simp [av]) ?_; intro wz hO; have HZ := Lib.hid (hO.cast (L' := (g11, .cells (av mS uS (.slice A m c) ⟨#[]⟩).toArray 31) :: (g2, .cells (av ⟨#[]⟩ ⟨#[]⟩ (.slice none 0 0) ⟨#[]⟩).toArray 31) :: (L ++ R)) rfl); clear hO HO10)
                          have hc0 : wz.cell? ⟨g2, 0, none⟩ = some (.string ⟨#[]⟩) := HZ.out.cell (.tail _ (.head _)) 0
                          have hc1 : wz.cell? ⟨g2, 1, none⟩ = some (.string ⟨#[]⟩) := HZ.out.cell (.tail _ (.head _)) 1
                          have hc2 : wz.cell? ⟨g2, 2, none⟩ = some (.slice none 0 0) := HZ.out.cell (.tail _ (.head _)) 2
                          have hc3 : wz.cell? ⟨g2, 3, none⟩ = some (.string ⟨#[]⟩) := HZ.out.cell (.tail _ (.head _)) 3
                          exact bodyPost_ret (v := .tuple #[.agg #[.string ⟨#[]⟩, .string ⟨#[]⟩, .slice none 0 0, .string ⟨#[]⟩], .bool false]) (by simp [results, Tryz.results11, go_sem, hc0, hc1, hc2, hc3]) rfl ⟨.slice none 0 0, [], by rw [HE.out]; rfl, by rw [HE.out]; exact isHeads_nil, HZ.out.tail.tail.right⟩
                        · have hc2' : ¬ (vs4.size : Int) < 2 := by omega
                          have hix2 := HIX.out w9 (by omega)
                          by_cases hx : x4 = 32
                          · have hhd := HHY.out ⟨by omega, hx⟩
                            have hx' : (x4 != 32) = false := by simp [hx]
                            obtain ⟨hq1, hq2, hq3⟩ := HHL.out hhd
                            have HNX : Hid (headsA (hs ++ [(na, va)]) r4 = headsA [] r3) := Lib.hid (by rw [HS2.out, hhd]; rfl)
                            have HBN : Hid (∀ y ∈ hs ++ [(na, va)], Byt y.1 ∧ Byt y.2) := Lib.hid (fun y hy => by rcases List.mem_append.1 hy with hy | hy; exact HI.out.2.2.1 y hy; rw [List.mem_singleton.1 hy]; exact ⟨hq2, hq3⟩)
                            have HLN2 : Hid ((headsP (hs ++ [(na, va)])).length + r4.length ≤ 4000000) := Lib.hid (by
                              rw [headsP_app, List.length_append, show headsP [(na, va)] = headP (na, va) by simp [headsP], hq1]
                              have h1 := HPL4.out; have h2 := HI.out.2.2.2; omega)
                            have HLT : Hid (r4.length < r.length) := Lib.hid (by have := HPL4.out; omega)
                            have hj2 : (2 : Int) ≤ vs4.size := by omega
                            have hex5 := HEX4.out
                            have HV1 : Hid (IsHeads (.slice A m c) (hs.map toB) L) := Lib.hid HH.out.1
                            have HMM : Hid ((hs.map toB).length = m) := Lib.hid (by rw [List.length_map, HH.out.2])
                            generalize hna : strOfNums na = nS at *
                            generalize hva : strOfNums va = vS at *
                            have HTB : Hid (toB (na, va) = (nS, vS)) := Lib.hid (by unfold toB; simp only; rw [hna, hva])
                            clear hhd hq1 hq2 hq3 hsz4 hna hva hx HHN HHY HHL HIX
                            go_wp2_with fail
                            refine wp_region_tree3 (fun w' => w'.cell? ⟨g11, 2, none⟩ = some (.slice A m c)) 9 (.q 0 (.q 1 (.q 2 (.q 3 (.q 4 (.q 5 (.one 6 (.one 7 (.q 8 .done))))))))) (by kernel_rfl) (by decide +kernel) (fun _ _ d _ _ h => by cases d <;> exact h) (HO10.out.drew.cell (.head _) 2) ?_
                            simp only [List.drop_succ_cons, List.drop_zero]
                            have HT := Lib.hid HO10.out.drew; clear HO10 hix2
                            iterate 6 (refine t3_q ?_ rfl ?_ ?_; rotate_left 1; (focus (rintro w' hO; simp only [pick_zero, pick_succ]; go_simp; first | done | with_reducible rfl | (trace_state; fail))); simp only [pick_zero, pick_succ]; simp only [Act.put, List.setIfInBounds_toArray, List.set_cons_zero, List.set_cons_succ])
                            refine t3_one ?_
                            simp only [pick_zero, pick_succ]
                            refine wl_buildSlice rfl _ 1 [(0, _)] rfl HT.out _ (build_heads1 _ nS vS) ?_
                            intro gn w10 hO
                            have HT1 : Hid (Own w0 w10 (L ++ ((gn, .cells (hv2 (nS, vS)).toArray 46) :: (g11, .cells (av mS uS (.slice A m c) ⟨#[]⟩).toArray 31) :: (g2, .cells (av ⟨#[]⟩ ⟨#[]⟩ (.slice none 0 0) ⟨#[]⟩).toArray 31) :: R))) := Lib.hid (hO.perm (by
                              have e : ∀ (a b c : Nat × Obj) (X Y : Blks), (a :: b :: c :: (X ++ Y)).Perm (X ++ (a :: b :: c :: Y)) := fun a b c X Y => (List.Perm.cons a ((List.Perm.cons b List.perm_middle.symm).trans List.perm_middle.symm)).trans List.perm_middle.symm
                              exact e _ _ _ L R))
                            clear hO HT
                            refine ActPost.mk (fun w' => w'.cell? ⟨g11, 2, none⟩ = some (.slice A m c)) (fun w' h => h) (HT1.out.cell (List.mem_append_right _ (.tail _ (.head _))) 2) ?_; simp only [Act.put, List.setIfInBounds_toArray, List.set_cons_zero, List.set_cons_succ]
                            refine t3_one ?_
                            simp only [pick_zero, pick_succ]
                            refine wl_appendH1 rfl _ _ rfl (.slice A m c) (hs.map toB) (by rfl) HV1.out HT1.out gn 1 (nS, vS) (by rfl) (.head _) (by rw [HMM.out]; omega) ?_
                            intro v2 wa L2 hv2' hO
                            have HV2 := Lib.hid hv2'
                            obtain ⟨A2, c2, hve⟩ := IsRow.val hv2'
                            rw [List.length_append, HMM.out, List.length_singleton] at hve
                            subst hve
                            have HT2 : Hid (Own w0 wa ((g11, .cells (av mS uS (.slice A m c) ⟨#[]⟩).toArray 31) :: (g2, .cells (av ⟨#[]⟩ ⟨#[]⟩ (.slice none 0 0) ⟨#[]⟩).toArray 31) :: (L2 ++ R))) := Lib.hid (hO.strike.rise2)
                            clear hO hv2' HT1
                            refine ActPost.mk (fun w' => w'.cell? ⟨g11, 2, none⟩ = some (.slice A m c)) (fun w' h => h) (HT2.out.cell (.head _) 2) ?_; simp only [Act.put, List.setIfInBounds_toArray, List.set_cons_zero, List.set_cons_succ]
                            refine t3_q ?_ rfl ?_ ?_; rotate_left 1; (focus (rintro w' hO; simp only [pick_zero, pick_succ]; go_simp; first | done | with_reducible rfl | (trace_state; fail))); simp only [pick_zero, pick_succ]; simp only [Act.put, List.setIfInBounds_toArray, List.set_cons_zero, List.set_cons_succ]
                            refine t3_done ?_
                            go_wp2_with (refine wl_store1 rfl _ _ _ rfl HT2.out 0 g11 2 _ (.slice A2 (m + 1) c2) _ rfl (by rfl) (by rfl) (by rfl) (by kernel_rfl) (by rfl) (by simp [av]) ?_; intro ws hO; have HT3 := Lib.hid (hO.cast (L' := (g11, .cells (av mS uS (.slice A2 (m + 1) c2) ⟨#[]⟩).toArray 31) :: (g2, .cells (av ⟨#[]⟩ ⟨#[]⟩ (.slice none 0 0) ⟨#[]⟩).toArray 31) :: (L2 ++ R)) rfl); clear hO HT2)
                            simp only [Act.put, List.setIfInBounds_toArray, List.set_cons_zero, List.set_cons_succ]
                            go_roundw
                            case rel => exact ⟨r4, hs ++ [(na, va)], A2, m + 1, c2, L2, rfl, Lib.hid ⟨HRB4.out, HNX.out, HBN.out, HLN2.out⟩, Lib.hid ⟨by rw [List.map_append, List.map_cons, List.map_nil, HTB.out]; exact HV2.out, by rw [List.length_append, List.length_singleton, HH.out.2]⟩, HT3⟩
                            case measure => simp only [strSize]; rw [strOfNums_size, strOfNums_size]; exact HLT.out
                          · have hx' : (x4 != 32) = true := by simp [hx]
                            have HE : Hid (o = none) := Lib.hid (HNO.out (by rw [HCA5.out, HS2.out, HHN.out (fun h => hx h.2)]; rfl))
                            clear hx hsz4
                            go_wp2_with (refine wl_store rfl _ _ _ rfl HO10.out 1 g2 0 _ (av ⟨#[]⟩ ⟨#[]⟩ (.slice none 0 0) ⟨#[]⟩) _ rfl (by rfl) (by rfl) rask_size (one_av rfl) (by simp [av]) ?_; intro wz hO; have HZ := Lib.hid (hO.cast (L' := (g11, .cells (av mS uS (.slice A m c) ⟨#[]⟩).toArray 31) :: (g2, .cells (av ⟨#[]⟩ ⟨#[]⟩ (.slice none 0 0) ⟨#[]⟩).toArray 31) :: (L ++ R)) rfl); clear hO HO10)
                            have hc0 : wz.cell? ⟨g2, 0, none⟩ = some (.string ⟨#[]⟩) := HZ.out.cell (.tail _ (.head _)) 0
                            have hc1 : wz.cell? ⟨g2, 1, none⟩ = some (.string ⟨#[]⟩) := HZ.out.cell (.tail _ (.head _)) 1
                            have hc2 : wz.cell? ⟨g2, 2, none⟩ = some (.slice none 0 0) := HZ.out.cell (.tail _ (.head _)) 2
                            have hc3 : wz.cell? ⟨g2, 3, none⟩ = some (.string ⟨#[]⟩) := HZ.out.cell (.tail _ (.head _)) 3
                            exact bodyPost_ret (v := .tuple #[.agg #[.string ⟨#[]⟩, .string ⟨#[]⟩, .slice none 0 0, .string ⟨#[]⟩], .bool false]) (by simp [results, Tryz.results11, go_sem, hc0, hc1, hc2, hc3]) rfl ⟨.slice none 0 0, [], by rw [HE.out]; rfl, by rw [HE.out]; exact isHeads_nil, HZ.out.tail.tail.right⟩
theorem rparseAsk_c {w0 w : World} {R : Blks} (hO : Own w0 w R) (s : ByteArray) (hs : s.size ≤ 4000000) : Calls Tryz.prog 11 #[.string s] w (GotAsk w0 R (askI (sb s)) (.bool true) (.bool false)) := by
  have := rpa_l hO (l := sb s) (byt_sb s) (by rw [length_sb]; exact hs)
  rwa [str_sb] at this
end Go.Proofs.YtlcolabblpikjaaGreatDoor
