/-
  What the greater laws of chapter 4 share: the same lists, what a record needs, rows that grow.
-/
import Derived.Test.YtdndkapfaiplnaaL04a
namespace Go.Proofs.Ytdndkapfaiplnaa
set_option linter.unusedVariables false
set_option linter.unusedSimpArgs false
set_option maxRecDepth 20000
open Go.RowKit

theorem InRow.at4 {w : World} {v : Value} {xs : List Int} (h : InRow .i64 w v xs) : ∃ A c, v = .slice A xs.length c ∧ xs.length ≤ maxLen ∧ ∀ i, i < xs.length → ∃ ad, A = some ad ∧ ∀ wx L, Own w wx L → ∀ j, j < xs.length → wx.cell? (ad.add j) = some (.int .i64 (xs.getD j 0)) := by
  obtain ⟨A, n, c, rfl, hn, hc, hm, _, hA⟩ := h
  subst hn
  refine ⟨A, c, rfl, by omega, fun i hi => ?_⟩
  obtain ⟨ad, rfl, hb, hcell⟩ := hA (by omega)
  refine ⟨ad, rfl, fun wx L hO j hj => ?_⟩
  rw [hO.below.cell (by rw [block_of_add]; exact hb)]
  exact hcell j _ (by simp [List.getD, hj])
section
variable {w0 w : World} {R : Blks} {ops : Array Oper} {rest : List Oper} {op : Oper} {a : Act} {Q : Exit → Act → World → Prop} {P : Program}
/-- append onto a slice that is full: a new block; what was there stays. -/
theorem wl_appendF (hgd : op.guard = none) (s x : Operand) (t : TypeId)
    (ho : op.op = .call { callee := .builtin .append, args := #[s, x], argTypes := #[t, t] })
    (e : TypeId) (z : Value) (bytes : Nat) (ht : P.underlying t = some (.slice e)) (hinfo : (P.info? e).map (fun i => (i.zero, i.size, i.bytes)) = some (some z, 1, bytes)) (hzs : z.cells.size = 1)
    (ad : Addr) (n : Nat) (xs : List Value) (hs : a.eval s = .slice (some ad) n n) (hxl : xs.length = n) (hcell : ∀ j u, xs[j]? = some u → w.cell? (ad.add j) = some u) (hO : Own w0 w R)
    (ad2 : Addr) (m c : Nat) (news : List Value) (hx : a.eval x = .slice (some ad2) m c) (hl : news.length = m) (hm : 0 < m) (hnews : ∀ j u, news[j]? = some u → w.cell? (ad2.add j) = some u)
    (h63 : n + m ≤ maxLen) (hbytes : (n + m) * bytes ≤ 140737488355328)
    (h : ∀ v' w' L', IsRow e 1 v' (n + m) (xs ++ news) L' → Own w0 w' (L' ++ R) → wpList P ops Q rest (a.put op.dst v') w') : wpList P ops Q (op :: rest) a w := by
  obtain ⟨i, hi, hz, hz1, hz2⟩ := info_parts hinfo
  have hsmall : n + m ≤ 9223372036854775807 := by simp only [maxLen] at h63; omega
  have hr := run_append_grow (P := P) w t op.type e i z ht hi hz ad n n xs (by rw [hz1, hxl, Nat.mul_one]) hcell ad2 m c news (by rw [hz1, hl, Nat.mul_one]) hnews (by omega) (by omega) (growslice_fits (by omega) (by rw [hz2]; exact hbytes))
  refine wpList_plain hgd fun K hK => ?_
  unfold Oper.wp execOp
  simp only [ho, resolve, invoke, builtin, Sem.run_bind, Sem.run_pure, Result.andThen_ok, List.map_toArray, List.map_cons, List.map_nil, hs, hx, hr]
  refine hK _ _ (h _ _ [_] ?_ (hO.drew.alloc _))
  have hge := grownCap_ge w (n + m) n e
  have hcm : grownCap w (n + m) n e ≤ maxLen := grownCap_le_maxLen w (n + m) n e h63
  have hzl : (Builtin.zeroCells z.cells (grownCap w (n + m) n e - (n + m))).size = grownCap w (n + m) n e - (n + m) := by rw [size_zeroCells, hzs, Nat.mul_one]
  refine ⟨by simp [hxl, hl], .inr ⟨w.heap.size, _, (Builtin.zeroCells z.cells (grownCap w (n + m) n e - (n + m))).toList, rfl, ?_, ?_, hge, hcm⟩⟩
  · congr 3
    simp
  · simp only [List.length_append, Array.length_toList, hzl, hxl, hl]
    omega
end
theorem lawneed_c {w : World} (A : Option Addr) (n c : Nat) (b : List Int) (hn : b.length = n) (hl : b.length ≤ 1000000) : Calls Try.prog 34 #[.slice A n c] w fun e w' => e = .returned (.int .i64 (need b : Nat)) ∧ w = w' := by
  subst hn
  have hq : ((b.length : Int) + 4 + 19 - 1) / 19 = (need b : Nat) := by unfold need; push_cast; omega
  have HQ := Lib.hid hq
  clear hq
  have h0 : 0 ≤ (b.length : Int) + 4 + 19 - 1 := by omega
  go_enter Try.func34, Try.ntmps34
  go_wp2
  go_ret
  refine ⟨?_, rfl⟩
  rw [← HQ.out]
  first | rfl | (simp; done)
set_option maxHeartbeats 4000000 in
theorem same4_yes {w0 w : World} {R : Blks} {ra rb : Value} {bs : List (List Int)} (hO : Own w0 w R) (ha : RdRows w0 R ra bs) (hb : RdRows w0 R rb bs) (hl : ∀ b ∈ bs, b.length ≤ 1000000) (hlb : bs.length ≤ 1000000) :
    Calls Try.prog 33 #[ra, rb] w (Gave w0 R (.bool true)) := by
  obtain ⟨va, ha1, ha2, ha3⟩ := ha
  obtain ⟨vb, hb1, hb2, hb3⟩ := hb
  obtain ⟨Aa, ca, rfl⟩ : ∃ A c, ra = .slice A bs.length c := by obtain ⟨A, c, e⟩ := (ha1 w [] hO).len; exact ⟨A, c, by rw [e, ha2]⟩
  obtain ⟨Ab, cb, rfl⟩ : ∃ A c, rb = .slice A bs.length c := by obtain ⟨A, c, e⟩ := (hb1 w [] hO).len; exact ⟨A, c, by rw [e, hb2]⟩
  have HO := Lib.hid hO; have HA1 := Lib.hid ha1; have HA2 := Lib.hid ha2; have HA3 := Lib.hid ha3; have HB1 := Lib.hid hb1; have HB2 := Lib.hid hb2; have HB3 := Lib.hid hb3; have HL := Lib.hid hl
  clear hO ha1 ha2 ha3 hb1 hb2 hb3 hl
  have hne : ((bs.length : Int) != (bs.length : Int)) = false := by simp
  go_enter Try.func33, Try.ntmps33
  go_wp2
  go_loopw [13] (fun t w' => ∃ i : Nat, i ≤ bs.length ∧ t = .int .i64 i ∧ Hid (Own w0 w' R)) (fun t _ => bs.length - (intOf t).toNat)
  case atStart => exact ⟨0, Nat.zero_le _, rfl, HO.out⟩
  case round =>
    obtain ⟨i, hi, rfl, HOi⟩ := hrel
    clear HO
    by_cases hlt : i < bs.length
    · obtain ⟨A1, n1, c1, e1, hn1, _, hA1⟩ := HA1.out wr [] HOi.out
      obtain ⟨A2, n2, c2, e2, hn2, _, hA2⟩ := HB1.out wr [] HOi.out
      cases e1
      cases e2
      obtain ⟨ad1, rfl, hc1⟩ := hA1 (by omega)
      obtain ⟨ad2, rfl, hc2⟩ := hA2 (by omega)
      have r1 : wr.cell? (ad1.add i) = some (va.getD i undef) := hc1 i _ (by rw [List.getD, List.getElem?_eq_getElem (by rw [HA2.out]; exact hlt)]; rfl)
      have r2 : wr.cell? (ad2.add i) = some (vb.getD i undef) := hc2 i _ (by rw [List.getD, List.getElem?_eq_getElem (by rw [HB2.out]; exact hlt)]; rfl)
      have hmem : bs.getD i [] ∈ bs := by rw [List.getD, List.getElem?_eq_getElem hlt]; exact List.getElem_mem hlt
      have s1 := (HA3.out i hlt) wr.drew [] HOi.out.drew
      have s2 := (HB3.out i hlt) wr.drew [] HOi.out.drew
      have hcall := same_c (w := wr.drew) _ _ _ _ s1 s2 (by have := HL.out _ hmem; omega)
      rw [decide_eq_true rfl] at hcall
      have HC := Lib.hid hcall
      clear hcall s1 s2 hc1 hc2 hA1 hA2 hn1 hn2 hmem
      have HO1 := Lib.hid HOi.out.drew
      clear HOi
      generalize va.getD i undef = x1 at *
      generalize vb.getD i undef = x2 at *
      have hiI : (i : Int) < bs.length := by omega
      go_wp2_with fail
      refine wp_region_lin (fun w' => ∃ m, w' = wr.drew.drewN m) 10 [(0, true), (1, true), (2, true), (3, true), (4, true), (5, true), (6, true), (7, true), (8, false), (9, true)] (by kernel_rfl) (by kernel_rfl) (fun _ _ d _ _ h => by cases d <;> exact h) ⟨0, rfl⟩ ?_
      simp only [List.map_cons, List.map_nil, pick_zero, pick_succ, List.drop_succ_cons, List.drop_zero]
      iterate 8 (refine lin_q ?_ rfl ?_ ?_; rotate_left 1; (focus (rintro w' ⟨m, rfl⟩; go_simp; first | done | with_reducible rfl | (trace_state; fail))); simp only [Act.put, List.setIfInBounds_toArray, List.set_cons_zero, List.set_cons_succ])
      refine lin_act ?_
      refine wl_call rfl _ _ _ (by go_simp) HC.out ?_
      rintro e w3 ⟨rfl, m3, rfl⟩
      refine ⟨_, rfl, LinPost.mk ⟨m3, rfl⟩ ?_⟩
      simp only [Act.put, List.setIfInBounds_toArray, List.set_cons_zero, List.set_cons_succ]
      iterate 1 (refine lin_q ?_ rfl ?_ ?_; rotate_left 1; (focus (rintro w' -; go_simp; first | done | with_reducible rfl | (trace_state; fail))); simp only [Act.put, List.setIfInBounds_toArray, List.set_cons_zero, List.set_cons_succ])
      refine lin_nil ?_
      have HO4 := Lib.hid (HO1.out.drewN m3)
      clear HO1 HC r1 r2
      generalize wr.drew.drewN m3 = w4 at *
      go_wp2
      go_roundw
      case rel => exact ⟨i + 1, by omega, by go_num, HO4.out⟩
      case measure => simp [intOf]; omega
    · obtain rfl : i = bs.length := by omega
      go_wp2
      go_ret
      exact ⟨rfl, HOi.out⟩
end Go.Proofs.Ytdndkapfaiplnaa
