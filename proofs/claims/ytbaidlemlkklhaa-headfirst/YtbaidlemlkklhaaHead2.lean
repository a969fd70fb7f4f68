/-
  Package head: Forbidden; headers in a row: Get.
-/
import Derived.Test.YtbaidlemlkklhaaHead1
import Derived.Test.YtbaidlemlkklhaaBld
namespace Go.Proofs.Ytbaidlemlkklhaa
set_option linter.unusedVariables false
set_option linter.unusedSimpArgs false
set_option maxRecDepth 20000
open Go.RowKit

/-- A string held against a constant, as the walk compares them. -/
theorem beq_lit (o : ByteArray) (l : List UInt8) (m : List Int) (h : l.map (fun b => (b.toNat : Int)) = m) : (o.toList == l) = decide (sb o = m) := by
  have h1 := beq_sb o ⟨l.toArray⟩
  have h2 : (⟨l.toArray⟩ : ByteArray).toList = l := by rw [ByteArray.toList_eq]
  have h3 : sb ⟨l.toArray⟩ = m := by rw [← h]; rfl
  rw [h2, h3] at h1
  exact h1
set_option maxHeartbeats 4000000 in
theorem hforb_c {w0 w : World} {R : Blks} (hO : Own w0 w R) (s : ByteArray) (hs : s.size ≤ 1073741824) :
    Calls Try.prog 15 #[.string s] w fun e w' => e = .returned (.bool (forbI (sb s))) ∧ Own w0 w' R := by
  have H := lower_c hO s hs
  obtain ⟨o, ho⟩ : ∃ o, strOfNums (lowL (sb s)) = o := ⟨_, rfl⟩
  have hso : sb o = lowL (sb s) := by rw [← ho, sb_str]; intro x hx; simp only [lowL, List.mem_map] at hx; obtain ⟨y, hy, rfl⟩ := hx; have := byt_sb s y hy; unfold lowI; split <;> omega
  have e1 : (o.toList == ([104, 111, 115, 116] : List UInt8)) = decide (lowL (sb s) = [104, 111, 115, 116]) := by rw [beq_lit o _ [104, 111, 115, 116] rfl, hso]
  have e2 : (o.toList == ([111, 114, 105, 103, 105, 110] : List UInt8)) = decide (lowL (sb s) = [111, 114, 105, 103, 105, 110]) := by rw [beq_lit o _ [111, 114, 105, 103, 105, 110] rfl, hso]
  have e3 : (o.toList == ([114, 101, 102, 101, 114, 101, 114] : List UInt8)) = decide (lowL (sb s) = [114, 101, 102, 101, 114, 101, 114]) := by rw [beq_lit o _ [114, 101, 102, 101, 114, 101, 114] rfl, hso]
  have e4 : (o.toList == ([99, 111, 111, 107, 105, 101] : List UInt8)) = decide (lowL (sb s) = [99, 111, 111, 107, 105, 101]) := by rw [beq_lit o _ [99, 111, 111, 107, 105, 101] rfl, hso]
  have e5 : (o.toList == ([99, 111, 110, 110, 101, 99, 116, 105, 111, 110] : List UInt8)) = decide (lowL (sb s) = [99, 111, 110, 110, 101, 99, 116, 105, 111, 110]) := by rw [beq_lit o _ [99, 111, 110, 110, 101, 99, 116, 105, 111, 110] rfl, hso]
  have e6 : (o.toList == ([114, 97, 110, 103, 101] : List UInt8)) = decide (lowL (sb s) = [114, 97, 110, 103, 101]) := by rw [beq_lit o _ [114, 97, 110, 103, 101] rfl, hso]
  have e7 : (o.toList == ([105, 102, 45, 114, 97, 110, 103, 101] : List UInt8)) = decide (lowL (sb s) = [105, 102, 45, 114, 97, 110, 103, 101]) := by rw [beq_lit o _ [105, 102, 45, 114, 97, 110, 103, 101] rfl, hso]
  have p1 : ∀ w : World, _ := fun w => hpre_c (w := w) o ⟨#[115, 101, 99, 45]⟩
  have p2 : ∀ w : World, _ := fun w => hpre_c (w := w) o ⟨#[112, 114, 111, 120, 121, 45]⟩
  rw [hso] at p1 p2
  rw [show sb ⟨#[115, 101, 99, 45]⟩ = secI from rfl] at p1
  rw [show sb ⟨#[112, 114, 111, 120, 121, 45]⟩ = proxyI from rfl] at p2
  have hF : forbI (sb s) = (decide (lowL (sb s) = [104, 111, 115, 116]) || decide (lowL (sb s) = [111, 114, 105, 103, 105, 110]) || decide (lowL (sb s) = [114, 101, 102, 101, 114, 101, 114]) || decide (lowL (sb s) = [99, 111, 111, 107, 105, 101]) || decide (lowL (sb s) = [99, 111, 110, 110, 101, 99, 116, 105, 111, 110]) || decide (lowL (sb s) = [114, 97, 110, 103, 101]) || decide (lowL (sb s) = [105, 102, 45, 114, 97, 110, 103, 101]) || begI secI (lowL (sb s)) || begI proxyI (lowL (sb s))) := by
    unfold forbI fobI
    rw [Bool.eq_iff_iff]
    simp only [Bool.or_eq_true, List.contains_iff_mem, List.mem_cons, List.not_mem_nil, or_false, decide_eq_true_iff]
    simp only [or_assoc]
  rw [hF]
  rw [ho] at H
  clear hF hso ho hs hO
  generalize decide (lowL (sb s) = [104, 111, 115, 116]) = b1 at *
  generalize decide (lowL (sb s) = [111, 114, 105, 103, 105, 110]) = b2 at *
  generalize decide (lowL (sb s) = [114, 101, 102, 101, 114, 101, 114]) = b3 at *
  generalize decide (lowL (sb s) = [99, 111, 111, 107, 105, 101]) = b4 at *
  generalize decide (lowL (sb s) = [99, 111, 110, 110, 101, 99, 116, 105, 111, 110]) = b5 at *
  generalize decide (lowL (sb s) = [114, 97, 110, 103, 101]) = b6 at *
  generalize decide (lowL (sb s) = [105, 102, 45, 114, 97, 110, 103, 101]) = b7 at *
  generalize begI secI (lowL (sb s)) = b8 at *
  generalize begI proxyI (lowL (sb s)) = b9 at *
  have P1 := Lib.hid p1; have P2 := Lib.hid p2; have H := Lib.hid H
  clear p1 p2
  go_enter Try.func15, Try.ntmps15
  go_wp2_with fail
  with_reducible refine H.out.mono ?_
  rintro e w1 ⟨rfl, hO1⟩
  have HO1 := Lib.hid hO1; clear hO1 H
  cases b1 with
  | true => go_wp2; go_ret; exact ⟨rfl, HO1.out⟩
  | false =>
  cases b2 with
  | true => go_wp2; go_ret; exact ⟨rfl, HO1.out⟩
  | false =>
  cases b3 with
  | true => go_wp2; go_ret; exact ⟨rfl, HO1.out⟩
  | false =>
  cases b4 with
  | true => go_wp2; go_ret; exact ⟨rfl, HO1.out⟩
  | false =>
  cases b5 with
  | true => go_wp2; go_ret; exact ⟨rfl, HO1.out⟩
  | false =>
  cases b6 with
  | true => go_wp2; go_ret; exact ⟨rfl, HO1.out⟩
  | false =>
  cases b7 with
  | true => go_wp2; go_ret; exact ⟨rfl, HO1.out⟩
  | false =>
  cases b8 with
  | true =>
    go_wp2_with fail
    with_reducible refine (P1.out _).mono ?_
    rintro e w2 ⟨rfl, rfl⟩
    go_wp2
    go_ret
    exact ⟨rfl, HO1.out⟩
  | false =>
    go_wp2_with fail
    with_reducible refine (P1.out _).mono ?_
    rintro e w2 ⟨rfl, rfl⟩
    go_wp2_with fail
    with_reducible refine (P2.out _).mono ?_
    rintro e w2 ⟨rfl, rfl⟩
    go_wp2
    go_ret
    exact ⟨rfl, HO1.out⟩

/-! ### headers in a row -/
abbrev HL := List (ByteArray × ByteArray)
def hv2 (h : ByteArray × ByteArray) : List Value := [.string h.1, .string h.2]
def hv (hs : HL) : List Value := hs.flatMap hv2
theorem length_hv : ∀ hs : HL, (hv hs).length = hs.length * 2
  | [] => rfl
  | h :: hs => by rw [hv, List.flatMap_cons, List.length_append, ← hv, length_hv hs, hv2]; simp; omega
theorem one_hv2 (h : ByteArray × ByteArray) : ∀ v ∈ hv2 h, v.oneCell' = true := by
  intro v hv; simp only [hv2, List.mem_cons, List.not_mem_nil, or_false] at hv; rcases hv with rfl | rfl <;> rfl
theorem one_hv (hs : HL) : ∀ v ∈ hv hs, v.oneCell' = true := by
  intro v hm; rw [hv, List.mem_flatMap] at hm; obtain ⟨h, _, hm⟩ := hm; exact one_hv2 h v hm
theorem hv_append (a b : HL) : hv (a ++ b) = hv a ++ hv b := by unfold hv; rw [List.flatMap_append]
theorem hv_at : ∀ (hs : HL) (k : Nat) (h : ByteArray × ByteArray), hs[k]? = some h → ∀ j v, (hv2 h)[j]? = some v → (hv hs)[k * 2 + j]? = some v
  | [], k, h, e, _, _, _ => by cases e
  | x :: hs, 0, h, e, j, v, hj => by
    simp only [List.getElem?_cons_zero, Option.some.injEq] at e
    subst e
    rw [hv, List.flatMap_cons]
    have : 0 * 2 + j = j := by omega
    rw [this, List.getElem?_append_left (List.getElem?_eq_some_iff.1 hj).1]
    exact hj
  | x :: hs, k + 1, h, e, j, v, hj => by
    rw [List.getElem?_cons_succ] at e
    rw [hv, List.flatMap_cons, List.getElem?_append_right (by simp [hv2]; omega)]
    have : (k + 1) * 2 + j - (hv2 x).length = k * 2 + j := by simp [hv2]; omega
    rw [this]
    exact hv_at hs k h e j v hj
/-- The slice value v holds the headers hs, in world w (whoever owns them). -/
def Hs (w : World) (v : Value) (hs : HL) : Prop :=
  ∃ A n c, v = .slice A n c ∧ hs.length = n ∧ n ≤ c ∧ (0 < n → ∃ g, A = some ⟨g, 0, none⟩ ∧ ∀ j h, hs[j]? = some h → w.rangeAt g (j * 2) (hv2 h))
def HRd (w0 : World) (R : Blks) (v : Value) (hs : HL) : Prop := ∀ w' L', Own w0 w' (L' ++ R) → Hs w' v hs
theorem HRd.grow {w0 : World} {R R' : Blks} {v : Value} {xs : HL} (h : HRd w0 R v xs) (hs : R.Sublist R') : HRd w0 R' v xs := fun w' L' hO => h w' [] (hO.right.sub hs)
theorem hrd_nil {w0 : World} {R : Blks} : HRd w0 R (.slice none 0 0) [] := fun w' L' hO => ⟨_, _, _, rfl, rfl, Nat.le_refl _, fun h => absurd h (by omega)⟩
def matchI (name : List Int) (h : ByteArray × ByteArray) : Bool := decide (lowL (sb h.1) = lowL name)
def getI (name : List Int) (hs : HL) : Option ByteArray := (hs.find? (matchI name)).map (·.2)
theorem getI_drop {name : List Int} {hs : HL} {k : Nat} {h : ByteArray × ByteArray} (e : hs[k]? = some h) : getI name (hs.drop k) = if matchI name h then some h.2 else getI name (hs.drop (k + 1)) := by
  have hk := (List.getElem?_eq_some_iff.1 e)
  obtain ⟨hk, rfl⟩ := hk
  rw [List.drop_eq_getElem_cons hk]
  unfold getI
  rw [List.find?_cons]
  split <;> rename_i hm <;> simp [hm]
theorem head_size : (Try.prog.info? 32).map (·.size) = some 2 := by kernel_rfl
theorem head_info : (Try.prog.info? 32).map (fun i => (i.zero, i.size, i.bytes)) = some (some (.agg #[.string ⟨#[]⟩, .string ⟨#[]⟩]), 2, 32) := by kernel_rfl
theorem alloc_head (w : World) : (Instr.alloc 32 true (.tuple #[])).run Try.prog w = .ok (.pointer (some ⟨w.heap.size, 0, none⟩)) (w.alloc (.cells (hv2 (⟨#[]⟩, ⟨#[]⟩)).toArray 32)) := by kernel_rfl
/-- Headers in a block of the call's own. -/
def IsHeads (v : Value) (hs : HL) (L : Blks) : Prop := IsRow 32 2 v hs.length (hv hs) L
theorem isHeads_nil : IsHeads (.slice none 0 0) [] [] := ⟨rfl, .inl ⟨rfl, rfl, rfl⟩⟩
theorem IsHeads.hrd {w0 : World} {R R' : Blks} {v : Value} {hs : HL} (h : IsHeads v hs R) (hs' : R.Sublist R') : HRd w0 R' v hs := by
  intro w' L' hO
  have hO2 := hO.right.sub hs'
  rcases h.2 with ⟨rfl, h0, rfl⟩ | ⟨g, cap, sp, rfl, rfl, hl, hn, hm⟩
  · exact ⟨_, _, _, rfl, h0, Nat.le_refl _, fun h => absurd h (by omega)⟩
  · refine ⟨_, _, _, rfl, rfl, hn, fun _ => ⟨g, rfl, fun j x hx i v hv => ?_⟩⟩
    rw [hO2.cell (.head _)]
    simp only [List.getElem?_toArray]
    have := hv_at hs j x hx i v hv
    rw [List.getElem?_append_left (List.getElem?_eq_some_iff.1 this).1]
    exact this
set_option maxHeartbeats 4000000 in
theorem hget_c {w0 w : World} {R : Blks} (hO : Own w0 w R) (s : ByteArray) (hs : s.size ≤ 1073741824) (v : Value) (l : HL) (hR : HRd w0 R v l) (hll : l.length ≤ 1073741824) (hz : ∀ h ∈ l, h.1.size ≤ 1073741824 ∧ h.2.size ≤ 1073741824) :
    Calls Try.prog 10 #[.string s, v] w fun e w' => e = .returned (.tuple #[.string ((getI (sb s) l).getD ⟨#[]⟩), .bool (getI (sb s) l).isSome]) ∧ Own w0 w' R := by
  obtain ⟨A, n, c, rfl, hn, hnc, hA⟩ := hR w [] hO
  have hnm : n ≤ 1073741824 := by omega
  have H := Lib.hid (lower_c hO s hs)
  obtain ⟨m, hm⟩ : ∃ m, lowL (sb s) = m := ⟨_, rfl⟩
  have hmB : Byt m := by rw [← hm]; intro x hx; simp only [lowL, List.mem_map] at hx; obtain ⟨y, hy, rfl⟩ := hx; have := byt_sb s y hy; unfold lowI; split <;> omega
  have HM := Lib.hid hm; have HMB := Lib.hid hmB; have HN := Lib.hid hn; have HRR := Lib.hid hR; have HZ := Lib.hid hz
  clear hA hm hmB hn hR hz hO
  go_enter Try.func10, Try.ntmps10
  go_wp2_with fail
  with_reducible refine H.out.mono ?_
  rintro e w1 ⟨rfl, hO1⟩
  rw [HM.out]
  have HO1 := Lib.hid hO1; clear hO1 H
  go_wp2
  go_loopw [12] (fun t w' => ∃ k : Nat, k ≤ n ∧ t = .int .i64 k ∧ Hid (getI (sb s) l = getI (sb s) (l.drop k)) ∧ Hid (Own w0 w' R)) (fun t _ => n - (intOf t).toNat)
  case atStart => exact ⟨0, Nat.zero_le _, rfl, Lib.hid rfl, HO1⟩
  case round =>
    obtain ⟨k, hk, rfl, HG, HO2⟩ := hrel
    clear HO1
    by_cases hlt : k < n
    · have hkl : k < l.length := by rw [HN.out]; exact hlt
      obtain ⟨A', n', cp', e, _, _, hA'⟩ := HRR.out wr [] HO2.out
      cases e
      obtain ⟨g, rfl, hcell⟩ := hA' (by omega)
      have hrg := hcell k l[k] (List.getElem?_eq_getElem hkl)
      have hgd := getI_drop (name := sb s) (List.getElem?_eq_getElem hkl)
      obtain ⟨hz1, hz2⟩ := HZ.out l[k] (List.getElem_mem hkl)
      generalize l[k] = h at *
      obtain ⟨p, q⟩ := h
      have hc1 : wr.cell? ⟨g, k * 2, none⟩ = some (.string p) := hrg 0 _ rfl
      have hc2 : wr.cell? ⟨g, k * 2 + 1, none⟩ = some (.string q) := hrg 1 _ rfl
      have HGD := Lib.hid hgd
      have hkn : (k : Int) < n := by omega
      clear hcell hA' hrg hgd hkl
      go_wp2_with (first | (refine wl_alloc rfl _ rfl HO2.out _ (alloc_head _) ?_; intro gh w3 hO; have HO3 := Lib.hid hO; clear hO HO2) | (refine wl_store rfl _ _ _ rfl HO3.out 0 gh 0 _ (hv2 (p, q)) _ rfl (by rfl) (by rfl) head_size (one_hv2 _) (by simp [hv2]) ?_; intro w4 hO; have HO4 := Lib.hid (hO.cast (L' := (gh, .cells (hv2 (p, q)).toArray 32) :: R) rfl); clear hO HO3; have hc3 : w4.cell? ⟨gh, 0, none⟩ = some (.string p) := HO4.out.cell (.head _) 0; have hc4 : w4.cell? ⟨gh, 1, none⟩ = some (.string q) := HO4.out.cell (.head _) 1; clear hc1 hc2))
      have hcall := lower_c HO4.out p hz1
      obtain ⟨o, ho⟩ : ∃ o, strOfNums (lowL (sb p)) = o := ⟨_, rfl⟩
      have hoB : Byt (lowL (sb p)) := by intro x hx; simp only [lowL, List.mem_map] at hx; obtain ⟨y, hy, rfl⟩ := hx; have := byt_sb p y hy; unfold lowI; split <;> omega
      have heq : (o.toList == (strOfNums m).toList) = matchI (sb s) (p, q) := by
        rw [← ho, beq_str hoB HMB.out]
        unfold matchI
        rw [HM.out]
      rw [ho] at hcall
      clear ho hoB
      generalize matchI (sb s) (p, q) = b at *
      with_reducible refine hcall.mono ?_
      clear hcall
      rintro e w5 ⟨rfl, hO⟩
      have HO5 := Lib.hid hO; clear hO HO4
      have hc5 : w5.cell? ⟨gh, 1, none⟩ = some (.string q) := HO5.out.cell (.head _) 1
      clear hc3 hc4
      cases b with
      | true =>
        have e : getI (sb s) l = some q := by rw [HG.out, HGD.out]; rfl
        have HE := Lib.hid e
        have hcall := clone_c HO5.out q hz2
        clear e HGD HG
        go_wp2_with fail
        with_reducible refine hcall.mono ?_
        clear hcall
        rintro e w6 ⟨rfl, hO⟩
        have HO6 := Lib.hid hO; clear hO HO5
        go_wp2
        go_ret2
        exact ⟨by rw [HE.out]; rfl, HO6.out.tail⟩
      | false =>
        have hg2 := HG.out.trans HGD.out
        have HG2 := Lib.hid hg2
        have HO6 := Lib.hid HO5.out.tail
        clear hg2 HO5 HG HGD hc5
        go_wp2
        go_roundw
        case rel => exact ⟨k + 1, by omega, by go_num, HG2, HO6⟩
        case measure => simp [intOf]; omega
    · obtain rfl : k = n := by omega
      have e : getI (sb s) l = none := by rw [HG.out, List.drop_of_length_le (by rw [HN.out]; exact Nat.le_refl _)]; rfl
      have HE := Lib.hid e
      clear e
      go_wp2
      go_ret2
      exact ⟨by rw [HE.out]; rfl, HO2.out⟩
end Go.Proofs.Ytbaidlemlkklhaa
