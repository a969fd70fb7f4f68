/-
  Package mark: the bytes of a sector; mayBe, putEpoch, putSeq.
-/
import Derived.Test.YtdndkapfaiplnaaKeep
import Derived.Test.YtdndkapfaiplnaaOps2
namespace Go.Proofs.Ytdndkapfaiplnaa
set_option linter.unusedVariables false
set_option linter.unusedSimpArgs false
set_option maxRecDepth 20000
open Go.RowKit

def e2 (e : Int) : List Int := [e / 256, e % 256]
def s3 (s : Int) : List Int := [s / 65536, s / 256 % 256, s % 256]
def sealed (e s p q : Int) (b : List Int) : List Int := e2 e ++ s3 s ++ [p, q, (b.length : Int)] ++ (b ++ List.replicate (19 - b.length) 0) ++ s3 s ++ e2 e
def okMark (e s : Int) : Bool := decide (0 ≤ e ∧ e ≤ 65535 ∧ 0 ≤ s ∧ s ≤ 16777215)
def okSeal (e s p q : Int) (n : Nat) : Bool := okMark e s && decide (0 ≤ p ∧ p < q ∧ q ≤ 255 ∧ n ≤ 19)
def Gave (w0 : World) (R : Blks) (v : Value) (e : Ending) (w' : World) : Prop := e = .returned v ∧ Own w0 w' R
set_option maxHeartbeats 1000000 in
theorem mayBe_c {w0 w : World} {R : Blks} (hO : Own w0 w R) (e s : Int) : Calls Try.prog 52 #[.agg #[.int .i64 e, .int .i64 s]] w (Gave w0 R (.bool (okMark e s))) := by
  have HO := Lib.hid hO; clear hO
  by_cases h1 : 0 ≤ e
  · by_cases h2 : e ≤ 65535
    · by_cases h3 : 0 ≤ s
      · by_cases h4 : s ≤ 16777215
        · rw [show okMark e s = true by simp [okMark]; omega]
          go_enter Try.func52, Try.ntmps52
          go_wp2
          go_ret
          exact ⟨rfl, (HO.out.alloc _).tail⟩
        · rw [show okMark e s = false by simp [okMark]; omega]
          go_enter Try.func52, Try.ntmps52
          go_wp2
          go_ret
          exact ⟨rfl, (HO.out.alloc _).tail⟩
      · rw [show okMark e s = false by simp [okMark]; omega]
        go_enter Try.func52, Try.ntmps52
        go_wp2
        go_ret
        exact ⟨rfl, (HO.out.alloc _).tail⟩
    · rw [show okMark e s = false by simp [okMark]; omega]
      go_enter Try.func52, Try.ntmps52
      go_wp2
      go_ret
      exact ⟨rfl, (HO.out.alloc _).tail⟩
  · rw [show okMark e s = false by simp [okMark]; omega]
    go_enter Try.func52, Try.ntmps52
    go_wp2
    go_ret
    exact ⟨rfl, (HO.out.alloc _).tail⟩
theorem wr_bv2 (xs : List Int) (off : Nat) (a b : Int) (h : off + 2 ≤ xs.length) : ((bv xs).toArray.setIfInBounds off (.int .u8 a)).setIfInBounds (off + 1) (.int .u8 b) = (wr (bv xs) off (bv [a, b])).toArray := by
  rw [bv_set, bv_set]
  have e : ∀ y, (bv xs).set off y = (bv xs).take off ++ y :: (bv xs).drop (off + 1) := fun y => List.set_eq_take_append_cons_drop.trans (by rw [if_pos (by simp; omega)])
  congr 1
  show (bv ((xs.set off a).set (off + 1) b)) = wr (bv xs) off [.int .u8 a, .int .u8 b]
  rw [← wr_cons _ _ _ _ (by simp; omega), ← wr_cons _ _ _ _ (by simp; omega), wr_nil]
  simp [bv]
theorem wr_bv3 (xs : List Int) (off : Nat) (a b c : Int) (h : off + 3 ≤ xs.length) : (((bv xs).toArray.setIfInBounds off (.int .u8 a)).setIfInBounds (off + 1) (.int .u8 b)).setIfInBounds (off + 2) (.int .u8 c) = (wr (bv xs) off (bv [a, b, c])).toArray := by
  rw [bv_set, bv_set, bv_set]
  congr 1
  show (bv (((xs.set off a).set (off + 1) b).set (off + 2) c)) = wr (bv xs) off [.int .u8 a, .int .u8 b, .int .u8 c]
  rw [← wr_cons _ _ _ _ (by simp; omega), ← wr_cons _ _ _ _ (by simp; omega), ← wr_cons _ _ _ _ (by simp; omega), wr_nil]
  simp [bv]
def wrI (xs : List Int) (off : Nat) (ys : List Int) : List Int := xs.take off ++ ys ++ xs.drop (off + ys.length)
theorem wr_bv (xs : List Int) (off : Nat) (ys : List Int) : wr (bv xs) off (bv ys) = bv (wrI xs off ys) := by simp [wr, wrI, bv, List.map_take, List.map_drop]
set_option maxHeartbeats 1000000 in
theorem putEpoch_c {w0 w : World} {R : Blks} {g : Nat} {xs : List Int} {t : TypeId} (hO : Own w0 w ((g, .cells (bv xs).toArray t) :: R)) (off n c : Nat) (hl : off + 2 ≤ xs.length) (hn : 2 ≤ n) (e : Int) (h0 : 0 ≤ e) (h1 : e ≤ 65535) :
    Calls Try.prog 53 #[.slice (some ⟨g, off, none⟩) n c, .int .i64 e] w (Gave w0 ((g, .cells (bv (wrI xs off (e2 e))).toArray t) :: R) (.tuple #[])) := by
  have HO := Lib.hid hO; clear hO
  have hn1 : (1 : Int) < n := by omega
  go_enter Try.func53, Try.ntmps53
  go_wp2_with (first | (refine wl_store1 rfl _ _ _ rfl HO.out 0 g off _ (.int .u8 (e / 256)) _ rfl (by rfl) (by rfl) (by rfl) (by kernel_rfl) (by rfl) (by simp; omega) ?_; intro w1 hO1; have HO1 := Lib.hid hO1; clear hO1 HO) | (refine wl_store1 rfl _ _ _ rfl HO1.out 0 g (off + 1) _ (.int .u8 (e % 256)) _ rfl (by rfl) (by rfl) (by rfl) (by kernel_rfl) (by rfl) (by simp; omega) ?_; intro w2 hO2; have HO2 := Lib.hid hO2; clear hO2 HO1))
  go_end0
  refine ⟨rfl, ?_⟩
  have := HO2.out
  simp only [List.set_cons_zero] at this
  rw [wr_bv2 xs off _ _ hl, wr_bv] at this
  exact this
set_option maxHeartbeats 1000000 in
theorem putSeq_c {w0 w : World} {R : Blks} {g : Nat} {xs : List Int} {t : TypeId} (hO : Own w0 w ((g, .cells (bv xs).toArray t) :: R)) (off n c : Nat) (hl : off + 3 ≤ xs.length) (hn : 3 ≤ n) (e : Int) (h0 : 0 ≤ e) (h1 : e ≤ 16777215) :
    Calls Try.prog 54 #[.slice (some ⟨g, off, none⟩) n c, .int .i64 e] w (Gave w0 ((g, .cells (bv (wrI xs off (s3 e))).toArray t) :: R) (.tuple #[])) := by
  have HO := Lib.hid hO; clear hO
  have hn1 : (2 : Int) < n := by omega
  go_enter Try.func54, Try.ntmps54
  go_wp2_with (first | (refine wl_store1 rfl _ _ _ rfl HO.out 0 g off _ (.int .u8 (e / 65536)) _ rfl (by rfl) (by rfl) (by rfl) (by kernel_rfl) (by rfl) (by simp; omega) ?_; intro w1 hO1; have HO1 := Lib.hid hO1; clear hO1 HO) | (refine wl_store1 rfl _ _ _ rfl HO1.out 0 g (off + 1) _ (.int .u8 (e / 256 % 256)) _ rfl (by rfl) (by rfl) (by rfl) (by kernel_rfl) (by rfl) (by simp; omega) ?_; intro w2 hO2; have HO2 := Lib.hid hO2; clear hO2 HO1) | (refine wl_store1 rfl _ _ _ rfl HO2.out 0 g (off + 2) _ (.int .u8 (e % 256)) _ rfl (by rfl) (by rfl) (by rfl) (by kernel_rfl) (by rfl) (by simp; omega) ?_; intro w3 hO3; have HO3 := Lib.hid hO3; clear hO3 HO2))
  go_end0
  refine ⟨rfl, ?_⟩
  have := HO3.out
  simp only [List.set_cons_zero] at this
  rw [wr_bv3 xs off _ _ _ hl, wr_bv] at this
  exact this

/-! ### the sector, step by step -/
theorem wrI_mid (pre mid post ys : List Int) (off : Nat) (h : off = pre.length) (h2 : mid.length = ys.length) : wrI (pre ++ (mid ++ post)) off ys = pre ++ (ys ++ post) := by
  subst h
  unfold wrI
  rw [List.take_left, List.append_assoc]
  congr 1
  congr 1
  rw [← List.drop_drop, List.drop_left, ← h2, List.drop_left]
def head8 (e s p q : Int) (n : Nat) : List Int := e2 e ++ s3 s ++ [p, q, (n : Int)]
theorem seal_a (e s p q : Int) (n : Nat) : (((wrI (wrI (List.replicate 32 0) 0 (e2 e)) 2 (s3 s)).set 5 p).set 6 q).set 7 (n : Int) = head8 e s p q n ++ List.replicate 24 0 := rfl
theorem seal_b (e s p q : Int) (b : List Int) (hb : b.length ≤ 19) : wrI (head8 e s p q b.length ++ List.replicate 24 0) 8 b = head8 e s p q b.length ++ (b ++ List.replicate (24 - b.length) 0) := by
  have h1 : List.replicate 24 (0 : Int) = List.replicate b.length 0 ++ List.replicate (24 - b.length) 0 := by rw [List.replicate_append_replicate]; congr 1; omega
  rw [h1]
  exact wrI_mid _ _ _ _ _ rfl (by simp)
theorem seal_cd (e s p q : Int) (b : List Int) (hb : b.length ≤ 19) : wrI (wrI (head8 e s p q b.length ++ (b ++ List.replicate (24 - b.length) 0)) 27 (s3 s)) 30 (e2 e) = sealed e s p q b := by
  have h1 : List.replicate (24 - b.length) (0 : Int) = List.replicate (19 - b.length) 0 ++ (List.replicate 3 0 ++ List.replicate 2 0) := by simp only [List.replicate_append_replicate]; congr 1; omega
  have h8 : (head8 e s p q b.length).length = 8 := rfl
  rw [h1]
  have h2 : head8 e s p q b.length ++ (b ++ (List.replicate (19 - b.length) 0 ++ (List.replicate 3 0 ++ List.replicate 2 0))) = (head8 e s p q b.length ++ (b ++ List.replicate (19 - b.length) 0)) ++ (List.replicate 3 0 ++ List.replicate 2 0) := by simp
  rw [h2, wrI_mid (head8 e s p q b.length ++ (b ++ List.replicate (19 - b.length) 0)) (List.replicate 3 0) (List.replicate 2 0) (s3 s) 27 (by simp [h8]; omega) rfl]
  have h3 : (head8 e s p q b.length ++ (b ++ List.replicate (19 - b.length) 0)) ++ (s3 s ++ List.replicate 2 0) = (head8 e s p q b.length ++ (b ++ List.replicate (19 - b.length) 0) ++ s3 s) ++ (List.replicate 2 0 ++ []) := by simp
  have h9 : (s3 s).length = 3 := rfl
  rw [h3, wrI_mid (head8 e s p q b.length ++ (b ++ List.replicate (19 - b.length) 0) ++ s3 s) (List.replicate 2 0) [] (e2 e) 30 (by simp [h8, h9]; omega) rfl]
  simp [sealed, head8]
theorem length_sealed (e s p q : Int) (b : List Int) (hb : b.length ≤ 19) : (sealed e s p q b).length = 32 := by simp [sealed, e2, s3]; omega
theorem length_wrI (xs ys : List Int) (off : Nat) (h : off + ys.length ≤ xs.length) : (wrI xs off ys).length = xs.length := by simp [wrI]; omega
end Go.Proofs.Ytdndkapfaiplnaa
