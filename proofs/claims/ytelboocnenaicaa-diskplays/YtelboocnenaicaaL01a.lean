/-
  The statements of chapter 1: the example of the document ('wakes').
-/
import Derived.Test.YtelboocnenaicaaDiskU
namespace Go.Proofs.Ytelboocnenaicaa
set_option linter.unusedVariables false
set_option linter.unusedSimpArgs false
set_option maxRecDepth 20000
open Go.RowKit

def JustTrue (w0 : World) (R : Blks) (e : Ending) (w' : World) : Prop := e = .returned (.bool true) ∧ Own w0 w' R
set_option maxHeartbeats 1000000 in
theorem wakes_c {w0 w : World} {R : Blks} (hO : Own w0 w R) : Calls Try.prog 17 #[] w (JustTrue w0 R) := by
  have hnew := Lib.hid (new_c hO 1)
  go_enter Try.func17, Try.ntmps17
  go_wp2_with fail
  refine hnew.out.mono ?_
  rintro e w1 ⟨d, L, rfl, hd, hO1⟩
  obtain ⟨bd, rfl⟩ := hd.ptr
  have hlen := len_c hd hO1
  rw [show (((newSt (min (Int.toNat 1) 1024)).n : Nat) : Int) = 1 from rfl] at hlen
  have hlen := Lib.hid hlen
  have hread := Lib.hid (read_c hd hO1 0)
  clear hO hnew hO1 hd
  go_wp2_with (go_at_call 14; refine hlen.out.mono ?_; rintro e w2 ⟨rfl, rfl⟩)
  refine hread.out.mono ?_
  rintro e w2 ⟨v, Lv, L, rfl, hd, hO2, hv⟩
  rw [show (newSt (min (Int.toNat 1) 1024)).refuse 0 = 0 from rfl, if_pos rfl, show (newSt (min (Int.toNat 1) 1024)).la.getD (Int.toNat 0) [] = zsec from rfl] at *
  obtain ⟨va, vc, hve⟩ := hv.val
  subst hve
  have hmk := make_bytes 32 (by omega)
  have HV := Lib.hid hv
  have HD := Lib.hid hd
  have HO2 := Lib.hid hO2
  clear hlen hread hv hd hO2
  go_wp2_with (refine wl_g (by rfl) ?_; refine wl_makeSlice rfl _ _ _ rfl HO2.out _ 32 32 (by exact hmk _) ?_; intro g w3 hO3; have HO3 := Lib.hid hO3; clear hO3 HO2)
  have hz := isBytes_whole g (List.replicate 32 0) (by simp)
  refine (same_c _ _ zsec zsec (HV.out.bs (Own.rot (A := [_]) HO3.out)) (hz.bs (R := Lv ++ (L ++ R)) HO3.out) (by simp [zsec])).mono ?_
  rintro e w4 ⟨rfl, m, rfl⟩
  rw [show decide (zsec = zsec) = true by simp]
  have hO4 := HO3.out.drewN m
  generalize w3.drewN m = w4 at hO4
  have hO5 : Own w0 w4 (L ++ R) := hO4.tail.right
  have hdown := Lib.hid (down_c HD.out hO5)
  have hpend := Lib.hid (pending_c HD.out hO5)
  have HO5 := Lib.hid hO5
  clear hO4 hO5 HO3 hz
  go_wp2_with (first | (go_at_call 15; refine hdown.out.mono ?_; rintro e w5 ⟨rfl, rfl⟩; rw [show (newSt (min (Int.toNat 1) 1024)).down = false from rfl]) | (go_at_call 16; refine hpend.out.mono ?_; rintro e w5 ⟨rfl, rfl⟩; rw [show (((newSt (min (Int.toNat 1) 1024)).pend.length : Nat) : Int) = 0 from rfl]))
  go_ret
  exact ⟨rfl, HO5.out.right⟩
end Go.Proofs.Ytelboocnenaicaa
