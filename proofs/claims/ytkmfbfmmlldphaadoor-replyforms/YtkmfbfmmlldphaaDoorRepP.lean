/-
  Package reply's own contracts: what the laws' walks call.
-/
import Derived.Test.YtkmfbfmmlldphaaDoorRepP3
import Derived.Test.YtkmfbfmmlldphaaDoorRepP4
namespace Go.Proofs.YtkmfbfmmlldphaaDoor
set_option linter.unusedVariables false
set_option linter.unusedSimpArgs false
set_option maxRecDepth 20000
open Go.RowKit

theorem rparse_c {w0 w : World} {R : Blks} (hV : MostOk w0) (hO : Own w0 w R) (s : ByteArray) (hs : s.size ≤ 100000000) : Calls Tryd.prog 8 #[.string s] w (GotRep w0 R (replyI (sb s)) (.int .i64 0) (.int .i64 2)) :=
  rparse_m hV hO s (by omega)
theorem rnumber_c {w0 w : World} {R : Blks} (hO : Own w0 w R) (s : ByteArray) : Calls Tryd.prog 12 #[.string s] w fun e w' => e = .returned (.tuple #[.int .i64 ((figI (sb s) 1 6).getD 0), .bool (figI (sb s) 1 6).isSome]) ∧ Own w0 w' R :=
  (rnumber_q s).mono fun e w' ⟨he, hw⟩ => ⟨he, hw ▸ hO⟩
end Go.Proofs.YtkmfbfmmlldphaaDoor
