/-
  The sums looked through, part 1 of 4.
-/
import Derived.Test.YtlapheiekjhceaaColl0
namespace Go.Proofs.Ytlapheiekjhceaa
set_option maxRecDepth 100000
theorem coll_0 : allA 0 8 = true := by decide +kernel
theorem coll_1 : allA 8 8 = true := by decide +kernel
theorem coll_2 : allA 16 8 = true := by decide +kernel
theorem coll_3 : allA 24 8 = true := by decide +kernel
theorem coll_4 : allA 32 8 = true := by decide +kernel
theorem coll_5 : allA 40 8 = true := by decide +kernel
theorem coll_6 : allA 48 8 = true := by decide +kernel
theorem coll_7 : allA 56 8 = true := by decide +kernel
end Go.Proofs.Ytlapheiekjhceaa
