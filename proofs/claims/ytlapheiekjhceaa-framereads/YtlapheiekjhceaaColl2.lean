/-
  The sums looked through, part 2 of 4.
-/
import Derived.Test.YtlapheiekjhceaaColl0
namespace Go.Proofs.Ytlapheiekjhceaa
set_option maxRecDepth 100000
theorem coll_8 : allA 64 8 = true := by decide +kernel
theorem coll_9 : allA 72 8 = true := by decide +kernel
theorem coll_10 : allA 80 8 = true := by decide +kernel
theorem coll_11 : allA 88 8 = true := by decide +kernel
theorem coll_12 : allA 96 8 = true := by decide +kernel
theorem coll_13 : allA 104 8 = true := by decide +kernel
theorem coll_14 : allA 112 8 = true := by decide +kernel
theorem coll_15 : allA 120 8 = true := by decide +kernel
end Go.Proofs.Ytlapheiekjhceaa
