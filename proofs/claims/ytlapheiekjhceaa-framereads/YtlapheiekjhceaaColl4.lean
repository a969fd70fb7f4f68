/-
  The sums looked through, part 4 of 4.
-/
import Derived.Test.YtlapheiekjhceaaColl0
namespace Go.Proofs.Ytlapheiekjhceaa
set_option maxRecDepth 100000
theorem coll_24 : allA 192 8 = true := by decide +kernel
theorem coll_25 : allA 200 8 = true := by decide +kernel
theorem coll_26 : allA 208 8 = true := by decide +kernel
theorem coll_27 : allA 216 8 = true := by decide +kernel
theorem coll_28 : allA 224 8 = true := by decide +kernel
theorem coll_29 : allA 232 8 = true := by decide +kernel
theorem coll_30 : allA 240 8 = true := by decide +kernel
theorem coll_31 : allA 248 8 = true := by decide +kernel
end Go.Proofs.Ytlapheiekjhceaa
