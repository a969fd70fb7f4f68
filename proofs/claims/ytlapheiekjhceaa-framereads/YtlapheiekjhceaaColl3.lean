/-
  The sums looked through, part 3 of 4.
-/
import Derived.Test.YtlapheiekjhceaaColl0
namespace Go.Proofs.Ytlapheiekjhceaa
set_option maxRecDepth 100000
theorem coll_16 : allA 128 8 = true := by decide +kernel
theorem coll_17 : allA 136 8 = true := by decide +kernel
theorem coll_18 : allA 144 8 = true := by decide +kernel
theorem coll_19 : allA 152 8 = true := by decide +kernel
theorem coll_20 : allA 160 8 = true := by decide +kernel
theorem coll_21 : allA 168 8 = true := by decide +kernel
theorem coll_22 : allA 176 8 = true := by decide +kernel
theorem coll_23 : allA 184 8 = true := by decide +kernel
end Go.Proofs.Ytlapheiekjhceaa
