/-
  Spans, as the reference has them: Holds, Touch, Below, From; wider.
-/
import Derived.Test.YtpoifoanigpncaaSpnR
import Derived.Test.YtpoifoanigpncaaSpnY
namespace Go.Proofs.Ytpoifoanigpncaa.sp
open Go.RowKit aid mem
attribute [local go_sem ↓] Go.wp_at_zero Go.wp_at_succ
set_option linter.unusedVariables false

end Go.Proofs.Ytpoifoanigpncaa.sp
