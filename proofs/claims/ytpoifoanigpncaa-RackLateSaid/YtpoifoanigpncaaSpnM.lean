/-
  Package span: Meet.
-/
import Derived.Test.YtpoifoanigpncaaSpnW
namespace Go.Proofs.Ytpoifoanigpncaa.sp
open Go.RowKit aid mem
attribute [local go_sem ↓] Go.wp_at_zero Go.wp_at_succ
set_option linter.unusedVariables false

end Go.Proofs.Ytpoifoanigpncaa.sp
