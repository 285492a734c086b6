/-
  Layer 6: what must come of fixed calls; the walks of the laws SpanTouches and SpanAsks.
-/
import Derived.Test.YtdoedcfmhdnbgaaSpnG
import Derived.OpenShut
namespace Go.Proofs.Ytdoedcfmhdnbgaa.sp
open Go.RowKit aid mem
attribute [local go_sem ↓] Go.wp_at_zero Go.wp_at_succ
set_option linter.unusedVariables false

end Go.Proofs.Ytdoedcfmhdnbgaa.sp
