/-
  Package runs: New, Run, Has, Next, Gap.
-/
import Derived.Test.YtdoedcfmhdnbgaaRunQ
namespace Go.Proofs.Ytdoedcfmhdnbgaa.rn
open Go.RowKit Go.Shelf aid mem rng sp
attribute [local go_sem ↓] Go.wp_at_zero Go.wp_at_succ
set_option linter.unusedVariables false
set_option linter.unusedSimpArgs false

/-- a span and whether there is one -/
def RetSB (x : Sp) (b : Bool) (w : World) (e : Ending) (w' : World) : Prop := e = .returned (.tuple #[.agg #[.int .i64 x.1, .int .i64 x.2], .bool b]) ∧ Below w.heap.size w w'
end Go.Proofs.Ytdoedcfmhdnbgaa.rn
