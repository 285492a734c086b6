/-
  Contracts of package octet: a writer's calls.
-/
import Derived.Test.YtjkjbhapkmamkaaOctW
namespace Go.Proofs.Ytjkjbhapkmamkaa.oc
open Go.RowKit aid mem
set_option linter.unusedVariables false

end Go.Proofs.Ytjkjbhapkmamkaa.oc
