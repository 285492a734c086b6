/-
  The law's does: the ways back.
-/
import Derived.Test.YtkimlcmbbfcffaaLedF
import Derived.Test.YtkimlcmbbfcffaaLedG
import Derived.Test.YtkimlcmbbfcffaaLedH
namespace Go.Proofs.Ytkimlcmbbfcffaa.lg
open Go.RowKit Go.Shelf aid mem sp rn
attribute [local go_sem ↓] Go.wp_at_zero Go.wp_at_succ
set_option linter.unusedVariables false
set_option linter.unusedSimpArgs false

theorem does_any {w : World} {B : Nat} {x : Ld} {S : List Nat} {a : Option Addr} {n cap : Nat} (h : Ow B x S w) (ho : Ok x) (hr : SlR w 32 2 a n cap (spCells x.l)) (hn : ∀ c ∈ blk a cap, c ∉ B :: S) {s : OpV} (hs : OpOk s) :
    Calls Try.prog 10 #[.pointer (some ⟨B, 0, none⟩), rV x a n cap, .agg (opC s)] w (DoesP w B S (blk a cap) (stp x s)) := by
  have k0 := hs.1.1; have k1 := hs.1.2
  by_cases h0 : s.kind % 6 = 0
  · exact does_cut h ho hr hn hs h0
  by_cases h1 : s.kind % 6 = 1 ∨ s.kind % 6 = 2
  · exact does_again h ho hr hn hs h1
  by_cases h3 : s.kind % 6 = 3
  · exact does_dup h ho hr hn hs h3
  cases hb : undoB x with
  | true => exact does_yes h ho hr hn hs (by omega) hb
  | false =>
    by_cases h4 : s.kind % 6 = 4
    · exact does_no h ho hr hn hs h4 hb
    · have h5 : s.kind % 6 = 5 := by omega
      cases hop : x.op with
      | true => exact does_force h ho hr hn hs h5 hop hb
      | false => exact does_off h ho hr hn hs h5 hop
end Go.Proofs.Ytkimlcmbbfcffaa.lg
