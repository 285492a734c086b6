/-
  Package runs: parts, Within, Bytes.
-/
import Derived.Test.YtdoedcfmhdnbgaaRunP
import Derived.Test.YtdoedcfmhdnbgaaRngB
namespace Go.Proofs.Ytdoedcfmhdnbgaa.rn
open Go.RowKit Go.Shelf aid mem rng sp
attribute [local go_sem] Oper.semAt_some
set_option linter.unusedVariables false
set_option linter.unusedSimpArgs false

theorem undrew {X w2 : World} (h : Below X.drew.heap.size X.drew w2) : Below X.heap.size X w2 := ⟨h.os, h.tape, h.output, h.size, h.block⟩
/-- an iterator over spans is handed back -/
def SeqS (g : Nat) (L : List Sp) (A : Nat → Prop) (w : World) (e : Ending) (w' : World) : Prop :=
  ∃ lb, e = .returned (.func (.func g) #[] lb) ∧ SeqOf Try.prog g lb spE L A w' ∧ Below w.heap.size w w'
/-- a sum so far, in its box -/
structure WI (w : World) (bn : Nat) (pre : List Sp) (C : Nat → Prop) (X : World) : Prop where
  hn : X.heap[bn]? = some (.cells #[.int .i64 (bytesL pre)] 3 (0, 0))
  cb : C bn
  below : Below w.heap.size w X
theorem wi_bears {w : World} {bn D : Nat} (h : bn < D) (hw : w.heap.size ≤ bn) : Bears D (WI w bn) := by
  rintro pre C X Y hc hz hs
  exact ⟨hs.heap (.inl (by omega)) hc.hn, hc.cb, hc.below.trans (hs.below (by omega) (fun k hk => .inl (by omega)))⟩
/-- no way out but the end -/
def NoX (c : Code) (pre : List Sp) (C : Nat → Prop) (X : World) : Prop := False
theorem nox_bears (D : Nat) (c : Code) : Bears D (NoX c) := fun _ _ _ _ h => h.elim
/-- a span's box -/
def BxS (n0 b : Nat) (y : Sp) (C : Nat → Prop) (X : World) : Prop := SpAt X b y ∧ n0 ≤ b ∧ C b
theorem bxs_bears (n0 b : Nat) (y : Sp) : Bears n0 (fun (_ : Unit) C W => BxS n0 b y C W) := by
  rintro _ C X Y ⟨h1, h2, h3⟩ hz hs
  exact ⟨hs.heap (.inr h3) h1, h2, h3⟩
end Go.Proofs.Ytdoedcfmhdnbgaa.rn
