/-
  Package runs: going through what of a span is in.
-/
import Derived.RangeFuncWrites
import Derived.Shelf.Abstract
import Derived.Shelf.RegionOpen
import Derived.WalkKit
import Derived.OwnWalkIn
import Derived.TacticsInMore
import Derived.LoopNIn
import Derived.LoopIn
import Derived.Test.YtdoedcfmhdnbgaaRng
import Derived.Test.YtdoedcfmhdnbgaaHeld
import Derived.Test.YtdoedcfmhdnbgaaRunW
namespace Go.Proofs.Ytdoedcfmhdnbgaa.rn
open Go.RowKit Go.Shelf aid mem rng sp
attribute [local go_sem] Oper.semAt_some
set_option linter.unusedVariables false
set_option linter.unusedSimpArgs false

/-- a region that is shown to end as it should -/
def OnlyN (Q : Exit → Act → World → Prop) : Exit → Act → World → Prop
  | .normal, a, w => Q .normal a w
  | _, _, _ => False
theorem OnlyN.normal {Q : Exit → Act → World → Prop} {a : Act} {w : World} (h : Q .normal a w) : OnlyN Q .normal a w := h
theorem OnlyN.imp {Q : Exit → Act → World → Prop} : ∀ (e : Exit) (a : Act) (w : World), OnlyN Q e a w → Q e a w := fun e a w h => by
  cases e <;> first | exact h | exact (h : False).elim
theorem wpIn_region_in {P : Program} {n id : Nat} {ops : Array Oper} {Q : Exit → Act → World → Prop} {a : Act} {w : World} (S : World → Prop) (hm : P.follows .mixedOrders = true)
    (h : wpAnyH P .any ops (OnlyN Q) S ops.size (Array.replicate ops.size false) a w.drew) : (Code.region id ops true).wpIn Fence.wide n P Q a w :=
  Code.wpIn_mono OnlyN.imp (wpIn_region_held' S hm (fun ⟨_, _, h⟩ => h) h)
theorem wpIn_region_inR {P : Program} {n l id : Nat} {ops : Array Oper} {Q : Exit → Act → World → Prop} {a : Act} {w : World} (S : World → Prop) (hm : P.follows .mixedOrders = true) (hd : noDefer ops = true)
    (h : wpAnyH P .any ops (OnlyN Q) S ops.size (Array.replicate ops.size false) a w.drew) : (Code.region id ops true).wpIn (Fence.wide.inRound l) n P Q a w :=
  Code.wpIn_mono OnlyN.imp (wpIn_region_held S hm hd (fun ⟨_, _, h⟩ => h) h)
abbrev spE (x : Sp) : Array Value := #[spV x]
theorem bd_drew {w w' : World} {B : Nat} (h : Below B w w') : Below B w w'.drew := ⟨h.os, h.tape, h.output, h.size, h.block⟩
/-- a row's part, as the code cuts it -/
theorem tw_step {l : List Sp} {s : Sp} {i : Nat} (h : i < l.length) : tw (l.drop i) s = if lenI (meetP (l.getD i (0, 0)) s) = 0 then [] else meetP (l.getD i (0, 0)) s :: tw (l.drop (i + 1)) s := by
  rw [drop_getD h, tw_cons]
theorem tw_end {l : List Sp} {s : Sp} {i : Nat} (h : l.length ≤ i) : tw (l.drop i) s = [] := by
  rw [List.drop_eq_nil_of_le h]; rfl
end Go.Proofs.Ytdoedcfmhdnbgaa.rn
