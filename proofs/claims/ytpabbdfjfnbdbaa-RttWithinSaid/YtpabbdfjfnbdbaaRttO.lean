/-
  A slice of what is done to an estimate, that came in.
-/
import Derived.Test.YtpabbdfjfnbdbaaProg
import Derived.Test.YtpabbdfjfnbdbaaOpen
import Derived.Test.YtpabbdfjfnbdbaaRttX
namespace Go.Proofs.Ytpabbdfjfnbdbaa.rt
open Go.RowKit aid mem opn Go.ChangeShapes Go.WideShapes Go.ChangeAt
set_option linter.unusedVariables false

structure OpV where
  back : Bool
  r : Int
instance : Inhabited OpV := ⟨⟨false, 0⟩⟩
theorem cells_int : Try.prog.cellsOf 3 = 1 := by kernel_rfl
theorem cells_bool : Try.prog.cellsOf 4 = 1 := by kernel_rfl
theorem cells_op : Try.prog.cellsOf 33 = 2 := by kernel_rfl
def OpIs (cs : List Value) (q : OpV) : Prop := cs = [.bool q.back, .int .i64 q.r] ∧ -9223372036854775808 ≤ q.r
/-- the operations lie where the slice leads -/
structure OpA (w : World) (a : Option Addr) (n cap : Nat) (l : List OpV) : Prop where
  len : l.length = n
  le : n ≤ cap
  most : cap ≤ maxLen
  cells : 0 < n → ∃ b off, a = some ⟨b, off, none⟩ ∧ ∀ i, i < n → w.cell? ⟨b, off + i * 2, none⟩ = some (.bool (l.getD i default).back) ∧ w.cell? ⟨b, off + i * 2 + 1, none⟩ = some (.int .i64 (l.getD i default).r)
  lo : ∀ x ∈ l, -9223372036854775808 ≤ x.r
section
variable {H : Type} {enc : TypeId × Value → H} {w : World} {base : Nat}
set_option maxRecDepth 100000 in
theorem op_of (n : Nat) (cs : List Value) (d : DataW H) (p : List MemPlace)
    (h : DataW.trod enc Try.prog w base (fun _ => true) true n 33 cs = some (d, p)) : ∃ q : OpV, OpIs cs q ∧ True := by
  obtain ⟨xs, m, _, hx, hl, hxl, hf⟩ := DataW.trod_struct Try.underlying33 h
  rw [cells_op] at hl
  have h0 := hf 0 _ rfl
  have h1 := hf 1 _ rfl
  match cs, hl, xs, hxl with
  | [c0, c1], _, [x0, x1], _ =>
    simp [cells_int, cells_bool] at h0 h1
    obtain ⟨k, hk, hk2⟩ := DataW.trod_bool Try.underlying4 h0
    obtain ⟨q, hq, hq2, hqw⟩ := DataW.trod_int Try.underlying3 h1
    injection hk with hk _
    injection hq with hq _
    subst hk hq
    exact ⟨⟨k, q⟩, ⟨rfl, (bounds_i64 hqw).1⟩, trivial⟩
theorem opa_of_els {a : Option Addr} {len cap : Nat} {l : List OpV} (h : ElA OpIs 2 w a len cap l) : OpA w a len cap l := by
  refine ⟨h.len, h.le, h.most, fun h0 => ?_, fun x hx => ?_⟩
  case refine_2 =>
    obtain ⟨i, hi, rfl⟩ := List.getElem_of_mem hx
    obtain ⟨b, off, ha, hc⟩ := h.cells (by have := h.len; omega)
    obtain ⟨cs, hR, _, _⟩ := hc i hi
    exact hR.2
  obtain ⟨b, off, ha, hc⟩ := h.cells h0
  refine ⟨b, off, ha, fun i hi => ?_⟩
  have hil : i < l.length := by rw [h.len]; exact hi
  obtain ⟨cs, hR, _, hj⟩ := hc i hil
  have hg : l.getD i default = l[i] := by simp [List.getD, hil]
  obtain ⟨rfl, _⟩ := hR
  rw [hg]
  have h0 := hj 0 (by omega)
  have h1 := hj 1 (by omega)
  exact ⟨by simpa using h0, by simpa [Nat.add_assoc] using h1⟩
theorem open_ops {a : Option Addr} {len cap : Nat} {d : DataW H} {p : List MemPlace}
    (h : ∃ fuel, DataW.trod enc Try.prog w base (fun _ => true) true fuel 22 [.slice a len cap] = some (d, p)) :
    ∃ l : List OpV, OpA w a len cap l ∧ True := by
  obtain ⟨l, hl, _⟩ := open_els (R := OpIs) (D := fun _ _ => True) Try.underlying22 (by rw [cells_op]; omega) h op_of
  rw [cells_op] at hl
  exact ⟨l, opa_of_els hl, trivial⟩
end
end Go.Proofs.Ytpabbdfjfnbdbaa.rt
