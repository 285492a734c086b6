/-
  A slice of marks that came in.
-/
import Derived.Test.YtgonfdedapnlnaaProg
import Derived.Test.YtgonfdedapnlnaaOpen
import Derived.Test.YtgonfdedapnlnaaLowK
namespace Go.Proofs.Ytgonfdedapnlnaa.lo
open Go.RowKit aid mem opn Go.ChangeShapes Go.WideShapes Go.ChangeAt
set_option linter.unusedVariables false

theorem cells_int : Try.prog.cellsOf 3 = 1 := by kernel_rfl
theorem cells_mk : Try.prog.cellsOf 29 = 2 := by kernel_rfl
def MkIs (cs : List Value) (q : Mk) : Prop := cs = [.int .i64 q.1, .int .i64 q.2]
section
variable {H : Type} {enc : TypeId × Value → H} {w : World} {base : Nat}
set_option maxRecDepth 100000 in
theorem mk_of (n : Nat) (cs : List Value) (d : DataW H) (p : List MemPlace)
    (h : DataW.trod enc Try.prog w base (fun _ => true) true n 29 cs = some (d, p)) : ∃ q : Mk, MkIs cs q ∧ True := by
  obtain ⟨xs, m, _, hx, hl, hxl, hf⟩ := DataW.trod_struct Try.underlying29 h
  rw [cells_mk] at hl
  have h0 := hf 0 _ rfl
  have h1 := hf 1 _ rfl
  match cs, hl, xs, hxl with
  | [c0, c1], _, [x0, x1], _ =>
    simp [cells_int] at h0 h1
    obtain ⟨k, hk, hk2, hkw⟩ := DataW.trod_int Try.underlying3 h0
    obtain ⟨q, hq, hq2, hqw⟩ := DataW.trod_int Try.underlying3 h1
    injection hk with hk _
    injection hq with hq _
    subst hk hq
    exact ⟨(k, q), rfl, trivial⟩
theorem ma_of_els {a : Option Addr} {len cap : Nat} {l : List Mk} (h : ElA MkIs 2 w a len cap l) : Ma w a len cap l := by
  refine ⟨h.len, h.le, h.most, fun h0 => ?_⟩
  obtain ⟨b, off, ha, hc⟩ := h.cells h0
  refine ⟨b, off, ha, fun i hi => ?_⟩
  have hil : i < l.length := by rw [h.len]; exact hi
  obtain ⟨cs, hR, _, hj⟩ := hc i hil
  have hg : l.getD i (0, 0) = l[i] := by simp [List.getD, hil]
  have hR' : cs = [.int .i64 (l[i]).1, .int .i64 (l[i]).2] := hR
  subst hR'
  rw [hg]
  have h0 := hj 0 (by omega)
  have h1 := hj 1 (by omega)
  exact ⟨by simpa using h0, by simpa [Nat.add_assoc] using h1⟩
theorem open_marks {a : Option Addr} {len cap : Nat} {d : DataW H} {p : List MemPlace}
    (h : ∃ fuel, DataW.trod enc Try.prog w base (fun _ => true) true fuel 22 [.slice a len cap] = some (d, p)) :
    ∃ l : List Mk, Ma w a len cap l ∧ True := by
  obtain ⟨l, hl, _⟩ := open_els (R := MkIs) (D := fun _ _ => True) Try.underlying22 (by rw [cells_mk]; omega) h mk_of
  rw [cells_mk] at hl
  exact ⟨l, ma_of_els hl, trivial⟩
end
end Go.Proofs.Ytgonfdedapnlnaa.lo
