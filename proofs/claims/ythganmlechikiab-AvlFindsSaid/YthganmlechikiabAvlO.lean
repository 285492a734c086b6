/-
  A slice of operations that came in.
-/
import Derived.Test.YthganmlechikiabProg
import Derived.Test.YthganmlechikiabOpen
import Derived.Test.YthganmlechikiabAvlX
namespace Go.Proofs.Ythganmlechikiab.av
open Go.RowKit aid mem opn Go.ChangeShapes Go.WideShapes Go.ChangeAt
set_option linter.unusedVariables false

structure OpV where
  out : Bool
  key : Int
  v : Int
instance : Inhabited OpV := ⟨⟨false, 0, 0⟩⟩
theorem cells_int : Try.prog.cellsOf 3 = 1 := by kernel_rfl
theorem cells_bool : Try.prog.cellsOf 4 = 1 := by kernel_rfl
theorem cells_op : Try.prog.cellsOf 24 = 3 := by kernel_rfl
def OpIs (cs : List Value) (q : OpV) : Prop := cs = [.bool q.out, .int .i64 q.key, .int .i64 q.v] ∧ -9223372036854775808 ≤ q.key
/-- the operations lie where the slice leads -/
structure OpA (w : World) (a : Option Addr) (n cap : Nat) (l : List OpV) : Prop where
  len : l.length = n
  le : n ≤ cap
  most : cap ≤ maxLen
  cells : 0 < n → ∃ b off, a = some ⟨b, off, none⟩ ∧ ∀ i, i < n → w.cell? ⟨b, off + i * 3, none⟩ = some (.bool (l.getD i default).out) ∧ w.cell? ⟨b, off + i * 3 + 1, none⟩ = some (.int .i64 (l.getD i default).key) ∧ w.cell? ⟨b, off + i * 3 + 2, none⟩ = some (.int .i64 (l.getD i default).v)
  lo : ∀ x ∈ l, -9223372036854775808 ≤ x.key
section
variable {H : Type} {enc : TypeId × Value → H} {w : World} {base : Nat}
set_option maxRecDepth 100000 in
theorem op_of (n : Nat) (cs : List Value) (d : DataW H) (p : List MemPlace)
    (h : DataW.trod enc Try.prog w base (fun _ => true) true n 24 cs = some (d, p)) : ∃ q : OpV, OpIs cs q ∧ True := by
  obtain ⟨xs, m, _, hx, hl, hxl, hf⟩ := DataW.trod_struct Try.underlying24 h
  rw [cells_op] at hl
  have h0 := hf 0 _ rfl
  have h1 := hf 1 _ rfl
  have h2 := hf 2 _ rfl
  match cs, hl, xs, hxl with
  | [c0, c1, c2], _, [x0, x1, x2], _ =>
    simp [cells_int, cells_bool] at h0 h1 h2
    obtain ⟨k, hk, hk2⟩ := DataW.trod_bool Try.underlying4 h0
    obtain ⟨q, hq, hq2, hqw⟩ := DataW.trod_int Try.underlying3 h1
    obtain ⟨r, hr, hr2, hrw⟩ := DataW.trod_int Try.underlying3 h2
    injection hk with hk _
    injection hq with hq _
    injection hr with hr _
    subst hk hq hr
    exact ⟨⟨k, q, r⟩, ⟨rfl, (bounds_i64 hqw).1⟩, trivial⟩
theorem opa_of_els {a : Option Addr} {len cap : Nat} {l : List OpV} (h : ElA OpIs 3 w a len cap l) : OpA w a len cap l := by
  refine ⟨h.len, h.le, h.most, fun h0 => ?_, fun x hx => ?_⟩
  case refine_2 =>
    obtain ⟨i, hi, rfl⟩ := List.getElem_of_mem hx
    obtain ⟨b, off, ha, hc⟩ := h.cells (by have := h.len; omega)
    obtain ⟨cs, hR, _, _⟩ := hc i hi
    exact hR.2
  obtain ⟨b, off, ha, hc⟩ := h.cells h0
  refine ⟨b, off, ha, fun i hi => ?_⟩
  have hil : i < l.length := by rw [h.len]; exact hi
  obtain ⟨cs, hR, _, hj⟩ := hc i hil
  have hg : l.getD i default = l[i] := by simp [List.getD, hil]
  obtain ⟨rfl, _⟩ := hR
  rw [hg]
  have h0 := hj 0 (by omega)
  have h1 := hj 1 (by omega)
  have h2 := hj 2 (by omega)
  exact ⟨by simpa using h0, by simpa [Nat.add_assoc] using h1, by simpa [Nat.add_assoc] using h2⟩
theorem open_ops {a : Option Addr} {len cap : Nat} {d : DataW H} {p : List MemPlace}
    (h : ∃ fuel, DataW.trod enc Try.prog w base (fun _ => true) true fuel 22 [.slice a len cap] = some (d, p)) :
    ∃ l : List OpV, OpA w a len cap l ∧ True := by
  obtain ⟨l, hl, _⟩ := open_els (R := OpIs) (D := fun _ _ => True) Try.underlying22 (by rw [cells_op]; omega) h op_of
  rw [cells_op] at hl
  exact ⟨l, opa_of_els hl, trivial⟩
set_option maxRecDepth 100000 in
theorem open_op {b0 : Nat} {v : Value} {d : DataW H} {p : List MemPlace} (hv : Value.okWide Try.prog w .any b0 24 v)
    (hk : DataW.Trod enc Try.prog w base (fun _ => true) true 24 v d p) : ∃ s : { q : OpV // -9223372036854775808 ≤ q.key }, v = .agg #[.bool s.1.out, .int .i64 s.1.key, .int .i64 s.1.v] := by
  obtain ⟨cs, rfl, hsz⟩ := okWide_struct Try.underlying24 hv
  obtain ⟨fuel, h⟩ := hk
  obtain ⟨q, hq, _⟩ := op_of fuel _ d p h
  obtain ⟨hq, hlo⟩ := hq
  have : cs = #[.bool q.out, .int .i64 q.key, .int .i64 q.v] := by
    apply Array.toList_inj.1
    simpa [Value.cells] using hq
  subst this
  exact ⟨⟨q, hlo⟩, rfl⟩
end
end Go.Proofs.Ythganmlechikiab.av
