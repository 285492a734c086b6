/-
  Operations on sets, that came in.
-/
import Derived.Test.YtgjkbejlfclpoaaSpnO
namespace Go.Proofs.Ytgjkbejlfclpoaa.rn
open Go.RowKit aid mem opn sp Go.ChangeShapes Go.WideShapes Go.ChangeAt
set_option linter.unusedVariables false
set_option linter.unusedSimpArgs false

structure OpV where
  out : Bool
  s : Int × Int
instance : Inhabited OpV := ⟨⟨false, (0, 0)⟩⟩
theorem cells_bool : Try.prog.cellsOf 4 = 1 := by kernel_rfl
theorem cells_op : Try.prog.cellsOf 32 = 3 := by kernel_rfl
def OpIs (cs : List Value) (q : OpV) : Prop := cs = [.bool q.out, .int .i64 q.s.1, .int .i64 q.s.2]
/-- the operations lie where the slice leads -/
structure OpA (w : World) (a : Option Addr) (n cap : Nat) (l : List OpV) : Prop where
  len : l.length = n
  le : n ≤ cap
  most : cap ≤ maxLen
  cells : 0 < n → ∃ b off, a = some ⟨b, off, none⟩ ∧ ∀ i, i < n → w.cell? ⟨b, off + i * 3, none⟩ = some (.bool (l.getD i default).out) ∧ w.cell? ⟨b, off + i * 3 + 1, none⟩ = some (.int .i64 (l.getD i default).s.1) ∧ w.cell? ⟨b, off + i * 3 + 2, none⟩ = some (.int .i64 (l.getD i default).s.2)
section
variable {H : Type} {enc : TypeId × Value → H} {w : World} {base : Nat}
set_option maxRecDepth 100000 in
theorem op_of (n : Nat) (cs : List Value) (d : DataW H) (p : List MemPlace)
    (h : DataW.trod enc Try.prog w base (fun _ => true) true n 32 cs = some (d, p)) : ∃ q : OpV, OpIs cs q ∧ True := by
  obtain ⟨xs, m, _, hx, hl, hxl, hf⟩ := DataW.trod_struct Try.underlying32 h
  rw [cells_op] at hl
  have h0 := hf 0 _ rfl
  have h1 := hf 1 _ rfl
  match cs, hl, xs, hxl with
  | [c0, c1, c2], _, [x0, x1], _ =>
    simp [cells_bool, sp.cells_span] at h0 h1
    obtain ⟨k, hk, hk2⟩ := DataW.trod_bool Try.underlying4 h0
    obtain ⟨q, hq, _⟩ := sp.span_of _ _ _ _ h1
    injection hk with hk _
    unfold sp.SpIs at hq
    injection hq with hq1 hq2
    injection hq2 with hq2 _
    subst hk hq1 hq2
    exact ⟨⟨k, q⟩, rfl, trivial⟩
theorem opa_of_els {a : Option Addr} {len cap : Nat} {l : List OpV} (h : ElA OpIs 3 w a len cap l) : OpA w a len cap l := by
  refine ⟨h.len, h.le, h.most, fun h0 => ?_⟩
  obtain ⟨b, off, ha, hc⟩ := h.cells h0
  refine ⟨b, off, ha, fun i hi => ?_⟩
  have hil : i < l.length := by rw [h.len]; exact hi
  obtain ⟨cs, hR, _, hj⟩ := hc i hil
  have hg : l.getD i default = l[i] := by simp [List.getD, hil]
  obtain rfl := hR
  rw [hg]
  have h0 := hj 0 (by omega)
  have h1 := hj 1 (by omega)
  have h2 := hj 2 (by omega)
  exact ⟨by simpa using h0, by simpa [Nat.add_assoc] using h1, by simpa [Nat.add_assoc] using h2⟩
theorem open_ops {a : Option Addr} {len cap : Nat} {d : DataW H} {p : List MemPlace}
    (h : ∃ fuel, DataW.trod enc Try.prog w base (fun _ => true) true fuel 22 [.slice a len cap] = some (d, p)) :
    ∃ l : List OpV, OpA w a len cap l ∧ True := by
  obtain ⟨l, hl, _⟩ := open_els (R := OpIs) (D := fun _ _ => True) Try.underlying22 (by rw [cells_op]; omega) h op_of
  rw [cells_op] at hl
  exact ⟨l, opa_of_els hl, trivial⟩
set_option maxRecDepth 100000 in
theorem open_op {b0 : Nat} {v : Value} {d : DataW H} {p : List MemPlace} (hv : Value.okWide Try.prog w .any b0 32 v)
    (hk : DataW.Trod enc Try.prog w base (fun _ => true) true 32 v d p) : ∃ s : OpV, v = .agg #[.bool s.out, .int .i64 s.s.1, .int .i64 s.s.2] := by
  obtain ⟨cs, rfl, hsz⟩ := okWide_struct Try.underlying32 hv
  obtain ⟨fuel, h⟩ := hk
  obtain ⟨q, hq, _⟩ := op_of fuel _ d p h
  have : cs = #[.bool q.out, .int .i64 q.s.1, .int .i64 q.s.2] := by
    apply Array.toList_inj.1
    simpa [Value.cells, OpIs] using hq
  subst this
  exact ⟨q, rfl⟩
end
end Go.Proofs.Ytgjkbejlfclpoaa.rn
