/-
  Spans that came in, opened.
-/
import Derived.Test.YtdoedcfmhdnbgaaSpnK
import Derived.Test.YtdoedcfmhdnbgaaOpen
namespace Go.Proofs.Ytdoedcfmhdnbgaa.sp
open Go.RowKit aid mem opn Go.ChangeShapes Go.WideShapes Go.ChangeAt
set_option linter.unusedVariables false

theorem cells_int : Try.prog.cellsOf 3 = 1 := by kernel_rfl
theorem cells_span : Try.prog.cellsOf 24 = 2 := by kernel_rfl
def SpIs (cs : List Value) (q : Int × Int) : Prop := cs = [.int .i64 q.1, .int .i64 q.2]

section
variable {H : Type} {enc : TypeId × Value → H} {w : World} {base : Nat}
set_option maxRecDepth 100000 in
theorem span_of (n : Nat) (cs : List Value) (d : DataW H) (p : List MemPlace)
    (h : DataW.trod enc Try.prog w base (fun _ => true) true n 24 cs = some (d, p)) : ∃ q : Int × Int, SpIs cs q ∧ True := by
  obtain ⟨xs, m, _, hx, hl, hxl, hf⟩ := DataW.trod_struct Try.underlying24 h
  rw [cells_span] at hl
  have h0 := hf 0 _ rfl
  have h1 := hf 1 _ rfl
  match cs, hl, xs, hxl with
  | [c0, c1], _, [x0, x1], _ =>
    simp [cells_int] at h0 h1
    obtain ⟨k, hk, hk2, hkw⟩ := DataW.trod_int Try.underlying3 h0
    obtain ⟨q, hq, hq2, hqw⟩ := DataW.trod_int Try.underlying3 h1
    injection hk with hk _
    injection hq with hq _
    subst hk hq
    exact ⟨(k, q), rfl, trivial⟩
set_option maxRecDepth 100000 in
theorem open_span {b0 : Nat} {v : Value} {d : DataW H} {p : List MemPlace} (hv : Value.okWide Try.prog w .any b0 24 v)
    (hk : DataW.Trod enc Try.prog w base (fun _ => true) true 24 v d p) : ∃ s : Int × Int, v = spV s := by
  obtain ⟨cs, rfl, hsz⟩ := okWide_struct Try.underlying24 hv
  obtain ⟨fuel, h⟩ := hk
  obtain ⟨q, hq, _⟩ := span_of fuel _ d p h
  refine ⟨q, ?_⟩
  unfold SpIs at hq
  have : cs = #[.int .i64 q.1, .int .i64 q.2] := by
    apply Array.toList_inj.1
    simpa [Value.cells] using hq
  rw [this]
theorem sls_of_els {a : Option Addr} {len cap : Nat} {l : List (Int × Int)} (h : ElA SpIs 2 w a len cap l) : SlS w a len cap l := by
  refine ⟨h.len, h.le, h.most, h.nil, fun h0 => ?_⟩
  obtain ⟨b, off, ha, hc⟩ := h.cells h0
  refine ⟨b, off, ha, fun i hi => ?_⟩
  have hil : i < l.length := by rw [h.len]; exact hi
  obtain ⟨cs, hR, _, hj⟩ := hc i hil
  rw [hR] at hj
  have e : l.getD i (0, 0) = l[i] := by simp [List.getD, hil]
  rw [e]
  have j0 := hj 0 (by omega)
  have j1 := hj 1 (by omega)
  rw [← Nat.add_assoc] at j1
  exact ⟨by simpa using j0, by simpa using j1⟩
set_option maxRecDepth 100000 in
theorem open_spans {a : Option Addr} {len cap : Nat} {d : DataW H} {p : List MemPlace}
    (h : ∃ fuel, DataW.trod enc Try.prog w base (fun _ => true) true fuel 30 [.slice a len cap] = some (d, p)) :
    ∃ l : List (Int × Int), SlS w a len cap l ∧ True := by
  obtain ⟨l, hl, _⟩ := open_els (R := SpIs) (D := fun (_ : DataW H) (_ : Int × Int) => True) Try.underlying30 (by rw [cells_span]; omega) h span_of
  rw [cells_span] at hl
  exact ⟨l, sls_of_els hl, trivial⟩
end
end Go.Proofs.Ytdoedcfmhdnbgaa.sp
