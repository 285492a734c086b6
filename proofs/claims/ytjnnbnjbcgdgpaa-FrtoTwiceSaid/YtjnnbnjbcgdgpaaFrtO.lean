/-
  Structs that came in, and slices of them (written by gen_open.py).
-/
import Derived.Test.YtjnnbnjbcgdgpaaProg
import Derived.Test.YtjnnbnjbcgdgpaaOpen
import Derived.Test.YtjnnbnjbcgdgpaaFrtW
namespace Go.Proofs.Ytjnnbnjbcgdgpaa.fr
open Go.RowKit aid mem opn Go.ChangeShapes Go.WideShapes Go.ChangeAt
set_option linter.unusedVariables false
set_option linter.unusedSimpArgs false

structure OpV where
  kind : Int
  adv : Bool
  whole : Bool
  fresh : Bool
instance : Inhabited OpV := ⟨⟨0, false, false, false⟩⟩
theorem cells_bool : Try.prog.cellsOf 4 = 1 := by kernel_rfl
theorem cells_u8 : Try.prog.cellsOf 5 = 1 := by kernel_rfl
theorem cells_op : Try.prog.cellsOf 30 = 4 := by kernel_rfl
def OpOk (q : OpV) : Prop := (0 ≤ q.kind ∧ q.kind ≤ 255)
def OpIs (cs : List Value) (q : OpV) : Prop := cs = [.int .u8 q.kind, .bool q.adv, .bool q.whole, .bool q.fresh] ∧ OpOk q
/-- they lie where the slice leads -/
structure OpA (w : World) (a : Option Addr) (n cap : Nat) (l : List OpV) : Prop where
  len : l.length = n
  le : n ≤ cap
  most : cap ≤ maxLen
  cells : 0 < n → ∃ b off, a = some ⟨b, off, none⟩ ∧ ∀ i, i < n → w.cell? ⟨b, off + i * 4, none⟩ = some (.int .u8 (l.getD i default).kind) ∧ w.cell? ⟨b, off + i * 4 + 1, none⟩ = some (.bool (l.getD i default).adv) ∧ w.cell? ⟨b, off + i * 4 + 2, none⟩ = some (.bool (l.getD i default).whole) ∧ w.cell? ⟨b, off + i * 4 + 3, none⟩ = some (.bool (l.getD i default).fresh) ∧ OpOk (l.getD i default)
section
variable {H : Type} {enc : TypeId × Value → H} {w : World} {base : Nat}
set_option maxRecDepth 100000 in
theorem op_of (n : Nat) (cs : List Value) (d : DataW H) (p : List MemPlace)
    (h : DataW.trod enc Try.prog w base (fun _ => true) true n 30 cs = some (d, p)) : ∃ q : OpV, OpIs cs q ∧ True := by
  obtain ⟨xs, m, _, hx, hl, hxl, hf⟩ := DataW.trod_struct Try.underlying30 h
  rw [cells_op] at hl
  have h0 := hf 0 _ rfl
  have h1 := hf 1 _ rfl
  have h2 := hf 2 _ rfl
  have h3 := hf 3 _ rfl
  match cs, hl, xs, hxl with
  | [c0, c1, c2, c3], _, [x0, x1, x2, x3], _ =>
    simp [cells_bool, cells_u8] at h0 h1 h2 h3
    obtain ⟨v0, hv0, _, hw0⟩ := DataW.trod_int Try.underlying5 h0
    injection hv0 with hv0 _
    obtain ⟨v1, hv1, _⟩ := DataW.trod_bool Try.underlying4 h1
    injection hv1 with hv1 _
    obtain ⟨v2, hv2, _⟩ := DataW.trod_bool Try.underlying4 h2
    injection hv2 with hv2 _
    obtain ⟨v3, hv3, _⟩ := DataW.trod_bool Try.underlying4 h3
    injection hv3 with hv3 _
    subst hv0 hv1 hv2 hv3
    exact ⟨⟨v0, v1, v2, v3⟩, ⟨rfl, bounds_u8 hw0⟩, trivial⟩
theorem opa_of_els {a : Option Addr} {len cap : Nat} {l : List OpV} (h : ElA OpIs 4 w a len cap l) : OpA w a len cap l := by
  refine ⟨h.len, h.le, h.most, fun h0 => ?_⟩
  obtain ⟨b, off, ha, hc⟩ := h.cells h0
  refine ⟨b, off, ha, fun i hi => ?_⟩
  have hil : i < l.length := by rw [h.len]; exact hi
  obtain ⟨cs, hR, _, hj⟩ := hc i hil
  have hg : l.getD i default = l[i] := by simp [List.getD, hil]
  obtain ⟨rfl, hok⟩ := hR
  rw [hg]
  have h0 := hj 0 (by omega)
  have h1 := hj 1 (by omega)
  have h2 := hj 2 (by omega)
  have h3 := hj 3 (by omega)
  exact ⟨by simpa using h0, by simpa [Nat.add_assoc] using h1, by simpa [Nat.add_assoc] using h2, by simpa [Nat.add_assoc] using h3, hok⟩
theorem open_ops {a : Option Addr} {len cap : Nat} {d : DataW H} {p : List MemPlace}
    (h : ∃ fuel, DataW.trod enc Try.prog w base (fun _ => true) true fuel 22 [.slice a len cap] = some (d, p)) :
    ∃ l : List OpV, OpA w a len cap l ∧ True := by
  obtain ⟨l, hl, _⟩ := open_els (R := OpIs) (D := fun _ _ => True) Try.underlying22 (by rw [cells_op]; omega) h op_of
  rw [cells_op] at hl
  exact ⟨l, opa_of_els hl, trivial⟩
set_option maxRecDepth 100000 in
theorem open_op {b0 : Nat} {v : Value} {d : DataW H} {p : List MemPlace} (hv : Value.okWide Try.prog w .any b0 30 v)
    (hk : DataW.Trod enc Try.prog w base (fun _ => true) true 30 v d p) : ∃ s : {q : OpV // OpOk q}, v = .agg #[.int .u8 s.1.kind, .bool s.1.adv, .bool s.1.whole, .bool s.1.fresh] := by
  obtain ⟨cs, rfl, hsz⟩ := okWide_struct Try.underlying30 hv
  obtain ⟨fuel, h⟩ := hk
  obtain ⟨q, ⟨hq, hok⟩, _⟩ := op_of fuel _ d p h
  have : cs = #[.int .u8 q.kind, .bool q.adv, .bool q.whole, .bool q.fresh] := by
    apply Array.toList_inj.1
    simpa [Value.cells] using hq
  subst this
  exact ⟨⟨q, hok⟩, rfl⟩
end
end Go.Proofs.Ytjnnbnjbcgdgpaa.fr
