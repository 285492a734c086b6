/-
  Options that came in, opened.
-/
import Derived.Test.YtdfenlagokndkaaOptW
import Derived.Test.YtdfenlagokndkaaOpen
namespace Go.Proofs.Ytdfenlagokndkaa.op
open Go.RowKit aid mem oc opn Go.ChangeShapes Go.WideShapes Go.ChangeAt
set_option linter.unusedVariables false

theorem cells_int : Try.prog.cellsOf 3 = 1 := by kernel_rfl
theorem cells_bool : Try.prog.cellsOf 4 = 1 := by kernel_rfl
theorem cells_u32 : Try.prog.cellsOf 22 = 1 := by kernel_rfl
theorem cells_bls : Try.prog.cellsOf 23 = 1 := by kernel_rfl
theorem cells_bl : Try.prog.cellsOf 99 = 2 := by kernel_rfl
theorem cells_opt : Try.prog.cellsOf 25 = 8 := by kernel_rfl

def BlIs (cs : List Value) (q : Int × Int) : Prop := cs = [.int .u32 q.1, .int .u32 q.2] ∧ (0 ≤ q.1 ∧ q.1 ≤ 4294967295) ∧ (0 ≤ q.2 ∧ q.2 ≤ 4294967295)

section
variable {H : Type} {enc : TypeId × Value → H} {w : World} {base : Nat}
set_option maxRecDepth 100000 in
theorem block_of (n : Nat) (cs : List Value) (d : DataW H) (p : List MemPlace)
    (h : DataW.trod enc Try.prog w base (fun _ => true) true n 99 cs = some (d, p)) : ∃ q : Int × Int, BlIs cs q ∧ True := by
  obtain ⟨xs, m, _, hx, hl, hxl, hf⟩ := DataW.trod_struct Try.underlying99 h
  rw [cells_bl] at hl
  have h0 := hf 0 _ rfl
  have h1 := hf 1 _ rfl
  match cs, hl, xs, hxl with
  | [c0, c1], _, [x0, x1], _ =>
    simp [cells_u32] at h0 h1
    obtain ⟨k, hk, hk2, hkw⟩ := DataW.trod_int Try.underlying22 h0
    obtain ⟨q, hq, hq2, hqw⟩ := DataW.trod_int Try.underlying22 h1
    injection hk with hk _
    injection hq with hq _
    subst hk hq
    exact ⟨(k, q), ⟨rfl, bounds_u32 hkw, bounds_u32 hqw⟩, trivial⟩

theorem bl_of_els {a : Option Addr} {len cap : Nat} {l : List (Int × Int)} (h : ElA BlIs 2 w a len cap l) : BlA w a len cap l ∧ ∀ q ∈ l, (0 ≤ q.1 ∧ q.1 ≤ 4294967295) ∧ (0 ≤ q.2 ∧ q.2 ≤ 4294967295) := by
  refine ⟨⟨h.len, h.le, h.most, h.nil, fun h0 => ?_⟩, fun q hq => ?_⟩
  · obtain ⟨b, off, ha, hc⟩ := h.cells h0
    refine ⟨b, off, ha, fun i hi => ?_⟩
    have hil : i < l.length := by rw [h.len]; exact hi
    obtain ⟨cs, ⟨hR, _⟩, _, hj⟩ := hc i hil
    rw [hR] at hj
    have e : l.getD i (0, 0) = l[i] := by simp [List.getD, hil]
    rw [e]
    have j0 := hj 0 (by omega)
    have j1 := hj 1 (by omega)
    rw [← Nat.add_assoc] at j1
    exact ⟨by simpa using j0, by simpa using j1⟩
  · obtain ⟨i, hi, rfl⟩ := List.mem_iff_getElem.1 hq
    obtain ⟨b, off, ha, hc⟩ := h.cells (by rw [← h.len]; omega)
    obtain ⟨cs, ⟨_, hb⟩, _⟩ := hc i hi
    exact hb

set_option maxRecDepth 100000 in
theorem open_opt {b0 : Nat} {v : Value} {d : DataW H} {p : List MemPlace} (hv : Value.okWide Try.prog w .any b0 25 v)
    (hk : DataW.Trod enc Try.prog w base (fun _ => true) true 25 v d p) :
    ∃ (o : Opt) (a : Option Addr) (n cap : Nat), v = .agg (optCells o a n cap) ∧ o.Fit ∧ BlA w a n cap o.bl := by
  obtain ⟨cs, rfl, hsz⟩ := okWide_struct Try.underlying25 hv
  obtain ⟨fuel, h⟩ := hk
  obtain ⟨xs, m, _, hx, hl, hxl, hf⟩ := DataW.trod_struct Try.underlying25 h
  rw [cells_opt] at hsz
  have h0 := hf 0 _ rfl
  have h1 := hf 1 _ rfl
  have h2 := hf 2 _ rfl
  have h3 := hf 3 _ rfl
  have h4 := hf 4 _ rfl
  have h5 := hf 5 _ rfl
  have h6 := hf 6 _ rfl
  have h7 := hf 7 _ rfl
  obtain ⟨cl⟩ := cs
  match cl, hsz, xs, hxl with
  | [c0, c1, c2, c3, c4, c5, c6, c7], _, [x0, x1, x2, x3, x4, x5, x6, x7], _ =>
    simp [Value.cells, cells_int, cells_bool, cells_u32, cells_bls] at h0 h1 h2 h3 h4 h5 h6 h7
    obtain ⟨k0, e0, _, b0'⟩ := DataW.trod_int Try.underlying3 h0
    obtain ⟨k1, e1, _⟩ := DataW.trod_bool Try.underlying4 h1
    obtain ⟨k2, e2, _⟩ := DataW.trod_bool Try.underlying4 h2
    obtain ⟨k3, e3, _, b3⟩ := DataW.trod_int Try.underlying22 h3
    obtain ⟨k4, e4, _, b4⟩ := DataW.trod_int Try.underlying22 h4
    obtain ⟨k5, e5, _⟩ := DataW.trod_bool Try.underlying4 h5
    obtain ⟨k6, e6, _, b6⟩ := DataW.trod_int Try.underlying3 h6
    injection e0 with e0 _
    injection e1 with e1 _
    injection e2 with e2 _
    injection e3 with e3 _
    injection e4 with e4 _
    injection e5 with e5 _
    injection e6 with e6 _
    subst e0 e1 e2 e3 e4 e5 e6
    have key : ∃ (a : Option Addr) (len cap : Nat) (l : List (Int × Int)), c7 = .slice a len cap ∧ ElA BlIs 2 w a len cap l := by
      have hsl : ∃ a len cap, c7 = .slice a len cap := by
        rcases DataW.trod_slice Try.underlying23 h7 with ⟨hcs, _⟩ | ⟨a', len', cap', elems, rest, n, _, hcs, _⟩
        · injection hcs with hcs _; exact ⟨_, _, _, hcs⟩
        · injection hcs with hcs _; exact ⟨_, _, _, hcs⟩
      obtain ⟨a, len, cap, rfl⟩ := hsl
      obtain ⟨l, hl, _⟩ := open_els (R := BlIs) (D := fun (_ : DataW H) (_ : Int × Int) => True) (d := x7.1) (p := x7.2) Try.underlying23 (by rw [cells_bl]; omega) ⟨m, h7⟩ block_of
      rw [cells_bl] at hl
      exact ⟨a, len, cap, l, rfl, hl⟩
    obtain ⟨a, len, cap, l, rfl, hel⟩ := key
    obtain ⟨hbl, hbd⟩ := bl_of_els hel
    exact ⟨⟨k0, k1, k2, k3, k4, k5, k6, l⟩, a, len, cap, rfl, ⟨bounds_i64 b0', bounds_u32 b3, bounds_u32 b4, bounds_i64 b6, hbd⟩, hbl⟩
end
end Go.Proofs.Ytdfenlagokndkaa.op
