/-
  Segments that came in: how many bytes their lists have.
-/
import Derived.Test.YtdfenlagokndkaaSegO
import Derived.Test.YtdfenlagokndkaaOptZ
namespace Go.Proofs.Ytdfenlagokndkaa.sg
open Go.RowKit aid mem oc op
open Go.ChangeShapes Go.WideShapes Go.ChangeAt
set_option linter.unusedVariables false
section
variable {H : Type} {enc : TypeId × Value → H} {w : World} {base : Nat}
theorem bytes_u8 : Try.prog.bytesOf 5 = 1 := by kernel_rfl

set_option maxRecDepth 100000 in
theorem seg_reach {s : Seg} {a : Option Addr} {n cap : Nat} {b : Option Addr} {k bc : Nat} {d : DataW H} {p : List MemPlace}
    (hk : DataW.Trod enc Try.prog w base (fun _ => true) true 28 (segV s a n cap b k bc) d p)
    (hw : ∀ x ∈ d.weights Try.prog 28, x ≤ reachBytes) : n * 8 ≤ 140737488355328 ∧ k ≤ 140737488355328 := by
  obtain ⟨fuel, h⟩ := hk
  obtain ⟨xs, m, _, hx, hl, hxl, hf⟩ := DataW.trod_struct Try.underlying28 h
  have h2 := hf 2 _ rfl
  have h3 := hf 3 _ rfl
  match xs, hxl with
  | [x0, x1, x2, x3], _ =>
    simp [Value.cells, cells_int, cells_u32, cells_opt, cells_bys] at h2 h3
    injection hx with hd _
    have hmem : ∀ (j : Nat) (t : TypeId) (y : DataW H) (z : Nat), [3, 22, 25, 26][j]? = some t → [x0.1, x1.1, x2.1, x3.1][j]? = some y → z ∈ y.weights Try.prog t → z ≤ reachBytes := by
      intro j t y z ht hy hz
      refine hw z ?_
      rw [hd]
      simp only [DataW.weights, Try.underlying28]
      exact DataW.weights_mem_each (j := j) (t := t) (d := y) ht hy _ hz
    constructor
    · refine opt_reach (enc := enc) (w := w) (base := base) (o := s.o) (a := a) (n := n) (cap := cap) (d := x2.1) (p := x2.2) ⟨m, ?_⟩ (fun z hz => hmem 2 _ _ z rfl rfl hz)
      simpa [Value.cells, optCells] using h2
    · rcases DataW.trod_slice Try.underlying26 h3 with ⟨hcs, _⟩ | ⟨a', len', cap', elems, rest, n', _, hcs, hx7, _, _, _, hlen, _⟩
      · injection hcs with hcs _
        injection hcs with _ hn _
        omega
      · injection hcs with hcs _
        injection hcs with _ hn _
        have := hmem 3 _ _ ((elems.length + rest.length) * 1) rfl rfl (by
          rw [hx7]
          simp only [DataW.weights, Try.underlying26, List.length_map, bytes_u8]
          exact List.mem_cons_self)
        unfold reachBytes at this
        omega
end
end Go.Proofs.Ytdfenlagokndkaa.sg
