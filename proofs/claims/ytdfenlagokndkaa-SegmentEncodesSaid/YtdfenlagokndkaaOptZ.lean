/-
  Options that came in: how many bytes their blocks have.
-/
import Derived.Test.YtdfenlagokndkaaOptO
import Derived.SizedLaws
namespace Go.Proofs.Ytdfenlagokndkaa.op
open Go.RowKit aid mem oc
open Go.ChangeShapes Go.WideShapes Go.ChangeAt
set_option linter.unusedVariables false
section
variable {H : Type} {enc : TypeId × Value → H} {w : World} {base : Nat}
theorem bytes_bl : Try.prog.bytesOf 99 = 8 := by kernel_rfl

theorem opt_reach {o : Opt} {a : Option Addr} {n cap : Nat} {d : DataW H} {p : List MemPlace}
    (hk : DataW.Trod enc Try.prog w base (fun _ => true) true 25 (.agg (optCells o a n cap)) d p)
    (hw : ∀ x ∈ d.weights Try.prog 25, x ≤ reachBytes) : n * 8 ≤ 140737488355328 := by
  obtain ⟨fuel, h⟩ := hk
  obtain ⟨xs, m, _, hx, hl, hxl, hf⟩ := DataW.trod_struct Try.underlying25 h
  have h7 := hf 7 _ rfl
  match xs, hxl with
  | [x0, x1, x2, x3, x4, x5, x6, x7], _ =>
    simp [Value.cells, optCells, cells_bls] at h7
    injection hx with hd _
    rcases DataW.trod_slice Try.underlying23 h7 with ⟨hcs, _⟩ | ⟨a', len', cap', elems, rest, n', _, hcs, hx7, _, _, _, hlen, _⟩
    · injection hcs with hcs _
      injection hcs with _ hn _
      omega
    · injection hcs with hcs _
      injection hcs with _ hn _
      have hm : (elems.length + rest.length) * 8 ∈ DataW.weights Try.prog 25 d := by
        rw [hd]
        simp only [DataW.weights, Try.underlying25]
        refine DataW.weights_mem_each (j := 7) (t := 23) (d := x7.1) rfl rfl _ ?_
        rw [hx7]
        simp only [DataW.weights, Try.underlying23, List.length_map, bytes_bl]
        exact List.mem_cons_self
      have := hw _ hm
      unfold reachBytes at this
      omega
end
end Go.Proofs.Ytdfenlagokndkaa.op
