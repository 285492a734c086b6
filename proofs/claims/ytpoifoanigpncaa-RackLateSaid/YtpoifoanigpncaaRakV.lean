/-
  A Flight that came in by value.
-/
import Derived.Test.YtpoifoanigpncaaFly
import Derived.Test.YtpoifoanigpncaaRakO
import Derived.OpenShut
namespace Go.Proofs.Ytpoifoanigpncaa.rk
open Go.RowKit aid mem opn bk Go.ChangeShapes Go.WideShapes Go.ChangeAt
set_option linter.unusedVariables false
set_option linter.unusedSimpArgs false

structure FlV where
  sa : Option Addr
  sn : Nat
  sc : Nat
  xs : Nat → Int × Int
  ba : Option Addr
  bn : Nat
  bc : Nat
  zs : Nat → Int
  la : Option Addr
  ln : Nat
  lc : Nat
  ys : Nat → Int
structure FlIs (w : World) (q : FlV) : Prop where
  s : SdA w q.sa q.sn q.sc q.xs
  b : ByA w q.ba q.bn q.bc q.zs
  l : ByA w q.la q.ln q.lc q.ys
theorem cells_fl : Try.prog.cellsOf 50 = 3 := by kernel_rfl
theorem cells_pr : Try.prog.cellsOf 72 = 2 := by kernel_rfl
theorem cells_ps : Try.prog.cellsOf 47 = 1 := by kernel_rfl
theorem cells_bs : Try.prog.cellsOf 48 = 1 := by kernel_rfl
theorem cells_by : Try.prog.cellsOf 5 = 1 := by kernel_rfl
def PrIs (cs : List Value) (q : Int × Int) : Prop := cs = [.int .u8 q.1, .int .u8 q.2] ∧ (0 ≤ q.1 ∧ q.1 ≤ 255) ∧ (0 ≤ q.2 ∧ q.2 ≤ 255)
section
variable {H : Type} {enc : TypeId × Value → H} {w : World} {base : Nat}
set_option maxRecDepth 100000 in
theorem pr_of (n : Nat) (cs : List Value) (d : DataW H) (p : List MemPlace)
    (h : DataW.trod enc Try.prog w base (fun _ => true) true n 72 cs = some (d, p)) : ∃ q : Int × Int, PrIs cs q ∧ True := by
  obtain ⟨xs, m, _, hx, hl, hxl, hf⟩ := DataW.trod_array Try.underlying72 h
  rw [cells_pr] at hl
  have h0 := hf 0 (by omega)
  have h1 := hf 1 (by omega)
  rw [cells_by] at h0 h1
  match cs, hl, xs, hxl with
  | [c0, c1], _, [x0, x1], _ =>
    simp at h0 h1
    obtain ⟨v0, hv0, _, hw0⟩ := DataW.trod_int Try.underlying5 h0
    injection hv0 with hv0 _
    obtain ⟨v1, hv1, _, hw1⟩ := DataW.trod_int Try.underlying5 h1
    injection hv1 with hv1 _
    subst hv0 hv1
    exact ⟨(v0, v1), ⟨rfl, bounds_u8 hw0, bounds_u8 hw1⟩, trivial⟩
theorem sd_of_els {a : Option Addr} {len cap : Nat} {l : List (Int × Int)} (h : ElA PrIs 2 w a len cap l) : SdA w a len cap (fun i => l.getD i (0, 0)) := by
  refine ⟨h.le, h.most, fun h0 => ?_⟩
  obtain ⟨b, off, ha, hc⟩ := h.cells h0
  refine ⟨b, off, ha, fun i hi => ?_⟩
  have hil : i < l.length := by rw [h.len]; exact hi
  obtain ⟨cs, hR, _, hj⟩ := hc i hil
  have hg : l.getD i (0, 0) = l[i] := by simp [List.getD, hil]
  obtain ⟨rfl, h1, h2⟩ := hR
  simp only [hg]
  have g0 := hj 0 (by omega)
  have g1 := hj 1 (by omega)
  exact ⟨by simpa using g0, by simpa [Nat.add_assoc] using g1, h1, h2⟩
theorem by_of_row {a : Option Addr} {len cap : Nat} {zs : List Int} (h : IsRow .u8 w a len cap zs) : ByA w a len cap (fun i => (zs.take len).getD i 0) := by
  have hs := sl_of_row h
  have hw := wf_of_row h
  refine ⟨hs.le, hs.most, fun h0 => ?_⟩
  obtain ⟨b, off, ha, hc⟩ := hs.cells (by have := hs.le; omega)
  refine ⟨b, off, ha, fun i hi => ⟨hc i hi, ?_⟩⟩
  exact aid.getD_bd (fun n => 0 ≤ n ∧ n ≤ 255) ⟨by decide, by decide⟩ (fun n hn => bounds_u8 (hw n hn)) i
/-- a slice of bytes within a struct -/
theorem by_in {n : Nat} {c : Value} {x : DataW H × List MemPlace} (h : DataW.trod enc Try.prog w base (fun _ => true) true n 48 [c] = some x) : ∃ a len cap z, c = .slice a len cap ∧ ByA w a len cap z := by
  rcases open_ints Try.underlying48 Try.underlying5 (by kernel_rfl) h with ⟨hcs, _⟩ | ⟨x, l, c', zs, hcs, _, hl, hm, hz, hx, hcell, hwz⟩
  · injection hcs with hcs _
    exact ⟨none, 0, 0, _, hcs, by_of_row (.inl ⟨rfl, rfl, rfl, rfl⟩ : IsRow .u8 w none 0 0 [])⟩
  · injection hcs with hcs _
    exact ⟨some x, l, c', _, hcs, by_of_row (.inr ⟨x, rfl, hl, hm, by simpa using hz, hcell, hwz⟩ : IsRow .u8 w (some x) l c' zs)⟩
set_option maxRecDepth 100000 in
theorem open_fl {b0 : Nat} {v : Value} {d : DataW H} {p : List MemPlace} (hv : Value.okWide Try.prog w .any b0 50 v)
    (hk : DataW.Trod enc Try.prog w base (fun _ => true) true 50 v d p) : ∃ s : {q : FlV // FlIs w q}, v = .agg #[.slice s.1.sa s.1.sn s.1.sc, .slice s.1.ba s.1.bn s.1.bc, .slice s.1.la s.1.ln s.1.lc] := by
  obtain ⟨cs, rfl, hsz⟩ := okWide_struct Try.underlying50 hv
  obtain ⟨fuel, h⟩ := hk
  obtain ⟨xs, m, _, hx, hl, hxl, hf⟩ := DataW.trod_struct Try.underlying50 h
  rw [cells_fl] at hsz
  have h0 := hf 0 _ rfl
  have h1 := hf 1 _ rfl
  have h2 := hf 2 _ rfl
  obtain ⟨cl⟩ := cs
  match cl, hsz, xs, hxl with
  | [c0, c1, c2], _, [x0, x1, x2], _ =>
    simp [Value.cells, cells_ps, cells_bs] at h0 h1 h2
    have key : ∃ a len cap l, c0 = .slice a len cap ∧ ElA PrIs 2 w a len cap l := by
      have hsl : ∃ a len cap, c0 = .slice a len cap := by
        rcases DataW.trod_slice Try.underlying47 h0 with ⟨hcs, _⟩ | ⟨a', len', cap', elems, rest, n, _, hcs, _⟩
        · injection hcs with hcs _; exact ⟨_, _, _, hcs⟩
        · injection hcs with hcs _; exact ⟨_, _, _, hcs⟩
      obtain ⟨a, len, cap, rfl⟩ := hsl
      obtain ⟨l, hl, _⟩ := open_els (R := PrIs) (D := fun (_ : DataW H) (_ : Int × Int) => True) (d := x0.1) (p := x0.2) Try.underlying47 (by rw [cells_pr]; omega) ⟨m, h0⟩ pr_of
      rw [cells_pr] at hl
      exact ⟨a, len, cap, l, rfl, hl⟩
    obtain ⟨a, len, cap, l, rfl, hel⟩ := key
    obtain ⟨a1, n1, p1, z1, rfl, hb1⟩ := by_in h1
    obtain ⟨a2, n2, p2, z2, rfl, hb2⟩ := by_in h2
    exact ⟨⟨⟨a, len, cap, _, a1, n1, p1, z1, a2, n2, p2, z2⟩, ⟨sd_of_els hel, hb1, hb2⟩⟩, rfl⟩
end
end Go.Proofs.Ytpoifoanigpncaa.rk
