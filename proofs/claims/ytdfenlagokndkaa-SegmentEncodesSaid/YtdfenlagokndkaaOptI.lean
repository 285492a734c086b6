/-
  Package option: what bytes say, and that what was written is read.
-/
import Derived.Test.YtdfenlagokndkaaOptD
import Derived.Test.YtdfenlagokndkaaOptG
import Derived.Test.YtdfenlagokndkaaOptA
import Derived.Test.YtdfenlagokndkaaRef2
import Derived.OpenShut
namespace Go.Proofs.Ytdfenlagokndkaa.op
open Go.RowKit Go.ChangeShapes aid mem oc
set_option linter.unusedVariables false

theorem info_u8 : (Try.prog.info? 5).map (fun i => (i.zero, i.size, i.bytes)) = some (some (.int .u8 0), 1, 1) := by kernel_rfl
theorem bl_new (w : World) (x y : Int) (t : TypeId) : BlA (w.alloc (.cells #[.int .u32 x, .int .u32 y] t)) (some ⟨w.heap.size, 0, none⟩) 1 1 [(x, y)] :=
  ⟨rfl, Nat.le_refl _, by simp [maxLen], (fun h => by cases h), fun _ => ⟨w.heap.size, 0, rfl, fun i hi => by
    obtain rfl : i = 0 := by omega
    exact ⟨World.cell?_alloc_at _ _ _ _ rfl, World.cell?_alloc_at _ _ _ _ rfl⟩⟩⟩

/-- what bytes say -/
def parseL (l : List Int) : Opt × Int := if 40 < l.length then (Opt.zero, 9) else prs 41 l Opt.zero
def ParseTo (r : Opt) (c : Int) (w : World) (e : Ending) (w' : World) : Prop :=
  ∃ a n cap, e = .returned (.tuple #[.agg (optCells r a n cap), .int .i64 c]) ∧ BlA w' a n cap r.bl ∧ Below w.heap.size w w'
theorem parse_to (sa : Option Addr) (m sc : Nat) (l : List Int) (w : World) (r : Opt) (c : Int) (hs : SlA .u8 w sa m sc l) (hb : Bd l) (h : parseL l = (r, c)) :
    Calls Try.prog 92 #[.slice sa m sc] w (ParseTo r c w) :=
  (parse_any sa m sc l w hs hb).mono fun e w' ⟨a, n, cap, h1, h2, h3⟩ => by
    have hr : (if 40 < l.length then (Opt.zero, (9 : Int)) else prs 41 l Opt.zero) = (r, c) := h
    rw [hr] at h1 h2
    exact ⟨a, n, cap, h1, h2, h3⟩

theorem parseL_may (l : List Int) (hb : Bd l) : (parseL l).1.May ∧ ((parseL l).2 ≠ 0 → (parseL l).1 = .zero) := by
  unfold parseL
  split
  · exact ⟨may_zero, fun _ => rfl⟩
  · exact prs_may 41 l .zero may_zero hb

theorem bytes_of_row {w : World} {a : Option Addr} {len cap : Nat} {zs : List Int} (h : IsRow .u8 w a len cap zs) : Bd (zs.take len) :=
  fun x hx => bounds_u8 (wf_of_row h x hx)

theorem chk0_len (o : Opt) (h : chk o = 0) : o.bl.length ≤ 4 ∧ size4 o ≤ 40 := by
  unfold chk at h
  (repeat' split at h) <;> first | omega | exact ⟨by omega, by omega⟩
theorem parse_enc (o : Opt) (hf : o.Fit) (hc : chk o = 0) : parseL (enc o) = (o, 0) := by
  obtain ⟨f, h1, h2⟩ := prs_enc o hf hc
  have h3 := (chk0_len o hc).2
  rw [← enc_len] at h3
  unfold parseL
  rw [if_neg (by omega), prs_more 41 f _ _ (by omega) h1, h2]

end Go.Proofs.Ytdfenlagokndkaa.op
