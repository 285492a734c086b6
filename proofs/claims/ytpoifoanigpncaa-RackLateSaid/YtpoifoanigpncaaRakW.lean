/-
  Package rack: its calls, but for Late.
-/
import Derived.Test.YtpoifoanigpncaaRakX
import Derived.Test.YtpoifoanigpncaaBokW
import Derived.Test.YtpoifoanigpncaaSeqX
namespace Go.Proofs.Ytpoifoanigpncaa.rk
open Go.RowKit aid mem bk
attribute [local go_sem ↓] Go.wp_at_zero Go.wp_at_succ
set_option linter.unusedVariables false
set_option linter.unusedSimpArgs false

abbrev rkC (x : Rk) : Array Value := #[.int .i64 x.floor, .int .i64 x.rtt, .int .i64 x.order, .int .i64 x.fin, .bool x.mixed, .int .i64 x.mult, .int .i64 x.round, .int .i64 x.rest]
def RkAt (w : World) (X : Nat) (x : Rk) : Prop := w.heap[X]? = some (.cells (rkC x) 80 (0, 0))
section
variable {w w' : World} {X : Nat} {x : Rk} (h : RkAt w X x)
include h
theorem RkAt.cs : w.cell? ⟨X, 0, none⟩ = some (.int .i64 x.floor) ∧ w.cell? ⟨X, 1, none⟩ = some (.int .i64 x.rtt) ∧ w.cell? ⟨X, 2, none⟩ = some (.int .i64 x.order) ∧ w.cell? ⟨X, 3, none⟩ = some (.int .i64 x.fin) ∧ w.cell? ⟨X, 4, none⟩ = some (.bool x.mixed) ∧ w.cell? ⟨X, 5, none⟩ = some (.int .i64 x.mult) ∧ w.cell? ⟨X, 6, none⟩ = some (.int .i64 x.round) ∧ w.cell? ⟨X, 7, none⟩ = some (.int .i64 x.rest) :=
  ⟨cofr h 0 _ rfl, cofr h 1 _ rfl, cofr h 2 _ rfl, cofr h 3 _ rfl, cofr h 4 _ rfl, cofr h 5 _ rfl, cofr h 6 _ rfl, cofr h 7 _ rfl⟩
theorem RkAt.f (i : Nat) : w.frozen? ⟨X, i, none⟩ = false := fofr h i
theorem RkAt.lt : X < w.heap.size := lt_of_block h
theorem RkAt.keep {S : List Nat} (hk : Kept S w w') (hb : X ∉ S) : RkAt w' X x := hk.heap hb h
theorem RkAt.later (hk : Below w.heap.size w w') : RkAt w' X x := (hk.block X (lt_of_block h)).trans h
theorem RkAt.drewN (n : Nat) : RkAt (w.drewN n) X x := h
end
/-- a call that changes nothing but draws -/
def Q (f : FuncId) (args : Array Value) (v : Value) (w : World) : Prop := ∀ n, Calls Try.prog f args (w.drewN n) fun e w'' => e = .returned v ∧ ∃ m, w'' = w.drewN m
theorem Q.mk {f : FuncId} {args : Array Value} {v : Value} {w : World} (h : ∀ n, Calls Try.prog f args (w.drewN n) fun e w'' => e = .returned v ∧ ∃ m, w'' = (w.drewN n).drewN m) : Q f args v w := fun n =>
  (h n).mono fun _ _ ⟨he, m, hm⟩ => ⟨he, n + m, by rw [hm, World.drewN_drewN]⟩
theorem Q.of {f : FuncId} {args : Array Value} {v : Value} {w : World} (h : ∀ n, Calls Try.prog f args (w.drewN n) fun e w'' => e = .returned v ∧ w.drewN n = w'') : Q f args v w := fun n =>
  (h n).mono fun _ _ ⟨he, hm⟩ => ⟨he, n, hm.symm⟩
theorem Q.below {f : FuncId} {args : Array Value} {v : Value} {w : World} (h : Q f args v w) : Calls Try.prog f args w fun e w' => e = .returned v ∧ Below w.heap.size w w' :=
  (h 0).mono fun e w' ⟨h1, n, h2⟩ => ⟨h1, h2 ▸ belN w n⟩
set_option maxHeartbeats 1000000 in
theorem hold_eq (n : Int) (w : World) : Calls Try.prog 33 #[.int .i64 n, .int .i64 0, .int .i64 68719476736] w fun e w' => e = .returned (.int .i64 (hld n)) ∧ w = w' := by
  go_enter Try.func33, Try.ntmps33
  by_cases h1 : n < 0
  · go_wp2
    all_goals
      go_ret
      exact ⟨ret_i (by unfold hld; omega), rfl⟩
  · go_wp2
    all_goals
      go_ret
      exact ⟨ret_i (by unfold hld; omega), rfl⟩
theorem hold_q (n : Int) (w : World) : Q 33 #[.int .i64 n, .int .i64 0, .int .i64 68719476736] (.int .i64 (hld n)) w := Q.of fun k => hold_eq n _
theorem new_bad {f : Int} (h : f < 0 ∨ 68719476736 < f) (w : World) : Calls Try.prog 9 #[.int .i64 f] w fun e w' => e = .returned (.tuple #[.pointer none, .int .i64 2]) ∧ w = w' := by
  have hn : (f != hld f) = true := by unfold hld; simp; omega
  have HH := Lib.hid (hold_eq f)
  generalize hld f = z at *
  go_enter Try.func9, Try.ntmps9
  go_wp2_with (go_at_call 33; (with_reducible refine (HH.out _).mono ?_); rintro e w1 ⟨rfl, rfl⟩)
  go_ret2
  exact ⟨rfl, rfl⟩
theorem new_any {f : Int} (h : 0 ≤ f ∧ f ≤ 68719476736) (w : World) : Calls Try.prog 9 #[.int .i64 f] w fun e w' => e = .returned (.tuple #[.pointer (some ⟨w.heap.size, 0, none⟩), .int .i64 0]) ∧ RkAt w' w.heap.size (newR f) ∧ Below w.heap.size w w' := by
  have hn : (f != hld f) = false := by unfold hld; simp; omega
  have HH := Lib.hid (hold_eq f)
  generalize hld f = z at *
  go_enter Try.func9, Try.ntmps9
  go_wp2_with (go_at_call 33; (with_reducible refine (HH.out _).mono ?_); rintro e w1 ⟨rfl, rfl⟩)
  go_ret2
  exact ⟨rfl, heap_alloc_new w _, al w _⟩
theorem since_eq {s n : Int} (hs : 0 ≤ s ∧ s ≤ 4611686018427387904) (hn : s ≤ n ∧ n ≤ 4611686018427387904) (w : World) : Calls Try.prog 44 #[.int .i64 s, .int .i64 n] w fun e w' => e = .returned (.int .i64 (n - s)) ∧ w = w' := by
  obtain ⟨s0, s1⟩ := hs
  obtain ⟨n0, n1⟩ := hn
  go_enter Try.func44, Try.ntmps44
  go_wp2
  all_goals
    go_ret
    exact ⟨ret_i (by first | rfl | (simp; omega) | omega), rfl⟩
theorem tog_eq {a b : Int} (ha : 0 ≤ a ∧ a ≤ 6917529027641081856) (hb : 0 ≤ b ∧ b ≤ 1152921504606846976) (w : World) : Calls Try.prog 46 #[.int .i64 a, .int .i64 b] w fun e w' => e = .returned (.int .i64 (a + b)) ∧ w = w' := by
  obtain ⟨s0, s1⟩ := ha
  obtain ⟨n0, n1⟩ := hb
  have h1 : b ≤ 9223372036854775807 - a := by omega
  go_enter Try.func46, Try.ntmps46
  go_wp2
  all_goals
    go_ret
    exact ⟨ret_i (by first | rfl | omega), rfl⟩
end Go.Proofs.Ytpoifoanigpncaa.rk
