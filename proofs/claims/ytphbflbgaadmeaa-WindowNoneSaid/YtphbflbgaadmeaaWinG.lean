/-
  Package window: Grow, New; the reference's windows.
-/
import Derived.Test.YtphbflbgaadmeaaWinW
namespace Go.Proofs.Ytphbflbgaadmeaa.wn
open Go.RowKit aid mem
attribute [local go_sem ↓] Go.wp_at_zero Go.wp_at_succ
set_option linter.unusedVariables false
set_option linter.unusedSimpArgs false

set_option maxHeartbeats 2000000 in
theorem grow_any {w : World} {B : Nat} {x : Wn} (h : WnAt w B x) (ho : Ok x) (a : Int) : Calls Try.prog 17 #[.pointer (some ⟨B, 0, none⟩), .int .i64 a] w (RetW (.tuple #[]) B (grow x a) w) := by
  have HH := Lib.hid h
  by_cases ha : a < 1
  · have HG : Hid (grow x a = x) := Lib.hid (by unfold grow; rw [if_pos ha])
    rw [HG.out]
    go_enter Try.func17, Try.ntmps17
    go_wp2_with fail
    exact bodyPost_ret (v := .tuple #[]) (by simp [results, Try.results17, go_sem]) rfl ⟨rfl, HH.out, Kept.refl _ _⟩
  · have ha1 : 1 ≤ a := by omega
    have HS := Lib.hid (slow_q h).at
    by_cases hc : x.cwnd < x.thresh
    · have HG : Hid (grow x a = put x (x.cwnd + min a x.mss)) := Lib.hid (by unfold grow; rw [if_neg ha, if_pos hc])
      rw [HG.out]
      have HQ := Lib.hid (fun n => quickly_any (h.drewN n) ho ha1)
      have HD := Lib.hid (decide_eq_true hc)
      clear h HG ha hc
      go_enter Try.func17, Try.ntmps17
      go_wp2_with (first
        | (go_at_call 15; (with_reducible refine HS.out.mono ?_); rintro e w1 ⟨rfl, m, rfl⟩; rw [HD.out])
        | (go_at_call 28; (with_reducible refine (HQ.out _).mono ?_); rintro e w1 ⟨rfl, q1, q2⟩))
      go_end0
      exact ⟨rfl, q1, (kd w m _).trans q2 (by simp)⟩
    · have HG : Hid (grow x a = steady x (min a x.cwnd)) := Lib.hid (by unfold grow steady; rw [if_neg ha, if_neg hc])
      rw [HG.out]
      have HQ := Lib.hid (fun n => steadily_any (h.drewN n) ho ha1)
      have HD := Lib.hid (decide_eq_false hc)
      clear h HG ha hc
      go_enter Try.func17, Try.ntmps17
      go_wp2_with (first
        | (go_at_call 15; (with_reducible refine HS.out.mono ?_); rintro e w1 ⟨rfl, m, rfl⟩; rw [HD.out])
        | (go_at_call 27; (with_reducible refine (HQ.out _).mono ?_); rintro e w1 ⟨rfl, q1, q2⟩))
      go_end0
      exact ⟨rfl, q1, (kd w m _).trans q2 (by simp)⟩
def newB (m s l : Int) : Bool := decide (1 ≤ m ∧ m ≤ 2048 ∧ m ≤ l ∧ l ≤ 1048576 ∧ m ≤ s ∧ s ≤ l)
theorem new_bad {m s l : Int} {w : World} (h : newB m s l = false) : Calls Try.prog 8 #[.int .i64 m, .int .i64 s, .int .i64 l] w
    fun x w' => x = .returned (.tuple #[.pointer none, .int .i64 2]) ∧ w = w' := by
  have HA := Lib.hid (fun a b c W => among_eq a b c W)
  unfold newB at h
  by_cases h1 : 1 ≤ m ∧ m ≤ 2048
  · have H1 := Lib.hid (decide_eq_true h1)
    by_cases h2 : m ≤ l ∧ l ≤ 1048576
    · have H2 := Lib.hid (decide_eq_true h2)
      have H3 := Lib.hid (show decide (m ≤ s ∧ s ≤ l) = false from by simp at h; simp; omega)
      clear h h1 h2
      go_enter Try.func8, Try.ntmps8
      go_wp2_with (go_at_call 21; (with_reducible refine (HA.out _ _ _ _).mono ?_); rintro e w1 ⟨rfl, rfl⟩; first | rw [H1.out] | rw [H2.out] | rw [H3.out])
      go_ret2
      exact ⟨rfl, rfl⟩
    · have H2 := Lib.hid (decide_eq_false h2)
      clear h h1 h2
      go_enter Try.func8, Try.ntmps8
      go_wp2_with (go_at_call 21; (with_reducible refine (HA.out _ _ _ _).mono ?_); rintro e w1 ⟨rfl, rfl⟩; first | rw [H1.out] | rw [H2.out])
      go_ret2
      exact ⟨rfl, rfl⟩
  · have H1 := Lib.hid (decide_eq_false h1)
    clear h h1
    go_enter Try.func8, Try.ntmps8
    go_wp2_with (go_at_call 21; (with_reducible refine (HA.out _ _ _ _).mono ?_); rintro e w1 ⟨rfl, rfl⟩; rw [H1.out])
    go_ret2
    exact ⟨rfl, rfl⟩
theorem newB_ok {m s l : Int} (h : newB m s l = true) : 1 ≤ m ∧ m ≤ 2048 ∧ m ≤ l ∧ l ≤ 1048576 ∧ m ≤ s ∧ s ≤ l := of_decide_eq_true h
theorem new_ok_any {m s l : Int} {w : World} (h : newB m s l = true) : Calls Try.prog 8 #[.int .i64 m, .int .i64 s, .int .i64 l] w
    fun x w' => x = .returned (.tuple #[.pointer (some ⟨w.heap.size, 0, none⟩), .int .i64 0]) ∧ WnAt w' w.heap.size ⟨m, l, s, l, 0⟩ ∧ Below w.heap.size w w' := by
  have HA := Lib.hid (fun a b c W => among_eq a b c W)
  have hh := newB_ok h
  have H1 := Lib.hid (show decide (1 ≤ m ∧ m ≤ 2048) = true from by simp; omega)
  have H2 := Lib.hid (show decide (m ≤ l ∧ l ≤ 1048576) = true from by simp; omega)
  have H3 := Lib.hid (show decide (m ≤ s ∧ s ≤ l) = true from by simp; omega)
  clear h hh
  go_enter Try.func8, Try.ntmps8
  go_wp2_with (go_at_call 21; (with_reducible refine (HA.out _ _ _ _).mono ?_); rintro e w1 ⟨rfl, rfl⟩; first | rw [H1.out] | rw [H2.out] | rw [H3.out])
  go_ret2
  exact ⟨rfl, heap_alloc_new w _, (Below.refl _ _).alloc (Nat.le_refl _) _⟩
/-! the reference's -/
abbrev wnV (x : Wn) : Value := .agg (cellsW x)
abbrev wnO (x : Wn) : Obj := .cells (cellsW x) 30
theorem al (w : World) (o : Obj) : Below w.heap.size w (w.alloc o) := (Below.refl _ _).alloc (Nat.le_refl _) _
theorem right_any (m s l : Int) (w : World) : Calls Try.prog 9 #[.int .i64 m, .int .i64 s, .int .i64 l] w fun x w' => x = .returned (.bool (newB m s l)) ∧ w = w' := by
  unfold newB
  go_enter Try.func9, Try.ntmps9
  by_cases h1 : 1 ≤ m <;> by_cases h2 : m ≤ 2048 <;> by_cases h3 : m ≤ l <;> by_cases h4 : l ≤ 1048576 <;> by_cases h5 : m ≤ s <;> go_wp2
  all_goals
    go_ret
    exact ⟨ret_b (by simp [*] <;> omega), rfl⟩
theorem rnew_any (m s l : Int) (w : World) : Calls Try.prog 10 #[.int .i64 m, .int .i64 s, .int .i64 l] w fun x w' => x = .returned (wnV ⟨m, l, s, l, 0⟩) ∧ Below w.heap.size w w' := by
  go_enter Try.func10, Try.ntmps10
  go_wp2_with fail
  exact bodyPost_ret (v := wnV ⟨m, l, s, l, 0⟩) (by simp [results, Try.results10, go_sem]) rfl ⟨rfl, al _ _⟩
end Go.Proofs.Ytphbflbgaadmeaa.wn
