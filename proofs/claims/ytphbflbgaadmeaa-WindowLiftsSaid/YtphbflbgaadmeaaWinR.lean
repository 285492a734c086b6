/-
  The reference's windows: Cut, Set, Lift, Grow.
-/
import Derived.Test.YtphbflbgaadmeaaWinG
namespace Go.Proofs.Ytphbflbgaadmeaa.wn
open Go.RowKit aid mem
attribute [local go_sem ↓] Go.wp_at_zero Go.wp_at_succ
set_option linter.unusedVariables false
set_option linter.unusedSimpArgs false

theorem bal2 {w : World} (a b : Obj) : Below w.heap.size w ((w.alloc a).alloc b) := ((Below.refl _ _).alloc (Nat.le_refl _) _).alloc (by simp) _
def RetR (y : Wn) (w : World) (e : Ending) (w' : World) : Prop := e = .returned (wnV y) ∧ Below w.heap.size w w'
set_option maxHeartbeats 2000000 in
theorem rset_any {w : World} {x : Wn} (ho : Ok x) (n : Int) : Calls Try.prog 23 #[wnV x, .int .i64 n] w (RetR (put x n) w) := by
  have h1 := ho.c0; have h2 := ho.c1
  obtain ⟨mss, most, cwnd, thresh, count⟩ := x
  dsimp only at *
  clear ho
  go_enter Try.func23, Try.ntmps23
  go_wp2_with fail
  all_goals
    exact bodyPost_ret (v := wnV (put ⟨mss, most, cwnd, thresh, count⟩ n)) (by simp [results, Try.results23, go_sem, put, hold] <;> omega) rfl ⟨rfl, bal2 _ _⟩
set_option maxHeartbeats 2000000 in
theorem rcut_any {w : World} {x : Wn} (ho : Ok x) (n : Int) : Calls Try.prog 22 #[wnV x, .int .i64 n] w (RetR (cut x n) w) := by
  have h1 := ho.c0; have h2 := ho.c1; have m0 := ho.m0; have m1 := ho.m1
  obtain ⟨mss, most, cwnd, thresh, count⟩ := x
  dsimp only at *
  clear ho
  go_enter Try.func22, Try.ntmps22
  go_wp2_with fail
  all_goals
    exact bodyPost_ret (v := wnV (cut ⟨mss, most, cwnd, thresh, count⟩ n)) (by simp [results, Try.results22, go_sem, cut, cutT, hold] <;> omega) rfl ⟨rfl, bal2 _ _⟩
set_option maxHeartbeats 2000000 in
theorem rlift_any {w : World} {x : Wn} (ho : Ok x) (a b : Int) : Calls Try.prog 24 #[wnV x, .int .i64 a, .int .i64 b] w (RetR (lift x a b) w) := by
  obtain ⟨mss, most, cwnd, thresh, count⟩ := x
  clear ho
  go_enter Try.func24, Try.ntmps24
  go_wp2_with fail
  all_goals
    exact bodyPost_ret (v := wnV (lift ⟨mss, most, cwnd, thresh, count⟩ a b)) (by simp [results, Try.results24, go_sem, lift, hold] <;> omega) rfl ⟨rfl, bal2 _ _⟩
set_option maxHeartbeats 4000000 in
theorem rgrow_any {w : World} {x : Wn} (ho : Ok x) (a : Int) : Calls Try.prog 25 #[wnV x, .int .i64 a] w (RetR (grow x a) w) := by
  have m0 := ho.m0; have m1 := ho.m1; have k0 := ho.c0; have k1 := ho.c1; have x1 := ho.x1; have n0 := ho.n0; have n1 := ho.n1
  obtain ⟨mss, most, cwnd, thresh, count⟩ := x
  dsimp only at *
  clear ho
  by_cases ha : a < 1
  · have HG : Hid (grow ⟨mss, most, cwnd, thresh, count⟩ a = ⟨mss, most, cwnd, thresh, count⟩) := Lib.hid (by unfold grow; rw [if_pos ha])
    rw [HG.out]
    go_enter Try.func25, Try.ntmps25
    go_wp2_with fail
    all_goals
      exact bodyPost_ret (v := wnV ⟨mss, most, cwnd, thresh, count⟩) (by simp [results, Try.results25, go_sem]) rfl ⟨rfl, bal2 _ _⟩
  · by_cases hc : cwnd < thresh
    · have HG : Hid (grow ⟨mss, most, cwnd, thresh, count⟩ a = ⟨mss, most, min (max (cwnd + min a mss) mss) most, thresh, count⟩) := Lib.hid (by unfold grow; rw [if_neg ha]; dsimp only; rw [if_pos hc]; rfl)
      rw [HG.out]
      go_enter Try.func25, Try.ntmps25
      go_wp2_with fail
      all_goals
        exact bodyPost_ret (v := wnV ⟨mss, most, min (max (cwnd + min a mss) mss) most, thresh, count⟩) (by simp [results, Try.results25, go_sem] <;> omega) rfl ⟨rfl, bal2 _ _⟩
    · by_cases hd : count + min a cwnd < cwnd
      · have HG : Hid (grow ⟨mss, most, cwnd, thresh, count⟩ a = ⟨mss, most, cwnd, thresh, count + min a cwnd⟩) := Lib.hid (by unfold grow; rw [if_neg ha]; dsimp only; rw [if_neg hc, if_pos hd])
        rw [HG.out]
        go_enter Try.func25, Try.ntmps25
        go_wp2_with fail
        all_goals
          exact bodyPost_ret (v := wnV ⟨mss, most, cwnd, thresh, count + min a cwnd⟩) (by simp [results, Try.results25, go_sem] <;> omega) rfl ⟨rfl, bal2 _ _⟩
      · have HG : Hid (grow ⟨mss, most, cwnd, thresh, count⟩ a = ⟨mss, most, min (max (cwnd + mss) mss) most, thresh, count + min a cwnd - cwnd⟩) := Lib.hid (by unfold grow; rw [if_neg ha]; dsimp only; rw [if_neg hc, if_neg hd]; rfl)
        rw [HG.out]
        go_enter Try.func25, Try.ntmps25
        go_wp2_with fail
        all_goals
          exact bodyPost_ret (v := wnV ⟨mss, most, min (max (cwnd + mss) mss) most, thresh, count + min a cwnd - cwnd⟩) (by simp [results, Try.results25, go_sem] <;> omega) rfl ⟨rfl, bal2 _ _⟩
end Go.Proofs.Ytphbflbgaadmeaa.wn
