/-
  Package window: a window in memory; its methods.
-/
import Derived.Test.YtphbflbgaadmeaaProg
import Derived.Test.YtphbflbgaadmeaaWinX
import Derived.Test.YtphbflbgaadmeaaMem
import Derived.Laws.StructEq
import Derived.Deep.DrawnRows
import Derived.StillTailTactics
import Derived.IntWalk
namespace Go.Proofs.Ytphbflbgaadmeaa.wn
open Go.RowKit aid mem
attribute [local go_sem ↓] Go.wp_at_zero Go.wp_at_succ
set_option linter.unusedVariables false
set_option linter.unusedSimpArgs false

abbrev cellsW (x : Wn) : Array Value := #[.int .i64 x.mss, .int .i64 x.most, .int .i64 x.cwnd, .int .i64 x.thresh, .int .i64 x.count]
/-- block B holds a window -/
def WnAt (w : World) (B : Nat) (x : Wn) : Prop := w.heap[B]? = some (.cells (cellsW x) 48 (0, 0))
section
variable {w : World} {B : Nat} {x : Wn} (h : WnAt w B x)
include h
theorem WnAt.cs : w.cell? ⟨B, 0, none⟩ = some (.int .i64 x.mss) ∧ w.cell? ⟨B, 1, none⟩ = some (.int .i64 x.most) ∧ w.cell? ⟨B, 2, none⟩ = some (.int .i64 x.cwnd) ∧ w.cell? ⟨B, 3, none⟩ = some (.int .i64 x.thresh) ∧ w.cell? ⟨B, 4, none⟩ = some (.int .i64 x.count) :=
  ⟨(cell_of_row w B 0 _ _ (0, 0) h).trans rfl, (cell_of_row w B 1 _ _ (0, 0) h).trans rfl, (cell_of_row w B 2 _ _ (0, 0) h).trans rfl, (cell_of_row w B 3 _ _ (0, 0) h).trans rfl, (cell_of_row w B 4 _ _ (0, 0) h).trans rfl⟩
theorem WnAt.f (i : Nat) : w.frozen? ⟨B, i, none⟩ = false := by simp [World.frozen?, show w.heap[B]? = _ from h]
theorem WnAt.keep {S : List Nat} {w' : World} (hk : Kept S w w') (hb : B ∉ S) : WnAt w' B x := hk.heap hb h
theorem WnAt.later {w' : World} (hk : Below w.heap.size w w') : WnAt w' B x := (hk.block B (lt_of_block h)).trans h
theorem WnAt.lt : B < w.heap.size := lt_of_block h
theorem WnAt.drewN (n : Nat) : WnAt (w.drewN n) B x := h
theorem WnAt.drew : WnAt w.drew B x := h
end
theorem WnAt.put (i : Nat) (u : Value) {w : World} {X : Nat} {x x' : Wn} (h : WnAt w X x) (hx : (cellsW x).setIfInBounds i u = cellsW x') : WnAt (w.setCell ⟨X, i, none⟩ u) X x' := by
  unfold WnAt
  rw [← hx]
  exact heap_setCell_same _ X i _ _ _ h
theorem kset (w : World) (B i : Nat) (u : Value) : Kept [B] w (w.setCell ⟨B, i, none⟩ u) := (Kept.refl [B] w).setCell (.inl (by simp)) u
theorem kd (w : World) (n : Nat) (S : List Nat) : Kept S w (w.drewN n) := (Kept.refl S w).drewN n
/-- a call that changes nothing but draws -/
def Q (f : FuncId) (args : Array Value) (v : Value) (w : World) : Prop := ∀ n, Calls Try.prog f args (w.drewN n) fun e w'' => e = .returned v ∧ ∃ m, w'' = w.drewN m
theorem Q.mk {f : FuncId} {args : Array Value} {v : Value} {w : World} (h : ∀ n, Calls Try.prog f args (w.drewN n) fun e w'' => e = .returned v ∧ ∃ m, w'' = (w.drewN n).drewN m) : Q f args v w := fun n =>
  (h n).mono fun _ _ ⟨he, m, hm⟩ => ⟨he, n + m, by rw [hm, World.drewN_drewN]⟩
theorem Q.at {f : FuncId} {args : Array Value} {v : Value} {w : World} (h : Q f args v w) : Calls Try.prog f args w fun e w'' => e = .returned v ∧ ∃ m, w'' = w.drewN m := h 0
theorem Q.below {f : FuncId} {args : Array Value} {v : Value} {w : World} (h : Q f args v w) : Calls Try.prog f args w fun e w' => e = .returned v ∧ Below w.heap.size w w' :=
  (h.at).mono fun e w' ⟨h1, n, h2⟩ => ⟨h1, h2 ▸ ⟨rfl, rfl, rfl, Nat.le_refl _, fun _ _ => rfl⟩⟩
/-- behind a call that writes the window at B -/
def RetW (v : Value) (B : Nat) (x' : Wn) (w : World) (e : Ending) (w' : World) : Prop := e = .returned v ∧ WnAt w' B x' ∧ Kept [B] w w'

theorem hold_eq (n lo hi : Int) (w : World) : Calls Try.prog 26 #[.int .i64 n, .int .i64 lo, .int .i64 hi] w fun e w' => e = .returned (.int .i64 (hold n lo hi)) ∧ w = w' := by
  unfold hold
  go_enter Try.func26, Try.ntmps26
  by_cases h1 : n < lo
  · go_wp2
    all_goals
      go_ret
      exact ⟨ret_i (by omega), rfl⟩
  · go_wp2
    all_goals
      go_ret
      exact ⟨ret_i (by omega), rfl⟩
theorem hold_q (n lo hi : Int) (w : World) : Q 26 #[.int .i64 n, .int .i64 lo, .int .i64 hi] (.int .i64 (hold n lo hi)) w := fun k => (hold_eq n lo hi _).mono fun e w' ⟨h1, h2⟩ => ⟨h1, k, h2.symm⟩
theorem among_eq (n lo hi : Int) (w : World) : Calls Try.prog 21 #[.int .i64 n, .int .i64 lo, .int .i64 hi] w fun e w' => e = .returned (.bool (decide (lo ≤ n ∧ n ≤ hi))) ∧ w = w' := by
  go_enter Try.func21, Try.ntmps21
  by_cases h1 : lo ≤ n <;> by_cases h2 : n ≤ hi <;> go_wp2
  all_goals
    go_ret
    exact ⟨ret_b (by simp [*] <;> omega), rfl⟩
theorem hold_st (n lo hi : Int) (w : World) : Calls Try.prog 26 #[.int .i64 n, .int .i64 lo, .int .i64 hi] w fun e w' => e = .returned (.int .i64 (hold n lo hi)) ∧ w' = w :=
  (hold_eq n lo hi w).mono fun e w' ⟨h1, h2⟩ => ⟨h1, h2.symm⟩
set_option maxHeartbeats 1000000 in
theorem set_any {w : World} {B : Nat} {x : Wn} (h : WnAt w B x) (n : Int) : Calls Try.prog 19 #[.pointer (some ⟨B, 0, none⟩), .int .i64 n] w (RetW (.tuple #[]) B (put x n) w) := by
  have HA := Lib.hid h.drew
  obtain ⟨c0, c1, c2, c3, c4⟩ := h.cs
  have f2 := h.f 2
  clear h
  go_enter Try.func19, Try.ntmps19
  go_wp2_with fail
  go_still_tail 11, (by kernel_rfl)
  still_call (hold_st _ _ _ _)
  repeat still_step
  refine wpStill_nil ?_
  change wpList _ _ _ _ _ w.drew
  have hk : Kept [B] w w.drew := kd w 1 _
  replace f2 : w.drew.frozen? ⟨B, 2, none⟩ = false := f2
  have HK := Lib.hid hk
  clear hk c0 c1 c2 c3 c4
  obtain ⟨c0, c1, c2, c3, c4⟩ := HA.out.cs
  generalize w.drew = W at *
  go_wp2_with fail
  go_end0
  exact ⟨rfl, WnAt.put 2 _ HA.out rfl, HK.out.trans (kset _ B 2 _) (by simp)⟩
set_option maxHeartbeats 2000000 in
theorem lift_any {w : World} {B : Nat} {x : Wn} (h : WnAt w B x) (a b : Int) : Calls Try.prog 18 #[.pointer (some ⟨B, 0, none⟩), .int .i64 a, .int .i64 b] w (RetW (.tuple #[]) B (lift x a b) w) := by
  have HA := Lib.hid h
  have HK := Lib.hid (Kept.refl [B] w)
  obtain ⟨c0, c1, c2, c3, c4⟩ := h.cs
  have f2 := h.f 2; have f3 := h.f 3
  clear h
  unfold lift
  go_enter Try.func18, Try.ntmps18
  go_wp2_with fail
  go_still_tail 11, (by kernel_rfl)
  still_call (hold_st _ _ _ _)
  repeat still_step
  refine wpStill_nil ?_
  change wpList _ _ _ _ _ (w).drew
  replace HA := Lib.hid HA.out.drew
  replace HK := Lib.hid (HK.out.drew)
  clear c0 c1 c2 c3 c4 f2 f3
  obtain ⟨c0, c1, c2, c3, c4⟩ := HA.out.cs
  have f2 := HA.out.f 2
  have f3 := HA.out.f 3
  generalize (w).drew = W at *
  generalize hold a x.cwnd x.most = u at *
  go_wp2_with fail
  replace HA := Lib.hid (WnAt.put (x' := ⟨x.mss, x.most, u, x.thresh, x.count⟩) 2 (.int .i64 u) HA.out rfl)
  replace HK := Lib.hid (HK.out.trans (kset W B 2 (.int .i64 u)) (by simp))
  clear c0 c1 c2 c3 c4 f2 f3
  obtain ⟨c0, c1, c2, c3, c4⟩ := HA.out.cs
  have f3 := HA.out.f 3
  generalize W.setCell ⟨B, 2, none⟩ (.int .i64 u) = W1 at *
  dsimp only at c0 c1 c2 c3 c4
  go_still_tail 11, (by kernel_rfl)
  still_call (hold_st _ _ _ _)
  repeat still_step
  refine wpStill_nil ?_
  change wpList _ _ _ _ _ (W1).drew
  replace HA := Lib.hid HA.out.drew
  replace HK := Lib.hid (HK.out.drew)
  clear c0 c1 c2 c3 c4 f3
  obtain ⟨c0, c1, c2, c3, c4⟩ := HA.out.cs
  have f3 := HA.out.f 3
  generalize (W1).drew = W2 at *
  dsimp only at c0 c1 c2 c3 c4
  go_wp2_with fail
  go_end0
  exact ⟨rfl, WnAt.put 3 _ HA.out rfl, HK.out.trans (kset _ B 3 _) (by simp)⟩
set_option maxHeartbeats 2000000 in
theorem cut_any {w : World} {B : Nat} {x : Wn} (h : WnAt w B x) (ho : Ok x) (n : Int) : Calls Try.prog 16 #[.pointer (some ⟨B, 0, none⟩), .int .i64 n] w (RetW (.int .i64 (cutT x n)) B (cut x n) w) := by
  have HA := Lib.hid h
  have HK := Lib.hid (Kept.refl [B] w)
  obtain ⟨c0, c1, c2, c3, c4⟩ := h.cs
  have f3 := h.f 3
  have m0 := ho.m0; have m1 := ho.m1
  have hh := hold_in (n := n) (lo := 0) (hi := 1048576) (by decide)
  have HC : Hid (hold (IntKind.i64.wrap ((hold n 0 1048576).tdiv 2)) (IntKind.i64.wrap (2 * x.mss)) x.most = cutT x n) := Lib.hid (by
    rw [Int.tdiv_eq_ediv_of_nonneg hh.1, IntWalk.i64_in (2 * x.mss) (by omega), IntWalk.i64_in (hold n 0 1048576 / 2) (by omega)]
    rfl)
  have HB := Lib.hid hh
  have h0 := hh.1; have h1 := hh.2
  have HH := Lib.hid (fun W => hold_st n 0 1048576 W)
  clear hh h ho
  unfold cut
  generalize hold n 0 1048576 = z at *
  go_enter Try.func16, Try.ntmps16
  go_wp2_with fail
  go_still_tail 14, (by kernel_rfl)
  still_call (HH.out _)
  repeat still_step
  still_call (hold_st _ _ _ _)
  repeat still_step
  refine wpStill_nil ?_
  change wpList _ _ _ _ _ w.drew
  rw [HC.out]
  replace HA := Lib.hid (HA.out.drew)
  replace HK := Lib.hid (HK.out.drew)
  clear HC HB h0 h1 HH c0 c1 c2 c3 c4 f3
  generalize cutT x n = u at *
  have f3 := HA.out.f 3; have f4 := HA.out.f 4
  obtain ⟨c0, c1, c2, c3, c4⟩ := HA.out.cs
  generalize w.drew = W at *
  have HA2 := Lib.hid (WnAt.put (x' := ⟨x.mss, x.most, x.cwnd, u, x.count⟩) 3 (.int .i64 u) HA.out rfl)
  have HA3 := Lib.hid (WnAt.put (x' := ⟨x.mss, x.most, x.cwnd, u, 0⟩) 4 (.int .i64 0) HA2.out rfl)
  go_wp2_with fail
  go_ret
  exact ⟨rfl, HA3.out, HK.out.trans ((kset W B 3 _).trans (kset _ B 4 _) (by simp)) (by simp)⟩
set_option maxHeartbeats 1000000 in
theorem fall_any {w : World} {B : Nat} {x : Wn} (h : WnAt w B x) : Calls Try.prog 20 #[.pointer (some ⟨B, 0, none⟩)] w (RetW (.tuple #[]) B (fall x) w) := by
  have HA := Lib.hid h
  obtain ⟨c0, c1, c2, c3, c4⟩ := h.cs
  have f2 := h.f 2
  clear h
  go_enter Try.func20, Try.ntmps20
  go_wp2_with fail
  go_end0
  exact ⟨rfl, WnAt.put 2 _ HA.out rfl, kset _ B 2 _⟩
/-! what is asked -/
theorem cwnd_q {w : World} {B : Nat} {x : Wn} (h : WnAt w B x) : Q 13 #[.pointer (some ⟨B, 0, none⟩)] (.int .i64 x.cwnd) w := by
  refine Q.mk fun n => ?_
  replace h := h.drewN n
  generalize w.drewN n = w at *
  have c := h.cs.2.2.1
  go_enter Try.func13, Try.ntmps13
  go_wp2
  go_ret
  exact ⟨rfl, 0, rfl⟩
theorem thresh_q {w : World} {B : Nat} {x : Wn} (h : WnAt w B x) : Q 14 #[.pointer (some ⟨B, 0, none⟩)] (.int .i64 x.thresh) w := by
  refine Q.mk fun n => ?_
  replace h := h.drewN n
  generalize w.drewN n = w at *
  have c := h.cs.2.2.2.1
  go_enter Try.func14, Try.ntmps14
  go_wp2
  go_ret
  exact ⟨rfl, 0, rfl⟩
theorem slow_q {w : World} {B : Nat} {x : Wn} (h : WnAt w B x) : Q 15 #[.pointer (some ⟨B, 0, none⟩)] (.bool (decide (x.cwnd < x.thresh))) w := by
  refine Q.mk fun n => ?_
  replace h := h.drewN n
  generalize w.drewN n = w at *
  obtain ⟨c0, c1, c2, c3, c4⟩ := h.cs
  go_enter Try.func15, Try.ntmps15
  go_wp2_with fail
  go_quiet (fail)
  go_wp2
  go_ret
  exact ⟨rfl, _, rfl⟩
theorem clone_any {w : World} {B : Nat} {x : Wn} (h : WnAt w B x) : Calls Try.prog 11 #[.pointer (some ⟨B, 0, none⟩)] w
    fun e w' => e = .returned (.pointer (some ⟨w.heap.size, 0, none⟩)) ∧ WnAt w' w.heap.size x ∧ Below w.heap.size w w' := by
  obtain ⟨c0, c1, c2, c3, c4⟩ := h.cs
  go_enter Try.func11, Try.ntmps11
  go_wp2_with fail
  go_ret
  exact ⟨rfl, heap_alloc_new w _, (Below.refl _ _).alloc (Nat.le_refl _) _⟩
/-- a window that is none -/
theorem none_q (w : World) : Q 13 #[.pointer none] (.int .i64 0) w ∧ Q 14 #[.pointer none] (.int .i64 0) w ∧ Q 15 #[.pointer none] (.bool false) w ∧ Q 11 #[.pointer none] (.pointer none) w ∧ Q 20 #[.pointer none] (.tuple #[]) w ∧ (∀ n, Q 16 #[.pointer none, .int .i64 n] (.int .i64 0) w) ∧ (∀ n, Q 19 #[.pointer none, .int .i64 n] (.tuple #[]) w) ∧ (∀ n, Q 17 #[.pointer none, .int .i64 n] (.tuple #[]) w) ∧ ∀ a b, Q 18 #[.pointer none, .int .i64 a, .int .i64 b] (.tuple #[]) w := by
  refine ⟨?_, ?_, ?_, ?_, ?_, fun n => ?_, fun n => ?_, fun n => ?_, fun a b => ?_⟩ <;> refine Q.mk fun n => ?_ <;> generalize w.drewN n = w
  · go_enter Try.func13, Try.ntmps13
    go_wp2
    go_ret
    exact ⟨rfl, 0, rfl⟩
  · go_enter Try.func14, Try.ntmps14
    go_wp2
    go_ret
    exact ⟨rfl, 0, rfl⟩
  · go_enter Try.func15, Try.ntmps15
    go_wp2_with fail
    go_quiet (fail)
    go_wp2
    go_ret
    exact ⟨rfl, _, rfl⟩
  · go_enter Try.func11, Try.ntmps11
    go_wp2
    go_ret
    exact ⟨rfl, 0, rfl⟩
  · go_enter Try.func20, Try.ntmps20
    go_wp2_with fail
    exact bodyPost_ret (v := .tuple #[]) (by simp [results, Try.results20, go_sem]) rfl ⟨rfl, 0, rfl⟩
  · go_enter Try.func16, Try.ntmps16
    go_wp2
    go_ret
    exact ⟨rfl, 0, rfl⟩
  · go_enter Try.func19, Try.ntmps19
    go_wp2_with fail
    exact bodyPost_ret (v := .tuple #[]) (by simp [results, Try.results19, go_sem]) rfl ⟨rfl, 0, rfl⟩
  · go_enter Try.func17, Try.ntmps17
    go_wp2_with fail
    exact bodyPost_ret (v := .tuple #[]) (by simp [results, Try.results17, go_sem]) rfl ⟨rfl, 0, rfl⟩
  · go_enter Try.func18, Try.ntmps18
    go_wp2_with fail
    exact bodyPost_ret (v := .tuple #[]) (by simp [results, Try.results18, go_sem]) rfl ⟨rfl, 0, rfl⟩
set_option maxHeartbeats 2000000 in
theorem quickly_any {w : World} {B : Nat} {x : Wn} (h : WnAt w B x) (ho : Ok x) {a : Int} (ha : 1 ≤ a) : Calls Try.prog 28 #[.pointer (some ⟨B, 0, none⟩), .int .i64 a] w (RetW (.tuple #[]) B (put x (x.cwnd + min a x.mss)) w) := by
  have HA := Lib.hid h.drew
  obtain ⟨c0, c1, c2, c3, c4⟩ := h.cs
  have m0 := ho.m0; have m1 := ho.m1; have k0 := ho.c0; have k1 := ho.c1; have x1 := ho.x1
  clear h ho
  have HK := Lib.hid (kd w 1 [B])
  replace HK : Hid (Kept [B] w w.drew) := HK
  by_cases hm : a ≤ x.mss
  · have hmn : min a x.mss = a := by omega
    have hw := IntWalk.i64_in (x.cwnd + a) (by omega)
    rw [hmn]
    clear hmn
    go_enter Try.func28, Try.ntmps28
    go_wp2_with fail
    go_still_tail 12, (by kernel_rfl)
    change wpList _ _ _ _ _ w.drew
    clear c0 c1 c2 c3 c4
    generalize w.drew = W at *
    go_wp2_with (go_at_call 19; (with_reducible refine (set_any HA.out _).mono ?_); rintro e w1 ⟨rfl, q1, q2⟩)
    go_end0
    exact ⟨rfl, q1, HK.out.trans q2 (by simp)⟩
  · have hm2 : x.mss < a := by omega
    have hmn : min a x.mss = x.mss := by omega
    have hw := IntWalk.i64_in (x.cwnd + x.mss) (by omega)
    rw [hmn]
    clear hmn hm
    go_enter Try.func28, Try.ntmps28
    go_wp2_with fail
    go_still_tail 12, (by kernel_rfl)
    change wpList _ _ _ _ _ w.drew
    clear c0 c1 c2 c3 c4
    generalize w.drew = W at *
    go_wp2_with (go_at_call 19; (with_reducible refine (set_any HA.out _).mono ?_); rintro e w1 ⟨rfl, q1, q2⟩)
    go_end0
    exact ⟨rfl, q1, HK.out.trans q2 (by simp)⟩
def steady (x : Wn) (m : Int) : Wn := if x.count + m < x.cwnd then ⟨x.mss, x.most, x.cwnd, x.thresh, x.count + m⟩ else put ⟨x.mss, x.most, x.cwnd, x.thresh, x.count + m - x.cwnd⟩ (x.cwnd + x.mss)
set_option maxHeartbeats 4000000 in
theorem steadily_any {w : World} {B : Nat} {x : Wn} (h : WnAt w B x) (ho : Ok x) {a : Int} (ha : 1 ≤ a) : Calls Try.prog 27 #[.pointer (some ⟨B, 0, none⟩), .int .i64 a] w (RetW (.tuple #[]) B (steady x (min a x.cwnd)) w) := by
  have HA := Lib.hid h.drew
  obtain ⟨c0, c1, c2, c3, c4⟩ := h.cs
  have f4 := h.f 4
  have m0 := ho.m0; have m1 := ho.m1; have k0 := ho.c0; have k1 := ho.c1; have x1 := ho.x1; have n0 := ho.n0; have n1 := ho.n1
  clear h ho
  have HK := Lib.hid (kd w 1 [B])
  replace HK : Hid (Kept [B] w w.drew) := HK
  unfold steady
  obtain ⟨z, hz⟩ : ∃ z, z = x.count + min a x.cwnd := ⟨_, rfl⟩
  have hw := Lib.hid (show IntKind.i64.wrap (x.count + if x.cwnd < a then x.cwnd else a) = z from by
    have : (if x.cwnd < a then x.cwnd else a) = min a x.cwnd := by split <;> omega
    rw [hz, this]
    exact IntWalk.i64_in _ (by omega))
  have hz0 : 0 ≤ z := by omega
  have hz1 : z ≤ 2097152 := by omega
  rw [← hz]
  clear hz
  by_cases hc : z < x.cwnd
  · rw [if_pos hc]
    have hcb := decide_eq_true hc
    go_enter Try.func27, Try.ntmps27
    go_wp2_with fail
    go_still_tail 11, (by kernel_rfl)
    change wpList _ _ _ _ _ w.drew
    clear c0 c1 c2 c3 c4 f4
    generalize w.drew = W at *
    have f4 := HA.out.f 4
    obtain ⟨c0, c1, c2, c3, c4⟩ := HA.out.cs
    rw [hw.out]
    generalize (if x.cwnd < a then x.cwnd else a) = mm
    go_wp2_with fail
    have H2 := Lib.hid (WnAt.put (x' := ⟨x.mss, x.most, x.cwnd, x.thresh, z⟩) 4 (.int .i64 z) HA.out rfl)
    replace HK := Lib.hid (HK.out.trans (kset W B 4 (.int .i64 z)) (by simp))
    clear f4 hw c0 c1 c2 c3 c4
    obtain ⟨c0, c1, c2, c3, c4⟩ := H2.out.cs
    dsimp only at c0 c1 c2 c3 c4
    generalize W.setCell ⟨B, 4, none⟩ (.int .i64 z) = W1 at *
    go_quiet (fail)
    go_wp2_with fail
    exact bodyPost_ret (v := .tuple #[]) (by simp [results, Try.results27, go_sem]) rfl ⟨rfl, H2.out.drewN nq, HK.out.drewN nq⟩
  · rw [if_neg hc]
    have hcb := decide_eq_false hc
    go_enter Try.func27, Try.ntmps27
    go_wp2_with fail
    go_still_tail 11, (by kernel_rfl)
    change wpList _ _ _ _ _ w.drew
    clear c0 c1 c2 c3 c4 f4
    generalize w.drew = W at *
    have f4 := HA.out.f 4
    obtain ⟨c0, c1, c2, c3, c4⟩ := HA.out.cs
    rw [hw.out]
    generalize (if x.cwnd < a then x.cwnd else a) = mm
    go_wp2_with fail
    have H2 := Lib.hid (WnAt.put (x' := ⟨x.mss, x.most, x.cwnd, x.thresh, z⟩) 4 (.int .i64 z) HA.out rfl)
    replace HK := Lib.hid (HK.out.trans (kset W B 4 (.int .i64 z)) (by simp))
    clear f4 hw c0 c1 c2 c3 c4
    obtain ⟨c0, c1, c2, c3, c4⟩ := H2.out.cs
    dsimp only at c0 c1 c2 c3 c4
    generalize W.setCell ⟨B, 4, none⟩ (.int .i64 z) = W1 at *
    go_quiet (fail)
    go_wp2_with fail
    replace H2 := Lib.hid (H2.out.drewN nq)
    replace HK := Lib.hid (HK.out.drewN nq)
    clear c0 c1 c2 c3 c4
    generalize W1.drewN nq = W1 at *
    obtain ⟨c0, c1, c2, c3, c4⟩ := H2.out.cs
    dsimp only at c0 c1 c2 c3 c4
    go_still_tail 9, (by kernel_rfl)
    change wpList _ _ _ _ _ W1.drew
    clear c0 c1 c2 c3 c4
    replace H2 := Lib.hid H2.out.drew
    replace HK := Lib.hid HK.out.drew
    generalize W1.drew = W2 at *
    have f4 := H2.out.f 4
    obtain ⟨c0, c1, c2, c3, c4⟩ := H2.out.cs
    dsimp only at c0 c1 c2 c3 c4
    have hw2 := Lib.hid (IntWalk.i64_in (z - x.cwnd) (by omega))
    rw [hw2.out]
    go_wp2_with fail
    have H3 := Lib.hid (WnAt.put (x' := ⟨x.mss, x.most, x.cwnd, x.thresh, z - x.cwnd⟩) 4 (.int .i64 (z - x.cwnd)) H2.out rfl)
    replace HK := Lib.hid (HK.out.trans (kset W2 B 4 (.int .i64 (z - x.cwnd))) (by simp))
    clear f4 hw2 H2 c0 c1 c2 c3 c4
    obtain ⟨c0, c1, c2, c3, c4⟩ := H3.out.cs
    dsimp only at c0 c1 c2 c3 c4
    generalize W2.setCell ⟨B, 4, none⟩ (.int .i64 (z - x.cwnd)) = W3 at *
    have HW3 := Lib.hid (IntWalk.i64_in (x.cwnd + x.mss) (by omega))
    go_still_tail 10, (by kernel_rfl)
    change wpList _ _ _ _ _ W3.drew
    rw [HW3.out]
    clear c0 c1 c2 c3 c4
    replace H3 := Lib.hid H3.out.drew
    replace HK := Lib.hid HK.out.drew
    generalize W3.drew = W4 at *
    go_wp2_with (go_at_call 19; (with_reducible refine (set_any H3.out _).mono ?_); rintro e w1 ⟨rfl, q1, q2⟩)
    go_end0
    exact ⟨rfl, q1, HK.out.trans q2 (by simp)⟩
end Go.Proofs.Ytphbflbgaadmeaa.wn
