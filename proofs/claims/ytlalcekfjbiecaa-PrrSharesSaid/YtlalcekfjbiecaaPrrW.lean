/-
  Package prr: an episode in memory; its methods.
-/
import Derived.Test.YtlalcekfjbiecaaProg
import Derived.Test.YtlalcekfjbiecaaPrrX
import Derived.Test.YtlalcekfjbiecaaMem
import Derived.Laws.StructEq
import Derived.Deep.DrawnRows
import Derived.StillTailTactics
import Derived.IntWalk
namespace Go.Proofs.Ytlalcekfjbiecaa.pr
open Go.RowKit aid mem
attribute [local go_sem ↓] Go.wp_at_zero Go.wp_at_succ
set_option linter.unusedVariables false
set_option linter.unusedSimpArgs false

abbrev cellsP (x : Pr) : Array Value := #[.int .i64 x.mss, .int .i64 x.thresh, .int .i64 x.whole, .int .i64 x.del, .int .i64 x.out, .int .i64 x.left, .bool x.first]
/-- block B holds an episode -/
def PrAt (w : World) (B : Nat) (x : Pr) : Prop := w.heap[B]? = some (.cells (cellsP x) 47 (0, 0))
section
variable {w : World} {B : Nat} {x : Pr} (h : PrAt w B x)
include h
theorem PrAt.cs : w.cell? ⟨B, 0, none⟩ = some (.int .i64 x.mss) ∧ w.cell? ⟨B, 1, none⟩ = some (.int .i64 x.thresh) ∧ w.cell? ⟨B, 2, none⟩ = some (.int .i64 x.whole) ∧ w.cell? ⟨B, 3, none⟩ = some (.int .i64 x.del) ∧ w.cell? ⟨B, 4, none⟩ = some (.int .i64 x.out) ∧ w.cell? ⟨B, 5, none⟩ = some (.int .i64 x.left) ∧ w.cell? ⟨B, 6, none⟩ = some (.bool x.first) :=
  ⟨(cell_of_row w B 0 _ _ (0, 0) h).trans rfl, (cell_of_row w B 1 _ _ (0, 0) h).trans rfl, (cell_of_row w B 2 _ _ (0, 0) h).trans rfl, (cell_of_row w B 3 _ _ (0, 0) h).trans rfl, (cell_of_row w B 4 _ _ (0, 0) h).trans rfl, (cell_of_row w B 5 _ _ (0, 0) h).trans rfl, (cell_of_row w B 6 _ _ (0, 0) h).trans rfl⟩
theorem PrAt.f (i : Nat) : w.frozen? ⟨B, i, none⟩ = false := by simp [World.frozen?, show w.heap[B]? = _ from h]
theorem PrAt.keep {S : List Nat} {w' : World} (hk : Kept S w w') (hb : B ∉ S) : PrAt w' B x := hk.heap hb h
theorem PrAt.later {w' : World} (hk : Below w.heap.size w w') : PrAt w' B x := (hk.block B (lt_of_block h)).trans h
theorem PrAt.lt : B < w.heap.size := lt_of_block h
theorem PrAt.drewN (n : Nat) : PrAt (w.drewN n) B x := h
theorem PrAt.drew : PrAt w.drew B x := h
end
theorem PrAt.put (i : Nat) (u : Value) {w : World} {X : Nat} {x x' : Pr} (h : PrAt w X x) (hx : (cellsP x).setIfInBounds i u = cellsP x') : PrAt (w.setCell ⟨X, i, none⟩ u) X x' := by
  unfold PrAt
  rw [← hx]
  exact heap_setCell_same _ X i _ _ _ h
theorem kset (w : World) (B i : Nat) (u : Value) : Kept [B] w (w.setCell ⟨B, i, none⟩ u) := (Kept.refl [B] w).setCell (.inl (by simp)) u
theorem kd (w : World) (n : Nat) (S : List Nat) : Kept S w (w.drewN n) := (Kept.refl S w).drewN n
/-- a call that changes nothing but draws -/
def Q (f : FuncId) (args : Array Value) (v : Value) (w : World) : Prop := ∀ n, Calls Try.prog f args (w.drewN n) fun e w'' => e = .returned v ∧ ∃ m, w'' = w.drewN m
theorem Q.mk {f : FuncId} {args : Array Value} {v : Value} {w : World} (h : ∀ n, Calls Try.prog f args (w.drewN n) fun e w'' => e = .returned v ∧ ∃ m, w'' = (w.drewN n).drewN m) : Q f args v w := fun n =>
  (h n).mono fun _ _ ⟨he, m, hm⟩ => ⟨he, n + m, by rw [hm, World.drewN_drewN]⟩
theorem Q.at {f : FuncId} {args : Array Value} {v : Value} {w : World} (h : Q f args v w) : Calls Try.prog f args w fun e w'' => e = .returned v ∧ ∃ m, w'' = w.drewN m := h 0
theorem Q.below {f : FuncId} {args : Array Value} {v : Value} {w : World} (h : Q f args v w) : Calls Try.prog f args w fun e w' => e = .returned v ∧ Below w.heap.size w w' :=
  (h.at).mono fun e w' ⟨h1, n, h2⟩ => ⟨h1, h2 ▸ ⟨rfl, rfl, rfl, Nat.le_refl _, fun _ _ => rfl⟩⟩
/-- behind a call that writes the episode at B -/
def RetP (v : Value) (B : Nat) (x' : Pr) (w : World) (e : Ending) (w' : World) : Prop := e = .returned v ∧ PrAt w' B x' ∧ Kept [B] w w'


def newB (m f t : Int) : Bool := decide (1 ≤ m ∧ m ≤ 2048 ∧ 0 ≤ f ∧ f ≤ 1048576 ∧ 1 ≤ t ∧ t ≤ 1048576)
theorem newB_ok {m f t : Int} (h : newB m f t = true) : 1 ≤ m ∧ m ≤ 2048 ∧ 0 ≤ f ∧ f ≤ 1048576 ∧ 1 ≤ t ∧ t ≤ 1048576 := of_decide_eq_true h
theorem among_eq (n lo hi : Int) (w : World) : Calls Try.prog 20 #[.int .i64 n, .int .i64 lo, .int .i64 hi] w fun e w' => e = .returned (.bool (decide (lo ≤ n ∧ n ≤ hi))) ∧ w = w' := by
  go_enter Try.func20, Try.ntmps20
  by_cases h1 : lo ≤ n <;> by_cases h2 : n ≤ hi <;> go_wp2
  all_goals
    go_ret
    exact ⟨ret_b (by simp [*] <;> omega), rfl⟩
/-! what is asked -/
theorem left_q {w : World} {B : Nat} {x : Pr} (h : PrAt w B x) : Q 13 #[.pointer (some ⟨B, 0, none⟩)] (.int .i64 x.left) w := by
  refine Q.mk fun n => ?_
  replace h := h.drewN n
  generalize w.drewN n = w at *
  have c := h.cs.2.2.2.2.2.1
  go_enter Try.func13, Try.ntmps13
  go_wp2
  go_ret
  exact ⟨rfl, 0, rfl⟩
theorem out_q {w : World} {B : Nat} {x : Pr} (h : PrAt w B x) : Q 14 #[.pointer (some ⟨B, 0, none⟩)] (.int .i64 x.out) w := by
  refine Q.mk fun n => ?_
  replace h := h.drewN n
  generalize w.drewN n = w at *
  have c := h.cs.2.2.2.2.1
  go_enter Try.func14, Try.ntmps14
  go_wp2
  go_ret
  exact ⟨rfl, 0, rfl⟩
theorem del_q {w : World} {B : Nat} {x : Pr} (h : PrAt w B x) : Q 15 #[.pointer (some ⟨B, 0, none⟩)] (.int .i64 x.del) w := by
  refine Q.mk fun n => ?_
  replace h := h.drewN n
  generalize w.drewN n = w at *
  have c := h.cs.2.2.2.1
  go_enter Try.func15, Try.ntmps15
  go_wp2
  go_ret
  exact ⟨rfl, 0, rfl⟩
theorem whole_q {w : World} {B : Nat} {x : Pr} (h : PrAt w B x) : Q 16 #[.pointer (some ⟨B, 0, none⟩)] (.int .i64 x.whole) w := by
  refine Q.mk fun n => ?_
  replace h := h.drewN n
  generalize w.drewN n = w at *
  have c := h.cs.2.2.1
  go_enter Try.func16, Try.ntmps16
  go_wp2
  go_ret
  exact ⟨rfl, 0, rfl⟩
theorem clone_any {w : World} {B : Nat} {x : Pr} (h : PrAt w B x) : Calls Try.prog 11 #[.pointer (some ⟨B, 0, none⟩)] w
    fun e w' => e = .returned (.pointer (some ⟨w.heap.size, 0, none⟩)) ∧ PrAt w' w.heap.size x ∧ Below w.heap.size w w' := by
  obtain ⟨c0, c1, c2, c3, c4, c5, c6⟩ := h.cs
  go_enter Try.func11, Try.ntmps11
  go_wp2_with fail
  go_ret
  exact ⟨rfl, heap_alloc_new w _, (Below.refl _ _).alloc (Nat.le_refl _) _⟩
/-- an episode that is none -/
theorem none_q (w : World) : Q 13 #[.pointer none] (.int .i64 0) w ∧ Q 14 #[.pointer none] (.int .i64 0) w ∧ Q 15 #[.pointer none] (.int .i64 0) w ∧ Q 16 #[.pointer none] (.int .i64 0) w ∧ Q 11 #[.pointer none] (.pointer none) w ∧ Q 18 #[.pointer none] (.int .i64 1) w ∧ (∀ n, Q 17 #[.pointer none, .int .i64 n] (.int .i64 1) w) := by
  refine ⟨?_, ?_, ?_, ?_, ?_, ?_, fun n => ?_⟩ <;> refine Q.mk fun n => ?_ <;> generalize w.drewN n = w
  · go_enter Try.func13, Try.ntmps13
    go_wp2
    go_ret
    exact ⟨rfl, 0, rfl⟩
  · go_enter Try.func14, Try.ntmps14
    go_wp2
    go_ret
    exact ⟨rfl, 0, rfl⟩
  · go_enter Try.func15, Try.ntmps15
    go_wp2
    go_ret
    exact ⟨rfl, 0, rfl⟩
  · go_enter Try.func16, Try.ntmps16
    go_wp2
    go_ret
    exact ⟨rfl, 0, rfl⟩
  · go_enter Try.func11, Try.ntmps11
    go_wp2
    go_ret
    exact ⟨rfl, 0, rfl⟩
  · go_enter Try.func18, Try.ntmps18
    go_wp2
    go_ret
    exact ⟨rfl, 0, rfl⟩
  · go_enter Try.func17, Try.ntmps17
    go_wp2
    go_ret
    exact ⟨rfl, 0, rfl⟩
theorem ack_nil (a b : Int) (w : World) : Calls Try.prog 19 #[.pointer none, .int .i64 a, .int .i64 b] w fun e w' => e = .returned (.int .i64 0) ∧ Below w.heap.size w w' := by
  have hb := Below.refl w.heap.size w
  go_enter Try.func19, Try.ntmps19
  go_wp2_with fail
  go_ret
  exact ⟨rfl, ((Below.refl _ _).alloc (Nat.le_refl _) _).alloc (by simp) _⟩
set_option maxHeartbeats 1000000 in
theorem sent_any {w : World} {B : Nat} {x : Pr} (h : PrAt w B x) (ho : Ok x) (n : Int) : Calls Try.prog 17 #[.pointer (some ⟨B, 0, none⟩), .int .i64 n] w (RetP (.int .i64 (sndE x n)) B (snd x n) w) := by
  have HA := Lib.hid h
  obtain ⟨c0, c1, c2, c3, c4, c5, c6⟩ := h.cs
  have f4 := h.f 4; have f5 := h.f 5
  have o0 := ho.o0; have l0 := ho.l0; have ol := ho.ol
  clear h ho
  unfold sndE snd
  by_cases h1 : n < 0
  · rw [if_pos h1, if_pos h1]
    go_enter Try.func17, Try.ntmps17
    go_wp2_with fail
    go_ret
    exact ⟨rfl, HA.out, Kept.refl _ _⟩
  · rw [if_neg h1, if_neg h1]
    by_cases h2 : x.left < n
    · rw [if_pos h2, if_pos h2]
      go_enter Try.func17, Try.ntmps17
      go_wp2_with fail
      go_ret
      exact ⟨rfl, HA.out, Kept.refl _ _⟩
    · rw [if_neg h2, if_neg h2]
      go_enter Try.func17, Try.ntmps17
      go_wp2_with fail
      go_ret
      exact ⟨rfl, PrAt.put (x := ⟨x.mss, x.thresh, x.whole, x.del, x.out + n, x.left, x.first⟩) 5 _ (PrAt.put 4 _ HA.out rfl) rfl, (kset _ B 4 _).trans (kset _ B 5 _) (by simp)⟩
set_option maxHeartbeats 1000000 in
theorem first_any {w : World} {B : Nat} {x : Pr} (h : PrAt w B x) : Calls Try.prog 18 #[.pointer (some ⟨B, 0, none⟩)] w (RetP (.int .i64 (fstE x)) B (fst x) w) := by
  have HA := Lib.hid h
  obtain ⟨c0, c1, c2, c3, c4, c5, c6⟩ := h.cs
  have f5 := h.f 5; have f6 := h.f 6
  clear h
  cases hf : x.first with
  | true =>
    rw [hf] at c6
    have HG : Hid (fstE x = 13 ∧ fst x = x) := Lib.hid (by unfold fstE fst; simp [hf])
    rw [HG.out.1, HG.out.2]
    clear hf HG
    go_enter Try.func18, Try.ntmps18
    go_wp2_with fail
    go_ret
    exact ⟨rfl, HA.out, Kept.refl _ _⟩
  | false =>
    rw [hf] at c6
    by_cases h2 : 0 < x.out
    · have HG : Hid (fstE x = 13 ∧ fst x = x) := Lib.hid (by unfold fstE fst; simp [hf, h2])
      rw [HG.out.1, HG.out.2]
      clear hf HG
      go_enter Try.func18, Try.ntmps18
      go_wp2_with fail
      go_ret
      exact ⟨rfl, HA.out, Kept.refl _ _⟩
    · have HG : Hid (fstE x = 0 ∧ fst x = ⟨x.mss, x.thresh, x.whole, x.del, x.out, max x.left x.mss, true⟩) := Lib.hid (by unfold fstE fst; simp [hf, h2])
      rw [HG.out.1, HG.out.2]
      have HF := Lib.hid hf
      clear hf HG
      have h3 : x.out ≤ 0 := by omega
      clear h2
      go_enter Try.func18, Try.ntmps18
      go_wp2_with fail
      have H2 := Lib.hid (PrAt.put (x' := ⟨x.mss, x.thresh, x.whole, x.del, x.out, x.left, true⟩) 6 (.bool true) HA.out rfl)
      have HK := Lib.hid (kset w B 6 (.bool true))
      clear c0 c1 c2 c3 c4 c5 c6 f5 f6 HA HF
      obtain ⟨c0, c1, c2, c3, c4, c5, c6⟩ := H2.out.cs
      dsimp only at c0 c1 c2 c3 c4 c5 c6
      generalize w.setCell ⟨B, 6, none⟩ (.bool true) = W at *
      go_still_tail 10, (by kernel_rfl)
      change wpList _ _ _ _ _ W.drew
      replace H2 := Lib.hid H2.out.drew
      replace HK := Lib.hid HK.out.drew
      clear c0 c1 c2 c3 c4 c5 c6
      generalize W.drew = W at *
      obtain ⟨c0, c1, c2, c3, c4, c5, c6⟩ := H2.out.cs
      dsimp only at c0 c1 c2 c3 c4 c5 c6
      have f5 := H2.out.f 5
      have HM := Lib.hid (show (if x.left < x.mss then x.mss else x.left) = max x.left x.mss from by split <;> omega)
      rw [HM.out]
      generalize max x.left x.mss = u at *
      go_wp2_with fail
      go_ret
      exact ⟨rfl, PrAt.put 5 _ H2.out rfl, HK.out.trans (kset _ B 5 _) (by simp)⟩
theorem new_bad {m f t : Int} {w : World} (h : newB m f t = false) : Calls Try.prog 8 #[.int .i64 m, .int .i64 f, .int .i64 t] w
    fun x w' => x = .returned (.tuple #[.pointer none, .int .i64 2]) ∧ w = w' := by
  have HA := Lib.hid (fun a b c W => among_eq a b c W)
  unfold newB at h
  by_cases h1 : 1 ≤ m ∧ m ≤ 2048
  · have H1 := Lib.hid (decide_eq_true h1)
    by_cases h2 : 0 ≤ f ∧ f ≤ 1048576
    · have H2 := Lib.hid (decide_eq_true h2)
      have H3 := Lib.hid (show decide (1 ≤ t ∧ t ≤ 1048576) = false from by simp at h; simp; omega)
      clear h h1 h2
      go_enter Try.func8, Try.ntmps8
      go_wp2_with (go_at_call 20; (with_reducible refine (HA.out _ _ _ _).mono ?_); rintro e w1 ⟨rfl, rfl⟩; first | rw [H1.out] | rw [H2.out] | rw [H3.out])
      go_ret2
      exact ⟨rfl, rfl⟩
    · have H2 := Lib.hid (decide_eq_false h2)
      clear h h1 h2
      go_enter Try.func8, Try.ntmps8
      go_wp2_with (go_at_call 20; (with_reducible refine (HA.out _ _ _ _).mono ?_); rintro e w1 ⟨rfl, rfl⟩; first | rw [H1.out] | rw [H2.out])
      go_ret2
      exact ⟨rfl, rfl⟩
  · have H1 := Lib.hid (decide_eq_false h1)
    clear h h1
    go_enter Try.func8, Try.ntmps8
    go_wp2_with (go_at_call 20; (with_reducible refine (HA.out _ _ _ _).mono ?_); rintro e w1 ⟨rfl, rfl⟩; rw [H1.out])
    go_ret2
    exact ⟨rfl, rfl⟩
theorem new_ok_any {m f t : Int} {w : World} (h : newB m f t = true) : Calls Try.prog 8 #[.int .i64 m, .int .i64 f, .int .i64 t] w
    fun x w' => x = .returned (.tuple #[.pointer (some ⟨w.heap.size, 0, none⟩), .int .i64 0]) ∧ PrAt w' w.heap.size ⟨m, t, max f t, 0, 0, 0, false⟩ ∧ Below w.heap.size w w' := by
  have HA := Lib.hid (fun a b c W => among_eq a b c W)
  have hh := newB_ok h
  have H1 := Lib.hid (show decide (1 ≤ m ∧ m ≤ 2048) = true from by simp; omega)
  have H2 := Lib.hid (show decide (0 ≤ f ∧ f ≤ 1048576) = true from by simp; omega)
  have H3 := Lib.hid (show decide (1 ≤ t ∧ t ≤ 1048576) = true from by simp; omega)
  clear h hh
  by_cases hc : f < t
  · have hm : max f t = t := by omega
    rw [hm]
    clear hm
    go_enter Try.func8, Try.ntmps8
    go_wp2_with (go_at_call 20; (with_reducible refine (HA.out _ _ _ _).mono ?_); rintro e w1 ⟨rfl, rfl⟩; first | rw [H1.out] | rw [H2.out] | rw [H3.out])
    go_ret2
    exact ⟨rfl, heap_alloc_new w _, (Below.refl _ _).alloc (Nat.le_refl _) _⟩
  · have hm : max f t = f := by omega
    rw [hm]
    clear hm
    go_enter Try.func8, Try.ntmps8
    go_wp2_with (go_at_call 20; (with_reducible refine (HA.out _ _ _ _).mono ?_); rintro e w1 ⟨rfl, rfl⟩; first | rw [H1.out] | rw [H2.out] | rw [H3.out])
    go_ret2
    exact ⟨rfl, heap_alloc_new w _, (Below.refl _ _).alloc (Nat.le_refl _) _⟩
set_option maxHeartbeats 1000000 in
theorem share_q {w : World} {B : Nat} {x : Pr} (h : PrAt w B x) (ho : Ok x) : Q 24 #[.pointer (some ⟨B, 0, none⟩)] (.int .i64 (sh x)) w := by
  refine Q.mk fun n => ?_
  replace h := h.drewN n
  generalize w.drewN n = w at *
  obtain ⟨c0, c1, c2, c3, c4, c5, c6⟩ := h.cs
  have hp := prod_bd ho
  have hw : 1 ≤ x.whole := by have := ho.t0; have := ho.t1; omega
  have hw1 := ho.w1
  have hs := sh_bd ho
  have hd1 := ho.d1
  have HV : Hid (wrap64 ((wrap64 (wrap64 (wrap64 (x.del * x.thresh) + x.whole) - 1)).tdiv x.whole) = sh x) := Lib.hid (by
    rw [w64 (x.del * x.thresh) (by omega), w64 (x.del * x.thresh + x.whole) (by omega), w64 (x.del * x.thresh + x.whole - 1) (by omega), Int.tdiv_eq_ediv_of_nonneg (by omega)]
    exact w64 _ (by unfold sh cd at hs; omega))
  have hne : (x.whole == 0) = false := by simp; omega
  clear h ho hp hs hd1
  go_enter Try.func24, Try.ntmps24
  go_wp2_with fail
  go_quiet (fail)
  rw [HV.out]
  go_wp2
  go_ret
  exact ⟨rfl, _, rfl⟩
end Go.Proofs.Ytlalcekfjbiecaa.pr
