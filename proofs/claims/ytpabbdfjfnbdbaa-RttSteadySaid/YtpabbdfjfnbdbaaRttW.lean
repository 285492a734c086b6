/-
  Package rtt: an estimate in memory; its methods.
-/
import Derived.Test.YtpabbdfjfnbdbaaProg
import Derived.Test.YtpabbdfjfnbdbaaRttX
import Derived.Laws.StructEq
import Derived.Deep.DrawnRows
namespace Go.Proofs.Ytpabbdfjfnbdbaa.rt
open Go.RowKit aid mem
attribute [local go_sem ↓] Go.wp_at_zero Go.wp_at_succ
set_option linter.unusedVariables false

abbrev cellsE (e : Es) : Array Value := #[.int .i64 e.least, .int .i64 e.most, .int .i64 e.srtt, .int .i64 e.vary, .bool e.has, .int .i64 e.dbl]
/-- block B holds an estimate -/
def EsAt (w : World) (B : Nat) (e : Es) : Prop := w.heap[B]? = some (.cells (cellsE e) 44 (0, 0))
section
variable {w : World} {B : Nat} {e : Es} (h : EsAt w B e)
include h
theorem EsAt.c0 : w.cell? ⟨B, 0, none⟩ = some (.int .i64 e.least) := (cell_of_row w B 0 _ _ (0, 0) h).trans rfl
theorem EsAt.c1 : w.cell? ⟨B, 1, none⟩ = some (.int .i64 e.most) := (cell_of_row w B 1 _ _ (0, 0) h).trans rfl
theorem EsAt.c2 : w.cell? ⟨B, 2, none⟩ = some (.int .i64 e.srtt) := (cell_of_row w B 2 _ _ (0, 0) h).trans rfl
theorem EsAt.c3 : w.cell? ⟨B, 3, none⟩ = some (.int .i64 e.vary) := (cell_of_row w B 3 _ _ (0, 0) h).trans rfl
theorem EsAt.c4 : w.cell? ⟨B, 4, none⟩ = some (.bool e.has) := (cell_of_row w B 4 _ _ (0, 0) h).trans rfl
theorem EsAt.c5 : w.cell? ⟨B, 5, none⟩ = some (.int .i64 e.dbl) := (cell_of_row w B 5 _ _ (0, 0) h).trans rfl
theorem EsAt.f (i : Nat) : w.frozen? ⟨B, i, none⟩ = false := by simp [World.frozen?, show w.heap[B]? = _ from h]
theorem EsAt.keep {S : List Nat} {w' : World} (hk : Kept S w w') (hb : B ∉ S) : EsAt w' B e := hk.heap hb h
theorem EsAt.later {w' : World} (hk : Below w.heap.size w w') : EsAt w' B e := (hk.block B (lt_of_block h)).trans h
theorem EsAt.lt : B < w.heap.size := lt_of_block h
end
/-- a call that changes nothing but draws -/
def Q (f : FuncId) (args : Array Value) (v : Value) (w : World) : Prop := ∀ n, Calls Try.prog f args (w.drewN n) fun e w'' => e = .returned v ∧ ∃ m, w'' = w.drewN m
theorem Q.mk {f : FuncId} {args : Array Value} {v : Value} {w : World} (h : ∀ n, Calls Try.prog f args (w.drewN n) fun e w'' => e = .returned v ∧ ∃ m, w'' = (w.drewN n).drewN m) : Q f args v w := fun n =>
  (h n).mono fun _ _ ⟨he, m, hm⟩ => ⟨he, n + m, by rw [hm, World.drewN_drewN]⟩
theorem Q.at {f : FuncId} {args : Array Value} {v : Value} {w : World} (h : Q f args v w) : Calls Try.prog f args w fun e w'' => e = .returned v ∧ ∃ m, w'' = w.drewN m := h 0
theorem EsAt.drewN {w : World} {B : Nat} {e : Es} (h : EsAt w B e) (n : Nat) : EsAt (w.drewN n) B e := h

set_option maxHeartbeats 1000000 in
theorem hold_eq (n lo hi : Int) (w : World) : Calls Try.prog 22 #[.int .i64 n, .int .i64 lo, .int .i64 hi] w fun e w' => e = .returned (.int .i64 (min (max n lo) hi)) ∧ w = w' := by
  go_enter Try.func22, Try.ntmps22
  by_cases h1 : n < lo
  · go_wp2
    all_goals
      go_ret
      exact ⟨ret_i (by omega), rfl⟩
  · go_wp2
    all_goals
      go_ret
      exact ⟨ret_i (by omega), rfl⟩
theorem hold_q (n lo hi : Int) (w : World) : Q 22 #[.int .i64 n, .int .i64 lo, .int .i64 hi] (.int .i64 (min (max n lo) hi)) w := fun k => (hold_eq n lo hi _).mono fun e w' ⟨h1, h2⟩ => ⟨h1, k, h2.symm⟩
set_option maxHeartbeats 1000000 in
theorem plain_q {w : World} {B : Nat} {e : Es} (h : EsAt w B e) (ho : Ok e) : Q 24 #[.pointer (some ⟨B, 0, none⟩)] (.int .i64 (pl e)) w := by
  refine Q.mk fun n => ?_
  replace h := h.drewN n
  generalize w.drewN n = w at *
  have c0 := h.c0; have c1 := h.c1; have c2 := h.c2; have c3 := h.c3; have c4 := h.c4
  have hb := ho.base
  have s0 := ho.s0; have s1 := ho.s1; have v0 := ho.v0; have v1 := ho.v1
  have HH := Lib.hid (fun a b c => hold_q a b c w)
  have HP := Lib.hid (show pl e = min (max (bas e) e.least) e.most from rfl)
  have HB := Lib.hid (show bas e = if e.has then e.srtt + max (4 * e.vary) 1 else 1000000 from rfl)
  generalize pl e = p at *
  generalize bas e = b at *
  obtain ⟨least, most, srtt, vary, has, dbl⟩ := e
  dsimp only at *
  clear h ho
  go_enter Try.func24, Try.ntmps24
  cases has with
  | false =>
    go_wp2_with fail
    go_quiet ((go_at_call 22; go_must (exact HH.out _ _ _ _)))
    go_wp2
    go_ret
    exact ⟨ret_i (by rw [HP.out, HB.out]; simp), _, rfl⟩
  | true =>
    go_wp2_with fail
    go_quiet ((go_at_call 22; go_must (exact HH.out _ _ _ _)))
    go_wp2
    all_goals
      go_ret
      exact ⟨ret_i (by rw [HP.out, HB.out]; simp only [if_true]; omega), _, rfl⟩
set_option maxHeartbeats 1000000 in
theorem rto_q {w : World} {B : Nat} {e : Es} (h : EsAt w B e) (ho : Ok e) : Q 16 #[.pointer (some ⟨B, 0, none⟩)] (.int .i64 (rto e)) w := by
  refine Q.mk fun n => ?_
  replace h := h.drewN n
  generalize w.drewN n = w at *
  have c0 := h.c0; have c1 := h.c1; have c5 := h.c5
  have HH := Lib.hid (fun a b c => hold_q a b c w)
  have HP := Lib.hid (plain_q h ho)
  have HR := Lib.hid ho.rto
  have HW := Lib.hid (show wrap64 (pl e * 2 ^ e.dbl) = dn (pl e) e.dbl from by
    rw [← dn_pow]
    exact w64 _ (by have := ho.dd; have := ho.m36; have := dn_ge ho.pl1 e.dbl; have := ho.pl1; omega))
  have hd := ho.d37
  have hp1 := ho.pl1
  clear h ho
  generalize pl e = p at *
  generalize rto e = r at *
  obtain ⟨least, most, srtt, vary, has, dbl⟩ := e
  dsimp only at *
  go_enter Try.func16, Try.ntmps16
  go_wp2_with fail
  go_quiet (first | (go_at_call 22; go_must (exact HH.out _ _ _ _)) | (go_at_call 24; go_must (exact HP.out _)))
  rw [HW.out, HR.out]
  go_wp2
  go_ret
  exact ⟨rfl, _, rfl⟩
/-- what is asked of it -/
theorem srtt_q {w : World} {B : Nat} {e : Es} (h : EsAt w B e) : Q 18 #[.pointer (some ⟨B, 0, none⟩)] (.int .i64 e.srtt) w := by
  refine Q.mk fun n => ?_
  replace h := h.drewN n
  generalize w.drewN n = w at *
  have c := h.c2
  go_enter Try.func18, Try.ntmps18
  go_wp2
  go_ret
  exact ⟨rfl, 0, rfl⟩
theorem var_q {w : World} {B : Nat} {e : Es} (h : EsAt w B e) : Q 19 #[.pointer (some ⟨B, 0, none⟩)] (.int .i64 e.vary) w := by
  refine Q.mk fun n => ?_
  replace h := h.drewN n
  generalize w.drewN n = w at *
  have c := h.c3
  go_enter Try.func19, Try.ntmps19
  go_wp2
  go_ret
  exact ⟨rfl, 0, rfl⟩
theorem has_q {w : World} {B : Nat} {e : Es} (h : EsAt w B e) : Q 17 #[.pointer (some ⟨B, 0, none⟩)] (.bool e.has) w := by
  refine Q.mk fun n => ?_
  replace h := h.drewN n
  generalize w.drewN n = w at *
  have c := h.c4
  go_enter Try.func17, Try.ntmps17
  go_wp2
  go_ret
  exact ⟨rfl, 0, rfl⟩
theorem dbl_q {w : World} {B : Nat} {e : Es} (h : EsAt w B e) : Q 20 #[.pointer (some ⟨B, 0, none⟩)] (.int .i64 e.dbl) w := by
  refine Q.mk fun n => ?_
  replace h := h.drewN n
  generalize w.drewN n = w at *
  have c := h.c5
  go_enter Try.func20, Try.ntmps20
  go_wp2
  go_ret
  exact ⟨rfl, 0, rfl⟩
/-- an estimate that is none -/
theorem none_q (w : World) : Q 16 #[.pointer none] (.int .i64 0) w ∧ Q 18 #[.pointer none] (.int .i64 0) w ∧ Q 19 #[.pointer none] (.int .i64 0) w ∧ Q 20 #[.pointer none] (.int .i64 0) w ∧ Q 17 #[.pointer none] (.bool false) w ∧ Q 10 #[.pointer none] (.pointer none) w ∧ Q 12 #[.pointer none] (.bool false) w ∧ ∀ r, Q 13 #[.pointer none, .int .i64 r] (.int .i64 1) w := by
  refine ⟨?_, ?_, ?_, ?_, ?_, ?_, ?_, fun r => ?_⟩ <;> refine Q.mk fun n => ?_ <;> generalize w.drewN n = w
  · go_enter Try.func16, Try.ntmps16
    go_wp2
    go_ret
    exact ⟨rfl, 0, rfl⟩
  · go_enter Try.func18, Try.ntmps18
    go_wp2
    go_ret
    exact ⟨rfl, 0, rfl⟩
  · go_enter Try.func19, Try.ntmps19
    go_wp2
    go_ret
    exact ⟨rfl, 0, rfl⟩
  · go_enter Try.func20, Try.ntmps20
    go_wp2
    go_ret
    exact ⟨rfl, 0, rfl⟩
  · go_enter Try.func17, Try.ntmps17
    go_wp2
    go_ret
    exact ⟨rfl, 0, rfl⟩
  · go_enter Try.func10, Try.ntmps10
    go_wp2
    go_ret
    exact ⟨rfl, 0, rfl⟩
  · go_enter Try.func12, Try.ntmps12
    go_wp2_with fail
    go_quiet (fail)
    go_wp2
    go_ret
    exact ⟨rfl, _, rfl⟩
  · go_enter Try.func13, Try.ntmps13
    go_wp2
    go_ret
    exact ⟨rfl, 0, rfl⟩
/-- behind a call that writes the estimate at B -/
def RetE (v : Value) (B : Nat) (e' : Es) (w : World) (e : Ending) (w' : World) : Prop := e = .returned v ∧ EsAt w' B e' ∧ Kept [B] w w'

theorem EsAt.put {w : World} {B : Nat} {e : Es} (h : EsAt w B e) (i : Nat) (u : Value) : (w.setCell ⟨B, i, none⟩ u).heap[B]? = some (.cells ((cellsE e).setIfInBounds i u) 44 (0, 0)) := heap_setCell_same _ B i _ _ _ h
theorem kp1 (w : World) (B i : Nat) (u : Value) : Kept [B] w (w.setCell ⟨B, i, none⟩ u) := (Kept.refl [B] w).setCell (.inl (by simp)) u
theorem kp2 (w : World) (B i j : Nat) (u v : Value) : Kept [B] w ((w.setCell ⟨B, i, none⟩ u).setCell ⟨B, j, none⟩ v) := (kp1 w B i u).setCell (.inl (by simp)) v
theorem kd (w : World) (n : Nat) (S : List Nat) : Kept S w (w.drewN n) := (Kept.refl S w).drewN n
theorem EsAt.put2 {w : World} {B : Nat} {e : Es} (h : EsAt w B e) (i j : Nat) (u v : Value) : ((w.setCell ⟨B, i, none⟩ u).setCell ⟨B, j, none⟩ v).heap[B]? = some (.cells (((cellsE e).setIfInBounds i u).setIfInBounds j v) 44 (0, 0)) :=
  heap_setCell_same _ B j _ _ _ (heap_setCell_same _ B i _ _ _ h)
theorem e_kk {w : World} {B : Nat} {a b : Es} (h : EsAt w B a) (he : a = b) : EsAt w B b := he ▸ h

set_option maxHeartbeats 1000000 in
theorem smooth_any {w : World} {B : Nat} {e : Es} (hE : EsAt w B e) (ho : Ok e) {r : Int} (hr : 0 ≤ r ∧ r ≤ 68719476736) : Calls Try.prog 23 #[.pointer (some ⟨B, 0, none⟩), .int .i64 r] w
    (RetE (.tuple #[]) B ⟨e.least, e.most, (7 * e.srtt + r) / 8, (3 * e.vary + far e.srtt r) / 4, e.has, e.dbl⟩ w) := by
  have c2 := hE.c2; have c3 := hE.c3
  have f2 := hE.f 2; have f3 := hE.f 3
  have s0 := ho.s0; have s1 := ho.s1; have v0 := ho.v0; have v1 := ho.v1
  obtain ⟨least, most, srtt, vary, has, dbl⟩ := e
  dsimp only at *
  by_cases hc : srtt ≤ r
  · have hf : far srtt r = r - srtt := if_pos hc
    rw [hf]
    go_enter Try.func23, Try.ntmps23
    go_wp2_with fail
    go_quiet (fail)
    go_wp2_with fail
    all_goals
      go_end0
      exact ⟨rfl, (EsAt.put2 (hE.drewN nq) 3 2 _ _).trans (by simp <;> omega), (kd w nq _).trans (kp2 _ B 3 2 _ _) (by simp)⟩
  · have hf : far srtt r = srtt - r := if_neg hc
    rw [hf]
    go_enter Try.func23, Try.ntmps23
    go_wp2_with fail
    go_quiet (fail)
    go_wp2_with fail
    all_goals
      go_end0
      exact ⟨rfl, (EsAt.put2 (hE.drewN nq) 3 2 _ _).trans (by simp <;> omega), (kd w nq _).trans (kp2 _ B 3 2 _ _) (by simp)⟩
set_option maxHeartbeats 1000000 in
theorem backoff_any {w : World} {B : Nat} {e : Es} (h : EsAt w B e) (ho : Ok e) : Calls Try.prog 12 #[.pointer (some ⟨B, 0, none⟩)] w
    (RetE (.bool (bckB e)) B (bck e) w) := by
  have c1 := h.c1; have c5 := h.c5
  have f5 := h.f 5
  have HR := Lib.hid (rto_q h ho)
  have hd := ho.d37
  have HB := Lib.hid (show bckB e = !decide (e.most ≤ rto e) from rfl)
  have HC := Lib.hid (show bck e = if e.most ≤ rto e then e else ⟨e.least, e.most, e.srtt, e.vary, e.has, e.dbl + 1⟩ from rfl)
  generalize rto e = r at *
  by_cases hc : e.most ≤ r
  · go_enter Try.func12, Try.ntmps12
    go_wp2_with fail
    go_quiet ((go_at_call 16; go_must (exact HR.out _)))
    go_wp2_with fail
    go_ret
    refine ⟨by rw [HB.out]; simp [hc], ?_, kd w nq _⟩
    rw [HC.out, if_pos hc]
    exact h.drewN nq
  · go_enter Try.func12, Try.ntmps12
    go_wp2_with fail
    go_quiet ((go_at_call 16; go_must (exact HR.out _)))
    go_wp2_with fail
    go_ret
    refine ⟨by rw [HB.out]; simp; omega, ?_, (kd w nq _).trans (kp1 _ B 5 _) (by simp)⟩
    rw [HC.out, if_neg (by omega)]
    exact (EsAt.put (h.drewN nq) 5 _).trans rfl
set_option maxHeartbeats 1000000 in
theorem clone_any {w : World} {B : Nat} {e : Es} (h : EsAt w B e) : Calls Try.prog 10 #[.pointer (some ⟨B, 0, none⟩)] w
    fun x w' => x = .returned (.pointer (some ⟨w.heap.size, 0, none⟩)) ∧ EsAt w' w.heap.size e ∧ Below w.heap.size w w' := by
  have c0 := h.c0; have c1 := h.c1; have c2 := h.c2; have c3 := h.c3; have c4 := h.c4; have c5 := h.c5
  go_enter Try.func10, Try.ntmps10
  go_wp2_with fail
  go_ret
  exact ⟨rfl, heap_alloc_new w _, (Below.refl _ _).alloc (Nat.le_refl _) _⟩
set_option maxHeartbeats 1000000 in
theorem sample_any {w : World} {B : Nat} {e : Es} (h : EsAt w B e) (ho : Ok e) {r : Int} (hr : 0 ≤ r ∧ r ≤ 68719476736) : Calls Try.prog 13 #[.pointer (some ⟨B, 0, none⟩), .int .i64 r] w
    (RetE (.int .i64 0) B (smp e r) w) := by
  have HH := Lib.hid (fun W => hold_eq r 0 68719476736 W)
  have hm : min (max r 0) 68719476736 = r := by omega
  rw [hm] at HH
  clear hm
  have HX := Lib.hid (smooth_any h ho hr)
  have H := Lib.hid h
  clear ho
  obtain ⟨least, most, srtt, vary, has, dbl⟩ := e
  dsimp only at *
  cases has with
  | false =>
    have c2 := h.c2; have c3 := h.c3; have c4 := h.c4; have c5 := h.c5
    have f2 := h.f 2; have f3 := h.f 3; have f4 := h.f 4; have f5 := h.f 5
    clear h HX
    dsimp only at *
    go_enter Try.func13, Try.ntmps13
    go_wp2_with (go_at_call 22; refine (HH.out _).mono ?_; rintro e w1 ⟨rfl, rfl⟩)
    go_ret
    exact ⟨rfl, (EsAt.put2 (e := ⟨least, most, r, r / 2, false, dbl⟩) ((EsAt.put2 H.out 2 3 _ _).trans rfl) 4 5 _ _).trans rfl, (kp2 _ B 2 3 _ _).trans (kp2 _ B 4 5 _ _) (by simp)⟩
  | true =>
    have c4 := h.c4
    clear h
    dsimp only at *
    go_enter Try.func13, Try.ntmps13
    go_wp2_with (first
      | (go_at_call 22; refine (HH.out _).mono ?_; rintro e w1 ⟨rfl, rfl⟩)
      | (go_at_call 23; refine HX.out.mono ?_; rintro e w2 ⟨rfl, h2, hk2⟩; have c4 := h2.c4; have c5 := h2.c5; have f4 := h2.f 4; have f5 := h2.f 5))
    go_ret
    exact ⟨rfl, (EsAt.put2 h2 4 5 _ _).trans rfl, hk2.trans (kp2 _ B 4 5 _ _) (by simp)⟩
theorem new_bad {l m : Int} {w : World} (h : ¬ (1 ≤ l ∧ l ≤ m ∧ m ≤ 68719476736)) : Calls Try.prog 8 #[.int .i64 l, .int .i64 m] w
    fun x w' => x = .returned (.tuple #[.pointer none, .int .i64 2]) ∧ w = w' := by
  go_enter Try.func8, Try.ntmps8
  by_cases h1 : l < 1
  · go_wp2
    go_ret2
    exact ⟨rfl, rfl⟩
  · by_cases h2 : 68719476736 < m
    · go_wp2
      go_ret2
      exact ⟨rfl, rfl⟩
    · have h3 : m < l := by omega
      go_wp2
      go_ret2
      exact ⟨rfl, rfl⟩
theorem new_ok_any {l m : Int} {w : World} (h : 1 ≤ l ∧ l ≤ m ∧ m ≤ 68719476736) : Calls Try.prog 8 #[.int .i64 l, .int .i64 m] w
    fun x w' => x = .returned (.tuple #[.pointer (some ⟨w.heap.size, 0, none⟩), .int .i64 0]) ∧ EsAt w' w.heap.size ⟨l, m, 0, 0, false, 0⟩ ∧ Below w.heap.size w w' := by
  obtain ⟨h1, h2, h3⟩ := h
  go_enter Try.func8, Try.ntmps8
  go_wp2
  go_ret2
  exact ⟨rfl, heap_alloc_new w _, (Below.refl _ _).alloc (Nat.le_refl _) _⟩
set_option maxHeartbeats 1000000 in
theorem sample_bad {w : World} {B : Nat} {r : Int} (hr : ¬ (0 ≤ r ∧ r ≤ 68719476736)) : Calls Try.prog 13 #[.pointer (some ⟨B, 0, none⟩), .int .i64 r] w
    fun x w' => x = .returned (.int .i64 3) ∧ w = w' := by
  have HH := Lib.hid (fun W => hold_eq r 0 68719476736 W)
  have hm : min (max r 0) 68719476736 ≠ r := by omega
  generalize min (max r 0) 68719476736 = z at *
  go_enter Try.func13, Try.ntmps13
  go_wp2_with (go_at_call 22; refine (HH.out _).mono ?_; rintro e w1 ⟨rfl, rfl⟩)
  go_ret
  exact ⟨rfl, rfl⟩
end Go.Proofs.Ytpabbdfjfnbdbaa.rt
