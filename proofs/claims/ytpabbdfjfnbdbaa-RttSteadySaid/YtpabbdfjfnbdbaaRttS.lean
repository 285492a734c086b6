/-
  The reference's Backoff; what is the document's; the fixed calls.
-/
import Derived.Test.YtpabbdfjfnbdbaaRttR
namespace Go.Proofs.Ytpabbdfjfnbdbaa.rt
open Go.RowKit aid mem
attribute [local go_sem ↓] Go.wp_at_zero Go.wp_at_succ
set_option linter.unusedVariables false

/-- the two boxes of the reference's Backoff -/
structure RB (w0 : World) (B : Nat) (e : Es) (w : World) : Prop where
  b0 : w.heap[B]? = some (.cells (cellsE e) 30 (0, 0))
  b1 : w.heap[B + 1]? = some (.cells #[.int .i64 0, .int .i64 0, .int .i64 0, .int .i64 0, .bool false, .int .i64 0] 30 (0, 0))
  below : Below w0.heap.size w0 w
  le : w0.heap.size ≤ B
theorem RB.later {w0 w w' : World} {B : Nat} {e : Es} (h : RB w0 B e w) (hb : Below w.heap.size w w') : RB w0 B e w' :=
  ⟨(hb.block _ (lt_of_block h.b0)).trans h.b0, (hb.block _ (lt_of_block h.b1)).trans h.b1, h.below.trans (hb.mono h.below.size), h.le⟩
theorem RB.drew {w0 w : World} {B : Nat} {e : Es} (h : RB w0 B e w) : RB w0 B e w.drew := ⟨h.b0, h.b1, h.below.drew, h.le⟩
theorem rb_new (w : World) (e : Es) : RB w w.heap.size e ((w.alloc (.cells (cellsE e) 30)).alloc (.cells #[.int .i64 0, .int .i64 0, .int .i64 0, .int .i64 0, .bool false, .int .i64 0] 30)) :=
  ⟨heap_alloc2_old w _ _, heap_alloc2_new w _ _, bal2 _ _, Nat.le_refl _⟩
theorem cofr {w : World} {B : Nat} {cs : Array Value} {t : TypeId} (h : w.heap[B]? = some (.cells cs t (0, 0))) (i : Nat) (v : Value) (hv : cs[i]? = some v) : w.cell? ⟨B, i, none⟩ = some v := (cell_of_row w B i _ _ (0, 0) h).trans hv
theorem fofr {w : World} {B : Nat} {cs : Array Value} {t : TypeId} (h : w.heap[B]? = some (.cells cs t (0, 0))) (i : Nat) : w.frozen? ⟨B, i, none⟩ = false := by simp [World.frozen?, h]
/-- what is held in a region -/
def RC (B : Nat) (e : Es) (w' : World) : Prop := w'.cell? ⟨B, 0, none⟩ = some (.int .i64 e.least) ∧ w'.cell? ⟨B, 1, none⟩ = some (.int .i64 e.most) ∧ w'.cell? ⟨B, 2, none⟩ = some (.int .i64 e.srtt) ∧ w'.cell? ⟨B, 3, none⟩ = some (.int .i64 e.vary) ∧ w'.cell? ⟨B, 4, none⟩ = some (.bool e.has) ∧ w'.cell? ⟨B, 5, none⟩ = some (.int .i64 e.dbl)
theorem RB.rc {w0 w : World} {B : Nat} {e : Es} (h : RB w0 B e w) : RC B e w := ⟨cofr h.b0 0 _ rfl, cofr h.b0 1 _ rfl, cofr h.b0 2 _ rfl, cofr h.b0 3 _ rfl, cofr h.b0 4 _ rfl, cofr h.b0 5 _ rfl⟩
theorem sc {w : World} {B : Nat} {cs : Array Value} {t : TypeId} (h : w.heap[B]? = some (.cells cs t (0, 0))) (i : Nat) (u : Value) : (w.setCell ⟨B, i, none⟩ u).heap[B]? = some (.cells (cs.setIfInBounds i u) t (0, 0)) := heap_setCell_same _ B i _ _ _ h
theorem put6 {w : World} {X : Nat} {t : TypeId} {a0 a1 a2 a3 a4 a5 : Value} (h : w.heap[X]? = some (.cells #[a0, a1, a2, a3, a4, a5] t (0, 0))) (u0 u1 u2 u3 u4 u5 : Value) :
    ((((((w.setCell ⟨X, 0, none⟩ u0).setCell ⟨X, 1, none⟩ u1).setCell ⟨X, 2, none⟩ u2).setCell ⟨X, 3, none⟩ u3).setCell ⟨X, 4, none⟩ u4).setCell ⟨X, 5, none⟩ u5).heap[X]? = some (.cells #[u0, u1, u2, u3, u4, u5] t (0, 0)) := by
  have h0 := sc h 0 u0
  have h1 := sc h0 1 u1
  have h2 := sc h1 2 u2
  have h3 := sc h2 3 u3
  have h4 := sc h3 4 u4
  exact sc h4 5 u5
theorem kp6 (w : World) (X : Nat) (u0 u1 u2 u3 u4 u5 : Value) :
    Kept [X] w ((((((w.setCell ⟨X, 0, none⟩ u0).setCell ⟨X, 1, none⟩ u1).setCell ⟨X, 2, none⟩ u2).setCell ⟨X, 3, none⟩ u3).setCell ⟨X, 4, none⟩ u4).setCell ⟨X, 5, none⟩ u5) :=
  (((((kp1 w X 0 u0).setCell (.inl (by simp)) u1).setCell (.inl (by simp)) u2).setCell (.inl (by simp)) u3).setCell (.inl (by simp)) u4).setCell (.inl (by simp)) u5
set_option maxHeartbeats 1000000 in
theorem rbackoff_any {w : World} {e : Es} (ho : Ok e) : Calls Try.prog 11 #[rsV e] w
    fun x w' => x = .returned (.tuple #[rsV (bck e), .bool (bckB e)]) ∧ Below w.heap.size w w' := by
  have HR := Lib.hid (fun W => rrto_any (w := W) ho)
  have hd := ho.d37
  have HB := Lib.hid (show bckB e = !decide (e.most ≤ rto e) from rfl)
  have HC := Lib.hid (show bck e = if e.most ≤ rto e then e else ⟨e.least, e.most, e.srtt, e.vary, e.has, e.dbl + 1⟩ from rfl)
  generalize rto e = r at *
  clear ho
  have M0 := rb_new w e
  obtain ⟨c0, c1, c2, c3, c4, c5⟩ := M0.rc
  go_enter Try.func11, Try.ntmps11
  go_wp2_with fail
  go_region_held3 (fun w' => w'.cell? ⟨w.heap.size, 0, none⟩ = some (.int .i64 e.least) ∧ w'.cell? ⟨w.heap.size, 1, none⟩ = some (.int .i64 e.most) ∧ w'.cell? ⟨w.heap.size, 2, none⟩ = some (.int .i64 e.srtt) ∧ w'.cell? ⟨w.heap.size, 3, none⟩ = some (.int .i64 e.vary) ∧ w'.cell? ⟨w.heap.size, 4, none⟩ = some (.bool e.has) ∧ w'.cell? ⟨w.heap.size, 5, none⟩ = some (.int .i64 e.dbl)) (first | go_keep | exact (M0.drew.later hb1).rc) ((go_at_call 21; (with_reducible refine (HR.out _).mono ?_); rintro x w1 ⟨rfl, hb1⟩))
  have M1 := M0.drew.later hb1
  have H1 := Lib.hid M1
  clear c0 c1 c2 c3 c4 c5 M0 HR hb1
  obtain ⟨c0, c1, c2, c3, c4, c5⟩ := M1.rc
  generalize w.heap.size = B at *
  have f5 := fofr M1.b0 5
  have g0 := fofr M1.b1 0; have g1 := fofr M1.b1 1; have g2 := fofr M1.b1 2; have g3 := fofr M1.b1 3; have g4 := fofr M1.b1 4; have g5 := fofr M1.b1 5
  have d0 := cofr M1.b1 0 _ rfl; have d1 := cofr M1.b1 1 _ rfl; have d2 := cofr M1.b1 2 _ rfl; have d3 := cofr M1.b1 3 _ rfl; have d4 := cofr M1.b1 4 _ rfl; have d5 := cofr M1.b1 5 _ rfl
  clear M1
  by_cases hc : e.most ≤ r
  · go_wp2_with fail
    have hx := put6 H1.out.b1 (.int .i64 e.least) (.int .i64 e.most) (.int .i64 e.srtt) (.int .i64 e.vary) (.bool e.has) (.int .i64 e.dbl)
    have e0 := cofr hx 0 _ rfl; have e1 := cofr hx 1 _ rfl; have e2 := cofr hx 2 _ rfl; have e3 := cofr hx 3 _ rfl; have e4 := cofr hx 4 _ rfl; have e5 := cofr hx 5 _ rfl
    have hk := H1.out.below.trans ((kp6 w1 (B + 1) (.int .i64 e.least) (.int .i64 e.most) (.int .i64 e.srtt) (.int .i64 e.vary) (.bool e.has) (.int .i64 e.dbl)).below (by have := H1.out.le; simp; omega) H1.out.below.size)
    refine bodyPost_ret (v := .tuple #[rsV e, .bool false]) (by simp [results, Try.results11, go_sem, e0, e1, e2, e3, e4, e5]) rfl ⟨?_, hk⟩
    rw [HB.out, HC.out, if_pos hc]
    simp [hc]
  · go_wp2_with fail
    have hy := sc H1.out.b0 5 (.int .i64 (e.dbl + 1))
    have hz : (w1.setCell ⟨B, 5, none⟩ (.int .i64 (e.dbl + 1))).heap[B + 1]? = _ := ((kp1 w1 B 5 (.int .i64 (e.dbl + 1))).heap (by simp) H1.out.b1)
    have hx := put6 hz (.int .i64 e.least) (.int .i64 e.most) (.int .i64 e.srtt) (.int .i64 e.vary) (.bool e.has) (.int .i64 (e.dbl + 1))
    have e0 := cofr hx 0 _ rfl; have e1 := cofr hx 1 _ rfl; have e2 := cofr hx 2 _ rfl; have e3 := cofr hx 3 _ rfl; have e4 := cofr hx 4 _ rfl; have e5 := cofr hx 5 _ rfl
    have hk1 := H1.out.below.trans ((kp1 w1 B 5 (.int .i64 (e.dbl + 1))).below (by have := H1.out.le; simp; omega) H1.out.below.size)
    have hk := hk1.trans ((kp6 _ (B + 1) (.int .i64 e.least) (.int .i64 e.most) (.int .i64 e.srtt) (.int .i64 e.vary) (.bool e.has) (.int .i64 (e.dbl + 1))).below (by have := H1.out.le; simp; omega) hk1.size)
    refine bodyPost_ret (v := .tuple #[rsV ⟨e.least, e.most, e.srtt, e.vary, e.has, e.dbl + 1⟩, .bool true]) (by simp [results, Try.results11, go_sem, e0, e1, e2, e3, e4, e5]) rfl ⟨?_, hk⟩
    rw [HB.out, HC.out, if_neg (by omega)]
    simp
    omega
end Go.Proofs.Ytpabbdfjfnbdbaa.rt
