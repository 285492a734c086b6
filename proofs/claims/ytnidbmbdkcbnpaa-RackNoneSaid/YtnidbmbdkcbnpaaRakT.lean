/-
  Layer 15's law RackNone.
-/
import Derived.Test.YtnidbmbdkcbnpaaFly
import Derived.Test.YtnidbmbdkcbnpaaRakN
import Derived.Test.YtnidbmbdkcbnpaaRakK
import Derived.Test.YtnidbmbdkcbnpaaRakO
namespace Go.Proofs.Ytnidbmbdkcbnpaa.rk
open Go.RowKit aid mem opn bk Go.ChangeShapes Go.WideShapes Go.ChangeAt
attribute [local go_sem ↓] Go.wp_at_zero Go.wp_at_succ
set_option linter.unusedVariables false
set_option linter.unusedSimpArgs false

section
variable {H : Type} {enc : TypeId × Value → H} {w : World} {base : Nat}
set_option maxRecDepth 100000 in
theorem open_rec {b0 : Nat} {v : Value} {d : DataW H} {p : List MemPlace} (hv : Value.okWide Try.prog w .any b0 26 v)
    (hk : DataW.Trod enc Try.prog w base (fun _ => true) true 26 v d p) : ∃ s : {r : bk.Rc // RcOk r}, v = .agg #[.int .i64 s.1.f, .int .i64 s.1.t, .int .i64 s.1.sent, .int .i64 s.1.order, .int .i64 s.1.times, .int .i64 s.1.out, .bool s.1.lost] := by
  obtain ⟨cs, rfl, hsz⟩ := okWide_struct Try.underlying26 hv
  obtain ⟨fuel, h⟩ := hk
  obtain ⟨q, hq, hok⟩ := rec_in fuel _ d p h
  have : cs = #[.int .i64 q.f, .int .i64 q.t, .int .i64 q.sent, .int .i64 q.order, .int .i64 q.times, .int .i64 q.out, .bool q.lost] := by
    apply Array.toList_inj.1
    simpa [Value.cells] using hq
  subst this
  exact ⟨⟨q, hok⟩, rfl⟩
end
/-- one pair of the law's own -/
theorem sd_one (w : World) : SdA (w.alloc (.cells #[.int .u8 1, .int .u8 1] 72)) (some ⟨w.heap.size, 0, none⟩) 1 1 (fun _ => (1, 1)) := by
  have h := heap_alloc_new w (.cells #[.int .u8 1, .int .u8 1] 72)
  refine ⟨Nat.le_refl _, by unfold maxLen; omega, fun _ => ⟨w.heap.size, 0, rfl, fun i hi => ?_⟩⟩
  obtain rfl : i = 0 := by omega
  exact ⟨(cell_of_row _ _ 0 _ _ (0, 0) h).trans rfl, (cell_of_row _ _ 1 _ _ (0, 0) h).trans rfl, by omega, by omega⟩
theorem by_none (w : World) : ByA w none 0 0 (fun _ => 0) := ⟨Nat.le_refl _, by unfold maxLen; omega, fun h => by omega⟩
abbrev recO (r : bk.Rc) : Obj := .cells #[.int .i64 r.f, .int .i64 r.t, .int .i64 r.sent, .int .i64 r.order, .int .i64 r.times, .int .i64 r.out, .bool r.lost] 26
abbrev R7 (b : Nat) (r : bk.Rc) (W : World) : Prop := W.cell? ⟨b, 0, none⟩ = some (.int .i64 r.f) ∧ W.cell? ⟨b, 1, none⟩ = some (.int .i64 r.t) ∧ W.cell? ⟨b, 2, none⟩ = some (.int .i64 r.sent) ∧ W.cell? ⟨b, 3, none⟩ = some (.int .i64 r.order) ∧ W.cell? ⟨b, 4, none⟩ = some (.int .i64 r.times) ∧ W.cell? ⟨b, 5, none⟩ = some (.int .i64 r.out) ∧ W.cell? ⟨b, 6, none⟩ = some (.bool r.lost)
theorem r7_of {W : World} {b : Nat} {r : bk.Rc} (h : W.heap[b]? = some (recO r)) : R7 b r W :=
  ⟨(cell_of_row _ _ 0 _ _ (0, 0) h).trans rfl, (cell_of_row _ _ 1 _ _ (0, 0) h).trans rfl, (cell_of_row _ _ 2 _ _ (0, 0) h).trans rfl, (cell_of_row _ _ 3 _ _ (0, 0) h).trans rfl, (cell_of_row _ _ 4 _ _ (0, 0) h).trans rfl, (cell_of_row _ _ 5 _ _ (0, 0) h).trans rfl, (cell_of_row _ _ 6 _ _ (0, 0) h).trans rfl⟩
/-- the record's box -/
structure NB (w : World) (r : bk.Rc) (W : World) : Prop where
  x : W.heap[w.heap.size]? = some (recO r)
  below : Below w.heap.size w W
theorem NB.later {w W W' : World} {r : bk.Rc} (h : NB w r W) (hb : Below W.heap.size W W') : NB w r W' := ⟨(hb.block _ (lt_of_block h.x)).trans h.x, h.below.trans (hb.mono h.below.size)⟩
theorem alb (w : World) (o : Obj) : Below w.heap.size w (w.alloc o) := (Below.refl _ _).alloc (Nat.le_refl _) _
set_option maxRecDepth 100000 in
set_option maxHeartbeats 4000000 in
theorem walk_RackNone (r : {r : bk.Rc // RcOk r}) (n : Int) (hn : -9223372036854775808 ≤ n ∧ n ≤ 9223372036854775807) (w : World) :
    Calls Try.prog 7 #[.agg #[.int .i64 r.1.f, .int .i64 r.1.t, .int .i64 r.1.sent, .int .i64 r.1.order, .int .i64 r.1.times, .int .i64 r.1.out, .bool r.1.lost], .int .i64 n] w fun e w' => e = .returned (.bool true) ∧ Below w.heap.size w w' := by
  obtain ⟨r, hr⟩ := r
  simp only
  clear hr
  have S : NB w r (w.alloc (recO r)) := ⟨heap_alloc_new w _, alb _ _⟩
  go_enter Try.func7, Try.ntmps7
  go_upto_region 4 with (go_at_call 8; go_must (with_reducible refine (known_any _).mono ?_); rintro e w1 ⟨rfl, hb⟩; replace S := S.later hb; clear hb)
  have HSD := Lib.hid (sd_one w1)
  replace S := S.later (alb w1 (.cells #[.int .u8 1, .int .u8 1] 72))
  go_upto_region 5 with (go_at_call 16; go_must (refine (fly_any HSD.out (by_none _) (by_none _)).mono ?_); unfold RetF; rintro e w2 ⟨B, T, s, N, L, a, m, cap, c, rfl, _, _, _, _, hb, _⟩; replace S := S.later hb; clear hb; replace S := S.later (alb w2 (.cells #[.slice a m cap, .int .i64 s.nxt, .int .i64 s.now, .int .i64 s.sent] 54)))
  obtain ⟨q0, q1, q2, q3, q4, q5, q6⟩ := r7_of S.x
  clear HSD
  go_wp2_with (first
    | (go_at_call 27; go_must (with_reducible refine (calm_nil _).mono ?_); rintro e w3 ⟨⟨v, rfl⟩, hb⟩; replace S := S.later hb; clear hb q0 q1 q2 q3 q4 q5 q6; obtain ⟨q0, q1, q2, q3, q4, q5, q6⟩ := r7_of S.x)
    | (go_at_call 20; go_must (with_reducible refine (late_nil _ _ _ _).mono ?_); rintro e w3 ⟨rfl, hb⟩; replace S := S.later hb; clear hb q0 q1 q2 q3 q4 q5 q6; obtain ⟨q0, q1, q2, q3, q4, q5, q6⟩ := r7_of S.x)
    | (go_at_call 19; go_must (with_reducible refine (came_nil r _ _ _ _ _ _).mono ?_); rintro e w3 ⟨rfl, hb⟩; replace S := S.later hb; clear hb q0 q1 q2 q3 q4 q5 q6; obtain ⟨q0, q1, q2, q3, q4, q5, q6⟩ := r7_of S.x)
    | (go_at_call 28; go_must (with_reducible refine (dup_nil _ _ _).mono ?_); rintro e w3 ⟨rfl, hb⟩; replace S := S.later hb; clear hb q0 q1 q2 q3 q4 q5 q6; obtain ⟨q0, q1, q2, q3, q4, q5, q6⟩ := r7_of S.x)
    | (go_at_call 13; go_must (with_reducible refine (window_nil _ _ _ _ _).mono ?_); rintro e w3 ⟨rfl, hb⟩; replace S := S.later hb; clear hb q0 q1 q2 q3 q4 q5 q6; obtain ⟨q0, q1, q2, q3, q4, q5, q6⟩ := r7_of S.x)
    | (go_at_call 24; go_must (with_reducible refine (rtt_nil _).mono ?_); rintro e w3 ⟨rfl, hb⟩; replace S := S.later hb; clear hb q0 q1 q2 q3 q4 q5 q6; obtain ⟨q0, q1, q2, q3, q4, q5, q6⟩ := r7_of S.x)
    | (go_at_call 25; go_must (with_reducible refine (order_nil _).mono ?_); rintro e w3 ⟨rfl, hb⟩; replace S := S.later hb; clear hb q0 q1 q2 q3 q4 q5 q6; obtain ⟨q0, q1, q2, q3, q4, q5, q6⟩ := r7_of S.x)
    | (go_at_call 29; go_must (with_reducible refine (mult_nil _).mono ?_); rintro e w3 ⟨rfl, hb⟩; replace S := S.later hb; clear hb q0 q1 q2 q3 q4 q5 q6; obtain ⟨q0, q1, q2, q3, q4, q5, q6⟩ := r7_of S.x)
    | (go_at_call 30; go_must (with_reducible refine (mixed_nil _).mono ?_); rintro e w3 ⟨rfl, hb⟩; replace S := S.later hb; clear hb q0 q1 q2 q3 q4 q5 q6; obtain ⟨q0, q1, q2, q3, q4, q5, q6⟩ := r7_of S.x)
    | (go_at_call 15; go_must (with_reducible refine (clone_nil _).mono ?_); rintro e w3 ⟨rfl, hb⟩; replace S := S.later hb; clear hb q0 q1 q2 q3 q4 q5 q6; obtain ⟨q0, q1, q2, q3, q4, q5, q6⟩ := r7_of S.x)
    | (go_at_call 8; go_must (with_reducible refine (known_any _).mono ?_); rintro e w3 ⟨rfl, hb⟩; replace S := S.later hb; clear hb q0 q1 q2 q3 q4 q5 q6; obtain ⟨q0, q1, q2, q3, q4, q5, q6⟩ := r7_of S.x))
  go_ret
  exact ⟨rfl, S.below⟩
end Go.Proofs.Ytnidbmbdkcbnpaa.rk
