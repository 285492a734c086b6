/-
  Package dup's laws: what both say is the same; what must come of fixed calls.
-/
import Derived.Test.YtegfmjkngbnnfaaDupF
import Derived.Test.YtegfmjkngbnnfaaSpnE
namespace Go.Proofs.Ytegfmjkngbnnfaa.dp
open Go.RowKit aid mem sq sp
attribute [local go_sem ↓] Go.wp_at_zero Go.wp_at_succ
set_option linter.unusedVariables false

/-- what is told, with its list -/
structure TdOk (w : World) (t : Td) (a : Option Addr) (n cap : Nat) : Prop where
  sl : SlS w a n cap t.sacks
theorem to_any (t : Td) (a : Option Addr) (n cap : Nat) (w : World) : Calls Try.prog 11 #[tdV t (.slice a n cap)] w fun e w' => e = .returned (tdV t (.slice a n cap)) ∧ Below w.heap.size w w' := by
  have r1 := td_new 29 w t (.slice a n cap)
  have b1 := bal (w := w) (.cells #[.int .i64 t.ack, .bool t.isDup, .int .i64 t.dup.1, .int .i64 t.dup.2, .slice a n cap, .int .i64 t.bad] 29)
  have r2 := r1.later (bal (.cells #[.int .i64 0, .bool false, .int .i64 0, .int .i64 0, .slice none 0 0, .int .i64 0] 33))
  have c0 := r2.c0; have c1 := r2.c1; have c2 := r2.c2; have c3 := r2.c3; have c4 := r2.c4; have c5 := r2.c5
  have r3 := td_new 33 (w.alloc (.cells #[.int .i64 t.ack, .bool t.isDup, .int .i64 t.dup.1, .int .i64 t.dup.2, .slice a n cap, .int .i64 t.bad] 29)) t (.slice a n cap)
  simp only [World.size_alloc] at r3
  have b3 := b1.alloc b1.size (.cells #[.int .i64 t.ack, .bool t.isDup, .int .i64 t.dup.1, .int .i64 t.dup.2, .slice a n cap, .int .i64 t.bad] 33)
  go_enter Try.func11, Try.ntmps11
  go_wp2_with fail
  have e0 := r3.c0; have e1 := r3.c1; have e2 := r3.c2; have e3 := r3.c3; have e4 := r3.c4; have e5 := r3.c5
  exact bodyPost_ret (v := tdV t (.slice a n cap)) (by simp [results, Try.results11, go_sem, e0, e1, e2, e3, e4, e5]) rfl ⟨rfl, b3⟩

set_option maxHeartbeats 1600000 in
theorem dsame_any (t : Td) (a b : Option Addr) (n m c d : Nat) (w : World) (h1 : SlS w a n c t.sacks) (h2 : SlS w b m d t.sacks) :
    Calls Try.prog 10 #[tdV t (.slice a n c), tdV t (.slice b m d)] w fun e w' => e = .returned (.bool true) ∧ Below w.heap.size w w' := by
  have r1 := td_new 33 w t (.slice a n c)
  have b1 := bal (w := w) (.cells #[.int .i64 t.ack, .bool t.isDup, .int .i64 t.dup.1, .int .i64 t.dup.2, .slice a n c, .int .i64 t.bad] 33)
  have r2 := r1.later (bal (.cells #[.int .i64 t.ack, .bool t.isDup, .int .i64 t.dup.1, .int .i64 t.dup.2, .slice b m d, .int .i64 t.bad] 33))
  have r3 := td_new 33 (w.alloc (.cells #[.int .i64 t.ack, .bool t.isDup, .int .i64 t.dup.1, .int .i64 t.dup.2, .slice a n c, .int .i64 t.bad] 33)) t (.slice b m d)
  simp only [World.size_alloc] at r3
  have b3 := b1.alloc b1.size (.cells #[.int .i64 t.ack, .bool t.isDup, .int .i64 t.dup.1, .int .i64 t.dup.2, .slice b m d, .int .i64 t.bad] 33)
  have HS := Lib.hid (rsame_any (h1.later b3) (h2.later b3))
  have c0 := r2.c0; have c1 := r2.c1; have c2 := r2.c2; have c3 := r2.c3; have c4 := r2.c4; have c5 := r2.c5
  have d0 := r3.c0; have d1 := r3.c1; have d2 := r3.c2; have d3 := r3.c3; have d4 := r3.c4; have d5 := r3.c5
  have eqg := eq_guard
  have eqb : ∀ w, (Op.equalIn 10000 26 (.agg #[.int .i64 t.dup.1, .int .i64 t.dup.2]) (.agg #[.int .i64 t.dup.1, .int .i64 t.dup.2])).run Try.prog w = .ok true w := fun w => by rw [eq_spB]; simp
  clear r1 r2 r3 h1 h2
  go_enter Try.func10, Try.ntmps10
  go_wp2_with fail
  refine (HS.out).mono ?_
  rintro e w2 ⟨rfl, hb⟩
  have hd : decide (t.sacks = t.sacks) = true := by simp
  go_wp2_with fail
  go_ret
  exact ⟨rfl, b3.trans (hb.mono b3.size)⟩
end Go.Proofs.Ytegfmjkngbnnfaa.dp
