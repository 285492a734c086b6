/-
  Layer 15's fixed calls.
-/
import Derived.Test.YtpoifoanigpncaaRakL
import Derived.Test.YtpoifoanigpncaaRakR
import Derived.Test.YtpoifoanigpncaaBokA
namespace Go.Proofs.Ytpoifoanigpncaa.rk
open Go.RowKit aid mem bk sp
attribute [local go_sem ↓] Go.wp_at_zero Go.wp_at_succ
set_option linter.unusedVariables false
set_option linter.unusedSimpArgs false

/-- rack's of the fixed calls, and a book's -/
structure KS (w0 : World) (X B T : Nat) (x : Rk) (s : Hd) (N L : List Nd) (w : World) : Prop where
  x : RkAt w X x
  b : Bk w B T s N L
  below : Below w0.heap.size w0 w
  xl : w0.heap.size ≤ X
  fl : ∀ k ∈ fp B T L, w0.heap.size ≤ k
  xn : X ∉ fp B T L
section
variable {w0 w w' : World} {X B T : Nat} {x : Rk} {s : Hd} {N L : List Nd} (h : KS w0 X B T x s N L w)
include h
theorem KS.later (hb : Below w.heap.size w w') : KS w0 X B T x s N L w' := ⟨h.x.later hb, h.b.later hb, h.below.trans (hb.mono h.below.size), h.xl, h.fl, h.xn⟩
theorem KS.sent {n : Nat} {s' : Hd} {r : Rc} {N' : List Nd} (hb : Bk w' B T s' N' (L ++ [(n, r)])) (hk : Kept (fp B T L) w w') (hn : w.heap.size ≤ n) : KS w0 X B T x s' N' (L ++ [(n, r)]) w' := by
  have hX := h.x.lt
  have hz := h.below.size
  refine ⟨h.x.keep hk h.xn, hb, h.below.trans (hk.below h.fl hz), h.xl, fun k hk' => ?_, fun e => ?_⟩
  · simp only [fp, List.mem_cons, List.mem_map, List.mem_append] at hk'
    rcases hk' with e | e | ⟨y, e | e, rfl⟩
    · exact h.fl k (by simp [fp, e])
    · exact h.fl k (by simp [fp, e])
    · exact h.fl _ (by simp only [fp, List.mem_cons, List.mem_map]; exact .inr (.inr ⟨y, e, rfl⟩))
    · simp at e; subst e; simp only; omega
  · simp only [fp, List.mem_cons, List.mem_map, List.mem_append] at e
    rcases e with e | e | ⟨y, e | e, h2⟩
    · exact h.xn (by simp [fp, e])
    · exact h.xn (by simp [fp, e])
    · exact h.xn (by simp only [fp, List.mem_cons, List.mem_map]; exact .inr (.inr ⟨y, e, h2⟩))
    · simp at e; subst e; simp only at h2; omega
theorem KS.wrote {x' : Rk} (hx : RkAt w' X x') (hk : Kept [X] w w') : KS w0 X B T x' s N L w' :=
  ⟨hx, h.b.other hk h.xn (fun cs e => by rw [show w.heap[X]? = _ from h.x] at e; simp at e), h.below.trans (hk.below (by simpa using h.xl) h.below.size), h.xl, h.fl, h.xn⟩
end
def KR1 : Rc := ⟨0, 10, 0, 1, 1, 1, false⟩
def KR2 : Rc := ⟨10, 20, 1, 2, 1, 1, false⟩
set_option maxRecDepth 100000 in
set_option maxHeartbeats 4000000 in
theorem known_any (w : World) : Calls Try.prog 8 #[] w fun e w' => e = .returned (.bool true) ∧ Below w.heap.size w w' := by
  have HN := Lib.hid (fun W => rk.new_any (f := 5) ⟨by omega, by omega⟩ W)
  have HB := Lib.hid (fun W => bk.new_any (una := 0) ⟨by omega, by omega⟩ W)
  have HS1 := Lib.hid (fun (W : World) (X B T : Nat) (h : KS w X B T (newR 5) ⟨0, 0, 0⟩ [] [] W) => send_good h.b (0, 10) 0 (by decide) (by simp) ⟨by simp, by simp⟩)
  have HS2 := Lib.hid (fun (W : World) (X B T n1 : Nat) (h : KS w X B T (newR 5) ⟨10, 1, 0⟩ [(n1, KR1)] [(n1, KR1)] W) => send_good h.b (10, 20) 1 (by decide) (by simp) ⟨by simp, by simp⟩)
  have HC := Lib.hid (fun (W : World) (X : Nat) (h : RkAt W X (newR 5)) => came_any h ⟨10, 20, 1, 2, 1, 1, false⟩ (now := 11) (least := 0) (has := false) (told := false) (val := 0) ⟨by omega, by omega⟩ ⟨by simp, by simp⟩ ⟨by omega, by omega⟩)
  have e1 : cameB (newR 5) ⟨10, 20, 1, 2, 1, 1, false⟩ 11 0 false false 0 = true := by decide
  have e2 : came (newR 5) ⟨10, 20, 1, 2, 1, 1, false⟩ 11 0 false false 0 = ⟨5, 10, 2, 20, false, 1, 0, 16⟩ := by unfold came; rw [if_pos e1]; rfl
  rw [e1, e2] at HC
  clear e1 e2
  have hh : hld 5 = 5 := by decide
  have l15 : ∀ n1 n2 : Nat, lt1 2 (10 + hld 5) 15 [(n1, KR1), (n2, KR2)] [] = ([], 16, true) := fun _ _ => by simp [lt1, KR1, hh]
  have l16 : ∀ n1 n2 : Nat, lt1 2 (10 + hld 5) 16 [(n1, KR1), (n2, KR2)] [] = ([(0, 10)], 0, false) := fun _ _ => by simp [lt1, KR1, KR2, hh]
  have HL := fun (W : World) (X B T n1 n2 : Nat) (now : Int) (h : KS w X B T ⟨5, 10, 2, 20, false, 1, 0, 16⟩ ⟨20, 2, 1⟩ [(n1, KR1), (n2, KR2)] [(n1, KR1), (n2, KR2)] W) => late_any h.x h.b.ln.lr (by unfold bk.Ord; simp [KR1, KR2]) ⟨by simp, by simp⟩ (fun y hy => by simp at hy; rcases hy with rfl | rfl <;> simp [KR1, KR2]) (by simp) now 5
  have HL15 : Hid (∀ (W : World) (X B T n1 n2 : Nat), KS w X B T ⟨5, 10, 2, 20, false, 1, 0, 16⟩ ⟨20, 2, 1⟩ [(n1, KR1), (n2, KR2)] [(n1, KR1), (n2, KR2)] W → Calls Try.prog 20 #[.pointer (some ⟨X, 0, none⟩), .pointer (some ⟨B, 0, none⟩), .int .i64 15, .int .i64 5] W (RetL W ([], 16, true))) := Lib.hid fun W X B T n1 n2 h => by have := HL W X B T n1 n2 15 h; rw [l15] at this; exact this
  have HL16 : Hid (∀ (W : World) (X B T n1 n2 : Nat), KS w X B T ⟨5, 10, 2, 20, false, 1, 0, 16⟩ ⟨20, 2, 1⟩ [(n1, KR1), (n2, KR2)] [(n1, KR1), (n2, KR2)] W → Calls Try.prog 20 #[.pointer (some ⟨X, 0, none⟩), .pointer (some ⟨B, 0, none⟩), .int .i64 16, .int .i64 5] W (RetL W ([(0, 10)], 0, false))) := Lib.hid fun W X B T n1 n2 h => by have := HL W X B T n1 n2 16 h; rw [l16] at this; exact this
  clear HL l15 l16 hh
  go_enter Try.func8, Try.ntmps8
  go_wp2_with (first
    | (go_at_call 9; (with_reducible refine (HN.out _).mono ?_); rintro e w1 ⟨rfl, x1, b1⟩; have X1 := Lib.hid x1; have B1 := Lib.hid b1; clear x1 b1)
    | (go_at_call 31; (with_reducible refine (HB.out _).mono ?_); rintro e w2 ⟨B, T, rfl, bk2, b2, hB, hT⟩; have hz1 := B1.out.size; have K2 := Lib.hid (show KS w w.heap.size B T (newR 5) ⟨0, 0, 0⟩ [] [] w2 from ⟨X1.out.later b2, bk2, B1.out.trans (b2.mono B1.out.size), Nat.le_refl _, fun k hk => (by simp [fp] at hk; rcases hk with rfl | rfl <;> omega), (by have := X1.out.lt; simp [fp]; omega)⟩); clear bk2 b2 hB hT hz1)
    | (go_at_call 32; (with_reducible refine (HS1.out _ _ _ _ K2.out).mono ?_); rintro e w3 ⟨n1, rfl, bk3, k3, hn3⟩; have K3 := Lib.hid (K2.out.sent bk3 k3 hn3); clear K2 bk3 k3 hn3)
    | (go_at_call 32; (with_reducible refine (HS2.out _ _ _ _ _ K3.out).mono ?_); rintro e w4 ⟨n2, rfl, bk4, k4, hn4⟩; have K4 := Lib.hid (K3.out.sent bk4 k4 hn4); clear K3 bk4 k4 hn4)
    | (go_at_call 19; (with_reducible refine (HC.out _ _ K4.out.x).mono ?_); rintro e w5 ⟨rfl, x5, k5⟩; have K5 := Lib.hid (K4.out.wrote x5 k5); clear K4 x5 k5)
    | (go_at_call 20; (with_reducible refine (HL15.out _ _ _ _ _ _ K5.out).mono ?_); rintro e w6 ⟨v6, rfl, o6, b6⟩; obtain ⟨a6, c6, rfl⟩ := own_form o6; have K6 := Lib.hid (K5.out.later b6); clear K5 b6 o6)
    | (go_at_call 20; (with_reducible refine (HL16.out _ _ _ _ _ _ K6.out).mono ?_); rintro e w7 ⟨v7, rfl, o7, b7⟩; obtain ⟨a7, c7, rfl⟩ := own_form o7; have K7 := Lib.hid (K6.out.later b7); clear K6 b7 o7)
    | (go_at_call 24; (with_reducible refine (rtt_q K7.out.x).below.mono ?_); rintro e w8 ⟨rfl, b8⟩; have K8 := Lib.hid (K7.out.later b8); clear K7 b8))
  go_ret
  exact ⟨rfl, K8.out.below⟩
theorem known_b {w0 w : World} (hb : Below w0.heap.size w0 w) : Calls Try.prog 8 #[] w fun x w' => x = .returned (.bool true) ∧ Below w0.heap.size w0 w' :=
  (known_any w).mono fun x w' ⟨h1, h2⟩ => ⟨h1, hb.trans (h2.mono hb.size)⟩
end Go.Proofs.Ytpoifoanigpncaa.rk
