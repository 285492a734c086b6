/-
  A buffer of one's own; the fixed calls of layer 21's law; BufferNone.
-/
import Derived.Test.YtjkjbhapkmamkaaBufT
namespace Go.Proofs.Ytjkjbhapkmamkaa.bf
open Go.RowKit aid mem sp
attribute [local go_sem ↓] Go.wp_at_zero Go.wp_at_succ
set_option linter.unusedVariables false
set_option linter.unusedSimpArgs false

/-- one of one's own -/
structure BS (w : World) (B : Nat) (g : Rg) (x : Bf) (W : World) : Prop where
  bf : BfAt W B g x
  below : Below w.heap.size w W
  own : ∀ b ∈ [B, g.b], w.heap.size ≤ b
section
variable {w W W' : World} {B : Nat} {g : Rg} {x x' : Bf} {v : Value} {e : Ending} (h : BS w B g x W)
include h
theorem BS.later (hb : Below W.heap.size W W') : BS w B g x W' := ⟨h.bf.later hb, h.below.trans (hb.mono h.below.size), h.own⟩
theorem BS.wrote (hr : RetW v B g x' W e W') : e = .returned v ∧ BS w B g x' W' := ⟨hr.1, hr.2.1, h.below.trans (hr.2.2.below h.own h.below.size), h.own⟩
theorem bs_write {a : Option Addr} {n cap : Nat} {p : List Int} (hp : SlA .u8 W a n cap p) (hd : ∀ y, a = some y → 0 < n → y.block ∉ [B, g.b]) :
    Calls Try.prog 11 #[.pointer (some ⟨B, 0, none⟩), .slice a n cap] W fun e w' => e = .returned (.int .i64 (wrE x n)) ∧ BS w B g (wrX x p) w' :=
  (write_any h.bf hp hd).mono fun e w' q => h.wrote q
/-- bytes of a new row -/
theorem bs_new (c : List Int) (hc : c.length ≤ maxLen) :
    Calls Try.prog 11 #[.pointer (some ⟨B, 0, none⟩), .slice (some ⟨W.heap.size, 0, none⟩) c.length c.length] (W.alloc (.cells (ints .u8 c).toArray 5)) fun e w' => e = .returned (.int .i64 (wrE x c.length)) ∧ BS w B g (wrX x c) w' :=
  bs_write (h.later (bal _)) (sl_new .u8 5 W c hc) (fun y hy _ hb => by
    injection hy with hy
    subst hy
    have := h.bf.lt _ hb
    dsimp only at this
    omega)
theorem bs_free (t : Int) : Calls Try.prog 12 #[.pointer (some ⟨B, 0, none⟩), .int .i64 t] W fun e w' => e = .returned (.int .i64 (frE x t)) ∧ BS w B g (frX x t) w' :=
  (free_any h.bf t).mono fun e w' q => h.wrote q
theorem bs_read (s : Int × Int) : Calls Try.prog 13 #[.pointer (some ⟨B, 0, none⟩), spV s] W fun e w' => ∃ a' n' cap', e = .returned (.tuple #[.slice a' n' cap', .int .i64 (rdE x s)]) ∧ RRow w' a' n' cap' (rdL x s) ∧ BS w B g x w' ∧ ∀ b ∈ blk a' cap', W.heap.size ≤ b ∧ b < w'.heap.size :=
  (read_any h.bf s).mono fun e w' ⟨a', n', cap', q1, q2, q3, q4⟩ => ⟨a', n', cap', q1, q2, h.later q3, fun b hb => ⟨q4 b hb, (q2.lt b hb).1⟩⟩
end
theorem new_bs {w0 w : World} (hb : Below w0.heap.size w0 w) (u m : Nat) (hu : u ≤ 4611686018427387904) (h1 : 1 ≤ m) (h2 : m ≤ 65536) : Calls Try.prog 7 #[.int .i64 u, .int .i64 m] w
    fun e w' => ∃ (B : Nat) (g : Rg), e = .returned (.tuple #[.pointer (some ⟨B, 0, none⟩), .int .i64 0]) ∧ BS w0 B g ⟨u, m, []⟩ w' ∧ ∀ b ∈ [B, g.b], w.heap.size ≤ b :=
  (new_ok u m hu h1 h2 w).mono fun e w' ⟨B, g, q1, q2, q3, q4⟩ => ⟨B, g, q1, ⟨q2, hb.trans (q3.mono hb.size), fun b hb' => Nat.le_trans hb.size (q4 b hb')⟩, q4⟩
set_option maxRecDepth 100000 in
set_option maxHeartbeats 2000000 in
theorem known_any (w : World) : Calls Try.prog 6 #[] w fun x w' => x = .returned (.bool true) ∧ Below w.heap.size w w' := by
  have HN := Lib.hid (show Calls Try.prog 7 #[.int .i64 5, .int .i64 4] w fun e w' => ∃ (B : Nat) (g : Rg), e = .returned (.tuple #[.pointer (some ⟨B, 0, none⟩), .int .i64 0]) ∧ BS w B g ⟨5, 4, []⟩ w' ∧ ∀ b ∈ [B, g.b], w.heap.size ≤ b from
    new_bs (Below.refl _ _) 5 4 (by decide) (by decide) (by decide))
  have HW1 := Lib.hid (fun (B : Nat) (g : Rg) W (h : BS w B g ⟨5, 4, []⟩ W) => show Calls Try.prog 11 #[.pointer (some ⟨B, 0, none⟩), .slice (some ⟨W.heap.size, 0, none⟩) 3 3] (W.alloc (.cells #[.int .u8 1, .int .u8 2, .int .u8 3] 5)) fun e w' => e = .returned (.int .i64 0) ∧ BS w B g ⟨5, 4, [1, 2, 3]⟩ w' from bs_new h [1, 2, 3] (by decide))
  have HF := Lib.hid (fun (B : Nat) (g : Rg) W (h : BS w B g ⟨5, 4, [1, 2, 3]⟩ W) => show Calls Try.prog 12 #[.pointer (some ⟨B, 0, none⟩), .int .i64 7] W fun e w' => e = .returned (.int .i64 0) ∧ BS w B g ⟨7, 4, [3]⟩ w' from bs_free h 7)
  have HW2 := Lib.hid (fun (B : Nat) (g : Rg) W (h : BS w B g ⟨7, 4, [3]⟩ W) => show Calls Try.prog 11 #[.pointer (some ⟨B, 0, none⟩), .slice (some ⟨W.heap.size, 0, none⟩) 3 3] (W.alloc (.cells #[.int .u8 4, .int .u8 5, .int .u8 6] 5)) fun e w' => e = .returned (.int .i64 0) ∧ BS w B g ⟨7, 4, [3, 4, 5, 6]⟩ w' from bs_new h [4, 5, 6] (by decide))
  have HR := Lib.hid (fun (B : Nat) (g : Rg) W (h : BS w B g ⟨7, 4, [3, 4, 5, 6]⟩ W) => show Calls Try.prog 13 #[.pointer (some ⟨B, 0, none⟩), .agg #[.int .i64 7, .int .i64 11]] W fun e w' => ∃ a' n' cap', e = .returned (.tuple #[.slice a' n' cap', .int .i64 0]) ∧ RRow w' a' n' cap' [3, 4, 5, 6] ∧ BS w B g ⟨7, 4, [3, 4, 5, 6]⟩ w' ∧ ∀ b ∈ blk a' cap', W.heap.size ≤ b ∧ b < w'.heap.size from bs_read h (7, 11))
  have HW3 := Lib.hid (fun (B : Nat) (g : Rg) W (h : BS w B g ⟨7, 4, [3, 4, 5, 6]⟩ W) => show Calls Try.prog 11 #[.pointer (some ⟨B, 0, none⟩), .slice (some ⟨W.heap.size, 0, none⟩) 1 1] (W.alloc (.cells #[.int .u8 7] 5)) fun e w' => e = .returned (.int .i64 4) ∧ BS w B g ⟨7, 4, [3, 4, 5, 6]⟩ w' from bs_new h [7] (by decide))
  have HSM := Lib.hid (fun W (a : Option Addr) (n cap : Nat) (h : RRow W a n cap [3, 4, 5, 6]) => show Calls Try.prog 14 #[.slice a n cap, .slice (some ⟨W.heap.size, 0, none⟩) 4 4] (W.alloc (.cells #[.int .u8 3, .int .u8 4, .int .u8 5, .int .u8 6] 5)) fun e w' => e = .returned (.bool true) ∧ Below W.heap.size W w' from by
    have b1 := bal (w := W) (.cells #[.int .u8 3, .int .u8 4, .int .u8 5, .int .u8 6] 5)
    exact (same_b (h.later b1) (new_row (l := [3, 4, 5, 6]) (n := 4) (heap_alloc_new W _) rfl (by decide))).below.mono fun e w' ⟨q1, q2⟩ => ⟨q1, b1.trans (q2.mono b1.size)⟩)
  go_enter Try.func6, Try.ntmps6
  go_upto_region 5 with (first
    | (go_at_call 7; (with_reducible refine HN.out.mono ?_); rintro e w1 ⟨B, g, rfl, S, _⟩)
    | (go_at_call 11; first
      | ((with_reducible refine (HW1.out B g _ S).mono ?_); clear S; rintro e w2 ⟨rfl, S⟩)
      | ((with_reducible refine (HW2.out B g _ S).mono ?_); clear S; rintro e w3 ⟨rfl, S⟩))
    | (go_at_call 12; (with_reducible refine (HF.out B g _ S).mono ?_); clear S; rintro e w4 ⟨rfl, S⟩)
    | (go_at_call 13; (with_reducible refine (HR.out B g _ S).mono ?_); clear S; rintro e w5 ⟨a', n', cap', rfl, HRW, S, _⟩))
  go_wp2_with (first
    | (go_at_call 14; (with_reducible refine (HSM.out _ a' n' cap' HRW).mono ?_); rintro e w6 ⟨rfl, hb6⟩; have S6 := S.later hb6; clear S)
    | (go_at_call 11; (with_reducible refine (HW3.out B g _ S6).mono ?_); clear S6; rintro e w7 ⟨rfl, S⟩))
  go_ret
  exact ⟨rfl, S.below⟩
theorem known_b {w0 w : World} (hb : Below w0.heap.size w0 w) : Calls Try.prog 6 #[] w fun x w' => x = .returned (.bool true) ∧ Below w0.heap.size w0 w' :=
  (known_any w).mono fun x w' ⟨h1, h2⟩ => ⟨h1, hb.trans (h2.mono hb.size)⟩
theorem known_w (w : World) : Calls Try.prog 6 #[] w fun x w' => x = .returned (.bool true) ∧ Below w.heap.size w w' := known_any w
set_option maxHeartbeats 2000000 in
theorem walk_BufferNone (w : World) (a : Option Addr) (len cap : Nat) (zs : List Int) (hrow : IsRow .u8 w a len cap zs) (n : Int) (hn : -9223372036854775808 ≤ n ∧ n ≤ 9223372036854775807) :
    Calls Try.prog 5 #[.slice a len cap, .int .i64 n] w fun x w' => x = .returned (.bool true) ∧ Below w.heap.size w w' := by
  have hb := Below.refl w.heap.size w
  have HN := Lib.hid (fun W => none_q W)
  go_enter Try.func5, Try.ntmps5
  go_wp2_with (first
    | (go_at_call 6; (with_reducible refine (known_b hb).mono ?_); clear hb; rintro e w1 ⟨rfl, hb⟩)
    | (go_at_call 13; (with_reducible refine (read_nil (n, n) _).mono ?_); rintro e w1 ⟨rfl, h2⟩; replace hb := hb.trans (h2.mono hb.size); clear h2)
    | (go_at_call 11; (with_reducible refine ((HN.out _).2.2.2.2.2 _).below.mono ?_); rintro e w1 ⟨rfl, h2⟩; replace hb := hb.trans (h2.mono hb.size); clear h2)
    | (go_at_call 12; (with_reducible refine ((HN.out _).2.2.2.2.1 _).below.mono ?_); rintro e w1 ⟨rfl, h2⟩; replace hb := hb.trans (h2.mono hb.size); clear h2)
    | (go_at_call 16; (with_reducible refine (HN.out _).1.below.mono ?_); rintro e w1 ⟨rfl, h2⟩; replace hb := hb.trans (h2.mono hb.size); clear h2)
    | (go_at_call 15; (with_reducible refine (HN.out _).2.1.below.mono ?_); rintro e w1 ⟨rfl, h2⟩; replace hb := hb.trans (h2.mono hb.size); clear h2)
    | (go_at_call 17; (with_reducible refine (HN.out _).2.2.1.below.mono ?_); rintro e w1 ⟨rfl, h2⟩; replace hb := hb.trans (h2.mono hb.size); clear h2)
    | (go_at_call 10; (with_reducible refine (HN.out _).2.2.2.1.below.mono ?_); rintro e w1 ⟨rfl, h2⟩; replace hb := hb.trans (h2.mono hb.size); clear h2))
  go_ret
  exact ⟨rfl, hb⟩
end Go.Proofs.Ytjkjbhapkmamkaa.bf
