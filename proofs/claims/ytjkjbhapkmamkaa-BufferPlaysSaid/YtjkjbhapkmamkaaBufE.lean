/-
  The law's equal.
-/
import Derived.Test.YtjkjbhapkmamkaaBufD
namespace Go.Proofs.Ytjkjbhapkmamkaa.bf
open Go.RowKit aid mem sp
attribute [local go_sem ↓] Go.wp_at_zero Go.wp_at_succ
set_option linter.unusedVariables false
set_option linter.unusedSimpArgs false

/-- the buffer, the document's in a box, its row, what was read -/
structure ES (w : World) (B : Nat) (g : Rg) (x : Bf) (a : Option Addr) (n cap : Nat) (a2 : Option Addr) (n2 c2 : Nat) (W : World) : Prop where
  bf : BfAt W B g x
  b0 : W.heap[w.heap.size]? = some (rO x a n cap)
  row : RRow W a n cap x.l
  got : RRow W a2 n2 c2 x.l
  below : Below w.heap.size w W
theorem ES.later {w W W' : World} {B : Nat} {g : Rg} {x : Bf} {a a2 : Option Addr} {n cap n2 c2 : Nat} (h : ES w B g x a n cap a2 n2 c2 W) (hb : Below W.heap.size W W') : ES w B g x a n cap a2 n2 c2 W' :=
  ⟨h.bf.later hb, (hb.block _ (lt_of_block h.b0)).trans h.b0, h.row.later hb, h.got.later hb, h.below.trans (hb.mono h.below.size)⟩
theorem rd_all (x : Bf) (ho : Ok x) : rdE x ((x.una : Int), (x.una : Int) + (x.l.length : Int)) = 0 ∧ rdL x ((x.una : Int), (x.una : Int) + (x.l.length : Int)) = x.l := by
  have := ho.e
  have hB : rdB x ((x.una : Int), (x.una : Int) + (x.l.length : Int)) = true := rdB_iff.2 (by dsimp only; omega)
  unfold rdE rdL
  rw [if_pos hB, if_pos hB]
  refine ⟨rfl, ?_⟩
  dsimp only
  rw [show ((x.una : Int) + (x.l.length : Int) - (x.una : Int)).toNat = x.l.length by omega, show ((x.una : Int) - (x.una : Int)).toNat = 0 by omega, List.take_length, List.drop_zero]
set_option maxRecDepth 100000 in
set_option maxHeartbeats 4000000 in
theorem equal_any {w : World} {B : Nat} {g : Rg} {x : Bf} {a : Option Addr} {n cap : Nat} (h : BfAt w B g x) (hr : RRow w a n cap x.l) :
    Calls Try.prog 9 #[.pointer (some ⟨B, 0, none⟩), rV x a n cap] w fun e w' => e = .returned (.bool true) ∧ Below w.heap.size w w' := by
  have hlen := rrow_len hr
  have hoe := h.ok.e; have hon := h.ok.n; have hom := h.ok.m1
  have hw1 : IntKind.i64.wrap ((x.una : Int) + (n : Int)) = (x.una : Int) + (n : Int) := IntWalk.i64_in _ (by omega)
  have hw2 : IntKind.i64.wrap ((x.most : Int) - (n : Int)) = (x.most : Int) - (n : Int) := IntWalk.i64_in _ (by omega)
  have HRD := Lib.hid (fun W (q : BfAt W B g x) => show Calls Try.prog 13 #[.pointer (some ⟨B, 0, none⟩), spV ((x.una : Int), (x.una : Int) + (n : Int))] W fun e w' => ∃ a' n' cap', e = .returned (.tuple #[.slice a' n' cap', .int .i64 0]) ∧ RRow w' a' n' cap' x.l ∧ Below W.heap.size W w' ∧ ∀ b ∈ blk a' cap', W.heap.size ≤ b from by
    have := read_any q ((x.una : Int), (x.una : Int) + (x.l.length : Int))
    rw [(rd_all x q.ok).1, (rd_all x q.ok).2, hlen] at this
    exact this)
  have HU := Lib.hid (fun W (q : BfAt W B g x) => (una_q q).below)
  have HEn := Lib.hid (fun W (q : BfAt W B g x) => show Calls Try.prog 15 #[.pointer (some ⟨B, 0, none⟩)] W fun e w' => e = .returned (.int .i64 ((x.una : Int) + (n : Int))) ∧ Below W.heap.size W w' from by rw [← hlen]; exact (end_q q).below)
  have HRo := Lib.hid (fun W (q : BfAt W B g x) => show Calls Try.prog 17 #[.pointer (some ⟨B, 0, none⟩)] W fun e w' => e = .returned (.int .i64 ((x.most : Int) - (n : Int))) ∧ Below W.heap.size W w' from by rw [← hlen]; exact room_any q)
  have HSM := Lib.hid (fun W a1 n1 c1 a2 n2 c2 (q1 : RRow W a1 n1 c1 x.l) (q2 : RRow W a2 n2 c2 x.l) => (same_b q1 q2).below)
  have HB1 := Lib.hid (bal (w := w) (rO x a n cap))
  have HY := Lib.hid (heap_alloc_new w (rO x a n cap))
  have HH := Lib.hid (And.intro (h.later HB1.out) (hr.later HB1.out))
  clear h hr hlen hoe hon hom
  obtain ⟨r0, r1, r2⟩ := st_of HY.out
  go_enter Try.func9, Try.ntmps9
  go_upto_region 2 with (go_at_call 13; (with_reducible refine (HRD.out _ HH.out.1).mono ?_); rintro e w1 ⟨a2, n2, c2, rfl, q1, q2, _⟩; have S0 : ES w B g x a n cap a2 n2 c2 w1 := ⟨HH.out.1.later q2, (q2.block _ (lt_of_block HY.out)).trans HY.out, HH.out.2.later q2, q1, HB1.out.trans (q2.mono HB1.out.size)⟩)
  clear q1 q2 r0 r1 r2 HH HY HB1
  have S := S0.later (Below.refl _ _).drew
  clear S0
  have P0 := st_of S.b0
  go_region_held3 (fun W => St w.heap.size x a n cap W) (first | with_reducible exact P1 | with_reducible exact P0 | go_keep)
    (first
      | (go_at_call 16; (with_reducible refine (HU.out _ S.bf).mono ?_); rintro e w2 ⟨rfl, hb⟩; have S2 := S.later hb; clear S hb; have S := S2; clear S2; have P1 := st_of S.b0)
      | (go_at_call 15; (with_reducible refine (HEn.out _ S.bf).mono ?_); rintro e w2 ⟨rfl, hb⟩; have S2 := S.later hb; clear S hb; have S := S2; clear S2; have P1 := st_of S.b0)
      | (go_at_call 17; (with_reducible refine (HRo.out _ S.bf).mono ?_); rintro e w2 ⟨rfl, hb⟩; have S2 := S.later hb; clear S hb; have S := S2; clear S2; have P1 := st_of S.b0)
      | (go_at_call 14; (with_reducible refine (HSM.out _ a2 n2 c2 a n cap S.got S.row).mono ?_); rintro e w2 ⟨rfl, hb⟩; have S2 := S.later hb; clear S hb; have S := S2; clear S2; have P1 := st_of S.b0))
  go_wp2_with fail
  go_ret
  exact ⟨rfl, S.below⟩
end Go.Proofs.Ytjkjbhapkmamkaa.bf
