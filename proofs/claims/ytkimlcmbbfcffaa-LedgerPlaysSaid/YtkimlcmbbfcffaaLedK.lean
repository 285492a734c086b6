/-
  A ledger of one's own; the fixed calls of layer 19's law; LedgerNone.
-/
import Derived.Test.YtkimlcmbbfcffaaLedT
namespace Go.Proofs.Ytkimlcmbbfcffaa.lg
open Go.RowKit Go.Shelf aid mem sp rn
attribute [local go_sem ↓] Go.wp_at_zero Go.wp_at_succ
set_option linter.unusedVariables false
set_option linter.unusedSimpArgs false

/-- one of one's own; the blocks F are somebody else's: they lie as they lay in V -/
def LF (w0 : World) (F : Nat → Prop) (V : World) (B : Nat) (x : Ld) (w : World) : Prop :=
  ∃ S, Ow B x S w ∧ Ok x ∧ Below w0.heap.size w0 w ∧ (∀ b ∈ B :: S, w0.heap.size ≤ b ∧ ¬ F b) ∧ V.heap.size ≤ w.heap.size ∧ ∀ b, F b → b < V.heap.size ∧ w.heap[b]? = V.heap[b]?
abbrev noF : Nat → Prop := fun _ => False
theorem LF.below {w0 w V : World} {F : Nat → Prop} {B : Nat} {x : Ld} (h : LF w0 F V B x w) : Below w0.heap.size w0 w := by obtain ⟨S, _, _, h, _⟩ := h; exact h
theorem LF.ok {w0 w V : World} {F : Nat → Prop} {B : Nat} {x : Ld} (h : LF w0 F V B x w) : Ok x := by obtain ⟨S, _, h, _⟩ := h; exact h
theorem LF.heap {w0 w V : World} {F : Nat → Prop} {B : Nat} {x : Ld} (h : LF w0 F V B x w) {b : Nat} {o : Obj} (hb : F b) (ho : V.heap[b]? = some o) : w.heap[b]? = some o := by
  obtain ⟨S, _, _, _, _, _, h⟩ := h
  exact (h b hb).2.trans ho
theorem LF.later {w0 w w' V : World} {F : Nat → Prop} {B : Nat} {x : Ld} (h : LF w0 F V B x w) (hb : Below w.heap.size w w') : LF w0 F V B x w' := by
  obtain ⟨S, h1, h2, h3, h4, h5, h6⟩ := h
  exact ⟨S, h1.later hb, h2, h3.trans (hb.mono h3.size), h4, Nat.le_trans h5 hb.size, fun b hf => ⟨(h6 b hf).1, (hb.block b (by have := (h6 b hf).1; omega)).trans (h6 b hf).2⟩⟩
theorem LF.kept {w0 w w' V : World} {F : Nat → Prop} {B : Nat} {x : Ld} {T : List Nat} (h : LF w0 F V B x w) (hk : Kept T w w') (hT : ∀ b ∈ T, w0.heap.size ≤ b) (ht : ∀ S, Ow B x S w → ∀ b ∈ B :: S, b ∉ T) (hF : ∀ b, F b → b ∉ T) : LF w0 F V B x w' := by
  obtain ⟨S, h1, h2, h3, h4, h5, h6⟩ := h
  exact ⟨S, h1.keep hk (ht S h1), h2, h3.trans (hk.below hT h3.size), h4, Nat.le_trans h5 hk.size, fun b hf => ⟨(h6 b hf).1, (hk.block b (by have := (h6 b hf).1; omega) (hF b hf)).trans (h6 b hf).2⟩⟩
/-- others, some of them new -/
theorem LF.ext {w0 w w' V : World} {F F' : Nat → Prop} {B : Nat} {x : Ld} (h : LF w0 F V B x w) (hb : Below w.heap.size w w') (hF : ∀ b, F' b → F b ∨ (w.heap.size ≤ b ∧ b < w'.heap.size)) : LF w0 F' w' B x w' := by
  obtain ⟨S, h1, h2, h3, h4, h5, h6⟩ := h
  refine ⟨S, h1.later hb, h2, h3.trans (hb.mono h3.size), fun b hb' => ⟨(h4 b hb').1, fun hf => ?_⟩, Nat.le_refl _, fun b hf => ⟨?_, rfl⟩⟩
  · rcases hF b hf with q | q
    · exact (h4 b hb').2 q
    · have := h1.lt b hb'; omega
  · rcases hF b hf with q | q
    · have := (h6 b q).1; have := hb.size; omega
    · exact q.2
theorem LF.chg {w0 w w' V : World} {F : Nat → Prop} {B : Nat} {x' : Ld} {S : List Nat} {v : Value} {e : Ending} (h3 : Below w0.heap.size w0 w) (h4 : ∀ b ∈ B :: S, w0.heap.size ≤ b ∧ ¬ F b) (h5 : V.heap.size ≤ w.heap.size) (h6 : ∀ b, F b → b < V.heap.size ∧ w.heap[b]? = V.heap[b]?) (ho : Ok x') (h : RetL v B x' S w e w') : e = .returned v ∧ LF w0 F V B x' w' := by
  obtain ⟨r1, S', r2, r3, r4⟩ := h
  refine ⟨r1, S', r2, ho, h3.trans (r3.below (fun b hb => (h4 b hb).1) h3.size), fun b hb => ?_, Nat.le_trans h5 r3.size, fun b hf => ⟨(h6 b hf).1, (r3.block b (by have := (h6 b hf).1; omega) (fun e => (h4 b e).2 hf)).trans (h6 b hf).2⟩⟩
  rcases List.mem_cons.1 hb with rfl | hb
  · exact h4 _ (by simp)
  · rcases r4 b hb with q | q
    · exact h4 b (by simp [q])
    · exact ⟨by have := h3.size; omega, fun hf => by have := (h6 b hf).1; omega⟩
theorem new_ls {w0 w : World} (hb : Below w0.heap.size w0 w) : Calls Try.prog 8 #[] w fun e w' => ∃ B, e = .returned (.pointer (some ⟨B, 0, none⟩)) ∧ LF w0 noF w B zL w' :=
  (new_any w).mono fun e w' ⟨h1, h2, h3⟩ => ⟨_, h1, [], h2, ⟨by decide, fun p hp => by simp at hp⟩, hb.trans (h3.mono hb.size), fun b hb' => by simp at hb'; subst hb'; exact ⟨hb.size, fun h => h⟩, h3.size, fun b h => h.elim⟩
section
variable {w0 w V : World} {F : Nat → Prop} {B : Nat} {x : Ld} (h : LF w0 F V B x w)
include h
theorem open_ls : Calls Try.prog 11 #[.pointer (some ⟨B, 0, none⟩)] w fun e w' => e = .returned (.bool x.op) ∧ LF w0 F V B x w' := by
  obtain ⟨S, h1, h2⟩ := h
  exact (open_q h1).below.mono fun e w' ⟨q1, q2⟩ => ⟨q1, LF.later ⟨S, h1, h2⟩ q2⟩
theorem pending_ls : Calls Try.prog 12 #[.pointer (some ⟨B, 0, none⟩)] w fun e w' => e = .returned (.int .i64 x.l.length) ∧ LF w0 F V B x w' := by
  obtain ⟨S, h1, h2⟩ := h
  exact (pending_q h1).below.mono fun e w' ⟨q1, q2⟩ => ⟨q1, LF.later ⟨S, h1, h2⟩ q2⟩
theorem cut_ls (c t : Int) : Calls Try.prog 16 #[.pointer (some ⟨B, 0, none⟩), .int .i64 c, .int .i64 t] w fun e w' => e = .returned (.bool (!x.op)) ∧ LF w0 F V B (cutX x c t) w' := by
  obtain ⟨S, h1, h2, h3, h4, h5, h6⟩ := h
  exact (cut_any h1 c t).mono fun e w' q => LF.chg h3 h4 h5 h6 (h2.cut c t) q
theorem again_ls (s : Sp) : Calls Try.prog 14 #[.pointer (some ⟨B, 0, none⟩), spV s] w fun e w' => e = .returned (.int .i64 (againE x s)) ∧ LF w0 F V B (againX x s) w' := by
  obtain ⟨S, h1, h2, h3, h4, h5, h6⟩ := h
  exact (again_any h1 h2.n s).mono fun e w' q => LF.chg h3 h4 h5 h6 (h2.again s) q
theorem dup_ls (s : Sp) : Calls Try.prog 15 #[.pointer (some ⟨B, 0, none⟩), spV s] w fun e w' => e = .returned (.bool (hasB s x.l)) ∧ LF w0 F V B (dupX x s) w' := by
  obtain ⟨S, h1, h2, h3, h4, h5, h6⟩ := h
  exact (dup_any h1 h2.n s).mono fun e w' q => LF.chg h3 h4 h5 h6 (h2.dup s) q
theorem undo_ls : Calls Try.prog 17 #[.pointer (some ⟨B, 0, none⟩)] w fun e w' => e = .returned (fV x (undoB x)) ∧ LF w0 F V B (undoX x) w' := by
  obtain ⟨S, h1, h2, h3, h4, h5, h6⟩ := h
  exact (undo_any h1 h2.n).mono fun e w' q => LF.chg h3 h4 h5 h6 h2.undo q
theorem force_ls : Calls Try.prog 19 #[.pointer (some ⟨B, 0, none⟩)] w fun e w' => e = .returned (fV x x.op) ∧ LF w0 F V B (forceX x) w' := by
  obtain ⟨S, h1, h2, h3, h4, h5, h6⟩ := h
  exact (force_any h1).mono fun e w' q => LF.chg h3 h4 h5 h6 h2.force q
theorem spilt_ls : Calls Try.prog 13 #[.pointer (some ⟨B, 0, none⟩)] w fun e w' => e = .returned (.bool x.sp) ∧ LF w0 F V B x w' := by
  obtain ⟨S, h1, h2⟩ := h
  exact (spilt_q h1).below.mono fun e w' ⟨q1, q2⟩ => ⟨q1, LF.later ⟨S, h1, h2⟩ q2⟩
end
theorem al1 (w : World) (o : Obj) : Below w.heap.size w (w.alloc o) := bal o
set_option maxRecDepth 100000 in
set_option maxHeartbeats 1000000 in
theorem known_any (w : World) : Calls Try.prog 7 #[] w fun x w' => x = .returned (.bool true) ∧ Below w.heap.size w w' := by
  have M0 := Lib.hid (show cutX zL 100 50 = ⟨true, 100, 50, [], false⟩ from rfl)
  have M1 := Lib.hid (show againX ⟨true, 100, 50, [], false⟩ (0, 10) = ⟨true, 100, 50, [(0, 10)], false⟩ from rfl)
  have M1e := Lib.hid (show againE ⟨true, 100, 50, [], false⟩ (0, 10) = 0 from by decide)
  have M2 := Lib.hid (show undoX ⟨true, 100, 50, [(0, 10)], false⟩ = ⟨true, 100, 50, [(0, 10)], false⟩ from rfl)
  have M2v := Lib.hid (show fV ⟨true, 100, 50, [(0, 10)], false⟩ (undoB ⟨true, 100, 50, [(0, 10)], false⟩) = .tuple #[.int .i64 0, .int .i64 0, .bool false] from rfl)
  have M3 := Lib.hid (show dupX ⟨true, 100, 50, [(0, 10)], false⟩ (0, 10) = ⟨true, 100, 50, [], false⟩ from by unfold dupX; rw [if_pos (by decide)]; rfl)
  have M3b := Lib.hid (show hasB (0, 10) [(0, 10)] = true from by decide)
  have M4 := Lib.hid (show undoX ⟨true, 100, 50, [], false⟩ = ⟨false, 100, 50, [], false⟩ from rfl)
  have M4v := Lib.hid (show fV ⟨true, 100, 50, [], false⟩ (undoB ⟨true, 100, 50, [], false⟩) = .tuple #[.int .i64 100, .int .i64 50, .bool true] from rfl)
  go_enter Try.func7, Try.ntmps7
  go_upto_region 2 with (go_at_call 8; (with_reducible refine (new_ls (Below.refl _ _)).mono ?_); rintro e w1 ⟨B, rfl, S⟩)
  have HB0 := Lib.hid (sp_new w1 (0, 10))
  replace S := S.ext (F' := fun b => b = w1.heap.size) (al1 w1 (.cells #[.int .i64 0, .int .i64 10] 32)) (fun b hb => .inr ⟨by omega, by subst hb; exact HB0.out.lt⟩)
  go_upto_region 3 with fail
  generalize w1.alloc (.cells #[.int .i64 0, .int .i64 10] 32) = V at *
  generalize w1.heap.size = X at *
  have HC := Lib.hid (fun (y : Ld) (W : World) (h : LF w (fun b => b = X) V B y W) => show W.cell? ⟨X, 0, none⟩ = some (.int .i64 0) ∧ W.cell? ⟨X, 1, none⟩ = some (.int .i64 10) from by
    have := h.heap (b := X) rfl HB0.out
    exact ⟨cofr this 0 _ rfl, cofr this 1 _ rfl⟩)
  obtain ⟨c0, c1⟩ := HC.out _ _ S
  go_wp2_with (first
    | (go_at_call 16; (with_reducible refine (cut_ls S _ _).mono ?_); clear S c0 c1; rintro e w1 ⟨rfl, S⟩; rw [M0.out] at S; obtain ⟨c0, c1⟩ := HC.out _ _ S)
    | (go_at_call 14; (with_reducible refine (again_ls S (0, 10)).mono ?_); clear S c0 c1; rintro e w1 ⟨rfl, S⟩; rw [M1.out] at S; rw [M1e.out]; obtain ⟨c0, c1⟩ := HC.out _ _ S)
    | (go_at_call 15; (with_reducible refine (dup_ls S (0, 10)).mono ?_); clear S c0 c1; rintro e w1 ⟨rfl, S⟩; rw [M3.out] at S; rw [M3b.out]; obtain ⟨c0, c1⟩ := HC.out _ _ S)
    | (go_at_call 17; (with_reducible refine (undo_ls S).mono ?_); clear S c0 c1; rintro e w1 ⟨rfl, S⟩; (first | (rw [M2.out] at S; rw [M2v.out]) | (rw [M4.out] at S; rw [M4v.out])); obtain ⟨c0, c1⟩ := HC.out _ _ S)
    | (go_at_call 11; (with_reducible refine (open_ls S).mono ?_); clear S c0 c1; rintro e w1 ⟨rfl, S⟩; dsimp only))
  go_ret
  exact ⟨rfl, S.below⟩
theorem known_b {w0 w : World} (hb : Below w0.heap.size w0 w) : Calls Try.prog 7 #[] w fun x w' => x = .returned (.bool true) ∧ Below w0.heap.size w0 w' :=
  (known_any w).mono fun x w' ⟨h1, h2⟩ => ⟨h1, hb.trans (h2.mono hb.size)⟩
theorem known_ls {w0 w V : World} {F : Nat → Prop} {B : Nat} {x : Ld} (h : LF w0 F V B x w) : Calls Try.prog 7 #[] w fun e w' => e = .returned (.bool true) ∧ LF w0 F V B x w' :=
  (known_any w).mono fun e w' ⟨h1, h2⟩ => ⟨h1, h.later h2⟩
set_option maxHeartbeats 2000000 in
theorem walk_LedgerNone (s : Sp) (n : Int) (hn : -9223372036854775808 ≤ n ∧ n ≤ 9223372036854775807) (w : World) : Calls Try.prog 6 #[spV s, .int .i64 n] w fun x w' => x = .returned (.bool true) ∧ Below w.heap.size w w' := by
  have HN := Lib.hid (fun W => none_q W)
  have HX := Lib.hid (sp_new w s)
  have hb := bal (w := w) (.cells #[.int .i64 s.1, .int .i64 s.2] 32)
  have HB2 := Lib.hid (fun W (h : Below w.heap.size w W) (q : SpAt W w.heap.size s) => (And.intro q.c0 q.c1))
  have q := HX.out
  obtain ⟨c0, c1⟩ := HB2.out _ hb q
  go_enter Try.func6, Try.ntmps6
  go_wp2_with (first
    | (go_at_call 7; (with_reducible refine (known_any _).mono ?_); rintro e w1 ⟨rfl, h2⟩; replace q := q.later h2; replace hb := hb.trans (h2.mono hb.size); clear h2 c0 c1; obtain ⟨c0, c1⟩ := HB2.out _ hb q)
    | (go_at_call 17; (with_reducible refine (none_undo _).mono ?_); rintro e w1 ⟨rfl, h2⟩; replace q := q.later h2; replace hb := hb.trans (h2.mono hb.size); clear h2 c0 c1; obtain ⟨c0, c1⟩ := HB2.out _ hb q)
    | (go_at_call 19; (with_reducible refine (none_force _).mono ?_); rintro e w1 ⟨rfl, h2⟩; replace q := q.later h2; replace hb := hb.trans (h2.mono hb.size); clear h2 c0 c1; obtain ⟨c0, c1⟩ := HB2.out _ hb q)
    | (go_at_call 16; (with_reducible refine ((HN.out _).2.2.2.2 _ _).below.mono ?_); rintro e w1 ⟨rfl, h2⟩; replace q := q.later h2; replace hb := hb.trans (h2.mono hb.size); clear h2 c0 c1; obtain ⟨c0, c1⟩ := HB2.out _ hb q)
    | (go_at_call 14; (with_reducible refine (none_again _ _).mono ?_); rintro e w1 ⟨rfl, h2⟩; replace q := q.later h2; replace hb := hb.trans (h2.mono hb.size); clear h2 c0 c1; obtain ⟨c0, c1⟩ := HB2.out _ hb q)
    | (go_at_call 15; (with_reducible refine (none_dup _ _).mono ?_); rintro e w1 ⟨rfl, h2⟩; replace q := q.later h2; replace hb := hb.trans (h2.mono hb.size); clear h2 c0 c1; obtain ⟨c0, c1⟩ := HB2.out _ hb q)
    | (go_at_call 11; (with_reducible refine (HN.out _).1.below.mono ?_); rintro e w1 ⟨rfl, h2⟩; replace q := q.later h2; replace hb := hb.trans (h2.mono hb.size); clear h2 c0 c1; obtain ⟨c0, c1⟩ := HB2.out _ hb q)
    | (go_at_call 12; (with_reducible refine (HN.out _).2.2.1.below.mono ?_); rintro e w1 ⟨rfl, h2⟩; replace q := q.later h2; replace hb := hb.trans (h2.mono hb.size); clear h2 c0 c1; obtain ⟨c0, c1⟩ := HB2.out _ hb q)
    | (go_at_call 13; (with_reducible refine (HN.out _).2.1.below.mono ?_); rintro e w1 ⟨rfl, h2⟩; replace q := q.later h2; replace hb := hb.trans (h2.mono hb.size); clear h2 c0 c1; obtain ⟨c0, c1⟩ := HB2.out _ hb q)
    | (go_at_call 9; (with_reducible refine (HN.out _).2.2.2.1.below.mono ?_); rintro e w1 ⟨rfl, h2⟩; replace q := q.later h2; replace hb := hb.trans (h2.mono hb.size); clear h2 c0 c1; obtain ⟨c0, c1⟩ := HB2.out _ hb q))
  go_ret
  exact ⟨rfl, hb⟩
end Go.Proofs.Ytkimlcmbbfcffaa.lg
