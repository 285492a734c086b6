/-
  Package ledger: drop, Dup, Clone.
-/
import Derived.Test.YtkimlcmbbfcffaaLedB
namespace Go.Proofs.Ytkimlcmbbfcffaa.lg
open Go.RowKit Go.Shelf aid mem sp rn
attribute [local go_sem ↓] Go.wp_at_zero Go.wp_at_succ
set_option linter.unusedVariables false
set_option linter.unusedSimpArgs false

set_option maxRecDepth 100000 in
set_option maxHeartbeats 4000000 in
theorem drop_any {w : World} {B : Nat} {x : Ld} {S : List Nat} (h : Ow B x S w) (hn : x.l.length ≤ 256) {X : Nat} {s : Sp} (hs : SpAt w X s) :
    Calls Try.prog 26 #[.pointer (some ⟨B, 0, none⟩), .func (.func 27) #[] #[.pointer (some ⟨X, 0, none⟩)]] w (RetL (.bool (hasB s x.l)) B (dupX x s) S w) := by
  obtain ⟨a, n, cap, h, rfl⟩ := h
  have hlen := h.len
  have HI := Lib.hid (index_any h.row hs (by omega))
  have c3 := h.cs.2.2.2.1
  have HA := Lib.hid h
  have hle := h.row.le
  have hmost := h.row.most
  unfold maxLen at hmost
  unfold RetX at HI
  clear hs
  cases hB : hasB s x.l with
  | false =>
    rw [hB] at HI
    rw [if_neg (by simp)] at HI
    have HX : Hid (dupX x s = x) := Lib.hid (by unfold dupX; rw [if_neg (by rw [hB]; simp)])
    rw [HX.out]
    clear h hB HX hlen
    go_enter Try.func26, Try.ntmps26
    go_wp2_with (go_at_call 32; go_must (with_reducible refine HI.out.mono ?_); rintro e w2 ⟨rfl, hb2⟩)
    go_ret
    exact RetL.stay ⟨a, n, cap, HA.out.later hb2, rfl⟩ (Kept.of_below hb2 (Nat.le_refl _) _)
  | true =>
    rw [hB] at HI
    rw [if_pos rfl] at HI
    have HX : Hid (dupX x s = ⟨x.op, x.cw, x.th, x.l.take (idx s x.l) ++ x.l.drop (idx s x.l + 1), x.sp⟩) := Lib.hid (by unfold dupX; rw [if_pos hB]; rfl)
    rw [HX.out]
    have hk : idx s x.l < n := by rw [← hlen]; exact of_decide_eq_true hB
    clear hB HX
    generalize idx s x.l = k at *
    obtain ⟨g, off, rfl, _⟩ := row_cells h.row (by omega)
    obtain ⟨hs1, hr1⟩ := slice_head h.row k (by omega)
    obtain ⟨a2, hs2, hr2⟩ := slice_tail h.row k hk
    have HR1 := Lib.hid hr1
    have HR2 := Lib.hid hr2
    have HS1 := Lib.hid hs1
    have HS2 := Lib.hid hs2
    clear h hr1 hr2 hs1 hs2
    obtain ⟨i0, hi, hz0, hz1, hz2⟩ := info_split info_span
    have hn2 : n ≤ 256 := by omega
    clear hlen hn
    go_enter Try.func26, Try.ntmps26
    go_upto_region 6 with (go_at_call 32; go_must (with_reducible refine HI.out.mono ?_); rintro e w2 ⟨rfl, hb2⟩)
    clear c3
    have hd : LdAt w2.drew B x (some ⟨g, off, none⟩) n cap := (HA.out.later hb2).later (Below.refl _ _).drew
    have c3 : w2.drew.cell? ⟨B, 3, none⟩ = some (.slice (some ⟨g, off, none⟩) n cap) := hd.cs.2.2.2.1
    have c3' : w2.cell? ⟨B, 3, none⟩ = some (.slice (some ⟨g, off, none⟩) n cap) := c3
    have HROW1 := Lib.hid (HR1.out _ hd.row)
    have HSRC := Lib.hid ((HR2.out _ hd.row).src Try.underlying26 (spCells_one _))
    have hbw := hb2.drew
    have hs1 := HS1.out
    have hs2 := HS2.out
    have hwk : IntKind.i64.wrap ((k : Int) + 1) = (k : Int) + 1 := IntWalk.i64_in _ (by omega)
    rw [← hwk] at hs2
    clear hwk
    have HR := Lib.hid (fun (wq : World) (a' : Option Addr) (cap' : Nat) (hk : Kept (blk (some ⟨g, off, none⟩) k) w2.drew wq) (hr : SlR wq 32 2 a' (k + (n - (k + 1))) cap' (spCells (x.l.take k) ++ spCells (x.l.drop (k + 1)))) (hb : ∀ b ∈ blk a' cap', b ∈ blk (some ⟨g, off, none⟩) k ∨ w2.drew.heap.size ≤ b) =>
      show (RetL (.bool true) B ⟨x.op, x.cw, x.th, x.l.take k ++ x.l.drop (k + 1), x.sp⟩ (blk (some ⟨g, off, none⟩) cap) w (.returned (.bool true)) (wq.setCell ⟨B, 3, none⟩ (.slice a' (k + (n - (k + 1))) cap'))) ∧ wq.cell? ⟨B, 3, none⟩ = some (.slice (some ⟨g, off, none⟩) n cap) ∧ wq.frozen? ⟨B, 3, none⟩ = false from by
        have hsub : ∀ b ∈ blk (some ⟨g, off, none⟩) k, b ∈ blk (some ⟨g, off, none⟩) cap := fun b hb => by
          by_cases h0 : k = 0
          · subst h0; simp [blk_zero] at hb
          · rw [blk_some _ _ _ (by omega)] at hb ⊢; exact hb
        have hB := hk.heap (fun e => hd.ne (hsub _ e)) hd.hdr
        exact ⟨(row_put (x' := ⟨x.op, x.cw, x.th, x.l.take k ++ x.l.drop (k + 1), x.sp⟩) hd hsub hk (by rw [spCells_append]; exact hr) (fun b h => (hb b h).imp (hsub b) id) ⟨rfl, rfl, rfl, rfl⟩ _).from (Kept.of_below hbw (Nat.le_refl _) _), cofr hB 3 _ rfl, fofr hB 3⟩)
    clear hd hbw HI HR1 HR2 HS1 HS2 hb2
    go_wp2_with fail
    go_region_law ((refine step_append_slr0 _ rfl (.tmp 23) (.tmp 30) 26 26 rfl 32 i0 (.agg #[.int .i64 0, .int .i64 0]) 2 16 Try.underlying26 hi hz0 hz1 (by decide) hz2 rfl g off k k (spCells (x.l.take k)) rfl HROW1.out _ rfl (n - (k + 1)) (spCells (x.l.drop (k + 1))) HSRC.out (by unfold maxLen; omega) (by omega) ?_; intro a' cap' wq hr hk2 hb; obtain ⟨hfin, k3, kf⟩ := HR.out wq a' cap' hk2 hr hb; have HF := Lib.hid hfin; clear hfin hr hk2 hb))
    all_goals
      clear k3 kf c3 c3'
      go_wp2_with fail
      go_ret
      exact HF.out
theorem dup_any {w : World} {B : Nat} {x : Ld} {S : List Nat} (h : Ow B x S w) (hn : x.l.length ≤ 256) (s : Sp) : Calls Try.prog 15 #[.pointer (some ⟨B, 0, none⟩), spV s] w (RetL (.bool (hasB s x.l)) B (dupX x s) S w) := by
  have hb1 := bal (w := w) (.cells #[.int .i64 s.1, .int .i64 s.2] 32)
  have HD := Lib.hid (drop_any (h.later hb1) hn (sp_new w s))
  have HB := Lib.hid hb1
  clear h hb1
  go_enter Try.func15, Try.ntmps15
  go_wp2_with (go_at_call 26; go_must (with_reducible refine HD.out.mono ?_); rintro e w2 ⟨rfl, hr⟩; replace hr := Lib.hid hr)
  go_ret
  exact RetL.from ⟨rfl, hr.out⟩ (Kept.of_below HB.out (Nat.le_refl _) _)
/-- a row of spans that is one's own -/
def RetRow (l : List Sp) (w : World) (e : Ending) (w' : World) : Prop := ∃ a' n' cap', e = .returned (.slice a' n' cap') ∧ SlR w' 32 2 a' n' cap' (spCells l) ∧ Below w.heap.size w w' ∧ ∀ b ∈ blk a' cap', w.heap.size ≤ b
set_option maxHeartbeats 1000000 in
theorem sclone_any {w : World} {a : Option Addr} {n cap : Nat} {l : List Sp} (h : SlR w 32 2 a n cap (spCells l)) (hn2 : n ≤ 1000000000000) : Calls Try.prog 20 #[.slice a n cap] w (RetRow l w) := by
  obtain ⟨i0, hi, hz0, hz1, hz2⟩ := info_split info_span
  have hle := h.le
  have hll := row_len h
  by_cases h0 : n = 0
  · obtain rfl : l = [] := List.eq_nil_of_length_eq_zero (by omega)
    subst h0
    have HF0 := Lib.hid (fun (a' : Option Addr) (W : World) (hb : Below w.heap.size w W) => show RetRow [] w (.returned (.slice a' 0 0)) W from ⟨a', 0, 0, rfl, SlR.sub0 a', hb, fun b hb => by simp [blk_zero] at hb⟩)
    cases a with
    | none =>
      have he : ∀ w : World, (binOp .eql 26 (.slice none 0 cap) (.slice none 0 0)).run Try.prog w = .ok (.bool true) w := fun _ => rfl
      go_enter Try.func20, Try.ntmps20
      go_wp2
      go_ret
      exact HF0.out _ _ (Below.refl _ _)
    | some x =>
      have he : ∀ w : World, (binOp .eql 26 (.slice (some x) 0 cap) (.slice none 0 0)).run Try.prog w = .ok (.bool false) w := fun _ => rfl
      have HS := Lib.hid (fun W => Src.ofSlice (P := Try.prog) (size := 2) W Try.underlying26 x 0 cap [] (by simp) (by intro j u hu; simp at hu) (by simp))
      go_enter Try.func20, Try.ntmps20
      go_wp2
      go_ret
      exact HF0.out _ _ (bal _)
  · obtain ⟨g, off, rfl, _⟩ := h.cell (by omega)
    have HS := Lib.hid (fun W (hb : Below w.heap.size w W) => (h.later hb).src Try.underlying26 (spCells_one l))
    clear h
    have he : ∀ w : World, (binOp .eql 26 (.slice (some ⟨g, off, none⟩) n cap) (.slice none 0 0)).run Try.prog w = .ok (.bool false) w := fun _ => rfl
    go_enter Try.func20, Try.ntmps20
    go_wp2_with (at_builtin; go_must (refine wpList_append_slr _ rfl (.tmp 5) (.tmp 6) 26 26 rfl 32 i0 (.agg #[.int .i64 0, .int .i64 0]) 2 16 Try.underlying26 hi hz0 hz1 (by decide) hz2 rfl _ 0 0 [] rfl (SlR.sub0 _) _ rfl n (by omega) (spCells l) (HS.out _ ((Below.refl _ _).alloc (Nat.le_refl _) _)) (by unfold maxLen; omega) (by omega) ?_); intro a' cap' w3 hrow hkp hat)
    go_ret
    refine ⟨a', 0 + n, cap', by simp, by simpa using hrow, (Below.refl w.heap.size w |>.alloc (Nat.le_refl _) _).trans (hkp.below (by simp [blk_zero]) (by simp)), fun b hb => ?_⟩
    rcases hat b hb with h | h
    · simp [blk_zero] at h
    · simp at h; omega
set_option maxHeartbeats 1000000 in
theorem clone_any {w : World} {B : Nat} {x : Ld} {S : List Nat} (h : Ow B x S w) (hn : x.l.length ≤ 256) : Calls Try.prog 9 #[.pointer (some ⟨B, 0, none⟩)] w
    fun e w' => ∃ C S', e = .returned (.pointer (some ⟨C, 0, none⟩)) ∧ Ow C x S' w' ∧ Below w.heap.size w w' ∧ ∀ b ∈ C :: S', w.heap.size ≤ b := by
  obtain ⟨a, n, cap, h, rfl⟩ := h
  have hlen := h.len
  have HC := Lib.hid (sclone_any (h.later (Below.refl w.heap.size w).drew).row (by omega))
  have HCS := Lib.hid (fun W (hb : Below w.drew.heap.size w.drew W) => ((h.later (Below.refl w.heap.size w).drew).later hb).cs)
  obtain ⟨c0, c1, c2, c3, c4⟩ := h.cs
  clear h hlen
  unfold RetRow at HC
  go_enter Try.func9, Try.ntmps9
  go_wp2_with fail
  go_region_held3 (fun w' => w'.cell? ⟨B, 0, none⟩ = some (.bool x.op) ∧ w'.cell? ⟨B, 1, none⟩ = some (.int .i64 (pcw x)) ∧ w'.cell? ⟨B, 2, none⟩ = some (.int .i64 (pth x)) ∧ w'.cell? ⟨B, 3, none⟩ = some (.slice a n cap) ∧ w'.cell? ⟨B, 4, none⟩ = some (.bool x.sp)) (first | go_keep | with_reducible exact HCS.out _ (Below.refl _ _) | with_reducible exact HCS.out _ hb1)
    ((go_at_call 20; (with_reducible refine (HC.out).mono ?_); rintro e w1 ⟨a', n', cap', rfl, hr, hb1, hbb⟩))
  go_wp2_with fail
  go_ret
  have hz : w.drew.heap.size = w.heap.size := rfl
  have hb : Below w.heap.size w w1 := (Below.refl w.heap.size w).drew.trans hb1
  exact ⟨w1.heap.size, blk a' cap', rfl, ⟨a', n', cap', ⟨heap_alloc_new w1 _, hr.later (bal _)⟩, rfl⟩, hb.trans ((bal _).mono hb.size), fun b hb' => by
    rcases List.mem_cons.1 hb' with rfl | hb'
    · exact hb.size
    · exact hbb b hb'⟩
end Go.Proofs.Ytkimlcmbbfcffaa.lg
