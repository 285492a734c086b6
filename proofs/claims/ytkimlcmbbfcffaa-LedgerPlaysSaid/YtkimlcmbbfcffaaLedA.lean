/-
  Package ledger: Undo, Again; one that is none.
-/
import Derived.Test.YtkimlcmbbfcffaaLedW
namespace Go.Proofs.Ytkimlcmbbfcffaa.lg
open Go.RowKit aid mem sp rn
attribute [local go_sem ↓] Go.wp_at_zero Go.wp_at_succ
set_option linter.unusedVariables false
set_option linter.unusedSimpArgs false

theorem Ow.drewN {w : World} {B : Nat} {x : Ld} {S : List Nat} (h : Ow B x S w) (n : Nat) : Ow B x S (w.drewN n) := h.keep (kd w n []) (fun _ _ => by simp)
theorem RetL.from {v : Value} {B : Nat} {x : Ld} {S : List Nat} {w w1 w' : World} {e : Ending} (h : RetL v B x S w1 e w') (hk : Kept (B :: S) w w1) : RetL v B x S w e w' := by
  obtain ⟨h1, S', h2, h3, h4⟩ := h
  exact ⟨h1, S', h2, hk.trans h3 (fun _ h => .inl h), fun b hb => (h4 b hb).imp id (fun h => Nat.le_trans hk.size h)⟩
theorem RetL.stay {v : Value} {B : Nat} {x : Ld} {S : List Nat} {w w' : World} (h : Ow B x S w') (hk : Kept (B :: S) w w') : RetL v B x S w (.returned v) w' := ⟨rfl, S, h, hk, fun b hb => .inl hb⟩
theorem force_off {x : Ld} (h : x.op = false) : forceX x = x := by unfold forceX; cases x; simp at h; simp [h]
set_option maxHeartbeats 1000000 in
theorem undo_any {w : World} {B : Nat} {x : Ld} {S : List Nat} (h : Ow B x S w) (hn : x.l.length ≤ 256) : Calls Try.prog 17 #[.pointer (some ⟨B, 0, none⟩)] w (RetL (fV x (undoB x)) B (undoX x) S w) := by
  have HP := Lib.hid (pending_q h)
  by_cases h0 : x.l.length = 0
  · rw [h0] at HP
    cases hs : x.sp with
    | true =>
      have HB : Hid (undoB x = false) := Lib.hid (by unfold undoB; simp [hs])
      have HX : Hid (undoX x = x) := Lib.hid (by unfold undoX; rw [if_neg (by rw [HB.out]; simp)])
      rw [HB.out, HX.out, fV_no]
      have HS := Lib.hid (fun m => spilt_q (h.drewN m))
      rw [hs] at HS
      have HA := Lib.hid h
      clear h hs h0 HB HX
      go_enter Try.func17, Try.ntmps17
      go_wp2_with (first
        | (go_at_call 12; (with_reducible refine (HP.out.at).mono ?_); rintro e w1 ⟨rfl, m, rfl⟩)
        | (go_at_call 13; (with_reducible refine ((HS.out _).at).mono ?_); rintro e w1 ⟨rfl, m2, rfl⟩))
      go_ret3
      exact RetL.stay (HA.out.drewN _) (kd _ _ _)
    | false =>
      have HX : Hid (fV x (undoB x) = fV x x.op ∧ undoX x = forceX x) := Lib.hid (by
        have : undoB x = x.op := by unfold undoB; simp [hs, h0]
        unfold undoX
        rw [this]
        cases ho : x.op with
        | true => exact ⟨rfl, by simp⟩
        | false => exact ⟨rfl, by rw [if_neg (by simp), force_off ho]⟩)
      rw [HX.out.1, HX.out.2]
      have HS := Lib.hid (fun m => spilt_q (h.drewN m))
      rw [hs] at HS
      have HF := Lib.hid (fun m => force_any (h.drewN m))
      clear h hs h0 HX
      unfold fV at HF ⊢
      generalize (if x.op = true then x.cw else 0) = u at *
      generalize (if x.op = true then x.th else 0) = v at *
      go_enter Try.func17, Try.ntmps17
      go_wp2_with (first
        | (go_at_call 12; (with_reducible refine (HP.out.at).mono ?_); rintro e w1 ⟨rfl, m, rfl⟩)
        | (go_at_call 13; (with_reducible refine ((HS.out _).at).mono ?_); rintro e w1 ⟨rfl, m2, rfl⟩; (try rw [World.drewN_drewN]); have HF2 := Lib.hid (HF.out (m + m2)); have HKK := Lib.hid (kd w (m + m2) (B :: S)); clear HS HF; generalize w.drewN (m + m2) = W at *)
        | (go_at_call 19; go_must (with_reducible refine (HF2.out).mono ?_); rintro e w2 ⟨rfl, hr⟩; replace hr := Lib.hid hr))
      go_ret3
      exact RetL.from ⟨rfl, hr.out⟩ HKK.out
  · have HB : Hid (undoB x = false) := Lib.hid (by unfold undoB; simp [h0])
    have HX : Hid (undoX x = x) := Lib.hid (by unfold undoX; rw [if_neg (by rw [HB.out]; simp)])
    rw [HB.out, HX.out, fV_no]
    have HA := Lib.hid h
    have hpos : (0 : Int) < (x.l.length : Int) := by omega
    clear h h0 HB HX hn
    generalize (x.l.length : Int) = kk at *
    go_enter Try.func17, Try.ntmps17
    go_wp2_with (go_at_call 12; (with_reducible refine (HP.out.at).mono ?_); rintro e w1 ⟨rfl, m, rfl⟩)
    go_ret3
    exact RetL.stay (HA.out.drewN _) (kd _ _ _)
theorem none_force (w : World) : Calls Try.prog 19 #[.pointer none] w fun e w' => e = .returned (.tuple #[.int .i64 0, .int .i64 0, .bool false]) ∧ Below w.heap.size w w' := by
  go_enter Try.func19, Try.ntmps19
  go_wp2_with (go_at_call 11; (with_reducible refine ((none_q _).1.below).mono ?_); rintro e w1 ⟨rfl, hb⟩)
  go_ret3
  exact ⟨rfl, hb⟩
theorem none_undo (w : World) : Calls Try.prog 17 #[.pointer none] w fun e w' => e = .returned (.tuple #[.int .i64 0, .int .i64 0, .bool false]) ∧ Below w.heap.size w w' := by
  go_enter Try.func17, Try.ntmps17
  go_wp2_with (first
    | (go_at_call 12; (with_reducible refine ((none_q _).2.2.1.below).mono ?_); rintro e w1 ⟨rfl, hb⟩)
    | (go_at_call 13; (with_reducible refine ((none_q _).2.1.below).mono ?_); rintro e w2 ⟨rfl, hb2⟩; replace hb := hb.trans (hb2.mono hb.size); clear hb2)
    | (go_at_call 19; (with_reducible refine (none_force _).mono ?_); rintro e w3 ⟨rfl, hb2⟩; replace hb := hb.trans (hb2.mono hb.size); clear hb2))
  go_ret3
  exact ⟨rfl, hb⟩
theorem none_again (s : Sp) (w : World) : Calls Try.prog 14 #[.pointer none, spV s] w fun e w' => e = .returned (.int .i64 1) ∧ Below w.heap.size w w' := by
  have HB := Lib.hid (bal (w := w) (.cells #[.int .i64 s.1, .int .i64 s.2] 32))
  go_enter Try.func14, Try.ntmps14
  go_wp2_with fail
  go_ret
  exact ⟨rfl, HB.out⟩
theorem drop_nil (f : Value) (w : World) : Calls Try.prog 26 #[.pointer none, f] w fun e w' => e = .returned (.bool false) ∧ w = w' := by
  go_enter Try.func26, Try.ntmps26
  go_wp2
  go_ret
  exact ⟨rfl, rfl⟩
theorem none_dup (s : Sp) (w : World) : Calls Try.prog 15 #[.pointer none, spV s] w fun e w' => e = .returned (.bool false) ∧ Below w.heap.size w w' := by
  have HB := Lib.hid (bal (w := w) (.cells #[.int .i64 s.1, .int .i64 s.2] 32))
  go_enter Try.func15, Try.ntmps15
  go_wp2_with (go_at_call 26; (with_reducible refine (drop_nil _ _).mono ?_); rintro e w1 ⟨rfl, rfl⟩)
  go_ret
  exact ⟨rfl, HB.out⟩
/-- a store of a row: what is there then -/
theorem row_put {w w1 : World} {B : Nat} {x x' : Ld} {a : Option Addr} {n cap : Nat} {a' : Option Addr} {n' cap' : Nat} {S : List Nat} (h : LdAt w B x a n cap) (hS : ∀ b ∈ S, b ∈ blk a cap) (hk : Kept S w w1) (hr : SlR w1 32 2 a' n' cap' (spCells x'.l))
    (hb : ∀ b ∈ blk a' cap', b ∈ blk a cap ∨ w.heap.size ≤ b) (hx : x'.op = x.op ∧ pcw x' = pcw x ∧ pth x' = pth x ∧ x'.sp = x.sp) (v : Value) :
    RetL v B x' (blk a cap) w (.returned v) (w1.setCell ⟨B, 3, none⟩ (.slice a' n' cap')) := by
  have h1 : w1.heap[B]? = _ := hk.heap (fun e => h.ne (hS _ e)) h.hdr
  have h2 := heap_setCell_same w1 B 3 _ _ (.slice a' n' cap') h1
  have hk2 := kset w1 B 3 (.slice a' n' cap')
  have hbn : B ∉ blk a' cap' := fun e => by
    rcases hb _ e with e | e
    · exact h.ne e
    · have := h.lt; omega
  refine ⟨rfl, blk a' cap', ⟨a', n', cap', ⟨?_, hr.keep hk2 (fun b hb e => by simp at e; subst e; exact hbn hb)⟩, rfl⟩, ?_, hb⟩
  · unfold cellsL
    rw [hx.1, hx.2.1, hx.2.2.1, hx.2.2.2]
    exact h2
  · exact (hk.mono (S' := B :: blk a cap) (fun b hb => .inl (by simp [hS b hb]))).trans hk2 (fun b hb => .inl (by simp at hb; simp [hb]))
set_option maxRecDepth 100000 in
set_option maxHeartbeats 2000000 in
theorem again_any {w : World} {B : Nat} {x : Ld} {S : List Nat} (h : Ow B x S w) (hn : x.l.length ≤ 256) (s : Sp) : Calls Try.prog 14 #[.pointer (some ⟨B, 0, none⟩), spV s] w (RetL (.int .i64 (againE x s)) B (againX x s) S w) := by
  obtain ⟨a, n, cap, h, rfl⟩ := h
  have hb1 := bal (w := w) (.cells #[.int .i64 s.1, .int .i64 s.2] 32)
  have hs1 := sp_new w s
  have h1 := h.later hb1
  have HLW := Lib.hid (len_any s)
  have hlen := h.len
  have HX : Hid (againE x s = (if lenI s = 0 then 3 else if 256 ≤ n then 4 else 0) ∧ againX x s = (if lenI s = 0 then x else if 256 ≤ n then ⟨x.op, x.cw, x.th, x.l, true⟩ else ⟨x.op, x.cw, x.th, x.l ++ [s], x.sp⟩)) := Lib.hid (by rw [← hlen]; exact ⟨rfl, rfl⟩)
  rw [HX.out.1, HX.out.2]
  clear HX
  generalize lenI s = z at *
  have c0 := hs1.c0; have c1 := hs1.c1
  have HA := Lib.hid h
  have hle := h.row.le
  have hmost := h.row.most
  unfold maxLen at hmost
  rw [hlen] at hn
  clear h
  have HLEN := Lib.hid hlen
  clear hlen
  go_enter Try.func14, Try.ntmps14
  by_cases hz : z = 0
  · rw [if_pos hz, if_pos hz]
    subst hz
    go_wp2_with (go_at_call 25; (with_reducible refine (HLW.out _).mono ?_); rintro e w2 ⟨rfl, hb2⟩)
    go_ret
    exact RetL.stay ⟨a, n, cap, h1.later hb2, rfl⟩ (Kept.of_below (hb1.trans (hb2.mono hb1.size)) (Nat.le_refl _) _)
  rw [if_neg hz, if_neg hz]
  by_cases h256 : 256 ≤ n
  · rw [if_pos h256, if_pos h256]
    go_wp2_with (go_at_call 25; (with_reducible refine (HLW.out _).mono ?_); rintro e w2 ⟨rfl, hb2⟩; replace h1 := h1.later hb2; replace hb1 := hb1.trans (hb2.mono hb1.size); clear hb2; obtain ⟨c0, c1, c2, c3, c4⟩ := h1.cs; have f4 := h1.f 4)
    go_ret
    have h3 := heap_setCell_same w2 B 4 _ _ (.bool true) h1.hdr
    have hk3 := kset w2 B 4 (.bool true)
    refine ⟨rfl, blk a cap, ⟨a, n, cap, ⟨h3, h1.row.keep hk3 (fun b hb e => by simp at e; subst e; exact h1.ne hb)⟩, rfl⟩, (Kept.of_below hb1 (Nat.le_refl _) _).trans hk3 (fun b hb => .inl (by simp at hb; simp [hb])), fun b hb => .inl hb⟩
  rw [if_neg h256, if_neg h256]
  obtain ⟨i0, hi, hz0, hz1, hz2⟩ := info_split info_span
  go_upto_region 8 with (go_at_call 25; (with_reducible refine (HLW.out _).mono ?_); rintro e w2 ⟨rfl, hb2⟩; replace h1 := h1.later hb2; replace hb1 := hb1.trans (hb2.mono hb1.size); replace hs1 := hs1.later hb2; clear hb2 c0 c1; obtain ⟨c0, c1, c2, c3, c4⟩ := h1.cs)
  clear c0 c1 c2 c3 c4 HLW
  have d0 : w2.drew.cell? ⟨w.heap.size, 0, none⟩ = some (.int .i64 s.1) := hs1.c0
  have d1 : w2.drew.cell? ⟨w.heap.size, 1, none⟩ = some (.int .i64 s.2) := hs1.c1
  have hd : LdAt w2.drew B x a n cap := h1.later (Below.refl _ _).drew
  have e3 := hd.cs.2.2.2.1
  have hba := bal (w := w2.drew) (.cells #[.int .i64 s.1, .int .i64 s.2] 32)
  have ha := hd.later hba
  have g3 := ha.cs.2.2.2.1
  have hbw := hb1.drew.trans (hba.mono hb1.size)
  have HS := Lib.hid (span_src w2.drew s)
  have HROW := Lib.hid ha.row
  have HR := Lib.hid (fun (wq : World) (a' : Option Addr) (cap' : Nat) (hk : Kept (blk a cap) (w2.drew.alloc (.cells #[.int .i64 s.1, .int .i64 s.2] 32)) wq) (hr : SlR wq 32 2 a' (n + 1) cap' (spCells x.l ++ [.int .i64 s.1, .int .i64 s.2])) (hb : ∀ b ∈ blk a' cap', b ∈ blk a cap ∨ (w2.drew.alloc (.cells #[.int .i64 s.1, .int .i64 s.2] 32)).heap.size ≤ b) =>
    show (RetL (.int .i64 0) B ⟨x.op, x.cw, x.th, x.l ++ [s], x.sp⟩ (blk a cap) w (.returned (.int .i64 0)) (wq.setCell ⟨B, 3, none⟩ (.slice a' (n + 1) cap'))) ∧ wq.cell? ⟨B, 3, none⟩ = some (.slice a n cap) ∧ wq.frozen? ⟨B, 3, none⟩ = false from by
      have hB := hk.heap (fun e => ha.ne e) ha.hdr
      exact ⟨(row_put (x' := ⟨x.op, x.cw, x.th, x.l ++ [s], x.sp⟩) ha (fun _ h => h) hk (by rw [spCells_snoc]; exact hr) hb ⟨rfl, rfl, rfl, rfl⟩ _).from (Kept.of_below hbw (Nat.le_refl _) _), cofr hB 3 _ rfl, fofr hB 3⟩)
  have e5 : (w2.alloc (.cells #[.int .i64 s.1, .int .i64 s.2] 32)).cell? ⟨B, 3, none⟩ = some (.slice a n cap) := g3
  have e6 : w2.cell? ⟨B, 3, none⟩ = some (.slice a n cap) := e3
  clear h1 hb1 hs1 hd hba ha hbw
  go_wp2_with fail
  go_region_law ((refine step_append_slr _ rfl (.tmp 23) (.tmp 25) 26 26 rfl 32 i0 (.agg #[.int .i64 0, .int .i64 0]) 2 16 Try.underlying26 hi hz0 hz1 (by decide) hz2 rfl a n cap (spCells x.l) rfl HROW.out _ rfl 1 (by decide) [.int .i64 s.1, .int .i64 s.2] HS.out (by unfold maxLen; omega) (by omega) ?_; intro a' cap' wq hr hk hb; obtain ⟨hfin, k3, kf⟩ := HR.out wq a' cap' hk hr hb; have HF := Lib.hid hfin; clear hfin hr hk hb))
  all_goals
    clear k3 kf d0 d1 e3 g3 e5 e6
    go_wp2_with fail
    go_ret
    exact HF.out
end Go.Proofs.Ytkimlcmbbfcffaa.lg
