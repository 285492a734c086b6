/-
  Layer 19's law LedgerCounts.
-/
import Derived.Test.YtkimlcmbbfcffaaLedK
import Derived.Test.YtkimlcmbbfcffaaLedO
namespace Go.Proofs.Ytkimlcmbbfcffaa.lg
open Go.RowKit Go.Shelf aid mem sp rn
attribute [local go_sem ↓] Go.wp_at_zero Go.wp_at_succ
set_option linter.unusedVariables false
set_option linter.unusedSimpArgs false

theorem again_len {x : Ld} (s : Sp) : (againE x s = 0 ∧ ((againX x s).l.length : Int) = (x.l.length : Int) + 1) ∨ ((againE x s = 3 ∨ againE x s = 4) ∧ (againX x s).l.length = x.l.length) := by
  unfold againE againX
  split
  · exact .inr ⟨.inl rfl, rfl⟩
  · split
    · exact .inr ⟨.inr rfl, rfl⟩
    · exact .inl ⟨rfl, by simp⟩
theorem dup_len {x : Ld} (s : Sp) : (hasB s x.l = true ∧ ((dupX x s).l.length : Int) = (x.l.length : Int) - 1) ∨ (hasB s x.l = false ∧ (dupX x s).l.length = x.l.length) := by
  unfold dupX
  cases hb : hasB s x.l with
  | true =>
    refine .inl ⟨rfl, ?_⟩
    rw [if_pos rfl]
    have := del_len hb
    simp only
    omega
  | false => exact .inr ⟨rfl, by rw [if_neg (by simp)]⟩
theorem cut_len {x : Ld} (c t : Int) : (cutX x c t).l.length = x.l.length := by unfold cutX; split <;> rfl
theorem undo_len {x : Ld} : (undoX x).l.length = x.l.length := by unfold undoX; split <;> rfl
theorem undo_none {x : Ld} (h : undoB x = true) : x.l.length = 0 := by
  unfold undoB at h
  simp at h
  simp [h.1.2]
abbrev Op5 (Bo off : Nat) (k : Nat) (s : OpV) (w' : World) : Prop := w'.cell? ⟨Bo, off + k * 5, none⟩ = some (.int .u8 s.kind) ∧ w'.cell? ⟨Bo, off + k * 5 + 1, none⟩ = some (.int .i64 s.a) ∧ w'.cell? ⟨Bo, off + k * 5 + 2, none⟩ = some (.int .i64 s.b) ∧ w'.cell? ⟨Bo, off + k * 5 + 3, none⟩ = some (.int .i64 s.s.1) ∧ w'.cell? ⟨Bo, off + k * 5 + 4, none⟩ = some (.int .i64 s.s.2)
set_option maxRecDepth 100000 in
set_option maxHeartbeats 4000000 in
theorem walk_LedgerCounts (w : World) (a : Option Addr) (n cap : Nat) (ops : List OpV) (hops : OpA w a n cap ops) :
    Calls Try.prog 4 #[.slice a n cap] w fun x w' => x = .returned (.bool true) ∧ Below w.heap.size w w' := by
  have hb := Below.refl w.heap.size w
  have hle := hops.le
  have hmost := hops.most
  unfold maxLen at hmost
  have HC := Lib.hid hops.cells
  clear hops
  go_enter Try.func4, Try.ntmps4
  go_wp2_with (first
    | (go_at_call 7; (with_reducible refine (known_b hb).mono ?_); clear hb; rintro e w1 ⟨rfl, hb⟩)
    | (go_at_call 8; (with_reducible refine (new_ls hb).mono ?_); clear hb; rintro e w2 ⟨b, rfl, S⟩))
  go_loopw [4, 5] (fun u i wr => ∃ (k : Nat) (x : Ld), i = .int .i64 k ∧ u = .int .i64 (x.l.length : Int) ∧ k ≤ n ∧ k ≤ 600 ∧ LF w noF w1 b x wr) (fun _ i _ => 600 - (intOf i).toNat)
  case atStart => exact ⟨0, zL, rfl, rfl, by omega, by omega, S⟩
  case round =>
    clear S
    obtain ⟨k, x, rfl, rfl, hk, hk3, S⟩ := hrel
    by_cases hlt : k < n ∧ k < 600
    case neg =>
      by_cases h1 : k < n
      · have h2 : ¬ k < 600 := by omega
        go_wp2_with (go_at_call 7; (with_reducible refine (known_ls S).mono ?_); clear S; rintro e w1 ⟨rfl, S⟩)
        go_ret
        exact ⟨rfl, S.below⟩
      · go_wp2_with (go_at_call 7; (with_reducible refine (known_ls S).mono ?_); clear S; rintro e w1 ⟨rfl, S⟩)
        go_ret
        exact ⟨rfl, S.below⟩
    case pos =>
    obtain ⟨h1, h2⟩ := hlt
    obtain ⟨Bo, off, rfl, hc⟩ := HC.out (by omega)
    obtain ⟨c0, c1, c2, c3, c4, hok⟩ := hc k h1
    have HOP := Lib.hid (fun W (h : Below w.heap.size w W) => show Op5 Bo off k (ops.getD k default) W from ⟨(h.cell (p := ⟨Bo, off + k * 5, none⟩) (World.block_lt_of_cell? w _ c0)).trans c0, (h.cell (p := ⟨Bo, off + k * 5 + 1, none⟩) (World.block_lt_of_cell? w _ c1)).trans c1, (h.cell (p := ⟨Bo, off + k * 5 + 2, none⟩) (World.block_lt_of_cell? w _ c2)).trans c2, (h.cell (p := ⟨Bo, off + k * 5 + 3, none⟩) (World.block_lt_of_cell? w _ c3)).trans c3, (h.cell (p := ⟨Bo, off + k * 5 + 4, none⟩) (World.block_lt_of_cell? w _ c4)).trans c4⟩)
    clear hc c0 c1 c2 c3 c4
    generalize ops.getD k default = s at *
    have s0 := hok.1.1; have s1 := hok.1.2
    clear hok
    obtain ⟨c0, c1, c2, c3, c4⟩ := HOP.out _ S.below
    have hn := S.ok.n
    generalize hL : (x.l.length : Int) = L at *
    have hL0 : 0 ≤ L := by omega
    have hL1 : L ≤ 256 := by omega
    clear hn
    have HL := Lib.hid hL
    clear hL
    by_cases hk12 : s.kind % 6 = 1 ∨ s.kind % 6 = 2
    · rcases again_len (x := x) s.s with ⟨he, hl⟩ | ⟨he, hl⟩
      · have HE := Lib.hid he
        rw [HL.out] at hl
        have HL2 := Lib.hid hl
        have hn2 := (S.ok.again s.s).n
        have hL2 : L + 1 ≤ 256 := by omega
        clear he hl hn2
        rcases hk12 with hk1 | hk1
        all_goals
          go_wp2_with (first
            | (go_at_call 14; (with_reducible refine (again_ls S s.s).mono ?_); clear S; rintro e w2 ⟨rfl, S⟩; rw [HE.out]; generalize againX x s.s = y at *)
            | (go_at_call 12; (with_reducible refine (pending_ls S).mono ?_); clear S; rintro e w2 ⟨rfl, S⟩; rw [HL2.out]))
          go_roundw
          case rel => exact ⟨k + 1, y, by go_num, by rw [HL2.out], by omega, by omega, S⟩
          case measure => simp [intOf]; omega
      · have HL2 := Lib.hid (show ((againX x s.s).l.length : Int) = L from by rw [hl]; exact HL.out)
        have hnz : ¬ againE x s.s = 0 := by omega
        clear he hl
        have HQ := Lib.hid (fun W (h : LF w noF w1 b x W) => again_ls h s.s)
        generalize againX x s.s = y at *
        generalize againE x s.s = ee at *
        rcases hk12 with hk1 | hk1
        all_goals
          go_wp2_with (first
            | (go_at_call 14; (with_reducible refine (HQ.out _ S).mono ?_); clear S; rintro e w2 ⟨rfl, S⟩)
            | (go_at_call 12; (with_reducible refine (pending_ls S).mono ?_); clear S; rintro e w2 ⟨rfl, S⟩; rw [HL2.out]))
          go_roundw
          case rel => exact ⟨k + 1, y, by go_num, by rw [HL2.out], by omega, by omega, S⟩
          case measure => simp [intOf]; omega
    by_cases hk3' : s.kind % 6 = 3
    · clear hk12
      rcases dup_len (x := x) s.s with ⟨he, hl⟩ | ⟨he, hl⟩
      · have HE := Lib.hid he
        rw [HL.out] at hl
        have HL2 := Lib.hid hl
        have hL2 : 0 ≤ L - 1 := by have : 0 ≤ (((dupX x s.s).l.length : Nat) : Int) := by omega
                                   omega
        clear he hl
        go_wp2_with (first
          | (go_at_call 15; (with_reducible refine (dup_ls S s.s).mono ?_); clear S; rintro e w2 ⟨rfl, S⟩; rw [HE.out]; generalize dupX x s.s = y at *)
          | (go_at_call 12; (with_reducible refine (pending_ls S).mono ?_); clear S; rintro e w2 ⟨rfl, S⟩; rw [HL2.out]))
        go_roundw
        case rel => exact ⟨k + 1, y, by go_num, by rw [HL2.out], by omega, by omega, S⟩
        case measure => simp [intOf]; omega
      · have HE := Lib.hid he
        have HL2 := Lib.hid (show ((dupX x s.s).l.length : Int) = L from by rw [hl]; exact HL.out)
        clear he hl
        go_wp2_with (first
          | (go_at_call 15; (with_reducible refine (dup_ls S s.s).mono ?_); clear S; rintro e w2 ⟨rfl, S⟩; rw [HE.out]; generalize dupX x s.s = y at *)
          | (go_at_call 12; (with_reducible refine (pending_ls S).mono ?_); clear S; rintro e w2 ⟨rfl, S⟩; rw [HL2.out]))
        go_roundw
        case rel => exact ⟨k + 1, y, by go_num, by rw [HL2.out], by omega, by omega, S⟩
        case measure => simp [intOf]; omega
    have hn1 : ¬ s.kind % 6 = 1 := by omega
    have hn2 : ¬ s.kind % 6 = 2 := by omega
    clear hk12
    by_cases hk0 : s.kind % 6 = 0
    · have HL2 := Lib.hid (show ((cutX x s.a s.b).l.length : Int) = L from by rw [cut_len]; exact HL.out)
      have HQ := Lib.hid (fun W (h : LF w noF w1 b x W) => cut_ls h s.a s.b)
      generalize cutX x s.a s.b = y at *
      have SD := S.later (Below.refl _ _).drew
      have P0 := HOP.out _ SD.below
      have HSD := Lib.hid SD
      clear SD
      go_wp2_with fail
      go_region_held3 (fun W => Op5 Bo off k s W) (first | with_reducible exact P1 | with_reducible exact P0 | go_keep)
        ((go_at_call 16; (with_reducible refine (HQ.out _ HSD.out).mono ?_); rintro e w2 ⟨rfl, S2⟩; have P1 := HOP.out _ S2.below))
      clear S P0 P1 HSD
      go_wp2_with (go_at_call 12; (with_reducible refine (pending_ls S2).mono ?_); clear S2; rintro e w3 ⟨rfl, S2⟩; rw [HL2.out])
      go_roundw
      case rel => exact ⟨k + 1, y, by go_num, by rw [HL2.out], by omega, by omega, S2⟩
      case measure => simp [intOf]; omega
    · have HL2 := Lib.hid (show ((undoX x).l.length : Int) = L from by rw [undo_len]; exact HL.out)
      have HQ := Lib.hid (fun W (h : LF w noF w1 b x W) => undo_ls h)
      unfold fV at HQ
      generalize (if undoB x = true then x.cw else 0) = u at *
      generalize (if undoB x = true then x.th else 0) = v at *
      have HZ := Lib.hid (fun (h : undoB x = true) => show L = 0 from by have := undo_none h; have := HL.out; omega)
      generalize undoX x = y at *
      generalize undoB x = bb at *
      cases bb with
      | true =>
        have hLz := HZ.out rfl
        subst hLz
        go_wp2_with (first
          | (go_at_call 17; (with_reducible refine (HQ.out _ S).mono ?_); clear S; rintro e w2 ⟨rfl, S⟩)
          | (go_at_call 12; (with_reducible refine (pending_ls S).mono ?_); clear S; rintro e w2 ⟨rfl, S⟩; rw [HL2.out]))
        go_roundw
        case rel => exact ⟨k + 1, y, by go_num, by rw [HL2.out], by omega, by omega, S⟩
        case measure => simp [intOf]; omega
      | false =>
        go_wp2_with (first
          | (go_at_call 17; (with_reducible refine (HQ.out _ S).mono ?_); clear S; rintro e w2 ⟨rfl, S⟩)
          | (go_at_call 12; (with_reducible refine (pending_ls S).mono ?_); clear S; rintro e w2 ⟨rfl, S⟩; rw [HL2.out]))
        go_roundw
        case rel => exact ⟨k + 1, y, by go_num, by rw [HL2.out], by omega, by omega, S⟩
        case measure => simp [intOf]; omega
end Go.Proofs.Ytkimlcmbbfcffaa.lg
