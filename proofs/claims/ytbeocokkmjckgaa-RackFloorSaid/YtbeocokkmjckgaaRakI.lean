/-
  RackFloor (written by gen_raki.py).
-/
import Derived.Test.YtbeocokkmjckgaaRakH
namespace Go.Proofs.Ytbeocokkmjckgaa.rk
open Go.RowKit aid mem bk
attribute [local go_sem ↓] Go.wp_at_zero Go.wp_at_succ
set_option linter.unusedVariables false
set_option linter.unusedSimpArgs false

theorem opa_at {w : World} {a : Option Addr} {n cap : Nat} {l : List OpV} (h : OpA w a n cap l) {k : Nat} (hk : k < n) : ∃ B off, a = some ⟨B, off, none⟩ ∧ B < w.heap.size ∧ OpOk (l.getD k default) ∧ ∀ W, Below w.heap.size w W → W.cell? ⟨B, off + k * 15, none⟩ = some (.int .u8 (l.getD k default).kind) ∧ W.cell? ⟨B, off + k * 15 + 1, none⟩ = some (.int .i64 (l.getD k default).r.f) ∧ W.cell? ⟨B, off + k * 15 + 2, none⟩ = some (.int .i64 (l.getD k default).r.t) ∧ W.cell? ⟨B, off + k * 15 + 3, none⟩ = some (.int .i64 (l.getD k default).r.sent) ∧ W.cell? ⟨B, off + k * 15 + 4, none⟩ = some (.int .i64 (l.getD k default).r.order) ∧ W.cell? ⟨B, off + k * 15 + 5, none⟩ = some (.int .i64 (l.getD k default).r.times) ∧ W.cell? ⟨B, off + k * 15 + 6, none⟩ = some (.int .i64 (l.getD k default).r.out) ∧ W.cell? ⟨B, off + k * 15 + 7, none⟩ = some (.bool (l.getD k default).r.lost) ∧ W.cell? ⟨B, off + k * 15 + 8, none⟩ = some (.int .i64 (l.getD k default).now) ∧ W.cell? ⟨B, off + k * 15 + 9, none⟩ = some (.int .i64 (l.getD k default).least) ∧ W.cell? ⟨B, off + k * 15 + 10, none⟩ = some (.bool (l.getD k default).has) ∧ W.cell? ⟨B, off + k * 15 + 11, none⟩ = some (.bool (l.getD k default).echo.1) ∧ W.cell? ⟨B, off + k * 15 + 12, none⟩ = some (.int .u32 (l.getD k default).echo.2) ∧ W.cell? ⟨B, off + k * 15 + 13, none⟩ = some (.int .i64 (l.getD k default).a) ∧ W.cell? ⟨B, off + k * 15 + 14, none⟩ = some (.int .i64 (l.getD k default).b) := by
  obtain ⟨B, off, rfl, hc⟩ := h.cells (by omega)
  obtain ⟨c0, c1, c2, c3, c4, c5, c6, c7, c8, c9, c10, c11, c12, c13, c14, hok⟩ := hc k hk
  have hlt := World.block_lt_of_cell? w _ c0
  exact ⟨B, off, rfl, hlt, hok, fun W hb => ⟨(hb.cell (World.block_lt_of_cell? w _ c0)).trans c0, (hb.cell (World.block_lt_of_cell? w _ c1)).trans c1, (hb.cell (World.block_lt_of_cell? w _ c2)).trans c2, (hb.cell (World.block_lt_of_cell? w _ c3)).trans c3, (hb.cell (World.block_lt_of_cell? w _ c4)).trans c4, (hb.cell (World.block_lt_of_cell? w _ c5)).trans c5, (hb.cell (World.block_lt_of_cell? w _ c6)).trans c6, (hb.cell (World.block_lt_of_cell? w _ c7)).trans c7, (hb.cell (World.block_lt_of_cell? w _ c8)).trans c8, (hb.cell (World.block_lt_of_cell? w _ c9)).trans c9, (hb.cell (World.block_lt_of_cell? w _ c10)).trans c10, (hb.cell (World.block_lt_of_cell? w _ c11)).trans c11, (hb.cell (World.block_lt_of_cell? w _ c12)).trans c12, (hb.cell (World.block_lt_of_cell? w _ c13)).trans c13, (hb.cell (World.block_lt_of_cell? w _ c14)).trans c14⟩⟩
set_option maxRecDepth 100000 in
set_option maxHeartbeats 4000000 in
theorem walk_RackFloor (w : World) (floor : Int) (hfl : -9223372036854775808 ≤ floor ∧ floor ≤ 9223372036854775807) (a : Option Addr) (n cap : Nat) (ops : List OpV) (hops : OpA w a n cap ops) (least : Int) (hl : -9223372036854775808 ≤ least ∧ least ≤ 9223372036854775807) (srtt : Int) (hs : -9223372036854775808 ≤ srtt ∧ srtt ≤ 9223372036854775807) (has sharp : Bool) :
    Calls Try.prog 6 #[.int .i64 floor, .slice a n cap, .int .i64 least, .int .i64 srtt, .bool has, .bool sharp] w fun x w' => x = .returned (.bool true) ∧ Below w.heap.size w w' := by
  have hb := Below.refl w.heap.size w
  have hle := hops.le
  have hmost := hops.most
  unfold maxLen at hmost
  have HC := Lib.hid (fun (k : Nat) (hk : k < n) => opa_at hops hk)
  clear hops
  by_cases hf : 0 ≤ floor ∧ floor ≤ 68719476736
  case neg =>
    have HN := Lib.hid (fun W => new_bad (w := W) (f := floor) (by omega))
    clear hf
    go_enter Try.func6, Try.ntmps6
    go_wp2_with (first
      | (go_at_call 8; (with_reducible refine (known_b hb).mono ?_); clear hb; rintro e w1 ⟨rfl, hb⟩)
      | (go_at_call 9; (with_reducible refine (HN.out _).mono ?_); rintro e w2 ⟨rfl, rfl⟩))
    go_ret
    exact ⟨rfl, hb⟩
  case pos =>
    have HN := Lib.hid (fun W => new_any hf W)
    have HNE := Lib.hid hf
    clear hf
    go_enter Try.func6, Try.ntmps6
    go_wp2_with (first
      | (go_at_call 8; (with_reducible refine (known_b hb).mono ?_); clear hb; rintro e w1 ⟨rfl, hb⟩)
      | (go_at_call 9; (with_reducible refine (HN.out _).mono ?_); rintro e w2 ⟨rfl, x2, b2⟩; have hX := hb.size; generalize w1.heap.size = X at x2 hX ⊢; replace hb := hb.trans (b2.mono hb.size); clear b2)
      | (go_at_call 10; (with_reducible refine (rnew_any _ _).mono ?_); rintro e w3 ⟨rfl, b3⟩; replace x2 := x2.later b3; replace hb := hb.trans (b3.mono hb.size); clear b3; have S := FL.made hb x2 (new_ok HNE.out) hX; clear x2 hb hX))
    generalize w3.heap.size = X2 at *
    go_loopw [16] (fun i wr => ∃ (k : Nat) (x : Rk), i = .int .i64 k ∧ k ≤ n ∧ k ≤ 100 ∧ x.floor = floor ∧ FL w X X2 x wr) (fun i _ => 100 - (intOf i).toNat)
    case atStart => exact ⟨0, _, rfl, by omega, by omega, rfl, S⟩
    case round =>
      clear S
      obtain ⟨k, x, rfl, hk, hk3, hxf, S⟩ := hrel
      have HXF := Lib.hid hxf
      clear hxf
      by_cases hlt : k < n ∧ k < 100
      · obtain ⟨h1, h2⟩ := hlt
        obtain ⟨B, off, rfl, hB, hok, hcs⟩ := HC.out k h1
        have HOK := Lib.hid (And.intro hok hB)
        have HCS := Lib.hid hcs
        clear hok hcs hB
        generalize ops.getD k default = s at *
        go_wp2_with fail
        replace S := S.drew
        obtain ⟨r0, r1, r2, r3, r4, r5, r6, r7⟩ := r8 S.bx
        refine wp_region_noPanic ?_
        refine wp_region_held_drew (S := (fun w' => w'.cell? ⟨B, off + k * 15, none⟩ = some (.int .u8 s.kind) ∧ w'.cell? ⟨B, off + k * 15 + 1, none⟩ = some (.int .i64 s.r.f) ∧ w'.cell? ⟨B, off + k * 15 + 2, none⟩ = some (.int .i64 s.r.t) ∧ w'.cell? ⟨B, off + k * 15 + 3, none⟩ = some (.int .i64 s.r.sent) ∧ w'.cell? ⟨B, off + k * 15 + 4, none⟩ = some (.int .i64 s.r.order) ∧ w'.cell? ⟨B, off + k * 15 + 5, none⟩ = some (.int .i64 s.r.times) ∧ w'.cell? ⟨B, off + k * 15 + 6, none⟩ = some (.int .i64 s.r.out) ∧ w'.cell? ⟨B, off + k * 15 + 7, none⟩ = some (.bool s.r.lost) ∧ w'.cell? ⟨B, off + k * 15 + 8, none⟩ = some (.int .i64 s.now) ∧ w'.cell? ⟨B, off + k * 15 + 9, none⟩ = some (.int .i64 s.least) ∧ w'.cell? ⟨B, off + k * 15 + 10, none⟩ = some (.bool s.has) ∧ w'.cell? ⟨B, off + k * 15 + 11, none⟩ = some (.bool s.echo.1) ∧ w'.cell? ⟨B, off + k * 15 + 12, none⟩ = some (.int .u32 s.echo.2) ∧ w'.cell? ⟨B, off + k * 15 + 13, none⟩ = some (.int .i64 s.a) ∧ w'.cell? ⟨B, off + k * 15 + 14, none⟩ = some (.int .i64 s.b))) (by kernel_rfl) ?_ (fun hHeld => ?_)
        · ((try dsimp only); with_reducible first | exact HCS.out _ S.below | exact HCS.out _ S2.below)
        refine wpAnyH_take (i := 0) (oi := _) (v := ?_) rfl (by kernel_rfl) (by kernel_rfl) (by kernel_rfl) (fun _ _ _ h => h) (Or.inl ⟨by rfl, ?_⟩) (by assumption) ?_
        rotate_left
        · (first | (intro v hSw; (try dsimp only at hSw); go_simp; done) | (intro v hSw; (try dsimp only at hSw); go_simp; with_reducible rfl))
        (try simp only [List.getElem_toArray, List.getElem_cons_succ, List.getElem_cons_zero, Act.put, List.setIfInBounds_toArray, List.set_cons_zero, List.set_cons_succ])
        refine wpAnyH_take (i := 2) (oi := _) (v := ?_) rfl (by kernel_rfl) (by kernel_rfl) (by kernel_rfl) (fun _ _ _ h => h) (Or.inl ⟨by rfl, ?_⟩) (by assumption) ?_
        rotate_left
        · (first | (intro v hSw; (try dsimp only at hSw); go_simp; done) | (intro v hSw; (try dsimp only at hSw); go_simp; with_reducible rfl))
        (try simp only [List.getElem_toArray, List.getElem_cons_succ, List.getElem_cons_zero, Act.put, List.setIfInBounds_toArray, List.set_cons_zero, List.set_cons_succ])
        refine wpAnyH_take (i := 3) (oi := _) (v := ?_) rfl (by kernel_rfl) (by kernel_rfl) (by kernel_rfl) (fun _ _ _ h => h) (Or.inl ⟨by rfl, ?_⟩) (by assumption) ?_
        rotate_left
        · (first | (intro v hSw; (try dsimp only at hSw); go_simp; done) | (intro v hSw; (try dsimp only at hSw); go_simp; with_reducible rfl))
        (try simp only [List.getElem_toArray, List.getElem_cons_succ, List.getElem_cons_zero, Act.put, List.setIfInBounds_toArray, List.set_cons_zero, List.set_cons_succ])
        refine wpAnyH_take (i := 4) (oi := _) (v := ?_) rfl (by kernel_rfl) (by kernel_rfl) (by kernel_rfl) (fun _ _ _ h => h) (Or.inl ⟨by rfl, ?_⟩) (by assumption) ?_
        rotate_left
        · (first | (intro v hSw; (try dsimp only at hSw); go_simp; done) | (intro v hSw; (try dsimp only at hSw); go_simp; with_reducible rfl))
        (try simp only [List.getElem_toArray, List.getElem_cons_succ, List.getElem_cons_zero, Act.put, List.setIfInBounds_toArray, List.set_cons_zero, List.set_cons_succ])
        refine wpAnyH_take (i := 5) (oi := _) (v := ?_) rfl (by kernel_rfl) (by kernel_rfl) (by kernel_rfl) (fun _ _ _ h => h) (Or.inl ⟨by rfl, ?_⟩) (by assumption) ?_
        rotate_left
        · (first | (intro v hSw; (try dsimp only at hSw); go_simp; done) | (intro v hSw; (try dsimp only at hSw); go_simp; with_reducible rfl))
        (try simp only [List.getElem_toArray, List.getElem_cons_succ, List.getElem_cons_zero, Act.put, List.setIfInBounds_toArray, List.set_cons_zero, List.set_cons_succ])
        refine wpAnyH_ready (rs := [1]) (by kernel_rfl) (by simp) ?_
        refine AllReadyH.cons (o := _) rfl (fun K hK => ?_) AllReadyH.nil
        go_simp
        refine hK.out _ _ ?_ (fun hHeld => ?_)
        · ((try dsimp only); with_reducible first | exact HCS.out _ S.below | exact HCS.out _ S2.below)
        clear hK K
        (try simp only [List.getElem_toArray, List.getElem_cons_succ, List.getElem_cons_zero, Act.put, List.setIfInBounds_toArray, List.set_cons_zero, List.set_cons_succ])
        refine wpAnyH_ready (rs := [6]) (by kernel_rfl) (by simp) ?_
        refine AllReadyH.cons (o := _) rfl (fun K hK => ?_) AllReadyH.nil
        go_simp
        (go_at_call 11; (with_reducible refine (does_any S.rk S.ok HOK.out.1).mono ?_); rintro e w5 ⟨rfl, q1, q2⟩; clear r0 r1 r2 r3 r4 r5 r6 r7; have HB2 := Lib.hid (S.below.trans (q2.below (by simpa using S.xl) S.below.size)); have S2 := S.step (S.ok.stp s) q1 q2; have q3 := q2.heap (by have := S.ne; simp; omega) S.bx; have HXF2 := Lib.hid ((stp_floor x s).trans HXF.out); generalize stp x s = y at *; obtain ⟨r0, r1, r2, r3, r4, r5, r6, r7⟩ := r8 q3; have f0 := fofr q3 0; have f1 := fofr q3 1; have f2 := fofr q3 2; have f3 := fofr q3 3; have f4 := fofr q3 4; have f5 := fofr q3 5; have f6 := fofr q3 6; have f7 := fofr q3 7; clear S q1 q2 q3)
        refine hK.out _ _ ?_ (fun hHeld => ?_)
        · ((try dsimp only); exact HCS.out _ HB2.out)
        clear hK K
        (try simp only [List.getElem_toArray, List.getElem_cons_succ, List.getElem_cons_zero, Act.put, List.setIfInBounds_toArray, List.set_cons_zero, List.set_cons_succ])
        refine wpAnyH_take (i := 7) (oi := _) (v := ?_) rfl (by kernel_rfl) (by kernel_rfl) (by kernel_rfl) (fun _ _ _ h => h) (Or.inl ⟨by rfl, ?_⟩) (by assumption) ?_
        rotate_left
        · (first | (intro v hSw; (try dsimp only at hSw); go_simp; done) | (intro v hSw; (try dsimp only at hSw); go_simp; with_reducible rfl))
        (try simp only [List.getElem_toArray, List.getElem_cons_succ, List.getElem_cons_zero, Act.put, List.setIfInBounds_toArray, List.set_cons_zero, List.set_cons_succ])
        refine wpAnyH_take (i := 8) (oi := _) (v := ?_) rfl (by kernel_rfl) (by kernel_rfl) (by kernel_rfl) (fun _ _ _ h => h) (Or.inl ⟨by rfl, ?_⟩) (by assumption) ?_
        rotate_left
        · (first | (intro v hSw; (try dsimp only at hSw); go_simp; done) | (intro v hSw; (try dsimp only at hSw); go_simp; with_reducible rfl))
        (try simp only [List.getElem_toArray, List.getElem_cons_succ, List.getElem_cons_zero, Act.put, List.setIfInBounds_toArray, List.set_cons_zero, List.set_cons_succ])
        refine wpAnyH_take (i := 9) (oi := _) (v := ?_) rfl (by kernel_rfl) (by kernel_rfl) (by kernel_rfl) (fun _ _ _ h => h) (Or.inl ⟨by rfl, ?_⟩) (by assumption) ?_
        rotate_left
        · (first | (intro v hSw; (try dsimp only at hSw); go_simp; done) | (intro v hSw; (try dsimp only at hSw); go_simp; with_reducible rfl))
        (try simp only [List.getElem_toArray, List.getElem_cons_succ, List.getElem_cons_zero, Act.put, List.setIfInBounds_toArray, List.set_cons_zero, List.set_cons_succ])
        refine wpAnyH_ready (rs := [10]) (by kernel_rfl) (by simp) ?_
        refine AllReadyH.cons (o := _) rfl (fun K hK => ?_) AllReadyH.nil
        go_simp
        refine hK.out _ _ ?_ (fun hHeld => ?_)
        · ((try dsimp only); with_reducible first | exact HCS.out _ S.below | exact HCS.out _ S2.below)
        clear hK K
        (try simp only [List.getElem_toArray, List.getElem_cons_succ, List.getElem_cons_zero, Act.put, List.setIfInBounds_toArray, List.set_cons_zero, List.set_cons_succ])
        refine wpAnyH_done (by kernel_rfl) ?_ _
        refine NoPanic.normal ?_
        go_wp2_with fail
        go_roundw
        case rel => exact ⟨k + 1, y, by go_num, by omega, by omega, HXF2.out, S2⟩
        case measure => simp [intOf]; omega
      · have hwb := win_bd S.ok least has srtt sharp
        rw [HXF.out] at hwb
        obtain ⟨hw1, hw2⟩ := hwb
        have HWI := Lib.hid (fun W (q : RkAt W X x) => window_any q S.ok least has srtt sharp)
        have HTI := Lib.hid (rtime_eq srtt)
        have hhb := hld_bd srtt
        generalize win x least has srtt sharp = v at *
        generalize hld srtt = z at *
        have d1 := decide_eq_true hw1
        have d2 := decide_eq_true hw2
        by_cases h1 : k < n
        · have h2 : ¬ k < 100 := by omega
          go_wp2_with (first
            | (go_at_call 13; (with_reducible refine (HWI.out _ S.rk).mono ?_); rintro e w6 ⟨rfl, q6⟩; replace S := S.later q6; clear q6)
            | (go_at_call 26; (with_reducible refine (HTI.out _).mono ?_); rintro e w7 ⟨rfl, rfl⟩)
            | (go_at_call 8; (with_reducible refine (known_b S.below).mono ?_); rintro e w8 ⟨rfl, hb8⟩))
          all_goals
            go_ret
            exact ⟨rfl, hb8⟩
        · go_wp2_with (first
            | (go_at_call 13; (with_reducible refine (HWI.out _ S.rk).mono ?_); rintro e w6 ⟨rfl, q6⟩; replace S := S.later q6; clear q6)
            | (go_at_call 26; (with_reducible refine (HTI.out _).mono ?_); rintro e w7 ⟨rfl, rfl⟩)
            | (go_at_call 8; (with_reducible refine (known_b S.below).mono ?_); rintro e w8 ⟨rfl, hb8⟩))
          all_goals
            go_ret
            exact ⟨rfl, hb8⟩
end Go.Proofs.Ytbeocokkmjckgaa.rk
