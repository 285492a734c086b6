/-
  Layer 12's law: whatever values come when.
-/
import Derived.Test.YtgonfdedapnlnaaLowF
import Derived.Deep.CutRange
namespace Go.Proofs.Ytgonfdedapnlnaa.lo
open Go.RowKit aid mem
attribute [local go_sem ↓] Go.wp_at_zero Go.wp_at_succ
set_option linter.unusedVariables false

theorem info_mk : (Try.prog.info? 29).map (fun i => (i.zero, i.size, i.bytes)) = some (some (.agg #[.int .i64 0, .int .i64 0]), 2, 16) := by kernel_rfl
theorem mk_src (X : World) (s : Mk) : Src Try.prog 2 22 (.slice (some ⟨X.heap.size, 0, none⟩) 1 1) 1 [.int .i64 s.1, .int .i64 s.2] (X.alloc (.cells #[.int .i64 s.1, .int .i64 s.2] 29)) := by
  refine Src.ofSlice _ Try.underlying22 ⟨X.heap.size, 0, none⟩ 1 1 _ rfl ?_ (by simp [Value.oneCell'])
  intro j u hu
  have := cell_of_row (X.alloc (.cells #[.int .i64 s.1, .int .i64 s.2] 29)) X.heap.size j _ _ (0, 0) (heap_alloc_new X _)
  have hadd : (⟨X.heap.size, 0, none⟩ : Addr).add j = ⟨X.heap.size, 0 + j, none⟩ := by unfold Addr.add; split <;> simp_all
  rw [hadd, Nat.zero_add, this, ← hu]
  simp
/-- what lies between two rounds, and within one -/
structure TS (w0 : World) (B : Nat) (win last : Int) (had k : List Mk) (m : Nat) (a : Option Addr) (n cap : Nat) (w : World) : Prop where
  ls : LS w0 B win last had k m w
  row : SlR w 29 2 a n cap (mkCells had)
  own : ∀ b ∈ blk a cap, w0.heap.size ≤ b
  nm : n ≤ m
def CL (w : World) (C n0 : Nat) : Prop := ∃ win last a cap, LwAt w C win last a n0 cap
theorem CL.later {w w' : World} {C n0 : Nat} (h : CL w C n0) (hb : Below w.heap.size w w') : CL w' C n0 := by
  obtain ⟨x, y, z, u, h⟩ := h
  exact ⟨x, y, z, u, h.later hb⟩
section
variable {w0 : World} {B : Nat} {win last : Int} {had k : List Mk} {m : Nat} {a : Option Addr} {n cap : Nat} {w : World}
theorem TS.later {w' : World} (h : TS w0 B win last had k m a n cap w) (hb : Below w.heap.size w w') : TS w0 B win last had k m a n cap w' := ⟨h.ls.later hb, h.row.later hb, h.own, h.nm⟩
theorem TS.up (h : TS w0 B win last had k m a n cap w) : TS w0 B win last had k (m + 1) a n cap w :=
  ⟨⟨h.ls.st, h.ls.hk, h.ls.win, by have := h.ls.kl; omega, h.ls.below, h.ls.le⟩, h.row, h.own, by have := h.nm; omega⟩
theorem TS.ma (h : TS w0 B win last had k m a n cap w) : Ma w a n cap had := by
  have hl : had.length = n := by have := h.row.len; rw [mk_len] at this; omega
  refine ⟨hl, h.row.le, h.row.most, fun h0 => ?_⟩
  obtain ⟨g, off, rfl, hc⟩ := h.row.cell (by have := h.row.le; omega)
  refine ⟨g, off, rfl, fun i hi => ?_⟩
  obtain ⟨e0, e1⟩ := mk_get had i (by omega)
  exact ⟨(hc (i * 2) (by omega)).trans e0, by rw [Nat.add_assoc]; exact (hc (i * 2 + 1) (by omega)).trans e1⟩
theorem slr_keepT {w w' : World} {B : Nat} {a : Option Addr} {n cap : Nat} {xs : List Value} (h : SlR w 29 2 a n cap xs) (hB : ∃ win last a n cap, LwAt w B win last a n cap) (hk : KeepT B w w') : SlR w' 29 2 a n cap xs :=
  ⟨h.len, h.le, h.most, fun h0 => by
    obtain ⟨g, off, cur, rfl, hg, h1, h2⟩ := h.rest h0
    refine ⟨g, off, cur, rfl, hk g cur _ (by decide) (fun e => ?_) hg, h1, h2⟩
    subst e
    obtain ⟨_, _, _, _, _, hB⟩ := hB
    unfold LwAt at hB
    rw [hB] at hg
    simp at hg⟩
theorem cl_keepT {w w' : World} {B C n0 : Nat} (h : CL w C n0) (hne : C ≠ B) (hk : KeepT B w w') : CL w' C n0 := by
  obtain ⟨x, y, z, u, h⟩ := h
  exact ⟨x, y, z, u, hk C _ _ (by decide) hne h⟩
theorem mk_ne {w : World} {X : Nat} {cur : Array Value} {t : TypeId} {a : Option Addr} {n cap : Nat} {xs : List Value} (h : SlR w 29 2 a n cap xs) (ht : t ≠ 29) (hx : w.heap[X]? = some (.cells cur t (0, 0))) : X ∉ blk a cap := by
  intro hb
  obtain ⟨_, c2, hc⟩ := h.lt X hb
  rw [hx] at hc
  injection hc with hc
  injection hc with _ hc _
  exact ht hc
/-- behind the append -/
theorem TS.app {w' : World} {a' : Option Addr} {n' cap' : Nat} {had2 : List Mk} (h : LS w0 B win last had2 k m w) (hrow : SlR w 29 2 a n cap (mkCells had)) (hown : ∀ b ∈ blk a cap, w0.heap.size ≤ b) (h2 : SlR w' 29 2 a' n' cap' (mkCells had2)) (hk : Kept (blk a cap) w w')
    (hat : ∀ b ∈ blk a' cap', b ∈ blk a cap ∨ w.heap.size ≤ b) (hm : n' ≤ m) : TS w0 B win last had2 k m a' n' cap' w' := by
  obtain ⟨xa, xn, xc, g1, g2, g3, g4⟩ := h.st
  refine ⟨⟨⟨xa, xn, xc, hk.heap (mk_ne hrow (by decide) g1) g1, ⟨g2.row.keep hk (fun b hb => ?_)⟩, g3, g4⟩, h.hk, h.win, h.kl, h.below.trans (hk.below hown h.below.size), h.le⟩, h2, fun b hb => ?_, hm⟩
  · obtain ⟨_, cur, hc⟩ := g2.row.lt b hb
    exact mk_ne hrow (by decide) hc
  · rcases hat b hb with r | r
    · exact hown b r
    · have := h.below.size; omega
theorem cl_app {w' : World} {C n0 : Nat} (h : CL w C n0) (hrow : SlR w 29 2 a n cap (mkCells had)) (hk : Kept (blk a cap) w w') : CL w' C n0 := by
  obtain ⟨x, y, z, u, h⟩ := h
  exact ⟨x, y, z, u, hk.heap (mk_ne hrow (by decide) h) h⟩
end
theorem cl_len {w : World} {C n0 : Nat} (h : CL w C n0) : Calls Try.prog 9 #[.pointer (some ⟨C, 0, none⟩)] w fun e w' => e = .returned (.int .i64 n0) ∧ w = w' := by
  obtain ⟨x, y, z, u, h⟩ := h
  exact len_any h

theorem min_tail {w0 w : World} {B : Nat} {win last : Int} {had k : List Mk} {m n cap : Nat} {a : Option Addr} (h : TS w0 B win last had k m a n cap w) (hm : m ≤ 1000000) {T x : Int} {bx : Bool} (hT : last ≤ T ∧ T ≤ 4611686018427387904) (hx : max 0 (mn win T had) = x) (hbx : decide (0 ≤ mn win T had) = bx) :
    Calls Try.prog 11 #[.pointer (some ⟨B, 0, none⟩), .int .i64 T] w fun e w' => e = .returned (.tuple #[.int .i64 x, .bool bx]) ∧ Below w.heap.size w w' :=
  (min_ls h.ls hm T hT).mono fun e w' ⟨r1, r2, r3⟩ => ⟨by subst hx hbx; rw [r1, minV, ← h.ls.hk.mn T hT.1], r3⟩
theorem rlen_tail {w0 w : World} {B : Nat} {win last : Int} {had k : List Mk} {m n cap : Nat} {a : Option Addr} (h : TS w0 B win last had k m a n cap w) :
    Calls Try.prog 14 #[.slice a n cap, .int .i64 win, .int .i64 last] w fun e w' => e = .returned (.int .i64 k.length) ∧ Below w.heap.size w w' := by
  rw [← h.ls.hk.len h.ls.win.1]
  exact rlen_any h.ma h.ls.hk.had win last h.ls.win h.ls.hk.last
set_option maxRecDepth 100000 in
set_option maxHeartbeats 20000000 in
theorem walk_LowPlays (w : World) (win : Int) (hwin : -9223372036854775808 ≤ win ∧ win ≤ 9223372036854775807) (a : Option Addr) (n cap : Nat) (l : List Mk) (hl : Ma w a n cap l) (ah : Int) (hah : -9223372036854775808 ≤ ah ∧ ah ≤ 9223372036854775807) :
    Calls Try.prog 3 #[.int .i64 win, .slice a n cap, .int .i64 ah] w fun x w' => x = .returned (.bool true) ∧ Below w.heap.size w w' := by
  obtain ⟨i0, hi, hz0, hz1, hz2⟩ := info_split info_mk
  have hb := Below.refl w.heap.size w
  have hle := hl.le
  have hmost := hl.most
  unfold maxLen at hmost
  have HC := Lib.hid hl.cells
  clear hl
  by_cases hw : 1 ≤ win ∧ win ≤ 4611686018427387904
  case neg =>
    have HN := Lib.hid (fun W => new_bad (w := W) hw)
    go_enter Try.func3, Try.ntmps3
    by_cases hw1 : win < 1
    · clear hw
      go_wp2_with (first
        | (go_at_call 6; (with_reducible refine (known_b hb).mono ?_); clear hb; rintro e w1 ⟨rfl, hb⟩)
        | (go_at_call 7; (with_reducible refine (HN.out _).mono ?_); rintro e w2 ⟨rfl, rfl⟩))
      go_ret
      exact ⟨rfl, hb⟩
    · have hw2 : 4611686018427387904 < win := by omega
      clear hw
      go_wp2_with (first
        | (go_at_call 6; (with_reducible refine (known_b hb).mono ?_); clear hb; rintro e w1 ⟨rfl, hb⟩)
        | (go_at_call 7; (with_reducible refine (HN.out _).mono ?_); rintro e w2 ⟨rfl, rfl⟩))
      go_ret
      exact ⟨rfl, hb⟩
  case pos =>
    have HNE := Lib.hid hw
    obtain ⟨hw1, hw2⟩ := hw
    go_enter Try.func3, Try.ntmps3
    go_wp2_with (first
      | (go_at_call 6; (with_reducible refine (known_b hb).mono ?_); clear hb; rintro e w1 ⟨rfl, hb⟩)
      | (go_at_call 7; (with_reducible refine (new_ls hb HNE.out).mono ?_); clear hb; rintro x w1 ⟨b, rfl, S, q1, q2⟩; clear q1 q2))
    go_loopw [9, 10, 11] (fun s9 s10 i wr => ∃ (j : Nat) (last : Int) (had k : List Mk) (a1 : Option Addr) (n1 c1 : Nat), i = .int .i64 j ∧ s9 = .slice a1 n1 c1 ∧ s10 = .int .i64 last ∧ j ≤ n ∧ j ≤ 100 ∧ TS w b win last had k j a1 n1 c1 wr) (fun _ _ i _ => 100 - (intOf i).toNat)
    case atStart => exact ⟨0, 0, [], [], none, 0, 0, rfl, rfl, rfl, by omega, by omega, ⟨S, SlR.nil _ _ _, fun b hb => by simp [blk_zero] at hb, by omega⟩⟩
    case round =>
      clear S
      obtain ⟨j, last, had, k, a1, n1, c1', rfl, rfl, rfl, hj, hj2, S⟩ := hrel
      by_cases hlt : j < n ∧ j < 100
      · obtain ⟨h1, h2⟩ := hlt
        obtain ⟨B, off, rfl, hc⟩ := HC.out (by omega)
        have HCC := Lib.hid (hc j h1)
        have c0 := cell_later S.ls.below HCC.out.1
        have c1 := cell_later S.ls.below HCC.out.2
        have hla := S.ls.hk.last
        obtain ⟨hla0, hla1⟩ := hla
        clear hc
        generalize l.getD j (0, 0) = mm at *
        obtain ⟨t, v⟩ := mm
        dsimp only at *
        by_cases hr : last ≤ t ∧ t ≤ 4611686018427387904 ∧ 0 ≤ v ∧ v ≤ 4611686018427387904
        · obtain ⟨r1, r2, r3, r4⟩ := hr
          have HA := Lib.hid (fun W (S : LS w b win last had k j W) => add_ls S (by omega) t v r1 r2 r3 r4)
          have HCL := Lib.hid (fun W (S : LS w b win last had k j W) => clone_ls S (by omega))
          go_wp2_with (first
            | (go_at_call 8; (with_reducible refine (HCL.out _ S.ls).mono ?_); rintro x w3 ⟨C, a', cap', rfl, hC, _, hb3, hCB⟩; have hCL : CL w3 C k.length := ⟨_, _, _, _, hC⟩; have hne : C ≠ b := (fun e => by obtain ⟨_, _, _, g1, _⟩ := S.ls.st; have := lt_of_block g1; omega); replace S := S.later hb3; clear hb3 hC hCB; clear c0 c1; have c0 := cell_later S.ls.below HCC.out.1; have c1 := cell_later S.ls.below HCC.out.2)
            | (go_at_call 9; (with_reducible refine (cl_len hCL).mono ?_); rintro x w4 ⟨rfl, rfl⟩)
            | fail)
          replace S := S.later (Below.refl w3.heap.size w3).drew
          replace hCL := hCL.later (Below.refl w3.heap.size w3).drew
          go_region_held3 (fun w' => w'.cell? ⟨B, off + j * 2, none⟩ = some (.int .i64 t) ∧ w'.cell? ⟨B, off + j * 2 + 1, none⟩ = some (.int .i64 v)) (first | go_keep | exact ⟨cell_later L5.below HCC.out.1, cell_later L5.below HCC.out.2⟩)
            ((go_at_call 10; (with_reducible refine (HA.out _ S.ls).mono ?_); rintro x w5 ⟨rfl, L5, q1, q2⟩; have R5 := slr_keepT S.row (by obtain ⟨_, _, _, g1, _⟩ := S.ls.st; exact ⟨_, _, _, _, _, g1⟩) q1; replace hCL := cl_keepT hCL hne q1; have hown := S.own; have hnm := S.nm; clear S q1 q2))
          clear c0 c1
          have c0 := cell_later L5.below HCC.out.1
          have c1 := cell_later L5.below HCC.out.2
          have hal : Below w5.heap.size w5 (w5.alloc (.cells #[.int .i64 t, .int .i64 v] 29)) := (Below.refl _ _).alloc (Nat.le_refl _) _
          have HAP := Lib.hid (fun a' cap' W (h2 : SlR W 29 2 a' (n1 + 1) cap' (mkCells had ++ [.int .i64 t, .int .i64 v])) (hk : Kept (blk a1 c1') (w5.alloc (.cells #[.int .i64 t, .int .i64 v] 29)) W) (hat : ∀ b ∈ blk a' cap', b ∈ blk a1 c1' ∨ (w5.alloc (.cells #[.int .i64 t, .int .i64 v] 29)).heap.size ≤ b) =>
            And.intro (TS.app (had2 := had ++ [(t, v)]) (L5.later hal) (R5.later hal) hown (by rw [mk_append]; exact h2) hk hat (by omega)) (cl_app (had := had) (hCL.later hal) (R5.later hal) hk))
          have HR5 := Lib.hid (R5.later hal)
          clear hal R5 hown hCL
          go_upto_region 21 with (at_builtin; go_must (refine wpList_append_slr _ rfl (.tmp 118) (.tmp 123) 22 22 rfl 29 i0 (.agg #[.int .i64 0, .int .i64 0]) 2 16 Try.underlying22 hi hz0 hz1 (by decide) hz2 rfl a1 n1 c1' (mkCells had) rfl HR5.out _ rfl 1 (by decide) [.int .i64 t, .int .i64 v] (mk_src w5 (t, v)) (by unfold maxLen; omega) (by omega) ?_); intro a6 c6 w6 hrow hkp hat; obtain ⟨S, hCL⟩ := HAP.out a6 c6 w6 hrow hkp hat; clear hrow hkp hat)
          clear HAP HR5 HA HCL L5 c0 c1
          have c0 := cell_later S.ls.below HCC.out.1
          generalize kstep win k (t, v) = k2 at *
          generalize had ++ [(t, v)] = had2 at *
          generalize n1 + 1 = n6 at *
          by_cases hah0 : 0 ≤ ah
          · by_cases hah1 : ah ≤ 4611686018427387904 - t
            · have HMI := Lib.hid (fun W x bx (hx : max 0 (mn win (t + ah) had2) = x) (hbx : decide (0 ≤ mn win (t + ah) had2) = bx) (S : TS w b win t had2 k2 (j + 1) a6 n6 c6 W) => min_tail S (by omega) (by omega) hx hbx)
              have HRM := Lib.hid (fun W (S : TS w b win t had2 k2 (j + 1) a6 n6 c6 W) => rmin_any S.ma S.ls.hk.had win (t + ah) S.ls.win (by omega))
              have HB1 := mn_bd win (t + ah) t had2 S.ls.hk.had
              generalize mn win (t + ah) had2 = hv at *
              by_cases hv0 : 0 ≤ hv
              all_goals
                first
                  | have HMI := Lib.hid (fun W => HMI.out W hv true (by omega) (by simpa using hv0))
                  | have HMI := Lib.hid (fun W => HMI.out W 0 false (by omega) (by simpa using hv0))
                go_wp2_with (first
                  | (go_at_call 11; (with_reducible refine (HMI.out _ S).mono ?_); rintro x w7 ⟨rfl, hb7⟩; replace S := S.later hb7; replace hCL := hCL.later hb7; clear hb7)
                  | (go_at_call 12; (with_reducible refine (HRM.out _ S).mono ?_); rintro x w7 ⟨rfl, rfl⟩)
                  | (go_at_call 13; (with_reducible refine (last_ls S.ls).mono ?_); rintro x w7 ⟨rfl, rfl⟩)
                  | (go_at_call 9; (with_reducible refine (len_ls S.ls).mono ?_); rintro x w7 ⟨rfl, rfl⟩)
                  | (go_at_call 9; (with_reducible refine (cl_len hCL).mono ?_); rintro x w7 ⟨rfl, rfl⟩)
                  | (go_at_call 14; (with_reducible refine (rlen_tail S).mono ?_); rintro x w7 ⟨rfl, hb7⟩; replace S := S.later hb7; replace hCL := hCL.later hb7; clear hb7))
                go_roundw
                case rel => exact ⟨j + 1, t, had2, k2, a6, n6, c6, by go_num, rfl, rfl, by omega, by omega, S⟩
                case measure => simp [intOf]; omega

            · have HMI := Lib.hid (fun W x bx (hx : max 0 (mn win (t) had2) = x) (hbx : decide (0 ≤ mn win (t) had2) = bx) (S : TS w b win t had2 k2 (j + 1) a6 n6 c6 W) => min_tail S (by omega) (by omega) hx hbx)
              have HRM := Lib.hid (fun W (S : TS w b win t had2 k2 (j + 1) a6 n6 c6 W) => rmin_any S.ma S.ls.hk.had win (t) S.ls.win (by omega))
              have HB1 := mn_bd win (t) t had2 S.ls.hk.had
              generalize mn win (t) had2 = hv at *
              by_cases hv0 : 0 ≤ hv
              all_goals
                first
                  | have HMI := Lib.hid (fun W => HMI.out W hv true (by omega) (by simpa using hv0))
                  | have HMI := Lib.hid (fun W => HMI.out W 0 false (by omega) (by simpa using hv0))
                go_wp2_with (first
                  | (go_at_call 11; (with_reducible refine (HMI.out _ S).mono ?_); rintro x w7 ⟨rfl, hb7⟩; replace S := S.later hb7; replace hCL := hCL.later hb7; clear hb7)
                  | (go_at_call 12; (with_reducible refine (HRM.out _ S).mono ?_); rintro x w7 ⟨rfl, rfl⟩)
                  | (go_at_call 13; (with_reducible refine (last_ls S.ls).mono ?_); rintro x w7 ⟨rfl, rfl⟩)
                  | (go_at_call 9; (with_reducible refine (len_ls S.ls).mono ?_); rintro x w7 ⟨rfl, rfl⟩)
                  | (go_at_call 9; (with_reducible refine (cl_len hCL).mono ?_); rintro x w7 ⟨rfl, rfl⟩)
                  | (go_at_call 14; (with_reducible refine (rlen_tail S).mono ?_); rintro x w7 ⟨rfl, hb7⟩; replace S := S.later hb7; replace hCL := hCL.later hb7; clear hb7))
                go_roundw
                case rel => exact ⟨j + 1, t, had2, k2, a6, n6, c6, by go_num, rfl, rfl, by omega, by omega, S⟩
                case measure => simp [intOf]; omega

          · have HMI := Lib.hid (fun W x bx (hx : max 0 (mn win (t) had2) = x) (hbx : decide (0 ≤ mn win (t) had2) = bx) (S : TS w b win t had2 k2 (j + 1) a6 n6 c6 W) => min_tail S (by omega) (by omega) hx hbx)
            have HRM := Lib.hid (fun W (S : TS w b win t had2 k2 (j + 1) a6 n6 c6 W) => rmin_any S.ma S.ls.hk.had win (t) S.ls.win (by omega))
            have HB1 := mn_bd win (t) t had2 S.ls.hk.had
            generalize mn win (t) had2 = hv at *
            by_cases hv0 : 0 ≤ hv
            all_goals
              first
                | have HMI := Lib.hid (fun W => HMI.out W hv true (by omega) (by simpa using hv0))
                | have HMI := Lib.hid (fun W => HMI.out W 0 false (by omega) (by simpa using hv0))
              go_wp2_with (first
                | (go_at_call 11; (with_reducible refine (HMI.out _ S).mono ?_); rintro x w7 ⟨rfl, hb7⟩; replace S := S.later hb7; replace hCL := hCL.later hb7; clear hb7)
                | (go_at_call 12; (with_reducible refine (HRM.out _ S).mono ?_); rintro x w7 ⟨rfl, rfl⟩)
                | (go_at_call 13; (with_reducible refine (last_ls S.ls).mono ?_); rintro x w7 ⟨rfl, rfl⟩)
                | (go_at_call 9; (with_reducible refine (len_ls S.ls).mono ?_); rintro x w7 ⟨rfl, rfl⟩)
                | (go_at_call 9; (with_reducible refine (cl_len hCL).mono ?_); rintro x w7 ⟨rfl, rfl⟩)
                | (go_at_call 14; (with_reducible refine (rlen_tail S).mono ?_); rintro x w7 ⟨rfl, hb7⟩; replace S := S.later hb7; replace hCL := hCL.later hb7; clear hb7))
              go_roundw
              case rel => exact ⟨j + 1, t, had2, k2, a6, n6, c6, by go_num, rfl, rfl, by omega, by omega, S⟩
              case measure => simp [intOf]; omega

        · have HA := Lib.hid (fun W (S : LS w b win last had k j W) => add_bad_ls S t v (by omega))
          have HCL := Lib.hid (fun W (S : LS w b win last had k j W) => clone_ls S (by omega))
          go_upto_region 13 with (fail)
          go_cut [12] from 48 to 192 (fun s12 wx => s12 = .bool false ∧ wx = wr)
          case first =>
            by_cases q1 : last ≤ t
            · by_cases q2 : t ≤ 4611686018427387904
              · by_cases q3 : 0 ≤ v
                · have q4 : ¬ v ≤ 4611686018427387904 := by omega
                  go_wp2_with fail
                  go_meet
                  exact ⟨rfl, rfl⟩
                · go_wp2_with fail
                  go_meet
                  exact ⟨rfl, rfl⟩
              · go_wp2_with fail
                go_meet
                exact ⟨rfl, rfl⟩
            · go_wp2_with fail
              go_meet
              exact ⟨rfl, rfl⟩
          case rest =>
          obtain ⟨rfl, rfl⟩ := hcut
          have HR := Lib.hid hr
          clear hr
          go_wp2_with (first
            | (go_at_call 8; (with_reducible refine (HCL.out _ S.ls).mono ?_); rintro x w3 ⟨C, a', cap', rfl, hC, _, hb3, hCB⟩; have hCL : CL w3 C k.length := ⟨_, _, _, _, hC⟩; have hne : C ≠ b := (fun e => by obtain ⟨_, _, _, g1, _⟩ := S.ls.st; have := lt_of_block g1; omega); replace S := S.later hb3; clear hb3 hC hCB; clear c0 c1; have c0 := cell_later S.ls.below HCC.out.1; have c1 := cell_later S.ls.below HCC.out.2)
            | (go_at_call 9; (with_reducible refine (cl_len hCL).mono ?_); rintro x w4 ⟨rfl, rfl⟩)
            | fail)
          replace S := S.later (Below.refl w3.heap.size w3).drew
          replace hCL := hCL.later (Below.refl w3.heap.size w3).drew
          go_region_held3 (fun w' => w'.cell? ⟨B, off + j * 2, none⟩ = some (.int .i64 t) ∧ w'.cell? ⟨B, off + j * 2 + 1, none⟩ = some (.int .i64 v)) (first | go_keep | exact ⟨cell_later S.ls.below HCC.out.1, cell_later S.ls.below HCC.out.2⟩)
            ((go_at_call 10; (with_reducible refine (HA.out _ S.ls).mono ?_); rintro x w5 ⟨rfl, _, q1⟩; replace S := S.later q1; replace hCL := hCL.later q1; clear q1))
          replace S := S.up
          clear HA HCL c0 c1
          by_cases hah0 : 0 ≤ ah
          · by_cases hah1 : ah ≤ 4611686018427387904 - last
            · have HMI := Lib.hid (fun W x bx (hx : max 0 (mn win (last + ah) had) = x) (hbx : decide (0 ≤ mn win (last + ah) had) = bx) (S : TS w b win last had k (j + 1) a1 n1 c1' W) => min_tail S (by omega) (by omega) hx hbx)
              have HRM := Lib.hid (fun W (S : TS w b win last had k (j + 1) a1 n1 c1' W) => rmin_any S.ma S.ls.hk.had win (last + ah) S.ls.win (by omega))
              have HB1 := mn_bd win (last + ah) last had S.ls.hk.had
              generalize mn win (last + ah) had = hv at *
              by_cases hv0 : 0 ≤ hv
              all_goals
                first
                  | have HMI := Lib.hid (fun W => HMI.out W hv true (by omega) (by simpa using hv0))
                  | have HMI := Lib.hid (fun W => HMI.out W 0 false (by omega) (by simpa using hv0))
                go_wp2_with (first
                  | (go_at_call 11; (with_reducible refine (HMI.out _ S).mono ?_); rintro x w7 ⟨rfl, hb7⟩; replace S := S.later hb7; replace hCL := hCL.later hb7; clear hb7)
                  | (go_at_call 12; (with_reducible refine (HRM.out _ S).mono ?_); rintro x w7 ⟨rfl, rfl⟩)
                  | (go_at_call 13; (with_reducible refine (last_ls S.ls).mono ?_); rintro x w7 ⟨rfl, rfl⟩)
                  | (go_at_call 9; (with_reducible refine (len_ls S.ls).mono ?_); rintro x w7 ⟨rfl, rfl⟩)
                  | (go_at_call 9; (with_reducible refine (cl_len hCL).mono ?_); rintro x w7 ⟨rfl, rfl⟩)
                  | (go_at_call 14; (with_reducible refine (rlen_tail S).mono ?_); rintro x w7 ⟨rfl, hb7⟩; replace S := S.later hb7; replace hCL := hCL.later hb7; clear hb7))
                go_roundw
                case rel => exact ⟨j + 1, last, had, k, a1, n1, c1', by go_num, rfl, rfl, by omega, by omega, S⟩
                case measure => simp [intOf]; omega

            · have HMI := Lib.hid (fun W x bx (hx : max 0 (mn win (last) had) = x) (hbx : decide (0 ≤ mn win (last) had) = bx) (S : TS w b win last had k (j + 1) a1 n1 c1' W) => min_tail S (by omega) (by omega) hx hbx)
              have HRM := Lib.hid (fun W (S : TS w b win last had k (j + 1) a1 n1 c1' W) => rmin_any S.ma S.ls.hk.had win (last) S.ls.win (by omega))
              have HB1 := mn_bd win (last) last had S.ls.hk.had
              generalize mn win (last) had = hv at *
              by_cases hv0 : 0 ≤ hv
              all_goals
                first
                  | have HMI := Lib.hid (fun W => HMI.out W hv true (by omega) (by simpa using hv0))
                  | have HMI := Lib.hid (fun W => HMI.out W 0 false (by omega) (by simpa using hv0))
                go_wp2_with (first
                  | (go_at_call 11; (with_reducible refine (HMI.out _ S).mono ?_); rintro x w7 ⟨rfl, hb7⟩; replace S := S.later hb7; replace hCL := hCL.later hb7; clear hb7)
                  | (go_at_call 12; (with_reducible refine (HRM.out _ S).mono ?_); rintro x w7 ⟨rfl, rfl⟩)
                  | (go_at_call 13; (with_reducible refine (last_ls S.ls).mono ?_); rintro x w7 ⟨rfl, rfl⟩)
                  | (go_at_call 9; (with_reducible refine (len_ls S.ls).mono ?_); rintro x w7 ⟨rfl, rfl⟩)
                  | (go_at_call 9; (with_reducible refine (cl_len hCL).mono ?_); rintro x w7 ⟨rfl, rfl⟩)
                  | (go_at_call 14; (with_reducible refine (rlen_tail S).mono ?_); rintro x w7 ⟨rfl, hb7⟩; replace S := S.later hb7; replace hCL := hCL.later hb7; clear hb7))
                go_roundw
                case rel => exact ⟨j + 1, last, had, k, a1, n1, c1', by go_num, rfl, rfl, by omega, by omega, S⟩
                case measure => simp [intOf]; omega

          · have HMI := Lib.hid (fun W x bx (hx : max 0 (mn win (last) had) = x) (hbx : decide (0 ≤ mn win (last) had) = bx) (S : TS w b win last had k (j + 1) a1 n1 c1' W) => min_tail S (by omega) (by omega) hx hbx)
            have HRM := Lib.hid (fun W (S : TS w b win last had k (j + 1) a1 n1 c1' W) => rmin_any S.ma S.ls.hk.had win (last) S.ls.win (by omega))
            have HB1 := mn_bd win (last) last had S.ls.hk.had
            generalize mn win (last) had = hv at *
            by_cases hv0 : 0 ≤ hv
            all_goals
              first
                | have HMI := Lib.hid (fun W => HMI.out W hv true (by omega) (by simpa using hv0))
                | have HMI := Lib.hid (fun W => HMI.out W 0 false (by omega) (by simpa using hv0))
              go_wp2_with (first
                | (go_at_call 11; (with_reducible refine (HMI.out _ S).mono ?_); rintro x w7 ⟨rfl, hb7⟩; replace S := S.later hb7; replace hCL := hCL.later hb7; clear hb7)
                | (go_at_call 12; (with_reducible refine (HRM.out _ S).mono ?_); rintro x w7 ⟨rfl, rfl⟩)
                | (go_at_call 13; (with_reducible refine (last_ls S.ls).mono ?_); rintro x w7 ⟨rfl, rfl⟩)
                | (go_at_call 9; (with_reducible refine (len_ls S.ls).mono ?_); rintro x w7 ⟨rfl, rfl⟩)
                | (go_at_call 9; (with_reducible refine (cl_len hCL).mono ?_); rintro x w7 ⟨rfl, rfl⟩)
                | (go_at_call 14; (with_reducible refine (rlen_tail S).mono ?_); rintro x w7 ⟨rfl, hb7⟩; replace S := S.later hb7; replace hCL := hCL.later hb7; clear hb7))
              go_roundw
              case rel => exact ⟨j + 1, last, had, k, a1, n1, c1', by go_num, rfl, rfl, by omega, by omega, S⟩
              case measure => simp [intOf]; omega

      · by_cases h1 : j < n
        · have h2 : ¬ j < 100 := by omega
          go_wp2_with (go_at_call 6; (with_reducible refine (known_b S.ls.below).mono ?_); rintro e w5 ⟨rfl, hb⟩)
          go_ret
          exact ⟨rfl, hb⟩
        · go_wp2_with (go_at_call 6; (with_reducible refine (known_b S.ls.below).mono ?_); rintro e w5 ⟨rfl, hb⟩)
          go_ret
          exact ⟨rfl, hb⟩
end Go.Proofs.Ytgonfdedapnlnaa.lo
