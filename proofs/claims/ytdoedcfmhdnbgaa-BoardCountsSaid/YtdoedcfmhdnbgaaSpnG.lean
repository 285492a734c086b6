/-
  Hulls of lists of spans, as the reference has them.
-/
import Derived.Test.YtdoedcfmhdnbgaaSpnH
namespace Go.Proofs.Ytdoedcfmhdnbgaa.sp
open Go.RowKit aid mem
attribute [local go_sem ↓] Go.wp_at_zero Go.wp_at_succ
set_option linter.unusedVariables false

theorem M2.s10 {w0 : World} {B : Nat} {s t : Int × Int} {w : World} (h : M2 w0 B s t w) (x : Int) : M2 w0 B s (x, t.2) (w.setCell ⟨B + 1, 0, none⟩ (.int .i64 x)) := by
  have hk := (Kept.refl [B + 1] w).setCell (p := ⟨B + 1, 0, none⟩) (.inl (by simp)) (.int .i64 x)
  exact ⟨h.b0.keep hk (by simp), h.b1.set0 x, h.below.trans (hk.below (by have := h.le; simp; omega) h.below.size), h.le⟩
theorem M2.s11 {w0 : World} {B : Nat} {s t : Int × Int} {w : World} (h : M2 w0 B s t w) (x : Int) : M2 w0 B s (t.1, x) (w.setCell ⟨B + 1, 1, none⟩ (.int .i64 x)) := by
  have hk := (Kept.refl [B + 1] w).setCell (p := ⟨B + 1, 1, none⟩) (.inl (by simp)) (.int .i64 x)
  exact ⟨h.b0.keep hk (by simp), h.b1.set1 x, h.below.trans (hk.below (by have := h.le; simp; omega) h.below.size), h.le⟩

set_option maxRecDepth 100000 in
set_option maxHeartbeats 3200000 in
theorem rhull_any (l : List (Int × Int)) (a : Option Addr) (n cap : Nat) (w : World) (hl : SlS w a n cap l) : Calls Try.prog 73 #[.slice a n cap] w (RetS (hullP l) w) := by
  have hlen := hl.len
  have hle := hl.le
  have hmost := hl.most
  unfold maxLen at hmost
  have M0 := m2_new w (0, 0) (0, 0)
  by_cases hz : n = 0
  · subst hz
    obtain rfl : l = [] := List.eq_nil_of_length_eq_zero hlen
    have H : Hid (hullP [] = (0, 0)) := Lib.hid rfl
    go_enter Try.func73, Try.ntmps73
    go_wp2_with fail
    generalize (w.alloc (.cells #[.int .i64 0, .int .i64 0] 24)).alloc (.cells #[.int .i64 0, .int .i64 0] 24) = W at *
    generalize w.heap.size = B at M0 ⊢
    go_loopw [4] (fun i wr => i = .int .i64 0 ∧ wr = W) (fun _ _ => 0)
    case atStart => exact ⟨rfl, rfl⟩
    case round =>
      obtain ⟨rfl, rfl⟩ := hrel
      have M3 := M0.put0 0 0
      have c0 := M0.b0.c0; have c1 := M0.b0.c1; have f0 := M0.b0.f0; have f1 := M0.b0.f1
      have d0 := M0.b1.c0; have d1 := M0.b1.c1
      go_wp2_with fail
      have e0 := M3.b0.c0; have e1 := M3.b0.c1
      exact bodyPost_ret (v := spV (0, 0)) (by simp [results, Try.results73, go_sem, e0, e1]) rfl ⟨by rw [H.out], M3.below⟩
  · obtain ⟨b, off, rfl, hc⟩ := hl.cells (by omega)
    have hbl : b < w.heap.size := World.block_lt_of_cell? w _ (hc 0 (by omega)).1
    have HC := Lib.hid hc
    have HL := Lib.hid hlen
    have HS := Lib.hid (hull_take l)
    have HI := Lib.hid (fun k => hullP_inv (l.take k))
    clear hc hlen hl
    go_enter Try.func73, Try.ntmps73
    go_wp2_with fail
    generalize (w.alloc (.cells #[.int .i64 0, .int .i64 0] 24)).alloc (.cells #[.int .i64 0, .int .i64 0] 24) = W at *
    generalize hB : w.heap.size = B at M0 ⊢
    go_loopw [4] (fun i wr => ∃ k : Nat, k ≤ n ∧ i = .int .i64 k ∧ M2 w B (0, 0) (hullP (l.take k)) wr) (fun i _ => n - (intOf i).toNat)
    case atStart => exact ⟨0, Nat.zero_le _, rfl, M0⟩
    case round =>
      clear M0
      obtain ⟨k, hk, rfl, MK⟩ := hrel
      obtain ⟨wo, rfl⟩ : ∃ wo : World, wo = wr := ⟨_, rfl⟩
      by_cases hlt : k < n
      · obtain ⟨x0, x1⟩ := HC.out k hlt
        have hst := HS.out k (by rw [HL.out]; exact hlt)
        have hin := HI.out k
        generalize l.getD k (0, 0) = x at *
        generalize hullP (l.take k) = h at *
        have y0 := (MK.below.cell (p := ⟨b, off + k * 2, none⟩) (by simpa using hbl)).trans x0
        have y1 := (MK.below.cell (p := ⟨b, off + k * 2 + 1, none⟩) (by simpa using hbl)).trans x1
        have n1 := MK.b0.lt; have n2 := MK.b1.lt; have n3 := MK.below.size
        clear x0 x1
        by_cases hx : lenI x = 0
        · have HST : Hid (hullP (l.take (k + 1)) = h) := Lib.hid (by rw [hst, wider_none _ _ hx])
          have hq := len_ofP x
          have hf := rof_any x
          rw [hx] at hq
          generalize ofP x = p at *
          have HF := Lib.hid hf
          have HQ := Lib.hid (rlen_any p)
          have hx1 : (lenI p == 0) = true := by simpa using hq
          clear hst hin hx hq hf
          go_wp2_with fail
          refine (HF.out _).mono ?_
          rintro e w4 ⟨rfl, h4⟩
          have M4 := MK.later h4
          clear MK h4 y0 y1
          go_wp2_with fail
          refine (HQ.out _).mono ?_
          rintro e w5 ⟨rfl, h5⟩
          have M5 := (M4.later (bal (.cells #[.int .i64 p.1, .int .i64 p.2] 24))).later h5
          have X5 := (sp_new w4 p).later h5
          have n6 := M4.b1.lt
          have n7 := X5.lt
          clear h5 M4
          go_wp2_with fail
          go_roundw
          case rel => exact ⟨k + 1, by omega, by go_num, by rw [HST.out]; exact M5⟩
          case measure => simp [intOf]; omega
        · obtain ⟨hsf, hok, hne⟩ := of_self hx
          have hf := rof_any x
          rw [hsf] at hf
          have HF := Lib.hid hf
          have HQ := Lib.hid (rlen_any x)
          have hx1 : (lenI x == 0) = false := by simpa using hx
          clear hsf hf
          by_cases hh : h = (0, 0)
          · have HST : Hid (hullP (l.take (k + 1)) = x) := Lib.hid (by rw [hst, hh, wider_first _ hx])
            subst hh
            have HR := Lib.hid (rlen_any (0, 0))
            have hh1 : (lenI (0, 0) == 0) = true := rfl
            clear hst hin hx hok hne
            go_wp2_with fail
            refine (HF.out _).mono ?_
            rintro e w4 ⟨rfl, h4⟩
            have M4 := MK.later h4
            clear MK h4 y0 y1
            go_wp2_with fail
            refine (HQ.out _).mono ?_
            rintro e w5 ⟨rfl, h5⟩
            have M5 := (M4.later (bal (.cells #[.int .i64 x.1, .int .i64 x.2] 24))).later h5
            have X5 := (sp_new w4 x).later h5
            have n6 := M4.b1.lt
            have n7 := X5.lt
            clear h5 M4
            have d0 := M5.b1.c0; have d1 := M5.b1.c1
            go_wp2_with fail
            refine (HR.out _).mono ?_
            rintro e w6 ⟨rfl, h6⟩
            have M6 := M5.later h6
            have X6 := X5.later h6
            clear h6 M5 X5 d0 d1
            have d0 := M6.b1.c0; have d1 := M6.b1.c1; have g0 := M6.b1.f0; have g1 := M6.b1.f1; have c0 := X6.c0; have c1 := X6.c1
            have M7 := M6.put1 x.1 x.2
            have n8 : w4.heap.size ≠ B + 1 := by omega
            clear M6
            go_wp2_with fail
            go_roundw
            case rel => exact ⟨k + 1, by omega, by go_num, by rw [HST.out]; exact M7⟩
            case measure => simp [intOf]; omega
          · have hh1 : (lenI h == 0) = false := by
              rw [Bool.eq_false_iff]; intro e; exact hh ((inv_len hin).1 (by simpa using e))
            have hst2 := hst.trans (wider_more hx hh)
            have HR := Lib.hid (rlen_any h)
            clear hst hin hx hok hne hh
            by_cases ha : x.1 < h.1
            · by_cases hb : h.2 < x.2
              · have HST : Hid (hullP (l.take (k + 1)) = (x.1, x.2)) := Lib.hid (by rw [hst2]; ext <;> simp <;> omega)
                clear hst2
                go_wp2_with fail
                refine (HF.out _).mono ?_
                rintro e w4 ⟨rfl, h4⟩
                have M4 := MK.later h4
                clear MK h4 y0 y1
                go_wp2_with fail
                refine (HQ.out _).mono ?_
                rintro e w5 ⟨rfl, h5⟩
                have M5 := (M4.later (bal (.cells #[.int .i64 x.1, .int .i64 x.2] 24))).later h5
                have X5 := (sp_new w4 x).later h5
                have n6 := M4.b1.lt
                have n7 := X5.lt
                clear h5 M4
                have d0 := M5.b1.c0; have d1 := M5.b1.c1
                go_wp2_with fail
                refine (HR.out _).mono ?_
                rintro e w6 ⟨rfl, h6⟩
                have M6 := M5.later h6
                have X6 := X5.later h6
                clear h6 M5 X5 d0 d1
                have d0 := M6.b1.c0; have d1 := M6.b1.c1; have g0 := M6.b1.f0; have g1 := M6.b1.f1; have c0 := X6.c0; have c1 := X6.c1
                have M7 := (M6.s10 x.1).s11 x.2
                have n8 : w4.heap.size ≠ B + 1 := by omega
                clear M6
                go_wp2_with fail
                go_roundw
                case rel => exact ⟨k + 1, by omega, by go_num, by rw [HST.out]; exact M7⟩
                case measure => simp [intOf]; omega
              · have HST : Hid (hullP (l.take (k + 1)) = (x.1, h.2)) := Lib.hid (by rw [hst2]; ext <;> simp <;> omega)
                clear hst2
                go_wp2_with fail
                refine (HF.out _).mono ?_
                rintro e w4 ⟨rfl, h4⟩
                have M4 := MK.later h4
                clear MK h4 y0 y1
                go_wp2_with fail
                refine (HQ.out _).mono ?_
                rintro e w5 ⟨rfl, h5⟩
                have M5 := (M4.later (bal (.cells #[.int .i64 x.1, .int .i64 x.2] 24))).later h5
                have X5 := (sp_new w4 x).later h5
                have n6 := M4.b1.lt
                have n7 := X5.lt
                clear h5 M4
                have d0 := M5.b1.c0; have d1 := M5.b1.c1
                go_wp2_with fail
                refine (HR.out _).mono ?_
                rintro e w6 ⟨rfl, h6⟩
                have M6 := M5.later h6
                have X6 := X5.later h6
                clear h6 M5 X5 d0 d1
                have d0 := M6.b1.c0; have d1 := M6.b1.c1; have g0 := M6.b1.f0; have g1 := M6.b1.f1; have c0 := X6.c0; have c1 := X6.c1
                have M7 := M6.s10 x.1
                have n8 : w4.heap.size ≠ B + 1 := by omega
                clear M6
                go_wp2_with fail
                go_roundw
                case rel => exact ⟨k + 1, by omega, by go_num, by rw [HST.out]; exact M7⟩
                case measure => simp [intOf]; omega
            · by_cases hb : h.2 < x.2
              · have HST : Hid (hullP (l.take (k + 1)) = (h.1, x.2)) := Lib.hid (by rw [hst2]; ext <;> simp <;> omega)
                clear hst2
                go_wp2_with fail
                refine (HF.out _).mono ?_
                rintro e w4 ⟨rfl, h4⟩
                have M4 := MK.later h4
                clear MK h4 y0 y1
                go_wp2_with fail
                refine (HQ.out _).mono ?_
                rintro e w5 ⟨rfl, h5⟩
                have M5 := (M4.later (bal (.cells #[.int .i64 x.1, .int .i64 x.2] 24))).later h5
                have X5 := (sp_new w4 x).later h5
                have n6 := M4.b1.lt
                have n7 := X5.lt
                clear h5 M4
                have d0 := M5.b1.c0; have d1 := M5.b1.c1
                go_wp2_with fail
                refine (HR.out _).mono ?_
                rintro e w6 ⟨rfl, h6⟩
                have M6 := M5.later h6
                have X6 := X5.later h6
                clear h6 M5 X5 d0 d1
                have d0 := M6.b1.c0; have d1 := M6.b1.c1; have g0 := M6.b1.f0; have g1 := M6.b1.f1; have c0 := X6.c0; have c1 := X6.c1
                have M7 := (M6).s11 x.2
                have n8 : w4.heap.size ≠ B + 1 := by omega
                clear M6
                go_wp2_with fail
                go_roundw
                case rel => exact ⟨k + 1, by omega, by go_num, by rw [HST.out]; exact M7⟩
                case measure => simp [intOf]; omega
              · have HST : Hid (hullP (l.take (k + 1)) = (h.1, h.2)) := Lib.hid (by rw [hst2]; ext <;> simp <;> omega)
                clear hst2
                go_wp2_with fail
                refine (HF.out _).mono ?_
                rintro e w4 ⟨rfl, h4⟩
                have M4 := MK.later h4
                clear MK h4 y0 y1
                go_wp2_with fail
                refine (HQ.out _).mono ?_
                rintro e w5 ⟨rfl, h5⟩
                have M5 := (M4.later (bal (.cells #[.int .i64 x.1, .int .i64 x.2] 24))).later h5
                have X5 := (sp_new w4 x).later h5
                have n6 := M4.b1.lt
                have n7 := X5.lt
                clear h5 M4
                have d0 := M5.b1.c0; have d1 := M5.b1.c1
                go_wp2_with fail
                refine (HR.out _).mono ?_
                rintro e w6 ⟨rfl, h6⟩
                have M6 := M5.later h6
                have X6 := X5.later h6
                clear h6 M5 X5 d0 d1
                have d0 := M6.b1.c0; have d1 := M6.b1.c1; have g0 := M6.b1.f0; have g1 := M6.b1.f1; have c0 := X6.c0; have c1 := X6.c1
                have M7 := M6
                have n8 : w4.heap.size ≠ B + 1 := by omega
                clear M6
                go_wp2_with fail
                go_roundw
                case rel => exact ⟨k + 1, by omega, by go_num, by rw [HST.out]; exact M7⟩
                case measure => simp [intOf]; omega
      · have hkn : Hid (hullP (l.take k) = hullP l) := Lib.hid (by rw [List.take_of_length_le (by have := HL.out; omega)])
        rw [hkn.out] at MK
        generalize hullP l = h at *
        have M3 := MK.put0 h.1 h.2
        have c0 := MK.b0.c0; have c1 := MK.b0.c1; have f0 := MK.b0.f0; have f1 := MK.b0.f1
        have d0 := MK.b1.c0; have d1 := MK.b1.c1
        clear MK
        go_wp2_with fail
        have e0 := M3.b0.c0; have e1 := M3.b0.c1
        exact bodyPost_ret (v := spV h) (by simp [results, Try.results73, go_sem, e0, e1]) rfl ⟨rfl, M3.below⟩
end Go.Proofs.Ytdoedcfmhdnbgaa.sp
