/-
  Package probe: ask, Told.
-/
import Derived.Test.YtbmbibkomedooaaPrbA
namespace Go.Proofs.Ytbmbibkomedooaa.pb
open Go.RowKit aid mem sp
attribute [local go_sem ↓] Go.wp_at_zero Go.wp_at_succ
set_option linter.unusedVariables false

/-- what is said by the last so many questions -/
def restN (p : Pb) (ack : Int) (isDup : Bool) (d : Int × Int) (bare : Bool) : Nat → Int
  | 0 => 0
  | n + 1 => if qB p ack isDup d bare (4 - n) then qV (4 - n) else restN p ack isDup d bare n
theorem rest_all (p : Pb) (ack : Int) (isDup : Bool) (d : Int × Int) (bare : Bool) : restN p ack isDup d bare 5 = asks p ack isDup d bare := rfl
theorem ask1 {B n0 n1 n2 n3 n4 : Nat} {p : Pb} {ack : Int} {isDup : Bool} {d : Int × Int} {bare : Bool} {w : World} (h : AS B n0 n1 n2 n3 n4 p ack isDup d bare w) : Calls Try.prog 23 #[.pointer (some ⟨n0, 0, none⟩), .pointer (some ⟨n2, 0, none⟩), .pointer (some ⟨n3, 0, none⟩)] w (RetB (qB p ack isDup d bare 0) w) := by
  by_cases h0 : p.again = false ∨ isDup = false
  · exact ask1_off h h0
  · obtain ⟨on, again, fin⟩ := p
    obtain ⟨d1, d2⟩ := d
    cases again with
    | false => simp at h0
    | true =>
      cases isDup with
      | false => simp at h0
      | true => exact ask1_on h
theorem as_new {w : World} {B : Nat} {p : Pb} (h : PbAt w B p) (ack : Int) (isDup : Bool) (d : Int × Int) (bare : Bool) :
    AS B w.heap.size (w.heap.size + 1) (w.heap.size + 1 + 1) (w.heap.size + 1 + 1 + 1) (w.heap.size + 1 + 1 + 1 + 1) p ack isDup d bare (((((w.alloc (.cells #[.pointer (some ⟨B, 0, none⟩)] 44)).alloc (.cells #[.int .i64 ack] 3)).alloc (.cells #[.bool isDup] 4)).alloc (.cells #[.int .i64 d.1, .int .i64 d.2] 31)).alloc (.cells #[.bool bare] 4)) ∧ Below w.heap.size w (((((w.alloc (.cells #[.pointer (some ⟨B, 0, none⟩)] 44)).alloc (.cells #[.int .i64 ack] 3)).alloc (.cells #[.bool isDup] 4)).alloc (.cells #[.int .i64 d.1, .int .i64 d.2] 31)).alloc (.cells #[.bool bare] 4)) := by
  have y0 := heap_alloc_new w (.cells #[.pointer (some ⟨B, 0, none⟩)] 44)
  have b0 := bal (w := w) (.cells #[.pointer (some ⟨B, 0, none⟩)] 44)
  have z0 : (w.alloc (.cells #[.pointer (some ⟨B, 0, none⟩)] 44)).heap.size = w.heap.size + 1 := by simp
  generalize w.alloc (.cells #[.pointer (some ⟨B, 0, none⟩)] 44) = w1 at *
  have y1 := heap_alloc_new w1 (.cells #[.int .i64 ack] 3)
  have b1 := bal (w := w1) (.cells #[.int .i64 ack] 3)
  have z1 : (w1.alloc (.cells #[.int .i64 ack] 3)).heap.size = w.heap.size + 1 + 1 := by simp [z0]
  generalize w1.alloc (.cells #[.int .i64 ack] 3) = w2 at *
  have y2 := heap_alloc_new w2 (.cells #[.bool isDup] 4)
  have b2 := bal (w := w2) (.cells #[.bool isDup] 4)
  have z2 : (w2.alloc (.cells #[.bool isDup] 4)).heap.size = w.heap.size + 1 + 1 + 1 := by simp [z1]
  generalize w2.alloc (.cells #[.bool isDup] 4) = w3 at *
  have y3 := heap_alloc_new w3 (.cells #[.int .i64 d.1, .int .i64 d.2] 31)
  have b3 := bal (w := w3) (.cells #[.int .i64 d.1, .int .i64 d.2] 31)
  have z3 : (w3.alloc (.cells #[.int .i64 d.1, .int .i64 d.2] 31)).heap.size = w.heap.size + 1 + 1 + 1 + 1 := by simp [z2]
  generalize w3.alloc (.cells #[.int .i64 d.1, .int .i64 d.2] 31) = w4 at *
  have y4 := heap_alloc_new w4 (.cells #[.bool bare] 4)
  have b4 := bal (w := w4) (.cells #[.bool bare] 4)
  generalize w4.alloc (.cells #[.bool bare] 4) = w5 at *
  have b04 := b3.trans (b4.mono b3.size)
  have b14 := b2.trans (b04.mono b2.size)
  have b24 := b1.trans (b14.mono b1.size)
  have b34 := b0.trans (b24.mono b0.size)
  rw [z0] at y1; rw [z1] at y2; rw [z2] at y3; rw [z3] at y4
  exact ⟨⟨h.later b34, (b24.block _ (by omega)).trans y0, (b14.block _ (by omega)).trans y1, (b04.block _ (by omega)).trans y2, (b4.block _ (by omega)).trans y3, y4⟩, b34⟩
abbrev fn1 (n0 n2 n3 : Nat) : Value := .func (.func 23) #[] #[.pointer (some ⟨n0, 0, none⟩), .pointer (some ⟨n2, 0, none⟩), .pointer (some ⟨n3, 0, none⟩)]
abbrev fn2 (n0 n1 : Nat) : Value := .func (.func 25) #[] #[.pointer (some ⟨n1, 0, none⟩), .pointer (some ⟨n0, 0, none⟩)]
abbrev fn3 (n0 : Nat) : Value := .func (.func 26) #[] #[.pointer (some ⟨n0, 0, none⟩)]
abbrev fn4 (n0 n1 : Nat) : Value := .func (.func 27) #[] #[.pointer (some ⟨n1, 0, none⟩), .pointer (some ⟨n0, 0, none⟩)]
abbrev fn5 (n4 : Nat) : Value := .func (.func 28) #[] #[.pointer (some ⟨n4, 0, none⟩)]
abbrev qs (n0 n1 n2 n3 n4 : Nat) : Value := .agg #[.int .i64 1, fn1 n0 n2 n3, .int .i64 0, fn2 n0 n1, .int .i64 1, fn3 n0, .int .i64 2, fn4 n0 n1, .int .i64 1, fn5 n4]
theorem q_i0 (n0 n1 n2 n3 n4 : Nat) (w : World) : (Instr.index 52 (qs n0 n1 n2 n3 n4) (.int .i64 0)).run Try.prog w = .ok (.agg #[.int .i64 1, fn1 n0 n2 n3]) w := by kernel_rfl
theorem q_i1 (n0 n1 n2 n3 n4 : Nat) (w : World) : (Instr.index 52 (qs n0 n1 n2 n3 n4) (.int .i64 1)).run Try.prog w = .ok (.agg #[.int .i64 0, fn2 n0 n1]) w := by kernel_rfl
theorem q_i2 (n0 n1 n2 n3 n4 : Nat) (w : World) : (Instr.index 52 (qs n0 n1 n2 n3 n4) (.int .i64 2)).run Try.prog w = .ok (.agg #[.int .i64 1, fn3 n0]) w := by kernel_rfl
theorem q_i3 (n0 n1 n2 n3 n4 : Nat) (w : World) : (Instr.index 52 (qs n0 n1 n2 n3 n4) (.int .i64 3)).run Try.prog w = .ok (.agg #[.int .i64 2, fn4 n0 n1]) w := by kernel_rfl
theorem q_i4 (n0 n1 n2 n3 n4 : Nat) (w : World) : (Instr.index 52 (qs n0 n1 n2 n3 n4) (.int .i64 4)).run Try.prog w = .ok (.agg #[.int .i64 1, fn5 n4]) w := by kernel_rfl
set_option maxRecDepth 100000 in
set_option maxHeartbeats 4000000 in
theorem ask_any {w : World} {B : Nat} {p : Pb} (h : PbAt w B p) (ack : Int) (isDup : Bool) (d : Int × Int) (bare : Bool) :
    Calls Try.prog 21 #[.pointer (some ⟨B, 0, none⟩), .int .i64 ack, .bool isDup, spV d, .bool bare] w (RetI (asks p ack isDup d bare) w) := by
  have HA := Lib.hid (as_new h ack isDup d bare)
  have HR := Lib.hid (rest_all p ack isDup d bare)
  generalize asks p ack isDup d bare = res at *
  go_enter Try.func21, Try.ntmps21
  go_wp2_with fail
  obtain ⟨H, hb⟩ := HA.out
  clear HA
  generalize hW : ((((w.alloc (.cells #[.pointer (some ⟨B, 0, none⟩)] 44)).alloc (.cells #[.int .i64 ack] 3)).alloc (.cells #[.bool isDup] 4)).alloc (.cells #[.int .i64 d.1, .int .i64 d.2] 31)).alloc (.cells #[.bool bare] 4) = W at *
  have hs : W.heap.size = w.heap.size + 1 + 1 + 1 + 1 + 1 := by rw [← hW]; simp
  clear hW
  obtain ⟨n0, hn0⟩ : ∃ n, w.heap.size = n := ⟨_, rfl⟩
  rw [hn0] at H hs ⊢
  obtain ⟨n1, hn1⟩ : ∃ n, n0 + 1 = n := ⟨_, rfl⟩
  rw [hn1] at H hs ⊢
  obtain ⟨n2, hn2⟩ : ∃ n, n1 + 1 = n := ⟨_, rfl⟩
  rw [hn2] at H hs ⊢
  obtain ⟨n3, hn3⟩ : ∃ n, n2 + 1 = n := ⟨_, rfl⟩
  rw [hn3] at H hs ⊢
  obtain ⟨n4, hn4⟩ : ∃ n, n3 + 1 = n := ⟨_, rfl⟩
  rw [hn4] at H hs ⊢
  have H1 : AS B n0 n1 n2 n3 n4 p ack isDup d bare _ := H.later (bal (.cells #[.int .i64 1, fn1 n0 n2 n3, .int .i64 0, fn2 n0 n1, .int .i64 1, fn3 n0, .int .i64 2, fn4 n0 n1, .int .i64 1, fn5 n4] 52))
  have hb1 : Below w.heap.size w _ := hb.trans ((bal (w := W) (.cells #[.int .i64 1, fn1 n0 n2 n3, .int .i64 0, fn2 n0 n1, .int .i64 1, fn3 n0, .int .i64 2, fn4 n0 n1, .int .i64 1, fn5 n4] 52)).mono hb.size)
  clear H hb hn0 hn1 hn2 hn3 hn4
  have i0 := q_i0 n0 n1 n2 n3 n4; have i1 := q_i1 n0 n1 n2 n3 n4; have i2 := q_i2 n0 n1 n2 n3 n4; have i3 := q_i3 n0 n1 n2 n3 n4; have i4 := q_i4 n0 n1 n2 n3 n4
  go_loopw [10, 26] (fun s i wr => ∃ k : Nat, s = .int .i64 0 ∧ i = .int .i64 k ∧ k ≤ 5 ∧ Hid (restN p ack isDup d bare (5 - k) = res) ∧ Hid (AS B n0 n1 n2 n3 n4 p ack isDup d bare wr) ∧ Hid (Below w.heap.size w wr)) (fun _ i _ => 5 - (intOf i).toNat)
  case atStart => exact ⟨0, rfl, rfl, by omega, HR, Lib.hid H1, Lib.hid hb1⟩
  case round =>
    clear HR H1 hb1
    obtain ⟨k, hs0, hi, hk, HR, HS, HB⟩ := hrel
    rcases (show k = 0 ∨ k = 1 ∨ k = 2 ∨ k = 3 ∨ k = 4 ∨ k = 5 by omega) with rfl | rfl | rfl | rfl | rfl | rfl
    · obtain rfl : _ = Value.int .i64 0 := hi
      subst hs0
      have HR2 := Lib.hid (show res = if qB p ack isDup d bare 0 then 1 else restN p ack isDup d bare 4 from HR.out.symm)
      have hA := HS.out.later (bal (.cells #[.int .i64 1, fn1 n0 n2 n3] 51))
      have hB := HB.out.trans ((bal (w := wr) (.cells #[.int .i64 1, fn1 n0 n2 n3] 51)).mono HB.out.size)
      have hn := heap_alloc_new wr (.cells #[.int .i64 1, fn1 n0 n2 n3] 51)
      have HC := Lib.hid (ask1 hA)
      have HA2 := Lib.hid hA; have HB2 := Lib.hid hB; have HN := Lib.hid hn
      clear hA hB hn HS HB HR
      generalize qB p ack isDup d bare 0 = qq at *
      go_wp2_with fail
      refine (show Calls Try.prog 23 _ _ _ from HC.out).mono ?_
      rintro e w1 ⟨rfl, hb1⟩
      have hN := (hb1.block _ (by simp)).trans HN.out
      have HA3 := Lib.hid (HA2.out.later hb1)
      have HB3 := Lib.hid (HB2.out.trans (hb1.mono HB2.out.size))
      have c0 := cofr hN 0 _ rfl
      clear hN hb1 HA2 HB2 HN HC
      cases qq with
      | true =>
        go_wp2_with fail
        go_ret
        exact ⟨by rw [HR2.out]; rfl, HB3.out⟩
      | false =>
        have HR4 : Hid (restN p ack isDup d bare (5 - 1) = res) := Lib.hid HR2.out.symm
        clear HR2
        go_wp2_with fail
        go_roundw
        case rel => exact ⟨1, rfl, rfl, by omega, HR4, HA3, HB3⟩
        case measure => simp [intOf]
    · obtain rfl : _ = Value.int .i64 1 := hi
      subst hs0
      have HR2 := Lib.hid (show res = if qB p ack isDup d bare 1 then 0 else restN p ack isDup d bare 3 from HR.out.symm)
      have hA := HS.out.later (bal (.cells #[.int .i64 0, fn2 n0 n1] 51))
      have hB := HB.out.trans ((bal (w := wr) (.cells #[.int .i64 0, fn2 n0 n1] 51)).mono HB.out.size)
      have hn := heap_alloc_new wr (.cells #[.int .i64 0, fn2 n0 n1] 51)
      have HC := Lib.hid (ask2 hA)
      have HA2 := Lib.hid hA; have HB2 := Lib.hid hB; have HN := Lib.hid hn
      clear hA hB hn HS HB HR
      generalize qB p ack isDup d bare 1 = qq at *
      go_wp2_with fail
      refine (show Calls Try.prog 25 _ _ _ from HC.out).mono ?_
      rintro e w1 ⟨rfl, hb1⟩
      have hN := (hb1.block _ (by simp)).trans HN.out
      have HA3 := Lib.hid (HA2.out.later hb1)
      have HB3 := Lib.hid (HB2.out.trans (hb1.mono HB2.out.size))
      have c0 := cofr hN 0 _ rfl
      clear hN hb1 HA2 HB2 HN HC
      cases qq with
      | true =>
        go_wp2_with fail
        go_ret
        exact ⟨by rw [HR2.out]; rfl, HB3.out⟩
      | false =>
        have HR4 : Hid (restN p ack isDup d bare (5 - 2) = res) := Lib.hid HR2.out.symm
        clear HR2
        go_wp2_with fail
        go_roundw
        case rel => exact ⟨2, rfl, rfl, by omega, HR4, HA3, HB3⟩
        case measure => simp [intOf]
    · obtain rfl : _ = Value.int .i64 2 := hi
      subst hs0
      have HR2 := Lib.hid (show res = if qB p ack isDup d bare 2 then 1 else restN p ack isDup d bare 2 from HR.out.symm)
      have hA := HS.out.later (bal (.cells #[.int .i64 1, fn3 n0] 51))
      have hB := HB.out.trans ((bal (w := wr) (.cells #[.int .i64 1, fn3 n0] 51)).mono HB.out.size)
      have hn := heap_alloc_new wr (.cells #[.int .i64 1, fn3 n0] 51)
      have HC := Lib.hid (ask3 hA)
      have HA2 := Lib.hid hA; have HB2 := Lib.hid hB; have HN := Lib.hid hn
      clear hA hB hn HS HB HR
      generalize qB p ack isDup d bare 2 = qq at *
      go_wp2_with fail
      refine (show Calls Try.prog 26 _ _ _ from HC.out).mono ?_
      rintro e w1 ⟨rfl, hb1⟩
      have hN := (hb1.block _ (by simp)).trans HN.out
      have HA3 := Lib.hid (HA2.out.later hb1)
      have HB3 := Lib.hid (HB2.out.trans (hb1.mono HB2.out.size))
      have c0 := cofr hN 0 _ rfl
      clear hN hb1 HA2 HB2 HN HC
      cases qq with
      | true =>
        go_wp2_with fail
        go_ret
        exact ⟨by rw [HR2.out]; rfl, HB3.out⟩
      | false =>
        have HR4 : Hid (restN p ack isDup d bare (5 - 3) = res) := Lib.hid HR2.out.symm
        clear HR2
        go_wp2_with fail
        go_roundw
        case rel => exact ⟨3, rfl, rfl, by omega, HR4, HA3, HB3⟩
        case measure => simp [intOf]
    · obtain rfl : _ = Value.int .i64 3 := hi
      subst hs0
      have HR2 := Lib.hid (show res = if qB p ack isDup d bare 3 then 2 else restN p ack isDup d bare 1 from HR.out.symm)
      have hA := HS.out.later (bal (.cells #[.int .i64 2, fn4 n0 n1] 51))
      have hB := HB.out.trans ((bal (w := wr) (.cells #[.int .i64 2, fn4 n0 n1] 51)).mono HB.out.size)
      have hn := heap_alloc_new wr (.cells #[.int .i64 2, fn4 n0 n1] 51)
      have HC := Lib.hid (ask4 hA)
      have HA2 := Lib.hid hA; have HB2 := Lib.hid hB; have HN := Lib.hid hn
      clear hA hB hn HS HB HR
      generalize qB p ack isDup d bare 3 = qq at *
      go_wp2_with fail
      refine (show Calls Try.prog 27 _ _ _ from HC.out).mono ?_
      rintro e w1 ⟨rfl, hb1⟩
      have hN := (hb1.block _ (by simp)).trans HN.out
      have HA3 := Lib.hid (HA2.out.later hb1)
      have HB3 := Lib.hid (HB2.out.trans (hb1.mono HB2.out.size))
      have c0 := cofr hN 0 _ rfl
      clear hN hb1 HA2 HB2 HN HC
      cases qq with
      | true =>
        go_wp2_with fail
        go_ret
        exact ⟨by rw [HR2.out]; rfl, HB3.out⟩
      | false =>
        have HR4 : Hid (restN p ack isDup d bare (5 - 4) = res) := Lib.hid HR2.out.symm
        clear HR2
        go_wp2_with fail
        go_roundw
        case rel => exact ⟨4, rfl, rfl, by omega, HR4, HA3, HB3⟩
        case measure => simp [intOf]
    · obtain rfl : _ = Value.int .i64 4 := hi
      subst hs0
      have HR2 := Lib.hid (show res = if qB p ack isDup d bare 4 then 1 else restN p ack isDup d bare 0 from HR.out.symm)
      have hA := HS.out.later (bal (.cells #[.int .i64 1, fn5 n4] 51))
      have hB := HB.out.trans ((bal (w := wr) (.cells #[.int .i64 1, fn5 n4] 51)).mono HB.out.size)
      have hn := heap_alloc_new wr (.cells #[.int .i64 1, fn5 n4] 51)
      have HC := Lib.hid (ask5 hA)
      have HA2 := Lib.hid hA; have HB2 := Lib.hid hB; have HN := Lib.hid hn
      clear hA hB hn HS HB HR
      generalize qB p ack isDup d bare 4 = qq at *
      go_wp2_with fail
      refine (show Calls Try.prog 28 _ _ _ from HC.out).mono ?_
      rintro e w1 ⟨rfl, hb1⟩
      have hN := (hb1.block _ (by simp)).trans HN.out
      have HA3 := Lib.hid (HA2.out.later hb1)
      have HB3 := Lib.hid (HB2.out.trans (hb1.mono HB2.out.size))
      have c0 := cofr hN 0 _ rfl
      clear hN hb1 HA2 HB2 HN HC
      cases qq with
      | true =>
        go_wp2_with fail
        go_ret
        exact ⟨by rw [HR2.out]; rfl, HB3.out⟩
      | false =>
        have HR4 : Hid (restN p ack isDup d bare (5 - 5) = res) := Lib.hid HR2.out.symm
        clear HR2
        go_wp2_with fail
        go_roundw
        case rel => exact ⟨5, rfl, rfl, by omega, HR4, HA3, HB3⟩
        case measure => simp [intOf]
    · obtain rfl : _ = Value.int .i64 5 := hi
      subst hs0
      go_wp2_with fail
      go_ret
      exact ⟨by rw [← HR.out]; rfl, HB.out⟩
/-- told an acknowledgement -/
theorem told_any {w : World} {B : Nat} {p : Pb} (h : PbAt w B p) (ack : Int) (isDup : Bool) (d : Int × Int) (bare : Bool) :
    Calls Try.prog 14 #[.pointer (some ⟨B, 0, none⟩), .int .i64 ack, .bool isDup, spV d, .bool bare] w (RetP (.int .i64 (tellN p ack isDup d bare)) B (tellP p ack isDup d bare) w) := by
  have h1 : PbAt (w.alloc (.cells #[.int .i64 d.1, .int .i64 d.2] 31)) B p := h.later (bal _)
  have HO := Lib.hid (on_eq h1)
  have HK := Lib.hid ((Kept.refl [B] w).alloc (.cells #[.int .i64 d.1, .int .i64 d.2] 31))
  have H1 := Lib.hid h1
  have HN := Lib.hid (show tellN p ack isDup d bare = if p.on then asks p ack isDup d bare else 0 from rfl)
  have HP := Lib.hid (show tellP p ack isDup d bare = if tellN p ack isDup d bare = 0 then p else Pb.off from rfl)
  have HA := Lib.hid (ask_any h1 ack isDup d bare)
  clear h h1
  generalize tellP p ack isDup d bare = q at *
  generalize tellN p ack isDup d bare = n at *
  generalize asks p ack isDup d bare = z at *
  obtain ⟨on, again, fin⟩ := p
  cases on with
  | false =>
    go_enter Try.func14, Try.ntmps14
    go_wp2_with (go_at_call 15; (with_reducible refine HO.out.mono ?_); rintro e w1 ⟨rfl, rfl⟩)
    go_ret
    have hn : n = 0 := HN.out
    refine ⟨by rw [hn]; rfl, ?_, HK.out⟩
    rw [HP.out, hn, if_pos rfl]
    exact H1.out
  | true =>
    have hn : n = z := HN.out
    subst hn
    by_cases hz : n = 0
    · have hz1 : (n != 0) = false := by simp [hz]
      have HZ := Lib.hid hz
      clear hz
      go_enter Try.func14, Try.ntmps14
      go_wp2_with (first
        | (go_at_call 15; (with_reducible refine HO.out.mono ?_); rintro e w1 ⟨rfl, rfl⟩)
        | (go_at_call 21; (with_reducible refine HA.out.mono ?_); rintro e w1 ⟨rfl, hb⟩))
      go_ret
      refine ⟨rfl, ?_, HK.out.trans (Kept.of_below hb (Nat.le_refl _) []) (by simp)⟩
      rw [HP.out, HZ.out, if_pos rfl]
      exact H1.out.later hb
    · have hz1 : (n != 0) = true := by simpa using hz
      have HZ := Lib.hid hz
      clear hz
      go_enter Try.func14, Try.ntmps14
      go_wp2_with (first
        | (go_at_call 15; (with_reducible refine HO.out.mono ?_); rintro e w1 ⟨rfl, rfl⟩)
        | (go_at_call 21; (with_reducible refine HA.out.mono ?_); rintro e w1 ⟨rfl, hb⟩)
        | (go_at_call 12; (with_reducible refine (stop_any (H1.out.later hb)).mono ?_); rintro e w2 ⟨rfl, hp, hk⟩))
      go_ret
      refine ⟨rfl, ?_, (HK.out.trans (Kept.of_below hb (Nat.le_refl _) []) (by simp)).trans hk (by simp)⟩
      rw [HP.out, if_neg HZ.out]
      exact hp
end Go.Proofs.Ytbmbibkomedooaa.pb
