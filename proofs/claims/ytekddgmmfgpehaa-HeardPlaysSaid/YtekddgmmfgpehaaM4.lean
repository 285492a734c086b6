/-
  Several texts in one: SpnT SpnH SpnG SpnK Open SpnO SpnS SpnE RunW RunP RngB RunQ
-/
import Derived.OpenShut
import Derived.Deep.Slices
import Derived.ProofKit
import Derived.Laws.StructEq
import Derived.Shelf.Abstract
import Derived.RangeFuncWrites
import Derived.Shelf.RegionOpen
import Derived.WalkKit
import Derived.OwnWalkIn
import Derived.TacticsInMore
import Derived.LoopNIn
import Derived.LoopIn
import Derived.Test.YtekddgmmfgpehaaM3
/-!   Spans, as the reference has them: Touch.
-/
namespace Go.Proofs.Ytekddgmmfgpehaa.sp
open Go.RowKit aid mem
attribute [local go_sem ↓] Go.wp_at_zero Go.wp_at_succ
set_option linter.unusedVariables false

/-- two boxes, wherever they lie -/
structure MP (w0 : World) (A C : Nat) (a b : Int × Int) (w : World) : Prop where
  a : SpAt w A a
  b : SpAt w C b
  below : Below w0.heap.size w0 w
theorem MP.later {w0 : World} {A C : Nat} {a b : Int × Int} {w w' : World} (h : MP w0 A C a b w) (hb : Below w.heap.size w w') : MP w0 A C a b w' :=
  ⟨h.a.later hb, h.b.later hb, h.below.trans (hb.mono h.below.size)⟩

set_option maxRecDepth 100000 in
set_option maxHeartbeats 1600000 in
theorem rtouch_any (s t : Int × Int) (w : World) : Calls Try.prog 66 #[spV s, spV t] w (RetB (touchB s t) w) := by
  have M0 := m2_new w s t
  have HF := rof_any s
  have HG := rof_any t
  have hp := len_ofP s
  have hq := len_ofP t
  have HT := touch_eq s t
  have HN := touch_no s t
  generalize ofP s = p at *
  generalize ofP t = q at *
  rw [← hp, ← hq] at HT HN
  clear hp hq
  have HFF := Lib.hid HF
  have HGG := Lib.hid HG
  have HTT := Lib.hid HT
  have HNN := Lib.hid HN
  have HA := Lib.hid (rlen_any p)
  have HB := Lib.hid (rlen_any q)
  have HM := Lib.hid (rmeet_any p q)
  have HL := Lib.hid (rlen_any (meetP p q))
  clear HF HG HT HN
  generalize lenI p = n at *
  generalize lenI q = m at *
  generalize meetP p q = r at *
  generalize lenI r = k at *
  generalize touchB s t = b at *
  by_cases hn : n = 0
  · have H : Hid (b = false) := Lib.hid (HNN.out (.inl hn))
    have hn1 : (n == 0) = true := by simpa using hn
    clear hn HTT HNN
    go_enter Try.func66, Try.ntmps66
    go_wp2_with fail
    generalize (w.alloc (.cells #[.int .i64 s.1, .int .i64 s.2] 36)).alloc (.cells #[.int .i64 t.1, .int .i64 t.2] 36) = W at *
    generalize w.heap.size = B at M0 ⊢
    refine (HFF.out _).mono ?_
    rintro e w1 ⟨rfl, h1⟩
    have M1 := M0.later h1
    have c0 := M1.b1.c0; have c1 := M1.b1.c1
    have n1 := M1.b0.lt; have n2 := M1.b1.lt; have n4 := M1.below.size
    clear h1 M0
    go_wp2_with fail
    refine (HGG.out _).mono ?_
    rintro e w2 ⟨rfl, h2⟩
    have A2 := (sp_new w1 p).later h2
    have M2 : MP w w1.heap.size w2.heap.size p q (w2.alloc (.cells #[.int .i64 q.1, .int .i64 q.2] 36)) := ⟨A2.later (bal (.cells #[.int .i64 q.1, .int .i64 q.2] 36)), sp_new w2 q, ((M1.below.alloc n4 (.cells #[.int .i64 p.1, .int .i64 p.2] 36)).trans (h2.mono (by simp; omega))).alloc (by have := h2.size; simp at this; omega) (.cells #[.int .i64 q.1, .int .i64 q.2] 36)⟩
    have n5 := A2.lt
    have d0 := A2.c0; have d1 := A2.c1
    clear h2 M1 c0 c1
    go_wp2_with fail
    refine (HA.out _).mono ?_
    rintro e w3 ⟨rfl, h3⟩
    have M3 := M2.later h3
    clear M2 h3
    go_wp2
    go_ret
    exact ⟨ret_b H.out.symm, M3.below⟩
  · have hn1 : (n == 0) = false := by simpa using hn
    by_cases hm : m = 0
    · have H : Hid (b = false) := Lib.hid (HNN.out (.inr hm))
      have hm1 : (m == 0) = true := by simpa using hm
      clear hn hm HTT HNN
      go_enter Try.func66, Try.ntmps66
      go_wp2_with fail
      generalize (w.alloc (.cells #[.int .i64 s.1, .int .i64 s.2] 36)).alloc (.cells #[.int .i64 t.1, .int .i64 t.2] 36) = W at *
      generalize w.heap.size = B at M0 ⊢
      refine (HFF.out _).mono ?_
      rintro e w1 ⟨rfl, h1⟩
      have M1 := M0.later h1
      have c0 := M1.b1.c0; have c1 := M1.b1.c1
      have n1 := M1.b0.lt; have n2 := M1.b1.lt; have n4 := M1.below.size
      clear h1 M0
      go_wp2_with fail
      refine (HGG.out _).mono ?_
      rintro e w2 ⟨rfl, h2⟩
      have A2 := (sp_new w1 p).later h2
      have M2 : MP w w1.heap.size w2.heap.size p q (w2.alloc (.cells #[.int .i64 q.1, .int .i64 q.2] 36)) := ⟨A2.later (bal (.cells #[.int .i64 q.1, .int .i64 q.2] 36)), sp_new w2 q, ((M1.below.alloc n4 (.cells #[.int .i64 p.1, .int .i64 p.2] 36)).trans (h2.mono (by simp; omega))).alloc (by have := h2.size; simp at this; omega) (.cells #[.int .i64 q.1, .int .i64 q.2] 36)⟩
      have n5 := A2.lt
      have d0 := A2.c0; have d1 := A2.c1
      clear h2 M1 c0 c1
      go_wp2_with fail
      refine (HA.out _).mono ?_
      rintro e w3 ⟨rfl, h3⟩
      have M3 := M2.later h3
      clear M2 h3 d0 d1
      have d0 := M3.b.c0; have d1 := M3.b.c1
      go_wp2_with fail
      refine (HB.out _).mono ?_
      rintro e w4 ⟨rfl, h4⟩
      have M4 := M3.later h4
      clear M3 h4 d0 d1
      go_wp2
      go_ret
      exact ⟨ret_b H.out.symm, M4.below⟩
    · have hm1 : (m == 0) = false := by simpa using hm
      have H : Hid ((decide (k > 0) || decide (p.2 = q.1) || decide (q.2 = p.1)) = b) := Lib.hid (HTT.out hn hm)
      clear hn hm HTT HNN
      go_enter Try.func66, Try.ntmps66
      go_wp2_with fail
      generalize (w.alloc (.cells #[.int .i64 s.1, .int .i64 s.2] 36)).alloc (.cells #[.int .i64 t.1, .int .i64 t.2] 36) = W at *
      generalize w.heap.size = B at M0 ⊢
      refine (HFF.out _).mono ?_
      rintro e w1 ⟨rfl, h1⟩
      have M1 := M0.later h1
      have c0 := M1.b1.c0; have c1 := M1.b1.c1
      have n1 := M1.b0.lt; have n2 := M1.b1.lt; have n4 := M1.below.size
      clear h1 M0
      go_wp2_with fail
      refine (HGG.out _).mono ?_
      rintro e w2 ⟨rfl, h2⟩
      have A2 := (sp_new w1 p).later h2
      have M2 : MP w w1.heap.size w2.heap.size p q (w2.alloc (.cells #[.int .i64 q.1, .int .i64 q.2] 36)) := ⟨A2.later (bal (.cells #[.int .i64 q.1, .int .i64 q.2] 36)), sp_new w2 q, ((M1.below.alloc n4 (.cells #[.int .i64 p.1, .int .i64 p.2] 36)).trans (h2.mono (by simp; omega))).alloc (by have := h2.size; simp at this; omega) (.cells #[.int .i64 q.1, .int .i64 q.2] 36)⟩
      have n5 := A2.lt
      have d0 := A2.c0; have d1 := A2.c1
      clear h2 M1 c0 c1
      go_wp2_with fail
      refine (HA.out _).mono ?_
      rintro e w3 ⟨rfl, h3⟩
      have M3 := M2.later h3
      clear M2 h3 d0 d1
      have d0 := M3.b.c0; have d1 := M3.b.c1
      go_wp2_with fail
      refine (HB.out _).mono ?_
      rintro e w4 ⟨rfl, h4⟩
      have M4 := M3.later h4
      clear M3 h4 d0 d1
      have d0 := M4.b.c0; have d1 := M4.b.c1; have c0 := M4.a.c0; have c1 := M4.a.c1
      go_wp2_with fail
      refine (HM.out _).mono ?_
      rintro e w5 ⟨rfl, h5⟩
      have M5 := M4.later h5
      clear M4 h5 d0 d1 c0 c1
      go_wp2_with fail
      refine (HL.out _).mono ?_
      rintro e w6 ⟨rfl, h6⟩
      have M6 := M5.later h6
      clear M5 h6
      have d0 := M6.b.c0; have d1 := M6.b.c1; have c0 := M6.a.c0; have c1 := M6.a.c1
      go_wp2
      all_goals
        go_ret
        exact ⟨ret_b (by rw [← H.out, Bool.eq_iff_iff]; simp <;> omega), M6.below⟩
end Go.Proofs.Ytekddgmmfgpehaa.sp
/-!   Hulls of lists of spans.
-/
namespace Go.Proofs.Ytekddgmmfgpehaa.sp
open Go.RowKit aid mem
attribute [local go_sem ↓] Go.wp_at_zero Go.wp_at_succ
set_option linter.unusedVariables false

/-- a slice of spans -/
structure SlS (w : World) (a : Option Addr) (n cap : Nat) (l : List (Int × Int)) : Prop where
  len : l.length = n
  le : n ≤ cap
  most : cap ≤ maxLen
  nil : a = none → cap = 0
  cells : 0 < n → ∃ b off, a = some ⟨b, off, none⟩ ∧ ∀ i, i < n → w.cell? ⟨b, off + i * 2, none⟩ = some (.int .i64 (l.getD i (0, 0)).1) ∧ w.cell? ⟨b, off + i * 2 + 1, none⟩ = some (.int .i64 (l.getD i (0, 0)).2)
theorem SlS.keep {w w' : World} {a : Option Addr} {n cap : Nat} {l : List (Int × Int)} (h : SlS w a n cap l) {S : List Nat} (hk : Kept S w w') (hd : ∀ x, a = some x → 0 < n → x.block ∉ S) : SlS w' a n cap l :=
  ⟨h.len, h.le, h.most, h.nil, fun h0 => by
    obtain ⟨b, off, rfl, hc⟩ := h.cells h0
    exact ⟨b, off, rfl, fun i hi => ⟨hk.cell (p := ⟨b, off + i * 2, none⟩) (hd ⟨b, off, none⟩ rfl h0) (hc i hi).1, hk.cell (p := ⟨b, off + i * 2 + 1, none⟩) (hd ⟨b, off, none⟩ rfl h0) (hc i hi).2⟩⟩⟩
theorem SlS.later {w w' : World} {a : Option Addr} {n cap : Nat} {l : List (Int × Int)} (h : SlS w a n cap l) (hk : Below w.heap.size w w') : SlS w' a n cap l :=
  h.keep (Kept.of_below hk (Nat.le_refl _) []) (fun _ _ _ => by simp)
/-- two spans in a new array -/
theorem sls_two (w : World) (s t : Int × Int) (ty : TypeId) : SlS (w.alloc (.cells #[.int .i64 s.1, .int .i64 s.2, .int .i64 t.1, .int .i64 t.2] ty)) (some ⟨w.heap.size, 0, none⟩) 2 2 [s, t] :=
  ⟨rfl, Nat.le_refl _, by simp [maxLen], (fun h => by cases h), fun _ => ⟨w.heap.size, 0, rfl, fun i hi => by
    rcases (show i = 0 ∨ i = 1 by omega) with rfl | rfl
    · exact ⟨World.cell?_alloc_at _ _ _ _ rfl, World.cell?_alloc_at _ _ _ _ rfl⟩
    · exact ⟨World.cell?_alloc_at _ _ _ _ rfl, World.cell?_alloc_at _ _ _ _ rfl⟩⟩⟩

theorem hull_take (l : List (Int × Int)) (k : Nat) (hk : k < l.length) : hullP (l.take (k + 1)) = widerP (hullP (l.take k)) (l.getD k (0, 0)) := by
  rw [← hullP_snoc]
  congr 1
  rw [List.take_succ_eq_append_getElem hk]
  simp [List.getD, hk]

set_option maxRecDepth 100000 in
set_option maxHeartbeats 1600000 in
theorem hull_any (l : List (Int × Int)) (a : Option Addr) (n cap : Nat) (w : World) (hl : SlS w a n cap l) : Calls Try.prog 60 #[.slice a n cap] w (RetS (hullP l) w) := by
  have hlen := hl.len
  have hle := hl.le
  have hmost := hl.most
  unfold maxLen at hmost
  have M0 := m2_new w (0, 0) (0, 0)
  by_cases hz : n = 0
  · subst hz
    obtain rfl : l = [] := List.eq_nil_of_length_eq_zero hlen
    have H : Hid (hullP [] = (0, 0)) := Lib.hid rfl
    go_enter Try.func60, Try.ntmps60
    go_wp2_with fail
    generalize (w.alloc (.cells #[.int .i64 0, .int .i64 0] 36)).alloc (.cells #[.int .i64 0, .int .i64 0] 36) = W at *
    generalize w.heap.size = B at M0 ⊢
    go_loopw [8] (fun i wr => i = .int .i64 0 ∧ wr = W) (fun _ _ => 0)
    case atStart => exact ⟨rfl, rfl⟩
    case round =>
      obtain ⟨rfl, rfl⟩ := hrel
      have M3 := M0.put0 0 0
      have c0 := M0.b0.c0; have c1 := M0.b0.c1; have f0 := M0.b0.f0; have f1 := M0.b0.f1
      have d0 := M0.b1.c0; have d1 := M0.b1.c1
      go_wp2_with fail
      have e0 := M3.b0.c0; have e1 := M3.b0.c1
      exact bodyPost_ret (v := spV (0, 0)) (by simp [results, Try.results60, go_sem, e0, e1]) rfl ⟨by rw [H.out], M3.below⟩
  · obtain ⟨b, off, rfl, hc⟩ := hl.cells (by omega)
    have hbl : b < w.heap.size := World.block_lt_of_cell? w _ (hc 0 (by omega)).1
    have HC := Lib.hid hc
    have HL := Lib.hid hlen
    have HS := Lib.hid (hull_take l)
    clear hc hlen hl
    go_enter Try.func60, Try.ntmps60
    go_wp2_with fail
    generalize (w.alloc (.cells #[.int .i64 0, .int .i64 0] 36)).alloc (.cells #[.int .i64 0, .int .i64 0] 36) = W at *
    generalize hB : w.heap.size = B at M0 ⊢
    go_loopw [8] (fun i wr => ∃ k : Nat, k ≤ n ∧ i = .int .i64 k ∧ M2 w B (0, 0) (hullP (l.take k)) wr) (fun i _ => n - (intOf i).toNat)
    case atStart => exact ⟨0, Nat.zero_le _, rfl, M0⟩
    case round =>
      clear M0
      obtain ⟨k, hk, rfl, MK⟩ := hrel
      obtain ⟨wo, rfl⟩ : ∃ wo : World, wo = wr := ⟨_, rfl⟩
      by_cases hlt : k < n
      · obtain ⟨x0, x1⟩ := HC.out k hlt
        have hst := HS.out k (by rw [HL.out]; exact hlt)
        generalize l.getD k (0, 0) = x at *
        generalize hullP (l.take k) = h at *
        have HST := Lib.hid hst
        have y0 := (MK.below.cell (p := ⟨b, off + k * 2, none⟩) (by simpa using hbl)).trans x0
        have y1 := (MK.below.cell (p := ⟨b, off + k * 2 + 1, none⟩) (by simpa using hbl)).trans x1
        have n1 := MK.b0.lt; have n2 := MK.b1.lt
        have c0 := MK.b1.c0; have c1 := MK.b1.c1
        clear hst x0 x1
        go_wp2_with fail
        have M3 := MK.later (bal (.cells #[.int .i64 x.1, .int .i64 x.2] 36))
        refine (wider_any h x _).mono ?_
        rintro e w4 ⟨rfl, h4⟩
        have M4 := M3.later h4
        clear M3 h4 c0 c1 MK y0 y1
        rw [← HST.out]
        generalize hhh : hullP (l.take (k + 1)) = u at *
        have M5 := M4.put1 u.1 u.2
        have c0 := M4.b1.c0; have c1 := M4.b1.c1; have f0 := M4.b1.f0; have f1 := M4.b1.f1
        have HH := Lib.hid hhh
        clear hhh M4
        go_wp2_with fail
        go_roundw
        case rel => exact ⟨k + 1, by omega, by go_num, by rw [HH.out]; exact M5⟩
        case measure => simp [intOf]; omega
      · have hkn : Hid (hullP (l.take k) = hullP l) := Lib.hid (by rw [List.take_of_length_le (by have := HL.out; omega)])
        rw [hkn.out] at MK
        generalize hullP l = h at *
        have M3 := MK.put0 h.1 h.2
        have c0 := MK.b0.c0; have c1 := MK.b0.c1; have f0 := MK.b0.f0; have f1 := MK.b0.f1
        have d0 := MK.b1.c0; have d1 := MK.b1.c1
        clear MK
        go_wp2_with fail
        have e0 := M3.b0.c0; have e1 := M3.b0.c1
        exact bodyPost_ret (v := spV h) (by simp [results, Try.results60, go_sem, e0, e1]) rfl ⟨rfl, M3.below⟩
end Go.Proofs.Ytekddgmmfgpehaa.sp
/-!   Hulls of lists of spans, as the reference has them.
-/
namespace Go.Proofs.Ytekddgmmfgpehaa.sp
open Go.RowKit aid mem
attribute [local go_sem ↓] Go.wp_at_zero Go.wp_at_succ
set_option linter.unusedVariables false

theorem M2.s10 {w0 : World} {B : Nat} {s t : Int × Int} {w : World} (h : M2 w0 B s t w) (x : Int) : M2 w0 B s (x, t.2) (w.setCell ⟨B + 1, 0, none⟩ (.int .i64 x)) := by
  have hk := (Kept.refl [B + 1] w).setCell (p := ⟨B + 1, 0, none⟩) (.inl (by simp)) (.int .i64 x)
  exact ⟨h.b0.keep hk (by simp), h.b1.set0 x, h.below.trans (hk.below (by have := h.le; simp; omega) h.below.size), h.le⟩
theorem M2.s11 {w0 : World} {B : Nat} {s t : Int × Int} {w : World} (h : M2 w0 B s t w) (x : Int) : M2 w0 B s (t.1, x) (w.setCell ⟨B + 1, 1, none⟩ (.int .i64 x)) := by
  have hk := (Kept.refl [B + 1] w).setCell (p := ⟨B + 1, 1, none⟩) (.inl (by simp)) (.int .i64 x)
  exact ⟨h.b0.keep hk (by simp), h.b1.set1 x, h.below.trans (hk.below (by have := h.le; simp; omega) h.below.size), h.le⟩

set_option maxRecDepth 100000 in
set_option maxHeartbeats 3200000 in
theorem rhull_any (l : List (Int × Int)) (a : Option Addr) (n cap : Nat) (w : World) (hl : SlS w a n cap l) : Calls Try.prog 67 #[.slice a n cap] w (RetS (hullP l) w) := by
  have hlen := hl.len
  have hle := hl.le
  have hmost := hl.most
  unfold maxLen at hmost
  have M0 := m2_new w (0, 0) (0, 0)
  by_cases hz : n = 0
  · subst hz
    obtain rfl : l = [] := List.eq_nil_of_length_eq_zero hlen
    have H : Hid (hullP [] = (0, 0)) := Lib.hid rfl
    go_enter Try.func67, Try.ntmps67
    go_wp2_with fail
    generalize (w.alloc (.cells #[.int .i64 0, .int .i64 0] 36)).alloc (.cells #[.int .i64 0, .int .i64 0] 36) = W at *
    generalize w.heap.size = B at M0 ⊢
    go_loopw [4] (fun i wr => i = .int .i64 0 ∧ wr = W) (fun _ _ => 0)
    case atStart => exact ⟨rfl, rfl⟩
    case round =>
      obtain ⟨rfl, rfl⟩ := hrel
      have M3 := M0.put0 0 0
      have c0 := M0.b0.c0; have c1 := M0.b0.c1; have f0 := M0.b0.f0; have f1 := M0.b0.f1
      have d0 := M0.b1.c0; have d1 := M0.b1.c1
      go_wp2_with fail
      have e0 := M3.b0.c0; have e1 := M3.b0.c1
      exact bodyPost_ret (v := spV (0, 0)) (by simp [results, Try.results67, go_sem, e0, e1]) rfl ⟨by rw [H.out], M3.below⟩
  · obtain ⟨b, off, rfl, hc⟩ := hl.cells (by omega)
    have hbl : b < w.heap.size := World.block_lt_of_cell? w _ (hc 0 (by omega)).1
    have HC := Lib.hid hc
    have HL := Lib.hid hlen
    have HS := Lib.hid (hull_take l)
    have HI := Lib.hid (fun k => hullP_inv (l.take k))
    clear hc hlen hl
    go_enter Try.func67, Try.ntmps67
    go_wp2_with fail
    generalize (w.alloc (.cells #[.int .i64 0, .int .i64 0] 36)).alloc (.cells #[.int .i64 0, .int .i64 0] 36) = W at *
    generalize hB : w.heap.size = B at M0 ⊢
    go_loopw [4] (fun i wr => ∃ k : Nat, k ≤ n ∧ i = .int .i64 k ∧ M2 w B (0, 0) (hullP (l.take k)) wr) (fun i _ => n - (intOf i).toNat)
    case atStart => exact ⟨0, Nat.zero_le _, rfl, M0⟩
    case round =>
      clear M0
      obtain ⟨k, hk, rfl, MK⟩ := hrel
      obtain ⟨wo, rfl⟩ : ∃ wo : World, wo = wr := ⟨_, rfl⟩
      by_cases hlt : k < n
      · obtain ⟨x0, x1⟩ := HC.out k hlt
        have hst := HS.out k (by rw [HL.out]; exact hlt)
        have hin := HI.out k
        generalize l.getD k (0, 0) = x at *
        generalize hullP (l.take k) = h at *
        have y0 := (MK.below.cell (p := ⟨b, off + k * 2, none⟩) (by simpa using hbl)).trans x0
        have y1 := (MK.below.cell (p := ⟨b, off + k * 2 + 1, none⟩) (by simpa using hbl)).trans x1
        have n1 := MK.b0.lt; have n2 := MK.b1.lt; have n3 := MK.below.size
        clear x0 x1
        by_cases hx : lenI x = 0
        · have HST : Hid (hullP (l.take (k + 1)) = h) := Lib.hid (by rw [hst, wider_none _ _ hx])
          have hq := len_ofP x
          have hf := rof_any x
          rw [hx] at hq
          generalize ofP x = p at *
          have HF := Lib.hid hf
          have HQ := Lib.hid (rlen_any p)
          have hx1 : (lenI p == 0) = true := by simpa using hq
          clear hst hin hx hq hf
          go_wp2_with fail
          refine (HF.out _).mono ?_
          rintro e w4 ⟨rfl, h4⟩
          have M4 := MK.later h4
          clear MK h4 y0 y1
          go_wp2_with fail
          refine (HQ.out _).mono ?_
          rintro e w5 ⟨rfl, h5⟩
          have M5 := (M4.later (bal (.cells #[.int .i64 p.1, .int .i64 p.2] 36))).later h5
          have X5 := (sp_new w4 p).later h5
          have n6 := M4.b1.lt
          have n7 := X5.lt
          clear h5 M4
          go_wp2_with fail
          go_roundw
          case rel => exact ⟨k + 1, by omega, by go_num, by rw [HST.out]; exact M5⟩
          case measure => simp [intOf]; omega
        · obtain ⟨hsf, hok, hne⟩ := of_self hx
          have hf := rof_any x
          rw [hsf] at hf
          have HF := Lib.hid hf
          have HQ := Lib.hid (rlen_any x)
          have hx1 : (lenI x == 0) = false := by simpa using hx
          clear hsf hf
          by_cases hh : h = (0, 0)
          · have HST : Hid (hullP (l.take (k + 1)) = x) := Lib.hid (by rw [hst, hh, wider_first _ hx])
            subst hh
            have HR := Lib.hid (rlen_any (0, 0))
            have hh1 : (lenI (0, 0) == 0) = true := rfl
            clear hst hin hx hok hne
            go_wp2_with fail
            refine (HF.out _).mono ?_
            rintro e w4 ⟨rfl, h4⟩
            have M4 := MK.later h4
            clear MK h4 y0 y1
            go_wp2_with fail
            refine (HQ.out _).mono ?_
            rintro e w5 ⟨rfl, h5⟩
            have M5 := (M4.later (bal (.cells #[.int .i64 x.1, .int .i64 x.2] 36))).later h5
            have X5 := (sp_new w4 x).later h5
            have n6 := M4.b1.lt
            have n7 := X5.lt
            clear h5 M4
            have d0 := M5.b1.c0; have d1 := M5.b1.c1
            go_wp2_with fail
            refine (HR.out _).mono ?_
            rintro e w6 ⟨rfl, h6⟩
            have M6 := M5.later h6
            have X6 := X5.later h6
            clear h6 M5 X5 d0 d1
            have d0 := M6.b1.c0; have d1 := M6.b1.c1; have g0 := M6.b1.f0; have g1 := M6.b1.f1; have c0 := X6.c0; have c1 := X6.c1
            have M7 := M6.put1 x.1 x.2
            have n8 : w4.heap.size ≠ B + 1 := by omega
            clear M6
            go_wp2_with fail
            go_roundw
            case rel => exact ⟨k + 1, by omega, by go_num, by rw [HST.out]; exact M7⟩
            case measure => simp [intOf]; omega
          · have hh1 : (lenI h == 0) = false := by
              rw [Bool.eq_false_iff]; intro e; exact hh ((inv_len hin).1 (by simpa using e))
            have hst2 := hst.trans (wider_more hx hh)
            have HR := Lib.hid (rlen_any h)
            clear hst hin hx hok hne hh
            by_cases ha : x.1 < h.1
            · by_cases hb : h.2 < x.2
              · have HST : Hid (hullP (l.take (k + 1)) = (x.1, x.2)) := Lib.hid (by rw [hst2]; ext <;> simp <;> omega)
                clear hst2
                go_wp2_with fail
                refine (HF.out _).mono ?_
                rintro e w4 ⟨rfl, h4⟩
                have M4 := MK.later h4
                clear MK h4 y0 y1
                go_wp2_with fail
                refine (HQ.out _).mono ?_
                rintro e w5 ⟨rfl, h5⟩
                have M5 := (M4.later (bal (.cells #[.int .i64 x.1, .int .i64 x.2] 36))).later h5
                have X5 := (sp_new w4 x).later h5
                have n6 := M4.b1.lt
                have n7 := X5.lt
                clear h5 M4
                have d0 := M5.b1.c0; have d1 := M5.b1.c1
                go_wp2_with fail
                refine (HR.out _).mono ?_
                rintro e w6 ⟨rfl, h6⟩
                have M6 := M5.later h6
                have X6 := X5.later h6
                clear h6 M5 X5 d0 d1
                have d0 := M6.b1.c0; have d1 := M6.b1.c1; have g0 := M6.b1.f0; have g1 := M6.b1.f1; have c0 := X6.c0; have c1 := X6.c1
                have M7 := (M6.s10 x.1).s11 x.2
                have n8 : w4.heap.size ≠ B + 1 := by omega
                clear M6
                go_wp2_with fail
                go_roundw
                case rel => exact ⟨k + 1, by omega, by go_num, by rw [HST.out]; exact M7⟩
                case measure => simp [intOf]; omega
              · have HST : Hid (hullP (l.take (k + 1)) = (x.1, h.2)) := Lib.hid (by rw [hst2]; ext <;> simp <;> omega)
                clear hst2
                go_wp2_with fail
                refine (HF.out _).mono ?_
                rintro e w4 ⟨rfl, h4⟩
                have M4 := MK.later h4
                clear MK h4 y0 y1
                go_wp2_with fail
                refine (HQ.out _).mono ?_
                rintro e w5 ⟨rfl, h5⟩
                have M5 := (M4.later (bal (.cells #[.int .i64 x.1, .int .i64 x.2] 36))).later h5
                have X5 := (sp_new w4 x).later h5
                have n6 := M4.b1.lt
                have n7 := X5.lt
                clear h5 M4
                have d0 := M5.b1.c0; have d1 := M5.b1.c1
                go_wp2_with fail
                refine (HR.out _).mono ?_
                rintro e w6 ⟨rfl, h6⟩
                have M6 := M5.later h6
                have X6 := X5.later h6
                clear h6 M5 X5 d0 d1
                have d0 := M6.b1.c0; have d1 := M6.b1.c1; have g0 := M6.b1.f0; have g1 := M6.b1.f1; have c0 := X6.c0; have c1 := X6.c1
                have M7 := M6.s10 x.1
                have n8 : w4.heap.size ≠ B + 1 := by omega
                clear M6
                go_wp2_with fail
                go_roundw
                case rel => exact ⟨k + 1, by omega, by go_num, by rw [HST.out]; exact M7⟩
                case measure => simp [intOf]; omega
            · by_cases hb : h.2 < x.2
              · have HST : Hid (hullP (l.take (k + 1)) = (h.1, x.2)) := Lib.hid (by rw [hst2]; ext <;> simp <;> omega)
                clear hst2
                go_wp2_with fail
                refine (HF.out _).mono ?_
                rintro e w4 ⟨rfl, h4⟩
                have M4 := MK.later h4
                clear MK h4 y0 y1
                go_wp2_with fail
                refine (HQ.out _).mono ?_
                rintro e w5 ⟨rfl, h5⟩
                have M5 := (M4.later (bal (.cells #[.int .i64 x.1, .int .i64 x.2] 36))).later h5
                have X5 := (sp_new w4 x).later h5
                have n6 := M4.b1.lt
                have n7 := X5.lt
                clear h5 M4
                have d0 := M5.b1.c0; have d1 := M5.b1.c1
                go_wp2_with fail
                refine (HR.out _).mono ?_
                rintro e w6 ⟨rfl, h6⟩
                have M6 := M5.later h6
                have X6 := X5.later h6
                clear h6 M5 X5 d0 d1
                have d0 := M6.b1.c0; have d1 := M6.b1.c1; have g0 := M6.b1.f0; have g1 := M6.b1.f1; have c0 := X6.c0; have c1 := X6.c1
                have M7 := (M6).s11 x.2
                have n8 : w4.heap.size ≠ B + 1 := by omega
                clear M6
                go_wp2_with fail
                go_roundw
                case rel => exact ⟨k + 1, by omega, by go_num, by rw [HST.out]; exact M7⟩
                case measure => simp [intOf]; omega
              · have HST : Hid (hullP (l.take (k + 1)) = (h.1, h.2)) := Lib.hid (by rw [hst2]; ext <;> simp <;> omega)
                clear hst2
                go_wp2_with fail
                refine (HF.out _).mono ?_
                rintro e w4 ⟨rfl, h4⟩
                have M4 := MK.later h4
                clear MK h4 y0 y1
                go_wp2_with fail
                refine (HQ.out _).mono ?_
                rintro e w5 ⟨rfl, h5⟩
                have M5 := (M4.later (bal (.cells #[.int .i64 x.1, .int .i64 x.2] 36))).later h5
                have X5 := (sp_new w4 x).later h5
                have n6 := M4.b1.lt
                have n7 := X5.lt
                clear h5 M4
                have d0 := M5.b1.c0; have d1 := M5.b1.c1
                go_wp2_with fail
                refine (HR.out _).mono ?_
                rintro e w6 ⟨rfl, h6⟩
                have M6 := M5.later h6
                have X6 := X5.later h6
                clear h6 M5 X5 d0 d1
                have d0 := M6.b1.c0; have d1 := M6.b1.c1; have g0 := M6.b1.f0; have g1 := M6.b1.f1; have c0 := X6.c0; have c1 := X6.c1
                have M7 := M6
                have n8 : w4.heap.size ≠ B + 1 := by omega
                clear M6
                go_wp2_with fail
                go_roundw
                case rel => exact ⟨k + 1, by omega, by go_num, by rw [HST.out]; exact M7⟩
                case measure => simp [intOf]; omega
      · have hkn : Hid (hullP (l.take k) = hullP l) := Lib.hid (by rw [List.take_of_length_le (by have := HL.out; omega)])
        rw [hkn.out] at MK
        generalize hullP l = h at *
        have M3 := MK.put0 h.1 h.2
        have c0 := MK.b0.c0; have c1 := MK.b0.c1; have f0 := MK.b0.f0; have f1 := MK.b0.f1
        have d0 := MK.b1.c0; have d1 := MK.b1.c1
        clear MK
        go_wp2_with fail
        have e0 := M3.b0.c0; have e1 := M3.b0.c1
        exact bodyPost_ret (v := spV h) (by simp [results, Try.results67, go_sem, e0, e1]) rfl ⟨rfl, M3.below⟩
end Go.Proofs.Ytekddgmmfgpehaa.sp
/-!   Layer 6: what must come of fixed calls; the walks of the laws SpanTouches and SpanAsks.
-/
namespace Go.Proofs.Ytekddgmmfgpehaa.sp
open Go.RowKit aid mem
attribute [local go_sem ↓] Go.wp_at_zero Go.wp_at_succ
set_option linter.unusedVariables false

end Go.Proofs.Ytekddgmmfgpehaa.sp
/-!   What came in, opened: a slice of whatever elements, element by element. Imports nothing of the program.
-/
namespace Go.Proofs.Ytekddgmmfgpehaa.opn
open Go.RowKit aid mem Go.ChangeShapes Go.WideShapes Go.ChangeAt
set_option linter.unusedVariables false

theorem exists_list {T : Type} (n : Nat) (Q : Nat → T → Prop) (h : ∀ i, i < n → ∃ t, Q i t) : ∃ l : List T, l.length = n ∧ ∀ i (hi : i < l.length), Q i l[i] := by
  induction n with
  | zero => exact ⟨[], rfl, fun i hi => absurd hi (Nat.not_lt_zero i)⟩
  | succ n ih =>
    obtain ⟨l, hl, hq⟩ := ih (fun i hi => h i (by omega))
    obtain ⟨t, ht⟩ := h n (by omega)
    refine ⟨l ++ [t], by simp [hl], fun i hi => ?_⟩
    by_cases hil : i < l.length
    · rw [List.getElem_append_left hil]; exact hq i hil
    · have : i = n := by simp at hi; omega
      subst this
      simpa [hl] using ht

theorem mapM_some {α : Type} (f : Nat → Option α) : ∀ (n : Nat) (cs : List α), (List.range n).mapM f = some cs → cs.length = n ∧ ∀ j, j < n → f j = cs[j]? := by
  intro n
  induction n with
  | zero => intro cs h; simp at h; subst h; exact ⟨rfl, fun j hj => absurd hj (Nat.not_lt_zero j)⟩
  | succ n ih =>
    intro cs h
    rw [List.range_succ, List.mapM_append] at h
    simp only [Option.bind_eq_bind, Option.bind_eq_some_iff] at h
    obtain ⟨qs, h1, bs, h2, h3⟩ := h
    rw [List.mapM_cons] at h2
    simp only [List.mapM_nil, Option.bind_eq_bind, Option.bind_eq_some_iff] at h2
    obtain ⟨c, hc, _, h4, h5⟩ := h2
    injection h4 with h4
    subst h4
    injection h5 with h5
    subst h5
    injection h3 with h3
    subst h3
    obtain ⟨hl, hj⟩ := ih qs h1
    refine ⟨by simp [hl], fun j hjn => ?_⟩
    by_cases hjl : j < n
    · rw [hj j hjl, List.getElem?_append_left (by omega)]
    · have : j = n := by omega
      subst this
      rw [hc, List.getElem?_append_right (by omega)]
      simp [hl]

theorem cells_some {w : World} {base : Nat} {a : Addr} {n : Nat} {cs : List Value} (h : w.cells? base a n = some cs) : cs.length = n ∧ ∀ j, j < n → w.cell? (a.add j) = cs[j]? := by
  unfold World.cells? at h
  split at h
  · exact mapM_some _ _ _ h
  · cases h

/-- a slice of elements of c cells each: the element at i stands for l's at i, by R -/
structure ElA {T : Type} (R : List Value → T → Prop) (c : Nat) (w : World) (a : Option Addr) (n cap : Nat) (l : List T) : Prop where
  len : l.length = n
  le : n ≤ cap
  most : cap ≤ maxLen
  nil : a = none → cap = 0
  cells : 0 < n → ∃ b off, a = some ⟨b, off, none⟩ ∧ ∀ i (hi : i < l.length), ∃ cs, R cs l[i] ∧ cs.length = c ∧ ∀ j, j < c → w.cell? ⟨b, off + (i * c + j), none⟩ = cs[j]?

theorem ElA.keep {T : Type} {R : List Value → T → Prop} {c : Nat} {w w' : World} {a : Option Addr} {n cap : Nat} {l : List T} (h : ElA R c w a n cap l) {S : List Nat} (hk : Kept S w w') (hd : ∀ x, a = some x → x.block ∉ S) : ElA R c w' a n cap l :=
  ⟨h.len, h.le, h.most, h.nil, fun h0 => by
    obtain ⟨b, off, rfl, hc⟩ := h.cells h0
    refine ⟨b, off, rfl, fun i hi => ?_⟩
    obtain ⟨cs, h1, h2, h3⟩ := hc i hi
    refine ⟨cs, h1, h2, fun j hj => ?_⟩
    have h4 := h3 j hj
    rw [List.getElem?_eq_getElem (by omega)] at h4 ⊢
    exact hk.cell (p := ⟨b, off + (i * c + j), none⟩) (hd ⟨b, off, none⟩ rfl) h4⟩

section
variable {H : Type} {enc : TypeId × Value → H} {P : Program} {w : World} {base : Nat} {spare : Nat → Bool} {held : Bool}

/-- opened: 'hE': what one element's reading says -/
theorem open_els {T : Type} {R : List Value → T → Prop} {D : DataW H → T → Prop} {t e : TypeId} {a : Option Addr} {len cap : Nat} {d : DataW H} {p : List MemPlace}
    (ht : P.underlying t = some (.slice e)) (hc : 0 < P.cellsOf e) (h : ∃ fuel, DataW.trod enc P w base spare held fuel t [.slice a len cap] = some (d, p))
    (hE : ∀ n cs d' p', DataW.trod enc P w base spare held n e cs = some (d', p') → ∃ x : T, R cs x ∧ D d' x) :
    ∃ l : List T, ElA R (P.cellsOf e) w a len cap l ∧ ((d = .nil ∧ l = []) ∨ ∃ elems rest, d = .slice elems rest ∧ elems.length = l.length ∧ ∀ i (hi : i < l.length) (hi' : i < elems.length), D elems[i] l[i]) := by
  obtain ⟨fuel, h⟩ := h
  rcases DataW.trod_slice ht h with ⟨hcs, hx⟩ | ⟨a', len', cap', elems, rest, n, _, hcs, hx, hb, hl, hm, hlen, hel, hsp, hns⟩
  · injection hcs with hcs _
    injection hcs with h1 h2 h3
    subst h1 h2 h3
    injection hx with hx _
    exact ⟨[], ⟨rfl, Nat.le_refl _, by simp [maxLen], fun _ => rfl, fun h => by omega⟩, .inl ⟨hx, rfl⟩⟩
  · injection hcs with hcs _
    injection hcs with h1 h2 h3
    subst h1 h2 h3
    injection hx with hx _
    have hkey : ∀ i, i < len → ∃ x : T, (∃ cs, R cs x ∧ w.cells? base (a'.add (i * P.cellsOf e)) (P.cellsOf e) = some cs) ∧ ∃ y, elems[i]? = some y ∧ D y.1 x := by
      intro i hi
      have := hel i hi
      rw [List.getElem?_eq_getElem (by omega)] at this
      obtain ⟨cs, h1, h2⟩ := Option.bind_eq_some_iff.1 this
      obtain ⟨x, hR, hD⟩ := hE n cs _ _ h2
      exact ⟨x, ⟨cs, hR, h1⟩, _, List.getElem?_eq_getElem (by omega), hD⟩
    obtain ⟨l, hll, hq⟩ := exists_list len _ hkey
    refine ⟨l, ⟨hll, hl, hm, (fun h => by cases h), fun h0 => ?_⟩, .inr ⟨_, _, hx, by simp [hlen, hll], fun i hi hi' => ?_⟩⟩
    · have hshape : a'.spot = none := by
        obtain ⟨⟨cs, _, hcs⟩, _⟩ := hq 0 (by omega)
        obtain ⟨hcl, hcj⟩ := cells_some hcs
        have h0 := hcj 0 hc
        rw [List.getElem?_eq_getElem (by omega)] at h0
        simp only [Nat.zero_mul, Addr.add, if_true] at h0
        unfold World.cell? at h0
        split at h0
        · split at h0
          · cases h0
          · rename_i hs; simpa using hs
        · cases h0
      obtain ⟨b, off, spot⟩ := a'
      simp only at hshape
      subst hshape
      refine ⟨b, off, rfl, fun i hi => ?_⟩
      obtain ⟨⟨cs, hR, hcs⟩, _⟩ := hq i hi
      obtain ⟨hcl, hcj⟩ := cells_some hcs
      refine ⟨cs, hR, hcl, fun j hj => ?_⟩
      have hadd : (⟨b, off, none⟩ : Addr).add (i * P.cellsOf e + j) = ⟨b, off + (i * P.cellsOf e + j), none⟩ := by unfold Addr.add; split <;> simp_all
      rw [← hcj j hj, Go.Deep.add_add, hadd]
    · obtain ⟨_, y, hy, hD⟩ := hq i hi
      have hie : i < elems.length := by omega
      rw [List.getElem?_eq_getElem hie] at hy
      injection hy with hy
      simp only [List.getElem_map]
      rw [hy]
      exact hD
end
end Go.Proofs.Ytekddgmmfgpehaa.opn
/-!   Spans that came in, opened.
-/
namespace Go.Proofs.Ytekddgmmfgpehaa.sp
open Go.RowKit aid mem opn Go.ChangeShapes Go.WideShapes Go.ChangeAt
set_option linter.unusedVariables false

theorem cells_int : Try.prog.cellsOf 3 = 1 := by kernel_rfl
theorem cells_span : Try.prog.cellsOf 36 = 2 := by kernel_rfl
def SpIs (cs : List Value) (q : Int × Int) : Prop := cs = [.int .i64 q.1, .int .i64 q.2]

section
variable {H : Type} {enc : TypeId × Value → H} {w : World} {base : Nat}
set_option maxRecDepth 100000 in
theorem span_of (n : Nat) (cs : List Value) (d : DataW H) (p : List MemPlace)
    (h : DataW.trod enc Try.prog w base (fun _ => true) true n 36 cs = some (d, p)) : ∃ q : Int × Int, SpIs cs q ∧ True := by
  obtain ⟨xs, m, _, hx, hl, hxl, hf⟩ := DataW.trod_struct Try.underlying36 h
  rw [cells_span] at hl
  have h0 := hf 0 _ rfl
  have h1 := hf 1 _ rfl
  match cs, hl, xs, hxl with
  | [c0, c1], _, [x0, x1], _ =>
    simp [cells_int] at h0 h1
    obtain ⟨k, hk, hk2, hkw⟩ := DataW.trod_int Try.underlying3 h0
    obtain ⟨q, hq, hq2, hqw⟩ := DataW.trod_int Try.underlying3 h1
    injection hk with hk _
    injection hq with hq _
    subst hk hq
    exact ⟨(k, q), rfl, trivial⟩
set_option maxRecDepth 100000 in
theorem open_span {b0 : Nat} {v : Value} {d : DataW H} {p : List MemPlace} (hv : Value.okWide Try.prog w .any b0 36 v)
    (hk : DataW.Trod enc Try.prog w base (fun _ => true) true 36 v d p) : ∃ s : Int × Int, v = spV s := by
  obtain ⟨cs, rfl, hsz⟩ := okWide_struct Try.underlying36 hv
  obtain ⟨fuel, h⟩ := hk
  obtain ⟨q, hq, _⟩ := span_of fuel _ d p h
  refine ⟨q, ?_⟩
  unfold SpIs at hq
  have : cs = #[.int .i64 q.1, .int .i64 q.2] := by
    apply Array.toList_inj.1
    simpa [Value.cells] using hq
  rw [this]
theorem sls_of_els {a : Option Addr} {len cap : Nat} {l : List (Int × Int)} (h : ElA SpIs 2 w a len cap l) : SlS w a len cap l := by
  refine ⟨h.len, h.le, h.most, h.nil, fun h0 => ?_⟩
  obtain ⟨b, off, ha, hc⟩ := h.cells h0
  refine ⟨b, off, ha, fun i hi => ?_⟩
  have hil : i < l.length := by rw [h.len]; exact hi
  obtain ⟨cs, hR, _, hj⟩ := hc i hil
  rw [hR] at hj
  have e : l.getD i (0, 0) = l[i] := by simp [List.getD, hil]
  rw [e]
  have j0 := hj 0 (by omega)
  have j1 := hj 1 (by omega)
  rw [← Nat.add_assoc] at j1
  exact ⟨by simpa using j0, by simpa using j1⟩
set_option maxRecDepth 100000 in
theorem open_spans {a : Option Addr} {len cap : Nat} {d : DataW H} {p : List MemPlace}
    (h : ∃ fuel, DataW.trod enc Try.prog w base (fun _ => true) true fuel 32 [.slice a len cap] = some (d, p)) :
    ∃ l : List (Int × Int), SlS w a len cap l ∧ True := by
  obtain ⟨l, hl, _⟩ := open_els (R := SpIs) (D := fun (_ : DataW H) (_ : Int × Int) => True) Try.underlying32 (by rw [cells_span]; omega) h span_of
  rw [cells_span] at hl
  exact ⟨l, sls_of_els hl, trivial⟩
end
end Go.Proofs.Ytekddgmmfgpehaa.sp
/-!   Rows of spans.
-/
namespace Go.Proofs.Ytekddgmmfgpehaa.sp
open Go.RowKit aid mem
set_option linter.unusedVariables false

def spCells (l : List (Int × Int)) : List Value := l.flatMap (fun x => [.int .i64 x.1, .int .i64 x.2])
theorem spCells_snoc (l : List (Int × Int)) (x : Int × Int) : spCells (l ++ [x]) = spCells l ++ [.int .i64 x.1, .int .i64 x.2] := by simp [spCells]
theorem spCells_append (l r : List (Int × Int)) : spCells (l ++ r) = spCells l ++ spCells r := by simp [spCells]
theorem spCells_len (l : List (Int × Int)) : (spCells l).length = l.length * 2 := by
  induction l with
  | nil => rfl
  | cons x l ih => rw [show spCells (x :: l) = [.int .i64 x.1, .int .i64 x.2] ++ spCells l from rfl, List.length_append, ih]; simp; omega
theorem spCells_get (l : List (Int × Int)) : ∀ i, i < l.length → (spCells l)[i * 2]? = some (.int .i64 (l.getD i (0, 0)).1) ∧ (spCells l)[i * 2 + 1]? = some (.int .i64 (l.getD i (0, 0)).2) := by
  induction l with
  | nil => intro i hi; simp at hi
  | cons x l ih =>
    intro i hi
    rw [show spCells (x :: l) = .int .i64 x.1 :: .int .i64 x.2 :: spCells l from rfl]
    cases i with
    | zero => exact ⟨rfl, rfl⟩
    | succ i =>
      have := ih i (by simpa using hi)
      rw [show (i + 1) * 2 = i * 2 + 1 + 1 from by omega]
      simpa [List.getD] using this
theorem spCells_inj : ∀ {l r : List (Int × Int)}, spCells l = spCells r → l = r := by
  intro l
  induction l with
  | nil => intro r h; cases r with | nil => rfl | cons y r => simp [spCells] at h
  | cons x l ih =>
    intro r h
    cases r with
    | nil => simp [spCells] at h
    | cons y r =>
      rw [show spCells (x :: l) = .int .i64 x.1 :: .int .i64 x.2 :: spCells l from rfl, show spCells (y :: r) = .int .i64 y.1 :: .int .i64 y.2 :: spCells r from rfl] at h
      injection h with h1 h
      injection h with h2 h
      injection h1 with _ h1
      injection h2 with _ h2
      rw [ih h, Prod.ext h1 h2]
theorem spCells_one (l : List (Int × Int)) : ∀ u ∈ spCells l, u.oneCell' = true := by
  intro u hu
  unfold spCells at hu
  obtain ⟨x, _, hx⟩ := List.mem_flatMap.1 hu
  simp at hx
  rcases hx with rfl | rfl <;> rfl
theorem info_span : (Try.prog.info? 36).map (fun i => (i.zero, i.size, i.bytes)) = some (some (.agg #[.int .i64 0, .int .i64 0]), 2, 16) := by kernel_rfl
/-- one span in a new array, as what is appended -/
theorem span_src (X : World) (s : Int × Int) : Src Try.prog 2 32 (.slice (some ⟨X.heap.size, 0, none⟩) 1 1) 1 [.int .i64 s.1, .int .i64 s.2] (X.alloc (.cells #[.int .i64 s.1, .int .i64 s.2] 36)) := by
  refine Src.ofSlice _ Try.underlying32 ⟨X.heap.size, 0, none⟩ 1 1 _ rfl ?_ (by simp [Value.oneCell'])
  intro j u hu
  have := cell_of_row (X.alloc (.cells #[.int .i64 s.1, .int .i64 s.2] 36)) X.heap.size j _ _ (0, 0) (heap_alloc_new X _)
  have hadd : (⟨X.heap.size, 0, none⟩ : Addr).add j = ⟨X.heap.size, 0 + j, none⟩ := by unfold Addr.add; split <;> simp_all
  rw [hadd, Nat.zero_add, this, ← hu]
  simp
/-- a slice of spans, as what is appended -/
theorem SlS.src {w : World} {a : Option Addr} {n cap : Nat} {l : List (Int × Int)} (h : SlS w a n cap l) : Src Try.prog 2 32 (.slice a n cap) n (spCells l) w := by
  have hl : (spCells l).length = n * 2 := by rw [spCells_len, h.len]
  cases a with
  | none =>
    have hn : n = 0 := by have := h.le; have := h.nil rfl; omega
    subst hn
    obtain rfl : l = [] := List.eq_nil_of_length_eq_zero h.len
    exact Src.ofNil w Try.underlying32 cap
  | some x =>
    refine Src.ofSlice w Try.underlying32 x n cap _ hl ?_ (spCells_one l)
    intro j u hu
    have hj : j < n * 2 := by rw [← hl]; exact (List.getElem?_eq_some_iff.1 hu).1
    obtain ⟨b, off, hx, hc⟩ := h.cells (by omega)
    obtain rfl : x = ⟨b, off, none⟩ := by injection hx
    have hadd : (⟨b, off, none⟩ : Addr).add j = ⟨b, off + j, none⟩ := by unfold Addr.add; split <;> simp_all
    rw [hadd]
    obtain ⟨c0, c1⟩ := hc (j / 2) (by omega)
    obtain ⟨e0, e1⟩ := spCells_get l (j / 2) (by rw [h.len]; omega)
    by_cases hp : j % 2 = 0
    · rw [show j = j / 2 * 2 from by omega] at hu ⊢
      rw [e0] at hu
      cases hu
      exact c0
    · rw [show j = j / 2 * 2 + 1 from by omega] at hu ⊢
      rw [e1] at hu
      cases hu
      rw [← Nat.add_assoc]
      exact c1
/-- a row of one's own is a slice of spans -/
theorem sls_of_own {w : World} {base : Nat} {v : Value} {n : Nat} {l : List (Int × Int)} (h : w.ownsRow base 36 2 v n (spCells l)) :
    ∃ a cap, v = .slice a n cap ∧ SlS w a n cap l ∧ ∀ x, a = some x → v.ownBlock = some x.block := by
  have hl : l.length = n := by have := h.1; rw [spCells_len] at this; omega
  rcases h.2 with ⟨rfl, rfl⟩ | ⟨g, cap, cur, rfl, hb, hg, hn, hm, hc, ht⟩
  · exact ⟨none, 0, rfl, ⟨hl, Nat.le_refl _, by unfold maxLen; omega, fun _ => rfl, fun h => by omega⟩, fun _ h => by cases h⟩
  · refine ⟨some ⟨g, 0, none⟩, cap, rfl, ⟨hl, hn, hm, (fun h => by cases h), fun _ => ⟨g, 0, rfl, fun i hi => ?_⟩⟩, fun x hx => by injection hx with hx; subst hx; rfl⟩
    obtain ⟨e0, e1⟩ := spCells_get l i (by omega)
    rw [← ht, List.getElem?_take, if_pos (by omega)] at e0 e1
    rw [cell_of_row w g _ cur _ (0, 0) hg, cell_of_row w g _ cur _ (0, 0) hg, Nat.zero_add]
    exact ⟨by simpa using e0, by simpa using e1⟩
end Go.Proofs.Ytekddgmmfgpehaa.sp
/-!   The reference's Same, of two lists of spans.
-/
namespace Go.Proofs.Ytekddgmmfgpehaa.sp
open Go.RowKit aid mem
attribute [local go_sem ↓] Go.wp_at_zero Go.wp_at_succ
set_option linter.unusedVariables false

theorem eq_spB (x y : Int × Int) (w : World) : (Op.equalIn 10000 36 (.agg #[.int .i64 x.1, .int .i64 x.2]) (.agg #[.int .i64 y.1, .int .i64 y.2])).run Try.prog w = .ok (decide (x = y)) w := by
  rw [eq_sp]
  congr 1
  rw [Bool.eq_iff_iff]
  simp [Prod.ext_iff]
theorem take_eq_succ {l r : List (Int × Int)} {k : Nat} (h : l.take k = r.take k) (hk : k < l.length) (hr : k < r.length) : (l.take (k + 1) = r.take (k + 1)) ↔ l.getD k (0, 0) = r.getD k (0, 0) := by
  have e1 := List.take_succ_eq_append_getElem hk
  have e2 := List.take_succ_eq_append_getElem hr
  rw [e1, e2, h, List.append_right_inj]
  simp [List.getD, hk, hr]
theorem bdN (w : World) (n : Nat) : Below w.heap.size w (w.drewN n) := ⟨rfl, rfl, rfl, Nat.le_refl _, fun _ _ => rfl⟩

set_option maxRecDepth 100000 in
set_option maxHeartbeats 3200000 in
theorem rsame_any {w : World} {a b : Option Addr} {n m c d : Nat} {l r : List (Int × Int)} (ho : SlS w a n c l) (hq : SlS w b m d r) :
    Calls Try.prog 17 #[.slice a n c, .slice b m d] w fun e w' => e = .returned (.bool (decide (l = r))) ∧ Below w.heap.size w w' := by
  have hmo := ho.most
  have hleo := ho.le
  have hmq := hq.most
  have hleq := hq.le
  have hl1 := ho.len
  have hl2 := hq.len
  unfold maxLen at hmo hmq
  by_cases hnm : n = m
  · subst hnm
    have H1 := Lib.hid ho.cells
    have H2 := Lib.hid hq.cells
    have HL := Lib.hid (And.intro hl1 hl2)
    clear ho hq hl1 hl2
    go_enter Try.func17, Try.ntmps17
    go_wp2_with fail
    go_loopw [5] (fun i wr => ∃ k nq : Nat, k ≤ n ∧ i = .int .i64 k ∧ wr = w.drewN nq ∧ Hid (l.take k = r.take k)) (fun i _ => n - (intOf i).toNat)
    case atStart => exact ⟨0, 0, Nat.zero_le _, rfl, rfl, Lib.hid rfl⟩
    case round =>
      obtain ⟨k, nq, hk, rfl, rfl, HT⟩ := hrel
      have hk0 : (0 : Int) ≤ (k : Int) := by omega
      by_cases hlt : k < n
      · obtain ⟨b1, o1, rfl, hc1⟩ := H1.out (by omega)
        obtain ⟨b2, o2, rfl, hc2⟩ := H2.out (by omega)
        obtain ⟨g1, g2⟩ := hc1 k hlt
        obtain ⟨g3, g4⟩ := hc2 k hlt
        have hk1 : (k : Int) < (n : Int) := by omega
        have hst := take_eq_succ HT.out (by rw [HL.out.1]; exact hlt) (by rw [HL.out.2]; exact hlt)
        generalize l.getD k (0, 0) = x at *
        generalize r.getD k (0, 0) = y at *
        have HST := Lib.hid hst
        clear hc1 hc2 hst
        have eqg := eq_guard
        by_cases hxy : x = y
        · have eqb : ∀ w, (Op.equalIn 10000 36 (.agg #[.int .i64 x.1, .int .i64 x.2]) (.agg #[.int .i64 y.1, .int .i64 y.2])).run Try.prog w = .ok true w := fun w => by rw [eq_spB, hxy]; simp
          have H' := Lib.hid (HST.out.2 hxy)
          clear hxy HST
          go_wp2_with fail
          go_quiet (fail)
          clear eqb eqg
          go_wp2
          go_roundw
          case rel => exact ⟨k + 1, _, by omega, by go_num, rfl, H'⟩
          case measure => simp [intOf]; omega
        · have eqb : ∀ w, (Op.equalIn 10000 36 (.agg #[.int .i64 x.1, .int .i64 x.2]) (.agg #[.int .i64 y.1, .int .i64 y.2])).run Try.prog w = .ok false w := fun w => by rw [eq_spB, decide_eq_false hxy]
          have H' : Hid (decide (l = r) = false) := Lib.hid (decide_eq_false (fun e => hxy (HST.out.1 (by rw [e]))))
          clear hxy HST
          go_wp2_with fail
          go_quiet (fail)
          clear eqb eqg
          go_wp2
          go_ret
          exact ⟨ret_b H'.out.symm, ⟨rfl, rfl, rfl, Nat.le_refl _, fun _ _ => rfl⟩⟩
      · have H' : Hid (decide (l = r) = true) := Lib.hid (decide_eq_true (by have := HT.out; rw [List.take_of_length_le (by rw [HL.out.1]; omega), List.take_of_length_le (by rw [HL.out.2]; omega)] at this; exact this))
        clear HT
        go_wp2
        go_ret
        exact ⟨ret_b H'.out.symm, bdN w nq⟩
  · have H' : Hid (decide (l = r) = false) := Lib.hid (decide_eq_false (fun e => hnm (by rw [← hl1, ← hl2, e])))
    clear ho hq hl1 hl2
    go_enter Try.func17, Try.ntmps17
    go_wp2_with fail
    go_ret
    exact ⟨ret_b H'.out.symm, Below.refl _ _⟩
end Go.Proofs.Ytekddgmmfgpehaa.sp
/-!   Package runs: a set in memory; all, Len, place, behind, check.
-/
namespace Go.Proofs.Ytekddgmmfgpehaa.rn
open Go.RowKit aid mem sp
attribute [local go_sem ↓] Go.wp_at_zero Go.wp_at_succ
set_option linter.unusedVariables false

theorem cofr {w : World} {B : Nat} {cs : Array Value} {t : TypeId} (h : w.heap[B]? = some (.cells cs t (0, 0))) (i : Nat) (v : Value) (hv : cs[i]? = some v) : w.cell? ⟨B, i, none⟩ = some v := (cell_of_row w B i _ _ (0, 0) h).trans hv
theorem fofr {w : World} {B : Nat} {cs : Array Value} {t : TypeId} (h : w.heap[B]? = some (.cells cs t (0, 0))) (i : Nat) : w.frozen? ⟨B, i, none⟩ = false := by simp [World.frozen?, h]
theorem kcell {w w' : World} {p : Addr} {v : Value} (hb : Below w.heap.size w w') (h : w.cell? p = some v) : w'.cell? p = some v := (hb.cell (World.block_lt_of_cell? w _ h)).trans h
theorem spTake (l : List Sp) : ∀ k, (spCells l).take (k * 2) = spCells (l.take k) := by
  induction l with
  | nil => intro k; simp [spCells]
  | cons x l ih =>
    intro k
    cases k with
    | zero => simp [spCells]
    | succ k =>
      rw [show (k + 1) * 2 = k * 2 + 1 + 1 from by omega, List.take_succ_cons]
      show .int .i64 x.1 :: List.take (k * 2 + 1) (.int .i64 x.2 :: spCells l) = _
      rw [List.take_succ_cons, ih k]
      rfl
theorem spDrop (l : List Sp) : ∀ k, (spCells l).drop (k * 2) = spCells (l.drop k) := by
  induction l with
  | nil => intro k; simp [spCells]
  | cons x l ih =>
    intro k
    cases k with
    | zero => simp
    | succ k =>
      rw [show (k + 1) * 2 = k * 2 + 1 + 1 from by omega]
      show List.drop (k * 2 + 1 + 1) (.int .i64 x.1 :: .int .i64 x.2 :: spCells l) = _
      rw [List.drop_succ_cons, List.drop_succ_cons, ih k]
      rfl
/-- block B holds a set -/
structure RnAt (w : World) (B : Nat) (a : Option Addr) (n cap : Nat) (l : List Sp) : Prop where
  hdr : w.heap[B]? = some (.cells #[.slice a n cap] 90 (0, 0))
  row : SlR w 36 2 a n cap (spCells l)
theorem row_len {w : World} {a : Option Addr} {n cap : Nat} {l : List Sp} (h : SlR w 36 2 a n cap (spCells l)) : l.length = n := by have := h.len; rw [spCells_len] at this; omega
theorem row_cells {w : World} {a : Option Addr} {n cap : Nat} {l : List Sp} (h : SlR w 36 2 a n cap (spCells l)) (h0 : 0 < n) : ∃ g off, a = some ⟨g, off, none⟩ ∧ ∀ i, i < n → w.cell? ⟨g, off + i * 2, none⟩ = some (.int .i64 (l.getD i (0, 0)).1) ∧ w.cell? ⟨g, off + i * 2 + 1, none⟩ = some (.int .i64 (l.getD i (0, 0)).2) := by
  obtain ⟨g, off, rfl, hc⟩ := h.cell (by have := h.le; omega)
  refine ⟨g, off, rfl, fun i hi => ?_⟩
  obtain ⟨e0, e1⟩ := spCells_get l i (by rw [row_len h]; exact hi)
  exact ⟨(hc (i * 2) (by omega)).trans e0, by rw [Nat.add_assoc]; exact (hc (i * 2 + 1) (by omega)).trans e1⟩
theorem RnAt.later {w w' : World} {B : Nat} {a : Option Addr} {n cap : Nat} {l : List Sp} (h : RnAt w B a n cap l) (hb : Below w.heap.size w w') : RnAt w' B a n cap l := ⟨(hb.block B (lt_of_block h.hdr)).trans h.hdr, h.row.later hb⟩
/-- a set, or none -/
def Rv (w : World) (v : Value) (a : Option Addr) (n cap : Nat) (l : List Sp) : Prop := (v = .pointer none ∧ a = none ∧ n = 0 ∧ cap = 0 ∧ l = []) ∨ ∃ B, v = .pointer (some ⟨B, 0, none⟩) ∧ RnAt w B a n cap l
theorem RnAt.rv {w : World} {B : Nat} {a : Option Addr} {n cap : Nat} {l : List Sp} (h : RnAt w B a n cap l) : Rv w (.pointer (some ⟨B, 0, none⟩)) a n cap l := .inr ⟨B, rfl, h⟩
theorem rv_nil (w : World) : Rv w (.pointer none) none 0 0 [] := .inl ⟨rfl, rfl, rfl, rfl, rfl⟩
theorem Rv.row {w : World} {v : Value} {a : Option Addr} {n cap : Nat} {l : List Sp} (h : Rv w v a n cap l) : SlR w 36 2 a n cap (spCells l) := by
  rcases h with ⟨_, rfl, rfl, rfl, rfl⟩ | ⟨B, _, h⟩
  · exact SlR.nil w _ 2
  · exact h.row
theorem Rv.later {w w' : World} {v : Value} {a : Option Addr} {n cap : Nat} {l : List Sp} (h : Rv w v a n cap l) (hb : Below w.heap.size w w') : Rv w' v a n cap l := by
  rcases h with h | ⟨B, e, h⟩
  · exact .inl h
  · exact .inr ⟨B, e, h.later hb⟩
theorem Rv.ptr {w : World} {v : Value} {a : Option Addr} {n cap : Nat} {l : List Sp} (h : Rv w v a n cap l) : ∃ p, v = .pointer p := by
  rcases h with ⟨rfl, _⟩ | ⟨B, rfl, h⟩
  · exact ⟨_, rfl⟩
  · exact ⟨_, rfl⟩
theorem all_any {w : World} {v : Value} {a : Option Addr} {n cap : Nat} {l : List Sp} (h : Rv w v a n cap l) : Calls Try.prog 81 #[v] w fun e w' => e = .returned (.slice a n cap) ∧ w = w' := by
  rcases h with ⟨rfl, rfl, rfl, rfl, rfl⟩ | ⟨B, rfl, h⟩
  · go_enter Try.func81, Try.ntmps81
    go_wp2
    go_ret
    exact ⟨rfl, rfl⟩
  · have c0 := cofr h.hdr 0 _ rfl
    go_enter Try.func81, Try.ntmps81
    go_wp2
    go_ret
    exact ⟨rfl, rfl⟩
theorem len_any' {w : World} {v : Value} {a : Option Addr} {n cap : Nat} {l : List Sp} (h : Rv w v a n cap l) : Calls Try.prog 78 #[v] w fun e w' => e = .returned (.int .i64 n) ∧ w = w' := by
  have HA := Lib.hid (all_any h)
  go_enter Try.func78, Try.ntmps78
  go_wp2_with (go_at_call 81; refine HA.out.mono ?_; rintro e w' ⟨rfl, rfl⟩)
  go_ret
  exact ⟨rfl, rfl⟩

set_option maxHeartbeats 2000000 in
theorem search_any {w : World} (g : Nat) (cb : Array Value) (n : Nat) (p : Nat → Bool) (eg : ∀ args w, (callFunc g args).run Try.prog w = .ok (.enter g args) w) (hn : n < 4611686018427387904)
    (hf : ∀ (W : World), Below w.heap.size w W → ∀ i : Nat, i < n → Calls Try.prog g (#[.int .i64 i] ++ cb) W fun e w' => e = .returned (.bool (p i)) ∧ Below W.heap.size W w')
    (hm : ∀ a b, a ≤ b → b < n → p a = true → p b = true) :
    Calls Try.prog 83 #[.int .i64 n, .func (.func g) #[] cb] w fun e w' => ∃ r : Nat, e = .returned (.int .i64 r) ∧ Found p n r ∧ Below w.heap.size w w' := by
  have HF := Lib.hid hf
  have HM := Lib.hid hm
  clear hf hm
  go_enter Try.func83, Try.ntmps83
  go_wp2
  go_loopw [5, 6] (fun s5 s6 wr => ∃ lo hi : Nat, s5 = .int .i64 lo ∧ s6 = .int .i64 hi ∧ lo ≤ hi ∧ hi ≤ n ∧ Below w.heap.size w wr ∧ Hid ((∀ t, t < lo → p t = false) ∧ (∀ t, hi ≤ t → t < n → p t = true))) (fun s5 s6 _ => (intOf s6).toNat - (intOf s5).toNat)
  case atStart => exact ⟨0, n, rfl, rfl, Nat.zero_le _, Nat.le_refl _, Below.refl _ _, Lib.hid ⟨fun t ht => by omega, fun t h1 h2 => by omega⟩⟩
  case round =>
    obtain ⟨lo, hi, rfl, rfl, hlh, hin, hb, HI⟩ := hrel
    by_cases hlt : lo < hi
    · have hc := HF.out wr hb ((lo + hi) / 2) (by omega)
      rw [show (((lo + hi) / 2 : Nat) : Int) = ((lo : Int) + (hi : Int)) / 2 by omega] at hc
      cases hp : p ((lo + hi) / 2) <;> rw [hp] at hc
      · have HP := Lib.hid hp
        clear hp
        go_wp2_with (go_at_fn g; refine hc.mono ?_; rintro e w' ⟨rfl, hb3⟩)
        go_roundw
        case measure => simp [intOf]; omega
        case rel => exact ⟨(lo + hi) / 2 + 1, hi, by rw [show ((lo : Int) + (hi : Int)) / 2 + 1 = (((lo + hi) / 2 + 1 : Nat) : Int) by omega], rfl, by omega, hin, hb.trans (hb3.mono hb.size), Lib.hid ⟨fun t ht => (by
            cases h : p t with
            | false => rfl
            | true => have := HM.out t ((lo + hi) / 2) (by omega) (by omega) h; rw [HP.out] at this; cases this), HI.out.2⟩⟩
      · have HP := Lib.hid hp
        clear hp
        go_wp2_with (go_at_fn g; refine hc.mono ?_; rintro e w' ⟨rfl, hb3⟩)
        go_roundw
        case measure => simp [intOf]; omega
        case rel => exact ⟨lo, (lo + hi) / 2, rfl, by rw [show ((lo : Int) + (hi : Int)) / 2 = (((lo + hi) / 2 : Nat) : Int) by omega], by omega, by omega, hb.trans (hb3.mono hb.size), Lib.hid ⟨HI.out.1, fun t ht htn => HM.out ((lo + hi) / 2) t ht htn HP.out⟩⟩
    · obtain rfl : hi = lo := by omega
      go_wp2
      go_ret
      exact ⟨hi, rfl, ⟨hin, HI.out.1, HI.out.2⟩, hb⟩

set_option maxHeartbeats 1000000 in
theorem place1_any {W : World} {X Y gf : Nat} {cb : Array Value} {a : Option Addr} {n cap : Nat} {l : List Sp} (q : Sp → Bool) (hrow : SlR W 36 2 a n cap (spCells l)) (eg : ∀ args w, (callFunc gf args).run Try.prog w = .ok (.enter gf args) w)
    (b0 : W.cell? ⟨X, 0, none⟩ = some (.func (.func gf) #[] cb)) (b1 : W.cell? ⟨Y, 0, none⟩ = some (.slice a n cap)) (hf : ∀ W2, Below W.heap.size W W2 → ∀ x ∈ l, Calls Try.prog gf (#[spV x] ++ cb) W2 (RetB (q x) W2)) (i : Nat) (hi : i < n) :
    Calls Try.prog 84 (#[.int .i64 i] ++ #[.pointer (some ⟨X, 0, none⟩), .pointer (some ⟨Y, 0, none⟩)]) W fun e w' => e = .returned (.bool (q (l.getD i (0, 0)))) ∧ Below W.heap.size W w' := by
  have hlen := row_len hrow
  obtain ⟨g, off, rfl, hc⟩ := row_cells hrow (by omega)
  obtain ⟨m0, m1⟩ := hc i hi
  have hle := hrow.le
  have hmost := hrow.most
  unfold maxLen at hmost
  have HW := Lib.hid (fun W2 (hW : Below W.heap.size W W2) => hf W2 hW (l.getD i (0, 0)) (getD_mem (by omega)))
  clear hc hrow hf
  generalize l.getD i (0, 0) = m at *
  obtain ⟨qm, hqm⟩ : ∃ qm, q m = qm := ⟨_, rfl⟩
  rw [hqm] at HW ⊢
  clear hqm
  go_enter Try.func84, Try.ntmps84
  go_wp2_with fail
  go_region_held3 (fun w' => w'.cell? ⟨X, 0, none⟩ = some (.func (.func gf) #[] cb) ∧ w'.cell? ⟨Y, 0, none⟩ = some (.slice (some ⟨g, off, none⟩) n cap) ∧ w'.cell? ⟨g, off + i * 2, none⟩ = some (.int .i64 m.1) ∧ w'.cell? ⟨g, off + i * 2 + 1, none⟩ = some (.int .i64 m.2))
    (first | go_keep | exact ⟨kcell hb1 b0, kcell hb1 b1, kcell hb1 m0, kcell hb1 m1⟩)
    ((go_at_fn gf; (with_reducible refine (HW.out _ (Below.refl _ _).drew).mono ?_); rintro e w1 ⟨rfl, hb1⟩; replace hb1 := (Below.refl W.heap.size W).drew.trans hb1))
  go_wp2
  go_ret
  exact ⟨rfl, hb1⟩
theorem eg_place1 : ∀ args w, (callFunc 84 args).run Try.prog w = .ok (.enter 84 args) w := enters_of Try.func84 (by kernel_rfl) rfl
/-- a place is found -/
def RetN (r : Nat) (w : World) (e : Ending) (w' : World) : Prop := e = .returned (.int .i64 r) ∧ Below w.heap.size w w'
set_option maxHeartbeats 2000000 in
theorem place_any {w : World} {v : Value} {gf : Nat} {cb : Array Value} {a : Option Addr} {n cap : Nat} {l : List Sp} (q : Sp → Bool) (h : Rv w v a n cap l) (eg : ∀ args w, (callFunc gf args).run Try.prog w = .ok (.enter gf args) w)
    (hn : n < 4611686018427387904) (hf : ∀ W2, Below w.heap.size w W2 → ∀ x ∈ l, Calls Try.prog gf (#[spV x] ++ cb) W2 (RetB (q x) W2)) (hm : ∀ x y, x < y → y < n → q (l.getD x (0, 0)) = true → q (l.getD y (0, 0)) = true) :
    Calls Try.prog 57 #[v, .func (.func gf) #[] cb] w (RetN (plc q l) w) := by
  obtain ⟨p, rfl⟩ := h.ptr
  obtain ⟨W1, hW1⟩ : ∃ W1, W1 = w.alloc (.cells #[.func (.func gf) #[] cb] 96) := ⟨_, rfl⟩
  have hb1 : Below w.heap.size w W1 := by rw [hW1]; exact bal _
  have x1 : W1.heap[w.heap.size]? = some (.cells #[.func (.func gf) #[] cb] 96 (0, 0)) := by rw [hW1]; exact heap_alloc_new w _
  have hz1 : W1.heap.size = w.heap.size + 1 := by rw [hW1]; simp
  obtain ⟨W0, hW0⟩ : ∃ W0, W0 = W1.alloc (.cells #[.slice a n cap] 32) := ⟨_, rfl⟩
  have hb0 : Below W1.heap.size W1 W0 := by rw [hW0]; exact bal _
  have x0 : W0.heap[w.heap.size]? = some (.cells #[.func (.func gf) #[] cb] 96 (0, 0)) := (hb0.block _ (by omega)).trans x1
  have y0 : W0.heap[W1.heap.size]? = some (.cells #[.slice a n cap] 32 (0, 0)) := by rw [hW0]; exact heap_alloc_new W1 _
  have hbw : Below w.heap.size w W0 := hb1.trans (hb0.mono hb1.size)
  have HA := Lib.hid (all_any (h.later hb1))
  have c0 := cofr x0 0 _ rfl
  have d0 := cofr y0 0 _ rfl
  have HS := Lib.hid (search_any (w := W0) 84 #[.pointer (some ⟨w.heap.size, 0, none⟩), .pointer (some ⟨W1.heap.size, 0, none⟩)] n (fun i => q (l.getD i (0, 0))) eg_place1 hn
    (fun W2 hW2 i hi => place1_any q (h.later (hbw.trans (hW2.mono hbw.size))).row eg (kcell hW2 c0) (kcell hW2 d0) (fun W3 hW3 x hx => hf W3 (hbw.trans ((hW2.trans (hW3.mono hW2.size)).mono hbw.size)) x hx) i hi)
    (fun x y hxy hy hx => by
      by_cases he : x = y
      · subst he; exact hx
      · exact hm x y (by omega) hy hx))
  have HB := Lib.hid hbw
  have hlen := row_len h.row
  have HP := Lib.hid (plc_found (q := q) (l := l) (by rw [hlen]; exact hm))
  rw [hlen] at HP
  clear hlen
  clear hf hm h x0 x1 y0 hb0 hb1 hbw c0
  go_enter Try.func57, Try.ntmps57
  go_wp2_with (first
    | (go_at_call 81; rw [← hW1]; (with_reducible refine HA.out.mono ?_); rintro e w' ⟨rfl, rfl⟩)
    | (go_at_call 83; rw [← hW1, ← hW0, ← hz1]; go_must (with_reducible refine HS.out.mono ?_); rintro e w3 ⟨r, rfl, hfr, hb3⟩))
  go_ret
  exact ⟨by rw [hfr.one HP.out]; rfl, HB.out.trans (hb3.mono HB.out.size)⟩
/-! ### the tests of places -/
theorem enters1 : ∀ args w, (callFunc 91 args).run Try.prog w = .ok (.enter 91 args) w := enters_of Try.func91 (by kernel_rfl) rfl
theorem enters2 : ∀ args w, (callFunc 58 args).run Try.prog w = .ok (.enter 58 args) w := enters_of Try.func58 (by kernel_rfl) rfl
theorem enters3 : ∀ args w, (callFunc 59 args).run Try.prog w = .ok (.enter 59 args) w := enters_of Try.func59 (by kernel_rfl) rfl
theorem behind1_any {w : World} {X : Nat} {o : Int} (b0 : w.cell? ⟨X, 0, none⟩ = some (.int .i64 o)) (x : Sp) : Calls Try.prog 91 (#[spV x] ++ #[.pointer (some ⟨X, 0, none⟩)]) w (RetB (decide (o < x.2)) w) := by
  have c0 := kcell (bal (w := w) (.cells #[.int .i64 x.1, .int .i64 x.2] 36)) b0
  have s0 := sp_new w x
  have c1 := s0.c1
  go_enter Try.func91, Try.ntmps91
  go_wp2
  go_ret
  exact ⟨rfl, bal _⟩
theorem add1_any {w : World} {X : Nat} {s : Sp} (b0 : SpAt w X s) (x : Sp) : Calls Try.prog 58 (#[spV x] ++ #[.pointer (some ⟨X, 0, none⟩)]) w (RetB (decide (s.1 ≤ x.2)) w) := by
  have b1 := b0.later (bal (w := w) (.cells #[.int .i64 x.1, .int .i64 x.2] 36))
  have c0 := b1.c0; have c1 := b1.c1
  have s0 := sp_new w x
  have d0 := s0.c0; have d1 := s0.c1
  go_enter Try.func58, Try.ntmps58
  go_wp2
  go_ret
  exact ⟨rfl, bal _⟩
theorem add2_any {w : World} {X : Nat} {s : Sp} (b0 : SpAt w X s) (x : Sp) : Calls Try.prog 59 (#[spV x] ++ #[.pointer (some ⟨X, 0, none⟩)]) w (RetB (decide (s.2 < x.1)) w) := by
  have b1 := b0.later (bal (w := w) (.cells #[.int .i64 x.1, .int .i64 x.2] 36))
  have c0 := b1.c0; have c1 := b1.c1
  have s0 := sp_new w x
  have d0 := s0.c0; have d1 := s0.c1
  go_enter Try.func59, Try.ntmps59
  go_wp2
  go_ret
  exact ⟨rfl, bal _⟩
theorem behind_any {w : World} {v : Value} {a : Option Addr} {n cap : Nat} {l : List Sp} (h : Rv w v a n cap l) (hl : Rn l) (hn : n < 4611686018427387904) (o : Int) : Calls Try.prog 77 #[v, .int .i64 o] w (RetN (bhd l o) w) := by
  have hlen := row_len h.row
  obtain ⟨W1, hW1⟩ : ∃ W1, W1 = w.alloc (.cells #[.int .i64 o] 3) := ⟨_, rfl⟩
  have hb1 : Below w.heap.size w W1 := by rw [hW1]; exact bal _
  have x1 : W1.heap[w.heap.size]? = some (.cells #[.int .i64 o] 3 (0, 0)) := by rw [hW1]; exact heap_alloc_new w _
  have c0 := cofr x1 0 _ rfl
  have HP := Lib.hid (place_any (gf := 91) (cb := #[.pointer (some ⟨w.heap.size, 0, none⟩)]) (fun x => decide (o < x.2)) (h.later hb1) enters1 hn (fun W2 hW2 x _ => behind1_any (kcell hW2 c0) x) (by rw [← hlen]; exact hl.mono2 o))
  obtain ⟨p, rfl⟩ := h.ptr
  have HB := Lib.hid hb1
  clear hb1 x1 c0 h hlen
  go_enter Try.func77, Try.ntmps77
  go_wp2_with (go_at_call 57; rw [← hW1]; go_must (with_reducible refine HP.out.mono ?_); rintro e w3 ⟨rfl, hb3⟩)
  go_ret
  exact ⟨rfl, HB.out.trans (hb3.mono HB.out.size)⟩
theorem check_nil (w : World) (s : Sp) : Calls Try.prog 55 #[.pointer none, spV s] w (RetI 1 w) := by
  go_enter Try.func55, Try.ntmps55
  go_wp2
  go_ret
  exact ⟨rfl, bal _⟩
theorem check_any (w : World) (B : Nat) (s : Sp) : Calls Try.prog 55 #[.pointer (some ⟨B, 0, none⟩), spV s] w (RetI (if mayB s.1 s.2 = true then 0 else 3) w) := by
  have b1 := bal (w := w) (.cells #[.int .i64 s.1, .int .i64 s.2] 36)
  have s0 := sp_new w s
  have c0 := s0.c0; have c1 := s0.c1
  have HM := Lib.hid (may_any s.1 s.2 (w.alloc (.cells #[.int .i64 s.1, .int .i64 s.2] 36)))
  have HB := Lib.hid b1
  clear b1
  cases hm : mayB s.1 s.2
  all_goals
    rw [hm] at HM
    clear hm
    go_enter Try.func55, Try.ntmps55
    go_wp2_with (go_at_call 82; go_must (with_reducible refine HM.out.mono ?_); rintro e w3 ⟨rfl, hb3⟩)
    go_ret
    exact ⟨rfl, HB.out.trans (hb3.mono HB.out.size)⟩
end Go.Proofs.Ytekddgmmfgpehaa.rn
/-!   Package runs: going through what of a span is in.
-/
namespace Go.Proofs.Ytekddgmmfgpehaa.rn
open Go.RowKit Go.Shelf aid mem rng sp
attribute [local go_sem] Oper.semAt_some
set_option linter.unusedVariables false
set_option linter.unusedSimpArgs false

/-- a region that is shown to end as it should -/
def OnlyN (Q : Exit → Act → World → Prop) : Exit → Act → World → Prop
  | .normal, a, w => Q .normal a w
  | _, _, _ => False
theorem OnlyN.normal {Q : Exit → Act → World → Prop} {a : Act} {w : World} (h : Q .normal a w) : OnlyN Q .normal a w := h
theorem OnlyN.imp {Q : Exit → Act → World → Prop} : ∀ (e : Exit) (a : Act) (w : World), OnlyN Q e a w → Q e a w := fun e a w h => by
  cases e <;> first | exact h | exact (h : False).elim
theorem wpIn_region_in {P : Program} {n id : Nat} {ops : Array Oper} {Q : Exit → Act → World → Prop} {a : Act} {w : World} (S : World → Prop) (hm : P.follows .mixedOrders = true)
    (h : wpAnyH P .any ops (OnlyN Q) S ops.size (Array.replicate ops.size false) a w.drew) : (Code.region id ops true).wpIn Fence.wide n P Q a w :=
  Code.wpIn_mono OnlyN.imp (wpIn_region_held' S hm (fun ⟨_, _, h⟩ => h) h)
theorem wpIn_region_inR {P : Program} {n l id : Nat} {ops : Array Oper} {Q : Exit → Act → World → Prop} {a : Act} {w : World} (S : World → Prop) (hm : P.follows .mixedOrders = true) (hd : noDefer ops = true)
    (h : wpAnyH P .any ops (OnlyN Q) S ops.size (Array.replicate ops.size false) a w.drew) : (Code.region id ops true).wpIn (Fence.wide.inRound l) n P Q a w :=
  Code.wpIn_mono OnlyN.imp (wpIn_region_held S hm hd (fun ⟨_, _, h⟩ => h) h)
abbrev spE (x : Sp) : Array Value := #[spV x]
theorem bd_drew {w w' : World} {B : Nat} (h : Below B w w') : Below B w w'.drew := ⟨h.os, h.tape, h.output, h.size, h.block⟩
/-- a row's part, as the code cuts it -/
theorem tw_step {l : List Sp} {s : Sp} {i : Nat} (h : i < l.length) : tw (l.drop i) s = if lenI (meetP (l.getD i (0, 0)) s) = 0 then [] else meetP (l.getD i (0, 0)) s :: tw (l.drop (i + 1)) s := by
  rw [drop_getD h, tw_cons]
theorem tw_end {l : List Sp} {s : Sp} {i : Nat} (h : l.length ≤ i) : tw (l.drop i) s = [] := by
  rw [List.drop_eq_nil_of_le h]; rfl
set_option maxRecDepth 100000 in
set_option maxHeartbeats 4000000 in
theorem parts1_seq {w : World} {v : Value} {a : Option Addr} {n cap : Nat} {l : List Sp} {s : Sp} {bx bs : Nat} {A : Nat → Prop} (hr : Rv w v a n cap l) (hl : Rn l) (hn : n < 1000000000000) (hx : w.cell? ⟨bx, 0, none⟩ = some v) (hs : SpAt w bs s) (hax : ¬ A bx) (has : ¬ A bs) (har : ∀ b ∈ blk a cap, ¬ A b) :
    SeqOf Try.prog 80 #[.pointer (some ⟨bx, 0, none⟩), .pointer (some ⟨bs, 0, none⟩)] spE (partsL l s) A w := by
  intro l' J Jx C0 W hW hC hJ hJx hY h0
  have c0 := kcell hW hx
  have sW := hs.later hW
  have rW := hr.later hW
  have d0 := sW.c0
  have hlen := row_len hr.row
  have hle := rW.row.le
  have hmost := rW.row.most
  unfold maxLen at hmost
  obtain ⟨b1, b2, b3⟩ := bhd_spec hl s.1
  have HPA := Lib.hid (parts_at hl b2 b3)
  have ns : ¬ C0 bs := fun e => by
    rcases (hC _ e).1 with q | q
    · exact has q
    · have := hs.lt; omega
  have ng : ∀ b ∈ blk a cap, ¬ C0 b := fun b hb e => by
    rcases (hC _ e).1 with q | q
    · exact har b hb q
    · have := (hr.row.lt b hb).1; omega
  have HCS := Lib.hid (fun C W1 (hI : It C0 W C W1) => show SpAt W1 bs s from hI.kept.heap (k := bs) ns sW)
  have HCE := Lib.hid (fun C W1 (hI : It C0 W C W1) (g off : Nat) (ha : a = some ⟨g, off, none⟩) (i : Nat) (hi : i < n) => show W1.cell? ⟨g, off + i * 2, none⟩ = some (.int .i64 (l.getD i (0, 0)).1) ∧ W1.cell? ⟨g, off + i * 2 + 1, none⟩ = some (.int .i64 (l.getD i (0, 0)).2) from by
    obtain ⟨g', off', ha', hc⟩ := row_cells rW.row (by omega)
    rw [ha] at ha'
    injection ha' with ha'
    injection ha' with e1 e2
    subst e1 e2
    have hg : g ∈ blk a cap := by rw [ha, blk_some _ _ _ (by omega)]; simp
    exact ⟨hI.kept.cell (p := ⟨g, off + i * 2, none⟩) (ng g hg) (hc i hi).1, hI.kept.cell (p := ⟨g, off + i * 2 + 1, none⟩) (ng g hg) (hc i hi).2⟩)
  have HA := Lib.hid (fun X (hX : Below W.heap.size W X) => all_any (rW.later hX))
  have HB := Lib.hid (fun X (hX : Below W.heap.size W X) => behind_any (rW.later hX) hl (by omega) s.1)
  have HI0 := Lib.hid (It.refl (C0 := C0) (W := W) (fun k hk => (hC k hk).2))
  have HOWN := Lib.hid (fun X (hX : Below W.heap.size W X) => And.intro (hJ [] C0 W X h0 (Nat.le_refl _) (Steps.of_below hX _)) (HI0.out.own (Steps.of_below hX _)))
  have HY := Lib.hid (fun pre x C W1 hj (hs : W.heap.size ≤ W1.heap.size) hp => hY pre x C W1 hj hs hp)
  have HJ := Lib.hid hJ
  have HCA := Lib.hid (show W.drew.cell? ⟨bx, 0, none⟩ = some v ∧ W.drew.cell? ⟨bs, 0, none⟩ = some (.int .i64 s.1) from ⟨c0, d0⟩)
  have HROW := Lib.hid rW.row
  have HKC := Lib.hid (fun X (hX : Below W.heap.size W X) => And.intro (kcell hX c0) (kcell hX d0))
  have hMO : Try.prog.follows .mixedOrders = true := by kernel_rfl
  show Calls Try.prog 80 #[.func (.yield l') #[] #[], .pointer (some ⟨bx, 0, none⟩), .pointer (some ⟨bs, 0, none⟩)] W _
  clear hr hx hs hax has har hW hC hJ hJx hY h0 sW rW ns ng c0 d0 b2 b3
  generalize bhd l s.1 = r at *
  refine (callsIn_wide (n := 6)).1 ?_
  refine callsIn_of_wp Try.func80 rfl trivial ?_ rfl
  simp only [Try.ntmps80, List.size_toArray, List.length_cons, List.length_nil, Nat.reduceAdd, Nat.reduceSub, Array.replicate_succ, Array.replicate_zero, List.push_toArray, List.append_toArray, List.nil_append, List.cons_append]
  have hB0 : Below W.heap.size W W.drew := (Below.refl _ W).drew
  have hHeld : (fun w' => w'.cell? ⟨bx, 0, none⟩ = some v ∧ w'.cell? ⟨bs, 0, none⟩ = some (.int .i64 s.1)) W.drew := HCA.out
  gi_wp2
  have hrn' : r ≤ n := by omega
  by_cases hrn : r < n
  · obtain ⟨g, off, rfl, hc0⟩ := row_cells HROW.out (by omega)
    clear hc0
    have hcr : ¬ cap = r := by omega
    refine wpIn_region_in (S := (fun w' => w'.cell? ⟨bx, 0, none⟩ = some v ∧ w'.cell? ⟨bs, 0, none⟩ = some (.int .i64 s.1))) hMO ?_
    refine wpAnyH_take (i := 0) (oi := _) (v := ?_) rfl (by kernel_rfl) (by kernel_rfl) (by kernel_rfl) (fun _ _ _ h => h) (Or.inl ⟨by rfl, ?_⟩) (by assumption) ?_
    rotate_left
    · (first | (intro v hSw; (try dsimp only at hSw); go_simp; done) | (intro v hSw; (try dsimp only at hSw); go_simp; with_reducible rfl))
    (try simp only [List.getElem_toArray, List.getElem_cons_succ, List.getElem_cons_zero, Act.put, List.setIfInBounds_toArray, List.set_cons_zero, List.set_cons_succ])
    refine wpAnyH_take (i := 2) (oi := _) (v := ?_) rfl (by kernel_rfl) (by kernel_rfl) (by kernel_rfl) (fun _ _ _ h => h) (Or.inl ⟨by rfl, ?_⟩) (by assumption) ?_
    rotate_left
    · (first | (intro v hSw; (try dsimp only at hSw); go_simp; done) | (intro v hSw; (try dsimp only at hSw); go_simp; with_reducible rfl))
    (try simp only [List.getElem_toArray, List.getElem_cons_succ, List.getElem_cons_zero, Act.put, List.setIfInBounds_toArray, List.set_cons_zero, List.set_cons_succ])
    refine wpAnyH_take (i := 3) (oi := _) (v := ?_) rfl (by kernel_rfl) (by kernel_rfl) (by kernel_rfl) (fun _ _ _ h => h) (Or.inl ⟨by rfl, ?_⟩) (by assumption) ?_
    rotate_left
    · (first | (intro v hSw; (try dsimp only at hSw); go_simp; done) | (intro v hSw; (try dsimp only at hSw); go_simp; with_reducible rfl))
    (try simp only [List.getElem_toArray, List.getElem_cons_succ, List.getElem_cons_zero, Act.put, List.setIfInBounds_toArray, List.set_cons_zero, List.set_cons_succ])
    refine wpAnyH_take (i := 4) (oi := _) (v := ?_) rfl (by kernel_rfl) (by kernel_rfl) (by kernel_rfl) (fun _ _ _ h => h) (Or.inl ⟨by rfl, ?_⟩) (by assumption) ?_
    rotate_left
    · (first | (intro v hSw; (try dsimp only at hSw); go_simp; done) | (intro v hSw; (try dsimp only at hSw); go_simp; with_reducible rfl))
    (try simp only [List.getElem_toArray, List.getElem_cons_succ, List.getElem_cons_zero, Act.put, List.setIfInBounds_toArray, List.set_cons_zero, List.set_cons_succ])
    refine wpAnyH_take (i := 8) (oi := _) (v := ?_) rfl (by kernel_rfl) (by kernel_rfl) (by kernel_rfl) (fun _ _ _ h => h) (Or.inl ⟨by rfl, ?_⟩) (by assumption) ?_
    rotate_left
    · (first | (intro v hSw; (try dsimp only at hSw); go_simp; done) | (intro v hSw; (try dsimp only at hSw); go_simp; with_reducible rfl))
    (try simp only [List.getElem_toArray, List.getElem_cons_succ, List.getElem_cons_zero, Act.put, List.setIfInBounds_toArray, List.set_cons_zero, List.set_cons_succ])
    refine wpAnyH_ready (rs := [1]) (by kernel_rfl) (by simp) ?_
    refine AllReadyH.cons (o := _) rfl (fun K hK => ?_) AllReadyH.nil
    go_simp
    (with_reducible refine (HA.out _ hB0).mono ?_)
    rintro e v1 ⟨rfl, rfl⟩
    refine hK.out _ _ ?_ (fun hHeld => ?_)
    · ((try dsimp only); exact HKC.out _ hB0)
    clear hK K
    (try simp only [List.getElem_toArray, List.getElem_cons_succ, List.getElem_cons_zero, Act.put, List.setIfInBounds_toArray, List.set_cons_zero, List.set_cons_succ])
    refine wpAnyH_ready (rs := [5]) (by kernel_rfl) (by simp) ?_
    refine AllReadyH.cons (o := _) rfl (fun K hK => ?_) AllReadyH.nil
    go_simp
    (with_reducible refine (HB.out _ hB0).mono ?_)
    rintro e w2 ⟨rfl, h2⟩
    have hB2 := hB0.trans (h2.mono hB0.size)
    refine hK.out _ _ ?_ (fun hHeld => ?_)
    · ((try dsimp only); exact HKC.out _ hB2)
    clear hK K
    (try simp only [List.getElem_toArray, List.getElem_cons_succ, List.getElem_cons_zero, Act.put, List.setIfInBounds_toArray, List.set_cons_zero, List.set_cons_succ])
    refine wpAnyH_take (i := 6) (oi := _) (v := ?_) rfl (by kernel_rfl) (by kernel_rfl) (by kernel_rfl) (fun _ _ _ h => h) (Or.inl ⟨by rfl, ?_⟩) (by assumption) ?_
    rotate_left
    · (first | (intro v hSw; (try dsimp only at hSw); go_simp; done) | (intro v hSw; (try dsimp only at hSw); go_simp; with_reducible rfl))
    (try simp only [List.getElem_toArray, List.getElem_cons_succ, List.getElem_cons_zero, Act.put, List.setIfInBounds_toArray, List.set_cons_zero, List.set_cons_succ])
    refine wpAnyH_take (i := 7) (oi := _) (v := ?_) rfl (by kernel_rfl) (by kernel_rfl) (by kernel_rfl) (fun _ _ _ h => h) (Or.inl ⟨by rfl, ?_⟩) (by assumption) ?_
    rotate_left
    · (first | (intro v hSw; (try dsimp only at hSw); go_simp; done) | (intro v hSw; (try dsimp only at hSw); go_simp; with_reducible rfl))
    (try simp only [List.getElem_toArray, List.getElem_cons_succ, List.getElem_cons_zero, Act.put, List.setIfInBounds_toArray, List.set_cons_zero, List.set_cons_succ])
    refine wpAnyH_done (by kernel_rfl) ?_ _
    refine OnlyN.normal ?_
    obtain ⟨hj2, hi2⟩ := HOWN.out _ hB2
    have HJ0 := Lib.hid hj2
    have HIT := Lib.hid hi2
    clear hj2 hi2 hHeld h2 hB2 hB0
    gi_wp2
    gi_loopw [15] (fun u wr => ∃ (i : Nat) (pre : List Sp) (C : Nat → Prop), u = .int .i64 i ∧ i ≤ n - r ∧ pre ++ tw (l.drop (r + i)) s = partsL l s ∧ J pre C wr ∧ It C0 W C wr) (fun u _ => (n - r) - (intOf u).toNat)
    case atStart => exact ⟨0, [], C0, rfl, Nat.zero_le _, HPA.out, HJ0.out, HIT.out⟩
    case round =>
      obtain ⟨i, pre, C, rfl, hi, hp, hj, hI⟩ := hrel
      by_cases hlt : i < n - r
      · obtain ⟨e0, e1⟩ := HCE.out _ _ hI g off rfl (r + i) (by omega)
        rw [show off + (r + i) * 2 = off + r * 2 + i * 2 by omega] at e0 e1
        have sw := HCS.out _ _ hI
        rw [tw_step (by omega)] at hp
        generalize l.getD (r + i) (0, 0) = x at *
        have HMT := Lib.hid (fun X => meet_any x s X)
        generalize meetP x s = m at *
        have HLN := Lib.hid (fun X => len_any m X)
        have HP := Lib.hid hp
        have hWr := hI.kept.size
        have b5 := bal (w := wr) (.cells #[.int .i64 x.1, .int .i64 x.2] 36)
        have x5 := sp_new wr x
        have s5 := sw.later b5
        have q0 := x5.c0; have q1 := x5.c1; have q2 := s5.c0; have q3 := s5.c1
        have HJJ := Lib.hid (fun X (hX : Below wr.heap.size wr X) => And.intro (HJ.out pre C wr X hj hWr (Steps.of_below hX _)) (hI.own (Steps.of_below hX _)))
        clear hp hj hI sw x5 s5
        gi_wp2
        refine ⟨trivial, ?_⟩
        refine (callsIn_wide.2 (HMT.out _)).mono ?_
        rintro e w6 ⟨rfl, h6⟩
        have b6 := b5.trans (h6.mono b5.size)
        have b7 := b6.trans ((bal (w := w6) (.cells #[.int .i64 m.1, .int .i64 m.2] 36)).mono b6.size)
        have x7 := sp_new w6 m
        clear q0 q1 q2 q3 e0 e1
        have q0 := x7.c0; have q1 := x7.c1
        gi_wp2
        refine ⟨trivial, ?_⟩
        refine (callsIn_wide.2 (HLN.out _)).mono ?_
        rintro e w8 ⟨rfl, h8⟩
        have b8 := b7.trans (h8.mono b7.size)
        have x8 := x7.later h8
        obtain ⟨hj8, hI8⟩ := HJJ.out _ b8
        clear q0 q1
        have q0 := x8.c0; have q1 := x8.c1
        clear x7 x8 h8 b8 b7 h6 b6 b5
        by_cases hz : lenI m = 0
        · have hp := HP.out
          rw [if_pos hz, List.append_nil] at hp
          rw [hp] at hj8
          have HJ8 := Lib.hid hj8
          clear hj8 hp hI8
          gi_wp2
          refine ⟨(fun f hf => by cases hf), ?_⟩
          gi_wp2
          exact bodyPost_ret (v := .tuple #[]) (results_none rfl _ _ _) rfl ⟨⟨_, rfl⟩, C, .inl HJ8.out⟩
        · have hp := HP.out
          rw [if_neg hz] at hp
          have hp' : (pre ++ [m]) ++ tw (l.drop (r + i + 1)) s = partsL l s := by rw [← hp]; simp
          have hy := HY.out pre m C w8 hj8 hI8.kept.size ⟨_, hp'⟩
          obtain ⟨fn, tmps, assign, body, hyy, hYY⟩ := hy.at 5
          have HP' := Lib.hid hp'
          have HI8 := Lib.hid hI8
          clear hp hp' hy hj8 hI8
          gi_wp2
          refine hYY.mono ?_
          clear hyy hYY q0 q1
          rintro e w9 ⟨C2, hr2, ⟨rfl, hJ2⟩ | ⟨rfl, hJ2⟩⟩
          · have hI2 := HI8.out.round hr2
            clear hr2
            gi_wp2
            go_roundw
            case rel => exact ⟨i + 1, pre ++ [m], C2, by go_num, by omega, HP'.out, hJ2, hI2⟩
            case measure => simp [intOf]; omega
          · gi_wp2
            exact bodyPost_ret (v := .tuple #[]) (results_none rfl _ _ _) rfl ⟨⟨_, rfl⟩, C2, .inr ⟨_, hJ2⟩⟩
      · obtain rfl : i = n - r := by omega
        rw [tw_end (by omega), List.append_nil] at hp
        rw [hp] at hj
        have HJE := Lib.hid hj
        clear hj hp hI
        gi_wp2
        exact bodyPost_end (v := .tuple #[]) (results_none rfl _ _ _) rfl ⟨⟨_, rfl⟩, C, .inl HJE.out⟩
  · have HZ := Lib.hid (show n - r = 0 by omega)
    by_cases hcr : cap = r
    · obtain rfl : r = cap := hcr.symm
      cases a
      all_goals
        refine wpIn_region_in (S := (fun w' => w'.cell? ⟨bx, 0, none⟩ = some v ∧ w'.cell? ⟨bs, 0, none⟩ = some (.int .i64 s.1))) hMO ?_
        refine wpAnyH_take (i := 0) (oi := _) (v := ?_) rfl (by kernel_rfl) (by kernel_rfl) (by kernel_rfl) (fun _ _ _ h => h) (Or.inl ⟨by rfl, ?_⟩) (by assumption) ?_
        rotate_left
        · (first | (intro v hSw; (try dsimp only at hSw); go_simp; done) | (intro v hSw; (try dsimp only at hSw); go_simp; with_reducible rfl))
        (try simp only [List.getElem_toArray, List.getElem_cons_succ, List.getElem_cons_zero, Act.put, List.setIfInBounds_toArray, List.set_cons_zero, List.set_cons_succ])
        refine wpAnyH_take (i := 2) (oi := _) (v := ?_) rfl (by kernel_rfl) (by kernel_rfl) (by kernel_rfl) (fun _ _ _ h => h) (Or.inl ⟨by rfl, ?_⟩) (by assumption) ?_
        rotate_left
        · (first | (intro v hSw; (try dsimp only at hSw); go_simp; done) | (intro v hSw; (try dsimp only at hSw); go_simp; with_reducible rfl))
        (try simp only [List.getElem_toArray, List.getElem_cons_succ, List.getElem_cons_zero, Act.put, List.setIfInBounds_toArray, List.set_cons_zero, List.set_cons_succ])
        refine wpAnyH_take (i := 3) (oi := _) (v := ?_) rfl (by kernel_rfl) (by kernel_rfl) (by kernel_rfl) (fun _ _ _ h => h) (Or.inl ⟨by rfl, ?_⟩) (by assumption) ?_
        rotate_left
        · (first | (intro v hSw; (try dsimp only at hSw); go_simp; done) | (intro v hSw; (try dsimp only at hSw); go_simp; with_reducible rfl))
        (try simp only [List.getElem_toArray, List.getElem_cons_succ, List.getElem_cons_zero, Act.put, List.setIfInBounds_toArray, List.set_cons_zero, List.set_cons_succ])
        refine wpAnyH_take (i := 4) (oi := _) (v := ?_) rfl (by kernel_rfl) (by kernel_rfl) (by kernel_rfl) (fun _ _ _ h => h) (Or.inl ⟨by rfl, ?_⟩) (by assumption) ?_
        rotate_left
        · (first | (intro v hSw; (try dsimp only at hSw); go_simp; done) | (intro v hSw; (try dsimp only at hSw); go_simp; with_reducible rfl))
        (try simp only [List.getElem_toArray, List.getElem_cons_succ, List.getElem_cons_zero, Act.put, List.setIfInBounds_toArray, List.set_cons_zero, List.set_cons_succ])
        refine wpAnyH_take (i := 8) (oi := _) (v := ?_) rfl (by kernel_rfl) (by kernel_rfl) (by kernel_rfl) (fun _ _ _ h => h) (Or.inl ⟨by rfl, ?_⟩) (by assumption) ?_
        rotate_left
        · (first | (intro v hSw; (try dsimp only at hSw); go_simp; done) | (intro v hSw; (try dsimp only at hSw); go_simp; with_reducible rfl))
        (try simp only [List.getElem_toArray, List.getElem_cons_succ, List.getElem_cons_zero, Act.put, List.setIfInBounds_toArray, List.set_cons_zero, List.set_cons_succ])
        refine wpAnyH_ready (rs := [1]) (by kernel_rfl) (by simp) ?_
        refine AllReadyH.cons (o := _) rfl (fun K hK => ?_) AllReadyH.nil
        go_simp
        (with_reducible refine (HA.out _ hB0).mono ?_)
        rintro e v1 ⟨rfl, rfl⟩
        refine hK.out _ _ ?_ (fun hHeld => ?_)
        · ((try dsimp only); exact HKC.out _ hB0)
        clear hK K
        (try simp only [List.getElem_toArray, List.getElem_cons_succ, List.getElem_cons_zero, Act.put, List.setIfInBounds_toArray, List.set_cons_zero, List.set_cons_succ])
        refine wpAnyH_ready (rs := [5]) (by kernel_rfl) (by simp) ?_
        refine AllReadyH.cons (o := _) rfl (fun K hK => ?_) AllReadyH.nil
        go_simp
        (with_reducible refine (HB.out _ hB0).mono ?_)
        rintro e w2 ⟨rfl, h2⟩
        have hB2 := hB0.trans (h2.mono hB0.size)
        refine hK.out _ _ ?_ (fun hHeld => ?_)
        · ((try dsimp only); exact HKC.out _ hB2)
        clear hK K
        (try simp only [List.getElem_toArray, List.getElem_cons_succ, List.getElem_cons_zero, Act.put, List.setIfInBounds_toArray, List.set_cons_zero, List.set_cons_succ])
        refine wpAnyH_take (i := 6) (oi := _) (v := ?_) rfl (by kernel_rfl) (by kernel_rfl) (by kernel_rfl) (fun _ _ _ h => h) (Or.inl ⟨by rfl, ?_⟩) (by assumption) ?_
        rotate_left
        · (first | (intro v hSw; (try dsimp only at hSw); go_simp; done) | (intro v hSw; (try dsimp only at hSw); go_simp; with_reducible rfl))
        (try simp only [List.getElem_toArray, List.getElem_cons_succ, List.getElem_cons_zero, Act.put, List.setIfInBounds_toArray, List.set_cons_zero, List.set_cons_succ])
        refine wpAnyH_take (i := 7) (oi := _) (v := ?_) rfl (by kernel_rfl) (by kernel_rfl) (by kernel_rfl) (fun _ _ _ h => h) (Or.inl ⟨by rfl, ?_⟩) (by assumption) ?_
        rotate_left
        · (first | (intro v hSw; (try dsimp only at hSw); go_simp; done) | (intro v hSw; (try dsimp only at hSw); go_simp; with_reducible rfl))
        (try simp only [List.getElem_toArray, List.getElem_cons_succ, List.getElem_cons_zero, Act.put, List.setIfInBounds_toArray, List.set_cons_zero, List.set_cons_succ])
        refine wpAnyH_done (by kernel_rfl) ?_ _
        refine OnlyN.normal ?_
        obtain ⟨hj2, hi2⟩ := HOWN.out _ hB2
        have HJ0 := Lib.hid hj2
        have HIT := Lib.hid hi2
        clear hj2 hi2 hHeld h2 hB2 hB0
        gi_wp2
        gi_loopw [15] (fun u wr => ∃ (i : Nat) (pre : List Sp) (C : Nat → Prop), u = .int .i64 i ∧ i ≤ n - r ∧ pre ++ tw (l.drop (r + i)) s = partsL l s ∧ J pre C wr ∧ It C0 W C wr) (fun u _ => (n - r) - (intOf u).toNat)
        case atStart => exact ⟨0, [], C0, rfl, Nat.zero_le _, HPA.out, HJ0.out, HIT.out⟩
        case round =>
          obtain ⟨i, pre, C, rfl, hi, hp, hj, hI⟩ := hrel
          obtain rfl : i = 0 := by have := HZ.out; omega
          rw [tw_end (by omega), List.append_nil] at hp
          rw [hp] at hj
          have HJE := Lib.hid hj
          clear hj hp hI
          have hgz : ¬ 0 < n - r := by have := HZ.out; omega
          gi_wp2
          exact bodyPost_end (v := .tuple #[]) (results_none rfl _ _ _) rfl ⟨⟨_, rfl⟩, C, .inl HJE.out⟩
    · cases a
      all_goals
        refine wpIn_region_in (S := (fun w' => w'.cell? ⟨bx, 0, none⟩ = some v ∧ w'.cell? ⟨bs, 0, none⟩ = some (.int .i64 s.1))) hMO ?_
        refine wpAnyH_take (i := 0) (oi := _) (v := ?_) rfl (by kernel_rfl) (by kernel_rfl) (by kernel_rfl) (fun _ _ _ h => h) (Or.inl ⟨by rfl, ?_⟩) (by assumption) ?_
        rotate_left
        · (first | (intro v hSw; (try dsimp only at hSw); go_simp; done) | (intro v hSw; (try dsimp only at hSw); go_simp; with_reducible rfl))
        (try simp only [List.getElem_toArray, List.getElem_cons_succ, List.getElem_cons_zero, Act.put, List.setIfInBounds_toArray, List.set_cons_zero, List.set_cons_succ])
        refine wpAnyH_take (i := 2) (oi := _) (v := ?_) rfl (by kernel_rfl) (by kernel_rfl) (by kernel_rfl) (fun _ _ _ h => h) (Or.inl ⟨by rfl, ?_⟩) (by assumption) ?_
        rotate_left
        · (first | (intro v hSw; (try dsimp only at hSw); go_simp; done) | (intro v hSw; (try dsimp only at hSw); go_simp; with_reducible rfl))
        (try simp only [List.getElem_toArray, List.getElem_cons_succ, List.getElem_cons_zero, Act.put, List.setIfInBounds_toArray, List.set_cons_zero, List.set_cons_succ])
        refine wpAnyH_take (i := 3) (oi := _) (v := ?_) rfl (by kernel_rfl) (by kernel_rfl) (by kernel_rfl) (fun _ _ _ h => h) (Or.inl ⟨by rfl, ?_⟩) (by assumption) ?_
        rotate_left
        · (first | (intro v hSw; (try dsimp only at hSw); go_simp; done) | (intro v hSw; (try dsimp only at hSw); go_simp; with_reducible rfl))
        (try simp only [List.getElem_toArray, List.getElem_cons_succ, List.getElem_cons_zero, Act.put, List.setIfInBounds_toArray, List.set_cons_zero, List.set_cons_succ])
        refine wpAnyH_take (i := 4) (oi := _) (v := ?_) rfl (by kernel_rfl) (by kernel_rfl) (by kernel_rfl) (fun _ _ _ h => h) (Or.inl ⟨by rfl, ?_⟩) (by assumption) ?_
        rotate_left
        · (first | (intro v hSw; (try dsimp only at hSw); go_simp; done) | (intro v hSw; (try dsimp only at hSw); go_simp; with_reducible rfl))
        (try simp only [List.getElem_toArray, List.getElem_cons_succ, List.getElem_cons_zero, Act.put, List.setIfInBounds_toArray, List.set_cons_zero, List.set_cons_succ])
        refine wpAnyH_take (i := 8) (oi := _) (v := ?_) rfl (by kernel_rfl) (by kernel_rfl) (by kernel_rfl) (fun _ _ _ h => h) (Or.inl ⟨by rfl, ?_⟩) (by assumption) ?_
        rotate_left
        · (first | (intro v hSw; (try dsimp only at hSw); go_simp; done) | (intro v hSw; (try dsimp only at hSw); go_simp; with_reducible rfl))
        (try simp only [List.getElem_toArray, List.getElem_cons_succ, List.getElem_cons_zero, Act.put, List.setIfInBounds_toArray, List.set_cons_zero, List.set_cons_succ])
        refine wpAnyH_ready (rs := [1]) (by kernel_rfl) (by simp) ?_
        refine AllReadyH.cons (o := _) rfl (fun K hK => ?_) AllReadyH.nil
        go_simp
        (with_reducible refine (HA.out _ hB0).mono ?_)
        rintro e v1 ⟨rfl, rfl⟩
        refine hK.out _ _ ?_ (fun hHeld => ?_)
        · ((try dsimp only); exact HKC.out _ hB0)
        clear hK K
        (try simp only [List.getElem_toArray, List.getElem_cons_succ, List.getElem_cons_zero, Act.put, List.setIfInBounds_toArray, List.set_cons_zero, List.set_cons_succ])
        refine wpAnyH_ready (rs := [5]) (by kernel_rfl) (by simp) ?_
        refine AllReadyH.cons (o := _) rfl (fun K hK => ?_) AllReadyH.nil
        go_simp
        (with_reducible refine (HB.out _ hB0).mono ?_)
        rintro e w2 ⟨rfl, h2⟩
        have hB2 := hB0.trans (h2.mono hB0.size)
        refine hK.out _ _ ?_ (fun hHeld => ?_)
        · ((try dsimp only); exact HKC.out _ hB2)
        clear hK K
        (try simp only [List.getElem_toArray, List.getElem_cons_succ, List.getElem_cons_zero, Act.put, List.setIfInBounds_toArray, List.set_cons_zero, List.set_cons_succ])
        refine wpAnyH_take (i := 6) (oi := _) (v := ?_) rfl (by kernel_rfl) (by kernel_rfl) (by kernel_rfl) (fun _ _ _ h => h) (Or.inl ⟨by rfl, ?_⟩) (by assumption) ?_
        rotate_left
        · (first | (intro v hSw; (try dsimp only at hSw); go_simp; done) | (intro v hSw; (try dsimp only at hSw); go_simp; with_reducible rfl))
        (try simp only [List.getElem_toArray, List.getElem_cons_succ, List.getElem_cons_zero, Act.put, List.setIfInBounds_toArray, List.set_cons_zero, List.set_cons_succ])
        refine wpAnyH_take (i := 7) (oi := _) (v := ?_) rfl (by kernel_rfl) (by kernel_rfl) (by kernel_rfl) (fun _ _ _ h => h) (Or.inl ⟨by rfl, ?_⟩) (by assumption) ?_
        rotate_left
        · (first | (intro v hSw; (try dsimp only at hSw); go_simp; done) | (intro v hSw; (try dsimp only at hSw); go_simp; with_reducible rfl))
        (try simp only [List.getElem_toArray, List.getElem_cons_succ, List.getElem_cons_zero, Act.put, List.setIfInBounds_toArray, List.set_cons_zero, List.set_cons_succ])
        refine wpAnyH_done (by kernel_rfl) ?_ _
        refine OnlyN.normal ?_
        obtain ⟨hj2, hi2⟩ := HOWN.out _ hB2
        have HJ0 := Lib.hid hj2
        have HIT := Lib.hid hi2
        clear hj2 hi2 hHeld h2 hB2 hB0
        gi_wp2
        gi_loopw [15] (fun u wr => ∃ (i : Nat) (pre : List Sp) (C : Nat → Prop), u = .int .i64 i ∧ i ≤ n - r ∧ pre ++ tw (l.drop (r + i)) s = partsL l s ∧ J pre C wr ∧ It C0 W C wr) (fun u _ => (n - r) - (intOf u).toNat)
        case atStart => exact ⟨0, [], C0, rfl, Nat.zero_le _, HPA.out, HJ0.out, HIT.out⟩
        case round =>
          obtain ⟨i, pre, C, rfl, hi, hp, hj, hI⟩ := hrel
          obtain rfl : i = 0 := by have := HZ.out; omega
          rw [tw_end (by omega), List.append_nil] at hp
          rw [hp] at hj
          have HJE := Lib.hid hj
          clear hj hp hI
          have hgz : ¬ 0 < n - r := by have := HZ.out; omega
          gi_wp2
          exact bodyPost_end (v := .tuple #[]) (results_none rfl _ _ _) rfl ⟨⟨_, rfl⟩, C, .inl HJE.out⟩
-- behind parts1_seq
end Go.Proofs.Ytekddgmmfgpehaa.rn
/-!   A range over a function whose variable lies in a box. Imports nothing of the program.
-/
namespace Go.Proofs.Ytekddgmmfgpehaa.rng
open Go.RowKit mem
set_option linter.unusedVariables false

/-- a range whose assignment makes one box -/
theorem wpIn_rangeBox {P : Program} {n : Nat} {α : Type} {g : Operand} {ps : Array Tmp} {assign body : Code} {Q : Exit → Act → World → Prop} {a : Act} {w : World} (fr : Nat → α → Array Value → Array Value)
    {gf : Nat} {lb : Array Value} (hg : a.eval g = .func (.func gf) #[] lb) (eg : ∀ args w, (callFunc gf args).run P w = .ok (.enter gf args) w)
    {encs : α → Array Value} {L : List α} {A : Nat → Prop} {w0 : World} (hseq : SeqOf P gf lb encs L A w0) (hb0 : Below w0.heap.size w0 w) (hps : ∀ x, (encs x).size = ps.size)
    (I : List α → (Nat → Prop) → World → Prop) (Ix : Code → List α → (Nat → Prop) → World → Prop) (C0 : Nat → Prop) (hC0 : ∀ k, C0 k → (A k ∨ w0.heap.size ≤ k) ∧ k < w.heap.size)
    (hI : Bears w.heap.size I) (hIx : ∀ c, Bears w.heap.size (Ix c)) (h0 : I [] C0 w) (Bx : Nat → α → (Nat → Prop) → World → Prop) (hBx : ∀ b x, Bears w.heap.size (fun (_ : Unit) C W => Bx b x C W))
    (hassign : ∀ (l : Nat) (pre : List α) (x : α) (C : Nat → Prop) (W : World) (K : Act → World → Prop), I pre C W → pre ++ [x] <+: L → (∀ k, C k → k < W.heap.size) → w.heap.size ≤ W.heap.size →
      (∀ b C' W', Round C W C' W' → I pre C' W' → Bx b x C' W' → K { tmps := fr b x a.tmps, defers := [] } W') →
      assign.wpIn (Fence.wide.inRound l) (n - 1 - 1) P (Exit.then K (fun _ _ _ => False)) { tmps := (ps.zip (encs x)).foldl (fun t (p, v) => t.setIfInBounds p v) a.tmps, defers := [] } W)
    (hbody : ∀ (l : Nat) (pre : List α) (x : α) (b : Nat) (C : Nat → Prop) (W : World), I pre C W → Bx b x C W → pre ++ [x] <+: L → (∀ k, C k → k < W.heap.size) → w.heap.size ≤ W.heap.size →
      body.wpIn (Fence.wide.inRound l) (n - 1 - 1) P (rPost I Ix (pre ++ [x]) C W) { tmps := fr b x a.tmps, defers := [] } W)
    (hdone : ∀ (D : Nat) (C : Nat → Prop) (W : World), w.heap.size ≤ D → ¬ C D → I L C W → W.heap[D]? = some (.deferred (some [])) → Q .normal { a with defers := { target := .collected D, args := #[] } :: a.defers } W)
    (hstop : ∀ (D : Nat) (c : Code) (pre : List α) (C : Nat → Prop) (W : World), w.heap.size ≤ D → ¬ C D → Ix c pre C W → W.heap[D]? = some (.deferred (some [])) → c.wpIn Fence.wide n P Q { a with defers := { target := .collected D, args := #[] } :: a.defers } W) :
    (Code.rangeFunc g ps assign body).wpIn Fence.wide n P Q a w :=
  wpIn_range hg eg hseq hb0 hps I Ix C0 hC0 hI hIx h0 (fun x a' C W => ∃ b, a' = { tmps := fr b x a.tmps, defers := [] } ∧ Bx b x C W)
    (fun x a' s C W1 W2 h hn hs => by obtain ⟨b, h1, h2⟩ := h; exact ⟨b, h1, hBx b x s C W1 W2 h2 hn hs⟩)
    (fun l pre x C W K hi hp hc hz hK => hassign l pre x C W K hi hp hc hz (fun b C' W' hr hi' hb => hK _ C' W' hr hi' ⟨b, rfl, hb⟩))
    (fun l pre x a' C W hi ha hp hc hz => by obtain ⟨b, rfl, hb⟩ := ha; exact hbody l pre x b C W hi hb hp hc hz) hdone hstop

end Go.Proofs.Ytekddgmmfgpehaa.rng
/-!   Package runs: parts, Within, Bytes.
-/
namespace Go.Proofs.Ytekddgmmfgpehaa.rn
open Go.RowKit Go.Shelf aid mem rng sp
attribute [local go_sem] Oper.semAt_some
set_option linter.unusedVariables false
set_option linter.unusedSimpArgs false

theorem undrew {X w2 : World} (h : Below X.drew.heap.size X.drew w2) : Below X.heap.size X w2 := ⟨h.os, h.tape, h.output, h.size, h.block⟩
theorem eg_parts (args : Array Value) (w : World) : (callFunc 80 args).run Try.prog w = .ok (.enter 80 args) w := by kernel_rfl
/-- an iterator over spans is handed back -/
def SeqS (g : Nat) (L : List Sp) (A : Nat → Prop) (w : World) (e : Ending) (w' : World) : Prop :=
  ∃ lb, e = .returned (.func (.func g) #[] lb) ∧ SeqOf Try.prog g lb spE L A w' ∧ Below w.heap.size w w'
theorem parts_any {w : World} {v : Value} {a : Option Addr} {n cap : Nat} {l : List Sp} (hr : Rv w v a n cap l) (hl : Rn l) (hn : n < 1000000000000) (s : Sp) (A : Nat → Prop) (hA : ∀ k, A k → k < w.heap.size) (har : ∀ b ∈ blk a cap, ¬ A b) :
    Calls Try.prog 52 #[v, spV s] w (SeqS 80 (partsL l s) A w) := by
  obtain ⟨p, rfl⟩ := hr.ptr
  have b1 := bal (w := w) (.cells #[.pointer p] 60)
  have x1 := heap_alloc_new w (.cells #[.pointer p] 60)
  have hz1 : (w.alloc (.cells #[.pointer p] 60)).heap.size = w.heap.size + 1 := by simp
  have b2 := bal (w := w.alloc (.cells #[.pointer p] 60)) (.cells #[.int .i64 s.1, .int .i64 s.2] 36)
  have s2 := sp_new (w.alloc (.cells #[.pointer p] 60)) s
  have x2 := (b2.block _ (lt_of_block x1)).trans x1
  have c2 := cofr x2 0 _ rfl
  have b3 := b1.trans (b2.mono b1.size)
  have HF := Lib.hid (show SeqS 80 (partsL l s) A w (.returned (.func (.func 80) #[] #[.pointer (some ⟨w.heap.size, 0, none⟩), .pointer (some ⟨(w.alloc (.cells #[.pointer p] 60)).heap.size, 0, none⟩)])) _ from
    ⟨_, rfl, parts1_seq (A := A) (hr.later b3) hl hn c2 s2 (fun e => by have := hA _ e; omega) (fun e => by have := hA _ e; omega) har, b3⟩)
  rw [hz1] at HF
  clear b1 x1 hz1 b2 s2 x2 c2 b3 hA har hr
  go_enter Try.func52, Try.ntmps52
  go_wp2_with fail
  go_ret
  exact HF.out
theorem all1_any {w : World} {v : Value} {a : Option Addr} {n cap : Nat} {l : List Sp} (hr : Rv w v a n cap l) (hl : Rn l) (hn : n < 1000000000000) (A : Nat → Prop) (hA : ∀ k, A k → k < w.heap.size) (har : ∀ b ∈ blk a cap, ¬ A b) :
    Calls Try.prog 73 #[v] w (SeqS 80 l A w) := by
  have HP := Lib.hid (parts_any hr hl hn (0, 4611686018427387904) A hA har)
  rw [parts_all hl] at HP
  clear hA har
  obtain ⟨p, rfl⟩ := hr.ptr
  clear hr
  go_enter Try.func73, Try.ntmps73
  go_wp2_with (go_at_call 52; go_must (with_reducible refine HP.out.mono ?_); rintro e w3 ⟨lb, rfl, hseq, hb3⟩)
  go_ret
  exact ⟨lb, rfl, hseq, hb3⟩

/-- a sum so far, in its box -/
structure WI (w : World) (bn : Nat) (pre : List Sp) (C : Nat → Prop) (X : World) : Prop where
  hn : X.heap[bn]? = some (.cells #[.int .i64 (bytesL pre)] 3 (0, 0))
  cb : C bn
  below : Below w.heap.size w X
theorem wi_bears {w : World} {bn D : Nat} (h : bn < D) (hw : w.heap.size ≤ bn) : Bears D (WI w bn) := by
  rintro pre C X Y hc hz hs
  exact ⟨hs.heap (.inl (by omega)) hc.hn, hc.cb, hc.below.trans (hs.below (by omega) (fun k hk => .inl (by omega)))⟩
/-- no way out but the end -/
def NoX (c : Code) (pre : List Sp) (C : Nat → Prop) (X : World) : Prop := False
theorem nox_bears (D : Nat) (c : Code) : Bears D (NoX c) := fun _ _ _ _ h => h.elim
/-- a span's box -/
def BxS (n0 b : Nat) (y : Sp) (C : Nat → Prop) (X : World) : Prop := SpAt X b y ∧ n0 ≤ b ∧ C b
theorem bxs_bears (n0 b : Nat) (y : Sp) : Bears n0 (fun (_ : Unit) C W => BxS n0 b y C W) := by
  rintro _ C X Y ⟨h1, h2, h3⟩ hz hs
  exact ⟨hs.heap (.inr h3) h1, h2, h3⟩
set_option maxRecDepth 100000 in
set_option maxHeartbeats 4000000 in
theorem within_any {w : World} {v : Value} {a : Option Addr} {n cap : Nat} {l : List Sp} (hr : Rv w v a n cap l) (hl : Rn l) (hn : n < 1000000000000) (s : Sp) :
    Calls Try.prog 56 #[v, spV s] w (RetI (withinL l s) w) := by
  obtain ⟨p1, p2, p3, _⟩ := parts_spec s hl
  have hbd := p1.bytes
  rw [← p3]
  clear p2 p3
  obtain ⟨p, rfl⟩ := hr.ptr
  have hblk := fun b hb => (hr.row.lt b hb).1
  have HPA := Lib.hid (fun (X : World) (hX : Below w.heap.size w X) (A : Nat → Prop) (hA : ∀ k, A k → k < X.heap.size) (har : ∀ b ∈ blk a cap, ¬ A b) => parts_any (hr.later hX) hl hn s A hA har)
  have HPR := Lib.hid (fun (pre : List Sp) (y : Sp) (hp : pre ++ [y] <+: partsL l s) => show 0 ≤ bytesL pre ∧ bytesL (pre ++ [y]) = bytesL pre + lenI y ∧ bytesL (pre ++ [y]) ≤ 4611686018427387904 from by
    have h1 : Rn (pre ++ [y]) := by
      obtain ⟨t, ht⟩ := hp
      rw [← ht] at p1
      exact p1.left
    refine ⟨h1.left.bytes.1, ?_, h1.bytes.2⟩
    rw [bytes_append, bytes_cons, bytes_nil]
    omega)
  generalize partsL l s = L at *
  have hMO : Try.prog.follows .mixedOrders = true := by kernel_rfl
  refine (callsIn_wide (n := 6)).1 ?_
  refine callsIn_of_wp_marks Try.func56 rfl trivial ?_ rfl
  simp only [Try.ntmps56, List.size_toArray, List.length_cons, List.length_nil, Nat.reduceAdd, Nat.reduceSub, Array.replicate_succ, Array.replicate_zero, List.push_toArray, List.append_toArray, List.nil_append, List.cons_append]
  have b1 := bal (w := w) (.cells #[.int .i64 s.1, .int .i64 s.2] 36)
  have s1 := sp_new w s
  have b2 := bal (w := w.alloc (.cells #[.int .i64 s.1, .int .i64 s.2] 36)) (.cells #[.int .i64 0] 3)
  have n2 := heap_alloc_new (w.alloc (.cells #[.int .i64 s.1, .int .i64 s.2] 36)) (.cells #[.int .i64 0] 3)
  have hz1 : (w.alloc (.cells #[.int .i64 s.1, .int .i64 s.2] 36)).heap.size = w.heap.size + 1 := by simp
  rw [hz1] at n2
  have s2 := s1.later b2
  have b12 := b1.trans (b2.mono b1.size)
  have c0 := s2.c0; have c1 := s2.c1
  have hz2 : ((w.alloc (.cells #[.int .i64 s.1, .int .i64 s.2] 36)).alloc (.cells #[.int .i64 0] 3)).heap.size = w.heap.size + 1 + 1 := by simp
  have HP := Lib.hid (HPA.out _ b12 (fun k => k = w.heap.size + 1) (fun k hk => by omega) (fun b hb => by have := hblk b hb; omega))
  have HS2 := Lib.hid (And.intro b12 (And.intro n2 hz2))
  clear b1 s1 b2 n2 hz1 s2 b12 hz2 hr hblk HPA
  gi_wp2
  refine ⟨trivial, ?_⟩
  refine (callsIn_wide.2 HP.out).mono ?_
  rintro e w9 ⟨lb, rfl, hseq, h9⟩
  obtain ⟨b12, n2, hz2⟩ := HS2.out
  have hz9 := h9.size
  have hb9 := b12.trans (h9.mono b12.size)
  have hn9 := (h9.block _ (by omega)).trans n2
  rw [hz2] at hz9
  have HSEQ := Lib.hid hseq
  clear hseq h9 b12 n2 hz2 HS2 HP c0 c1
  obtain ⟨bn, hbn⟩ : ∃ bn, bn = w.heap.size + 1 := ⟨_, rfl⟩
  rw [← hbn] at hn9 HSEQ hz9 ⊢
  have hbw : w.heap.size ≤ bn := by omega
  have HBN := Lib.hid hbn
  clear hbn
  have HWI : Hid (WI w bn [] (fun k => k = bn) w9) := Lib.hid ⟨hn9, rfl, hb9⟩
  clear hn9 hb9
  gi_wp2
  refine wpIn_rangeBox (fun (b : Nat) (y : Sp) (t : Array Value) => (t.setIfInBounds 10 (spV y)).setIfInBounds 6 (.pointer (some ⟨b, 0, none⟩))) (gf := 80) (lb := lb) (L := L) (A := fun k => k = bn) (w0 := w9) (encs := spE) rfl eg_parts HSEQ.out (Below.refl _ _) (fun _ => rfl)
    (WI w bn) NoX (fun k => k = bn) ?hc0 (wi_bears (by omega) hbw) (nox_bears _) HWI.out (BxS w9.heap.size) (bxs_bears w9.heap.size) ?assign ?body ?done ?stop
  case hc0 =>
    rintro k rfl
    exact ⟨.inl rfl, by omega⟩
  case assign =>
    intro l' pre y C X K hI hp hc hz hK
    have b1 := bal (w := X) (.cells #[.int .i64 y.1, .int .i64 y.2] 36)
    have HK := Lib.hid (hK X.heap.size (fun k => C k ∨ k = X.heap.size) _ ⟨Steps.of_below b1 _, fun k hk => by rcases hk with hk | rfl; exact .inl hk; exact .inr ⟨Nat.le_refl _, by simp⟩⟩
      ⟨(b1.block _ (lt_of_block hI.hn)).trans hI.hn, .inl hI.cb, hI.below.trans (b1.mono hI.below.size)⟩ ⟨sp_new X y, hz, .inr rfl⟩)
    clear hK hI hp hc b1
    gi_wp2
    exact HK.out
  case body =>
    rintro l' pre y b C X hI ⟨hyb, hb, hcb⟩ hp hcc hz
    obtain ⟨q0, q1, q2⟩ := HPR.out pre y hp
    have hly := lenI_bd y
    have HLN := Lib.hid (fun X => len_any y X)
    have hyd : SpAt X.drew b y := hyb
    have hnd : X.drew.heap[bn]? = some (.cells #[.int .i64 (bytesL pre)] 3 (0, 0)) := hI.hn
    have cn := cofr hnd 0 _ rfl
    have hne : bn ≠ b := by omega
    have HEND := Lib.hid (fun (w2 : World) (h2 : Below X.drew.heap.size X.drew w2) (h3 : (w2.setCell ⟨bn, 0, none⟩ (.int .i64 (bytesL pre + lenI y))).heap[bn]? = some (.cells #[.int .i64 (bytesL pre + lenI y)] 3 (0, 0))) (a' : Act) =>
      show rPost (WI w bn) NoX (pre ++ [y]) C X .normal a' (w2.setCell ⟨bn, 0, none⟩ (.int .i64 (bytesL pre + lenI y))) from
        ⟨C, ⟨(Steps.of_below (undrew h2) _).trans (rng.Steps.setCell _ w2 ⟨bn, 0, none⟩ _ (fun hh => hh hI.cb)), fun _ hk => .inl hk⟩,
          ⟨by rw [q1]; exact h3, hI.cb, (hI.below.trans ((undrew h2).mono hI.below.size)).setCell (p := ⟨bn, 0, none⟩) (by simp only; omega) _⟩⟩)
    have HST := Lib.hid (fun (w2 : World) (h2 : Below X.drew.heap.size X.drew w2) (v : Value) => show (w2.setCell ⟨bn, 0, none⟩ v).cell? ⟨b, 0, none⟩ = some (.int .i64 y.1) ∧ (w2.setCell ⟨bn, 0, none⟩ v).cell? ⟨b, 1, none⟩ = some (.int .i64 y.2) from
      ⟨(set_other (by simp [hne])).trans (hyd.later h2).c0, (set_other (by simp [hne])).trans (hyd.later h2).c1⟩)
    have hw1 : IntKind.i64.wrap (bytesL pre + lenI y) = bytesL pre + lenI y := IntWalk.i64_in _ (by omega)
    have fz0 : X.drew.frozen? ⟨bn, 0, none⟩ = false := fofr hnd 0
    have hHeld : (fun w' => w'.cell? ⟨b, 0, none⟩ = some (.int .i64 y.1) ∧ w'.cell? ⟨b, 1, none⟩ = some (.int .i64 y.2)) X.drew := ⟨hyd.c0, hyd.c1⟩
    generalize hRP : rPost (WI w bn) NoX (pre ++ [y]) C X = RP at *
    clear hRP hI hyb hcb hp hcc HPR HSEQ HWI q1
    simp only [List.setIfInBounds_toArray, List.set_cons_zero, List.set_cons_succ]
    gi_wp2
    refine wpIn_region_inR (S := (fun w' => w'.cell? ⟨b, 0, none⟩ = some (.int .i64 y.1) ∧ w'.cell? ⟨b, 1, none⟩ = some (.int .i64 y.2))) hMO (by kernel_rfl) ?_
    refine wpAnyH_take (i := 1) (oi := _) (v := ?_) rfl (by kernel_rfl) (by kernel_rfl) (by kernel_rfl) (fun _ _ _ h => h) (Or.inl ⟨by rfl, ?_⟩) (by assumption) ?_
    rotate_left
    · (first | (intro v hSw; (try dsimp only at hSw); go_simp; done) | (intro v hSw; (try dsimp only at hSw); go_simp; with_reducible rfl))
    (try simp only [List.getElem_toArray, List.getElem_cons_succ, List.getElem_cons_zero, Act.put, List.setIfInBounds_toArray, List.set_cons_zero, List.set_cons_succ])
    refine wpAnyH_ready (rs := [0, 2]) (by kernel_rfl) (by simp) ?_
    refine AllReadyH.cons (o := _) rfl (fun K hK => ?_) ?_
    · go_simp
      refine hK.out _ _ ?_ (fun hHeld => ?_)
      · ((try dsimp only); exact hHeld)
      clear hK K
      (try simp only [List.getElem_toArray, List.getElem_cons_succ, List.getElem_cons_zero, Act.put, List.setIfInBounds_toArray, List.set_cons_zero, List.set_cons_succ])
      refine wpAnyH_ready (rs := [2]) (by kernel_rfl) (by simp) ?_
      refine AllReadyH.cons (o := _) rfl (fun K hK => ?_) AllReadyH.nil
      go_simp
      (with_reducible refine (HLN.out _).mono ?_)
      rintro e w2 ⟨rfl, h2⟩
      have cn2 := kcell h2 cn
      have hn2 := (h2.block bn (lt_of_block hnd)).trans hnd
      have fz2 : w2.frozen? ⟨bn, 0, none⟩ = false := fofr hn2 0
      have y2 := hyd.later h2
      refine hK.out _ _ ?_ (fun hHeld => ?_)
      · ((try dsimp only); exact ⟨y2.c0, y2.c1⟩)
      clear hK K
      (try simp only [List.getElem_toArray, List.getElem_cons_succ, List.getElem_cons_zero, Act.put, List.setIfInBounds_toArray, List.set_cons_zero, List.set_cons_succ])
      refine wpAnyH_take (i := 3) (oi := _) (v := ?_) rfl (by kernel_rfl) (by kernel_rfl) (by kernel_rfl) (fun _ _ _ h => h) (Or.inl ⟨by rfl, ?_⟩) (by assumption) ?_
      rotate_left
      · (first | (intro v hSw; (try dsimp only at hSw); go_simp; done) | (intro v hSw; (try dsimp only at hSw); go_simp; with_reducible rfl))
      (try simp only [List.getElem_toArray, List.getElem_cons_succ, List.getElem_cons_zero, Act.put, List.setIfInBounds_toArray, List.set_cons_zero, List.set_cons_succ])
      refine wpAnyH_ready (rs := [4]) (by kernel_rfl) (by simp) ?_
      refine AllReadyH.cons (o := _) rfl (fun K hK => ?_) AllReadyH.nil
      go_simp
      refine hK.out _ _ ?_ (fun hHeld => ?_)
      · ((try dsimp only); exact HST.out _ h2 _)
      clear hK K
      (try simp only [List.getElem_toArray, List.getElem_cons_succ, List.getElem_cons_zero, Act.put, List.setIfInBounds_toArray, List.set_cons_zero, List.set_cons_succ])
      refine wpAnyH_done (by kernel_rfl) ?_ _
      refine OnlyN.normal ?_
      have hn3 := (heap_setCell_same w2 bn 0 _ _ (.int .i64 (bytesL pre + lenI y)) hn2).trans rfl
      have HE := Lib.hid (HEND.out _ h2 hn3)
      clear hHeld cn2 hn2 fz2 y2 hn3 h2
      gi_wp2
      exact HE.out _
    refine AllReadyH.cons (o := _) rfl (fun K hK => ?_) AllReadyH.nil
    go_simp
    (with_reducible refine (HLN.out _).mono ?_)
    rintro e w2 ⟨rfl, h2⟩
    have cn2 := kcell h2 cn
    have hn2 := (h2.block bn (lt_of_block hnd)).trans hnd
    have fz2 : w2.frozen? ⟨bn, 0, none⟩ = false := fofr hn2 0
    have y2 := hyd.later h2
    refine hK.out _ _ ?_ (fun hHeld => ?_)
    · ((try dsimp only); exact ⟨y2.c0, y2.c1⟩)
    clear hK K
    (try simp only [List.getElem_toArray, List.getElem_cons_succ, List.getElem_cons_zero, Act.put, List.setIfInBounds_toArray, List.set_cons_zero, List.set_cons_succ])
    refine wpAnyH_ready (rs := [0]) (by kernel_rfl) (by simp) ?_
    refine AllReadyH.cons (o := _) rfl (fun K hK => ?_) AllReadyH.nil
    go_simp
    refine hK.out _ _ ?_ (fun hHeld => ?_)
    · ((try dsimp only); exact hHeld)
    clear hK K
    (try simp only [List.getElem_toArray, List.getElem_cons_succ, List.getElem_cons_zero, Act.put, List.setIfInBounds_toArray, List.set_cons_zero, List.set_cons_succ])
    refine wpAnyH_take (i := 3) (oi := _) (v := ?_) rfl (by kernel_rfl) (by kernel_rfl) (by kernel_rfl) (fun _ _ _ h => h) (Or.inl ⟨by rfl, ?_⟩) (by assumption) ?_
    rotate_left
    · (first | (intro v hSw; (try dsimp only at hSw); go_simp; done) | (intro v hSw; (try dsimp only at hSw); go_simp; with_reducible rfl))
    (try simp only [List.getElem_toArray, List.getElem_cons_succ, List.getElem_cons_zero, Act.put, List.setIfInBounds_toArray, List.set_cons_zero, List.set_cons_succ])
    refine wpAnyH_ready (rs := [4]) (by kernel_rfl) (by simp) ?_
    refine AllReadyH.cons (o := _) rfl (fun K hK => ?_) AllReadyH.nil
    go_simp
    refine hK.out _ _ ?_ (fun hHeld => ?_)
    · ((try dsimp only); exact HST.out _ h2 _)
    clear hK K
    (try simp only [List.getElem_toArray, List.getElem_cons_succ, List.getElem_cons_zero, Act.put, List.setIfInBounds_toArray, List.set_cons_zero, List.set_cons_succ])
    refine wpAnyH_done (by kernel_rfl) ?_ _
    refine OnlyN.normal ?_
    have hn3 := (heap_setCell_same w2 bn 0 _ _ (.int .i64 (bytesL pre + lenI y)) hn2).trans rfl
    have HE := Lib.hid (HEND.out _ h2 hn3)
    clear hHeld cn2 hn2 fz2 y2 hn3 h2
    gi_wp2
    exact HE.out _

  case done =>
    rintro D C X hD hCD hI hK
    have cn := cofr hI.hn 0 _ rfl
    have HB := Lib.hid hI.below
    have HK := Lib.hid hK
    have hbd2 : bn < D := by omega
    have hn13 : (X.putObj D (.deferred none)).heap[bn]? = some (.cells #[.int .i64 (bytesL L)] 3 (0, 0)) := (World.putObj_heap_other (by omega)).trans hI.hn
    have b14 := hI.below.trans ((rng.Steps.putObj (fun q => q < w.heap.size) X D (.deferred none) (by omega)).below (n := w.heap.size) hI.below.size (fun _ h => h))
    have HB14 := Lib.hid b14
    clear hI hK hn13 b14 HSEQ HWI HPR
    gi_wp2
    refine ⟨by simp, .inl ⟨_, _, rfl, run_takeDeferred HK.out, ?_⟩⟩
    exact ⟨.int .i64 (bytesL L), by simp [results, Try.results56, go_sem], rfl, HB14.out⟩
  case stop =>
    rintro D c pre C X hD hCD hI hK
    exact hI.elim
theorem bytes_any {w : World} {v : Value} {a : Option Addr} {n cap : Nat} {l : List Sp} (hr : Rv w v a n cap l) (hl : Rn l) (hn : n < 1000000000000) :
    Calls Try.prog 42 #[v] w (RetI (bytesL l) w) := by
  have HP := Lib.hid (within_any hr hl hn (0, 4611686018427387904))
  rw [within_all hl] at HP
  obtain ⟨p, rfl⟩ := hr.ptr
  clear hr
  go_enter Try.func42, Try.ntmps42
  go_wp2_with (go_at_call 56; go_must (with_reducible refine HP.out.mono ?_); rintro e w3 ⟨rfl, hb3⟩)
  go_ret
  exact ⟨rfl, hb3⟩
end Go.Proofs.Ytekddgmmfgpehaa.rn
