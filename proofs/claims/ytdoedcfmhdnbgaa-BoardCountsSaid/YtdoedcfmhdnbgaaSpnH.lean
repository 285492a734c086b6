/-
  Hulls of lists of spans.
-/
import Derived.Test.YtdoedcfmhdnbgaaSpnT
namespace Go.Proofs.Ytdoedcfmhdnbgaa.sp
open Go.RowKit aid mem
attribute [local go_sem ↓] Go.wp_at_zero Go.wp_at_succ
set_option linter.unusedVariables false

/-- a slice of spans -/
structure SlS (w : World) (a : Option Addr) (n cap : Nat) (l : List (Int × Int)) : Prop where
  len : l.length = n
  le : n ≤ cap
  most : cap ≤ maxLen
  nil : a = none → cap = 0
  cells : 0 < n → ∃ b off, a = some ⟨b, off, none⟩ ∧ ∀ i, i < n → w.cell? ⟨b, off + i * 2, none⟩ = some (.int .i64 (l.getD i (0, 0)).1) ∧ w.cell? ⟨b, off + i * 2 + 1, none⟩ = some (.int .i64 (l.getD i (0, 0)).2)
theorem SlS.keep {w w' : World} {a : Option Addr} {n cap : Nat} {l : List (Int × Int)} (h : SlS w a n cap l) {S : List Nat} (hk : Kept S w w') (hd : ∀ x, a = some x → 0 < n → x.block ∉ S) : SlS w' a n cap l :=
  ⟨h.len, h.le, h.most, h.nil, fun h0 => by
    obtain ⟨b, off, rfl, hc⟩ := h.cells h0
    exact ⟨b, off, rfl, fun i hi => ⟨hk.cell (p := ⟨b, off + i * 2, none⟩) (hd ⟨b, off, none⟩ rfl h0) (hc i hi).1, hk.cell (p := ⟨b, off + i * 2 + 1, none⟩) (hd ⟨b, off, none⟩ rfl h0) (hc i hi).2⟩⟩⟩
theorem SlS.later {w w' : World} {a : Option Addr} {n cap : Nat} {l : List (Int × Int)} (h : SlS w a n cap l) (hk : Below w.heap.size w w') : SlS w' a n cap l :=
  h.keep (Kept.of_below hk (Nat.le_refl _) []) (fun _ _ _ => by simp)
/-- two spans in a new array -/
theorem sls_two (w : World) (s t : Int × Int) (ty : TypeId) : SlS (w.alloc (.cells #[.int .i64 s.1, .int .i64 s.2, .int .i64 t.1, .int .i64 t.2] ty)) (some ⟨w.heap.size, 0, none⟩) 2 2 [s, t] :=
  ⟨rfl, Nat.le_refl _, by simp [maxLen], (fun h => by cases h), fun _ => ⟨w.heap.size, 0, rfl, fun i hi => by
    rcases (show i = 0 ∨ i = 1 by omega) with rfl | rfl
    · exact ⟨World.cell?_alloc_at _ _ _ _ rfl, World.cell?_alloc_at _ _ _ _ rfl⟩
    · exact ⟨World.cell?_alloc_at _ _ _ _ rfl, World.cell?_alloc_at _ _ _ _ rfl⟩⟩⟩

theorem hull_take (l : List (Int × Int)) (k : Nat) (hk : k < l.length) : hullP (l.take (k + 1)) = widerP (hullP (l.take k)) (l.getD k (0, 0)) := by
  rw [← hullP_snoc]
  congr 1
  rw [List.take_succ_eq_append_getElem hk]
  simp [List.getD, hk]

set_option maxRecDepth 100000 in
set_option maxHeartbeats 1600000 in
theorem hull_any (l : List (Int × Int)) (a : Option Addr) (n cap : Nat) (w : World) (hl : SlS w a n cap l) : Calls Try.prog 61 #[.slice a n cap] w (RetS (hullP l) w) := by
  have hlen := hl.len
  have hle := hl.le
  have hmost := hl.most
  unfold maxLen at hmost
  have M0 := m2_new w (0, 0) (0, 0)
  by_cases hz : n = 0
  · subst hz
    obtain rfl : l = [] := List.eq_nil_of_length_eq_zero hlen
    have H : Hid (hullP [] = (0, 0)) := Lib.hid rfl
    go_enter Try.func61, Try.ntmps61
    go_wp2_with fail
    generalize (w.alloc (.cells #[.int .i64 0, .int .i64 0] 24)).alloc (.cells #[.int .i64 0, .int .i64 0] 24) = W at *
    generalize w.heap.size = B at M0 ⊢
    go_loopw [8] (fun i wr => i = .int .i64 0 ∧ wr = W) (fun _ _ => 0)
    case atStart => exact ⟨rfl, rfl⟩
    case round =>
      obtain ⟨rfl, rfl⟩ := hrel
      have M3 := M0.put0 0 0
      have c0 := M0.b0.c0; have c1 := M0.b0.c1; have f0 := M0.b0.f0; have f1 := M0.b0.f1
      have d0 := M0.b1.c0; have d1 := M0.b1.c1
      go_wp2_with fail
      have e0 := M3.b0.c0; have e1 := M3.b0.c1
      exact bodyPost_ret (v := spV (0, 0)) (by simp [results, Try.results61, go_sem, e0, e1]) rfl ⟨by rw [H.out], M3.below⟩
  · obtain ⟨b, off, rfl, hc⟩ := hl.cells (by omega)
    have hbl : b < w.heap.size := World.block_lt_of_cell? w _ (hc 0 (by omega)).1
    have HC := Lib.hid hc
    have HL := Lib.hid hlen
    have HS := Lib.hid (hull_take l)
    clear hc hlen hl
    go_enter Try.func61, Try.ntmps61
    go_wp2_with fail
    generalize (w.alloc (.cells #[.int .i64 0, .int .i64 0] 24)).alloc (.cells #[.int .i64 0, .int .i64 0] 24) = W at *
    generalize hB : w.heap.size = B at M0 ⊢
    go_loopw [8] (fun i wr => ∃ k : Nat, k ≤ n ∧ i = .int .i64 k ∧ M2 w B (0, 0) (hullP (l.take k)) wr) (fun i _ => n - (intOf i).toNat)
    case atStart => exact ⟨0, Nat.zero_le _, rfl, M0⟩
    case round =>
      clear M0
      obtain ⟨k, hk, rfl, MK⟩ := hrel
      obtain ⟨wo, rfl⟩ : ∃ wo : World, wo = wr := ⟨_, rfl⟩
      by_cases hlt : k < n
      · obtain ⟨x0, x1⟩ := HC.out k hlt
        have hst := HS.out k (by rw [HL.out]; exact hlt)
        generalize l.getD k (0, 0) = x at *
        generalize hullP (l.take k) = h at *
        have HST := Lib.hid hst
        have y0 := (MK.below.cell (p := ⟨b, off + k * 2, none⟩) (by simpa using hbl)).trans x0
        have y1 := (MK.below.cell (p := ⟨b, off + k * 2 + 1, none⟩) (by simpa using hbl)).trans x1
        have n1 := MK.b0.lt; have n2 := MK.b1.lt
        have c0 := MK.b1.c0; have c1 := MK.b1.c1
        clear hst x0 x1
        go_wp2_with fail
        have M3 := MK.later (bal (.cells #[.int .i64 x.1, .int .i64 x.2] 24))
        refine (wider_any h x _).mono ?_
        rintro e w4 ⟨rfl, h4⟩
        have M4 := M3.later h4
        clear M3 h4 c0 c1 MK y0 y1
        rw [← HST.out]
        generalize hhh : hullP (l.take (k + 1)) = u at *
        have M5 := M4.put1 u.1 u.2
        have c0 := M4.b1.c0; have c1 := M4.b1.c1; have f0 := M4.b1.f0; have f1 := M4.b1.f1
        have HH := Lib.hid hhh
        clear hhh M4
        go_wp2_with fail
        go_roundw
        case rel => exact ⟨k + 1, by omega, by go_num, by rw [HH.out]; exact M5⟩
        case measure => simp [intOf]; omega
      · have hkn : Hid (hullP (l.take k) = hullP l) := Lib.hid (by rw [List.take_of_length_le (by have := HL.out; omega)])
        rw [hkn.out] at MK
        generalize hullP l = h at *
        have M3 := MK.put0 h.1 h.2
        have c0 := MK.b0.c0; have c1 := MK.b0.c1; have f0 := MK.b0.f0; have f1 := MK.b0.f1
        have d0 := MK.b1.c0; have d1 := MK.b1.c1
        clear MK
        go_wp2_with fail
        have e0 := M3.b0.c0; have e1 := M3.b0.c1
        exact bodyPost_ret (v := spV h) (by simp [results, Try.results61, go_sem, e0, e1]) rfl ⟨rfl, M3.below⟩
end Go.Proofs.Ytdoedcfmhdnbgaa.sp
