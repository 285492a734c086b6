/-
  Alarms: the reference: Next, Len, Is.
-/
import Derived.Test.YtnioaaahkhephaaAlmI
namespace Go.Proofs.Ytnioaaahkhephaa.al
open Go.RowKit Go.Maps aid mem
attribute [local go_sem ↓] Go.wp_at_zero Go.wp_at_succ
set_option linter.unusedVariables false
set_option linter.unusedSimpArgs false

/-- the box, and what its slice leads to -/
structure RB (B : Nat) (now : Int) (a : Option Addr) (n cap : Nat) (L : List Int) (w : World) : Prop where
  box : w.heap[B]? = some (rcO now a n cap)
  sl : SlA .i64 w a n cap L
theorem RB.later {B : Nat} {now : Int} {a : Option Addr} {n cap : Nat} {L : List Int} {w W : World} (h : RB B now a n cap L w) (hb : Below w.heap.size w W) : RB B now a n cap L W :=
  ⟨(hb.block _ (lt_of_block h.box)).trans h.box, h.sl.later hb⟩
theorem rb_new {now : Int} {a : Option Addr} {n cap : Nat} {L : List Int} {w : World} (h : SlA .i64 w a n cap L) : RB w.heap.size now a n cap L (w.alloc (rcO now a n cap)) := ⟨heap_alloc_new w _, h.later (bal _)⟩
theorem RB.c0 {B : Nat} {now : Int} {a : Option Addr} {n cap : Nat} {L : List Int} {w : World} (h : RB B now a n cap L w) : w.cell? ⟨B, 0, none⟩ = some (.int .i64 now) := cofr h.box 0 _ rfl
theorem RB.c1 {B : Nat} {now : Int} {a : Option Addr} {n cap : Nat} {L : List Int} {w : World} (h : RB B now a n cap L w) : w.cell? ⟨B, 1, none⟩ = some (.slice a n cap) := cofr h.box 1 _ rfl
theorem nx_step (L : List Int) (k : Nat) : nx L (k + 1) = if 0 ≤ L.getD k 0 ∧ (nx L k < 0 ∨ L.getD k 0 < L.getD (nx L k).toNat 0) then (k : Int) else nx L k := rfl
/-- behind the box -/
structure BW (w : World) (o : Obj) (W : World) : Prop where
  b : Below (w.heap.size + 1) (w.alloc o) W
theorem BW.start {w : World} {o : Obj} : BW w o (w.alloc o) := ⟨Below.refl _ _⟩
theorem BW.later {w : World} {o : Obj} {X Y : World} (h : BW w o X) (hb : Below X.heap.size X Y) : BW w o Y := ⟨h.b.trans (hb.mono (by have := h.b.size; simp at this; omega))⟩
theorem BW.below {w : World} {o : Obj} {X : World} (h : BW w o X) : Below w.heap.size w X := (bal o).trans (h.b.mono (Nat.le_succ _))
theorem BW.rb {w : World} {now : Int} {a : Option Addr} {n cap : Nat} {L : List Int} {X : World} (h : BW w (rcO now a n cap) X) (hs : SlA .i64 w a n cap L) : RB w.heap.size now a n cap L X :=
  ⟨(h.b.block _ (Nat.lt_succ_self _)).trans (heap_alloc_new w _), hs.later h.below⟩
theorem BW.drew {w : World} {o : Obj} {X : World} (h : BW w o X) : BW w o X.drew := h.later (Below.refl _ _).drew
set_option maxHeartbeats 4000000 in
theorem rnext_any {w : World} {a : Option Addr} {n cap : Nat} {L : List Int} (h : SlA .i64 w a n cap L) (now : Int) (hn : n ≤ 1000) :
    Calls Try.prog 26 #[rc now a n cap] w (RetI (nx L n) w) := by
  have HR : Hid (∀ W, BW w (rcO now a n cap) W → RB w.heap.size now a n cap L W) := Lib.hid (fun W hb => hb.rb h)
  have hle := h.le
  have hl := h.len
  clear h
  have c1 := (HR.out _ BW.start).c1
  go_enter Try.func26, Try.ntmps26
  go_wp2_with fail
  clear c1
  go_loopw [3, 4] (fun s3 s4 wr => ∃ k : Nat, k ≤ n ∧ s3 = .int .i64 (nx L k) ∧ s4 = .int .i64 k ∧ Hid (BW w (rcO now a n cap) wr)) (fun _ s4 _ => n - (intOf s4).toNat)
  case atStart => exact ⟨0, Nat.zero_le _, rfl, rfl, Lib.hid BW.start⟩
  case round =>
    obtain ⟨k, hk, rfl, rfl, HB⟩ := hrel
    have R := HR.out _ HB.out
    have c1 := R.c1
    by_cases hlt : k < n
    · obtain ⟨g1, o1, rfl, hc1⟩ := R.sl.cells (by omega)
      have m0 := hc1 k hlt
      have hr := nx_rng L k
      have hst := nx_step L k
      have HM : Hid (∀ m : Nat, m < k → wr.cell? ⟨g1, o1 + m, none⟩ = some (.int .i64 (L.getD m 0))) := Lib.hid (fun m hm => hc1 m (by omega))
      clear hc1 R HR
      by_cases hx : 0 ≤ L.getD k 0
      · by_cases hb : nx L k < 0
        · rw [if_pos ⟨hx, .inl hb⟩] at hst
          have HST := Lib.hid hst
          clear hst HM
          generalize nx L k = b at *
          generalize L.getD k 0 = x at *
          go_wp2_with fail
          go_quiet (fail)
          go_wp2
          go_roundw
          case rel => exact ⟨k + 1, by omega, by rw [HST.out], by go_num, Lib.hid (HB.out.later ⟨rfl, rfl, rfl, Nat.le_refl _, fun _ _ => rfl⟩)⟩
          case measure => simp [intOf]; omega
        · obtain ⟨m, hm⟩ := Int.eq_ofNat_of_zero_le (Int.not_lt.1 hb)
          have m1 := HM.out m (by omega)
          rw [hm] at hst
          rw [Int.toNat_natCast] at hst
          by_cases hy : L.getD k 0 < L.getD m 0
          · rw [if_pos ⟨hx, .inr hy⟩] at hst
            have HST := Lib.hid hst
            clear hst HM
            rw [hm] at hb hr ⊢
            have hmk : (m : Int) < n := by omega
            have hm0 : decide ((m : Int) < 0) = false := decide_eq_false hb
            clear hm hr
            generalize L.getD m 0 = y at *
            generalize L.getD k 0 = x at *
            have hxy : decide (x < y) = true := decide_eq_true hy
            go_wp2_with fail
            go_quiet (fail)
            go_wp2
            go_roundw
            case rel => exact ⟨k + 1, by omega, by rw [HST.out], by go_num, Lib.hid (HB.out.later ⟨rfl, rfl, rfl, Nat.le_refl _, fun _ _ => rfl⟩)⟩
            case measure => simp [intOf]; omega
          · rw [if_neg (fun q => by omega)] at hst
            have HST := Lib.hid hst
            clear hst HM
            rw [hm] at hb hr ⊢
            have hmk : (m : Int) < n := by omega
            have hm0 : decide ((m : Int) < 0) = false := decide_eq_false hb
            clear hm hr
            generalize L.getD m 0 = y at *
            generalize L.getD k 0 = x at *
            have hxy : decide (x < y) = false := decide_eq_false hy
            go_wp2_with fail
            go_quiet (fail)
            go_wp2
            go_roundw
            case rel => exact ⟨k + 1, by omega, by rw [HST.out], by go_num, Lib.hid (HB.out.later ⟨rfl, rfl, rfl, Nat.le_refl _, fun _ _ => rfl⟩)⟩
            case measure => simp [intOf]; omega
      · rw [if_neg (fun q => hx q.1)] at hst
        have HST := Lib.hid hst
        clear hst HM
        generalize nx L k = b at *
        generalize L.getD k 0 = x at *
        have hx2 : decide (0 ≤ x) = false := decide_eq_false hx
        go_wp2_with fail
        go_quiet (fail)
        go_wp2
        go_roundw
        case rel => exact ⟨k + 1, by omega, by rw [HST.out], by go_num, Lib.hid (HB.out.later ⟨rfl, rfl, rfl, Nat.le_refl _, fun _ _ => rfl⟩)⟩
        case measure => simp [intOf]; omega
    · obtain rfl : k = n := by omega
      have hw := HB.out.below
      have HB2 := Lib.hid hw
      clear hw HR R
      generalize nx L k = b at *
      go_wp2
      go_ret
      exact ⟨rfl, HB2.out⟩
theorem cnt_step (L : List Int) (k : Nat) : cnt L (k + 1) = if 0 ≤ L.getD k 0 then cnt L k + 1 else cnt L k := rfl
set_option maxHeartbeats 4000000 in
theorem rlen_any {w : World} {a : Option Addr} {n cap : Nat} {L : List Int} (h : SlA .i64 w a n cap L) (now : Int) (hn : n ≤ 1000) :
    Calls Try.prog 28 #[rc now a n cap] w (RetI (cnt L n : Nat) w) := by
  have HR : Hid (∀ W, BW w (rcO now a n cap) W → RB w.heap.size now a n cap L W) := Lib.hid (fun W hb => hb.rb h)
  have hle := h.le
  clear h
  have c1 := (HR.out _ BW.start).c1
  go_enter Try.func28, Try.ntmps28
  go_wp2_with fail
  clear c1
  go_loopw [3, 4] (fun s3 s4 wr => ∃ k : Nat, k ≤ n ∧ s3 = .int .i64 (cnt L k : Nat) ∧ s4 = .int .i64 k ∧ Hid (BW w (rcO now a n cap) wr)) (fun _ s4 _ => n - (intOf s4).toNat)
  case atStart => exact ⟨0, Nat.zero_le _, rfl, rfl, Lib.hid BW.start⟩
  case round =>
    obtain ⟨k, hk, rfl, rfl, HB⟩ := hrel
    have R := HR.out _ HB.out
    have c1 := R.c1
    have hck := cnt_le L k
    by_cases hlt : k < n
    · obtain ⟨g1, o1, rfl, hc1⟩ := R.sl.cells (by omega)
      have m0 := hc1 k hlt
      have hst := cnt_step L k
      clear hc1 R HR
      by_cases hx : 0 ≤ L.getD k 0
      · rw [if_pos hx] at hst
        have HST := Lib.hid hst
        clear hst
        generalize cnt L k = b at *
        generalize L.getD k 0 = x at *
        go_wp2_with fail
        go_roundw
        case rel => exact ⟨k + 1, by omega, by rw [HST.out]; go_num, by go_num, HB⟩
        case measure => simp [intOf]; omega
      · rw [if_neg hx] at hst
        have HST := Lib.hid hst
        clear hst
        generalize cnt L k = b at *
        generalize L.getD k 0 = x at *
        have hx2 : decide (0 ≤ x) = false := decide_eq_false hx
        go_wp2_with fail
        go_roundw
        case rel => exact ⟨k + 1, by omega, by rw [HST.out], by go_num, HB⟩
        case measure => simp [intOf]; omega
    · obtain rfl : k = n := by omega
      have hw := HB.out.below
      have HB2 := Lib.hid hw
      clear hw HR R
      generalize cnt L k = b at *
      go_wp2
      go_ret
      exact ⟨rfl, HB2.out⟩
/-- is it set? -/
def isL (L : List Int) (a : Int) : Bool := decide (0 ≤ a ∧ a < L.length ∧ 0 ≤ L.getD a.toNat 0)
set_option maxHeartbeats 2000000 in
theorem ris_any {w : World} {a : Option Addr} {n cap : Nat} {L : List Int} (h : SlA .i64 w a n cap L) (now : Int) (hn : n ≤ 1000) (z : Int) :
    Calls Try.prog 27 #[rc now a n cap, .int .i64 z] w (RetB (isL L z) w) := by
  have hl := h.len
  have hle := h.le
  have R := (BW.start (w := w) (o := rcO now a n cap)).rb h
  have c1 := R.c1
  have HB := Lib.hid (BW.start (w := w) (o := rcO now a n cap)).below
  by_cases h1 : 0 ≤ z
  · by_cases h2 : z < n
    · obtain ⟨m, rfl⟩ := Int.eq_ofNat_of_zero_le h1
      obtain ⟨g1, o1, rfl, hc1⟩ := R.sl.cells (by omega)
      have m0 := hc1 m (by omega)
      by_cases hx : 0 ≤ L.getD m 0
      · have HE : Hid (isL L (m : Int) = true) := Lib.hid (decide_eq_true ⟨by omega, by omega, by rw [Int.toNat_natCast]; exact hx⟩)
        clear hc1 R h
        generalize L.getD m 0 = x at *
        go_enter Try.func27, Try.ntmps27
        go_wp2_with fail
        go_ret
        exact ⟨by rw [HE.out]; first | rfl | simp [hx], HB.out⟩
      · have HE : Hid (isL L (m : Int) = false) := Lib.hid (decide_eq_false (fun q => hx (by have := q.2.2; rwa [Int.toNat_natCast] at this)))
        clear hc1 R h
        generalize L.getD m 0 = x at *
        have hx2 : decide (0 ≤ x) = false := decide_eq_false hx
        go_enter Try.func27, Try.ntmps27
        go_wp2_with fail
        go_ret
        exact ⟨by rw [HE.out]; first | rfl | simp [hx2], HB.out⟩
    · have HE : Hid (isL L z = false) := Lib.hid (decide_eq_false (fun q => h2 (by have := q.2.1; omega)))
      have hx2 : decide (z < (n : Int)) = false := decide_eq_false h2
      clear R h
      go_enter Try.func27, Try.ntmps27
      go_wp2_with fail
      go_ret
      exact ⟨by rw [HE.out]; first | rfl | simp [hx2], HB.out⟩
  · have HE : Hid (isL L z = false) := Lib.hid (decide_eq_false (fun q => h1 q.1))
    have hx2 : decide (0 ≤ z) = false := decide_eq_false h1
    clear R h
    go_enter Try.func27, Try.ntmps27
    go_wp2_with fail
    go_ret
    exact ⟨by rw [HE.out]; first | rfl | simp [hx2], HB.out⟩
end Go.Proofs.Ytnioaaahkhephaa.al
