/-
  Package low: Add.
-/
import Derived.Test.YtgonfdedapnlnaaLowW
namespace Go.Proofs.Ytgonfdedapnlnaa.lo
open Go.RowKit aid mem
attribute [local go_sem ↓] Go.wp_at_zero Go.wp_at_succ
set_option linter.unusedVariables false

theorem kept_mid {win now v : Int} {l : List Mk} {n b f : Nat} (h : Lf win now v l n b f) (hm : b = f ∨ (inW win now (l.getD b (0, 0)) = true ∧ (l.getD (f - 1) (0, 0)).2 < v)) (hu : Up l) (hl : l.length = n) :
    l.filter (fun x => inW win now x && decide (x.2 < v)) = (l.take f).drop b := by
  refine mid_filter _ l b f h.bf (by rw [hl]; exact h.fn) (fun i hi => by show (inW win now (l.getD i (0, 0)) && decide ((l.getD i (0, 0)).2 < v)) = false; rw [h.lo i hi, Bool.false_and]) (fun i h1 h2 => ?_) (fun i h1 h2 => by have := h.hi i h1 (by omega); show (inW win now (l.getD i (0, 0)) && decide ((l.getD i (0, 0)).2 < v)) = false; rw [decide_eq_false (by omega), Bool.and_false])
  rcases hm with hm | ⟨h3, h4⟩
  · omega
  · have hfn := h.fn
    have e1 : inW win now (l.getD i (0, 0)) = true := by
      by_cases he : i = b
      · subst he; exact h3
      · have := (hu.at (i := b) (j := i) (by omega) (by omega)).1
        unfold inW at *
        simp only [decide_eq_true_eq] at *
        omega
    have e2 : (l.getD i (0, 0)).2 < v := by
      by_cases he : i = f - 1
      · subst he; exact h4
      · have := (hu.at (i := i) (j := f - 1) (by omega) (by omega)).2
        omega
    show (inW win now (l.getD i (0, 0)) && decide ((l.getD i (0, 0)).2 < v)) = true
    rw [e1, decide_eq_true e2]
    rfl
theorem info_val : (Try.prog.info? 44).map (fun i => (i.zero, i.size, i.bytes)) = some (some (.agg #[.int .i64 0, .int .i64 0]), 2, 16) := by kernel_rfl
/-- one value in a new array, as what is appended -/
theorem val_src (X : World) (s : Mk) : Src Try.prog 2 39 (.slice (some ⟨X.heap.size, 0, none⟩) 1 1) 1 [.int .i64 s.1, .int .i64 s.2] (X.alloc (.cells #[.int .i64 s.1, .int .i64 s.2] 44)) := by
  refine Src.ofSlice _ Try.underlying39 ⟨X.heap.size, 0, none⟩ 1 1 _ rfl ?_ (by simp [Value.oneCell'])
  intro j u hu
  have := cell_of_row (X.alloc (.cells #[.int .i64 s.1, .int .i64 s.2] 44)) X.heap.size j _ _ (0, 0) (heap_alloc_new X _)
  have hadd : (⟨X.heap.size, 0, none⟩ : Addr).add j = ⟨X.heap.size, 0 + j, none⟩ := by unfold Addr.add; split <;> simp_all
  rw [hadd, Nat.zero_add, this, ← hu]
  simp
theorem lw_ne {w : World} {B : Nat} {win last : Int} {a a2 : Option Addr} {n cap n2 cap2 : Nat} {xs : List Value} (h : LwAt w B win last a n cap) (hs : SlR w 44 2 a2 n2 cap2 xs) : B ∉ blk a2 cap2 := by
  intro hb
  obtain ⟨_, cur, hc⟩ := hs.lt B hb
  unfold LwAt at h
  rw [h] at hc
  simp at hc
/-- what is left behind Add -/
def AddPost (B : Nat) (win now : Int) (l : List Mk) (a : Option Addr) (cap : Nat) (w : World) (e : Ending) (w' : World) : Prop :=
  e = .returned (.int .i64 0) ∧ ∃ a' n' cap', LwAt w' B win now a' n' cap' ∧ Ks w' a' n' cap' l ∧ Kept (B :: blk a cap) w w' ∧ ∀ b ∈ blk a' cap', b ∈ blk a cap ∨ w.heap.size ≤ b
theorem add_end {w w2 w3 : World} {B : Nat} {win last now : Int} {a a1 a' : Option Addr} {n cap cap1 n' cap' : Nat} {l : List Mk} {xs : List Value} (hA : LwAt w2 B win last a n cap) (hb : Below w.heap.size w w2) (hne : B ∉ blk a cap) (hne2 : B < w.heap.size) (hs1 : ∀ x ∈ blk a1 cap1, x ∈ blk a cap)
    (h3 : SlR w3 44 2 a' n' cap' xs) (hx : xs = mkCells l) (hk : Kept (blk a1 cap1) w2 w3) (hat : ∀ b ∈ blk a' cap', b ∈ blk a1 cap1 ∨ w2.heap.size ≤ b) :
    AddPost B win now l a cap w (.returned (.int .i64 0)) ((w3.setCell ⟨B, 2, none⟩ (.slice a' n' cap')).setCell ⟨B, 1, none⟩ (.int .i64 now)) := by
  subst hx
  have hne1 : B ∉ blk a1 cap1 := fun h => hne (hs1 _ h)
  have hB3 : LwAt w3 B win last a n cap := hk.heap hne1 hA
  have hBn : B ∉ blk a' cap' := lw_ne hB3 h3
  have k1 : Kept [B] w3 ((w3.setCell ⟨B, 2, none⟩ (.slice a' n' cap')).setCell ⟨B, 1, none⟩ (.int .i64 now)) := ((Kept.refl [B] w3).setCell (.inl (by simp)) _).setCell (.inl (by simp)) _
  refine ⟨rfl, a', n', cap', (sc (sc hB3 2 _) 1 _).trans rfl, ⟨h3.keep k1 (fun b hb he => ?_)⟩, ?_, fun b hb' => ?_⟩
  · simp at he
    subst he
    exact hBn hb
  · refine ((Kept.of_below hb (Nat.le_refl _) (B :: blk a cap)).trans (hk.mono (S' := B :: blk a cap) (fun x hx => .inl (by simp [hs1 x hx]))) (fun x hx => .inl hx)).trans (k1.mono (S' := B :: blk a cap) (fun x hx => .inl (by simp at hx; simp [hx]))) (fun x hx => .inl hx)
  · rcases hat b hb' with h | h
    · exact .inl (hs1 b h)
    · exact .inr (by have := hb.size; omega)
set_option maxHeartbeats 1000000 in
theorem add_any {w : World} {B : Nat} {win last : Int} {a : Option Addr} {n cap : Nat} {l : List Mk} (h : LwAt w B win last a n cap) (hk : Ks w a n cap l) (hok : ∀ x ∈ l, MOk last x) (hu : Up l) (now v : Int) (hT : 0 ≤ now ∧ now ≤ 4611686018427387904) (h1 : last ≤ now) (h2 : 0 ≤ v) (h3 : v ≤ 4611686018427387904) (hn : n ≤ 1000000) :
    Calls Try.prog 10 #[.pointer (some ⟨B, 0, none⟩), .int .i64 now, .int .i64 v] w (AddPost B win now (kstep win l (now, v)) a cap w) := by
  have c0 := cofr h 0 _ rfl; have c1 := cofr h 1 _ rfl; have c2 := cofr h 2 _ rfl
  have f1 := fofr h 1; have f2 := fofr h 2
  go_enter Try.func10, Try.ntmps10
  go_wp2_with fail
  refine (left_any h hk now v hT hok).mono ?_
  rintro e w2 ⟨b, f, rfl, HL, hmid, hb2⟩
  have hbf := HL.bf
  have hfn := HL.fn
  have hA := LwAt.later h hb2
  have hk2 := hk.later hb2
  have hle := hk.row.le
  have hmost := hk.row.most
  unfold maxLen at hmost
  clear c0 c1 c2 f1 f2
  have c2 := cofr hA 2 _ rfl
  have f1 := fofr hA 1; have f2 := fofr hA 2
  obtain ⟨i0, hi, hz0, hz1, hz2⟩ := info_split info_val
  have HX := Lib.hid (show mkCells ((l.take f).drop b) ++ [.int .i64 now, .int .i64 v] = mkCells (kstep win l (now, v)) from by
    rw [← kept_mid HL hmid hu hk.len]
    show mkCells _ ++ mkCells [(now, v)] = _
    rw [← mk_append]
    rfl)
  have HNE := Lib.hid (show B ∉ blk a cap from lw_ne h hk.row)
  have HBL := Lib.hid (lt_of_block h)
  have hal : Below w2.heap.size w2 (w2.alloc (.cells #[.int .i64 now, .int .i64 v] 44)) := (Below.refl _ _).alloc (Nat.le_refl _) _
  have hA2 := LwAt.later hA hal
  have hb2a := hb2.trans (hal.mono hb2.size)
  have HE := Lib.hid (fun (a1 : Option Addr) (cap1 : Nat) (hs1 : ∀ x ∈ blk a1 cap1, x ∈ blk a cap) a' n' cap' xs w3 => add_end (a1 := a1) (cap1 := cap1) (now := now) (l := kstep win l (now, v)) (a' := a') (n' := n') (cap' := cap') (xs := xs) (w3 := w3) hA2 hb2a HNE.out HBL.out hs1)
  have HL3 := Lib.hid (fun (a1 : Option Addr) (cap1 : Nat) (hs1 : ∀ x ∈ blk a1 cap1, x ∈ blk a cap) w3 (hk : Kept (blk a1 cap1) (w2.alloc (.cells #[.int .i64 now, .int .i64 v] 44)) w3) => show LwAt w3 B win last a n cap from hk.heap (fun h => HNE.out (hs1 _ h)) hA2)
  have HROW := Lib.hid (hk2.later hal).row
  clear hal hA2 hb2a
  by_cases hc0 : cap = 0
  · subst hc0
    obtain rfl : n = 0 := by omega
    obtain rfl : f = 0 := by omega
    obtain rfl : b = 0 := by omega
    have HS0 := Lib.hid (fun W => (SlR.sub0 a : SlR W 44 2 a 0 0 []))
    have HX' := Lib.hid (show [] ++ [.int .i64 now, .int .i64 v] = mkCells (kstep win l (now, v)) from by have := HX.out; simpa [mkCells] using this)
    go_wp2_with (at_builtin; refine wpList_append_slr _ rfl (.tmp 56) (.tmp 60) 39 39 rfl 44 i0 (.agg #[.int .i64 0, .int .i64 0]) 2 16 Try.underlying39 hi hz0 hz1 (by decide) hz2 rfl a 0 0 [] rfl (HS0.out _) _ rfl 1 (by decide) [.int .i64 now, .int .i64 v] (val_src w2 (now, v)) (by simp [maxLen]) (by omega) ?_; intro a' cap' w3 hrow hkp hat; have h3 := HL3.out a 0 (fun _ h => h) w3 hkp; clear c2 f1 f2; have c1 := cofr h3 1 _ rfl; have c2 := cofr h3 2 _ rfl; have f1 := fofr h3 1; have f2 := fofr h3 2; clear h3)
    go_ret
    exact HE.out a 0 (fun _ h => h) _ _ _ _ _ hrow HX'.out hkp hat
  · obtain ⟨g, off, rfl, _⟩ := HROW.out.cell (by omega)
    by_cases hroom : 2 * f - b + 1 ≤ cap
    · have HS0 := Lib.hid (HROW.out.sub b f (2 * f - b + 1) hbf hfn (by omega) hroom (by omega))
      rw [mk_take, mk_drop] at HS0
      have HSB := Lib.hid (show ∀ x ∈ blk (some ⟨g, off + b * 2, none⟩) (2 * f - b + 1 - b), x ∈ blk (some ⟨g, off, none⟩) cap from fun x hx => by
        rw [blk_some _ _ _ (by omega)] at hx
        rw [blk_some _ _ _ (by omega)]
        exact hx)
      go_wp2_with (at_builtin; go_must (refine wpList_append_slr _ rfl (.tmp 56) (.tmp 60) 39 39 rfl 44 i0 (.agg #[.int .i64 0, .int .i64 0]) 2 16 Try.underlying39 hi hz0 hz1 (by decide) hz2 rfl (some ⟨g, off + b * 2, none⟩) (f - b) (2 * f - b + 1 - b) (mkCells ((l.take f).drop b)) (by first | rfl | (simp; done)) HS0.out _ rfl 1 (by decide) [.int .i64 now, .int .i64 v] (val_src w2 (now, v)) (by unfold maxLen; omega) (by omega) ?_); intro a' cap' w3 hrow hkp hat; have h3 := HL3.out (some ⟨g, off + b * 2, none⟩) (2 * f - b + 1 - b) HSB.out w3 hkp; clear c2 f1 f2; have c1 := cofr h3 1 _ rfl; have c2 := cofr h3 2 _ rfl; have f1 := fofr h3 1; have f2 := fofr h3 2; clear h3)
      go_ret
      exact HE.out (some ⟨g, off + b * 2, none⟩) (2 * f - b + 1 - b) HSB.out _ _ _ _ _ hrow HX.out hkp hat
    · by_cases hbc : b < cap
      · have HS0 := Lib.hid (HROW.out.sub b f cap hbf hfn (by omega) (Nat.le_refl _) hbc)
        rw [mk_take, mk_drop] at HS0
        have HSB := Lib.hid (show ∀ x ∈ blk (some ⟨g, off + b * 2, none⟩) (cap - b), x ∈ blk (some ⟨g, off, none⟩) cap from fun x hx => by
          rw [blk_some _ _ _ (by omega)] at hx
          rw [blk_some _ _ _ (by omega)]
          exact hx)
        go_wp2_with (at_builtin; go_must (refine wpList_append_slr _ rfl (.tmp 56) (.tmp 60) 39 39 rfl 44 i0 (.agg #[.int .i64 0, .int .i64 0]) 2 16 Try.underlying39 hi hz0 hz1 (by decide) hz2 rfl (some ⟨g, off + b * 2, none⟩) (f - b) (cap - b) (mkCells ((l.take f).drop b)) (by first | rfl | (simp; done)) HS0.out _ rfl 1 (by decide) [.int .i64 now, .int .i64 v] (val_src w2 (now, v)) (by unfold maxLen; omega) (by omega) ?_); intro a' cap' w3 hrow hkp hat; have h3 := HL3.out (some ⟨g, off + b * 2, none⟩) (cap - b) HSB.out w3 hkp; clear c2 f1 f2; have c1 := cofr h3 1 _ rfl; have c2 := cofr h3 2 _ rfl; have f1 := fofr h3 1; have f2 := fofr h3 2; clear h3)
        go_ret
        exact HE.out (some ⟨g, off + b * 2, none⟩) (cap - b) HSB.out _ _ _ _ _ hrow HX.out hkp hat
      · obtain rfl : cap = b := by omega
        obtain rfl : f = cap := by omega
        obtain rfl : n = f := by omega
        have HS0 := Lib.hid (fun W => (SlR.sub0 (some ⟨g, off, none⟩) : SlR W 44 2 (some ⟨g, off, none⟩) 0 0 []))
        have HX' := Lib.hid (show [] ++ [.int .i64 now, .int .i64 v] = mkCells (kstep win l (now, v)) from by have := HX.out; rw [List.drop_eq_nil_of_le (by rw [List.length_take]; omega)] at this; exact this)
        go_wp2_with (at_builtin; go_must (refine wpList_append_slr _ rfl (.tmp 56) (.tmp 60) 39 39 rfl 44 i0 (.agg #[.int .i64 0, .int .i64 0]) 2 16 Try.underlying39 hi hz0 hz1 (by decide) hz2 rfl (some ⟨g, off, none⟩) 0 0 [] (by first | rfl | (simp; done)) (HS0.out _) _ rfl 1 (by decide) [.int .i64 now, .int .i64 v] (val_src w2 (now, v)) (by simp [maxLen]) (by omega) ?_); intro a' cap' w3 hrow hkp hat; have h3 := HL3.out (some ⟨g, off, none⟩) 0 (by simp [blk_zero]) w3 hkp; clear c2 f1 f2; have c1 := cofr h3 1 _ rfl; have c2 := cofr h3 2 _ rfl; have f1 := fofr h3 1; have f2 := fofr h3 2; clear h3)
        go_ret
        exact HE.out (some ⟨g, off, none⟩) 0 (by simp [blk_zero]) _ _ _ _ _ hrow HX'.out hkp hat
end Go.Proofs.Ytgonfdedapnlnaa.lo
