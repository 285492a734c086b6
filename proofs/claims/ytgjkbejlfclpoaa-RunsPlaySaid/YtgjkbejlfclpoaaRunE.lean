/-
  slices.DeleteFunc over two spans, of which one is empty at least.
-/
import Derived.Test.YtgjkbejlfclpoaaRunF
namespace Go.Proofs.Ytgjkbejlfclpoaa.rn
open Go.RowKit Go.Shelf aid mem rng sp
attribute [local go_sem ↓] Go.wp_at_zero Go.wp_at_succ
set_option linter.unusedVariables false
set_option linter.unusedSimpArgs false

def Row2 (w : World) (sg : Nat) (x y : Sp) : Prop := w.heap[sg]? = some (.cells #[.int .i64 x.1, .int .i64 x.2, .int .i64 y.1, .int .i64 y.2] 24 (0, 0))
theorem Row2.slr {w : World} {sg : Nat} {x y : Sp} (h : Row2 w sg x y) : SlR w 24 2 (some ⟨sg, 0, none⟩) 2 2 (spCells [x, y]) :=
  SlP.slr (P := []) (R := []) ⟨h, rfl, rfl, by simp, by decide, by simp [spCells]⟩
theorem Row2.keep {w w' : World} {sg : Nat} {x y : Sp} (h : Row2 w sg x y) (hb : Below w.heap.size w w') : Row2 w' sg x y := (hb.block _ (lt_of_block h)).trans h
theorem row2_ends {w w' : World} {sg : Nat} {x y : Sp} (h : Row2 w' sg x y) (hk : Kept [sg] w w') : DelPost sg [x] 2 w (.returned (.slice (some ⟨sg, 0, none⟩) 1 2)) w' :=
  ⟨rfl, SlP.slr (P := []) (R := [.int .i64 y.1, .int .i64 y.2]) ⟨h, rfl, rfl, by simp, by decide, by simp [spCells]⟩, hk⟩
theorem row2_none {w w' : World} {sg : Nat} {x y : Sp} (h : Row2 w' sg x y) (hk : Kept [sg] w w') : DelPost sg [] 2 w (.returned (.slice (some ⟨sg, 0, none⟩) 0 2)) w' :=
  ⟨rfl, SlP.slr (P := []) (R := [.int .i64 x.1, .int .i64 x.2, .int .i64 y.1, .int .i64 y.2]) ⟨h, rfl, rfl, by simp, by decide, by simp [spCells]⟩, hk⟩
theorem zero1 : (Builtin.zeroCells (Value.cells (.agg #[.int .i64 0, .int .i64 0])) 1).toList = [.int .i64 0, .int .i64 0] := by kernel_rfl
theorem zero2 : (Builtin.zeroCells (Value.cells (.agg #[.int .i64 0, .int .i64 0])) 2).toList = [.int .i64 0, .int .i64 0, .int .i64 0, .int .i64 0] := by kernel_rfl
theorem idx_two {x y : Sp} (hx : lenI x ≠ 0) (hy : lenI y = 0) : idxE [x, y] = 1 := by unfold idxE plc; simp [hx, hy]
theorem idx_one {x y : Sp} (hx : lenI x = 0) : idxE [x, y] = 0 := by unfold idxE plc; simp [hx]
set_option maxHeartbeats 1000000 in
theorem del_snd {w : World} {sg : Nat} {x y : Sp} (h : Row2 w sg x y) (hx : lenI x ≠ 0) (hy : lenI y = 0) :
    Calls Try.prog 66 #[.slice (some ⟨sg, 0, none⟩) 2 2, .func (.func 67) #[] #[]] w (DelPost sg [x] 2 w) := by
  obtain ⟨i0, hi, hz0, hz1, hz2⟩ := info_split info_span
  have HI := Lib.hid ((index_any h.slr (by decide)).mono (fun e' w' (h : RetX [x, y] w e' w') => show e' = .returned (.int .i64 1) ∧ Below w.heap.size w w' from ⟨by rw [h.1, idx_two hx hy]; rfl, h.2⟩))
  have HH := Lib.hid h
  clear h hx hy
  go_enter Try.func66, Try.ntmps66
  go_wp2_with fail
  refine HI.out.mono ?_
  rintro e w1 ⟨rfl, h1⟩
  have hr := HH.out.keep h1
  have HE := Lib.hid (fun W (hW : W = w1.setRow sg ([Value.int .i64 x.1, Value.int .i64 x.2] ++ [Value.int .i64 0, .int .i64 0] ++ []).toArray) => show DelPost sg [x] 2 w (.returned (.slice (some ⟨sg, 0, none⟩) 1 2)) W from by
    subst hW
    exact row2_ends (y := (0, 0)) (setRow_heap w1 sg _ _ _ _ hr) ((Kept.of_below h1 (Nat.le_refl _) [sg]).trans (kept_setRow w1 sg _) (fun x hx => .inl hx)))
  have HR := Lib.hid hr
  clear hr
  go_wp2_with fail
  go_loopw [5, 6] (fun s5 s6 wr => s5 = .int .i64 1 ∧ s6 = .int .i64 2 ∧ wr = w1) (fun _ s6 _ => 2 - (intOf s6).toNat)
  case atStart => exact ⟨rfl, rfl, rfl⟩
  case round =>
    obtain ⟨rfl, rfl, rfl⟩ := hrel
    have hcl : ∀ ty, (Builtin.clear_ #[28] ty #[.slice (some ⟨sg, 2, none⟩) 1 1]).run Try.prog wr = .ok (.tuple #[]) _ := fun ty => run_clear_p (P := Try.prog) wr 28 ty 24 i0 (.agg #[.int .i64 0, .int .i64 0]) Try.underlying28 hi hz0 sg 2 1 1 (by decide) [.int .i64 x.1, .int .i64 x.2] [.int .i64 y.1, .int .i64 y.2] [] HR.out rfl (by rw [zero1]; rfl) (by rw [zero1]; simp [Value.oneCell'])
    rw [zero1] at hcl
    clear HR
    go_wp2
    go_ret
    exact HE.out _ rfl
/-- between two rounds -/
def DRel (w : World) (sg : Nat) (x y : Sp) (ne : Bool) (i j : Nat) (wr : World) : Prop :=
  (i = 0 ∧ j = 1 ∧ Row2 wr sg x y ∧ Kept [sg] w wr) ∨ (j = 2 ∧ Kept [sg] w wr ∧ if ne = true then i = 1 ∧ Row2 wr sg y y else i = 0 ∧ Row2 wr sg x y)
set_option maxHeartbeats 1000000 in
theorem del_fst {w : World} {sg : Nat} {x y : Sp} (h : Row2 w sg x y) (hx : lenI x = 0) (hy : lenI y ≠ 0) :
    Calls Try.prog 66 #[.slice (some ⟨sg, 0, none⟩) 2 2, .func (.func 67) #[] #[]] w (DelPost sg [y] 2 w) := by
  obtain ⟨i0, hi, hz0, hz1, hz2⟩ := info_split info_span
  have HI := Lib.hid ((index_any h.slr (by decide)).mono (fun e' w' (h : RetX [x, y] w e' w') => show e' = .returned (.int .i64 0) ∧ Below w.heap.size w w' from ⟨by rw [h.1, idx_one hx]; rfl, h.2⟩))
  have HH := Lib.hid h
  have HR := Lib.hid (fun X => rep1_any y X)
  rw [decide_eq_false hy] at HR
  clear h hx hy
  go_enter Try.func66, Try.ntmps66
  go_wp2_with fail
  refine HI.out.mono ?_
  rintro e w1 ⟨rfl, h1⟩
  have HD : Hid (DRel w sg x y true 0 1 w1) := Lib.hid (.inl ⟨rfl, rfl, HH.out.keep h1, Kept.of_below h1 (Nat.le_refl _) [sg]⟩)
  clear h1
  go_wp2_with fail
  go_loopw [5, 6] (fun s5 s6 wr => ∃ i j : Nat, s5 = .int .i64 i ∧ s6 = .int .i64 j ∧ Hid (DRel w sg x y true i j wr)) (fun _ s6 _ => 2 - (intOf s6).toNat)
  case atStart => exact ⟨0, 1, rfl, rfl, HD⟩
  case round =>
    obtain ⟨i, j, rfl, rfl, HD⟩ := hrel
    rcases HD.out with ⟨rfl, rfl, hr, hk⟩ | ⟨rfl, hk, hd⟩
    · have m2 := cofr hr 2 _ rfl; have m3 := cofr hr 3 _ rfl
      have b1 := bal (w := wr) (.cells #[.int .i64 y.1, .int .i64 y.2] 24)
      have s0 := sp_new wr y
      have HB := Lib.hid (And.intro b1 s0)
      have HRK := Lib.hid (And.intro hr hk)
      have e0 := s0.c0; have e1 := s0.c1
      clear hr hk b1 s0 HD
      go_wp2_with fail
      refine (HR.out _).mono ?_
      rintro e w3 ⟨rfl, h3⟩
      obtain ⟨b1, s0⟩ := HB.out
      obtain ⟨hr, hk⟩ := HRK.out
      have b3 := b1.trans (h3.mono b1.size)
      have s3 := s0.later h3
      have r3 := hr.keep b3
      have k3 : Kept [sg] w w3 := hk.trans (Kept.of_below b3 (Nat.le_refl _) [sg]) (fun x hx => .inl hx)
      have r4 : (w3.setCell ⟨sg, 0, none⟩ (.int .i64 y.1)).heap[sg]? = some (.cells #[.int .i64 y.1, .int .i64 x.2, .int .i64 y.1, .int .i64 y.2] 24 (0, 0)) := (heap_setCell_same w3 sg 0 _ _ _ r3).trans rfl
      have r5 : ((w3.setCell ⟨sg, 0, none⟩ (.int .i64 y.1)).setCell ⟨sg, 1, none⟩ (.int .i64 y.2)).heap[sg]? = some (.cells #[.int .i64 y.1, .int .i64 y.2, .int .i64 y.1, .int .i64 y.2] 24 (0, 0)) := (heap_setCell_same _ sg 1 _ _ _ r4).trans rfl
      have k5 : Kept [sg] w ((w3.setCell ⟨sg, 0, none⟩ (.int .i64 y.1)).setCell ⟨sg, 1, none⟩ (.int .i64 y.2)) := (k3.setCell (.inl (by simp)) _).setCell (.inl (by simp)) _
      have HD2 : Hid (DRel w sg x y true 1 2 ((w3.setCell ⟨sg, 0, none⟩ (.int .i64 y.1)).setCell ⟨sg, 1, none⟩ (.int .i64 y.2))) := Lib.hid (.inr ⟨rfl, k5, rfl, r5⟩)
      have c0 := cofr r3 0 _ rfl; have c1 := cofr r3 1 _ rfl
      have f0 := fofr r3 0; have f1 := fofr r3 1
      have e0 := s3.c0; have e1 := s3.c1
      clear b1 s0 hr hk b3 s3 r3 k3 r4 r5 k5 h3 m2 m3 HB HRK
      go_wp2
      go_roundw
      case rel => exact ⟨1, 2, rfl, rfl, HD2⟩
      case measure => simp [intOf]
    · rw [if_pos rfl] at hd
      obtain ⟨rfl, hr⟩ := hd
      have HE := Lib.hid (fun W (hW : W = wr.setRow sg ([Value.int .i64 y.1, Value.int .i64 y.2] ++ [Value.int .i64 0, .int .i64 0] ++ []).toArray) => show DelPost sg [y] 2 w (.returned (.slice (some ⟨sg, 0, none⟩) 1 2)) W from by
        subst hW
        exact row2_ends (y := (0, 0)) (setRow_heap wr sg _ _ _ _ hr) (hk.trans (kept_setRow wr sg _) (fun x hx => .inl hx)))
      have HRR := Lib.hid hr
      clear hr hk HD
      have hcl : ∀ ty, (Builtin.clear_ #[28] ty #[.slice (some ⟨sg, 2, none⟩) 1 1]).run Try.prog wr = .ok (.tuple #[]) _ := fun ty => run_clear_p (P := Try.prog) wr 28 ty 24 i0 (.agg #[.int .i64 0, .int .i64 0]) Try.underlying28 hi hz0 sg 2 1 1 (by decide) [.int .i64 y.1, .int .i64 y.2] [.int .i64 y.1, .int .i64 y.2] [] HRR.out rfl (by rw [zero1]; rfl) (by rw [zero1]; simp [Value.oneCell'])
      rw [zero1] at hcl
      clear HRR
      go_wp2
      go_ret
      exact HE.out _ rfl
set_option maxHeartbeats 1000000 in
theorem del_both {w : World} {sg : Nat} {x y : Sp} (h : Row2 w sg x y) (hx : lenI x = 0) (hy : lenI y = 0) :
    Calls Try.prog 66 #[.slice (some ⟨sg, 0, none⟩) 2 2, .func (.func 67) #[] #[]] w (DelPost sg [] 2 w) := by
  obtain ⟨i0, hi, hz0, hz1, hz2⟩ := info_split info_span
  have HI := Lib.hid ((index_any h.slr (by decide)).mono (fun e' w' (h : RetX [x, y] w e' w') => show e' = .returned (.int .i64 0) ∧ Below w.heap.size w w' from ⟨by rw [h.1, idx_one hx]; rfl, h.2⟩))
  have HH := Lib.hid h
  have HR := Lib.hid (fun X => rep1_any y X)
  rw [decide_eq_true hy] at HR
  clear h hx hy
  go_enter Try.func66, Try.ntmps66
  go_wp2_with fail
  refine HI.out.mono ?_
  rintro e w1 ⟨rfl, h1⟩
  have HD : Hid (DRel w sg x y false 0 1 w1) := Lib.hid (.inl ⟨rfl, rfl, HH.out.keep h1, Kept.of_below h1 (Nat.le_refl _) [sg]⟩)
  clear h1
  go_wp2_with fail
  go_loopw [5, 6] (fun s5 s6 wr => ∃ i j : Nat, s5 = .int .i64 i ∧ s6 = .int .i64 j ∧ Hid (DRel w sg x y false i j wr)) (fun _ s6 _ => 2 - (intOf s6).toNat)
  case atStart => exact ⟨0, 1, rfl, rfl, HD⟩
  case round =>
    obtain ⟨i, j, rfl, rfl, HD⟩ := hrel
    rcases HD.out with ⟨rfl, rfl, hr, hk⟩ | ⟨rfl, hk, hd⟩
    · have m2 := cofr hr 2 _ rfl; have m3 := cofr hr 3 _ rfl
      have b1 := bal (w := wr) (.cells #[.int .i64 y.1, .int .i64 y.2] 24)
      have s0 := sp_new wr y
      have HB := Lib.hid b1
      have HRK := Lib.hid (And.intro hr hk)
      have e0 := s0.c0; have e1 := s0.c1
      clear hr hk b1 s0 HD
      go_wp2_with fail
      refine (HR.out _).mono ?_
      rintro e w3 ⟨rfl, h3⟩
      have b1 := HB.out
      obtain ⟨hr, hk⟩ := HRK.out
      have b3 := b1.trans (h3.mono b1.size)
      have HD2 : Hid (DRel w sg x y false 0 2 w3) := Lib.hid (.inr ⟨rfl, hk.trans (Kept.of_below b3 (Nat.le_refl _) [sg]) (fun x hx => .inl hx), rfl, hr.keep b3⟩)
      clear b1 hr hk b3 h3 m2 m3 HB HRK e0 e1
      go_wp2
      go_roundw
      case rel => exact ⟨0, 2, rfl, rfl, HD2⟩
      case measure => simp [intOf]
    · rw [if_neg (by simp)] at hd
      obtain ⟨rfl, hr⟩ := hd
      have HE := Lib.hid (fun W (hW : W = wr.setRow sg (([] : List Value) ++ [Value.int .i64 0, .int .i64 0, .int .i64 0, .int .i64 0] ++ []).toArray) => show DelPost sg [] 2 w (.returned (.slice (some ⟨sg, 0, none⟩) 0 2)) W from by
        subst hW
        exact row2_none (x := (0, 0)) (y := (0, 0)) (setRow_heap wr sg _ _ _ _ hr) (hk.trans (kept_setRow wr sg _) (fun x hx => .inl hx)))
      have HRR := Lib.hid hr
      clear hr hk HD
      have hcl : ∀ ty, (Builtin.clear_ #[28] ty #[.slice (some ⟨sg, 0, none⟩) 2 2]).run Try.prog wr = .ok (.tuple #[]) _ := fun ty => run_clear_p (P := Try.prog) wr 28 ty 24 i0 (.agg #[.int .i64 0, .int .i64 0]) Try.underlying28 hi hz0 sg 0 2 2 (by decide) [] [.int .i64 x.1, .int .i64 x.2, .int .i64 y.1, .int .i64 y.2] [] HRR.out rfl (by rw [zero2]; rfl) (by rw [zero2]; simp [Value.oneCell'])
      rw [zero2] at hcl
      clear HRR
      go_wp2
      go_ret
      exact HE.out _ rfl
/-- of one or two spans those go that are empty -/
theorem del_two {w : World} {sg : Nat} (x y : Sp) (h : Row2 w sg x y) :
    Calls Try.prog 66 #[.slice (some ⟨sg, 0, none⟩) 2 2, .func (.func 67) #[] #[]] w (DelPost sg (ne x ++ ne y) 2 w) := by
  unfold ne
  by_cases hx : lenI x = 0
  · by_cases hy : lenI y = 0
    · rw [if_pos hx, if_pos hy]; exact del_both h hx hy
    · rw [if_pos hx, if_neg hy]; exact del_fst h hx hy
  · by_cases hy : lenI y = 0
    · rw [if_neg hx, if_pos hy]; exact del_snd h hx hy
    · rw [if_neg hx, if_neg hy]
      exact del_keep h.slr (by decide) (by simp [hx, hy])
theorem del_one {w : World} {sg : Nat} (x : Sp) (h : SpAt w sg x) (hx : lenI x ≠ 0) :
    Calls Try.prog 66 #[.slice (some ⟨sg, 0, none⟩) 1 1, .func (.func 67) #[] #[]] w (DelPost sg [x] 1 w) :=
  del_keep (SlP.slr (P := []) (R := []) ⟨h, rfl, rfl, by simp, by decide, by simp [spCells]⟩) (by decide) (by simp [hx])
end Go.Proofs.Ytgjkbejlfclpoaa.rn
