/-
  Package dup: blocks in memory; a block's span, by the code and by the reference.
-/
import Derived.Test.YtegfmjkngbnnfaaDupX
import Derived.Test.YtegfmjkngbnnfaaSpnO
import Derived.Test.YtegfmjkngbnnfaaApp
namespace Go.Proofs.Ytegfmjkngbnnfaa.dp
open Go.RowKit aid mem sq sp
attribute [local go_sem ↓] Go.wp_at_zero Go.wp_at_succ
set_option linter.unusedVariables false

abbrev bkV (b : Bk) : Value := .agg #[.int .u32 b.1, .int .u32 b.2]
/-- block B holds a block -/
def BkAt (w : World) (B : Nat) (b : Bk) : Prop := w.heap[B]? = some (.cells #[.int .u32 b.1, .int .u32 b.2] 42 (0, 0))
theorem BkAt.c0 {w : World} {B : Nat} {s : Bk} (h : BkAt w B s) : w.cell? ⟨B, 0, none⟩ = some (.int .u32 s.1) := (cell_of_row w B 0 _ _ (0, 0) h).trans rfl
theorem BkAt.c1 {w : World} {B : Nat} {s : Bk} (h : BkAt w B s) : w.cell? ⟨B, 1, none⟩ = some (.int .u32 s.2) := (cell_of_row w B 1 _ _ (0, 0) h).trans rfl
theorem BkAt.later {w w' : World} {B : Nat} {s : Bk} (h : BkAt w B s) (hk : Below w.heap.size w w') : BkAt w' B s := (hk.block B (lt_of_block h)).trans h
theorem bk_new (w : World) (s : Bk) : BkAt (w.alloc (.cells #[.int .u32 s.1, .int .u32 s.2] 42)) w.heap.size s := heap_alloc_new w _
def RetT (s : Int × Int) (b : Bool) (w : World) (e : Ending) (w' : World) : Prop := e = .returned (.tuple #[spV s, .bool b]) ∧ Below w.heap.size w w'
theorem retT_eq {s s' : Int × Int} {b b' : Bool} {w w' : World} {e : Ending} (h : RetT s b w e w') (hs : s = s') (hb : b = b') : RetT s' b' w e w' := by subst hs hb; exact h

/-- the two boxes of a block's reader -/
structure MB (w0 : World) (B : Nat) (b : Bk) (s : Int × Int) (w : World) : Prop where
  b0 : BkAt w B b
  b1 : SpAt w (B + 1) s
  below : Below w0.heap.size w0 w
  le : w0.heap.size ≤ B
theorem MB.later {w0 : World} {B : Nat} {b : Bk} {s : Int × Int} {w w' : World} (h : MB w0 B b s w) (hb : Below w.heap.size w w') : MB w0 B b s w' :=
  ⟨h.b0.later hb, h.b1.later hb, h.below.trans (hb.mono h.below.size), h.le⟩
theorem MB.put1 {w0 : World} {B : Nat} {b : Bk} {s : Int × Int} {w : World} (h : MB w0 B b s w) (x y : Int) : MB w0 B b (x, y) ((w.setCell ⟨B + 1, 0, none⟩ (.int .i64 x)).setCell ⟨B + 1, 1, none⟩ (.int .i64 y)) :=
  ⟨(kput w (B + 1) _ _).heap (by simp) h.b0, h.b1.put x y, h.below.trans ((kput w (B + 1) _ _).below (by have := h.le; simp; omega) h.below.size), h.le⟩
theorem mb_new (w : World) (b : Bk) : MB w w.heap.size b (0, 0) ((w.alloc (.cells #[.int .u32 b.1, .int .u32 b.2] 42)).alloc (.cells #[.int .i64 0, .int .i64 0] 26)) :=
  ⟨(bk_new w b).later (bal _), by simpa using sp_new (w.alloc (.cells #[.int .u32 b.1, .int .u32 b.2] 42)) (0, 0), (bal _).alloc (bal _).size _, Nat.le_refl _⟩

theorem mb_newS (w : World) (b : Bk) (x y : Int) : MB w w.heap.size b (x, y) ((w.alloc (.cells #[.int .u32 b.1, .int .u32 b.2] 42)).alloc (.cells #[.int .i64 x, .int .i64 y] 26)) :=
  ⟨(bk_new w b).later (bal _), by simpa using sp_new (w.alloc (.cells #[.int .u32 b.1, .int .u32 b.2] 42)) (x, y), (bal _).alloc (bal _).size _, Nat.le_refl _⟩

theorem frm_no {near : Int} {b : Bk} (h : runw near b.1 < 0 ∨ m32 (b.2 - b.1) < 1 ∨ 65536 < m32 (b.2 - b.1) ∨ 4611686018427387904 - m32 (b.2 - b.1) < runw near b.1) : frm near b = (0, 0) ∧ frmB near b = false := by
  have : frm near b = (0, 0) := by unfold frm; rw [if_pos h]
  unfold frmB
  rw [this]
  exact ⟨rfl, rfl⟩
theorem frm_yes {near : Int} {b : Bk} (h : ¬ (runw near b.1 < 0 ∨ m32 (b.2 - b.1) < 1 ∨ 65536 < m32 (b.2 - b.1) ∨ 4611686018427387904 - m32 (b.2 - b.1) < runw near b.1)) : frm near b = (runw near b.1, runw near b.1 + m32 (b.2 - b.1)) ∧ frmB near b = true := by
  have : frm near b = (runw near b.1, runw near b.1 + m32 (b.2 - b.1)) := by unfold frm; rw [if_neg h]
  unfold frmB
  rw [this]
  exact ⟨rfl, by simp; omega⟩

set_option maxHeartbeats 1600000 in
theorem well_any (near : Int) (b : Bk) (w : World) (hn : -9223372036854775808 ≤ near ∧ near ≤ 9223372036854775807) (hb : BkOk b) :
    Calls Try.prog 32 #[.int .i64 near, bkV b] w (RetT (frm near b) (frmB near b) w) := by
  have M0 := mb_new w b
  have hu := unw_bd near b.1
  have hz := m32_bd (b.2 - b.1)
  have HR := Lib.hid (runw_unw near b.1)
  have HU := Lib.hid (fun W => unwrap_any near b.1 W hn hb.1)
  have HM := Lib.hid (show (b.2 - b.1) % 4294967296 = m32 (b.2 - b.1) from rfl)
  have HN := Lib.hid (@frm_no near b)
  have HY := Lib.hid (@frm_yes near b)
  have c0 := M0.b0.c0; have c1 := M0.b0.c1
  go_enter Try.func32, Try.ntmps32
  go_wp2_with fail
  refine (HU.out _).mono ?_
  rintro e w' ⟨rfl, rfl⟩
  rw [HM.out]
  generalize runw near b.1 = f at *
  generalize m32 (b.2 - b.1) = z at *
  obtain ⟨u, ok, huo⟩ : ∃ u ok, unw near b.1 = (u, ok) := ⟨_, _, rfl⟩
  rw [huo] at hu HR ⊢
  simp only at hu HR ⊢
  obtain ⟨hu0, hu1⟩ := hu
  obtain ⟨hz0, hz1⟩ := hz
  have M1 := M0.later (bal (.cells #[.int .i64 u, .int .i64 (u + z)] 26))
  have s1 := sp_new ((w.alloc (.cells #[.int .u32 b.1, .int .u32 b.2] 42)).alloc (.cells #[.int .i64 0, .int .i64 0] 26)) (u, u + z)
  simp only [World.size_alloc] at s1
  have d0 := M1.b1.c0; have d1 := M1.b1.c1; have d2 := M1.b1.f0; have d3 := M1.b1.f1
  have no : ∀ (h : frm near b = (0, 0) ∧ frmB near b = false) (w' : World) (hb : Below w.heap.size w w'), RetT (frm near b) (frmB near b) w (.returned (.tuple #[spV (0, 0), .bool false])) w' := by
    rintro ⟨h1, h2⟩ w' hb
    rw [h1, h2]
    exact ⟨rfl, hb⟩
  have NO := Lib.hid no
  clear no M0
  cases ok with
  | false =>
    have hf : f = -1 := by simpa using HR.out
    have H := Lib.hid (NO.out (HN.out (.inl (by omega))))
    clear HN HY HR NO hf
    go_wp2_with fail
    have e0 := M1.b1.c0; have e1 := M1.b1.c1
    exact bodyPost_ret (v := .tuple #[spV (0, 0), .bool false]) (by simp [results, Try.results32, go_sem, e0, e1]) rfl (H.out _ M1.below)
  | true =>
    have hf : f = u := by simpa using HR.out
    subst hf
    have HB := Lib.hid (may_any f (f + z))
    clear HR
    by_cases h2 : z < 1
    · have H := Lib.hid (NO.out (HN.out (.inr (.inl h2))))
      clear HN HY NO
      go_wp2_with fail
      have e0 := M1.b1.c0; have e1 := M1.b1.c1
      exact bodyPost_ret (v := .tuple #[spV (0, 0), .bool false]) (by simp [results, Try.results32, go_sem, e0, e1]) rfl (H.out _ M1.below)
    · by_cases h3 : 65536 < z
      · have H := Lib.hid (NO.out (HN.out (.inr (.inr (.inl h3)))))
        clear HN HY NO
        go_wp2_with fail
        have e0 := M1.b1.c0; have e1 := M1.b1.c1
        exact bodyPost_ret (v := .tuple #[spV (0, 0), .bool false]) (by simp [results, Try.results32, go_sem, e0, e1]) rfl (H.out _ M1.below)
      · have x0 := s1.c0; have x1 := s1.c1
        by_cases h4 : 4611686018427387904 - z < f
        · have H := Lib.hid (NO.out (HN.out (.inr (.inr (.inr h4)))))
          have hm : mayB f (f + z) = false := by
            rw [Bool.eq_false_iff]; intro h; have := mayB_iff.1 h; omega
          have HM2 := Lib.hid hm
          clear HN HY NO hm
          go_wp2_with fail
          refine (HB.out _).mono ?_
          rintro e w4 ⟨rfl, h4⟩
          rw [HM2.out]
          have M3 := M1.later h4
          have M2 := M3.put1 0 0
          clear d0 d1 d2 d3 x0 x1
          have d0 := M3.b1.c0; have d1 := M3.b1.c1; have d2 := M3.b1.f0; have d3 := M3.b1.f1
          go_wp2_with fail
          have e0 := M2.b1.c0; have e1 := M2.b1.c1
          exact bodyPost_ret (v := .tuple #[spV (0, 0), .bool false]) (by simp [results, Try.results32, go_sem, e0, e1]) rfl (H.out _ M2.below)
        · have H := Lib.hid (HY.out (by omega))
          have hm : mayB f (f + z) = true := mayB_iff.2 (by omega)
          have HM2 := Lib.hid hm
          clear HN HY NO hm
          go_wp2_with fail
          refine (HB.out _).mono ?_
          rintro e w4 ⟨rfl, h4⟩
          rw [HM2.out]
          have M3 := M1.later h4
          have M2 := M3.put1 f (f + z)
          have s4 := s1.later h4
          clear d0 d1 d2 d3 x0 x1
          have d0 := M3.b1.c0; have d1 := M3.b1.c1; have d2 := M3.b1.f0; have d3 := M3.b1.f1
          have x0 := s4.c0; have x1 := s4.c1
          go_wp2_with fail
          have e0 := M2.b1.c0; have e1 := M2.b1.c1
          refine bodyPost_ret (v := .tuple #[spV (f, f + z), .bool true]) (by simp [results, Try.results32, go_sem, e0, e1]) rfl ?_
          rw [H.out.1, H.out.2]
          exact ⟨rfl, M2.below⟩

set_option maxHeartbeats 1600000 in
theorem rwell_any (near : Int) (b : Bk) (w : World) (hn : -9223372036854775808 ≤ near ∧ near ≤ 9223372036854775807) (hb : BkOk b) :
    Calls Try.prog 23 #[.int .i64 near, bkV b] w (RetS (frm near b) w) := by
  have M0 := mb_new w b
  have hz := m32_bd (b.2 - b.1)
  have hr := runw_bd near b.1
  obtain ⟨⟨hb1, hb2⟩, hb3, hb4⟩ := hb
  have HU := Lib.hid (fun W => runwrap_any near b.1 W hn ⟨hb1, hb2⟩)
  have HM := Lib.hid (fun W => mod_any (b.2 - b.1) W (by omega))
  have HN := Lib.hid (@frm_no near b)
  have HY := Lib.hid (@frm_yes near b)
  have c0 := M0.b0.c0; have c1 := M0.b0.c1
  have d0 := M0.b1.c0; have d1 := M0.b1.c1; have d2 := M0.b1.f0; have d3 := M0.b1.f1
  go_enter Try.func23, Try.ntmps23
  go_wp2_with fail
  refine (HM.out _).mono ?_
  rintro e w' ⟨rfl, rfl⟩
  go_wp2_with fail
  refine (HU.out _).mono ?_
  rintro e w' ⟨rfl, rfl⟩
  generalize runw near b.1 = f at *
  generalize m32 (b.2 - b.1) = z at *
  obtain ⟨hz0, hz1⟩ := hz
  have hf : -1 ≤ f ∧ f ≤ 4611686018427387904 := by omega
  obtain ⟨hf0, hf1⟩ := hf
  clear hr
  by_cases hno : f < 0 ∨ z < 1 ∨ 65536 < z ∨ 4611686018427387904 - z < f
  · have H := Lib.hid (HN.out hno)
    clear HN HY
    rcases (show f < 0 ∨ (0 ≤ f ∧ z < 1) ∨ (0 ≤ f ∧ 1 ≤ z ∧ 65536 < z) ∨ (0 ≤ f ∧ 1 ≤ z ∧ z ≤ 65536 ∧ 4611686018427387904 - z < f) by omega) with h1 | ⟨h1, h2⟩ | ⟨h1, h2, h3⟩ | ⟨h1, h2, h3, h4⟩
    all_goals
      clear hno
      go_wp2_with fail
      have e0 := M0.b1.c0; have e1 := M0.b1.c1
      refine bodyPost_ret (v := spV (0, 0)) (by simp [results, Try.results23, go_sem, e0, e1]) rfl ?_
      rw [H.out.1]
      exact ⟨rfl, M0.below⟩
  · have H := Lib.hid (HY.out hno)
    clear HN HY
    have M2 := mb_newS w b f (f + z)
    go_wp2_with fail
    have e0 := M2.b1.c0; have e1 := M2.b1.c1
    refine bodyPost_ret (v := spV (f, f + z)) (by simp [results, Try.results23, go_sem, e0, e1]) rfl ?_
    rw [H.out.1]
    exact ⟨rfl, M2.below⟩
end Go.Proofs.Ytegfmjkngbnnfaa.dp
