/-
  Package span: what each call does.
-/
import Derived.Test.YtdoedcfmhdnbgaaProg
import Derived.Test.YtdoedcfmhdnbgaaMem
import Derived.Test.YtdoedcfmhdnbgaaSpnX
import Derived.Laws.StructEq
import Derived.Deep.DrawnRows
namespace Go.Proofs.Ytdoedcfmhdnbgaa.sp
open Go.RowKit aid mem
attribute [local go_sem ↓] Go.wp_at_zero Go.wp_at_succ
set_option linter.unusedVariables false

theorem bal {w : World} (o : Obj) : Below w.heap.size w (w.alloc o) := (Below.refl _ _).alloc (Nat.le_refl _) _
/-- the value of a span -/
abbrev spV (s : Int × Int) : Value := .agg #[.int .i64 s.1, .int .i64 s.2]
/-- block B holds a span -/
def SpAt (w : World) (B : Nat) (s : Int × Int) : Prop := w.heap[B]? = some (.cells #[.int .i64 s.1, .int .i64 s.2] 24 (0, 0))
theorem SpAt.c0 {w : World} {B : Nat} {s : Int × Int} (h : SpAt w B s) : w.cell? ⟨B, 0, none⟩ = some (.int .i64 s.1) := (cell_of_row w B 0 _ _ (0, 0) h).trans rfl
theorem SpAt.c1 {w : World} {B : Nat} {s : Int × Int} (h : SpAt w B s) : w.cell? ⟨B, 1, none⟩ = some (.int .i64 s.2) := (cell_of_row w B 1 _ _ (0, 0) h).trans rfl
theorem SpAt.f0 {w : World} {B : Nat} {s : Int × Int} (h : SpAt w B s) : w.frozen? ⟨B, 0, none⟩ = false := by simp [World.frozen?, show w.heap[B]? = _ from h]
theorem SpAt.f1 {w : World} {B : Nat} {s : Int × Int} (h : SpAt w B s) : w.frozen? ⟨B, 1, none⟩ = false := by simp [World.frozen?, show w.heap[B]? = _ from h]
theorem SpAt.lt {w : World} {B : Nat} {s : Int × Int} (h : SpAt w B s) : B < w.heap.size := lt_of_block h
theorem SpAt.keep {w w' : World} {B : Nat} {s : Int × Int} (h : SpAt w B s) {S : List Nat} (hk : Kept S w w') (hB : B ∉ S) : SpAt w' B s := hk.heap hB h
theorem SpAt.later {w w' : World} {B : Nat} {s : Int × Int} (h : SpAt w B s) (hk : Below w.heap.size w w') : SpAt w' B s := h.keep (Kept.of_below hk (Nat.le_refl _) []) (by simp)
theorem sp_new (w : World) (s : Int × Int) : SpAt (w.alloc (.cells #[.int .i64 s.1, .int .i64 s.2] 24)) w.heap.size s := heap_alloc_new w _
theorem SpAt.put {w : World} {B : Nat} {s : Int × Int} (h : SpAt w B s) (a b : Int) : SpAt ((w.setCell ⟨B, 0, none⟩ (.int .i64 a)).setCell ⟨B, 1, none⟩ (.int .i64 b)) B (a, b) :=
  (heap_setCell_same _ B 1 _ _ _ (heap_setCell_same _ B 0 _ _ _ h)).trans rfl
theorem kput (w : World) (B : Nat) (u v : Value) : Kept [B] w ((w.setCell ⟨B, 0, none⟩ u).setCell ⟨B, 1, none⟩ v) :=
  ((Kept.refl [B] w).setCell (.inl (by simp)) u).setCell (.inl (by simp)) v
def RetB (b : Bool) (w : World) (e : Ending) (w' : World) : Prop := e = .returned (.bool b) ∧ Below w.heap.size w w'
def RetI (n : Int) (w : World) (e : Ending) (w' : World) : Prop := e = .returned (.int .i64 n) ∧ Below w.heap.size w w'
def RetS (s : Int × Int) (w : World) (e : Ending) (w' : World) : Prop := e = .returned (.agg #[.int .i64 s.1, .int .i64 s.2]) ∧ Below w.heap.size w w'

set_option maxHeartbeats 400000 in
theorem may_any (f t : Int) (w : World) : Calls Try.prog 77 #[spV (f, t)] w (RetB (mayB f t) w) := by
  go_enter Try.func77, Try.ntmps77
  go_wp2
  all_goals
    go_ret
    exact ⟨ret_b (by unfold mayB; simp; omega), bal _⟩

theorem between_any (a b : Int) (w : World) : Calls Try.prog 57 #[.int .i64 a, .int .i64 b] w (RetS (betw a b) w) := by
  by_cases h : b ≤ a
  · have H : Hid (betw a b = (0, 0)) := Lib.hid (by unfold betw; rw [if_pos h])
    go_enter Try.func57, Try.ntmps57
    go_wp2
    refine bodyPost_ret (v := spV (0, 0)) (by simp [results, Try.results57, go_sem]) rfl ⟨by rw [H.out], ?_⟩
    exact bal _
  · have H : Hid (betw a b = (a, b)) := Lib.hid (by unfold betw; rw [if_neg h])
    go_enter Try.func57, Try.ntmps57
    go_wp2
    refine bodyPost_ret (v := spV (a, b)) (by simp [results, Try.results57, go_sem]) rfl ⟨by rw [H.out], ?_⟩
    exact bal _

theorem fit_any (s : Int × Int) (w : World) : Calls Try.prog 56 #[spV s] w (RetS (fitP s.1 s.2) w) := by
  have b1 := bal (w := w) (.cells #[.int .i64 s.1, .int .i64 s.2] 24)
  have b2 := b1.alloc b1.size (.cells #[.int .i64 0, .int .i64 0] 24)
  have s1 := (sp_new w s).later (bal (.cells #[.int .i64 0, .int .i64 0] 24))
  have s2 := sp_new (w.alloc (.cells #[.int .i64 s.1, .int .i64 s.2] 24)) (0, 0)
  simp only [World.size_alloc] at s2
  cases hm : mayB s.1 s.2 with
  | true =>
    have H : Hid (fitP s.1 s.2 = s) := Lib.hid (by unfold fitP; rw [if_pos hm])
    have HM := Lib.hid hm
    clear hm
    go_enter Try.func56, Try.ntmps56
    go_wp2_with fail
    refine (may_any s.1 s.2 _).mono ?_
    rintro e w1 ⟨rfl, h1⟩
    rw [HM.out]
    have t1 := s1.later h1
    have t2 := s2.later h1
    have t3 := t2.put s.1 s.2
    have c0 := t1.c0; have c1 := t1.c1; have d0 := t2.c0; have d1 := t2.c1; have f0 := t2.f0; have f1 := t2.f1
    go_wp2
    have e0 := t3.c0; have e1 := t3.c1
    refine bodyPost_ret (v := spV s) (by simp [results, Try.results56, go_sem, e0, e1]) rfl ⟨by rw [H.out], ?_⟩
    have hB := b2.trans (h1.mono b2.size)
    exact hB.trans ((kput w1 _ _ _).below (by simp) hB.size)
  | false =>
    have H : Hid (fitP s.1 s.2 = (0, 0)) := Lib.hid (by unfold fitP; rw [if_neg (by rw [hm]; simp)])
    have HM := Lib.hid hm
    clear hm
    go_enter Try.func56, Try.ntmps56
    go_wp2_with fail
    refine (may_any s.1 s.2 _).mono ?_
    rintro e w1 ⟨rfl, h1⟩
    rw [HM.out]
    have t1 := s1.later h1
    have t2 := s2.later h1
    have t3 := t2.put 0 0
    have c0 := t1.c0; have c1 := t1.c1; have d0 := t2.c0; have d1 := t2.c1; have f0 := t2.f0; have f1 := t2.f1
    go_wp2
    have e0 := t3.c0; have e1 := t3.c1
    refine bodyPost_ret (v := spV (0, 0)) (by simp [results, Try.results56, go_sem, e0, e1]) rfl ⟨by rw [H.out], ?_⟩
    have hB := b2.trans (h1.mono b2.size)
    exact hB.trans ((kput w1 _ _ _).below (by simp) hB.size)

theorem len_any (s : Int × Int) (w : World) : Calls Try.prog 35 #[spV s] w (RetI (lenI s) w) := by
  have b1 := bal (w := w) (.cells #[.int .i64 s.1, .int .i64 s.2] 24)
  have s1 := sp_new w s
  have hF := fit_any s (w.alloc (.cells #[.int .i64 s.1, .int .i64 s.2] 24))
  have ho := fit_ok s.1 s.2
  have H : Hid (lenI s = (fitP s.1 s.2).2 - (fitP s.1 s.2).1) := Lib.hid rfl
  generalize fitP s.1 s.2 = p at *
  obtain ⟨o1, o2, o3⟩ := ho
  go_enter Try.func35, Try.ntmps35
  go_wp2_with fail
  refine hF.mono ?_
  rintro e w1 ⟨rfl, h1⟩
  have t1 := s1.later h1
  have t2 := t1.put p.1 p.2
  have c0 := t1.c0; have c1 := t1.c1; have f0 := t1.f0; have f1 := t1.f1
  have d0 := t2.c0; have d1 := t2.c1
  clear hF
  go_wp2
  go_ret
  have hB := b1.trans (h1.mono b1.size)
  exact ⟨by rw [H.out]; rfl, hB.trans ((kput w1 _ _ _).below (by simp) hB.size)⟩

theorem two_new (w : World) (s t : Int × Int) : SpAt ((w.alloc (.cells #[.int .i64 s.1, .int .i64 s.2] 24)).alloc (.cells #[.int .i64 t.1, .int .i64 t.2] 24)) w.heap.size s ∧ SpAt ((w.alloc (.cells #[.int .i64 s.1, .int .i64 s.2] 24)).alloc (.cells #[.int .i64 t.1, .int .i64 t.2] 24)) (w.heap.size + 1) t ∧ Below w.heap.size w ((w.alloc (.cells #[.int .i64 s.1, .int .i64 s.2] 24)).alloc (.cells #[.int .i64 t.1, .int .i64 t.2] 24)) :=
  ⟨(sp_new w s).later (bal _), by simpa using sp_new (w.alloc (.cells #[.int .i64 s.1, .int .i64 s.2] 24)) t, (bal _).alloc (bal _).size _⟩


theorem three_new (w : World) (s t : Int × Int) : SpAt (((w.alloc (.cells #[.int .i64 s.1, .int .i64 s.2] 24)).alloc (.cells #[.int .i64 t.1, .int .i64 t.2] 24)).alloc (.cells #[.int .i64 0, .int .i64 0] 24)) w.heap.size s ∧ SpAt (((w.alloc (.cells #[.int .i64 s.1, .int .i64 s.2] 24)).alloc (.cells #[.int .i64 t.1, .int .i64 t.2] 24)).alloc (.cells #[.int .i64 0, .int .i64 0] 24)) (w.heap.size + 1) t ∧ SpAt (((w.alloc (.cells #[.int .i64 s.1, .int .i64 s.2] 24)).alloc (.cells #[.int .i64 t.1, .int .i64 t.2] 24)).alloc (.cells #[.int .i64 0, .int .i64 0] 24)) (w.heap.size + 1 + 1) (0, 0) ∧ Below w.heap.size w (((w.alloc (.cells #[.int .i64 s.1, .int .i64 s.2] 24)).alloc (.cells #[.int .i64 t.1, .int .i64 t.2] 24)).alloc (.cells #[.int .i64 0, .int .i64 0] 24)) := by
  obtain ⟨h1, h2, h3⟩ := two_new w s t
  exact ⟨h1.later (bal _), h2.later (bal _), by simpa using sp_new ((w.alloc (.cells #[.int .i64 s.1, .int .i64 s.2] 24)).alloc (.cells #[.int .i64 t.1, .int .i64 t.2] 24)) (0, 0), h3.alloc h3.size _⟩

/-- three boxes side by side -/
structure M3 (w0 : World) (B : Nat) (s t u : Int × Int) (w : World) : Prop where
  b0 : SpAt w B s
  b1 : SpAt w (B + 1) t
  b2 : SpAt w (B + 1 + 1) u
  below : Below w0.heap.size w0 w
  le : w0.heap.size ≤ B
theorem M3.later {w0 : World} {B : Nat} {s t u : Int × Int} {w w' : World} (h : M3 w0 B s t u w) (hb : Below w.heap.size w w') : M3 w0 B s t u w' :=
  ⟨h.b0.later hb, h.b1.later hb, h.b2.later hb, h.below.trans (hb.mono h.below.size), h.le⟩
theorem M3.put0 {w0 : World} {B : Nat} {s t u : Int × Int} {w : World} (h : M3 w0 B s t u w) (a b : Int) : M3 w0 B (a, b) t u ((w.setCell ⟨B, 0, none⟩ (.int .i64 a)).setCell ⟨B, 1, none⟩ (.int .i64 b)) :=
  ⟨h.b0.put a b, h.b1.keep (kput w B _ _) (by simp), h.b2.keep (kput w B _ _) (by simp; omega), h.below.trans ((kput w B _ _).below (by simpa using h.le) h.below.size), h.le⟩
theorem M3.put1 {w0 : World} {B : Nat} {s t u : Int × Int} {w : World} (h : M3 w0 B s t u w) (a b : Int) : M3 w0 B s (a, b) u ((w.setCell ⟨B + 1, 0, none⟩ (.int .i64 a)).setCell ⟨B + 1, 1, none⟩ (.int .i64 b)) :=
  ⟨h.b0.keep (kput w (B + 1) _ _) (by simp), h.b1.put a b, h.b2.keep (kput w (B + 1) _ _) (by simp), h.below.trans ((kput w (B + 1) _ _).below (by have := h.le; simp; omega) h.below.size), h.le⟩
theorem M3.put2 {w0 : World} {B : Nat} {s t u : Int × Int} {w : World} (h : M3 w0 B s t u w) (a b : Int) : M3 w0 B s t (a, b) ((w.setCell ⟨B + 1 + 1, 0, none⟩ (.int .i64 a)).setCell ⟨B + 1 + 1, 1, none⟩ (.int .i64 b)) :=
  ⟨h.b0.keep (kput w (B + 1 + 1) _ _) (by simp; omega), h.b1.keep (kput w (B + 1 + 1) _ _) (by simp), h.b2.put a b, h.below.trans ((kput w (B + 1 + 1) _ _).below (by have := h.le; simp; omega) h.below.size), h.le⟩

end Go.Proofs.Ytdoedcfmhdnbgaa.sp
