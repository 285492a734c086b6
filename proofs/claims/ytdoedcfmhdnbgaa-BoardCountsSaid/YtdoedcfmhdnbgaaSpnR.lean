/-
  Spans, as the reference has them; wider.
-/
import Derived.Test.YtdoedcfmhdnbgaaSpnP
namespace Go.Proofs.Ytdoedcfmhdnbgaa.sp
open Go.RowKit aid mem
attribute [local go_sem ↓] Go.wp_at_zero Go.wp_at_succ
set_option linter.unusedVariables false

set_option maxHeartbeats 400000 in
theorem rmay_any (s : Int × Int) (w : World) : Calls Try.prog 70 #[spV s] w (RetB (mayB s.1 s.2) w) := by
  go_enter Try.func70, Try.ntmps70
  go_wp2
  all_goals
    go_ret
    exact ⟨ret_b (by unfold mayB; simp; omega), bal _⟩

set_option maxRecDepth 100000 in
set_option maxHeartbeats 800000 in
theorem rof_any (s : Int × Int) (w : World) : Calls Try.prog 50 #[spV s] w (RetS (ofP s) w) := by
  have M0 := m2_zero w s
  have HF := rmay_any s
  cases hm : mayB s.1 s.2 with
  | true =>
    rw [hm] at HF
    have HFF := Lib.hid HF
    clear HF
    by_cases he : s.1 = s.2
    · have H : Hid (ofP s = (0, 0)) := Lib.hid (by unfold ofP; rw [if_neg (fun x => x.2 he)])
      have he1 : (s.1 == s.2) = true := by simpa using he
      clear hm he
      go_enter Try.func50, Try.ntmps50
      go_wp2_with fail
      generalize (w.alloc (.cells #[.int .i64 s.1, .int .i64 s.2] 24)).alloc (.cells #[.int .i64 0, .int .i64 0] 24) = W at *
      generalize w.heap.size = B at *
      refine (HFF.out _).mono ?_
      rintro e w1 ⟨rfl, h1⟩
      have M1 := M0.later h1
      have M3 := M1.put1 0 0
      have c0 := M1.b0.c0; have c1 := M1.b0.c1; have d0 := M1.b1.c0; have d1 := M1.b1.c1; have f0 := M1.b1.f0; have f1 := M1.b1.f1
      clear h1 M0 M1
      go_wp2_with fail
      have e0 := M3.b1.c0; have e1 := M3.b1.c1
      exact bodyPost_ret (v := spV (0, 0)) (by simp [results, Try.results50, go_sem, e0, e1]) rfl ⟨by rw [H.out], M3.below⟩
    · have H : Hid (ofP s = s) := Lib.hid (by unfold ofP; rw [if_pos ⟨hm, he⟩])
      have he1 : (s.1 == s.2) = false := by simpa using he
      clear hm he
      go_enter Try.func50, Try.ntmps50
      go_wp2_with fail
      generalize (w.alloc (.cells #[.int .i64 s.1, .int .i64 s.2] 24)).alloc (.cells #[.int .i64 0, .int .i64 0] 24) = W at *
      generalize w.heap.size = B at *
      refine (HFF.out _).mono ?_
      rintro e w1 ⟨rfl, h1⟩
      have M1 := M0.later h1
      have M3 := M1.put1 s.1 s.2
      have c0 := M1.b0.c0; have c1 := M1.b0.c1; have d0 := M1.b1.c0; have d1 := M1.b1.c1; have f0 := M1.b1.f0; have f1 := M1.b1.f1
      clear h1 M0 M1
      go_wp2_with fail
      have e0 := M3.b1.c0; have e1 := M3.b1.c1
      exact bodyPost_ret (v := spV s) (by simp [results, Try.results50, go_sem, e0, e1]) rfl ⟨by rw [H.out], M3.below⟩
  | false =>
    rw [hm] at HF
    have HFF := Lib.hid HF
    clear HF
    have H : Hid (ofP s = (0, 0)) := Lib.hid (by unfold ofP; rw [if_neg (fun x => by rw [hm] at x; cases x.1)])
    clear hm
    go_enter Try.func50, Try.ntmps50
    go_wp2_with fail
    generalize (w.alloc (.cells #[.int .i64 s.1, .int .i64 s.2] 24)).alloc (.cells #[.int .i64 0, .int .i64 0] 24) = W at *
    generalize w.heap.size = B at *
    refine (HFF.out _).mono ?_
    rintro e w1 ⟨rfl, h1⟩
    have M1 := M0.later h1
    have M3 := M1.put1 0 0
    have d0 := M1.b1.c0; have d1 := M1.b1.c1; have f0 := M1.b1.f0; have f1 := M1.b1.f1
    clear h1 M0 M1
    go_wp2_with fail
    have e0 := M3.b1.c0; have e1 := M3.b1.c1
    exact bodyPost_ret (v := spV (0, 0)) (by simp [results, Try.results50, go_sem, e0, e1]) rfl ⟨by rw [H.out], M3.below⟩

set_option maxRecDepth 100000 in
theorem run_f0 (p : Int × Int) : ∀ w : World, (Instr.field 24 (.agg #[.int .i64 p.1, .int .i64 p.2]) 0).run Try.prog w = .ok (.int .i64 p.1) w := fun _ => by kernel_rfl
set_option maxRecDepth 100000 in
theorem run_f1 (p : Int × Int) : ∀ w : World, (Instr.field 24 (.agg #[.int .i64 p.1, .int .i64 p.2]) 1).run Try.prog w = .ok (.int .i64 p.2) w := fun _ => by kernel_rfl

/-- one box -/
structure M1 (w0 : World) (B : Nat) (s : Int × Int) (w : World) : Prop where
  b0 : SpAt w B s
  below : Below w0.heap.size w0 w
  le : w0.heap.size ≤ B
theorem M1.later {w0 : World} {B : Nat} {s : Int × Int} {w w' : World} (h : M1 w0 B s w) (hb : Below w.heap.size w w') : M1 w0 B s w' :=
  ⟨h.b0.later hb, h.below.trans (hb.mono h.below.size), h.le⟩
theorem M1.all {w0 : World} {B : Nat} {s : Int × Int} {w : World} (h : M1 w0 B s w) : w.cell? ⟨B, 0, none⟩ = some (.int .i64 s.1) ∧ w.cell? ⟨B, 1, none⟩ = some (.int .i64 s.2) := ⟨h.b0.c0, h.b0.c1⟩
theorem m1_new (w : World) (s : Int × Int) : M1 w w.heap.size s (w.alloc (.cells #[.int .i64 s.1, .int .i64 s.2] 24)) := ⟨sp_new w s, bal _, Nat.le_refl _⟩

set_option maxRecDepth 100000 in
set_option maxHeartbeats 800000 in
theorem rlen_any (s : Int × Int) (w : World) : Calls Try.prog 25 #[spV s] w (RetI (lenI s) w) := by
  have M0 := m1_new w s
  have HF := rof_any s
  have H : Hid ((ofP s).2 - (ofP s).1 = lenI s) := Lib.hid (len_of s)
  have ho := of_ok s
  generalize ofP s = p at *
  have HFF := Lib.hid HF
  obtain ⟨o1, o2, o3⟩ := ho
  clear HF
  have hw : IntKind.i64.wrap (p.2 - p.1) = p.2 - p.1 := IntWalk.i64_in _ (by omega)
  have fl0 := run_f0 p
  have fl1 := run_f1 p
  go_enter Try.func25, Try.ntmps25
  go_wp2_with fail
  generalize w.alloc (.cells #[.int .i64 s.1, .int .i64 s.2] 24) = W at *
  generalize w.heap.size = B at *
  have M1 := M0.later (Below.refl _ _).drew
  go_region_held3 (fun w' => w'.cell? ⟨B, 0, none⟩ = some (.int .i64 s.1) ∧ w'.cell? ⟨B, 1, none⟩ = some (.int .i64 s.2)) (first | exact M3.all | exact M2.all | exact M1.all | exact M0.all | go_keep) (first
    | (go_at_call 50; refine (HFF.out _).mono ?_; rintro e w2 ⟨rfl, h2⟩; have M2 := M1.later h2; clear M1 h2)
    | (go_at_call 50; refine (HFF.out _).mono ?_; rintro e w3 ⟨rfl, h3⟩; have M3 := M2.later h3; clear M2 h3))
  all_goals
    go_wp2
    go_ret
    exact ⟨ret_i H.out, M3.below⟩

theorem SpAt.set0 {w : World} {B : Nat} {s : Int × Int} (h : SpAt w B s) (a : Int) : SpAt (w.setCell ⟨B, 0, none⟩ (.int .i64 a)) B (a, s.2) := (heap_setCell_same _ B 0 _ _ _ h).trans rfl
theorem SpAt.set1 {w : World} {B : Nat} {s : Int × Int} (h : SpAt w B s) (a : Int) : SpAt (w.setCell ⟨B, 1, none⟩ (.int .i64 a)) B (s.1, a) := (heap_setCell_same _ B 1 _ _ _ h).trans rfl
theorem M2.s00 {w0 : World} {B : Nat} {s t : Int × Int} {w : World} (h : M2 w0 B s t w) (a : Int) : M2 w0 B (a, s.2) t (w.setCell ⟨B, 0, none⟩ (.int .i64 a)) :=
  ⟨h.b0.set0 a, h.b1.keep ((Kept.refl [B] w).setCell (.inl (by simp)) _) (by simp), h.below.trans (((Kept.refl [B] w).setCell (.inl (by simp)) _).below (by simpa using h.le) h.below.size), h.le⟩

/-- two boxes: the result's, and one that was made later -/
structure MQ (w0 : World) (R A : Nat) (r a : Int × Int) (w : World) : Prop where
  r : SpAt w R r
  a : SpAt w A a
  ne : R ≠ A
  le : w0.heap.size ≤ R ∧ w0.heap.size ≤ A
  below : Below w0.heap.size w0 w
theorem MQ.later {w0 : World} {R A : Nat} {r a : Int × Int} {w w' : World} (h : MQ w0 R A r a w) (hb : Below w.heap.size w w') : MQ w0 R A r a w' :=
  ⟨h.r.later hb, h.a.later hb, h.ne, h.le, h.below.trans (hb.mono h.below.size)⟩
theorem MQ.a0 {w0 : World} {R A : Nat} {r a : Int × Int} {w : World} (h : MQ w0 R A r a w) (x : Int) : MQ w0 R A r (x, a.2) (w.setCell ⟨A, 0, none⟩ (.int .i64 x)) := by
  have hk := (Kept.refl [A] w).setCell (p := ⟨A, 0, none⟩) (.inl (by simp)) (.int .i64 x)
  exact ⟨h.r.keep hk (by simpa using h.ne), h.a.set0 x, h.ne, h.le, h.below.trans (hk.below (by simpa using h.le.2) h.below.size)⟩
theorem MQ.a1 {w0 : World} {R A : Nat} {r a : Int × Int} {w : World} (h : MQ w0 R A r a w) (x : Int) : MQ w0 R A r (a.1, x) (w.setCell ⟨A, 1, none⟩ (.int .i64 x)) := by
  have hk := (Kept.refl [A] w).setCell (p := ⟨A, 1, none⟩) (.inl (by simp)) (.int .i64 x)
  exact ⟨h.r.keep hk (by simpa using h.ne), h.a.set1 x, h.ne, h.le, h.below.trans (hk.below (by simpa using h.le.2) h.below.size)⟩
theorem MQ.putr {w0 : World} {R A : Nat} {r a : Int × Int} {w : World} (h : MQ w0 R A r a w) (x y : Int) : MQ w0 R A (x, y) a ((w.setCell ⟨R, 0, none⟩ (.int .i64 x)).setCell ⟨R, 1, none⟩ (.int .i64 y)) :=
  ⟨h.r.put x y, h.a.keep (kput w R _ _) (by simpa using h.ne.symm), h.ne, h.le, h.below.trans ((kput w R _ _).below (by simpa using h.le.1) h.below.size)⟩
theorem MQ.puta {w0 : World} {R A : Nat} {r a : Int × Int} {w : World} (h : MQ w0 R A r a w) (x y : Int) : MQ w0 R A r (x, y) ((w.setCell ⟨A, 0, none⟩ (.int .i64 x)).setCell ⟨A, 1, none⟩ (.int .i64 y)) :=
  ⟨h.r.keep (kput w A _ _) (by simpa using h.ne), h.a.put x y, h.ne, h.le, h.below.trans ((kput w A _ _).below (by simpa using h.le.2) h.below.size)⟩

set_option maxRecDepth 100000 in
set_option maxHeartbeats 1600000 in
theorem rmeet_any (s t : Int × Int) (w : World) : Calls Try.prog 36 #[spV s, spV t] w (RetS (meetP s t) w) := by
  obtain ⟨s1, s2, s3, b1⟩ := three_new w s t
  have M0 : M3 w w.heap.size s t (0, 0) (((w.alloc (.cells #[.int .i64 s.1, .int .i64 s.2] 24)).alloc (.cells #[.int .i64 t.1, .int .i64 t.2] 24)).alloc (.cells #[.int .i64 0, .int .i64 0] 24)) := ⟨s1, s2, s3, b1, Nat.le_refl _⟩
  clear s1 s2 s3 b1
  have H : Hid (ofP (if (ofP s).1 < (ofP t).1 then (ofP t).1 else (ofP s).1, if (ofP t).2 < (ofP s).2 then (ofP t).2 else (ofP s).2) = meetP s t) := Lib.hid (rmeet_eq s t)
  have HF := rof_any s
  have HG := rof_any t
  generalize ofP s = p at *
  generalize ofP t = q at *
  have HFF := Lib.hid HF
  have HGG := Lib.hid HG
  clear HF HG
  generalize meetP s t = r at *
  by_cases hx : p.1 < q.1
  · by_cases hy : q.2 < p.2
    · have H' : Hid (ofP (q.1, q.2) = r) := Lib.hid (by rw [← H.out, if_pos hx, if_pos hy])
      clear H
      go_enter Try.func36, Try.ntmps36
      go_wp2_with fail
      generalize ((w.alloc (.cells #[.int .i64 s.1, .int .i64 s.2] 24)).alloc (.cells #[.int .i64 t.1, .int .i64 t.2] 24)).alloc (.cells #[.int .i64 0, .int .i64 0] 24) = W at *
      generalize hB : w.heap.size = B at M0 ⊢
      refine (HFF.out _).mono ?_
      rintro e w1 ⟨rfl, h1⟩
      have M1 := M0.later h1
      have c0 := M1.b1.c0; have c1 := M1.b1.c1
      have n1 := M1.b0.lt; have n2 := M1.b1.lt; have n3 := M1.b2.lt; have n4 := M1.below.size
      clear h1 M0
      go_wp2_with fail
      refine (HGG.out _).mono ?_
      rintro e w2 ⟨rfl, h2⟩
      have A2 := (sp_new w1 p).later h2
      have R2 := (M1.b2.later (bal (.cells #[.int .i64 p.1, .int .i64 p.2] 24))).later h2
      have n5 := A2.lt
      have MA : MQ w (B + 1 + 1) w1.heap.size (0, 0) p w2 := ⟨R2, A2, by omega, ⟨by omega, by omega⟩, ((M1.below.alloc n4 (.cells #[.int .i64 p.1, .int .i64 p.2] 24)).trans (h2.mono (by simp; omega)))⟩
      clear M1 c0 c1 h2 A2 R2
      have f0 := MA.a.f0; have f1 := MA.a.f1
      have c0 := MA.a.c0; have c1 := MA.a.c1
      go_wp2_with fail
      generalize w1.heap.size = A at *
      have MB := ((MA.a0 q.1).a1 q.2).later (bal (.cells #[.int .i64 q.1, .int .i64 q.2] 24))
      clear MA c0 c1 f0 f1
      generalize ((w2.setCell ⟨A, 0, none⟩ (.int .i64 q.1)).setCell ⟨A, 1, none⟩ (.int .i64 q.2)).alloc (.cells #[.int .i64 q.1, .int .i64 q.2] 24) = W3 at *
      refine (rof_any (q.1, q.2) _).mono ?_
      rintro e w4 ⟨rfl, h4⟩
      rw [H'.out]
      have MC := MB.later h4
      clear MB h4
      have MD := MC.putr r.1 r.2
      have e0 := MC.r.c0; have e1 := MC.r.c1; have g0 := MC.r.f0; have g1 := MC.r.f1
      clear MC
      go_wp2_with fail
      generalize (w4.setCell ⟨B + 1 + 1, 0, none⟩ (.int .i64 r.1)).setCell ⟨B + 1 + 1, 1, none⟩ (.int .i64 r.2) = w5 at *
      have k0 := MD.r.c0; have k1 := MD.r.c1
      have hb := MD.below
      clear MD
      exact bodyPost_ret (v := spV r) (by simp [results, Try.results36, go_sem, k0, k1]) rfl ⟨rfl, hb⟩
    · have H' : Hid (ofP (q.1, p.2) = r) := Lib.hid (by rw [← H.out, if_pos hx, if_neg hy])
      clear H
      go_enter Try.func36, Try.ntmps36
      go_wp2_with fail
      generalize ((w.alloc (.cells #[.int .i64 s.1, .int .i64 s.2] 24)).alloc (.cells #[.int .i64 t.1, .int .i64 t.2] 24)).alloc (.cells #[.int .i64 0, .int .i64 0] 24) = W at *
      generalize hB : w.heap.size = B at M0 ⊢
      refine (HFF.out _).mono ?_
      rintro e w1 ⟨rfl, h1⟩
      have M1 := M0.later h1
      have c0 := M1.b1.c0; have c1 := M1.b1.c1
      have n1 := M1.b0.lt; have n2 := M1.b1.lt; have n3 := M1.b2.lt; have n4 := M1.below.size
      clear h1 M0
      go_wp2_with fail
      refine (HGG.out _).mono ?_
      rintro e w2 ⟨rfl, h2⟩
      have A2 := (sp_new w1 p).later h2
      have R2 := (M1.b2.later (bal (.cells #[.int .i64 p.1, .int .i64 p.2] 24))).later h2
      have n5 := A2.lt
      have MA : MQ w (B + 1 + 1) w1.heap.size (0, 0) p w2 := ⟨R2, A2, by omega, ⟨by omega, by omega⟩, ((M1.below.alloc n4 (.cells #[.int .i64 p.1, .int .i64 p.2] 24)).trans (h2.mono (by simp; omega)))⟩
      clear M1 c0 c1 h2 A2 R2
      have f0 := MA.a.f0; have f1 := MA.a.f1
      have c0 := MA.a.c0; have c1 := MA.a.c1
      go_wp2_with fail
      generalize w1.heap.size = A at *
      have MB := (MA.a0 q.1).later (bal (.cells #[.int .i64 q.1, .int .i64 q.2] 24))
      clear MA c0 c1 f0 f1
      generalize (w2.setCell ⟨A, 0, none⟩ (.int .i64 q.1)).alloc (.cells #[.int .i64 q.1, .int .i64 q.2] 24) = W3 at *
      refine (rof_any (q.1, p.2) _).mono ?_
      rintro e w4 ⟨rfl, h4⟩
      rw [H'.out]
      have MC := MB.later h4
      clear MB h4
      have MD := MC.putr r.1 r.2
      have e0 := MC.r.c0; have e1 := MC.r.c1; have g0 := MC.r.f0; have g1 := MC.r.f1
      clear MC
      go_wp2_with fail
      generalize (w4.setCell ⟨B + 1 + 1, 0, none⟩ (.int .i64 r.1)).setCell ⟨B + 1 + 1, 1, none⟩ (.int .i64 r.2) = w5 at *
      have k0 := MD.r.c0; have k1 := MD.r.c1
      have hb := MD.below
      clear MD
      exact bodyPost_ret (v := spV r) (by simp [results, Try.results36, go_sem, k0, k1]) rfl ⟨rfl, hb⟩
  · by_cases hy : q.2 < p.2
    · have H' : Hid (ofP (p.1, q.2) = r) := Lib.hid (by rw [← H.out, if_neg hx, if_pos hy])
      clear H
      go_enter Try.func36, Try.ntmps36
      go_wp2_with fail
      generalize ((w.alloc (.cells #[.int .i64 s.1, .int .i64 s.2] 24)).alloc (.cells #[.int .i64 t.1, .int .i64 t.2] 24)).alloc (.cells #[.int .i64 0, .int .i64 0] 24) = W at *
      generalize hB : w.heap.size = B at M0 ⊢
      refine (HFF.out _).mono ?_
      rintro e w1 ⟨rfl, h1⟩
      have M1 := M0.later h1
      have c0 := M1.b1.c0; have c1 := M1.b1.c1
      have n1 := M1.b0.lt; have n2 := M1.b1.lt; have n3 := M1.b2.lt; have n4 := M1.below.size
      clear h1 M0
      go_wp2_with fail
      refine (HGG.out _).mono ?_
      rintro e w2 ⟨rfl, h2⟩
      have A2 := (sp_new w1 p).later h2
      have R2 := (M1.b2.later (bal (.cells #[.int .i64 p.1, .int .i64 p.2] 24))).later h2
      have n5 := A2.lt
      have MA : MQ w (B + 1 + 1) w1.heap.size (0, 0) p w2 := ⟨R2, A2, by omega, ⟨by omega, by omega⟩, ((M1.below.alloc n4 (.cells #[.int .i64 p.1, .int .i64 p.2] 24)).trans (h2.mono (by simp; omega)))⟩
      clear M1 c0 c1 h2 A2 R2
      have f0 := MA.a.f0; have f1 := MA.a.f1
      have c0 := MA.a.c0; have c1 := MA.a.c1
      go_wp2_with fail
      generalize w1.heap.size = A at *
      have MB := (MA.a1 q.2).later (bal (.cells #[.int .i64 q.1, .int .i64 q.2] 24))
      clear MA c0 c1 f0 f1
      generalize ((w2).setCell ⟨A, 1, none⟩ (.int .i64 q.2)).alloc (.cells #[.int .i64 q.1, .int .i64 q.2] 24) = W3 at *
      refine (rof_any (p.1, q.2) _).mono ?_
      rintro e w4 ⟨rfl, h4⟩
      rw [H'.out]
      have MC := MB.later h4
      clear MB h4
      have MD := MC.putr r.1 r.2
      have e0 := MC.r.c0; have e1 := MC.r.c1; have g0 := MC.r.f0; have g1 := MC.r.f1
      clear MC
      go_wp2_with fail
      generalize (w4.setCell ⟨B + 1 + 1, 0, none⟩ (.int .i64 r.1)).setCell ⟨B + 1 + 1, 1, none⟩ (.int .i64 r.2) = w5 at *
      have k0 := MD.r.c0; have k1 := MD.r.c1
      have hb := MD.below
      clear MD
      exact bodyPost_ret (v := spV r) (by simp [results, Try.results36, go_sem, k0, k1]) rfl ⟨rfl, hb⟩
    · have H' : Hid (ofP (p.1, p.2) = r) := Lib.hid (by rw [← H.out, if_neg hx, if_neg hy])
      clear H
      go_enter Try.func36, Try.ntmps36
      go_wp2_with fail
      generalize ((w.alloc (.cells #[.int .i64 s.1, .int .i64 s.2] 24)).alloc (.cells #[.int .i64 t.1, .int .i64 t.2] 24)).alloc (.cells #[.int .i64 0, .int .i64 0] 24) = W at *
      generalize hB : w.heap.size = B at M0 ⊢
      refine (HFF.out _).mono ?_
      rintro e w1 ⟨rfl, h1⟩
      have M1 := M0.later h1
      have c0 := M1.b1.c0; have c1 := M1.b1.c1
      have n1 := M1.b0.lt; have n2 := M1.b1.lt; have n3 := M1.b2.lt; have n4 := M1.below.size
      clear h1 M0
      go_wp2_with fail
      refine (HGG.out _).mono ?_
      rintro e w2 ⟨rfl, h2⟩
      have A2 := (sp_new w1 p).later h2
      have R2 := (M1.b2.later (bal (.cells #[.int .i64 p.1, .int .i64 p.2] 24))).later h2
      have n5 := A2.lt
      have MA : MQ w (B + 1 + 1) w1.heap.size (0, 0) p w2 := ⟨R2, A2, by omega, ⟨by omega, by omega⟩, ((M1.below.alloc n4 (.cells #[.int .i64 p.1, .int .i64 p.2] 24)).trans (h2.mono (by simp; omega)))⟩
      clear M1 c0 c1 h2 A2 R2
      have f0 := MA.a.f0; have f1 := MA.a.f1
      have c0 := MA.a.c0; have c1 := MA.a.c1
      go_wp2_with fail
      generalize w1.heap.size = A at *
      have MB := (MA).later (bal (.cells #[.int .i64 q.1, .int .i64 q.2] 24))
      clear MA c0 c1 f0 f1
      generalize (w2).alloc (.cells #[.int .i64 q.1, .int .i64 q.2] 24) = W3 at *
      refine (rof_any (p.1, p.2) _).mono ?_
      rintro e w4 ⟨rfl, h4⟩
      rw [H'.out]
      have MC := MB.later h4
      clear MB h4
      have MD := MC.putr r.1 r.2
      have e0 := MC.r.c0; have e1 := MC.r.c1; have g0 := MC.r.f0; have g1 := MC.r.f1
      clear MC
      go_wp2_with fail
      generalize (w4.setCell ⟨B + 1 + 1, 0, none⟩ (.int .i64 r.1)).setCell ⟨B + 1 + 1, 1, none⟩ (.int .i64 r.2) = w5 at *
      have k0 := MD.r.c0; have k1 := MD.r.c1
      have hb := MD.below
      clear MD
      exact bodyPost_ret (v := spV r) (by simp [results, Try.results36, go_sem, k0, k1]) rfl ⟨rfl, hb⟩
end Go.Proofs.Ytdoedcfmhdnbgaa.sp
