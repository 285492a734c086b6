/-
  Package buffer: Read, Clone (written by gen_bufr.py).
-/
import Derived.Test.YtjkjbhapkmamkaaBufP
namespace Go.Proofs.Ytjkjbhapkmamkaa.bf
open Go.RowKit aid mem sp
attribute [local go_sem ↓] Go.wp_at_zero Go.wp_at_succ
set_option linter.unusedVariables false
set_option linter.unusedSimpArgs false

/-- a row of bytes of one's own comes back -/
def RetR (v : Value → Value) (l : List Int) (w : World) (e : Ending) (w' : World) : Prop := ∃ a' n' cap', e = .returned (v (.slice a' n' cap')) ∧ SlR w' 5 1 a' n' cap' (ints .u8 l) ∧ Below w.heap.size w w' ∧ ∀ b ∈ blk a' cap', w.heap.size ≤ b
/-- a buffer, and a span in a box -/
structure RS (w : World) (N B : Nat) (g : Rg) (x : Bf) (s : Int × Int) (W : World) : Prop where
  bf : BfAt W B g x
  sp : SpAt W N s
  below : Below w.heap.size w W
theorem RS.later {w W W' : World} {N B : Nat} {g : Rg} {x : Bf} {s : Int × Int} (h : RS w N B g x s W) (hb : Below W.heap.size W W') : RS w N B g x s W' :=
  ⟨h.bf.later hb, h.sp.later hb, h.below.trans (hb.mono h.below.size)⟩
theorem rs_new {w : World} {B : Nat} {g : Rg} {x : Bf} (h : BfAt w B g x) (s : Int × Int) : RS w w.heap.size B g x s (w.alloc (.cells #[.int .i64 s.1, .int .i64 s.2] 25)) :=
  ⟨h.later (bal _), sp_new w s, bal _⟩
set_option maxHeartbeats 4000000 in
theorem read_bad {w : World} {B : Nat} {g : Rg} {x : Bf} (h : BfAt w B g x) (s : Int × Int) (hs : rdB x s = false) :
    Calls Try.prog 13 #[.pointer (some ⟨B, 0, none⟩), spV s] w fun e w' => e = .returned (.tuple #[.slice none 0 0, .int .i64 3]) ∧ Below w.heap.size w w' := by
  have T := rs_new h s
  obtain ⟨s1, s2⟩ := s
  dsimp only at *
  clear h
  cases hm : mayB s1 s2 with
  | false =>
    have HM := Lib.hid hm
    clear hs hm
    go_enter Try.func13, Try.ntmps13
    go_upto_region 3 with fail
    have T0 := T.later (Below.refl _ _).drew
    clear T
    generalize w.alloc (.cells #[.int .i64 s1, .int .i64 s2] 25) = W at *
    generalize w.heap.size = N at *
    refine wp_region_noPanic ?_
    refine wp_region_held_drew (S := (fun W' => W'.cell? ⟨N, 0, none⟩ = some (.int .i64 s1) ∧ W'.cell? ⟨N, 1, none⟩ = some (.int .i64 s2))) (by kernel_rfl) ?_ (fun hHeld => ?_)
    · ((try dsimp only); exact ⟨T0.sp.c0, T0.sp.c1⟩)
    refine wpAnyH_take (i := 0) (oi := _) (v := ?_) rfl (by kernel_rfl) (by kernel_rfl) (by kernel_rfl) (fun _ _ _ h => h) (Or.inl ⟨by rfl, ?_⟩) (by assumption) ?_
    rotate_left
    · (first | (intro v hSw; (try dsimp only at hSw); go_simp; done) | (intro v hSw; (try dsimp only at hSw); go_simp; with_reducible rfl))
    (try simp only [List.getElem_toArray, List.getElem_cons_succ, List.getElem_cons_zero, Act.put, List.setIfInBounds_toArray, List.set_cons_zero, List.set_cons_succ])
    refine wpAnyH_ready (rs := [1]) (by kernel_rfl) (by simp) ?_
    refine AllReadyH.cons (o := _) rfl (fun K hK => ?_) AllReadyH.nil
    go_simp
    (with_reducible refine (may_any s1 s2 _).mono ?_)
    rintro e w1 ⟨rfl, hb⟩
    have T1 := T0.later hb
    clear hb
    rw [HM.out]
    refine hK.out _ _ ?_ (fun hHeld => ?_)
    · ((try dsimp only); exact ⟨T1.sp.c0, T1.sp.c1⟩)
    clear hK K
    (try simp only [List.getElem_toArray, List.getElem_cons_succ, List.getElem_cons_zero, Act.put, List.setIfInBounds_toArray, List.set_cons_zero, List.set_cons_succ])
    refine wpAnyH_take (i := 2) (oi := _) (v := ?_) rfl (by kernel_rfl) (by kernel_rfl) (by kernel_rfl) (fun _ _ _ h => h) (Or.inl ⟨by rfl, ?_⟩) (by assumption) ?_
    rotate_left
    · (first | (intro v hSw; (try dsimp only at hSw); go_simp; done) | (intro v hSw; (try dsimp only at hSw); go_simp; with_reducible rfl))
    (try simp only [List.getElem_toArray, List.getElem_cons_succ, List.getElem_cons_zero, Act.put, List.setIfInBounds_toArray, List.set_cons_zero, List.set_cons_succ])
    refine wpAnyH_take (i := 3) (oi := _) (v := ?_) rfl (by kernel_rfl) (by kernel_rfl) (by kernel_rfl) (fun _ _ _ h => h) (Or.inl ⟨by rfl, ?_⟩) (by assumption) ?_
    rotate_left
    · (first | (intro v hSw; (try dsimp only at hSw); go_simp; done) | (intro v hSw; (try dsimp only at hSw); go_simp; with_reducible rfl))
    (try simp only [List.getElem_toArray, List.getElem_cons_succ, List.getElem_cons_zero, Act.put, List.setIfInBounds_toArray, List.set_cons_zero, List.set_cons_succ])
    refine wpAnyH_take (i := 4) (oi := _) (v := undef) rfl (by kernel_rfl) (by kernel_rfl) (by kernel_rfl) (fun _ _ _ h => h) (Or.inr ⟨by rfl, rfl⟩) (by assumption) ?_
    (try simp only [List.getElem_toArray, List.getElem_cons_succ, List.getElem_cons_zero, Act.put, List.setIfInBounds_toArray, List.set_cons_zero, List.set_cons_succ])
    refine wpAnyH_take (i := 5) (oi := _) (v := undef) rfl (by kernel_rfl) (by kernel_rfl) (by kernel_rfl) (fun _ _ _ h => h) (Or.inr ⟨by rfl, rfl⟩) (by assumption) ?_
    (try simp only [List.getElem_toArray, List.getElem_cons_succ, List.getElem_cons_zero, Act.put, List.setIfInBounds_toArray, List.set_cons_zero, List.set_cons_succ])
    refine wpAnyH_take (i := 6) (oi := _) (v := undef) rfl (by kernel_rfl) (by kernel_rfl) (by kernel_rfl) (fun _ _ _ h => h) (Or.inr ⟨by rfl, rfl⟩) (by assumption) ?_
    (try simp only [List.getElem_toArray, List.getElem_cons_succ, List.getElem_cons_zero, Act.put, List.setIfInBounds_toArray, List.set_cons_zero, List.set_cons_succ])
    refine wpAnyH_take (i := 7) (oi := _) (v := undef) rfl (by kernel_rfl) (by kernel_rfl) (by kernel_rfl) (fun _ _ _ h => h) (Or.inr ⟨by rfl, rfl⟩) (by assumption) ?_
    (try simp only [List.getElem_toArray, List.getElem_cons_succ, List.getElem_cons_zero, Act.put, List.setIfInBounds_toArray, List.set_cons_zero, List.set_cons_succ])
    refine wpAnyH_take (i := 8) (oi := _) (v := undef) rfl (by kernel_rfl) (by kernel_rfl) (by kernel_rfl) (fun _ _ _ h => h) (Or.inr ⟨by rfl, rfl⟩) (by assumption) ?_
    (try simp only [List.getElem_toArray, List.getElem_cons_succ, List.getElem_cons_zero, Act.put, List.setIfInBounds_toArray, List.set_cons_zero, List.set_cons_succ])
    refine wpAnyH_take (i := 9) (oi := _) (v := ?_) rfl (by kernel_rfl) (by kernel_rfl) (by kernel_rfl) (fun _ _ _ h => h) (Or.inl ⟨by rfl, ?_⟩) (by assumption) ?_
    rotate_left
    · (first | (intro v hSw; (try dsimp only at hSw); go_simp; done) | (intro v hSw; (try dsimp only at hSw); go_simp; with_reducible rfl))
    (try simp only [List.getElem_toArray, List.getElem_cons_succ, List.getElem_cons_zero, Act.put, List.setIfInBounds_toArray, List.set_cons_zero, List.set_cons_succ])
    refine wpAnyH_take (i := 10) (oi := _) (v := ?_) rfl (by kernel_rfl) (by kernel_rfl) (by kernel_rfl) (fun _ _ _ h => h) (Or.inl ⟨by rfl, ?_⟩) (by assumption) ?_
    rotate_left
    · (first | (intro v hSw; (try dsimp only at hSw); go_simp; done) | (intro v hSw; (try dsimp only at hSw); go_simp; with_reducible rfl))
    (try simp only [List.getElem_toArray, List.getElem_cons_succ, List.getElem_cons_zero, Act.put, List.setIfInBounds_toArray, List.set_cons_zero, List.set_cons_succ])
    refine wpAnyH_take (i := 11) (oi := _) (v := undef) rfl (by kernel_rfl) (by kernel_rfl) (by kernel_rfl) (fun _ _ _ h => h) (Or.inr ⟨by rfl, rfl⟩) (by assumption) ?_
    (try simp only [List.getElem_toArray, List.getElem_cons_succ, List.getElem_cons_zero, Act.put, List.setIfInBounds_toArray, List.set_cons_zero, List.set_cons_succ])
    refine wpAnyH_take (i := 12) (oi := _) (v := undef) rfl (by kernel_rfl) (by kernel_rfl) (by kernel_rfl) (fun _ _ _ h => h) (Or.inr ⟨by rfl, rfl⟩) (by assumption) ?_
    (try simp only [List.getElem_toArray, List.getElem_cons_succ, List.getElem_cons_zero, Act.put, List.setIfInBounds_toArray, List.set_cons_zero, List.set_cons_succ])
    refine wpAnyH_take (i := 13) (oi := _) (v := undef) rfl (by kernel_rfl) (by kernel_rfl) (by kernel_rfl) (fun _ _ _ h => h) (Or.inr ⟨by rfl, rfl⟩) (by assumption) ?_
    (try simp only [List.getElem_toArray, List.getElem_cons_succ, List.getElem_cons_zero, Act.put, List.setIfInBounds_toArray, List.set_cons_zero, List.set_cons_succ])
    refine wpAnyH_take (i := 14) (oi := _) (v := undef) rfl (by kernel_rfl) (by kernel_rfl) (by kernel_rfl) (fun _ _ _ h => h) (Or.inr ⟨by rfl, rfl⟩) (by assumption) ?_
    (try simp only [List.getElem_toArray, List.getElem_cons_succ, List.getElem_cons_zero, Act.put, List.setIfInBounds_toArray, List.set_cons_zero, List.set_cons_succ])
    refine wpAnyH_take (i := 15) (oi := _) (v := undef) rfl (by kernel_rfl) (by kernel_rfl) (by kernel_rfl) (fun _ _ _ h => h) (Or.inr ⟨by rfl, rfl⟩) (by assumption) ?_
    (try simp only [List.getElem_toArray, List.getElem_cons_succ, List.getElem_cons_zero, Act.put, List.setIfInBounds_toArray, List.set_cons_zero, List.set_cons_succ])
    refine wpAnyH_take (i := 16) (oi := _) (v := ?_) rfl (by kernel_rfl) (by kernel_rfl) (by kernel_rfl) (fun _ _ _ h => h) (Or.inl ⟨by rfl, ?_⟩) (by assumption) ?_
    rotate_left
    · (first | (intro v hSw; (try dsimp only at hSw); go_simp; done) | (intro v hSw; (try dsimp only at hSw); go_simp; with_reducible rfl))
    (try simp only [List.getElem_toArray, List.getElem_cons_succ, List.getElem_cons_zero, Act.put, List.setIfInBounds_toArray, List.set_cons_zero, List.set_cons_succ])
    refine wpAnyH_done (by kernel_rfl) ?_ _
    refine NoPanic.normal ?_
    go_wp2_with fail
    go_ret2
    exact ⟨rfl, T1.below⟩
  | true =>
    have HM := Lib.hid hm
    have hmi := mayB_iff.1 hm
    by_cases h1 : s1 < (x.una : Int)
    · clear hs hm hmi
      go_enter Try.func13, Try.ntmps13
      go_upto_region 3 with fail
      have T0 := T.later (Below.refl _ _).drew
      clear T
      generalize w.alloc (.cells #[.int .i64 s1, .int .i64 s2] 25) = W at *
      generalize w.heap.size = N at *
      refine wp_region_noPanic ?_
      refine wp_region_held_drew (S := (fun W' => W'.cell? ⟨N, 0, none⟩ = some (.int .i64 s1) ∧ W'.cell? ⟨N, 1, none⟩ = some (.int .i64 s2))) (by kernel_rfl) ?_ (fun hHeld => ?_)
      · ((try dsimp only); exact ⟨T0.sp.c0, T0.sp.c1⟩)
      refine wpAnyH_take (i := 0) (oi := _) (v := ?_) rfl (by kernel_rfl) (by kernel_rfl) (by kernel_rfl) (fun _ _ _ h => h) (Or.inl ⟨by rfl, ?_⟩) (by assumption) ?_
      rotate_left
      · (first | (intro v hSw; (try dsimp only at hSw); go_simp; done) | (intro v hSw; (try dsimp only at hSw); go_simp; with_reducible rfl))
      (try simp only [List.getElem_toArray, List.getElem_cons_succ, List.getElem_cons_zero, Act.put, List.setIfInBounds_toArray, List.set_cons_zero, List.set_cons_succ])
      refine wpAnyH_ready (rs := [1]) (by kernel_rfl) (by simp) ?_
      refine AllReadyH.cons (o := _) rfl (fun K hK => ?_) AllReadyH.nil
      go_simp
      (with_reducible refine (may_any s1 s2 _).mono ?_)
      rintro e w1 ⟨rfl, hb⟩
      have T1 := T0.later hb
      clear hb
      rw [HM.out]
      refine hK.out _ _ ?_ (fun hHeld => ?_)
      · ((try dsimp only); exact ⟨T1.sp.c0, T1.sp.c1⟩)
      clear hK K
      (try simp only [List.getElem_toArray, List.getElem_cons_succ, List.getElem_cons_zero, Act.put, List.setIfInBounds_toArray, List.set_cons_zero, List.set_cons_succ])
      refine wpAnyH_take (i := 2) (oi := _) (v := ?_) rfl (by kernel_rfl) (by kernel_rfl) (by kernel_rfl) (fun _ _ _ h => h) (Or.inl ⟨by rfl, ?_⟩) (by assumption) ?_
      rotate_left
      · (first | (intro v hSw; (try dsimp only at hSw); go_simp; done) | (intro v hSw; (try dsimp only at hSw); go_simp; with_reducible rfl))
      (try simp only [List.getElem_toArray, List.getElem_cons_succ, List.getElem_cons_zero, Act.put, List.setIfInBounds_toArray, List.set_cons_zero, List.set_cons_succ])
      refine wpAnyH_take (i := 3) (oi := _) (v := ?_) rfl (by kernel_rfl) (by kernel_rfl) (by kernel_rfl) (fun _ _ _ h => h) (Or.inl ⟨by rfl, ?_⟩) (by assumption) ?_
      rotate_left
      · (first | (intro v hSw; (try dsimp only at hSw); go_simp; done) | (intro v hSw; (try dsimp only at hSw); go_simp; with_reducible rfl))
      (try simp only [List.getElem_toArray, List.getElem_cons_succ, List.getElem_cons_zero, Act.put, List.setIfInBounds_toArray, List.set_cons_zero, List.set_cons_succ])
      refine wpAnyH_take (i := 4) (oi := _) (v := ?_) rfl (by kernel_rfl) (by kernel_rfl) (by kernel_rfl) (fun _ _ _ h => h) (Or.inl ⟨by rfl, ?_⟩) (by assumption) ?_
      rotate_left
      · (first | (intro v hSw; (try dsimp only at hSw); go_simp; done) | (intro v hSw; (try dsimp only at hSw); go_simp; with_reducible rfl))
      (try simp only [List.getElem_toArray, List.getElem_cons_succ, List.getElem_cons_zero, Act.put, List.setIfInBounds_toArray, List.set_cons_zero, List.set_cons_succ])
      refine wpAnyH_take (i := 5) (oi := _) (v := ?_) rfl (by kernel_rfl) (by kernel_rfl) (by kernel_rfl) (fun _ _ _ h => h) (Or.inl ⟨by rfl, ?_⟩) (by assumption) ?_
      rotate_left
      · (first | (intro v hSw; (try dsimp only at hSw); go_simp; done) | (intro v hSw; (try dsimp only at hSw); go_simp; with_reducible rfl))
      (try simp only [List.getElem_toArray, List.getElem_cons_succ, List.getElem_cons_zero, Act.put, List.setIfInBounds_toArray, List.set_cons_zero, List.set_cons_succ])
      refine wpAnyH_take (i := 6) (oi := _) (v := ?_) rfl (by kernel_rfl) (by kernel_rfl) (by kernel_rfl) (fun _ _ _ h => h) (Or.inl ⟨by rfl, ?_⟩) (by assumption) ?_
      rotate_left
      · (first | (intro v hSw; (try dsimp only at hSw); go_simp; done) | (intro v hSw; (try dsimp only at hSw); go_simp; with_reducible rfl))
      (try simp only [List.getElem_toArray, List.getElem_cons_succ, List.getElem_cons_zero, Act.put, List.setIfInBounds_toArray, List.set_cons_zero, List.set_cons_succ])
      refine wpAnyH_ready (rs := [7]) (by kernel_rfl) (by simp) ?_
      refine AllReadyH.cons (o := _) rfl (fun K hK => ?_) AllReadyH.nil
      go_simp
      (with_reducible refine ((una_q T1.bf).below).mono ?_)
      rintro e w2 ⟨rfl, hb⟩
      have T2 := T1.later hb
      clear hb
      refine hK.out _ _ ?_ (fun hHeld => ?_)
      · ((try dsimp only); exact ⟨T2.sp.c0, T2.sp.c1⟩)
      clear hK K
      (try simp only [List.getElem_toArray, List.getElem_cons_succ, List.getElem_cons_zero, Act.put, List.setIfInBounds_toArray, List.set_cons_zero, List.set_cons_succ])
      refine wpAnyH_take (i := 8) (oi := _) (v := ?_) rfl (by kernel_rfl) (by kernel_rfl) (by kernel_rfl) (fun _ _ _ h => h) (Or.inl ⟨by rfl, ?_⟩) (by assumption) ?_
      rotate_left
      · (first | (intro v hSw; (try dsimp only at hSw); go_simp; done) | (intro v hSw; (try dsimp only at hSw); go_simp; with_reducible rfl))
      (try simp only [List.getElem_toArray, List.getElem_cons_succ, List.getElem_cons_zero, Act.put, List.setIfInBounds_toArray, List.set_cons_zero, List.set_cons_succ])
      refine wpAnyH_take (i := 9) (oi := _) (v := ?_) rfl (by kernel_rfl) (by kernel_rfl) (by kernel_rfl) (fun _ _ _ h => h) (Or.inl ⟨by rfl, ?_⟩) (by assumption) ?_
      rotate_left
      · (first | (intro v hSw; (try dsimp only at hSw); go_simp; done) | (intro v hSw; (try dsimp only at hSw); go_simp; with_reducible rfl))
      (try simp only [List.getElem_toArray, List.getElem_cons_succ, List.getElem_cons_zero, Act.put, List.setIfInBounds_toArray, List.set_cons_zero, List.set_cons_succ])
      refine wpAnyH_take (i := 10) (oi := _) (v := ?_) rfl (by kernel_rfl) (by kernel_rfl) (by kernel_rfl) (fun _ _ _ h => h) (Or.inl ⟨by rfl, ?_⟩) (by assumption) ?_
      rotate_left
      · (first | (intro v hSw; (try dsimp only at hSw); go_simp; done) | (intro v hSw; (try dsimp only at hSw); go_simp; with_reducible rfl))
      (try simp only [List.getElem_toArray, List.getElem_cons_succ, List.getElem_cons_zero, Act.put, List.setIfInBounds_toArray, List.set_cons_zero, List.set_cons_succ])
      refine wpAnyH_take (i := 11) (oi := _) (v := undef) rfl (by kernel_rfl) (by kernel_rfl) (by kernel_rfl) (fun _ _ _ h => h) (Or.inr ⟨by rfl, rfl⟩) (by assumption) ?_
      (try simp only [List.getElem_toArray, List.getElem_cons_succ, List.getElem_cons_zero, Act.put, List.setIfInBounds_toArray, List.set_cons_zero, List.set_cons_succ])
      refine wpAnyH_take (i := 12) (oi := _) (v := undef) rfl (by kernel_rfl) (by kernel_rfl) (by kernel_rfl) (fun _ _ _ h => h) (Or.inr ⟨by rfl, rfl⟩) (by assumption) ?_
      (try simp only [List.getElem_toArray, List.getElem_cons_succ, List.getElem_cons_zero, Act.put, List.setIfInBounds_toArray, List.set_cons_zero, List.set_cons_succ])
      refine wpAnyH_take (i := 13) (oi := _) (v := undef) rfl (by kernel_rfl) (by kernel_rfl) (by kernel_rfl) (fun _ _ _ h => h) (Or.inr ⟨by rfl, rfl⟩) (by assumption) ?_
      (try simp only [List.getElem_toArray, List.getElem_cons_succ, List.getElem_cons_zero, Act.put, List.setIfInBounds_toArray, List.set_cons_zero, List.set_cons_succ])
      refine wpAnyH_take (i := 14) (oi := _) (v := undef) rfl (by kernel_rfl) (by kernel_rfl) (by kernel_rfl) (fun _ _ _ h => h) (Or.inr ⟨by rfl, rfl⟩) (by assumption) ?_
      (try simp only [List.getElem_toArray, List.getElem_cons_succ, List.getElem_cons_zero, Act.put, List.setIfInBounds_toArray, List.set_cons_zero, List.set_cons_succ])
      refine wpAnyH_take (i := 15) (oi := _) (v := undef) rfl (by kernel_rfl) (by kernel_rfl) (by kernel_rfl) (fun _ _ _ h => h) (Or.inr ⟨by rfl, rfl⟩) (by assumption) ?_
      (try simp only [List.getElem_toArray, List.getElem_cons_succ, List.getElem_cons_zero, Act.put, List.setIfInBounds_toArray, List.set_cons_zero, List.set_cons_succ])
      refine wpAnyH_take (i := 16) (oi := _) (v := ?_) rfl (by kernel_rfl) (by kernel_rfl) (by kernel_rfl) (fun _ _ _ h => h) (Or.inl ⟨by rfl, ?_⟩) (by assumption) ?_
      rotate_left
      · (first | (intro v hSw; (try dsimp only at hSw); go_simp; done) | (intro v hSw; (try dsimp only at hSw); go_simp; with_reducible rfl))
      (try simp only [List.getElem_toArray, List.getElem_cons_succ, List.getElem_cons_zero, Act.put, List.setIfInBounds_toArray, List.set_cons_zero, List.set_cons_succ])
      refine wpAnyH_done (by kernel_rfl) ?_ _
      refine NoPanic.normal ?_
      go_wp2_with fail
      go_ret2
      exact ⟨rfl, T2.below⟩
    · have h2 : (x.una : Int) + (x.l.length : Int) < s2 := by
        by_cases h : (x.una : Int) + (x.l.length : Int) < s2
        · exact h
        · exfalso
          have := rdB_iff (x := x) (s := (s1, s2)) |>.2 ⟨hmi.1, hmi.2.1, hmi.2.2, by simpa using h1, by simpa using h⟩
          rw [hs] at this
          cases this
      clear hs hm hmi
      go_enter Try.func13, Try.ntmps13
      go_upto_region 3 with fail
      have T0 := T.later (Below.refl _ _).drew
      clear T
      generalize w.alloc (.cells #[.int .i64 s1, .int .i64 s2] 25) = W at *
      generalize w.heap.size = N at *
      refine wp_region_noPanic ?_
      refine wp_region_held_drew (S := (fun W' => W'.cell? ⟨N, 0, none⟩ = some (.int .i64 s1) ∧ W'.cell? ⟨N, 1, none⟩ = some (.int .i64 s2))) (by kernel_rfl) ?_ (fun hHeld => ?_)
      · ((try dsimp only); exact ⟨T0.sp.c0, T0.sp.c1⟩)
      refine wpAnyH_take (i := 0) (oi := _) (v := ?_) rfl (by kernel_rfl) (by kernel_rfl) (by kernel_rfl) (fun _ _ _ h => h) (Or.inl ⟨by rfl, ?_⟩) (by assumption) ?_
      rotate_left
      · (first | (intro v hSw; (try dsimp only at hSw); go_simp; done) | (intro v hSw; (try dsimp only at hSw); go_simp; with_reducible rfl))
      (try simp only [List.getElem_toArray, List.getElem_cons_succ, List.getElem_cons_zero, Act.put, List.setIfInBounds_toArray, List.set_cons_zero, List.set_cons_succ])
      refine wpAnyH_ready (rs := [1]) (by kernel_rfl) (by simp) ?_
      refine AllReadyH.cons (o := _) rfl (fun K hK => ?_) AllReadyH.nil
      go_simp
      (with_reducible refine (may_any s1 s2 _).mono ?_)
      rintro e w1 ⟨rfl, hb⟩
      have T1 := T0.later hb
      clear hb
      rw [HM.out]
      refine hK.out _ _ ?_ (fun hHeld => ?_)
      · ((try dsimp only); exact ⟨T1.sp.c0, T1.sp.c1⟩)
      clear hK K
      (try simp only [List.getElem_toArray, List.getElem_cons_succ, List.getElem_cons_zero, Act.put, List.setIfInBounds_toArray, List.set_cons_zero, List.set_cons_succ])
      refine wpAnyH_take (i := 2) (oi := _) (v := ?_) rfl (by kernel_rfl) (by kernel_rfl) (by kernel_rfl) (fun _ _ _ h => h) (Or.inl ⟨by rfl, ?_⟩) (by assumption) ?_
      rotate_left
      · (first | (intro v hSw; (try dsimp only at hSw); go_simp; done) | (intro v hSw; (try dsimp only at hSw); go_simp; with_reducible rfl))
      (try simp only [List.getElem_toArray, List.getElem_cons_succ, List.getElem_cons_zero, Act.put, List.setIfInBounds_toArray, List.set_cons_zero, List.set_cons_succ])
      refine wpAnyH_take (i := 3) (oi := _) (v := ?_) rfl (by kernel_rfl) (by kernel_rfl) (by kernel_rfl) (fun _ _ _ h => h) (Or.inl ⟨by rfl, ?_⟩) (by assumption) ?_
      rotate_left
      · (first | (intro v hSw; (try dsimp only at hSw); go_simp; done) | (intro v hSw; (try dsimp only at hSw); go_simp; with_reducible rfl))
      (try simp only [List.getElem_toArray, List.getElem_cons_succ, List.getElem_cons_zero, Act.put, List.setIfInBounds_toArray, List.set_cons_zero, List.set_cons_succ])
      refine wpAnyH_take (i := 4) (oi := _) (v := ?_) rfl (by kernel_rfl) (by kernel_rfl) (by kernel_rfl) (fun _ _ _ h => h) (Or.inl ⟨by rfl, ?_⟩) (by assumption) ?_
      rotate_left
      · (first | (intro v hSw; (try dsimp only at hSw); go_simp; done) | (intro v hSw; (try dsimp only at hSw); go_simp; with_reducible rfl))
      (try simp only [List.getElem_toArray, List.getElem_cons_succ, List.getElem_cons_zero, Act.put, List.setIfInBounds_toArray, List.set_cons_zero, List.set_cons_succ])
      refine wpAnyH_take (i := 5) (oi := _) (v := ?_) rfl (by kernel_rfl) (by kernel_rfl) (by kernel_rfl) (fun _ _ _ h => h) (Or.inl ⟨by rfl, ?_⟩) (by assumption) ?_
      rotate_left
      · (first | (intro v hSw; (try dsimp only at hSw); go_simp; done) | (intro v hSw; (try dsimp only at hSw); go_simp; with_reducible rfl))
      (try simp only [List.getElem_toArray, List.getElem_cons_succ, List.getElem_cons_zero, Act.put, List.setIfInBounds_toArray, List.set_cons_zero, List.set_cons_succ])
      refine wpAnyH_take (i := 6) (oi := _) (v := ?_) rfl (by kernel_rfl) (by kernel_rfl) (by kernel_rfl) (fun _ _ _ h => h) (Or.inl ⟨by rfl, ?_⟩) (by assumption) ?_
      rotate_left
      · (first | (intro v hSw; (try dsimp only at hSw); go_simp; done) | (intro v hSw; (try dsimp only at hSw); go_simp; with_reducible rfl))
      (try simp only [List.getElem_toArray, List.getElem_cons_succ, List.getElem_cons_zero, Act.put, List.setIfInBounds_toArray, List.set_cons_zero, List.set_cons_succ])
      refine wpAnyH_ready (rs := [7]) (by kernel_rfl) (by simp) ?_
      refine AllReadyH.cons (o := _) rfl (fun K hK => ?_) AllReadyH.nil
      go_simp
      (with_reducible refine ((una_q T1.bf).below).mono ?_)
      rintro e w2 ⟨rfl, hb⟩
      have T2 := T1.later hb
      clear hb
      refine hK.out _ _ ?_ (fun hHeld => ?_)
      · ((try dsimp only); exact ⟨T2.sp.c0, T2.sp.c1⟩)
      clear hK K
      (try simp only [List.getElem_toArray, List.getElem_cons_succ, List.getElem_cons_zero, Act.put, List.setIfInBounds_toArray, List.set_cons_zero, List.set_cons_succ])
      refine wpAnyH_take (i := 8) (oi := _) (v := ?_) rfl (by kernel_rfl) (by kernel_rfl) (by kernel_rfl) (fun _ _ _ h => h) (Or.inl ⟨by rfl, ?_⟩) (by assumption) ?_
      rotate_left
      · (first | (intro v hSw; (try dsimp only at hSw); go_simp; done) | (intro v hSw; (try dsimp only at hSw); go_simp; with_reducible rfl))
      (try simp only [List.getElem_toArray, List.getElem_cons_succ, List.getElem_cons_zero, Act.put, List.setIfInBounds_toArray, List.set_cons_zero, List.set_cons_succ])
      refine wpAnyH_take (i := 9) (oi := _) (v := ?_) rfl (by kernel_rfl) (by kernel_rfl) (by kernel_rfl) (fun _ _ _ h => h) (Or.inl ⟨by rfl, ?_⟩) (by assumption) ?_
      rotate_left
      · (first | (intro v hSw; (try dsimp only at hSw); go_simp; done) | (intro v hSw; (try dsimp only at hSw); go_simp; with_reducible rfl))
      (try simp only [List.getElem_toArray, List.getElem_cons_succ, List.getElem_cons_zero, Act.put, List.setIfInBounds_toArray, List.set_cons_zero, List.set_cons_succ])
      refine wpAnyH_take (i := 10) (oi := _) (v := ?_) rfl (by kernel_rfl) (by kernel_rfl) (by kernel_rfl) (fun _ _ _ h => h) (Or.inl ⟨by rfl, ?_⟩) (by assumption) ?_
      rotate_left
      · (first | (intro v hSw; (try dsimp only at hSw); go_simp; done) | (intro v hSw; (try dsimp only at hSw); go_simp; with_reducible rfl))
      (try simp only [List.getElem_toArray, List.getElem_cons_succ, List.getElem_cons_zero, Act.put, List.setIfInBounds_toArray, List.set_cons_zero, List.set_cons_succ])
      refine wpAnyH_take (i := 11) (oi := _) (v := ?_) rfl (by kernel_rfl) (by kernel_rfl) (by kernel_rfl) (fun _ _ _ h => h) (Or.inl ⟨by rfl, ?_⟩) (by assumption) ?_
      rotate_left
      · (first | (intro v hSw; (try dsimp only at hSw); go_simp; done) | (intro v hSw; (try dsimp only at hSw); go_simp; with_reducible rfl))
      (try simp only [List.getElem_toArray, List.getElem_cons_succ, List.getElem_cons_zero, Act.put, List.setIfInBounds_toArray, List.set_cons_zero, List.set_cons_succ])
      refine wpAnyH_take (i := 12) (oi := _) (v := ?_) rfl (by kernel_rfl) (by kernel_rfl) (by kernel_rfl) (fun _ _ _ h => h) (Or.inl ⟨by rfl, ?_⟩) (by assumption) ?_
      rotate_left
      · (first | (intro v hSw; (try dsimp only at hSw); go_simp; done) | (intro v hSw; (try dsimp only at hSw); go_simp; with_reducible rfl))
      (try simp only [List.getElem_toArray, List.getElem_cons_succ, List.getElem_cons_zero, Act.put, List.setIfInBounds_toArray, List.set_cons_zero, List.set_cons_succ])
      refine wpAnyH_take (i := 13) (oi := _) (v := ?_) rfl (by kernel_rfl) (by kernel_rfl) (by kernel_rfl) (fun _ _ _ h => h) (Or.inl ⟨by rfl, ?_⟩) (by assumption) ?_
      rotate_left
      · (first | (intro v hSw; (try dsimp only at hSw); go_simp; done) | (intro v hSw; (try dsimp only at hSw); go_simp; with_reducible rfl))
      (try simp only [List.getElem_toArray, List.getElem_cons_succ, List.getElem_cons_zero, Act.put, List.setIfInBounds_toArray, List.set_cons_zero, List.set_cons_succ])
      refine wpAnyH_ready (rs := [14]) (by kernel_rfl) (by simp) ?_
      refine AllReadyH.cons (o := _) rfl (fun K hK => ?_) AllReadyH.nil
      go_simp
      (with_reducible refine ((end_q T2.bf).below).mono ?_)
      rintro e w3 ⟨rfl, hb⟩
      have T3 := T2.later hb
      clear hb
      refine hK.out _ _ ?_ (fun hHeld => ?_)
      · ((try dsimp only); exact ⟨T3.sp.c0, T3.sp.c1⟩)
      clear hK K
      (try simp only [List.getElem_toArray, List.getElem_cons_succ, List.getElem_cons_zero, Act.put, List.setIfInBounds_toArray, List.set_cons_zero, List.set_cons_succ])
      refine wpAnyH_take (i := 15) (oi := _) (v := ?_) rfl (by kernel_rfl) (by kernel_rfl) (by kernel_rfl) (fun _ _ _ h => h) (Or.inl ⟨by rfl, ?_⟩) (by assumption) ?_
      rotate_left
      · (first | (intro v hSw; (try dsimp only at hSw); go_simp; done) | (intro v hSw; (try dsimp only at hSw); go_simp; with_reducible rfl))
      (try simp only [List.getElem_toArray, List.getElem_cons_succ, List.getElem_cons_zero, Act.put, List.setIfInBounds_toArray, List.set_cons_zero, List.set_cons_succ])
      refine wpAnyH_take (i := 16) (oi := _) (v := ?_) rfl (by kernel_rfl) (by kernel_rfl) (by kernel_rfl) (fun _ _ _ h => h) (Or.inl ⟨by rfl, ?_⟩) (by assumption) ?_
      rotate_left
      · (first | (intro v hSw; (try dsimp only at hSw); go_simp; done) | (intro v hSw; (try dsimp only at hSw); go_simp; with_reducible rfl))
      (try simp only [List.getElem_toArray, List.getElem_cons_succ, List.getElem_cons_zero, Act.put, List.setIfInBounds_toArray, List.set_cons_zero, List.set_cons_succ])
      refine wpAnyH_done (by kernel_rfl) ?_ _
      refine NoPanic.normal ?_
      go_wp2_with fail
      go_ret2
      exact ⟨rfl, T3.below⟩
theorem own_full {w : World} {base : Nat} {e : TypeId} {g n : Nat} {xs : List Value} (h : w.ownsRow base e 1 (.slice (some ⟨g, 0, none⟩) n n) n xs) : w.heap[g]? = some (.cells xs.toArray e (0, 0)) := by
  obtain ⟨hl, hr⟩ := h
  rcases hr with ⟨hv, _⟩ | ⟨g', cap, cur, hv, hb, hh, hn, hm, hc, ht⟩
  · cases hv
  injection hv with hv1 _ hv3
  injection hv1 with hv1
  injection hv1 with hv1
  subst hv1 hv3
  have hcur : cur = xs.toArray := by
    apply Array.toList_inj.1
    rw [← ht, List.take_of_length_le (by rw [Array.length_toList, hc]; exact Nat.le_refl _)]
  rw [hcur] at hh
  exact hh
theorem new_row {w : World} {M n : Nat} {l : List Int} (h : w.heap[M]? = some (.cells (ints .u8 l).toArray 5 (0, 0))) (hl : l.length = n) (hn : n ≤ 65536) : SlR w 5 1 (some ⟨M, 0, none⟩) n n (ints .u8 l) :=
  ⟨by rw [ints_len]; omega, Nat.le_refl _, by unfold maxLen; omega, fun h0 => ⟨M, 0, _, rfl, h, by simp [ints_len, hl], fun j hj => by simp⟩⟩
theorem ring_row {w : World} {M n cap : Nat} {l : List Int} {T : List Value} (h : w.heap[M]? = some (.cells (ints .u8 l ++ T).toArray 5 (0, 0))) (hl : l.length = n) (hn : n ≤ 65536) : SlR w 5 1 (some ⟨M, 0, none⟩) n n (ints .u8 l) :=
  ⟨by rw [ints_len]; omega, Nat.le_refl _, by unfold maxLen; omega, fun h0 => ⟨M, 0, _, rfl, h, by simp [ints_len, hl], fun j hj => by
    rw [List.getElem?_toArray, Nat.zero_add, List.getElem?_append_left (by rw [ints_len]; omega)]⟩⟩
set_option maxHeartbeats 8000000 in
theorem read_none {w : World} {B : Nat} {g : Rg} {x : Bf} (h : BfAt w B g x) (s : Nat) (h1 : x.una ≤ s) (h2 : s ≤ x.una + x.l.length) :
    Calls Try.prog 13 #[.pointer (some ⟨B, 0, none⟩), spV ((s : Int), (s : Int))] w (RetR (fun v => .tuple #[v, .int .i64 0]) [] w) := by
  have T := rs_new h ((s : Int), (s : Int))
  have hxe := h.ok.e
  have HM : Hid (mayB (s : Int) (s : Int) = true) := Lib.hid (mayB_iff.2 (by omega))
  have HL : Hid (lenI ((s : Int), (s : Int)) = 0) := Lib.hid (by have := lenI_to s 0 (by omega); simpa using this)
  have HPC := Lib.hid (fun W => show Calls Try.prog 23 #[.pointer (some ⟨B, 0, none⟩), spV ((s : Int), (s : Int))] W fun e w' => e = .returned (.tuple #[.slice none 0 0, .slice none 0 0]) ∧ Below W.heap.size W w' from by
    have := pieces_none (w := W) (B := B) s (by omega)
    simpa [toV] using this)
  have k1 : ¬ (s : Int) < (x.una : Int) := by omega
  have k2 : ¬ (x.una : Int) + (x.l.length : Int) < (s : Int) := by omega
  obtain ⟨i0, hi, hz0, hz1, hz2⟩ := info_split info_u8
  dsimp only at *
  clear h
  go_enter Try.func13, Try.ntmps13
  go_upto_region 3 with fail
  have T0 := T.later (Below.refl _ _).drew
  clear T
  generalize w.alloc (.cells #[.int .i64 (s : Int), .int .i64 (s : Int)] 25) = W at *
  have HN := Lib.hid (show w.heap.size = w.heap.size from rfl)
  refine wp_region_noPanic ?_
  refine wp_region_held_drew (S := (fun W' => W'.cell? ⟨w.heap.size, 0, none⟩ = some (.int .i64 (s : Int)) ∧ W'.cell? ⟨w.heap.size, 1, none⟩ = some (.int .i64 (s : Int)))) (by kernel_rfl) ?_ (fun hHeld => ?_)
  · ((try dsimp only); exact ⟨T0.sp.c0, T0.sp.c1⟩)
  refine wpAnyH_take (i := 0) (oi := _) (v := ?_) rfl (by kernel_rfl) (by kernel_rfl) (by kernel_rfl) (fun _ _ _ h => h) (Or.inl ⟨by rfl, ?_⟩) (by assumption) ?_
  rotate_left
  · (first | (intro v hSw; (try dsimp only at hSw); go_simp; done) | (intro v hSw; (try dsimp only at hSw); go_simp; with_reducible rfl))
  (try simp only [List.getElem_toArray, List.getElem_cons_succ, List.getElem_cons_zero, Act.put, List.setIfInBounds_toArray, List.set_cons_zero, List.set_cons_succ])
  refine wpAnyH_ready (rs := [1]) (by kernel_rfl) (by simp) ?_
  refine AllReadyH.cons (o := _) rfl (fun K hK => ?_) AllReadyH.nil
  go_simp
  (with_reducible refine (may_any (s : Int) (s : Int) _).mono ?_)
  rintro e w1 ⟨rfl, hb⟩
  have T1 := T0.later hb
  clear hb
  rw [HM.out]
  refine hK.out _ _ ?_ (fun hHeld => ?_)
  · ((try dsimp only); exact ⟨T1.sp.c0, T1.sp.c1⟩)
  clear hK K
  (try simp only [List.getElem_toArray, List.getElem_cons_succ, List.getElem_cons_zero, Act.put, List.setIfInBounds_toArray, List.set_cons_zero, List.set_cons_succ])
  refine wpAnyH_take (i := 2) (oi := _) (v := ?_) rfl (by kernel_rfl) (by kernel_rfl) (by kernel_rfl) (fun _ _ _ h => h) (Or.inl ⟨by rfl, ?_⟩) (by assumption) ?_
  rotate_left
  · (first | (intro v hSw; (try dsimp only at hSw); go_simp; done) | (intro v hSw; (try dsimp only at hSw); go_simp; with_reducible rfl))
  (try simp only [List.getElem_toArray, List.getElem_cons_succ, List.getElem_cons_zero, Act.put, List.setIfInBounds_toArray, List.set_cons_zero, List.set_cons_succ])
  refine wpAnyH_take (i := 3) (oi := _) (v := ?_) rfl (by kernel_rfl) (by kernel_rfl) (by kernel_rfl) (fun _ _ _ h => h) (Or.inl ⟨by rfl, ?_⟩) (by assumption) ?_
  rotate_left
  · (first | (intro v hSw; (try dsimp only at hSw); go_simp; done) | (intro v hSw; (try dsimp only at hSw); go_simp; with_reducible rfl))
  (try simp only [List.getElem_toArray, List.getElem_cons_succ, List.getElem_cons_zero, Act.put, List.setIfInBounds_toArray, List.set_cons_zero, List.set_cons_succ])
  refine wpAnyH_take (i := 4) (oi := _) (v := ?_) rfl (by kernel_rfl) (by kernel_rfl) (by kernel_rfl) (fun _ _ _ h => h) (Or.inl ⟨by rfl, ?_⟩) (by assumption) ?_
  rotate_left
  · (first | (intro v hSw; (try dsimp only at hSw); go_simp; done) | (intro v hSw; (try dsimp only at hSw); go_simp; with_reducible rfl))
  (try simp only [List.getElem_toArray, List.getElem_cons_succ, List.getElem_cons_zero, Act.put, List.setIfInBounds_toArray, List.set_cons_zero, List.set_cons_succ])
  refine wpAnyH_take (i := 5) (oi := _) (v := ?_) rfl (by kernel_rfl) (by kernel_rfl) (by kernel_rfl) (fun _ _ _ h => h) (Or.inl ⟨by rfl, ?_⟩) (by assumption) ?_
  rotate_left
  · (first | (intro v hSw; (try dsimp only at hSw); go_simp; done) | (intro v hSw; (try dsimp only at hSw); go_simp; with_reducible rfl))
  (try simp only [List.getElem_toArray, List.getElem_cons_succ, List.getElem_cons_zero, Act.put, List.setIfInBounds_toArray, List.set_cons_zero, List.set_cons_succ])
  refine wpAnyH_take (i := 6) (oi := _) (v := ?_) rfl (by kernel_rfl) (by kernel_rfl) (by kernel_rfl) (fun _ _ _ h => h) (Or.inl ⟨by rfl, ?_⟩) (by assumption) ?_
  rotate_left
  · (first | (intro v hSw; (try dsimp only at hSw); go_simp; done) | (intro v hSw; (try dsimp only at hSw); go_simp; with_reducible rfl))
  (try simp only [List.getElem_toArray, List.getElem_cons_succ, List.getElem_cons_zero, Act.put, List.setIfInBounds_toArray, List.set_cons_zero, List.set_cons_succ])
  refine wpAnyH_ready (rs := [7]) (by kernel_rfl) (by simp) ?_
  refine AllReadyH.cons (o := _) rfl (fun K hK => ?_) AllReadyH.nil
  go_simp
  (with_reducible refine ((una_q T1.bf).below).mono ?_)
  rintro e w2 ⟨rfl, hb⟩
  have T2 := T1.later hb
  clear hb
  refine hK.out _ _ ?_ (fun hHeld => ?_)
  · ((try dsimp only); exact ⟨T2.sp.c0, T2.sp.c1⟩)
  clear hK K
  (try simp only [List.getElem_toArray, List.getElem_cons_succ, List.getElem_cons_zero, Act.put, List.setIfInBounds_toArray, List.set_cons_zero, List.set_cons_succ])
  refine wpAnyH_take (i := 8) (oi := _) (v := ?_) rfl (by kernel_rfl) (by kernel_rfl) (by kernel_rfl) (fun _ _ _ h => h) (Or.inl ⟨by rfl, ?_⟩) (by assumption) ?_
  rotate_left
  · (first | (intro v hSw; (try dsimp only at hSw); go_simp; done) | (intro v hSw; (try dsimp only at hSw); go_simp; with_reducible rfl))
  (try simp only [List.getElem_toArray, List.getElem_cons_succ, List.getElem_cons_zero, Act.put, List.setIfInBounds_toArray, List.set_cons_zero, List.set_cons_succ])
  refine wpAnyH_take (i := 9) (oi := _) (v := ?_) rfl (by kernel_rfl) (by kernel_rfl) (by kernel_rfl) (fun _ _ _ h => h) (Or.inl ⟨by rfl, ?_⟩) (by assumption) ?_
  rotate_left
  · (first | (intro v hSw; (try dsimp only at hSw); go_simp; done) | (intro v hSw; (try dsimp only at hSw); go_simp; with_reducible rfl))
  (try simp only [List.getElem_toArray, List.getElem_cons_succ, List.getElem_cons_zero, Act.put, List.setIfInBounds_toArray, List.set_cons_zero, List.set_cons_succ])
  refine wpAnyH_take (i := 10) (oi := _) (v := ?_) rfl (by kernel_rfl) (by kernel_rfl) (by kernel_rfl) (fun _ _ _ h => h) (Or.inl ⟨by rfl, ?_⟩) (by assumption) ?_
  rotate_left
  · (first | (intro v hSw; (try dsimp only at hSw); go_simp; done) | (intro v hSw; (try dsimp only at hSw); go_simp; with_reducible rfl))
  (try simp only [List.getElem_toArray, List.getElem_cons_succ, List.getElem_cons_zero, Act.put, List.setIfInBounds_toArray, List.set_cons_zero, List.set_cons_succ])
  refine wpAnyH_take (i := 11) (oi := _) (v := ?_) rfl (by kernel_rfl) (by kernel_rfl) (by kernel_rfl) (fun _ _ _ h => h) (Or.inl ⟨by rfl, ?_⟩) (by assumption) ?_
  rotate_left
  · (first | (intro v hSw; (try dsimp only at hSw); go_simp; done) | (intro v hSw; (try dsimp only at hSw); go_simp; with_reducible rfl))
  (try simp only [List.getElem_toArray, List.getElem_cons_succ, List.getElem_cons_zero, Act.put, List.setIfInBounds_toArray, List.set_cons_zero, List.set_cons_succ])
  refine wpAnyH_take (i := 12) (oi := _) (v := ?_) rfl (by kernel_rfl) (by kernel_rfl) (by kernel_rfl) (fun _ _ _ h => h) (Or.inl ⟨by rfl, ?_⟩) (by assumption) ?_
  rotate_left
  · (first | (intro v hSw; (try dsimp only at hSw); go_simp; done) | (intro v hSw; (try dsimp only at hSw); go_simp; with_reducible rfl))
  (try simp only [List.getElem_toArray, List.getElem_cons_succ, List.getElem_cons_zero, Act.put, List.setIfInBounds_toArray, List.set_cons_zero, List.set_cons_succ])
  refine wpAnyH_take (i := 13) (oi := _) (v := ?_) rfl (by kernel_rfl) (by kernel_rfl) (by kernel_rfl) (fun _ _ _ h => h) (Or.inl ⟨by rfl, ?_⟩) (by assumption) ?_
  rotate_left
  · (first | (intro v hSw; (try dsimp only at hSw); go_simp; done) | (intro v hSw; (try dsimp only at hSw); go_simp; with_reducible rfl))
  (try simp only [List.getElem_toArray, List.getElem_cons_succ, List.getElem_cons_zero, Act.put, List.setIfInBounds_toArray, List.set_cons_zero, List.set_cons_succ])
  refine wpAnyH_ready (rs := [14]) (by kernel_rfl) (by simp) ?_
  refine AllReadyH.cons (o := _) rfl (fun K hK => ?_) AllReadyH.nil
  go_simp
  (with_reducible refine ((end_q T2.bf).below).mono ?_)
  rintro e w3 ⟨rfl, hb⟩
  have T3 := T2.later hb
  clear hb
  refine hK.out _ _ ?_ (fun hHeld => ?_)
  · ((try dsimp only); exact ⟨T3.sp.c0, T3.sp.c1⟩)
  clear hK K
  (try simp only [List.getElem_toArray, List.getElem_cons_succ, List.getElem_cons_zero, Act.put, List.setIfInBounds_toArray, List.set_cons_zero, List.set_cons_succ])
  refine wpAnyH_take (i := 15) (oi := _) (v := ?_) rfl (by kernel_rfl) (by kernel_rfl) (by kernel_rfl) (fun _ _ _ h => h) (Or.inl ⟨by rfl, ?_⟩) (by assumption) ?_
  rotate_left
  · (first | (intro v hSw; (try dsimp only at hSw); go_simp; done) | (intro v hSw; (try dsimp only at hSw); go_simp; with_reducible rfl))
  (try simp only [List.getElem_toArray, List.getElem_cons_succ, List.getElem_cons_zero, Act.put, List.setIfInBounds_toArray, List.set_cons_zero, List.set_cons_succ])
  refine wpAnyH_take (i := 16) (oi := _) (v := ?_) rfl (by kernel_rfl) (by kernel_rfl) (by kernel_rfl) (fun _ _ _ h => h) (Or.inl ⟨by rfl, ?_⟩) (by assumption) ?_
  rotate_left
  · (first | (intro v hSw; (try dsimp only at hSw); go_simp; done) | (intro v hSw; (try dsimp only at hSw); go_simp; with_reducible rfl))
  (try simp only [List.getElem_toArray, List.getElem_cons_succ, List.getElem_cons_zero, Act.put, List.setIfInBounds_toArray, List.set_cons_zero, List.set_cons_succ])
  refine wpAnyH_done (by kernel_rfl) ?_ _
  refine NoPanic.normal ?_
  have c0 := T3.sp.c0; have c1 := T3.sp.c1
  go_upto_region 6 with (first
    | (go_at_call 24; (with_reducible refine (len_any ((s : Int), (s : Int)) _).mono ?_); rintro e w4 ⟨rfl, hb⟩; rw [HL.out]; have T4 := T3.later hb; clear hb)
    | (at_make; go_must (refine wpList_make_full _ rfl _ _ 23 rfl w.heap.size 5 i0 (.int .u8 0) 1 Try.underlying23 hi hz0 hz1 .i64 .i64 (0 : Int) (0 : Int) 0 rfl rfl rfl rfl (by omega) (by unfold maxLen; omega) T4.below.size ?_); intro w5 ho hg))
  have hb5 : Below w4.heap.size w4 w5 := ⟨hg.os, hg.tape, hg.output, hg.size, fun k hk => hg.block k hk (by simp)⟩
  have T5 := T4.later hb5
  clear hb5 hg ho c0 c1 T1 T2 T3
  have c0 := T5.sp.c0; have c1 := T5.sp.c1
  generalize w4.heap.size = M at *
  have hsl : ∀ wx, (Instr.slice 23 (.slice (some ⟨M, 0, none⟩) 0 0) (some (.int .i64 0)) none none).run Try.prog wx = .ok (.slice (some ⟨M, 0, none⟩) 0 0) wx := run_slice_from Try.prog 23 5 i0 Try.underlying23 hi hz1 (some ⟨M, 0, none⟩) 0 0 0 (Nat.le_refl _)
  go_upto_region 7 with (go_at_call 23; (with_reducible refine (HPC.out _).mono ?_); rintro e w6 ⟨rfl, hb⟩; have T6 := T5.later hb; clear hb)
  go_wp2_with (first | (refine wpList_copy_p0 _ rfl (.tmp 38) (.tmp 39) 23 23 rfl 5 i0 Try.underlying23 hi (some ⟨M, 0, none⟩) 0 none 0 0 rfl rfl ?_) | (refine wpList_copy_p0 _ rfl (.tmp 43) (.tmp 44) 23 23 rfl 5 i0 Try.underlying23 hi (some ⟨M, 0, none⟩) 0 none 0 0 rfl rfl ?_))
  go_ret2
  exact ⟨some ⟨M, 0, none⟩, 0, 0, rfl, SlR.sub0 _, T6.below, fun b hb => by simp [blk_zero] at hb⟩
set_option maxHeartbeats 8000000 in
theorem read_some {w : World} {B : Nat} {g : Rg} {x : Bf} (h : BfAt w B g x) (s n : Nat) (h1 : x.una ≤ s) (h2 : s + n ≤ x.una + x.l.length) (h0 : 0 < n) :
    Calls Try.prog 13 #[.pointer (some ⟨B, 0, none⟩), toV s n] w (RetR (fun v => .tuple #[v, .int .i64 0]) ((x.l.drop (s - x.una)).take n) w) := by
  have T := rs_new h ((s : Int), (s : Int) + (n : Int))
  have hxe := h.ok.e; have hxn := h.ok.n; have m1 := h.ok.m1; have m0 := h.ok.m0
  have hnm : n ≤ x.most := by omega
  have HM : Hid (mayB (s : Int) ((s : Int) + (n : Int)) = true) := Lib.hid (mayB_iff.2 (by omega))
  have HL : Hid (lenI ((s : Int), (s : Int) + (n : Int)) = (n : Int)) := Lib.hid (lenI_to s n (by omega))
  have HPC := Lib.hid (fun W (q : BfAt W B g x) => pieces_any q s n (by omega) h0 hnm)
  have k1 : ¬ (s : Int) < (x.una : Int) := by omega
  have k2 : ¬ (x.una : Int) + (x.l.length : Int) < (s : Int) + (n : Int) := by omega
  have HOK := Lib.hid h.ok
  have HNN := Lib.hid (show 0 < n ∧ n ≤ x.most ∧ x.most ≤ 65536 ∧ 1 ≤ x.most ∧ x.una ≤ s ∧ s + n ≤ x.una + x.l.length from ⟨h0, hnm, m1, m0, h1, h2⟩)
  obtain ⟨i0, hi, hz0, hz1, hz2⟩ := info_split info_u8
  dsimp only at *
  clear h h0 h1 h2 hxe hxn m1 m0 hnm
  go_enter Try.func13, Try.ntmps13
  go_upto_region 3 with fail
  have T0 := T.later (Below.refl _ _).drew
  clear T
  generalize w.alloc (.cells #[.int .i64 (s : Int), .int .i64 ((s : Int) + (n : Int))] 25) = W at *
  refine wp_region_noPanic ?_
  refine wp_region_held_drew (S := (fun W' => W'.cell? ⟨w.heap.size, 0, none⟩ = some (.int .i64 (s : Int)) ∧ W'.cell? ⟨w.heap.size, 1, none⟩ = some (.int .i64 ((s : Int) + (n : Int))))) (by kernel_rfl) ?_ (fun hHeld => ?_)
  · ((try dsimp only); exact ⟨T0.sp.c0, T0.sp.c1⟩)
  refine wpAnyH_take (i := 0) (oi := _) (v := ?_) rfl (by kernel_rfl) (by kernel_rfl) (by kernel_rfl) (fun _ _ _ h => h) (Or.inl ⟨by rfl, ?_⟩) (by assumption) ?_
  rotate_left
  · (first | (intro v hSw; (try dsimp only at hSw); go_simp; done) | (intro v hSw; (try dsimp only at hSw); go_simp; with_reducible rfl))
  (try simp only [List.getElem_toArray, List.getElem_cons_succ, List.getElem_cons_zero, Act.put, List.setIfInBounds_toArray, List.set_cons_zero, List.set_cons_succ])
  refine wpAnyH_ready (rs := [1]) (by kernel_rfl) (by simp) ?_
  refine AllReadyH.cons (o := _) rfl (fun K hK => ?_) AllReadyH.nil
  go_simp
  (with_reducible refine (may_any (s : Int) ((s : Int) + (n : Int)) _).mono ?_)
  rintro e w1 ⟨rfl, hb⟩
  have T1 := T0.later hb
  clear hb
  rw [HM.out]
  refine hK.out _ _ ?_ (fun hHeld => ?_)
  · ((try dsimp only); exact ⟨T1.sp.c0, T1.sp.c1⟩)
  clear hK K
  (try simp only [List.getElem_toArray, List.getElem_cons_succ, List.getElem_cons_zero, Act.put, List.setIfInBounds_toArray, List.set_cons_zero, List.set_cons_succ])
  refine wpAnyH_take (i := 2) (oi := _) (v := ?_) rfl (by kernel_rfl) (by kernel_rfl) (by kernel_rfl) (fun _ _ _ h => h) (Or.inl ⟨by rfl, ?_⟩) (by assumption) ?_
  rotate_left
  · (first | (intro v hSw; (try dsimp only at hSw); go_simp; done) | (intro v hSw; (try dsimp only at hSw); go_simp; with_reducible rfl))
  (try simp only [List.getElem_toArray, List.getElem_cons_succ, List.getElem_cons_zero, Act.put, List.setIfInBounds_toArray, List.set_cons_zero, List.set_cons_succ])
  refine wpAnyH_take (i := 3) (oi := _) (v := ?_) rfl (by kernel_rfl) (by kernel_rfl) (by kernel_rfl) (fun _ _ _ h => h) (Or.inl ⟨by rfl, ?_⟩) (by assumption) ?_
  rotate_left
  · (first | (intro v hSw; (try dsimp only at hSw); go_simp; done) | (intro v hSw; (try dsimp only at hSw); go_simp; with_reducible rfl))
  (try simp only [List.getElem_toArray, List.getElem_cons_succ, List.getElem_cons_zero, Act.put, List.setIfInBounds_toArray, List.set_cons_zero, List.set_cons_succ])
  refine wpAnyH_take (i := 4) (oi := _) (v := ?_) rfl (by kernel_rfl) (by kernel_rfl) (by kernel_rfl) (fun _ _ _ h => h) (Or.inl ⟨by rfl, ?_⟩) (by assumption) ?_
  rotate_left
  · (first | (intro v hSw; (try dsimp only at hSw); go_simp; done) | (intro v hSw; (try dsimp only at hSw); go_simp; with_reducible rfl))
  (try simp only [List.getElem_toArray, List.getElem_cons_succ, List.getElem_cons_zero, Act.put, List.setIfInBounds_toArray, List.set_cons_zero, List.set_cons_succ])
  refine wpAnyH_take (i := 5) (oi := _) (v := ?_) rfl (by kernel_rfl) (by kernel_rfl) (by kernel_rfl) (fun _ _ _ h => h) (Or.inl ⟨by rfl, ?_⟩) (by assumption) ?_
  rotate_left
  · (first | (intro v hSw; (try dsimp only at hSw); go_simp; done) | (intro v hSw; (try dsimp only at hSw); go_simp; with_reducible rfl))
  (try simp only [List.getElem_toArray, List.getElem_cons_succ, List.getElem_cons_zero, Act.put, List.setIfInBounds_toArray, List.set_cons_zero, List.set_cons_succ])
  refine wpAnyH_take (i := 6) (oi := _) (v := ?_) rfl (by kernel_rfl) (by kernel_rfl) (by kernel_rfl) (fun _ _ _ h => h) (Or.inl ⟨by rfl, ?_⟩) (by assumption) ?_
  rotate_left
  · (first | (intro v hSw; (try dsimp only at hSw); go_simp; done) | (intro v hSw; (try dsimp only at hSw); go_simp; with_reducible rfl))
  (try simp only [List.getElem_toArray, List.getElem_cons_succ, List.getElem_cons_zero, Act.put, List.setIfInBounds_toArray, List.set_cons_zero, List.set_cons_succ])
  refine wpAnyH_ready (rs := [7]) (by kernel_rfl) (by simp) ?_
  refine AllReadyH.cons (o := _) rfl (fun K hK => ?_) AllReadyH.nil
  go_simp
  (with_reducible refine ((una_q T1.bf).below).mono ?_)
  rintro e w2 ⟨rfl, hb⟩
  have T2 := T1.later hb
  clear hb
  refine hK.out _ _ ?_ (fun hHeld => ?_)
  · ((try dsimp only); exact ⟨T2.sp.c0, T2.sp.c1⟩)
  clear hK K
  (try simp only [List.getElem_toArray, List.getElem_cons_succ, List.getElem_cons_zero, Act.put, List.setIfInBounds_toArray, List.set_cons_zero, List.set_cons_succ])
  refine wpAnyH_take (i := 8) (oi := _) (v := ?_) rfl (by kernel_rfl) (by kernel_rfl) (by kernel_rfl) (fun _ _ _ h => h) (Or.inl ⟨by rfl, ?_⟩) (by assumption) ?_
  rotate_left
  · (first | (intro v hSw; (try dsimp only at hSw); go_simp; done) | (intro v hSw; (try dsimp only at hSw); go_simp; with_reducible rfl))
  (try simp only [List.getElem_toArray, List.getElem_cons_succ, List.getElem_cons_zero, Act.put, List.setIfInBounds_toArray, List.set_cons_zero, List.set_cons_succ])
  refine wpAnyH_take (i := 9) (oi := _) (v := ?_) rfl (by kernel_rfl) (by kernel_rfl) (by kernel_rfl) (fun _ _ _ h => h) (Or.inl ⟨by rfl, ?_⟩) (by assumption) ?_
  rotate_left
  · (first | (intro v hSw; (try dsimp only at hSw); go_simp; done) | (intro v hSw; (try dsimp only at hSw); go_simp; with_reducible rfl))
  (try simp only [List.getElem_toArray, List.getElem_cons_succ, List.getElem_cons_zero, Act.put, List.setIfInBounds_toArray, List.set_cons_zero, List.set_cons_succ])
  refine wpAnyH_take (i := 10) (oi := _) (v := ?_) rfl (by kernel_rfl) (by kernel_rfl) (by kernel_rfl) (fun _ _ _ h => h) (Or.inl ⟨by rfl, ?_⟩) (by assumption) ?_
  rotate_left
  · (first | (intro v hSw; (try dsimp only at hSw); go_simp; done) | (intro v hSw; (try dsimp only at hSw); go_simp; with_reducible rfl))
  (try simp only [List.getElem_toArray, List.getElem_cons_succ, List.getElem_cons_zero, Act.put, List.setIfInBounds_toArray, List.set_cons_zero, List.set_cons_succ])
  refine wpAnyH_take (i := 11) (oi := _) (v := ?_) rfl (by kernel_rfl) (by kernel_rfl) (by kernel_rfl) (fun _ _ _ h => h) (Or.inl ⟨by rfl, ?_⟩) (by assumption) ?_
  rotate_left
  · (first | (intro v hSw; (try dsimp only at hSw); go_simp; done) | (intro v hSw; (try dsimp only at hSw); go_simp; with_reducible rfl))
  (try simp only [List.getElem_toArray, List.getElem_cons_succ, List.getElem_cons_zero, Act.put, List.setIfInBounds_toArray, List.set_cons_zero, List.set_cons_succ])
  refine wpAnyH_take (i := 12) (oi := _) (v := ?_) rfl (by kernel_rfl) (by kernel_rfl) (by kernel_rfl) (fun _ _ _ h => h) (Or.inl ⟨by rfl, ?_⟩) (by assumption) ?_
  rotate_left
  · (first | (intro v hSw; (try dsimp only at hSw); go_simp; done) | (intro v hSw; (try dsimp only at hSw); go_simp; with_reducible rfl))
  (try simp only [List.getElem_toArray, List.getElem_cons_succ, List.getElem_cons_zero, Act.put, List.setIfInBounds_toArray, List.set_cons_zero, List.set_cons_succ])
  refine wpAnyH_take (i := 13) (oi := _) (v := ?_) rfl (by kernel_rfl) (by kernel_rfl) (by kernel_rfl) (fun _ _ _ h => h) (Or.inl ⟨by rfl, ?_⟩) (by assumption) ?_
  rotate_left
  · (first | (intro v hSw; (try dsimp only at hSw); go_simp; done) | (intro v hSw; (try dsimp only at hSw); go_simp; with_reducible rfl))
  (try simp only [List.getElem_toArray, List.getElem_cons_succ, List.getElem_cons_zero, Act.put, List.setIfInBounds_toArray, List.set_cons_zero, List.set_cons_succ])
  refine wpAnyH_ready (rs := [14]) (by kernel_rfl) (by simp) ?_
  refine AllReadyH.cons (o := _) rfl (fun K hK => ?_) AllReadyH.nil
  go_simp
  (with_reducible refine ((end_q T2.bf).below).mono ?_)
  rintro e w3 ⟨rfl, hb⟩
  have T3 := T2.later hb
  clear hb
  refine hK.out _ _ ?_ (fun hHeld => ?_)
  · ((try dsimp only); exact ⟨T3.sp.c0, T3.sp.c1⟩)
  clear hK K
  (try simp only [List.getElem_toArray, List.getElem_cons_succ, List.getElem_cons_zero, Act.put, List.setIfInBounds_toArray, List.set_cons_zero, List.set_cons_succ])
  refine wpAnyH_take (i := 15) (oi := _) (v := ?_) rfl (by kernel_rfl) (by kernel_rfl) (by kernel_rfl) (fun _ _ _ h => h) (Or.inl ⟨by rfl, ?_⟩) (by assumption) ?_
  rotate_left
  · (first | (intro v hSw; (try dsimp only at hSw); go_simp; done) | (intro v hSw; (try dsimp only at hSw); go_simp; with_reducible rfl))
  (try simp only [List.getElem_toArray, List.getElem_cons_succ, List.getElem_cons_zero, Act.put, List.setIfInBounds_toArray, List.set_cons_zero, List.set_cons_succ])
  refine wpAnyH_take (i := 16) (oi := _) (v := ?_) rfl (by kernel_rfl) (by kernel_rfl) (by kernel_rfl) (fun _ _ _ h => h) (Or.inl ⟨by rfl, ?_⟩) (by assumption) ?_
  rotate_left
  · (first | (intro v hSw; (try dsimp only at hSw); go_simp; done) | (intro v hSw; (try dsimp only at hSw); go_simp; with_reducible rfl))
  (try simp only [List.getElem_toArray, List.getElem_cons_succ, List.getElem_cons_zero, Act.put, List.setIfInBounds_toArray, List.set_cons_zero, List.set_cons_succ])
  refine wpAnyH_done (by kernel_rfl) ?_ _
  refine NoPanic.normal ?_
  have c0 := T3.sp.c0; have c1 := T3.sp.c1
  go_upto_region 6 with (first
    | (go_at_call 24; (with_reducible refine (len_any ((s : Int), (s : Int) + (n : Int)) _).mono ?_); rintro e w4 ⟨rfl, hb⟩; rw [HL.out]; have T4 := T3.later hb; clear hb)
    | (at_make; go_must (refine wpList_make_full _ rfl _ _ 23 rfl w.heap.size 5 i0 (.int .u8 0) 1 Try.underlying23 hi hz0 hz1 .i64 .i64 (n : Int) (n : Int) n rfl rfl rfl rfl (by rw [hz2]; have := HNN.out; omega) (by have := HNN.out; unfold maxLen; omega) T4.below.size ?_); intro w5 ho hg))
  have hb5 : Below w4.heap.size w4 w5 := ⟨hg.os, hg.tape, hg.output, hg.size, fun k hk => hg.block k hk (by simp)⟩
  have T5 := T4.later hb5
  rw [made_ints] at ho
  have HROW := Lib.hid (own_full ho)
  have HMS := Lib.hid (show w.heap.size ≤ w4.heap.size from T4.below.size)
  have HMB := Lib.hid (show w4.heap.size ∉ [B, g.b] from fun hb => by have := T4.bf.lt _ hb; omega)
  clear hb5 hg ho c0 c1 T1 T2 T3
  have c0 := T5.sp.c0; have c1 := T5.sp.c1
  generalize w4.heap.size = M at *
  go_upto_region 7 with (go_at_call 23; (with_reducible refine (HPC.out _ T5.bf).mono ?_); rintro e w6 ⟨rfl, hb⟩; have T6 := T5.later hb; have HR6 := Lib.hid ((hb.block _ (lt_of_block HROW.out)).trans HROW.out); clear hb)
  clear HROW HPC c0 c1
  obtain ⟨R, hg6, hring⟩ := T6.bf.row
  have HG := Lib.hid hg6
  have hRl := hring.len
  have HRD := Lib.hid (hring.rd HOK.out s n HNN.out.2.2.2.2.1 HNN.out.2.2.2.2.2)
  have hmod := Nat.mod_lt s (show 0 < x.most by have := HNN.out; omega)
  clear hg6 hring
  unfold rd at HRD
  rw [hRl] at HRD
  have hspl : spl x.most s n = min (s % x.most + n) x.most := rfl
  generalize spl x.most s n = Z at *
  generalize s % x.most = A at *
  have HNUM := Lib.hid (show Z = min (A + n) x.most ∧ A < x.most ∧ R.length = x.most ∧ 0 < n ∧ n ≤ x.most ∧ x.most ≤ 65536 from ⟨hspl, hmod, hRl, HNN.out.1, HNN.out.2.1, HNN.out.2.2.1⟩)
  have HS1 : Hid (SlA .u8 w6 (some ⟨g.b, A, none⟩) (Z - A) (Z - A) ((R.take Z).drop A)) := Lib.hid (by
    have := HNUM.out
    have h := (ring_row (cap := 0) HG.out hRl (by omega)).sub A Z Z (by omega) (by omega) (by omega) (by omega) (by omega)
    simp only [Nat.mul_one, Nat.zero_add, ints_take, ints_drop] at h
    exact h.sla)
  have HS2 : Hid (SlA .u8 w6 (some ⟨g.b, 0, none⟩) (A + n - Z) (A + n - Z) (R.take (A + n - Z))) := Lib.hid (by
    have := HNUM.out
    by_cases c : A + n - Z = 0
    · rw [c]
      simp only [List.take_zero]
      exact (SlR.sub0 (w := w6) (e := 5) (sz := 1) (some ⟨g.b, 0, none⟩) : SlR w6 5 1 (some ⟨g.b, 0, none⟩) 0 0 (ints .u8 [])).sla
    · have h := (ring_row (cap := 0) HG.out hRl (by omega)).sub 0 (A + n - Z) (A + n - Z) (by omega) (by omega) (by omega) (by omega) (by omega)
      simp only [Nat.mul_one, Nat.zero_add, Nat.zero_mul, Nat.sub_zero, List.drop_zero, ints_take] at h
      exact h.sla)
  have HLL := Lib.hid (show ((R.take Z).drop A).length = Z - A ∧ (R.take (A + n - Z)).length = A + n - Z from by have := HNUM.out; rw [List.length_drop, List.length_take, List.length_take]; omega)
  generalize (R.take Z).drop A = L1 at *
  generalize R.take (A + n - Z) = L2 at *
  have HQR := Lib.hid (show Z - A + (A + n - Z) = n ∧ 0 < Z - A from by have := HNUM.out; omega)
  clear hspl hmod hRl
  generalize Z - A = q at *
  generalize A + n - Z = r at *
  have HQ1 : Hid (q = min q n) := Lib.hid (by have := HQR.out; omega)
  have HB1 : Hid (w6.heap[M]? = some (.cells (([] : List Value) ++ ints .u8 (List.replicate q 0) ++ ints .u8 (List.replicate r 0)).toArray 5 (0, 0))) := Lib.hid (by
    rw [HR6.out, List.nil_append, ← ints_app, List.replicate_append_replicate, HQR.out.1])
  go_upto_region 8 with ((refine wpList_copy_sl _ rfl (.tmp 38) (.tmp 39) 23 23 rfl 5 i0 Try.underlying23 hi hz1 M 0 n n [] (ints .u8 (List.replicate q 0)) (ints .u8 (List.replicate r 0)) rfl HB1.out rfl (some ⟨g.b, A, none⟩) q q L1 .u8 rfl HS1.out q HQ1.out (by rw [ints_len, List.length_replicate]) ?_); intro w7 hg7 hk7)
  have T7 : RS w w.heap.size B g x ((s : Int), (s : Int) + (n : Int)) w7 := ⟨T6.bf.keep hk7 (fun b hb e => by simp at e; subst e; exact HMB.out hb), T6.sp.keep hk7 (by have := HR6.out; intro e; simp at e; have h := T6.sp; rw [e] at h; rw [show w6.heap[M]? = _ from h] at this; simp at this), T6.below.trans (hk7.below (by simpa using HMS.out) T6.below.size)⟩
  have HS7 := Lib.hid (HS2.out.keep hk7 (fun y hy e => by simp at hy; subst hy; simp at e; exact HMB.out (by simp [e])))
  have HG7 : Hid (w7.heap[M]? = some (.cells (ints .u8 L1 ++ ints .u8 (List.replicate r 0) ++ []).toArray 5 (0, 0))) := Lib.hid (by
    rw [hg7.out, List.nil_append, List.take_of_length_le (by rw [HLL.out.1]; exact Nat.le_refl _), List.append_nil])
  clear hg7 hk7 HR6 HB1 HS1 HS2
  have hnq : n - q = r := by have := HQR.out; omega
  have hqn : q ≤ n := by have := HQR.out; omega
  have hsl := run_slice_from Try.prog 23 5 i0 Try.underlying23 hi hz1 (some ⟨M, 0, none⟩) n n q hqn
  rw [hnq] at hsl
  by_cases c : r = 0
  · subst c
    have e : n = q := by omega
    rw [if_pos e] at hsl
    have HLE : Hid (L2 = []) := Lib.hid (List.eq_nil_of_length_eq_zero HLL.out.2)
    have HFIN := Lib.hid (show RetR (fun v => .tuple #[v, .int .i64 0]) ((x.l.drop (s - x.una)).take n) w (.returned (.tuple #[.slice (some ⟨M, 0, none⟩) n n, .int .i64 0])) w7 from by
      rw [← HRD.out, HLE.out, List.append_nil]
      have h7 := HG7.out
      rw [List.replicate_zero, show ints .u8 ([] : List Int) = [] from rfl, List.append_nil, List.append_nil] at h7
      refine ⟨_, _, _, rfl, new_row h7 (by have := HLL.out.1; omega) (by have := HNUM.out; omega), T7.below, fun b hb => ?_⟩
      rw [blk_some _ _ _ (by have := HNUM.out; omega)] at hb
      simp at hb
      have := HMS.out
      omega)
    clear hnq hqn e
    go_wp2_with (refine wpList_copy_p0 _ rfl (.tmp 43) (.tmp 44) 23 23 rfl 5 i0 Try.underlying23 hi (some ⟨M, 0, none⟩) 0 (some ⟨g.b, 0, none⟩) 0 0 rfl rfl ?_)
    go_ret2
    exact HFIN.out
  · have e : ¬ n = q := by omega
    rw [if_neg e] at hsl
    have e2 : (some (⟨M, 0, none⟩ : Addr)).map (fun x => x.add q) = some ⟨M, q, none⟩ := by simp [addr_add]
    rw [e2] at hsl
    have HQ2 : Hid (r = min r r) := Lib.hid (by omega)
    have HC := Lib.hid c
    clear hnq hqn e e2 c
    go_wp2_with ((refine wpList_copy_sl _ rfl (.tmp 43) (.tmp 44) 23 23 rfl 5 i0 Try.underlying23 hi hz1 M q r r (ints .u8 L1) (ints .u8 (List.replicate r 0)) [] rfl HG7.out (by rw [ints_len]; exact HLL.out.1) (some ⟨g.b, 0, none⟩) r r L2 .u8 rfl HS7.out r HQ2.out (by rw [ints_len, List.length_replicate]) ?_); intro w8 hg8 hk8)
    go_ret2
    rw [← HRD.out]
    have h8 := hg8.out
    rw [List.append_nil, List.take_of_length_le (by rw [HLL.out.2]; exact Nat.le_refl _), ← ints_app] at h8
    refine ⟨_, _, _, rfl, new_row h8 (by have := HLL.out; have := HQR.out; rw [List.length_append]; omega) (by have := HNUM.out; omega), T7.below.trans (hk8.below (by simpa using HMS.out) T7.below.size), fun b hb => ?_⟩
    rw [blk_some _ _ _ (by have := HNUM.out; omega)] at hb
    simp at hb
    have := HMS.out
    omega
/-- what is read, whatever is asked -/
theorem read_any {w : World} {B : Nat} {g : Rg} {x : Bf} (h : BfAt w B g x) (s : Int × Int) :
    Calls Try.prog 13 #[.pointer (some ⟨B, 0, none⟩), spV s] w (RetR (fun v => .tuple #[v, .int .i64 (rdE x s)]) (rdL x s) w) := by
  unfold rdE
  cases hB : rdB x s with
  | false =>
    have hl : rdL x s = [] := by unfold rdL; rw [hB]; rfl
    rw [hl]
    refine (read_bad h s hB).mono ?_
    rintro e w' ⟨rfl, hb⟩
    exact ⟨none, 0, 0, rfl, SlR.nil _ _ 1, hb, fun b hb => by simp [blk_zero] at hb⟩
  | true =>
    obtain ⟨e1, e2, e3, e4⟩ := rdL_eq hB
    have hi := rdB_iff.1 hB
    rw [e1, if_pos rfl]
    have hs1 : s.1 = (s.1.toNat : Int) := by omega
    have hs2 : s.2 = (s.1.toNat : Int) + ((s.2 - s.1).toNat : Int) := by omega
    have hsv : spV s = toV s.1.toNat (s.2 - s.1).toNat := by
      unfold toV spV
      dsimp only
      rw [← hs2, ← hs1]
    rw [hsv]
    by_cases h0 : (s.2 - s.1).toNat = 0
    · rw [h0]
      have := read_none h s.1.toNat e3 (by omega)
      simpa [toV] using this
    · exact read_some h s.1.toNat (s.2 - s.1).toNat e3 e4 (by omega)
theorem read_nil (s : Int × Int) (w : World) : Calls Try.prog 13 #[.pointer none, spV s] w fun e w' => e = .returned (.tuple #[.slice none 0 0, .int .i64 1]) ∧ Below w.heap.size w w' := by
  go_enter Try.func13, Try.ntmps13
  go_wp2_with fail
  go_ret2
  exact ⟨rfl, bal _⟩
end Go.Proofs.Ytjkjbhapkmamkaa.bf
