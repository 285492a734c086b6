/-
  Package low: one of one's own; the fixed calls of layer 12's law.
-/
import Derived.Test.YtgonfdedapnlnaaLowR
namespace Go.Proofs.Ytgonfdedapnlnaa.lo
open Go.RowKit aid mem
attribute [local go_sem ↓] Go.wp_at_zero Go.wp_at_succ
set_option linter.unusedVariables false

set_option maxHeartbeats 1000000 in
theorem min_bad {w : World} {B : Nat} {win last T : Int} {a : Option Addr} {n cap : Nat} (h : LwAt w B win last a n cap) (hT : T < last ∨ 4611686018427387904 < T) :
    Calls Try.prog 11 #[.pointer (some ⟨B, 0, none⟩), .int .i64 T] w fun e w' => e = .returned (.tuple #[.int .i64 0, .bool false]) ∧ Below w.heap.size w w' := by
  obtain ⟨W0, hW0⟩ : ∃ W0, W0 = (w.alloc (.cells #[.pointer (some ⟨B, 0, none⟩)] 24)).alloc (.cells #[.int .i64 T] 3) := ⟨_, rfl⟩
  have hb0 : Below w.heap.size w W0 := by rw [hW0]; exact ((Below.refl _ _).alloc (Nat.le_refl _) _).alloc (by simp) _
  have x0 : W0.heap[w.heap.size]? = some (.cells #[.pointer (some ⟨B, 0, none⟩)] 24 (0, 0)) := by rw [hW0]; exact heap_alloc2_old w _ _
  have x1 : W0.heap[w.heap.size + 1]? = some (.cells #[.int .i64 T] 3 (0, 0)) := by rw [hW0]; exact heap_alloc2_new w _ _
  have b0 := cofr x0 0 _ rfl; have b1 := cofr x1 0 _ rfl
  have hA := LwAt.later h hb0
  have c1 := cofr hA 1 _ rfl
  have HB := Lib.hid hb0
  clear x0 x1 hb0 h hA
  go_enter Try.func11, Try.ntmps11
  go_wp2_with fail
  rw [← hW0]
  clear hW0
  by_cases h1 : T < last
  · go_quiet (fail)
    go_wp2_with fail
    go_ret2
    exact ⟨rfl, below_drewN HB.out _⟩
  · have h2 : 4611686018427387904 < T := by omega
    go_quiet (fail)
    go_wp2_with fail
    go_ret2
    exact ⟨rfl, below_drewN HB.out _⟩
set_option maxHeartbeats 1000000 in
theorem none_min (T : Int) (w : World) : Calls Try.prog 11 #[.pointer none, .int .i64 T] w fun e w' => e = .returned (.tuple #[.int .i64 0, .bool false]) ∧ Below w.heap.size w w' := by
  obtain ⟨W0, hW0⟩ : ∃ W0, W0 = (w.alloc (.cells #[.pointer none] 24)).alloc (.cells #[.int .i64 T] 3) := ⟨_, rfl⟩
  have hb0 : Below w.heap.size w W0 := by rw [hW0]; exact ((Below.refl _ _).alloc (Nat.le_refl _) _).alloc (by simp) _
  have x0 : W0.heap[w.heap.size]? = some (.cells #[.pointer none] 24 (0, 0)) := by rw [hW0]; exact heap_alloc2_old w _ _
  have x1 : W0.heap[w.heap.size + 1]? = some (.cells #[.int .i64 T] 3 (0, 0)) := by rw [hW0]; exact heap_alloc2_new w _ _
  have b0 := cofr x0 0 _ rfl; have b1 := cofr x1 0 _ rfl
  have HB := Lib.hid hb0
  clear x0 x1 hb0
  go_enter Try.func11, Try.ntmps11
  go_wp2_with fail
  rw [← hW0]
  clear hW0
  go_quiet (fail)
  go_wp2_with fail
  go_ret2
  exact ⟨rfl, below_drewN HB.out _⟩

/-- one of one's own: what came, what is kept -/
structure LS (w0 : World) (B : Nat) (win last : Int) (had k : List Mk) (m : Nat) (w : World) : Prop where
  st : ∃ a n cap, LwAt w B win last a n cap ∧ Ks w a n cap k ∧ (∀ b ∈ blk a cap, w0.heap.size ≤ b) ∧ (a = none ∨ 0 < n)
  hk : HK win had k last
  win : 1 ≤ win ∧ win ≤ 4611686018427387904
  kl : k.length ≤ m
  below : Below w0.heap.size w0 w
  le : w0.heap.size ≤ B
theorem LS.later {w0 w w' : World} {B : Nat} {win last : Int} {had k : List Mk} {m : Nat} (h : LS w0 B win last had k m w) (hb : Below w.heap.size w w') : LS w0 B win last had k m w' := by
  obtain ⟨a, n, cap, h1, h2, h3, h4⟩ := h.st
  exact ⟨⟨a, n, cap, h1.later hb, h2.later hb, h3, h4⟩, h.hk, h.win, h.kl, h.below.trans (hb.mono h.below.size), h.le⟩
theorem new_ls {w0 w : World} (hB : Below w0.heap.size w0 w) {win : Int} (h : 1 ≤ win ∧ win ≤ 4611686018427387904) : Calls Try.prog 7 #[.int .i64 win] w
    fun x w' => ∃ B, x = .returned (.tuple #[.pointer (some ⟨B, 0, none⟩), .int .i64 0]) ∧ LS w0 B win 0 [] [] 0 w' ∧ Below w.heap.size w w' ∧ w.heap.size ≤ B :=
  (new_ok h).mono fun x w' ⟨h1, h2, h3⟩ => ⟨_, h1, ⟨⟨none, 0, 0, h2, ⟨SlR.nil _ _ _⟩, fun b hb => by simp [blk_zero] at hb, .inl rfl⟩, .nil, h, Nat.le_refl _, hB.trans (h3.mono hB.size), hB.size⟩, h3, Nat.le_refl _⟩
/-- blocks of other types than the values' lie as they lay -/
def KeepT (B : Nat) (w w' : World) : Prop := ∀ X cur t, t ≠ 44 → X ≠ B → w.heap[X]? = some (.cells cur t (0, 0)) → w'.heap[X]? = some (.cells cur t (0, 0))
theorem kstep_len (win : Int) (k : List Mk) (m : Mk) : (kstep win k m).length ≤ k.length + 1 := by
  unfold kstep
  rw [List.length_append]
  have := List.length_filter_le (fun x => inW win m.1 x && decide (x.2 < m.2)) k
  simp
  omega
theorem add_ls {w0 w : World} {B : Nat} {win last : Int} {had k : List Mk} {m : Nat} (h : LS w0 B win last had k m w) (hm : m ≤ 1000000) (now v : Int) (h1 : last ≤ now) (h2 : now ≤ 4611686018427387904) (h3 : 0 ≤ v) (h4 : v ≤ 4611686018427387904) :
    Calls Try.prog 10 #[.pointer (some ⟨B, 0, none⟩), .int .i64 now, .int .i64 v] w fun e w' => e = .returned (.int .i64 0) ∧ LS w0 B win now (had ++ [(now, v)]) (kstep win k (now, v)) (m + 1) w' ∧ KeepT B w w' ∧ w.heap.size ≤ w'.heap.size := by
  obtain ⟨a, n, cap, g1, g2, g3, g4⟩ := h.st
  have hl := h.hk.last
  refine (add_any g1 g2 h.hk.kept h.hk.up now v ⟨by omega, h2⟩ h1 h3 h4 (by have := g2.len; have := h.kl; omega)).mono ?_
  rintro e w' ⟨rfl, a', n', cap', r1, r2, r3, r4⟩
  have hkl := kstep_len win k (now, v)
  have hne : 0 < (kstep win k (now, v)).length := by unfold kstep; simp
  refine ⟨rfl, ⟨⟨a', n', cap', r1, r2, fun b hb => ?_, .inr (by have := r2.len; omega)⟩, .add h.hk h1 h2 h3 h4, h.win, by have := h.kl; omega, h.below.trans (r3.below (fun x hx => ?_) h.below.size), h.le⟩, fun X cur t ht hX hc => ?_, r3.size⟩
  · rcases r4 b hb with r | r
    · exact g3 b r
    · have := h.below.size; omega
  · rcases List.mem_cons.1 hx with rfl | hx
    · exact h.le
    · exact g3 x hx
  · refine r3.heap (fun hx => ?_) hc
    rcases List.mem_cons.1 hx with hx | hx
    · exact hX hx
    · obtain ⟨_, cur2, hc2⟩ := g2.row.lt X hx
      rw [hc] at hc2
      injection hc2 with hc2
      injection hc2 with _ hc2 _
      exact ht hc2
theorem add_bad_ls {w0 w : World} {B : Nat} {win last : Int} {had k : List Mk} {m : Nat} (h : LS w0 B win last had k m w) (now v : Int) (hb : now < last ∨ 4611686018427387904 < now ∨ v < 0 ∨ 4611686018427387904 < v) :
    Calls Try.prog 10 #[.pointer (some ⟨B, 0, none⟩), .int .i64 now, .int .i64 v] w fun e w' => e = .returned (.int .i64 3) ∧ LS w0 B win last had k m w' ∧ Below w.heap.size w w' := by
  obtain ⟨a, n, cap, g1, g2, g3, g4⟩ := h.st
  exact (add_bad g1 now v hb).mono fun e w' ⟨r1, r2⟩ => ⟨r1, h.later r2, r2⟩
theorem min_ls {w0 w : World} {B : Nat} {win last : Int} {had k : List Mk} {m : Nat} (h : LS w0 B win last had k m w) (hm : m ≤ 1000000) (T : Int) (hT : last ≤ T ∧ T ≤ 4611686018427387904) :
    Calls Try.prog 11 #[.pointer (some ⟨B, 0, none⟩), .int .i64 T] w fun e w' => e = .returned (minV win T k) ∧ LS w0 B win last had k m w' ∧ Below w.heap.size w w' := by
  obtain ⟨a, n, cap, g1, g2, g3, g4⟩ := h.st
  exact (min_any g1 g2 h.hk.kept h.hk.up h.hk.last.1 hT (by have := g2.len; have := h.kl; omega)).mono fun e w' ⟨r1, r2⟩ => ⟨r1, h.later r2, r2⟩
theorem min_bad_ls {w0 w : World} {B : Nat} {win last : Int} {had k : List Mk} {m : Nat} (h : LS w0 B win last had k m w) (T : Int) (hT : T < last ∨ 4611686018427387904 < T) :
    Calls Try.prog 11 #[.pointer (some ⟨B, 0, none⟩), .int .i64 T] w fun e w' => e = .returned (.tuple #[.int .i64 0, .bool false]) ∧ LS w0 B win last had k m w' ∧ Below w.heap.size w w' := by
  obtain ⟨a, n, cap, g1, g2, g3, g4⟩ := h.st
  exact (min_bad g1 hT).mono fun e w' ⟨r1, r2⟩ => ⟨r1, h.later r2, r2⟩
theorem len_ls {w0 w : World} {B : Nat} {win last : Int} {had k : List Mk} {m : Nat} (h : LS w0 B win last had k m w) :
    Calls Try.prog 9 #[.pointer (some ⟨B, 0, none⟩)] w fun e w' => e = .returned (.int .i64 k.length) ∧ w = w' := by
  obtain ⟨a, n, cap, g1, g2, g3, g4⟩ := h.st
  rw [g2.len]
  exact len_any g1
theorem last_ls {w0 w : World} {B : Nat} {win last : Int} {had k : List Mk} {m : Nat} (h : LS w0 B win last had k m w) :
    Calls Try.prog 13 #[.pointer (some ⟨B, 0, none⟩)] w fun e w' => e = .returned (.int .i64 last) ∧ w = w' := by
  obtain ⟨a, n, cap, g1, g2, g3, g4⟩ := h.st
  exact last_any g1
theorem clone_ls {w0 w : World} {B : Nat} {win last : Int} {had k : List Mk} {m : Nat} (h : LS w0 B win last had k m w) (hm : m ≤ 1000000) :
    Calls Try.prog 8 #[.pointer (some ⟨B, 0, none⟩)] w fun e w' => ∃ C a' cap', e = .returned (.pointer (some ⟨C, 0, none⟩)) ∧ LwAt w' C win last a' k.length cap' ∧ LS w0 B win last had k m w' ∧ Below w.heap.size w w' ∧ w.heap.size ≤ C := by
  obtain ⟨a, n, cap, g1, g2, g3, g4⟩ := h.st
  rw [g2.len]
  exact (clone_any g1 g2 g4 (by have := g2.len; have := h.kl; omega)).mono fun e w' ⟨C, a', cap', r1, r2, r3, r4⟩ => ⟨C, a', cap', r1, r2, h.later r3, r3, r4⟩

set_option maxHeartbeats 2000000 in
theorem known_any (w : World) : Calls Try.prog 6 #[] w fun x w' => x = .returned (.bool true) ∧ Below w.heap.size w w' := by
  have K1 := Lib.hid (show kstep 10 [] (0, 5) = [(0, 5)] from rfl)
  have K2 := Lib.hid (show kstep 10 [(0, 5)] (3, 7) = [(0, 5), (3, 7)] from rfl)
  have V1 := Lib.hid (show minV 10 9 [(0, 5), (3, 7)] = .tuple #[.int .i64 5, .bool true] from rfl)
  have V2 := Lib.hid (show minV 10 10 [(0, 5), (3, 7)] = .tuple #[.int .i64 7, .bool true] from rfl)
  have V3 := Lib.hid (show minV 10 13 [(0, 5), (3, 7)] = .tuple #[.int .i64 0, .bool false] from rfl)
  go_enter Try.func6, Try.ntmps6
  go_wp2_with (first
    | (go_at_call 7; (with_reducible refine (new_ls (Below.refl _ _) (by decide)).mono ?_); rintro x w1 ⟨b, rfl, S0, q1, q2⟩; clear q1 q2)
    | (go_at_call 10; (with_reducible refine (add_ls S0 (by decide) 0 5 (by decide) (by decide) (by decide) (by decide)).mono ?_); rintro x w1 ⟨rfl, S1, q1, q2⟩; clear S0 q1 q2; rw [K1.out] at S1)
    | (go_at_call 10; (with_reducible refine (add_ls S1 (by decide) 3 7 (by decide) (by decide) (by decide) (by decide)).mono ?_); rintro x w1 ⟨rfl, S2, q1, q2⟩; clear S1 q1 q2; rw [K2.out] at S2)
    | (go_at_call 11; (with_reducible refine (min_ls S2 (by decide) 9 (by decide)).mono ?_); rintro x w1 ⟨rfl, S3, q1⟩; clear S2 q1; rw [V1.out])
    | (go_at_call 11; (with_reducible refine (min_ls S3 (by decide) 10 (by decide)).mono ?_); rintro x w1 ⟨rfl, S4, q1⟩; clear S3 q1; rw [V2.out])
    | (go_at_call 11; (with_reducible refine (min_ls S4 (by decide) 13 (by decide)).mono ?_); rintro x w1 ⟨rfl, S5, q1⟩; clear S4 q1; rw [V3.out])
    | (go_at_call 9; (with_reducible refine (len_ls S5).mono ?_); rintro x w1 ⟨rfl, rfl⟩))
  go_ret
  exact ⟨rfl, S5.below⟩
theorem known_b {w0 w : World} (hb : Below w0.heap.size w0 w) : Calls Try.prog 6 #[] w fun x w' => x = .returned (.bool true) ∧ Below w0.heap.size w0 w' :=
  (known_any w).mono fun x w' ⟨h1, h2⟩ => ⟨h1, hb.trans (h2.mono hb.size)⟩
end Go.Proofs.Ytgonfdedapnlnaa.lo
