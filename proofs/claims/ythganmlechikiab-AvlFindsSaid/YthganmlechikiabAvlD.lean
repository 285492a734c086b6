/-
  Layer 8's reference: Put and Delete walked.
-/
import Derived.Test.YthganmlechikiabAvlC
namespace Go.Proofs.Ythganmlechikiab.av
open Go.RowKit aid mem rng
attribute [local go_sem ↓] Go.wp_at_zero Go.wp_at_succ
set_option linter.unusedVariables false

set_option maxRecDepth 100000 in
set_option maxHeartbeats 4000000 in
theorem rput_mid_true {w : World} {b off n cap : Nat} {l : Ps} (h : PrA w (some ⟨b, off, none⟩) n cap l) (hu : T.Up l) (k v : Int) (hn : n ≤ 100000) (hz : hasL l k = true) (hc : rkL l k + 1 < cap) :
    Calls Try.prog 17 #[.slice (some ⟨b, off, none⟩) n cap, .int .i64 k, .int .i64 v] w (RetP (T.putL k v l) w) := by
  obtain ⟨i0, hi, hz0, hz1, hz2⟩ := info_parts info_pair
  have HR := Lib.hid (rrank_any h hu k (by omega))
  have HH := Lib.hid (rhas_any h hu k (by omega))
  have hle := h.le
  have hmost := h.most
  unfold maxLen at hmost
  have HB0 := Lib.hid (bal' (w := w) (.cells #[] 37))
  have HX := Lib.hid (putL_cut (k := k) (v := v) hu)
  rw [hz] at HX HH
  simp only [if_true, Bool.false_eq_true, if_false] at HX
  have hk := has_lt hu hz
  rw [h.len] at hk
  generalize rkL l k = i at *
  have HS1 := Lib.hid ((h.take (i := i) (by omega)).later HB0.out).src
  have HD := Lib.hid (fun (w' : World) (hb : Below w.heap.size w w') => ((h.drop (i := i + 1) (by omega)).later hb).src)
  clear h hu hz
  go_enter Try.func17, Try.ntmps17
  go_wp2_with (first
      | (go_at_call 18; (with_reducible refine HR.out.mono ?_); rintro e w' ⟨rfl, rfl⟩)
      | (go_at_call 19; (with_reducible refine HH.out.mono ?_); rintro e w' ⟨rfl, rfl⟩)
      | (at_builtin; refine wpList_append_sz _ rfl (.tmp 19) (.tmp 22) 28 28 rfl w.heap.size 37 i0 (.agg #[.int .i64 0, .int .i64 0]) 2 16 Try.underlying28 hi hz0 hz1 (by decide) hz2 rfl (.slice (some ⟨w.heap.size, 0, none⟩) 0 0) 0 [] rfl (own_empty w) _ rfl i (prCells (l.take i)) HS1.out (by unfold maxLen; omega) (by omega) (by first | omega | (simp only [World.size_alloc]; omega)) ?_; intro a1 c1 w1 ho1 hg1 hw1; simp only [List.nil_append, List.append_nil, Nat.zero_add, Nat.add_zero] at ho1 ⊢; have HO1 := Lib.hid ho1; have B1 := HB0.out.trans (grown_below hg1 HB0.out.size (fun k hk => by cases hk; exact Nat.le_refl _)); have hz1' := B1.size; clear ho1 hg1 hw1)
      | (at_builtin; refine wpList_append_sz _ rfl (.tmp 24) (.tmp 28) 28 28 rfl w.heap.size 37 i0 (.agg #[.int .i64 0, .int .i64 0]) 2 16 Try.underlying28 hi hz0 hz1 (by decide) hz2 rfl (.slice a1 (i) c1) i (prCells (l.take i)) rfl (own_alloc HO1.out _) _ rfl 1 [.int .i64 k, .int .i64 v] (pair_src w1 k v) (by unfold maxLen; omega) (by omega) (by first | omega | (simp only [World.size_alloc]; omega)) ?_; intro a2 c2 w2 ho2 hg2 hw2; try (simp only [List.nil_append, List.append_nil, Nat.zero_add, Nat.add_zero] at ho2 ⊢); have HO2 := Lib.hid ho2; have B2 := (B1.trans ((bal' (w := w1) (.cells #[.int .i64 k, .int .i64 v] 37)).mono B1.size)).trans (grown_below hg2 (by simp; omega) (fun k hk => (own_lt HO1.out hk).2)); have hz2' := B2.size; clear ho2 hg2 hw2)
      | (at_builtin; refine wpList_append_sz _ rfl (.tmp 30) (.tmp 33) 28 28 rfl w.heap.size 37 i0 (.agg #[.int .i64 0, .int .i64 0]) 2 16 Try.underlying28 hi hz0 hz1 (by decide) hz2 rfl (.slice a2 (i + 1) c2) (i + 1) ((prCells (l.take i)) ++ [.int .i64 k, .int .i64 v]) rfl HO2.out _ rfl (n - (i + 1)) (prCells (l.drop (i + 1))) (HD.out w2 (B2)) (by unfold maxLen; omega) (by omega) (by first | omega | (simp only [World.size_alloc]; omega)) ?_; intro a3 c3 w3 ho3 hg3 hw3; try (simp only [List.nil_append, List.append_nil, Nat.zero_add, Nat.add_zero] at ho3 ⊢); have HO3 := Lib.hid ho3; have B3 := B2.trans (grown_below hg3 B2.size (fun k hk => (own_lt HO2.out hk).2)); clear ho3 hg3 hw3))
  go_ret
  exact ⟨_, _, _, rfl, by rw [HX.out, prCells_append, prCells_append]; exact HO3.out, B3⟩

set_option maxRecDepth 100000 in
set_option maxHeartbeats 4000000 in
theorem rput_end_true {w : World} {b off n cap : Nat} {l : Ps} (h : PrA w (some ⟨b, off, none⟩) n cap l) (hu : T.Up l) (k v : Int) (hn : n ≤ 100000) (hz : hasL l k = true) (hc : rkL l k + 1 = cap) :
    Calls Try.prog 17 #[.slice (some ⟨b, off, none⟩) n cap, .int .i64 k, .int .i64 v] w (RetP (T.putL k v l) w) := by
  obtain ⟨i0, hi, hz0, hz1, hz2⟩ := info_parts info_pair
  have HR := Lib.hid (rrank_any h hu k (by omega))
  have HH := Lib.hid (rhas_any h hu k (by omega))
  have hle := h.le
  have hmost := h.most
  unfold maxLen at hmost
  have HB0 := Lib.hid (bal' (w := w) (.cells #[] 37))
  have HX := Lib.hid (putL_cut (k := k) (v := v) hu)
  rw [hz] at HX HH
  simp only [if_true, Bool.false_eq_true, if_false] at HX
  have hk := has_lt hu hz
  rw [h.len] at hk
  generalize rkL l k = i at *
  have HE : Hid (l.drop (i + 1) = []) := Lib.hid (List.drop_eq_nil_of_le (by rw [h.len]; omega))
  have HS1 := Lib.hid ((h.take (i := i) (by omega)).later HB0.out).src
  have HD := Lib.hid (fun (w' : World) (hb : Below w.heap.size w w') => (pr_empty w' ⟨b, off, none⟩ 0 (by unfold maxLen; omega)).src)
  clear h hu hz
  obtain rfl : i + 1 = n := by omega
  subst hc
  go_enter Try.func17, Try.ntmps17
  go_wp2_with (first
      | (go_at_call 18; (with_reducible refine HR.out.mono ?_); rintro e w' ⟨rfl, rfl⟩)
      | (go_at_call 19; (with_reducible refine HH.out.mono ?_); rintro e w' ⟨rfl, rfl⟩)
      | (at_builtin; refine wpList_append_sz _ rfl (.tmp 19) (.tmp 22) 28 28 rfl w.heap.size 37 i0 (.agg #[.int .i64 0, .int .i64 0]) 2 16 Try.underlying28 hi hz0 hz1 (by decide) hz2 rfl (.slice (some ⟨w.heap.size, 0, none⟩) 0 0) 0 [] rfl (own_empty w) _ rfl i (prCells (l.take i)) HS1.out (by unfold maxLen; omega) (by omega) (by first | omega | (simp only [World.size_alloc]; omega)) ?_; intro a1 c1 w1 ho1 hg1 hw1; simp only [List.nil_append, List.append_nil, Nat.zero_add, Nat.add_zero] at ho1 ⊢; have HO1 := Lib.hid ho1; have B1 := HB0.out.trans (grown_below hg1 HB0.out.size (fun k hk => by cases hk; exact Nat.le_refl _)); have hz1' := B1.size; clear ho1 hg1 hw1)
      | (at_builtin; refine wpList_append_sz _ rfl (.tmp 24) (.tmp 28) 28 28 rfl w.heap.size 37 i0 (.agg #[.int .i64 0, .int .i64 0]) 2 16 Try.underlying28 hi hz0 hz1 (by decide) hz2 rfl (.slice a1 (i) c1) i (prCells (l.take i)) rfl (own_alloc HO1.out _) _ rfl 1 [.int .i64 k, .int .i64 v] (pair_src w1 k v) (by unfold maxLen; omega) (by omega) (by first | omega | (simp only [World.size_alloc]; omega)) ?_; intro a2 c2 w2 ho2 hg2 hw2; try (simp only [List.nil_append, List.append_nil, Nat.zero_add, Nat.add_zero] at ho2 ⊢); have HO2 := Lib.hid ho2; have B2 := (B1.trans ((bal' (w := w1) (.cells #[.int .i64 k, .int .i64 v] 37)).mono B1.size)).trans (grown_below hg2 (by simp; omega) (fun k hk => (own_lt HO1.out hk).2)); have hz2' := B2.size; clear ho2 hg2 hw2)
      | (at_builtin; refine wpList_append_sz _ rfl (.tmp 30) (.tmp 33) 28 28 rfl w.heap.size 37 i0 (.agg #[.int .i64 0, .int .i64 0]) 2 16 Try.underlying28 hi hz0 hz1 (by decide) hz2 rfl (.slice a2 (i + 1) c2) (i + 1) ((prCells (l.take i)) ++ [.int .i64 k, .int .i64 v]) rfl HO2.out _ rfl 0 [] (HD.out w2 (B2)) (by unfold maxLen; omega) (by omega) (by first | omega | (simp only [World.size_alloc]; omega)) ?_; intro a3 c3 w3 ho3 hg3 hw3; try (simp only [List.nil_append, List.append_nil, Nat.zero_add, Nat.add_zero] at ho3 ⊢); have HO3 := Lib.hid ho3; have B3 := B2.trans (grown_below hg3 B2.size (fun k hk => (own_lt HO2.out hk).2)); clear ho3 hg3 hw3))
  go_ret
  exact ⟨_, _, _, rfl, by rw [HX.out, prCells_append, prCells_append, HE.out, show prCells [] = [] from rfl, List.append_nil]; exact HO3.out, B3⟩

set_option maxRecDepth 100000 in
set_option maxHeartbeats 4000000 in
theorem rput_mid_false {w : World} {b off n cap : Nat} {l : Ps} (h : PrA w (some ⟨b, off, none⟩) n cap l) (hu : T.Up l) (k v : Int) (hn : n ≤ 100000) (hz : hasL l k = false) (hc : rkL l k < cap) :
    Calls Try.prog 17 #[.slice (some ⟨b, off, none⟩) n cap, .int .i64 k, .int .i64 v] w (RetP (T.putL k v l) w) := by
  obtain ⟨i0, hi, hz0, hz1, hz2⟩ := info_parts info_pair
  have HR := Lib.hid (rrank_any h hu k (by omega))
  have HH := Lib.hid (rhas_any h hu k (by omega))
  have hle := h.le
  have hmost := h.most
  unfold maxLen at hmost
  have HB0 := Lib.hid (bal' (w := w) (.cells #[] 37))
  have HX := Lib.hid (putL_cut (k := k) (v := v) hu)
  rw [hz] at HX HH
  simp only [if_true, Bool.false_eq_true, if_false] at HX
  have hk := rk_le l k
  rw [h.len] at hk
  generalize rkL l k = i at *
  have HS1 := Lib.hid ((h.take (i := i) (by omega)).later HB0.out).src
  have HD := Lib.hid (fun (w' : World) (hb : Below w.heap.size w w') => ((h.drop (i := i) (by omega)).later hb).src)
  clear h hu hz
  go_enter Try.func17, Try.ntmps17
  go_wp2_with (first
      | (go_at_call 18; (with_reducible refine HR.out.mono ?_); rintro e w' ⟨rfl, rfl⟩)
      | (go_at_call 19; (with_reducible refine HH.out.mono ?_); rintro e w' ⟨rfl, rfl⟩)
      | (at_builtin; refine wpList_append_sz _ rfl (.tmp 19) (.tmp 22) 28 28 rfl w.heap.size 37 i0 (.agg #[.int .i64 0, .int .i64 0]) 2 16 Try.underlying28 hi hz0 hz1 (by decide) hz2 rfl (.slice (some ⟨w.heap.size, 0, none⟩) 0 0) 0 [] rfl (own_empty w) _ rfl i (prCells (l.take i)) HS1.out (by unfold maxLen; omega) (by omega) (by first | omega | (simp only [World.size_alloc]; omega)) ?_; intro a1 c1 w1 ho1 hg1 hw1; simp only [List.nil_append, List.append_nil, Nat.zero_add, Nat.add_zero] at ho1 ⊢; have HO1 := Lib.hid ho1; have B1 := HB0.out.trans (grown_below hg1 HB0.out.size (fun k hk => by cases hk; exact Nat.le_refl _)); have hz1' := B1.size; clear ho1 hg1 hw1)
      | (at_builtin; refine wpList_append_sz _ rfl (.tmp 24) (.tmp 28) 28 28 rfl w.heap.size 37 i0 (.agg #[.int .i64 0, .int .i64 0]) 2 16 Try.underlying28 hi hz0 hz1 (by decide) hz2 rfl (.slice a1 (i) c1) i (prCells (l.take i)) rfl (own_alloc HO1.out _) _ rfl 1 [.int .i64 k, .int .i64 v] (pair_src w1 k v) (by unfold maxLen; omega) (by omega) (by first | omega | (simp only [World.size_alloc]; omega)) ?_; intro a2 c2 w2 ho2 hg2 hw2; try (simp only [List.nil_append, List.append_nil, Nat.zero_add, Nat.add_zero] at ho2 ⊢); have HO2 := Lib.hid ho2; have B2 := (B1.trans ((bal' (w := w1) (.cells #[.int .i64 k, .int .i64 v] 37)).mono B1.size)).trans (grown_below hg2 (by simp; omega) (fun k hk => (own_lt HO1.out hk).2)); have hz2' := B2.size; clear ho2 hg2 hw2)
      | (at_builtin; refine wpList_append_sz _ rfl (.tmp 30) (.tmp 33) 28 28 rfl w.heap.size 37 i0 (.agg #[.int .i64 0, .int .i64 0]) 2 16 Try.underlying28 hi hz0 hz1 (by decide) hz2 rfl (.slice a2 (i + 1) c2) (i + 1) ((prCells (l.take i)) ++ [.int .i64 k, .int .i64 v]) rfl HO2.out _ rfl (n - (i)) (prCells (l.drop (i))) (HD.out w2 (B2)) (by unfold maxLen; omega) (by omega) (by first | omega | (simp only [World.size_alloc]; omega)) ?_; intro a3 c3 w3 ho3 hg3 hw3; try (simp only [List.nil_append, List.append_nil, Nat.zero_add, Nat.add_zero] at ho3 ⊢); have HO3 := Lib.hid ho3; have B3 := B2.trans (grown_below hg3 B2.size (fun k hk => (own_lt HO2.out hk).2)); clear ho3 hg3 hw3))
  go_ret
  exact ⟨_, _, _, rfl, by rw [HX.out, prCells_append, prCells_append]; exact HO3.out, B3⟩

set_option maxRecDepth 100000 in
set_option maxHeartbeats 4000000 in
theorem rput_end_false {w : World} {b off n cap : Nat} {l : Ps} (h : PrA w (some ⟨b, off, none⟩) n cap l) (hu : T.Up l) (k v : Int) (hn : n ≤ 100000) (hz : hasL l k = false) (hc : rkL l k = cap) :
    Calls Try.prog 17 #[.slice (some ⟨b, off, none⟩) n cap, .int .i64 k, .int .i64 v] w (RetP (T.putL k v l) w) := by
  obtain ⟨i0, hi, hz0, hz1, hz2⟩ := info_parts info_pair
  have HR := Lib.hid (rrank_any h hu k (by omega))
  have HH := Lib.hid (rhas_any h hu k (by omega))
  have hle := h.le
  have hmost := h.most
  unfold maxLen at hmost
  have HB0 := Lib.hid (bal' (w := w) (.cells #[] 37))
  have HX := Lib.hid (putL_cut (k := k) (v := v) hu)
  rw [hz] at HX HH
  simp only [if_true, Bool.false_eq_true, if_false] at HX
  have hk := rk_le l k
  rw [h.len] at hk
  generalize rkL l k = i at *
  have HE : Hid (l.drop (i) = []) := Lib.hid (List.drop_eq_nil_of_le (by rw [h.len]; omega))
  have HS1 := Lib.hid ((h.take (i := i) (by omega)).later HB0.out).src
  have HD := Lib.hid (fun (w' : World) (hb : Below w.heap.size w w') => (pr_empty w' ⟨b, off, none⟩ 0 (by unfold maxLen; omega)).src)
  clear h hu hz
  obtain rfl : i = n := by omega
  subst hc
  go_enter Try.func17, Try.ntmps17
  go_wp2_with (first
      | (go_at_call 18; (with_reducible refine HR.out.mono ?_); rintro e w' ⟨rfl, rfl⟩)
      | (go_at_call 19; (with_reducible refine HH.out.mono ?_); rintro e w' ⟨rfl, rfl⟩)
      | (at_builtin; refine wpList_append_sz _ rfl (.tmp 19) (.tmp 22) 28 28 rfl w.heap.size 37 i0 (.agg #[.int .i64 0, .int .i64 0]) 2 16 Try.underlying28 hi hz0 hz1 (by decide) hz2 rfl (.slice (some ⟨w.heap.size, 0, none⟩) 0 0) 0 [] rfl (own_empty w) _ rfl i (prCells (l.take i)) HS1.out (by unfold maxLen; omega) (by omega) (by first | omega | (simp only [World.size_alloc]; omega)) ?_; intro a1 c1 w1 ho1 hg1 hw1; simp only [List.nil_append, List.append_nil, Nat.zero_add, Nat.add_zero] at ho1 ⊢; have HO1 := Lib.hid ho1; have B1 := HB0.out.trans (grown_below hg1 HB0.out.size (fun k hk => by cases hk; exact Nat.le_refl _)); have hz1' := B1.size; clear ho1 hg1 hw1)
      | (at_builtin; refine wpList_append_sz _ rfl (.tmp 24) (.tmp 28) 28 28 rfl w.heap.size 37 i0 (.agg #[.int .i64 0, .int .i64 0]) 2 16 Try.underlying28 hi hz0 hz1 (by decide) hz2 rfl (.slice a1 (i) c1) i (prCells (l.take i)) rfl (own_alloc HO1.out _) _ rfl 1 [.int .i64 k, .int .i64 v] (pair_src w1 k v) (by unfold maxLen; omega) (by omega) (by first | omega | (simp only [World.size_alloc]; omega)) ?_; intro a2 c2 w2 ho2 hg2 hw2; try (simp only [List.nil_append, List.append_nil, Nat.zero_add, Nat.add_zero] at ho2 ⊢); have HO2 := Lib.hid ho2; have B2 := (B1.trans ((bal' (w := w1) (.cells #[.int .i64 k, .int .i64 v] 37)).mono B1.size)).trans (grown_below hg2 (by simp; omega) (fun k hk => (own_lt HO1.out hk).2)); have hz2' := B2.size; clear ho2 hg2 hw2)
      | (at_builtin; refine wpList_append_sz _ rfl (.tmp 30) (.tmp 33) 28 28 rfl w.heap.size 37 i0 (.agg #[.int .i64 0, .int .i64 0]) 2 16 Try.underlying28 hi hz0 hz1 (by decide) hz2 rfl (.slice a2 (i + 1) c2) (i + 1) ((prCells (l.take i)) ++ [.int .i64 k, .int .i64 v]) rfl HO2.out _ rfl 0 [] (HD.out w2 (B2)) (by unfold maxLen; omega) (by omega) (by first | omega | (simp only [World.size_alloc]; omega)) ?_; intro a3 c3 w3 ho3 hg3 hw3; try (simp only [List.nil_append, List.append_nil, Nat.zero_add, Nat.add_zero] at ho3 ⊢); have HO3 := Lib.hid ho3; have B3 := B2.trans (grown_below hg3 B2.size (fun k hk => (own_lt HO2.out hk).2)); clear ho3 hg3 hw3))
  go_ret
  exact ⟨_, _, _, rfl, by rw [HX.out, prCells_append, prCells_append, HE.out, show prCells [] = [] from rfl, List.append_nil]; exact HO3.out, B3⟩

set_option maxRecDepth 100000 in
set_option maxHeartbeats 4000000 in
theorem rdelete_mid_true {w : World} {b off n cap : Nat} {l : Ps} (h : PrA w (some ⟨b, off, none⟩) n cap l) (hu : T.Up l) (k : Int) (hn : n ≤ 100000) (hz : hasL l k = true) (hc : rkL l k + 1 < cap) :
    Calls Try.prog 29 #[.slice (some ⟨b, off, none⟩) n cap, .int .i64 k] w (RetP (T.delL k l) w) := by
  obtain ⟨i0, hi, hz0, hz1, hz2⟩ := info_parts info_pair
  have HR := Lib.hid (rrank_any h hu k (by omega))
  have HH := Lib.hid (rhas_any h hu k (by omega))
  have hle := h.le
  have hmost := h.most
  unfold maxLen at hmost
  have HB0 := Lib.hid (bal' (w := w) (.cells #[] 37))
  have HX := Lib.hid (delL_has hu hz)
  rw [hz] at HH
  have hk := has_lt hu hz
  rw [h.len] at hk
  generalize rkL l k = i at *
  have HS1 := Lib.hid ((h.take (i := i) (by omega)).later HB0.out).src
  have HD := Lib.hid (fun (w' : World) (hb : Below w.heap.size w w') => ((h.drop (i := i + 1) (by omega)).later hb).src)
  clear h hu hz
  go_enter Try.func29, Try.ntmps29
  go_wp2_with (first
      | (go_at_call 18; (with_reducible refine HR.out.mono ?_); rintro e w' ⟨rfl, rfl⟩)
      | (go_at_call 19; (with_reducible refine HH.out.mono ?_); rintro e w' ⟨rfl, rfl⟩)
      | (at_builtin; refine wpList_append_sz _ rfl (.tmp 15) (.tmp 18) 28 28 rfl w.heap.size 37 i0 (.agg #[.int .i64 0, .int .i64 0]) 2 16 Try.underlying28 hi hz0 hz1 (by decide) hz2 rfl (.slice (some ⟨w.heap.size, 0, none⟩) 0 0) 0 [] rfl (own_empty w) _ rfl i (prCells (l.take i)) HS1.out (by unfold maxLen; omega) (by omega) (by first | omega | (simp only [World.size_alloc]; omega)) ?_; intro a1 c1 w1 ho1 hg1 hw1; simp only [List.nil_append, List.append_nil, Nat.zero_add, Nat.add_zero] at ho1 ⊢; have HO1 := Lib.hid ho1; have B1 := HB0.out.trans (grown_below hg1 HB0.out.size (fun k hk => by cases hk; exact Nat.le_refl _)); have hz1' := B1.size; clear ho1 hg1 hw1)
      | (at_builtin; refine wpList_append_sz _ rfl (.tmp 20) (.tmp 24) 28 28 rfl w.heap.size 37 i0 (.agg #[.int .i64 0, .int .i64 0]) 2 16 Try.underlying28 hi hz0 hz1 (by decide) hz2 rfl (.slice a1 (i) c1) i (prCells (l.take i)) rfl HO1.out _ rfl (n - (i + 1)) (prCells (l.drop (i + 1))) (HD.out w1 (B1)) (by unfold maxLen; omega) (by omega) (by first | omega | (simp only [World.size_alloc]; omega)) ?_; intro a3 c3 w3 ho3 hg3 hw3; try (simp only [List.nil_append, List.append_nil, Nat.zero_add, Nat.add_zero] at ho3 ⊢); have HO3 := Lib.hid ho3; have B3 := B1.trans (grown_below hg3 B1.size (fun k hk => (own_lt HO1.out hk).2)); clear ho3 hg3 hw3))
  go_ret
  exact ⟨_, _, _, rfl, by rw [HX.out, prCells_append]; exact HO3.out, B3⟩

set_option maxRecDepth 100000 in
set_option maxHeartbeats 4000000 in
theorem rdelete_end_true {w : World} {b off n cap : Nat} {l : Ps} (h : PrA w (some ⟨b, off, none⟩) n cap l) (hu : T.Up l) (k : Int) (hn : n ≤ 100000) (hz : hasL l k = true) (hc : rkL l k + 1 = cap) :
    Calls Try.prog 29 #[.slice (some ⟨b, off, none⟩) n cap, .int .i64 k] w (RetP (T.delL k l) w) := by
  obtain ⟨i0, hi, hz0, hz1, hz2⟩ := info_parts info_pair
  have HR := Lib.hid (rrank_any h hu k (by omega))
  have HH := Lib.hid (rhas_any h hu k (by omega))
  have hle := h.le
  have hmost := h.most
  unfold maxLen at hmost
  have HB0 := Lib.hid (bal' (w := w) (.cells #[] 37))
  have HX := Lib.hid (delL_has hu hz)
  rw [hz] at HH
  have hk := has_lt hu hz
  rw [h.len] at hk
  generalize rkL l k = i at *
  have HE : Hid (l.drop (i + 1) = []) := Lib.hid (List.drop_eq_nil_of_le (by rw [h.len]; omega))
  have HS1 := Lib.hid ((h.take (i := i) (by omega)).later HB0.out).src
  have HD := Lib.hid (fun (w' : World) (hb : Below w.heap.size w w') => (pr_empty w' ⟨b, off, none⟩ 0 (by unfold maxLen; omega)).src)
  clear h hu hz
  obtain rfl : i + 1 = n := by omega
  subst hc
  go_enter Try.func29, Try.ntmps29
  go_wp2_with (first
      | (go_at_call 18; (with_reducible refine HR.out.mono ?_); rintro e w' ⟨rfl, rfl⟩)
      | (go_at_call 19; (with_reducible refine HH.out.mono ?_); rintro e w' ⟨rfl, rfl⟩)
      | (at_builtin; refine wpList_append_sz _ rfl (.tmp 15) (.tmp 18) 28 28 rfl w.heap.size 37 i0 (.agg #[.int .i64 0, .int .i64 0]) 2 16 Try.underlying28 hi hz0 hz1 (by decide) hz2 rfl (.slice (some ⟨w.heap.size, 0, none⟩) 0 0) 0 [] rfl (own_empty w) _ rfl i (prCells (l.take i)) HS1.out (by unfold maxLen; omega) (by omega) (by first | omega | (simp only [World.size_alloc]; omega)) ?_; intro a1 c1 w1 ho1 hg1 hw1; simp only [List.nil_append, List.append_nil, Nat.zero_add, Nat.add_zero] at ho1 ⊢; have HO1 := Lib.hid ho1; have B1 := HB0.out.trans (grown_below hg1 HB0.out.size (fun k hk => by cases hk; exact Nat.le_refl _)); have hz1' := B1.size; clear ho1 hg1 hw1)
      | (at_builtin; refine wpList_append_sz _ rfl (.tmp 20) (.tmp 24) 28 28 rfl w.heap.size 37 i0 (.agg #[.int .i64 0, .int .i64 0]) 2 16 Try.underlying28 hi hz0 hz1 (by decide) hz2 rfl (.slice a1 (i) c1) i (prCells (l.take i)) rfl HO1.out _ rfl 0 [] (HD.out w1 (B1)) (by unfold maxLen; omega) (by omega) (by first | omega | (simp only [World.size_alloc]; omega)) ?_; intro a3 c3 w3 ho3 hg3 hw3; try (simp only [List.nil_append, List.append_nil, Nat.zero_add, Nat.add_zero] at ho3 ⊢); have HO3 := Lib.hid ho3; have B3 := B1.trans (grown_below hg3 B1.size (fun k hk => (own_lt HO1.out hk).2)); clear ho3 hg3 hw3))
  go_ret
  exact ⟨_, _, _, rfl, by rw [HX.out, prCells_append, HE.out, show prCells [] = [] from rfl, List.append_nil]; exact HO3.out, B3⟩

set_option maxRecDepth 100000 in
set_option maxHeartbeats 4000000 in
theorem rput_none {w : World} (k v : Int) : Calls Try.prog 17 #[.slice none 0 0, .int .i64 k, .int .i64 v] w (RetP (T.putL k v []) w) := by
  obtain ⟨i0, hi, hz0, hz1, hz2⟩ := info_parts info_pair
  have h : PrA w none 0 0 [] := ⟨rfl, Nat.le_refl _, by unfold maxLen; omega, .inl ⟨rfl, rfl⟩⟩
  have HR := Lib.hid (rrank_any h List.Pairwise.nil k (by omega))
  have HH := Lib.hid (rhas_any h List.Pairwise.nil k (by omega))
  rw [show hasL [] k = false from rfl] at HH
  rw [show rkL [] k = 0 from rfl] at HR
  have HB0 := Lib.hid (bal' (w := w) (.cells #[] 37))
  have HS1 := Lib.hid (h.later HB0.out).src
  have HD := Lib.hid (fun (w' : World) (hb : Below w.heap.size w w') => (h.later hb).src)
  clear h
  go_enter Try.func17, Try.ntmps17
  go_wp2_with (first
      | (go_at_call 18; (with_reducible refine HR.out.mono ?_); rintro e w' ⟨rfl, rfl⟩)
      | (go_at_call 19; (with_reducible refine HH.out.mono ?_); rintro e w' ⟨rfl, rfl⟩)
      | (at_builtin; refine wpList_append_sz _ rfl (.tmp 19) (.tmp 22) 28 28 rfl w.heap.size 37 i0 (.agg #[.int .i64 0, .int .i64 0]) 2 16 Try.underlying28 hi hz0 hz1 (by decide) hz2 rfl (.slice (some ⟨w.heap.size, 0, none⟩) 0 0) 0 [] rfl (own_empty w) _ rfl 0 [] HS1.out (by unfold maxLen; omega) (by omega) (by first | omega | (simp only [World.size_alloc]; omega)) ?_; intro a1 c1 w1 ho1 hg1 hw1; simp only [List.nil_append, List.append_nil, Nat.zero_add, Nat.add_zero] at ho1 ⊢; have HO1 := Lib.hid ho1; have B1 := HB0.out.trans (grown_below hg1 HB0.out.size (fun k hk => by cases hk; exact Nat.le_refl _)); have hz1' := B1.size; clear ho1 hg1 hw1)
      | (at_builtin; refine wpList_append_sz _ rfl (.tmp 24) (.tmp 28) 28 28 rfl w.heap.size 37 i0 (.agg #[.int .i64 0, .int .i64 0]) 2 16 Try.underlying28 hi hz0 hz1 (by decide) hz2 rfl (.slice a1 (0) c1) 0 [] rfl (own_alloc HO1.out _) _ rfl 1 [.int .i64 k, .int .i64 v] (pair_src w1 k v) (by unfold maxLen; omega) (by omega) (by first | omega | (simp only [World.size_alloc]; omega)) ?_; intro a2 c2 w2 ho2 hg2 hw2; try (simp only [List.nil_append, List.append_nil, Nat.zero_add, Nat.add_zero] at ho2 ⊢); have HO2 := Lib.hid ho2; have B2 := (B1.trans ((bal' (w := w1) (.cells #[.int .i64 k, .int .i64 v] 37)).mono B1.size)).trans (grown_below hg2 (by simp; omega) (fun k hk => (own_lt HO1.out hk).2)); have hz2' := B2.size; clear ho2 hg2 hw2)
      | (at_builtin; refine wpList_append_sz _ rfl (.tmp 30) (.tmp 33) 28 28 rfl w.heap.size 37 i0 (.agg #[.int .i64 0, .int .i64 0]) 2 16 Try.underlying28 hi hz0 hz1 (by decide) hz2 rfl (.slice a2 (1) c2) (1) ([.int .i64 k, .int .i64 v]) rfl HO2.out _ rfl 0 [] (HD.out w2 (B2)) (by unfold maxLen; omega) (by omega) (by first | omega | (simp only [World.size_alloc]; omega)) ?_; intro a3 c3 w3 ho3 hg3 hw3; try (simp only [List.nil_append, List.append_nil, Nat.zero_add, Nat.add_zero] at ho3 ⊢); have HO3 := Lib.hid ho3; have B3 := B2.trans (grown_below hg3 B2.size (fun k hk => (own_lt HO2.out hk).2)); clear ho3 hg3 hw3))
  go_ret
  exact ⟨_, _, _, rfl, by skip; exact HO3.out, B3⟩

theorem rput_any {w : World} {a : Option Addr} {n cap : Nat} {l : Ps} (h : PrA w a n cap l) (hu : T.Up l) (k v : Int) (hn : n ≤ 100000) :
    Calls Try.prog 17 #[.slice a n cap, .int .i64 k, .int .i64 v] w (RetP (T.putL k v l) w) := by
  have hk := rk_le l k
  rw [h.len] at hk
  have hle := h.le
  rcases h.cells with ⟨rfl, h0⟩ | ⟨b, off, rfl, _⟩
  · subst h0
    obtain rfl : n = 0 := by omega
    obtain rfl : l = [] := List.eq_nil_of_length_eq_zero h.len
    exact rput_none k v
  · cases hz : hasL l k with
    | true =>
      have := has_lt hu hz
      rw [h.len] at this
      by_cases hc : rkL l k + 1 = cap
      · exact rput_end_true h hu k v hn hz hc
      · exact rput_mid_true h hu k v hn hz (by omega)
    | false =>
      by_cases hc : rkL l k = cap
      · exact rput_end_false h hu k v hn hz hc
      · exact rput_mid_false h hu k v hn hz (by omega)
/-- a list is handed back: the same, or one in new memory -/
def RetQ8 (L l : Ps) (a : Option Addr) (n cap : Nat) (w : World) (e : Ending) (w' : World) : Prop := (e = .returned (.slice a n cap) ∧ L = l ∧ w = w') ∨ RetP L w e w'
set_option maxHeartbeats 1000000 in
theorem rdelete_any {w : World} {a : Option Addr} {n cap : Nat} {l : Ps} (h : PrA w a n cap l) (hu : T.Up l) (k : Int) (hn : n ≤ 100000) :
    Calls Try.prog 29 #[.slice a n cap, .int .i64 k] w (RetQ8 (T.delL k l) l a n cap w) := by
  cases hz : hasL l k with
  | true =>
    have := has_lt hu hz
    rw [h.len] at this
    have hle := h.le
    rcases h.cells with ⟨rfl, h0⟩ | ⟨b, off, rfl, _⟩
    · omega
    · by_cases hc : rkL l k + 1 = cap
      · exact (rdelete_end_true h hu k hn hz hc).mono fun e w' h => .inr h
      · exact (rdelete_mid_true h hu k hn hz (by omega)).mono fun e w' h => .inr h
  | false =>
    have HH := Lib.hid (rhas_any h hu k (by omega))
    have HX := Lib.hid (delL_not hu hz)
    rw [hz] at HH
    clear hz h hu
    go_enter Try.func29, Try.ntmps29
    go_wp2_with (go_at_call 19; (with_reducible refine HH.out.mono ?_); rintro e w' ⟨rfl, rfl⟩)
    go_ret
    exact .inl ⟨rfl, HX.out, rfl⟩
end Go.Proofs.Ythganmlechikiab.av
