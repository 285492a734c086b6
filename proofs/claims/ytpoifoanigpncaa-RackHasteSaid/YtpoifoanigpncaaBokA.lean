/-
  Package book: Again, Lose.
-/
import Derived.Test.YtpoifoanigpncaaBokS
namespace Go.Proofs.Ytpoifoanigpncaa.bk
open Go.RowKit aid mem sp
attribute [local go_sem ↓] Go.wp_at_zero Go.wp_at_succ
set_option linter.unusedVariables false
set_option linter.unusedSimpArgs false

theorem perm_mid {P Q N1 N2 : List Nd} {x y : Nd} (h : (P ++ x :: Q).Perm (N1 ++ x :: N2)) : (P ++ Q).Perm (N1 ++ N2) ∧ (P ++ y :: Q).Perm (N1 ++ y :: N2) ∧ ((P ++ Q) ++ [y]).Perm (N1 ++ y :: N2) := by
  have h1 : (x :: (P ++ Q)).Perm (x :: (N1 ++ N2)) := (List.perm_middle.symm.trans h).trans List.perm_middle
  have h2 := h1.cons_inv
  have h3 : (y :: (P ++ Q)).Perm (N1 ++ y :: N2) := (h2.cons y).trans List.perm_middle.symm
  exact ⟨h2, List.perm_middle.trans h3, (List.perm_append_comm (l₁ := P ++ Q) (l₂ := [y])).trans h3⟩
theorem up_mid {N1 N2 : List Nd} {n : Nat} {r r' : Rc} {nxt : Int} (h : Up (N1 ++ (n, r) :: N2) nxt) (hf : r'.f = r.f) (ht : r'.t = r.t) : Up (N1 ++ (n, r') :: N2) nxt := by
  have e : ∀ x ∈ N1 ++ (n, r') :: N2, ∃ y ∈ N1 ++ (n, r) :: N2, x.2.f = y.2.f ∧ x.2.t = y.2.t := fun x hx => by
    rcases List.mem_append.1 hx with hx | hx
    · exact ⟨x, by simp [hx], rfl, rfl⟩
    · rcases List.mem_cons.1 hx with rfl | hx
      · exact ⟨(n, r), by simp, hf, ht⟩
      · exact ⟨x, by simp [hx], rfl, rfl⟩
  refine ⟨fun x hx => ?_, ?_⟩
  · obtain ⟨y, hy, e1, e2⟩ := e x hx
    rw [e1, e2]; exact h.ok y hy
  · obtain ⟨h1, h2, h3⟩ := List.pairwise_append.1 h.up
    obtain ⟨h4, h5⟩ := List.pairwise_cons.1 h2
    refine List.pairwise_append.2 ⟨h1, List.pairwise_cons.2 ⟨fun y hy => by have := h4 y hy; simp only at this ⊢; omega, h5⟩, fun x hx y hy => ?_⟩
    rcases List.mem_cons.1 hy with rfl | hy
    · have := h3 x hx (n, r) (by simp); simp only at this ⊢; omega
    · exact h3 x hx y (List.mem_cons_of_mem _ hy)
theorem kv_mid {N1 N2 : List Nd} {n : Nat} {r r' : Rc} (hf : r'.f = r.f) : kvN (N1 ++ (n, r') :: N2) = kvN (N1 ++ (n, r) :: N2) := by simp [kvN, hf]
/-- where a From is found -/
theorem get_mid {N1 N2 : List Nd} {n : Nat} {r : Rc} {nxt : Int} (h : Up (N1 ++ (n, r) :: N2) nxt) : cv.getL (kvN (N1 ++ (n, r) :: N2)) r.f = some (some ⟨n, 0, none⟩) := by
  unfold cv.getL
  have hn : ∀ x ∈ kvN N1, x.1 ≠ r.f := fun x hx => by
    obtain ⟨y, hy, rfl⟩ := List.mem_map.1 hx
    have h1 := (List.pairwise_append.1 h.up).2.2 y hy (n, r) (by simp)
    have h2 := (h.ok y (by simp [hy])).1
    simp only at h1 ⊢
    omega
  rw [show kvN (N1 ++ (n, r) :: N2) = kvN N1 ++ (r.f, some ⟨n, 0, none⟩) :: kvN N2 from by simp [kvN]]
  rw [List.find?_append, cv.find_none hn, List.find?_cons]
  simp
theorem get_no {N : List Nd} {k : Int} (h : ∀ x ∈ N, x.2.f ≠ k) : cv.getL (kvN N) k = none := by
  unfold cv.getL
  rw [cv.find_none (fun x hx => by obtain ⟨y, hy, rfl⟩ := List.mem_map.1 hx; exact h y hy)]
  rfl
theorem nb_fp {B T : Nat} {L P Q : List Nd} {n : Nat} {r : Rc} (hL : L = P ++ (n, r) :: Q) : ∀ x ∈ B :: n :: (Nb (la none P) ++ Nb (hd none Q)), x ∈ fp B T L := by
  intro x hx
  subst hL
  simp only [List.mem_cons, List.mem_append] at hx
  rcases hx with rfl | rfl | hx | hx
  · simp [fp]
  · simp [fp]
  · cases hl : la none P with
    | none => rw [hl] at hx; simp [Nb] at hx
    | some b =>
      rw [hl] at hx
      simp [Nb] at hx
      subst hx
      obtain ⟨l', r', rfl⟩ := la_mem hl
      simp [fp]
  · cases Q with
    | nil => simp [hd, Nb] at hx
    | cons q Q =>
      simp [hd, Nb] at hx
      subst hx
      simp [fp]
theorem nb_T {w : World} {B T : Nat} {s : Hd} {N L P Q : List Nd} {n : Nat} {r : Rc} (h : Bk w B T s N L) (hL : L = P ++ (n, r) :: Q) : T ∉ B :: n :: (Nb (la none P) ++ Nb (hd none Q)) := by
  intro hx
  have htl := h.tl
  subst hL
  simp only [List.mem_cons, List.mem_append] at hx
  rcases hx with e | e | hx | hx
  · exact h.tb e
  · exact htl (n, r) (by simp) e.symm
  · cases hl : la none P with
    | none => rw [hl] at hx; simp [Nb] at hx
    | some b =>
      rw [hl] at hx
      simp [Nb] at hx
      subst hx
      obtain ⟨l', r', rfl⟩ := la_mem hl
      exact htl (T, r') (by simp) rfl
  · cases Q with
    | nil => simp [hd, Nb] at hx
    | cons q Q =>
      simp [hd, Nb] at hx
      exact htl q (by simp) hx.symm
/-- a record is changed where it lies -/
theorem Bk.lost {w w' : World} {B T : Nat} {s : Hd} {N1 N2 P Q : List Nd} {n : Nat} {r r' : Rc} (h : Bk w B T s (N1 ++ (n, r) :: N2) (P ++ (n, r) :: Q)) (hf : r'.f = r.f) (ht : r'.t = r.t) (hk : Kept [n] w w') (hn : NdAt w' n r' (la none P) (hd none Q)) :
    Bk w' B T s (N1 ++ (n, r') :: N2) (P ++ (n, r') :: Q) := by
  obtain ⟨d1, d2, d3, d4⟩ := nodup_mid h.ln.nd
  have hnB := h.ln.nB (n, r) (by simp)
  have hnT := h.tl (n, r) (by simp)
  obtain ⟨t, h2, h3⟩ := h.tr
  have e : ∀ x ∈ P ++ (n, r') :: Q, ∃ y ∈ P ++ (n, r) :: Q, x.1 = y.1 := fun x hx => by
    rcases List.mem_append.1 hx with hx | hx
    · exact ⟨x, by simp [hx], rfl⟩
    · rcases List.mem_cons.1 hx with rfl | hx
      · exact ⟨(n, r), by simp, rfl⟩
      · exact ⟨x, by simp [hx], rfl⟩
  obtain ⟨s1, s2, s3⟩ := seg_append.1 h.ln.sg
  refine ⟨⟨?_, seg_append.2 ⟨seg_kept hk (fun x hx => by simpa using d2 x hx) s1, hn, seg_kept hk (fun x hx => by simpa using d3 x hx) s3⟩, ?_, fun x hx => by obtain ⟨y, hy, e⟩ := e x hx; rw [e]; exact h.ln.nB y hy⟩, ⟨t, tr_kept h2 hk (by simpa using hnT.symm) (fun k hk' _ cs he => ?_), by rw [h3]; exact (kv_mid hf).symm⟩, h.tb, fun x hx => by obtain ⟨y, hy, e⟩ := e x hx; rw [e]; exact h.tl y hy, (perm_mid h.perm).2.1, up_mid h.up hf ht, h.n0⟩
  · have b := h.ln.bk.keep hk (by simpa using hnB.symm)
    have e1 : hd none (P ++ (n, r') :: Q) = hd none (P ++ (n, r) :: Q) := by rw [hd_append, hd_append]; rfl
    have e2 : la none (P ++ (n, r') :: Q) = la none (P ++ (n, r) :: Q) := by rw [la_append, la_append]; rfl
    rw [e1, e2]; exact b
  · have := h.ln.nd; simpa using this
  · simp at hk'
    subst hk'
    have hnn : NdAt w k r _ _ := s2
    rw [show w.heap[k]? = _ from hnn] at he
    simp at he
set_option maxHeartbeats 1000000 in
theorem blose_no {w : World} {B T : Nat} {s : Hd} {N L : List Nd} (h : Bk w B T s N L) (k : Int) (hk : ∀ x ∈ N, x.2.f ≠ k) :
    Calls Try.prog 39 #[.pointer (some ⟨B, 0, none⟩), .int .i64 k] w fun e w' => e = .returned (.int .i64 10) ∧ Below w.heap.size w w' := by
  obtain ⟨c0, c1, c2, c3, c4, c5⟩ := h.ln.bk.cs
  obtain ⟨t, ht, htL⟩ := h.tr
  have HG := Lib.hid (cv.get_any ht.o k (by rw [htL]; exact h.up.tree))
  rw [htL, get_no hk] at HG
  clear ht htL h hk
  go_enter Try.func39, Try.ntmps39
  go_wp2_with (go_at_call 55; (with_reducible refine HG.out.mono ?_); rintro e w1 ⟨rfl, hb⟩; unfold cv.tup2)
  go_ret
  exact ⟨rfl, hb⟩
set_option maxHeartbeats 1000000 in
theorem blose_yes {w : World} {B T : Nat} {s : Hd} {N1 N2 P Q : List Nd} {n : Nat} {r : Rc} (h : Bk w B T s (N1 ++ (n, r) :: N2) (P ++ (n, r) :: Q)) :
    Calls Try.prog 39 #[.pointer (some ⟨B, 0, none⟩), .int .i64 r.f] w fun e w' => e = .returned (.int .i64 (if r.lost then 13 else 0)) ∧ Bk w' B T s (N1 ++ (n, r.lose) :: N2) (P ++ (n, r.lose) :: Q) ∧ Kept (fp B T (P ++ (n, r) :: Q)) w w' := by
  obtain ⟨c0, c1, c2, c3, c4, c5⟩ := h.ln.bk.cs
  obtain ⟨t, ht, htL⟩ := h.tr
  have HG := Lib.hid (cv.get_any ht.o r.f (by rw [htL]; exact h.up.tree))
  rw [htL, get_mid h.up] at HG
  have H := Lib.hid h
  clear ht htL h
  cases hlo : r.lost with
  | true =>
    have HLO := Lib.hid hlo
    clear hlo
    go_enter Try.func39, Try.ntmps39
    go_wp2_with (first
      | (go_at_call 55; (with_reducible refine HG.out.mono ?_); rintro e w1 ⟨rfl, hb⟩; unfold cv.tup2; have hn := (seg_append.1 (H.out.later hb).ln.sg).2.1)
      | (go_at_call 57; (with_reducible refine (lose_any hn).mono ?_); rintro e w2 ⟨rfl, n2, k2⟩; rw [HLO.out]))
    go_ret
    exact ⟨rfl, (H.out.later hb).lost rfl rfl k2 n2, (Kept.of_below hb (Nat.le_refl _) _).trans k2 (fun x hx => .inl (by simp at hx; subst hx; simp [fp]))⟩
  | false =>
    have HLO := Lib.hid hlo
    clear hlo
    go_enter Try.func39, Try.ntmps39
    go_wp2_with (first
      | (go_at_call 55; (with_reducible refine HG.out.mono ?_); rintro e w1 ⟨rfl, hb⟩; unfold cv.tup2; have hn := (seg_append.1 (H.out.later hb).ln.sg).2.1)
      | (go_at_call 57; (with_reducible refine (lose_any hn).mono ?_); rintro e w2 ⟨rfl, n2, k2⟩; rw [HLO.out]))
    go_ret
    exact ⟨rfl, (H.out.later hb).lost rfl rfl k2 n2, (Kept.of_below hb (Nat.le_refl _) _).trans k2 (fun x hx => .inl (by simp at hx; subst hx; simp [fp]))⟩
/-- a write to some other block changes nothing of the book -/
theorem Bk.other {w w' : World} {B T X : Nat} {s : Hd} {N L : List Nd} (h : Bk w B T s N L) (hk : Kept [X] w w') (hX : X ∉ fp B T L) (ht : ∀ cs, w.heap[X]? ≠ some (.cells cs 138 (0, 0))) : Bk w' B T s N L := by
  obtain ⟨t, h2, h3⟩ := h.tr
  simp only [fp, List.mem_cons, List.mem_map, not_or] at hX
  obtain ⟨x1, x2, x3⟩ := hX
  exact ⟨h.ln.kept hk (by simpa using fun e => x1 e.symm) (fun x hx => by simp; exact fun e => x3 ⟨x, hx, e⟩), ⟨t, tr_kept h2 hk (by simpa using fun e => x2 e.symm) (fun k hk' _ cs e => by simp at hk'; subst hk'; exact ht cs e), h3⟩, h.tb, h.tl, h.perm, h.up, h.n0⟩
theorem kp7 (w : World) (X : Nat) (a b c d e f g : Value) : Kept [X] w (((((((w.setCell ⟨X, 0, none⟩ a).setCell ⟨X, 1, none⟩ b).setCell ⟨X, 2, none⟩ c).setCell ⟨X, 3, none⟩ d).setCell ⟨X, 4, none⟩ e).setCell ⟨X, 5, none⟩ f).setCell ⟨X, 6, none⟩ g) :=
  (((((((Kept.refl [X] w).setCell (.inl (by simp)) a).setCell (.inl (by simp)) b).setCell (.inl (by simp)) c).setCell (.inl (by simp)) d).setCell (.inl (by simp)) e).setCell (.inl (by simp)) f).setCell (.inl (by simp)) g
theorem put7 {w : World} {X : Nat} {u0 u1 u2 u3 u4 u5 u6 : Value} {T : TypeId} (h : w.heap[X]? = some (.cells #[u0, u1, u2, u3, u4, u5, u6] T (0, 0))) (a b c d e f g : Value) :
    (((((((w.setCell ⟨X, 0, none⟩ a).setCell ⟨X, 1, none⟩ b).setCell ⟨X, 2, none⟩ c).setCell ⟨X, 3, none⟩ d).setCell ⟨X, 4, none⟩ e).setCell ⟨X, 5, none⟩ f).setCell ⟨X, 6, none⟩ g).heap[X]? = some (.cells #[a, b, c, d, e, f, g] T (0, 0)) :=
  by
  have h1 := (setp (i := 0) h a).trans (show _ = some (Obj.cells #[a, u1, u2, u3, u4, u5, u6] T (0, 0)) from rfl)
  have h2 := (setp (i := 1) h1 b).trans (show _ = some (Obj.cells #[a, b, u2, u3, u4, u5, u6] T (0, 0)) from rfl)
  have h3 := (setp (i := 2) h2 c).trans (show _ = some (Obj.cells #[a, b, c, u3, u4, u5, u6] T (0, 0)) from rfl)
  have h4 := (setp (i := 3) h3 d).trans (show _ = some (Obj.cells #[a, b, c, d, u4, u5, u6] T (0, 0)) from rfl)
  have h5 := (setp (i := 4) h4 e).trans (show _ = some (Obj.cells #[a, b, c, d, e, u5, u6] T (0, 0)) from rfl)
  have h6 := (setp (i := 5) h5 f).trans (show _ = some (Obj.cells #[a, b, c, d, e, f, u6] T (0, 0)) from rfl)
  exact (setp (i := 6) h6 g).trans rfl
abbrev zV : Value := .agg #[.int .i64 0, .int .i64 0, .int .i64 0, .int .i64 0, .int .i64 0, .int .i64 0, .bool false]
abbrev zO : Obj := .cells #[.int .i64 0, .int .i64 0, .int .i64 0, .int .i64 0, .int .i64 0, .int .i64 0, .bool false] 26
set_option maxHeartbeats 1000000 in
theorem again_may {w : World} {B T : Nat} {s : Hd} {N L : List Nd} (h : Bk w B T s N L) (k now : Int) (hm : (decide (s.now ≤ now) && decide (now ≤ 4611686018427387904)) = false) :
    Calls Try.prog 37 #[.pointer (some ⟨B, 0, none⟩), .int .i64 k, .int .i64 now] w fun e w' => e = .returned (.tuple #[zV, .int .i64 3]) ∧ Below w.heap.size w w' := by
  have HM := Lib.hid (may_eq (h.ln.bk.later (al w zO)) now)
  rw [hm] at HM
  clear h hm
  go_enter Try.func37, Try.ntmps37
  go_wp2_with (go_at_call 51; (with_reducible refine HM.out.mono ?_); rintro e w1 ⟨rfl, rfl⟩)
  exact bodyPost_ret (v := .tuple #[zV, .int .i64 3]) (by simp [results, Try.results37, go_sem]) rfl ⟨rfl, al _ _⟩
set_option maxHeartbeats 1000000 in
theorem again_no {w : World} {B T : Nat} {s : Hd} {N L : List Nd} (h : Bk w B T s N L) (k now : Int) (hm : (decide (s.now ≤ now) && decide (now ≤ 4611686018427387904)) = true) (hk : ∀ x ∈ N, x.2.f ≠ k) :
    Calls Try.prog 37 #[.pointer (some ⟨B, 0, none⟩), .int .i64 k, .int .i64 now] w fun e w' => e = .returned (.tuple #[zV, .int .i64 10]) ∧ Below w.heap.size w w' := by
  have b0 := al w zO
  have y0 := heap_alloc_new w zO
  have h1 := h.later b0
  have HM := Lib.hid (may_eq h1.ln.bk now)
  rw [hm] at HM
  obtain ⟨c0, c1, c2, c3, c4, c5⟩ := h1.ln.bk.cs
  obtain ⟨t, ht, htL⟩ := h1.tr
  have HG := Lib.hid (cv.get_any ht.o k (by rw [htL]; exact h1.up.tree))
  rw [htL, get_no hk] at HG
  have HY := Lib.hid y0
  clear ht htL h h1 hm hk y0
  go_enter Try.func37, Try.ntmps37
  go_wp2_with (first
    | (go_at_call 51; (with_reducible refine HM.out.mono ?_); rintro e w1 ⟨rfl, rfl⟩)
    | (go_at_call 55; (with_reducible refine HG.out.mono ?_); rintro e w2 ⟨rfl, hb⟩; unfold cv.tup2; have y2 := (hb.block _ (by simp)).trans HY.out; have z0 := cofr y2 0 _ rfl; have z1 := cofr y2 1 _ rfl; have z2 := cofr y2 2 _ rfl; have z3 := cofr y2 3 _ rfl; have z4 := cofr y2 4 _ rfl; have z5 := cofr y2 5 _ rfl; have z6 := cofr y2 6 _ rfl; have f0 := fofr y2 0; have f1 := fofr y2 1; have f2 := fofr y2 2; have f3 := fofr y2 3; have f4 := fofr y2 4; have f5 := fofr y2 5; have f6 := fofr y2 6; clear y2))
  exact bodyPost_ret (v := .tuple #[zV, .int .i64 10]) (by simp [results, Try.results37, go_sem, set_same, set_other, z0, z1, z2, z3, z4, z5, z6]) rfl ⟨rfl, b0.trans ((hb.mono (b0.size)).trans ((kp7 w2 w.heap.size _ _ _ _ _ _ _).below (by simp) (Nat.le_trans b0.size hb.size)))⟩
theorem Bk.again {w1 w2 w3 : World} {B T : Nat} {s : Hd} {N1 N2 P Q : List Nd} {n : Nat} {r r' : Rc} {now : Int} (h : Bk w1 B T s (N1 ++ (n, r) :: N2) (P ++ (n, r) :: Q)) (hf : r'.f = r.f) (ht : r'.t = r.t)
    (hc : CutP B T n s P Q r w1 w2) (hl : Ln w3 B (s.goes now) T ((P ++ Q) ++ [(n, r')])) (hk : Kept (B :: n :: Nb (la none (P ++ Q))) w2 w3) :
    Bk w3 B T (s.goes now) (N1 ++ (n, r') :: N2) ((P ++ Q) ++ [(n, r')]) ∧ Kept (fp B T (P ++ (n, r) :: Q)) w1 w3 := by
  have k12 : Kept (fp B T (P ++ (n, r) :: Q)) w1 w2 := hc.2.2.mono (fun x hx => .inl (nb_fp rfl x hx))
  have hsub : ∀ x ∈ B :: n :: Nb (la none (P ++ Q)), x ∈ fp B T (P ++ (n, r) :: Q) := by
    intro x hx
    simp only [List.mem_cons] at hx
    rcases hx with rfl | rfl | hx
    · simp [fp]
    · simp [fp]
    · cases hl : la none (P ++ Q) with
      | none => rw [hl] at hx; simp [Nb] at hx
      | some b =>
        rw [hl] at hx
        simp [Nb] at hx
        subst hx
        obtain ⟨l', q, he⟩ := la_mem hl
        have : (x, q) ∈ P ++ Q := by rw [he]; simp
        rcases List.mem_append.1 this with h | h
        · simp only [fp, List.mem_cons, List.mem_map]; exact .inr (.inr ⟨(x, q), by simp [h], rfl⟩)
        · simp only [fp, List.mem_cons, List.mem_map]; exact .inr (.inr ⟨(x, q), by simp [h], rfl⟩)
  have k13 := k12.trans hk (fun x hx => .inl (hsub x hx))
  have hTn : ∀ x ∈ B :: n :: Nb (la none (P ++ Q)), x ≠ T := by
    intro x hx e
    have hm := hsub x hx
    simp only [List.mem_cons] at hx
    rcases hx with rfl | rfl | hx
    · exact h.tb e.symm
    · exact h.tl (x, r) (by simp) e
    · cases hl : la none (P ++ Q) with
      | none => rw [hl] at hx; simp [Nb] at hx
      | some b =>
        rw [hl] at hx
        simp [Nb] at hx
        subst hx
        obtain ⟨l', q, he⟩ := la_mem hl
        have : (x, q) ∈ P ++ Q := by rw [he]; simp
        refine h.tl (x, q) ?_ e
        rcases List.mem_append.1 this with h | h <;> simp [h]
  obtain ⟨t, h2, h3⟩ := h.tr
  have t2 := tr_kept h2 hc.2.2 (nb_T h rfl) (fun k hk' _ => h.notree k (nb_fp rfl k hk'))
  have t3 := tr_kept t2 hk (fun e => hTn T e rfl) (fun k hk' hlt cs he => by
    simp only [List.mem_cons] at hk'
    rcases hk' with rfl | rfl | hk'
    · rw [show _ = _ from hc.1.bk] at he; simp at he
    · rw [show _ = _ from hc.2.1] at he; simp at he
    · cases hl : la none (P ++ Q) with
      | none => rw [hl] at hk'; simp [Nb] at hk'
      | some b =>
        rw [hl] at hk'
        simp [Nb] at hk'
        subst hk'
        obtain ⟨l', q, hle⟩ := la_mem hl
        obtain ⟨p1, p2, hn⟩ := seg_mem hc.1.sg (x := (k, q)) (by rw [hle]; simp)
        rw [show _ = _ from hn] at he; simp at he)
  refine ⟨⟨hl, ⟨t, t3, by rw [h3]; exact (kv_mid hf).symm⟩, h.tb, fun x hx => ?_, (perm_mid h.perm).2.2, up_mid h.up hf ht, h.n0⟩, k13⟩
  rcases List.mem_append.1 hx with hx | hx
  · refine h.tl x ?_
    rcases List.mem_append.1 hx with h | h <;> simp [h]
  · simp at hx; subst hx; exact h.tl (n, r) (by simp)
set_option maxRecDepth 100000 in
set_option maxHeartbeats 2000000 in
theorem again_yes {w : World} {B T : Nat} {s : Hd} {N1 N2 P Q : List Nd} {n : Nat} {r : Rc} (h : Bk w B T s (N1 ++ (n, r) :: N2) (P ++ (n, r) :: Q)) (now : Int) (hm : (decide (s.now ≤ now) && decide (now ≤ 4611686018427387904)) = true)
    (h0 : -4611686018427387904 ≤ s.sent ∧ s.sent ≤ 4611686018427387904) (h1 : -4611686018427387904 ≤ r.times ∧ r.times ≤ 4611686018427387904) (h2 : -4611686018427387904 ≤ r.out ∧ r.out ≤ 4611686018427387904) :
    Calls Try.prog 37 #[.pointer (some ⟨B, 0, none⟩), .int .i64 r.f, .int .i64 now] w fun e w' => e = .returned (.tuple #[rcV (r.goes now (s.sent + 1)), .int .i64 0]) ∧ Bk w' B T (s.goes now) (N1 ++ (n, r.goes now (s.sent + 1)) :: N2) ((P ++ Q) ++ [(n, r.goes now (s.sent + 1))]) ∧ Kept (fp B T (P ++ (n, r) :: Q)) w w' := by
  have b0 := al w zO
  have y0 := heap_alloc_new w zO
  have h1' := h.later b0
  have HM := Lib.hid (may_eq h1'.ln.bk now)
  rw [hm] at HM
  obtain ⟨c0, c1, c2, c3, c4, c5⟩ := h1'.ln.bk.cs
  obtain ⟨t, ht, htL⟩ := h1'.tr
  have HG := Lib.hid (cv.get_any ht.o r.f (by rw [htL]; exact h1'.up.tree))
  rw [htL, get_mid h.up] at HG
  have HY := Lib.hid y0
  have HH := Lib.hid h1'
  have HX := Lib.hid h.lt
  clear ht htL h h1' hm y0
  go_enter Try.func37, Try.ntmps37
  go_wp2_with (first
    | (go_at_call 51; (with_reducible refine HM.out.mono ?_); rintro e w1 ⟨rfl, rfl⟩)
    | (go_at_call 55; (with_reducible refine HG.out.mono ?_); rintro e w2 ⟨rfl, hb⟩; unfold cv.tup2; have g2 := HH.out.later hb)
    | (go_at_call 56; (with_reducible refine (cut_any g2.ln).mono ?_); rintro e w3 ⟨⟨v, rfl⟩, hcut⟩; obtain ⟨hc1, hc2, hc3⟩ := id hcut; have hnb := g2.ln.nB (n, r) (by simp); have hnl : ∀ x ∈ P ++ Q, x.1 ≠ n := (fun x hx => by obtain ⟨d1, d2, d3, d4⟩ := nodup_mid g2.ln.nd; rcases List.mem_append.1 hx with hx | hx; exact d2 x hx; exact d3 x hx))
    | (go_at_call 52; go_must ((with_reducible refine (bgoes_any hc1 hc2 hnb hnl now h0 h1 h2).mono ?_); rintro e w4 ⟨⟨v, rfl⟩, l4, k4⟩; obtain ⟨bk4, kk4⟩ := g2.again (r' := r.goes now (s.sent + 1)) rfl rfl hcut l4 k4; have HB4 := Lib.hid bk4; have hnd := (seg_append.1 l4.sg).2.1; obtain ⟨n0, n1, n2, n3, n4, n5, n6, _, _⟩ := NdAt.cs hnd; have hx2 : w.heap.size ∉ fp B T (P ++ (n, r) :: Q) := (fun e => Nat.lt_irrefl _ (HX.out _ e)); have y4 := kk4.heap hx2 ((hb.block _ (by simp)).trans HY.out); have HY4 := Lib.hid y4; have hxn : n ≠ w.heap.size := (fun e => hx2 (by simp [fp, e])); have HX2 := Lib.hid hx2; have HK4 := Lib.hid kk4; have HBB := Lib.hid hb; have z0 := cofr y4 0 _ rfl; have z1 := cofr y4 1 _ rfl; have z2 := cofr y4 2 _ rfl; have z3 := cofr y4 3 _ rfl; have z4 := cofr y4 4 _ rfl; have z5 := cofr y4 5 _ rfl; have z6 := cofr y4 6 _ rfl; have f0 := fofr y4 0; have f1 := fofr y4 1; have f2 := fofr y4 2; have f3 := fofr y4 3; have f4 := fofr y4 4; have f5 := fofr y4 5; have f6 := fofr y4 6; clear y4 hx2 l4 k4 bk4 kk4 hnd hcut hc1 hc2 hc3 hnb hnl g2 hb c0 c1 c2 c3 c4 c5)))
  have q7 := put7 HY4.out (.int .i64 r.f) (.int .i64 r.t) (.int .i64 now) (.int .i64 (s.sent + 1)) (.int .i64 (r.times + 1)) (.int .i64 (r.out + 1)) (.bool false)
  have k7 := kp7 w4 w.heap.size (.int .i64 r.f) (.int .i64 r.t) (.int .i64 now) (.int .i64 (s.sent + 1)) (.int .i64 (r.times + 1)) (.int .i64 (r.out + 1)) (.bool false)
  have e0 := cofr q7 0 _ rfl; have e1 := cofr q7 1 _ rfl; have e2 := cofr q7 2 _ rfl; have e3 := cofr q7 3 _ rfl; have e4 := cofr q7 4 _ rfl; have e5 := cofr q7 5 _ rfl; have e6 := cofr q7 6 _ rfl
  have hS : ∀ k ∈ fp B T ((P ++ Q) ++ [(n, r.goes now (s.sent + 1))]), k ∈ fp B T (P ++ (n, r) :: Q) := by
    intro k hk
    simp only [fp, List.mem_cons, List.mem_map, List.mem_append, List.not_mem_nil, or_false] at hk ⊢
    rcases hk with h | h | ⟨x, (h | h) | h, e⟩
    · exact .inl h
    · exact .inr (.inl h)
    · exact .inr (.inr ⟨x, .inl h, e⟩)
    · exact .inr (.inr ⟨x, .inr (.inr h), e⟩)
    · subst h; exact .inr (.inr ⟨(n, r), .inr (.inl rfl), e⟩)
  have hB5 := HB4.out.other k7 (fun e => HX2.out (hS _ e)) (fun cs e => by rw [HY4.out] at e; simp at e)
  have hK5 : Kept (fp B T (P ++ (n, r) :: Q)) w _ := ((Kept.of_below (b0.trans (HBB.out.mono b0.size)) (Nat.le_refl _) _).trans HK4.out (fun x hx => .inl hx)).trans k7 (fun x hx => .inr (by simp at hx; omega))
  exact bodyPost_ret (v := .tuple #[rcV (r.goes now (s.sent + 1)), .int .i64 0]) (by simp [results, Try.results37, go_sem, e0, e1, e2, e3, e4, e5, e6, Rc.goes]) rfl ⟨rfl, hB5, hK5⟩
end Go.Proofs.Ytpoifoanigpncaa.bk
