/-
  Alarms: AlarmOnce.
-/
import Derived.Test.YtnioaaahkhephaaAlmZ
namespace Go.Proofs.Ytnioaaahkhephaa.al
open Go.RowKit Go.Maps aid mem
attribute [local go_sem ↓] Go.wp_at_zero Go.wp_at_succ
set_option linter.unusedVariables false
set_option linter.unusedSimpArgs false

/-- the law's times are those that are set -/
def Inv (L M : List Int) : Prop := ∀ i, i < L.length → 0 ≤ L.getD i 0 → M.getD i 0 = L.getD i 0
/-- a clock, the law's array of times -/
structure A0 (w0 : World) (C : Nat) (now : Int) (L : List Int) (S : List Nat) (A : Nat) (M : List Int) (W : World) : Prop where
  oc : OC C now L S W
  own : ∀ b ∈ S, w0.heap.size ≤ b
  arr : W.heap[A]? = some (.cells (ints .i64 M).toArray 46 (0, 0))
  len : M.length = 64
  as_ : A ∉ S
  age : w0.heap.size ≤ A
  below : Below w0.heap.size w0 W
  inv : Inv L M
section
variable {w0 W Y : World} {C A : Nat} {now : Int} {L M : List Int} {S : List Nat}
theorem A0.later (h : A0 w0 C now L S A M W) (hb : Below W.heap.size W Y) : A0 w0 C now L S A M Y :=
  ⟨h.oc.later hb, h.own, (hb.block _ (lt_of_block h.arr)).trans h.arr, h.len, h.as_, h.age, h.below.trans (hb.mono h.below.size), h.inv⟩
/-- the same without the law's times being those that are set -/
theorem A0.aft (h : A0 w0 C now L S A M W) {n2 : Int} {L2 : List Int} {S2 : List Nat} (o : OC C n2 L2 S2 Y) (hk : Kept S W Y) (hn : ∀ b ∈ S2, b ∈ S ∨ W.heap.size ≤ b) : (∀ b ∈ S2, w0.heap.size ≤ b) ∧ Y.heap[A]? = some (.cells (ints .i64 M).toArray 46 (0, 0)) ∧ A ∉ S2 ∧ Below w0.heap.size w0 Y := by
  have hb := h.below.size
  have ha := lt_of_block h.arr
  refine ⟨fun b hb' => ?_, hk.heap h.as_ h.arr, fun m => ?_, h.below.trans (hk.below (B := w0.heap.size) (fun b hb' => h.own b hb') hb)⟩
  · rcases hn b hb' with q | q
    · exact h.own b q
    · omega
  · rcases hn A m with q | q
    · exact h.as_ q
    · omega
theorem A0.step (h : A0 w0 C now L S A M W) {n2 : Int} {L2 : List Int} {S2 : List Nat} (o : OC C n2 L2 S2 Y) (hk : Kept S W Y) (hn : ∀ b ∈ S2, b ∈ S ∨ W.heap.size ≤ b) (hi : Inv L2 M) : A0 w0 C n2 L2 S2 A M Y := by
  have hb := h.below.size
  have ha := lt_of_block h.arr
  refine ⟨o, fun b hb' => ?_, hk.heap h.as_ h.arr, h.len, fun m => ?_, h.age, h.below.trans (hk.below (B := w0.heap.size) (fun b hb' => h.own b hb') hb), hi⟩
  · rcases hn b hb' with q | q
    · exact h.own b q
    · omega
  · rcases hn A m with q | q
    · exact h.as_ q
    · omega
theorem A0.cell (h : A0 w0 C now L S A M W) (i : Nat) (hi : i < 64) : W.cell? ⟨A, i, none⟩ = some (.int .i64 (M.getD i 0)) := by
  have hl := h.len
  refine cofr h.arr i _ ?_
  simp [ints, List.getD, hl, hi]
theorem A0.fr (h : A0 w0 C now L S A M W) (i : Nat) : W.frozen? ⟨A, i, none⟩ = false := fofr h.arr i
theorem arr_cell {M : List Int} {W : World} (h : W.heap[A]? = some (.cells (ints .i64 M).toArray 46 (0, 0))) (hl : M.length = 64) (i : Nat) (hi : i < 64) : W.cell? ⟨A, i, none⟩ = some (.int .i64 (M.getD i 0)) := by
  refine cofr h i _ ?_
  simp [ints, List.getD, hl, hi]
theorem A0.put (h : A0 w0 C now L S A M W) {n2 : Int} {L2 : List Int} {S2 : List Nat} (o : OC C n2 L2 S2 Y) (hk : Kept S W Y) (hn : ∀ b ∈ S2, b ∈ S ∨ W.heap.size ≤ b) (i : Nat) (t : Int) (hv : Inv L2 (M.set i t)) : A0 w0 C n2 L2 S2 A (M.set i t) (Y.setCell ⟨A, i, none⟩ (.int .i64 t)) := by
  obtain ⟨g1, g2, g3, g4⟩ := h.aft o hk hn
  have k : Kept [A] Y (Y.setCell ⟨A, i, none⟩ (.int .i64 t)) := (Kept.refl [A] Y).setCell (.inl (by simp)) _
  have ha := h.age
  refine ⟨o.keep k (fun b hb => by simp; intro e; subst e; exact g3 hb), g1, ?_, by rw [List.length_set]; exact h.len, g3, h.age, g4.trans (k.below (B := w0.heap.size) (fun b hb => by simp at hb; omega) g4.size), hv⟩
  rw [heap_setCell_same Y A i _ _ _ g2, ← ints_set]
  congr 2
  apply Array.ext'
  simp [Array.toList_setIfInBounds]
theorem A0.n (h : A0 w0 C now L S A M W) : L.length ≤ 64 := by have := h.oc.vd.len; omega
/-- which ring -/
def RingOk (n : Nat) (now : Int) (M L' R : List Int) : Prop := ∀ k, k < R.length → ∃ i : Nat, R.getD k 0 = i ∧ i < n ∧ M.getD i 0 ≤ now ∧ isL L' i = false ∧ (0 < k → ∃ j : Nat, R.getD (k - 1) 0 = j ∧ j < n ∧ M.getD j 0 ≤ M.getD i 0)
def SetQ (S : List Nat) (W w0 : World) (C : Nat) (now : Int) (n : Nat) (L : List Int) (A : Nat) (M : List Int) (a t : Int) (e : Ending) (w' : World) : Prop :=
  (∃ u, e = .returned (.int .i64 u) ∧ (u == 0) = false ∧ ∃ S', A0 w0 C now L S' A M w') ∨
  (e = .returned (.int .i64 0) ∧ ∃ m : Nat, a = m ∧ m < n ∧ m < 64 ∧ Kept S W w' ∧ w'.frozen? ⟨A, m, none⟩ = false ∧ w'.cell? ⟨A, m, none⟩ = some (.int .i64 (M.getD m 0)) ∧ ∃ L2 S', L2.length = n ∧ A0 w0 C now L2 S' A (M.set m t) (w'.setCell ⟨A, m, none⟩ (.int .i64 t)))
theorem setq_any (h : A0 w0 C now L S A M W) (a t : Int) (ha : -9223372036854775808 ≤ a ∧ a ≤ 9223372036854775807) : Calls Try.prog 17 #[.pointer (some ⟨C, 0, none⟩), .int .i64 a, .int .i64 t] W (SetQ S W w0 C now L.length L A M a t) := by
  refine (oc_set h.oc a t ha).mono fun e w' ⟨he, S', o, k1, n1⟩ => ?_
  by_cases hc : setR (L.length : Nat) now a t = 0
  · right
    rw [hc] at he
    have e1 : rsetL now L a t = L.set a.toNat t := by unfold rsetL; rw [if_pos hc]
    rw [e1] at o
    have hr : 0 ≤ a ∧ a < (L.length : Nat) ∧ now ≤ t := by
      unfold setR at hc
      by_cases q1 : a < 0 ∨ (L.length : Nat) ≤ a
      · rw [if_pos q1] at hc; omega
      · rw [if_neg q1] at hc
        by_cases q2 : t < now ∨ 4611686018427387904 < t
        · rw [if_pos q2] at hc; omega
        · omega
    have hn := h.n
    obtain ⟨m, rfl⟩ := Int.eq_ofNat_of_zero_le hr.1
    rw [Int.toNat_natCast] at o
    have hm : m < L.length := by omega
    have ha2 := k1.heap h.as_ h.arr
    have hml : m < M.length := by rw [h.len]; omega
    have hv : Inv (L.set m t) (M.set m t) := fun i hi h0 => by
      rw [List.length_set] at hi
      rw [getD_set hm] at h0 ⊢
      rw [getD_set hml]
      split
      · rfl
      · rename_i q; rw [if_neg q] at h0; exact h.inv i hi h0
    exact ⟨he, m, rfl, hm, by omega, k1, fofr ha2 m, arr_cell ha2 h.len m (by omega), L.set m t, S', by simp, h.put o k1 n1 m t hv⟩
  · left
    have e1 : rsetL now L a t = L := by unfold rsetL; rw [if_neg hc]
    rw [e1] at o
    exact ⟨_, he, by simp; exact hc, S', h.step o k1 n1 h.inv⟩
theorem stopq_any (h : A0 w0 C now L S A M W) (a : Int) (ha : -9223372036854775808 ≤ a ∧ a ≤ 9223372036854775807) : Calls Try.prog 18 #[.pointer (some ⟨C, 0, none⟩), .int .i64 a] W fun e w' => (∃ b, e = .returned (.bool b)) ∧ ∃ L2 S', L2.length = L.length ∧ A0 w0 C now L2 S' A M w' := by
  refine (oc_stop h.oc a ha).mono fun e w' ⟨he, S', o, k1, n1⟩ => ⟨⟨_, he⟩, rstopL L a, S', rstop_len _ _, h.step o k1 n1 (fun i hi h0 => ?_)⟩
  rw [rstop_len] at hi
  unfold rstopL at h0 ⊢
  split
  · rename_i q
    rw [if_pos q] at h0
    have hz := of_decide_eq_true q
    rw [getD_set (by omega)] at h0 ⊢
    split
    · rename_i e; rw [if_pos e] at h0; omega
    · rename_i e; rw [if_neg e] at h0; exact h.inv i hi h0
  · rename_i q; rw [if_neg q] at h0; exact h.inv i hi h0
def AdvQ (w0 : World) (C : Nat) (L : List Int) (A : Nat) (M : List Int) (e : Ending) (w' : World) : Prop :=
  ∃ a R c u now2 L2, e = .returned (.tuple #[.slice a R.length c, .int .i64 u]) ∧ L2.length = L.length ∧ SlA .i64 w' a R.length c R ∧ R.length ≤ 64 ∧ RingOk L.length now2 M L2 R ∧ ((u = 3) ∨ (u = 0 ∧ ((hdL L2).2.2 = true → now2 < (hdL L2).2.1))) ∧ ∃ S', A0 w0 C now2 L2 S' A M w'
theorem hdl_mem {l : List Al} {L : List Int} (h : Mat l L) : (hdL L).2.2 = true → ((hdL L).1, (hdL L).2.1) ∈ l := by
  unfold hdL
  intro q
  split at q
  · cases q
  · rename_i h0
    rw [if_neg h0]
    exact h.has ⟨by omega, (nx_rng L _).2, ((nx_spec L L.length).2 (by omega)).1⟩
theorem advq_any (h : A0 w0 C now L S A M W) (dt : Int) (hdt : -9223372036854775808 ≤ dt ∧ dt ≤ 9223372036854775807) : Calls Try.prog 13 #[.pointer (some ⟨C, 0, none⟩), .int .i64 dt] W (AdvQ w0 C L A M) := by
  have hn := h.n
  refine (oc_adv h.oc dt hdt).mono fun e w' hq => ?_
  rcases hq with ⟨hc, rfl, rfl⟩ | ⟨_, S', v2, rfl, q1, q2, q3, q4, q5⟩
  · exact ⟨none, [], 0, 3, now, L, rfl, rfl, sla_nil _, by simp, (fun k hk => by simp at hk), .inl rfl, S, h⟩
  · obtain ⟨l, _, hm, _⟩ := h.oc
    obtain ⟨R, l2, ha, e1, e2⟩ := ring_adv (now := now + dt) L.length l L hm hm.room
    rw [e1] at q4
    obtain ⟨a, c, rfl, hsl⟩ := row_sl q4
    have hlen := ring_len (now := now + dt) L.length L
    have hsub : ∀ x ∈ l2, x ∈ l := fun x hx => ha.perm.mem_iff.1 (List.mem_append.2 (.inr hx))
    have hsubR : ∀ x ∈ R, x ∈ l := fun x hx => ha.perm.mem_iff.1 (List.mem_append.2 (.inl hx))
    have hi2 : Inv (ring (now + dt) L.length L).2 M := fun i hi h0 => by
      have h1 := hsub _ (e2.all i hi h0)
      obtain ⟨j, hj, x1, x2, x3⟩ := hm.mem _ h1
      simp only at x1 x2 x3
      obtain rfl : i = j := by omega
      rw [h.inv i hj (by omega), x2]
    have hA := h.step q1 q2 q3 hi2
    have hrl : R.length ≤ 64 := by have := ha.perm.length_eq; rw [List.length_append] at this; have := hm.room; omega
    refine ⟨a, nms R, c, 0, now + dt, _, rfl, hlen, hsl, by simpa [nms] using hrl, fun k hk => ?_, .inr ⟨rfl, fun q => ha.gt _ (hdl_mem e2 q)⟩, S', hA⟩
    have hkR : k < R.length := by simpa [nms] using hk
    have hel : ∀ k, k < R.length → (nms R).getD k 0 = (g R k).1 ∧ ∃ i : Nat, (g R k).1 = i ∧ i < L.length ∧ M.getD i 0 = (g R k).2 := fun k hk => by
      obtain ⟨i, hi, x1, x2, x3⟩ := hm.mem _ (hsubR _ (g_mem hk))
      exact ⟨by simp [nms, g, List.getD, hk], i, x1, hi, by rw [h.inv i hi (by omega)]; exact x2⟩
    obtain ⟨y1, i, y2, y3, y4⟩ := hel k hkR
    refine ⟨i, by rw [y1, y2], y3, by rw [y4]; exact ha.le _ (g_mem hkR), ?_, fun k0 => ?_⟩
    · refine decide_eq_false (fun q => ?_)
      have hx := e2.has q
      have hnd := nd_perm ha.perm hm.nd
      rw [List.map_append, List.nodup_append] at hnd
      exact hnd.2.2 (g R k).1 (List.mem_map.2 ⟨_, g_mem hkR, rfl⟩) (i : Int) (List.mem_map.2 ⟨_, hx, rfl⟩) y2
    · obtain ⟨z1, j, z2, z3, z4⟩ := hel (k - 1) (by omega)
      refine ⟨j, by rw [z1, z2], z3, ?_⟩
      rw [z4, y4]
      have hp : lt (g R k) (g R (k - 1)) = false := by
        have := List.pairwise_iff_getElem.1 ha.srt (k - 1) k (by omega) hkR (by omega)
        simpa [g, List.getD, hkR, show k - 1 < R.length by omega] using this
      have := nlt_iff.1 hp
      omega
theorem A0.head (h : A0 w0 C now L S A M W) : (hdL L).2.2 = true → now ≤ (hdL L).2.1 := fun q => by
  obtain ⟨l, _, hm, hv⟩ := h.oc
  exact ((hv.okl hm).2 _ (hdl_mem hm q)).2.2.1
end
end Go.Proofs.Ytnioaaahkhephaa.al
