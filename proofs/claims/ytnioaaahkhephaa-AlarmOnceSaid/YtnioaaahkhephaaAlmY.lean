/-
  Alarms: a clock of one's own, told by the reference's times.
-/
import Derived.Test.YtnioaaahkhephaaAlmO
namespace Go.Proofs.Ytnioaaahkhephaa.al
open Go.RowKit Go.Maps aid mem
attribute [local go_sem ↓] Go.wp_at_zero Go.wp_at_succ
set_option linter.unusedVariables false
set_option linter.unusedSimpArgs false

def OC (C : Nat) (now : Int) (L : List Int) (S : List Nat) (w : World) : Prop := ∃ l, Ck C (L.length : Nat) now l S w ∧ Mat l L ∧ Vd now L
def OG (C : Nat) (now : Int) (L : List Int) (S : List Nat) (w w' : World) : Prop := ∃ S', OC C now L S' w' ∧ Kept S w w' ∧ ∀ b ∈ S', b ∈ S ∨ w.heap.size ≤ b
section
variable {C : Nat} {now : Int} {L : List Int} {S : List Nat} {w W : World}
theorem OC.later (h : OC C now L S w) (hb : Below w.heap.size w W) : OC C now L S W := by
  obtain ⟨l, h1, h2, h3⟩ := h
  exact ⟨l, h1.later hb, h2, h3⟩
theorem OC.keep {T : List Nat} (h : OC C now L S w) (hk : Kept T w W) (hd : ∀ b ∈ S, b ∉ T) : OC C now L S W := by
  obtain ⟨l, h1, h2, h3⟩ := h
  exact ⟨l, h1.keep hk hd, h2, h3⟩
theorem OC.vd (h : OC C now L S w) : Vd now L := by obtain ⟨l, h1, h2, h3⟩ := h; exact h3
theorem OC.lt (h : OC C now L S w) : ∀ b ∈ S, b < w.heap.size := by obtain ⟨l, h1, h2, h3⟩ := h; exact h1.lt
theorem vd_rep {n : Nat} (h1 : 1 ≤ n) (h2 : n ≤ 64) : Vd 0 (rep n) := ⟨by simp [rep]; omega, by omega, fun i hi => by
  left
  simp only [rep, List.length_replicate] at hi
  simp [rep, List.getD, hi]⟩
theorem mat_rep (n : Nat) : Mat [] (rep n) := ⟨by simp, fun x hx => (by cases hx), fun i hi h0 => by
  simp only [rep, List.length_replicate] at hi
  simp [rep, List.getD, hi] at h0⟩
theorem oc_new (w : World) (n : Nat) (h1 : 1 ≤ n) (h2 : n ≤ 64) : Calls Try.prog 8 #[.int .i64 n] w fun e w' => ∃ C S, e = .returned (.tuple #[.pointer (some ⟨C, 0, none⟩), .int .i64 0]) ∧ OC C 0 (rep n) S w' ∧ Below w.heap.size w w' ∧ ∀ b ∈ S, w.heap.size ≤ b := by
  refine (new_any w n (by omega)).mono fun e w' h => ?_
  rcases h with ⟨h, _⟩ | ⟨_, C, S, rfl, hc, hb, hs⟩
  · omega
  · exact ⟨C, S, rfl, ⟨[], by simpa [rep] using hc, mat_rep n, vd_rep h1 h2⟩, hb, hs⟩
theorem oc_now (h : OC C now L S w) : Calls Try.prog 15 #[.pointer (some ⟨C, 0, none⟩)] w (RetI now w) := by
  obtain ⟨l, h1, _⟩ := h; exact now_any w h1
theorem oc_len (h : OC C now L S w) : Calls Try.prog 16 #[.pointer (some ⟨C, 0, none⟩)] w (RetI (cnt L L.length : Nat) w) := by
  obtain ⟨l, h1, h2, _⟩ := h
  rw [← h2.len]; exact clen_any w h1
theorem oc_next (h : OC C now L S w) : Calls Try.prog 19 #[.pointer (some ⟨C, 0, none⟩)] w (RetN (hdL L).1 (hdL L).2.1 (hdL L).2.2 w) := by
  obtain ⟨l, h1, h2, h3⟩ := h
  rw [← h1.hdL h2]
  exact next_any w h1 (by have := h2.room; have := h3.len; omega)
def atL (L : List Int) (a : Int) : Int := if isL L a = true then L.getD a.toNat 0 else 0
theorem oc_at (h : OC C now L S w) (a : Int) (ha : -9223372036854775808 ≤ a ∧ a ≤ 9223372036854775807) : Calls Try.prog 20 #[.pointer (some ⟨C, 0, none⟩), .int .i64 a] w (RetP (atL L a) (isL L a) w) := by
  obtain ⟨l, h1, h2, h3⟩ := h
  refine (at_any w h1 a ha).mono fun e w' hp => ?_
  rcases hp with ⟨t, ht, hp⟩ | ⟨hn, hp⟩
  · obtain ⟨q1, q2⟩ := h2.at_ ht
    have e : isL L a = true := decide_eq_true q1
    unfold atL
    rw [e, if_pos rfl, ← q2]; exact hp
  · have e : isL L a = false := decide_eq_false (fun q => hn _ (h2.has q) rfl)
    unfold atL
    rw [e]; exact hp
theorem oc_set (h : OC C now L S w) (a t : Int) (ha : -9223372036854775808 ≤ a ∧ a ≤ 9223372036854775807) : Calls Try.prog 17 #[.pointer (some ⟨C, 0, none⟩), .int .i64 a, .int .i64 t] w fun e w' =>
    e = .returned (.int .i64 (setR (L.length : Nat) now a t)) ∧ OG C now (rsetL now L a t) S w w' := by
  obtain ⟨l, h1, h2, h3⟩ := h
  refine (set_any w h1 (h3.okl h2) (by have := h3.len; omega) (by have := h2.room; have := h3.len; omega) a t ha).mono fun e w' hp => ?_
  obtain ⟨rfl, S', l2, c, p, k, n⟩ := hp
  refine ⟨rfl, S', ⟨l2, by rw [rset_len]; exact c, ?_, ?_⟩, k, n⟩
  · unfold setL at p
    unfold rsetL
    split at p
    · rename_i e0
      rw [if_pos e0]
      have hr : 0 ≤ a ∧ a < (L.length : Nat) ∧ now ≤ t := by
        unfold setR at e0
        by_cases q1 : a < 0 ∨ (L.length : Nat) ≤ a
        · rw [if_pos q1] at e0; omega
        · rw [if_neg q1] at e0
          by_cases q2 : t < now ∨ 4611686018427387904 < t
          · rw [if_pos q2] at e0; omega
          · omega
      have := h2.set (i := a.toNat) (by omega) (t := t) (by have := h3.nw; omega)
      rw [Int.toNat_of_nonneg hr.1] at this
      exact this.perm p
    · rename_i e0
      rw [if_neg e0]; exact h2.perm p
  · unfold rsetL
    split
    · rename_i e0
      have hr : 0 ≤ a ∧ a < (L.length : Nat) ∧ now ≤ t ∧ t ≤ 4611686018427387904 := by
        unfold setR at e0
        by_cases q1 : a < 0 ∨ (L.length : Nat) ≤ a
        · rw [if_pos q1] at e0; omega
        · rw [if_neg q1] at e0
          by_cases q2 : t < now ∨ 4611686018427387904 < t
          · rw [if_pos q2] at e0; omega
          · omega
      exact h3.set (by omega) (.inr ⟨hr.2.2.1, hr.2.2.2⟩)
    · exact h3
theorem oc_stop (h : OC C now L S w) (a : Int) (ha : -9223372036854775808 ≤ a ∧ a ≤ 9223372036854775807) : Calls Try.prog 18 #[.pointer (some ⟨C, 0, none⟩), .int .i64 a] w fun e w' =>
    e = .returned (.bool (isL L a)) ∧ OG C now (rstopL L a) S w w' := by
  obtain ⟨l, h1, h2, h3⟩ := h
  refine (stop_any w h1 ((h3.okl h2).wd (by have := h3.len; omega)) h2.nd (by have := h2.room; have := h3.len; omega) a ha).mono fun e w' hp => ?_
  obtain ⟨b, rfl, hb, S', l2, c, p, k, n⟩ := hp
  cases hz : isL L a with
  | true =>
    have hzz := of_decide_eq_true hz
    have e1 : rstopL L a = L.set a.toNat (-1) := by unfold rstopL; rw [hz, if_pos rfl]
    have hbt : b = true := hb.2 ⟨_, h2.has hzz, rfl⟩
    rw [hbt, e1]
    refine ⟨rfl, S', ⟨l2, by rw [List.length_set]; exact c, ?_, h3.set (by omega) (.inl rfl)⟩, k, n⟩
    have := h2.stop (i := a.toNat) (by omega)
    rw [Int.toNat_of_nonneg hzz.1] at this
    exact this.perm p
  | false =>
    have hzz := of_decide_eq_false hz
    have e1 : rstopL L a = L := by unfold rstopL; rw [hz]; rfl
    have hbt : b = false := by
      cases b with
      | false => rfl
      | true =>
        obtain ⟨x, hx, e⟩ := hb.1 rfl
        exact absurd e (h2.none hzz x hx)
    rw [hbt, e1]
    refine ⟨rfl, S', ⟨l2, c, ?_, h3⟩, k, n⟩
    rw [rm_none (h2.none hzz)] at p
    exact h2.perm p
theorem ring_neg {now : Int} : ∀ (f : Nat) (L : List Int), (∀ i, i < L.length → L.getD i 0 = -1 ∨ 0 ≤ L.getD i 0) → ∀ i, i < (ring now f L).2.length → (ring now f L).2.getD i 0 = -1 ∨ 0 ≤ (ring now f L).2.getD i 0 := by
  intro f
  induction f with
  | zero => intro L h; exact h
  | succ f ih =>
    intro L h
    rw [ring_step]
    split
    · exact h
    · rename_i hc
      refine ih _ (fun i hi => ?_)
      rw [List.length_set] at hi
      have hx := nx_rng L L.length
      rw [getD_set (by omega)]
      split
      · exact .inl rfl
      · exact h i hi
def AdvO (C : Nat) (now : Int) (L : List Int) (S : List Nat) (dt : Int) (w : World) (e : Ending) (w' : World) : Prop :=
  ((dt < 0 ∨ 4611686018427387904 - now < dt) ∧ e = .returned (.tuple #[.slice none 0 0, .int .i64 3]) ∧ w = w') ∨
  (¬ (dt < 0 ∨ 4611686018427387904 - now < dt) ∧ ∃ S' v, e = .returned (.tuple #[v, .int .i64 0]) ∧ OC C (now + dt) (ring (now + dt) L.length L).2 S' w' ∧ Kept S w w' ∧ (∀ b ∈ S', b ∈ S ∨ w.heap.size ≤ b) ∧
    w'.ownsRow w.heap.size 3 1 v (ring (now + dt) L.length L).1.length (ints .i64 (ring (now + dt) L.length L).1) ∧ ∀ k, v.ownBlock = some k → k ∉ S')
theorem ring_len {now : Int} : ∀ (f : Nat) (L : List Int), (ring now f L).2.length = L.length := by
  intro f
  induction f with
  | zero => intro L; rfl
  | succ f ih =>
    intro L
    rw [ring_step]
    split
    · rfl
    · rw [ih]; simp
theorem oc_adv (h : OC C now L S w) (dt : Int) (hdt : -9223372036854775808 ≤ dt ∧ dt ≤ 9223372036854775807) : Calls Try.prog 13 #[.pointer (some ⟨C, 0, none⟩), .int .i64 dt] w (AdvO C now L S dt w) := by
  obtain ⟨l, h1, h2, h3⟩ := h
  refine (adv_any w h1 (h3.okl h2) (by have := h3.len; omega) h3.nw (by have := h2.room; have := h3.len; omega) dt hdt).mono fun e w' hp => ?_
  rcases hp with hp | ⟨hc, R, l', S', v, rfl, ha, hr⟩
  · exact .inl hp
  · right
    obtain ⟨e1, e2, e3⟩ := ring_of R L.length l l' L h2 hr (by have := hr.perm.length_eq; rw [List.length_append] at this; have := h2.room; omega)
    refine ⟨hc, S', v, rfl, ⟨l', by rw [e3]; exact ha.ck, e2, by rw [e3]; exact h3.len, by have := h3.nw; omega, fun i hi => ?_⟩, ha.kept, ha.new, ?_, ha.sep⟩
    · rcases ring_neg (now := now + dt) L.length L (fun i hi => by rcases h3.at_ i hi with q | q; exact .inl q; exact .inr (by have := h3.nw; omega)) i hi with q | q
      · exact .inl q
      · have hm := e2.all i hi q
        have h5 := hr.gt _ hm
        have hl := hr.perm.mem_iff.1 (List.mem_append.2 (.inr hm))
        have := (h3.okl h2).2 _ hl
        simp only at h5 this
        exact .inr ⟨by omega, by omega⟩
    · rw [e1]
      have := ha.row
      simpa [nms] using this
theorem oc_clone (h : OC C now L S w) : Calls Try.prog 10 #[.pointer (some ⟨C, 0, none⟩)] w fun e w' => ∃ D T, e = .returned (.pointer (some ⟨D, 0, none⟩)) ∧ OC D now L T w' ∧ Below w.heap.size w w' ∧ ∀ b ∈ T, w.heap.size ≤ b := by
  obtain ⟨l, h1, h2, h3⟩ := h
  refine (cclone_any w h1 (by have := h2.room; have := h3.len; omega)).mono fun e w' hp => ?_
  obtain ⟨D, T, rfl, c, hb, ht⟩ := hp
  exact ⟨D, T, rfl, ⟨l, c, h2, h3⟩, hb, ht⟩
end
end Go.Proofs.Ytnioaaahkhephaa.al
