/-
  Alarms: what the reference keeps: the times by names; which rings first; what Advance lets ring.
-/
import Derived.Test.YtnioaaahkhephaaAlmG
namespace Go.Proofs.Ytnioaaahkhephaa.al
open Go.RowKit Go.Maps aid mem
set_option linter.unusedVariables false
set_option linter.unusedSimpArgs false

theorem getD_set {L : List Int} {i : Nat} (hi : i < L.length) (x : Int) (k : Nat) : (L.set i x).getD k 0 = if k = i then x else L.getD k 0 := by
  simp only [List.getD]
  rw [List.getElem?_set]
  by_cases h : i = k
  · subst h; simp [hi]
  · rw [if_neg h, if_neg (fun e => h e.symm)]
/-- the alarms are those of the times -/
structure Mat (l : List Al) (L : List Int) : Prop where
  nd : (l.map (·.1)).Nodup
  mem : ∀ x ∈ l, ∃ i, i < L.length ∧ x.1 = (i : Int) ∧ L.getD i 0 = x.2 ∧ 0 ≤ x.2
  all : ∀ i, i < L.length → 0 ≤ L.getD i 0 → ((i : Int), L.getD i 0) ∈ l
theorem Mat.perm {l l' : List Al} {L : List Int} (h : Mat l L) (hp : l'.Perm l) : Mat l' L :=
  ⟨nd_perm hp h.nd, fun x hx => h.mem x (hp.mem_iff.1 hx), fun i hi h0 => hp.mem_iff.2 (h.all i hi h0)⟩
theorem rm_mem {l : List Al} {a : Int} {x : Al} : x ∈ rm l a ↔ x ∈ l ∧ x.1 ≠ a := by unfold rm; simp
theorem rm_nd {l : List Al} (a : Int) (h : (l.map (·.1)).Nodup) : ((rm l a).map (·.1)).Nodup := by
  have : (rm l a).Sublist l := List.filter_sublist
  exact (this.map (·.1)).nodup h
theorem Mat.stop {l : List Al} {L : List Int} (h : Mat l L) {i : Nat} (hi : i < L.length) : Mat (rm l i) (L.set i (-1)) := by
  refine ⟨rm_nd _ h.nd, fun x hx => ?_, fun j hj h0 => ?_⟩
  · obtain ⟨h1, h2⟩ := rm_mem.1 hx
    obtain ⟨j, hj, e1, e2, e3⟩ := h.mem x h1
    have : j ≠ i := fun e => h2 (by rw [e1, e])
    exact ⟨j, by simpa using hj, e1, by rw [getD_set hi, if_neg this]; exact e2, e3⟩
  · rw [List.length_set] at hj
    rw [getD_set hi] at h0 ⊢
    by_cases e : j = i
    · rw [if_pos e] at h0; omega
    · rw [if_neg e] at h0 ⊢
      exact rm_mem.2 ⟨h.all j hj h0, by simp; omega⟩
theorem Mat.set {l : List Al} {L : List Int} (h : Mat l L) {i : Nat} (hi : i < L.length) {t : Int} (ht : 0 ≤ t) : Mat (((i : Int), t) :: rm l i) (L.set i t) := by
  refine ⟨?_, fun x hx => ?_, fun j hj h0 => ?_⟩
  · rw [List.map_cons, List.nodup_cons]
    refine ⟨fun e => ?_, rm_nd _ h.nd⟩
    obtain ⟨y, hy, e⟩ := List.mem_map.1 e
    exact (rm_mem.1 hy).2 e
  · rcases List.mem_cons.1 hx with rfl | hx
    · exact ⟨i, by simpa using hi, rfl, by rw [getD_set hi, if_pos rfl], ht⟩
    · obtain ⟨h1, h2⟩ := rm_mem.1 hx
      obtain ⟨j, hj, e1, e2, e3⟩ := h.mem x h1
      have : j ≠ i := fun e => h2 (by rw [e1, e])
      exact ⟨j, by simpa using hj, e1, by rw [getD_set hi, if_neg this]; exact e2, e3⟩
  · rw [List.length_set] at hj
    rw [getD_set hi] at h0 ⊢
    by_cases e : j = i
    · rw [if_pos e, e]; exact List.mem_cons_self
    · rw [if_neg e] at h0 ⊢
      exact List.mem_cons_of_mem _ (rm_mem.2 ⟨h.all j hj h0, by simp; omega⟩)
theorem Mat.none {l : List Al} {L : List Int} (h : Mat l L) {a : Int} (ha : ¬ (0 ≤ a ∧ a < L.length ∧ 0 ≤ L.getD a.toNat 0)) : ∀ x ∈ l, x.1 ≠ a := by
  intro x hx e
  obtain ⟨i, hi, e1, e2, e3⟩ := h.mem x hx
  apply ha
  rw [e1] at e
  subst e
  exact ⟨by omega, by omega, by rw [Int.toNat_natCast]; omega⟩
theorem Mat.has {l : List Al} {L : List Int} (h : Mat l L) {a : Int} (ha : 0 ≤ a ∧ a < L.length ∧ 0 ≤ L.getD a.toNat 0) : (a, L.getD a.toNat 0) ∈ l := by
  have := h.all a.toNat (by omega) ha.2.2
  rwa [Int.toNat_of_nonneg ha.1] at this
theorem Mat.at_ {l : List Al} {L : List Int} (h : Mat l L) {a t : Int} (ha : (a, t) ∈ l) : (0 ≤ a ∧ a < L.length ∧ 0 ≤ L.getD a.toNat 0) ∧ t = L.getD a.toNat 0 := by
  obtain ⟨i, hi, e1, e2, e3⟩ := h.mem _ ha
  simp only at e1 e2 e3
  subst e1
  simp only [Int.toNat_natCast]
  exact ⟨⟨by omega, by omega, by omega⟩, e2.symm⟩
theorem int_room : ∀ (n : Nat) (l : List Int), l.Nodup → (∀ x ∈ l, 0 ≤ x ∧ x < n) → l.length ≤ n := by
  intro n
  induction n with
  | zero =>
    intro l _ hb
    cases l with
    | nil => exact Nat.le_refl _
    | cons x l => have := hb x (by simp); omega
  | succ n ih =>
    intro l hn hb
    have h1 := ih (l.erase (n : Int)) (hn.erase _) (fun x hx => by
      have := (hn.mem_erase_iff).1 hx
      have := hb x this.2
      omega)
    rw [List.length_erase] at h1
    split at h1 <;> omega
theorem Mat.room {l : List Al} {L : List Int} (h : Mat l L) : l.length ≤ L.length := by
  have := int_room L.length (l.map (·.1)) h.nd (fun x hx => by
    obtain ⟨y, hy, rfl⟩ := List.mem_map.1 hx
    obtain ⟨i, hi, e1, _⟩ := h.mem y hy
    omega)
  simpa using this
/-- what a clock may have -/
structure Vd (now : Int) (L : List Int) : Prop where
  len : 1 ≤ L.length ∧ L.length ≤ 64
  nw : 0 ≤ now ∧ now ≤ 4611686018427387904
  at_ : ∀ i, i < L.length → L.getD i 0 = -1 ∨ (now ≤ L.getD i 0 ∧ L.getD i 0 ≤ 4611686018427387904)
theorem Vd.okl {now : Int} {L : List Int} {l : List Al} (h : Vd now L) (hm : Mat l L) : Okl (L.length : Nat) now l := ⟨hm.nd, fun x hx => by
  obtain ⟨i, hi, e1, e2, e3⟩ := hm.mem x hx
  have := h.at_ i hi
  omega⟩
theorem Vd.set {now : Int} {L : List Int} (h : Vd now L) {i : Nat} (hi : i < L.length) {t : Int} (ht : t = -1 ∨ (now ≤ t ∧ t ≤ 4611686018427387904)) : Vd now (L.set i t) :=
  ⟨by simpa using h.len, h.nw, fun j hj => by
    rw [List.length_set] at hj
    rw [getD_set hi]
    split
    · exact ht
    · exact h.at_ j hj⟩
/-- the reference's Next, as far as k -/
def nx (L : List Int) : Nat → Int
  | 0 => -1
  | k + 1 => if 0 ≤ L.getD k 0 ∧ (nx L k < 0 ∨ L.getD k 0 < L.getD (nx L k).toNat 0) then k else nx L k
theorem nx_rng (L : List Int) : ∀ k, -1 ≤ nx L k ∧ nx L k < k := by
  intro k
  induction k with
  | zero => simp [nx]
  | succ k ih => unfold nx; split <;> omega
theorem nx_spec (L : List Int) : ∀ k, (nx L k < 0 → ∀ i, i < k → L.getD i 0 < 0) ∧ (0 ≤ nx L k → 0 ≤ L.getD (nx L k).toNat 0 ∧ ∀ i, i < k → 0 ≤ L.getD i 0 → L.getD (nx L k).toNat 0 < L.getD i 0 ∨ (L.getD (nx L k).toNat 0 = L.getD i 0 ∧ nx L k ≤ i)) := by
  intro k
  induction k with
  | zero => simp [nx]
  | succ k ih =>
    have hr := nx_rng L k
    by_cases hc : 0 ≤ L.getD k 0 ∧ (nx L k < 0 ∨ L.getD k 0 < L.getD (nx L k).toNat 0)
    · have e : nx L (k + 1) = k := by show (if _ then _ else _) = _; rw [if_pos hc]
      rw [e]
      refine ⟨fun h => by omega, fun _ => ⟨by simpa using hc.1, fun i hi h0 => ?_⟩⟩
      rw [Int.toNat_natCast]
      by_cases e2 : i = k
      · subst e2; right; omega
      · rcases hc.2 with h1 | h1
        · have := ih.1 h1 i (by omega); omega
        · by_cases h2 : nx L k < 0
          · have := ih.1 h2 i (by omega); omega
          · have := (ih.2 (by omega)).2 i (by omega) h0
            omega
    · have e : nx L (k + 1) = nx L k := by show (if _ then _ else _) = _; rw [if_neg hc]
      rw [e]
      refine ⟨fun h i hi => ?_, fun h => ⟨(ih.2 h).1, fun i hi h0 => ?_⟩⟩
      · by_cases e2 : i = k
        · subst e2; omega
        · exact ih.1 h i (by omega)
      · by_cases e2 : i = k
        · subst e2
          have : ¬ L.getD i 0 < L.getD (nx L i).toNat 0 := fun q => hc ⟨h0, .inr q⟩
          omega
        · exact (ih.2 h).2 i (by omega) h0
/-- the first one, as a number, its time, whether there is one -/
def hdL (L : List Int) : Int × Int × Bool := if nx L L.length < 0 then (0, 0, false) else (nx L L.length, L.getD (nx L L.length).toNat 0, true)
theorem least_nx {l : List Al} {L : List Int} (h : Mat l L) {x : Al} (hx : x ∈ l) (hm : ∀ y ∈ l, lt y x = false) : nx L L.length = x.1 ∧ L.getD x.1.toNat 0 = x.2 := by
  obtain ⟨i, hi, e1, e2, e3⟩ := h.mem x hx
  have hs := nx_spec L L.length
  have hr := nx_rng L L.length
  have h0 : 0 ≤ nx L L.length := Int.not_lt.1 (fun q => by have := hs.1 q i hi; omega)
  obtain ⟨s1, s2⟩ := hs.2 h0
  have hk := h.has (a := nx L L.length) ⟨h0, hr.2, s1⟩
  have hl := nlt_iff.1 (hm _ hk)
  have := s2 i hi (by omega)
  simp only at hl
  rw [e1, Int.toNat_natCast]
  rw [e1] at hl
  exact ⟨by omega, e2⟩
theorem hdL_none {l : List Al} {L : List Int} (h : Mat l L) (hl : l = []) : hdL L = (0, 0, false) ∧ nx L L.length < 0 := by
  have : nx L L.length < 0 := Int.not_le.1 (fun q => by
    have := h.has (a := nx L L.length) ⟨q, (nx_rng L _).2, ((nx_spec L L.length).2 q).1⟩
    rw [hl] at this; cases this)
  exact ⟨by unfold hdL; rw [if_pos this], this⟩
theorem Ck.hdL {C : Nat} {nm now : Int} {l : List Al} {S : List Nat} {w : World} (h : Ck C nm now l S w) {L : List Int} (hm : Mat l L) : al.hd l = al.hdL L := by
  by_cases h0 : l = []
  · rw [(hdL_none hm h0).1, h0]; rfl
  · obtain ⟨v, bm, D, q, p, hh, _⟩ := h
    have hl : 0 < l.length := List.length_pos_iff.2 h0
    have hle : ∀ y ∈ l, al.lt y (g l 0) = false := fun y hy => by obtain ⟨i, hi, rfl⟩ := mem_g hy; exact heap_least hh i hi
    have := least_nx hm (g_mem hl) hle
    obtain ⟨i, hi, e1, _⟩ := hm.mem _ (g_mem hl)
    rw [hd_cons hl]
    unfold al.hdL
    rw [if_neg (by rw [this.1]; omega), this.1, this.2]
/-- how many -/
def cnt (L : List Int) : Nat → Nat
  | 0 => 0
  | k + 1 => if 0 ≤ L.getD k 0 then cnt L k + 1 else cnt L k
theorem cnt_le (L : List Int) : ∀ k, cnt L k ≤ k := by
  intro k
  induction k with
  | zero => simp [cnt]
  | succ k ih => unfold cnt; split <;> omega
def canon (L : List Int) : Nat → List Al
  | 0 => []
  | k + 1 => if 0 ≤ L.getD k 0 then ((k : Int), L.getD k 0) :: canon L k else canon L k
theorem canon_mem (L : List Int) : ∀ k x, x ∈ canon L k ↔ ∃ i, i < k ∧ 0 ≤ L.getD i 0 ∧ x = ((i : Int), L.getD i 0) := by
  intro k
  induction k with
  | zero => intro x; simp [canon]
  | succ k ih =>
    intro x
    unfold canon
    split
    · rename_i h0
      rw [List.mem_cons, ih]
      refine ⟨fun h => ?_, fun ⟨i, hi, h1, h2⟩ => ?_⟩
      · rcases h with rfl | ⟨i, hi, h⟩
        · exact ⟨k, by omega, h0, rfl⟩
        · exact ⟨i, by omega, h⟩
      · by_cases e : i = k
        · subst e; exact .inl h2
        · exact .inr ⟨i, by omega, h1, h2⟩
    · rename_i h0
      rw [ih]
      exact ⟨fun ⟨i, hi, h⟩ => ⟨i, by omega, h⟩, fun ⟨i, hi, h1, h2⟩ => ⟨i, by
        have : i ≠ k := fun e => h0 (e ▸ h1)
        omega, h1, h2⟩⟩
theorem canon_nd (L : List Int) : ∀ k, (canon L k).Nodup := by
  intro k
  induction k with
  | zero => exact List.nodup_nil
  | succ k ih =>
    unfold canon
    split
    · rw [List.nodup_cons]
      refine ⟨fun h => ?_, ih⟩
      obtain ⟨i, hi, _, e⟩ := (canon_mem L k _).1 h
      injection e with e _
      omega
    · exact ih
theorem canon_len (L : List Int) : ∀ k, (canon L k).length = cnt L k := by
  intro k
  induction k with
  | zero => rfl
  | succ k ih => unfold canon cnt; split <;> simp [ih]
theorem nd_of_map {l : List Al} (h : (l.map (·.1)).Nodup) : l.Nodup := by
  induction l with
  | nil => exact List.nodup_nil
  | cons x l ih =>
    rw [List.map_cons, List.nodup_cons] at h
    rw [List.nodup_cons]
    exact ⟨fun e => h.1 (List.mem_map.2 ⟨x, e, rfl⟩), ih h.2⟩
theorem Mat.len {l : List Al} {L : List Int} (h : Mat l L) : l.length = cnt L L.length := by
  rw [← canon_len]
  refine List.Perm.length_eq ((List.perm_ext_iff_of_nodup (nd_of_map h.nd) (canon_nd L _)).2 (fun x => ?_))
  rw [canon_mem]
  refine ⟨fun hx => ?_, fun ⟨i, hi, h1, h2⟩ => h2 ▸ h.all i hi h1⟩
  obtain ⟨i, hi, e1, e2, e3⟩ := h.mem x hx
  exact ⟨i, hi, by omega, Prod.ext e1 e2.symm⟩
/-- what rings up to a time -/
def ring (now : Int) : Nat → List Int → List Int × List Int
  | 0, L => ([], L)
  | f + 1, L => if nx L L.length < 0 ∨ now < L.getD (nx L L.length).toNat 0 then ([], L) else
    let r := ring now f (L.set (nx L L.length).toNat (-1))
    (nx L L.length :: r.1, r.2)
theorem ring_of {now : Int} : ∀ (R : List Al) (f : Nat) (l l' : List Al) (L : List Int), Mat l L → Adv l now R l' → R.length ≤ f → (ring now f L).1 = nms R ∧ Mat l' (ring now f L).2 ∧ (ring now f L).2.length = L.length := by
  intro R
  induction R with
  | nil =>
    intro f l l' L hm ha hf
    have hm' : Mat l' L := hm.perm (by simpa using ha.perm)
    cases f with
    | zero => exact ⟨rfl, hm', rfl⟩
    | succ f =>
      have hc : nx L L.length < 0 ∨ now < L.getD (nx L L.length).toNat 0 := by
        by_cases h0 : nx L L.length < 0
        · exact .inl h0
        · have hs := (nx_spec L L.length).2 (by omega)
          have := hm'.has (a := nx L L.length) ⟨by omega, (nx_rng L _).2, hs.1⟩
          exact .inr (ha.gt _ this)
      simp only [ring, if_pos hc]
      exact ⟨rfl, hm', by first | rfl | trivial⟩
  | cons x R ih =>
    intro f l l' L hm ha hf
    cases f with
    | zero => simp at hf
    | succ f =>
      have hx : x ∈ l := ha.perm.mem_iff.1 (by simp)
      have hsr := ha.srt
      rw [List.pairwise_cons] at hsr
      have hmin : ∀ y ∈ l, lt y x = false := fun y hy => by
        rcases List.mem_append.1 (ha.perm.mem_iff.2 hy) with q | q
        · rcases List.mem_cons.1 q with rfl | q
          · rw [nlt_iff]; omega
          · exact hsr.1 y q
        · have h1 := ha.gt y q
          have h2 := ha.le x (by simp)
          rw [nlt_iff]; omega
      obtain ⟨e1, e2⟩ := least_nx hm hx hmin
      obtain ⟨i, hi, x1, x2, x3⟩ := hm.mem x hx
      have hc : ¬ (nx L L.length < 0 ∨ now < L.getD (nx L L.length).toNat 0) := by
        rw [e1, e2]
        have := ha.le x (by simp)
        omega
      have hst := hm.stop (i := i) hi
      have hp : (R ++ l').Perm (rm l x.1) := rm_head (by simpa using ha.perm) hm.nd
      rw [x1] at hp
      have h2 := ih f (rm l i) l' (L.set i (-1)) hst ⟨hp, hsr.2, fun y hy => ha.le y (by simp [hy]), ha.gt⟩ (by simp at hf; omega)
      have e3 : (nx L L.length).toNat = i := by rw [e1, x1]; rfl
      simp only [ring, if_neg hc]
      rw [e3]
      refine ⟨?_, h2.2.1, by rw [h2.2.2]; simp⟩
      rw [h2.1, e1]; rfl
end Go.Proofs.Ytnioaaahkhephaa.al
