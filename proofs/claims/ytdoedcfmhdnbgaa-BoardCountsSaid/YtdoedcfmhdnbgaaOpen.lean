/-
  What came in, opened: a slice of whatever elements, element by element. Imports nothing of the program.
-/
import Derived.Test.YtdoedcfmhdnbgaaMem
import Derived.Deep.Slices
import Derived.ProofKit
import Derived.OpenShut
namespace Go.Proofs.Ytdoedcfmhdnbgaa.opn
open Go.RowKit aid mem Go.ChangeShapes Go.WideShapes Go.ChangeAt
set_option linter.unusedVariables false

theorem exists_list {T : Type} (n : Nat) (Q : Nat → T → Prop) (h : ∀ i, i < n → ∃ t, Q i t) : ∃ l : List T, l.length = n ∧ ∀ i (hi : i < l.length), Q i l[i] := by
  induction n with
  | zero => exact ⟨[], rfl, fun i hi => absurd hi (Nat.not_lt_zero i)⟩
  | succ n ih =>
    obtain ⟨l, hl, hq⟩ := ih (fun i hi => h i (by omega))
    obtain ⟨t, ht⟩ := h n (by omega)
    refine ⟨l ++ [t], by simp [hl], fun i hi => ?_⟩
    by_cases hil : i < l.length
    · rw [List.getElem_append_left hil]; exact hq i hil
    · have : i = n := by simp at hi; omega
      subst this
      simpa [hl] using ht

theorem mapM_some {α : Type} (f : Nat → Option α) : ∀ (n : Nat) (cs : List α), (List.range n).mapM f = some cs → cs.length = n ∧ ∀ j, j < n → f j = cs[j]? := by
  intro n
  induction n with
  | zero => intro cs h; simp at h; subst h; exact ⟨rfl, fun j hj => absurd hj (Nat.not_lt_zero j)⟩
  | succ n ih =>
    intro cs h
    rw [List.range_succ, List.mapM_append] at h
    simp only [Option.bind_eq_bind, Option.bind_eq_some_iff] at h
    obtain ⟨qs, h1, bs, h2, h3⟩ := h
    rw [List.mapM_cons] at h2
    simp only [List.mapM_nil, Option.bind_eq_bind, Option.bind_eq_some_iff] at h2
    obtain ⟨c, hc, _, h4, h5⟩ := h2
    injection h4 with h4
    subst h4
    injection h5 with h5
    subst h5
    injection h3 with h3
    subst h3
    obtain ⟨hl, hj⟩ := ih qs h1
    refine ⟨by simp [hl], fun j hjn => ?_⟩
    by_cases hjl : j < n
    · rw [hj j hjl, List.getElem?_append_left (by omega)]
    · have : j = n := by omega
      subst this
      rw [hc, List.getElem?_append_right (by omega)]
      simp [hl]

theorem cells_some {w : World} {base : Nat} {a : Addr} {n : Nat} {cs : List Value} (h : w.cells? base a n = some cs) : cs.length = n ∧ ∀ j, j < n → w.cell? (a.add j) = cs[j]? := by
  unfold World.cells? at h
  split at h
  · exact mapM_some _ _ _ h
  · cases h

/-- a slice of elements of c cells each: the element at i stands for l's at i, by R -/
structure ElA {T : Type} (R : List Value → T → Prop) (c : Nat) (w : World) (a : Option Addr) (n cap : Nat) (l : List T) : Prop where
  len : l.length = n
  le : n ≤ cap
  most : cap ≤ maxLen
  nil : a = none → cap = 0
  cells : 0 < n → ∃ b off, a = some ⟨b, off, none⟩ ∧ ∀ i (hi : i < l.length), ∃ cs, R cs l[i] ∧ cs.length = c ∧ ∀ j, j < c → w.cell? ⟨b, off + (i * c + j), none⟩ = cs[j]?

theorem ElA.keep {T : Type} {R : List Value → T → Prop} {c : Nat} {w w' : World} {a : Option Addr} {n cap : Nat} {l : List T} (h : ElA R c w a n cap l) {S : List Nat} (hk : Kept S w w') (hd : ∀ x, a = some x → x.block ∉ S) : ElA R c w' a n cap l :=
  ⟨h.len, h.le, h.most, h.nil, fun h0 => by
    obtain ⟨b, off, rfl, hc⟩ := h.cells h0
    refine ⟨b, off, rfl, fun i hi => ?_⟩
    obtain ⟨cs, h1, h2, h3⟩ := hc i hi
    refine ⟨cs, h1, h2, fun j hj => ?_⟩
    have h4 := h3 j hj
    rw [List.getElem?_eq_getElem (by omega)] at h4 ⊢
    exact hk.cell (p := ⟨b, off + (i * c + j), none⟩) (hd ⟨b, off, none⟩ rfl) h4⟩

section
variable {H : Type} {enc : TypeId × Value → H} {P : Program} {w : World} {base : Nat} {spare : Nat → Bool} {held : Bool}

/-- opened: 'hE': what one element's reading says -/
theorem open_els {T : Type} {R : List Value → T → Prop} {D : DataW H → T → Prop} {t e : TypeId} {a : Option Addr} {len cap : Nat} {d : DataW H} {p : List MemPlace}
    (ht : P.underlying t = some (.slice e)) (hc : 0 < P.cellsOf e) (h : ∃ fuel, DataW.trod enc P w base spare held fuel t [.slice a len cap] = some (d, p))
    (hE : ∀ n cs d' p', DataW.trod enc P w base spare held n e cs = some (d', p') → ∃ x : T, R cs x ∧ D d' x) :
    ∃ l : List T, ElA R (P.cellsOf e) w a len cap l ∧ ((d = .nil ∧ l = []) ∨ ∃ elems rest, d = .slice elems rest ∧ elems.length = l.length ∧ ∀ i (hi : i < l.length) (hi' : i < elems.length), D elems[i] l[i]) := by
  obtain ⟨fuel, h⟩ := h
  rcases DataW.trod_slice ht h with ⟨hcs, hx⟩ | ⟨a', len', cap', elems, rest, n, _, hcs, hx, hb, hl, hm, hlen, hel, hsp, hns⟩
  · injection hcs with hcs _
    injection hcs with h1 h2 h3
    subst h1 h2 h3
    injection hx with hx _
    exact ⟨[], ⟨rfl, Nat.le_refl _, by simp [maxLen], fun _ => rfl, fun h => by omega⟩, .inl ⟨hx, rfl⟩⟩
  · injection hcs with hcs _
    injection hcs with h1 h2 h3
    subst h1 h2 h3
    injection hx with hx _
    have hkey : ∀ i, i < len → ∃ x : T, (∃ cs, R cs x ∧ w.cells? base (a'.add (i * P.cellsOf e)) (P.cellsOf e) = some cs) ∧ ∃ y, elems[i]? = some y ∧ D y.1 x := by
      intro i hi
      have := hel i hi
      rw [List.getElem?_eq_getElem (by omega)] at this
      obtain ⟨cs, h1, h2⟩ := Option.bind_eq_some_iff.1 this
      obtain ⟨x, hR, hD⟩ := hE n cs _ _ h2
      exact ⟨x, ⟨cs, hR, h1⟩, _, List.getElem?_eq_getElem (by omega), hD⟩
    obtain ⟨l, hll, hq⟩ := exists_list len _ hkey
    refine ⟨l, ⟨hll, hl, hm, (fun h => by cases h), fun h0 => ?_⟩, .inr ⟨_, _, hx, by simp [hlen, hll], fun i hi hi' => ?_⟩⟩
    · have hshape : a'.spot = none := by
        obtain ⟨⟨cs, _, hcs⟩, _⟩ := hq 0 (by omega)
        obtain ⟨hcl, hcj⟩ := cells_some hcs
        have h0 := hcj 0 hc
        rw [List.getElem?_eq_getElem (by omega)] at h0
        simp only [Nat.zero_mul, Addr.add, if_true] at h0
        unfold World.cell? at h0
        split at h0
        · split at h0
          · cases h0
          · rename_i hs; simpa using hs
        · cases h0
      obtain ⟨b, off, spot⟩ := a'
      simp only at hshape
      subst hshape
      refine ⟨b, off, rfl, fun i hi => ?_⟩
      obtain ⟨⟨cs, hR, hcs⟩, _⟩ := hq i hi
      obtain ⟨hcl, hcj⟩ := cells_some hcs
      refine ⟨cs, hR, hcl, fun j hj => ?_⟩
      have hadd : (⟨b, off, none⟩ : Addr).add (i * P.cellsOf e + j) = ⟨b, off + (i * P.cellsOf e + j), none⟩ := by unfold Addr.add; split <;> simp_all
      rw [← hcj j hj, Go.Deep.add_add, hadd]
    · obtain ⟨_, y, hy, hD⟩ := hq i hi
      have hie : i < elems.length := by omega
      rw [List.getElem?_eq_getElem hie] at hy
      injection hy with hy
      simp only [List.getElem_map]
      rw [hy]
      exact hD
end
end Go.Proofs.Ytdoedcfmhdnbgaa.opn
