/-
  Several texts in one: Aid SpnX RunX RunY RunZ RunV SeqW SeqX
-/
import Derived.WalkKit
import Derived.WalkLawsBesides
import Derived.WalkSpells
import Derived.Handy
import Derived.Lib.Hide
import Derived.Test.YtekddgmmfgpehaaProg
/-!   Small facts on numbers, for walks. Imports nothing of the program.
-/
namespace Go.Proofs.Ytekddgmmfgpehaa.aid
open Go.RowKit

theorem ret_i {k : IntKind} {a b : Int} (h : a = b) : Ending.returned (.int k a) = .returned (.int k b) := by rw [h]
theorem ret_b {a b : Bool} (h : a = b) : Ending.returned (.bool a) = .returned (.bool b) := by rw [h]

theorem tmod_pos (n m : Int) (h0 : 0 ≤ n) : n.tmod m = n % m := Int.tmod_eq_emod_of_nonneg h0

/-- the remainder cut towards nought, by a modulus above 0 -/
theorem tmod_or (n m : Int) (hm : 0 < m) : (0 ≤ n.tmod m ∧ n.tmod m = n % m) ∨ (n.tmod m < 0 ∧ n.tmod m = n % m - m) := by
  by_cases h0 : 0 ≤ n
  · left
    rw [Int.tmod_eq_emod_of_nonneg h0]
    exact ⟨Int.emod_nonneg _ (by omega), rfl⟩
  · have h := Int.tmod_eq_emod (a := n) (b := m)
    have h1 := Int.emod_nonneg n (b := m) (by omega)
    have h2 := Int.emod_lt_of_pos n hm
    by_cases hd : m ∣ n
    · left
      rw [h]
      have hz : n % m = 0 := Int.emod_eq_zero_of_dvd hd
      simp [hd, hz]
    · right
      rw [h]
      have hz : n % m ≠ 0 := fun e => hd (Int.dvd_of_emod_eq_zero e)
      have ha : (m.natAbs : Int) = m := by omega
      simp [hd, h0, ha]
      omega

theorem w64 (n : Int) (h : -9223372036854775808 ≤ n ∧ n ≤ 9223372036854775807) : wrap64 n = n := by unfold wrap64; omega
theorem w32 (n : Int) (h : -2147483648 ≤ n ∧ n ≤ 2147483647) : wrap32 n = n := by unfold wrap32; omega
theorem w32_bd (n : Int) : -2147483648 ≤ wrap32 n ∧ wrap32 n ≤ 2147483647 := by unfold wrap32; omega

/-- what is told of a slice of integers that came in: it is nil; or it leads to a row of 'cap' cells, the numbers 'zs' (the first 'len' are its elements), each fitting its kind -/
def IsRow (k : IntKind) (w : World) (a : Option Addr) (len cap : Nat) (zs : List Int) : Prop :=
  (a = none ∧ len = 0 ∧ cap = 0 ∧ zs = []) ∨
  ∃ x, a = some x ∧ len ≤ cap ∧ cap ≤ maxLen ∧ zs.length = cap ∧ (∀ i, i < zs.length → w.cell? (x.add i) = some (.int k (zs.getD i 0))) ∧ ∀ n ∈ zs, (Lit.int k n).wf = true

/-- the elements of such a slice: there are none; or they lie at a place -/
theorem IsRow.elems {k : IntKind} {w : World} {a : Option Addr} {len cap : Nat} {zs : List Int} (h : IsRow k w a len cap zs) :
    len = 0 ∨ ∃ b off, a = some ⟨b, off, none⟩ ∧ len ≤ 9223372036854775807 ∧ (zs.take len).length = len ∧ (∀ i, i < len → w.cell? ⟨b, off + i, none⟩ = some (.int k ((zs.take len).getD i 0))) ∧ ∀ n ∈ zs.take len, (Lit.int k n).wf = true := by
  rcases h with ⟨_, h, _, _⟩ | ⟨x, hx, h1, h2, h3, h4, h5⟩
  · exact .inl h
  · by_cases h0 : len = 0
    · exact .inl h0
    · right
      obtain ⟨b, off, rfl, hc⟩ := ints_at h4 (by omega)
      refine ⟨b, off, hx, by unfold maxLen at h2; omega, by simp; omega, ?_, fun n hn => h5 n (List.mem_of_mem_take hn)⟩
      intro i hi
      rw [hc i (by omega)]
      congr 2
      simp [List.getD, hi]

theorem getD_bd {zs : List Int} (P : Int → Prop) (h0 : P 0) (h : ∀ n ∈ zs, P n) (j : Nat) : P (zs.getD j 0) := by
  by_cases hj : j < zs.length
  · simp only [List.getD, List.getElem?_eq_getElem hj, Option.getD_some]
    exact h _ (List.getElem_mem _)
  · simp only [List.getD, List.getElem?_eq_none (Nat.le_of_not_lt hj), Option.getD_none]
    exact h0
end Go.Proofs.Ytekddgmmfgpehaa.aid
/-!   Spans as pairs of numbers. Imports nothing of the program.
-/
namespace Go.Proofs.Ytekddgmmfgpehaa.sp
set_option linter.unusedVariables false

def mayB (f t : Int) : Bool := decide (0 ≤ f) && decide (f ≤ t) && decide (t ≤ 4611686018427387904)
theorem mayB_iff {f t : Int} : mayB f t = true ↔ 0 ≤ f ∧ f ≤ t ∧ t ≤ 4611686018427387904 := by
  unfold mayB
  simp [and_assoc]
def fitP (f t : Int) : Int × Int := if mayB f t = true then (f, t) else (0, 0)
def betw (a b : Int) : Int × Int := if b ≤ a then (0, 0) else (a, b)
/-- 0 ≤ From ≤ To ≤ MaxOff -/
def Ok (p : Int × Int) : Prop := 0 ≤ p.1 ∧ p.1 ≤ p.2 ∧ p.2 ≤ 4611686018427387904
theorem fit_ok (f t : Int) : Ok (fitP f t) := by
  unfold fitP Ok
  split
  · exact mayB_iff.1 (by assumption)
  · simp
theorem fit_self {f t : Int} (h : Ok (f, t)) : fitP f t = (f, t) := by
  unfold fitP; rw [if_pos (mayB_iff.2 h)]
theorem betw_ok {a b : Int} (h0 : 0 ≤ a) (h1 : b ≤ 4611686018427387904) : Ok (betw a b) := by
  unfold betw Ok
  split <;> simp <;> omega

def lenI (s : Int × Int) : Int := (fitP s.1 s.2).2 - (fitP s.1 s.2).1
def hasB (s : Int × Int) (o : Int) : Bool := decide ((fitP s.1 s.2).1 ≤ o) && decide (o < (fitP s.1 s.2).2)
def meetP (s t : Int × Int) : Int × Int := betw (max (fitP s.1 s.2).1 (fitP t.1 t.2).1) (min (fitP s.1 s.2).2 (fitP t.1 t.2).2)
def touchB (s t : Int × Int) : Bool := decide (lenI s ≠ 0) && decide (lenI t ≠ 0) && decide (s.1 ≤ t.2) && decide (t.1 ≤ s.2)
def holdsB (s t : Int × Int) : Bool := decide (lenI t = 0) || decide (meetP s t = t)
def belowP (s : Int × Int) (o : Int) : Int × Int := betw (fitP s.1 s.2).1 (min (fitP s.1 s.2).2 o)
def fromP (s : Int × Int) (o : Int) : Int × Int := betw (max (fitP s.1 s.2).1 o) (fitP s.1 s.2).2
def widerP (h s : Int × Int) : Int × Int := if lenI s = 0 then h else if h = (0, 0) then s else (min h.1 s.1, max h.2 s.2)
def hullP (l : List (Int × Int)) : Int × Int := l.foldl widerP (0, 0)
def cmpI (s t : Int × Int) : Int := if s = t then 0 else if s.1 < t.1 ∨ (s.1 = t.1 ∧ s.2 < t.2) then -1 else 1
/-- a span that counts -/
def ofP (s : Int × Int) : Int × Int := if mayB s.1 s.2 = true ∧ s.1 ≠ s.2 then s else (0, 0)

theorem lenI_bd (s : Int × Int) : 0 ≤ lenI s ∧ lenI s ≤ 4611686018427387904 := by
  have := fit_ok s.1 s.2
  unfold Ok at this
  unfold lenI
  omega
theorem of_ok (s : Int × Int) : Ok (ofP s) := by
  unfold ofP Ok
  split
  · exact mayB_iff.1 (by rename_i h; exact h.1)
  · simp
theorem of_cases (s : Int × Int) : (ofP s = s ∧ Ok s ∧ s.1 < s.2 ∧ fitP s.1 s.2 = s) ∨ (ofP s = (0, 0) ∧ lenI s = 0 ∧ (fitP s.1 s.2).1 = (fitP s.1 s.2).2) := by
  unfold ofP lenI fitP
  by_cases h : mayB s.1 s.2 = true
  · have h' := mayB_iff.1 h
    by_cases h2 : s.1 = s.2
    · right
      rw [if_neg (by intro x; exact x.2 h2), if_pos h]
      simp; omega
    · left
      rw [if_pos ⟨h, h2⟩, if_pos h]
      exact ⟨rfl, h', by omega, rfl⟩
  · right
    rw [if_neg (by intro x; exact h x.1), if_neg h]
    simp
theorem len_of (s : Int × Int) : (ofP s).2 - (ofP s).1 = lenI s := by
  rcases of_cases s with ⟨h, _, _, hf⟩ | ⟨h, hl, _⟩
  · rw [h]; unfold lenI; rw [hf]
  · rw [h, hl]; rfl
theorem has_of (s : Int × Int) (o : Int) : (decide ((ofP s).1 ≤ o) && decide (o < (ofP s).2)) = hasB s o := by
  unfold hasB
  rcases of_cases s with ⟨h, _, _, hf⟩ | ⟨h, hl, he⟩
  · rw [h, hf]
  · rw [h, Bool.eq_iff_iff]; simp; omega
theorem meet_ok (s t : Int × Int) : Ok (meetP s t) := by
  have h1 := fit_ok s.1 s.2
  have h2 := fit_ok t.1 t.2
  unfold Ok at h1 h2
  exact betw_ok (by omega) (by omega)
/-- the reference's Meet -/
def rmeetP (s t : Int × Int) : Int × Int :=
  ofP (if (ofP s).1 < (ofP t).1 then (ofP t).1 else (ofP s).1, if (ofP t).2 < (ofP s).2 then (ofP t).2 else (ofP s).2)
theorem of_betw {a b : Int} (h0 : 0 ≤ a) (h1 : b ≤ 4611686018427387904) : ofP (a, b) = betw a b := by
  unfold ofP betw
  by_cases h : b ≤ a
  · rw [if_pos h]
    split
    · rename_i hx
      have := mayB_iff.1 hx.1
      have := hx.2
      simp at *
      omega
    · rfl
  · rw [if_neg h, if_pos ⟨mayB_iff.2 ⟨h0, by simp; omega, h1⟩, by simp; omega⟩]
theorem rmeet_eq (s t : Int × Int) : rmeetP s t = meetP s t := by
  unfold rmeetP meetP
  have hs := of_ok s
  have ht := of_ok t
  have fs := fit_ok s.1 s.2
  have ft := fit_ok t.1 t.2
  unfold Ok at hs ht fs ft
  rw [of_betw (by split <;> omega) (by split <;> omega)]
  unfold betw
  rcases of_cases s with ⟨h, _, _, hf⟩ | ⟨h, hl, he⟩ <;> rcases of_cases t with ⟨k, _, _, kf⟩ | ⟨k, kl, ke⟩ <;> rw [h, k] at *
  all_goals (try rw [hf] at *) <;> (try rw [kf] at *)
  all_goals (repeat' split) <;> first | rfl | (simp at *; omega) | (ext <;> simp at * <;> omega)
end Go.Proofs.Ytekddgmmfgpehaa.sp
/-!   Sets of offsets as lists of spans that rise and don't touch, as numbers. Imports nothing of the program.
-/
namespace Go.Proofs.Ytekddgmmfgpehaa.rn
open Go.RowKit aid sp
set_option linter.unusedVariables false

abbrev Sp := Int × Int
def ROk (x : Sp) : Prop := 0 ≤ x.1 ∧ x.1 < x.2 ∧ x.2 ≤ 4611686018427387904
structure Rn (l : List Sp) : Prop where
  ok : ∀ x ∈ l, ROk x
  up : l.Pairwise (fun a b => a.2 < b.1)
def In (l : List Sp) (o : Int) : Prop := ∃ x ∈ l, x.1 ≤ o ∧ o < x.2
theorem Rn.nil : Rn [] := ⟨fun x h => by simp at h, List.Pairwise.nil⟩
theorem In.nil {o : Int} : ¬ In [] o := by rintro ⟨x, h, _⟩; simp at h
theorem In.cons {x : Sp} {l : List Sp} {o : Int} : In (x :: l) o ↔ (x.1 ≤ o ∧ o < x.2) ∨ In l o := by
  unfold In
  simp
theorem In.append {l r : List Sp} {o : Int} : In (l ++ r) o ↔ In l o ∨ In r o := by
  unfold In
  constructor
  · rintro ⟨x, h, a⟩
    rcases List.mem_append.1 h with h | h
    · exact .inl ⟨x, h, a⟩
    · exact .inr ⟨x, h, a⟩
  · rintro (⟨x, h, a⟩ | ⟨x, h, a⟩)
    · exact ⟨x, List.mem_append.2 (.inl h), a⟩
    · exact ⟨x, List.mem_append.2 (.inr h), a⟩
theorem In.one {x : Sp} {o : Int} : In [x] o ↔ x.1 ≤ o ∧ o < x.2 := by unfold In; simp
theorem Rn.head {x : Sp} {l : List Sp} (h : Rn (x :: l)) : ROk x := h.ok x (by simp)
theorem Rn.tail {x : Sp} {l : List Sp} (h : Rn (x :: l)) : Rn l := ⟨fun y hy => h.ok y (List.mem_cons_of_mem _ hy), (List.pairwise_cons.1 h.up).2⟩
theorem Rn.lt {x : Sp} {l : List Sp} (h : Rn (x :: l)) {y : Sp} (hy : y ∈ l) : x.2 < y.1 := (List.pairwise_cons.1 h.up).1 y hy
theorem Rn.in_tail {x : Sp} {l : List Sp} (h : Rn (x :: l)) {o : Int} (ho : In l o) : x.2 < o := by
  obtain ⟨y, hy, a, b⟩ := ho
  have := h.lt hy
  omega
/-- two that have the same offsets are the same -/
theorem Rn.ext : ∀ {l r : List Sp}, Rn l → Rn r → (∀ o, In l o ↔ In r o) → l = r := by
  intro l
  induction l with
  | nil =>
    intro r hl hr h
    cases r with
    | nil => rfl
    | cons y r =>
      have hy := hr.head
      have := (h y.1).2 ⟨y, by simp, Int.le_refl _, hy.2.1⟩
      exact absurd this In.nil
  | cons x l ih =>
    intro r hl hr h
    have hx := hl.head
    cases r with
    | nil =>
      have := (h x.1).1 ⟨x, by simp, Int.le_refl _, hx.2.1⟩
      exact absurd this In.nil
    | cons y r =>
      have hy := hr.head
      have e1 : x.1 = y.1 := by
        have h1 := In.cons.1 ((h x.1).1 (In.cons.2 (.inl ⟨Int.le_refl _, hx.2.1⟩)))
        have h2 := In.cons.1 ((h y.1).2 (In.cons.2 (.inl ⟨Int.le_refl _, hy.2.1⟩)))
        have a1 : y.1 ≤ x.1 := by
          rcases h1 with h1 | h1
          · exact h1.1
          · have := hr.in_tail h1; have := hy.2.1; omega
        have a2 : x.1 ≤ y.1 := by
          rcases h2 with h2 | h2
          · exact h2.1
          · have := hl.in_tail h2; have := hx.2.1; omega
        omega
      have e2 : x.2 = y.2 := by
        rcases Int.lt_trichotomy x.2 y.2 with c | c | c
        · exfalso
          rcases In.cons.1 ((h x.2).2 (In.cons.2 (.inl ⟨by have := hx.2.1; omega, c⟩))) with q | q
          · omega
          · have := hl.in_tail q; omega
        · exact c
        · exfalso
          rcases In.cons.1 ((h y.2).1 (In.cons.2 (.inl ⟨by have := hy.2.1; omega, c⟩))) with q | q
          · omega
          · have := hr.in_tail q; omega
      have e : x = y := Prod.ext e1 e2
      subst e
      rw [ih hl.tail hr.tail (fun o => ?_)]
      constructor
      · intro q
        have := hl.in_tail q
        rcases In.cons.1 ((h o).1 (In.cons.2 (.inr q))) with c | c
        · omega
        · exact c
      · intro q
        have := hr.in_tail q
        rcases In.cons.1 ((h o).2 (In.cons.2 (.inr q))) with c | c
        · omega
        · exact c
theorem Rn.of_append {l m r : List Sp} (h : Rn (l ++ m ++ r)) : (∀ x ∈ l, ∀ y ∈ m ++ r, x.2 < y.1) ∧ (∀ x ∈ l ++ m, ∀ y ∈ r, x.2 < y.1) := by
  have h1 := (List.pairwise_append.1 h.up)
  have h2 := h.up
  rw [List.append_assoc] at h2
  have h3 := List.pairwise_append.1 h2
  exact ⟨h3.2.2, h1.2.2⟩
theorem Rn.left {l r : List Sp} (h : Rn (l ++ r)) : Rn l := ⟨fun x hx => h.ok x (List.mem_append.2 (.inl hx)), (List.pairwise_append.1 h.up).1⟩
theorem Rn.right {l r : List Sp} (h : Rn (l ++ r)) : Rn r := ⟨fun x hx => h.ok x (List.mem_append.2 (.inr hx)), (List.pairwise_append.1 h.up).2.1⟩
theorem Rn.mid {l m r : List Sp} (hl : Rn l) (hm : Rn m) (hr : Rn r) (h1 : ∀ x ∈ l, ∀ y ∈ m ++ r, x.2 < y.1) (h2 : ∀ x ∈ m, ∀ y ∈ r, x.2 < y.1) : Rn (l ++ (m ++ r)) :=
  ⟨fun x hx => by
    rcases List.mem_append.1 hx with hx | hx
    · exact hl.ok x hx
    · rcases List.mem_append.1 hx with hx | hx
      · exact hm.ok x hx
      · exact hr.ok x hx, List.pairwise_append.2 ⟨hl.up, List.pairwise_append.2 ⟨hm.up, hr.up, h2⟩, h1⟩⟩

/-! ### spans that are fine -/
theorem ROk.ok {x : Sp} (h : ROk x) : Ok x := ⟨h.1, Int.le_of_lt h.2.1, h.2.2⟩
theorem fit_of {x : Sp} (h : Ok x) : fitP x.1 x.2 = x := fit_self h
theorem len_ok {x : Sp} (h : Ok x) : lenI x = x.2 - x.1 := by unfold lenI; rw [fit_of h]
theorem len_rok {x : Sp} (h : ROk x) : lenI x = x.2 - x.1 := len_ok h.ok
theorem rok_of {x : Sp} (h : Ok x) (h1 : lenI x ≠ 0) : ROk x := by
  rw [len_ok h] at h1
  exact ⟨h.1, by have := h.2.1; omega, h.2.2⟩
theorem len_pos_ok {x : Sp} (h : lenI x ≠ 0) : ROk x := by
  unfold lenI fitP at h
  by_cases c : mayB x.1 x.2 = true
  · rw [if_pos c] at h
    have := mayB_iff.1 c
    exact ⟨this.1, by have := this.2.1; simp only at h; omega, this.2.2⟩
  · rw [if_neg c] at h; simp at h
theorem meet_rok {x s : Sp} (hx : Ok x) (hs : Ok s) : meetP x s = betw (max x.1 s.1) (min x.2 s.2) := by unfold meetP; rw [fit_of hx, fit_of hs]
theorem betw_len {a b : Int} (h0 : 0 ≤ a) (h1 : b ≤ 4611686018427387904) : lenI (betw a b) = if a < b then b - a else 0 := by
  unfold betw
  by_cases c : b ≤ a
  · rw [if_pos c, if_neg (by omega)]; rfl
  · rw [if_neg c, if_pos (by omega)]; exact len_ok ⟨h0, by simp only; omega, h1⟩
theorem meet_len {x s : Sp} (hx : Ok x) (hs : Ok s) : lenI (meetP x s) = if max x.1 s.1 < min x.2 s.2 then min x.2 s.2 - max x.1 s.1 else 0 := by
  rw [meet_rok hx hs]
  have a := hx.1; have b := hs.1; have c := hx.2.2; have d := hs.2.2
  exact betw_len (by omega) (by omega)
theorem below_rok {x : Sp} (hx : Ok x) (o : Int) : belowP x o = betw x.1 (min x.2 o) := by unfold belowP; rw [fit_of hx]
theorem from_rok {x : Sp} (hx : Ok x) (o : Int) : fromP x o = betw (max x.1 o) x.2 := by unfold fromP; rw [fit_of hx]
theorem betw_in {a b o : Int} : In (if lenI (betw a b) = 0 then [] else [betw a b]) o → a ≤ o ∧ o < b := by
  unfold betw
  by_cases c : b ≤ a
  · rw [if_pos c]; intro h; simp [lenI, fitP, mayB, In.nil] at h
  · rw [if_neg c]
    intro h
    by_cases d : lenI (a, b) = 0
    · rw [if_pos d] at h; exact absurd h In.nil
    · rw [if_neg d] at h; exact In.one.1 h
/-- what is not empty of a span -/
def ne (x : Sp) : List Sp := if lenI x = 0 then [] else [x]
theorem ne_in {a b o : Int} (h0 : 0 ≤ a) (h1 : b ≤ 4611686018427387904) : In (ne (betw a b)) o ↔ a ≤ o ∧ o < b := by
  unfold ne
  constructor
  · exact betw_in
  · rintro ⟨h, k⟩
    have hl : lenI (betw a b) = b - a := by rw [betw_len h0 h1, if_pos (by omega)]
    rw [if_neg (by omega)]
    unfold betw
    rw [if_neg (by omega)]
    exact In.one.2 ⟨h, k⟩
theorem ne_mem {x y : Sp} (h : y ∈ ne x) : y = x ∧ ROk x := by
  unfold ne at h
  by_cases c : lenI x = 0
  · rw [if_pos c] at h; simp at h
  · rw [if_neg c] at h; simp at h; exact ⟨h, len_pos_ok c⟩
theorem ne_rn (x : Sp) : Rn (ne x) := by
  unfold ne
  by_cases c : lenI x = 0
  · rw [if_pos c]; exact Rn.nil
  · rw [if_neg c]; exact ⟨fun y hy => by simp at hy; subst hy; exact len_pos_ok c, List.pairwise_singleton _ _⟩

/-! ### hulls -/
theorem hull_snoc (l : List Sp) (x : Sp) : hullP (l ++ [x]) = widerP (hullP l) x := by unfold hullP; rw [List.foldl_append]; rfl
theorem hull_spec : ∀ (l : List Sp), (∀ x ∈ l, ROk x) → l ≠ [] → (∀ x ∈ l, (hullP l).1 ≤ x.1 ∧ x.2 ≤ (hullP l).2) ∧ (∃ x ∈ l, (hullP l).1 = x.1) ∧ (∃ x ∈ l, (hullP l).2 = x.2) := by
  suffices H : ∀ (n : Nat) (l : List Sp), l.length = n → (∀ x ∈ l, ROk x) → l ≠ [] → (∀ x ∈ l, (hullP l).1 ≤ x.1 ∧ x.2 ≤ (hullP l).2) ∧ (∃ x ∈ l, (hullP l).1 = x.1) ∧ (∃ x ∈ l, (hullP l).2 = x.2) from fun l => H _ l rfl
  intro n
  induction n with
  | zero => intro l hl h hne; exact absurd (List.eq_nil_of_length_eq_zero hl) hne
  | succ n ih =>
    intro l hl h hne
    obtain ⟨l', x, rfl⟩ : ∃ l' x, l = l' ++ [x] := ⟨l.dropLast, l.getLast hne, (List.dropLast_concat_getLast hne).symm⟩
    have hx := h x (by simp)
    have hxl := len_rok hx
    obtain ⟨x1, x2, x3⟩ := hx
    rw [hull_snoc]
    by_cases hn : l' = []
    · subst hn
      have e : widerP (hullP []) x = x := by
        unfold widerP
        rw [if_neg (by omega), if_pos (show hullP [] = (0, 0) from rfl)]
      rw [List.nil_append, e]
      exact ⟨fun y hy => by simp at hy; subst hy; omega, ⟨x, by simp, rfl⟩, ⟨x, by simp, rfl⟩⟩
    · obtain ⟨i1, ⟨a, ha, i2⟩, ⟨b, hb, i3⟩⟩ := ih l' (by simp at hl; omega) (fun y hy => h y (List.mem_append.2 (.inl hy))) hn
      have hbo := h b (List.mem_append.2 (.inl hb))
      have e : widerP (hullP l') x = (min (hullP l').1 x.1, max (hullP l').2 x.2) := by
        unfold widerP
        rw [if_neg (by omega), if_neg ?_]
        intro c
        rw [c] at i3
        have := hbo.1; have := hbo.2.1; simp only at i3; omega
      rw [e]
      refine ⟨fun y hy => ?_, ?_, ?_⟩
      · rcases List.mem_append.1 hy with hy | hy
        · have := i1 y hy; simp only; omega
        · simp at hy; subst hy; simp only; omega
      · simp only
        rcases Int.le_total (hullP l').1 x.1 with c | c
        · exact ⟨a, List.mem_append.2 (.inl ha), by omega⟩
        · exact ⟨x, by simp, by omega⟩
      · simp only
        rcases Int.le_total (hullP l').2 x.2 with c | c
        · exact ⟨x, by simp, by omega⟩
        · exact ⟨b, List.mem_append.2 (.inl hb), by omega⟩
/-- the hull of what touches one, and of that one, has what they have -/
theorem hull_in {l : List Sp} {s : Sp} (hl : ∀ x ∈ l, ROk x) (hs : ROk s) (ht : ∀ x ∈ l, s.1 ≤ x.2 ∧ x.1 ≤ s.2) {m : List Sp} (hm : ∀ x, x ∈ m ↔ x ∈ l ∨ x = s) : ROk (hullP m) ∧ ∀ o, ((hullP m).1 ≤ o ∧ o < (hullP m).2) ↔ In l o ∨ (s.1 ≤ o ∧ o < s.2) := by
  have hmk : ∀ x ∈ m, ROk x := fun x hx => by rcases (hm x).1 hx with h | rfl; exact hl x h; exact hs
  have hsm : s ∈ m := (hm s).2 (.inr rfl)
  obtain ⟨h1, ⟨a, ha, h2⟩, ⟨b, hb, h3⟩⟩ := hull_spec m hmk (List.ne_nil_of_mem hsm)
  have hso := h1 s hsm
  have hak := hmk a ha
  have hbk := hmk b hb
  refine ⟨⟨by rw [h2]; exact hak.1, by have := hs.2.1; omega, by rw [h3]; exact hbk.2.2⟩, fun o => ⟨fun ⟨p, q⟩ => ?_, fun h => ?_⟩⟩
  · by_cases c : s.1 ≤ o
    · by_cases d : o < s.2
      · exact .inr ⟨c, d⟩
      · rcases (hm b).1 hb with hb' | rfl
        · exact .inl ⟨b, hb', by have := ht b hb'; omega, by omega⟩
        · omega
    · rcases (hm a).1 ha with ha' | rfl
      · exact .inl ⟨a, ha', by omega, by have := ht a ha'; omega⟩
      · omega
  · rcases h with ⟨x, hx, p, q⟩ | ⟨p, q⟩
    · have := h1 x ((hm x).2 (.inl hx)); omega
    · omega

/-! ### adding and removing, at places -/
def addAt (l : List Sp) (s : Sp) (f t : Nat) : List Sp := l.take f ++ ([hullP ((l.take t).drop f ++ [s])] ++ l.drop t)
theorem three (l : List Sp) (f t : Nat) (h : f ≤ t) : l.take f ++ (l.take t).drop f ++ l.drop t = l := by
  have e : l.take f = (l.take t).take f := by rw [List.take_take]; congr 1; omega
  rw [e, List.take_append_drop, List.take_append_drop]
theorem add_spec {l : List Sp} {s : Sp} {f t : Nat} (hl : Rn l) (hs : ROk s) (hft : f ≤ t) (h1 : ∀ x ∈ l.take f, x.2 < s.1) (h2 : ∀ x ∈ l.drop f, s.1 ≤ x.2) (h3 : ∀ x ∈ l.take t, x.1 ≤ s.2) (h4 : ∀ x ∈ l.drop t, s.2 < x.1) :
    Rn (addAt l s f t) ∧ ∀ o, In (addAt l s f t) o ↔ In l o ∨ (s.1 ≤ o ∧ o < s.2) := by
  have e := three l f t hft
  unfold addAt
  have hd : ∀ x ∈ (l.take t).drop f, x ∈ l.drop f := fun x hx => by
    have : (l.take t).drop f = (l.drop f).take (t - f) := List.drop_take
    rw [this] at hx
    exact List.mem_of_mem_take hx
  have hm2 : ∀ x ∈ (l.take t).drop f, s.1 ≤ x.2 ∧ x.1 ≤ s.2 := fun x hx => ⟨h2 x (hd x hx), h3 x (List.mem_of_mem_drop hx)⟩
  generalize l.take f = A at *
  generalize (l.take t).drop f = B at *
  generalize l.drop t = D at *
  subst e
  obtain ⟨p1, p2⟩ := hl.of_append
  have hB : ∀ x ∈ B, ROk x := fun x hx => hl.ok x (by simp [hx])
  obtain ⟨hk, hin⟩ := hull_in hB hs hm2 (m := B ++ [s]) (fun x => by simp)
  obtain ⟨q1, ⟨a, ha, q2⟩, ⟨b, hb, q3⟩⟩ := hull_spec (B ++ [s]) (fun x hx => by rcases List.mem_append.1 hx with h | h; exact hB x h; simp at h; subst h; exact hs) (by simp)
  refine ⟨Rn.mid hl.left.left ⟨fun x hx => by simp at hx; subst hx; exact hk, List.pairwise_singleton _ _⟩ hl.right (fun x hx y hy => ?_) (fun x hx y hy => ?_), fun o => ?_⟩
  · rcases List.mem_append.1 hy with hy | hy
    · simp at hy
      subst hy
      rw [q2]
      rcases List.mem_append.1 ha with ha | ha
      · exact p1 x hx a (List.mem_append.2 (.inl ha))
      · simp at ha; subst ha; exact h1 x hx
    · exact p1 x hx y (List.mem_append.2 (.inr hy))
  · simp at hx
    subst hx
    rw [q3]
    rcases List.mem_append.1 hb with hb | hb
    · exact p2 b (List.mem_append.2 (.inr hb)) y hy
    · simp at hb; subst hb; exact h4 y hy
  · rw [In.append, In.append, In.append, In.append, In.one, hin]
    constructor
    · rintro (h | (h | h) | h)
      · exact .inl (.inl (.inl h))
      · exact .inl (.inl (.inr h))
      · exact .inr h
      · exact .inl (.inr h)
    · rintro (((h | h) | h) | h)
      · exact .inl h
      · exact .inr (.inl (.inl h))
      · exact .inr (.inr h)
      · exact .inr (.inl (.inr h))
def remAt (l : List Sp) (s : Sp) (f t : Nat) (d : Sp) : List Sp := l.take f ++ ((ne (belowP (l.getD f d) s.1) ++ ne (fromP (l.getD (t - 1) d) s.2)) ++ l.drop t)
theorem mid_ends (l : List Sp) (f t : Nat) (d : Sp) (hft : f < t) (ht : t ≤ l.length) : ∃ m, (l.take t).drop f = m ++ [l.getD (t - 1) d] ∧ (m = [] ∧ l.getD (t - 1) d = l.getD f d ∨ ∃ m', m = l.getD f d :: m') := by
  have e : l.take t = l.take (t - 1) ++ [l.getD (t - 1) d] := by
    have h1 : t - 1 < l.length := by omega
    have h2 : l.take (t - 1 + 1) = l.take (t - 1) ++ [l[t - 1]] := by rw [List.take_succ_eq_append_getElem h1]
    rw [show t - 1 + 1 = t by omega] at h2
    rw [h2]
    simp [List.getD, h1]
  rw [e, List.drop_append_of_le_length (by simp; omega)]
  refine ⟨(l.take (t - 1)).drop f, rfl, ?_⟩
  by_cases c : f = t - 1
  · left
    subst c
    exact ⟨by simp, rfl⟩
  · right
    have hf : f < (l.take (t - 1)).length := by simp; omega
    refine ⟨(l.take (t - 1)).drop (f + 1), ?_⟩
    rw [List.drop_eq_getElem_cons hf]
    congr 1
    have : f < l.length := by omega
    simp [List.getD, this]
theorem rem_spec {l : List Sp} {s : Sp} {f t : Nat} (d : Sp) (hl : Rn l) (hs : ROk s) (hft : f < t) (ht : t ≤ l.length) (h1 : ∀ x ∈ l.take f, x.2 ≤ s.1) (h2 : ∀ x ∈ l.drop f, s.1 < x.2) (h3 : ∀ x ∈ l.take t, x.1 < s.2) (h4 : ∀ x ∈ l.drop t, s.2 ≤ x.1) :
    Rn (remAt l s f t d) ∧ ∀ o, In (remAt l s f t d) o ↔ In l o ∧ ¬ (s.1 ≤ o ∧ o < s.2) := by
  have e := three l f t (by omega)
  obtain ⟨m, hm, hm'⟩ := mid_ends l f t d hft ht
  unfold remAt
  have hd : ∀ x ∈ (l.take t).drop f, x ∈ l.drop f := fun x hx => by
    have : (l.take t).drop f = (l.drop f).take (t - f) := List.drop_take
    rw [this] at hx
    exact List.mem_of_mem_take hx
  have hm2 : ∀ x ∈ (l.take t).drop f, s.1 < x.2 ∧ x.1 < s.2 := fun x hx => ⟨h2 x (hd x hx), h3 x (List.mem_of_mem_drop hx)⟩
  generalize l.take f = A at *
  generalize (l.take t).drop f = B at *
  generalize l.drop t = D at *
  generalize l.getD f d = u at *
  generalize l.getD (t - 1) d = v at *
  subst e
  obtain ⟨p1, p2⟩ := hl.of_append
  have hB : ∀ x ∈ B, ROk x := fun x hx => hl.ok x (by simp [hx])
  have hBr : Rn B := hl.left.right
  have hub : u ∈ B := by rw [hm]; rcases hm' with ⟨_, h⟩ | ⟨m', h⟩; rw [h]; simp; rw [h]; simp
  have hvb : v ∈ B := by rw [hm]; simp
  have hu := hB u hub; have hv := hB v hvb
  have hu2 := hm2 u hub; have hv2 := hm2 v hvb
  -- each of B begins at u, and ends at v, or is u or v
  have hfst : ∀ x ∈ B, x = u ∨ u.2 < x.1 := by
    intro x hx
    rw [hm] at hx hBr
    rcases hm' with ⟨h, h'⟩ | ⟨m', h⟩
    · subst h; simp at hx; left; rw [hx, h']
    · subst h
      rcases List.mem_append.1 hx with hx | hx
      · rcases List.mem_cons.1 hx with rfl | hx
        · exact .inl rfl
        · exact .inr (hBr.lt (List.mem_append.2 (.inl hx)))
      · exact .inr (hBr.lt (List.mem_append.2 (.inr hx)))
  have hlst : ∀ x ∈ B, x = v ∨ x.2 < v.1 := by
    intro x hx
    rw [hm] at hx hBr
    rcases List.mem_append.1 hx with hx | hx
    · exact .inr ((List.pairwise_append.1 hBr.up).2.2 x hx v (by simp))
    · simp at hx; exact .inl hx
  have hs0 := hs.1; have hs1 := hs.2.1; have hs2 := hs.2.2
  have hu0 := hu.1; have hu1 := hu.2.1; have hu3 := hu.2.2
  have hv0 := hv.1; have hv1 := hv.2.1; have hv3 := hv.2.2
  have eb : belowP u s.1 = betw u.1 (min u.2 s.1) := below_rok hu.ok _
  have ea : fromP v s.2 = betw (max v.1 s.2) v.2 := from_rok hv.ok _
  have ib : ∀ o, In (ne (belowP u s.1)) o ↔ u.1 ≤ o ∧ o < s.1 := fun o => by rw [eb, ne_in hu0 (by omega)]; omega
  have ia : ∀ o, In (ne (fromP v s.2)) o ↔ s.2 ≤ o ∧ o < v.2 := fun o => by rw [ea, ne_in (by omega) hv3]; omega
  have mb : ∀ y ∈ ne (belowP u s.1), y.1 = u.1 ∧ y.2 ≤ s.1 := fun y hy => by
    obtain ⟨rfl, h⟩ := ne_mem hy
    rw [eb] at h ⊢
    unfold betw at h ⊢
    by_cases c : min u.2 s.1 ≤ u.1
    · rw [if_pos c] at h; exact absurd h.2.1 (by simp)
    · rw [if_neg c]; exact ⟨rfl, by simp only; omega⟩
  have ma : ∀ y ∈ ne (fromP v s.2), s.2 ≤ y.1 ∧ y.2 = v.2 := fun y hy => by
    obtain ⟨rfl, h⟩ := ne_mem hy
    rw [ea] at h ⊢
    unfold betw at h ⊢
    by_cases c : v.2 ≤ max v.1 s.2
    · rw [if_pos c] at h; exact absurd h.2.1 (by simp)
    · rw [if_neg c]; exact ⟨by simp only; omega, rfl⟩
  have rm : Rn (ne (belowP u s.1) ++ ne (fromP v s.2)) := ⟨fun x hx => by
    rcases List.mem_append.1 hx with h | h
    · exact (ne_rn _).ok x h
    · exact (ne_rn _).ok x h, List.pairwise_append.2 ⟨(ne_rn _).up, (ne_rn _).up, fun x hx y hy => by have := mb x hx; have := ma y hy; omega⟩⟩
  refine ⟨Rn.mid hl.left.left rm hl.right (fun x hx y hy => ?_) (fun x hx y hy => ?_), fun o => ?_⟩
  · rcases List.mem_append.1 hy with hy | hy
    · rcases List.mem_append.1 hy with hy | hy
      · rw [(mb y hy).1]; exact p1 x hx u (List.mem_append.2 (.inl hub))
      · have := ma y hy
        have := p1 x hx v (List.mem_append.2 (.inl hvb))
        have := h1 x hx
        omega
    · exact p1 x hx y (List.mem_append.2 (.inr hy))
  · rcases List.mem_append.1 hx with hx | hx
    · have := mb x hx
      have := p2 u (List.mem_append.2 (.inr hub)) y hy
      have := h4 y hy
      omega
    · rw [(ma x hx).2]; exact p2 v (List.mem_append.2 (.inr hvb)) y hy
  · rw [In.append, In.append, In.append, In.append, In.append, ib, ia]
    constructor
    · rintro (h | (h | h) | h)
      · refine ⟨.inl (.inl h), ?_⟩
        obtain ⟨x, hx, a, b⟩ := h
        have := h1 x hx
        omega
      · exact ⟨.inl (.inr ⟨u, hub, by omega, by omega⟩), by omega⟩
      · exact ⟨.inl (.inr ⟨v, hvb, by omega, by omega⟩), by omega⟩
      · refine ⟨.inr h, ?_⟩
        obtain ⟨x, hx, a, b⟩ := h
        have := h4 x hx
        omega
    · rintro ⟨(h | h) | h, hn⟩
      · exact .inl h
      · right; left
        obtain ⟨x, hx, a, b⟩ := h
        have hx2 := hm2 x hx
        by_cases c : o < s.1
        · left
          rcases hfst x hx with rfl | q
          · omega
          · have := hfst; omega
        · right
          rcases hlst x hx with rfl | q
          · omega
          · omega
      · exact .inr (.inr h)
end Go.Proofs.Ytekddgmmfgpehaa.rn
/-!   What the reference says of sets, as lists. Imports nothing of the program.
-/
namespace Go.Proofs.Ytekddgmmfgpehaa.rn
open Go.RowKit aid sp
set_option linter.unusedVariables false

def bytesL (l : List Sp) : Int := (l.map lenI).sum
def withinL (l : List Sp) (s : Sp) : Int := (l.map (fun x => lenI (meetP x s))).sum
theorem bytes_append (l r : List Sp) : bytesL (l ++ r) = bytesL l + bytesL r := by unfold bytesL; simp
theorem within_append (l r : List Sp) (s : Sp) : withinL (l ++ r) s = withinL l s + withinL r s := by unfold withinL; simp
theorem bytes_cons (x : Sp) (l : List Sp) : bytesL (x :: l) = lenI x + bytesL l := by unfold bytesL; simp
theorem within_cons (x : Sp) (l : List Sp) (s : Sp) : withinL (x :: l) s = lenI (meetP x s) + withinL l s := by unfold withinL; simp
theorem bytes_nil : bytesL [] = 0 := rfl
theorem within_nil (s : Sp) : withinL [] s = 0 := rfl
theorem bytes_ne (x : Sp) : bytesL (ne x) = lenI x := by
  unfold ne
  by_cases c : lenI x = 0
  · rw [if_pos c, c]; rfl
  · rw [if_neg c, bytes_cons, bytes_nil]; omega
theorem bytes_bd : ∀ {l : List Sp} (c : Int), Rn l → c ≤ 4611686018427387904 → (∀ x ∈ l, c ≤ x.1) → 0 ≤ bytesL l ∧ bytesL l ≤ 4611686018427387904 - c := by
  intro l
  induction l with
  | nil => intro c h hc hx; rw [bytes_nil]; omega
  | cons x l ih =>
    intro c h hc hx
    have hk := h.head
    obtain ⟨k0, k1, k2⟩ := hk
    have := ih x.2 h.tail k2 (fun y hy => by have := h.lt hy; omega)
    have := hx x (by simp)
    rw [bytes_cons, len_rok h.head]
    omega
theorem Rn.bytes {l : List Sp} (h : Rn l) : 0 ≤ bytesL l ∧ bytesL l ≤ 4611686018427387904 := by
  have := bytes_bd 0 h (by omega) (fun x hx => (h.ok x hx).1)
  omega
theorem meet_le {x : Sp} (hx : ROk x) (s : Sp) : 0 ≤ lenI (meetP x s) ∧ lenI (meetP x s) ≤ lenI x := by
  refine ⟨(lenI_bd _).1, ?_⟩
  rw [len_rok hx]
  have hf := fit_ok s.1 s.2
  have e : meetP x s = betw (max x.1 (fitP s.1 s.2).1) (min x.2 (fitP s.1 s.2).2) := by unfold meetP; rw [fit_of hx.ok]
  rw [e]
  obtain ⟨x0, x1, x2⟩ := hx
  obtain ⟨f0, f1, f2⟩ := hf
  rw [betw_len (by omega) (by omega)]
  split <;> omega
theorem within_le : ∀ {l : List Sp} (s : Sp), (∀ x ∈ l, ROk x) → 0 ≤ withinL l s ∧ withinL l s ≤ bytesL l := by
  intro l
  induction l with
  | nil => intro s h; rw [within_nil, bytes_nil]; omega
  | cons x l ih =>
    intro s h
    have a := meet_le (h x (by simp)) s
    have b := ih s (fun y hy => h y (List.mem_cons_of_mem _ hy))
    rw [within_cons, bytes_cons]
    omega
theorem Rn.take {l : List Sp} (h : Rn l) (k : Nat) : Rn (l.take k) := by
  have := h
  rw [← List.take_append_drop k l] at this
  exact this.left
theorem Rn.drop {l : List Sp} (h : Rn l) (k : Nat) : Rn (l.drop k) := by
  have := h
  rw [← List.take_append_drop k l] at this
  exact this.right

/-! ### without -/
def woL (l : List Sp) (s : Sp) : List Sp := l.flatMap (fun x => ne (belowP x s.1) ++ ne (fromP x s.2))
def refWo (l : List Sp) (s : Sp) : List Sp := if lenI s = 0 then l else woL l s
theorem wo_cons (x : Sp) (l : List Sp) (s : Sp) : woL (x :: l) s = (ne (belowP x s.1) ++ ne (fromP x s.2)) ++ woL l s := by unfold woL; simp
theorem betw_mem {a b : Int} {y : Sp} (h : y ∈ ne (betw a b)) : y.1 = a ∧ y.2 = b ∧ a < b := by
  obtain ⟨e, k⟩ := ne_mem h
  clear h
  subst e
  unfold betw at k ⊢
  by_cases c : b ≤ a
  · rw [if_pos c] at k; exact absurd k.2.1 (by simp)
  · rw [if_neg c]; exact ⟨rfl, rfl, by omega⟩
theorem wo_one {x s : Sp} (hx : ROk x) (hs : ROk s) : Rn (ne (belowP x s.1) ++ ne (fromP x s.2)) ∧ (∀ y ∈ ne (belowP x s.1) ++ ne (fromP x s.2), x.1 ≤ y.1 ∧ y.2 ≤ x.2) ∧
    (∀ o, In (ne (belowP x s.1) ++ ne (fromP x s.2)) o ↔ (x.1 ≤ o ∧ o < x.2) ∧ ¬ (s.1 ≤ o ∧ o < s.2)) ∧ bytesL (ne (belowP x s.1) ++ ne (fromP x s.2)) = lenI x - lenI (meetP x s) := by
  rw [below_rok hx.ok, from_rok hx.ok]
  have hm := meet_len hx.ok hs.ok
  have hl := len_rok hx
  obtain ⟨x0, x1, x2⟩ := hx
  obtain ⟨s0, s1, s2⟩ := hs
  refine ⟨⟨fun y hy => ?_, List.pairwise_append.2 ⟨(ne_rn _).up, (ne_rn _).up, fun y hy z hz => ?_⟩⟩, fun y hy => ?_, fun o => ?_, ?_⟩
  · rcases List.mem_append.1 hy with h | h
    · exact (ne_rn _).ok y h
    · exact (ne_rn _).ok y h
  · have := betw_mem hy; have := betw_mem hz; omega
  · rcases List.mem_append.1 hy with h | h <;> (have := betw_mem h; omega)
  · rw [In.append, ne_in x0 (by omega), ne_in (by omega) x2]; omega
  · rw [bytes_append, bytes_ne, bytes_ne, betw_len x0 (by omega), betw_len (by omega) x2, hm, hl]
    split <;> split <;> split <;> omega
theorem wo_spec : ∀ {l : List Sp} {s : Sp}, Rn l → ROk s → Rn (woL l s) ∧ (∀ o, In (woL l s) o ↔ In l o ∧ ¬ (s.1 ≤ o ∧ o < s.2)) ∧ bytesL (woL l s) = bytesL l - withinL l s ∧ (∀ c, (∀ x ∈ l, c < x.1) → ∀ y ∈ woL l s, c < y.1) := by
  intro l
  induction l with
  | nil => intro s hl hs; exact ⟨Rn.nil, fun o => ⟨fun h => absurd h In.nil, fun h => absurd h.1 In.nil⟩, rfl, fun c _ y hy => by simp [woL] at hy⟩
  | cons x l ih =>
    intro s hl hs
    obtain ⟨i1, i2, i3, i4⟩ := ih hl.tail hs
    obtain ⟨o1, o2, o3, o4⟩ := wo_one hl.head hs
    rw [wo_cons]
    refine ⟨⟨fun y hy => ?_, List.pairwise_append.2 ⟨o1.up, i1.up, fun y hy z hz => ?_⟩⟩, fun o => ?_, ?_, fun c hc y hy => ?_⟩
    · rcases List.mem_append.1 hy with h | h
      · exact o1.ok y h
      · exact i1.ok y h
    · have := (o2 y hy).2
      have := i4 x.2 (fun u hu => hl.lt hu) z hz
      omega
    · rw [In.append, i2, o3, In.cons]
      constructor
      · rintro (⟨a, b⟩ | ⟨a, b⟩)
        · exact ⟨.inl a, b⟩
        · exact ⟨.inr a, b⟩
      · rintro ⟨a | a, b⟩
        · exact .inl ⟨a, b⟩
        · exact .inr ⟨a, b⟩
    · rw [bytes_append, i3, o4, bytes_cons, within_cons]; omega
    · rcases List.mem_append.1 hy with h | h
      · have := (o2 y h).1; have := hc x (by simp); omega
      · exact i4 c (fun u hu => hc u (List.mem_cons_of_mem _ hu)) y h

/-! ### with -/
def add3 (A B D : List Sp) (s : Sp) : List Sp := A ++ ([hullP (B ++ [s])] ++ D)
structure Cut3 (l : List Sp) (s : Sp) (A B D : List Sp) : Prop where
  eq : l = A ++ B ++ D
  a : ∀ x ∈ A, x.2 < s.1
  b : ∀ x ∈ B, s.1 ≤ x.2 ∧ x.1 ≤ s.2
  d : ∀ x ∈ D, s.2 < x.1
theorem cut3 (s : Sp) (hs : ROk s) : ∀ (l : List Sp), Rn l → ∃ A B D, Cut3 l s A B D := by
  intro l
  induction l with
  | nil => intro h; exact ⟨[], [], [], rfl, by simp, by simp, by simp⟩
  | cons x l ih =>
    intro h
    obtain ⟨A, B, D, h1, h2, h3, h4⟩ := ih h.tail
    have hx := h.head.2.1
    have hs1 := hs.2.1
    by_cases c1 : x.2 < s.1
    · exact ⟨x :: A, B, D, by rw [h1]; rfl, fun y hy => by rcases List.mem_cons.1 hy with rfl | hy; exact c1; exact h2 y hy, h3, h4⟩
    · have hA : A = [] := by
        cases A with
        | nil => rfl
        | cons y A =>
          have := h2 y (by simp)
          have := h.lt (y := y) (by rw [h1]; simp)
          have := (h.ok y (by rw [h1]; simp)).2.1
          omega
      subst hA
      by_cases c2 : x.1 ≤ s.2
      · exact ⟨[], x :: B, D, by rw [h1]; rfl, by simp, fun y hy => by rcases List.mem_cons.1 hy with rfl | hy; exact ⟨by omega, c2⟩; exact h3 y hy, h4⟩
      · have hB : B = [] := by
          cases B with
          | nil => rfl
          | cons y B =>
            have := h3 y (by simp)
            have := h.lt (y := y) (by rw [h1]; simp)
            omega
        subst hB
        exact ⟨[], [], x :: D, by rw [h1]; rfl, by simp, by simp, fun y hy => by rcases List.mem_cons.1 hy with rfl | hy; omega; exact h4 y hy⟩
theorem add3_spec {l A B D : List Sp} {s : Sp} (hl : Rn l) (hs : ROk s) (h : Cut3 l s A B D) :
    Rn (add3 A B D s) ∧ (∀ o, In (add3 A B D s) o ↔ In l o ∨ (s.1 ≤ o ∧ o < s.2)) ∧ (∀ x ∈ A, x.2 < (hullP (B ++ [s])).1) ∧ (∀ x ∈ D, (hullP (B ++ [s])).2 < x.1) ∧ ROk (hullP (B ++ [s])) ∧ (∀ x ∈ B ++ [s], (hullP (B ++ [s])).1 ≤ x.1 ∧ x.2 ≤ (hullP (B ++ [s])).2) := by
  obtain ⟨e, ha, hb, hd⟩ := h
  unfold add3
  subst e
  obtain ⟨p1, p2⟩ := hl.of_append
  have hB : ∀ x ∈ B, ROk x := fun x hx => hl.ok x (by simp [hx])
  obtain ⟨hk, hin⟩ := hull_in hB hs hb (m := B ++ [s]) (fun x => by simp)
  obtain ⟨q1, ⟨a, ham, q2⟩, ⟨b, hbm, q3⟩⟩ := hull_spec (B ++ [s]) (fun x hx => by rcases List.mem_append.1 hx with h | h; exact hB x h; simp at h; subst h; exact hs) (by simp)
  have hA : ∀ x ∈ A, x.2 < (hullP (B ++ [s])).1 := fun x hx => by
    rw [q2]
    rcases List.mem_append.1 ham with ham | ham
    · exact p1 x hx a (List.mem_append.2 (.inl ham))
    · simp at ham; subst ham; exact ha x hx
  have hD : ∀ x ∈ D, (hullP (B ++ [s])).2 < x.1 := fun y hy => by
    rw [q3]
    rcases List.mem_append.1 hbm with hbm | hbm
    · exact p2 b (List.mem_append.2 (.inr hbm)) y hy
    · simp at hbm; subst hbm; exact hd y hy
  refine ⟨Rn.mid hl.left.left ⟨fun x hx => by simp at hx; subst hx; exact hk, List.pairwise_singleton _ _⟩ hl.right (fun x hx y hy => ?_) (fun x hx y hy => ?_), fun o => ?_, hA, hD, hk, q1⟩
  · rcases List.mem_append.1 hy with hy | hy
    · simp at hy; subst hy; exact hA x hx
    · exact p1 x hx y (List.mem_append.2 (.inr hy))
  · simp at hx; subst hx; exact hD y hy
  · rw [In.append, In.append, In.append, In.append, In.one, hin]
    constructor
    · rintro (h | (h | h) | h)
      · exact .inl (.inl (.inl h))
      · exact .inl (.inl (.inr h))
      · exact .inr h
      · exact .inl (.inr h)
    · rintro (((h | h) | h) | h)
      · exact .inl h
      · exact .inr (.inl (.inl h))
      · exact .inr (.inr h)
      · exact .inr (.inl (.inr h))
/-- the reference's first loop -/
def allL (s : Sp) (l : List Sp) : Sp := l.foldl (fun a x => if touchB x s = true then hullP [a, x] else a) s
/-- the reference's second loop -/
def putS (a : Sp) (q : List Sp × Bool) (x : Sp) : List Sp × Bool := if touchB x a = true then q else if q.2 = false ∧ a.1 < x.1 then (q.1 ++ [a] ++ [x], true) else (q.1 ++ [x], q.2)
def putL (a : Sp) (l : List Sp) : List Sp × Bool := l.foldl (putS a) ([], false)
def endL (a : Sp) (q : List Sp × Bool) : List Sp := if q.2 = true then q.1 else q.1 ++ [a]
def refWi (l : List Sp) (s : Sp) : List Sp := if lenI s = 0 then l else endL (allL s l) (putL (allL s l) l)
theorem touch_rok {x s : Sp} (hx : ROk x) (hs : ROk s) : touchB x s = (decide (x.1 ≤ s.2) && decide (s.1 ≤ x.2)) := by
  unfold touchB
  have a := len_rok hx; have b := len_rok hs
  have c := hx.2.1; have d := hs.2.1
  rw [decide_eq_true (show lenI x ≠ 0 by omega), decide_eq_true (show lenI s ≠ 0 by omega)]
  simp
theorem hull_ne {l : List Sp} (h : ∀ x ∈ l, ROk x) (hne : l ≠ []) : lenI (hullP l) ≠ 0 ∧ ROk (hullP l) := by
  obtain ⟨a, ⟨b, hb, c⟩, ⟨d, hd, e⟩⟩ := hull_spec l h hne
  have k1 := h b hb; have k2 := h d hd
  have m := a b hb
  have : ROk (hullP l) := ⟨by have := k1.1; omega, by have := k1.2.1; omega, by have := k2.2.2; omega⟩
  exact ⟨by rw [len_rok this]; have := this.2.1; omega, this⟩
/-- a hull is told by who is in it -/
theorem hull_mem {l r : List Sp} (hl : ∀ x ∈ l, ROk x) (hne : l ≠ []) (h : ∀ x, x ∈ l ↔ x ∈ r) : hullP l = hullP r := by
  have hr : ∀ x ∈ r, ROk x := fun x hx => hl x ((h x).2 hx)
  have hrn : r ≠ [] := by
    intro e
    subst e
    cases l with
    | nil => exact hne rfl
    | cons x l => have := (h x).1 (by simp); simp at this
  obtain ⟨a1, ⟨x1, m1, e1⟩, ⟨y1, n1, f1⟩⟩ := hull_spec l hl hne
  obtain ⟨a2, ⟨x2, m2, e2⟩, ⟨y2, n2, f2⟩⟩ := hull_spec r hr hrn
  have p1 := a1 x2 ((h _).2 m2); have p2 := a2 x1 ((h _).1 m1)
  have p3 := a1 y2 ((h _).2 n2); have p4 := a2 y1 ((h _).1 n1)
  exact Prod.ext (by omega) (by omega)
theorem hull_two {l : List Sp} (hl : ∀ x ∈ l, ROk x) (hne : l ≠ []) {x : Sp} (hx : ROk x) : hullP [hullP l, x] = hullP (l ++ [x]) := by
  have hk := (hull_ne hl hne).2
  obtain ⟨a1, ⟨x1, m1, e1⟩, ⟨y1, n1, f1⟩⟩ := hull_spec l hl hne
  obtain ⟨a2, ⟨x2, m2, e2⟩, ⟨y2, n2, f2⟩⟩ := hull_spec [hullP l, x] (fun y hy => by simp at hy; rcases hy with rfl | rfl; exact hk; exact hx) (by simp)
  obtain ⟨a3, ⟨x3, m3, e3⟩, ⟨y3, n3, f3⟩⟩ := hull_spec (l ++ [x]) (fun y hy => by rcases List.mem_append.1 hy with h | h; exact hl y h; simp at h; subst h; exact hx) (by simp)
  have b1 := a2 (hullP l) (by simp)
  have b2 := a2 x (by simp)
  have c1 := a3 x1 (List.mem_append.2 (.inl m1))
  have c2 := a3 y1 (List.mem_append.2 (.inl n1))
  have c3 := a3 x (by simp)
  refine Prod.ext ?_ ?_
  · simp at m2
    rcases List.mem_append.1 m3 with m3 | m3
    · have := a1 x3 m3
      rcases m2 with rfl | rfl <;> omega
    · simp at m3
      subst m3
      rcases m2 with rfl | rfl <;> omega
  · simp at n2
    rcases List.mem_append.1 n3 with n3 | n3
    · have := a1 y3 n3
      rcases n2 with rfl | rfl <;> omega
    · simp at n3
      subst n3
      rcases n2 with rfl | rfl <;> omega
theorem all_eq {l A B D : List Sp} {s : Sp} (hl : Rn l) (hs : ROk s) (h : Cut3 l s A B D) : allL s l = hullP (B ++ [s]) := by
  obtain ⟨e, ha, hb, hd⟩ := h
  subst e
  unfold allL
  have hA : ∀ (A : List Sp) (q : Sp), (∀ x ∈ A, ROk x ∧ (x.2 < s.1 ∨ s.2 < x.1)) → A.foldl (fun a x => if touchB x s = true then hullP [a, x] else a) q = q := by
    intro A
    induction A with
    | nil => intro q _; rfl
    | cons x A ih =>
      intro q h
      obtain ⟨h1, h2⟩ := h x (by simp)
      have h3 := h1.2.1; have h4 := hs.2.1
      have ht : touchB x s = false := by rw [touch_rok h1 hs]; simp; omega
      rw [List.foldl_cons, if_neg (by rw [ht]; simp)]
      exact ih q (fun y hy => h y (List.mem_cons_of_mem _ hy))
  have hB : ∀ (B : List Sp) (q : List Sp), (∀ x ∈ q, ROk x) → q ≠ [] → (∀ x ∈ B, ROk x ∧ s.1 ≤ x.2 ∧ x.1 ≤ s.2) → B.foldl (fun a x => if touchB x s = true then hullP [a, x] else a) (hullP q) = hullP (q ++ B) := by
    intro B
    induction B with
    | nil => intro q _ _ _; rw [List.append_nil]; rfl
    | cons x B ih =>
      intro q hq hn h
      obtain ⟨h1, h2, h3⟩ := h x (by simp)
      have ht : touchB x s = true := by rw [touch_rok h1 hs]; simp; omega
      rw [List.foldl_cons, if_pos ht, hull_two hq hn h1, ih (q ++ [x]) (fun y hy => by rcases List.mem_append.1 hy with h | h; exact hq y h; simp at h; subst h; exact h1) (by simp) (fun y hy => h y (List.mem_cons_of_mem _ hy))]
      simp
  have hk : ∀ x ∈ A ++ B ++ D, ROk x := hl.ok
  have es : hullP [s] = s := by
    have : lenI s ≠ 0 := by rw [len_rok hs]; have := hs.2.1; omega
    show widerP (0, 0) s = s
    unfold widerP
    rw [if_neg this, if_pos rfl]
  rw [List.foldl_append, List.foldl_append, hA A s (fun x hx => ⟨hk x (by simp [hx]), .inl (ha x hx)⟩)]
  have := hB B [s] (by simpa using hs) (by simp) (fun x hx => ⟨hk x (by simp [hx]), hb x hx⟩)
  rw [es] at this
  rw [this, hA D _ (fun x hx => ⟨hk x (by simp [hx]), .inr (hd x hx)⟩)]
  exact hull_mem (fun x hx => by rcases List.mem_append.1 hx with h | h; (simp at h; subst h; exact hs); exact hk x (by simp [h])) (by simp) (fun x => by simp; exact Or.comm)
theorem wi_eq {l A B D : List Sp} {s : Sp} (hl : Rn l) (hs : ROk s) (h : Cut3 l s A B D) : refWi l s = add3 A B D s := by
  have hla : lenI s ≠ 0 := by rw [len_rok hs]; have := hs.2.1; omega
  obtain ⟨_, _, hA, hD, hk, hin⟩ := add3_spec hl hs h
  unfold refWi
  rw [if_neg hla, all_eq hl hs h]
  obtain ⟨e, ha, hb, hd⟩ := h
  subst e
  unfold add3
  generalize hullP (B ++ [s]) = H at *
  have hK : ∀ x ∈ A ++ B ++ D, ROk x := hl.ok
  have p1 : ∀ (A q : List Sp), (∀ x ∈ A, ROk x ∧ x.2 < H.1) → A.foldl (putS H) (q, false) = (q ++ A, false) := by
    intro A
    induction A with
    | nil => intro q _; rw [List.append_nil]; rfl
    | cons x A ih =>
      intro q h
      obtain ⟨h1, h2⟩ := h x (by simp)
      have h3 := h1.2.1; have h4 := hk.2.1
      have ht : touchB x H = false := by rw [touch_rok h1 hk]; simp; omega
      have : putS H (q, false) x = (q ++ [x], false) := by unfold putS; rw [if_neg (by rw [ht]; simp), if_neg (by simp; omega)]
      rw [List.foldl_cons, this, ih _ (fun y hy => h y (List.mem_cons_of_mem _ hy))]
      simp
  have p2 : ∀ (B : List Sp) (q : List Sp × Bool), (∀ x ∈ B, ROk x ∧ H.1 ≤ x.1 ∧ x.2 ≤ H.2) → B.foldl (putS H) q = q := by
    intro B
    induction B with
    | nil => intro q _; rfl
    | cons x B ih =>
      intro q h
      obtain ⟨h1, h2, h3⟩ := h x (by simp)
      have h4 := h1.2.1
      have ht : touchB x H = true := by rw [touch_rok h1 hk]; simp; omega
      have : putS H q x = q := by unfold putS; rw [if_pos ht]
      rw [List.foldl_cons, this]
      exact ih _ (fun y hy => h y (List.mem_cons_of_mem _ hy))
  have p3 : ∀ (D q : List Sp), (∀ x ∈ D, ROk x ∧ H.2 < x.1) → D.foldl (putS H) (q, true) = (q ++ D, true) := by
    intro D
    induction D with
    | nil => intro q _; rw [List.append_nil]; rfl
    | cons x D ih =>
      intro q h
      obtain ⟨h1, h2⟩ := h x (by simp)
      have h3 := h1.2.1; have h4 := hk.2.1
      have ht : touchB x H = false := by rw [touch_rok h1 hk]; simp; omega
      have : putS H (q, true) x = (q ++ [x], true) := by unfold putS; rw [if_neg (by rw [ht]; simp), if_neg (by simp)]
      rw [List.foldl_cons, this, ih _ (fun y hy => h y (List.mem_cons_of_mem _ hy))]
      simp
  unfold putL
  rw [List.foldl_append, List.foldl_append, p1 A [] (fun x hx => ⟨hK x (by simp [hx]), hA x hx⟩), p2 B _ (fun x hx => ⟨hK x (by simp [hx]), hin x (by simp [hx])⟩)]
  cases D with
  | nil => simp [endL]
  | cons x D =>
    have h1 := hK x (by simp)
    have h2 := hD x (by simp)
    have h3 := h1.2.1; have h4 := hk.2.1
    have ht : touchB x H = false := by rw [touch_rok h1 hk]; simp; omega
    have : putS H ([] ++ A, false) x = ([] ++ A ++ [H] ++ [x], true) := by unfold putS; rw [if_neg (by rw [ht]; simp), if_pos ⟨rfl, by omega⟩]
    rw [List.foldl_cons, this, p3 D _ (fun y hy => ⟨hK y (by simp [hy]), hD y (by simp [hy])⟩)]
    simp [endL]
theorem wi_spec {l : List Sp} {s : Sp} (hl : Rn l) (hs : ROk s) : Rn (refWi l s) ∧ (∀ o, In (refWi l s) o ↔ In l o ∨ (s.1 ≤ o ∧ o < s.2)) ∧ bytesL (refWi l s) - bytesL l = lenI s - withinL l s := by
  obtain ⟨A, B, D, h⟩ := cut3 s hs l hl
  obtain ⟨h1, h2, h3, h4, h5, h6⟩ := add3_spec hl hs h
  rw [wi_eq hl hs h]
  refine ⟨h1, h2, ?_⟩
  obtain ⟨w1, w2, w3, _⟩ := wo_spec hl hs
  obtain ⟨v1, v2, v3, _⟩ := wo_spec h1 hs
  have e : woL (add3 A B D s) s = woL l s := Rn.ext v1 w1 (fun o => by
    rw [v2, w2, h2]
    constructor
    · rintro ⟨a | a, b⟩
      · exact ⟨a, b⟩
      · exact absurd a b
    · rintro ⟨a, b⟩
      exact ⟨.inl a, b⟩)
  have hw : withinL (add3 A B D s) s = lenI s := by
    have z : ∀ (L : List Sp), (∀ x ∈ L, ROk x ∧ (x.2 ≤ s.1 ∨ s.2 ≤ x.1)) → withinL L s = 0 := by
      intro L
      induction L with
      | nil => intro _; rfl
      | cons x L ih =>
        intro h
        obtain ⟨a, b⟩ := h x (by simp)
        rw [within_cons, ih (fun y hy => h y (List.mem_cons_of_mem _ hy)), meet_len a.ok hs.ok, if_neg ?_]
        · omega
        · have := a.2.1; have := hs.2.1; omega
    have hh := h6 s (by simp)
    unfold add3
    rw [within_append, within_append, z A (fun x hx => ⟨h1.ok x (by unfold add3; simp [hx]), .inl (by have := h.a x hx; omega)⟩), z D (fun x hx => ⟨h1.ok x (by unfold add3; simp [hx]), .inr (by have := h.d x hx; omega)⟩),
      within_cons, within_nil, meet_len h5.ok hs.ok, len_rok hs, if_pos ?_]
    · omega
    · have := hs.2.1; omega
  rw [e] at v3
  omega
/-- what the code makes is what the reference makes -/
theorem add_at {l : List Sp} {s : Sp} {f t : Nat} (hl : Rn l) (hs : ROk s) (hft : f ≤ t) (h1 : ∀ x ∈ l.take f, x.2 < s.1) (h2 : ∀ x ∈ l.drop f, s.1 ≤ x.2) (h3 : ∀ x ∈ l.take t, x.1 ≤ s.2) (h4 : ∀ x ∈ l.drop t, s.2 < x.1) : addAt l s f t = refWi l s := by
  obtain ⟨a1, a2⟩ := add_spec hl hs hft h1 h2 h3 h4
  obtain ⟨b1, b2, _⟩ := wi_spec hl hs
  exact Rn.ext a1 b1 (fun o => by rw [a2, b2])
theorem rem_at {l : List Sp} {s : Sp} {f t : Nat} (d : Sp) (hl : Rn l) (hs : ROk s) (hft : f < t) (ht : t ≤ l.length) (h1 : ∀ x ∈ l.take f, x.2 ≤ s.1) (h2 : ∀ x ∈ l.drop f, s.1 < x.2) (h3 : ∀ x ∈ l.take t, x.1 < s.2) (h4 : ∀ x ∈ l.drop t, s.2 ≤ x.1) : remAt l s f t d = refWo l s := by
  obtain ⟨a1, a2⟩ := rem_spec d hl hs hft ht h1 h2 h3 h4
  obtain ⟨b1, b2, _⟩ := wo_spec hl hs
  unfold refWo
  rw [if_neg (by rw [len_rok hs]; have := hs.2.1; omega)]
  exact Rn.ext a1 b1 (fun o => by rw [a2, b2])
end Go.Proofs.Ytekddgmmfgpehaa.rn
/-!   Parts, gaps, and what is asked of sets, as lists. Imports nothing of the program.
-/
namespace Go.Proofs.Ytekddgmmfgpehaa.rn
open Go.RowKit aid sp
set_option linter.unusedVariables false

/-- where a search ends -/
structure Found (p : Nat → Bool) (n r : Nat) : Prop where
  le : r ≤ n
  lo : ∀ t, t < r → p t = false
  hi : ∀ t, r ≤ t → t < n → p t = true
theorem Found.take {q : Sp → Bool} {l : List Sp} {n r : Nat} (h : Found (fun i => q (l.getD i (0, 0))) n r) (hl : l.length = n) : (∀ x ∈ l.take r, q x = false) ∧ (∀ x ∈ l.drop r, q x = true) := by
  have hle := h.le
  constructor
  · intro x hx
    obtain ⟨i, hi, rfl⟩ := List.getElem_of_mem hx
    have hir : i < r := by simp at hi; omega
    have := h.lo i hir
    simp only [List.getElem_take]
    rwa [show l.getD i (0, 0) = l[i] from by simp [List.getD, show i < l.length by omega]] at this
  · intro x hx
    obtain ⟨i, hi, rfl⟩ := List.getElem_of_mem hx
    have hir : r + i < l.length := by simp at hi; omega
    have := h.hi (r + i) (by omega) (by omega)
    simp only [List.getElem_drop]
    rwa [show l.getD (r + i) (0, 0) = l[r + i] from by simp [List.getD, hir]] at this
theorem getD_mem {l : List Sp} {i : Nat} (h : i < l.length) : l.getD i (0, 0) ∈ l := by
  rw [show l.getD i (0, 0) = l[i] from by simp [List.getD, h]]
  exact List.getElem_mem _
theorem drop_getD {l : List Sp} {i : Nat} (h : i < l.length) : l.drop i = l.getD i (0, 0) :: l.drop (i + 1) := by
  rw [List.drop_eq_getElem_cons h]
  simp [List.getD, h]
theorem Rn.at {l : List Sp} (h : Rn l) {i j : Nat} (hij : i < j) (hj : j < l.length) : (l.getD i (0, 0)).2 < (l.getD j (0, 0)).1 := by
  have := (List.pairwise_iff_getElem.1 h.up) i j (by omega) hj hij
  rw [show l.getD i (0, 0) = l[i] from by simp [List.getD, show i < l.length by omega], show l.getD j (0, 0) = l[j] from by simp [List.getD, hj]]
  exact this

/-! ### parts -/
def partsL (l : List Sp) (s : Sp) : List Sp := l.flatMap (fun x => ne (meetP x s))
theorem parts_cons (x : Sp) (l : List Sp) (s : Sp) : partsL (x :: l) s = ne (meetP x s) ++ partsL l s := by unfold partsL; simp
theorem parts_append (l r : List Sp) (s : Sp) : partsL (l ++ r) s = partsL l s ++ partsL r s := by unfold partsL; simp
theorem meet_fit {x : Sp} (hx : ROk x) (s : Sp) : meetP x s = betw (max x.1 (fitP s.1 s.2).1) (min x.2 (fitP s.1 s.2).2) := by unfold meetP; rw [fit_of hx.ok]
theorem lenI_fit (s : Sp) : lenI s = (fitP s.1 s.2).2 - (fitP s.1 s.2).1 := rfl
theorem parts_spec : ∀ {l : List Sp} (s : Sp), Rn l → Rn (partsL l s) ∧ (∀ o, In (partsL l s) o ↔ In l o ∧ (fitP s.1 s.2).1 ≤ o ∧ o < (fitP s.1 s.2).2) ∧ bytesL (partsL l s) = withinL l s ∧
    (∀ y ∈ partsL l s, (fitP s.1 s.2).1 ≤ y.1 ∧ y.2 ≤ (fitP s.1 s.2).2) ∧ (∀ c, (∀ x ∈ l, c < x.1) → ∀ y ∈ partsL l s, c < y.1) := by
  intro l
  induction l with
  | nil => intro s hl; exact ⟨Rn.nil, fun o => ⟨fun h => absurd h In.nil, fun h => absurd h.1 In.nil⟩, rfl, fun y hy => by simp [partsL] at hy, fun c _ y hy => by simp [partsL] at hy⟩
  | cons x l ih =>
    intro s hl
    obtain ⟨i1, i2, i3, i4, i5⟩ := ih s hl.tail
    have hx := hl.head
    have hf := fit_ok s.1 s.2
    have hm := meet_fit hx s
    rw [parts_cons]
    generalize fitP s.1 s.2 = f at *
    obtain ⟨x0, x1, x2⟩ := hx
    obtain ⟨f0, f1, f2⟩ := hf
    rw [hm]
    refine ⟨⟨fun y hy => ?_, List.pairwise_append.2 ⟨(ne_rn _).up, i1.up, fun y hy z hz => ?_⟩⟩, fun o => ?_, ?_, fun y hy => ?_, fun c hc y hy => ?_⟩
    · rcases List.mem_append.1 hy with h | h
      · exact (ne_rn _).ok y h
      · exact i1.ok y h
    · have := betw_mem hy
      have := i5 x.2 (fun u hu => hl.lt hu) z hz
      omega
    · rw [In.append, i2, ne_in (by omega) (by omega), In.cons]
      constructor
      · rintro (a | ⟨a, b⟩)
        · exact ⟨.inl (by omega), by omega⟩
        · exact ⟨.inr a, b⟩
      · rintro ⟨a | a, b⟩
        · exact .inl (by omega)
        · exact .inr ⟨a, b⟩
    · rw [bytes_append, i3, bytes_ne, within_cons, hm]
    · rcases List.mem_append.1 hy with h | h
      · have := betw_mem h; omega
      · exact i4 y h
    · rcases List.mem_append.1 hy with h | h
      · have := betw_mem h; have := hc x (by simp); omega
      · exact i5 c (fun u hu => hc u (List.mem_cons_of_mem _ hu)) y h
theorem meet_none {x s : Sp} (hx : ROk x) (h : lenI s = 0) : lenI (meetP x s) = 0 := by
  rw [meet_fit hx, betw_len (by have := (fit_ok s.1 s.2).1; have := hx.1; omega) (by have := (fit_ok s.1 s.2).2.2; omega)]
  rw [lenI_fit] at h
  rw [if_neg (by omega)]
theorem parts_none {l : List Sp} {s : Sp} (hl : ∀ x ∈ l, ROk x) (h : lenI s = 0) : partsL l s = [] := by
  induction l with
  | nil => rfl
  | cons x l ih =>
    rw [parts_cons, ih (fun y hy => hl y (List.mem_cons_of_mem _ hy))]
    unfold ne
    rw [if_pos (meet_none (hl x (by simp)) h)]
    rfl
/-- what is told from a place on: up to the first that is empty -/
def tw (l : List Sp) (s : Sp) : List Sp := (l.map (fun x => meetP x s)).takeWhile (fun y => decide (lenI y ≠ 0))
theorem tw_cons (x : Sp) (l : List Sp) (s : Sp) : tw (x :: l) s = if lenI (meetP x s) = 0 then [] else meetP x s :: tw l s := by
  unfold tw
  rw [List.map_cons, List.takeWhile_cons]
  by_cases c : lenI (meetP x s) = 0
  · rw [if_pos c]; simp [c]
  · rw [if_neg c]; simp [c]
theorem parts_at {l : List Sp} {s : Sp} {r : Nat} (hl : Rn l) (h1 : ∀ x ∈ l.take r, x.2 ≤ s.1) (h2 : ∀ x ∈ l.drop r, s.1 < x.2) : tw (l.drop r) s = partsL l s := by
  by_cases hs : lenI s = 0
  · rw [parts_none hl.ok hs]
    have := (hl.drop r).ok
    cases hd : l.drop r with
    | nil => rfl
    | cons x t =>
      rw [hd] at this
      rw [tw_cons, if_pos (meet_none (this x (by simp)) hs)]
  · have hk := len_pos_ok hs
    have hlr := hl
    rw [← List.take_append_drop r l] at hlr
    conv => rhs; rw [← List.take_append_drop r l]
    rw [parts_append]
    have e : ∀ (L : List Sp), (∀ x ∈ L, ROk x ∧ (x.2 ≤ s.1 ∨ s.2 ≤ x.1)) → partsL L s = [] := by
      intro L
      induction L with
      | nil => intro _; rfl
      | cons x L ih =>
        intro h
        obtain ⟨a, b⟩ := h x (by simp)
        rw [parts_cons, ih (fun y hy => h y (List.mem_cons_of_mem _ hy))]
        unfold ne
        rw [if_pos ?_]
        · rfl
        · rw [meet_len a.ok hk.ok, if_neg]
          have := a.2.1; have := hk.2.1; omega
    rw [e (l.take r) (fun x hx => ⟨hlr.left.ok x hx, .inl (h1 x hx)⟩), List.nil_append]
    have key : ∀ (L : List Sp), Rn L → (∀ x ∈ L, s.1 < x.2) → tw L s = partsL L s := by
      intro L
      induction L with
      | nil => intro _ _; rfl
      | cons x L ih =>
        intro hL h
        have hx := hL.head
        have hx1 := h x (by simp)
        have hm := meet_len hx.ok hk.ok
        rw [tw_cons, parts_cons]
        unfold ne
        by_cases c : lenI (meetP x s) = 0
        · rw [if_pos c, if_pos c, List.nil_append]
          have hc : s.2 ≤ x.1 := by
            rw [hm] at c
            have := hx.2.1; have := hk.2.1
            split at c <;> omega
          exact (e L (fun y hy => ⟨hL.tail.ok y hy, .inr (by have := hL.lt hy; have := hx.2.1; omega)⟩)).symm
        · rw [if_neg c, if_neg c, ih hL.tail (fun y hy => h y (List.mem_cons_of_mem _ hy))]
          rfl
    exact key _ hlr.right h2
theorem parts_all {l : List Sp} (hl : Rn l) : partsL l (0, 4611686018427387904) = l := by
  obtain ⟨a, b, _⟩ := parts_spec (0, 4611686018427387904) hl
  refine Rn.ext a hl (fun o => ?_)
  rw [b]
  have e : fitP ((0, 4611686018427387904) : Sp).1 ((0, 4611686018427387904) : Sp).2 = (0, 4611686018427387904) := fit_self (by exact ⟨by simp, by simp, by simp⟩)
  rw [e]
  constructor
  · exact fun h => h.1
  · intro h
    refine ⟨h, ?_⟩
    obtain ⟨x, hx, p, q⟩ := h
    have := hl.ok x hx
    have h1 := this.1; have h2 := this.2.2
    simp only
    omega
theorem within_all {l : List Sp} (hl : Rn l) : withinL l (0, 4611686018427387904) = bytesL l := by
  rw [← (parts_spec (0, 4611686018427387904) hl).2.2.1, parts_all hl]

/-! ### gaps -/
def gapsC : List Sp → Sp → List Sp
  | [], rest => ne rest
  | p :: ps, rest => ne (belowP rest p.1) ++ gapsC ps (fromP rest p.2)
theorem gapsC_spec : ∀ (ps : List Sp) (rest : Sp), Rn ps → Ok rest → (∀ p ∈ ps, rest.1 ≤ p.1 ∧ p.2 ≤ rest.2) →
    Rn (gapsC ps rest) ∧ (∀ o, In (gapsC ps rest) o ↔ (rest.1 ≤ o ∧ o < rest.2) ∧ ¬ In ps o) ∧ bytesL (gapsC ps rest) = lenI rest - bytesL ps ∧ (∀ y ∈ gapsC ps rest, rest.1 ≤ y.1) := by
  intro ps
  induction ps with
  | nil =>
    intro rest _ hr _
    have hr1 := hr.2.1
    refine ⟨ne_rn _, fun o => ?_, ?_, fun y hy => ?_⟩
    · show In (ne rest) o ↔ _
      constructor
      · rintro ⟨x, hx, p⟩
        obtain ⟨rfl, _⟩ := ne_mem hx
        exact ⟨p, In.nil⟩
      · rintro ⟨p, _⟩
        unfold ne
        rw [if_neg (by rw [len_ok hr]; omega)]
        exact In.one.2 p
    · show bytesL (ne rest) = _
      rw [bytes_ne, bytes_nil]; omega
    · obtain ⟨rfl, _⟩ := ne_mem hy
      exact Int.le_refl _
  | cons p ps ih =>
    intro rest hp hr hin
    have hp0 := hp.head
    have hpr := hin p (by simp)
    obtain ⟨r0, r1, r2⟩ := hr
    obtain ⟨p0, p1, p2⟩ := hp0
    have eb : belowP rest p.1 = betw rest.1 p.1 := by rw [below_rok ⟨r0, r1, r2⟩, show min rest.2 p.1 = p.1 by omega]
    have ea : fromP rest p.2 = betw p.2 rest.2 := by rw [from_rok ⟨r0, r1, r2⟩, show max rest.1 p.2 = p.2 by omega]
    have hg : gapsC (p :: ps) rest = ne (betw rest.1 p.1) ++ gapsC ps (betw p.2 rest.2) := by rw [gapsC, eb, ea]
    rw [hg]
    have hlb : lenI (betw rest.1 p.1) = p.1 - rest.1 := by rw [betw_len r0 (by omega)]; split <;> omega
    have hlr := len_ok (x := rest) ⟨r0, r1, r2⟩
    have hlp := len_rok hp.head
    by_cases c : rest.2 ≤ p.2
    · have hps : ps = [] := by
        cases ps with
        | nil => rfl
        | cons q ps =>
          have := hp.lt (y := q) (by simp)
          have := hin q (by simp)
          have := (hp.ok q (by simp)).2.1
          omega
      subst hps
      have e0 : gapsC [] (betw p.2 rest.2) = [] := by
        show ne _ = []
        unfold ne
        rw [if_pos (by rw [betw_len (by omega) r2, if_neg (by omega)])]
      rw [e0, List.append_nil]
      refine ⟨ne_rn _, fun o => ?_, ?_, fun y hy => ?_⟩
      · rw [ne_in r0 (by omega), In.one]; omega
      · rw [bytes_ne, hlb, bytes_cons, bytes_nil, hlr, hlp]; omega
      · have := betw_mem hy; omega
    · have er : betw p.2 rest.2 = (p.2, rest.2) := by unfold betw; rw [if_neg (by omega)]
      rw [er]
      obtain ⟨i1, i2, i3, i4⟩ := ih (p.2, rest.2) hp.tail ⟨by simp only; omega, by simp only; omega, r2⟩ (fun q hq => ⟨by have := hp.lt hq; simp only; omega, (hin q (List.mem_cons_of_mem _ hq)).2⟩)
      simp only at i2 i3 i4
      refine ⟨⟨fun y hy => ?_, List.pairwise_append.2 ⟨(ne_rn _).up, i1.up, fun y hy z hz => ?_⟩⟩, fun o => ?_, ?_, fun y hy => ?_⟩
      · rcases List.mem_append.1 hy with h | h
        · exact (ne_rn _).ok y h
        · exact i1.ok y h
      · have := betw_mem hy; have := i4 z hz; omega
      · rw [In.append, i2, ne_in r0 (by omega), In.cons]
        constructor
        · rintro (a | ⟨a, b⟩)
          · exact ⟨by omega, fun q => by
              rcases q with q | q
              · omega
              · have := hp.in_tail q; omega⟩
          · exact ⟨by omega, fun q => by
              rcases q with q | q
              · omega
              · exact b q⟩
        · rintro ⟨a, b⟩
          by_cases d : o < p.1
          · exact .inl ⟨a.1, d⟩
          · right
            refine ⟨⟨?_, a.2⟩, fun q => b (.inr q)⟩
            by_cases e : o < p.2
            · exact absurd (Or.inl ⟨by omega, e⟩) b
            · omega
      · rw [bytes_append, i3, bytes_ne, hlb, bytes_cons, hlr, hlp]
        have : lenI (p.2, rest.2) = rest.2 - p.2 := len_ok ⟨by simp only; omega, by simp only; omega, r2⟩
        omega
      · rcases List.mem_append.1 hy with h | h
        · have := betw_mem h; omega
        · have := i4 y h; omega
def gapsL (l : List Sp) (s : Sp) : List Sp := if lenI s = 0 then [] else l.foldl refWo [s]
theorem foldWo_spec : ∀ (l : List Sp) (q : List Sp), (∀ x ∈ l, ROk x) → Rn q → Rn (l.foldl refWo q) ∧ ∀ o, In (l.foldl refWo q) o ↔ In q o ∧ ¬ In l o := by
  intro l
  induction l with
  | nil => intro q _ hq; exact ⟨hq, fun o => ⟨fun h => ⟨h, In.nil⟩, fun h => h.1⟩⟩
  | cons x l ih =>
    intro q h hq
    have hx := h x (by simp)
    obtain ⟨w1, w2, _⟩ := wo_spec hq hx
    have e : refWo q x = woL q x := by unfold refWo; rw [if_neg (by rw [len_rok hx]; have := hx.2.1; omega)]
    obtain ⟨i1, i2⟩ := ih (woL q x) (fun y hy => h y (List.mem_cons_of_mem _ hy)) w1
    rw [List.foldl_cons, e]
    refine ⟨i1, fun o => ?_⟩
    rw [i2, w2, In.cons]
    constructor
    · rintro ⟨⟨a, b⟩, c⟩
      exact ⟨a, fun q => by rcases q with q | q; exact b q; exact c q⟩
    · rintro ⟨a, b⟩
      exact ⟨⟨a, fun q => b (.inl q)⟩, fun q => b (.inr q)⟩
theorem gaps_all {l : List Sp} (s : Sp) (hl : Rn l) : Rn (gapsC (partsL l s) s) ∧ gapsC (partsL l s) s = gapsL l s ∧ (∀ o, In (gapsL l s) o ↔ ((fitP s.1 s.2).1 ≤ o ∧ o < (fitP s.1 s.2).2) ∧ ¬ In l o) ∧ bytesL (gapsL l s) = lenI s - withinL l s := by
  by_cases hs : lenI s = 0
  · have hp := parts_none hl.ok hs
    have e : gapsC (partsL l s) s = [] := by rw [hp]; show ne s = []; unfold ne; rw [if_pos hs]
    have e2 : gapsL l s = [] := by unfold gapsL; rw [if_pos hs]
    have hw : withinL l s = 0 := by rw [← (parts_spec s hl).2.2.1, hp]; rfl
    rw [e, e2]
    refine ⟨Rn.nil, rfl, fun o => ⟨fun h => absurd h In.nil, fun h => ?_⟩, by rw [hs, hw]; rfl⟩
    rw [lenI_fit] at hs
    omega
  · have hk := len_pos_ok hs
    have hf : fitP s.1 s.2 = s := fit_of hk.ok
    obtain ⟨a1, a2, a3, a4, _⟩ := parts_spec s hl
    rw [hf] at a2 a4
    obtain ⟨g1, g2, g3, _⟩ := gapsC_spec (partsL l s) s a1 hk.ok a4
    have es : Rn [s] := ⟨fun x hx => by simp at hx; subst hx; exact hk, List.pairwise_singleton _ _⟩
    obtain ⟨f1, f2⟩ := foldWo_spec l [s] hl.ok es
    have e : gapsC (partsL l s) s = gapsL l s := by
      unfold gapsL
      rw [if_neg hs]
      refine Rn.ext g1 f1 (fun o => ?_)
      rw [g2, f2, a2, In.one]
      constructor
      · rintro ⟨h, h'⟩
        exact ⟨h, fun q => h' ⟨q, h⟩⟩
      · rintro ⟨h, h'⟩
        exact ⟨h, fun q => h' q.1⟩
    refine ⟨g1, e, fun o => ?_, ?_⟩
    · rw [← e, g2, a2, hf]
      constructor
      · rintro ⟨h, h'⟩
        exact ⟨h, fun q => h' ⟨q, h⟩⟩
      · rintro ⟨h, h'⟩
        exact ⟨h, fun q => h' q.1⟩
    · rw [← e, g3, a3]

/-! ### what is asked -/
def runL (l : List Sp) (o : Int) : Sp := (l.find? (fun x => hasB x o)).getD (0, 0)
def nextL (l : List Sp) (o : Int) : Sp := ((l.map (fun x => fromP x o)).find? (fun x => decide (0 < lenI x))).getD (0, 0)
def atI (o : Int) : Int := min (max o 0) 4611686018427387904
def gapL (l : List Sp) (o : Int) : Int := if 0 < lenI (runL l (atI o)) then (runL l (atI o)).2 else atI o
theorem has_rok {x : Sp} (hx : ROk x) (o : Int) : hasB x o = true ↔ x.1 ≤ o ∧ o < x.2 := by
  unfold hasB
  rw [fit_of hx.ok]
  simp
theorem find_skip {p : Sp → Bool} {l r : List Sp} (h : ∀ x ∈ l, p x = false) : (l ++ r).find? p = r.find? p := by
  induction l with
  | nil => rfl
  | cons x l ih =>
    rw [List.cons_append, List.find?_cons, h x (by simp)]
    exact ih (fun y hy => h y (List.mem_cons_of_mem _ hy))
theorem find_none {p : Sp → Bool} {l : List Sp} (h : ∀ x ∈ l, p x = false) : l.find? p = none := by
  rw [List.find?_eq_none]
  intro x hx
  rw [h x hx]
  simp
theorem run_at {l : List Sp} {o : Int} {r : Nat} (hl : Rn l) (hr : r ≤ l.length) (h1 : ∀ x ∈ l.take r, x.2 ≤ o) (h2 : ∀ x ∈ l.drop r, o < x.2) :
    (r < l.length ∧ hasB (l.getD r (0, 0)) o = true ∧ runL l o = l.getD r (0, 0) ∧ 0 < lenI (runL l o)) ∨ ((r < l.length → hasB (l.getD r (0, 0)) o = false) ∧ runL l o = (0, 0)) := by
  have hskip : ∀ x ∈ l.take r, hasB x o = false := fun x hx => by
    have hk := (hl.take r).ok x hx
    have := h1 x hx
    cases hb : hasB x o with
    | false => rfl
    | true => have := (has_rok hk o).1 hb; omega
  have e : runL l o = ((l.drop r).find? (fun x => hasB x o)).getD (0, 0) := by
    unfold runL
    conv => lhs; rw [← List.take_append_drop r l]
    rw [find_skip hskip]
  by_cases c : r < l.length
  · have hd := drop_getD c
    have hk := hl.ok _ (getD_mem c)
    have hdr := hl.drop r
    rw [hd] at e hdr h2
    cases hb : hasB (l.getD r (0, 0)) o with
    | true =>
      left
      rw [List.find?_cons, hb] at e
      refine ⟨c, rfl, e, ?_⟩
      rw [e]
      show 0 < lenI (l.getD r (0, 0))
      rw [len_rok hk]
      have := hk.2.1; omega
    | false =>
      right
      refine ⟨fun _ => rfl, ?_⟩
      rw [e, List.find?_cons, hb, find_none (fun x hx => ?_)]
      · rfl
      · have h3 := h2 (l.getD r (0, 0)) (by simp)
        have h4 := hdr.lt hx
        cases hb' : hasB x o with
        | false => rfl
        | true =>
          have h5 := (has_rok (hdr.tail.ok x hx) o).1 hb'
          have : hasB (l.getD r (0, 0)) o = true := (has_rok hk o).2 (by omega)
          rw [hb] at this; cases this
  · right
    refine ⟨fun h => absurd h c, ?_⟩
    rw [e, List.drop_eq_nil_of_le (by omega)]
    rfl
theorem in_run {l : List Sp} (hl : Rn l) (o : Int) : 0 < lenI (runL l o) ↔ In l o := by
  unfold runL
  constructor
  · intro h
    cases hf : l.find? (fun x => hasB x o) with
    | none => rw [hf] at h; simp [lenI, fitP, mayB] at h
    | some x =>
      have hm := List.mem_of_find?_eq_some hf
      have hp := List.find?_some hf
      have := (has_rok (hl.ok x hm) o).1 hp
      exact ⟨x, hm, this⟩
  · rintro ⟨x, hx, hp⟩
    cases hf : l.find? (fun x => hasB x o) with
    | none =>
      have := List.find?_eq_none.1 hf x hx
      exact absurd ((has_rok (hl.ok x hx) o).2 hp) this
    | some y =>
      have hy := hl.ok y (List.mem_of_find?_eq_some hf)
      show 0 < lenI y
      rw [len_rok hy]
      have := hy.2.1; omega
theorem next_at {l : List Sp} {o : Int} {r : Nat} (hl : Rn l) (hr : r ≤ l.length) (h1 : ∀ x ∈ l.take r, x.2 ≤ o) (h2 : ∀ x ∈ l.drop r, o < x.2) :
    (r < l.length ∧ nextL l o = fromP (l.getD r (0, 0)) o ∧ 0 < lenI (nextL l o)) ∨ (¬ r < l.length ∧ nextL l o = (0, 0)) := by
  have hskip : ∀ x ∈ (l.take r).map (fun x => fromP x o), decide (0 < lenI x) = false := fun y hy => by
    obtain ⟨x, hx, rfl⟩ := List.mem_map.1 hy
    have hk := (hl.take r).ok x hx
    have := h1 x hx
    have hx0 := hk.1
    rw [from_rok hk.ok, betw_len (by omega) hk.2.2, if_neg (by omega)]
    rfl
  have e : nextL l o = (((l.drop r).map (fun x => fromP x o)).find? (fun x => decide (0 < lenI x))).getD (0, 0) := by
    unfold nextL
    conv => lhs; rw [← List.take_append_drop r l, List.map_append]
    rw [find_skip hskip]
  by_cases c : r < l.length
  · left
    have hd := drop_getD c
    have hk := hl.ok _ (getD_mem c)
    have hx0 := hk.1; have hx1 := hk.2.1
    rw [hd] at e h2
    have h3 := h2 (l.getD r (0, 0)) (by simp)
    have hp : 0 < lenI (fromP (l.getD r (0, 0)) o) := by
      rw [from_rok hk.ok, betw_len (by omega) hk.2.2, if_pos (by omega)]
      omega
    rw [List.map_cons, List.find?_cons, decide_eq_true hp] at e
    exact ⟨c, e, by rw [e]; exact hp⟩
  · right
    refine ⟨c, ?_⟩
    rw [e, List.drop_eq_nil_of_le (by omega)]
    rfl
theorem gap_def (l : List Sp) (o : Int) : gapL l o = if 0 < lenI (runL l (atI o)) then (runL l (atI o)).2 else atI o := by unfold gapL; rfl
theorem gap_nil (o : Int) : gapL [] o = atI o := by unfold gapL runL; simp [lenI, fitP, mayB]

/-! ### places -/
def plc (q : Sp → Bool) (l : List Sp) : Nat := (l.takeWhile (fun x => !q x)).length
theorem Found.one {p : Nat → Bool} {n r s : Nat} (h : Found p n r) (k : Found p n s) : r = s := by
  have h1 := h.le; have h2 := k.le
  rcases Nat.lt_trichotomy r s with c | c | c
  · have a := h.hi r (Nat.le_refl _) (by omega)
    have b := k.lo r c
    rw [a] at b; cases b
  · exact c
  · have a := k.hi s (Nat.le_refl _) (by omega)
    have b := h.lo s c
    rw [a] at b; cases b
theorem plc_parts (q : Sp → Bool) (l : List Sp) : (∀ x ∈ l.take (plc q l), q x = false) ∧ (∀ h : plc q l < l.length, q (l.getD (plc q l) (0, 0)) = true) ∧ plc q l ≤ l.length := by
  unfold plc
  induction l with
  | nil => exact ⟨by simp, by simp, by simp⟩
  | cons x l ih =>
    obtain ⟨i1, i2, i3⟩ := ih
    rw [List.takeWhile_cons]
    cases hq : q x with
    | true => simp [hq]
    | false =>
      simp only [Bool.not_false, if_true, List.length_cons]
      refine ⟨fun y hy => ?_, fun h => ?_, by omega⟩
      · rw [List.take_succ_cons] at hy
        rcases List.mem_cons.1 hy with rfl | hy
        · exact hq
        · exact i1 y hy
      · have := i2 (by omega)
        simpa [List.getD] using this
theorem plc_found {q : Sp → Bool} {l : List Sp} (hm : ∀ x y, x < y → y < l.length → q (l.getD x (0, 0)) = true → q (l.getD y (0, 0)) = true) : Found (fun i => q (l.getD i (0, 0))) l.length (plc q l) := by
  obtain ⟨h1, h2, h3⟩ := plc_parts q l
  refine ⟨h3, fun t ht => ?_, fun t h4 h5 => ?_⟩
  · refine h1 _ ?_
    have : t < (l.take (plc q l)).length := by rw [List.length_take]; omega
    have e : (l.take (plc q l))[t] = l.getD t (0, 0) := by simp [List.getD, show t < l.length by omega]
    rw [← e]
    exact List.getElem_mem _
  · have h6 := h2 (by omega)
    by_cases c : plc q l = t
    · show q (l.getD t (0, 0)) = true
      rw [← c]; exact h6
    · exact hm _ t (by omega) h5 h6
/-- the first that ends above -/
def bhd (l : List Sp) (o : Int) : Nat := plc (fun x => decide (o < x.2)) l
theorem Rn.mono2 {l : List Sp} (h : Rn l) (o : Int) : ∀ x y, x < y → y < l.length → decide (o < (l.getD x (0, 0)).2) = true → decide (o < (l.getD y (0, 0)).2) = true := by
  intro x y hxy hy h1
  have a := h.at hxy hy
  have b := (h.ok _ (getD_mem hy)).2.1
  simp only [decide_eq_true_eq] at h1 ⊢
  omega
theorem Rn.mono2' {l : List Sp} (h : Rn l) (o : Int) : ∀ x y, x < y → y < l.length → decide (o ≤ (l.getD x (0, 0)).2) = true → decide (o ≤ (l.getD y (0, 0)).2) = true := by
  intro x y hxy hy h1
  have a := h.at hxy hy
  have b := (h.ok _ (getD_mem hy)).2.1
  simp only [decide_eq_true_eq] at h1 ⊢
  omega
theorem Rn.mono1 {l : List Sp} (h : Rn l) (o : Int) : ∀ x y, x < y → y < l.length → decide (o < (l.getD x (0, 0)).1) = true → decide (o < (l.getD y (0, 0)).1) = true := by
  intro x y hxy hy h1
  have a := h.at hxy hy
  have b := (h.ok _ (getD_mem (l := l) (i := x) (by omega))).2.1
  simp only [decide_eq_true_eq] at h1 ⊢
  omega
theorem Rn.mono1' {l : List Sp} (h : Rn l) (o : Int) : ∀ x y, x < y → y < l.length → decide (o ≤ (l.getD x (0, 0)).1) = true → decide (o ≤ (l.getD y (0, 0)).1) = true := by
  intro x y hxy hy h1
  have a := h.at hxy hy
  have b := (h.ok _ (getD_mem (l := l) (i := x) (by omega))).2.1
  simp only [decide_eq_true_eq] at h1 ⊢
  omega
theorem bhd_spec {l : List Sp} (h : Rn l) (o : Int) : bhd l o ≤ l.length ∧ (∀ x ∈ l.take (bhd l o), x.2 ≤ o) ∧ (∀ x ∈ l.drop (bhd l o), o < x.2) := by
  have hf := plc_found (q := fun x => decide (o < x.2)) (l := l) (h.mono2 o)
  obtain ⟨h1, h2⟩ := Found.take (q := fun x => decide (o < x.2)) hf rfl
  exact ⟨hf.le, fun x hx => by have := h1 x hx; simp at this; exact this, fun x hx => by have := h2 x hx; simp at this; exact this⟩
end Go.Proofs.Ytekddgmmfgpehaa.rn
/-!   What Add and Remove answer, and what they leave, as lists. Imports nothing of the program.
-/
namespace Go.Proofs.Ytekddgmmfgpehaa.rn
open Go.RowKit aid sp
set_option linter.unusedVariables false

theorem bytes_zero {l : List Sp} (h : ∀ x ∈ l, ROk x) (h0 : bytesL l = 0) : l = [] := by
  cases l with
  | nil => rfl
  | cons x l =>
    have hx := h x (by simp)
    have := hx.2.1
    have hb : 0 ≤ bytesL l := by
      clear h0
      induction l with
      | nil => rw [bytes_nil]; omega
      | cons y l ih =>
        have := ih (fun z hz => h z (by simp at hz ⊢; rcases hz with hz | hz; exact .inl hz; exact .inr (.inr hz)))
        have hy := h y (by simp)
        have := hy.2.1
        rw [bytes_cons, len_rok hy]; omega
    rw [bytes_cons, len_rok hx] at h0
    omega
theorem came_none {l : List Sp} {s : Sp} (hl : Rn l) (hs : ROk s) (h : lenI s - withinL l s = 0) : refWi l s = l := by
  obtain ⟨w1, w2, _⟩ := wi_spec hl hs
  obtain ⟨g1, g2, g3, g4⟩ := gaps_all s hl
  have hg : gapsL l s = [] := bytes_zero (by rw [← g2]; exact g1.ok) (by rw [g4]; exact h)
  refine Rn.ext w1 hl (fun o => ?_)
  rw [w2]
  constructor
  · rintro (a | a)
    · exact a
    · by_cases c : In l o
      · exact c
      · have := (g3 o).2 ⟨by rw [fit_of hs.ok]; exact a, c⟩
        rw [hg] at this
        exact absurd this In.nil
  · exact fun a => .inl a
theorem went_none {l : List Sp} {s : Sp} (hl : Rn l) (hs : Ok s) (h : withinL l s = 0) : refWo l s = l := by
  by_cases h0 : lenI s = 0
  · unfold refWo; rw [if_pos h0]
  · have hk := rok_of hs h0
    obtain ⟨w1, w2, _⟩ := wo_spec hl hk
    obtain ⟨p1, p2, p3, _⟩ := parts_spec s hl
    have hp : partsL l s = [] := bytes_zero p1.ok (by rw [p3]; exact h)
    unfold refWo
    rw [if_neg h0]
    refine Rn.ext w1 hl (fun o => ?_)
    rw [w2]
    constructor
    · exact fun a => a.1
    · intro a
      refine ⟨a, fun b => ?_⟩
      have := (p2 o).2 ⟨a, by rw [fit_of hs]; exact b⟩
      rw [hp] at this
      exact In.nil this
/-- where what touches s begins and ends -/
def lo1 (l : List Sp) (s : Sp) : Nat := plc (fun x => decide (s.1 ≤ x.2)) l
def hi1 (l : List Sp) (s : Sp) : Nat := plc (fun x => decide (s.2 < x.1)) l
def hi2 (l : List Sp) (s : Sp) : Nat := plc (fun x => decide (s.2 ≤ x.1)) l
theorem lo1_spec {l : List Sp} (s : Sp) (hl : Rn l) : lo1 l s ≤ l.length ∧ (∀ x ∈ l.take (lo1 l s), x.2 < s.1) ∧ (∀ x ∈ l.drop (lo1 l s), s.1 ≤ x.2) := by
  have hf := plc_found (q := fun x => decide (s.1 ≤ x.2)) (l := l) (hl.mono2' s.1)
  obtain ⟨h1, h2⟩ := Found.take (q := fun x => decide (s.1 ≤ x.2)) hf rfl
  exact ⟨hf.le, fun x hx => by have := of_decide_eq_false (h1 x hx); omega, fun x hx => of_decide_eq_true (h2 x hx)⟩
theorem hi1_spec {l : List Sp} (s : Sp) (hl : Rn l) : hi1 l s ≤ l.length ∧ (∀ x ∈ l.take (hi1 l s), x.1 ≤ s.2) ∧ (∀ x ∈ l.drop (hi1 l s), s.2 < x.1) := by
  have hf := plc_found (q := fun x => decide (s.2 < x.1)) (l := l) (hl.mono1 s.2)
  obtain ⟨h1, h2⟩ := Found.take (q := fun x => decide (s.2 < x.1)) hf rfl
  exact ⟨hf.le, fun x hx => by have := of_decide_eq_false (h1 x hx); omega, fun x hx => of_decide_eq_true (h2 x hx)⟩
theorem hi2_spec {l : List Sp} (s : Sp) (hl : Rn l) : hi2 l s ≤ l.length ∧ (∀ x ∈ l.take (hi2 l s), x.1 < s.2) ∧ (∀ x ∈ l.drop (hi2 l s), s.2 ≤ x.1) := by
  have hf := plc_found (q := fun x => decide (s.2 ≤ x.1)) (l := l) (hl.mono1' s.2)
  obtain ⟨h1, h2⟩ := Found.take (q := fun x => decide (s.2 ≤ x.1)) hf rfl
  exact ⟨hf.le, fun x hx => by have := of_decide_eq_false (h1 x hx); omega, fun x hx => of_decide_eq_true (h2 x hx)⟩
theorem take_mem {l : List Sp} {i k : Nat} (h : i < k) (hl : i < l.length) : l.getD i (0, 0) ∈ l.take k := by
  have h1 : i < (l.take k).length := by rw [List.length_take]; omega
  have e : (l.take k)[i] = l.getD i (0, 0) := by simp [List.getD, hl]
  rw [← e]; exact List.getElem_mem _
theorem drop_mem {l : List Sp} {i k : Nat} (h : k ≤ i) (hl : i < l.length) : l.getD i (0, 0) ∈ l.drop k := by
  have h1 : i - k < (l.drop k).length := by rw [List.length_drop]; omega
  have e : (l.drop k)[i - k] = l.getD i (0, 0) := by
    rw [List.getElem_drop]
    simp [List.getD, hl, show k + (i - k) = i by omega]
  rw [← e]; exact List.getElem_mem _
theorem lo1_hi1 {l : List Sp} {s : Sp} (hl : Rn l) (hs : ROk s) : lo1 l s ≤ hi1 l s := by
  obtain ⟨a1, a2, a3⟩ := lo1_spec s hl
  obtain ⟨b1, b2, b3⟩ := hi1_spec s hl
  by_cases c : lo1 l s ≤ hi1 l s
  · exact c
  · exfalso
    have h1 := a2 _ (take_mem (show hi1 l s < lo1 l s by omega) (by omega))
    have h2 := b3 _ (drop_mem (Nat.le_refl _) (show hi1 l s < l.length by omega))
    have := (hl.ok _ (getD_mem (show hi1 l s < l.length by omega))).2.1
    have := hs.2.1
    omega
theorem bhd_hi2 {l : List Sp} {s : Sp} (hl : Rn l) (hs : ROk s) (hw : withinL l s ≠ 0) : bhd l s.1 < hi2 l s := by
  obtain ⟨a1, a2, a3⟩ := bhd_spec hl s.1
  obtain ⟨b1, b2, b3⟩ := hi2_spec s hl
  by_cases c : bhd l s.1 < hi2 l s
  · exact c
  · exfalso
    apply hw
    obtain ⟨p1, p2, p3, _⟩ := parts_spec s hl
    rw [← p3]
    have hp : partsL l s = [] := by
      cases hq : partsL l s with
      | nil => rfl
      | cons x t =>
        exfalso
        have hx := (p1.ok x (by rw [hq]; simp))
        obtain ⟨⟨y, hy, h1, h2⟩, h3⟩ := (p2 x.1).1 (by rw [hq]; exact ⟨x, by simp, Int.le_refl _, hx.2.1⟩)
        rw [fit_of hs.ok] at h3
        have hy' := hy
        rw [← List.take_append_drop (hi2 l s) l] at hy'
        rcases List.mem_append.1 hy' with h | h
        · have hm : y ∈ l.take (bhd l s.1) := by
            have e : l.take (hi2 l s) = (l.take (bhd l s.1)).take (hi2 l s) := by rw [List.take_take]; congr 1; omega
            rw [e] at h
            exact List.mem_of_mem_take h
          have := a2 y hm
          omega
        · have := b3 y h
          omega
    rw [hp, bytes_nil]
/-- how many came, what is told, what the set is then -/
def addN (l : List Sp) (s : Sp) : Int × Int × List Sp :=
  if mayB s.1 s.2 = true then (if lenI s - withinL l s = 0 then (0, 0, l) else if 4096 < (refWi l s).length then (0, 4, l) else (lenI s - withinL l s, 0, refWi l s)) else (0, 3, l)
def remN (l : List Sp) (s : Sp) : Int × Int × List Sp :=
  if mayB s.1 s.2 = true then (if withinL l s = 0 then (0, 0, l) else if 4096 < (refWo l s).length then (0, 4, l) else (withinL l s, 0, refWo l s)) else (0, 3, l)
theorem wi_rn {l : List Sp} {s : Sp} (hl : Rn l) (hs : Ok s) : Rn (refWi l s) := by
  by_cases h0 : lenI s = 0
  · unfold refWi; rw [if_pos h0]; exact hl
  · exact (wi_spec hl (rok_of hs h0)).1
theorem wo_rn {l : List Sp} {s : Sp} (hl : Rn l) (hs : Ok s) : Rn (refWo l s) := by
  by_cases h0 : lenI s = 0
  · unfold refWo; rw [if_pos h0]; exact hl
  · unfold refWo; rw [if_neg h0]; exact (wo_spec hl (rok_of hs h0)).1
theorem addN_rn {l : List Sp} {s : Sp} (hl : Rn l) : Rn (addN l s).2.2 := by
  unfold addN
  by_cases h : mayB s.1 s.2 = true
  · rw [if_pos h]
    have hs : Ok s := mayB_iff.1 h
    split
    · exact hl
    · split
      · exact hl
      · exact wi_rn hl hs
  · rw [if_neg h]; exact hl
theorem remN_rn {l : List Sp} {s : Sp} (hl : Rn l) : Rn (remN l s).2.2 := by
  unfold remN
  by_cases h : mayB s.1 s.2 = true
  · rw [if_pos h]
    have hs : Ok s := mayB_iff.1 h
    split
    · exact hl
    · split
      · exact hl
      · exact wo_rn hl hs
  · rw [if_neg h]; exact hl
/-- where there is room, it is what the reference says -/
theorem addN_ok {l : List Sp} {s : Sp} (hl : Rn l) (hs : Ok s) (hr : (refWi l s).length ≤ 4096) : addN l s = (bytesL (refWi l s) - bytesL l, 0, refWi l s) := by
  unfold addN
  rw [if_pos (mayB_iff.2 hs)]
  have hb : bytesL (refWi l s) - bytesL l = lenI s - withinL l s := by
    by_cases h0 : lenI s = 0
    · have e : refWi l s = l := by unfold refWi; rw [if_pos h0]
      have hw : withinL l s = 0 := by rw [← (parts_spec s hl).2.2.1, parts_none hl.ok h0]; rfl
      rw [e, hw, h0]; omega
    · exact (wi_spec hl (rok_of hs h0)).2.2
  by_cases h : lenI s - withinL l s = 0
  · rw [if_pos h]
    have e : refWi l s = l := by
      by_cases h0 : lenI s = 0
      · unfold refWi; rw [if_pos h0]
      · exact came_none hl (rok_of hs h0) h
    rw [e]; simp
  · rw [if_neg h, if_neg (by omega), hb]
theorem remN_ok {l : List Sp} {s : Sp} (hl : Rn l) (hs : Ok s) (hr : (refWo l s).length ≤ 4096) : remN l s = (bytesL l - bytesL (refWo l s), 0, refWo l s) := by
  unfold remN
  rw [if_pos (mayB_iff.2 hs)]
  have hb : bytesL l - bytesL (refWo l s) = withinL l s := by
    by_cases h0 : lenI s = 0
    · have e : refWo l s = l := by unfold refWo; rw [if_pos h0]
      have hw : withinL l s = 0 := by rw [← (parts_spec s hl).2.2.1, parts_none hl.ok h0]; rfl
      rw [e, hw]; omega
    · have := (wo_spec hl (rok_of hs h0)).2.2.1
      unfold refWo; rw [if_neg h0]; omega
  by_cases h : withinL l s = 0
  · rw [if_pos h, went_none hl hs h]; simp
  · rw [if_neg h, if_neg (by omega), hb]
theorem wo_len (l : List Sp) (s : Sp) (hl : Rn l) (hs : Ok s) : (refWo l s).length ≤ l.length + 1 := by
  by_cases h0 : lenI s = 0
  · unfold refWo; rw [if_pos h0]; omega
  · have hk := rok_of hs h0
    by_cases hw : withinL l s = 0
    · rw [went_none hl hs hw]; omega
    · obtain ⟨a1, a2, a3⟩ := bhd_spec hl s.1
      obtain ⟨b1, b2, b3⟩ := hi2_spec s hl
      have hlt := bhd_hi2 hl hk hw
      rw [← rem_at (0, 0) hl hk hlt b1 a2 a3 b2 b3]
      unfold remAt
      have h1 : ∀ x : Sp, (ne x).length ≤ 1 := fun x => by unfold ne; split <;> simp
      have h2 := h1 (belowP (l.getD (bhd l s.1) (0, 0)) s.1)
      have h3 := h1 (fromP (l.getD (hi2 l s - 1) (0, 0)) s.2)
      simp only [List.length_append, List.length_take, List.length_drop]
      omega
theorem wi_len (l : List Sp) (s : Sp) (hl : Rn l) (hs : Ok s) : (refWi l s).length ≤ l.length + 1 := by
  by_cases h0 : lenI s = 0
  · unfold refWi; rw [if_pos h0]; omega
  · have hk := rok_of hs h0
    obtain ⟨a1, a2, a3⟩ := lo1_spec s hl
    obtain ⟨b1, b2, b3⟩ := hi1_spec s hl
    have hlt := lo1_hi1 hl hk
    rw [← add_at hl hk hlt a2 a3 b2 b3]
    unfold addAt
    simp only [List.length_append, List.length_take, List.length_drop, List.length_singleton]
    omega
end Go.Proofs.Ytekddgmmfgpehaa.rn
/-!   Contracts of package seq and of the reference package of layer 1: what each call answers, for every argument. No condition but that numbers fit their kinds.
-/
namespace Go.Proofs.Ytekddgmmfgpehaa.sq
open Go.RowKit aid
set_option linter.unusedVariables false

def m32 (n : Int) : Int := n % 4294967296
def dist (a b : Int) : Int := (b - a + 2147483648) % 4294967296 - 2147483648
def isMay (n : Int) : Bool := decide (0 ≤ n ∧ n ≤ 4611686018427387904)

theorem dist_bd (a b : Int) : -2147483648 ≤ dist a b ∧ dist a b ≤ 2147483647 := by unfold dist; omega
theorem m32_bd (n : Int) : 0 ≤ m32 n ∧ m32 n ≤ 4294967295 := by unfold m32; omega

theorem wrap_any (n : Int) (w : World) (h : -9223372036854775808 ≤ n ∧ n ≤ 9223372036854775807) :
    Calls Try.prog 76 #[.int .i64 n] w fun e w' => e = .returned (.int .u32 (m32 n)) ∧ w = w' := by
  go_enter Try.func76, Try.ntmps76
  go_wp2
  go_ret
  exact ⟨ret_i (by unfold m32; simp), rfl⟩

theorem dist_any (a b : Int) (w : World) (ha : 0 ≤ a ∧ a ≤ 4294967295) (hb : 0 ≤ b ∧ b ≤ 4294967295) :
    Calls Try.prog 75 #[.int .u32 a, .int .u32 b] w fun e w' => e = .returned (.int .i64 (dist a b)) ∧ w = w' := by
  go_enter Try.func75, Try.ntmps75
  go_wp2
  go_ret
  refine ⟨ret_i ?_, rfl⟩
  have h := w32_bd ((b - a) % 4294967296)
  rw [w64 _ (by omega)]
  unfold dist wrap32
  omega

theorem mod_any (n : Int) (w : World) (h : -9223372036854775808 ≤ n ∧ n ≤ 9223372036854775807) :
    Calls Try.prog 31 #[.int .i64 n] w fun e w' => e = .returned (.int .i64 (m32 n)) ∧ w = w' := by
  go_enter Try.func31, Try.ntmps31
  go_wp2
  all_goals go_ret
  all_goals refine ⟨ret_i ?_, rfl⟩
  all_goals have ho := tmod_or n 4294967296 (by omega)
  all_goals unfold m32
  · rw [w64 _ (by omega)]; omega
  · omega

theorem rdist_any (a b : Int) (w : World) (ha : 0 ≤ a ∧ a ≤ 4294967295) (hb : 0 ≤ b ∧ b ≤ 4294967295) :
    Calls Try.prog 65 #[.int .i64 a, .int .i64 b] w fun e w' => e = .returned (.int .i64 (dist a b)) ∧ w = w' := by
  have hm := m32_bd (b - a)
  go_enter Try.func65, Try.ntmps65
  go_wp2_with (go_at_call 31; refine (mod_any _ _ (by omega)).mono ?_; rintro e w' ⟨rfl, rfl⟩)
  all_goals go_ret
  all_goals refine ⟨ret_i ?_, rfl⟩
  all_goals unfold m32 at *
  all_goals unfold dist
  all_goals omega

theorem may_any (n : Int) (w : World) (h : -9223372036854775808 ≤ n ∧ n ≤ 9223372036854775807) :
    Calls Try.prog 74 #[.int .i64 n] w fun e w' => e = .returned (.bool (isMay n)) ∧ w = w' := by
  by_cases h0 : 0 ≤ n
  · by_cases h1 : n ≤ 4611686018427387904
    all_goals
      go_enter Try.func74, Try.ntmps74
      go_wp2
      go_ret
      exact ⟨ret_b (by simp [isMay]; omega), rfl⟩
  · go_enter Try.func74, Try.ntmps74
    go_wp2
    go_ret
    exact ⟨ret_b (by simp [isMay]; omega), rfl⟩

def unw (near s : Int) : Int × Bool :=
  if isMay near then (if isMay (near + dist (m32 near) s) then (near + dist (m32 near) s, true) else (0, false)) else (0, false)

theorem unwrap_any (n s : Int) (w : World) (h : -9223372036854775808 ≤ n ∧ n ≤ 9223372036854775807) (hs : 0 ≤ s ∧ s ≤ 4294967295) :
    Calls Try.prog 47 #[.int .i64 n, .int .u32 s] w fun e w' => e = .returned (.tuple #[.int .i64 (unw n s).1, .bool (unw n s).2]) ∧ w = w' := by
  have hm := m32_bd n
  have hd := dist_bd (m32 n) s
  by_cases h0 : isMay n = true
  · have hn : 0 ≤ n ∧ n ≤ 4611686018427387904 := by simpa [isMay] using h0
    by_cases h1 : isMay (n + dist (m32 n) s) = true
    · go_enter Try.func47, Try.ntmps47
      go_wp2_with (first | (go_at_call 74; refine (may_any _ _ (by omega)).mono ?_; rintro e w' ⟨rfl, rfl⟩) | (go_at_call 76; refine (wrap_any _ _ (by omega)).mono ?_; rintro e w' ⟨rfl, rfl⟩) | (go_at_call 75; refine (dist_any _ _ _ (by omega) (by omega)).mono ?_; rintro e w' ⟨rfl, rfl⟩))
      go_ret2
      exact ⟨by simp [unw, h0, h1], rfl⟩
    · go_enter Try.func47, Try.ntmps47
      go_wp2_with (first | (go_at_call 74; refine (may_any _ _ (by omega)).mono ?_; rintro e w' ⟨rfl, rfl⟩) | (go_at_call 76; refine (wrap_any _ _ (by omega)).mono ?_; rintro e w' ⟨rfl, rfl⟩) | (go_at_call 75; refine (dist_any _ _ _ (by omega) (by omega)).mono ?_; rintro e w' ⟨rfl, rfl⟩))
      go_ret2
      exact ⟨by simp [unw, h0, h1], rfl⟩
  · go_enter Try.func47, Try.ntmps47
    go_wp2_with (go_at_call 74; refine (may_any _ _ (by omega)).mono ?_; rintro e w' ⟨rfl, rfl⟩)
    go_ret2
    exact ⟨by simp [unw, h0], rfl⟩
end Go.Proofs.Ytekddgmmfgpehaa.sq
/-!   Contracts of layer 1, the rest: the reference's Unwrap, Latest over any numbers, and what must come of fixed calls.
-/
namespace Go.Proofs.Ytekddgmmfgpehaa.sq
open Go.RowKit aid
set_option linter.unusedVariables false

def runw (near s : Int) : Int := if isMay near && isMay (near + dist (m32 near) s) then near + dist (m32 near) s else -1

theorem runwrap_any (n s : Int) (w : World) (h : -9223372036854775808 ≤ n ∧ n ≤ 9223372036854775807) (hs : 0 ≤ s ∧ s ≤ 4294967295) :
    Calls Try.prog 30 #[.int .i64 n, .int .i64 s] w fun e w' => e = .returned (.int .i64 (runw n s)) ∧ w = w' := by
  have hm := m32_bd n
  have hd := dist_bd (m32 n) s
  by_cases h0 : 0 ≤ n
  · by_cases h1 : n ≤ 4611686018427387904
    · by_cases h2 : 0 ≤ n + dist (m32 n) s
      · by_cases h3 : n + dist (m32 n) s ≤ 4611686018427387904
        all_goals
          go_enter Try.func30, Try.ntmps30
          go_wp2_with (first | (go_at_call 31; refine (mod_any _ _ (by omega)).mono ?_; rintro e w' ⟨rfl, rfl⟩) | (go_at_call 65; refine (rdist_any _ _ _ (by omega) (by omega)).mono ?_; rintro e w' ⟨rfl, rfl⟩))
          go_ret
          exact ⟨ret_i (by simp [runw, isMay]; omega), rfl⟩
      · go_enter Try.func30, Try.ntmps30
        go_wp2_with (first | (go_at_call 31; refine (mod_any _ _ (by omega)).mono ?_; rintro e w' ⟨rfl, rfl⟩) | (go_at_call 65; refine (rdist_any _ _ _ (by omega) (by omega)).mono ?_; rintro e w' ⟨rfl, rfl⟩))
        go_ret
        exact ⟨ret_i (by simp [runw, isMay]; omega), rfl⟩
    · go_enter Try.func30, Try.ntmps30
      go_wp2
      go_ret
      exact ⟨ret_i (by simp [runw, isMay]; omega), rfl⟩
  · go_enter Try.func30, Try.ntmps30
    go_wp2
    go_ret
    exact ⟨ret_i (by simp [runw, isMay]; omega), rfl⟩

/-- the one that is the furthest ahead, of a first one and a list -/
def latest (a : Int) : Int → List Int → Int
  | best, [] => best
  | best, x :: l => latest a (if dist a best < dist a x then x else best) l

theorem latest_snoc (a best : Int) (l : List Int) (x : Int) :
    latest a best (l ++ [x]) = if dist a (latest a best l) < dist a x then x else latest a best l := by
  induction l generalizing best with
  | nil => rfl
  | cons y l ih => exact ih _

theorem latest_bd (a best : Int) (l : List Int) (hb : 0 ≤ best ∧ best ≤ 4294967295) (hl : ∀ x ∈ l, 0 ≤ x ∧ x ≤ 4294967295) :
    0 ≤ latest a best l ∧ latest a best l ≤ 4294967295 := by
  induction l generalizing best with
  | nil => simpa [latest] using hb
  | cons y l ih =>
    simp only [latest]
    refine ih _ ?_ (fun x hx => hl x (List.mem_cons_of_mem _ hx))
    have := hl y (List.mem_cons_self)
    split <;> assumption

theorem take_snoc {α : Type} (zs : List α) (d : α) (k : Nat) (h : k < zs.length) : zs.take (k + 1) = zs.take k ++ [zs.getD k d] := by
  rw [List.take_succ_eq_append_getElem h]
  simp [List.getD, h]

end Go.Proofs.Ytekddgmmfgpehaa.sq
