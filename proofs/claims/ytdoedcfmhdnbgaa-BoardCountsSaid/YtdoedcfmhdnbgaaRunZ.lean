/-
  Parts, gaps, and what is asked of sets, as lists. Imports nothing of the program.
-/
import Derived.Test.YtdoedcfmhdnbgaaRunY
namespace Go.Proofs.Ytdoedcfmhdnbgaa.rn
open Go.RowKit aid sp
set_option linter.unusedVariables false

/-- where a search ends -/
structure Found (p : Nat → Bool) (n r : Nat) : Prop where
  le : r ≤ n
  lo : ∀ t, t < r → p t = false
  hi : ∀ t, r ≤ t → t < n → p t = true
theorem Found.take {q : Sp → Bool} {l : List Sp} {n r : Nat} (h : Found (fun i => q (l.getD i (0, 0))) n r) (hl : l.length = n) : (∀ x ∈ l.take r, q x = false) ∧ (∀ x ∈ l.drop r, q x = true) := by
  have hle := h.le
  constructor
  · intro x hx
    obtain ⟨i, hi, rfl⟩ := List.getElem_of_mem hx
    have hir : i < r := by simp at hi; omega
    have := h.lo i hir
    simp only [List.getElem_take]
    rwa [show l.getD i (0, 0) = l[i] from by simp [List.getD, show i < l.length by omega]] at this
  · intro x hx
    obtain ⟨i, hi, rfl⟩ := List.getElem_of_mem hx
    have hir : r + i < l.length := by simp at hi; omega
    have := h.hi (r + i) (by omega) (by omega)
    simp only [List.getElem_drop]
    rwa [show l.getD (r + i) (0, 0) = l[r + i] from by simp [List.getD, hir]] at this
theorem getD_mem {l : List Sp} {i : Nat} (h : i < l.length) : l.getD i (0, 0) ∈ l := by
  rw [show l.getD i (0, 0) = l[i] from by simp [List.getD, h]]
  exact List.getElem_mem _
theorem drop_getD {l : List Sp} {i : Nat} (h : i < l.length) : l.drop i = l.getD i (0, 0) :: l.drop (i + 1) := by
  rw [List.drop_eq_getElem_cons h]
  simp [List.getD, h]
theorem Rn.at {l : List Sp} (h : Rn l) {i j : Nat} (hij : i < j) (hj : j < l.length) : (l.getD i (0, 0)).2 < (l.getD j (0, 0)).1 := by
  have := (List.pairwise_iff_getElem.1 h.up) i j (by omega) hj hij
  rw [show l.getD i (0, 0) = l[i] from by simp [List.getD, show i < l.length by omega], show l.getD j (0, 0) = l[j] from by simp [List.getD, hj]]
  exact this

/-! ### parts -/
def partsL (l : List Sp) (s : Sp) : List Sp := l.flatMap (fun x => ne (meetP x s))
theorem parts_cons (x : Sp) (l : List Sp) (s : Sp) : partsL (x :: l) s = ne (meetP x s) ++ partsL l s := by unfold partsL; simp
theorem parts_append (l r : List Sp) (s : Sp) : partsL (l ++ r) s = partsL l s ++ partsL r s := by unfold partsL; simp
theorem meet_fit {x : Sp} (hx : ROk x) (s : Sp) : meetP x s = betw (max x.1 (fitP s.1 s.2).1) (min x.2 (fitP s.1 s.2).2) := by unfold meetP; rw [fit_of hx.ok]
theorem lenI_fit (s : Sp) : lenI s = (fitP s.1 s.2).2 - (fitP s.1 s.2).1 := rfl
theorem parts_spec : ∀ {l : List Sp} (s : Sp), Rn l → Rn (partsL l s) ∧ (∀ o, In (partsL l s) o ↔ In l o ∧ (fitP s.1 s.2).1 ≤ o ∧ o < (fitP s.1 s.2).2) ∧ bytesL (partsL l s) = withinL l s ∧
    (∀ y ∈ partsL l s, (fitP s.1 s.2).1 ≤ y.1 ∧ y.2 ≤ (fitP s.1 s.2).2) ∧ (∀ c, (∀ x ∈ l, c < x.1) → ∀ y ∈ partsL l s, c < y.1) := by
  intro l
  induction l with
  | nil => intro s hl; exact ⟨Rn.nil, fun o => ⟨fun h => absurd h In.nil, fun h => absurd h.1 In.nil⟩, rfl, fun y hy => by simp [partsL] at hy, fun c _ y hy => by simp [partsL] at hy⟩
  | cons x l ih =>
    intro s hl
    obtain ⟨i1, i2, i3, i4, i5⟩ := ih s hl.tail
    have hx := hl.head
    have hf := fit_ok s.1 s.2
    have hm := meet_fit hx s
    rw [parts_cons]
    generalize fitP s.1 s.2 = f at *
    obtain ⟨x0, x1, x2⟩ := hx
    obtain ⟨f0, f1, f2⟩ := hf
    rw [hm]
    refine ⟨⟨fun y hy => ?_, List.pairwise_append.2 ⟨(ne_rn _).up, i1.up, fun y hy z hz => ?_⟩⟩, fun o => ?_, ?_, fun y hy => ?_, fun c hc y hy => ?_⟩
    · rcases List.mem_append.1 hy with h | h
      · exact (ne_rn _).ok y h
      · exact i1.ok y h
    · have := betw_mem hy
      have := i5 x.2 (fun u hu => hl.lt hu) z hz
      omega
    · rw [In.append, i2, ne_in (by omega) (by omega), In.cons]
      constructor
      · rintro (a | ⟨a, b⟩)
        · exact ⟨.inl (by omega), by omega⟩
        · exact ⟨.inr a, b⟩
      · rintro ⟨a | a, b⟩
        · exact .inl (by omega)
        · exact .inr ⟨a, b⟩
    · rw [bytes_append, i3, bytes_ne, within_cons, hm]
    · rcases List.mem_append.1 hy with h | h
      · have := betw_mem h; omega
      · exact i4 y h
    · rcases List.mem_append.1 hy with h | h
      · have := betw_mem h; have := hc x (by simp); omega
      · exact i5 c (fun u hu => hc u (List.mem_cons_of_mem _ hu)) y h
theorem meet_none {x s : Sp} (hx : ROk x) (h : lenI s = 0) : lenI (meetP x s) = 0 := by
  rw [meet_fit hx, betw_len (by have := (fit_ok s.1 s.2).1; have := hx.1; omega) (by have := (fit_ok s.1 s.2).2.2; omega)]
  rw [lenI_fit] at h
  rw [if_neg (by omega)]
theorem parts_none {l : List Sp} {s : Sp} (hl : ∀ x ∈ l, ROk x) (h : lenI s = 0) : partsL l s = [] := by
  induction l with
  | nil => rfl
  | cons x l ih =>
    rw [parts_cons, ih (fun y hy => hl y (List.mem_cons_of_mem _ hy))]
    unfold ne
    rw [if_pos (meet_none (hl x (by simp)) h)]
    rfl
/-- what is told from a place on: up to the first that is empty -/
def tw (l : List Sp) (s : Sp) : List Sp := (l.map (fun x => meetP x s)).takeWhile (fun y => decide (lenI y ≠ 0))
theorem tw_cons (x : Sp) (l : List Sp) (s : Sp) : tw (x :: l) s = if lenI (meetP x s) = 0 then [] else meetP x s :: tw l s := by
  unfold tw
  rw [List.map_cons, List.takeWhile_cons]
  by_cases c : lenI (meetP x s) = 0
  · rw [if_pos c]; simp [c]
  · rw [if_neg c]; simp [c]
theorem parts_at {l : List Sp} {s : Sp} {r : Nat} (hl : Rn l) (h1 : ∀ x ∈ l.take r, x.2 ≤ s.1) (h2 : ∀ x ∈ l.drop r, s.1 < x.2) : tw (l.drop r) s = partsL l s := by
  by_cases hs : lenI s = 0
  · rw [parts_none hl.ok hs]
    have := (hl.drop r).ok
    cases hd : l.drop r with
    | nil => rfl
    | cons x t =>
      rw [hd] at this
      rw [tw_cons, if_pos (meet_none (this x (by simp)) hs)]
  · have hk := len_pos_ok hs
    have hlr := hl
    rw [← List.take_append_drop r l] at hlr
    conv => rhs; rw [← List.take_append_drop r l]
    rw [parts_append]
    have e : ∀ (L : List Sp), (∀ x ∈ L, ROk x ∧ (x.2 ≤ s.1 ∨ s.2 ≤ x.1)) → partsL L s = [] := by
      intro L
      induction L with
      | nil => intro _; rfl
      | cons x L ih =>
        intro h
        obtain ⟨a, b⟩ := h x (by simp)
        rw [parts_cons, ih (fun y hy => h y (List.mem_cons_of_mem _ hy))]
        unfold ne
        rw [if_pos ?_]
        · rfl
        · rw [meet_len a.ok hk.ok, if_neg]
          have := a.2.1; have := hk.2.1; omega
    rw [e (l.take r) (fun x hx => ⟨hlr.left.ok x hx, .inl (h1 x hx)⟩), List.nil_append]
    have key : ∀ (L : List Sp), Rn L → (∀ x ∈ L, s.1 < x.2) → tw L s = partsL L s := by
      intro L
      induction L with
      | nil => intro _ _; rfl
      | cons x L ih =>
        intro hL h
        have hx := hL.head
        have hx1 := h x (by simp)
        have hm := meet_len hx.ok hk.ok
        rw [tw_cons, parts_cons]
        unfold ne
        by_cases c : lenI (meetP x s) = 0
        · rw [if_pos c, if_pos c, List.nil_append]
          have hc : s.2 ≤ x.1 := by
            rw [hm] at c
            have := hx.2.1; have := hk.2.1
            split at c <;> omega
          exact (e L (fun y hy => ⟨hL.tail.ok y hy, .inr (by have := hL.lt hy; have := hx.2.1; omega)⟩)).symm
        · rw [if_neg c, if_neg c, ih hL.tail (fun y hy => h y (List.mem_cons_of_mem _ hy))]
          rfl
    exact key _ hlr.right h2
theorem parts_all {l : List Sp} (hl : Rn l) : partsL l (0, 4611686018427387904) = l := by
  obtain ⟨a, b, _⟩ := parts_spec (0, 4611686018427387904) hl
  refine Rn.ext a hl (fun o => ?_)
  rw [b]
  have e : fitP ((0, 4611686018427387904) : Sp).1 ((0, 4611686018427387904) : Sp).2 = (0, 4611686018427387904) := fit_self (by exact ⟨by simp, by simp, by simp⟩)
  rw [e]
  constructor
  · exact fun h => h.1
  · intro h
    refine ⟨h, ?_⟩
    obtain ⟨x, hx, p, q⟩ := h
    have := hl.ok x hx
    have h1 := this.1; have h2 := this.2.2
    simp only
    omega
theorem within_all {l : List Sp} (hl : Rn l) : withinL l (0, 4611686018427387904) = bytesL l := by
  rw [← (parts_spec (0, 4611686018427387904) hl).2.2.1, parts_all hl]

/-! ### gaps -/
def gapsC : List Sp → Sp → List Sp
  | [], rest => ne rest
  | p :: ps, rest => ne (belowP rest p.1) ++ gapsC ps (fromP rest p.2)
theorem gapsC_spec : ∀ (ps : List Sp) (rest : Sp), Rn ps → Ok rest → (∀ p ∈ ps, rest.1 ≤ p.1 ∧ p.2 ≤ rest.2) →
    Rn (gapsC ps rest) ∧ (∀ o, In (gapsC ps rest) o ↔ (rest.1 ≤ o ∧ o < rest.2) ∧ ¬ In ps o) ∧ bytesL (gapsC ps rest) = lenI rest - bytesL ps ∧ (∀ y ∈ gapsC ps rest, rest.1 ≤ y.1) := by
  intro ps
  induction ps with
  | nil =>
    intro rest _ hr _
    have hr1 := hr.2.1
    refine ⟨ne_rn _, fun o => ?_, ?_, fun y hy => ?_⟩
    · show In (ne rest) o ↔ _
      constructor
      · rintro ⟨x, hx, p⟩
        obtain ⟨rfl, _⟩ := ne_mem hx
        exact ⟨p, In.nil⟩
      · rintro ⟨p, _⟩
        unfold ne
        rw [if_neg (by rw [len_ok hr]; omega)]
        exact In.one.2 p
    · show bytesL (ne rest) = _
      rw [bytes_ne, bytes_nil]; omega
    · obtain ⟨rfl, _⟩ := ne_mem hy
      exact Int.le_refl _
  | cons p ps ih =>
    intro rest hp hr hin
    have hp0 := hp.head
    have hpr := hin p (by simp)
    obtain ⟨r0, r1, r2⟩ := hr
    obtain ⟨p0, p1, p2⟩ := hp0
    have eb : belowP rest p.1 = betw rest.1 p.1 := by rw [below_rok ⟨r0, r1, r2⟩, show min rest.2 p.1 = p.1 by omega]
    have ea : fromP rest p.2 = betw p.2 rest.2 := by rw [from_rok ⟨r0, r1, r2⟩, show max rest.1 p.2 = p.2 by omega]
    have hg : gapsC (p :: ps) rest = ne (betw rest.1 p.1) ++ gapsC ps (betw p.2 rest.2) := by rw [gapsC, eb, ea]
    rw [hg]
    have hlb : lenI (betw rest.1 p.1) = p.1 - rest.1 := by rw [betw_len r0 (by omega)]; split <;> omega
    have hlr := len_ok (x := rest) ⟨r0, r1, r2⟩
    have hlp := len_rok hp.head
    by_cases c : rest.2 ≤ p.2
    · have hps : ps = [] := by
        cases ps with
        | nil => rfl
        | cons q ps =>
          have := hp.lt (y := q) (by simp)
          have := hin q (by simp)
          have := (hp.ok q (by simp)).2.1
          omega
      subst hps
      have e0 : gapsC [] (betw p.2 rest.2) = [] := by
        show ne _ = []
        unfold ne
        rw [if_pos (by rw [betw_len (by omega) r2, if_neg (by omega)])]
      rw [e0, List.append_nil]
      refine ⟨ne_rn _, fun o => ?_, ?_, fun y hy => ?_⟩
      · rw [ne_in r0 (by omega), In.one]; omega
      · rw [bytes_ne, hlb, bytes_cons, bytes_nil, hlr, hlp]; omega
      · have := betw_mem hy; omega
    · have er : betw p.2 rest.2 = (p.2, rest.2) := by unfold betw; rw [if_neg (by omega)]
      rw [er]
      obtain ⟨i1, i2, i3, i4⟩ := ih (p.2, rest.2) hp.tail ⟨by simp only; omega, by simp only; omega, r2⟩ (fun q hq => ⟨by have := hp.lt hq; simp only; omega, (hin q (List.mem_cons_of_mem _ hq)).2⟩)
      simp only at i2 i3 i4
      refine ⟨⟨fun y hy => ?_, List.pairwise_append.2 ⟨(ne_rn _).up, i1.up, fun y hy z hz => ?_⟩⟩, fun o => ?_, ?_, fun y hy => ?_⟩
      · rcases List.mem_append.1 hy with h | h
        · exact (ne_rn _).ok y h
        · exact i1.ok y h
      · have := betw_mem hy; have := i4 z hz; omega
      · rw [In.append, i2, ne_in r0 (by omega), In.cons]
        constructor
        · rintro (a | ⟨a, b⟩)
          · exact ⟨by omega, fun q => by
              rcases q with q | q
              · omega
              · have := hp.in_tail q; omega⟩
          · exact ⟨by omega, fun q => by
              rcases q with q | q
              · omega
              · exact b q⟩
        · rintro ⟨a, b⟩
          by_cases d : o < p.1
          · exact .inl ⟨a.1, d⟩
          · right
            refine ⟨⟨?_, a.2⟩, fun q => b (.inr q)⟩
            by_cases e : o < p.2
            · exact absurd (Or.inl ⟨by omega, e⟩) b
            · omega
      · rw [bytes_append, i3, bytes_ne, hlb, bytes_cons, hlr, hlp]
        have : lenI (p.2, rest.2) = rest.2 - p.2 := len_ok ⟨by simp only; omega, by simp only; omega, r2⟩
        omega
      · rcases List.mem_append.1 hy with h | h
        · have := betw_mem h; omega
        · have := i4 y h; omega
def gapsL (l : List Sp) (s : Sp) : List Sp := if lenI s = 0 then [] else l.foldl refWo [s]
theorem foldWo_spec : ∀ (l : List Sp) (q : List Sp), (∀ x ∈ l, ROk x) → Rn q → Rn (l.foldl refWo q) ∧ ∀ o, In (l.foldl refWo q) o ↔ In q o ∧ ¬ In l o := by
  intro l
  induction l with
  | nil => intro q _ hq; exact ⟨hq, fun o => ⟨fun h => ⟨h, In.nil⟩, fun h => h.1⟩⟩
  | cons x l ih =>
    intro q h hq
    have hx := h x (by simp)
    obtain ⟨w1, w2, _⟩ := wo_spec hq hx
    have e : refWo q x = woL q x := by unfold refWo; rw [if_neg (by rw [len_rok hx]; have := hx.2.1; omega)]
    obtain ⟨i1, i2⟩ := ih (woL q x) (fun y hy => h y (List.mem_cons_of_mem _ hy)) w1
    rw [List.foldl_cons, e]
    refine ⟨i1, fun o => ?_⟩
    rw [i2, w2, In.cons]
    constructor
    · rintro ⟨⟨a, b⟩, c⟩
      exact ⟨a, fun q => by rcases q with q | q; exact b q; exact c q⟩
    · rintro ⟨a, b⟩
      exact ⟨⟨a, fun q => b (.inl q)⟩, fun q => b (.inr q)⟩
theorem gaps_all {l : List Sp} (s : Sp) (hl : Rn l) : Rn (gapsC (partsL l s) s) ∧ gapsC (partsL l s) s = gapsL l s ∧ (∀ o, In (gapsL l s) o ↔ ((fitP s.1 s.2).1 ≤ o ∧ o < (fitP s.1 s.2).2) ∧ ¬ In l o) ∧ bytesL (gapsL l s) = lenI s - withinL l s := by
  by_cases hs : lenI s = 0
  · have hp := parts_none hl.ok hs
    have e : gapsC (partsL l s) s = [] := by rw [hp]; show ne s = []; unfold ne; rw [if_pos hs]
    have e2 : gapsL l s = [] := by unfold gapsL; rw [if_pos hs]
    have hw : withinL l s = 0 := by rw [← (parts_spec s hl).2.2.1, hp]; rfl
    rw [e, e2]
    refine ⟨Rn.nil, rfl, fun o => ⟨fun h => absurd h In.nil, fun h => ?_⟩, by rw [hs, hw]; rfl⟩
    rw [lenI_fit] at hs
    omega
  · have hk := len_pos_ok hs
    have hf : fitP s.1 s.2 = s := fit_of hk.ok
    obtain ⟨a1, a2, a3, a4, _⟩ := parts_spec s hl
    rw [hf] at a2 a4
    obtain ⟨g1, g2, g3, _⟩ := gapsC_spec (partsL l s) s a1 hk.ok a4
    have es : Rn [s] := ⟨fun x hx => by simp at hx; subst hx; exact hk, List.pairwise_singleton _ _⟩
    obtain ⟨f1, f2⟩ := foldWo_spec l [s] hl.ok es
    have e : gapsC (partsL l s) s = gapsL l s := by
      unfold gapsL
      rw [if_neg hs]
      refine Rn.ext g1 f1 (fun o => ?_)
      rw [g2, f2, a2, In.one]
      constructor
      · rintro ⟨h, h'⟩
        exact ⟨h, fun q => h' ⟨q, h⟩⟩
      · rintro ⟨h, h'⟩
        exact ⟨h, fun q => h' q.1⟩
    refine ⟨g1, e, fun o => ?_, ?_⟩
    · rw [← e, g2, a2, hf]
      constructor
      · rintro ⟨h, h'⟩
        exact ⟨h, fun q => h' ⟨q, h⟩⟩
      · rintro ⟨h, h'⟩
        exact ⟨h, fun q => h' q.1⟩
    · rw [← e, g3, a3]

/-! ### what is asked -/
def runL (l : List Sp) (o : Int) : Sp := (l.find? (fun x => hasB x o)).getD (0, 0)
def nextL (l : List Sp) (o : Int) : Sp := ((l.map (fun x => fromP x o)).find? (fun x => decide (0 < lenI x))).getD (0, 0)
def atI (o : Int) : Int := min (max o 0) 4611686018427387904
def gapL (l : List Sp) (o : Int) : Int := if 0 < lenI (runL l (atI o)) then (runL l (atI o)).2 else atI o
theorem has_rok {x : Sp} (hx : ROk x) (o : Int) : hasB x o = true ↔ x.1 ≤ o ∧ o < x.2 := by
  unfold hasB
  rw [fit_of hx.ok]
  simp
theorem find_skip {p : Sp → Bool} {l r : List Sp} (h : ∀ x ∈ l, p x = false) : (l ++ r).find? p = r.find? p := by
  induction l with
  | nil => rfl
  | cons x l ih =>
    rw [List.cons_append, List.find?_cons, h x (by simp)]
    exact ih (fun y hy => h y (List.mem_cons_of_mem _ hy))
theorem find_none {p : Sp → Bool} {l : List Sp} (h : ∀ x ∈ l, p x = false) : l.find? p = none := by
  rw [List.find?_eq_none]
  intro x hx
  rw [h x hx]
  simp
theorem run_at {l : List Sp} {o : Int} {r : Nat} (hl : Rn l) (hr : r ≤ l.length) (h1 : ∀ x ∈ l.take r, x.2 ≤ o) (h2 : ∀ x ∈ l.drop r, o < x.2) :
    (r < l.length ∧ hasB (l.getD r (0, 0)) o = true ∧ runL l o = l.getD r (0, 0) ∧ 0 < lenI (runL l o)) ∨ ((r < l.length → hasB (l.getD r (0, 0)) o = false) ∧ runL l o = (0, 0)) := by
  have hskip : ∀ x ∈ l.take r, hasB x o = false := fun x hx => by
    have hk := (hl.take r).ok x hx
    have := h1 x hx
    cases hb : hasB x o with
    | false => rfl
    | true => have := (has_rok hk o).1 hb; omega
  have e : runL l o = ((l.drop r).find? (fun x => hasB x o)).getD (0, 0) := by
    unfold runL
    conv => lhs; rw [← List.take_append_drop r l]
    rw [find_skip hskip]
  by_cases c : r < l.length
  · have hd := drop_getD c
    have hk := hl.ok _ (getD_mem c)
    have hdr := hl.drop r
    rw [hd] at e hdr h2
    cases hb : hasB (l.getD r (0, 0)) o with
    | true =>
      left
      rw [List.find?_cons, hb] at e
      refine ⟨c, rfl, e, ?_⟩
      rw [e]
      show 0 < lenI (l.getD r (0, 0))
      rw [len_rok hk]
      have := hk.2.1; omega
    | false =>
      right
      refine ⟨fun _ => rfl, ?_⟩
      rw [e, List.find?_cons, hb, find_none (fun x hx => ?_)]
      · rfl
      · have h3 := h2 (l.getD r (0, 0)) (by simp)
        have h4 := hdr.lt hx
        cases hb' : hasB x o with
        | false => rfl
        | true =>
          have h5 := (has_rok (hdr.tail.ok x hx) o).1 hb'
          have : hasB (l.getD r (0, 0)) o = true := (has_rok hk o).2 (by omega)
          rw [hb] at this; cases this
  · right
    refine ⟨fun h => absurd h c, ?_⟩
    rw [e, List.drop_eq_nil_of_le (by omega)]
    rfl
theorem in_run {l : List Sp} (hl : Rn l) (o : Int) : 0 < lenI (runL l o) ↔ In l o := by
  unfold runL
  constructor
  · intro h
    cases hf : l.find? (fun x => hasB x o) with
    | none => rw [hf] at h; simp [lenI, fitP, mayB] at h
    | some x =>
      have hm := List.mem_of_find?_eq_some hf
      have hp := List.find?_some hf
      have := (has_rok (hl.ok x hm) o).1 hp
      exact ⟨x, hm, this⟩
  · rintro ⟨x, hx, hp⟩
    cases hf : l.find? (fun x => hasB x o) with
    | none =>
      have := List.find?_eq_none.1 hf x hx
      exact absurd ((has_rok (hl.ok x hx) o).2 hp) this
    | some y =>
      have hy := hl.ok y (List.mem_of_find?_eq_some hf)
      show 0 < lenI y
      rw [len_rok hy]
      have := hy.2.1; omega
theorem next_at {l : List Sp} {o : Int} {r : Nat} (hl : Rn l) (hr : r ≤ l.length) (h1 : ∀ x ∈ l.take r, x.2 ≤ o) (h2 : ∀ x ∈ l.drop r, o < x.2) :
    (r < l.length ∧ nextL l o = fromP (l.getD r (0, 0)) o ∧ 0 < lenI (nextL l o)) ∨ (¬ r < l.length ∧ nextL l o = (0, 0)) := by
  have hskip : ∀ x ∈ (l.take r).map (fun x => fromP x o), decide (0 < lenI x) = false := fun y hy => by
    obtain ⟨x, hx, rfl⟩ := List.mem_map.1 hy
    have hk := (hl.take r).ok x hx
    have := h1 x hx
    have hx0 := hk.1
    rw [from_rok hk.ok, betw_len (by omega) hk.2.2, if_neg (by omega)]
    rfl
  have e : nextL l o = (((l.drop r).map (fun x => fromP x o)).find? (fun x => decide (0 < lenI x))).getD (0, 0) := by
    unfold nextL
    conv => lhs; rw [← List.take_append_drop r l, List.map_append]
    rw [find_skip hskip]
  by_cases c : r < l.length
  · left
    have hd := drop_getD c
    have hk := hl.ok _ (getD_mem c)
    have hx0 := hk.1; have hx1 := hk.2.1
    rw [hd] at e h2
    have h3 := h2 (l.getD r (0, 0)) (by simp)
    have hp : 0 < lenI (fromP (l.getD r (0, 0)) o) := by
      rw [from_rok hk.ok, betw_len (by omega) hk.2.2, if_pos (by omega)]
      omega
    rw [List.map_cons, List.find?_cons, decide_eq_true hp] at e
    exact ⟨c, e, by rw [e]; exact hp⟩
  · right
    refine ⟨c, ?_⟩
    rw [e, List.drop_eq_nil_of_le (by omega)]
    rfl
theorem gap_def (l : List Sp) (o : Int) : gapL l o = if 0 < lenI (runL l (atI o)) then (runL l (atI o)).2 else atI o := by unfold gapL; rfl
theorem gap_nil (o : Int) : gapL [] o = atI o := by unfold gapL runL; simp [lenI, fitP, mayB]

/-! ### places -/
def plc (q : Sp → Bool) (l : List Sp) : Nat := (l.takeWhile (fun x => !q x)).length
theorem Found.one {p : Nat → Bool} {n r s : Nat} (h : Found p n r) (k : Found p n s) : r = s := by
  have h1 := h.le; have h2 := k.le
  rcases Nat.lt_trichotomy r s with c | c | c
  · have a := h.hi r (Nat.le_refl _) (by omega)
    have b := k.lo r c
    rw [a] at b; cases b
  · exact c
  · have a := k.hi s (Nat.le_refl _) (by omega)
    have b := h.lo s c
    rw [a] at b; cases b
theorem plc_parts (q : Sp → Bool) (l : List Sp) : (∀ x ∈ l.take (plc q l), q x = false) ∧ (∀ h : plc q l < l.length, q (l.getD (plc q l) (0, 0)) = true) ∧ plc q l ≤ l.length := by
  unfold plc
  induction l with
  | nil => exact ⟨by simp, by simp, by simp⟩
  | cons x l ih =>
    obtain ⟨i1, i2, i3⟩ := ih
    rw [List.takeWhile_cons]
    cases hq : q x with
    | true => simp [hq]
    | false =>
      simp only [Bool.not_false, if_true, List.length_cons]
      refine ⟨fun y hy => ?_, fun h => ?_, by omega⟩
      · rw [List.take_succ_cons] at hy
        rcases List.mem_cons.1 hy with rfl | hy
        · exact hq
        · exact i1 y hy
      · have := i2 (by omega)
        simpa [List.getD] using this
theorem plc_found {q : Sp → Bool} {l : List Sp} (hm : ∀ x y, x < y → y < l.length → q (l.getD x (0, 0)) = true → q (l.getD y (0, 0)) = true) : Found (fun i => q (l.getD i (0, 0))) l.length (plc q l) := by
  obtain ⟨h1, h2, h3⟩ := plc_parts q l
  refine ⟨h3, fun t ht => ?_, fun t h4 h5 => ?_⟩
  · refine h1 _ ?_
    have : t < (l.take (plc q l)).length := by rw [List.length_take]; omega
    have e : (l.take (plc q l))[t] = l.getD t (0, 0) := by simp [List.getD, show t < l.length by omega]
    rw [← e]
    exact List.getElem_mem _
  · have h6 := h2 (by omega)
    by_cases c : plc q l = t
    · show q (l.getD t (0, 0)) = true
      rw [← c]; exact h6
    · exact hm _ t (by omega) h5 h6
/-- the first that ends above -/
def bhd (l : List Sp) (o : Int) : Nat := plc (fun x => decide (o < x.2)) l
theorem Rn.mono2 {l : List Sp} (h : Rn l) (o : Int) : ∀ x y, x < y → y < l.length → decide (o < (l.getD x (0, 0)).2) = true → decide (o < (l.getD y (0, 0)).2) = true := by
  intro x y hxy hy h1
  have a := h.at hxy hy
  have b := (h.ok _ (getD_mem hy)).2.1
  simp only [decide_eq_true_eq] at h1 ⊢
  omega
theorem Rn.mono2' {l : List Sp} (h : Rn l) (o : Int) : ∀ x y, x < y → y < l.length → decide (o ≤ (l.getD x (0, 0)).2) = true → decide (o ≤ (l.getD y (0, 0)).2) = true := by
  intro x y hxy hy h1
  have a := h.at hxy hy
  have b := (h.ok _ (getD_mem hy)).2.1
  simp only [decide_eq_true_eq] at h1 ⊢
  omega
theorem Rn.mono1 {l : List Sp} (h : Rn l) (o : Int) : ∀ x y, x < y → y < l.length → decide (o < (l.getD x (0, 0)).1) = true → decide (o < (l.getD y (0, 0)).1) = true := by
  intro x y hxy hy h1
  have a := h.at hxy hy
  have b := (h.ok _ (getD_mem (l := l) (i := x) (by omega))).2.1
  simp only [decide_eq_true_eq] at h1 ⊢
  omega
theorem Rn.mono1' {l : List Sp} (h : Rn l) (o : Int) : ∀ x y, x < y → y < l.length → decide (o ≤ (l.getD x (0, 0)).1) = true → decide (o ≤ (l.getD y (0, 0)).1) = true := by
  intro x y hxy hy h1
  have a := h.at hxy hy
  have b := (h.ok _ (getD_mem (l := l) (i := x) (by omega))).2.1
  simp only [decide_eq_true_eq] at h1 ⊢
  omega
theorem bhd_spec {l : List Sp} (h : Rn l) (o : Int) : bhd l o ≤ l.length ∧ (∀ x ∈ l.take (bhd l o), x.2 ≤ o) ∧ (∀ x ∈ l.drop (bhd l o), o < x.2) := by
  have hf := plc_found (q := fun x => decide (o < x.2)) (l := l) (h.mono2 o)
  obtain ⟨h1, h2⟩ := Found.take (q := fun x => decide (o < x.2)) hf rfl
  exact ⟨hf.le, fun x hx => by have := h1 x hx; simp at this; exact this, fun x hx => by have := h2 x hx; simp at this; exact this⟩
end Go.Proofs.Ytdoedcfmhdnbgaa.rn
