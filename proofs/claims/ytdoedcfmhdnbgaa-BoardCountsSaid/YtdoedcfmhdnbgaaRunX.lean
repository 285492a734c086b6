/-
  Sets of offsets as lists of spans that rise and don't touch, as numbers. Imports nothing of the program.
-/
import Derived.Test.YtdoedcfmhdnbgaaSpnX
namespace Go.Proofs.Ytdoedcfmhdnbgaa.rn
open Go.RowKit aid sp
set_option linter.unusedVariables false

abbrev Sp := Int × Int
def ROk (x : Sp) : Prop := 0 ≤ x.1 ∧ x.1 < x.2 ∧ x.2 ≤ 4611686018427387904
structure Rn (l : List Sp) : Prop where
  ok : ∀ x ∈ l, ROk x
  up : l.Pairwise (fun a b => a.2 < b.1)
def In (l : List Sp) (o : Int) : Prop := ∃ x ∈ l, x.1 ≤ o ∧ o < x.2
theorem Rn.nil : Rn [] := ⟨fun x h => by simp at h, List.Pairwise.nil⟩
theorem In.nil {o : Int} : ¬ In [] o := by rintro ⟨x, h, _⟩; simp at h
theorem In.cons {x : Sp} {l : List Sp} {o : Int} : In (x :: l) o ↔ (x.1 ≤ o ∧ o < x.2) ∨ In l o := by
  unfold In
  simp
theorem In.append {l r : List Sp} {o : Int} : In (l ++ r) o ↔ In l o ∨ In r o := by
  unfold In
  constructor
  · rintro ⟨x, h, a⟩
    rcases List.mem_append.1 h with h | h
    · exact .inl ⟨x, h, a⟩
    · exact .inr ⟨x, h, a⟩
  · rintro (⟨x, h, a⟩ | ⟨x, h, a⟩)
    · exact ⟨x, List.mem_append.2 (.inl h), a⟩
    · exact ⟨x, List.mem_append.2 (.inr h), a⟩
theorem In.one {x : Sp} {o : Int} : In [x] o ↔ x.1 ≤ o ∧ o < x.2 := by unfold In; simp
theorem Rn.head {x : Sp} {l : List Sp} (h : Rn (x :: l)) : ROk x := h.ok x (by simp)
theorem Rn.tail {x : Sp} {l : List Sp} (h : Rn (x :: l)) : Rn l := ⟨fun y hy => h.ok y (List.mem_cons_of_mem _ hy), (List.pairwise_cons.1 h.up).2⟩
theorem Rn.lt {x : Sp} {l : List Sp} (h : Rn (x :: l)) {y : Sp} (hy : y ∈ l) : x.2 < y.1 := (List.pairwise_cons.1 h.up).1 y hy
theorem Rn.in_tail {x : Sp} {l : List Sp} (h : Rn (x :: l)) {o : Int} (ho : In l o) : x.2 < o := by
  obtain ⟨y, hy, a, b⟩ := ho
  have := h.lt hy
  omega
/-- two that have the same offsets are the same -/
theorem Rn.ext : ∀ {l r : List Sp}, Rn l → Rn r → (∀ o, In l o ↔ In r o) → l = r := by
  intro l
  induction l with
  | nil =>
    intro r hl hr h
    cases r with
    | nil => rfl
    | cons y r =>
      have hy := hr.head
      have := (h y.1).2 ⟨y, by simp, Int.le_refl _, hy.2.1⟩
      exact absurd this In.nil
  | cons x l ih =>
    intro r hl hr h
    have hx := hl.head
    cases r with
    | nil =>
      have := (h x.1).1 ⟨x, by simp, Int.le_refl _, hx.2.1⟩
      exact absurd this In.nil
    | cons y r =>
      have hy := hr.head
      have e1 : x.1 = y.1 := by
        have h1 := In.cons.1 ((h x.1).1 (In.cons.2 (.inl ⟨Int.le_refl _, hx.2.1⟩)))
        have h2 := In.cons.1 ((h y.1).2 (In.cons.2 (.inl ⟨Int.le_refl _, hy.2.1⟩)))
        have a1 : y.1 ≤ x.1 := by
          rcases h1 with h1 | h1
          · exact h1.1
          · have := hr.in_tail h1; have := hy.2.1; omega
        have a2 : x.1 ≤ y.1 := by
          rcases h2 with h2 | h2
          · exact h2.1
          · have := hl.in_tail h2; have := hx.2.1; omega
        omega
      have e2 : x.2 = y.2 := by
        rcases Int.lt_trichotomy x.2 y.2 with c | c | c
        · exfalso
          rcases In.cons.1 ((h x.2).2 (In.cons.2 (.inl ⟨by have := hx.2.1; omega, c⟩))) with q | q
          · omega
          · have := hl.in_tail q; omega
        · exact c
        · exfalso
          rcases In.cons.1 ((h y.2).1 (In.cons.2 (.inl ⟨by have := hy.2.1; omega, c⟩))) with q | q
          · omega
          · have := hr.in_tail q; omega
      have e : x = y := Prod.ext e1 e2
      subst e
      rw [ih hl.tail hr.tail (fun o => ?_)]
      constructor
      · intro q
        have := hl.in_tail q
        rcases In.cons.1 ((h o).1 (In.cons.2 (.inr q))) with c | c
        · omega
        · exact c
      · intro q
        have := hr.in_tail q
        rcases In.cons.1 ((h o).2 (In.cons.2 (.inr q))) with c | c
        · omega
        · exact c
theorem Rn.of_append {l m r : List Sp} (h : Rn (l ++ m ++ r)) : (∀ x ∈ l, ∀ y ∈ m ++ r, x.2 < y.1) ∧ (∀ x ∈ l ++ m, ∀ y ∈ r, x.2 < y.1) := by
  have h1 := (List.pairwise_append.1 h.up)
  have h2 := h.up
  rw [List.append_assoc] at h2
  have h3 := List.pairwise_append.1 h2
  exact ⟨h3.2.2, h1.2.2⟩
theorem Rn.left {l r : List Sp} (h : Rn (l ++ r)) : Rn l := ⟨fun x hx => h.ok x (List.mem_append.2 (.inl hx)), (List.pairwise_append.1 h.up).1⟩
theorem Rn.right {l r : List Sp} (h : Rn (l ++ r)) : Rn r := ⟨fun x hx => h.ok x (List.mem_append.2 (.inr hx)), (List.pairwise_append.1 h.up).2.1⟩
theorem Rn.mid {l m r : List Sp} (hl : Rn l) (hm : Rn m) (hr : Rn r) (h1 : ∀ x ∈ l, ∀ y ∈ m ++ r, x.2 < y.1) (h2 : ∀ x ∈ m, ∀ y ∈ r, x.2 < y.1) : Rn (l ++ (m ++ r)) :=
  ⟨fun x hx => by
    rcases List.mem_append.1 hx with hx | hx
    · exact hl.ok x hx
    · rcases List.mem_append.1 hx with hx | hx
      · exact hm.ok x hx
      · exact hr.ok x hx, List.pairwise_append.2 ⟨hl.up, List.pairwise_append.2 ⟨hm.up, hr.up, h2⟩, h1⟩⟩

/-! ### spans that are fine -/
theorem ROk.ok {x : Sp} (h : ROk x) : Ok x := ⟨h.1, Int.le_of_lt h.2.1, h.2.2⟩
theorem fit_of {x : Sp} (h : Ok x) : fitP x.1 x.2 = x := fit_self h
theorem len_ok {x : Sp} (h : Ok x) : lenI x = x.2 - x.1 := by unfold lenI; rw [fit_of h]
theorem len_rok {x : Sp} (h : ROk x) : lenI x = x.2 - x.1 := len_ok h.ok
theorem rok_of {x : Sp} (h : Ok x) (h1 : lenI x ≠ 0) : ROk x := by
  rw [len_ok h] at h1
  exact ⟨h.1, by have := h.2.1; omega, h.2.2⟩
theorem len_pos_ok {x : Sp} (h : lenI x ≠ 0) : ROk x := by
  unfold lenI fitP at h
  by_cases c : mayB x.1 x.2 = true
  · rw [if_pos c] at h
    have := mayB_iff.1 c
    exact ⟨this.1, by have := this.2.1; simp only at h; omega, this.2.2⟩
  · rw [if_neg c] at h; simp at h
theorem meet_rok {x s : Sp} (hx : Ok x) (hs : Ok s) : meetP x s = betw (max x.1 s.1) (min x.2 s.2) := by unfold meetP; rw [fit_of hx, fit_of hs]
theorem betw_len {a b : Int} (h0 : 0 ≤ a) (h1 : b ≤ 4611686018427387904) : lenI (betw a b) = if a < b then b - a else 0 := by
  unfold betw
  by_cases c : b ≤ a
  · rw [if_pos c, if_neg (by omega)]; rfl
  · rw [if_neg c, if_pos (by omega)]; exact len_ok ⟨h0, by simp only; omega, h1⟩
theorem meet_len {x s : Sp} (hx : Ok x) (hs : Ok s) : lenI (meetP x s) = if max x.1 s.1 < min x.2 s.2 then min x.2 s.2 - max x.1 s.1 else 0 := by
  rw [meet_rok hx hs]
  have a := hx.1; have b := hs.1; have c := hx.2.2; have d := hs.2.2
  exact betw_len (by omega) (by omega)
theorem below_rok {x : Sp} (hx : Ok x) (o : Int) : belowP x o = betw x.1 (min x.2 o) := by unfold belowP; rw [fit_of hx]
theorem from_rok {x : Sp} (hx : Ok x) (o : Int) : fromP x o = betw (max x.1 o) x.2 := by unfold fromP; rw [fit_of hx]
theorem betw_in {a b o : Int} : In (if lenI (betw a b) = 0 then [] else [betw a b]) o → a ≤ o ∧ o < b := by
  unfold betw
  by_cases c : b ≤ a
  · rw [if_pos c]; intro h; simp [lenI, fitP, mayB, In.nil] at h
  · rw [if_neg c]
    intro h
    by_cases d : lenI (a, b) = 0
    · rw [if_pos d] at h; exact absurd h In.nil
    · rw [if_neg d] at h; exact In.one.1 h
/-- what is not empty of a span -/
def ne (x : Sp) : List Sp := if lenI x = 0 then [] else [x]
theorem ne_in {a b o : Int} (h0 : 0 ≤ a) (h1 : b ≤ 4611686018427387904) : In (ne (betw a b)) o ↔ a ≤ o ∧ o < b := by
  unfold ne
  constructor
  · exact betw_in
  · rintro ⟨h, k⟩
    have hl : lenI (betw a b) = b - a := by rw [betw_len h0 h1, if_pos (by omega)]
    rw [if_neg (by omega)]
    unfold betw
    rw [if_neg (by omega)]
    exact In.one.2 ⟨h, k⟩
theorem ne_mem {x y : Sp} (h : y ∈ ne x) : y = x ∧ ROk x := by
  unfold ne at h
  by_cases c : lenI x = 0
  · rw [if_pos c] at h; simp at h
  · rw [if_neg c] at h; simp at h; exact ⟨h, len_pos_ok c⟩
theorem ne_rn (x : Sp) : Rn (ne x) := by
  unfold ne
  by_cases c : lenI x = 0
  · rw [if_pos c]; exact Rn.nil
  · rw [if_neg c]; exact ⟨fun y hy => by simp at hy; subst hy; exact len_pos_ok c, List.pairwise_singleton _ _⟩

/-! ### hulls -/
theorem hull_snoc (l : List Sp) (x : Sp) : hullP (l ++ [x]) = widerP (hullP l) x := by unfold hullP; rw [List.foldl_append]; rfl
theorem hull_spec : ∀ (l : List Sp), (∀ x ∈ l, ROk x) → l ≠ [] → (∀ x ∈ l, (hullP l).1 ≤ x.1 ∧ x.2 ≤ (hullP l).2) ∧ (∃ x ∈ l, (hullP l).1 = x.1) ∧ (∃ x ∈ l, (hullP l).2 = x.2) := by
  suffices H : ∀ (n : Nat) (l : List Sp), l.length = n → (∀ x ∈ l, ROk x) → l ≠ [] → (∀ x ∈ l, (hullP l).1 ≤ x.1 ∧ x.2 ≤ (hullP l).2) ∧ (∃ x ∈ l, (hullP l).1 = x.1) ∧ (∃ x ∈ l, (hullP l).2 = x.2) from fun l => H _ l rfl
  intro n
  induction n with
  | zero => intro l hl h hne; exact absurd (List.eq_nil_of_length_eq_zero hl) hne
  | succ n ih =>
    intro l hl h hne
    obtain ⟨l', x, rfl⟩ : ∃ l' x, l = l' ++ [x] := ⟨l.dropLast, l.getLast hne, (List.dropLast_concat_getLast hne).symm⟩
    have hx := h x (by simp)
    have hxl := len_rok hx
    obtain ⟨x1, x2, x3⟩ := hx
    rw [hull_snoc]
    by_cases hn : l' = []
    · subst hn
      have e : widerP (hullP []) x = x := by
        unfold widerP
        rw [if_neg (by omega), if_pos (show hullP [] = (0, 0) from rfl)]
      rw [List.nil_append, e]
      exact ⟨fun y hy => by simp at hy; subst hy; omega, ⟨x, by simp, rfl⟩, ⟨x, by simp, rfl⟩⟩
    · obtain ⟨i1, ⟨a, ha, i2⟩, ⟨b, hb, i3⟩⟩ := ih l' (by simp at hl; omega) (fun y hy => h y (List.mem_append.2 (.inl hy))) hn
      have hbo := h b (List.mem_append.2 (.inl hb))
      have e : widerP (hullP l') x = (min (hullP l').1 x.1, max (hullP l').2 x.2) := by
        unfold widerP
        rw [if_neg (by omega), if_neg ?_]
        intro c
        rw [c] at i3
        have := hbo.1; have := hbo.2.1; simp only at i3; omega
      rw [e]
      refine ⟨fun y hy => ?_, ?_, ?_⟩
      · rcases List.mem_append.1 hy with hy | hy
        · have := i1 y hy; simp only; omega
        · simp at hy; subst hy; simp only; omega
      · simp only
        rcases Int.le_total (hullP l').1 x.1 with c | c
        · exact ⟨a, List.mem_append.2 (.inl ha), by omega⟩
        · exact ⟨x, by simp, by omega⟩
      · simp only
        rcases Int.le_total (hullP l').2 x.2 with c | c
        · exact ⟨x, by simp, by omega⟩
        · exact ⟨b, List.mem_append.2 (.inl hb), by omega⟩
/-- the hull of what touches one, and of that one, has what they have -/
theorem hull_in {l : List Sp} {s : Sp} (hl : ∀ x ∈ l, ROk x) (hs : ROk s) (ht : ∀ x ∈ l, s.1 ≤ x.2 ∧ x.1 ≤ s.2) {m : List Sp} (hm : ∀ x, x ∈ m ↔ x ∈ l ∨ x = s) : ROk (hullP m) ∧ ∀ o, ((hullP m).1 ≤ o ∧ o < (hullP m).2) ↔ In l o ∨ (s.1 ≤ o ∧ o < s.2) := by
  have hmk : ∀ x ∈ m, ROk x := fun x hx => by rcases (hm x).1 hx with h | rfl; exact hl x h; exact hs
  have hsm : s ∈ m := (hm s).2 (.inr rfl)
  obtain ⟨h1, ⟨a, ha, h2⟩, ⟨b, hb, h3⟩⟩ := hull_spec m hmk (List.ne_nil_of_mem hsm)
  have hso := h1 s hsm
  have hak := hmk a ha
  have hbk := hmk b hb
  refine ⟨⟨by rw [h2]; exact hak.1, by have := hs.2.1; omega, by rw [h3]; exact hbk.2.2⟩, fun o => ⟨fun ⟨p, q⟩ => ?_, fun h => ?_⟩⟩
  · by_cases c : s.1 ≤ o
    · by_cases d : o < s.2
      · exact .inr ⟨c, d⟩
      · rcases (hm b).1 hb with hb' | rfl
        · exact .inl ⟨b, hb', by have := ht b hb'; omega, by omega⟩
        · omega
    · rcases (hm a).1 ha with ha' | rfl
      · exact .inl ⟨a, ha', by omega, by have := ht a ha'; omega⟩
      · omega
  · rcases h with ⟨x, hx, p, q⟩ | ⟨p, q⟩
    · have := h1 x ((hm x).2 (.inl hx)); omega
    · omega

/-! ### adding and removing, at places -/
def addAt (l : List Sp) (s : Sp) (f t : Nat) : List Sp := l.take f ++ ([hullP ((l.take t).drop f ++ [s])] ++ l.drop t)
theorem three (l : List Sp) (f t : Nat) (h : f ≤ t) : l.take f ++ (l.take t).drop f ++ l.drop t = l := by
  have e : l.take f = (l.take t).take f := by rw [List.take_take]; congr 1; omega
  rw [e, List.take_append_drop, List.take_append_drop]
theorem add_spec {l : List Sp} {s : Sp} {f t : Nat} (hl : Rn l) (hs : ROk s) (hft : f ≤ t) (h1 : ∀ x ∈ l.take f, x.2 < s.1) (h2 : ∀ x ∈ l.drop f, s.1 ≤ x.2) (h3 : ∀ x ∈ l.take t, x.1 ≤ s.2) (h4 : ∀ x ∈ l.drop t, s.2 < x.1) :
    Rn (addAt l s f t) ∧ ∀ o, In (addAt l s f t) o ↔ In l o ∨ (s.1 ≤ o ∧ o < s.2) := by
  have e := three l f t hft
  unfold addAt
  have hd : ∀ x ∈ (l.take t).drop f, x ∈ l.drop f := fun x hx => by
    have : (l.take t).drop f = (l.drop f).take (t - f) := List.drop_take
    rw [this] at hx
    exact List.mem_of_mem_take hx
  have hm2 : ∀ x ∈ (l.take t).drop f, s.1 ≤ x.2 ∧ x.1 ≤ s.2 := fun x hx => ⟨h2 x (hd x hx), h3 x (List.mem_of_mem_drop hx)⟩
  generalize l.take f = A at *
  generalize (l.take t).drop f = B at *
  generalize l.drop t = D at *
  subst e
  obtain ⟨p1, p2⟩ := hl.of_append
  have hB : ∀ x ∈ B, ROk x := fun x hx => hl.ok x (by simp [hx])
  obtain ⟨hk, hin⟩ := hull_in hB hs hm2 (m := B ++ [s]) (fun x => by simp)
  obtain ⟨q1, ⟨a, ha, q2⟩, ⟨b, hb, q3⟩⟩ := hull_spec (B ++ [s]) (fun x hx => by rcases List.mem_append.1 hx with h | h; exact hB x h; simp at h; subst h; exact hs) (by simp)
  refine ⟨Rn.mid hl.left.left ⟨fun x hx => by simp at hx; subst hx; exact hk, List.pairwise_singleton _ _⟩ hl.right (fun x hx y hy => ?_) (fun x hx y hy => ?_), fun o => ?_⟩
  · rcases List.mem_append.1 hy with hy | hy
    · simp at hy
      subst hy
      rw [q2]
      rcases List.mem_append.1 ha with ha | ha
      · exact p1 x hx a (List.mem_append.2 (.inl ha))
      · simp at ha; subst ha; exact h1 x hx
    · exact p1 x hx y (List.mem_append.2 (.inr hy))
  · simp at hx
    subst hx
    rw [q3]
    rcases List.mem_append.1 hb with hb | hb
    · exact p2 b (List.mem_append.2 (.inr hb)) y hy
    · simp at hb; subst hb; exact h4 y hy
  · rw [In.append, In.append, In.append, In.append, In.one, hin]
    constructor
    · rintro (h | (h | h) | h)
      · exact .inl (.inl (.inl h))
      · exact .inl (.inl (.inr h))
      · exact .inr h
      · exact .inl (.inr h)
    · rintro (((h | h) | h) | h)
      · exact .inl h
      · exact .inr (.inl (.inl h))
      · exact .inr (.inr h)
      · exact .inr (.inl (.inr h))
def remAt (l : List Sp) (s : Sp) (f t : Nat) (d : Sp) : List Sp := l.take f ++ ((ne (belowP (l.getD f d) s.1) ++ ne (fromP (l.getD (t - 1) d) s.2)) ++ l.drop t)
theorem mid_ends (l : List Sp) (f t : Nat) (d : Sp) (hft : f < t) (ht : t ≤ l.length) : ∃ m, (l.take t).drop f = m ++ [l.getD (t - 1) d] ∧ (m = [] ∧ l.getD (t - 1) d = l.getD f d ∨ ∃ m', m = l.getD f d :: m') := by
  have e : l.take t = l.take (t - 1) ++ [l.getD (t - 1) d] := by
    have h1 : t - 1 < l.length := by omega
    have h2 : l.take (t - 1 + 1) = l.take (t - 1) ++ [l[t - 1]] := by rw [List.take_succ_eq_append_getElem h1]
    rw [show t - 1 + 1 = t by omega] at h2
    rw [h2]
    simp [List.getD, h1]
  rw [e, List.drop_append_of_le_length (by simp; omega)]
  refine ⟨(l.take (t - 1)).drop f, rfl, ?_⟩
  by_cases c : f = t - 1
  · left
    subst c
    exact ⟨by simp, rfl⟩
  · right
    have hf : f < (l.take (t - 1)).length := by simp; omega
    refine ⟨(l.take (t - 1)).drop (f + 1), ?_⟩
    rw [List.drop_eq_getElem_cons hf]
    congr 1
    have : f < l.length := by omega
    simp [List.getD, this]
theorem rem_spec {l : List Sp} {s : Sp} {f t : Nat} (d : Sp) (hl : Rn l) (hs : ROk s) (hft : f < t) (ht : t ≤ l.length) (h1 : ∀ x ∈ l.take f, x.2 ≤ s.1) (h2 : ∀ x ∈ l.drop f, s.1 < x.2) (h3 : ∀ x ∈ l.take t, x.1 < s.2) (h4 : ∀ x ∈ l.drop t, s.2 ≤ x.1) :
    Rn (remAt l s f t d) ∧ ∀ o, In (remAt l s f t d) o ↔ In l o ∧ ¬ (s.1 ≤ o ∧ o < s.2) := by
  have e := three l f t (by omega)
  obtain ⟨m, hm, hm'⟩ := mid_ends l f t d hft ht
  unfold remAt
  have hd : ∀ x ∈ (l.take t).drop f, x ∈ l.drop f := fun x hx => by
    have : (l.take t).drop f = (l.drop f).take (t - f) := List.drop_take
    rw [this] at hx
    exact List.mem_of_mem_take hx
  have hm2 : ∀ x ∈ (l.take t).drop f, s.1 < x.2 ∧ x.1 < s.2 := fun x hx => ⟨h2 x (hd x hx), h3 x (List.mem_of_mem_drop hx)⟩
  generalize l.take f = A at *
  generalize (l.take t).drop f = B at *
  generalize l.drop t = D at *
  generalize l.getD f d = u at *
  generalize l.getD (t - 1) d = v at *
  subst e
  obtain ⟨p1, p2⟩ := hl.of_append
  have hB : ∀ x ∈ B, ROk x := fun x hx => hl.ok x (by simp [hx])
  have hBr : Rn B := hl.left.right
  have hub : u ∈ B := by rw [hm]; rcases hm' with ⟨_, h⟩ | ⟨m', h⟩; rw [h]; simp; rw [h]; simp
  have hvb : v ∈ B := by rw [hm]; simp
  have hu := hB u hub; have hv := hB v hvb
  have hu2 := hm2 u hub; have hv2 := hm2 v hvb
  -- each of B begins at u, and ends at v, or is u or v
  have hfst : ∀ x ∈ B, x = u ∨ u.2 < x.1 := by
    intro x hx
    rw [hm] at hx hBr
    rcases hm' with ⟨h, h'⟩ | ⟨m', h⟩
    · subst h; simp at hx; left; rw [hx, h']
    · subst h
      rcases List.mem_append.1 hx with hx | hx
      · rcases List.mem_cons.1 hx with rfl | hx
        · exact .inl rfl
        · exact .inr (hBr.lt (List.mem_append.2 (.inl hx)))
      · exact .inr (hBr.lt (List.mem_append.2 (.inr hx)))
  have hlst : ∀ x ∈ B, x = v ∨ x.2 < v.1 := by
    intro x hx
    rw [hm] at hx hBr
    rcases List.mem_append.1 hx with hx | hx
    · exact .inr ((List.pairwise_append.1 hBr.up).2.2 x hx v (by simp))
    · simp at hx; exact .inl hx
  have hs0 := hs.1; have hs1 := hs.2.1; have hs2 := hs.2.2
  have hu0 := hu.1; have hu1 := hu.2.1; have hu3 := hu.2.2
  have hv0 := hv.1; have hv1 := hv.2.1; have hv3 := hv.2.2
  have eb : belowP u s.1 = betw u.1 (min u.2 s.1) := below_rok hu.ok _
  have ea : fromP v s.2 = betw (max v.1 s.2) v.2 := from_rok hv.ok _
  have ib : ∀ o, In (ne (belowP u s.1)) o ↔ u.1 ≤ o ∧ o < s.1 := fun o => by rw [eb, ne_in hu0 (by omega)]; omega
  have ia : ∀ o, In (ne (fromP v s.2)) o ↔ s.2 ≤ o ∧ o < v.2 := fun o => by rw [ea, ne_in (by omega) hv3]; omega
  have mb : ∀ y ∈ ne (belowP u s.1), y.1 = u.1 ∧ y.2 ≤ s.1 := fun y hy => by
    obtain ⟨rfl, h⟩ := ne_mem hy
    rw [eb] at h ⊢
    unfold betw at h ⊢
    by_cases c : min u.2 s.1 ≤ u.1
    · rw [if_pos c] at h; exact absurd h.2.1 (by simp)
    · rw [if_neg c]; exact ⟨rfl, by simp only; omega⟩
  have ma : ∀ y ∈ ne (fromP v s.2), s.2 ≤ y.1 ∧ y.2 = v.2 := fun y hy => by
    obtain ⟨rfl, h⟩ := ne_mem hy
    rw [ea] at h ⊢
    unfold betw at h ⊢
    by_cases c : v.2 ≤ max v.1 s.2
    · rw [if_pos c] at h; exact absurd h.2.1 (by simp)
    · rw [if_neg c]; exact ⟨by simp only; omega, rfl⟩
  have rm : Rn (ne (belowP u s.1) ++ ne (fromP v s.2)) := ⟨fun x hx => by
    rcases List.mem_append.1 hx with h | h
    · exact (ne_rn _).ok x h
    · exact (ne_rn _).ok x h, List.pairwise_append.2 ⟨(ne_rn _).up, (ne_rn _).up, fun x hx y hy => by have := mb x hx; have := ma y hy; omega⟩⟩
  refine ⟨Rn.mid hl.left.left rm hl.right (fun x hx y hy => ?_) (fun x hx y hy => ?_), fun o => ?_⟩
  · rcases List.mem_append.1 hy with hy | hy
    · rcases List.mem_append.1 hy with hy | hy
      · rw [(mb y hy).1]; exact p1 x hx u (List.mem_append.2 (.inl hub))
      · have := ma y hy
        have := p1 x hx v (List.mem_append.2 (.inl hvb))
        have := h1 x hx
        omega
    · exact p1 x hx y (List.mem_append.2 (.inr hy))
  · rcases List.mem_append.1 hx with hx | hx
    · have := mb x hx
      have := p2 u (List.mem_append.2 (.inr hub)) y hy
      have := h4 y hy
      omega
    · rw [(ma x hx).2]; exact p2 v (List.mem_append.2 (.inr hvb)) y hy
  · rw [In.append, In.append, In.append, In.append, In.append, ib, ia]
    constructor
    · rintro (h | (h | h) | h)
      · refine ⟨.inl (.inl h), ?_⟩
        obtain ⟨x, hx, a, b⟩ := h
        have := h1 x hx
        omega
      · exact ⟨.inl (.inr ⟨u, hub, by omega, by omega⟩), by omega⟩
      · exact ⟨.inl (.inr ⟨v, hvb, by omega, by omega⟩), by omega⟩
      · refine ⟨.inr h, ?_⟩
        obtain ⟨x, hx, a, b⟩ := h
        have := h4 x hx
        omega
    · rintro ⟨(h | h) | h, hn⟩
      · exact .inl h
      · right; left
        obtain ⟨x, hx, a, b⟩ := h
        have hx2 := hm2 x hx
        by_cases c : o < s.1
        · left
          rcases hfst x hx with rfl | q
          · omega
          · have := hfst; omega
        · right
          rcases hlst x hx with rfl | q
          · omega
          · omega
      · exact .inr (.inr h)
end Go.Proofs.Ytdoedcfmhdnbgaa.rn
