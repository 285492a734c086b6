/-
  What the reference says of sets, as lists. Imports nothing of the program.
-/
import Derived.Test.YtdoedcfmhdnbgaaRunX
namespace Go.Proofs.Ytdoedcfmhdnbgaa.rn
open Go.RowKit aid sp
set_option linter.unusedVariables false

def bytesL (l : List Sp) : Int := (l.map lenI).sum
def withinL (l : List Sp) (s : Sp) : Int := (l.map (fun x => lenI (meetP x s))).sum
theorem bytes_append (l r : List Sp) : bytesL (l ++ r) = bytesL l + bytesL r := by unfold bytesL; simp
theorem within_append (l r : List Sp) (s : Sp) : withinL (l ++ r) s = withinL l s + withinL r s := by unfold withinL; simp
theorem bytes_cons (x : Sp) (l : List Sp) : bytesL (x :: l) = lenI x + bytesL l := by unfold bytesL; simp
theorem within_cons (x : Sp) (l : List Sp) (s : Sp) : withinL (x :: l) s = lenI (meetP x s) + withinL l s := by unfold withinL; simp
theorem bytes_nil : bytesL [] = 0 := rfl
theorem within_nil (s : Sp) : withinL [] s = 0 := rfl
theorem bytes_ne (x : Sp) : bytesL (ne x) = lenI x := by
  unfold ne
  by_cases c : lenI x = 0
  · rw [if_pos c, c]; rfl
  · rw [if_neg c, bytes_cons, bytes_nil]; omega
theorem bytes_bd : ∀ {l : List Sp} (c : Int), Rn l → c ≤ 4611686018427387904 → (∀ x ∈ l, c ≤ x.1) → 0 ≤ bytesL l ∧ bytesL l ≤ 4611686018427387904 - c := by
  intro l
  induction l with
  | nil => intro c h hc hx; rw [bytes_nil]; omega
  | cons x l ih =>
    intro c h hc hx
    have hk := h.head
    obtain ⟨k0, k1, k2⟩ := hk
    have := ih x.2 h.tail k2 (fun y hy => by have := h.lt hy; omega)
    have := hx x (by simp)
    rw [bytes_cons, len_rok h.head]
    omega
theorem Rn.bytes {l : List Sp} (h : Rn l) : 0 ≤ bytesL l ∧ bytesL l ≤ 4611686018427387904 := by
  have := bytes_bd 0 h (by omega) (fun x hx => (h.ok x hx).1)
  omega
theorem meet_le {x : Sp} (hx : ROk x) (s : Sp) : 0 ≤ lenI (meetP x s) ∧ lenI (meetP x s) ≤ lenI x := by
  refine ⟨(lenI_bd _).1, ?_⟩
  rw [len_rok hx]
  have hf := fit_ok s.1 s.2
  have e : meetP x s = betw (max x.1 (fitP s.1 s.2).1) (min x.2 (fitP s.1 s.2).2) := by unfold meetP; rw [fit_of hx.ok]
  rw [e]
  obtain ⟨x0, x1, x2⟩ := hx
  obtain ⟨f0, f1, f2⟩ := hf
  rw [betw_len (by omega) (by omega)]
  split <;> omega
theorem within_le : ∀ {l : List Sp} (s : Sp), (∀ x ∈ l, ROk x) → 0 ≤ withinL l s ∧ withinL l s ≤ bytesL l := by
  intro l
  induction l with
  | nil => intro s h; rw [within_nil, bytes_nil]; omega
  | cons x l ih =>
    intro s h
    have a := meet_le (h x (by simp)) s
    have b := ih s (fun y hy => h y (List.mem_cons_of_mem _ hy))
    rw [within_cons, bytes_cons]
    omega
theorem Rn.take {l : List Sp} (h : Rn l) (k : Nat) : Rn (l.take k) := by
  have := h
  rw [← List.take_append_drop k l] at this
  exact this.left
theorem Rn.drop {l : List Sp} (h : Rn l) (k : Nat) : Rn (l.drop k) := by
  have := h
  rw [← List.take_append_drop k l] at this
  exact this.right

/-! ### without -/
def woL (l : List Sp) (s : Sp) : List Sp := l.flatMap (fun x => ne (belowP x s.1) ++ ne (fromP x s.2))
def refWo (l : List Sp) (s : Sp) : List Sp := if lenI s = 0 then l else woL l s
theorem wo_cons (x : Sp) (l : List Sp) (s : Sp) : woL (x :: l) s = (ne (belowP x s.1) ++ ne (fromP x s.2)) ++ woL l s := by unfold woL; simp
theorem betw_mem {a b : Int} {y : Sp} (h : y ∈ ne (betw a b)) : y.1 = a ∧ y.2 = b ∧ a < b := by
  obtain ⟨e, k⟩ := ne_mem h
  clear h
  subst e
  unfold betw at k ⊢
  by_cases c : b ≤ a
  · rw [if_pos c] at k; exact absurd k.2.1 (by simp)
  · rw [if_neg c]; exact ⟨rfl, rfl, by omega⟩
theorem wo_one {x s : Sp} (hx : ROk x) (hs : ROk s) : Rn (ne (belowP x s.1) ++ ne (fromP x s.2)) ∧ (∀ y ∈ ne (belowP x s.1) ++ ne (fromP x s.2), x.1 ≤ y.1 ∧ y.2 ≤ x.2) ∧
    (∀ o, In (ne (belowP x s.1) ++ ne (fromP x s.2)) o ↔ (x.1 ≤ o ∧ o < x.2) ∧ ¬ (s.1 ≤ o ∧ o < s.2)) ∧ bytesL (ne (belowP x s.1) ++ ne (fromP x s.2)) = lenI x - lenI (meetP x s) := by
  rw [below_rok hx.ok, from_rok hx.ok]
  have hm := meet_len hx.ok hs.ok
  have hl := len_rok hx
  obtain ⟨x0, x1, x2⟩ := hx
  obtain ⟨s0, s1, s2⟩ := hs
  refine ⟨⟨fun y hy => ?_, List.pairwise_append.2 ⟨(ne_rn _).up, (ne_rn _).up, fun y hy z hz => ?_⟩⟩, fun y hy => ?_, fun o => ?_, ?_⟩
  · rcases List.mem_append.1 hy with h | h
    · exact (ne_rn _).ok y h
    · exact (ne_rn _).ok y h
  · have := betw_mem hy; have := betw_mem hz; omega
  · rcases List.mem_append.1 hy with h | h <;> (have := betw_mem h; omega)
  · rw [In.append, ne_in x0 (by omega), ne_in (by omega) x2]; omega
  · rw [bytes_append, bytes_ne, bytes_ne, betw_len x0 (by omega), betw_len (by omega) x2, hm, hl]
    split <;> split <;> split <;> omega
theorem wo_spec : ∀ {l : List Sp} {s : Sp}, Rn l → ROk s → Rn (woL l s) ∧ (∀ o, In (woL l s) o ↔ In l o ∧ ¬ (s.1 ≤ o ∧ o < s.2)) ∧ bytesL (woL l s) = bytesL l - withinL l s ∧ (∀ c, (∀ x ∈ l, c < x.1) → ∀ y ∈ woL l s, c < y.1) := by
  intro l
  induction l with
  | nil => intro s hl hs; exact ⟨Rn.nil, fun o => ⟨fun h => absurd h In.nil, fun h => absurd h.1 In.nil⟩, rfl, fun c _ y hy => by simp [woL] at hy⟩
  | cons x l ih =>
    intro s hl hs
    obtain ⟨i1, i2, i3, i4⟩ := ih hl.tail hs
    obtain ⟨o1, o2, o3, o4⟩ := wo_one hl.head hs
    rw [wo_cons]
    refine ⟨⟨fun y hy => ?_, List.pairwise_append.2 ⟨o1.up, i1.up, fun y hy z hz => ?_⟩⟩, fun o => ?_, ?_, fun c hc y hy => ?_⟩
    · rcases List.mem_append.1 hy with h | h
      · exact o1.ok y h
      · exact i1.ok y h
    · have := (o2 y hy).2
      have := i4 x.2 (fun u hu => hl.lt hu) z hz
      omega
    · rw [In.append, i2, o3, In.cons]
      constructor
      · rintro (⟨a, b⟩ | ⟨a, b⟩)
        · exact ⟨.inl a, b⟩
        · exact ⟨.inr a, b⟩
      · rintro ⟨a | a, b⟩
        · exact .inl ⟨a, b⟩
        · exact .inr ⟨a, b⟩
    · rw [bytes_append, i3, o4, bytes_cons, within_cons]; omega
    · rcases List.mem_append.1 hy with h | h
      · have := (o2 y h).1; have := hc x (by simp); omega
      · exact i4 c (fun u hu => hc u (List.mem_cons_of_mem _ hu)) y h

/-! ### with -/
def add3 (A B D : List Sp) (s : Sp) : List Sp := A ++ ([hullP (B ++ [s])] ++ D)
structure Cut3 (l : List Sp) (s : Sp) (A B D : List Sp) : Prop where
  eq : l = A ++ B ++ D
  a : ∀ x ∈ A, x.2 < s.1
  b : ∀ x ∈ B, s.1 ≤ x.2 ∧ x.1 ≤ s.2
  d : ∀ x ∈ D, s.2 < x.1
theorem cut3 (s : Sp) (hs : ROk s) : ∀ (l : List Sp), Rn l → ∃ A B D, Cut3 l s A B D := by
  intro l
  induction l with
  | nil => intro h; exact ⟨[], [], [], rfl, by simp, by simp, by simp⟩
  | cons x l ih =>
    intro h
    obtain ⟨A, B, D, h1, h2, h3, h4⟩ := ih h.tail
    have hx := h.head.2.1
    have hs1 := hs.2.1
    by_cases c1 : x.2 < s.1
    · exact ⟨x :: A, B, D, by rw [h1]; rfl, fun y hy => by rcases List.mem_cons.1 hy with rfl | hy; exact c1; exact h2 y hy, h3, h4⟩
    · have hA : A = [] := by
        cases A with
        | nil => rfl
        | cons y A =>
          have := h2 y (by simp)
          have := h.lt (y := y) (by rw [h1]; simp)
          have := (h.ok y (by rw [h1]; simp)).2.1
          omega
      subst hA
      by_cases c2 : x.1 ≤ s.2
      · exact ⟨[], x :: B, D, by rw [h1]; rfl, by simp, fun y hy => by rcases List.mem_cons.1 hy with rfl | hy; exact ⟨by omega, c2⟩; exact h3 y hy, h4⟩
      · have hB : B = [] := by
          cases B with
          | nil => rfl
          | cons y B =>
            have := h3 y (by simp)
            have := h.lt (y := y) (by rw [h1]; simp)
            omega
        subst hB
        exact ⟨[], [], x :: D, by rw [h1]; rfl, by simp, by simp, fun y hy => by rcases List.mem_cons.1 hy with rfl | hy; omega; exact h4 y hy⟩
theorem add3_spec {l A B D : List Sp} {s : Sp} (hl : Rn l) (hs : ROk s) (h : Cut3 l s A B D) :
    Rn (add3 A B D s) ∧ (∀ o, In (add3 A B D s) o ↔ In l o ∨ (s.1 ≤ o ∧ o < s.2)) ∧ (∀ x ∈ A, x.2 < (hullP (B ++ [s])).1) ∧ (∀ x ∈ D, (hullP (B ++ [s])).2 < x.1) ∧ ROk (hullP (B ++ [s])) ∧ (∀ x ∈ B ++ [s], (hullP (B ++ [s])).1 ≤ x.1 ∧ x.2 ≤ (hullP (B ++ [s])).2) := by
  obtain ⟨e, ha, hb, hd⟩ := h
  unfold add3
  subst e
  obtain ⟨p1, p2⟩ := hl.of_append
  have hB : ∀ x ∈ B, ROk x := fun x hx => hl.ok x (by simp [hx])
  obtain ⟨hk, hin⟩ := hull_in hB hs hb (m := B ++ [s]) (fun x => by simp)
  obtain ⟨q1, ⟨a, ham, q2⟩, ⟨b, hbm, q3⟩⟩ := hull_spec (B ++ [s]) (fun x hx => by rcases List.mem_append.1 hx with h | h; exact hB x h; simp at h; subst h; exact hs) (by simp)
  have hA : ∀ x ∈ A, x.2 < (hullP (B ++ [s])).1 := fun x hx => by
    rw [q2]
    rcases List.mem_append.1 ham with ham | ham
    · exact p1 x hx a (List.mem_append.2 (.inl ham))
    · simp at ham; subst ham; exact ha x hx
  have hD : ∀ x ∈ D, (hullP (B ++ [s])).2 < x.1 := fun y hy => by
    rw [q3]
    rcases List.mem_append.1 hbm with hbm | hbm
    · exact p2 b (List.mem_append.2 (.inr hbm)) y hy
    · simp at hbm; subst hbm; exact hd y hy
  refine ⟨Rn.mid hl.left.left ⟨fun x hx => by simp at hx; subst hx; exact hk, List.pairwise_singleton _ _⟩ hl.right (fun x hx y hy => ?_) (fun x hx y hy => ?_), fun o => ?_, hA, hD, hk, q1⟩
  · rcases List.mem_append.1 hy with hy | hy
    · simp at hy; subst hy; exact hA x hx
    · exact p1 x hx y (List.mem_append.2 (.inr hy))
  · simp at hx; subst hx; exact hD y hy
  · rw [In.append, In.append, In.append, In.append, In.one, hin]
    constructor
    · rintro (h | (h | h) | h)
      · exact .inl (.inl (.inl h))
      · exact .inl (.inl (.inr h))
      · exact .inr h
      · exact .inl (.inr h)
    · rintro (((h | h) | h) | h)
      · exact .inl h
      · exact .inr (.inl (.inl h))
      · exact .inr (.inr h)
      · exact .inr (.inl (.inr h))
/-- the reference's first loop -/
def allL (s : Sp) (l : List Sp) : Sp := l.foldl (fun a x => if touchB x s = true then hullP [a, x] else a) s
/-- the reference's second loop -/
def putS (a : Sp) (q : List Sp × Bool) (x : Sp) : List Sp × Bool := if touchB x a = true then q else if q.2 = false ∧ a.1 < x.1 then (q.1 ++ [a] ++ [x], true) else (q.1 ++ [x], q.2)
def putL (a : Sp) (l : List Sp) : List Sp × Bool := l.foldl (putS a) ([], false)
def endL (a : Sp) (q : List Sp × Bool) : List Sp := if q.2 = true then q.1 else q.1 ++ [a]
def refWi (l : List Sp) (s : Sp) : List Sp := if lenI s = 0 then l else endL (allL s l) (putL (allL s l) l)
theorem touch_rok {x s : Sp} (hx : ROk x) (hs : ROk s) : touchB x s = (decide (x.1 ≤ s.2) && decide (s.1 ≤ x.2)) := by
  unfold touchB
  have a := len_rok hx; have b := len_rok hs
  have c := hx.2.1; have d := hs.2.1
  rw [decide_eq_true (show lenI x ≠ 0 by omega), decide_eq_true (show lenI s ≠ 0 by omega)]
  simp
theorem hull_ne {l : List Sp} (h : ∀ x ∈ l, ROk x) (hne : l ≠ []) : lenI (hullP l) ≠ 0 ∧ ROk (hullP l) := by
  obtain ⟨a, ⟨b, hb, c⟩, ⟨d, hd, e⟩⟩ := hull_spec l h hne
  have k1 := h b hb; have k2 := h d hd
  have m := a b hb
  have : ROk (hullP l) := ⟨by have := k1.1; omega, by have := k1.2.1; omega, by have := k2.2.2; omega⟩
  exact ⟨by rw [len_rok this]; have := this.2.1; omega, this⟩
/-- a hull is told by who is in it -/
theorem hull_mem {l r : List Sp} (hl : ∀ x ∈ l, ROk x) (hne : l ≠ []) (h : ∀ x, x ∈ l ↔ x ∈ r) : hullP l = hullP r := by
  have hr : ∀ x ∈ r, ROk x := fun x hx => hl x ((h x).2 hx)
  have hrn : r ≠ [] := by
    intro e
    subst e
    cases l with
    | nil => exact hne rfl
    | cons x l => have := (h x).1 (by simp); simp at this
  obtain ⟨a1, ⟨x1, m1, e1⟩, ⟨y1, n1, f1⟩⟩ := hull_spec l hl hne
  obtain ⟨a2, ⟨x2, m2, e2⟩, ⟨y2, n2, f2⟩⟩ := hull_spec r hr hrn
  have p1 := a1 x2 ((h _).2 m2); have p2 := a2 x1 ((h _).1 m1)
  have p3 := a1 y2 ((h _).2 n2); have p4 := a2 y1 ((h _).1 n1)
  exact Prod.ext (by omega) (by omega)
theorem hull_two {l : List Sp} (hl : ∀ x ∈ l, ROk x) (hne : l ≠ []) {x : Sp} (hx : ROk x) : hullP [hullP l, x] = hullP (l ++ [x]) := by
  have hk := (hull_ne hl hne).2
  obtain ⟨a1, ⟨x1, m1, e1⟩, ⟨y1, n1, f1⟩⟩ := hull_spec l hl hne
  obtain ⟨a2, ⟨x2, m2, e2⟩, ⟨y2, n2, f2⟩⟩ := hull_spec [hullP l, x] (fun y hy => by simp at hy; rcases hy with rfl | rfl; exact hk; exact hx) (by simp)
  obtain ⟨a3, ⟨x3, m3, e3⟩, ⟨y3, n3, f3⟩⟩ := hull_spec (l ++ [x]) (fun y hy => by rcases List.mem_append.1 hy with h | h; exact hl y h; simp at h; subst h; exact hx) (by simp)
  have b1 := a2 (hullP l) (by simp)
  have b2 := a2 x (by simp)
  have c1 := a3 x1 (List.mem_append.2 (.inl m1))
  have c2 := a3 y1 (List.mem_append.2 (.inl n1))
  have c3 := a3 x (by simp)
  refine Prod.ext ?_ ?_
  · simp at m2
    rcases List.mem_append.1 m3 with m3 | m3
    · have := a1 x3 m3
      rcases m2 with rfl | rfl <;> omega
    · simp at m3
      subst m3
      rcases m2 with rfl | rfl <;> omega
  · simp at n2
    rcases List.mem_append.1 n3 with n3 | n3
    · have := a1 y3 n3
      rcases n2 with rfl | rfl <;> omega
    · simp at n3
      subst n3
      rcases n2 with rfl | rfl <;> omega
theorem all_eq {l A B D : List Sp} {s : Sp} (hl : Rn l) (hs : ROk s) (h : Cut3 l s A B D) : allL s l = hullP (B ++ [s]) := by
  obtain ⟨e, ha, hb, hd⟩ := h
  subst e
  unfold allL
  have hA : ∀ (A : List Sp) (q : Sp), (∀ x ∈ A, ROk x ∧ (x.2 < s.1 ∨ s.2 < x.1)) → A.foldl (fun a x => if touchB x s = true then hullP [a, x] else a) q = q := by
    intro A
    induction A with
    | nil => intro q _; rfl
    | cons x A ih =>
      intro q h
      obtain ⟨h1, h2⟩ := h x (by simp)
      have h3 := h1.2.1; have h4 := hs.2.1
      have ht : touchB x s = false := by rw [touch_rok h1 hs]; simp; omega
      rw [List.foldl_cons, if_neg (by rw [ht]; simp)]
      exact ih q (fun y hy => h y (List.mem_cons_of_mem _ hy))
  have hB : ∀ (B : List Sp) (q : List Sp), (∀ x ∈ q, ROk x) → q ≠ [] → (∀ x ∈ B, ROk x ∧ s.1 ≤ x.2 ∧ x.1 ≤ s.2) → B.foldl (fun a x => if touchB x s = true then hullP [a, x] else a) (hullP q) = hullP (q ++ B) := by
    intro B
    induction B with
    | nil => intro q _ _ _; rw [List.append_nil]; rfl
    | cons x B ih =>
      intro q hq hn h
      obtain ⟨h1, h2, h3⟩ := h x (by simp)
      have ht : touchB x s = true := by rw [touch_rok h1 hs]; simp; omega
      rw [List.foldl_cons, if_pos ht, hull_two hq hn h1, ih (q ++ [x]) (fun y hy => by rcases List.mem_append.1 hy with h | h; exact hq y h; simp at h; subst h; exact h1) (by simp) (fun y hy => h y (List.mem_cons_of_mem _ hy))]
      simp
  have hk : ∀ x ∈ A ++ B ++ D, ROk x := hl.ok
  have es : hullP [s] = s := by
    have : lenI s ≠ 0 := by rw [len_rok hs]; have := hs.2.1; omega
    show widerP (0, 0) s = s
    unfold widerP
    rw [if_neg this, if_pos rfl]
  rw [List.foldl_append, List.foldl_append, hA A s (fun x hx => ⟨hk x (by simp [hx]), .inl (ha x hx)⟩)]
  have := hB B [s] (by simpa using hs) (by simp) (fun x hx => ⟨hk x (by simp [hx]), hb x hx⟩)
  rw [es] at this
  rw [this, hA D _ (fun x hx => ⟨hk x (by simp [hx]), .inr (hd x hx)⟩)]
  exact hull_mem (fun x hx => by rcases List.mem_append.1 hx with h | h; (simp at h; subst h; exact hs); exact hk x (by simp [h])) (by simp) (fun x => by simp; exact Or.comm)
theorem wi_eq {l A B D : List Sp} {s : Sp} (hl : Rn l) (hs : ROk s) (h : Cut3 l s A B D) : refWi l s = add3 A B D s := by
  have hla : lenI s ≠ 0 := by rw [len_rok hs]; have := hs.2.1; omega
  obtain ⟨_, _, hA, hD, hk, hin⟩ := add3_spec hl hs h
  unfold refWi
  rw [if_neg hla, all_eq hl hs h]
  obtain ⟨e, ha, hb, hd⟩ := h
  subst e
  unfold add3
  generalize hullP (B ++ [s]) = H at *
  have hK : ∀ x ∈ A ++ B ++ D, ROk x := hl.ok
  have p1 : ∀ (A q : List Sp), (∀ x ∈ A, ROk x ∧ x.2 < H.1) → A.foldl (putS H) (q, false) = (q ++ A, false) := by
    intro A
    induction A with
    | nil => intro q _; rw [List.append_nil]; rfl
    | cons x A ih =>
      intro q h
      obtain ⟨h1, h2⟩ := h x (by simp)
      have h3 := h1.2.1; have h4 := hk.2.1
      have ht : touchB x H = false := by rw [touch_rok h1 hk]; simp; omega
      have : putS H (q, false) x = (q ++ [x], false) := by unfold putS; rw [if_neg (by rw [ht]; simp), if_neg (by simp; omega)]
      rw [List.foldl_cons, this, ih _ (fun y hy => h y (List.mem_cons_of_mem _ hy))]
      simp
  have p2 : ∀ (B : List Sp) (q : List Sp × Bool), (∀ x ∈ B, ROk x ∧ H.1 ≤ x.1 ∧ x.2 ≤ H.2) → B.foldl (putS H) q = q := by
    intro B
    induction B with
    | nil => intro q _; rfl
    | cons x B ih =>
      intro q h
      obtain ⟨h1, h2, h3⟩ := h x (by simp)
      have h4 := h1.2.1
      have ht : touchB x H = true := by rw [touch_rok h1 hk]; simp; omega
      have : putS H q x = q := by unfold putS; rw [if_pos ht]
      rw [List.foldl_cons, this]
      exact ih _ (fun y hy => h y (List.mem_cons_of_mem _ hy))
  have p3 : ∀ (D q : List Sp), (∀ x ∈ D, ROk x ∧ H.2 < x.1) → D.foldl (putS H) (q, true) = (q ++ D, true) := by
    intro D
    induction D with
    | nil => intro q _; rw [List.append_nil]; rfl
    | cons x D ih =>
      intro q h
      obtain ⟨h1, h2⟩ := h x (by simp)
      have h3 := h1.2.1; have h4 := hk.2.1
      have ht : touchB x H = false := by rw [touch_rok h1 hk]; simp; omega
      have : putS H (q, true) x = (q ++ [x], true) := by unfold putS; rw [if_neg (by rw [ht]; simp), if_neg (by simp)]
      rw [List.foldl_cons, this, ih _ (fun y hy => h y (List.mem_cons_of_mem _ hy))]
      simp
  unfold putL
  rw [List.foldl_append, List.foldl_append, p1 A [] (fun x hx => ⟨hK x (by simp [hx]), hA x hx⟩), p2 B _ (fun x hx => ⟨hK x (by simp [hx]), hin x (by simp [hx])⟩)]
  cases D with
  | nil => simp [endL]
  | cons x D =>
    have h1 := hK x (by simp)
    have h2 := hD x (by simp)
    have h3 := h1.2.1; have h4 := hk.2.1
    have ht : touchB x H = false := by rw [touch_rok h1 hk]; simp; omega
    have : putS H ([] ++ A, false) x = ([] ++ A ++ [H] ++ [x], true) := by unfold putS; rw [if_neg (by rw [ht]; simp), if_pos ⟨rfl, by omega⟩]
    rw [List.foldl_cons, this, p3 D _ (fun y hy => ⟨hK y (by simp [hy]), hD y (by simp [hy])⟩)]
    simp [endL]
theorem wi_spec {l : List Sp} {s : Sp} (hl : Rn l) (hs : ROk s) : Rn (refWi l s) ∧ (∀ o, In (refWi l s) o ↔ In l o ∨ (s.1 ≤ o ∧ o < s.2)) ∧ bytesL (refWi l s) - bytesL l = lenI s - withinL l s := by
  obtain ⟨A, B, D, h⟩ := cut3 s hs l hl
  obtain ⟨h1, h2, h3, h4, h5, h6⟩ := add3_spec hl hs h
  rw [wi_eq hl hs h]
  refine ⟨h1, h2, ?_⟩
  obtain ⟨w1, w2, w3, _⟩ := wo_spec hl hs
  obtain ⟨v1, v2, v3, _⟩ := wo_spec h1 hs
  have e : woL (add3 A B D s) s = woL l s := Rn.ext v1 w1 (fun o => by
    rw [v2, w2, h2]
    constructor
    · rintro ⟨a | a, b⟩
      · exact ⟨a, b⟩
      · exact absurd a b
    · rintro ⟨a, b⟩
      exact ⟨.inl a, b⟩)
  have hw : withinL (add3 A B D s) s = lenI s := by
    have z : ∀ (L : List Sp), (∀ x ∈ L, ROk x ∧ (x.2 ≤ s.1 ∨ s.2 ≤ x.1)) → withinL L s = 0 := by
      intro L
      induction L with
      | nil => intro _; rfl
      | cons x L ih =>
        intro h
        obtain ⟨a, b⟩ := h x (by simp)
        rw [within_cons, ih (fun y hy => h y (List.mem_cons_of_mem _ hy)), meet_len a.ok hs.ok, if_neg ?_]
        · omega
        · have := a.2.1; have := hs.2.1; omega
    have hh := h6 s (by simp)
    unfold add3
    rw [within_append, within_append, z A (fun x hx => ⟨h1.ok x (by unfold add3; simp [hx]), .inl (by have := h.a x hx; omega)⟩), z D (fun x hx => ⟨h1.ok x (by unfold add3; simp [hx]), .inr (by have := h.d x hx; omega)⟩),
      within_cons, within_nil, meet_len h5.ok hs.ok, len_rok hs, if_pos ?_]
    · omega
    · have := hs.2.1; omega
  rw [e] at v3
  omega
/-- what the code makes is what the reference makes -/
theorem add_at {l : List Sp} {s : Sp} {f t : Nat} (hl : Rn l) (hs : ROk s) (hft : f ≤ t) (h1 : ∀ x ∈ l.take f, x.2 < s.1) (h2 : ∀ x ∈ l.drop f, s.1 ≤ x.2) (h3 : ∀ x ∈ l.take t, x.1 ≤ s.2) (h4 : ∀ x ∈ l.drop t, s.2 < x.1) : addAt l s f t = refWi l s := by
  obtain ⟨a1, a2⟩ := add_spec hl hs hft h1 h2 h3 h4
  obtain ⟨b1, b2, _⟩ := wi_spec hl hs
  exact Rn.ext a1 b1 (fun o => by rw [a2, b2])
theorem rem_at {l : List Sp} {s : Sp} {f t : Nat} (d : Sp) (hl : Rn l) (hs : ROk s) (hft : f < t) (ht : t ≤ l.length) (h1 : ∀ x ∈ l.take f, x.2 ≤ s.1) (h2 : ∀ x ∈ l.drop f, s.1 < x.2) (h3 : ∀ x ∈ l.take t, x.1 < s.2) (h4 : ∀ x ∈ l.drop t, s.2 ≤ x.1) : remAt l s f t d = refWo l s := by
  obtain ⟨a1, a2⟩ := rem_spec d hl hs hft ht h1 h2 h3 h4
  obtain ⟨b1, b2, _⟩ := wo_spec hl hs
  unfold refWo
  rw [if_neg (by rw [len_rok hs]; have := hs.2.1; omega)]
  exact Rn.ext a1 b1 (fun o => by rw [a2, b2])
end Go.Proofs.Ytdoedcfmhdnbgaa.rn
