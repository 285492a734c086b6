/-
  Options, their bytes, and what bytes say, as plain lists. Imports nothing.
-/
namespace Go.Proofs.Ytdfenlagokndkaa.op
set_option linter.unusedVariables false

structure Opt where
  mss : Int
  permit : Bool
  ts : Bool
  val : Int
  ecr : Int
  hs : Bool
  scale : Int
  bl : List (Int × Int)
def Opt.zero : Opt := ⟨0, false, false, 0, 0, false, 0, []⟩
/-- numbers that fit their kinds -/
structure Opt.Fit (o : Opt) : Prop where
  mss : -9223372036854775808 ≤ o.mss ∧ o.mss ≤ 9223372036854775807
  val : 0 ≤ o.val ∧ o.val ≤ 4294967295
  ecr : 0 ≤ o.ecr ∧ o.ecr ≤ 4294967295
  scale : -9223372036854775808 ≤ o.scale ∧ o.scale ≤ 9223372036854775807
  bl : ∀ p ∈ o.bl, (0 ≤ p.1 ∧ p.1 ≤ 4294967295) ∧ (0 ≤ p.2 ∧ p.2 ≤ 4294967295)

def four (x : Int) : List Int := [x / 16777216, x / 65536 % 256, x / 256 % 256, x % 256]
def two (x : Int) : List Int := [x / 256, x % 256]
def blB (l : List (Int × Int)) : List Int := l.flatMap fun p => four p.1 ++ four p.2
theorem blB_snoc (l : List (Int × Int)) (p : Int × Int) : blB (l ++ [p]) = blB l ++ four p.1 ++ four p.2 := by simp [blB]
theorem blB_cons (l : List (Int × Int)) (p : Int × Int) : blB (p :: l) = four p.1 ++ four p.2 ++ blB l := by simp [blB]
theorem blB_len (l : List (Int × Int)) : (blB l).length = 8 * l.length := by
  induction l with
  | nil => rfl
  | cons p l ih => rw [blB_cons]; simp [four, ih]; omega

def p1 (o : Opt) : List Int := if o.mss = 0 then [] else [2, 4] ++ two (o.mss % 65536)
def p2 (o : Opt) : List Int := if o.permit then [4, 2] else []
def p3 (o : Opt) : List Int := if o.ts then [8, 10] ++ four o.val ++ four o.ecr else []
def p4 (o : Opt) : List Int := if o.hs then [3, 3, o.scale % 256] else []
def p5 (o : Opt) : List Int := if o.bl.length = 0 then [] else [5, (2 + 8 * o.bl.length : Int)] ++ blB o.bl
def raw (o : Opt) : List Int := p1 o ++ p2 o ++ p3 o ++ p4 o ++ p5 o
def padN (n : Nat) : Nat := (4 - n % 4) % 4
def pad (l : List Int) : List Int := l ++ List.replicate (padN l.length) 0
def enc (o : Opt) : List Int := pad (raw o)
def bare (o : Opt) : Nat := (if o.mss = 0 then 0 else 4) + (if o.permit then 2 else 0) + (if o.ts then 10 else 0) + (if o.hs then 3 else 0) + (if o.bl.length = 0 then 0 else 2 + 8 * o.bl.length)
theorem raw_len (o : Opt) : (raw o).length = bare o := by
  unfold raw bare p1 p2 p3 p4 p5
  simp only [List.length_append]
  congr 1
  · congr 1
    · congr 1
      · congr 1 <;> split <;> simp [two]
      · split <;> simp [four]
    · split <;> simp
  · split
    · simp
    · simp [blB_len]; omega
def size4 (o : Opt) : Nat := bare o + padN (bare o)
theorem enc_len (o : Opt) : (enc o).length = size4 o := by simp [enc, pad, size4, raw_len]
theorem size4_mod (o : Opt) : size4 o % 4 = 0 := by unfold size4 padN; omega
theorem size4_long (o : Opt) : 40 < size4 o ↔ 40 < bare o := by unfold size4 padN; omega
theorem pad_step (l : List Int) (h : l.length % 4 ≠ 0) : pad (l ++ [0]) = pad l := by
  unfold pad padN
  rw [List.append_assoc]
  congr 1
  rw [show ([0] : List Int) = List.replicate 1 0 from rfl, List.replicate_append_replicate]
  congr 1
  simp
  omega
theorem pad_done (l : List Int) (h : l.length % 4 = 0) : pad l = l := by
  unfold pad padN
  rw [h]
  simp

/-- Check -/
def chk (o : Opt) : Int :=
  if ¬ (0 ≤ o.mss ∧ o.mss ≤ 65535 ∧ 0 ≤ o.scale ∧ o.scale ≤ 14) then 3
  else if (o.hs = false ∧ o.scale ≠ 0) ∨ (o.ts = false ∧ (o.val ≠ 0 ∨ o.ecr ≠ 0)) then 6
  else if 4 < o.bl.length ∨ 40 < size4 o then 9
  else 0
def sizeG (o : Opt) : Int := if 4 < o.bl.length then 0 else size4 o

/-! ### what bytes say -/
def n4 (a b c d : Int) : Int := a * 16777216 + b * 65536 + c * 256 + d
def blks : List Int → List (Int × Int)
  | a :: b :: c :: d :: e :: f :: g :: h :: r => (n4 a b c d, n4 e f g h) :: blks r
  | _ => []
def fits (k n : Int) : Bool :=
  if k = 2 then decide (n = 4) else if k = 3 then decide (n = 3) else if k = 4 then decide (n = 2)
  else if k = 5 then decide (n = 10 ∨ n = 18 ∨ n = 26 ∨ n = 34) else if k = 8 then decide (n = 10) else true
def seto (o : Opt) (k : Int) (s : List Int) : Opt :=
  if k = 2 then { o with mss := s.getD 0 0 * 256 + s.getD 1 0 }
  else if k = 3 then { o with hs := true, scale := min (s.getD 0 0) 14 }
  else if k = 4 then { o with permit := true }
  else if k = 5 then { o with bl := blks s }
  else if k = 8 then { o with ts := true, val := n4 (s.getD 0 0) (s.getD 1 0) (s.getD 2 0) (s.getD 3 0), ecr := n4 (s.getD 4 0) (s.getD 5 0) (s.getD 6 0) (s.getD 7 0) }
  else o
/-- from the left, with so much breath -/
def prs : Nat → List Int → Opt → Opt × Int
  | 0, _, o => (o, 0)
  | _ + 1, [], o => (o, 0)
  | f + 1, k :: r, o =>
    if k = 0 then (o, 0)
    else if k = 1 then prs f r o
    else match r with
      | [] => (.zero, 5)
      | n :: q =>
        if n < 2 then (.zero, 6)
        else if (q.length : Int) < n - 2 then (.zero, 5)
        else if fits k n then prs f (q.drop (n - 2).toNat) (seto o k (q.take (n - 2).toNat))
        else (.zero, 6)

theorem prs_nil (f : Nat) (o : Opt) : prs f [] o = (o, 0) := by cases f <;> rfl
theorem prs_end (f : Nat) (r : List Int) (o : Opt) : prs (f + 1) (0 :: r) o = (o, 0) := by simp [prs]
theorem prs_nothing (f : Nat) (r : List Int) (o : Opt) : prs (f + 1) (1 :: r) o = prs f r o := by simp [prs]
theorem prs_opt (f : Nat) (k n : Int) (s r : List Int) (o : Opt) (h0 : k ≠ 0) (h1 : k ≠ 1) (h2 : 2 ≤ n) (hs : (s.length : Int) = n - 2) (hf : fits k n = true) :
    prs (f + 1) (k :: n :: (s ++ r)) o = prs f r (seto o k s) := by
  have hl : (n - 2).toNat = s.length := by omega
  simp only [prs, if_neg h0, if_neg h1, if_neg (show ¬ n < 2 by omega)]
  rw [if_neg (by rw [List.length_append]; omega), if_pos hf, hl, List.drop_left, List.take_left]

/-- more breath changes nothing -/
theorem prs_more : ∀ (f g : Nat) (l : List Int) (o : Opt), l.length < f → l.length < g → prs f l o = prs g l o := by
  intro f
  induction f with
  | zero => intro g l o h; omega
  | succ f ih =>
    intro g l o hf hg
    cases g with
    | zero => omega
    | succ g =>
      cases l with
      | nil => rfl
      | cons k r =>
        simp only [List.length_cons] at hf hg
        simp only [prs]
        split
        · rfl
        · split
          · exact ih g r o (by omega) (by omega)
          · cases r with
            | nil => rfl
            | cons n q =>
              simp only [List.length_cons] at hf hg
              dsimp only
              split
              · rfl
              · split
                · rfl
                · split
                  · exact ih g _ _ (by rw [List.length_drop]; omega) (by rw [List.length_drop]; omega)
                  · rfl

/-- what is written of a number of four bytes is read -/
theorem n4_four (x : Int) (h : 0 ≤ x ∧ x ≤ 4294967295) : n4 (x / 16777216) (x / 65536 % 256) (x / 256 % 256) (x % 256) = x := by unfold n4; omega
theorem blks_blB : ∀ l : List (Int × Int), (∀ p ∈ l, (0 ≤ p.1 ∧ p.1 ≤ 4294967295) ∧ (0 ≤ p.2 ∧ p.2 ≤ 4294967295)) → blks (blB l) = l
  | [], _ => rfl
  | (x, y) :: l, h => by
    have hp := h (x, y) (by simp)
    have ih := blks_blB l (fun p hp => h p (by simp [hp]))
    rw [blB_cons]
    simp only [four, List.cons_append, List.nil_append, blks, ih]
    rw [n4_four x hp.1, n4_four y hp.2]

theorem prs_zeros : ∀ (m f : Nat) (o : Opt), prs f (List.replicate m 0) o = (o, 0) := by
  intro m f o
  cases m with
  | zero => exact prs_nil f o
  | succ m =>
    cases f with
    | zero => rfl
    | succ f => rw [List.replicate_succ]; exact prs_end f _ o

/-- each part, read -/
theorem prs_p1 (f : Nat) (o q : Opt) (r : List Int) (h : 0 ≤ o.mss ∧ o.mss ≤ 65535) (hq : q.mss = 0) : ∃ d, d ≤ 1 ∧ prs (f + d) (p1 o ++ r) q = prs f r { q with mss := o.mss } := by
  unfold p1
  by_cases hm : o.mss = 0
  · refine ⟨0, by omega, ?_⟩
    rw [if_pos hm, hm, ← hq]
    rfl
  · refine ⟨1, by omega, ?_⟩
    rw [if_neg hm]
    have := prs_opt f 2 4 (two (o.mss % 65536)) r q (by decide) (by decide) (by decide) (by simp [two]) rfl
    simp only [List.cons_append, List.nil_append] at this ⊢
    rw [this]
    congr 1
    simp only [seto, two]
    simp
    omega
theorem prs_p2 (f : Nat) (o q : Opt) (r : List Int) (hq : q.permit = false) : ∃ d, d ≤ 1 ∧ prs (f + d) (p2 o ++ r) q = prs f r { q with permit := o.permit } := by
  unfold p2
  cases hm : o.permit with
  | false =>
    refine ⟨0, by omega, ?_⟩
    have e : { q with permit := false } = q := by cases q; simp_all
    rw [e]
    simp only [Bool.false_eq_true, if_false, List.nil_append]
    rfl
  | true =>
    refine ⟨1, by omega, ?_⟩
    have := prs_opt f 4 2 [] r q (by decide) (by decide) (by decide) (by simp) rfl
    simp only [if_true, List.cons_append, List.nil_append] at this ⊢
    rw [this]
    rfl
theorem prs_p3 (f : Nat) (o q : Opt) (r : List Int) (h1 : 0 ≤ o.val ∧ o.val ≤ 4294967295) (h2 : 0 ≤ o.ecr ∧ o.ecr ≤ 4294967295) (hn : o.ts = false → o.val = 0 ∧ o.ecr = 0) (hq : q.ts = false ∧ q.val = 0 ∧ q.ecr = 0) :
    ∃ d, d ≤ 1 ∧ prs (f + d) (p3 o ++ r) q = prs f r { q with ts := o.ts, val := o.val, ecr := o.ecr } := by
  unfold p3
  cases hm : o.ts with
  | false =>
    refine ⟨0, by omega, ?_⟩
    obtain ⟨e1, e2⟩ := hn hm
    obtain ⟨q1, q2, q3⟩ := hq
    simp only [Bool.false_eq_true, if_false, List.nil_append, e1, e2]
    rw [← q1, ← q2]
    conv => rhs; rw [q2, ← q3]
    cases q
    simp_all
  | true =>
    refine ⟨1, by omega, ?_⟩
    have := prs_opt f 8 10 (four o.val ++ four o.ecr) r q (by decide) (by decide) (by decide) (by simp [four]) rfl
    simp only [if_true, List.cons_append, List.nil_append, List.append_assoc] at this ⊢
    rw [this]
    congr 1
    simp only [seto, four]
    simp [n4_four o.val h1, n4_four o.ecr h2]
theorem prs_p4 (f : Nat) (o q : Opt) (r : List Int) (h : 0 ≤ o.scale ∧ o.scale ≤ 14) (hn : o.hs = false → o.scale = 0) (hq : q.hs = false ∧ q.scale = 0) :
    ∃ d, d ≤ 1 ∧ prs (f + d) (p4 o ++ r) q = prs f r { q with hs := o.hs, scale := o.scale } := by
  unfold p4
  cases hm : o.hs with
  | false =>
    refine ⟨0, by omega, ?_⟩
    rw [hn hm]
    obtain ⟨q1, q2⟩ := hq
    simp only [Bool.false_eq_true, if_false, List.nil_append]
    cases q
    simp_all
  | true =>
    refine ⟨1, by omega, ?_⟩
    have := prs_opt f 3 3 [o.scale % 256] r q (by decide) (by decide) (by decide) (by simp) rfl
    simp only [if_true, List.cons_append, List.nil_append] at this ⊢
    rw [this]
    congr 1
    simp only [seto]
    simp
    omega
theorem prs_p5 (f : Nat) (o q : Opt) (r : List Int) (hl : o.bl.length ≤ 4) (h : ∀ p ∈ o.bl, (0 ≤ p.1 ∧ p.1 ≤ 4294967295) ∧ (0 ≤ p.2 ∧ p.2 ≤ 4294967295)) (hq : q.bl = []) :
    ∃ d, d ≤ 1 ∧ prs (f + d) (p5 o ++ r) q = prs f r { q with bl := o.bl } := by
  unfold p5
  by_cases hm : o.bl.length = 0
  · refine ⟨0, by omega, ?_⟩
    rw [if_pos hm, List.eq_nil_of_length_eq_zero hm, ← hq]
    rfl
  · refine ⟨1, by omega, ?_⟩
    rw [if_neg hm]
    have := prs_opt f 5 (2 + 8 * (o.bl.length : Int)) (blB o.bl) r q (by decide) (by decide) (by omega) (by rw [blB_len]; omega)
      (by unfold fits; simp only [show ¬ (5 : Int) = 2 by decide, show ¬ (5 : Int) = 3 by decide, show ¬ (5 : Int) = 4 by decide, if_false, if_true]; exact decide_eq_true (by omega))
    simp only [List.cons_append, List.nil_append] at this ⊢
    rw [this]
    congr 1
    simp only [seto]
    simp [blks_blB o.bl h]

/-- what is written is read as it was -/
theorem prs_enc (o : Opt) (hf : o.Fit) (hc : chk o = 0) : ∃ f, (enc o).length < f ∧ prs f (enc o) .zero = (o, 0) := by
  unfold chk at hc
  by_cases h1 : ¬ (0 ≤ o.mss ∧ o.mss ≤ 65535 ∧ 0 ≤ o.scale ∧ o.scale ≤ 14)
  · rw [if_pos h1] at hc; omega
  rw [if_neg h1] at hc
  by_cases h2 : (o.hs = false ∧ o.scale ≠ 0) ∨ (o.ts = false ∧ (o.val ≠ 0 ∨ o.ecr ≠ 0))
  · rw [if_pos h2] at hc; omega
  rw [if_neg h2] at hc
  by_cases h3 : 4 < o.bl.length ∨ 40 < size4 o
  · rw [if_pos h3] at hc; omega
  have h1 := Decidable.not_not.1 h1
  have hts : o.ts = false → o.val = 0 ∧ o.ecr = 0 := by
    intro h
    constructor
    · exact Decidable.byContradiction fun h' => h2 (.inr ⟨h, .inl h'⟩)
    · exact Decidable.byContradiction fun h' => h2 (.inr ⟨h, .inr h'⟩)
  have hhs : o.hs = false → o.scale = 0 := fun h => Decidable.byContradiction fun h' => h2 (.inl ⟨h, h'⟩)
  let f0 := (enc o).length + 1
  obtain ⟨d5, _, e5⟩ := prs_p5 f0 o { Opt.zero with mss := o.mss, permit := o.permit, ts := o.ts, val := o.val, ecr := o.ecr, hs := o.hs, scale := o.scale } (List.replicate (padN (raw o).length) 0) (by omega) hf.bl rfl
  obtain ⟨d4, _, e4⟩ := prs_p4 (f0 + d5) o { Opt.zero with mss := o.mss, permit := o.permit, ts := o.ts, val := o.val, ecr := o.ecr } (p5 o ++ List.replicate (padN (raw o).length) 0) ⟨h1.2.2.1, h1.2.2.2⟩ hhs ⟨rfl, rfl⟩
  obtain ⟨d3, _, e3⟩ := prs_p3 (f0 + d5 + d4) o { Opt.zero with mss := o.mss, permit := o.permit } (p4 o ++ (p5 o ++ List.replicate (padN (raw o).length) 0)) hf.val hf.ecr hts ⟨rfl, rfl, rfl⟩
  obtain ⟨d2, _, e2⟩ := prs_p2 (f0 + d5 + d4 + d3) o { Opt.zero with mss := o.mss } (p3 o ++ (p4 o ++ (p5 o ++ List.replicate (padN (raw o).length) 0))) rfl
  obtain ⟨d1, _, e1⟩ := prs_p1 (f0 + d5 + d4 + d3 + d2) o Opt.zero (p2 o ++ (p3 o ++ (p4 o ++ (p5 o ++ List.replicate (padN (raw o).length) 0)))) ⟨h1.1, h1.2.1⟩ rfl
  refine ⟨f0 + d5 + d4 + d3 + d2 + d1, by show (enc o).length < (enc o).length + 1 + d5 + d4 + d3 + d2 + d1; omega, ?_⟩
  have he : enc o = p1 o ++ (p2 o ++ (p3 o ++ (p4 o ++ (p5 o ++ List.replicate (padN (raw o).length) 0)))) := by
    show raw o ++ List.replicate (padN (raw o).length) 0 = _
    generalize padN (raw o).length = m
    unfold raw
    simp only [List.append_assoc]
  rw [he, e1, e2, e3, e4, e5, prs_zeros]

/-- what is read may be written, but for its length -/
structure Opt.May (o : Opt) : Prop where
  mss : 0 ≤ o.mss ∧ o.mss ≤ 65535
  scale : 0 ≤ o.scale ∧ o.scale ≤ 14
  hs : o.hs = false → o.scale = 0
  ts : o.ts = false → o.val = 0 ∧ o.ecr = 0
  val : 0 ≤ o.val ∧ o.val ≤ 4294967295
  ecr : 0 ≤ o.ecr ∧ o.ecr ≤ 4294967295
  bl : o.bl.length ≤ 4
  bls : ∀ p ∈ o.bl, (0 ≤ p.1 ∧ p.1 ≤ 4294967295) ∧ (0 ≤ p.2 ∧ p.2 ≤ 4294967295)
theorem may_zero : Opt.zero.May := ⟨by decide, by decide, fun _ => rfl, fun _ => ⟨rfl, rfl⟩, by decide, by decide, by decide, by simp [Opt.zero]⟩
theorem may_chk (o : Opt) (h : o.May) : chk o = 0 ∨ (chk o = 9 ∧ 40 < bare o) := by
  unfold chk
  rw [if_neg (Decidable.not_not.2 ⟨h.mss.1, h.mss.2, h.scale.1, h.scale.2⟩), if_neg ?_]
  · by_cases h3 : 4 < o.bl.length ∨ 40 < size4 o
    · rw [if_pos h3]
      right
      refine ⟨rfl, ?_⟩
      rcases h3 with h3 | h3
      · have := h.bl; omega
      · exact (size4_long o).1 h3
    · rw [if_neg h3]; exact .inl rfl
  · rintro (⟨h1, h2⟩ | ⟨h1, h2⟩)
    · exact h2 (h.hs h1)
    · have := h.ts h1
      rcases h2 with h2 | h2
      · exact h2 this.1
      · exact h2 this.2
theorem may_fit (o : Opt) (h : o.May) : o.Fit := ⟨by have := h.mss; omega, h.val, h.ecr, by have := h.scale; omega, h.bls⟩

def Bd (l : List Int) : Prop := ∀ x ∈ l, 0 ≤ x ∧ x ≤ 255
theorem bd_at {l : List Int} (h : Bd l) (i : Nat) : 0 ≤ l.getD i 0 ∧ l.getD i 0 ≤ 255 := by
  by_cases hi : i < l.length
  · simp only [List.getD, List.getElem?_eq_getElem hi, Option.getD_some]; exact h _ (List.getElem_mem _)
  · simp only [List.getD, List.getElem?_eq_none (Nat.le_of_not_lt hi), Option.getD_none]; omega
theorem n4_bd {a b c d : Int} (ha : 0 ≤ a ∧ a ≤ 255) (hb : 0 ≤ b ∧ b ≤ 255) (hc : 0 ≤ c ∧ c ≤ 255) (hd : 0 ≤ d ∧ d ≤ 255) : 0 ≤ n4 a b c d ∧ n4 a b c d ≤ 4294967295 := by unfold n4; omega
theorem blks_len : ∀ (n : Nat) (l : List Int), l.length = 8 * n → (blks l).length = n := by
  intro n
  induction n with
  | zero => intro l h; obtain rfl := List.eq_nil_of_length_eq_zero (by omega : l.length = 0); rfl
  | succ n ih =>
    intro l h
    match l, h with
    | a :: b :: c :: d :: e :: f :: g :: hh :: r, h =>
      simp only [blks, List.length_cons]
      rw [ih r (by simp only [List.length_cons] at h; omega)]
theorem blks_bd : ∀ (n : Nat) (l : List Int), l.length ≤ n → Bd l → ∀ p ∈ blks l, (0 ≤ p.1 ∧ p.1 ≤ 4294967295) ∧ (0 ≤ p.2 ∧ p.2 ≤ 4294967295) := by
  intro n
  induction n with
  | zero => intro l h hb p hp; obtain rfl := List.eq_nil_of_length_eq_zero (by omega : l.length = 0); simp [blks] at hp
  | succ n ih =>
    intro l h hb p hp
    match l, h, hb, hp with
    | a :: b :: c :: d :: e :: f :: g :: hh :: r, h, hb, hp =>
      simp only [blks] at hp
      rcases List.mem_cons.1 hp with rfl | hp
      · exact ⟨n4_bd (hb a (by simp)) (hb b (by simp)) (hb c (by simp)) (hb d (by simp)), n4_bd (hb e (by simp)) (hb f (by simp)) (hb g (by simp)) (hb hh (by simp))⟩
      · exact ih r (by simp only [List.length_cons] at h; omega) (fun x hx => hb x (by simp [hx])) p hp
    | [], h, hb, hp => simp [blks] at hp
    | [a], h, hb, hp => simp [blks] at hp
    | [a, b], h, hb, hp => simp [blks] at hp
    | [a, b, c], h, hb, hp => simp [blks] at hp
    | [a, b, c, d], h, hb, hp => simp [blks] at hp
    | [a, b, c, d, e], h, hb, hp => simp [blks] at hp
    | [a, b, c, d, e, f], h, hb, hp => simp [blks] at hp
    | [a, b, c, d, e, f, g], h, hb, hp => simp [blks] at hp
theorem may_set (o : Opt) (k n : Int) (s : List Int) (h : o.May) (hs : Bd s) (hl : (s.length : Int) = n - 2) (hf : fits k n = true) : (seto o k s).May := by
  unfold seto
  unfold fits at hf
  by_cases h2 : k = 2
  · rw [if_pos h2]
    have a := bd_at hs 0
    have b := bd_at hs 1
    exact ⟨by show 0 ≤ s.getD 0 0 * 256 + s.getD 1 0 ∧ s.getD 0 0 * 256 + s.getD 1 0 ≤ 65535; omega, h.scale, h.hs, h.ts, h.val, h.ecr, h.bl, h.bls⟩
  rw [if_neg h2] at hf ⊢
  by_cases h3 : k = 3
  · rw [if_pos h3]
    have a := bd_at hs 0
    exact ⟨h.mss, by show 0 ≤ min (s.getD 0 0) 14 ∧ min (s.getD 0 0) 14 ≤ 14; omega, (fun e => by cases e), h.ts, h.val, h.ecr, h.bl, h.bls⟩
  rw [if_neg h3] at hf ⊢
  by_cases h4 : k = 4
  · rw [if_pos h4]
    exact ⟨h.mss, h.scale, h.hs, h.ts, h.val, h.ecr, h.bl, h.bls⟩
  rw [if_neg h4] at hf ⊢
  by_cases h5 : k = 5
  · rw [if_pos h5] at hf ⊢
    have hn := of_decide_eq_true hf
    refine ⟨h.mss, h.scale, h.hs, h.ts, h.val, h.ecr, ?_, blks_bd _ _ (Nat.le_refl _) hs⟩
    show (blks s).length ≤ 4
    rcases hn with hn | hn | hn | hn
    · rw [blks_len 1 s (by omega)]; omega
    · rw [blks_len 2 s (by omega)]; omega
    · rw [blks_len 3 s (by omega)]; omega
    · rw [blks_len 4 s (by omega)]; omega
  rw [if_neg h5] at hf ⊢
  by_cases h8 : k = 8
  · rw [if_pos h8]
    exact ⟨h.mss, h.scale, h.hs, (fun e => by cases e), n4_bd (bd_at hs 0) (bd_at hs 1) (bd_at hs 2) (bd_at hs 3), n4_bd (bd_at hs 4) (bd_at hs 5) (bd_at hs 6) (bd_at hs 7), h.bl, h.bls⟩
  rw [if_neg h8]
  exact h
theorem prs_may : ∀ (f : Nat) (l : List Int) (o : Opt), o.May → Bd l → (prs f l o).1.May ∧ ((prs f l o).2 ≠ 0 → (prs f l o).1 = .zero) := by
  intro f
  induction f with
  | zero => intro l o h _; exact ⟨h, fun e => absurd rfl e⟩
  | succ f ih =>
    intro l o h hb
    cases l with
    | nil => exact ⟨h, fun e => absurd rfl e⟩
    | cons k r =>
      have hr : Bd r := fun x hx => hb x (by simp [hx])
      simp only [prs]
      split
      · exact ⟨h, fun e => absurd rfl e⟩
      · split
        · exact ih r o h hr
        · cases r with
          | nil => exact ⟨may_zero, fun _ => rfl⟩
          | cons n q =>
            simp only
            split
            · exact ⟨may_zero, fun _ => rfl⟩
            · split
              · exact ⟨may_zero, fun _ => rfl⟩
              · split
                · rename_i hn hq hf
                  have hbq : Bd q := fun x hx => hr x (by simp [hx])
                  exact ih _ _ (may_set o k n _ h (fun x hx => hbq x (List.mem_of_mem_take hx)) (by rw [List.length_take]; omega) hf) (fun x hx => hbq x (List.mem_of_mem_drop hx))
                · exact ⟨may_zero, fun _ => rfl⟩

/-- options that say nothing, put ahead -/
theorem prs_ones : ∀ (m f : Nat) (l : List Int) (o : Opt), prs (f + m) (List.replicate m 1 ++ l) o = prs f l o := by
  intro m
  induction m with
  | zero => intro f l o; simp
  | succ m ih =>
    intro f l o
    rw [List.replicate_succ, List.cons_append, ← Nat.add_assoc, prs_nothing]
    exact ih f l o
theorem prs_skip (m : Nat) (k : Int) (t b : List Int) (f g : Nat) (hk : 5 < k ∧ k ≠ 8) (hb : b.length < g) (hf : (List.replicate m 1 ++ (k :: (2 + t.length : Int) :: (t ++ b))).length < f) :
    prs f (List.replicate m 1 ++ (k :: (2 + t.length : Int) :: (t ++ b))) .zero = prs g b .zero := by
  have h := prs_ones m (g + 1 + b.length + t.length + m + 2) (k :: (2 + t.length : Int) :: (t ++ b)) .zero
  rw [prs_more f (g + 1 + b.length + t.length + m + 2 + m) _ _ hf (by simp; omega), h]
  have hfits : fits k (2 + t.length : Int) = true := by
    unfold fits
    rw [if_neg (by omega), if_neg (by omega), if_neg (by omega), if_neg (by omega), if_neg (by omega)]
  have hset : seto .zero k t = .zero := by
    unfold seto
    rw [if_neg (by omega), if_neg (by omega), if_neg (by omega), if_neg (by omega), if_neg (by omega)]
  have h2 := prs_opt (g + 1 + b.length + t.length + m + 1) k (2 + t.length : Int) t b .zero (by omega) (by omega) (by omega) (by omega) hfits
  rw [hset] at h2
  rw [show g + 1 + b.length + t.length + m + 2 = g + 1 + b.length + t.length + m + 1 + 1 by omega, h2]
  exact prs_more _ _ _ _ (by omega) hb

theorem bd_nil : Bd [] := fun x hx => by cases hx
theorem bd_app {l r : List Int} (h1 : Bd l) (h2 : Bd r) : Bd (l ++ r) := fun x hx => by
  rcases List.mem_append.1 hx with h | h
  · exact h1 x h
  · exact h2 x h
theorem bd_cons {x : Int} {l : List Int} (h1 : 0 ≤ x ∧ x ≤ 255) (h2 : Bd l) : Bd (x :: l) := fun y hy => by
  rcases List.mem_cons.1 hy with rfl | h
  · exact h1
  · exact h2 y h
theorem bd_four (x : Int) (h : 0 ≤ x ∧ x ≤ 4294967295) : Bd (four x) :=
  bd_cons (by omega) (bd_cons (by omega) (bd_cons (by omega) (bd_cons (by omega) bd_nil)))
theorem bd_blB : ∀ l : List (Int × Int), (∀ p ∈ l, (0 ≤ p.1 ∧ p.1 ≤ 4294967295) ∧ (0 ≤ p.2 ∧ p.2 ≤ 4294967295)) → Bd (blB l)
  | [], _ => bd_nil
  | p :: l, h => by
    rw [blB_cons]
    have hp := h p (by simp)
    exact bd_app (bd_app (bd_four _ hp.1) (bd_four _ hp.2)) (bd_blB l (fun q hq => h q (by simp [hq])))
theorem bd_enc (o : Opt) (hf : o.Fit) (hn : o.bl.length ≤ 4) : Bd (enc o) := by
  unfold enc pad raw
  refine bd_app (bd_app (bd_app (bd_app (bd_app ?_ ?_) ?_) ?_) ?_) ?_
  · unfold p1
    split
    · exact bd_nil
    · exact bd_cons (by omega) (bd_cons (by omega) (bd_cons (by omega) (bd_cons (by omega) bd_nil)))
  · unfold p2
    split
    · exact bd_cons (by omega) (bd_cons (by omega) bd_nil)
    · exact bd_nil
  · unfold p3
    split
    · exact bd_app (bd_app (bd_cons (by omega) (bd_cons (by omega) bd_nil)) (bd_four _ hf.val)) (bd_four _ hf.ecr)
    · exact bd_nil
  · unfold p4
    split
    · exact bd_cons (by omega) (bd_cons (by omega) (bd_cons (by omega) bd_nil))
    · exact bd_nil
  · unfold p5
    split
    · exact bd_nil
    · exact bd_app (bd_cons (by omega) (bd_cons (by omega) bd_nil)) (bd_blB _ hf.bl)
  · intro x hx
    rw [List.mem_replicate] at hx
    omega
end Go.Proofs.Ytdfenlagokndkaa.op
