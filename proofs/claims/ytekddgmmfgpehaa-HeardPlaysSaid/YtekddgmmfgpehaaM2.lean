/-
  Several texts in one: HrdX HrdY Mem App Own Kp Cpy
-/
import Derived.Deep.AppendLies
import Derived.Deep.AppendSrc
import Derived.Deep.RegionHeld3
import Derived.Deep.QuietTactic
import Derived.BigQuiet
import Derived.WalkSmall
import Derived.OneCell
import Derived.Laws.OwnMore
import Derived.Deep.RegionLaw
import Derived.Deep.DeepCutAuto
import Derived.Deep.Light
import Derived.Deep.LoopGhost
import Derived.Deep.DeepFit
import Derived.Outline
import Derived.OwnWalkIn
import Derived.IntWalk
import Derived.Lib.Hide
import Derived.Test.YtekddgmmfgpehaaM1
/-!   What a receiver has, as spans and bytes by their offsets; its ring as a list.
-/
namespace Go.Proofs.Ytekddgmmfgpehaa.hd
open Go.RowKit aid sp rn
set_option linter.unusedVariables false

/-- what is had: from which number, in how much room, which offsets, which bytes -/
structure Hd where
  first : Int
  room : Nat
  l : List Sp
  ab : Int → Int
/-- the first offset that is not had -/
def nx (l : List Sp) : Int := gapL l 0
theorem run_mem {l : List Sp} (hl : Rn l) {o : Int} (h : In l o) : runL l o ∈ l ∧ (runL l o).1 ≤ o ∧ o < (runL l o).2 := by
  obtain ⟨x, hx, h1, h2⟩ := h
  have hs : (l.find? (fun x => hasB x o)).isSome = true := by
    rw [List.find?_isSome]
    exact ⟨x, hx, (has_rok (hl.ok x hx) o).2 ⟨h1, h2⟩⟩
  obtain ⟨y, hy⟩ := Option.isSome_iff_exists.1 hs
  have hm := List.mem_of_find?_eq_some hy
  have hh := List.find?_some hy
  have e : runL l o = y := by unfold runL; rw [hy]; rfl
  rw [e]
  have := (has_rok (hl.ok y hm) o).1 (by simpa using hh)
  exact ⟨hm, this.1, this.2⟩
theorem run_end {l : List Sp} (hl : Rn l) {x : Sp} (hx : x ∈ l) : ¬ In l x.2 := by
  rintro ⟨y, hy, h1, h2⟩
  obtain ⟨i, hi, rfl⟩ := List.getElem_of_mem hx
  obtain ⟨j, hj, rfl⟩ := List.getElem_of_mem hy
  have e : ∀ k (hk : k < l.length), l.getD k (0, 0) = l[k] := fun k hk => by simp [List.getD, hk]
  rcases Nat.lt_trichotomy i j with h | h | h
  · have := hl.at h hj
    rw [e i hi, e j hj] at this
    omega
  · subst h; omega
  · have := hl.at h hi
    rw [e i hi, e j hj] at this
    have := (hl.ok l[j] hy).2.1
    have := (hl.ok l[i] hx).2.1
    omega
theorem gap_spec {l : List Sp} (hl : Rn l) {o : Int} (h0 : 0 ≤ o) (h1 : o ≤ 4611686018427387904) : o ≤ gapL l o ∧ gapL l o ≤ 4611686018427387904 ∧ (∀ k, o ≤ k → k < gapL l o → In l k) ∧ ¬ In l (gapL l o) := by
  have ha : atI o = o := by unfold atI; omega
  rw [gap_def, ha]
  by_cases h : 0 < lenI (runL l o)
  · rw [if_pos h]
    obtain ⟨m1, m2, m3⟩ := run_mem hl ((in_run hl o).1 h)
    exact ⟨by omega, (hl.ok _ m1).2.2, fun k h2 h3 => ⟨_, m1, by omega, h3⟩, run_end hl m1⟩
  · rw [if_neg h]
    exact ⟨Int.le_refl _, h1, fun k h2 h3 => by omega, fun q => h ((in_run hl o).2 q)⟩
theorem nx_spec {l : List Sp} (hl : Rn l) : 0 ≤ nx l ∧ nx l ≤ 4611686018427387904 ∧ (∀ k, 0 ≤ k → k < nx l → In l k) ∧ ¬ In l (nx l) := gap_spec hl (Int.le_refl 0) (by decide)
theorem nx_eq {l : List Sp} (hl : Rn l) {n : Int} (h0 : 0 ≤ n) (h1 : ∀ k, 0 ≤ k → k < n → In l k) (h2 : ¬ In l n) : nx l = n := by
  obtain ⟨a, b, c, d⟩ := nx_spec hl
  rcases Int.lt_trichotomy (nx l) n with h | h | h
  · exact (d (h1 _ a h)).elim
  · exact h
  · exact (h2 (c n h0 h)).elim
theorem nx_gap {l : List Sp} (hl : Rn l) {n : Int} (h0 : 0 ≤ n) (hn : n ≤ 4611686018427387904) (h1 : ∀ k, 0 ≤ k → k < n → In l k) : gapL l n = nx l := by
  obtain ⟨a, b, c, d⟩ := gap_spec hl h0 hn
  refine (nx_eq hl (by omega) (fun k hk hk2 => ?_) d).symm
  by_cases hkn : k < n
  · exact h1 k hk hkn
  · exact c k (by omega) hk2
theorem nx_nil : nx [] = 0 := by decide
theorem in_bd {l : List Sp} (hl : Rn l) {o : Int} (h : In l o) : 0 ≤ o ∧ o < 4611686018427387904 := by
  obtain ⟨x, hx, h1, h2⟩ := h
  have := hl.ok x hx
  unfold ROk at this
  omega
/-- whether an offset is had -/
def inB (l : List Sp) (o : Int) : Bool := decide (0 < lenI (runL l o))
theorem inB_iff {l : List Sp} (hl : Rn l) (o : Int) : inB l o = true ↔ In l o := by unfold inB; rw [decide_eq_true_iff]; exact in_run hl o

theorem foldWo_len : ∀ (l q : List Sp), (∀ x ∈ l, ROk x) → Rn q → (l.foldl refWo q).length ≤ q.length + l.length := by
  intro l
  induction l with
  | nil => intro q _ _; simp
  | cons x l ih =>
    intro q h hq
    have hx := (h x (by simp)).ok
    have h1 := ih (refWo q x) (fun y hy => h y (List.mem_cons_of_mem _ hy)) (wo_rn hq hx)
    have h2 := wo_len q x hq hx
    simp only [List.foldl_cons, List.length_cons]
    omega
theorem gaps_len {l : List Sp} (s : Sp) (hl : Rn l) : (gapsL l s).length ≤ l.length + 1 := by
  unfold gapsL
  split
  · simp
  · rename_i h
    have hs := len_pos_ok h
    have := foldWo_len l [s] hl.ok ⟨fun x hx => by simp at hx; subst hx; exact hs, List.pairwise_singleton _ _⟩
    simp only [List.length_singleton] at this
    omega
theorem gap_bd {l : List Sp} {s : Sp} (hl : Rn l) (hs : ROk s) : ∀ g ∈ gapsL l s, ROk g ∧ s.1 ≤ g.1 ∧ g.2 ≤ s.2 := by
  obtain ⟨v1, v2, v3, v4⟩ := gaps_all s hl
  rw [fit_of hs.ok] at v3
  rw [v2] at v1
  intro g hg
  have hk := v1.ok g hg
  have h1 := (v3 g.1).1 ⟨g, hg, by omega, by have := hk.2.1; omega⟩
  have h2 := (v3 (g.2 - 1)).1 ⟨g, hg, by have := hk.2.1; omega, by omega⟩
  exact ⟨hk, by omega, by omega⟩
/-! ### A segment -/
/-- its place: an error, its offsets -/
def pl (x : Hd) (num : Int) (n : Nat) : Int × Sp :=
  if n = 0 then (6, (0, 0)) else if 2048 < n then (9, (0, 0)) else
  if (sq.unw (nx x.l) (sq.m32 (num - x.first))).2 = true then
    if nx x.l + x.room < (sq.unw (nx x.l) (sq.m32 (num - x.first))).1 + n then (12, (0, 0)) else (0, ((sq.unw (nx x.l) (sq.m32 (num - x.first))).1, (sq.unw (nx x.l) (sq.m32 (num - x.first))).1 + n))
  else (11, (0, 0))
/-- bytes laid where none were -/
def lay (l : List Sp) (ab : Int → Int) (s : Int) (p : List Int) : Int → Int := fun i => if inB l i = true then ab i else if s ≤ i ∧ i < s + p.length then p.getD (i - s).toNat 0 else ab i
def tk (x : Hd) (num : Int) (p : List Int) : Hd := if (pl x num p.length).1 = 0 then { x with l := refWi x.l (pl x num p.length).2, ab := lay x.l x.ab (pl x num p.length).2.1 p } else x
/-- what is told -/
structure Td where
  s : Sp
  fresh : Int
  dup : Sp
def td (x : Hd) (num : Int) (n : Nat) : Td := if (pl x num n).1 = 0 then ⟨(pl x num n).2, bytesL (refWi x.l (pl x num n).2) - bytesL x.l, meetP (nextL x.l (pl x num n).2.1) (pl x num n).2⟩ else ⟨(0, 0), 0, (0, 0)⟩
/-- what stays -/
structure Ok (x : Hd) : Prop where
  f : 0 ≤ x.first ∧ x.first ≤ 4294967295
  r : 1 ≤ x.room ∧ x.room ≤ 65536
  l : Rn x.l
  bd : ∀ o, In x.l o → o < nx x.l + x.room
/-- how much it may have grown -/
def Sz (k : Nat) (x : Hd) : Prop := x.l.length ≤ k ∧ nx x.l ≤ 2048 * k
theorem pl_ok {x : Hd} (h : Ok x) {num : Int} {n : Nat} (hp : (pl x num n).1 = 0) (hb : nx x.l ≤ 1000000000) : 1 ≤ n ∧ n ≤ 2048 ∧ 0 ≤ (pl x num n).2.1 ∧ (pl x num n).2.2 = (pl x num n).2.1 + n ∧ (pl x num n).2.2 ≤ nx x.l + x.room ∧ ROk (pl x num n).2 := by
  have hr := h.r
  unfold pl at hp ⊢
  by_cases h0 : n = 0
  · rw [if_pos h0] at hp; exact absurd hp (by decide)
  rw [if_neg h0] at hp ⊢
  by_cases h1 : 2048 < n
  · rw [if_pos h1] at hp; exact absurd hp (by decide)
  rw [if_neg h1] at hp ⊢
  by_cases h2 : (sq.unw (nx x.l) (sq.m32 (num - x.first))).2 = true
  · rw [if_pos h2] at hp ⊢
    by_cases h3 : nx x.l + x.room < (sq.unw (nx x.l) (sq.m32 (num - x.first))).1 + n
    · rw [if_pos h3] at hp; exact absurd hp (by decide)
    rw [if_neg h3]
    have hu : 0 ≤ (sq.unw (nx x.l) (sq.m32 (num - x.first))).1 := by
      unfold sq.unw at h2 ⊢
      split at h2
      · split at h2
        · rename_i q1 q2
          rw [if_pos q1, if_pos q2]
          unfold sq.isMay at q2
          simp at q2
          exact q2.1
        · exact absurd h2 (by decide)
      · exact absurd h2 (by decide)
    generalize (sq.unw (nx x.l) (sq.m32 (num - x.first))).1 = u at *
    refine ⟨by omega, by omega, hu, rfl, by simp only; omega, ?_⟩
    unfold ROk
    simp only
    omega
  · rw [if_neg h2] at hp; exact absurd hp (by decide)
theorem tk_ok1 {x : Hd} (h : Ok x) {num : Int} {p : List Int} (hb : nx x.l ≤ 1000000000) : Ok (tk x num p) ∧ (tk x num p).l.length ≤ x.l.length + 1 ∧ nx (tk x num p).l ≤ nx x.l + x.room ∧ nx x.l ≤ nx (tk x num p).l ∧ (tk x num p).room = x.room ∧ (tk x num p).first = x.first := by
  have hr := h.r
  unfold tk
  by_cases hn : ¬ (pl x num p.length).1 = 0
  · rw [if_neg hn]
    exact ⟨h, by omega, by omega, by omega, rfl, rfl⟩
  have hp : (pl x num p.length).1 = 0 := Decidable.not_not.1 hn
  rw [if_pos hp]
  obtain ⟨q1, q2, q3, q4, q5, q6⟩ := pl_ok h hp hb
  generalize (pl x num p.length).2 = s at *
  obtain ⟨w1, w2, w3⟩ := wi_spec h.l q6
  have wl := wi_len x.l s h.l q6.ok
  obtain ⟨a, b, c, d⟩ := nx_spec h.l
  obtain ⟨a2, b2, c2, d2⟩ := nx_spec w1
  have hle : nx x.l ≤ nx (refWi x.l s) := by
    rcases Int.lt_or_le (nx (refWi x.l s)) (nx x.l) with q | q
    · exact (d2 ((w2 _).2 (.inl (c _ a2 q)))).elim
    · exact q
  have hbd : ∀ o, In (refWi x.l s) o → o < nx x.l + x.room := fun o ho => by
    rcases (w2 o).1 ho with q | q
    · exact h.bd o q
    · omega
  refine ⟨⟨h.f, h.r, w1, fun o ho => by have := hbd o ho; simp only; omega⟩, wl, ?_, hle, rfl, rfl⟩
  simp only
  rcases Int.lt_or_le (nx x.l + x.room) (nx (refWi x.l s)) with q | q
  · have := hbd _ (c2 (nx x.l + x.room) (by omega) q)
    omega
  · exact q
theorem tk_ok {x : Hd} (h : Ok x) {num : Int} {p : List Int} {k : Nat} (hk : k ≤ 400000) (hz : Sz k x) : Ok (tk x num p) ∧ Sz (k + 33) (tk x num p) := by
  obtain ⟨a, b, c, _⟩ := tk_ok1 h (num := num) (p := p) (by have := hz.2; omega)
  have hr := h.r
  unfold Sz at *
  exact ⟨a, by omega, by omega⟩
/-- the text -/
def txt (x : Hd) : List Int := (List.range (nx x.l).toNat).map (fun (i : Nat) => x.ab (i : Int))
theorem txt_len (x : Hd) : (txt x).length = (nx x.l).toNat := by unfold txt; simp
/-- what is had above -/
def abv (x : Hd) : List Sp := x.l.filter (fun s => decide (nx x.l < s.1))
theorem abv_eq {x : Hd} (h : Rn x.l) : x.l.filter (fun s => decide (nx x.l ≤ s.1)) = abv x := by
  unfold abv
  refine List.filter_congr (fun s hs => ?_)
  have := (h.ok s hs).2.1
  have hn : nx x.l ≠ s.1 := fun e => (nx_spec h).2.2.2 ⟨s, hs, by omega, by omega⟩
  rw [decide_eq_decide]
  omega

/-! ### The ring -/
def layR : List Int → Nat → List Int → List Int
  | R, _, [] => R
  | R, f, c :: p => layR (R.set (f % R.length) c) (f + 1) p
theorem layR_len : ∀ (p : List Int) (R : List Int) (f : Nat), (layR R f p).length = R.length := by
  intro p
  induction p with
  | nil => intro R f; rfl
  | cons c p ih => intro R f; rw [layR, ih]; simp
theorem layR_snoc : ∀ (p : List Int) (R : List Int) (f : Nat) (c : Int), layR R f (p ++ [c]) = (layR R f p).set ((f + p.length) % R.length) c := by
  intro p
  induction p with
  | nil => intro R f c; rfl
  | cons d p ih =>
    intro R f c
    rw [List.cons_append, layR, ih, layR]
    simp only [List.length_set, List.length_cons]
    congr 2
    omega
theorem getD_set (R : List Int) (i j : Nat) (c : Int) (hi : i < R.length) : (R.set i c).getD j 0 = if i = j then c else R.getD j 0 := by
  simp only [List.getD_eq_getElem?_getD, List.getElem?_set]
  by_cases h : i = j
  · rw [if_pos h, if_pos h, if_pos hi]; rfl
  · rw [if_neg h, if_neg h]
theorem layR_miss : ∀ (p : List Int) (R : List Int) (f j : Nat), 0 < R.length → (∀ i, i < p.length → (f + i) % R.length ≠ j) → (layR R f p).getD j 0 = R.getD j 0 := by
  intro p
  induction p with
  | nil => intro R f j _ _; rfl
  | cons c p ih =>
    intro R f j h0 h
    rw [layR, ih _ _ _ (by simpa using h0)]
    · rw [getD_set _ _ _ _ (Nat.mod_lt _ h0), if_neg]
      have := h 0 (by simp)
      simpa using this
    · intro i hi
      have := h (i + 1) (by simp; omega)
      rw [List.length_set, show f + 1 + i = f + (i + 1) by omega]
      exact this
theorem mod_inj {a b m : Nat} (hm : 0 < m) (h : a % m = b % m) (h1 : a < b + m) (h2 : b < a + m) : a = b := by
  have e1 := Nat.div_add_mod a m
  have e2 := Nat.div_add_mod b m
  rw [h] at e1
  generalize a / m = q at *
  generalize b / m = r at *
  rcases Nat.lt_trichotomy q r with hh | hh | hh
  · have : m * q + m ≤ m * r := by rw [← Nat.mul_succ]; exact Nat.mul_le_mul_left m hh
    omega
  · subst hh; omega
  · have : m * r + m ≤ m * q := by rw [← Nat.mul_succ]; exact Nat.mul_le_mul_left m hh
    omega
theorem layR_hit : ∀ (p : List Int) (R : List Int) (f i : Nat), 0 < R.length → p.length ≤ R.length → i < p.length → (layR R f p).getD ((f + i) % R.length) 0 = p.getD i 0 := by
  intro p
  induction p with
  | nil => intro R f i _ _ h; simp at h
  | cons c p ih =>
    intro R f i h0 hp hi
    simp only [List.length_cons] at hp hi
    rw [layR]
    cases i with
    | zero =>
      rw [layR_miss _ _ _ _ (by simpa using h0)]
      · rw [getD_set _ _ _ _ (Nat.mod_lt _ h0), if_pos (by simp)]; simp
      · intro j hj e
        rw [List.length_set] at e
        have := mod_inj h0 e (by omega) (by omega)
        omega
    | succ i =>
      have := ih (R.set (f % R.length) c) (f + 1) i (by simpa using h0) (by simp; omega) (by omega)
      rw [List.length_set, show f + 1 + i = f + (i + 1) by omega] at this
      rw [this]
      simp
/-- a piece of a segment -/
def cutP (p : List Int) (s : Int) (g : Sp) : List Int := (p.take (g.2 - s).toNat).drop (g.1 - s).toNat
def layG (R : List Int) (s : Int) (p : List Int) (G : List Sp) : List Int := G.foldl (fun R g => layR R g.1.toNat (cutP p s g)) R
theorem layG_snoc (R : List Int) (s : Int) (p : List Int) (G : List Sp) (g : Sp) : layG R s p (G ++ [g]) = layR (layG R s p G) g.1.toNat (cutP p s g) := by unfold layG; rw [List.foldl_append]; rfl
theorem layG_len (s : Int) (p : List Int) : ∀ (G : List Sp) (R : List Int), (layG R s p G).length = R.length := by
  intro G
  induction G with
  | nil => intro R; rfl
  | cons g G ih =>
    intro R
    have : layG R s p (g :: G) = layG (layR R g.1.toNat (cutP p s g)) s p G := rfl
    rw [this, ih, layR_len]
theorem cutP_len {p : List Int} {s : Int} {g : Sp} (h0 : s ≤ g.1) (h1 : g.1 ≤ g.2) (h2 : g.2 ≤ s + p.length) : (cutP p s g).length = (g.2 - g.1).toNat := by
  unfold cutP
  rw [List.length_drop, List.length_take]
  omega
theorem cutP_get {p : List Int} {s : Int} {g : Sp} (h0 : s ≤ g.1) (h2 : g.2 ≤ s + p.length) (i : Nat) (hi : g.1 + i < g.2) : (cutP p s g).getD i 0 = p.getD (g.1 + i - s).toNat 0 := by
  unfold cutP
  simp only [List.getD_eq_getElem?_getD, List.getElem?_drop, List.getElem?_take]
  rw [if_pos (by omega)]
  congr 2
  omega
theorem layG_spec {s a : Int} {p : List Int} (ha : 0 ≤ a) : ∀ (G : List Sp) (R : List Int), 0 < R.length → (∀ g ∈ G, ROk g ∧ s ≤ g.1 ∧ g.2 ≤ s + p.length ∧ a ≤ g.1 ∧ g.2 ≤ a + R.length) →
    ∀ i : Nat, a ≤ i → (i : Int) < a + R.length → (In G i → (layG R s p G).getD (i % R.length) 0 = p.getD (i - s).toNat 0) ∧ (¬ In G i → (layG R s p G).getD (i % R.length) 0 = R.getD (i % R.length) 0) := by
  intro G
  induction G with
  | nil => intro R h0 hG i h1 h2; exact ⟨fun q => (In.nil q).elim, fun _ => rfl⟩
  | cons g G ih =>
    intro R h0 hG i h1 h2
    obtain ⟨g0, g1, g2, g3, g4⟩ := hG g (by simp)
    have g0' := g0
    unfold ROk at g0'
    have hl := layR_len (cutP p s g) R g.1.toNat
    have hcl := cutP_len g1 (by omega) g2
    have e : layG R s p (g :: G) = layG (layR R g.1.toNat (cutP p s g)) s p G := rfl
    obtain ⟨k1, k2⟩ := ih (layR R g.1.toNat (cutP p s g)) (by rw [hl]; exact h0) (fun q hq => by rw [hl]; exact hG q (List.mem_cons_of_mem _ hq)) i h1 (by rw [hl]; exact h2)
    rw [hl] at k1 k2
    rw [e]
    by_cases hin : In G i
    · exact ⟨fun _ => k1 hin, fun q => (q (In.cons.2 (.inr hin))).elim⟩
    · rw [k2 hin]
      constructor
      · intro q
        rcases In.cons.1 q with q | q
        · have e2 := layR_hit (cutP p s g) R g.1.toNat (i - g.1.toNat) h0 (by omega) (by omega)
          rw [show g.1.toNat + (i - g.1.toNat) = i by omega] at e2
          rw [e2, cutP_get g1 g2 _ (by omega)]
          congr 2
          omega
        · exact (hin q).elim
      · intro q
        refine layR_miss _ _ _ _ h0 (fun j hj e2 => q (In.cons.2 (.inl ?_)))
        have := mod_inj h0 e2 (by omega) (by omega)
        omega
/-- the ring of a receiver: the bytes of what is had from its first missing offset on -/
structure RingOk (R : List Int) (x : Hd) : Prop where
  len : R.length = x.room
  byte : ∀ i : Nat, nx x.l ≤ i → In x.l i → R.getD (i % x.room) 0 = x.ab i
theorem ring_tk {R : List Int} {x : Hd} (h : Ok x) (hr : RingOk R x) {num : Int} {p : List Int} (hp : (pl x num p.length).1 = 0) (hb : nx x.l ≤ 1000000000) :
    RingOk (layG R (pl x num p.length).2.1 p (gapsL x.l (pl x num p.length).2)) (tk x num p) ∧ (∀ i : Nat, nx x.l ≤ i → i < nx (tk x num p).l → (layG R (pl x num p.length).2.1 p (gapsL x.l (pl x num p.length).2)).getD (i % x.room) 0 = (tk x num p).ab i) := by
  unfold tk
  rw [if_pos hp]
  obtain ⟨q1, q2, q3, q4, q5, q6⟩ := pl_ok h hp hb
  generalize (pl x num p.length).2 = s at *
  obtain ⟨w1, w2, w3⟩ := wi_spec h.l q6
  obtain ⟨a, b, c, d⟩ := nx_spec h.l
  obtain ⟨a2, b2, c2, d2⟩ := nx_spec w1
  have hle : nx x.l ≤ nx (refWi x.l s) := by
    rcases Int.lt_or_le (nx (refWi x.l s)) (nx x.l) with q | q
    · exact (d2 ((w2 _).2 (.inl (c _ a2 q)))).elim
    · exact q
  have hroom := h.r
  obtain ⟨v1, v2, v3, v4⟩ := gaps_all s h.l
  rw [fit_of q6.ok] at v3
  rw [v2] at v1
  have hG : ∀ g ∈ gapsL x.l s, ROk g ∧ s.1 ≤ g.1 ∧ g.2 ≤ s.1 + p.length ∧ nx x.l ≤ g.1 ∧ g.2 ≤ nx x.l + R.length := fun g hg => by
    have hk := v1.ok g hg
    have h1 := (v3 g.1).1 ⟨g, hg, by omega, by have := hk.2.1; omega⟩
    have h2 := (v3 (g.2 - 1)).1 ⟨g, hg, by have := hk.2.1; omega, by omega⟩
    have : nx x.l ≤ g.1 := by
      rcases Int.lt_or_le g.1 (nx x.l) with q | q
      · exact (h1.2 (c _ hk.1 q)).elim
      · exact q
    refine ⟨hk, by omega, by omega, this, ?_⟩
    have := hr.len
    omega
  have hlay := layG_spec (s := s.1) (p := p) a (gapsL x.l s) R (by have := hr.len; omega) hG
  have hcell : ∀ i : Nat, nx x.l ≤ i → In (refWi x.l s) i → (layG R s.1 p (gapsL x.l s)).getD (i % x.room) 0 = lay x.l x.ab s.1 p i := fun i hi hin => by
    have hlt : (i : Int) < nx x.l + R.length := by
      have := hr.len
      rcases (w2 _).1 hin with q | q
      · have := h.bd _ q; omega
      · omega
    obtain ⟨k1, k2⟩ := hlay i hi hlt
    rw [hr.len] at k1 k2
    unfold lay
    by_cases hx : In x.l i
    · rw [if_pos ((inB_iff h.l _).2 hx), k2 (fun q => ((v3 _).1 q).2 hx)]
      exact hr.byte i hi hx
    · rw [if_neg (fun q => hx ((inB_iff h.l _).1 q))]
      have hs : s.1 ≤ (i : Int) ∧ (i : Int) < s.2 := by
        rcases (w2 _).1 hin with q | q
        · exact (hx q).elim
        · exact q
      rw [if_pos (by omega)]
      exact k1 ((v3 _).2 ⟨hs, hx⟩)
  refine ⟨⟨by rw [layG_len]; exact hr.len, fun i hi hin => hcell i (by simp only at hi; omega) hin⟩, fun i h1 h2 => hcell i h1 (c2 _ (by omega) h2)⟩
/-- what is moved out of the ring -/
def mvR (R : List Int) (f n : Nat) : List Int := (List.range n).map (fun i => R.getD ((f + i) % R.length) 0)
theorem mvR_snoc (R : List Int) (f n : Nat) : mvR R f (n + 1) = mvR R f n ++ [R.getD ((f + n) % R.length) 0] := by unfold mvR; rw [List.range_succ, List.map_append]; rfl
theorem txt_tk {R : List Int} {x : Hd} (h : Ok x) {num : Int} {p : List Int} (hp : (pl x num p.length).1 = 0) (hb : nx x.l ≤ 1000000000) (hl : R.length = x.room)
    (hR : ∀ i : Nat, nx x.l ≤ i → i < nx (tk x num p).l → R.getD (i % x.room) 0 = (tk x num p).ab i) : nx x.l ≤ nx (tk x num p).l ∧ gapL (tk x num p).l (nx x.l) = nx (tk x num p).l ∧ txt x ++ mvR R (nx x.l).toNat (nx (tk x num p).l - nx x.l).toNat = txt (tk x num p) := by
  have e1 : (tk x num p).l = refWi x.l (pl x num p.length).2 := by unfold tk; rw [if_pos hp]
  have e2 : (tk x num p).ab = lay x.l x.ab (pl x num p.length).2.1 p := by unfold tk; rw [if_pos hp]
  obtain ⟨q1, q2, q3, q4, q5, q6⟩ := pl_ok h hp hb
  obtain ⟨w1, w2, w3⟩ := wi_spec h.l q6
  rw [← e1] at w1 w2
  obtain ⟨a, b, c, d⟩ := nx_spec h.l
  obtain ⟨a2, b2, c2, d2⟩ := nx_spec w1
  have hle : nx x.l ≤ nx (tk x num p).l := by
    rcases Int.lt_or_le (nx (tk x num p).l) (nx x.l) with q | q
    · exact (d2 ((w2 _).2 (.inl (c _ a2 q)))).elim
    · exact q
  refine ⟨hle, nx_gap w1 a (by omega) (fun k h1 h2 => (w2 _).2 (.inl (c k h1 h2))), ?_⟩
  unfold txt mvR
  rw [hl]
  have hN : (nx (tk x num p).l).toNat = (nx x.l).toNat + (nx (tk x num p).l - nx x.l).toNat := by omega
  rw [hN, List.range_add, List.map_append, List.map_map]
  congr 1
  · refine List.map_congr_left (fun i hi => ?_)
    rw [List.mem_range] at hi
    rw [e2]
    unfold lay
    rw [if_pos ((inB_iff h.l _).2 (c _ (by omega) (by omega)))]
  · refine List.map_congr_left (fun i hi => ?_)
    rw [List.mem_range] at hi
    simp only [Function.comp]
    exact hR _ (by omega) (by omega)
end Go.Proofs.Ytekddgmmfgpehaa.hd
/-!   The document's receiver as a list of bytes: what lies at which offset, how many were fresh.
-/
namespace Go.Proofs.Ytekddgmmfgpehaa.hd
open Go.RowKit aid sp rn
set_option linter.unusedVariables false

def layB (b : List Int) (at' : Nat) (c : Int) : List Int := (b ++ List.replicate (at' + 1 - b.length) 0).set at' c
theorem layB_len (b : List Int) (a : Nat) (c : Int) : (layB b a c).length = max b.length (a + 1) := by
  unfold layB
  rw [List.length_set, List.length_append, List.length_replicate]
  omega
theorem layB_get (b : List Int) (a : Nat) (c : Int) (i : Nat) : (layB b a c).getD i 0 = if i = a then c else b.getD i 0 := by
  unfold layB
  rw [getD_set _ _ _ _ (by rw [List.length_append, List.length_replicate]; omega)]
  by_cases h : a = i
  · rw [if_pos h, if_pos h.symm]
  · rw [if_neg h, if_neg (fun e => h e.symm)]
    simp only [List.getD_eq_getElem?_getD]
    by_cases hi : i < b.length
    · rw [List.getElem?_append_left hi]
    · rw [List.getElem?_append_right (by omega), List.getElem?_eq_none (l := b) (by omega)]
      rw [List.getElem?_replicate]
      split <;> rfl
/-- one byte of a segment -/
def stB (l : List Sp) (off : Nat) (p : List Int) (q : List Int × Nat) (i : Nat) : List Int × Nat := if inB l ((off : Int) + (i : Int)) = true then q else (layB q.1 (off + i) (p.getD i 0), q.2 + 1)
def refB (l : List Sp) (off : Nat) (p : List Int) (b : List Int) (k : Nat) : List Int × Nat := (List.range k).foldl (stB l off p) (b, 0)
theorem refB_succ (l : List Sp) (off : Nat) (p : List Int) (b : List Int) (k : Nat) : refB l off p b (k + 1) = stB l off p (refB l off p b k) k := by unfold refB; rw [List.range_succ, List.foldl_append]; rfl
theorem refB_zero (l : List Sp) (off : Nat) (p : List Int) (b : List Int) : refB l off p b 0 = (b, 0) := rfl
/-- the document's bytes -/
structure RB (b : List Int) (x : Hd) : Prop where
  byte : ∀ i : Nat, In x.l i → i < b.length ∧ b.getD i 0 = x.ab i
  len : (b.length : Int) ≤ nx x.l + x.room
theorem refB_spec {l : List Sp} (hl : Rn l) {ab : Int → Int} {off : Nat} {p b : List Int} (hb : ∀ i : Nat, In l i → i < b.length ∧ b.getD i 0 = ab i) (k : Nat) (hk : k ≤ p.length) :
    (∀ i : Nat, (In l i ∨ (off ≤ i ∧ i < off + k)) → i < (refB l off p b k).1.length ∧ (refB l off p b k).1.getD i 0 = lay l ab off p i) ∧ (refB l off p b k).1.length ≤ max b.length (off + k) := by
  induction k with
  | zero =>
    refine ⟨fun i hi => ?_, by rw [refB_zero]; simp only; omega⟩
    rw [refB_zero]
    have hin : In l i := by
      rcases hi with q | q
      · exact q
      · omega
    obtain ⟨h1, h2⟩ := hb i hin
    refine ⟨h1, ?_⟩
    unfold lay
    rw [if_pos ((inB_iff hl _).2 hin)]
    exact h2
  | succ k ih =>
    obtain ⟨i1, i2⟩ := ih (by omega)
    rw [refB_succ]
    generalize refB l off p b k = q at *
    unfold stB
    by_cases hin : inB l ((off : Int) + (k : Int)) = true
    · rw [if_pos hin]
      refine ⟨fun i hi => i1 i ?_, by omega⟩
      rcases hi with h | h
      · exact .inl h
      · by_cases e : i = off + k
        · subst e
          exact .inl (by have := (inB_iff hl _).1 hin; simpa using this)
        · exact .inr (by omega)
    · rw [if_neg hin]
      simp only
      refine ⟨fun i hi => ?_, by rw [layB_len]; omega⟩
      rw [layB_len, layB_get]
      by_cases e : i = off + k
      · subst e
        refine ⟨by omega, ?_⟩
        rw [if_pos rfl]
        unfold lay
        rw [if_neg (by simpa using hin), if_pos (by omega)]
        congr 1
        omega
      · rw [if_neg e]
        have hi' : In l i ∨ (off ≤ i ∧ i < off + k) := by
          rcases hi with h | h
          · exact .inl h
          · exact .inr (by omega)
        obtain ⟨j1, j2⟩ := i1 i hi'
        exact ⟨by omega, j2⟩
/-- how many of some offsets are had -/
theorem meet_step {x : Sp} (hx : ROk x) {a : Int} {n : Nat} (ha : 0 ≤ a) (hn : a + n + 1 ≤ 4611686018427387904) : lenI (meetP x (a, a + n + 1)) = lenI (meetP x (a, a + n)) + (if x.1 ≤ a + n ∧ a + n < x.2 then 1 else 0) := by
  rw [meet_len hx.ok (show sp.Ok (a, a + (n : Int) + 1) from ⟨ha, by simp only; omega, hn⟩), meet_len hx.ok (show sp.Ok (a, a + (n : Int)) from ⟨ha, by simp only; omega, by simp only; omega⟩)]
  simp only
  have := hx.2.1
  split <;> split <;> split <;> omega
theorem within_step {a : Int} {n : Nat} (ha : 0 ≤ a) (hn : a + n + 1 ≤ 4611686018427387904) : ∀ {l : List Sp}, Rn l → withinL l (a, a + n + 1) = withinL l (a, a + n) + (if inB l (a + n) = true then 1 else 0) := by
  intro l
  induction l with
  | nil =>
    intro hl
    rw [within_nil, within_nil, if_neg (fun q => In.nil ((inB_iff hl _).1 q))]
    rfl
  | cons x l ih =>
    intro hl
    rw [within_cons, within_cons, ih hl.tail, meet_step hl.head ha hn]
    by_cases h1 : x.1 ≤ a + n ∧ a + n < x.2
    · have h2 : ¬ inB l (a + n) = true := fun q => by have := hl.in_tail ((inB_iff hl.tail _).1 q); omega
      rw [if_pos h1, if_neg h2, if_pos ((inB_iff hl _).2 (In.cons.2 (.inl h1)))]
      omega
    · rw [if_neg h1]
      by_cases h2 : inB l (a + n) = true
      · rw [if_pos h2, if_pos ((inB_iff hl _).2 (In.cons.2 (.inr ((inB_iff hl.tail _).1 h2))))]
        omega
      · rw [if_neg h2, if_neg (fun q => by
          rcases In.cons.1 ((inB_iff hl _).1 q) with q | q
          · exact h1 q
          · exact h2 ((inB_iff hl.tail _).2 q))]
        omega
theorem within_no : ∀ {l : List Sp} {s : Sp}, (∀ x ∈ l, lenI (meetP x s) = 0) → withinL l s = 0 := by
  intro l
  induction l with
  | nil => intro s _; rfl
  | cons x l ih => intro s h; rw [within_cons, h x (by simp), ih (fun y hy => h y (List.mem_cons_of_mem _ hy))]; rfl
theorem within_zero {l : List Sp} (hl : Rn l) (a : Int) : withinL l (a, a) = 0 := within_no (fun x hx => meet_none (hl.ok x hx) (by unfold lenI fitP; split <;> simp))
theorem refB_cnt {l : List Sp} (hl : Rn l) (off : Nat) (p b : List Int) (k : Nat) (hk : off + k ≤ 4611686018427387904) : ((refB l off p b k).2 : Int) = k - withinL l ((off : Int), (off : Int) + (k : Int)) ∧ (refB l off p b k).2 ≤ k := by
  induction k with
  | zero =>
    rw [refB_zero]
    have := within_zero hl (off : Int)
    simp only [Int.natCast_zero, Int.add_zero, this]
    simp
  | succ k ih =>
    obtain ⟨i1, i2⟩ := ih (by omega)
    rw [refB_succ]
    generalize refB l off p b k = q at *
    have hw := within_step (a := (off : Int)) (n := k) (by omega) (by omega) hl
    rw [show (off : Int) + ((k + 1 : Nat) : Int) = (off : Int) + (k : Int) + 1 by omega, hw]
    unfold stB
    by_cases hin : inB l ((off : Int) + (k : Int)) = true
    · rw [if_pos hin, if_pos hin]
      exact ⟨by omega, by omega⟩
    · rw [if_neg hin, if_neg hin]
      exact ⟨by simp only; omega, by simp only; omega⟩
/-- a segment taken -/
theorem rb_tk {b : List Int} {x : Hd} (h : Ok x) (hb : RB b x) {num : Int} {p : List Int} (hp : (pl x num p.length).1 = 0) (hz : nx x.l ≤ 1000000000) :
    RB (refB x.l (pl x num p.length).2.1.toNat p b p.length).1 (tk x num p) ∧ ((refB x.l (pl x num p.length).2.1.toNat p b p.length).2 : Int) = (td x num p.length).fresh ∧ withinL x.l (pl x num p.length).2 + (td x num p.length).fresh = p.length := by
  unfold tk td
  rw [if_pos hp, if_pos hp]
  obtain ⟨q1, q2, q3, q4, q5, q6⟩ := pl_ok h hp hz
  generalize (pl x num p.length).2 = s at *
  obtain ⟨w1, w2, w3⟩ := wi_spec h.l q6
  obtain ⟨a, b', c, d⟩ := nx_spec h.l
  obtain ⟨a2, b2, c2, d2⟩ := nx_spec w1
  have hle : nx x.l ≤ nx (refWi x.l s) := by
    rcases Int.lt_or_le (nx (refWi x.l s)) (nx x.l) with q | q
    · exact (d2 ((w2 _).2 (.inl (c _ a2 q)))).elim
    · exact q
  have hoff : ((s.1.toNat : Nat) : Int) = s.1 := by omega
  obtain ⟨r1, r2⟩ := refB_spec h.l (off := s.1.toNat) hb.byte p.length (Nat.le_refl _)
  obtain ⟨c1, c3⟩ := refB_cnt h.l s.1.toNat p b p.length (by have := q6.2.2; omega)
  rw [hoff] at c1 r1
  have hs : (s.1, s.1 + (p.length : Int)) = s := by rw [← q4]
  rw [hs] at c1
  have hln : lenI s = p.length := by rw [len_rok q6]; omega
  refine ⟨⟨fun i hi => ?_, ?_⟩, by simp only; omega, by simp only; omega⟩
  · refine r1 i ?_
    rcases (w2 _).1 hi with q | q
    · exact .inl q
    · exact .inr (by omega)
  · have := hb.len
    simp only
    omega
theorem rb_txt {b : List Int} {x : Hd} (h : Ok x) (hb : RB b x) : (nx x.l).toNat ≤ b.length ∧ b.take (nx x.l).toNat = txt x := by
  obtain ⟨a, b', c, d⟩ := nx_spec h.l
  have hlt : (nx x.l).toNat ≤ b.length := by
    by_cases h0 : (nx x.l).toNat = 0
    · omega
    · have := (hb.byte ((nx x.l).toNat - 1) (c _ (by omega) (by omega))).1
      omega
  refine ⟨hlt, List.ext_getElem (by rw [txt_len, List.length_take]; omega) (fun i h1 h2 => ?_)⟩
  have hi : i < (nx x.l).toNat := by rw [txt_len] at h2; exact h2
  have := (hb.byte i (c _ (by omega) (by omega))).2
  rw [List.getElem_take]
  simp only [txt, List.getElem_map, List.getElem_range]
  rw [← this]
  simp [List.getD, show i < b.length by omega]
end Go.Proofs.Ytekddgmmfgpehaa.hd
/-!   Memory, for walks: what stays as it was ('Kept'), slices of integers that are read ('SlA'), append of whatever source onto a row of one's own. Imports nothing of the program.
-/
namespace Go.Proofs.Ytekddgmmfgpehaa.mem
open Go.RowKit aid
set_option linter.unusedVariables false

/-! ### What stays as it was: all blocks but those of a list -/
structure Kept (S : List Nat) (w w' : World) : Prop where
  os : w'.os = w.os
  tape : w'.tape = w.tape
  output : w'.output = w.output
  size : w.heap.size ≤ w'.heap.size
  block : ∀ k, k < w.heap.size → k ∉ S → w'.heap[k]? = w.heap[k]?

theorem Kept.refl (S : List Nat) (w : World) : Kept S w w := ⟨rfl, rfl, rfl, Nat.le_refl _, fun _ _ _ => rfl⟩
theorem Kept.trans {S S' : List Nat} {a b c : World} (h : Kept S a b) (k : Kept S' b c) (hs : ∀ x ∈ S', x ∈ S ∨ a.heap.size ≤ x) : Kept S a c :=
  ⟨k.os.trans h.os, k.tape.trans h.tape, k.output.trans h.output, Nat.le_trans h.size k.size, fun x hx hn =>
    (k.block x (Nat.lt_of_lt_of_le hx h.size) (fun e => by rcases hs x e with e | e; exact hn e; omega)).trans (h.block x hx hn)⟩
theorem Kept.mono {S S' : List Nat} {a b : World} (h : Kept S a b) (hs : ∀ x ∈ S, x ∈ S' ∨ a.heap.size ≤ x) : Kept S' a b :=
  ⟨h.os, h.tape, h.output, h.size, fun x hx hn => h.block x hx (fun e => by rcases hs x e with e | e; exact hn e; omega)⟩
theorem Kept.drew {S : List Nat} {a w : World} (h : Kept S a w) : Kept S a w.drew := ⟨h.os, h.tape, h.output, h.size, h.block⟩
theorem Kept.drewN {S : List Nat} {a w : World} (h : Kept S a w) (n : Nat) : Kept S a (w.drewN n) := ⟨h.os, h.tape, h.output, h.size, h.block⟩
theorem Kept.alloc {S : List Nat} {a w : World} (h : Kept S a w) (o : Obj) : Kept S a (w.alloc o) :=
  ⟨h.os, h.tape, h.output, by simp; exact Nat.le_succ_of_le h.size, fun k hk hn => (Below.heap_alloc w o k (Nat.lt_of_lt_of_le hk h.size)).trans (h.block k hk hn)⟩
theorem Kept.setCell {S : List Nat} {a w : World} (h : Kept S a w) {p : Addr} (hp : p.block ∈ S ∨ a.heap.size ≤ p.block) (u : Value) : Kept S a (w.setCell p u) :=
  ⟨h.os, h.tape, h.output, by simpa using h.size, fun k hk hn => (Below.heap_setCell w p u k (fun e => by subst e; rcases hp with e | e; exact hn e; omega)).trans (h.block k hk hn)⟩
theorem Kept.grown {S : List Nat} {a w w' : World} {row : Option Nat} (h : Kept S a w) (hg : w.grownBy w' row) (hr : ∀ k, row = some k → k ∈ S ∨ a.heap.size ≤ k) : Kept S a w' :=
  ⟨hg.os.trans h.os, hg.tape.trans h.tape, hg.output.trans h.output, Nat.le_trans h.size hg.size, fun k hk hn =>
    (hg.block k (Nat.lt_of_lt_of_le hk h.size) (fun e => by rcases hr k e.symm with e | e; exact hn e; omega)).trans (h.block k hk hn)⟩
theorem Kept.of_below {B : Nat} {w w' : World} (h : Below B w w') (hB : w.heap.size ≤ B) (S : List Nat) : Kept S w w' :=
  ⟨h.os, h.tape, h.output, h.size, fun k hk _ => h.block k (by omega)⟩
theorem Kept.below {S : List Nat} {B : Nat} {w w' : World} (h : Kept S w w') (hS : ∀ k ∈ S, B ≤ k) (hB : B ≤ w.heap.size) : Below B w w' :=
  ⟨h.os, h.tape, h.output, h.size, fun k hk => h.block k (by omega) (fun e => by have := hS k e; omega)⟩
theorem Kept.cell {S : List Nat} {w w' : World} (h : Kept S w w') {p : Addr} {v : Value} (hp : p.block ∉ S) (hc : w.cell? p = some v) : w'.cell? p = some v :=
  (World.cell?_of_block (h.block p.block (World.block_lt_of_cell? w p hc) hp)).trans hc
theorem Kept.frozen {S : List Nat} {w w' : World} (h : Kept S w w') {p : Addr} {v : Value} (hp : p.block ∉ S) (hc : w.cell? p = some v) : w'.frozen? p = w.frozen? p :=
  World.frozen?_of_block (h.block p.block (World.block_lt_of_cell? w p hc) hp)
theorem Kept.heap {S : List Nat} {w w' : World} (h : Kept S w w') {k : Nat} {o : Obj} (hp : k ∉ S) (hc : w.heap[k]? = some o) : w'.heap[k]? = some o :=
  (h.block k (lt_of_block hc) hp).trans hc
theorem Kept.own {S : List Nat} {w w' : World} (h : Kept S w w') {base : Nat} {e : TypeId} {size : Nat} {v : Value} {n : Nat} {xs : List Value} (hp : ∀ k, v.ownBlock = some k → k ∉ S) (ho : w.ownsRow base e size v n xs) : w'.ownsRow base e size v n xs := by
  refine ⟨ho.1, ?_⟩
  rcases ho.2 with hn | ⟨g, cap, cur, rfl, hb, hgg, rest⟩
  · exact .inl hn
  · exact .inr ⟨g, cap, cur, rfl, hb, h.heap (hp g rfl) hgg, rest⟩
theorem own_base {w : World} {base base' : Nat} {e : TypeId} {size : Nat} {v : Value} {n : Nat} {xs : List Value} (ho : w.ownsRow base e size v n xs) (hb : ∀ k, v.ownBlock = some k → base' ≤ k) : w.ownsRow base' e size v n xs := by
  refine ⟨ho.1, ?_⟩
  rcases ho.2 with hn | ⟨g, cap, cur, rfl, _, hgg, rest⟩
  · exact .inl hn
  · exact .inr ⟨g, cap, cur, rfl, hb g rfl, hgg, rest⟩

theorem set_other {w : World} {a b : Addr} {v : Value} (h : a ≠ b) : (w.setCell a v).cell? b = w.cell? b := by apply World.cell?_setCell_other; exact h
theorem set_same {w : World} {a : Addr} {v u : Value} (h : w.cell? a = some u) : (w.setCell a v).cell? a = some v := by apply World.cell?_setCell_same; exact h

/-! ### A slice of integers that is read -/
def ints (k : IntKind) (l : List Int) : List Value := l.map (Value.int k)
structure SlA (k : IntKind) (w : World) (a : Option Addr) (n cap : Nat) (l : List Int) : Prop where
  len : l.length = n
  le : n ≤ cap
  most : cap ≤ maxLen
  nil : a = none → cap = 0
  cells : 0 < cap → ∃ b off, a = some ⟨b, off, none⟩ ∧ ∀ i, i < n → w.cell? ⟨b, off + i, none⟩ = some (.int k (l.getD i 0))

theorem SlA.keep {k : IntKind} {w w' : World} {a : Option Addr} {n cap : Nat} {l : List Int} (h : SlA k w a n cap l) {S : List Nat} (hk : Kept S w w') (hd : ∀ x, a = some x → x.block ∉ S) : SlA k w' a n cap l :=
  ⟨h.len, h.le, h.most, h.nil, fun h0 => by
    obtain ⟨b, off, rfl, hc⟩ := h.cells h0
    exact ⟨b, off, rfl, fun i hi => hk.cell (p := ⟨b, off + i, none⟩) (hd ⟨b, off, none⟩ rfl) (hc i hi)⟩⟩
theorem SlA.keepIf {k : IntKind} {w w' : World} {a : Option Addr} {n cap : Nat} {l : List Int} (h : SlA k w a n cap l) {S : List Nat} (hk : Kept S w w') (hd : ∀ x, a = some x → 0 < cap → x.block ∉ S) : SlA k w' a n cap l :=
  ⟨h.len, h.le, h.most, h.nil, fun h0 => by
    obtain ⟨b, off, rfl, hc⟩ := h.cells h0
    exact ⟨b, off, rfl, fun i hi => hk.cell (p := ⟨b, off + i, none⟩) (hd ⟨b, off, none⟩ rfl h0) (hc i hi)⟩⟩
theorem SlA.later {k : IntKind} {w w' : World} {a : Option Addr} {n cap : Nat} {l : List Int} (h : SlA k w a n cap l) (hk : Below w.heap.size w w') : SlA k w' a n cap l :=
  h.keep (Kept.of_below hk (Nat.le_refl _) []) (fun _ _ => by simp)

theorem SlA.drew {k : IntKind} {w : World} {a : Option Addr} {n cap : Nat} {l : List Int} (h : SlA k w a n cap l) : SlA k w.drew a n cap l := h.keep (Kept.refl [] w).drew (fun _ _ => by simp)
theorem SlA.drewN {k : IntKind} {w : World} {a : Option Addr} {n cap : Nat} {l : List Int} (h : SlA k w a n cap l) (q : Nat) : SlA k (w.drewN q) a n cap l := h.keep ((Kept.refl [] w).drewN q) (fun _ _ => by simp)
theorem getD_map_some {k : IntKind} {l : List Int} {j : Nat} (hj : j < l.length) : (l.map (Value.int k))[j]? = some (Value.int k (l.getD j 0)) := by simp [List.getD, hj]

/-- what it yields as an append's second argument -/
theorem SlA.src {P : Program} {k : IntKind} {w : World} {a : Option Addr} {n cap : Nat} {l : List Int} (h : SlA k w a n cap l) {t e : TypeId} (ht : P.underlying t = some (.slice e)) :
    Src P 1 t (.slice a n cap) n (ints k l) w := by
  have h1 : ∀ u ∈ ints k l, u.oneCell' = true := by
    intro u hu
    obtain ⟨_, _, rfl⟩ := List.mem_map.1 hu
    rfl
  have hl : (ints k l).length = n * 1 := by simp [ints, h.len]
  cases a with
  | none =>
    have h0 : cap = 0 := h.nil rfl
    have hle := h.le
    have hn : n = 0 := by omega
    have hll := h.len
    obtain rfl : l = [] := List.eq_nil_of_length_eq_zero (by omega)
    subst hn
    exact Src.ofNil w ht cap
  | some x =>
    refine Src.ofSlice w ht x n cap _ hl ?_ h1
    intro j u hu
    have hj : j < l.length := by simpa [ints] using (List.getElem?_eq_some_iff.1 hu).1
    rw [ints, getD_map_some hj] at hu
    obtain ⟨b, off, hx, hc⟩ := h.cells (by have := h.len; have := h.le; omega)
    obtain rfl : x = ⟨b, off, none⟩ := by injection hx
    have hadd : (⟨b, off, none⟩ : Addr).add j = ⟨b, off + j, none⟩ := by unfold Addr.add; split <;> simp_all
    rw [hadd, hc j (by have := h.len; omega)]
    exact hu

/-- a row of one's own is such a slice -/
theorem sl_of_own {w : World} {base : Nat} {e : TypeId} {k : IntKind} {v : Value} {n : Nat} {l : List Int} (h : w.ownsRow base e 1 v n (ints k l)) :
    ∃ a cap, v = .slice a n cap ∧ SlA k w a n cap l ∧ ∀ x, a = some x → v.ownBlock = some x.block := by
  have hl : l.length = n := by simpa [ints] using h.1
  rcases h.2 with ⟨rfl, rfl⟩ | ⟨g, cap, cur, rfl, hb, hg, hn, hm, hc, ht⟩
  · exact ⟨none, 0, rfl, ⟨hl, Nat.le_refl _, by unfold maxLen; omega, fun _ => rfl, fun h => by omega⟩, fun _ h => by cases h⟩
  · refine ⟨some ⟨g, 0, none⟩, cap, rfl, ⟨hl, hn, hm, (fun h => by cases h), fun _ => ⟨g, 0, rfl, fun i hi => ?_⟩⟩, fun x hx => by injection hx with hx; subst hx; rfl⟩
    rw [cell_of_row w g _ cur e (0, 0) hg]
    have : (ints k l)[i]? = cur[0 + i]? := by rw [← ht, List.getElem?_take]; simp; intro h; omega
    rw [← this, ints, getD_map_some (by omega)]

/-- a piece of such a slice, from its head on -/
theorem SlA.take {k : IntKind} {w : World} {a : Option Addr} {n cap : Nat} {l : List Int} (h : SlA k w a n cap l) (m : Nat) (hm : m ≤ n) : SlA k w a m cap (l.take m) :=
  ⟨by simp [h.len, hm], Nat.le_trans hm h.le, h.most, h.nil, fun h0 => by
    obtain ⟨b, off, rfl, hc⟩ := h.cells h0
    refine ⟨b, off, rfl, fun i hi => ?_⟩
    rw [hc i (by omega)]
    simp [List.getD, hi]⟩
/-- where the capacity ends at once the address stays; else it is moved -/
theorem SlA.drop_end {k : IntKind} {w : World} {a : Option Addr} {n cap : Nat} {l : List Int} (h : SlA k w a n cap l) (m : Nat) (hm : m ≤ n) (he : cap = m) : SlA k w a (n - m) 0 (l.drop m) :=
  ⟨by simp [h.len], (by have := h.le; omega), by simp [maxLen], fun _ => rfl, fun h0 => by omega⟩
theorem SlA.drop {k : IntKind} {w : World} {b off : Nat} {n cap : Nat} {l : List Int} (h : SlA k w (some ⟨b, off, none⟩) n cap l) (m : Nat) (hm : m ≤ n) (he : cap ≠ m) : SlA k w (some ⟨b, off + m, none⟩) (n - m) (cap - m) (l.drop m) :=
  ⟨by simp [h.len], (by have := h.le; omega), (by have := h.most; omega), (fun h => by cases h), fun h0 => by
    obtain ⟨b', off', hb, hc⟩ := h.cells (by omega)
    injection hb with hb
    injection hb with hb1 hb2
    subst hb1 hb2
    refine ⟨b, off + m, rfl, fun i hi => ?_⟩
    rw [Nat.add_assoc, hc (m + i) (by omega)]
    simp [List.getD]⟩

theorem own_form {w : World} {base : Nat} {e : TypeId} {size : Nat} {v : Value} {n : Nat} {xs : List Value} (h : w.ownsRow base e size v n xs) : ∃ a cap, v = .slice a n cap := by
  rcases h.2 with ⟨rfl, rfl⟩ | ⟨g, cap, cur, rfl, _⟩
  · exact ⟨none, 0, rfl⟩
  · exact ⟨_, cap, rfl⟩
theorem ints_append (k : IntKind) (l r : List Int) : ints k (l ++ r) = ints k l ++ ints k r := List.map_append

/-! ### append, of whatever source, onto a row of one's own -/
section
variable {P : Program} (w : World)

theorem run_append_any (t tx ty : TypeId) (base : Nat) (e : TypeId) (i : TypeInfo) (z : Value) (bytes : Nat) (ht : P.underlying t = some (.slice e)) (hi : P.info? e = some i) (hz : i.zero = some z)
    (hsize : i.size = 1) (hby : i.bytes = bytes) (hzs : z.cells.size = 1)
    (v : Value) (n : Nat) (xs : List Value) (hown : w.ownsRow base e 1 v n xs) (x : Value) (m : Nat) (news : List Value) (hs : Src P 1 tx x m news w)
    (h63 : n + m ≤ maxLen) (hbytes : (n + m) * bytes ≤ 140737488355328) (hbase : base ≤ w.heap.size) :
    ∃ v' w', (Builtin.append_ #[t, tx] ty #[v, x]).run P w = .ok v' w' ∧ w'.ownsRow base e 1 v' (n + m) (xs ++ news) ∧ w.grownBy w' v.ownBlock ∧
      (v'.ownBlock = v.ownBlock ∨ v'.ownBlock = some w.heap.size) := by
  have hnl : news.length = m := by simpa using hs.newsLen
  have hxl : xs.length = n := by simpa using hown.1
  have h63' : ((n + m : Nat) : Int) ≤ 9223372036854775807 := by unfold maxLen at h63; omega
  have hs' : Src P i.size tx x m news w := by rw [hsize]; exact hs
  have grow : ∀ (b : Option Addr) (cap : Nat), cap < n + m → (Builtin.firstCells i.size n (.slice b n cap)).run P w.drew = .ok xs.toArray w.drew →
      ∃ v' w', (Builtin.append_ #[t, tx] ty #[.slice b n cap, x]).run P w = .ok v' w' ∧ w'.ownsRow base e 1 v' (n + m) (xs ++ news) ∧ w.grownBy w' (Value.ownBlock (.slice b n cap)) ∧
      (v'.ownBlock = Value.ownBlock (.slice b n cap) ∨ v'.ownBlock = some w.heap.size) := by
    intro b cap hlt hold
    have hr := run_append_grow_src (P := P) w t tx ty e i z ht hi hz b n cap xs hold x m news hs' hlt h63' (by rw [hby]; exact growslice_fits (by omega) hbytes)
    refine ⟨_, _, hr, ⟨by simp [hxl, hnl], .inr ⟨w.heap.size, _, _, rfl, hbase, heap_alloc_new w.drew _, grownCap_ge _ _ _ _, grownCap_le_maxLen _ _ _ _ h63, ?_, ?_⟩⟩, ⟨rfl, rfl, rfl, by simp, fun k hk _ => Below.heap_alloc w.drew _ k hk⟩, .inr rfl⟩
    · have hge := grownCap_ge w (n + m) cap e
      simp only [Array.size_append, List.size_toArray, size_zeroCells, hzs, List.length_append, hxl, hnl]
      omega
    · simp only [Array.toList_append, Nat.mul_one]
      rw [show n + m = (xs ++ news).length from by simp [hxl, hnl]]
      exact List.take_left
  rcases hown.2 with ⟨rfl, rfl⟩ | ⟨g, cap, cur, rfl, hbg, hg, hnc, hcm, hcs, htake⟩
  · obtain rfl : xs = [] := List.eq_nil_of_length_eq_zero (by omega)
    by_cases hm : m = 0
    · subst hm
      obtain rfl : news = [] := List.eq_nil_of_length_eq_zero (by omega)
      refine ⟨.slice none 0 0, w, ?_, World.ownsRow_nil w base e 1, ⟨rfl, rfl, rfl, Nat.le_refl _, fun _ _ _ => rfl⟩, .inl rfl⟩
      have hc := hs'.cells
      rcases hs.kind with ⟨e', hk⟩ | hk <;> simp [Builtin.append_, run_underlying ht, run_underlying hk, sizeOf, typeInfo, hi, hs.len, hc]
    · exact grow none 0 (by omega) (run_firstCells_none w.drew i.size 0 0 0)
  · by_cases hroom : n + m ≤ cap
    · have hcell : ∀ j, w.cell? ⟨g, j, none⟩ = cur[j]? := fun j => cell_of_row w g j cur e (0, 0) hg
      have hfr : ∀ j, w.frozen? ⟨g, j, none⟩ = false := fun j => by simp [World.frozen?, hg]
      have hr := run_append_room_src (P := P) w t tx ty e i ht hi g 0 n cap x m news hs' hroom
        (fun j hj => by rw [hcell, hsize]; rw [Array.getElem?_eq_getElem (by rw [hcs]; omega)]; rfl) (fun j hj => hfr _)
      have hst := hr
      rw [hsize] at hr
      simp only [Nat.zero_add, Nat.mul_one] at hr
      have hsr : w.setCells g n news = w.setRow g (cur.toList.take n ++ news ++ cur.toList.drop (n + news.length)).toArray := by
        have h1 := run_append_room_src (P := P) w t tx ty e i ht hi g 0 n cap x m news hs' hroom
          (fun j hj => by rw [hcell, hsize]; rw [Array.getElem?_eq_getElem (by rw [hcs]; omega)]; rfl) (fun j hj => hfr _)
        have h2 := run_storeCells_at P g n e news 0 cur w hg (by omega) hs.one
        have h3 := run_storeCells_cells (P := P) g n news 0 w (fun j hj => by rw [hcell]; rw [Array.getElem?_eq_getElem (by rw [hcs]; omega)]; rfl) (fun j hj => hfr _) hs.one
        simp only [Nat.add_zero] at h2 h3
        rw [h2] at h3
        injection h3 with _ h3
        exact h3.symm
      rw [hsr] at hr
      refine ⟨_, _, hr, ⟨by simp [hxl, hnl], .inr ⟨g, cap, _, rfl, hbg, setRow_heap w g cur _ e _ hg, hroom, hcm, ?_, ?_⟩⟩, ⟨rfl, rfl, rfl, by simp, fun k _ hk => setRow_other w g k _ (fun e => hk (by simp [Value.ownBlock, e]))⟩, .inl rfl⟩
      · simp only [List.size_toArray, List.length_append, List.length_take, List.length_drop, Array.length_toList]
        omega
      · have ht' : cur.toList.take n = xs := by simpa using htake
        simp only [Nat.mul_one]
        rw [ht', show n + m = (xs ++ news).length from by simp [hxl, hnl]]
        exact List.take_left
    · refine grow (some ⟨g, 0, none⟩) cap (by omega) ?_
      exact run_firstCells_some w.drew i.size n ⟨g, 0, none⟩ n cap xs (by rw [hxl, hsize]; omega) (by have := hown.cells (g := g) rfl; simpa using this)

theorem wp_append_any {o : Oper} {a : Act} {K : Act → World → Prop} {Q : Exit → Act → World → Prop} (s x : Operand) (t tx : TypeId)
    (ho : o.op = .call { callee := .builtin .append, args := #[s, x], argTypes := #[t, tx] })
    (base : Nat) (e : TypeId) (i : TypeInfo) (z : Value) (bytes : Nat) (ht : P.underlying t = some (.slice e)) (hi : P.info? e = some i) (hz : i.zero = some z)
    (hsize : i.size = 1) (hby : i.bytes = bytes) (hzs : z.cells.size = 1)
    (v : Value) (n : Nat) (xs : List Value) (hsv : a.eval s = v) (hown : w.ownsRow base e 1 v n xs) (xv : Value) (hx : a.eval x = xv) (m : Nat) (news : List Value) (hs : Src P 1 tx xv m news w)
    (h63 : n + m ≤ maxLen) (hbytes : (n + m) * bytes ≤ 140737488355328) (hbase : base ≤ w.heap.size)
    (h : ∀ a' cap' w', w'.ownsRow base e 1 (.slice a' (n + m) cap') (n + m) (xs ++ news) → w.grownBy w' v.ownBlock → (Value.ownBlock (.slice a' (n + m) cap') = v.ownBlock ∨ Value.ownBlock (.slice a' (n + m) cap') = some w.heap.size) → K (a.put o.dst (.slice a' (n + m) cap')) w') : o.wp P a w K Q := by
  obtain ⟨v', w', hr, h2, h3, h4⟩ := run_append_any (P := P) w t tx o.type base e i z bytes ht hi hz hsize hby hzs v n xs hown xv m news hs h63 hbytes hbase
  unfold Oper.wp execOp
  obtain ⟨a', cap', rfl⟩ := own_form h2
  simp only [ho, resolve, invoke, builtin, Sem.run_bind, Sem.run_pure, Result.andThen_ok, List.map_toArray, List.map_cons, List.map_nil, hsv, hx, hr]
  exact h a' cap' w' h2 h3 h4

theorem wpList_append_any {ops : Array Oper} {rest : List Oper} {o : Oper} {a : Act} {Q : Exit → Act → World → Prop} (hgd : o.guard = none) (s x : Operand) (t tx : TypeId)
    (ho : o.op = .call { callee := .builtin .append, args := #[s, x], argTypes := #[t, tx] })
    (base : Nat) (e : TypeId) (i : TypeInfo) (z : Value) (bytes : Nat) (ht : P.underlying t = some (.slice e)) (hi : P.info? e = some i) (hz : i.zero = some z)
    (hsize : i.size = 1) (hby : i.bytes = bytes) (hzs : z.cells.size = 1)
    (v : Value) (n : Nat) (xs : List Value) (hsv : a.eval s = v) (hown : w.ownsRow base e 1 v n xs) (xv : Value) (hx : a.eval x = xv) (m : Nat) (news : List Value) (hs : Src P 1 tx xv m news w)
    (h63 : n + m ≤ maxLen) (hbytes : (n + m) * bytes ≤ 140737488355328) (hbase : base ≤ w.heap.size)
    (h : ∀ a' cap' w', w'.ownsRow base e 1 (.slice a' (n + m) cap') (n + m) (xs ++ news) → w.grownBy w' v.ownBlock → (Value.ownBlock (.slice a' (n + m) cap') = v.ownBlock ∨ Value.ownBlock (.slice a' (n + m) cap') = some w.heap.size) → wpList P ops Q rest (a.put o.dst (.slice a' (n + m) cap')) w') : wpList P ops Q (o :: rest) a w :=
  wpList_plain hgd fun _ hK => wp_append_any w s x t tx ho base e i z bytes ht hi hz hsize hby hzs v n xs hsv hown xv hx m news hs h63 hbytes hbase fun a' cap' w' h2 h3 h4 => hK _ _ (h a' cap' w' h2 h3 h4)

theorem step_append_any {ops : Array Oper} {o : Oper} {a : Act} {K : Act → World → Prop} {Q : Exit → Act → World → Prop} {E : Prop} (hgd : o.guard = none) (s x : Operand) (t tx : TypeId)
    (ho : o.op = .call { callee := .builtin .append, args := #[s, x], argTypes := #[t, tx] })
    (base : Nat) (e : TypeId) (i : TypeInfo) (z : Value) (bytes : Nat) (ht : P.underlying t = some (.slice e)) (hi : P.info? e = some i) (hz : i.zero = some z)
    (hsize : i.size = 1) (hby : i.bytes = bytes) (hzs : z.cells.size = 1)
    (v : Value) (n : Nat) (xs : List Value) (hsv : a.eval s = v) (hown : w.ownsRow base e 1 v n xs) (xv : Value) (hx : a.eval x = xv) (m : Nat) (news : List Value) (hs : Src P 1 tx xv m news w)
    (h63 : n + m ≤ maxLen) (hbytes : (n + m) * bytes ≤ 140737488355328) (hbase : base ≤ w.heap.size)
    (h : ∀ a' cap' w', w'.ownsRow base e 1 (.slice a' (n + m) cap') (n + m) (xs ++ news) → w.grownBy w' v.ownBlock → (Value.ownBlock (.slice a' (n + m) cap') = v.ownBlock ∨ Value.ownBlock (.slice a' (n + m) cap') = some w.heap.size) → K (a.put o.dst (.slice a' (n + m) cap')) w') :
    if Region.wanted o (yielded ops a.tmps) = true then Oper.wp P o a w K Q else E := by
  have hw : Region.wanted o (yielded ops a.tmps) = true := by simp [Region.wanted, hgd]
  rw [if_pos hw]
  exact wp_append_any w s x t tx ho base e i z bytes ht hi hz hsize hby hzs v n xs hsv hown xv hx m news hs h63 hbytes hbase h
end

/-- a slice of integers that came in, as a slice that is read -/
theorem sl_of_row {k : IntKind} {w : World} {a : Option Addr} {len cap : Nat} {zs : List Int} (h : IsRow k w a len cap zs) : SlA k w a len cap (zs.take len) := by
  rcases h with ⟨h1, h2, h3, h4⟩ | ⟨x, hx, h1, h2, h3, h4, h5⟩
  · subst h1 h2 h3 h4
    exact ⟨rfl, Nat.le_refl _, by simp [maxLen], fun _ => rfl, fun h => by omega⟩
  · refine ⟨by simp; omega, h1, h2, (fun h => by rw [hx] at h; cases h), fun h0 => ?_⟩
    obtain ⟨b, off, rfl, hc⟩ := ints_at h4 (by omega)
    refine ⟨b, off, hx, fun i hi => ?_⟩
    rw [hc i (by omega)]
    congr 2
    simp [List.getD, hi]
theorem wf_of_row {k : IntKind} {w : World} {a : Option Addr} {len cap : Nat} {zs : List Int} (h : IsRow k w a len cap zs) : ∀ n ∈ zs.take len, (Lit.int k n).wf = true := by
  rcases h with ⟨h1, h2, h3, h4⟩ | ⟨x, hx, h1, h2, h3, h4, h5⟩
  · subst h4; simp
  · exact fun n hn => h5 n (List.mem_of_mem_take hn)

/-- the cells of a new block that holds integers -/
theorem sl_new (k : IntKind) (t : TypeId) (w : World) (c : List Int) (hm : c.length ≤ maxLen) : SlA k (w.alloc (.cells (ints k c).toArray t)) (some ⟨w.heap.size, 0, none⟩) c.length c.length c :=
  ⟨rfl, Nat.le_refl _, hm, (fun h => by cases h), fun h0 => ⟨w.heap.size, 0, rfl, fun i hi => by
    rw [World.cell?_alloc_at _ _ _ _ rfl, List.getElem?_toArray, Nat.zero_add, ints, getD_map_some hi]⟩⟩

end Go.Proofs.Ytekddgmmfgpehaa.mem
/-!   append, of whatever source, onto a row of one's own: elements of any size; where the row lies then is told. Within a fence, too. Imports nothing of the program.
-/
namespace Go.Proofs.Ytekddgmmfgpehaa.mem
open Go.RowKit aid
set_option linter.unusedVariables false
section
variable {P : Program} (w : World)

theorem run_append_sz (t tx ty : TypeId) (base : Nat) (e : TypeId) (i : TypeInfo) (z : Value) (sz bytes : Nat) (ht : P.underlying t = some (.slice e)) (hi : P.info? e = some i) (hz : i.zero = some z)
    (hsize : i.size = sz) (hsz : 0 < sz) (hby : i.bytes = bytes) (hzs : z.cells.size = sz)
    (v : Value) (n : Nat) (xs : List Value) (hown : w.ownsRow base e sz v n xs) (x : Value) (m : Nat) (news : List Value) (hs : Src P sz tx x m news w)
    (h63 : n + m ≤ maxLen) (hbytes : (n + m) * bytes ≤ 140737488355328) (hbase : base ≤ w.heap.size) :
    ∃ v' w', (Builtin.append_ #[t, tx] ty #[v, x]).run P w = .ok v' w' ∧ w'.ownsRow base e sz v' (n + m) (xs ++ news) ∧ w.grownBy w' v.ownBlock ∧
      (v'.ownBlock = v.ownBlock ∨ v'.ownBlock = some w.heap.size) := by
  have hnl : news.length = m * sz := by simpa using hs.newsLen
  have hxl : xs.length = n * sz := by simpa using hown.1
  have h63' : ((n + m : Nat) : Int) ≤ 9223372036854775807 := by unfold maxLen at h63; omega
  have hs' : Src P i.size tx x m news w := by rw [hsize]; exact hs
  have hlen : (xs ++ news).length = (n + m) * sz := by rw [List.length_append, hxl, hnl, Nat.add_mul]
  have grow : ∀ (b : Option Addr) (cap : Nat), cap < n + m → (Builtin.firstCells i.size n (.slice b n cap)).run P w.drew = .ok xs.toArray w.drew →
      ∃ v' w', (Builtin.append_ #[t, tx] ty #[.slice b n cap, x]).run P w = .ok v' w' ∧ w'.ownsRow base e sz v' (n + m) (xs ++ news) ∧ w.grownBy w' (Value.ownBlock (.slice b n cap)) ∧
      (v'.ownBlock = Value.ownBlock (.slice b n cap) ∨ v'.ownBlock = some w.heap.size) := by
    intro b cap hlt hold
    have hr := run_append_grow_src (P := P) w t tx ty e i z ht hi hz b n cap xs hold x m news hs' hlt h63' (by rw [hby]; exact growslice_fits (by omega) hbytes)
    refine ⟨_, _, hr, ⟨hlen, .inr ⟨w.heap.size, _, _, rfl, hbase, heap_alloc_new w.drew _, grownCap_ge _ _ _ _, grownCap_le_maxLen _ _ _ _ h63, ?_, ?_⟩⟩, ⟨rfl, rfl, rfl, by simp, fun k hk _ => Below.heap_alloc w.drew _ k hk⟩, .inr rfl⟩
    · have hge := grownCap_ge w (n + m) cap e
      simp only [Array.size_append, List.size_toArray, size_zeroCells, hzs]
      rw [← hlen, List.length_append, hxl, hnl] at *
      have : grownCap w (n + m) cap e = (n + m) + (grownCap w (n + m) cap e - (n + m)) := by omega
      generalize grownCap w (n + m) cap e - (n + m) = q at *
      rw [this, Nat.add_mul, Nat.add_mul]
    · simp only [Array.toList_append]
      rw [← hlen]
      exact List.take_left
  rcases hown.2 with ⟨rfl, rfl⟩ | ⟨g, cap, cur, rfl, hbg, hg, hnc, hcm, hcs, htake⟩
  · obtain rfl : xs = [] := List.eq_nil_of_length_eq_zero (by omega)
    by_cases hm : m = 0
    · subst hm
      obtain rfl : news = [] := List.eq_nil_of_length_eq_zero (by omega)
      refine ⟨.slice none 0 0, w, ?_, World.ownsRow_nil w base e sz, ⟨rfl, rfl, rfl, Nat.le_refl _, fun _ _ _ => rfl⟩, .inl rfl⟩
      have hc := hs'.cells
      rcases hs.kind with ⟨e', hk⟩ | hk <;> simp [Builtin.append_, run_underlying ht, run_underlying hk, sizeOf, typeInfo, hi, hs.len, hc]
    · exact grow none 0 (by omega) (run_firstCells_none w.drew i.size 0 0 0)
  · by_cases hroom : n + m ≤ cap
    · have hcell : ∀ j, w.cell? ⟨g, j, none⟩ = cur[j]? := fun j => cell_of_row w g j cur e (0, 0) hg
      have hfr : ∀ j, w.frozen? ⟨g, j, none⟩ = false := fun j => by simp [World.frozen?, hg]
      have hmul : n * sz + m * sz ≤ cap * sz := by rw [← Nat.add_mul]; exact Nat.mul_le_mul_right _ hroom
      have hr := run_append_room_src (P := P) w t tx ty e i ht hi g 0 n cap x m news hs' hroom
        (fun j hj => by rw [hcell, hsize]; rw [Array.getElem?_eq_getElem (by rw [hcs]; omega)]; rfl) (fun j hj => hfr _)
      rw [hsize] at hr
      simp only [Nat.zero_add] at hr
      have hsr : w.setCells g (n * sz) news = w.setRow g (cur.toList.take (n * sz) ++ news ++ cur.toList.drop (n * sz + news.length)).toArray := by
        have h2 := run_storeCells_at P g (n * sz) e news 0 cur w hg (by omega) hs.one
        have h3 := run_storeCells_cells (P := P) g (n * sz) news 0 w (fun j hj => by rw [hcell]; rw [Array.getElem?_eq_getElem (by rw [hcs]; omega)]; rfl) (fun j hj => hfr _) hs.one
        simp only [Nat.add_zero] at h2 h3
        rw [h2] at h3
        injection h3 with _ h3
        exact h3.symm
      rw [hsr] at hr
      refine ⟨_, _, hr, ⟨hlen, .inr ⟨g, cap, _, rfl, hbg, setRow_heap w g cur _ e _ hg, hroom, hcm, ?_, ?_⟩⟩, ⟨rfl, rfl, rfl, by simp, fun k _ hk => setRow_other w g k _ (fun e => hk (by simp [Value.ownBlock, e]))⟩, .inl rfl⟩
      · simp only [List.size_toArray, List.length_append, List.length_take, List.length_drop, Array.length_toList]
        omega
      · simp only
        rw [htake, ← hlen]
        exact List.take_left
    · refine grow (some ⟨g, 0, none⟩) cap (by omega) ?_
      exact run_firstCells_some w.drew i.size n ⟨g, 0, none⟩ n cap xs (by rw [hxl, hsize]) (by have := hown.cells (g := g) rfl; simpa using this)

/-- within a fence -/
theorem wpListIn_append_sz {F : Fence} {q : Nat} {ops : Array Oper} {rest : List Oper} {o : Oper} {a : Act} {Q : Exit → Act → World → Prop}
    (hg : o.guard = none) (s x : Operand) (t tx : TypeId) (hop : o.op = Op.call { callee := Callee.builtin Builtin.append, args := #[s, x], argTypes := #[t, tx] })
    (base : Nat) (e : TypeId) (i : TypeInfo) (z : Value) (sz bytes : Nat) (ht : P.underlying t = some (.slice e)) (hi : P.info? e = some i) (hz : i.zero = some z)
    (hsize : i.size = sz) (hsz : 0 < sz) (hby : i.bytes = bytes) (hzs : z.cells.size = sz)
    (v : Value) (n : Nat) (xs : List Value) (hsv : a.eval s = v) (hown : w.ownsRow base e sz v n xs) (xv : Value) (hx : a.eval x = xv) (m : Nat) (news : List Value) (hs : Src P sz tx xv m news w)
    (h63 : n + m ≤ maxLen) (hbytes : (n + m) * bytes ≤ 140737488355328) (hbase : base ≤ w.heap.size)
    (hK : ∀ a' cap' w', w'.ownsRow base e sz (.slice a' (n + m) cap') (n + m) (xs ++ news) → w.grownBy w' v.ownBlock → (Value.ownBlock (.slice a' (n + m) cap') = v.ownBlock ∨ Value.ownBlock (.slice a' (n + m) cap') = some w.heap.size) → wpListIn F q P ops Q rest (a.put o.dst (.slice a' (n + m) cap')) w') :
    wpListIn F q P ops Q (o :: rest) a w := by
  refine wpListIn_plain hg fun K hK' => ?_
  obtain ⟨v', w', hrun, r1, r2, r3⟩ := run_append_sz (P := P) w t tx o.type base e i z sz bytes ht hi hz hsize hsz hby hzs v n xs hown xv m news hs h63 hbytes hbase
  obtain ⟨a', cap', rfl⟩ := own_form r1
  unfold Oper.wpIn
  refine ⟨?_, ?_⟩
  · simp [Oper.about, hop, resolve, Target.leads, Sem.run_pure]
  · rw [Oper.semAt_plain F _ _ (by rw [hop]; intro c hc'; cases hc')]
    simp [execOp, hop, resolve, invoke, builtin, hsv, hx, hrun, Result.andThen]
    exact hK' _ _ (hK a' cap' w' r1 r2 r3)
theorem wpList_append_sz {ops : Array Oper} {rest : List Oper} {o : Oper} {a : Act} {Q : Exit → Act → World → Prop} (hgd : o.guard = none) (s x : Operand) (t tx : TypeId)
    (ho : o.op = .call { callee := .builtin .append, args := #[s, x], argTypes := #[t, tx] })
    (base : Nat) (e : TypeId) (i : TypeInfo) (z : Value) (sz bytes : Nat) (ht : P.underlying t = some (.slice e)) (hi : P.info? e = some i) (hz : i.zero = some z)
    (hsize : i.size = sz) (hsz : 0 < sz) (hby : i.bytes = bytes) (hzs : z.cells.size = sz)
    (v : Value) (n : Nat) (xs : List Value) (hsv : a.eval s = v) (hown : w.ownsRow base e sz v n xs) (xv : Value) (hx : a.eval x = xv) (m : Nat) (news : List Value) (hs : Src P sz tx xv m news w)
    (h63 : n + m ≤ maxLen) (hbytes : (n + m) * bytes ≤ 140737488355328) (hbase : base ≤ w.heap.size)
    (h : ∀ a' cap' w', w'.ownsRow base e sz (.slice a' (n + m) cap') (n + m) (xs ++ news) → w.grownBy w' v.ownBlock → (Value.ownBlock (.slice a' (n + m) cap') = v.ownBlock ∨ Value.ownBlock (.slice a' (n + m) cap') = some w.heap.size) → wpList P ops Q rest (a.put o.dst (.slice a' (n + m) cap')) w') : wpList P ops Q (o :: rest) a w := by
  refine wpList_plain hgd fun K hK => ?_
  obtain ⟨v', w', hr, h2, h3, h4⟩ := run_append_sz (P := P) w t tx o.type base e i z sz bytes ht hi hz hsize hsz hby hzs v n xs hown xv m news hs h63 hbytes hbase
  unfold Oper.wp execOp
  obtain ⟨a', cap', rfl⟩ := own_form h2
  simp only [ho, resolve, invoke, builtin, Sem.run_bind, Sem.run_pure, Result.andThen_ok, List.map_toArray, List.map_cons, List.map_nil, hsv, hx, hr]
  exact hK _ _ (h a' cap' w' h2 h3 h4)
end
end Go.Proofs.Ytekddgmmfgpehaa.mem
/-!   Rows of one's own: what keeps them. Imports nothing of the program.
-/
namespace Go.Proofs.Ytekddgmmfgpehaa.mem
open Go.RowKit aid
set_option linter.unusedVariables false

theorem al {w : World} (o : Obj) : Below w.heap.size w (w.alloc o) := (Below.refl _ _).alloc (Nat.le_refl _) _
theorem own_step {W W' : World} {base : Nat} {e : TypeId} {size : Nat} {v : Value} {n : Nat} {xs : List Value} (ho : W.ownsRow base e size v n xs) (h : ∀ k o, v.ownBlock = some k → W.heap[k]? = some o → W'.heap[k]? = some o) : W'.ownsRow base e size v n xs := by
  refine ⟨ho.1, ?_⟩
  rcases ho.2 with hn | ⟨g, cap, cur, rfl, hb, hgg, rest⟩
  · exact .inl hn
  · exact .inr ⟨g, cap, cur, rfl, hb, h g _ rfl hgg, rest⟩
theorem own_later {W W' : World} {base : Nat} {e : TypeId} {size : Nat} {v : Value} {n : Nat} {xs : List Value} (ho : W.ownsRow base e size v n xs) (h : Below W.heap.size W W') : W'.ownsRow base e size v n xs :=
  own_step ho (fun k o _ hk => (h.block k (lt_of_block hk)).trans hk)
theorem own_in {W : World} {base : Nat} {e : TypeId} {size : Nat} {v : Value} {n : Nat} {xs : List Value} (ho : W.ownsRow base e size v n xs) {k : Nat} (hk : v.ownBlock = some k) : k < W.heap.size ∧ base ≤ k := by
  rcases ho.2 with ⟨rfl, _⟩ | ⟨g, cap, cur, rfl, hb, hgg, rest⟩
  · cases hk
  · cases hk; exact ⟨lt_of_block hgg, hb⟩
theorem below_grown {w w1 : World} {v : Value} {B : Nat} (hg : w.grownBy w1 v.ownBlock) (hB : B ≤ w.heap.size) (hv : ∀ k, v.ownBlock = some k → B ≤ k) : Below B w w1 :=
  ⟨hg.os, hg.tape, hg.output, hg.size, fun k hk => hg.block k (by omega) (fun e => by have := hv k e.symm; omega)⟩
theorem info_split {o : Option TypeInfo} {z : Value} {a b : Nat} (h : o.map (fun i => (i.zero, i.size, i.bytes)) = some (some z, a, b)) : ∃ i, o = some i ∧ i.zero = some z ∧ i.size = a ∧ i.bytes = b := by
  cases o with
  | none => simp at h
  | some i => simp at h; exact ⟨i, rfl, h.1, h.2.1, h.2.2⟩
section
variable {P : Program} (w : World)
/-- append as a step of a region that draws its order: elements of any size -/
theorem step_append_sz {ops : Array Oper} {o : Oper} {a : Act} {K : Act → World → Prop} {Q : Exit → Act → World → Prop} {E : Prop} (hgd : o.guard = none) (s x : Operand) (t tx : TypeId)
    (ho : o.op = .call { callee := .builtin .append, args := #[s, x], argTypes := #[t, tx] })
    (base : Nat) (e : TypeId) (i : TypeInfo) (z : Value) (sz bytes : Nat) (ht : P.underlying t = some (.slice e)) (hi : P.info? e = some i) (hz : i.zero = some z)
    (hsize : i.size = sz) (hsz : 0 < sz) (hby : i.bytes = bytes) (hzs : z.cells.size = sz)
    (v : Value) (n : Nat) (xs : List Value) (hsv : a.eval s = v) (hown : w.ownsRow base e sz v n xs) (xv : Value) (hx : a.eval x = xv) (m : Nat) (news : List Value) (hs : Src P sz tx xv m news w)
    (h63 : n + m ≤ maxLen) (hbytes : (n + m) * bytes ≤ 140737488355328) (hbase : base ≤ w.heap.size)
    (h : ∀ a' cap' w', w'.ownsRow base e sz (.slice a' (n + m) cap') (n + m) (xs ++ news) → w.grownBy w' v.ownBlock → (Value.ownBlock (.slice a' (n + m) cap') = v.ownBlock ∨ Value.ownBlock (.slice a' (n + m) cap') = some w.heap.size) → K (a.put o.dst (.slice a' (n + m) cap')) w') :
    if Region.wanted o (yielded ops a.tmps) = true then Oper.wp P o a w K Q else E := by
  have hw : Region.wanted o (yielded ops a.tmps) = true := by simp [Region.wanted, hgd]
  rw [if_pos hw]
  obtain ⟨v', w', hr, h2, h3, h4⟩ := run_append_sz (P := P) w t tx o.type base e i z sz bytes ht hi hz hsize hsz hby hzs v n xs hown xv m news hs h63 hbytes hbase
  unfold Oper.wp execOp
  obtain ⟨a', cap', rfl⟩ := own_form h2
  simp only [ho, resolve, invoke, builtin, Sem.run_bind, Sem.run_pure, Result.andThen_ok, List.map_toArray, List.map_cons, List.map_nil, hsv, hx, hr]
  exact h a' cap' w' h2 h3 h4
end
end Go.Proofs.Ytekddgmmfgpehaa.mem
/-!   Slices with room behind them, that lead into a row of one's own anywhere; append onto them. Imports nothing of the program.
-/
namespace Go.Proofs.Ytekddgmmfgpehaa.mem
open Go.RowKit aid
set_option linter.unusedVariables false

structure SlR (w : World) (e : TypeId) (sz : Nat) (a : Option Addr) (n cap : Nat) (xs : List Value) : Prop where
  len : xs.length = n * sz
  le : n ≤ cap
  most : cap ≤ maxLen
  rest : 0 < cap → ∃ g off cur, a = some ⟨g, off, none⟩ ∧ w.heap[g]? = some (.cells cur e (0, 0)) ∧ off + cap * sz ≤ cur.size ∧ ∀ j, j < n * sz → cur[off + j]? = xs[j]?
/-- the block that it may write -/
def blk (a : Option Addr) (cap : Nat) : List Nat := if cap = 0 then [] else a.toList.map (·.block)
theorem blk_zero (a : Option Addr) : blk a 0 = [] := rfl
theorem blk_some (g off cap : Nat) (h : 0 < cap) : blk (some ⟨g, off, none⟩) cap = [g] := by unfold blk; rw [if_neg (by omega)]; rfl
theorem SlR.nil (w : World) (e : TypeId) (sz : Nat) : SlR w e sz none 0 0 [] := ⟨by simp, Nat.le_refl _, by simp [maxLen], fun h => by omega⟩
theorem SlR.keep {w w' : World} {e : TypeId} {sz : Nat} {a : Option Addr} {n cap : Nat} {xs : List Value} (h : SlR w e sz a n cap xs) {S : List Nat} (hk : Kept S w w') (hd : ∀ b ∈ blk a cap, b ∉ S) : SlR w' e sz a n cap xs :=
  ⟨h.len, h.le, h.most, fun h0 => by
    obtain ⟨g, off, cur, rfl, hg, h1, h2⟩ := h.rest h0
    exact ⟨g, off, cur, rfl, hk.heap (hd g (by rw [blk_some _ _ _ h0]; simp)) hg, h1, h2⟩⟩
theorem SlR.later {w w' : World} {e : TypeId} {sz : Nat} {a : Option Addr} {n cap : Nat} {xs : List Value} (h : SlR w e sz a n cap xs) (hk : Below w.heap.size w w') : SlR w' e sz a n cap xs :=
  h.keep (Kept.of_below hk (Nat.le_refl _) []) (fun _ _ => by simp)
theorem SlR.lt {w : World} {e : TypeId} {sz : Nat} {a : Option Addr} {n cap : Nat} {xs : List Value} (h : SlR w e sz a n cap xs) : ∀ b ∈ blk a cap, b < w.heap.size ∧ ∃ cur, w.heap[b]? = some (.cells cur e (0, 0)) := by
  intro b hb
  by_cases h0 : cap = 0
  · subst h0; simp [blk_zero] at hb
  · obtain ⟨g, off, cur, rfl, hg, _⟩ := h.rest (by omega)
    rw [blk_some _ _ _ (by omega)] at hb
    simp at hb
    subst hb
    exact ⟨lt_of_block hg, cur, hg⟩
/-- the cells of it -/
theorem SlR.cell {w : World} {e : TypeId} {sz : Nat} {a : Option Addr} {n cap : Nat} {xs : List Value} (h : SlR w e sz a n cap xs) (h0 : 0 < cap) : ∃ g off, a = some ⟨g, off, none⟩ ∧ ∀ j, j < n * sz → w.cell? ⟨g, off + j, none⟩ = xs[j]? := by
  obtain ⟨g, off, cur, rfl, hg, h1, h2⟩ := h.rest h0
  exact ⟨g, off, rfl, fun j hj => by rw [cell_of_row w g _ _ _ (0, 0) hg]; exact h2 j hj⟩
/-- a piece of it, with some of its room: where it has room, its address is moved -/
theorem SlR.sub {w : World} {e : TypeId} {sz : Nat} {g off n cap : Nat} {xs : List Value} (h : SlR w e sz (some ⟨g, off, none⟩) n cap xs) (b f r : Nat) (hbf : b ≤ f) (hfn : f ≤ n) (hfr : f ≤ r) (hr : r ≤ cap) (hbr : b < r) :
    SlR w e sz (some ⟨g, off + b * sz, none⟩) (f - b) (r - b) ((xs.take (f * sz)).drop (b * sz)) := by
  have hm1 : b * sz ≤ f * sz := Nat.mul_le_mul_right _ hbf
  have hm2 : f * sz ≤ n * sz := Nat.mul_le_mul_right _ hfn
  have hm3 : r * sz ≤ cap * sz := Nat.mul_le_mul_right _ hr
  have hsb : (f - b) * sz = f * sz - b * sz := Nat.sub_mul _ _ _
  have hsr : (r - b) * sz = r * sz - b * sz := Nat.sub_mul _ _ _
  have hm4 : b * sz ≤ r * sz := Nat.mul_le_mul_right _ (by omega)
  refine ⟨?_, by omega, by have := h.most; omega, fun _ => ?_⟩
  · have := h.len
    rw [List.length_drop, List.length_take, hsb]
    omega
  · obtain ⟨g', off', cur, hx, hg, h1, h2⟩ := h.rest (by omega)
    injection hx with hx
    injection hx with hx1 hx2
    subst hx1 hx2
    refine ⟨g, off + b * sz, cur, rfl, hg, by omega, fun j hj => ?_⟩
    rw [Nat.add_assoc, h2 (b * sz + j) (by omega), List.getElem?_drop, List.getElem?_take, if_pos (by omega)]
/-- where it has none, whatever its address -/
theorem SlR.sub0 {w : World} {e : TypeId} {sz : Nat} (a : Option Addr) : SlR w e sz a 0 0 [] := ⟨by simp, Nat.le_refl _, by simp [maxLen], fun h => by omega⟩
/-- as what is appended -/
theorem SlR.src {P : Program} {w : World} {e : TypeId} {sz : Nat} {a : Option Addr} {n cap : Nat} {xs : List Value} {t : TypeId} (h : SlR w e sz a n cap xs) (ht : P.underlying t = some (.slice e)) (h1 : ∀ u ∈ xs, u.oneCell' = true) : Src P sz t (.slice a n cap) n xs w := by
  cases a with
  | none =>
    have hn : n = 0 := by
      by_cases h0 : cap = 0
      · have := h.le; omega
      · obtain ⟨g, off, cur, hx, _⟩ := h.rest (by omega)
        cases hx
    subst hn
    have hx0 : xs = [] := List.eq_nil_of_length_eq_zero (by have := h.len; omega)
    subst hx0
    exact Src.ofNil w ht cap
  | some x =>
    refine Src.ofSlice w ht x n cap _ h.len ?_ h1
    intro j u hu
    have hj : j < n * sz := by rw [← h.len]; exact (List.getElem?_eq_some_iff.1 hu).1
    have h0 : 0 < cap := by
      by_cases h0 : cap = 0
      · have := h.le; have : n = 0 := by omega
        subst this; omega
      · omega
    obtain ⟨g, off, hx, hc⟩ := h.cell h0
    obtain rfl : x = ⟨g, off, none⟩ := by injection hx
    have hadd : (⟨g, off, none⟩ : Addr).add j = ⟨g, off + j, none⟩ := by unfold Addr.add; split <;> simp_all
    rw [hadd, hc j hj, hu]
/-- a row of one's own is one -/
theorem slr_of_own {w : World} {base : Nat} {e : TypeId} {sz : Nat} {v : Value} {n : Nat} {xs : List Value} (h : w.ownsRow base e sz v n xs) : ∃ a cap, v = .slice a n cap ∧ SlR w e sz a n cap xs ∧ ∀ b ∈ blk a cap, base ≤ b := by
  rcases h.2 with ⟨rfl, rfl⟩ | ⟨g, cap, cur, rfl, hb, hg, hn, hm, hc, ht⟩
  · have := h.1
    have : xs = [] := List.eq_nil_of_length_eq_zero (by omega)
    subst this
    exact ⟨none, 0, rfl, SlR.nil w e sz, fun b hb => by simp [blk_zero] at hb⟩
  · refine ⟨some ⟨g, 0, none⟩, cap, rfl, ⟨by simpa using h.1, hn, hm, fun _ => ⟨g, 0, cur, rfl, hg, by omega, fun j hj => ?_⟩⟩, fun b hb' => ?_⟩
    · rw [← ht, List.getElem?_take, if_pos hj]
      simp
    · by_cases h0 : cap = 0
      · subst h0; simp [blk_zero] at hb'
      · rw [blk_some _ _ _ (by omega)] at hb'
        simp at hb'
        omega
section
variable {P : Program} (w : World)
theorem run_append_slr (t tx ty : TypeId) (e : TypeId) (i : TypeInfo) (z : Value) (sz bytes : Nat) (ht : P.underlying t = some (.slice e)) (hi : P.info? e = some i) (hz : i.zero = some z)
    (hsize : i.size = sz) (hsz : 0 < sz) (hby : i.bytes = bytes) (hzs : z.cells.size = sz)
    (a : Option Addr) (n cap : Nat) (xs : List Value) (hown : SlR w e sz a n cap xs) (x : Value) (m : Nat) (hm0 : 0 < m) (news : List Value) (hs : Src P sz tx x m news w)
    (h63 : n + m ≤ maxLen) (hbytes : (n + m) * bytes ≤ 140737488355328) :
    ∃ a' cap' w', (Builtin.append_ #[t, tx] ty #[.slice a n cap, x]).run P w = .ok (.slice a' (n + m) cap') w' ∧ SlR w' e sz a' (n + m) cap' (xs ++ news) ∧ Kept (blk a cap) w w' ∧
      ∀ b ∈ blk a' cap', b ∈ blk a cap ∨ w.heap.size ≤ b := by
  have hnl : news.length = m * sz := by simpa using hs.newsLen
  have hxl : xs.length = n * sz := hown.len
  have h63' : ((n + m : Nat) : Int) ≤ 9223372036854775807 := by unfold maxLen at h63; omega
  have hs' : Src P i.size tx x m news w := by rw [hsize]; exact hs
  have hlen : (xs ++ news).length = (n + m) * sz := by rw [List.length_append, hxl, hnl, Nat.add_mul]
  by_cases hroom : n + m ≤ cap
  · obtain ⟨g, off, cur, rfl, hg, h1, h2⟩ := hown.rest (by omega)
    have hcell : ∀ j, w.cell? ⟨g, j, none⟩ = cur[j]? := fun j => cell_of_row w g j cur e (0, 0) hg
    have hfr : ∀ j, w.frozen? ⟨g, j, none⟩ = false := fun j => by simp [World.frozen?, hg]
    have hmul : n * sz + m * sz ≤ cap * sz := by rw [← Nat.add_mul]; exact Nat.mul_le_mul_right _ hroom
    have hr := run_append_room_src (P := P) w t tx ty e i ht hi g off n cap x m news hs' hroom
      (fun j hj => by rw [hcell, hsize]; rw [Array.getElem?_eq_getElem (by omega)]; rfl) (fun j hj => hfr _)
    rw [hsize] at hr
    have hsr : w.setCells g (off + n * sz) news = w.setRow g (cur.toList.take (off + n * sz) ++ news ++ cur.toList.drop (off + n * sz + news.length)).toArray := by
      have h2 := run_storeCells_at P g (off + n * sz) e news 0 cur w hg (by omega) hs.one
      have h3 := run_storeCells_cells (P := P) g (off + n * sz) news 0 w (fun j hj => by rw [hcell]; rw [Array.getElem?_eq_getElem (by omega)]; rfl) (fun j hj => hfr _) hs.one
      simp only [Nat.add_zero] at h2 h3
      rw [h2] at h3
      injection h3 with _ h3
      exact h3.symm
    rw [hsr] at hr
    have hcap : 0 < cap := by omega
    refine ⟨_, _, _, hr, ⟨hlen, hroom, hown.most, fun _ => ⟨g, off, _, rfl, setRow_heap w g cur _ e _ hg, ?_, fun j hj => ?_⟩⟩, ⟨rfl, rfl, rfl, by simp, fun k _ hk => setRow_other w g k _ (fun e => hk (by rw [blk_some _ _ _ hcap]; simp [e]))⟩, fun b hb => .inl hb⟩
    · simp only [List.size_toArray, List.length_append, List.length_take, List.length_drop, Array.length_toList]
      omega
    · have hl1 : (cur.toList.take (off + n * sz)).length = off + n * sz := by rw [List.length_take, Array.length_toList]; omega
      rw [List.getElem?_toArray]
      rw [Nat.add_mul] at hj
      by_cases hjn : j < n * sz
      · rw [List.getElem?_append_left (by rw [List.length_append, hl1]; omega), List.getElem?_append_left (by rw [hl1]; omega), List.getElem?_append_left (by omega), ← h2 j hjn, List.getElem?_take, if_pos (by omega)]
        simp
      · rw [List.getElem?_append_left (by rw [List.length_append, hl1]; omega), List.getElem?_append_right (by rw [hl1]; omega), List.getElem?_append_right (by omega), hl1, hxl]
        congr 1
        omega
  · have hold : (Builtin.firstCells i.size n (.slice a n cap)).run P w.drew = .ok xs.toArray w.drew := by
      cases hc0 : cap with
      | zero =>
        have hn0 : n = 0 := by have := hown.le; omega
        subst hn0
        have hx0 : xs = [] := List.eq_nil_of_length_eq_zero (by omega)
        subst hx0
        cases a with
        | none => exact run_firstCells_none w.drew i.size 0 0 0
        | some y => exact run_firstCells_some w.drew i.size 0 y 0 0 [] (by simp) (fun j v hj => by simp at hj)
      | succ c =>
        obtain ⟨g, off, cur, rfl, hg, h1, h2⟩ := hown.rest (by omega)
        refine run_firstCells_some w.drew i.size n ⟨g, off, none⟩ n (c + 1) xs (by rw [hxl, hsize]) ?_
        intro j v hj
        have hjl : j < n * sz := by rw [← hxl]; exact (List.getElem?_eq_some_iff.1 hj).1
        have hadd : (⟨g, off, none⟩ : Addr).add j = ⟨g, off + j, none⟩ := by unfold Addr.add; split <;> simp_all
        rw [hadd]
        have := cell_of_row w g (off + j) cur e (0, 0) hg
        rw [h2 j hjl, hj] at this
        exact this
    have hr := run_append_grow_src (P := P) w t tx ty e i z ht hi hz a n cap xs hold x m news hs' (by omega) h63' (by rw [hby]; exact growslice_fits (by omega) hbytes)
    have hge := grownCap_ge w (n + m) cap e
    have hgm := grownCap_le_maxLen w (n + m) cap e h63
    refine ⟨_, _, _, hr, ⟨hlen, hge, hgm, fun _ => ⟨w.heap.size, 0, _, rfl, heap_alloc_new w.drew _, ?_, fun j hj => ?_⟩⟩, ⟨rfl, rfl, rfl, by simp, fun k hk _ => Below.heap_alloc w.drew _ k hk⟩, fun b hb => .inr ?_⟩
    · simp only [Array.size_append, List.size_toArray, size_zeroCells, hzs]
      rw [hlen]
      have : grownCap w (n + m) cap e = (n + m) + (grownCap w (n + m) cap e - (n + m)) := by omega
      generalize grownCap w (n + m) cap e - (n + m) = q at *
      rw [this, Nat.add_mul]
      omega
    · rw [Nat.zero_add, Array.getElem?_append_left (by simp only [List.size_toArray]; omega), List.getElem?_toArray]
    · rw [blk_some _ _ _ (by omega)] at hb
      simp at hb
      omega
/-- append as a step of a region that draws its order -/
theorem step_append_slr {ops : Array Oper} {o : Oper} {a : Act} {K : Act → World → Prop} {Q : Exit → Act → World → Prop} {E : Prop} (hgd : o.guard = none) (s x : Operand) (t tx : TypeId)
    (ho : o.op = .call { callee := .builtin .append, args := #[s, x], argTypes := #[t, tx] })
    (e : TypeId) (i : TypeInfo) (z : Value) (sz bytes : Nat) (ht : P.underlying t = some (.slice e)) (hi : P.info? e = some i) (hz : i.zero = some z)
    (hsize : i.size = sz) (hsz : 0 < sz) (hby : i.bytes = bytes) (hzs : z.cells.size = sz)
    (ad : Option Addr) (n cap : Nat) (xs : List Value) (hsv : a.eval s = .slice ad n cap) (hown : SlR w e sz ad n cap xs) (xv : Value) (hx : a.eval x = xv) (m : Nat) (hm0 : 0 < m) (news : List Value) (hs : Src P sz tx xv m news w)
    (h63 : n + m ≤ maxLen) (hbytes : (n + m) * bytes ≤ 140737488355328)
    (h : ∀ a' cap' w', SlR w' e sz a' (n + m) cap' (xs ++ news) → Kept (blk ad cap) w w' → (∀ b ∈ blk a' cap', b ∈ blk ad cap ∨ w.heap.size ≤ b) → K (a.put o.dst (.slice a' (n + m) cap')) w') :
    if Region.wanted o (yielded ops a.tmps) = true then Oper.wp P o a w K Q else E := by
  have hw : Region.wanted o (yielded ops a.tmps) = true := by simp [Region.wanted, hgd]
  rw [if_pos hw]
  obtain ⟨a', cap', w', hr, h2, h3, h4⟩ := run_append_slr (P := P) w t tx o.type e i z sz bytes ht hi hz hsize hsz hby hzs ad n cap xs hown xv m hm0 news hs h63 hbytes
  unfold Oper.wp execOp
  simp only [ho, resolve, invoke, builtin, Sem.run_bind, Sem.run_pure, Result.andThen_ok, List.map_toArray, List.map_cons, List.map_nil, hsv, hx, hr]
  exact h a' cap' w' h2 h3 h4
/-- append as a step of a region in its own order -/
theorem wpList_append_slr {ops : Array Oper} {rest : List Oper} {o : Oper} {a : Act} {Q : Exit → Act → World → Prop} (hgd : o.guard = none) (s x : Operand) (t tx : TypeId)
    (ho : o.op = .call { callee := .builtin .append, args := #[s, x], argTypes := #[t, tx] })
    (e : TypeId) (i : TypeInfo) (z : Value) (sz bytes : Nat) (ht : P.underlying t = some (.slice e)) (hi : P.info? e = some i) (hz : i.zero = some z)
    (hsize : i.size = sz) (hsz : 0 < sz) (hby : i.bytes = bytes) (hzs : z.cells.size = sz)
    (ad : Option Addr) (n cap : Nat) (xs : List Value) (hsv : a.eval s = .slice ad n cap) (hown : SlR w e sz ad n cap xs) (xv : Value) (hx : a.eval x = xv) (m : Nat) (hm0 : 0 < m) (news : List Value) (hs : Src P sz tx xv m news w)
    (h63 : n + m ≤ maxLen) (hbytes : (n + m) * bytes ≤ 140737488355328)
    (h : ∀ a' cap' w', SlR w' e sz a' (n + m) cap' (xs ++ news) → Kept (blk ad cap) w w' → (∀ b ∈ blk a' cap', b ∈ blk ad cap ∨ w.heap.size ≤ b) → wpList P ops Q rest (a.put o.dst (.slice a' (n + m) cap')) w') : wpList P ops Q (o :: rest) a w :=
  wpList_plain hgd fun _ hK => by
    obtain ⟨a', cap', w', hr, h2, h3, h4⟩ := run_append_slr (P := P) w t tx o.type e i z sz bytes ht hi hz hsize hsz hby hzs ad n cap xs hown xv m hm0 news hs h63 hbytes
    unfold Oper.wp execOp
    simp only [ho, resolve, invoke, builtin, Sem.run_bind, Sem.run_pure, Result.andThen_ok, List.map_toArray, List.map_cons, List.map_nil, hsv, hx, hr]
    exact hK _ _ (h a' cap' w' h2 h3 h4)
end
end Go.Proofs.Ytekddgmmfgpehaa.mem
/-!   Rows of which all is known: append into room, copy, clear, append of zeros that grows (slices.Grow). Imports nothing of the program.
-/
namespace Go.Proofs.Ytekddgmmfgpehaa.mem
open Go.RowKit aid
set_option linter.unusedVariables false
set_option linter.unusedSimpArgs false

/-- a slice's row, all of it -/
structure SlP (w : World) (e : TypeId) (sz g off n cap : Nat) (xs P R : List Value) : Prop where
  heap : w.heap[g]? = some (.cells (P ++ xs ++ R).toArray e (0, 0))
  p : P.length = off
  len : xs.length = n * sz
  le : n ≤ cap
  most : cap ≤ maxLen
  room : cap * sz ≤ xs.length + R.length
theorem SlP.slr {w : World} {e : TypeId} {sz g off n cap : Nat} {xs P R : List Value} (h : SlP w e sz g off n cap xs P R) : SlR w e sz (some ⟨g, off, none⟩) n cap xs :=
  ⟨h.len, h.le, h.most, fun _ => ⟨g, off, _, rfl, h.heap, by
    have h1 := h.p; have h2 := h.room
    simp only [List.size_toArray, List.length_append]
    omega, fun j hj => by
    have h1 := h.p; have h2 := h.len
    rw [List.getElem?_toArray, List.append_assoc, List.getElem?_append_right (by omega), List.getElem?_append_left (by omega)]
    congr 1
    omega⟩⟩
theorem SlR.slp {w : World} {e : TypeId} {sz n cap : Nat} {a : Option Addr} {xs : List Value} (h : SlR w e sz a n cap xs) (h0 : 0 < cap) : ∃ g off P R, a = some ⟨g, off, none⟩ ∧ SlP w e sz g off n cap xs P R := by
  obtain ⟨g, off, cur, rfl, hg, h1, h2⟩ := h.rest h0
  have hmul : n * sz ≤ cap * sz := Nat.mul_le_mul_right _ h.le
  have hlen := h.len
  have e1 : cur.toList = cur.toList.take off ++ xs ++ cur.toList.drop (off + n * sz) := by
    have e2 : (cur.toList.drop off).take (n * sz) = xs := by
      apply List.ext_getElem?
      intro j
      rw [List.getElem?_take]
      by_cases hj : j < n * sz
      · rw [if_pos hj, List.getElem?_drop, ← h2 j hj]
        simp
      · rw [if_neg hj, List.getElem?_eq_none (by omega)]
    conv => lhs; rw [← List.take_append_drop off cur.toList]
    rw [List.append_assoc]
    congr 1
    conv => lhs; rw [← List.take_append_drop (n * sz) (cur.toList.drop off)]
    rw [e2, List.drop_drop]
  refine ⟨g, off, cur.toList.take off, cur.toList.drop (off + n * sz), rfl, ?_, ?_, hlen, h.le, h.most, ?_⟩
  · rw [← e1]; simpa using hg
  · rw [List.length_take, Array.length_toList]; omega
  · show cap * sz ≤ xs.length + (cur.toList.drop (off + n * sz)).length
    have hc : cur.toList.length = cur.size := Array.length_toList
    rw [List.length_drop, hc, hlen]; omega
theorem SlP.later {w w' : World} {e : TypeId} {sz g off n cap : Nat} {xs P R : List Value} (h : SlP w e sz g off n cap xs P R) (hb : Below w.heap.size w w') : SlP w' e sz g off n cap xs P R :=
  ⟨(hb.block _ (lt_of_block h.heap)).trans h.heap, h.p, h.len, h.le, h.most, h.room⟩
theorem addr_add (g off j : Nat) : (⟨g, off, none⟩ : Addr).add j = ⟨g, off + j, none⟩ := by unfold Addr.add; split <;> simp_all
theorem kept_setRow (w : World) (g : Nat) (cs : Array Value) : Kept [g] w (w.setRow g cs) := ⟨rfl, rfl, rfl, by simp [World.setRow], fun k _ hk => setRow_other w g k cs (fun e => hk (by simp [e]))⟩
section
variable {P : Program} (w : World)
/-- what a store of cells leaves -/
theorem run_store_row (g o : Nat) (t : TypeId) (A B C vs : List Value) (hg : w.heap[g]? = some (.cells (A ++ B ++ C).toArray t (0, 0))) (hA : A.length = o) (hB : B.length = vs.length) (h1 : ∀ v ∈ vs, v.oneCell' = true) :
    (storeCells ⟨g, o, none⟩ vs 0).run P w = .ok () (w.setRow g (A ++ vs ++ C).toArray) := by
  have := run_storeCells_at P g o t vs 0 _ w hg (by simp; omega) h1
  rw [this]
  congr 3
  simp only [Nat.add_zero]
  have e1 : (A ++ B ++ C).take o = A := by rw [List.append_assoc, ← hA]; exact List.take_left
  have e2 : (A ++ B ++ C).drop (o + vs.length) = C := by
    rw [show o + vs.length = (A ++ B).length by simp; omega]
    exact List.drop_left
  rw [e1, e2]
/-- append, where there is room -/
theorem run_append_p (t tx ty : TypeId) (e : TypeId) (i : TypeInfo) (sz : Nat) (ht : P.underlying t = some (.slice e)) (hi : P.info? e = some i) (hsize : i.size = sz) (g off n cap : Nat) (A B C : List Value)
    (hg : w.heap[g]? = some (.cells (A ++ B ++ C).toArray e (0, 0))) (hA : A.length = off + n * sz) (x : Value) (m : Nat) (news : List Value) (hs : Src P sz tx x m news w) (hB : B.length = m * sz) (hroom : n + m ≤ cap) :
    (Builtin.append_ #[t, tx] ty #[.slice (some ⟨g, off, none⟩) n cap, x]).run P w = .ok (.slice (some ⟨g, off, none⟩) (n + m) cap) (w.setRow g (A ++ news ++ C).toArray) := by
  subst hsize
  have hnl : news.length = m * i.size := by simpa using hs.newsLen
  have hst := run_store_row (P := P) w g (off + n * i.size) e A B C news hg hA (by rw [hB, hnl]) hs.one
  rcases hs.kind with ⟨e', hk⟩ | hk <;> simp [Builtin.append_, run_underlying ht, run_underlying hk, sizeOf, typeInfo, hi, hs.len, hroom, hs.cells, Addr.add_lit, hst]
theorem step_append_p {ops : Array Oper} {o : Oper} {a : Act} {K : Act → World → Prop} {Q : Exit → Act → World → Prop} {E : Prop} (hgd : o.guard = none) (s x : Operand) (t tx : TypeId)
    (ho : o.op = .call { callee := .builtin .append, args := #[s, x], argTypes := #[t, tx] })
    (e : TypeId) (i : TypeInfo) (sz : Nat) (ht : P.underlying t = some (.slice e)) (hi : P.info? e = some i) (hsize : i.size = sz) (g off n cap : Nat) (A B C : List Value) (hsv : a.eval s = .slice (some ⟨g, off, none⟩) n cap)
    (hg : w.heap[g]? = some (.cells (A ++ B ++ C).toArray e (0, 0))) (hA : A.length = off + n * sz) (xv : Value) (hx : a.eval x = xv) (m : Nat) (news : List Value) (hs : Src P sz tx xv m news w) (hB : B.length = m * sz) (hroom : n + m ≤ cap)
    (h : K (a.put o.dst (.slice (some ⟨g, off, none⟩) (n + m) cap)) (w.setRow g (A ++ news ++ C).toArray)) :
    if Region.wanted o (yielded ops a.tmps) = true then Oper.wp P o a w K Q else E := by
  have hw : Region.wanted o (yielded ops a.tmps) = true := by simp [Region.wanted, hgd]
  rw [if_pos hw]
  have hr := run_append_p (P := P) w t tx o.type e i sz ht hi hsize g off n cap A B C hg hA xv m news hs hB hroom
  unfold Oper.wp execOp
  simp only [ho, resolve, invoke, builtin, Sem.run_bind, Sem.run_pure, Result.andThen_ok, List.map_toArray, List.map_cons, List.map_nil, hsv, hx, hr]
  exact h
/-- copy, onto a part of a row -/
theorem run_copy_p (t tx ty : TypeId) (e : TypeId) (i : TypeInfo) (sz : Nat) (ht : P.underlying t = some (.slice e)) (hi : P.info? e = some i) (hsize : i.size = sz) (g off cap m : Nat) (A B C : List Value)
    (hg : w.heap[g]? = some (.cells (A ++ B ++ C).toArray e (0, 0))) (hA : A.length = off) (x : Value) (news : List Value) (hs : Src P sz tx x m news w) (hB : B.length = m * sz) :
    (Builtin.copy_ #[t, tx] ty #[.slice (some ⟨g, off, none⟩) m cap, x]).run P w = .ok (goInt m) (w.setRow g (A ++ news ++ C).toArray) := by
  subst hsize
  have hnl : news.length = m * i.size := by simpa using hs.newsLen
  have hst := run_store_row (P := P) w g off e A B C news hg hA (by rw [hB, hnl]) hs.one
  simp [Builtin.copy_, run_underlying ht, sizeOf, typeInfo, hi, hs.len, hs.cells, hst]
theorem wpList_copy_p {ops : Array Oper} {rest : List Oper} {o : Oper} {a : Act} {Q : Exit → Act → World → Prop} (hgd : o.guard = none) (s x : Operand) (t tx : TypeId)
    (ho : o.op = .call { callee := .builtin .copy, args := #[s, x], argTypes := #[t, tx] })
    (e : TypeId) (i : TypeInfo) (sz : Nat) (ht : P.underlying t = some (.slice e)) (hi : P.info? e = some i) (hsize : i.size = sz) (g off cap m : Nat) (A B C : List Value) (hsv : a.eval s = .slice (some ⟨g, off, none⟩) m cap)
    (hg : w.heap[g]? = some (.cells (A ++ B ++ C).toArray e (0, 0))) (hA : A.length = off) (xv : Value) (hx : a.eval x = xv) (news : List Value) (hs : Src P sz tx xv m news w) (hB : B.length = m * sz)
    (h : wpList P ops Q rest (a.put o.dst (goInt m)) (w.setRow g (A ++ news ++ C).toArray)) : wpList P ops Q (o :: rest) a w :=
  wpList_plain hgd fun _ hK => by
    have hr := run_copy_p (P := P) w t tx o.type e i sz ht hi hsize g off cap m A B C hg hA xv news hs hB
    unfold Oper.wp execOp
    simp only [ho, resolve, invoke, builtin, Sem.run_bind, Sem.run_pure, Result.andThen_ok, List.map_toArray, List.map_cons, List.map_nil, hsv, hx, hr]
    exact hK _ _ h
/-- nothing is copied -/
theorem run_copy_p0 (t tx ty : TypeId) (e : TypeId) (i : TypeInfo) (ht : P.underlying t = some (.slice e)) (hi : P.info? e = some i) (b : Option Addr) (cap : Nat) (c : Option Addr) (m k : Nat) :
    (Builtin.copy_ #[t, tx] ty #[.slice b 0 cap, .slice c m k]).run P w = .ok (goInt 0) w := by
  have hl : (Builtin.lenOf (.slice c m k)).run P w = .ok m w := rfl
  have hf : (Builtin.firstCells i.size 0 (.slice c m k)).run P w = .ok #[] w := by
    cases c with
    | none => simp [Builtin.firstCells]
    | some y => exact run_firstCells_some w i.size 0 y m k [] (by simp) (fun j v hj => by simp at hj)
  cases b <;> simp [Builtin.copy_, run_underlying ht, sizeOf, typeInfo, hi, hl, hf, storeCells]
theorem wpList_copy_p0 {ops : Array Oper} {rest : List Oper} {o : Oper} {a : Act} {Q : Exit → Act → World → Prop} (hgd : o.guard = none) (s x : Operand) (t tx : TypeId)
    (ho : o.op = .call { callee := .builtin .copy, args := #[s, x], argTypes := #[t, tx] })
    (e : TypeId) (i : TypeInfo) (ht : P.underlying t = some (.slice e)) (hi : P.info? e = some i) (b : Option Addr) (cap : Nat) (c : Option Addr) (m k : Nat) (hsv : a.eval s = .slice b 0 cap) (hx : a.eval x = .slice c m k)
    (h : wpList P ops Q rest (a.put o.dst (goInt 0)) w) : wpList P ops Q (o :: rest) a w :=
  wpList_plain hgd fun _ hK => by
    have hr := run_copy_p0 (P := P) w t tx o.type e i ht hi b cap c m k
    unfold Oper.wp execOp
    simp only [ho, resolve, invoke, builtin, Sem.run_bind, Sem.run_pure, Result.andThen_ok, List.map_toArray, List.map_cons, List.map_nil, hsv, hx, hr]
    exact hK _ _ h
/-- append of zeros that grows -/
theorem run_append_zeros (t tx ty : TypeId) (e : TypeId) (i : TypeInfo) (z : Value) (k : IntKind) (ht : P.underlying t = some (.slice e)) (htx : P.underlying tx = some (.int k)) (hi : P.info? e = some i) (hz : i.zero = some z) (hsz : 0 < i.size) (b : Option Addr) (n cap : Nat) (olds : List Value)
    (hold : (Builtin.firstCells i.size n (.slice b n cap)).run P w.drew = .ok olds.toArray w.drew) (m : Nat) (hm0 : 0 < m) (hg : cap < n + m) (h63 : n + m ≤ maxLen) (hbytes : (n + m) * i.bytes ≤ 140737488355328) :
    (Builtin.append_ #[t, tx] ty #[.slice b n cap, .int .i64 m]).run P w = .ok (.slice (some ⟨w.heap.size, 0, none⟩) (n + m) (grownCap w (n + m) cap e))
      (w.drew.alloc (.cells ((olds ++ (Builtin.zeroCells z.cells m).toList).toArray ++ Builtin.zeroCells z.cells (grownCap w (n + m) cap e - (n + m))) e)) := by
  have hn : ¬ (n + m ≤ cap) := by omega
  unfold maxLen at h63
  have hmb : m * i.bytes ≤ (n + m) * i.bytes := Nat.mul_le_mul_right _ (by omega)
  have h63' : ¬ (9223372036854775807 < ((n : Int) + (m : Int))) := by omega
  have hfit : Builtin.nextslicecap (n + m) cap * i.bytes ≤ 281474976710656 := growslice_fits (by omega) hbytes
  have h48' : ¬ (281474976710656 < Builtin.nextslicecap (n + m) cap * i.bytes) := by omega
  have hw : IntKind.i64.wrap (m : Int) = (m : Int) := IntWalk.i64_in _ (by omega)
  have h0 : ¬ ((m : Int) < 0) := by omega
  have h1 : ¬ (281474976710656 < (m : Int) * (i.bytes : Int)) := by
    have : ((m * i.bytes : Nat) : Int) = (m : Int) * (i.bytes : Int) := by simp
    omega
  have h2 : ¬ (m * i.size = 0) := by
    have := Nat.mul_pos hm0 hsz
    omega
  have h3 : ¬ (m = 0) := by omega
  have h4 : ¬ (i.size = 0) := by omega
  have hai : (asIntOf (.int .i64 (m : Int))).run P w = .ok (.i64, (m : Int)) w := rfl
  simp [Builtin.append_, run_underlying ht, run_underlying htx, sizeOf, typeInfo, zeroValue, hi, hz, asInt, hai, hw, h0, h1, h2, h3, h4, hn, h63', h48', Question.forced, hold, newRow, grownCap]
  congr 2
  apply Array.ext'
  simp [List.append_assoc]
theorem wpList_append_zeros {ops : Array Oper} {rest : List Oper} {o : Oper} {a : Act} {Q : Exit → Act → World → Prop} (hgd : o.guard = none) (s x : Operand) (t tx : TypeId)
    (ho : o.op = .call { callee := .builtin .append, args := #[s, x], argTypes := #[t, tx] })
    (e : TypeId) (i : TypeInfo) (z : Value) (k : IntKind) (ht : P.underlying t = some (.slice e)) (htx : P.underlying tx = some (.int k)) (hi : P.info? e = some i) (hz : i.zero = some z) (hsz : 0 < i.size) (b : Option Addr) (n cap : Nat) (olds : List Value) (hsv : a.eval s = .slice b n cap)
    (hold : (Builtin.firstCells i.size n (.slice b n cap)).run P w.drew = .ok olds.toArray w.drew) (m : Nat) (hx : a.eval x = .int .i64 m) (hm0 : 0 < m) (hg : cap < n + m) (h63 : n + m ≤ maxLen) (hbytes : (n + m) * i.bytes ≤ 140737488355328)
    (h : ∀ cap', n + m ≤ cap' → cap' ≤ maxLen → ∀ w', Hid (w' = w.drew.alloc (.cells ((olds ++ (Builtin.zeroCells z.cells m).toList).toArray ++ Builtin.zeroCells z.cells (cap' - (n + m))) e)) → wpList P ops Q rest (a.put o.dst (.slice (some ⟨w.heap.size, 0, none⟩) (n + m) cap')) w') : wpList P ops Q (o :: rest) a w :=
  wpList_plain hgd fun _ hK => by
    have hr := run_append_zeros (P := P) w t tx o.type e i z k ht htx hi hz hsz b n cap olds hold m hm0 hg h63 hbytes
    unfold Oper.wp execOp
    simp only [ho, resolve, invoke, builtin, Sem.run_bind, Sem.run_pure, Result.andThen_ok, List.map_toArray, List.map_cons, List.map_nil, hsv, hx, hr]
    exact hK _ _ (h _ (grownCap_ge w (n + m) cap e) (grownCap_le_maxLen w (n + m) cap e h63) _ (Lib.hid rfl))
/-- clear -/
theorem run_clear_p (t ty : TypeId) (e : TypeId) (i : TypeInfo) (z : Value) (ht : P.underlying t = some (.slice e)) (hi : P.info? e = some i) (hz : i.zero = some z) (g off cap m : Nat) (hm : 0 < m) (A B C : List Value)
    (hg : w.heap[g]? = some (.cells (A ++ B ++ C).toArray e (0, 0))) (hA : A.length = off) (hB : B.length = (Builtin.zeroCells z.cells m).toList.length) (h1 : ∀ u ∈ (Builtin.zeroCells z.cells m).toList, u.oneCell' = true) :
    (Builtin.clear_ #[t] ty #[.slice (some ⟨g, off, none⟩) m cap]).run P w = .ok (.tuple #[]) (w.setRow g (A ++ (Builtin.zeroCells z.cells m).toList ++ C).toArray) := by
  have hst := run_store_row (P := P) w g off e A B C _ hg hA hB h1
  obtain ⟨q, rfl⟩ : ∃ q, m = q + 1 := ⟨m - 1, by omega⟩
  simp [Builtin.clear_, run_underlying ht, zeroValue, typeInfo, hi, hz, hst]
theorem wpList_clear_p {ops : Array Oper} {rest : List Oper} {o : Oper} {a : Act} {Q : Exit → Act → World → Prop} (hgd : o.guard = none) (s : Operand) (t : TypeId)
    (ho : o.op = .call { callee := .builtin .clear, args := #[s], argTypes := #[t] })
    (e : TypeId) (i : TypeInfo) (z : Value) (ht : P.underlying t = some (.slice e)) (hi : P.info? e = some i) (hz : i.zero = some z) (g off cap m : Nat) (hm : 0 < m) (A B C : List Value) (hsv : a.eval s = .slice (some ⟨g, off, none⟩) m cap)
    (hg : w.heap[g]? = some (.cells (A ++ B ++ C).toArray e (0, 0))) (hA : A.length = off) (hB : B.length = (Builtin.zeroCells z.cells m).toList.length) (h1 : ∀ u ∈ (Builtin.zeroCells z.cells m).toList, u.oneCell' = true)
    (h : wpList P ops Q rest (a.put o.dst (.tuple #[])) (w.setRow g (A ++ (Builtin.zeroCells z.cells m).toList ++ C).toArray)) : wpList P ops Q (o :: rest) a w :=
  wpList_plain hgd fun _ hK => by
    have hr := run_clear_p (P := P) w t o.type e i z ht hi hz g off cap m hm A B C hg hA hB h1
    unfold Oper.wp execOp
    simp only [ho, resolve, invoke, builtin, Sem.run_bind, Sem.run_pure, Result.andThen_ok, List.map_toArray, List.map_cons, List.map_nil, hsv, hr]
    exact hK _ _ h
theorem step_append_q {ops : Array Oper} {o : Oper} {a : Act} {K : Act → World → Prop} {Q : Exit → Act → World → Prop} {E : Prop} (hgd : o.guard = none) (s x : Operand) (t tx : TypeId)
    (ho : o.op = .call { callee := .builtin .append, args := #[s, x], argTypes := #[t, tx] })
    (e : TypeId) (i : TypeInfo) (sz : Nat) (ht : P.underlying t = some (.slice e)) (hi : P.info? e = some i) (hsize : i.size = sz) (g off n cap : Nat) (A B C : List Value) (hsv : a.eval s = .slice (some ⟨g, off, none⟩) n cap)
    (hg : w.heap[g]? = some (.cells (A ++ B ++ C).toArray e (0, 0))) (hA : A.length = off + n * sz) (xv : Value) (hx : a.eval x = xv) (m : Nat) (news : List Value) (hs : Src P sz tx xv m news w) (hB : B.length = m * sz) (hroom : n + m ≤ cap)
    (h : ∀ w', Hid (w'.heap[g]? = some (.cells (A ++ news ++ C).toArray e (0, 0))) → Kept [g] w w' → K (a.put o.dst (.slice (some ⟨g, off, none⟩) (n + m) cap)) w') :
    if Region.wanted o (yielded ops a.tmps) = true then Oper.wp P o a w K Q else E :=
  step_append_p w hgd s x t tx ho e i sz ht hi hsize g off n cap A B C hsv hg hA xv hx m news hs hB hroom (h _ (Lib.hid (setRow_heap w g _ _ e _ hg)) (kept_setRow w g _))
theorem wpList_copy_q {ops : Array Oper} {rest : List Oper} {o : Oper} {a : Act} {Q : Exit → Act → World → Prop} (hgd : o.guard = none) (s x : Operand) (t tx : TypeId)
    (ho : o.op = .call { callee := .builtin .copy, args := #[s, x], argTypes := #[t, tx] })
    (e : TypeId) (i : TypeInfo) (sz : Nat) (ht : P.underlying t = some (.slice e)) (hi : P.info? e = some i) (hsize : i.size = sz) (g off cap m : Nat) (A B C : List Value) (hsv : a.eval s = .slice (some ⟨g, off, none⟩) m cap)
    (hg : w.heap[g]? = some (.cells (A ++ B ++ C).toArray e (0, 0))) (hA : A.length = off) (xv : Value) (hx : a.eval x = xv) (news : List Value) (hs : Src P sz tx xv m news w) (hB : B.length = m * sz)
    (h : ∀ w', Hid (w'.heap[g]? = some (.cells (A ++ news ++ C).toArray e (0, 0))) → Kept [g] w w' → wpList P ops Q rest (a.put o.dst (goInt m)) w') : wpList P ops Q (o :: rest) a w :=
  wpList_copy_p w hgd s x t tx ho e i sz ht hi hsize g off cap m A B C hsv hg hA xv hx news hs hB (h _ (Lib.hid (setRow_heap w g _ _ e _ hg)) (kept_setRow w g _))
end
section
variable {P : Program} (w : World)
/-- append onto a slice without room: a new row -/
theorem run_append_full (t tx ty : TypeId) (e : TypeId) (i : TypeInfo) (z : Value) (sz bytes : Nat) (ht : P.underlying t = some (.slice e)) (hi : P.info? e = some i) (hz : i.zero = some z)
    (hsize : i.size = sz) (hsz : 0 < sz) (hby : i.bytes = bytes) (hzs : z.cells.size = sz)
    (a : Option Addr) (n : Nat) (xs : List Value) (hown : SlR w e sz a n n xs) (x : Value) (m : Nat) (hm0 : 0 < m) (news : List Value) (hs : Src P sz tx x m news w)
    (h63 : n + m ≤ maxLen) (hbytes : (n + m) * bytes ≤ 140737488355328) :
    ∃ a' cap' w', (Builtin.append_ #[t, tx] ty #[.slice a n n, x]).run P w = .ok (.slice a' (n + m) cap') w' ∧ SlR w' e sz a' (n + m) cap' (xs ++ news) ∧ Below w.heap.size w w' ∧
      ∀ b ∈ blk a' cap', w.heap.size ≤ b := by
  have hnl : news.length = m * sz := by simpa using hs.newsLen
  have hxl : xs.length = n * sz := hown.len
  have h63' : ((n + m : Nat) : Int) ≤ 9223372036854775807 := by unfold maxLen at h63; omega
  have hs' : Src P i.size tx x m news w := by rw [hsize]; exact hs
  have hlen : (xs ++ news).length = (n + m) * sz := by rw [List.length_append, hxl, hnl, Nat.add_mul]
  have hold : (Builtin.firstCells i.size n (.slice a n n)).run P w.drew = .ok xs.toArray w.drew := by
    cases hc0 : n with
    | zero =>
      subst hc0
      have hx0 : xs = [] := List.eq_nil_of_length_eq_zero (by omega)
      subst hx0
      cases a with
      | none => exact run_firstCells_none w.drew i.size 0 0 0
      | some y => exact run_firstCells_some w.drew i.size 0 y 0 0 [] (by simp) (fun j v hj => by simp at hj)
    | succ c =>
      obtain ⟨g, off, cur, rfl, hg, h1, h2⟩ := hown.rest (by omega)
      refine run_firstCells_some w.drew i.size (c + 1) ⟨g, off, none⟩ (c + 1) (c + 1) xs (by rw [hxl, hsize, hc0]) ?_
      intro j v hj
      have hjl : j < n * sz := by rw [← hxl]; exact (List.getElem?_eq_some_iff.1 hj).1
      rw [addr_add]
      have := cell_of_row w g (off + j) cur e (0, 0) hg
      rw [h2 j hjl, hj] at this
      exact this
  have hr := run_append_grow_src (P := P) w t tx ty e i z ht hi hz a n n xs hold x m news hs' (by omega) h63' (by rw [hby]; exact growslice_fits (by omega) hbytes)
  have hge := grownCap_ge w (n + m) n e
  have hgm := grownCap_le_maxLen w (n + m) n e h63
  refine ⟨_, _, _, hr, ⟨hlen, hge, hgm, fun _ => ⟨w.heap.size, 0, _, rfl, heap_alloc_new w.drew _, ?_, fun j hj => ?_⟩⟩, ⟨rfl, rfl, rfl, by simp, fun k hk => Below.heap_alloc w.drew _ k hk⟩, fun b hb => ?_⟩
  · simp only [Array.size_append, List.size_toArray, size_zeroCells, hzs]
    rw [hlen]
    have : grownCap w (n + m) n e = (n + m) + (grownCap w (n + m) n e - (n + m)) := by omega
    generalize grownCap w (n + m) n e - (n + m) = q at *
    rw [this, Nat.add_mul]
    omega
  · rw [Nat.zero_add, Array.getElem?_append_left (by simp only [List.size_toArray]; omega), List.getElem?_toArray]
  · rw [blk_some _ _ _ (by omega)] at hb
    simp at hb
    omega
theorem step_append_full {ops : Array Oper} {o : Oper} {a : Act} {K : Act → World → Prop} {Q : Exit → Act → World → Prop} {E : Prop} (hgd : o.guard = none) (s x : Operand) (t tx : TypeId)
    (ho : o.op = .call { callee := .builtin .append, args := #[s, x], argTypes := #[t, tx] })
    (e : TypeId) (i : TypeInfo) (z : Value) (sz bytes : Nat) (ht : P.underlying t = some (.slice e)) (hi : P.info? e = some i) (hz : i.zero = some z)
    (hsize : i.size = sz) (hsz : 0 < sz) (hby : i.bytes = bytes) (hzs : z.cells.size = sz)
    (ad : Option Addr) (n : Nat) (xs : List Value) (hsv : a.eval s = .slice ad n n) (hown : SlR w e sz ad n n xs) (xv : Value) (hx : a.eval x = xv) (m : Nat) (hm0 : 0 < m) (news : List Value) (hs : Src P sz tx xv m news w)
    (h63 : n + m ≤ maxLen) (hbytes : (n + m) * bytes ≤ 140737488355328)
    (h : ∀ a' cap' w', SlR w' e sz a' (n + m) cap' (xs ++ news) → Below w.heap.size w w' → (∀ b ∈ blk a' cap', w.heap.size ≤ b) → K (a.put o.dst (.slice a' (n + m) cap')) w') :
    if Region.wanted o (yielded ops a.tmps) = true then Oper.wp P o a w K Q else E := by
  have hw : Region.wanted o (yielded ops a.tmps) = true := by simp [Region.wanted, hgd]
  rw [if_pos hw]
  obtain ⟨a', cap', w', hr, h2, h3, h4⟩ := run_append_full (P := P) w t tx o.type e i z sz bytes ht hi hz hsize hsz hby hzs ad n xs hown xv m hm0 news hs h63 hbytes
  unfold Oper.wp execOp
  simp only [ho, resolve, invoke, builtin, Sem.run_bind, Sem.run_pure, Result.andThen_ok, List.map_toArray, List.map_cons, List.map_nil, hsv, hx, hr]
  exact h a' cap' w' h2 h3 h4
end
/-- how a row is cut where something is set in a place's stead -/
theorem rep_cut (P xs R : List Value) (off n cap f t E m : Nat) (hP : P.length = off) (hx : xs.length = n * 2) (hr : cap * 2 ≤ xs.length + R.length) (hft : f ≤ t) (htn : t ≤ n) (hE : E = f + m) (hc : n + m ≤ cap) :
    ∃ A1 B1 C1 B2, P ++ xs ++ R = A1 ++ B1 ++ C1 ∧ A1.length = off + E * 2 ∧ B1.length = (n - t) * 2 ∧ A1 = (P ++ xs.take (f * 2)) ++ B2 ∧ B2.length = m * 2 ∧ (P ++ xs.take (f * 2)).length = off + f * 2 ∧ cap * 2 ≤ (E + (n - t)) * 2 + C1.length := by
  refine ⟨P ++ (xs ++ R).take (E * 2), ((xs ++ R).drop (E * 2)).take ((n - t) * 2), ((xs ++ R).drop (E * 2)).drop ((n - t) * 2), ((xs ++ R).take (E * 2)).drop (f * 2), ?_, ?_, ?_, ?_, ?_, ?_, ?_⟩
  · rw [List.append_assoc, List.append_assoc, List.append_assoc, List.take_append_drop, List.take_append_drop]
  · simp only [List.length_append, List.length_take, hP]; omega
  · simp only [List.length_append, List.length_take, List.length_drop]; omega
  · have : xs.take (f * 2) = ((xs ++ R).take (E * 2)).take (f * 2) := by
      rw [List.take_take, show min (f * 2) (E * 2) = f * 2 by omega, List.take_append_of_le_length (by omega)]
    rw [this, List.append_assoc, List.take_append_drop]
  · simp only [List.length_append, List.length_take, List.length_drop]; omega
  · simp only [List.length_append, List.length_take, hP]; omega
  · simp only [List.length_append, List.length_drop]; omega
end Go.Proofs.Ytekddgmmfgpehaa.mem
