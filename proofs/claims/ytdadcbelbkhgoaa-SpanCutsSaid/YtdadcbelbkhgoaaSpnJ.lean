/-
  The walk of the law SpanCuts.
-/
import Derived.Test.YtdadcbelbkhgoaaSpnI
import Derived.Deep.RegionHeld3
namespace Go.Proofs.Ytdadcbelbkhgoaa.sp
open Go.RowKit Go.Shelf aid mem rng
attribute [local go_sem] Oper.semAt_some
set_option linter.unusedVariables false

/-! ### Numbers -/
/-- where the pieces so far end -/
def lastE (a : Int) (pre : List (Int × Int)) : Int := (pre.getLastD (a, a)).2
theorem lastE_snoc (a : Int) (pre : List (Int × Int)) (y : Int × Int) : lastE a (pre ++ [y]) = y.2 := by unfold lastE; simp
theorem last_pcs : ∀ (l : List Int) (f : Int) (d : Int × Int), d.2 = f → ((pcs f l).getLastD d).2 = l.getLastD f := by
  intro l
  induction l with
  | nil => intro f d h; simpa [pcs] using h
  | cons a l ih =>
    intro f d h
    rw [pcs, List.getLastD_cons, List.getLastD_cons]
    exact ih a (f, a) rfl
theorem lastE_pcs (l : List Int) (f : Int) : lastE f (pcs f l) = l.getLastD f := last_pcs l f (f, f) rfl
theorem pcs_take : ∀ (l : List Int) (f : Int) (pre : List (Int × Int)) (y : Int × Int), pre ++ [y] <+: pcs f l → ∃ m, m ++ [y.2] <+: l ∧ pre = pcs f m ∧ y.1 = m.getLastD f := by
  intro l
  induction l with
  | nil =>
    intro f pre y h
    have := h.length_le
    simp [pcs] at this
  | cons a l ih =>
    intro f pre y h
    cases pre with
    | nil =>
      obtain ⟨h1, _⟩ := List.cons_prefix_cons.1 h
      subst h1
      exact ⟨[], List.cons_prefix_cons.2 ⟨rfl, List.nil_prefix⟩, rfl, rfl⟩
    | cons b pre =>
      rw [List.cons_append] at h
      obtain ⟨h1, h2⟩ := List.cons_prefix_cons.1 h
      subst h1
      obtain ⟨m, g1, g2, g3⟩ := ih a pre y h2
      refine ⟨a :: m, List.cons_prefix_cons.2 ⟨rfl, g1⟩, by rw [g2]; rfl, ?_⟩
      rw [g3]
      cases m <;> rfl
theorem ends_len : ∀ (n : Nat) (a t z : Int), 1 ≤ z → (t - a).toNat ≤ n → (endsE a t z).length ≤ n := by
  intro n
  induction n with
  | zero => intro a t z hz h; rw [endsE_nil (by omega)]; simp
  | succ n ih =>
    intro a t z hz h
    by_cases hlt : a < t
    · rw [endsE_step hlt hz]
      have := ih (a + min z (t - a)) t z hz (by omega)
      simpa using this
    · rw [endsE_nil (by omega)]; simp
theorem pcs_length : ∀ (l : List Int) (f : Int), (pcs f l).length = l.length := by
  intro l
  induction l with
  | nil => intro f; rfl
  | cons a l ih => intro f; simp [pcs, ih]
theorem cuts_len (s : Int × Int) (z : Int) : ((cutsL s z).length : Int) ≤ 4611686018427387904 := by
  have hok := fit_ok s.1 s.2
  unfold cutsL endsL
  rw [pcs_length]
  obtain ⟨o1, o2, o3⟩ := hok
  by_cases h : z < 1
  · rw [if_pos h]; simp
  · rw [if_neg h]
    have := ends_len _ (fitP s.1 s.2).1 (fitP s.1 s.2).2 z (by omega) (Nat.le_refl _)
    omega
theorem cut_piece {s : Int × Int} {z : Int} {pre : List (Int × Int)} {y : Int × Int} (h : pre ++ [y] <+: cutsL s z) :
    1 ≤ z ∧ Piece (ofP s).2 z (lastE (ofP s).1 pre) y ∧ Ok y := by
  unfold cutsL endsL at h
  have hok := fit_ok s.1 s.2
  by_cases hz : z < 1
  · rw [if_pos hz] at h
    have := h.length_le
    simp [pcs] at this
  · rw [if_neg hz] at h
    obtain ⟨m, g1, g2, g3⟩ := pcs_take _ _ _ _ h
    have hp := ends_piece _ _ _ z (by omega) (Nat.le_refl _) _ _ g1
    have hlt : (fitP s.1 s.2).1 < (fitP s.1 s.2).2 := by
      by_cases hh : (fitP s.1 s.2).1 < (fitP s.1 s.2).2
      · exact hh
      · rw [endsE_nil (by omega)] at g1
        have := g1.length_le
        simp at this
    have hof : ofP s = fitP s.1 s.2 := by
      rcases of_cases s with ⟨h1, _, _, h4⟩ | ⟨_, _, h3⟩
      · rw [h1, h4]
      · omega
    rw [hof, g2, lastE_pcs, ← g3]
    have hy : y = (m.getLastD (fitP s.1 s.2).1, y.2) := Prod.ext g3 rfl
    rw [← g3] at hp hy
    refine ⟨by omega, ?_, ?_⟩
    · exact hp
    · obtain ⟨_, p2, p3, _, _⟩ := hp
      obtain ⟨o1, o2, o3⟩ := hok
      have hge : (fitP s.1 s.2).1 ≤ y.1 := by
        rw [g3]
        clear h g2 hy g3 p2 p3
        have key : ∀ (n : Nat) (a t : Int) (m : List Int) (v : Int), (t - a).toNat ≤ n → m ++ [v] <+: endsE a t z → a ≤ m.getLastD a := by
          intro n
          induction n with
          | zero => intro a t m v hn hp; rw [endsE_nil (by omega)] at hp; have := hp.length_le; simp at this
          | succ n ih =>
            intro a t m v hn hp
            by_cases hat : a < t
            · rw [endsE_step hat (by omega)] at hp
              cases m with
              | nil => simp
              | cons b m =>
                rw [List.cons_append] at hp
                obtain ⟨h1, h2⟩ := List.cons_prefix_cons.1 hp
                subst h1
                have := ih _ t m v (by omega) h2
                have e : (((a + min z (t - a)) :: m).getLastD a) = m.getLastD (a + min z (t - a)) := by cases m <;> rfl
                rw [e]
                omega
            · rw [endsE_nil (by omega)] at hp; have := hp.length_le; simp at this
        exact key _ _ _ m _ (Nat.le_refl _) g1
      exact ⟨by omega, by simp only at p2 ⊢; omega, by simp only at p3; omega⟩
theorem cut_last {s : Int × Int} {z : Int} (hz : 1 ≤ z) : lastE (ofP s).1 (cutsL s z) = (ofP s).2 := by
  have hok := fit_ok s.1 s.2
  unfold cutsL endsL
  rw [if_neg (by omega)]
  rcases of_cases s with ⟨h1, _, _, h4⟩ | ⟨h1, _, h3⟩
  · rw [h1, h4, lastE_pcs]
    have := ends_last _ s.1 s.2 z hz (by omega) (Nat.le_refl _)
    exact this
  · rw [h1, endsE_nil (by omega)]
    rfl

/-- a range whose assignment makes one box -/
theorem wpIn_rangeB {P : Program} {n : Nat} {α : Type} {g : Operand} {ps : Array Tmp} {assign body : Code} {Q : Exit → Act → World → Prop} {a : Act} {w : World} (fr : Nat → α → Array Value → Array Value)
    {gf : Nat} {lb : Array Value} (hg : a.eval g = .func (.func gf) #[] lb) (eg : ∀ args w, (callFunc gf args).run P w = .ok (.enter gf args) w)
    {encs : α → Array Value} {L : List α} {A : Nat → Prop} {w0 : World} (hseq : SeqOf P gf lb encs L A w0) (hb0 : Below w0.heap.size w0 w) (hps : ∀ x, (encs x).size = ps.size)
    (I : List α → (Nat → Prop) → World → Prop) (Ix : Code → List α → (Nat → Prop) → World → Prop) (C0 : Nat → Prop) (hC0 : ∀ k, C0 k → (A k ∨ w0.heap.size ≤ k) ∧ k < w.heap.size)
    (hI : Bears w.heap.size I) (hIx : ∀ c, Bears w.heap.size (Ix c)) (h0 : I [] C0 w) (Bx : Nat → α → (Nat → Prop) → World → Prop) (hBx : ∀ b x, Bears w.heap.size (fun (_ : Unit) C W => Bx b x C W))
    (hassign : ∀ (l : Nat) (pre : List α) (x : α) (C : Nat → Prop) (W : World) (K : Act → World → Prop), I pre C W → pre ++ [x] <+: L → (∀ k, C k → k < W.heap.size) → w.heap.size ≤ W.heap.size →
      (∀ b C' W', Round C W C' W' → I pre C' W' → Bx b x C' W' → K { tmps := fr b x a.tmps, defers := [] } W') →
      assign.wpIn (Fence.wide.inRound l) (n - 1 - 1) P (Exit.then K (fun _ _ _ => False)) { tmps := (ps.zip (encs x)).foldl (fun t (p, v) => t.setIfInBounds p v) a.tmps, defers := [] } W)
    (hbody : ∀ (l : Nat) (pre : List α) (x : α) (b : Nat) (C : Nat → Prop) (W : World), I pre C W → Bx b x C W → pre ++ [x] <+: L → (∀ k, C k → k < W.heap.size) → w.heap.size ≤ W.heap.size →
      body.wpIn (Fence.wide.inRound l) (n - 1 - 1) P (rPost I Ix (pre ++ [x]) C W) { tmps := fr b x a.tmps, defers := [] } W)
    (hdone : ∀ (D : Nat) (C : Nat → Prop) (W : World), w.heap.size ≤ D → ¬ C D → I L C W → W.heap[D]? = some (.deferred (some [])) → Q .normal { a with defers := { target := .collected D, args := #[] } :: a.defers } W)
    (hstop : ∀ (D : Nat) (c : Code) (pre : List α) (C : Nat → Prop) (W : World), w.heap.size ≤ D → ¬ C D → Ix c pre C W → W.heap[D]? = some (.deferred (some [])) → c.wpIn Fence.wide n P Q { a with defers := { target := .collected D, args := #[] } :: a.defers } W) :
    (Code.rangeFunc g ps assign body).wpIn Fence.wide n P Q a w :=
  wpIn_range hg eg hseq hb0 hps I Ix C0 hC0 hI hIx h0 (fun x a' C W => ∃ b, a' = { tmps := fr b x a.tmps, defers := [] } ∧ Bx b x C W)
    (fun x a' s C W1 W2 h hn hs => by obtain ⟨b, h1, h2⟩ := h; exact ⟨b, h1, hBx b x s C W1 W2 h2 hn hs⟩)
    (fun l pre x C W K hi hp hc hz hK => hassign l pre x C W K hi hp hc hz (fun b C' W' hr hi' hb => hK _ C' W' hr hi' ⟨b, rfl, hb⟩))
    (fun l pre x a' C W hi ha hp hc hz => by obtain ⟨b, rfl, hb⟩ := ha; exact hbody l pre x b C W hi hb hp hc hz) hdone hstop

/-- the law's boxes between two rounds -/
structure CI (w : World) (br bz bm bx bn ba bf : Nat) (z most : Int) (x : Int × Int) (pre : List (Int × Int)) (C : Nat → Prop) (X : World) : Prop where
  hr : X.heap[br]? = some (.cells #[.bool false] 4 (0, 0))
  hz : X.heap[bz]? = some (.cells #[.int .i64 z] 3 (0, 0))
  hm : X.heap[bm]? = some (.cells #[.int .i64 most] 3 (0, 0))
  hx : SpAt X bx x
  hn : X.heap[bn]? = some (.cells #[.int .i64 (pre.length : Int)] 3 (0, 0))
  ha : X.heap[ba]? = some (.cells #[.int .i64 (lastE x.1 pre)] 3 (0, 0))
  hf : X.heap[bf]? = some (.cells #[.bool true] 4 (0, 0))
  cc : C br ∧ C bn ∧ C ba ∧ C bf
  below : Below w.heap.size w X
/-- where they lie: all apart, below n0 -/
structure CD (w : World) (n0 br bz bm bx bn ba bf : Nat) : Prop where
  ord : w.heap.size ≤ bz ∧ bz < bm ∧ bm < br ∧ br < bx ∧ bx < bn ∧ bn < ba ∧ ba < bf ∧ bf < n0
theorem ci_bears {w : World} {n0 br bz bm bx bn ba bf : Nat} {z most : Int} {x : Int × Int} (h : CD w n0 br bz bm bx bn ba bf) : Bears n0 (CI w br bz bm bx bn ba bf z most x) := by
  rintro pre C X Y hc hz hs
  have o := h.ord
  exact ⟨hs.heap (.inl (by omega)) hc.hr, hs.heap (.inl (by omega)) hc.hz, hs.heap (.inl (by omega)) hc.hm, hs.heap (.inl (by omega)) hc.hx, hs.heap (.inl (by omega)) hc.hn, hs.heap (.inl (by omega)) hc.ha, hs.heap (.inl (by omega)) hc.hf, hc.cc, hc.below.trans (hs.below (by omega) (fun k hk => .inl (by omega)))⟩
theorem ci_more {w : World} {br bz bm bx bn ba bf : Nat} {z most : Int} {x : Int × Int} {pre : List (Int × Int)} {C C' : Nat → Prop} {X : World} (h : CI w br bz bm bx bn ba bf z most x pre C X) (hc : ∀ k, C k → C' k) : CI w br bz bm bx bn ba bf z most x pre C' X :=
  ⟨h.hr, h.hz, h.hm, h.hx, h.hn, h.ha, h.hf, ⟨hc _ h.cc.1, hc _ h.cc.2.1, hc _ h.cc.2.2.1, hc _ h.cc.2.2.2⟩, h.below⟩
/-- how the law is left from within -/
def CX (w : World) (br : Nat) (c : Code) (pre : List (Int × Int)) (C : Nat → Prop) (X : World) : Prop :=
  c = .ret ∧ X.heap[br]? = some (.cells #[.bool true] 4 (0, 0)) ∧ Below w.heap.size w X
theorem cx_bears {w : World} {n0 br bz bm bx bn ba bf : Nat} (h : CD w n0 br bz bm bx bn ba bf) (c : Code) : Bears n0 (CX w br c) := by
  rintro pre C X Y ⟨h1, h2, h3⟩ hz hs
  have o := h.ord
  exact ⟨h1, hs.heap (.inl (by omega)) h2, h3.trans (hs.below (by omega) (fun k hk => .inl (by omega)))⟩
/-- a piece's box -/
def PB (n0 b : Nat) (y : Int × Int) (C : Nat → Prop) (X : World) : Prop := SpAt X b y ∧ n0 ≤ b ∧ C b
theorem pb_bears (n0 b : Nat) (y : Int × Int) : Bears n0 (fun (_ : Unit) C W => PB n0 b y C W) := by
  rintro _ C X Y ⟨h1, h2, h3⟩ hz hs
  exact ⟨hs.heap (.inr h3) h1, h2, h3⟩

/-- what the long test reads -/
structure RK (bf b ba bx bz : Nat) (y x : Int × Int) (z : Int) (X : World) : Prop where
  kf : X.heap[bf]? = some (.cells #[.bool true] 4 (0, 0))
  ky : SpAt X b y
  ka : X.heap[ba]? = some (.cells #[.int .i64 y.1] 3 (0, 0))
  kx : SpAt X bx x
  kz : X.heap[bz]? = some (.cells #[.int .i64 z] 3 (0, 0))
section
variable {bf b ba bx bz : Nat} {y x : Int × Int} {z : Int} {X X' : World}
theorem RK.later (h : RK bf b ba bx bz y x z X) (hb : Below X.heap.size X X') : RK bf b ba bx bz y x z X' :=
  ⟨(hb.block _ (lt_of_block h.kf)).trans h.kf, h.ky.later hb, (hb.block _ (lt_of_block h.ka)).trans h.ka, h.kx.later hb, (hb.block _ (lt_of_block h.kz)).trans h.kz⟩
theorem RK.all (h : RK bf b ba bx bz y x z X) : X.cell? ⟨bf, 0, none⟩ = some (.bool true) ∧ X.cell? ⟨b, 0, none⟩ = some (.int .i64 y.1) ∧ X.cell? ⟨b, 1, none⟩ = some (.int .i64 y.2) ∧ X.cell? ⟨ba, 0, none⟩ = some (.int .i64 y.1) ∧ X.cell? ⟨bx, 0, none⟩ = some (.int .i64 x.1) ∧ X.cell? ⟨bx, 1, none⟩ = some (.int .i64 x.2) ∧ X.cell? ⟨bz, 0, none⟩ = some (.int .i64 z) :=
  ⟨(cell_of_row X bf 0 _ _ (0, 0) h.kf).trans rfl, h.ky.c0, h.ky.c1, (cell_of_row X ba 0 _ _ (0, 0) h.ka).trans rfl, h.kx.c0, h.kx.c1, (cell_of_row X bz 0 _ _ (0, 0) h.kz).trans rfl⟩
theorem RK.fz (h : RK bf b ba bx bz y x z X) : X.frozen? ⟨bf, 0, none⟩ = false := by simp [World.frozen?, h.kf]
theorem set_self {k : Nat} {v : Value} {t : TypeId} (h : X.heap[k]? = some (.cells #[v] t (0, 0))) : ∀ i : Nat, (X.setCell ⟨k, 0, none⟩ v).heap[i]? = X.heap[i]? := fun i => by
  by_cases hi : i = k
  · subst hi; rw [h]; exact (heap_setCell_same X i 0 _ _ _ h).trans rfl
  · exact Below.heap_setCell X ⟨k, 0, none⟩ v i hi
theorem RK.put (h : RK bf b ba bx bz y x z X) : RK bf b ba bx bz y x z (X.setCell ⟨bf, 0, none⟩ (.bool true)) :=
  ⟨(set_self h.kf _).trans h.kf, (set_self h.kf _).trans h.ky, (set_self h.kf _).trans h.ka, (set_self h.kf _).trans h.kx, (set_self h.kf _).trans h.kz⟩
end
theorem ci_later {w : World} {br bz bm bx bn ba bf : Nat} {z most : Int} {x : Int × Int} {pre : List (Int × Int)} {C : Nat → Prop} {X X' : World} (h : CI w br bz bm bx bn ba bf z most x pre C X) (hb : Below X.heap.size X X') : CI w br bz bm bx bn ba bf z most x pre C X' :=
  ⟨(hb.block _ (lt_of_block h.hr)).trans h.hr, (hb.block _ (lt_of_block h.hz)).trans h.hz, (hb.block _ (lt_of_block h.hm)).trans h.hm, h.hx.later hb, (hb.block _ (lt_of_block h.hn)).trans h.hn, (hb.block _ (lt_of_block h.ha)).trans h.ha, (hb.block _ (lt_of_block h.hf)).trans h.hf, h.cc, h.below.trans (hb.mono h.below.size)⟩
/-- a round's end -/
theorem ci_next {w : World} {n0 br bz bm bx bn ba bf : Nat} {z most : Int} {x y : Int × Int} {pre : List (Int × Int)} {C : Nat → Prop} {X v : World} (hD : CD w n0 br bz bm bx bn ba bf) (h : CI w br bz bm bx bn ba bf z most x pre C X) (hb : Below X.heap.size X v) :
    CI w br bz bm bx bn ba bf z most x (pre ++ [y]) C ((v.setCell ⟨ba, 0, none⟩ (.int .i64 y.2)).setCell ⟨bn, 0, none⟩ (.int .i64 ((pre.length : Int) + 1))) ∧ Round C X C ((v.setCell ⟨ba, 0, none⟩ (.int .i64 y.2)).setCell ⟨bn, 0, none⟩ (.int .i64 ((pre.length : Int) + 1))) := by
  have o := hD.ord
  have k := ci_later h hb
  have e : ∀ i : Nat, i ≠ ba → i ≠ bn → ((v.setCell ⟨ba, 0, none⟩ (.int .i64 y.2)).setCell ⟨bn, 0, none⟩ (.int .i64 ((pre.length : Int) + 1))).heap[i]? = v.heap[i]? := fun i h1 h2 =>
    (Below.heap_setCell _ ⟨bn, 0, none⟩ _ i h2).trans (Below.heap_setCell v ⟨ba, 0, none⟩ _ i h1)
  have ea : (v.setCell ⟨ba, 0, none⟩ (.int .i64 y.2)).heap[ba]? = some (.cells #[.int .i64 y.2] 3 (0, 0)) := (heap_setCell_same v ba 0 _ _ _ k.ha).trans rfl
  have en : (v.setCell ⟨ba, 0, none⟩ (.int .i64 y.2)).heap[bn]? = some (.cells #[.int .i64 (pre.length : Int)] 3 (0, 0)) := (Below.heap_setCell v ⟨ba, 0, none⟩ _ bn (by simp only [ne_eq]; omega)).trans k.hn
  refine ⟨⟨(e _ (by omega) (by omega)).trans k.hr, (e _ (by omega) (by omega)).trans k.hz, (e _ (by omega) (by omega)).trans k.hm, (e _ (by omega) (by omega)).trans k.hx, ?_, ?_, (e _ (by omega) (by omega)).trans k.hf, k.cc, ?_⟩, ?_⟩
  · rw [List.length_append, List.length_singleton]
    exact (heap_setCell_same _ bn 0 _ _ _ en).trans rfl
  · rw [lastE_snoc]
    exact (Below.heap_setCell _ ⟨bn, 0, none⟩ _ ba (by simp only [ne_eq]; omega)).trans ea
  · exact ((k.below.setCell (p := ⟨ba, 0, none⟩) (by simp only; omega) _).setCell (p := ⟨bn, 0, none⟩) (by simp only; omega) _)
  · refine ⟨((Steps.of_below hb _).trans (rng.Steps.setCell _ v ⟨ba, 0, none⟩ _ (fun hh => hh k.cc.2.2.1))).trans (rng.Steps.setCell _ _ ⟨bn, 0, none⟩ _ (fun hh => hh k.cc.2.1)), fun _ hk => .inl hk⟩
/-- the law's first boxes -/
structure B4 (w : World) (s : Int × Int) (z most : Int) (W : World) : Prop where
  s : SpAt W w.heap.size s
  z : W.heap[w.heap.size + 1]? = some (.cells #[.int .i64 z] 3 (0, 0))
  m : W.heap[w.heap.size + 1 + 1]? = some (.cells #[.int .i64 most] 3 (0, 0))
  r : W.heap[w.heap.size + 1 + 1 + 1]? = some (.cells #[.bool false] 4 (0, 0))
  below : Below w.heap.size w W
  size : w.heap.size + 1 + 1 + 1 < W.heap.size
theorem B4.later {w W W' : World} {s : Int × Int} {z most : Int} (h : B4 w s z most W) (hb : Below W.heap.size W W') : B4 w s z most W' :=
  ⟨h.s.later hb, (hb.block _ (lt_of_block h.z)).trans h.z, (hb.block _ (lt_of_block h.m)).trans h.m, (hb.block _ (lt_of_block h.r)).trans h.r, h.below.trans (hb.mono h.below.size), Nat.lt_of_lt_of_le h.size hb.size⟩
theorem B4.cz {w W : World} {s : Int × Int} {z most : Int} (h : B4 w s z most W) : W.cell? ⟨w.heap.size + 1, 0, none⟩ = some (.int .i64 z) := (cell_of_row W _ 0 _ _ (0, 0) h.z).trans rfl
theorem b4_new (w : World) (s : Int × Int) (z most : Int) : B4 w s z most ((((w.alloc (.cells #[.int .i64 s.1, .int .i64 s.2] 24)).alloc (.cells #[.int .i64 z] 3)).alloc (.cells #[.int .i64 most] 3)).alloc (.cells #[.bool false] 4)) := by
  have a1 := bal (w := w) (.cells #[.int .i64 s.1, .int .i64 s.2] 24)
  have x1 := sp_new w s
  have z1 : (w.alloc (.cells #[.int .i64 s.1, .int .i64 s.2] 24)).heap.size = w.heap.size + 1 := by simp
  generalize w.alloc (.cells #[.int .i64 s.1, .int .i64 s.2] 24) = A at *
  have a2 := bal (w := A) (.cells #[.int .i64 z] 3)
  have x2 := heap_alloc_new A (.cells #[.int .i64 z] 3)
  have z2 : (A.alloc (.cells #[.int .i64 z] 3)).heap.size = A.heap.size + 1 := by simp
  generalize A.alloc (.cells #[.int .i64 z] 3) = B at *
  have a3 := bal (w := B) (.cells #[.int .i64 most] 3)
  have x3 := heap_alloc_new B (.cells #[.int .i64 most] 3)
  have z3 : (B.alloc (.cells #[.int .i64 most] 3)).heap.size = B.heap.size + 1 := by simp
  generalize B.alloc (.cells #[.int .i64 most] 3) = D at *
  have a4 := bal (w := D) (.cells #[.bool false] 4)
  have x4 := heap_alloc_new D (.cells #[.bool false] 4)
  have z4 : (D.alloc (.cells #[.bool false] 4)).heap.size = D.heap.size + 1 := by simp
  have e2 : B.heap.size = w.heap.size + 1 + 1 := by rw [z2, z1]
  have e3 : D.heap.size = w.heap.size + 1 + 1 + 1 := by rw [z3, e2]
  rw [z1] at x2
  rw [e2] at x3
  rw [e3] at x4
  refine ⟨((x1.later a2).later a3).later a4, (a4.block _ (by omega)).trans ((a3.block _ (by omega)).trans x2), (a4.block _ (by omega)).trans x3, x4, ((a1.trans (a2.mono (by omega))).trans (a3.mono (by omega))).trans (a4.mono (by omega)), by rw [z4, e3]; omega⟩

end Go.Proofs.Ytdadcbelbkhgoaa.sp
