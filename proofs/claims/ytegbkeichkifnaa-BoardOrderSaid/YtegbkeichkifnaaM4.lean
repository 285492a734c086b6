/-
  Several texts in one: RngP RunI RunU RunH RunC RunR RunJ
-/
import Derived.Test.YtegbkeichkifnaaM3
/-!   A range over a function: what stands behind the assignment may speak of what was told so far. Imports nothing of the program.
-/
namespace Go.Proofs.Ytegbkeichkifnaa.rng
open Go.RowKit mem
set_option linter.unusedVariables false

/-- **a range over a function**, in a function's body (not within a round) -/
theorem wpIn_rangeP {P : Program} {n : Nat} {α : Type} {g : Operand} {ps : Array Tmp} {assign body : Code} {Q : Exit → Act → World → Prop} {a : Act} {w : World}
    {gf : Nat} {lb : Array Value} (hg : a.eval g = .func (.func gf) #[] lb) (eg : ∀ args w, (callFunc gf args).run P w = .ok (.enter gf args) w)
    {encs : α → Array Value} {L : List α} {A : Nat → Prop} {w0 : World} (hseq : SeqOf P gf lb encs L A w0) (hb0 : Below w0.heap.size w0 w) (hps : ∀ x, (encs x).size = ps.size)
    (I : List α → (Nat → Prop) → World → Prop) (Ix : Code → List α → (Nat → Prop) → World → Prop) (C0 : Nat → Prop) (hC0 : ∀ k, C0 k → (A k ∨ w0.heap.size ≤ k) ∧ k < w.heap.size)
    (hI : Bears w.heap.size I) (hIx : ∀ c, Bears w.heap.size (Ix c)) (h0 : I [] C0 w) (Ax : List α → α → Act → (Nat → Prop) → World → Prop) (hAx : ∀ pre x a', Bears w.heap.size (fun (_ : Unit) C W => Ax pre x a' C W))
    (hassign : ∀ (l : Nat) (pre : List α) (x : α) (C : Nat → Prop) (W : World) (K : Act → World → Prop), I pre C W → pre ++ [x] <+: L → (∀ k, C k → k < W.heap.size) → w.heap.size ≤ W.heap.size →
      (∀ a' C' W', Round C W C' W' → I pre C' W' → Ax pre x a' C' W' → K a' W') →
      assign.wpIn (Fence.wide.inRound l) (n - 1 - 1) P (Exit.then K (fun _ _ _ => False)) { tmps := (ps.zip (encs x)).foldl (fun t (p, v) => t.setIfInBounds p v) a.tmps, defers := [] } W)
    (hbody : ∀ (l : Nat) (pre : List α) (x : α) (a' : Act) (C : Nat → Prop) (W : World), I pre C W → Ax pre x a' C W → pre ++ [x] <+: L → (∀ k, C k → k < W.heap.size) → w.heap.size ≤ W.heap.size →
      body.wpIn (Fence.wide.inRound l) (n - 1 - 1) P (rPost I Ix (pre ++ [x]) C W) a' W)
    (hdone : ∀ (D : Nat) (C : Nat → Prop) (W : World), w.heap.size ≤ D → ¬ C D → I L C W → W.heap[D]? = some (.deferred (some [])) → Q .normal { a with defers := { target := .collected D, args := #[] } :: a.defers } W)
    (hstop : ∀ (D : Nat) (c : Code) (pre : List α) (C : Nat → Prop) (W : World), w.heap.size ≤ D → ¬ C D → Ix c pre C W → W.heap[D]? = some (.deferred (some [])) → c.wpIn Fence.wide n P Q { a with defers := { target := .collected D, args := #[] } :: a.defers } W) :
    (Code.rangeFunc g ps assign body).wpIn Fence.wide n P Q a w := by
  refine wpIn_rangeFunc ?_
  intro fn hfn
  obtain ⟨rec, hrec⟩ : ∃ rec : LoopState → Option Code → Loop, rec = fun st pe => { state := st, pending := pe, fn, tmps := a.tmps, params := ps, assign, body, defers := w.heap.size } := ⟨_, rfl⟩
  obtain ⟨W1, hW1⟩ : ∃ W1, (w.alloc (.deferred (some []))).alloc (.loop (rec .ready none)) = W1 := ⟨_, rfl⟩
  have hL1 : W1.heap[w.heap.size + 1]? = some (.loop (rec .ready none)) := by
    rw [← hW1]; have := World.alloc_heap_new (w.alloc (.deferred (some []))) (.loop (rec .ready none)); rwa [World.size_alloc] at this
  have hK1 : W1.heap[w.heap.size]? = some (.deferred (some [])) := by
    rw [← hW1]; exact (Below.heap_alloc _ _ _ (by simp)).trans (World.alloc_heap_new w _)
  have hz : W1.heap.size = w.heap.size + 1 + 1 := by rw [← hW1]; simp
  have bw1 : Below w.heap.size w W1 := by rw [← hW1]; exact ((Below.refl _ w).alloc (Nat.le_refl _) _).alloc (by simp) _
  have hI1 : I [] C0 W1 := hI _ _ _ _ h0 (Nat.le_refl _) (Steps.of_below bw1 _)
  refine ⟨w.heap.size + 1, [{ target := .collected w.heap.size, args := #[] }], W1, { target := .fn (.func gf) lb, args := #[.func (.yield (w.heap.size + 1)) #[] #[]] }, W1, gf,
    #[.func (.yield (w.heap.size + 1)) #[] #[]] ++ lb, W1, ?_, ?_, ?_, ?_, (fun h => by simp [Fence.wide] at h), ?_⟩
  · rw [← hW1, hrec]; exact run_enterLoop_outer _ _ _ _ _
  · simp only [resolve, hg]
    simp [go_sem]
  · intro f' hf'; trivial
  · simp [invoke, go_sem, eg]
  · refine callsIn_wide.2 ?_
    -- the two blocks of book-keeping are the consumer's, beside the user's own
    let Cj : (Nat → Prop) → Nat → Prop := fun C k => C k ∨ k = w.heap.size ∨ k = w.heap.size + 1
    let J : List α → (Nat → Prop) → World → Prop := fun pre C' W => ∃ C, C' = Cj C ∧ I pre C W ∧ (¬ C w.heap.size ∧ ¬ C (w.heap.size + 1) ∧ ∀ k, C k → k < W.heap.size) ∧ W.heap[w.heap.size + 1]? = some (.loop (rec .ready none)) ∧ W.heap[w.heap.size]? = some (.deferred (some []))
    let Jx : List α → (Nat → Prop) → World → Prop := fun pre C' W => ∃ C c, C' = Cj C ∧ Ix c pre C W ∧ (¬ C w.heap.size ∧ ¬ C (w.heap.size + 1) ∧ ∀ k, C k → k < W.heap.size) ∧ W.heap[w.heap.size + 1]? = some (.loop (rec .done (some c))) ∧ W.heap[w.heap.size]? = some (.deferred (some []))
    have hsm : ∀ {C : Nat → Prop} {X Y : World}, Steps (fun k => k < W1.heap.size ∨ Cj C k) X Y → Steps (fun k => k < w.heap.size ∨ C k) X Y := fun h => h.mono (fun k _ hk => by
      rcases hk with hk | hk
      · exact .inl (by omega)
      · exact .inr (.inl hk))
    refine (hseq (w.heap.size + 1) J Jx (Cj C0) W1 (hb0.trans (bw1.mono hb0.size)) ?_ ?_ ?_ ?_ ?_).mono ?_
    · intro k hk
      have h1 := hb0.size
      rcases hk with hk | hk | hk
      · exact ⟨(hC0 k hk).1, by have := (hC0 k hk).2; omega⟩
      · exact ⟨.inr (by omega), by omega⟩
      · exact ⟨.inr (by omega), by omega⟩
    · rintro s C' X Y ⟨C, rfl, hi, ⟨h1, h2, h3⟩, hl, hk⟩ hn hs
      exact ⟨C, rfl, hI _ _ _ _ hi (by omega) (hsm hs), ⟨h1, h2, fun k hk => Nat.lt_of_lt_of_le (h3 k hk) hs.size⟩, hs.heap (.inr (.inr (.inr rfl))) hl, hs.heap (.inr (.inr (.inl rfl))) hk⟩
    · rintro s C' X Y ⟨C, c, rfl, hi, ⟨h1, h2, h3⟩, hl, hk⟩ hn hs
      exact ⟨C, c, rfl, hIx c _ _ _ _ hi (by omega) (hsm hs), ⟨h1, h2, fun k hk => Nat.lt_of_lt_of_le (h3 k hk) hs.size⟩, hs.heap (.inr (.inr (.inr rfl))) hl, hs.heap (.inr (.inr (.inl rfl))) hk⟩
    · -- one round
      rintro pre x C' W ⟨C, rfl, hi, ⟨h1, h2, h3⟩, hl, hk⟩ hWs hpre
      have hlt : w.heap.size + 1 < W.heap.size := (Array.getElem?_eq_some_iff.1 hl).1
      have hy := run_yield (P := P) (args := encs x) hl (by rw [hrec]; exact hps x)
      rw [hrec] at hy
      refine Yd.of (m := n - 1 - 1) ⟨fn, _, assign, body, hy, roundIn_of_wpIn hfn (hassign _ pre x C W _ hi hpre h3 (by omega) ?_)⟩
      clear hy
      intro a' Ca Wa hra hia hax
      have h1a : ¬ Ca w.heap.size := fun e => by rcases hra.2 _ e with e | e; exact h1 e; omega
      have h2a : ¬ Ca (w.heap.size + 1) := fun e => by rcases hra.2 _ e with e | e; exact h2 e; omega
      have h3a : ∀ k, Ca k → k < Wa.heap.size := fun k hk => by rcases hra.2 k hk with e | e; exact Nat.lt_of_lt_of_le (h3 k e) hra.1.size; exact e.2
      have hla := hra.1.heap h2 hl
      have hka := hra.1.heap h1 hk
      have hlta : w.heap.size + 1 < Wa.heap.size := (Array.getElem?_eq_some_iff.1 hla).1
      refine ⟨_, run_beginRound hla (by rw [hrec]), ?_⟩
      obtain ⟨Wb, hWb⟩ : ∃ Wb, Wb = Wa.putObj (w.heap.size + 1) (.loop { rec .ready none with state := .busy }) := ⟨_, rfl⟩
      rw [← hWb]
      have hlb : Wb.heap[w.heap.size + 1]? = some (.loop { rec .ready none with state := .busy }) := by rw [hWb]; exact World.putObj_heap_same hlta
      have hkb : Wb.heap[w.heap.size]? = some (.deferred (some [])) := by rw [hWb]; exact (World.putObj_heap_other (by omega)).trans hka
      have sb : Steps (fun k => k < w.heap.size ∨ Ca k) Wa Wb := by rw [hWb]; exact Steps.putObj _ _ _ _ (by rintro (e | e); omega; exact h2a e)
      have rb : Round (Cj Ca) Wa (Cj Ca) Wb := ⟨by rw [hWb]; exact Steps.putObj _ _ _ _ (fun e => e (.inr (.inr rfl))), fun k hk => .inl hk⟩
      have hib := hI _ _ _ _ hia (by omega) sb
      have haxb := hAx pre x a' () _ _ _ hax (by omega) sb
      have hzb : Wb.heap.size = Wa.heap.size := by rw [hWb]; simp
      have ra : Round (Cj C) W (Cj Ca) Wa := ⟨hra.1.mono (fun k _ hk e => hk (.inl e)), fun k hk => by
        rcases hk with hk | hk
        · rcases hra.2 k hk with e | e; exact .inl (.inl e); exact .inr e
        · exact .inl (.inr hk)⟩
      have rab := ra.trans rb
      refine wpIn_mono (hbody _ pre x a' Ca Wb hib haxb hpre (fun k hk => by rw [hzb]; exact h3a k hk) (by omega)) ?_
      have fin : ∀ (jump : Option Code) (C3 : Nat → Prop) (W3 : World), Round Ca Wb C3 W3 →
          (Instr.endRound (w.heap.size + 1) jump).run P W3 = .ok (.bool jump.isNone) (W3.putObj (w.heap.size + 1) (.loop (rec (if jump.isNone then .ready else .done) jump))) ∧
          (W3.putObj (w.heap.size + 1) (.loop (rec (if jump.isNone then .ready else .done) jump))).heap[w.heap.size + 1]? = some (.loop (rec (if jump.isNone then .ready else .done) jump)) ∧
          (W3.putObj (w.heap.size + 1) (.loop (rec (if jump.isNone then .ready else .done) jump))).heap[w.heap.size]? = some (.deferred (some [])) ∧
          Steps (fun k => k < w.heap.size ∨ C3 k) W3 (W3.putObj (w.heap.size + 1) (.loop (rec (if jump.isNone then .ready else .done) jump))) ∧
          Round (Cj C) W (Cj C3) (W3.putObj (w.heap.size + 1) (.loop (rec (if jump.isNone then .ready else .done) jump))) ∧
          (¬ C3 w.heap.size ∧ ¬ C3 (w.heap.size + 1) ∧ ∀ k, C3 k → k < W3.heap.size) ∧ w.heap.size ≤ W3.heap.size := fun jump C3 W3 hr3 => by
        have h13 : ¬ C3 w.heap.size := fun e => by rcases hr3.2 _ e with e | e; exact h1a e; omega
        have h23 : ¬ C3 (w.heap.size + 1) := fun e => by rcases hr3.2 _ e with e | e; exact h2a e; omega
        have hl3 := hr3.1.heap h2a hlb
        have hk3 := hr3.1.heap h1a hkb
        have := run_endRound (P := P) jump hl3
        have hlt3 := (Array.getElem?_eq_some_iff.1 hl3).1
        rw [hrec] at this ⊢
        refine ⟨this, World.putObj_heap_same hlt3, (World.putObj_heap_other (by omega)).trans hk3, Steps.putObj _ _ _ _ (by rintro (e | e); omega; exact h23 e), ?_, ⟨h13, h23, fun k hk => by rcases hr3.2 k hk with e | e; exact Nat.lt_of_lt_of_le (by rw [hzb]; exact h3a k e) hr3.1.size; exact e.2⟩, by omega⟩
        refine (rab.trans (C'' := Cj C3) (D := W3) ⟨hr3.1.mono (fun k _ hk e => hk (.inl e)), fun k hk => ?_⟩).trans ⟨Steps.putObj _ _ _ _ (fun e => e (.inr (.inr rfl))), fun k hk => .inl hk⟩
        rcases hk with hk | hk
        · rcases hr3.2 k hk with e | e; exact .inl (.inl e); exact .inr e
        · exact .inl (.inr hk)
      rintro e a3 W3 hp
      cases e with
      | normal =>
        obtain ⟨C3, hr3, hi3⟩ := hp
        obtain ⟨hr, hl4, hk4, s4, r4, ⟨b1, b2, b3⟩, b4⟩ := fin none C3 W3 hr3
        exact ⟨_, _, hr, Cj C3, r4, .inl ⟨rfl, C3, rfl, hI _ _ _ _ hi3 b4 s4, ⟨b1, b2, fun k hk => by simpa using b3 k hk⟩, hl4, hk4⟩⟩
      | ret =>
        obtain ⟨C3, hr3, hi3⟩ := hp
        obtain ⟨hr, hl4, hk4, s4, r4, ⟨b1, b2, b3⟩, b4⟩ := fin (some .ret) C3 W3 hr3
        exact ⟨_, _, hr, Cj C3, r4, .inr ⟨rfl, C3, .ret, rfl, hIx _ _ _ _ _ hi3 b4 s4, ⟨b1, b2, fun k hk => by simpa using b3 k hk⟩, hl4, hk4⟩⟩
      | exit id =>
        obtain ⟨C3, hr3, hi3⟩ := hp
        obtain ⟨hr, hl4, hk4, s4, r4, ⟨b1, b2, b3⟩, b4⟩ := fin (some (.exit id)) C3 W3 hr3
        exact ⟨_, _, hr, Cj C3, r4, .inr ⟨rfl, C3, .exit id, rfl, hIx _ _ _ _ _ hi3 b4 s4, ⟨b1, b2, fun k hk => by simpa using b3 k hk⟩, hl4, hk4⟩⟩
      | goto t =>
        obtain ⟨C3, hr3, hi3⟩ := hp
        obtain ⟨hr, hl4, hk4, s4, r4, ⟨b1, b2, b3⟩, b4⟩ := fin (some (.goto t)) C3 W3 hr3
        exact ⟨_, _, hr, Cj C3, r4, .inr ⟨rfl, C3, .goto t, rfl, hIx _ _ _ _ _ hi3 b4 s4, ⟨b1, b2, fun k hk => by simpa using b3 k hk⟩, hl4, hk4⟩⟩
      | panic ch => exact hp.elim
      | outgrown => exact hp.elim
    · exact ⟨C0, rfl, hI1, ⟨fun e => by have := (hC0 _ e).2; omega, fun e => by have := (hC0 _ e).2; omega, fun k hk => by have := (hC0 _ hk).2; omega⟩, hL1, hK1⟩
    · -- behind the iterator
      rintro e W2 ⟨⟨v, rfl⟩, _, (⟨C, rfl, hi, ⟨h1, h2, h3⟩, hl, hk⟩ | ⟨pre, C, c, rfl, hi, ⟨h1, h2, h3⟩, hl, hk⟩)⟩
      · have hlt := (Array.getElem?_eq_some_iff.1 hl).1
        have sp : ∀ o, Steps (fun k => k < w.heap.size ∨ C k) W2 (W2.putObj (w.heap.size + 1) o) := fun o => Steps.putObj _ _ _ _ (by rintro (e | e); omega; exact h2 e)
        exact ⟨none, _, by have := run_endLoop (P := P) hl (by rw [hrec]; simp); rw [hrec] at this; exact this, hdone _ C _ (Nat.le_refl _) h1 (hI _ _ _ _ hi (by omega) (sp _)) ((World.putObj_heap_other (by omega)).trans hk)⟩
      · have hlt := (Array.getElem?_eq_some_iff.1 hl).1
        have sp : ∀ o, Steps (fun k => k < w.heap.size ∨ C k) W2 (W2.putObj (w.heap.size + 1) o) := fun o => Steps.putObj _ _ _ _ (by rintro (e | e); omega; exact h2 e)
        exact ⟨some c, _, by have := run_endLoop (P := P) hl (by rw [hrec]; simp); rw [hrec] at this; exact this, hstop _ c pre C _ (Nat.le_refl _) h1 (hIx _ _ _ _ _ hi (by omega) (sp _)) ((World.putObj_heap_other (by omega)).trans hk)⟩

/-- a range whose assignment makes one box -/
theorem wpIn_rangeBoxP {P : Program} {n : Nat} {α : Type} {g : Operand} {ps : Array Tmp} {assign body : Code} {Q : Exit → Act → World → Prop} {a : Act} {w : World} (fr : Nat → α → Array Value → Array Value)
    {gf : Nat} {lb : Array Value} (hg : a.eval g = .func (.func gf) #[] lb) (eg : ∀ args w, (callFunc gf args).run P w = .ok (.enter gf args) w)
    {encs : α → Array Value} {L : List α} {A : Nat → Prop} {w0 : World} (hseq : SeqOf P gf lb encs L A w0) (hb0 : Below w0.heap.size w0 w) (hps : ∀ x, (encs x).size = ps.size)
    (I : List α → (Nat → Prop) → World → Prop) (Ix : Code → List α → (Nat → Prop) → World → Prop) (C0 : Nat → Prop) (hC0 : ∀ k, C0 k → (A k ∨ w0.heap.size ≤ k) ∧ k < w.heap.size)
    (hI : Bears w.heap.size I) (hIx : ∀ c, Bears w.heap.size (Ix c)) (h0 : I [] C0 w) (Bx : List α → Nat → α → (Nat → Prop) → World → Prop) (hBx : ∀ pre b x, Bears w.heap.size (fun (_ : Unit) C W => Bx pre b x C W))
    (hassign : ∀ (l : Nat) (pre : List α) (x : α) (C : Nat → Prop) (W : World) (K : Act → World → Prop), I pre C W → pre ++ [x] <+: L → (∀ k, C k → k < W.heap.size) → w.heap.size ≤ W.heap.size →
      (∀ b C' W', Round C W C' W' → I pre C' W' → Bx pre b x C' W' → K { tmps := fr b x a.tmps, defers := [] } W') →
      assign.wpIn (Fence.wide.inRound l) (n - 1 - 1) P (Exit.then K (fun _ _ _ => False)) { tmps := (ps.zip (encs x)).foldl (fun t (p, v) => t.setIfInBounds p v) a.tmps, defers := [] } W)
    (hbody : ∀ (l : Nat) (pre : List α) (x : α) (b : Nat) (C : Nat → Prop) (W : World), I pre C W → Bx pre b x C W → pre ++ [x] <+: L → (∀ k, C k → k < W.heap.size) → w.heap.size ≤ W.heap.size →
      body.wpIn (Fence.wide.inRound l) (n - 1 - 1) P (rPost I Ix (pre ++ [x]) C W) { tmps := fr b x a.tmps, defers := [] } W)
    (hdone : ∀ (D : Nat) (C : Nat → Prop) (W : World), w.heap.size ≤ D → ¬ C D → I L C W → W.heap[D]? = some (.deferred (some [])) → Q .normal { a with defers := { target := .collected D, args := #[] } :: a.defers } W)
    (hstop : ∀ (D : Nat) (c : Code) (pre : List α) (C : Nat → Prop) (W : World), w.heap.size ≤ D → ¬ C D → Ix c pre C W → W.heap[D]? = some (.deferred (some [])) → c.wpIn Fence.wide n P Q { a with defers := { target := .collected D, args := #[] } :: a.defers } W) :
    (Code.rangeFunc g ps assign body).wpIn Fence.wide n P Q a w :=
  wpIn_rangeP hg eg hseq hb0 hps I Ix C0 hC0 hI hIx h0 (fun pre x a' C W => ∃ b, a' = { tmps := fr b x a.tmps, defers := [] } ∧ Bx pre b x C W)
    (fun pre x a' s C W1 W2 h hn hs => by obtain ⟨b, h1, h2⟩ := h; exact ⟨b, h1, hBx pre b x s C W1 W2 h2 hn hs⟩)
    (fun l pre x C W K hi hp hc hz hK => hassign l pre x C W K hi hp hc hz (fun b C' W' hr hi' hb => hK _ C' W' hr hi' ⟨b, rfl, hb⟩))
    (fun l pre x a' C W hi ha hp hc hz => by obtain ⟨b, rfl, hb⟩ := ha; exact hbody l pre x b C W hi hb hp hc hz) hdone hstop

end Go.Proofs.Ytegbkeichkifnaa.rng
/-!   Package runs: Gaps.
-/
namespace Go.Proofs.Ytegbkeichkifnaa.rn
open Go.RowKit Go.Shelf aid mem rng sp
attribute [local go_sem] Oper.semAt_some
set_option linter.unusedVariables false
set_option linter.unusedSimpArgs false

/-- what is left of a span behind some parts, and the gaps ahead of that -/
def restA (pre : List Sp) (s : Sp) : Sp := pre.foldl (fun r p => fromP r p.2) s
def doneL : List Sp → Sp → List Sp
  | [], _ => []
  | p :: ps, r => ne (belowP r p.1) ++ doneL ps (fromP r p.2)
theorem restA_snoc (pre : List Sp) (s p : Sp) : restA (pre ++ [p]) s = fromP (restA pre s) p.2 := by unfold restA; rw [List.foldl_append]; rfl
theorem doneL_snoc : ∀ (pre : List Sp) (s p : Sp), doneL (pre ++ [p]) s = doneL pre s ++ ne (belowP (restA pre s) p.1) := by
  intro pre
  induction pre with
  | nil => intro s p; simp [doneL, restA]
  | cons x pre ih =>
    intro s p
    rw [List.cons_append, doneL, ih, doneL, List.append_assoc]
    rfl
theorem gaps_cut : ∀ (pre post : List Sp) (s : Sp), gapsC (pre ++ post) s = doneL pre s ++ gapsC post (restA pre s) := by
  intro pre
  induction pre with
  | nil => intro post s; rfl
  | cons x pre ih =>
    intro post s
    rw [List.cons_append, gapsC, ih, doneL, List.append_assoc]
    rfl
/-- what Gaps' iterator knows between two rounds -/
structure GIc (W : World) (C0 : Nat → Prop) (F l : Nat) (s : Sp) (J : List Sp → (Nat → Prop) → World → Prop) (pre : List Sp) (Co C : Nat → Prop) (X : World) : Prop where
  sub : ∀ k, Co k → C k
  cF : C F
  j : J (doneL pre s) Co X
  it : It C0 W Co X
  nF : ¬ Co F
  nX : ¬ Co W.heap.size
  rest : SpAt X F (restA pre s)
  yd : X.cell? ⟨W.heap.size, 0, none⟩ = some (.func (.yield l) #[] #[])
def GI (W : World) (C0 : Nat → Prop) (F l : Nat) (s : Sp) (J : List Sp → (Nat → Prop) → World → Prop) (pre : List Sp) (C : Nat → Prop) (X : World) : Prop := ∃ Co, GIc W C0 F l s J pre Co C X
def GX (W : World) (Jx : List Sp → (Nat → Prop) → World → Prop) (c : Code) (pre : List Sp) (C : Nat → Prop) (X : World) : Prop := c = .ret ∧ ∃ Co told, (∀ k, Co k → C k) ∧ Jx told Co X
/-- a part's box beside it -/
def GB (W : World) (C0 : Nat → Prop) (F l : Nat) (s : Sp) (J : List Sp → (Nat → Prop) → World → Prop) (D : Nat) (pre : List Sp) (b : Nat) (y : Sp) (C : Nat → Prop) (X : World) : Prop :=
  ∃ Co, GIc W C0 F l s J pre Co C X ∧ SpAt X b y ∧ C b ∧ ¬ Co b ∧ D ≤ b
theorem gic_own {W : World} {C0 : Nat → Prop} {F l D : Nat} {s : Sp} {J : List Sp → (Nat → Prop) → World → Prop} {pre : List Sp} {Co C : Nat → Prop} {X Y : World} (hJ : Bears W.heap.size J) (hD : W.heap.size < D) (h : GIc W C0 F l s J pre Co C X) (hs : rng.Steps (fun k => k < D ∨ C k) X Y) : GIc W C0 F l s J pre Co C Y := by
  have hs' : rng.Steps (fun k => k < W.heap.size ∨ Co k) X Y := hs.mono (fun k _ hk => by
    rcases hk with hk | hk
    · exact .inl (by omega)
    · exact .inr (h.sub k hk))
  exact ⟨h.sub, h.cF, hJ _ _ _ _ h.j h.it.kept.size hs', h.it.own hs', h.nF, h.nX, hs.heap (.inr h.cF) h.rest, hs.cell (.inl (by simpa using hD)) h.yd⟩
theorem gaps_prefix {L pre : List Sp} {y s : Sp} (hp : pre ++ [y] <+: L) : doneL pre s ++ ne (belowP (restA pre s) y.1) <+: gapsC L s := by
  obtain ⟨t, rfl⟩ := hp
  rw [gaps_cut, doneL_snoc]
  exact List.prefix_append _ _
theorem gi_end {W : World} {C0 : Nat → Prop} {F l' : Nat} {s y r2 : Sp} {J : List Sp → (Nat → Prop) → World → Prop} {pre told : List Sp} {Co Co2 C : Nat → Prop} {X V V1 : World} (hJ : Bears W.heap.size J) (hWF : W.heap.size < F) (hI : GIc W C0 F l' s J pre Co C X) (hFX : F < X.heap.size) (hWX : W.heap.size ≤ X.heap.size)
    (e2 : restA (pre ++ [y]) s = r2) (e3 : doneL (pre ++ [y]) s = told) (hxv : Round C X (fun k => C k ∨ Co2 k) V) (hj : J told Co2 V) (hit : It C0 W Co2 V) (nF : ¬ Co2 F) (nX : ¬ Co2 W.heap.size) {q : Sp} (hrF : SpAt V F q) (hyd : V.cell? ⟨W.heap.size, 0, none⟩ = some (.func (.yield l') #[] #[]))
    (h1 : Below V.heap.size V V1) :
    ∃ C', Round C X C' ((V1.setCell ⟨F, 0, none⟩ (.int .i64 r2.1)).setCell ⟨F, 1, none⟩ (.int .i64 r2.2)) ∧ GI W C0 F l' s J (pre ++ [y]) C' ((V1.setCell ⟨F, 0, none⟩ (.int .i64 r2.1)).setCell ⟨F, 1, none⟩ (.int .i64 r2.2)) := by
  have hF1 := hrF.later h1
  have hput := hF1.put r2.1 r2.2
  have hst : ∀ K : Nat → Prop, ¬ K F → rng.Steps K V ((V1.setCell ⟨F, 0, none⟩ (.int .i64 r2.1)).setCell ⟨F, 1, none⟩ (.int .i64 r2.2)) := fun K hK =>
    ((Steps.of_below h1 K).trans (rng.Steps.setCell K V1 ⟨F, 0, none⟩ _ hK)).trans (rng.Steps.setCell K _ ⟨F, 1, none⟩ _ hK)
  generalize (V1.setCell ⟨F, 0, none⟩ (.int .i64 r2.1)).setCell ⟨F, 1, none⟩ (.int .i64 r2.2) = Y at *
  have s1 := hst (fun k => k < W.heap.size ∨ Co2 k) (by rintro (e | e); omega; exact nF e)
  refine ⟨fun k => C k ∨ Co2 k, hxv.trans ⟨hst _ (fun e => e (.inl hI.cF)), fun k hk => .inl hk⟩, Co2, ⟨fun k hk => .inr hk, .inl hI.cF, ?_, hit.own s1, nF, nX, by rw [e2]; exact hput, ?_⟩⟩
  · rw [e3]; exact hJ _ _ _ _ hj hit.kept.size s1
  · exact (hst (fun k => k = W.heap.size) (by omega)).cell rfl hyd
end Go.Proofs.Ytegbkeichkifnaa.rn
/-!   The law's list of all (told).
-/
namespace Go.Proofs.Ytegbkeichkifnaa.rn
open Go.RowKit Go.Shelf aid mem rng sp
attribute [local go_sem] Oper.semAt_some
set_option linter.unusedVariables false
set_option linter.unusedSimpArgs false

/-- a list of pairs is handed back, in memory of its own -/
def Told (L : List Sp) (w : World) (e : Ending) (W' : World) : Prop :=
  ∃ v, e = .returned v ∧ W'.ownsRow w.heap.size 24 2 v L.length (spCells L) ∧ Below w.heap.size w W'
/-- between two rounds: n0: the heap's size ahead; B: the list's box -/
def ToldI (w : World) (B : Nat) (pre : List Sp) (C : Nat → Prop) (W : World) : Prop :=
  ∃ v, W.heap[B]? = some (.cells #[v] 30 (0, 0)) ∧ C B ∧ W.ownsRow w.heap.size 24 2 v pre.length (spCells pre) ∧ (∀ k, v.ownBlock = some k → C k ∧ k ≠ B) ∧ Below w.heap.size w W
theorem told_bears (w : World) (B n : Nat) (hn : w.heap.size ≤ n) : Bears n (ToldI w B) := by
  rintro s C X Y ⟨v, h1, h2, h3, h4, h5⟩ hz hs
  exact ⟨v, hs.heap (.inr h2) h1, h2, own_step h3 (fun k o hk ho => hs.heap (.inr (h4 k hk).1) ho), h4, h5.trans (hs.below (by omega) (fun k hk => .inl (by omega)))⟩
/-- a round's end -/
theorem told_next {w X X1 w1 : World} {B : Nat} {pre : List Sp} {x : Sp} {C : Nat → Prop} {v v' : Value} (h1 : X.heap[B]? = some (.cells #[v] 30 (0, 0))) (h2 : C B) (h4 : ∀ k, v.ownBlock = some k → C k ∧ k ≠ B) (h5 : Below w.heap.size w X)
    (hb : w.heap.size ≤ B) (hX : X1 = X.alloc (.cells #[.int .i64 x.1, .int .i64 x.2] 24))
    (ho : w1.ownsRow w.heap.size 24 2 v' (pre.length + 1) (spCells pre ++ [.int .i64 x.1, .int .i64 x.2])) (hg : X1.grownBy w1 v.ownBlock) (hw : v'.ownBlock = v.ownBlock ∨ v'.ownBlock = some X1.heap.size)
    (hvb : ∀ k, v.ownBlock = some k → w.heap.size ≤ k) :
    ∃ C', Round C X C' (w1.setCell ⟨B, 0, none⟩ v') ∧ ToldI w B (pre ++ [x]) C' (w1.setCell ⟨B, 0, none⟩ v') := by
  have hz : X1.heap.size = X.heap.size + 1 := by rw [hX]; simp
  have b1 : Below X.heap.size X X1 := by rw [hX]; exact bal (w := X) _
  have hBX := lt_of_block h1
  have nB : v.ownBlock ≠ some B := fun e => (h4 B e).2 rfl
  have hB1 : w1.heap[B]? = some (.cells #[v] 30 (0, 0)) := (hg.block B (by omega) (fun e => nB e.symm)).trans ((b1.block B hBX).trans h1)
  have hzz : (w1.setCell ⟨B, 0, none⟩ v').heap.size = w1.heap.size := by simp
  have s1 : rng.Steps (fun k => ¬ C k) X (w1.setCell ⟨B, 0, none⟩ v') := by
    refine ((rng.Steps.of_below b1 _).trans (B := X1) ?_).trans (rng.Steps.setCell _ _ _ _ (fun e => e h2))
    exact ⟨hg.os, hg.tape, hg.output, hg.size, fun k hk hn => hg.block k hk (fun e => hn (h4 k e.symm).1)⟩
  refine ⟨fun k => C k ∨ (X.heap.size ≤ k ∧ k < w1.heap.size), ⟨s1, fun k hk => by rw [hzz]; exact hk⟩, v', (heap_setCell_same _ B 0 _ _ _ hB1).trans rfl, .inl h2, ?_, ?_, ?_⟩
  · rw [List.length_append, List.length_singleton, spCells_snoc]
    refine own_step ho (fun k o hk hko => (Below.heap_setCell w1 ⟨B, 0, none⟩ v' k ?_).trans hko)
    rintro rfl
    rcases hw with e | e
    · exact nB (e ▸ hk)
    · rw [e] at hk; cases hk; omega
  · intro k hk
    rcases hw with e | e
    · rw [e] at hk; exact ⟨.inl (h4 k hk).1, (h4 k hk).2⟩
    · rw [e] at hk
      cases hk
      have := (own_in ho e).1
      exact ⟨.inr ⟨by omega, by omega⟩, by omega⟩
  · refine ((h5.trans (b1.mono h5.size)).trans ?_).setCell (by simpa using hb) _
    exact ⟨hg.os, hg.tape, hg.output, hg.size, fun k hk => hg.block k (by have := h5.size; omega) (fun e => by have := hvb k e.symm; omega)⟩

end Go.Proofs.Ytegbkeichkifnaa.rn
/-!   Package runs: New, Run, Has, Next, Gap.
-/
namespace Go.Proofs.Ytegbkeichkifnaa.rn
open Go.RowKit Go.Shelf aid mem rng sp
attribute [local go_sem ↓] Go.wp_at_zero Go.wp_at_succ
set_option linter.unusedVariables false
set_option linter.unusedSimpArgs false

/-- a span and whether there is one -/
def RetSB (x : Sp) (b : Bool) (w : World) (e : Ending) (w' : World) : Prop := e = .returned (.tuple #[.agg #[.int .i64 x.1, .int .i64 x.2], .bool b]) ∧ Below w.heap.size w w'
end Go.Proofs.Ytegbkeichkifnaa.rn
/-!   Package runs: slices.Clone, slices.Equal over spans; Clone, Same.
-/
namespace Go.Proofs.Ytegbkeichkifnaa.rn
open Go.RowKit Go.Shelf aid mem rng sp
attribute [local go_sem ↓] Go.wp_at_zero Go.wp_at_succ
set_option linter.unusedVariables false
set_option linter.unusedSimpArgs false

/-- a row of spans that is one's own -/
def RetRow (l : List Sp) (w : World) (e : Ending) (w' : World) : Prop := ∃ a' n' cap', e = .returned (.slice a' n' cap') ∧ SlR w' 24 2 a' n' cap' (spCells l) ∧ Below w.heap.size w w' ∧ ∀ b ∈ blk a' cap', w.heap.size ≤ b
theorem sls_of {w : World} {a : Option Addr} {n cap : Nat} {l : List Sp} (h : SlR w 24 2 a n cap (spCells l)) : SlS w a n cap l := ⟨row_len h, h.le, h.most, (fun ha => by
  by_cases hc : cap = 0
  · exact hc
  · obtain ⟨g, off, cur, hx, _⟩ := h.rest (by omega)
    rw [ha] at hx
    exact absurd hx (by simp)), fun h0 => row_cells h h0⟩
set_option maxRecDepth 100000 in
set_option maxHeartbeats 3200000 in
theorem sequal_any {w : World} {a b : Option Addr} {n m c d : Nat} {l r : List (Int × Int)} (ho : SlS w a n c l) (hq : SlS w b m d r) :
    Calls Try.prog 45 #[.slice a n c, .slice b m d] w fun e w' => e = .returned (.bool (decide (l = r))) ∧ Below w.heap.size w w' := by
  have hmo := ho.most
  have hleo := ho.le
  have hmq := hq.most
  have hleq := hq.le
  have hl1 := ho.len
  have hl2 := hq.len
  unfold maxLen at hmo hmq
  by_cases hnm : n = m
  · subst hnm
    have H1 := Lib.hid ho.cells
    have H2 := Lib.hid hq.cells
    have HL := Lib.hid (And.intro hl1 hl2)
    clear ho hq hl1 hl2
    go_enter Try.func45, Try.ntmps45
    go_wp2_with fail
    go_loopw [13] (fun i wr => ∃ k nq : Nat, k ≤ n ∧ i = .int .i64 k ∧ wr = w.drewN nq ∧ Hid (l.take k = r.take k)) (fun i _ => n - (intOf i).toNat)
    case atStart => exact ⟨0, 0, Nat.zero_le _, rfl, rfl, Lib.hid rfl⟩
    case round =>
      obtain ⟨k, nq, hk, rfl, rfl, HT⟩ := hrel
      have hk0 : (0 : Int) ≤ (k : Int) := by omega
      by_cases hlt : k < n
      · obtain ⟨b1, o1, rfl, hc1⟩ := H1.out (by omega)
        obtain ⟨b2, o2, rfl, hc2⟩ := H2.out (by omega)
        obtain ⟨g1, g2⟩ := hc1 k hlt
        obtain ⟨g3, g4⟩ := hc2 k hlt
        have hk1 : (k : Int) < (n : Int) := by omega
        have hst := take_eq_succ HT.out (by rw [HL.out.1]; exact hlt) (by rw [HL.out.2]; exact hlt)
        generalize l.getD k (0, 0) = x at *
        generalize r.getD k (0, 0) = y at *
        have HST := Lib.hid hst
        clear hc1 hc2 hst
        have eqg := eq_guard
        by_cases hxy : x = y
        · have eqb : ∀ w, (Op.equalIn 10000 24 (.agg #[.int .i64 x.1, .int .i64 x.2]) (.agg #[.int .i64 y.1, .int .i64 y.2])).run Try.prog w = .ok true w := fun w => by rw [eq_spB, hxy]; simp
          have H' := Lib.hid (HST.out.2 hxy)
          clear hxy HST
          go_wp2_with fail
          go_quiet (fail)
          clear eqb eqg
          go_wp2
          go_roundw
          case rel => exact ⟨k + 1, _, by omega, by go_num, rfl, H'⟩
          case measure => simp [intOf]; omega
        · have eqb : ∀ w, (Op.equalIn 10000 24 (.agg #[.int .i64 x.1, .int .i64 x.2]) (.agg #[.int .i64 y.1, .int .i64 y.2])).run Try.prog w = .ok false w := fun w => by rw [eq_spB, decide_eq_false hxy]
          have H' : Hid (decide (l = r) = false) := Lib.hid (decide_eq_false (fun e => hxy (HST.out.1 (by rw [e]))))
          clear hxy HST
          go_wp2_with fail
          go_quiet (fail)
          clear eqb eqg
          go_wp2
          go_ret
          exact ⟨ret_b H'.out.symm, ⟨rfl, rfl, rfl, Nat.le_refl _, fun _ _ => rfl⟩⟩
      · have H' : Hid (decide (l = r) = true) := Lib.hid (decide_eq_true (by have := HT.out; rw [List.take_of_length_le (by rw [HL.out.1]; omega), List.take_of_length_le (by rw [HL.out.2]; omega)] at this; exact this))
        clear HT
        go_wp2
        go_ret
        exact ⟨ret_b H'.out.symm, bdN w nq⟩
  · have H' : Hid (decide (l = r) = false) := Lib.hid (decide_eq_false (fun e => hnm (by rw [← hl1, ← hl2, e])))
    clear ho hq hl1 hl2
    go_enter Try.func45, Try.ntmps45
    go_wp2_with fail
    go_ret
    exact ⟨ret_b H'.out.symm, Below.refl _ _⟩
end Go.Proofs.Ytegbkeichkifnaa.rn
/-!   What the reference says of sets: Bytes, Within, Run, Next, Gap.
-/
namespace Go.Proofs.Ytegbkeichkifnaa.rn
open Go.RowKit Go.Shelf aid mem rng sp
attribute [local go_sem ↓] Go.wp_at_zero Go.wp_at_succ
set_option linter.unusedVariables false
set_option linter.unusedSimpArgs false

theorem take_bytes {l : List Sp} (hl : Rn l) (k : Nat) (hk : k < l.length) : bytesL (l.take (k + 1)) = bytesL (l.take k) + lenI (l.getD k (0, 0)) ∧ 0 ≤ bytesL (l.take k) ∧ bytesL (l.take (k + 1)) ≤ 4611686018427387904 := by
  refine ⟨?_, (hl.take k).bytes.1, (hl.take (k + 1)).bytes.2⟩
  rw [List.take_succ_eq_append_getElem hk, bytes_append, bytes_cons, bytes_nil]
  rw [show l.getD k (0, 0) = l[k] from by simp [List.getD, hk]]
  omega
theorem take_within {l : List Sp} (s : Sp) (hl : Rn l) (k : Nat) (hk : k < l.length) : withinL (l.take (k + 1)) s = withinL (l.take k) s + lenI (meetP (l.getD k (0, 0)) s) ∧ 0 ≤ withinL (l.take k) s ∧ withinL (l.take (k + 1)) s ≤ 4611686018427387904 := by
  refine ⟨?_, (within_le s (hl.take k).ok).1, Int.le_trans (within_le s (hl.take (k + 1)).ok).2 (hl.take (k + 1)).bytes.2⟩
  rw [List.take_succ_eq_append_getElem hk, within_append, within_cons, within_nil]
  rw [show l.getD k (0, 0) = l[k] from by simp [List.getD, hk]]
  omega
set_option maxHeartbeats 1000000 in
theorem rbytes_any {w : World} {a : Option Addr} {n cap : Nat} {l : List Sp} (h : SlS w a n cap l) (hl : Rn l) : Calls Try.prog 31 #[.slice a n cap] w (RetI (bytesL l) w) := by
  have hle := h.le
  have hmost := h.most
  have hlen := h.len
  unfold maxLen at hmost
  have HC := Lib.hid (fun h0 => h.cells h0)
  have HT := Lib.hid (fun k (hk : k < n) => take_bytes hl k (by omega))
  have HE := Lib.hid (show bytesL (l.take n) = bytesL l from by rw [List.take_of_length_le (by omega)])
  have hb := hl.bytes
  clear h hlen
  go_enter Try.func31, Try.ntmps31
  go_wp2_with fail
  go_loopw [3, 4] (fun s3 s4 wr => ∃ k : Nat, k ≤ n ∧ s4 = .int .i64 k ∧ s3 = .int .i64 (bytesL (l.take k)) ∧ Below w.heap.size w wr) (fun _ s4 _ => n - (intOf s4).toNat)
  case atStart => exact ⟨0, Nat.zero_le _, rfl, rfl, Below.refl _ _⟩
  case round =>
    obtain ⟨k, hk, rfl, rfl, hbw⟩ := hrel
    by_cases hlt : k < n
    · obtain ⟨g, off, rfl, hc⟩ := HC.out (by omega)
      obtain ⟨m0, m1⟩ := hc k hlt
      replace m0 := (hbw.cell (World.block_lt_of_cell? w _ m0)).trans m0
      replace m1 := (hbw.cell (World.block_lt_of_cell? w _ m1)).trans m1
      obtain ⟨t1, t2, t3⟩ := HT.out k hlt
      generalize l.getD k (0, 0) = m at *
      have HLN := Lib.hid (fun X => rlen_any m X)
      have hlm := lenI_bd m
      rw [t1] at t3
      have HT1 := Lib.hid t1
      generalize bytesL (l.take k) = s at *
      generalize lenI m = z at *
      clear t1 hc
      go_wp2_with fail
      refine (HLN.out _).mono ?_
      rintro e w2 ⟨rfl, h2⟩
      go_wp2_with fail
      go_roundw
      case rel => exact ⟨k + 1, by omega, by go_num, by rw [HT1.out], hbw.trans (h2.mono hbw.size)⟩
      case measure => simp [intOf]; omega
    · obtain rfl : k = n := by omega
      rw [HE.out]
      go_wp2
      go_ret
      exact ⟨rfl, hbw⟩
set_option maxHeartbeats 1000000 in
theorem rwithin_any {w : World} {a : Option Addr} {n cap : Nat} {l : List Sp} (h : SlS w a n cap l) (hl : Rn l) (s : Sp) : Calls Try.prog 12 #[.slice a n cap, spV s] w (RetI (withinL l s) w) := by
  have hle := h.le
  have hmost := h.most
  have hlen := h.len
  unfold maxLen at hmost
  have HC := Lib.hid (fun h0 => h.cells h0)
  have HT := Lib.hid (fun k (hk : k < n) => take_within s hl k (by omega))
  have HE := Lib.hid (show withinL (l.take n) s = withinL l s from by rw [List.take_of_length_le (by omega)])
  have b1 := bal (w := w) (.cells #[.int .i64 s.1, .int .i64 s.2] 24)
  have s1 := sp_new w s
  have HB1 := Lib.hid (And.intro b1 s1)
  clear h hlen b1 s1
  go_enter Try.func12, Try.ntmps12
  go_wp2_with fail
  go_loopw [5, 6] (fun s5 s6 wr => ∃ k : Nat, k ≤ n ∧ s6 = .int .i64 k ∧ s5 = .int .i64 (withinL (l.take k) s) ∧ Below w.heap.size w wr ∧ SpAt wr w.heap.size s) (fun _ s6 _ => n - (intOf s6).toNat)
  case atStart => exact ⟨0, Nat.zero_le _, rfl, rfl, HB1.out.1, HB1.out.2⟩
  case round =>
    obtain ⟨k, hk, rfl, rfl, hbw, hsp⟩ := hrel
    by_cases hlt : k < n
    · obtain ⟨g, off, rfl, hc⟩ := HC.out (by omega)
      obtain ⟨m0, m1⟩ := hc k hlt
      replace m0 := (hbw.cell (World.block_lt_of_cell? w _ m0)).trans m0
      replace m1 := (hbw.cell (World.block_lt_of_cell? w _ m1)).trans m1
      obtain ⟨t1, t2, t3⟩ := HT.out k hlt
      generalize l.getD k (0, 0) = m at *
      have HMT := Lib.hid (fun X => rmeet_any m s X)
      have HLN := Lib.hid (fun X => rlen_any (meetP m s) X)
      have hlm := lenI_bd (meetP m s)
      rw [t1] at t3
      have HT1 := Lib.hid t1
      have c0 := hsp.c0; have c1 := hsp.c1
      have HSP := Lib.hid hsp
      generalize withinL (l.take k) s = q at *
      generalize meetP m s = mm at *
      generalize lenI mm = z at *
      have hw1 : IntKind.i64.wrap (q + z) = q + z := IntWalk.i64_in _ (by omega)
      clear t1 hc hsp
      go_wp2_with fail
      go_region_held3 (fun w' => w'.cell? ⟨w.heap.size, 0, none⟩ = some (.int .i64 s.1) ∧ w'.cell? ⟨w.heap.size, 1, none⟩ = some (.int .i64 s.2) ∧ w'.cell? ⟨g, off + k * 2, none⟩ = some (.int .i64 m.1) ∧ w'.cell? ⟨g, off + k * 2 + 1, none⟩ = some (.int .i64 m.2))
        (first | go_keep | (with_reducible exact ⟨kcell (undrew h2) c0, kcell (undrew h2) c1, kcell (undrew h2) m0, kcell (undrew h2) m1⟩) | (with_reducible exact ⟨kcell ((undrew h2).trans (h3.mono (undrew h2).size)) c0, kcell ((undrew h2).trans (h3.mono (undrew h2).size)) c1, kcell ((undrew h2).trans (h3.mono (undrew h2).size)) m0, kcell ((undrew h2).trans (h3.mono (undrew h2).size)) m1⟩))
        (first
          | ((go_at_call 36; (with_reducible refine (HMT.out _).mono ?_); rintro e w2 ⟨rfl, h2⟩))
          | ((go_at_call 25; (with_reducible refine (HLN.out _).mono ?_); rintro e w3 ⟨rfl, h3⟩)))
      have h23 := (undrew h2).trans (h3.mono (undrew h2).size)
      have HQ := Lib.hid (And.intro (hbw.trans (h23.mono hbw.size)) (HSP.out.later h23))
      clear h2 h3 h23 c0 c1 m0 m1
      go_wp2
      go_roundw
      case rel => exact ⟨k + 1, by omega, by go_num, by rw [HT1.out], HQ.out.1, HQ.out.2⟩
      case measure => simp [intOf]; omega
    · obtain rfl : k = n := by omega
      rw [HE.out]
      go_wp2
      go_ret
      exact ⟨rfl, hbw⟩
theorem run_step {l : List Sp} {o : Int} {k : Nat} (hk : k < l.length) : runL (l.drop k) o = if hasB (l.getD k (0, 0)) o = true then l.getD k (0, 0) else runL (l.drop (k + 1)) o := by
  rw [drop_getD hk]
  unfold runL
  rw [List.find?_cons]
  cases h : hasB (l.getD k (0, 0)) o <;> simp
theorem run_none (o : Int) : runL [] o = (0, 0) := rfl
theorem next_step {l : List Sp} {o : Int} {k : Nat} (hk : k < l.length) : nextL (l.drop k) o = if 0 < lenI (fromP (l.getD k (0, 0)) o) then fromP (l.getD k (0, 0)) o else nextL (l.drop (k + 1)) o := by
  rw [drop_getD hk]
  unfold nextL
  rw [List.map_cons, List.find?_cons]
  by_cases h : 0 < lenI (fromP (l.getD k (0, 0)) o)
  · rw [decide_eq_true h, if_pos h]; rfl
  · rw [decide_eq_false h, if_neg h]
theorem next_none (o : Int) : nextL [] o = (0, 0) := rfl
end Go.Proofs.Ytegbkeichkifnaa.rn
/-!   The reference's Without.
-/
namespace Go.Proofs.Ytegbkeichkifnaa.rn
open Go.RowKit Go.Shelf aid mem rng sp
attribute [local go_sem ↓] Go.wp_at_zero Go.wp_at_succ
set_option linter.unusedVariables false
set_option linter.unusedSimpArgs false

/-- a row that grows, beside a span in its box -/
structure WOs (w : World) (s : Sp) (bs : Nat) (L : List Sp) (v : Value) (X : World) : Prop where
  own : X.ownsRow (bs + 1) 24 2 v L.length (spCells L)
  sp : SpAt X bs s
  below : Below w.heap.size w X
  ge : w.heap.size ≤ bs
theorem WOs.later {w : World} {s : Sp} {bs : Nat} {L : List Sp} {v : Value} {X Y : World} (h : WOs w s bs L v X) (hb : Below X.heap.size X Y) : WOs w s bs L v Y :=
  ⟨own_later h.own hb, h.sp.later hb, h.below.trans (hb.mono h.below.size), h.ge⟩
theorem WOs.al {w : World} {s : Sp} {bs : Nat} {L : List Sp} {v : Value} {X : World} (h : WOs w s bs L v X) (o : Obj) : WOs w s bs L v (X.alloc o) := h.later (bal o)
/-- a new box beside it -/
structure Bx (w : World) (bs : Nat) (v : Value) (p : Nat) (y : Sp) (X : World) : Prop where
  at_ : SpAt X p y
  ne : bs ≠ p
  nown : v.ownBlock ≠ some p
  ge : w.heap.size ≤ p
theorem WOs.newbox {w : World} {s : Sp} {bs : Nat} {L : List Sp} {v : Value} {X : World} (h : WOs w s bs L v X) (y : Sp) : Bx w bs v X.heap.size y (X.alloc (.cells #[.int .i64 y.1, .int .i64 y.2] 24)) :=
  ⟨sp_new X y, by have := h.sp.lt; omega, fun e => by have := (own_in h.own e).1; omega, h.below.size⟩
theorem Bx.later {w : World} {bs p : Nat} {y : Sp} {v : Value} {X Y : World} (h : Bx w bs v p y X) (hb : Below X.heap.size X Y) : Bx w bs v p y Y := ⟨h.at_.later hb, h.ne, h.nown, h.ge⟩
theorem Bx.put {w : World} {s : Sp} {bs p : Nat} {L : List Sp} {y : Sp} {v : Value} {X : World} (hb : Bx w bs v p y X) (h : WOs w s bs L v X) (a b : Int) : WOs w s bs L v ((X.setCell ⟨p, 0, none⟩ (.int .i64 a)).setCell ⟨p, 1, none⟩ (.int .i64 b)) := by
  have hk := kput X p (.int .i64 a) (.int .i64 b)
  exact ⟨own_step h.own (fun k o hk1 hk2 => hk.heap (fun e => by simp at e; exact hb.nown (e ▸ hk1)) hk2), hk.heap (fun e => by simp at e; exact hb.ne e) h.sp, h.below.trans (hk.below (B := w.heap.size) (fun k hk => by simp at hk; subst hk; exact hb.ge) h.below.size), h.ge⟩
theorem Bx.put' {w : World} {bs p : Nat} {y : Sp} {v : Value} {X : World} (hb : Bx w bs v p y X) (a b : Int) : Bx w bs v p (a, b) ((X.setCell ⟨p, 0, none⟩ (.int .i64 a)).setCell ⟨p, 1, none⟩ (.int .i64 b)) := ⟨hb.at_.put a b, hb.ne, hb.nown, hb.ge⟩
theorem Bx.al {w : World} {bs p : Nat} {y : Sp} {v : Value} {X : World} (h : Bx w bs v p y X) (o : Obj) : Bx w bs v p y (X.alloc o) := h.later (bal o)
theorem WOs.sep {w : World} {s : Sp} {bs p : Nat} {L : List Sp} {y : Sp} {v : Value} {X : World} (h : WOs w s bs L v X) (hx : Bx w bs v p y X) : p ≠ X.heap.size := by have := hx.at_.lt; omega
theorem Bx.keep {w : World} {bs p q : Nat} {y : Sp} {v : Value} {X : World} (h : Bx w bs v p y X) (hn : p ≠ q) (a b : Int) : Bx w bs v p y ((X.setCell ⟨q, 0, none⟩ (.int .i64 a)).setCell ⟨q, 1, none⟩ (.int .i64 b)) :=
  ⟨h.at_.keep (kput X q (.int .i64 a) (.int .i64 b)) (by simpa using hn), h.ne, h.nown, h.ge⟩
/-- the row has grown -/
theorem WOs.grow {w : World} {s : Sp} {bs : Nat} {L : List Sp} {v v' : Value} {X Y : World} {y : Sp} {n : Nat} (h : WOs w s bs L v X) (hn : L.length + 1 = n) (ho : Y.ownsRow (bs + 1) 24 2 v' n (spCells L ++ [.int .i64 y.1, .int .i64 y.2])) (hg : X.grownBy Y v.ownBlock) : WOs w s bs (L ++ [y]) v' Y := by
  refine ⟨by rw [List.length_append, List.length_singleton, spCells_snoc, hn]; exact ho, (hg.block bs h.sp.lt (fun e => by have := (own_in h.own e.symm).2; omega)).trans h.sp, h.below.trans (below_grown hg h.below.size (fun k hk => by have := (own_in h.own hk).2; have := h.ge; omega)), h.ge⟩
theorem WOs.box {w : World} {s : Sp} {bs p : Nat} {L : List Sp} {v : Value} {X Y : World} {y : Sp} (h : WOs w s bs L v X) (hx : SpAt X p y) (hp : v.ownBlock ≠ some p) (hg : X.grownBy Y v.ownBlock) : SpAt Y p y :=
  (hg.block p hx.lt (fun e => hp e.symm)).trans hx
theorem wo_take {l : List Sp} (s : Sp) {k : Nat} (hk : k < l.length) : woL (l.take (k + 1)) s = woL (l.take k) s ++ (ne (belowP (l.getD k (0, 0)) s.1) ++ ne (fromP (l.getD k (0, 0)) s.2)) := by
  rw [show l.getD k (0, 0) = l[k] from by simp [List.getD, hk]]
  unfold woL
  rw [List.take_succ_eq_append_getElem hk, List.flatMap_append]
  simp
theorem wo_take_len (l : List Sp) (s : Sp) : ∀ k, (woL (l.take k) s).length ≤ 2 * k := by
  have h1 : ∀ x : Sp, (ne x).length ≤ 1 := fun x => by unfold ne; split <;> simp
  intro k
  induction k with
  | zero => simp [woL]
  | succ k ih =>
    by_cases hk : k < l.length
    · rw [wo_take s hk]
      have h2 := h1 (belowP (l.getD k (0, 0)) s.1)
      have h3 := h1 (fromP (l.getD k (0, 0)) s.2)
      simp only [List.length_append]
      omega
    · rw [List.take_of_length_le (by omega)] at ih ⊢
      omega
set_option maxRecDepth 100000 in
set_option maxHeartbeats 8000000 in
theorem rwithout_any {w : World} {a : Option Addr} {n cap : Nat} {l : List Sp} (h : SlS w a n cap l) (hn : n ≤ 100000) (s : Sp) : Calls Try.prog 52 #[.slice a n cap, spV s] w fun e w' => ∃ a' n' cap', e = .returned (.slice a' n' cap') ∧ SlS w' a' n' cap' (refWo l s) ∧ Below w.heap.size w w' ∧ ∀ x, a' = some x → (a = some x ∧ n' = n) ∨ w.heap.size ≤ x.block := by
  have hle := h.le
  have hmost := h.most
  have hlen := h.len
  unfold maxLen at hmost
  have HC := Lib.hid (fun h0 => h.cells h0)
  have b1 := bal (w := w) (.cells #[.int .i64 s.1, .int .i64 s.2] 24)
  have s1 := sp_new w s
  have c0 := s1.c0; have c1 := s1.c1
  have HLS := Lib.hid (fun X => rlen_any s X)
  have HRF := Lib.hid (show refWo l s = if lenI s = 0 then l else woL l s from rfl)
  have HTK := Lib.hid (fun k (hk : k < n) => wo_take (l := l) s (k := k) (by omega))
  have HLE := Lib.hid (wo_take_len l s)
  have HEN := Lib.hid (show woL (l.take n) s = woL l s from by rw [List.take_of_length_le (by omega)])
  have HB1 := Lib.hid (And.intro b1 s1)
  have HS := Lib.hid h
  clear b1 s1 h hlen
  obtain ⟨i0, hi, hz0, hz1, hz2⟩ := info_split info_span
  generalize lenI s = z at *
  go_enter Try.func52, Try.ntmps52
  go_wp2_with fail
  refine (HLS.out _).mono ?_
  rintro e w2 ⟨rfl, h2⟩
  obtain ⟨b1, s1⟩ := HB1.out
  have b2 := b1.trans (h2.mono b1.size)
  have s2 := s1.later h2
  clear b1 s1 h2 c0 c1 HB1
  by_cases hz : z = 0
  · subst hz
    rw [if_pos rfl] at HRF
    have HF := Lib.hid (show SlS w2 a n cap (refWo l s) from by rw [HRF.out]; exact HS.out.later b2)
    clear HC HLS HTK HLE HEN HRF
    go_wp2
    go_ret
    exact ⟨_, _, _, rfl, HF.out, b2, fun x hx => .inl ⟨hx, rfl⟩⟩
  rw [if_neg hz] at HRF
  have K0 : WOs w s w.heap.size [] (.slice none 0 0) w2 := ⟨World.ownsRow_nil _ _ _ _, s2, b2, Nat.le_refl _⟩
  have HK0 := Lib.hid K0
  clear K0 s2 b2
  generalize w.heap.size = bs at *
  go_wp2_with fail
  rename (z == 0) = false => hzz
  simp only [hzz]
  clear hz hzz
  go_loopw [5, 6] (fun s5 s6 wr => ∃ k : Nat, k ≤ n ∧ s6 = .int .i64 k ∧ Hid (WOs w s bs (woL (l.take k) s) s5 wr)) (fun _ s6 _ => n - (intOf s6).toNat)
  case atStart => exact ⟨0, Nat.zero_le _, rfl, HK0⟩
  case round =>
    obtain ⟨k, hk, rfl, HK⟩ := hrel
    by_cases hlt : k < n
    · obtain ⟨g, off, rfl, hc⟩ := HC.out (by omega)
      obtain ⟨m0, m1⟩ := hc k hlt
      have HTK1 := Lib.hid (HTK.out k hlt)
      have hLE := HLE.out k
      generalize l.getD k (0, 0) = x at *
      generalize woL (l.take k) s = L at *
      have HKP := Lib.hid (fun X (L' : List Sp) (v' : Value) (K : WOs w s bs L' v' X) => show X.cell? ⟨bs, 0, none⟩ = some (.int .i64 s.1) ∧ X.cell? ⟨bs, 1, none⟩ = some (.int .i64 s.2) ∧ X.cell? ⟨g, off + k * 2, none⟩ = some (.int .i64 x.1) ∧ X.cell? ⟨g, off + k * 2 + 1, none⟩ = some (.int .i64 x.2) from
        ⟨K.sp.c0, K.sp.c1, (K.below.cell (World.block_lt_of_cell? w _ m0)).trans m0, (K.below.cell (World.block_lt_of_cell? w _ m1)).trans m1⟩)
      have HBL := Lib.hid (fun X => rbelow_any x s.1 X)
      have HFR := Lib.hid (fun X => rfrom_any x s.2 X)
      clear m0 m1 hc HC HTK HLE HEN HRF HS
      generalize belowP x s.1 = q1 at *
      generalize fromP x s.2 = q2 at *
      have Kc := HK.out.later (Below.refl _ _).drew
      go_upto_region 7 with (fail)
      go_cut [7] from 13 to 46 (fun s7 wx => ∃ p : Nat, s7 = .pointer (some ⟨p, 0, none⟩) ∧ Hid (Bx w bs u5 p q1 wx ∧ WOs w s bs L u5 wx))
      case first =>
        refine wp_region_noPanic ?_
        refine wp_region_held_drew (S := (fun w' => w'.cell? ⟨bs, 0, none⟩ = some (.int .i64 s.1) ∧ w'.cell? ⟨bs, 1, none⟩ = some (.int .i64 s.2) ∧ w'.cell? ⟨g, off + k * 2, none⟩ = some (.int .i64 x.1) ∧ w'.cell? ⟨g, off + k * 2 + 1, none⟩ = some (.int .i64 x.2))) (by kernel_rfl) ?_ (fun hHeld => ?_)
        · ((try dsimp only); exact HKP.out _ _ _ Kc)
        generalize wr.drew = C0 at *
        refine wpAnyH_take (i := 0) (oi := _) (v := ?_) rfl (by kernel_rfl) (by kernel_rfl) (by kernel_rfl) (fun _ _ _ h => h) (Or.inl ⟨by rfl, ?_⟩) (by assumption) ?_
        rotate_left
        · (first | (intro v hSw; (try dsimp only at hSw); go_simp; done) | (intro v hSw; (try dsimp only at hSw); go_simp; with_reducible rfl))
        (try simp only [List.getElem_toArray, List.getElem_cons_succ, List.getElem_cons_zero, Act.put, List.setIfInBounds_toArray, List.set_cons_zero, List.set_cons_succ])
        refine wpAnyH_take (i := 1) (oi := _) (v := ?_) rfl (by kernel_rfl) (by kernel_rfl) (by kernel_rfl) (fun _ _ _ h => h) (Or.inl ⟨by rfl, ?_⟩) (by assumption) ?_
        rotate_left
        · (first | (intro v hSw; (try dsimp only at hSw); go_simp; done) | (intro v hSw; (try dsimp only at hSw); go_simp; with_reducible rfl))
        (try simp only [List.getElem_toArray, List.getElem_cons_succ, List.getElem_cons_zero, Act.put, List.setIfInBounds_toArray, List.set_cons_zero, List.set_cons_succ])
        refine wpAnyH_take (i := 2) (oi := _) (v := ?_) rfl (by kernel_rfl) (by kernel_rfl) (by kernel_rfl) (fun _ _ _ h => h) (Or.inl ⟨by rfl, ?_⟩) (by assumption) ?_
        rotate_left
        · (first | (intro v hSw; (try dsimp only at hSw); go_simp; done) | (intro v hSw; (try dsimp only at hSw); go_simp; with_reducible rfl))
        (try simp only [List.getElem_toArray, List.getElem_cons_succ, List.getElem_cons_zero, Act.put, List.setIfInBounds_toArray, List.set_cons_zero, List.set_cons_succ])
        refine wpAnyH_take (i := 3) (oi := _) (v := ?_) rfl (by kernel_rfl) (by kernel_rfl) (by kernel_rfl) (fun _ _ _ h => h) (Or.inl ⟨by rfl, ?_⟩) (by assumption) ?_
        rotate_left
        · (first | (intro v hSw; (try dsimp only at hSw); go_simp; done) | (intro v hSw; (try dsimp only at hSw); go_simp; with_reducible rfl))
        (try simp only [List.getElem_toArray, List.getElem_cons_succ, List.getElem_cons_zero, Act.put, List.setIfInBounds_toArray, List.set_cons_zero, List.set_cons_succ])
        refine wpAnyH_take (i := 4) (oi := _) (v := ?_) rfl (by kernel_rfl) (by kernel_rfl) (by kernel_rfl) (fun _ _ _ h => h) (Or.inl ⟨by rfl, ?_⟩) (by assumption) ?_
        rotate_left
        · (first | (intro v hSw; (try dsimp only at hSw); go_simp; done) | (intro v hSw; (try dsimp only at hSw); go_simp; with_reducible rfl))
        (try simp only [List.getElem_toArray, List.getElem_cons_succ, List.getElem_cons_zero, Act.put, List.setIfInBounds_toArray, List.set_cons_zero, List.set_cons_succ])
        refine wpAnyH_take (i := 5) (oi := _) (v := ?_) rfl (by kernel_rfl) (by kernel_rfl) (by kernel_rfl) (fun _ _ _ h => h) (Or.inl ⟨by rfl, ?_⟩) (by assumption) ?_
        rotate_left
        · (first | (intro v hSw; (try dsimp only at hSw); go_simp; done) | (intro v hSw; (try dsimp only at hSw); go_simp; with_reducible rfl))
        (try simp only [List.getElem_toArray, List.getElem_cons_succ, List.getElem_cons_zero, Act.put, List.setIfInBounds_toArray, List.set_cons_zero, List.set_cons_succ])
        refine wpAnyH_ready (rs := [6, 7]) (by kernel_rfl) (by simp) ?_
        refine AllReadyH.cons (o := _) rfl (fun K hK => ?_) ?_
        · go_simp
          (refine (HBL.out _).mono ?_)
          rintro e w3 ⟨rfl, h3⟩
          replace Kc := Kc.later h3
          (try replace xb := xb.later h3)
          refine hK.out _ _ ?_ (fun hHeld => ?_)
          · ((try dsimp only); exact HKP.out _ _ _ Kc)
          clear hK K
          (try simp only [List.getElem_toArray, List.getElem_cons_succ, List.getElem_cons_zero, Act.put, List.setIfInBounds_toArray, List.set_cons_zero, List.set_cons_succ])
          refine wpAnyH_ready (rs := [7]) (by kernel_rfl) (by simp) ?_
          refine AllReadyH.cons (o := _) rfl (fun K hK => ?_) AllReadyH.nil
          go_simp
          have yb := Kc.newbox q1
          have Kb := Kc.al (.cells #[.int .i64 q1.1, .int .i64 q1.2] 24)
          have xb := Kc.newbox (0, 0)
          replace Kc := Kc.al (.cells #[.int .i64 0, .int .i64 0] 24)
          refine hK.out _ _ ?_ (fun hHeld => ?_)
          · ((try dsimp only); exact HKP.out _ _ _ Kc)
          clear hK K
          (try simp only [List.getElem_toArray, List.getElem_cons_succ, List.getElem_cons_zero, Act.put, List.setIfInBounds_toArray, List.set_cons_zero, List.set_cons_succ])
          refine wpAnyH_ready (rs := [8]) (by kernel_rfl) (by simp) ?_
          refine AllReadyH.cons (o := _) rfl (fun K hK => ?_) AllReadyH.nil
          go_simp
          have z0 := xb.at_.c0
          have z1 := xb.at_.c1
          have z2 := xb.at_.f0
          have z3 := xb.at_.f1
          replace Kc := xb.put Kc q1.1 q1.2
          replace xb := xb.put' q1.1 q1.2
          go_simp
          refine hK.out _ _ ?_ (fun hHeld => ?_)
          · ((try dsimp only); (first | exact HKP.out _ _ _ Kc | exact HKP.out _ _ _ Kb))
          clear hK K
          (try simp only [List.getElem_toArray, List.getElem_cons_succ, List.getElem_cons_zero, Act.put, List.setIfInBounds_toArray, List.set_cons_zero, List.set_cons_succ])
          refine wpAnyH_done (by kernel_rfl) ?_ _
          refine NoPanic.normal ?_
          clear hHeld
          go_wp2_with fail
          go_meet
          (first | exact ⟨_, rfl, Lib.hid ⟨xb, Kc⟩⟩ | exact ⟨_, rfl, Lib.hid ⟨yb, Kb⟩⟩)
        refine AllReadyH.cons (o := _) rfl (fun K hK => ?_) AllReadyH.nil
        go_simp
        have yb := Kc.newbox q1
        have Kb := Kc.al (.cells #[.int .i64 q1.1, .int .i64 q1.2] 24)
        have xb := Kc.newbox (0, 0)
        replace Kc := Kc.al (.cells #[.int .i64 0, .int .i64 0] 24)
        refine hK.out _ _ ?_ (fun hHeld => ?_)
        · ((try dsimp only); exact HKP.out _ _ _ Kc)
        clear hK K
        (try simp only [List.getElem_toArray, List.getElem_cons_succ, List.getElem_cons_zero, Act.put, List.setIfInBounds_toArray, List.set_cons_zero, List.set_cons_succ])
        refine wpAnyH_ready (rs := [6]) (by kernel_rfl) (by simp) ?_
        refine AllReadyH.cons (o := _) rfl (fun K hK => ?_) AllReadyH.nil
        go_simp
        (refine (HBL.out _).mono ?_)
        rintro e w3 ⟨rfl, h3⟩
        replace Kc := Kc.later h3
        (try replace xb := xb.later h3)
        refine hK.out _ _ ?_ (fun hHeld => ?_)
        · ((try dsimp only); exact HKP.out _ _ _ Kc)
        clear hK K
        (try simp only [List.getElem_toArray, List.getElem_cons_succ, List.getElem_cons_zero, Act.put, List.setIfInBounds_toArray, List.set_cons_zero, List.set_cons_succ])
        refine wpAnyH_ready (rs := [8]) (by kernel_rfl) (by simp) ?_
        refine AllReadyH.cons (o := _) rfl (fun K hK => ?_) AllReadyH.nil
        go_simp
        have z0 := xb.at_.c0
        have z1 := xb.at_.c1
        have z2 := xb.at_.f0
        have z3 := xb.at_.f1
        replace Kc := xb.put Kc q1.1 q1.2
        replace xb := xb.put' q1.1 q1.2
        go_simp
        refine hK.out _ _ ?_ (fun hHeld => ?_)
        · ((try dsimp only); (first | exact HKP.out _ _ _ Kc | exact HKP.out _ _ _ Kb))
        clear hK K
        (try simp only [List.getElem_toArray, List.getElem_cons_succ, List.getElem_cons_zero, Act.put, List.setIfInBounds_toArray, List.set_cons_zero, List.set_cons_succ])
        refine wpAnyH_done (by kernel_rfl) ?_ _
        refine NoPanic.normal ?_
        clear hHeld
        go_wp2_with fail
        go_meet
        (first | exact ⟨_, rfl, Lib.hid ⟨xb, Kc⟩⟩ | exact ⟨_, rfl, Lib.hid ⟨yb, Kb⟩⟩)
      case rest =>
        obtain ⟨p7, rfl, HB7⟩ := hcut
        clear Kc HK
        have Kc := HB7.out.2.later (Below.refl _ _).drew
        go_upto_region 8 with (fail)
        go_cut [8] from 13 to 46 (fun s8 wx => ∃ p : Nat, s8 = .pointer (some ⟨p, 0, none⟩) ∧ Hid (Bx w bs u5 p7 q1 wx ∧ Bx w bs u5 p q2 wx ∧ WOs w s bs L u5 wx))
        case first =>
          have xa := HB7.out.1.later (Below.refl _ _).drew
          clear HB7
          refine wp_region_noPanic ?_
          refine wp_region_held_drew (S := (fun w' => w'.cell? ⟨bs, 0, none⟩ = some (.int .i64 s.1) ∧ w'.cell? ⟨bs, 1, none⟩ = some (.int .i64 s.2) ∧ w'.cell? ⟨g, off + k * 2, none⟩ = some (.int .i64 x.1) ∧ w'.cell? ⟨g, off + k * 2 + 1, none⟩ = some (.int .i64 x.2))) (by kernel_rfl) ?_ (fun hHeld => ?_)
          · ((try dsimp only); exact HKP.out _ _ _ Kc)
          generalize wc.drew = C0 at *
          refine wpAnyH_take (i := 0) (oi := _) (v := ?_) rfl (by kernel_rfl) (by kernel_rfl) (by kernel_rfl) (fun _ _ _ h => h) (Or.inl ⟨by rfl, ?_⟩) (by assumption) ?_
          rotate_left
          · (first | (intro v hSw; (try dsimp only at hSw); go_simp; done) | (intro v hSw; (try dsimp only at hSw); go_simp; with_reducible rfl))
          (try simp only [List.getElem_toArray, List.getElem_cons_succ, List.getElem_cons_zero, Act.put, List.setIfInBounds_toArray, List.set_cons_zero, List.set_cons_succ])
          refine wpAnyH_take (i := 1) (oi := _) (v := ?_) rfl (by kernel_rfl) (by kernel_rfl) (by kernel_rfl) (fun _ _ _ h => h) (Or.inl ⟨by rfl, ?_⟩) (by assumption) ?_
          rotate_left
          · (first | (intro v hSw; (try dsimp only at hSw); go_simp; done) | (intro v hSw; (try dsimp only at hSw); go_simp; with_reducible rfl))
          (try simp only [List.getElem_toArray, List.getElem_cons_succ, List.getElem_cons_zero, Act.put, List.setIfInBounds_toArray, List.set_cons_zero, List.set_cons_succ])
          refine wpAnyH_take (i := 2) (oi := _) (v := ?_) rfl (by kernel_rfl) (by kernel_rfl) (by kernel_rfl) (fun _ _ _ h => h) (Or.inl ⟨by rfl, ?_⟩) (by assumption) ?_
          rotate_left
          · (first | (intro v hSw; (try dsimp only at hSw); go_simp; done) | (intro v hSw; (try dsimp only at hSw); go_simp; with_reducible rfl))
          (try simp only [List.getElem_toArray, List.getElem_cons_succ, List.getElem_cons_zero, Act.put, List.setIfInBounds_toArray, List.set_cons_zero, List.set_cons_succ])
          refine wpAnyH_take (i := 3) (oi := _) (v := ?_) rfl (by kernel_rfl) (by kernel_rfl) (by kernel_rfl) (fun _ _ _ h => h) (Or.inl ⟨by rfl, ?_⟩) (by assumption) ?_
          rotate_left
          · (first | (intro v hSw; (try dsimp only at hSw); go_simp; done) | (intro v hSw; (try dsimp only at hSw); go_simp; with_reducible rfl))
          (try simp only [List.getElem_toArray, List.getElem_cons_succ, List.getElem_cons_zero, Act.put, List.setIfInBounds_toArray, List.set_cons_zero, List.set_cons_succ])
          refine wpAnyH_take (i := 4) (oi := _) (v := ?_) rfl (by kernel_rfl) (by kernel_rfl) (by kernel_rfl) (fun _ _ _ h => h) (Or.inl ⟨by rfl, ?_⟩) (by assumption) ?_
          rotate_left
          · (first | (intro v hSw; (try dsimp only at hSw); go_simp; done) | (intro v hSw; (try dsimp only at hSw); go_simp; with_reducible rfl))
          (try simp only [List.getElem_toArray, List.getElem_cons_succ, List.getElem_cons_zero, Act.put, List.setIfInBounds_toArray, List.set_cons_zero, List.set_cons_succ])
          refine wpAnyH_take (i := 5) (oi := _) (v := ?_) rfl (by kernel_rfl) (by kernel_rfl) (by kernel_rfl) (fun _ _ _ h => h) (Or.inl ⟨by rfl, ?_⟩) (by assumption) ?_
          rotate_left
          · (first | (intro v hSw; (try dsimp only at hSw); go_simp; done) | (intro v hSw; (try dsimp only at hSw); go_simp; with_reducible rfl))
          (try simp only [List.getElem_toArray, List.getElem_cons_succ, List.getElem_cons_zero, Act.put, List.setIfInBounds_toArray, List.set_cons_zero, List.set_cons_succ])
          refine wpAnyH_ready (rs := [6, 7]) (by kernel_rfl) (by simp) ?_
          refine AllReadyH.cons (o := _) rfl (fun K hK => ?_) ?_
          · go_simp
            (refine (HFR.out _).mono ?_)
            rintro e w3 ⟨rfl, h3⟩
            replace Kc := Kc.later h3
            replace xa := xa.later h3
            (try replace xb := xb.later h3)
            refine hK.out _ _ ?_ (fun hHeld => ?_)
            · ((try dsimp only); exact HKP.out _ _ _ Kc)
            clear hK K
            (try simp only [List.getElem_toArray, List.getElem_cons_succ, List.getElem_cons_zero, Act.put, List.setIfInBounds_toArray, List.set_cons_zero, List.set_cons_succ])
            refine wpAnyH_ready (rs := [7]) (by kernel_rfl) (by simp) ?_
            refine AllReadyH.cons (o := _) rfl (fun K hK => ?_) AllReadyH.nil
            go_simp
            have na := Kc.sep xa
            have ya := xa.al (.cells #[.int .i64 q2.1, .int .i64 q2.2] 24)
            replace xa := xa.al (.cells #[.int .i64 0, .int .i64 0] 24)
            have yb := Kc.newbox q2
            have Kb := Kc.al (.cells #[.int .i64 q2.1, .int .i64 q2.2] 24)
            have xb := Kc.newbox (0, 0)
            replace Kc := Kc.al (.cells #[.int .i64 0, .int .i64 0] 24)
            refine hK.out _ _ ?_ (fun hHeld => ?_)
            · ((try dsimp only); exact HKP.out _ _ _ Kc)
            clear hK K
            (try simp only [List.getElem_toArray, List.getElem_cons_succ, List.getElem_cons_zero, Act.put, List.setIfInBounds_toArray, List.set_cons_zero, List.set_cons_succ])
            refine wpAnyH_ready (rs := [8]) (by kernel_rfl) (by simp) ?_
            refine AllReadyH.cons (o := _) rfl (fun K hK => ?_) AllReadyH.nil
            go_simp
            have z0 := xb.at_.c0
            have z1 := xb.at_.c1
            have z2 := xb.at_.f0
            have z3 := xb.at_.f1
            replace xa := xa.keep na q2.1 q2.2
            replace Kc := xb.put Kc q2.1 q2.2
            replace xb := xb.put' q2.1 q2.2
            go_simp
            refine hK.out _ _ ?_ (fun hHeld => ?_)
            · ((try dsimp only); (first | exact HKP.out _ _ _ Kc | exact HKP.out _ _ _ Kb))
            clear hK K
            (try simp only [List.getElem_toArray, List.getElem_cons_succ, List.getElem_cons_zero, Act.put, List.setIfInBounds_toArray, List.set_cons_zero, List.set_cons_succ])
            refine wpAnyH_done (by kernel_rfl) ?_ _
            refine NoPanic.normal ?_
            clear hHeld
            go_wp2_with fail
            go_meet
            (first | exact ⟨_, rfl, Lib.hid ⟨xa, xb, Kc⟩⟩ | exact ⟨_, rfl, Lib.hid ⟨ya, yb, Kb⟩⟩)
          refine AllReadyH.cons (o := _) rfl (fun K hK => ?_) AllReadyH.nil
          go_simp
          have na := Kc.sep xa
          have ya := xa.al (.cells #[.int .i64 q2.1, .int .i64 q2.2] 24)
          replace xa := xa.al (.cells #[.int .i64 0, .int .i64 0] 24)
          have yb := Kc.newbox q2
          have Kb := Kc.al (.cells #[.int .i64 q2.1, .int .i64 q2.2] 24)
          have xb := Kc.newbox (0, 0)
          replace Kc := Kc.al (.cells #[.int .i64 0, .int .i64 0] 24)
          refine hK.out _ _ ?_ (fun hHeld => ?_)
          · ((try dsimp only); exact HKP.out _ _ _ Kc)
          clear hK K
          (try simp only [List.getElem_toArray, List.getElem_cons_succ, List.getElem_cons_zero, Act.put, List.setIfInBounds_toArray, List.set_cons_zero, List.set_cons_succ])
          refine wpAnyH_ready (rs := [6]) (by kernel_rfl) (by simp) ?_
          refine AllReadyH.cons (o := _) rfl (fun K hK => ?_) AllReadyH.nil
          go_simp
          (refine (HFR.out _).mono ?_)
          rintro e w3 ⟨rfl, h3⟩
          replace Kc := Kc.later h3
          replace xa := xa.later h3
          (try replace xb := xb.later h3)
          refine hK.out _ _ ?_ (fun hHeld => ?_)
          · ((try dsimp only); exact HKP.out _ _ _ Kc)
          clear hK K
          (try simp only [List.getElem_toArray, List.getElem_cons_succ, List.getElem_cons_zero, Act.put, List.setIfInBounds_toArray, List.set_cons_zero, List.set_cons_succ])
          refine wpAnyH_ready (rs := [8]) (by kernel_rfl) (by simp) ?_
          refine AllReadyH.cons (o := _) rfl (fun K hK => ?_) AllReadyH.nil
          go_simp
          have z0 := xb.at_.c0
          have z1 := xb.at_.c1
          have z2 := xb.at_.f0
          have z3 := xb.at_.f1
          replace xa := xa.keep na q2.1 q2.2
          replace Kc := xb.put Kc q2.1 q2.2
          replace xb := xb.put' q2.1 q2.2
          go_simp
          refine hK.out _ _ ?_ (fun hHeld => ?_)
          · ((try dsimp only); (first | exact HKP.out _ _ _ Kc | exact HKP.out _ _ _ Kb))
          clear hK K
          (try simp only [List.getElem_toArray, List.getElem_cons_succ, List.getElem_cons_zero, Act.put, List.setIfInBounds_toArray, List.set_cons_zero, List.set_cons_succ])
          refine wpAnyH_done (by kernel_rfl) ?_ _
          refine NoPanic.normal ?_
          clear hHeld
          go_wp2_with fail
          go_meet
          (first | exact ⟨_, rfl, Lib.hid ⟨xa, xb, Kc⟩⟩ | exact ⟨_, rfl, Lib.hid ⟨ya, yb, Kb⟩⟩)
        case rest =>
          obtain ⟨p8, rfl, HB8⟩ := hcut
          clear Kc HB7
          obtain ⟨x7, x8, Kc⟩ := HB8.out
          have HL1 := Lib.hid (fun X => rlen_any q1 X)
          have HL2 := Lib.hid (fun X => rlen_any q2 X)
          have hb1 := (lenI_bd q1).1
          have hb2 := (lenI_bd q2).1
          have HN1 := Lib.hid (fun (h : 0 < lenI q1) => show ne q1 = [q1] from by unfold ne; rw [if_neg (by omega)])
          have HM1 := Lib.hid (fun (h : ¬ 0 < lenI q1) => show ne q1 = [] from by unfold ne; rw [if_pos (by omega)])
          have HN2 := Lib.hid (fun (h : 0 < lenI q2) => show ne q2 = [q2] from by unfold ne; rw [if_neg (by omega)])
          have HM2 := Lib.hid (fun (h : ¬ 0 < lenI q2) => show ne q2 = [] from by unfold ne; rw [if_pos (by omega)])
          generalize lenI q1 = z1 at *
          generalize lenI q2 = z2 at *
          clear HB8 HKP HBL HFR
          have e0 := x7.at_.c0; have e1 := x7.at_.c1
          go_wp2_with fail
          refine (HL1.out _).mono ?_
          rintro e w4 ⟨rfl, h4⟩
          replace Kc := Kc.later h4
          replace x7 := x7.later h4
          replace x8 := x8.later h4
          clear e0 e1 h4
          by_cases g1 : 0 < z1
          · have hq1 := HN1.out g1
            have e0 := x7.at_.c0; have e1 := x7.at_.c1
            have HO := Lib.hid (Kc.al (.cells #[.int .i64 q1.1, .int .i64 q1.2] 24)).own
            have HSRC := Lib.hid (span_src w4 q1)
            have hbs := Kc.sp.lt
            have HKc := Lib.hid (And.intro Kc x8)
            clear Kc x7 x8
            go_wp2_with (at_builtin; refine wpList_append_sz _ rfl (.tmp 36) (.tmp 38) 30 30 rfl (bs + 1) 24 i0 (.agg #[.int .i64 0, .int .i64 0]) 2 16 Try.underlying30 hi hz0 hz1 (by decide) hz2 rfl u5 L.length (spCells L) rfl HO.out _ rfl 1 [.int .i64 q1.1, .int .i64 q1.2] HSRC.out (by unfold maxLen; omega) (by omega) (by simp; omega) ?_)
            intro a5 cap5 w5 ho hg hw
            obtain ⟨Kc, x8⟩ := HKc.out
            have K5 := (Kc.al (.cells #[.int .i64 q1.1, .int .i64 q1.2] 24)).grow (by simp) ho hg
            have y5 := (Kc.al (.cells #[.int .i64 q1.1, .int .i64 q1.2] 24)).box (x8.al _).at_ x8.nown hg
            clear e0 e1 HO HSRC ho hg hw Kc x8 HKc hbs
            have e0 := y5.c0; have e1 := y5.c1
            go_wp2_with fail
            refine (HL2.out _).mono ?_
            rintro e w6 ⟨rfl, h6⟩
            have K6 := K5.later h6
            have y6 := (y5).later h6
            clear e0 e1 h6
            by_cases g2 : 0 < z2
            · have hq := HN2.out g2
              have e0 := y6.c0; have e1 := y6.c1
              have HO := Lib.hid (K6.al (.cells #[.int .i64 q2.1, .int .i64 q2.2] 24)).own
              have HSRC := Lib.hid (span_src w6 q2)
              have hbs := K6.sp.lt
              have HK6 := Lib.hid K6
              clear K6 y6
              go_wp2_with (at_builtin; refine wpList_append_sz _ rfl (.tmp 43) (.tmp 45) 30 30 rfl (bs + 1) 24 i0 (.agg #[.int .i64 0, .int .i64 0]) 2 16 Try.underlying30 hi hz0 hz1 (by decide) hz2 rfl (.slice a5 (L.length + 1) cap5) ((L ++ [q1])).length (spCells ((L ++ [q1]))) rfl HO.out _ rfl 1 [.int .i64 q2.1, .int .i64 q2.2] HSRC.out (by unfold maxLen; (try simp only [List.length_append, List.length_singleton]); omega) (by (try simp only [List.length_append, List.length_singleton]); omega) (by simp; omega) ?_)
              intro a7 cap7 w7 ho hg hw
              have K7 := Lib.hid ((HK6.out.al (.cells #[.int .i64 q2.1, .int .i64 q2.2] 24)).grow (by simp) ho hg)
              rw [show (L ++ [q1]) ++ [q2] = woL (List.take (k + 1) l) s from by rw [HTK1.out, hq1, hq]; simp] at K7
              clear e0 e1 HO HSRC ho hg hw HK6
              go_wp2_with fail
              go_roundw
              case rel => exact ⟨k + 1, by omega, by go_num, K7⟩
              case measure => simp [intOf]; omega
            · have hq := HM2.out (by omega)
              have K7 := Lib.hid K6
              rw [show (L ++ [q1]) = woL (List.take (k + 1) l) s from by rw [HTK1.out, hq1, hq]; simp] at K7
              clear K6 y6
              go_wp2_with fail
              go_roundw
              case rel => exact ⟨k + 1, by omega, by go_num, K7⟩
              case measure => simp [intOf]; omega
          · have hq1 := HM1.out (by omega)
            have y4 := x8.at_
            clear x7 x8
            have e0 := y4.c0; have e1 := y4.c1
            go_wp2_with fail
            refine (HL2.out _).mono ?_
            rintro e w6 ⟨rfl, h6⟩
            have K6 := Kc.later h6
            have y6 := (y4).later h6
            clear e0 e1 h6
            by_cases g2 : 0 < z2
            · have hq := HN2.out g2
              have e0 := y6.c0; have e1 := y6.c1
              have HO := Lib.hid (K6.al (.cells #[.int .i64 q2.1, .int .i64 q2.2] 24)).own
              have HSRC := Lib.hid (span_src w6 q2)
              have hbs := K6.sp.lt
              have HK6 := Lib.hid K6
              clear K6 y6
              go_wp2_with (at_builtin; refine wpList_append_sz _ rfl (.tmp 43) (.tmp 45) 30 30 rfl (bs + 1) 24 i0 (.agg #[.int .i64 0, .int .i64 0]) 2 16 Try.underlying30 hi hz0 hz1 (by decide) hz2 rfl u5 (L).length (spCells (L)) rfl HO.out _ rfl 1 [.int .i64 q2.1, .int .i64 q2.2] HSRC.out (by unfold maxLen; (try simp only [List.length_append, List.length_singleton]); omega) (by (try simp only [List.length_append, List.length_singleton]); omega) (by simp; omega) ?_)
              intro a7 cap7 w7 ho hg hw
              have K7 := Lib.hid ((HK6.out.al (.cells #[.int .i64 q2.1, .int .i64 q2.2] 24)).grow (by simp) ho hg)
              rw [show L ++ [q2] = woL (List.take (k + 1) l) s from by rw [HTK1.out, hq1, hq]; simp] at K7
              clear e0 e1 HO HSRC ho hg hw HK6
              go_wp2_with fail
              go_roundw
              case rel => exact ⟨k + 1, by omega, by go_num, K7⟩
              case measure => simp [intOf]; omega
            · have hq := HM2.out (by omega)
              have K7 := Lib.hid K6
              rw [show L = woL (List.take (k + 1) l) s from by rw [HTK1.out, hq1, hq]; simp] at K7
              clear K6 y6
              go_wp2_with fail
              go_roundw
              case rel => exact ⟨k + 1, by omega, by go_num, K7⟩
              case measure => simp [intOf]; omega
    · obtain rfl : k = n := by omega
      rw [HEN.out] at HK
      obtain ⟨a', cap', rfl, hsl, hob⟩ := sls_of_own HK.out.own
      have hfar : ∀ x, a' = some x → w.heap.size ≤ x.block := fun x hx => by have := (own_in HK.out.own (hob x hx)).2; have := HK.out.ge; omega
      clear hob
      have HF := Lib.hid (show SlS wr a' (woL l s).length cap' (refWo l s) from by rw [HRF.out]; exact hsl)
      have hb := HK.out.below
      clear HC HLS HTK HLE HEN HRF HS HK hsl
      go_wp2
      go_ret
      exact ⟨_, _, _, rfl, HF.out, hb, fun x hx => .inr (hfar x hx)⟩
end Go.Proofs.Ytegbkeichkifnaa.rn
