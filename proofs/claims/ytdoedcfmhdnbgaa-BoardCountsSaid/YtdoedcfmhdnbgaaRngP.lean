/-
  A range over a function: what stands behind the assignment may speak of what was told so far. Imports nothing of the program.
-/
import Derived.Test.YtdoedcfmhdnbgaaRngB
namespace Go.Proofs.Ytdoedcfmhdnbgaa.rng
open Go.RowKit mem
set_option linter.unusedVariables false

/-- **a range over a function**, in a function's body (not within a round) -/
theorem wpIn_rangeP {P : Program} {n : Nat} {α : Type} {g : Operand} {ps : Array Tmp} {assign body : Code} {Q : Exit → Act → World → Prop} {a : Act} {w : World}
    {gf : Nat} {lb : Array Value} (hg : a.eval g = .func (.func gf) #[] lb) (eg : ∀ args w, (callFunc gf args).run P w = .ok (.enter gf args) w)
    {encs : α → Array Value} {L : List α} {A : Nat → Prop} {w0 : World} (hseq : SeqOf P gf lb encs L A w0) (hb0 : Below w0.heap.size w0 w) (hps : ∀ x, (encs x).size = ps.size)
    (I : List α → (Nat → Prop) → World → Prop) (Ix : Code → List α → (Nat → Prop) → World → Prop) (C0 : Nat → Prop) (hC0 : ∀ k, C0 k → (A k ∨ w0.heap.size ≤ k) ∧ k < w.heap.size)
    (hI : Bears w.heap.size I) (hIx : ∀ c, Bears w.heap.size (Ix c)) (h0 : I [] C0 w) (Ax : List α → α → Act → (Nat → Prop) → World → Prop) (hAx : ∀ pre x a', Bears w.heap.size (fun (_ : Unit) C W => Ax pre x a' C W))
    (hassign : ∀ (l : Nat) (pre : List α) (x : α) (C : Nat → Prop) (W : World) (K : Act → World → Prop), I pre C W → pre ++ [x] <+: L → (∀ k, C k → k < W.heap.size) → w.heap.size ≤ W.heap.size →
      (∀ a' C' W', Round C W C' W' → I pre C' W' → Ax pre x a' C' W' → K a' W') →
      assign.wpIn (Fence.wide.inRound l) (n - 1 - 1) P (Exit.then K (fun _ _ _ => False)) { tmps := (ps.zip (encs x)).foldl (fun t (p, v) => t.setIfInBounds p v) a.tmps, defers := [] } W)
    (hbody : ∀ (l : Nat) (pre : List α) (x : α) (a' : Act) (C : Nat → Prop) (W : World), I pre C W → Ax pre x a' C W → pre ++ [x] <+: L → (∀ k, C k → k < W.heap.size) → w.heap.size ≤ W.heap.size →
      body.wpIn (Fence.wide.inRound l) (n - 1 - 1) P (rPost I Ix (pre ++ [x]) C W) a' W)
    (hdone : ∀ (D : Nat) (C : Nat → Prop) (W : World), w.heap.size ≤ D → ¬ C D → I L C W → W.heap[D]? = some (.deferred (some [])) → Q .normal { a with defers := { target := .collected D, args := #[] } :: a.defers } W)
    (hstop : ∀ (D : Nat) (c : Code) (pre : List α) (C : Nat → Prop) (W : World), w.heap.size ≤ D → ¬ C D → Ix c pre C W → W.heap[D]? = some (.deferred (some [])) → c.wpIn Fence.wide n P Q { a with defers := { target := .collected D, args := #[] } :: a.defers } W) :
    (Code.rangeFunc g ps assign body).wpIn Fence.wide n P Q a w := by
  refine wpIn_rangeFunc ?_
  intro fn hfn
  obtain ⟨rec, hrec⟩ : ∃ rec : LoopState → Option Code → Loop, rec = fun st pe => { state := st, pending := pe, fn, tmps := a.tmps, params := ps, assign, body, defers := w.heap.size } := ⟨_, rfl⟩
  obtain ⟨W1, hW1⟩ : ∃ W1, (w.alloc (.deferred (some []))).alloc (.loop (rec .ready none)) = W1 := ⟨_, rfl⟩
  have hL1 : W1.heap[w.heap.size + 1]? = some (.loop (rec .ready none)) := by
    rw [← hW1]; have := World.alloc_heap_new (w.alloc (.deferred (some []))) (.loop (rec .ready none)); rwa [World.size_alloc] at this
  have hK1 : W1.heap[w.heap.size]? = some (.deferred (some [])) := by
    rw [← hW1]; exact (Below.heap_alloc _ _ _ (by simp)).trans (World.alloc_heap_new w _)
  have hz : W1.heap.size = w.heap.size + 1 + 1 := by rw [← hW1]; simp
  have bw1 : Below w.heap.size w W1 := by rw [← hW1]; exact ((Below.refl _ w).alloc (Nat.le_refl _) _).alloc (by simp) _
  have hI1 : I [] C0 W1 := hI _ _ _ _ h0 (Nat.le_refl _) (Steps.of_below bw1 _)
  refine ⟨w.heap.size + 1, [{ target := .collected w.heap.size, args := #[] }], W1, { target := .fn (.func gf) lb, args := #[.func (.yield (w.heap.size + 1)) #[] #[]] }, W1, gf,
    #[.func (.yield (w.heap.size + 1)) #[] #[]] ++ lb, W1, ?_, ?_, ?_, ?_, (fun h => by simp [Fence.wide] at h), ?_⟩
  · rw [← hW1, hrec]; exact run_enterLoop_outer _ _ _ _ _
  · simp only [resolve, hg]
    simp [go_sem]
  · intro f' hf'; trivial
  · simp [invoke, go_sem, eg]
  · refine callsIn_wide.2 ?_
    -- the two blocks of book-keeping are the consumer's, beside the user's own
    let Cj : (Nat → Prop) → Nat → Prop := fun C k => C k ∨ k = w.heap.size ∨ k = w.heap.size + 1
    let J : List α → (Nat → Prop) → World → Prop := fun pre C' W => ∃ C, C' = Cj C ∧ I pre C W ∧ (¬ C w.heap.size ∧ ¬ C (w.heap.size + 1) ∧ ∀ k, C k → k < W.heap.size) ∧ W.heap[w.heap.size + 1]? = some (.loop (rec .ready none)) ∧ W.heap[w.heap.size]? = some (.deferred (some []))
    let Jx : List α → (Nat → Prop) → World → Prop := fun pre C' W => ∃ C c, C' = Cj C ∧ Ix c pre C W ∧ (¬ C w.heap.size ∧ ¬ C (w.heap.size + 1) ∧ ∀ k, C k → k < W.heap.size) ∧ W.heap[w.heap.size + 1]? = some (.loop (rec .done (some c))) ∧ W.heap[w.heap.size]? = some (.deferred (some []))
    have hsm : ∀ {C : Nat → Prop} {X Y : World}, Steps (fun k => k < W1.heap.size ∨ Cj C k) X Y → Steps (fun k => k < w.heap.size ∨ C k) X Y := fun h => h.mono (fun k _ hk => by
      rcases hk with hk | hk
      · exact .inl (by omega)
      · exact .inr (.inl hk))
    refine (hseq (w.heap.size + 1) J Jx (Cj C0) W1 (hb0.trans (bw1.mono hb0.size)) ?_ ?_ ?_ ?_ ?_).mono ?_
    · intro k hk
      have h1 := hb0.size
      rcases hk with hk | hk | hk
      · exact ⟨(hC0 k hk).1, by have := (hC0 k hk).2; omega⟩
      · exact ⟨.inr (by omega), by omega⟩
      · exact ⟨.inr (by omega), by omega⟩
    · rintro s C' X Y ⟨C, rfl, hi, ⟨h1, h2, h3⟩, hl, hk⟩ hn hs
      exact ⟨C, rfl, hI _ _ _ _ hi (by omega) (hsm hs), ⟨h1, h2, fun k hk => Nat.lt_of_lt_of_le (h3 k hk) hs.size⟩, hs.heap (.inr (.inr (.inr rfl))) hl, hs.heap (.inr (.inr (.inl rfl))) hk⟩
    · rintro s C' X Y ⟨C, c, rfl, hi, ⟨h1, h2, h3⟩, hl, hk⟩ hn hs
      exact ⟨C, c, rfl, hIx c _ _ _ _ hi (by omega) (hsm hs), ⟨h1, h2, fun k hk => Nat.lt_of_lt_of_le (h3 k hk) hs.size⟩, hs.heap (.inr (.inr (.inr rfl))) hl, hs.heap (.inr (.inr (.inl rfl))) hk⟩
    · -- one round
      rintro pre x C' W ⟨C, rfl, hi, ⟨h1, h2, h3⟩, hl, hk⟩ hWs hpre
      have hlt : w.heap.size + 1 < W.heap.size := (Array.getElem?_eq_some_iff.1 hl).1
      have hy := run_yield (P := P) (args := encs x) hl (by rw [hrec]; exact hps x)
      rw [hrec] at hy
      refine Yd.of (m := n - 1 - 1) ⟨fn, _, assign, body, hy, roundIn_of_wpIn hfn (hassign _ pre x C W _ hi hpre h3 (by omega) ?_)⟩
      clear hy
      intro a' Ca Wa hra hia hax
      have h1a : ¬ Ca w.heap.size := fun e => by rcases hra.2 _ e with e | e; exact h1 e; omega
      have h2a : ¬ Ca (w.heap.size + 1) := fun e => by rcases hra.2 _ e with e | e; exact h2 e; omega
      have h3a : ∀ k, Ca k → k < Wa.heap.size := fun k hk => by rcases hra.2 k hk with e | e; exact Nat.lt_of_lt_of_le (h3 k e) hra.1.size; exact e.2
      have hla := hra.1.heap h2 hl
      have hka := hra.1.heap h1 hk
      have hlta : w.heap.size + 1 < Wa.heap.size := (Array.getElem?_eq_some_iff.1 hla).1
      refine ⟨_, run_beginRound hla (by rw [hrec]), ?_⟩
      obtain ⟨Wb, hWb⟩ : ∃ Wb, Wb = Wa.putObj (w.heap.size + 1) (.loop { rec .ready none with state := .busy }) := ⟨_, rfl⟩
      rw [← hWb]
      have hlb : Wb.heap[w.heap.size + 1]? = some (.loop { rec .ready none with state := .busy }) := by rw [hWb]; exact World.putObj_heap_same hlta
      have hkb : Wb.heap[w.heap.size]? = some (.deferred (some [])) := by rw [hWb]; exact (World.putObj_heap_other (by omega)).trans hka
      have sb : Steps (fun k => k < w.heap.size ∨ Ca k) Wa Wb := by rw [hWb]; exact Steps.putObj _ _ _ _ (by rintro (e | e); omega; exact h2a e)
      have rb : Round (Cj Ca) Wa (Cj Ca) Wb := ⟨by rw [hWb]; exact Steps.putObj _ _ _ _ (fun e => e (.inr (.inr rfl))), fun k hk => .inl hk⟩
      have hib := hI _ _ _ _ hia (by omega) sb
      have haxb := hAx pre x a' () _ _ _ hax (by omega) sb
      have hzb : Wb.heap.size = Wa.heap.size := by rw [hWb]; simp
      have ra : Round (Cj C) W (Cj Ca) Wa := ⟨hra.1.mono (fun k _ hk e => hk (.inl e)), fun k hk => by
        rcases hk with hk | hk
        · rcases hra.2 k hk with e | e; exact .inl (.inl e); exact .inr e
        · exact .inl (.inr hk)⟩
      have rab := ra.trans rb
      refine wpIn_mono (hbody _ pre x a' Ca Wb hib haxb hpre (fun k hk => by rw [hzb]; exact h3a k hk) (by omega)) ?_
      have fin : ∀ (jump : Option Code) (C3 : Nat → Prop) (W3 : World), Round Ca Wb C3 W3 →
          (Instr.endRound (w.heap.size + 1) jump).run P W3 = .ok (.bool jump.isNone) (W3.putObj (w.heap.size + 1) (.loop (rec (if jump.isNone then .ready else .done) jump))) ∧
          (W3.putObj (w.heap.size + 1) (.loop (rec (if jump.isNone then .ready else .done) jump))).heap[w.heap.size + 1]? = some (.loop (rec (if jump.isNone then .ready else .done) jump)) ∧
          (W3.putObj (w.heap.size + 1) (.loop (rec (if jump.isNone then .ready else .done) jump))).heap[w.heap.size]? = some (.deferred (some [])) ∧
          Steps (fun k => k < w.heap.size ∨ C3 k) W3 (W3.putObj (w.heap.size + 1) (.loop (rec (if jump.isNone then .ready else .done) jump))) ∧
          Round (Cj C) W (Cj C3) (W3.putObj (w.heap.size + 1) (.loop (rec (if jump.isNone then .ready else .done) jump))) ∧
          (¬ C3 w.heap.size ∧ ¬ C3 (w.heap.size + 1) ∧ ∀ k, C3 k → k < W3.heap.size) ∧ w.heap.size ≤ W3.heap.size := fun jump C3 W3 hr3 => by
        have h13 : ¬ C3 w.heap.size := fun e => by rcases hr3.2 _ e with e | e; exact h1a e; omega
        have h23 : ¬ C3 (w.heap.size + 1) := fun e => by rcases hr3.2 _ e with e | e; exact h2a e; omega
        have hl3 := hr3.1.heap h2a hlb
        have hk3 := hr3.1.heap h1a hkb
        have := run_endRound (P := P) jump hl3
        have hlt3 := (Array.getElem?_eq_some_iff.1 hl3).1
        rw [hrec] at this ⊢
        refine ⟨this, World.putObj_heap_same hlt3, (World.putObj_heap_other (by omega)).trans hk3, Steps.putObj _ _ _ _ (by rintro (e | e); omega; exact h23 e), ?_, ⟨h13, h23, fun k hk => by rcases hr3.2 k hk with e | e; exact Nat.lt_of_lt_of_le (by rw [hzb]; exact h3a k e) hr3.1.size; exact e.2⟩, by omega⟩
        refine (rab.trans (C'' := Cj C3) (D := W3) ⟨hr3.1.mono (fun k _ hk e => hk (.inl e)), fun k hk => ?_⟩).trans ⟨Steps.putObj _ _ _ _ (fun e => e (.inr (.inr rfl))), fun k hk => .inl hk⟩
        rcases hk with hk | hk
        · rcases hr3.2 k hk with e | e; exact .inl (.inl e); exact .inr e
        · exact .inl (.inr hk)
      rintro e a3 W3 hp
      cases e with
      | normal =>
        obtain ⟨C3, hr3, hi3⟩ := hp
        obtain ⟨hr, hl4, hk4, s4, r4, ⟨b1, b2, b3⟩, b4⟩ := fin none C3 W3 hr3
        exact ⟨_, _, hr, Cj C3, r4, .inl ⟨rfl, C3, rfl, hI _ _ _ _ hi3 b4 s4, ⟨b1, b2, fun k hk => by simpa using b3 k hk⟩, hl4, hk4⟩⟩
      | ret =>
        obtain ⟨C3, hr3, hi3⟩ := hp
        obtain ⟨hr, hl4, hk4, s4, r4, ⟨b1, b2, b3⟩, b4⟩ := fin (some .ret) C3 W3 hr3
        exact ⟨_, _, hr, Cj C3, r4, .inr ⟨rfl, C3, .ret, rfl, hIx _ _ _ _ _ hi3 b4 s4, ⟨b1, b2, fun k hk => by simpa using b3 k hk⟩, hl4, hk4⟩⟩
      | exit id =>
        obtain ⟨C3, hr3, hi3⟩ := hp
        obtain ⟨hr, hl4, hk4, s4, r4, ⟨b1, b2, b3⟩, b4⟩ := fin (some (.exit id)) C3 W3 hr3
        exact ⟨_, _, hr, Cj C3, r4, .inr ⟨rfl, C3, .exit id, rfl, hIx _ _ _ _ _ hi3 b4 s4, ⟨b1, b2, fun k hk => by simpa using b3 k hk⟩, hl4, hk4⟩⟩
      | goto t =>
        obtain ⟨C3, hr3, hi3⟩ := hp
        obtain ⟨hr, hl4, hk4, s4, r4, ⟨b1, b2, b3⟩, b4⟩ := fin (some (.goto t)) C3 W3 hr3
        exact ⟨_, _, hr, Cj C3, r4, .inr ⟨rfl, C3, .goto t, rfl, hIx _ _ _ _ _ hi3 b4 s4, ⟨b1, b2, fun k hk => by simpa using b3 k hk⟩, hl4, hk4⟩⟩
      | panic ch => exact hp.elim
      | outgrown => exact hp.elim
    · exact ⟨C0, rfl, hI1, ⟨fun e => by have := (hC0 _ e).2; omega, fun e => by have := (hC0 _ e).2; omega, fun k hk => by have := (hC0 _ hk).2; omega⟩, hL1, hK1⟩
    · -- behind the iterator
      rintro e W2 ⟨⟨v, rfl⟩, _, (⟨C, rfl, hi, ⟨h1, h2, h3⟩, hl, hk⟩ | ⟨pre, C, c, rfl, hi, ⟨h1, h2, h3⟩, hl, hk⟩)⟩
      · have hlt := (Array.getElem?_eq_some_iff.1 hl).1
        have sp : ∀ o, Steps (fun k => k < w.heap.size ∨ C k) W2 (W2.putObj (w.heap.size + 1) o) := fun o => Steps.putObj _ _ _ _ (by rintro (e | e); omega; exact h2 e)
        exact ⟨none, _, by have := run_endLoop (P := P) hl (by rw [hrec]; simp); rw [hrec] at this; exact this, hdone _ C _ (Nat.le_refl _) h1 (hI _ _ _ _ hi (by omega) (sp _)) ((World.putObj_heap_other (by omega)).trans hk)⟩
      · have hlt := (Array.getElem?_eq_some_iff.1 hl).1
        have sp : ∀ o, Steps (fun k => k < w.heap.size ∨ C k) W2 (W2.putObj (w.heap.size + 1) o) := fun o => Steps.putObj _ _ _ _ (by rintro (e | e); omega; exact h2 e)
        exact ⟨some c, _, by have := run_endLoop (P := P) hl (by rw [hrec]; simp); rw [hrec] at this; exact this, hstop _ c pre C _ (Nat.le_refl _) h1 (hIx _ _ _ _ _ hi (by omega) (sp _)) ((World.putObj_heap_other (by omega)).trans hk)⟩

/-- a range whose assignment makes one box -/
theorem wpIn_rangeBoxP {P : Program} {n : Nat} {α : Type} {g : Operand} {ps : Array Tmp} {assign body : Code} {Q : Exit → Act → World → Prop} {a : Act} {w : World} (fr : Nat → α → Array Value → Array Value)
    {gf : Nat} {lb : Array Value} (hg : a.eval g = .func (.func gf) #[] lb) (eg : ∀ args w, (callFunc gf args).run P w = .ok (.enter gf args) w)
    {encs : α → Array Value} {L : List α} {A : Nat → Prop} {w0 : World} (hseq : SeqOf P gf lb encs L A w0) (hb0 : Below w0.heap.size w0 w) (hps : ∀ x, (encs x).size = ps.size)
    (I : List α → (Nat → Prop) → World → Prop) (Ix : Code → List α → (Nat → Prop) → World → Prop) (C0 : Nat → Prop) (hC0 : ∀ k, C0 k → (A k ∨ w0.heap.size ≤ k) ∧ k < w.heap.size)
    (hI : Bears w.heap.size I) (hIx : ∀ c, Bears w.heap.size (Ix c)) (h0 : I [] C0 w) (Bx : List α → Nat → α → (Nat → Prop) → World → Prop) (hBx : ∀ pre b x, Bears w.heap.size (fun (_ : Unit) C W => Bx pre b x C W))
    (hassign : ∀ (l : Nat) (pre : List α) (x : α) (C : Nat → Prop) (W : World) (K : Act → World → Prop), I pre C W → pre ++ [x] <+: L → (∀ k, C k → k < W.heap.size) → w.heap.size ≤ W.heap.size →
      (∀ b C' W', Round C W C' W' → I pre C' W' → Bx pre b x C' W' → K { tmps := fr b x a.tmps, defers := [] } W') →
      assign.wpIn (Fence.wide.inRound l) (n - 1 - 1) P (Exit.then K (fun _ _ _ => False)) { tmps := (ps.zip (encs x)).foldl (fun t (p, v) => t.setIfInBounds p v) a.tmps, defers := [] } W)
    (hbody : ∀ (l : Nat) (pre : List α) (x : α) (b : Nat) (C : Nat → Prop) (W : World), I pre C W → Bx pre b x C W → pre ++ [x] <+: L → (∀ k, C k → k < W.heap.size) → w.heap.size ≤ W.heap.size →
      body.wpIn (Fence.wide.inRound l) (n - 1 - 1) P (rPost I Ix (pre ++ [x]) C W) { tmps := fr b x a.tmps, defers := [] } W)
    (hdone : ∀ (D : Nat) (C : Nat → Prop) (W : World), w.heap.size ≤ D → ¬ C D → I L C W → W.heap[D]? = some (.deferred (some [])) → Q .normal { a with defers := { target := .collected D, args := #[] } :: a.defers } W)
    (hstop : ∀ (D : Nat) (c : Code) (pre : List α) (C : Nat → Prop) (W : World), w.heap.size ≤ D → ¬ C D → Ix c pre C W → W.heap[D]? = some (.deferred (some [])) → c.wpIn Fence.wide n P Q { a with defers := { target := .collected D, args := #[] } :: a.defers } W) :
    (Code.rangeFunc g ps assign body).wpIn Fence.wide n P Q a w :=
  wpIn_rangeP hg eg hseq hb0 hps I Ix C0 hC0 hI hIx h0 (fun pre x a' C W => ∃ b, a' = { tmps := fr b x a.tmps, defers := [] } ∧ Bx pre b x C W)
    (fun pre x a' s C W1 W2 h hn hs => by obtain ⟨b, h1, h2⟩ := h; exact ⟨b, h1, hBx pre b x s C W1 W2 h2 hn hs⟩)
    (fun l pre x C W K hi hp hc hz hK => hassign l pre x C W K hi hp hc hz (fun b C' W' hr hi' hb => hK _ C' W' hr hi' ⟨b, rfl, hb⟩))
    (fun l pre x a' C W hi ha hp hc hz => by obtain ⟨b, rfl, hb⟩ := ha; exact hbody l pre x b C W hi hb hp hc hz) hdone hstop

end Go.Proofs.Ytdoedcfmhdnbgaa.rng
