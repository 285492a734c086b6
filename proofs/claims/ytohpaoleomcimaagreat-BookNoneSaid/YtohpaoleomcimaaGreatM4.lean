/-
  Several texts in one: RngB RngP BokT BokU RunX RunY RunZ
-/
import Derived.Test.YtohpaoleomcimaaGreatM3
/-!   A range over a function whose variable lies in a box. Imports nothing of the program.
-/
namespace Go.Proofs.YtohpaoleomcimaaGreat.rng
open Go.RowKit mem
set_option linter.unusedVariables false

/-- a range whose assignment makes one box -/
theorem wpIn_rangeBox {P : Program} {n : Nat} {α : Type} {g : Operand} {ps : Array Tmp} {assign body : Code} {Q : Exit → Act → World → Prop} {a : Act} {w : World} (fr : Nat → α → Array Value → Array Value)
    {gf : Nat} {lb : Array Value} (hg : a.eval g = .func (.func gf) #[] lb) (eg : ∀ args w, (callFunc gf args).run P w = .ok (.enter gf args) w)
    {encs : α → Array Value} {L : List α} {A : Nat → Prop} {w0 : World} (hseq : SeqOf P gf lb encs L A w0) (hb0 : Below w0.heap.size w0 w) (hps : ∀ x, (encs x).size = ps.size)
    (I : List α → (Nat → Prop) → World → Prop) (Ix : Code → List α → (Nat → Prop) → World → Prop) (C0 : Nat → Prop) (hC0 : ∀ k, C0 k → (A k ∨ w0.heap.size ≤ k) ∧ k < w.heap.size)
    (hI : Bears w.heap.size I) (hIx : ∀ c, Bears w.heap.size (Ix c)) (h0 : I [] C0 w) (Bx : Nat → α → (Nat → Prop) → World → Prop) (hBx : ∀ b x, Bears w.heap.size (fun (_ : Unit) C W => Bx b x C W))
    (hassign : ∀ (l : Nat) (pre : List α) (x : α) (C : Nat → Prop) (W : World) (K : Act → World → Prop), I pre C W → pre ++ [x] <+: L → (∀ k, C k → k < W.heap.size) → w.heap.size ≤ W.heap.size →
      (∀ b C' W', Round C W C' W' → I pre C' W' → Bx b x C' W' → K { tmps := fr b x a.tmps, defers := [] } W') →
      assign.wpIn (Fence.wide.inRound l) (n - 1 - 1) P (Exit.then K (fun _ _ _ => False)) { tmps := (ps.zip (encs x)).foldl (fun t (p, v) => t.setIfInBounds p v) a.tmps, defers := [] } W)
    (hbody : ∀ (l : Nat) (pre : List α) (x : α) (b : Nat) (C : Nat → Prop) (W : World), I pre C W → Bx b x C W → pre ++ [x] <+: L → (∀ k, C k → k < W.heap.size) → w.heap.size ≤ W.heap.size →
      body.wpIn (Fence.wide.inRound l) (n - 1 - 1) P (rPost I Ix (pre ++ [x]) C W) { tmps := fr b x a.tmps, defers := [] } W)
    (hdone : ∀ (D : Nat) (C : Nat → Prop) (W : World), w.heap.size ≤ D → ¬ C D → I L C W → W.heap[D]? = some (.deferred (some [])) → Q .normal { a with defers := { target := .collected D, args := #[] } :: a.defers } W)
    (hstop : ∀ (D : Nat) (c : Code) (pre : List α) (C : Nat → Prop) (W : World), w.heap.size ≤ D → ¬ C D → Ix c pre C W → W.heap[D]? = some (.deferred (some [])) → c.wpIn Fence.wide n P Q { a with defers := { target := .collected D, args := #[] } :: a.defers } W) :
    (Code.rangeFunc g ps assign body).wpIn Fence.wide n P Q a w :=
  wpIn_range hg eg hseq hb0 hps I Ix C0 hC0 hI hIx h0 (fun x a' C W => ∃ b, a' = { tmps := fr b x a.tmps, defers := [] } ∧ Bx b x C W)
    (fun x a' s C W1 W2 h hn hs => by obtain ⟨b, h1, h2⟩ := h; exact ⟨b, h1, hBx b x s C W1 W2 h2 hn hs⟩)
    (fun l pre x C W K hi hp hc hz hK => hassign l pre x C W K hi hp hc hz (fun b C' W' hr hi' hb => hK _ C' W' hr hi' ⟨b, rfl, hb⟩))
    (fun l pre x a' C W hi ha hp hc hz => by obtain ⟨b, rfl, hb⟩ := ha; exact hbody l pre x b C W hi hb hp hc hz) hdone hstop

end Go.Proofs.YtohpaoleomcimaaGreat.rng
/-!   A range over a function: what stands behind the assignment may speak of what was told so far. Imports nothing of the program.
-/
namespace Go.Proofs.YtohpaoleomcimaaGreat.rng
open Go.RowKit mem
set_option linter.unusedVariables false

/-- **a range over a function**, in a function's body (not within a round) -/
theorem wpIn_rangeP {P : Program} {n : Nat} {α : Type} {g : Operand} {ps : Array Tmp} {assign body : Code} {Q : Exit → Act → World → Prop} {a : Act} {w : World}
    {gf : Nat} {lb : Array Value} (hg : a.eval g = .func (.func gf) #[] lb) (eg : ∀ args w, (callFunc gf args).run P w = .ok (.enter gf args) w)
    {encs : α → Array Value} {L : List α} {A : Nat → Prop} {w0 : World} (hseq : SeqOf P gf lb encs L A w0) (hb0 : Below w0.heap.size w0 w) (hps : ∀ x, (encs x).size = ps.size)
    (I : List α → (Nat → Prop) → World → Prop) (Ix : Code → List α → (Nat → Prop) → World → Prop) (C0 : Nat → Prop) (hC0 : ∀ k, C0 k → (A k ∨ w0.heap.size ≤ k) ∧ k < w.heap.size)
    (hI : Bears w.heap.size I) (hIx : ∀ c, Bears w.heap.size (Ix c)) (h0 : I [] C0 w) (Ax : List α → α → Act → (Nat → Prop) → World → Prop) (hAx : ∀ pre x a', Bears w.heap.size (fun (_ : Unit) C W => Ax pre x a' C W))
    (hassign : ∀ (l : Nat) (pre : List α) (x : α) (C : Nat → Prop) (W : World) (K : Act → World → Prop), I pre C W → pre ++ [x] <+: L → (∀ k, C k → k < W.heap.size) → w.heap.size ≤ W.heap.size →
      (∀ a' C' W', Round C W C' W' → I pre C' W' → Ax pre x a' C' W' → K a' W') →
      assign.wpIn (Fence.wide.inRound l) (n - 1 - 1) P (Exit.then K (fun _ _ _ => False)) { tmps := (ps.zip (encs x)).foldl (fun t (p, v) => t.setIfInBounds p v) a.tmps, defers := [] } W)
    (hbody : ∀ (l : Nat) (pre : List α) (x : α) (a' : Act) (C : Nat → Prop) (W : World), I pre C W → Ax pre x a' C W → pre ++ [x] <+: L → (∀ k, C k → k < W.heap.size) → w.heap.size ≤ W.heap.size →
      body.wpIn (Fence.wide.inRound l) (n - 1 - 1) P (rPost I Ix (pre ++ [x]) C W) a' W)
    (hdone : ∀ (D : Nat) (C : Nat → Prop) (W : World), w.heap.size ≤ D → ¬ C D → I L C W → W.heap[D]? = some (.deferred (some [])) → Q .normal { a with defers := { target := .collected D, args := #[] } :: a.defers } W)
    (hstop : ∀ (D : Nat) (c : Code) (pre : List α) (C : Nat → Prop) (W : World), w.heap.size ≤ D → ¬ C D → Ix c pre C W → W.heap[D]? = some (.deferred (some [])) → c.wpIn Fence.wide n P Q { a with defers := { target := .collected D, args := #[] } :: a.defers } W) :
    (Code.rangeFunc g ps assign body).wpIn Fence.wide n P Q a w := by
  refine wpIn_rangeFunc ?_
  intro fn hfn
  obtain ⟨rec, hrec⟩ : ∃ rec : LoopState → Option Code → Loop, rec = fun st pe => { state := st, pending := pe, fn, tmps := a.tmps, params := ps, assign, body, defers := w.heap.size } := ⟨_, rfl⟩
  obtain ⟨W1, hW1⟩ : ∃ W1, (w.alloc (.deferred (some []))).alloc (.loop (rec .ready none)) = W1 := ⟨_, rfl⟩
  have hL1 : W1.heap[w.heap.size + 1]? = some (.loop (rec .ready none)) := by
    rw [← hW1]; have := World.alloc_heap_new (w.alloc (.deferred (some []))) (.loop (rec .ready none)); rwa [World.size_alloc] at this
  have hK1 : W1.heap[w.heap.size]? = some (.deferred (some [])) := by
    rw [← hW1]; exact (Below.heap_alloc _ _ _ (by simp)).trans (World.alloc_heap_new w _)
  have hz : W1.heap.size = w.heap.size + 1 + 1 := by rw [← hW1]; simp
  have bw1 : Below w.heap.size w W1 := by rw [← hW1]; exact ((Below.refl _ w).alloc (Nat.le_refl _) _).alloc (by simp) _
  have hI1 : I [] C0 W1 := hI _ _ _ _ h0 (Nat.le_refl _) (Steps.of_below bw1 _)
  refine ⟨w.heap.size + 1, [{ target := .collected w.heap.size, args := #[] }], W1, { target := .fn (.func gf) lb, args := #[.func (.yield (w.heap.size + 1)) #[] #[]] }, W1, gf,
    #[.func (.yield (w.heap.size + 1)) #[] #[]] ++ lb, W1, ?_, ?_, ?_, ?_, (fun h => by simp [Fence.wide] at h), ?_⟩
  · rw [← hW1, hrec]; exact run_enterLoop_outer _ _ _ _ _
  · simp only [resolve, hg]
    simp [go_sem]
  · intro f' hf'; trivial
  · simp [invoke, go_sem, eg]
  · refine callsIn_wide.2 ?_
    -- the two blocks of book-keeping are the consumer's, beside the user's own
    let Cj : (Nat → Prop) → Nat → Prop := fun C k => C k ∨ k = w.heap.size ∨ k = w.heap.size + 1
    let J : List α → (Nat → Prop) → World → Prop := fun pre C' W => ∃ C, C' = Cj C ∧ I pre C W ∧ (¬ C w.heap.size ∧ ¬ C (w.heap.size + 1) ∧ ∀ k, C k → k < W.heap.size) ∧ W.heap[w.heap.size + 1]? = some (.loop (rec .ready none)) ∧ W.heap[w.heap.size]? = some (.deferred (some []))
    let Jx : List α → (Nat → Prop) → World → Prop := fun pre C' W => ∃ C c, C' = Cj C ∧ Ix c pre C W ∧ (¬ C w.heap.size ∧ ¬ C (w.heap.size + 1) ∧ ∀ k, C k → k < W.heap.size) ∧ W.heap[w.heap.size + 1]? = some (.loop (rec .done (some c))) ∧ W.heap[w.heap.size]? = some (.deferred (some []))
    have hsm : ∀ {C : Nat → Prop} {X Y : World}, Steps (fun k => k < W1.heap.size ∨ Cj C k) X Y → Steps (fun k => k < w.heap.size ∨ C k) X Y := fun h => h.mono (fun k _ hk => by
      rcases hk with hk | hk
      · exact .inl (by omega)
      · exact .inr (.inl hk))
    refine (hseq (w.heap.size + 1) J Jx (Cj C0) W1 (hb0.trans (bw1.mono hb0.size)) ?_ ?_ ?_ ?_ ?_).mono ?_
    · intro k hk
      have h1 := hb0.size
      rcases hk with hk | hk | hk
      · exact ⟨(hC0 k hk).1, by have := (hC0 k hk).2; omega⟩
      · exact ⟨.inr (by omega), by omega⟩
      · exact ⟨.inr (by omega), by omega⟩
    · rintro s C' X Y ⟨C, rfl, hi, ⟨h1, h2, h3⟩, hl, hk⟩ hn hs
      exact ⟨C, rfl, hI _ _ _ _ hi (by omega) (hsm hs), ⟨h1, h2, fun k hk => Nat.lt_of_lt_of_le (h3 k hk) hs.size⟩, hs.heap (.inr (.inr (.inr rfl))) hl, hs.heap (.inr (.inr (.inl rfl))) hk⟩
    · rintro s C' X Y ⟨C, c, rfl, hi, ⟨h1, h2, h3⟩, hl, hk⟩ hn hs
      exact ⟨C, c, rfl, hIx c _ _ _ _ hi (by omega) (hsm hs), ⟨h1, h2, fun k hk => Nat.lt_of_lt_of_le (h3 k hk) hs.size⟩, hs.heap (.inr (.inr (.inr rfl))) hl, hs.heap (.inr (.inr (.inl rfl))) hk⟩
    · -- one round
      rintro pre x C' W ⟨C, rfl, hi, ⟨h1, h2, h3⟩, hl, hk⟩ hWs hpre
      have hlt : w.heap.size + 1 < W.heap.size := (Array.getElem?_eq_some_iff.1 hl).1
      have hy := run_yield (P := P) (args := encs x) hl (by rw [hrec]; exact hps x)
      rw [hrec] at hy
      refine Yd.of (m := n - 1 - 1) ⟨fn, _, assign, body, hy, roundIn_of_wpIn hfn (hassign _ pre x C W _ hi hpre h3 (by omega) ?_)⟩
      clear hy
      intro a' Ca Wa hra hia hax
      have h1a : ¬ Ca w.heap.size := fun e => by rcases hra.2 _ e with e | e; exact h1 e; omega
      have h2a : ¬ Ca (w.heap.size + 1) := fun e => by rcases hra.2 _ e with e | e; exact h2 e; omega
      have h3a : ∀ k, Ca k → k < Wa.heap.size := fun k hk => by rcases hra.2 k hk with e | e; exact Nat.lt_of_lt_of_le (h3 k e) hra.1.size; exact e.2
      have hla := hra.1.heap h2 hl
      have hka := hra.1.heap h1 hk
      have hlta : w.heap.size + 1 < Wa.heap.size := (Array.getElem?_eq_some_iff.1 hla).1
      refine ⟨_, run_beginRound hla (by rw [hrec]), ?_⟩
      obtain ⟨Wb, hWb⟩ : ∃ Wb, Wb = Wa.putObj (w.heap.size + 1) (.loop { rec .ready none with state := .busy }) := ⟨_, rfl⟩
      rw [← hWb]
      have hlb : Wb.heap[w.heap.size + 1]? = some (.loop { rec .ready none with state := .busy }) := by rw [hWb]; exact World.putObj_heap_same hlta
      have hkb : Wb.heap[w.heap.size]? = some (.deferred (some [])) := by rw [hWb]; exact (World.putObj_heap_other (by omega)).trans hka
      have sb : Steps (fun k => k < w.heap.size ∨ Ca k) Wa Wb := by rw [hWb]; exact Steps.putObj _ _ _ _ (by rintro (e | e); omega; exact h2a e)
      have rb : Round (Cj Ca) Wa (Cj Ca) Wb := ⟨by rw [hWb]; exact Steps.putObj _ _ _ _ (fun e => e (.inr (.inr rfl))), fun k hk => .inl hk⟩
      have hib := hI _ _ _ _ hia (by omega) sb
      have haxb := hAx pre x a' () _ _ _ hax (by omega) sb
      have hzb : Wb.heap.size = Wa.heap.size := by rw [hWb]; simp
      have ra : Round (Cj C) W (Cj Ca) Wa := ⟨hra.1.mono (fun k _ hk e => hk (.inl e)), fun k hk => by
        rcases hk with hk | hk
        · rcases hra.2 k hk with e | e; exact .inl (.inl e); exact .inr e
        · exact .inl (.inr hk)⟩
      have rab := ra.trans rb
      refine wpIn_mono (hbody _ pre x a' Ca Wb hib haxb hpre (fun k hk => by rw [hzb]; exact h3a k hk) (by omega)) ?_
      have fin : ∀ (jump : Option Code) (C3 : Nat → Prop) (W3 : World), Round Ca Wb C3 W3 →
          (Instr.endRound (w.heap.size + 1) jump).run P W3 = .ok (.bool jump.isNone) (W3.putObj (w.heap.size + 1) (.loop (rec (if jump.isNone then .ready else .done) jump))) ∧
          (W3.putObj (w.heap.size + 1) (.loop (rec (if jump.isNone then .ready else .done) jump))).heap[w.heap.size + 1]? = some (.loop (rec (if jump.isNone then .ready else .done) jump)) ∧
          (W3.putObj (w.heap.size + 1) (.loop (rec (if jump.isNone then .ready else .done) jump))).heap[w.heap.size]? = some (.deferred (some [])) ∧
          Steps (fun k => k < w.heap.size ∨ C3 k) W3 (W3.putObj (w.heap.size + 1) (.loop (rec (if jump.isNone then .ready else .done) jump))) ∧
          Round (Cj C) W (Cj C3) (W3.putObj (w.heap.size + 1) (.loop (rec (if jump.isNone then .ready else .done) jump))) ∧
          (¬ C3 w.heap.size ∧ ¬ C3 (w.heap.size + 1) ∧ ∀ k, C3 k → k < W3.heap.size) ∧ w.heap.size ≤ W3.heap.size := fun jump C3 W3 hr3 => by
        have h13 : ¬ C3 w.heap.size := fun e => by rcases hr3.2 _ e with e | e; exact h1a e; omega
        have h23 : ¬ C3 (w.heap.size + 1) := fun e => by rcases hr3.2 _ e with e | e; exact h2a e; omega
        have hl3 := hr3.1.heap h2a hlb
        have hk3 := hr3.1.heap h1a hkb
        have := run_endRound (P := P) jump hl3
        have hlt3 := (Array.getElem?_eq_some_iff.1 hl3).1
        rw [hrec] at this ⊢
        refine ⟨this, World.putObj_heap_same hlt3, (World.putObj_heap_other (by omega)).trans hk3, Steps.putObj _ _ _ _ (by rintro (e | e); omega; exact h23 e), ?_, ⟨h13, h23, fun k hk => by rcases hr3.2 k hk with e | e; exact Nat.lt_of_lt_of_le (by rw [hzb]; exact h3a k e) hr3.1.size; exact e.2⟩, by omega⟩
        refine (rab.trans (C'' := Cj C3) (D := W3) ⟨hr3.1.mono (fun k _ hk e => hk (.inl e)), fun k hk => ?_⟩).trans ⟨Steps.putObj _ _ _ _ (fun e => e (.inr (.inr rfl))), fun k hk => .inl hk⟩
        rcases hk with hk | hk
        · rcases hr3.2 k hk with e | e; exact .inl (.inl e); exact .inr e
        · exact .inl (.inr hk)
      rintro e a3 W3 hp
      cases e with
      | normal =>
        obtain ⟨C3, hr3, hi3⟩ := hp
        obtain ⟨hr, hl4, hk4, s4, r4, ⟨b1, b2, b3⟩, b4⟩ := fin none C3 W3 hr3
        exact ⟨_, _, hr, Cj C3, r4, .inl ⟨rfl, C3, rfl, hI _ _ _ _ hi3 b4 s4, ⟨b1, b2, fun k hk => by simpa using b3 k hk⟩, hl4, hk4⟩⟩
      | ret =>
        obtain ⟨C3, hr3, hi3⟩ := hp
        obtain ⟨hr, hl4, hk4, s4, r4, ⟨b1, b2, b3⟩, b4⟩ := fin (some .ret) C3 W3 hr3
        exact ⟨_, _, hr, Cj C3, r4, .inr ⟨rfl, C3, .ret, rfl, hIx _ _ _ _ _ hi3 b4 s4, ⟨b1, b2, fun k hk => by simpa using b3 k hk⟩, hl4, hk4⟩⟩
      | exit id =>
        obtain ⟨C3, hr3, hi3⟩ := hp
        obtain ⟨hr, hl4, hk4, s4, r4, ⟨b1, b2, b3⟩, b4⟩ := fin (some (.exit id)) C3 W3 hr3
        exact ⟨_, _, hr, Cj C3, r4, .inr ⟨rfl, C3, .exit id, rfl, hIx _ _ _ _ _ hi3 b4 s4, ⟨b1, b2, fun k hk => by simpa using b3 k hk⟩, hl4, hk4⟩⟩
      | goto t =>
        obtain ⟨C3, hr3, hi3⟩ := hp
        obtain ⟨hr, hl4, hk4, s4, r4, ⟨b1, b2, b3⟩, b4⟩ := fin (some (.goto t)) C3 W3 hr3
        exact ⟨_, _, hr, Cj C3, r4, .inr ⟨rfl, C3, .goto t, rfl, hIx _ _ _ _ _ hi3 b4 s4, ⟨b1, b2, fun k hk => by simpa using b3 k hk⟩, hl4, hk4⟩⟩
      | panic ch => exact hp.elim
      | outgrown => exact hp.elim
    · exact ⟨C0, rfl, hI1, ⟨fun e => by have := (hC0 _ e).2; omega, fun e => by have := (hC0 _ e).2; omega, fun k hk => by have := (hC0 _ hk).2; omega⟩, hL1, hK1⟩
    · -- behind the iterator
      rintro e W2 ⟨⟨v, rfl⟩, _, (⟨C, rfl, hi, ⟨h1, h2, h3⟩, hl, hk⟩ | ⟨pre, C, c, rfl, hi, ⟨h1, h2, h3⟩, hl, hk⟩)⟩
      · have hlt := (Array.getElem?_eq_some_iff.1 hl).1
        have sp : ∀ o, Steps (fun k => k < w.heap.size ∨ C k) W2 (W2.putObj (w.heap.size + 1) o) := fun o => Steps.putObj _ _ _ _ (by rintro (e | e); omega; exact h2 e)
        exact ⟨none, _, by have := run_endLoop (P := P) hl (by rw [hrec]; simp); rw [hrec] at this; exact this, hdone _ C _ (Nat.le_refl _) h1 (hI _ _ _ _ hi (by omega) (sp _)) ((World.putObj_heap_other (by omega)).trans hk)⟩
      · have hlt := (Array.getElem?_eq_some_iff.1 hl).1
        have sp : ∀ o, Steps (fun k => k < w.heap.size ∨ C k) W2 (W2.putObj (w.heap.size + 1) o) := fun o => Steps.putObj _ _ _ _ (by rintro (e | e); omega; exact h2 e)
        exact ⟨some c, _, by have := run_endLoop (P := P) hl (by rw [hrec]; simp); rw [hrec] at this; exact this, hstop _ c pre C _ (Nat.le_refl _) h1 (hIx _ _ _ _ _ hi (by omega) (sp _)) ((World.putObj_heap_other (by omega)).trans hk)⟩

/-- a range whose assignment makes one box -/
theorem wpIn_rangeBoxP {P : Program} {n : Nat} {α : Type} {g : Operand} {ps : Array Tmp} {assign body : Code} {Q : Exit → Act → World → Prop} {a : Act} {w : World} (fr : Nat → α → Array Value → Array Value)
    {gf : Nat} {lb : Array Value} (hg : a.eval g = .func (.func gf) #[] lb) (eg : ∀ args w, (callFunc gf args).run P w = .ok (.enter gf args) w)
    {encs : α → Array Value} {L : List α} {A : Nat → Prop} {w0 : World} (hseq : SeqOf P gf lb encs L A w0) (hb0 : Below w0.heap.size w0 w) (hps : ∀ x, (encs x).size = ps.size)
    (I : List α → (Nat → Prop) → World → Prop) (Ix : Code → List α → (Nat → Prop) → World → Prop) (C0 : Nat → Prop) (hC0 : ∀ k, C0 k → (A k ∨ w0.heap.size ≤ k) ∧ k < w.heap.size)
    (hI : Bears w.heap.size I) (hIx : ∀ c, Bears w.heap.size (Ix c)) (h0 : I [] C0 w) (Bx : List α → Nat → α → (Nat → Prop) → World → Prop) (hBx : ∀ pre b x, Bears w.heap.size (fun (_ : Unit) C W => Bx pre b x C W))
    (hassign : ∀ (l : Nat) (pre : List α) (x : α) (C : Nat → Prop) (W : World) (K : Act → World → Prop), I pre C W → pre ++ [x] <+: L → (∀ k, C k → k < W.heap.size) → w.heap.size ≤ W.heap.size →
      (∀ b C' W', Round C W C' W' → I pre C' W' → Bx pre b x C' W' → K { tmps := fr b x a.tmps, defers := [] } W') →
      assign.wpIn (Fence.wide.inRound l) (n - 1 - 1) P (Exit.then K (fun _ _ _ => False)) { tmps := (ps.zip (encs x)).foldl (fun t (p, v) => t.setIfInBounds p v) a.tmps, defers := [] } W)
    (hbody : ∀ (l : Nat) (pre : List α) (x : α) (b : Nat) (C : Nat → Prop) (W : World), I pre C W → Bx pre b x C W → pre ++ [x] <+: L → (∀ k, C k → k < W.heap.size) → w.heap.size ≤ W.heap.size →
      body.wpIn (Fence.wide.inRound l) (n - 1 - 1) P (rPost I Ix (pre ++ [x]) C W) { tmps := fr b x a.tmps, defers := [] } W)
    (hdone : ∀ (D : Nat) (C : Nat → Prop) (W : World), w.heap.size ≤ D → ¬ C D → I L C W → W.heap[D]? = some (.deferred (some [])) → Q .normal { a with defers := { target := .collected D, args := #[] } :: a.defers } W)
    (hstop : ∀ (D : Nat) (c : Code) (pre : List α) (C : Nat → Prop) (W : World), w.heap.size ≤ D → ¬ C D → Ix c pre C W → W.heap[D]? = some (.deferred (some [])) → c.wpIn Fence.wide n P Q { a with defers := { target := .collected D, args := #[] } :: a.defers } W) :
    (Code.rangeFunc g ps assign body).wpIn Fence.wide n P Q a w :=
  wpIn_rangeP hg eg hseq hb0 hps I Ix C0 hC0 hI hIx h0 (fun pre x a' C W => ∃ b, a' = { tmps := fr b x a.tmps, defers := [] } ∧ Bx pre b x C W)
    (fun pre x a' s C W1 W2 h hn hs => by obtain ⟨b, h1, h2⟩ := h; exact ⟨b, h1, hBx pre b x s C W1 W2 h2 hn hs⟩)
    (fun l pre x C W K hi hp hc hz hK => hassign l pre x C W K hi hp hc hz (fun b C' W' hr hi' hb => hK _ C' W' hr hi' ⟨b, rfl, hb⟩))
    (fun l pre x a' C W hi ha hp hc hz => by obtain ⟨b, rfl, hb⟩ := ha; exact hbody l pre x b C W hi hb hp hc hz) hdone hstop

end Go.Proofs.YtohpaoleomcimaaGreat.rng
/-!   The tree of nodes, gone through, told beside an older world. (Written by gen_bokt.py.)
-/
namespace Go.Proofs.YtohpaoleomcimaaGreat.cv
open Go.RowKit Go.Shelf aid mem rng
attribute [local go_sem] Oper.semAt_some
set_option linter.unusedVariables false
set_option linter.unusedSimpArgs false

theorem tr_later {w w' : World} {p : Option Addr} {t : T} (h : TrO w p t) (hb : Below w.heap.size w w') : TrO w' p t := by
  rcases h with ⟨h1, h2⟩ | ⟨b, h1, h2⟩
  · exact .inl ⟨h1, h2⟩
  · exact .inr ⟨b, h1, h2.later hb⟩
/-- what a consumer may write, told beside an older world, in which a tree stands: none of its nodes -/
def FarR (w0 w : World) (A : Nat → Prop) : Prop := ∀ k, A k → k < w.heap.size ∧ ∀ cs, w0.heap[k]? ≠ some (.cells cs 158 (0, 0))
theorem FarR.sub {w0 w W : World} {A C0 : Nat → Prop} (h : FarR w0 w A) (hb0 : Below w0.heap.size w0 w) (hC : ∀ k, C0 k → (A k ∨ w.heap.size ≤ k) ∧ k < W.heap.size) : FarR w0 W C0 := fun k hk => by
  obtain ⟨h1, h2⟩ := hC k hk
  refine ⟨h2, fun cs e => ?_⟩
  rcases h1 with h1 | h1
  · exact (h k h1).2 cs e
  · have := lt_of_block e; have := hb0.size; omega
theorem FarR.later {w0 w w' : World} {A : Nat → Prop} (h : FarR w0 w A) (hb : Below w.heap.size w w') : FarR w0 w' A := fun k hk => ⟨Nat.lt_of_lt_of_le (h k hk).1 hb.size, (h k hk).2⟩
theorem FarR.of {w0 w : World} {A : Nat → Prop} (hb : Below w0.heap.size w0 w) (h : ∀ k, A k → w0.heap.size ≤ k ∧ k < w.heap.size) : FarR w0 w A := fun k hk => ⟨(h k hk).2, fun cs e => by have := lt_of_block e; have := (h k hk).1; omega⟩
set_option maxRecDepth 100000 in
set_option maxHeartbeats 4000000 in
theorem from1_seqR {w0 w : World} {p q : Option Addr} {t : T} {key : Int} {LN : List Nd} {bt bk : Nat} {A : Nat → Prop} (hb0 : Below w0.heap.size w0 w) (hr : RootOf w0 p q) (hg : Goes w0 key q t LN)
    (ht : w.cell? ⟨bt, 0, none⟩ = some (.pointer p)) (hk : w.cell? ⟨bk, 0, none⟩ = some (.int .i64 key)) (hA : FarR w0 w A) (hat : ¬ A bt) (hak : ¬ A bk) :
    SeqOf Tryz.prog 142 #[.pointer (some ⟨bt, 0, none⟩), .pointer (some ⟨bk, 0, none⟩)] ndE LN A w := by
  intro l J Jx C0 W hW hC hJ hJx hY h0
  have hbW := hb0.trans (hW.mono hb0.size)
  have r2 := hr.later (hbW.trans ((Below.refl W.heap.size W).drew.mono hbW.size))
  have hF := hA.sub hb0 hC
  have hx : Cx w0 W C0 l J Jx LN := ⟨fun b cs h => ⟨fun hc => (hF b hc).2 cs h, (hbW.block b (lt_of_block h)).trans h⟩, hY⟩
  have c1 := ck hW ht
  have c2 := ck hW hk
  have j2 := hJ _ _ _ _ h0 (Nat.le_refl _) (Steps.drew _ W)
  have i2 : It C0 W C0 W.drew := (It.refl (fun k hk => (hC k hk).2)).own (Steps.drew _ W)
  have nt : ¬ C0 bt := fun e => by
    rcases (hC _ e).1 with a | a
    · exact hat a
    · have := World.block_lt_of_cell? w _ ht; simp only at this; omega
  have nk : ¬ C0 bk := fun e => by
    rcases (hC _ e).1 with a | a
    · exact hak a
    · have := World.block_lt_of_cell? w _ hk; simp only at this; omega
  have HR := Lib.hid (rise_any hx key t hg (List.prefix_refl _) j2 i2)
  rw [List.nil_append] at HR
  clear hr hg hx j2 i2 hJ hJx hY h0 hC hW ht hk hA hF hbW hb0
  show Calls Tryz.prog 142 #[.func (.yield l) #[] #[], .pointer (some ⟨bt, 0, none⟩), .pointer (some ⟨bk, 0, none⟩)] W _
  go_enter Tryz.func142, Tryz.ntmps142
  go_wp2
  have k0 : W.drew.cell? ⟨bt, 0, none⟩ = some (.pointer p) ∧ W.drew.cell? ⟨bk, 0, none⟩ = some (.int .i64 key) := ⟨c1, c2⟩
  go_region_held3 (fun w' => w'.cell? ⟨bt, 0, none⟩ = some (.pointer p) ∧ w'.cell? ⟨bk, 0, none⟩ = some (.int .i64 key)) (with_reducible first | exact k0 | exact k1 | go_keep) (first
    | (go_at_call 88; (with_reducible refine (top_at r2).mono ?_); rintro e w2 ⟨rfl, rfl⟩)
    | (go_at_call 143; (with_reducible refine HR.out.mono ?_); rintro e w3 hrp; obtain ⟨b, rfl, hb⟩ := rise_b hrp; have k1 := And.intro (hb.cell nt c1) (hb.cell nk c2); clear hrp))
  all_goals
    go_wp2
    go_end0
    exact ⟨⟨_, rfl⟩, hb.done⟩
set_option maxRecDepth 100000 in
set_option maxHeartbeats 2000000 in
theorem from_anyR {w0 w : World} {p : Option Addr} {t : T} (hb0 : Below w0.heap.size w0 w) (h : TrO w0 p t) (key : Int) (hu : T.Up t.toL) (A : Nat → Prop) (hA : FarR w0 w A) :
    Calls Tryz.prog 133 #[.pointer p, .int .i64 key] w (SeqKV (t.toL.filter (fun x => decide (key ≤ x.1))) A w) := by
  obtain ⟨q, hr, hq⟩ := trO_root h
  obtain ⟨LN, hg⟩ := goes_of key hq
  have hk := goes_keys key hg hu
  obtain ⟨w1, hw1⟩ : ∃ w1, w1 = (w.alloc (.cells #[.pointer p] 91)).alloc (.cells #[.int .i64 key] 3) := ⟨_, rfl⟩
  have b1 : Below w.heap.size w w1 := by rw [hw1]; exact ((Below.refl _ _).alloc (Nat.le_refl _) _).alloc (by simp) _
  have c1 : w1.cell? ⟨w.heap.size, 0, none⟩ = some (.pointer p) := by
    rw [hw1]; exact ck (bal' _) ((cell_of_row _ w.heap.size 0 _ _ (0, 0) (heap_alloc_new w (.cells #[.pointer p] 91))).trans rfl)
  have c2 : w1.cell? ⟨w.heap.size + 1, 0, none⟩ = some (.int .i64 key) := by
    have := (cell_of_row _ (w.alloc (.cells #[.pointer p] 91)).heap.size 0 _ _ (0, 0) (heap_alloc_new (w.alloc (.cells #[.pointer p] 91)) (.cells #[.int .i64 key] 3))).trans rfl
    rw [World.size_alloc] at this
    rw [hw1]; exact this
  have b01 := hb0.trans (b1.mono hb0.size)
  have s1 := from1_seqR (A := A) b01 hr hg c1 c2 (hA.later b1) (fun e => by have := (hA _ e).1; omega) (fun e => by have := (hA _ e).1; omega)
  obtain ⟨w2, hw2⟩ : ∃ w2, w2 = w1.alloc (.cells #[.func (.func 142) #[] #[.pointer (some ⟨w.heap.size, 0, none⟩), .pointer (some ⟨w.heap.size + 1, 0, none⟩)]] 187) := ⟨_, rfl⟩
  have b2 : Below w1.heap.size w1 w2 := by rw [hw2]; exact bal' _
  have hz1 : w1.heap.size = w.heap.size + 1 + 1 := by rw [hw1]; simp
  have hb : w2.cell? ⟨w1.heap.size, 0, none⟩ = some (.func (.func 142) #[] #[.pointer (some ⟨w.heap.size, 0, none⟩), .pointer (some ⟨w.heap.size + 1, 0, none⟩)]) := by
    rw [hw2]; exact (cell_of_row _ w1.heap.size 0 _ _ (0, 0) (heap_alloc_new w1 _)).trans rfl
  have hcells := goes_cells key hg
  have s2 := pairs1_seq (s1.later b2 (fun k hk => .inl hk)) eg41 (fun x hx => by
    obtain ⟨cs, n0, n1, n2⟩ := hcells x hx
    have b12 := b01.trans (b2.mono b01.size)
    exact ⟨ck b12 n1, ck b12 n2, fun e => (hA _ e).2 cs n0⟩) hb
  rw [hk] at s2
  have HF : Hid (SeqKV (t.toL.filter (fun x => decide (key ≤ x.1))) A w (.returned (.func (.func 152) #[] #[.pointer (some ⟨w1.heap.size, 0, none⟩)])) w2) := Lib.hid ⟨_, rfl, s2, b1.trans (b2.mono b1.size)⟩
  rw [hw2, hz1] at HF
  clear hw2 s2 hb b2 s1 c2 c1 hcells hk hg hq hr h hu hA b1 hz1 b01 hb0
  subst hw1
  go_enter Tryz.func133, Tryz.ntmps133
  go_wp2_with (go_at_call 141; (with_reducible refine pairs_any.mono ?_); rintro e w3 ⟨rfl, rfl⟩)
  go_ret
  exact HF.out
theorem all_anyR {w0 w : World} {p : Option Addr} {t : T} (hb0 : Below w0.heap.size w0 w) (h : TrO w0 p t) (hu : T.Up t.toL) (hbd : Bound t) (A : Nat → Prop) (hA : FarR w0 w A) :
    Calls Tryz.prog 116 #[.pointer p] w (SeqKV t.toL A w) := by
  have H := from_anyR hb0 h (-9223372036854775808) hu A hA
  rw [List.filter_eq_self.2 (fun x hx => by simpa using hbd x hx)] at H
  have HF := Lib.hid H
  clear H h hu hbd hA
  go_enter Tryz.func116, Tryz.ntmps116
  go_wp2_with (go_at_call 133; (with_reducible refine HF.out.mono ?_); rintro e w3 ⟨lb, rfl, hs, hb⟩; have HS := Lib.hid hs; clear hs)
  go_ret
  exact ⟨lb, rfl, HS.out, hb⟩
end Go.Proofs.YtohpaoleomcimaaGreat.cv
/-!   Package book: nodes by their offsets, records of whatever nodes are gone through. (Written by gen_boku.py.)
-/
namespace Go.Proofs.YtohpaoleomcimaaGreat.bk
open Go.RowKit Go.Shelf aid mem rng
attribute [local go_sem] Oper.semAt_some
set_option linter.unusedVariables false
set_option linter.unusedSimpArgs false

/-- where a pointer leads: to a book; or it is none -/
def BO (w : World) (p : Option Addr) (N L : List Nd) : Prop := (p = none ∧ N = [] ∧ L = []) ∨ ∃ B T s, p = some ⟨B, 0, none⟩ ∧ Bk w B T s N L
theorem bo_none (w : World) : BO w none [] [] := .inl ⟨rfl, rfl, rfl⟩
theorem Bk.o {w : World} {B T : Nat} {s : Hd} {N L : List Nd} (h : Bk w B T s N L) : BO w (some ⟨B, 0, none⟩) N L := .inr ⟨B, T, s, rfl, h⟩
theorem BO.later {w w' : World} {p : Option Addr} {N L : List Nd} (h : BO w p N L) (hb : Below w.heap.size w w') : BO w' p N L := by
  rcases h with h | ⟨B, T, s, h1, h2⟩
  · exact .inl h
  · exact .inr ⟨B, T, s, h1, h2.later hb⟩
theorem BO.up {w : World} {p : Option Addr} {N L : List Nd} (h : BO w p N L) : cv.T.Up (kvN N) := by
  rcases h with ⟨_, rfl, _⟩ | ⟨B, T, s, _, h⟩
  · exact List.Pairwise.nil
  · exact h.up.tree
/-- offsets are no less than 0 -/
def Lo (N : List Nd) : Prop := ∀ x ∈ N, 0 ≤ x.2.f
theorem BO.nd {w : World} {p : Option Addr} {N L : List Nd} (h : BO w p N L) : ∀ x ∈ N, ∃ a z, NdAt w x.1 x.2 a z := by
  rcases h with ⟨_, rfl, _⟩ | ⟨B, T, s, _, h⟩
  · intro x hx; simp at hx
  · intro x hx
    exact seg_mem h.ln.sg (h.perm.symm.subset hx)
theorem tree_any {w0 w : World} {p : Option Addr} {N L : List Nd} (hb : Below w0.heap.size w0 w) (h : BO w0 p N L) : Calls Tryz.prog 55 #[.pointer p] w fun e w' => w = w' ∧ ∃ q, e = .returned (.pointer q) ∧ ∃ t, cv.TrO w0 q t ∧ t.toL = kvN N := by
  rcases h with ⟨rfl, rfl, rfl⟩ | ⟨B, T, s, rfl, h⟩
  · go_enter Tryz.func55, Tryz.ntmps55
    go_wp2
    go_ret
    exact ⟨rfl, _, rfl, .nil, cv.trO_none _, rfl⟩
  · obtain ⟨c0, c1, c2, c3, c4, c5⟩ := (h.later hb).ln.bk.cs
    have HT := Lib.hid h.tr
    clear h
    go_enter Tryz.func55, Tryz.ntmps55
    go_wp2
    go_ret
    obtain ⟨t, h1, h2⟩ := HT.out
    exact ⟨rfl, _, rfl, t, h1.o, h2⟩
theorem kv_prefix {N : List Nd} {pre : List (Int × cv.Vt)} {y : Int × cv.Vt} (h : pre ++ [y] <+: kvN N) : ∃ nd, N.take (pre.length + 1) = N.take pre.length ++ [nd] ∧ y = (nd.2.f, some ⟨nd.1, 0, none⟩) ∧ N.take pre.length ++ [nd] <+: N := by
  obtain ⟨t, ht⟩ := h
  have hlen : pre.length < N.length := by
    have := congrArg List.length ht
    simp [kvN] at this
    omega
  have hg := congrArg (fun l => l[pre.length]?) ht
  simp [kvN, hlen] at hg
  refine ⟨N[pre.length], List.take_succ_eq_append_getElem hlen, hg, ?_⟩
  rw [← List.take_succ_eq_append_getElem hlen]
  exact List.take_prefix _ _
set_option maxRecDepth 100000 in
set_option maxHeartbeats 4000000 in
theorem rising1_seq {w0 w : World} {p : Option Addr} {N L0 : List Nd} {bx : Nat} {A : Nat → Prop} (hb0 : Below w0.heap.size w0 w) (h : BO w0 p N L0) (hlo : Lo N) (hx : w.cell? ⟨bx, 0, none⟩ = some (.pointer p)) (hax : ¬ A bx) (hA : cv.FarR w0 w A) :
    SeqOf Tryz.prog 115 #[.pointer (some ⟨bx, 0, none⟩)] nE N A w := by
  intro l J Jx C0 W hW hC hJ hJx hY h0
  have c0 := ck hW hx
  have hbW := hb0.trans (hW.mono hb0.size)
  have hF := hA.sub hb0 hC
  have hwb : Below W.heap.size W (W.alloc (.cells #[.func (.yield l) #[] #[]] 126)) := (Below.refl _ _).alloc (Nat.le_refl _) _
  have c1 := ck hwb c0
  have HT := Lib.hid (fun X (hX : Below W.heap.size W X) => tree_any (hbW.trans (hX.mono hbW.size)) h)
  have HU := Lib.hid h.up
  have HBD : Hid (∀ t : cv.T, t.toL = kvN N → cv.T.Up t.toL ∧ cv.Bound t) := Lib.hid (fun t ht => ⟨by rw [ht]; exact HU.out, fun x hx => by
    rw [ht] at hx
    obtain ⟨y, hy, rfl⟩ := List.mem_map.1 hx
    have := hlo y hy
    simp only
    omega⟩)
  have HFR := Lib.hid (fun X (hX : Below W.heap.size W X) => hF.later hX)
  have HW1 := Lib.hid hwb
  have hy1 : (W.alloc (.cells #[.func (.yield l) #[] #[]] 126)).cell? ⟨W.heap.size, 0, none⟩ = some (.func (.yield l) #[] #[]) := (cell_of_row _ W.heap.size 0 _ _ (0, 0) (heap_alloc_new W _)).trans rfl
  have HC := Lib.hid hC; have HJ := Lib.hid hJ; have HJX := Lib.hid hJx; have HY := Lib.hid hY; have H0 := Lib.hid h0; have HB := Lib.hid hbW; have HH := Lib.hid h
  clear hC hJ hJx hY h0 hwb hF hbW h hA hW hb0 hx c0
  show Calls Tryz.prog 115 #[.func (.yield l) #[] #[], .pointer (some ⟨bx, 0, none⟩)] W _
  refine (callsIn_wide (n := 6)).1 ?_
  refine callsIn_of_wp_marks Tryz.func115 rfl trivial ?_ rfl
  simp only [Tryz.ntmps115, List.size_toArray, List.length_cons, List.length_nil, Nat.reduceAdd, Nat.reduceSub, Array.replicate_succ, Array.replicate_zero, List.push_toArray, List.append_toArray, List.nil_append, List.cons_append]
  gi_wp2
  refine ⟨trivial, ?_⟩
  refine (callsIn_wide.2 (HT.out _ HW1.out)).mono ?_
  rintro e w3 ⟨rfl, q, rfl, t, hq, ht⟩
  obtain ⟨hu, hbd⟩ := HBD.out t ht
  have HAL := Lib.hid (cv.all_anyR (HB.out.trans (HW1.out.mono HB.out.size)) hq hu hbd C0 (HFR.out _ HW1.out))
  rw [ht] at HAL
  clear hu hbd c1 hq ht HFR HBD HU HT
  gi_wp2
  refine ⟨trivial, ?_⟩
  refine (callsIn_wide.2 HAL.out).mono ?_
  rintro e w5 ⟨lb, rfl, hseq, h5⟩
  have hb5 := HW1.out.trans (h5.mono HW1.out.size)
  have hy5 := ck h5 hy1
  have HSEQ := Lib.hid hseq
  have hWz : W.heap.size < w5.heap.size := World.block_lt_of_cell? w5 _ hy5
  have HI0 : Hid (J (N.take 0) C0 w5 ∧ It C0 W C0 w5 ∧ ¬ C0 W.heap.size ∧ w5.cell? ⟨W.heap.size, 0, none⟩ = some (.func (.yield l) #[] #[])) := Lib.hid (by
    have ss := Steps.of_below hb5 (fun k => k < W.heap.size ∨ C0 k)
    exact ⟨HJ.out _ _ _ _ H0.out (Nat.le_refl _) ss, (It.refl (fun k hk => (HC.out k hk).2)).own ss, fun e => by have := (HC.out _ e).2; omega, hy5⟩)
  have HZ := Lib.hid hb5.size
  clear hseq h5 hy5 hy1 HAL HW1 hb5
  gi_wp2
  refine wpIn_rangeF (fun (y : Int × cv.Vt) (t : Array Value) => ((t.setIfInBounds 8 (.int .i64 y.1)).setIfInBounds 9 (.pointer y.2)).setIfInBounds 4 (.pointer y.2)) (gf := 152) (lb := lb) (L := kvN N) (A := C0) (w0 := w5) (encs := cv.kvE) rfl cv.eg49 HSEQ.out (Below.refl _ _) (fun _ => rfl)
    (fun pre C W' => J (N.take pre.length) C W' ∧ It C0 W C W' ∧ ¬ C W.heap.size ∧ W'.cell? ⟨W.heap.size, 0, none⟩ = some (.func (.yield l) #[] #[]))
    (fun c pre C W' => isRet c ∧ ∃ told, Jx told C W') C0 ?hc0 ?hI ?hIx HI0.out ?assign ?body ?done ?stop
  case hc0 => exact fun k hk => ⟨.inl hk, by have := (HC.out k hk).2; have := HZ.out; omega⟩
  case hI =>
    rintro s C X Y ⟨h1, h2, h3, h4⟩ hz hs
    have hs' : rng.Steps (fun k => k < W.heap.size ∨ C k) X Y := hs.mono (fun k _ hk => hk.imp (fun h => by omega) id)
    exact ⟨HJ.out _ _ _ _ h1 (by omega) hs', h2.own hs', h3, hs.cell (.inl (by simpa using hWz)) h4⟩
  case hIx =>
    rintro c s C X Y ⟨h1, told, h2⟩ hz hs
    have hs' : rng.Steps (fun k => k < W.heap.size ∨ C k) X Y := hs.mono (fun k _ hk => hk.imp (fun h => by omega) id)
    exact ⟨h1, told, HJX.out _ _ _ _ h2 (by omega) hs'⟩
  case assign =>
    intro l' x X K hK
    gi_wp2
    exact hK
  case body =>
    rintro l' pre y C X ⟨h1, h2, h3, h4⟩ hp hcb hz
    obtain ⟨nd, e1, rfl, e2⟩ := kv_prefix hp
    have hyq := HY.out _ _ C X h1 h2.kept.size e2
    rw [← e1] at hyq
    obtain ⟨fn, tmps, assign, body, hyy, hYY⟩ := hyq.inRound l' 3
    have HN := Lib.hid (fun (C3 : Nat → Prop) (w3 : World) (hr : Round C X C3 w3) (hj : J (N.take (pre.length + 1)) C3 w3) => show ∃ C', Round C X C' w3 ∧ (J (N.take (pre ++ [(nd.2.f, some (⟨nd.1, 0, none⟩ : Addr))]).length) C' w3 ∧ It C0 W C' w3 ∧ ¬ C' W.heap.size ∧ w3.cell? ⟨W.heap.size, 0, none⟩ = some (.func (.yield l) #[] #[])) from
      ⟨C3, hr, by simpa using hj, h2.round hr, fun e => by
        rcases hr.2 _ e with a | a
        · exact h3 a
        · omega, hr.1.cell h3 h4⟩)
    have HS := Lib.hid (fun (C3 : Nat → Prop) (w3 : World) (hr : Round C X C3 w3) (hj : Jx (N.take (pre.length + 1)) C3 w3) => show ∃ C', Round C X C' w3 ∧ (isRet Code.ret ∧ ∃ told, Jx told C' w3) from
      ⟨C3, hr, rfl, _, hj⟩)
    have hyd := h4
    clear h1 h2 h3 h4 hp hcb e1 e2 hyq hz HSEQ HI0
    simp only [List.setIfInBounds_toArray, List.set_cons_zero, List.set_cons_succ]
    gi_wp2
    refine hYY.mono ?_
    clear hyy hYY
    rintro e w6 ⟨C2, hr2, ⟨rfl, hJ2⟩ | ⟨rfl, hJ2⟩⟩
    · have HFIN := Lib.hid (HN.out C2 _ hr2 hJ2)
      clear hr2 hJ2 hyd HN HS
      gi_wp2
      exact HFIN.out
    · have HFIN := Lib.hid (HS.out C2 _ hr2 hJ2)
      clear hr2 hJ2 hyd HN HS
      gi_wp2
      exact HFIN.out
  case done =>
    rintro D C X hD hCD ⟨h1, h2, h3, h4⟩ hK
    have hf := HJ.out _ _ _ (X.putObj D (.deferred none)) h1 h2.kept.size (rng.Steps.putObj _ _ _ _ (by rintro (e | e); omega; exact hCD e))
    rw [List.take_of_length_le (by simp [kvN])] at hf
    have HF := Lib.hid hf
    have HK4 := Lib.hid hK
    clear h1 h2 h3 h4 hf hK HSEQ HI0
    gi_wp2
    refine ⟨by simp, .inl ⟨_, _, rfl, run_takeDeferred HK4.out, ?_⟩⟩
    exact ⟨_, results_none rfl _ _ _, ⟨_, rfl⟩, C, .inl HF.out⟩
  case stop =>
    rintro D c pre C X hD hCD ⟨rfl, told, h2⟩ hK
    have hX : W.heap.size ≤ X.heap.size := by have := lt_of_block hK; omega
    have hf := HJX.out _ _ _ (X.putObj D (.deferred none)) h2 hX (rng.Steps.putObj _ _ _ _ (by rintro (e | e); omega; exact hCD e))
    have HF := Lib.hid hf
    have HK4 := Lib.hid hK
    clear h2 hf hK HSEQ HI0
    gi_wp2
    refine ⟨by simp, .inl ⟨_, _, rfl, run_takeDeferred HK4.out, ?_⟩⟩
    exact ⟨_, results_none rfl _ _ _, ⟨_, rfl⟩, C, .inr ⟨_, HF.out⟩⟩
set_option maxRecDepth 100000 in
set_option maxHeartbeats 1000000 in
theorem recs1_seq {w : World} {gf bn : Nat} {lb : Array Value} {L : List Nd} {A : Nat → Prop} (hseq : SeqOf Tryz.prog gf lb nE L A w) (hn : ∀ x ∈ L, ∃ p q, NdAt w x.1 x.2 p q) (hA : ∀ x ∈ L, ¬ A x.1)
    (eg : ∀ args w, (callFunc gf args).run Tryz.prog w = .ok (.enter gf args) w) (hbx : w.cell? ⟨bn, 0, none⟩ = some (.func (.func gf) #[] lb)) :
    SeqOf Tryz.prog 112 #[.pointer (some ⟨bn, 0, none⟩)] recE L A w := by
  intro l J Jx C0 W hW hC hJ hJx hY h0
  have c0 := ck hW hbx
  have hlr : ∀ x ∈ L, ∃ p q, NdAt W x.1 x.2 p q := fun x hx => by obtain ⟨p, q, h⟩ := hn x hx; exact ⟨p, q, h.later hW⟩
  have nC : ∀ x ∈ L, ¬ C0 x.1 := fun x hx' e => by
    rcases (hC _ e).1 with a | a
    · exact hA x hx' a
    · obtain ⟨p, q, h⟩ := hn x hx'; have := h.lt; omega
  show Calls Tryz.prog 112 #[.func (.yield l) #[] #[], .pointer (some ⟨bn, 0, none⟩)] W _
  refine (callsIn_wide (n := 6)).1 ?_
  refine callsIn_of_wp_marks Tryz.func112 rfl trivial ?_ rfl
  simp only [Tryz.ntmps112, List.size_toArray, List.length_cons, List.length_nil, Nat.reduceAdd, Nat.reduceSub, Array.replicate_succ, Array.replicate_zero, List.push_toArray, List.append_toArray, List.nil_append, List.cons_append]
  have hwb : Below W.heap.size W (W.alloc (.cells #[.func (.yield l) #[] #[]] 155)) := (Below.refl _ _).alloc (Nat.le_refl _) _
  have c1 := ck hwb c0
  gi_wp2
  refine wpIn_range' (gf := gf) (lb := lb) (L := L) (A := A) (w0 := w) (encs := nE) rfl eg hseq (hW.trans (hwb.mono hW.size)) (fun _ => rfl)
    (fun pre C W' => J pre C W' ∧ It C0 W C W' ∧ ¬ C W.heap.size ∧ W'.cell? ⟨W.heap.size, 0, none⟩ = some (.func (.yield l) #[] #[]))
    (fun c pre C W' => isRet c ∧ Jx pre C W') C0 ?hc0 ?hI ?hIx ?h0
    (fun x => { tmps := #[.func (.yield l) #[] #[], .pointer (some ⟨bn, 0, none⟩), .pointer (some ⟨W.heap.size, 0, none⟩), .pointer (some ⟨x.1, 0, none⟩), .func (.func gf) #[] lb, .pointer (some ⟨x.1, 0, none⟩), undef, undef, undef, undef, undef, undef, undef], defers := [] }) ?assign ?body ?done ?stop
  case hc0 => exact fun k hk => ⟨(hC k hk).1, Nat.lt_of_lt_of_le (hC k hk).2 hwb.size⟩
  case hI =>
    rintro s C X Y ⟨h1, h2, h3, h4⟩ hz hs
    have hs' : rng.Steps (fun k => k < W.heap.size ∨ C k) X Y := hs.mono (fun k _ hk => hk.imp (fun h => by simp; omega) id)
    have := hwb.size
    exact ⟨hJ _ _ _ _ h1 (by omega) hs', h2.own hs', h3, hs.cell (.inl (by simp)) h4⟩
  case hIx =>
    rintro c s C X Y ⟨h1, h2⟩ hz hs
    have hs' : rng.Steps (fun k => k < W.heap.size ∨ C k) X Y := hs.mono (fun k _ hk => hk.imp (fun h => by simp; omega) id)
    have := hwb.size
    exact ⟨h1, hJx _ _ _ _ h2 (by omega) hs'⟩
  case h0 =>
    have ss := Steps.of_below hwb (fun k => k < W.heap.size ∨ C0 k)
    exact ⟨hJ _ _ _ _ h0 (Nat.le_refl _) ss, (It.refl (fun k hk => (hC k hk).2)).own ss, fun e => by have := (hC _ e).2; omega, (cell_of_row _ W.heap.size 0 _ _ (0, 0) (heap_alloc_new W _)).trans rfl⟩
  case assign =>
    intro l' x X K hK
    gi_wp2
    exact hK
  case body =>
    rintro l' pre x C X ⟨h1, h2, h3, h4⟩ hp hcb hz
    have j1 := hJ _ _ _ _ h1 h2.kept.size (rng.Steps.drew _ X)
    have hy := (hY _ _ _ X.drew j1 h2.kept.size hp).mono (fun e w h => one_way (X := fun C' => J (pre ++ [x]) C' w) (Y := fun C' => Jx (pre ++ [x]) C' w) h)
    have hxm : x ∈ L := hp.subset (by simp)
    obtain ⟨p1, q1, hnd⟩ := hlr x hxm
    have hn1 : NdAt X x.1 x.2 _ _ := h2.block hnd (nC x hxm)
    obtain ⟨d0, d1, d2, d3, d4, d5, d6, _, _⟩ := hn1.cs
    obtain ⟨fn, tmps, assign, body, hyy, hYY⟩ := hy.at 3
    have e0 : X.drew.cell? ⟨x.1, 0, none⟩ = some (.int .i64 x.2.f) := d0
    have e1 : X.drew.cell? ⟨x.1, 1, none⟩ = some (.int .i64 x.2.t) := d1
    have e2 : X.drew.cell? ⟨x.1, 2, none⟩ = some (.int .i64 x.2.sent) := d2
    have e3 : X.drew.cell? ⟨x.1, 3, none⟩ = some (.int .i64 x.2.order) := d3
    have e4 : X.drew.cell? ⟨x.1, 4, none⟩ = some (.int .i64 x.2.times) := d4
    have e5 : X.drew.cell? ⟨x.1, 5, none⟩ = some (.int .i64 x.2.out) := d5
    have e6 : X.drew.cell? ⟨x.1, 6, none⟩ = some (.bool x.2.lost) := d6
    have e9 : X.drew.cell? ⟨W.heap.size, 0, none⟩ = some (.func (.yield l) #[] #[]) := h4
    have rd : Round C X C X.drew := ⟨rng.Steps.drew _ X, fun _ h => .inl h⟩
    have HN := Lib.hid (fun (C3 : Nat → Prop) (w3 : World) (hr : Round C X.drew C3 w3) (hj : J (pre ++ [x]) C3 w3) => show ∃ C', Round C X C' w3 ∧ (J (pre ++ [x]) C' w3 ∧ It C0 W C' w3 ∧ ¬ C' W.heap.size ∧ w3.cell? ⟨W.heap.size, 0, none⟩ = some (.func (.yield l) #[] #[])) from
      ⟨C3, rd.trans hr, hj, h2.round (rd.trans hr), fun e => by
        rcases hr.2 _ e with a | a
        · exact h3 a
        · have hz' : W.heap.size + 1 ≤ X.heap.size := by simpa using hz
          have : X.drew.heap.size = X.heap.size := rfl
          omega, (rd.trans hr).1.cell h3 h4⟩)
    have HS := Lib.hid (fun (C3 : Nat → Prop) (w3 : World) (hr : Round C X.drew C3 w3) (hj : Jx (pre ++ [x]) C3 w3) => show ∃ C', Round C X C' w3 ∧ (isRet Code.ret ∧ Jx (pre ++ [x]) C' w3) from
      ⟨C3, rd.trans hr, rfl, hj⟩)
    clear hseq hlr hn hA hbx hW hJ hJx hY h0 c0 c1 hwb hC hp hcb hz hy j1 h1 h2 h3 h4 nC d0 d1 d2 d3 d4 d5 d6 hn1 hnd hxm rd
    have hmo : Tryz.prog.follows .mixedOrders = true := by kernel_rfl
    gi_wp2
    refine wpIn_region_round (by assumption) (by kernel_rfl) ?_
    refine wpAnyIn_take (i := 1) (v := (.pointer (some ⟨x.1, 0, none⟩))) rfl rfl (by kernel_rfl) (by kernel_rfl) (by kernel_rfl) (fun _ _ _ h => h) ⟨Or.inl ⟨by rfl, by intro w; go_simp⟩, fun _ => rfl⟩ ?_
    refine wpAnyIn_take (i := 2) (v := (.pointer (some ⟨x.1, 0, none⟩))) rfl rfl (by kernel_rfl) (by kernel_rfl) (by kernel_rfl) (fun _ _ _ h => h) ⟨Or.inl ⟨by rfl, by intro w; go_simp⟩, fun _ => rfl⟩ ?_
    refine wpAnyIn_take (i := 3) (v := (.pointer (some ⟨x.1, 0, none⟩))) rfl rfl (by kernel_rfl) (by kernel_rfl) (by kernel_rfl) (fun _ _ _ h => h) ⟨Or.inl ⟨by rfl, by intro w; go_simp⟩, fun _ => rfl⟩ ?_
    refine wpAnyIn_ready (rs := [0, 4]) (by kernel_rfl) (by simp) ?_
    refine AllReadyIn.cons rfl (fun K hK => ?_) ?_
    · go_simp
      refine hK _ _ ?_
      clear hK K
      refine wpAnyIn_ready (rs := [4]) (by kernel_rfl) (by simp) ?_
      refine AllReadyIn.cons rfl (fun K hK => ?_) ?_
      · go_simp
        refine hK _ _ ?_
        clear hK K
        refine wpAnyIn_ready (rs := [5]) (by kernel_rfl) (by simp) ?_
        refine AllReadyIn.cons rfl (fun K hK => ?_) ?_
        · go_simp
          refine hYY.mono ?_
          rintro e w3 ⟨bo, rfl, hr3⟩
          clear hyy hYY e0 e1 e2 e3 e4 e5 e6 e9
          refine hK _ _ ?_
          clear hK K
          refine wpAnyIn_take (i := 6) (v := (.bool (!bo))) rfl rfl (by kernel_rfl) (by kernel_rfl) (by kernel_rfl) (fun _ _ _ h => h) ⟨Or.inl ⟨by rfl, by intro w; go_simp⟩, fun _ => rfl⟩ ?_
          refine wpAnyIn_done (by kernel_rfl) ?_ _
          obtain ⟨C3, hr4, ⟨rfl, h3'⟩ | ⟨rfl, h3'⟩⟩ := hr3
          · gi_wp2
            exact HN.out _ _ hr4 h3'
          · gi_wp2
            exact HS.out _ _ hr4 h3'
        exact AllReadyIn.nil
      exact AllReadyIn.nil
    refine AllReadyIn.cons rfl (fun K hK => ?_) ?_
    · go_simp
      refine hK _ _ ?_
      clear hK K
      refine wpAnyIn_ready (rs := [0]) (by kernel_rfl) (by simp) ?_
      refine AllReadyIn.cons rfl (fun K hK => ?_) ?_
      · go_simp
        refine hK _ _ ?_
        clear hK K
        refine wpAnyIn_ready (rs := [5]) (by kernel_rfl) (by simp) ?_
        refine AllReadyIn.cons rfl (fun K hK => ?_) ?_
        · go_simp
          refine hYY.mono ?_
          rintro e w3 ⟨bo, rfl, hr3⟩
          clear hyy hYY e0 e1 e2 e3 e4 e5 e6 e9
          refine hK _ _ ?_
          clear hK K
          refine wpAnyIn_take (i := 6) (v := (.bool (!bo))) rfl rfl (by kernel_rfl) (by kernel_rfl) (by kernel_rfl) (fun _ _ _ h => h) ⟨Or.inl ⟨by rfl, by intro w; go_simp⟩, fun _ => rfl⟩ ?_
          refine wpAnyIn_done (by kernel_rfl) ?_ _
          obtain ⟨C3, hr4, ⟨rfl, h3'⟩ | ⟨rfl, h3'⟩⟩ := hr3
          · gi_wp2
            exact HN.out _ _ hr4 h3'
          · gi_wp2
            exact HS.out _ _ hr4 h3'
        exact AllReadyIn.nil
      exact AllReadyIn.nil
    exact AllReadyIn.nil
  case done =>
    rintro D C X hD hCD ⟨h1, h2, h3, h4⟩ hK
    have hD' : W.heap.size ≤ D := Nat.le_trans hwb.size hD
    have hf := hJ _ _ _ (X.putObj D (.deferred none)) h1 h2.kept.size (rng.Steps.putObj _ _ _ _ (by rintro (e | e); omega; exact hCD e))
    have HF := Lib.hid hf
    clear hseq hlr hn hA hbx hW hJ hJx hY h0 c0 c1 hwb hC h1 h2 h3 h4 nC hf
    gi_wp2
    refine ⟨by simp, .inl ⟨_, _, rfl, run_takeDeferred hK, ?_⟩⟩
    exact ⟨_, results_none rfl _ _ _, ⟨_, rfl⟩, C, .inl HF.out⟩
  case stop =>
    rintro D c pre C X hD hCD ⟨rfl, h2⟩ hK
    have hD' : W.heap.size ≤ D := Nat.le_trans hwb.size hD
    have hX : W.heap.size ≤ X.heap.size := by have := lt_of_block hK; omega
    have hf := hJx _ _ _ (X.putObj D (.deferred none)) h2 hX (rng.Steps.putObj _ _ _ _ (by rintro (e | e); omega; exact hCD e))
    have HF := Lib.hid hf
    clear hseq hlr hn hA hbx hW hJ hJx hY h0 c0 c1 hwb hC h2 nC hf
    gi_wp2
    refine ⟨by simp, .inl ⟨_, _, rfl, run_takeDeferred hK, ?_⟩⟩
    exact ⟨_, results_none rfl _ _ _, ⟨_, rfl⟩, C, .inr ⟨_, HF.out⟩⟩
theorem eg_ris : ∀ args w, (callFunc 115 args).run Tryz.prog w = .ok (.enter 115 args) w := enters_of Tryz.func115 (by kernel_rfl) rfl
set_option maxHeartbeats 1000000 in
/-- records by their offsets -/
theorem all_any {w0 w : World} {p : Option Addr} {N L : List Nd} (hb0 : Below w0.heap.size w0 w) (h : BO w0 p N L) (hlo : Lo N) (A : Nat → Prop) (hA : cv.FarR w0 w A) (hn : ∀ x ∈ N, ¬ A x.1) :
    Calls Tryz.prog 54 #[.pointer p] w (SeqR N A w) := by
  have b1 := al w (.cells #[.pointer p] 28)
  have y1 := heap_alloc_new w (.cells #[.pointer p] 28)
  have HI : Hid (∀ W, Calls Tryz.prog 87 #[.pointer p] W fun e w' => e = .returned (.func (.func 115) #[] #[.pointer (some ⟨W.heap.size, 0, none⟩)]) ∧ w' = W.alloc (.cells #[.pointer p] 28)) := by
    refine Lib.hid fun W => ?_
    go_enter Tryz.func87, Tryz.ntmps87
    go_wp2_with fail
    go_ret
    exact ⟨rfl, rfl⟩
  have HR : Hid (∀ gf lb W, Calls Tryz.prog 84 #[.func (.func gf) #[] lb] W fun e w' => e = .returned (.func (.func 112) #[] #[.pointer (some ⟨W.heap.size, 0, none⟩)]) ∧ w' = W.alloc (.cells #[.func (.func gf) #[] lb] 116)) := by
    refine Lib.hid fun gf lb W => ?_
    go_enter Tryz.func84, Tryz.ntmps84
    go_wp2_with fail
    go_ret
    exact ⟨rfl, rfl⟩
  generalize hW1 : w.alloc (.cells #[.pointer p] 28) = w1 at *
  have b2 := al w1 (.cells #[.func (.func 115) #[] #[.pointer (some ⟨w.heap.size, 0, none⟩)]] 116)
  have y2 := heap_alloc_new w1 (.cells #[.func (.func 115) #[] #[.pointer (some ⟨w.heap.size, 0, none⟩)]] 116)
  have x2 := (b2.block _ (lt_of_block y1)).trans y1
  have b12 := b1.trans (b2.mono b1.size)
  have b02 := hb0.trans (b12.mono hb0.size)
  have hs := rising1_seq (A := A) b02 h hlo (cofr x2 0 _ rfl) (fun e => by have := (hA _ e).1; omega) (hA.later b12)
  have HF := Lib.hid (show SeqR N A w (.returned (.func (.func 112) #[] #[.pointer (some ⟨w1.heap.size, 0, none⟩)])) _ from ⟨_, rfl, recs1_seq hs (h.later b02).nd hn eg_ris (cofr y2 0 _ rfl), b12⟩)
  clear h b1 b2 y1 y2 x2 b12 b02 hs hA hn
  go_enter Tryz.func54, Tryz.ntmps54
  go_wp2_with (first
    | (go_at_call 87; (with_reducible refine (HI.out _).mono ?_); rintro e w3 ⟨rfl, rfl⟩; rw [hW1])
    | (go_at_call 84; (with_reducible refine (HR.out _ _ _).mono ?_); rintro e w4 ⟨rfl, rfl⟩))
  go_ret
  exact HF.out
end Go.Proofs.YtohpaoleomcimaaGreat.bk
/-!   Sets of offsets as lists of spans that rise and don't touch, as numbers. Imports nothing of the program.
-/
namespace Go.Proofs.YtohpaoleomcimaaGreat.rn
open Go.RowKit aid sp
set_option linter.unusedVariables false

abbrev Sp := Int × Int
def ROk (x : Sp) : Prop := 0 ≤ x.1 ∧ x.1 < x.2 ∧ x.2 ≤ 4611686018427387904
structure Rn (l : List Sp) : Prop where
  ok : ∀ x ∈ l, ROk x
  up : l.Pairwise (fun a b => a.2 < b.1)
def In (l : List Sp) (o : Int) : Prop := ∃ x ∈ l, x.1 ≤ o ∧ o < x.2
theorem Rn.nil : Rn [] := ⟨fun x h => by simp at h, List.Pairwise.nil⟩
theorem In.nil {o : Int} : ¬ In [] o := by rintro ⟨x, h, _⟩; simp at h
theorem In.cons {x : Sp} {l : List Sp} {o : Int} : In (x :: l) o ↔ (x.1 ≤ o ∧ o < x.2) ∨ In l o := by
  unfold In
  simp
theorem In.append {l r : List Sp} {o : Int} : In (l ++ r) o ↔ In l o ∨ In r o := by
  unfold In
  constructor
  · rintro ⟨x, h, a⟩
    rcases List.mem_append.1 h with h | h
    · exact .inl ⟨x, h, a⟩
    · exact .inr ⟨x, h, a⟩
  · rintro (⟨x, h, a⟩ | ⟨x, h, a⟩)
    · exact ⟨x, List.mem_append.2 (.inl h), a⟩
    · exact ⟨x, List.mem_append.2 (.inr h), a⟩
theorem In.one {x : Sp} {o : Int} : In [x] o ↔ x.1 ≤ o ∧ o < x.2 := by unfold In; simp
theorem Rn.head {x : Sp} {l : List Sp} (h : Rn (x :: l)) : ROk x := h.ok x (by simp)
theorem Rn.tail {x : Sp} {l : List Sp} (h : Rn (x :: l)) : Rn l := ⟨fun y hy => h.ok y (List.mem_cons_of_mem _ hy), (List.pairwise_cons.1 h.up).2⟩
theorem Rn.lt {x : Sp} {l : List Sp} (h : Rn (x :: l)) {y : Sp} (hy : y ∈ l) : x.2 < y.1 := (List.pairwise_cons.1 h.up).1 y hy
theorem Rn.in_tail {x : Sp} {l : List Sp} (h : Rn (x :: l)) {o : Int} (ho : In l o) : x.2 < o := by
  obtain ⟨y, hy, a, b⟩ := ho
  have := h.lt hy
  omega
/-- two that have the same offsets are the same -/
theorem Rn.ext : ∀ {l r : List Sp}, Rn l → Rn r → (∀ o, In l o ↔ In r o) → l = r := by
  intro l
  induction l with
  | nil =>
    intro r hl hr h
    cases r with
    | nil => rfl
    | cons y r =>
      have hy := hr.head
      have := (h y.1).2 ⟨y, by simp, Int.le_refl _, hy.2.1⟩
      exact absurd this In.nil
  | cons x l ih =>
    intro r hl hr h
    have hx := hl.head
    cases r with
    | nil =>
      have := (h x.1).1 ⟨x, by simp, Int.le_refl _, hx.2.1⟩
      exact absurd this In.nil
    | cons y r =>
      have hy := hr.head
      have e1 : x.1 = y.1 := by
        have h1 := In.cons.1 ((h x.1).1 (In.cons.2 (.inl ⟨Int.le_refl _, hx.2.1⟩)))
        have h2 := In.cons.1 ((h y.1).2 (In.cons.2 (.inl ⟨Int.le_refl _, hy.2.1⟩)))
        have a1 : y.1 ≤ x.1 := by
          rcases h1 with h1 | h1
          · exact h1.1
          · have := hr.in_tail h1; have := hy.2.1; omega
        have a2 : x.1 ≤ y.1 := by
          rcases h2 with h2 | h2
          · exact h2.1
          · have := hl.in_tail h2; have := hx.2.1; omega
        omega
      have e2 : x.2 = y.2 := by
        rcases Int.lt_trichotomy x.2 y.2 with c | c | c
        · exfalso
          rcases In.cons.1 ((h x.2).2 (In.cons.2 (.inl ⟨by have := hx.2.1; omega, c⟩))) with q | q
          · omega
          · have := hl.in_tail q; omega
        · exact c
        · exfalso
          rcases In.cons.1 ((h y.2).1 (In.cons.2 (.inl ⟨by have := hy.2.1; omega, c⟩))) with q | q
          · omega
          · have := hr.in_tail q; omega
      have e : x = y := Prod.ext e1 e2
      subst e
      rw [ih hl.tail hr.tail (fun o => ?_)]
      constructor
      · intro q
        have := hl.in_tail q
        rcases In.cons.1 ((h o).1 (In.cons.2 (.inr q))) with c | c
        · omega
        · exact c
      · intro q
        have := hr.in_tail q
        rcases In.cons.1 ((h o).2 (In.cons.2 (.inr q))) with c | c
        · omega
        · exact c
theorem Rn.of_append {l m r : List Sp} (h : Rn (l ++ m ++ r)) : (∀ x ∈ l, ∀ y ∈ m ++ r, x.2 < y.1) ∧ (∀ x ∈ l ++ m, ∀ y ∈ r, x.2 < y.1) := by
  have h1 := (List.pairwise_append.1 h.up)
  have h2 := h.up
  rw [List.append_assoc] at h2
  have h3 := List.pairwise_append.1 h2
  exact ⟨h3.2.2, h1.2.2⟩
theorem Rn.left {l r : List Sp} (h : Rn (l ++ r)) : Rn l := ⟨fun x hx => h.ok x (List.mem_append.2 (.inl hx)), (List.pairwise_append.1 h.up).1⟩
theorem Rn.right {l r : List Sp} (h : Rn (l ++ r)) : Rn r := ⟨fun x hx => h.ok x (List.mem_append.2 (.inr hx)), (List.pairwise_append.1 h.up).2.1⟩
theorem Rn.mid {l m r : List Sp} (hl : Rn l) (hm : Rn m) (hr : Rn r) (h1 : ∀ x ∈ l, ∀ y ∈ m ++ r, x.2 < y.1) (h2 : ∀ x ∈ m, ∀ y ∈ r, x.2 < y.1) : Rn (l ++ (m ++ r)) :=
  ⟨fun x hx => by
    rcases List.mem_append.1 hx with hx | hx
    · exact hl.ok x hx
    · rcases List.mem_append.1 hx with hx | hx
      · exact hm.ok x hx
      · exact hr.ok x hx, List.pairwise_append.2 ⟨hl.up, List.pairwise_append.2 ⟨hm.up, hr.up, h2⟩, h1⟩⟩

/-! ### spans that are fine -/
theorem ROk.ok {x : Sp} (h : ROk x) : Ok x := ⟨h.1, Int.le_of_lt h.2.1, h.2.2⟩
theorem fit_of {x : Sp} (h : Ok x) : fitP x.1 x.2 = x := fit_self h
theorem len_ok {x : Sp} (h : Ok x) : lenI x = x.2 - x.1 := by unfold lenI; rw [fit_of h]
theorem len_rok {x : Sp} (h : ROk x) : lenI x = x.2 - x.1 := len_ok h.ok
theorem rok_of {x : Sp} (h : Ok x) (h1 : lenI x ≠ 0) : ROk x := by
  rw [len_ok h] at h1
  exact ⟨h.1, by have := h.2.1; omega, h.2.2⟩
theorem len_pos_ok {x : Sp} (h : lenI x ≠ 0) : ROk x := by
  unfold lenI fitP at h
  by_cases c : mayB x.1 x.2 = true
  · rw [if_pos c] at h
    have := mayB_iff.1 c
    exact ⟨this.1, by have := this.2.1; simp only at h; omega, this.2.2⟩
  · rw [if_neg c] at h; simp at h
theorem meet_rok {x s : Sp} (hx : Ok x) (hs : Ok s) : meetP x s = betw (max x.1 s.1) (min x.2 s.2) := by unfold meetP; rw [fit_of hx, fit_of hs]
theorem betw_len {a b : Int} (h0 : 0 ≤ a) (h1 : b ≤ 4611686018427387904) : lenI (betw a b) = if a < b then b - a else 0 := by
  unfold betw
  by_cases c : b ≤ a
  · rw [if_pos c, if_neg (by omega)]; rfl
  · rw [if_neg c, if_pos (by omega)]; exact len_ok ⟨h0, by simp only; omega, h1⟩
theorem meet_len {x s : Sp} (hx : Ok x) (hs : Ok s) : lenI (meetP x s) = if max x.1 s.1 < min x.2 s.2 then min x.2 s.2 - max x.1 s.1 else 0 := by
  rw [meet_rok hx hs]
  have a := hx.1; have b := hs.1; have c := hx.2.2; have d := hs.2.2
  exact betw_len (by omega) (by omega)
theorem below_rok {x : Sp} (hx : Ok x) (o : Int) : belowP x o = betw x.1 (min x.2 o) := by unfold belowP; rw [fit_of hx]
theorem from_rok {x : Sp} (hx : Ok x) (o : Int) : fromP x o = betw (max x.1 o) x.2 := by unfold fromP; rw [fit_of hx]
theorem betw_in {a b o : Int} : In (if lenI (betw a b) = 0 then [] else [betw a b]) o → a ≤ o ∧ o < b := by
  unfold betw
  by_cases c : b ≤ a
  · rw [if_pos c]; intro h; simp [lenI, fitP, mayB, In.nil] at h
  · rw [if_neg c]
    intro h
    by_cases d : lenI (a, b) = 0
    · rw [if_pos d] at h; exact absurd h In.nil
    · rw [if_neg d] at h; exact In.one.1 h
/-- what is not empty of a span -/
def ne (x : Sp) : List Sp := if lenI x = 0 then [] else [x]
theorem ne_in {a b o : Int} (h0 : 0 ≤ a) (h1 : b ≤ 4611686018427387904) : In (ne (betw a b)) o ↔ a ≤ o ∧ o < b := by
  unfold ne
  constructor
  · exact betw_in
  · rintro ⟨h, k⟩
    have hl : lenI (betw a b) = b - a := by rw [betw_len h0 h1, if_pos (by omega)]
    rw [if_neg (by omega)]
    unfold betw
    rw [if_neg (by omega)]
    exact In.one.2 ⟨h, k⟩
theorem ne_mem {x y : Sp} (h : y ∈ ne x) : y = x ∧ ROk x := by
  unfold ne at h
  by_cases c : lenI x = 0
  · rw [if_pos c] at h; simp at h
  · rw [if_neg c] at h; simp at h; exact ⟨h, len_pos_ok c⟩
theorem ne_rn (x : Sp) : Rn (ne x) := by
  unfold ne
  by_cases c : lenI x = 0
  · rw [if_pos c]; exact Rn.nil
  · rw [if_neg c]; exact ⟨fun y hy => by simp at hy; subst hy; exact len_pos_ok c, List.pairwise_singleton _ _⟩

/-! ### hulls -/
theorem hull_snoc (l : List Sp) (x : Sp) : hullP (l ++ [x]) = widerP (hullP l) x := by unfold hullP; rw [List.foldl_append]; rfl
theorem hull_spec : ∀ (l : List Sp), (∀ x ∈ l, ROk x) → l ≠ [] → (∀ x ∈ l, (hullP l).1 ≤ x.1 ∧ x.2 ≤ (hullP l).2) ∧ (∃ x ∈ l, (hullP l).1 = x.1) ∧ (∃ x ∈ l, (hullP l).2 = x.2) := by
  suffices H : ∀ (n : Nat) (l : List Sp), l.length = n → (∀ x ∈ l, ROk x) → l ≠ [] → (∀ x ∈ l, (hullP l).1 ≤ x.1 ∧ x.2 ≤ (hullP l).2) ∧ (∃ x ∈ l, (hullP l).1 = x.1) ∧ (∃ x ∈ l, (hullP l).2 = x.2) from fun l => H _ l rfl
  intro n
  induction n with
  | zero => intro l hl h hne; exact absurd (List.eq_nil_of_length_eq_zero hl) hne
  | succ n ih =>
    intro l hl h hne
    obtain ⟨l', x, rfl⟩ : ∃ l' x, l = l' ++ [x] := ⟨l.dropLast, l.getLast hne, (List.dropLast_concat_getLast hne).symm⟩
    have hx := h x (by simp)
    have hxl := len_rok hx
    obtain ⟨x1, x2, x3⟩ := hx
    rw [hull_snoc]
    by_cases hn : l' = []
    · subst hn
      have e : widerP (hullP []) x = x := by
        unfold widerP
        rw [if_neg (by omega), if_pos (show hullP [] = (0, 0) from rfl)]
      rw [List.nil_append, e]
      exact ⟨fun y hy => by simp at hy; subst hy; omega, ⟨x, by simp, rfl⟩, ⟨x, by simp, rfl⟩⟩
    · obtain ⟨i1, ⟨a, ha, i2⟩, ⟨b, hb, i3⟩⟩ := ih l' (by simp at hl; omega) (fun y hy => h y (List.mem_append.2 (.inl hy))) hn
      have hbo := h b (List.mem_append.2 (.inl hb))
      have e : widerP (hullP l') x = (min (hullP l').1 x.1, max (hullP l').2 x.2) := by
        unfold widerP
        rw [if_neg (by omega), if_neg ?_]
        intro c
        rw [c] at i3
        have := hbo.1; have := hbo.2.1; simp only at i3; omega
      rw [e]
      refine ⟨fun y hy => ?_, ?_, ?_⟩
      · rcases List.mem_append.1 hy with hy | hy
        · have := i1 y hy; simp only; omega
        · simp at hy; subst hy; simp only; omega
      · simp only
        rcases Int.le_total (hullP l').1 x.1 with c | c
        · exact ⟨a, List.mem_append.2 (.inl ha), by omega⟩
        · exact ⟨x, by simp, by omega⟩
      · simp only
        rcases Int.le_total (hullP l').2 x.2 with c | c
        · exact ⟨x, by simp, by omega⟩
        · exact ⟨b, List.mem_append.2 (.inl hb), by omega⟩
/-- the hull of what touches one, and of that one, has what they have -/
theorem hull_in {l : List Sp} {s : Sp} (hl : ∀ x ∈ l, ROk x) (hs : ROk s) (ht : ∀ x ∈ l, s.1 ≤ x.2 ∧ x.1 ≤ s.2) {m : List Sp} (hm : ∀ x, x ∈ m ↔ x ∈ l ∨ x = s) : ROk (hullP m) ∧ ∀ o, ((hullP m).1 ≤ o ∧ o < (hullP m).2) ↔ In l o ∨ (s.1 ≤ o ∧ o < s.2) := by
  have hmk : ∀ x ∈ m, ROk x := fun x hx => by rcases (hm x).1 hx with h | rfl; exact hl x h; exact hs
  have hsm : s ∈ m := (hm s).2 (.inr rfl)
  obtain ⟨h1, ⟨a, ha, h2⟩, ⟨b, hb, h3⟩⟩ := hull_spec m hmk (List.ne_nil_of_mem hsm)
  have hso := h1 s hsm
  have hak := hmk a ha
  have hbk := hmk b hb
  refine ⟨⟨by rw [h2]; exact hak.1, by have := hs.2.1; omega, by rw [h3]; exact hbk.2.2⟩, fun o => ⟨fun ⟨p, q⟩ => ?_, fun h => ?_⟩⟩
  · by_cases c : s.1 ≤ o
    · by_cases d : o < s.2
      · exact .inr ⟨c, d⟩
      · rcases (hm b).1 hb with hb' | rfl
        · exact .inl ⟨b, hb', by have := ht b hb'; omega, by omega⟩
        · omega
    · rcases (hm a).1 ha with ha' | rfl
      · exact .inl ⟨a, ha', by omega, by have := ht a ha'; omega⟩
      · omega
  · rcases h with ⟨x, hx, p, q⟩ | ⟨p, q⟩
    · have := h1 x ((hm x).2 (.inl hx)); omega
    · omega

/-! ### adding and removing, at places -/
def addAt (l : List Sp) (s : Sp) (f t : Nat) : List Sp := l.take f ++ ([hullP ((l.take t).drop f ++ [s])] ++ l.drop t)
theorem three (l : List Sp) (f t : Nat) (h : f ≤ t) : l.take f ++ (l.take t).drop f ++ l.drop t = l := by
  have e : l.take f = (l.take t).take f := by rw [List.take_take]; congr 1; omega
  rw [e, List.take_append_drop, List.take_append_drop]
theorem add_spec {l : List Sp} {s : Sp} {f t : Nat} (hl : Rn l) (hs : ROk s) (hft : f ≤ t) (h1 : ∀ x ∈ l.take f, x.2 < s.1) (h2 : ∀ x ∈ l.drop f, s.1 ≤ x.2) (h3 : ∀ x ∈ l.take t, x.1 ≤ s.2) (h4 : ∀ x ∈ l.drop t, s.2 < x.1) :
    Rn (addAt l s f t) ∧ ∀ o, In (addAt l s f t) o ↔ In l o ∨ (s.1 ≤ o ∧ o < s.2) := by
  have e := three l f t hft
  unfold addAt
  have hd : ∀ x ∈ (l.take t).drop f, x ∈ l.drop f := fun x hx => by
    have : (l.take t).drop f = (l.drop f).take (t - f) := List.drop_take
    rw [this] at hx
    exact List.mem_of_mem_take hx
  have hm2 : ∀ x ∈ (l.take t).drop f, s.1 ≤ x.2 ∧ x.1 ≤ s.2 := fun x hx => ⟨h2 x (hd x hx), h3 x (List.mem_of_mem_drop hx)⟩
  generalize l.take f = A at *
  generalize (l.take t).drop f = B at *
  generalize l.drop t = D at *
  subst e
  obtain ⟨p1, p2⟩ := hl.of_append
  have hB : ∀ x ∈ B, ROk x := fun x hx => hl.ok x (by simp [hx])
  obtain ⟨hk, hin⟩ := hull_in hB hs hm2 (m := B ++ [s]) (fun x => by simp)
  obtain ⟨q1, ⟨a, ha, q2⟩, ⟨b, hb, q3⟩⟩ := hull_spec (B ++ [s]) (fun x hx => by rcases List.mem_append.1 hx with h | h; exact hB x h; simp at h; subst h; exact hs) (by simp)
  refine ⟨Rn.mid hl.left.left ⟨fun x hx => by simp at hx; subst hx; exact hk, List.pairwise_singleton _ _⟩ hl.right (fun x hx y hy => ?_) (fun x hx y hy => ?_), fun o => ?_⟩
  · rcases List.mem_append.1 hy with hy | hy
    · simp at hy
      subst hy
      rw [q2]
      rcases List.mem_append.1 ha with ha | ha
      · exact p1 x hx a (List.mem_append.2 (.inl ha))
      · simp at ha; subst ha; exact h1 x hx
    · exact p1 x hx y (List.mem_append.2 (.inr hy))
  · simp at hx
    subst hx
    rw [q3]
    rcases List.mem_append.1 hb with hb | hb
    · exact p2 b (List.mem_append.2 (.inr hb)) y hy
    · simp at hb; subst hb; exact h4 y hy
  · rw [In.append, In.append, In.append, In.append, In.one, hin]
    constructor
    · rintro (h | (h | h) | h)
      · exact .inl (.inl (.inl h))
      · exact .inl (.inl (.inr h))
      · exact .inr h
      · exact .inl (.inr h)
    · rintro (((h | h) | h) | h)
      · exact .inl h
      · exact .inr (.inl (.inl h))
      · exact .inr (.inr h)
      · exact .inr (.inl (.inr h))
def remAt (l : List Sp) (s : Sp) (f t : Nat) (d : Sp) : List Sp := l.take f ++ ((ne (belowP (l.getD f d) s.1) ++ ne (fromP (l.getD (t - 1) d) s.2)) ++ l.drop t)
theorem mid_ends (l : List Sp) (f t : Nat) (d : Sp) (hft : f < t) (ht : t ≤ l.length) : ∃ m, (l.take t).drop f = m ++ [l.getD (t - 1) d] ∧ (m = [] ∧ l.getD (t - 1) d = l.getD f d ∨ ∃ m', m = l.getD f d :: m') := by
  have e : l.take t = l.take (t - 1) ++ [l.getD (t - 1) d] := by
    have h1 : t - 1 < l.length := by omega
    have h2 : l.take (t - 1 + 1) = l.take (t - 1) ++ [l[t - 1]] := by rw [List.take_succ_eq_append_getElem h1]
    rw [show t - 1 + 1 = t by omega] at h2
    rw [h2]
    simp [List.getD, h1]
  rw [e, List.drop_append_of_le_length (by simp; omega)]
  refine ⟨(l.take (t - 1)).drop f, rfl, ?_⟩
  by_cases c : f = t - 1
  · left
    subst c
    exact ⟨by simp, rfl⟩
  · right
    have hf : f < (l.take (t - 1)).length := by simp; omega
    refine ⟨(l.take (t - 1)).drop (f + 1), ?_⟩
    rw [List.drop_eq_getElem_cons hf]
    congr 1
    have : f < l.length := by omega
    simp [List.getD, this]
theorem rem_spec {l : List Sp} {s : Sp} {f t : Nat} (d : Sp) (hl : Rn l) (hs : ROk s) (hft : f < t) (ht : t ≤ l.length) (h1 : ∀ x ∈ l.take f, x.2 ≤ s.1) (h2 : ∀ x ∈ l.drop f, s.1 < x.2) (h3 : ∀ x ∈ l.take t, x.1 < s.2) (h4 : ∀ x ∈ l.drop t, s.2 ≤ x.1) :
    Rn (remAt l s f t d) ∧ ∀ o, In (remAt l s f t d) o ↔ In l o ∧ ¬ (s.1 ≤ o ∧ o < s.2) := by
  have e := three l f t (by omega)
  obtain ⟨m, hm, hm'⟩ := mid_ends l f t d hft ht
  unfold remAt
  have hd : ∀ x ∈ (l.take t).drop f, x ∈ l.drop f := fun x hx => by
    have : (l.take t).drop f = (l.drop f).take (t - f) := List.drop_take
    rw [this] at hx
    exact List.mem_of_mem_take hx
  have hm2 : ∀ x ∈ (l.take t).drop f, s.1 < x.2 ∧ x.1 < s.2 := fun x hx => ⟨h2 x (hd x hx), h3 x (List.mem_of_mem_drop hx)⟩
  generalize l.take f = A at *
  generalize (l.take t).drop f = B at *
  generalize l.drop t = D at *
  generalize l.getD f d = u at *
  generalize l.getD (t - 1) d = v at *
  subst e
  obtain ⟨p1, p2⟩ := hl.of_append
  have hB : ∀ x ∈ B, ROk x := fun x hx => hl.ok x (by simp [hx])
  have hBr : Rn B := hl.left.right
  have hub : u ∈ B := by rw [hm]; rcases hm' with ⟨_, h⟩ | ⟨m', h⟩; rw [h]; simp; rw [h]; simp
  have hvb : v ∈ B := by rw [hm]; simp
  have hu := hB u hub; have hv := hB v hvb
  have hu2 := hm2 u hub; have hv2 := hm2 v hvb
  -- each of B begins at u, and ends at v, or is u or v
  have hfst : ∀ x ∈ B, x = u ∨ u.2 < x.1 := by
    intro x hx
    rw [hm] at hx hBr
    rcases hm' with ⟨h, h'⟩ | ⟨m', h⟩
    · subst h; simp at hx; left; rw [hx, h']
    · subst h
      rcases List.mem_append.1 hx with hx | hx
      · rcases List.mem_cons.1 hx with rfl | hx
        · exact .inl rfl
        · exact .inr (hBr.lt (List.mem_append.2 (.inl hx)))
      · exact .inr (hBr.lt (List.mem_append.2 (.inr hx)))
  have hlst : ∀ x ∈ B, x = v ∨ x.2 < v.1 := by
    intro x hx
    rw [hm] at hx hBr
    rcases List.mem_append.1 hx with hx | hx
    · exact .inr ((List.pairwise_append.1 hBr.up).2.2 x hx v (by simp))
    · simp at hx; exact .inl hx
  have hs0 := hs.1; have hs1 := hs.2.1; have hs2 := hs.2.2
  have hu0 := hu.1; have hu1 := hu.2.1; have hu3 := hu.2.2
  have hv0 := hv.1; have hv1 := hv.2.1; have hv3 := hv.2.2
  have eb : belowP u s.1 = betw u.1 (min u.2 s.1) := below_rok hu.ok _
  have ea : fromP v s.2 = betw (max v.1 s.2) v.2 := from_rok hv.ok _
  have ib : ∀ o, In (ne (belowP u s.1)) o ↔ u.1 ≤ o ∧ o < s.1 := fun o => by rw [eb, ne_in hu0 (by omega)]; omega
  have ia : ∀ o, In (ne (fromP v s.2)) o ↔ s.2 ≤ o ∧ o < v.2 := fun o => by rw [ea, ne_in (by omega) hv3]; omega
  have mb : ∀ y ∈ ne (belowP u s.1), y.1 = u.1 ∧ y.2 ≤ s.1 := fun y hy => by
    obtain ⟨rfl, h⟩ := ne_mem hy
    rw [eb] at h ⊢
    unfold betw at h ⊢
    by_cases c : min u.2 s.1 ≤ u.1
    · rw [if_pos c] at h; exact absurd h.2.1 (by simp)
    · rw [if_neg c]; exact ⟨rfl, by simp only; omega⟩
  have ma : ∀ y ∈ ne (fromP v s.2), s.2 ≤ y.1 ∧ y.2 = v.2 := fun y hy => by
    obtain ⟨rfl, h⟩ := ne_mem hy
    rw [ea] at h ⊢
    unfold betw at h ⊢
    by_cases c : v.2 ≤ max v.1 s.2
    · rw [if_pos c] at h; exact absurd h.2.1 (by simp)
    · rw [if_neg c]; exact ⟨by simp only; omega, rfl⟩
  have rm : Rn (ne (belowP u s.1) ++ ne (fromP v s.2)) := ⟨fun x hx => by
    rcases List.mem_append.1 hx with h | h
    · exact (ne_rn _).ok x h
    · exact (ne_rn _).ok x h, List.pairwise_append.2 ⟨(ne_rn _).up, (ne_rn _).up, fun x hx y hy => by have := mb x hx; have := ma y hy; omega⟩⟩
  refine ⟨Rn.mid hl.left.left rm hl.right (fun x hx y hy => ?_) (fun x hx y hy => ?_), fun o => ?_⟩
  · rcases List.mem_append.1 hy with hy | hy
    · rcases List.mem_append.1 hy with hy | hy
      · rw [(mb y hy).1]; exact p1 x hx u (List.mem_append.2 (.inl hub))
      · have := ma y hy
        have := p1 x hx v (List.mem_append.2 (.inl hvb))
        have := h1 x hx
        omega
    · exact p1 x hx y (List.mem_append.2 (.inr hy))
  · rcases List.mem_append.1 hx with hx | hx
    · have := mb x hx
      have := p2 u (List.mem_append.2 (.inr hub)) y hy
      have := h4 y hy
      omega
    · rw [(ma x hx).2]; exact p2 v (List.mem_append.2 (.inr hvb)) y hy
  · rw [In.append, In.append, In.append, In.append, In.append, ib, ia]
    constructor
    · rintro (h | (h | h) | h)
      · refine ⟨.inl (.inl h), ?_⟩
        obtain ⟨x, hx, a, b⟩ := h
        have := h1 x hx
        omega
      · exact ⟨.inl (.inr ⟨u, hub, by omega, by omega⟩), by omega⟩
      · exact ⟨.inl (.inr ⟨v, hvb, by omega, by omega⟩), by omega⟩
      · refine ⟨.inr h, ?_⟩
        obtain ⟨x, hx, a, b⟩ := h
        have := h4 x hx
        omega
    · rintro ⟨(h | h) | h, hn⟩
      · exact .inl h
      · right; left
        obtain ⟨x, hx, a, b⟩ := h
        have hx2 := hm2 x hx
        by_cases c : o < s.1
        · left
          rcases hfst x hx with rfl | q
          · omega
          · have := hfst; omega
        · right
          rcases hlst x hx with rfl | q
          · omega
          · omega
      · exact .inr (.inr h)
end Go.Proofs.YtohpaoleomcimaaGreat.rn
/-!   What the reference says of sets, as lists. Imports nothing of the program.
-/
namespace Go.Proofs.YtohpaoleomcimaaGreat.rn
open Go.RowKit aid sp
set_option linter.unusedVariables false

def bytesL (l : List Sp) : Int := (l.map lenI).sum
def withinL (l : List Sp) (s : Sp) : Int := (l.map (fun x => lenI (meetP x s))).sum
theorem bytes_append (l r : List Sp) : bytesL (l ++ r) = bytesL l + bytesL r := by unfold bytesL; simp
theorem within_append (l r : List Sp) (s : Sp) : withinL (l ++ r) s = withinL l s + withinL r s := by unfold withinL; simp
theorem bytes_cons (x : Sp) (l : List Sp) : bytesL (x :: l) = lenI x + bytesL l := by unfold bytesL; simp
theorem within_cons (x : Sp) (l : List Sp) (s : Sp) : withinL (x :: l) s = lenI (meetP x s) + withinL l s := by unfold withinL; simp
theorem bytes_nil : bytesL [] = 0 := rfl
theorem within_nil (s : Sp) : withinL [] s = 0 := rfl
theorem bytes_ne (x : Sp) : bytesL (ne x) = lenI x := by
  unfold ne
  by_cases c : lenI x = 0
  · rw [if_pos c, c]; rfl
  · rw [if_neg c, bytes_cons, bytes_nil]; omega
theorem bytes_bd : ∀ {l : List Sp} (c : Int), Rn l → c ≤ 4611686018427387904 → (∀ x ∈ l, c ≤ x.1) → 0 ≤ bytesL l ∧ bytesL l ≤ 4611686018427387904 - c := by
  intro l
  induction l with
  | nil => intro c h hc hx; rw [bytes_nil]; omega
  | cons x l ih =>
    intro c h hc hx
    have hk := h.head
    obtain ⟨k0, k1, k2⟩ := hk
    have := ih x.2 h.tail k2 (fun y hy => by have := h.lt hy; omega)
    have := hx x (by simp)
    rw [bytes_cons, len_rok h.head]
    omega
theorem Rn.bytes {l : List Sp} (h : Rn l) : 0 ≤ bytesL l ∧ bytesL l ≤ 4611686018427387904 := by
  have := bytes_bd 0 h (by omega) (fun x hx => (h.ok x hx).1)
  omega
theorem meet_le {x : Sp} (hx : ROk x) (s : Sp) : 0 ≤ lenI (meetP x s) ∧ lenI (meetP x s) ≤ lenI x := by
  refine ⟨(lenI_bd _).1, ?_⟩
  rw [len_rok hx]
  have hf := fit_ok s.1 s.2
  have e : meetP x s = betw (max x.1 (fitP s.1 s.2).1) (min x.2 (fitP s.1 s.2).2) := by unfold meetP; rw [fit_of hx.ok]
  rw [e]
  obtain ⟨x0, x1, x2⟩ := hx
  obtain ⟨f0, f1, f2⟩ := hf
  rw [betw_len (by omega) (by omega)]
  split <;> omega
theorem within_le : ∀ {l : List Sp} (s : Sp), (∀ x ∈ l, ROk x) → 0 ≤ withinL l s ∧ withinL l s ≤ bytesL l := by
  intro l
  induction l with
  | nil => intro s h; rw [within_nil, bytes_nil]; omega
  | cons x l ih =>
    intro s h
    have a := meet_le (h x (by simp)) s
    have b := ih s (fun y hy => h y (List.mem_cons_of_mem _ hy))
    rw [within_cons, bytes_cons]
    omega
theorem Rn.take {l : List Sp} (h : Rn l) (k : Nat) : Rn (l.take k) := by
  have := h
  rw [← List.take_append_drop k l] at this
  exact this.left
theorem Rn.drop {l : List Sp} (h : Rn l) (k : Nat) : Rn (l.drop k) := by
  have := h
  rw [← List.take_append_drop k l] at this
  exact this.right

/-! ### without -/
def woL (l : List Sp) (s : Sp) : List Sp := l.flatMap (fun x => ne (belowP x s.1) ++ ne (fromP x s.2))
def refWo (l : List Sp) (s : Sp) : List Sp := if lenI s = 0 then l else woL l s
theorem wo_cons (x : Sp) (l : List Sp) (s : Sp) : woL (x :: l) s = (ne (belowP x s.1) ++ ne (fromP x s.2)) ++ woL l s := by unfold woL; simp
theorem betw_mem {a b : Int} {y : Sp} (h : y ∈ ne (betw a b)) : y.1 = a ∧ y.2 = b ∧ a < b := by
  obtain ⟨e, k⟩ := ne_mem h
  clear h
  subst e
  unfold betw at k ⊢
  by_cases c : b ≤ a
  · rw [if_pos c] at k; exact absurd k.2.1 (by simp)
  · rw [if_neg c]; exact ⟨rfl, rfl, by omega⟩
theorem wo_one {x s : Sp} (hx : ROk x) (hs : ROk s) : Rn (ne (belowP x s.1) ++ ne (fromP x s.2)) ∧ (∀ y ∈ ne (belowP x s.1) ++ ne (fromP x s.2), x.1 ≤ y.1 ∧ y.2 ≤ x.2) ∧
    (∀ o, In (ne (belowP x s.1) ++ ne (fromP x s.2)) o ↔ (x.1 ≤ o ∧ o < x.2) ∧ ¬ (s.1 ≤ o ∧ o < s.2)) ∧ bytesL (ne (belowP x s.1) ++ ne (fromP x s.2)) = lenI x - lenI (meetP x s) := by
  rw [below_rok hx.ok, from_rok hx.ok]
  have hm := meet_len hx.ok hs.ok
  have hl := len_rok hx
  obtain ⟨x0, x1, x2⟩ := hx
  obtain ⟨s0, s1, s2⟩ := hs
  refine ⟨⟨fun y hy => ?_, List.pairwise_append.2 ⟨(ne_rn _).up, (ne_rn _).up, fun y hy z hz => ?_⟩⟩, fun y hy => ?_, fun o => ?_, ?_⟩
  · rcases List.mem_append.1 hy with h | h
    · exact (ne_rn _).ok y h
    · exact (ne_rn _).ok y h
  · have := betw_mem hy; have := betw_mem hz; omega
  · rcases List.mem_append.1 hy with h | h <;> (have := betw_mem h; omega)
  · rw [In.append, ne_in x0 (by omega), ne_in (by omega) x2]; omega
  · rw [bytes_append, bytes_ne, bytes_ne, betw_len x0 (by omega), betw_len (by omega) x2, hm, hl]
    split <;> split <;> split <;> omega
theorem wo_spec : ∀ {l : List Sp} {s : Sp}, Rn l → ROk s → Rn (woL l s) ∧ (∀ o, In (woL l s) o ↔ In l o ∧ ¬ (s.1 ≤ o ∧ o < s.2)) ∧ bytesL (woL l s) = bytesL l - withinL l s ∧ (∀ c, (∀ x ∈ l, c < x.1) → ∀ y ∈ woL l s, c < y.1) := by
  intro l
  induction l with
  | nil => intro s hl hs; exact ⟨Rn.nil, fun o => ⟨fun h => absurd h In.nil, fun h => absurd h.1 In.nil⟩, rfl, fun c _ y hy => by simp [woL] at hy⟩
  | cons x l ih =>
    intro s hl hs
    obtain ⟨i1, i2, i3, i4⟩ := ih hl.tail hs
    obtain ⟨o1, o2, o3, o4⟩ := wo_one hl.head hs
    rw [wo_cons]
    refine ⟨⟨fun y hy => ?_, List.pairwise_append.2 ⟨o1.up, i1.up, fun y hy z hz => ?_⟩⟩, fun o => ?_, ?_, fun c hc y hy => ?_⟩
    · rcases List.mem_append.1 hy with h | h
      · exact o1.ok y h
      · exact i1.ok y h
    · have := (o2 y hy).2
      have := i4 x.2 (fun u hu => hl.lt hu) z hz
      omega
    · rw [In.append, i2, o3, In.cons]
      constructor
      · rintro (⟨a, b⟩ | ⟨a, b⟩)
        · exact ⟨.inl a, b⟩
        · exact ⟨.inr a, b⟩
      · rintro ⟨a | a, b⟩
        · exact .inl ⟨a, b⟩
        · exact .inr ⟨a, b⟩
    · rw [bytes_append, i3, o4, bytes_cons, within_cons]; omega
    · rcases List.mem_append.1 hy with h | h
      · have := (o2 y h).1; have := hc x (by simp); omega
      · exact i4 c (fun u hu => hc u (List.mem_cons_of_mem _ hu)) y h

/-! ### with -/
def add3 (A B D : List Sp) (s : Sp) : List Sp := A ++ ([hullP (B ++ [s])] ++ D)
structure Cut3 (l : List Sp) (s : Sp) (A B D : List Sp) : Prop where
  eq : l = A ++ B ++ D
  a : ∀ x ∈ A, x.2 < s.1
  b : ∀ x ∈ B, s.1 ≤ x.2 ∧ x.1 ≤ s.2
  d : ∀ x ∈ D, s.2 < x.1
theorem cut3 (s : Sp) (hs : ROk s) : ∀ (l : List Sp), Rn l → ∃ A B D, Cut3 l s A B D := by
  intro l
  induction l with
  | nil => intro h; exact ⟨[], [], [], rfl, by simp, by simp, by simp⟩
  | cons x l ih =>
    intro h
    obtain ⟨A, B, D, h1, h2, h3, h4⟩ := ih h.tail
    have hx := h.head.2.1
    have hs1 := hs.2.1
    by_cases c1 : x.2 < s.1
    · exact ⟨x :: A, B, D, by rw [h1]; rfl, fun y hy => by rcases List.mem_cons.1 hy with rfl | hy; exact c1; exact h2 y hy, h3, h4⟩
    · have hA : A = [] := by
        cases A with
        | nil => rfl
        | cons y A =>
          have := h2 y (by simp)
          have := h.lt (y := y) (by rw [h1]; simp)
          have := (h.ok y (by rw [h1]; simp)).2.1
          omega
      subst hA
      by_cases c2 : x.1 ≤ s.2
      · exact ⟨[], x :: B, D, by rw [h1]; rfl, by simp, fun y hy => by rcases List.mem_cons.1 hy with rfl | hy; exact ⟨by omega, c2⟩; exact h3 y hy, h4⟩
      · have hB : B = [] := by
          cases B with
          | nil => rfl
          | cons y B =>
            have := h3 y (by simp)
            have := h.lt (y := y) (by rw [h1]; simp)
            omega
        subst hB
        exact ⟨[], [], x :: D, by rw [h1]; rfl, by simp, by simp, fun y hy => by rcases List.mem_cons.1 hy with rfl | hy; omega; exact h4 y hy⟩
theorem add3_spec {l A B D : List Sp} {s : Sp} (hl : Rn l) (hs : ROk s) (h : Cut3 l s A B D) :
    Rn (add3 A B D s) ∧ (∀ o, In (add3 A B D s) o ↔ In l o ∨ (s.1 ≤ o ∧ o < s.2)) ∧ (∀ x ∈ A, x.2 < (hullP (B ++ [s])).1) ∧ (∀ x ∈ D, (hullP (B ++ [s])).2 < x.1) ∧ ROk (hullP (B ++ [s])) ∧ (∀ x ∈ B ++ [s], (hullP (B ++ [s])).1 ≤ x.1 ∧ x.2 ≤ (hullP (B ++ [s])).2) := by
  obtain ⟨e, ha, hb, hd⟩ := h
  unfold add3
  subst e
  obtain ⟨p1, p2⟩ := hl.of_append
  have hB : ∀ x ∈ B, ROk x := fun x hx => hl.ok x (by simp [hx])
  obtain ⟨hk, hin⟩ := hull_in hB hs hb (m := B ++ [s]) (fun x => by simp)
  obtain ⟨q1, ⟨a, ham, q2⟩, ⟨b, hbm, q3⟩⟩ := hull_spec (B ++ [s]) (fun x hx => by rcases List.mem_append.1 hx with h | h; exact hB x h; simp at h; subst h; exact hs) (by simp)
  have hA : ∀ x ∈ A, x.2 < (hullP (B ++ [s])).1 := fun x hx => by
    rw [q2]
    rcases List.mem_append.1 ham with ham | ham
    · exact p1 x hx a (List.mem_append.2 (.inl ham))
    · simp at ham; subst ham; exact ha x hx
  have hD : ∀ x ∈ D, (hullP (B ++ [s])).2 < x.1 := fun y hy => by
    rw [q3]
    rcases List.mem_append.1 hbm with hbm | hbm
    · exact p2 b (List.mem_append.2 (.inr hbm)) y hy
    · simp at hbm; subst hbm; exact hd y hy
  refine ⟨Rn.mid hl.left.left ⟨fun x hx => by simp at hx; subst hx; exact hk, List.pairwise_singleton _ _⟩ hl.right (fun x hx y hy => ?_) (fun x hx y hy => ?_), fun o => ?_, hA, hD, hk, q1⟩
  · rcases List.mem_append.1 hy with hy | hy
    · simp at hy; subst hy; exact hA x hx
    · exact p1 x hx y (List.mem_append.2 (.inr hy))
  · simp at hx; subst hx; exact hD y hy
  · rw [In.append, In.append, In.append, In.append, In.one, hin]
    constructor
    · rintro (h | (h | h) | h)
      · exact .inl (.inl (.inl h))
      · exact .inl (.inl (.inr h))
      · exact .inr h
      · exact .inl (.inr h)
    · rintro (((h | h) | h) | h)
      · exact .inl h
      · exact .inr (.inl (.inl h))
      · exact .inr (.inr h)
      · exact .inr (.inl (.inr h))
/-- the reference's first loop -/
def allL (s : Sp) (l : List Sp) : Sp := l.foldl (fun a x => if touchB x s = true then hullP [a, x] else a) s
/-- the reference's second loop -/
def putS (a : Sp) (q : List Sp × Bool) (x : Sp) : List Sp × Bool := if touchB x a = true then q else if q.2 = false ∧ a.1 < x.1 then (q.1 ++ [a] ++ [x], true) else (q.1 ++ [x], q.2)
def putL (a : Sp) (l : List Sp) : List Sp × Bool := l.foldl (putS a) ([], false)
def endL (a : Sp) (q : List Sp × Bool) : List Sp := if q.2 = true then q.1 else q.1 ++ [a]
def refWi (l : List Sp) (s : Sp) : List Sp := if lenI s = 0 then l else endL (allL s l) (putL (allL s l) l)
theorem touch_rok {x s : Sp} (hx : ROk x) (hs : ROk s) : touchB x s = (decide (x.1 ≤ s.2) && decide (s.1 ≤ x.2)) := by
  unfold touchB
  have a := len_rok hx; have b := len_rok hs
  have c := hx.2.1; have d := hs.2.1
  rw [decide_eq_true (show lenI x ≠ 0 by omega), decide_eq_true (show lenI s ≠ 0 by omega)]
  simp
theorem hull_ne {l : List Sp} (h : ∀ x ∈ l, ROk x) (hne : l ≠ []) : lenI (hullP l) ≠ 0 ∧ ROk (hullP l) := by
  obtain ⟨a, ⟨b, hb, c⟩, ⟨d, hd, e⟩⟩ := hull_spec l h hne
  have k1 := h b hb; have k2 := h d hd
  have m := a b hb
  have : ROk (hullP l) := ⟨by have := k1.1; omega, by have := k1.2.1; omega, by have := k2.2.2; omega⟩
  exact ⟨by rw [len_rok this]; have := this.2.1; omega, this⟩
/-- a hull is told by who is in it -/
theorem hull_mem {l r : List Sp} (hl : ∀ x ∈ l, ROk x) (hne : l ≠ []) (h : ∀ x, x ∈ l ↔ x ∈ r) : hullP l = hullP r := by
  have hr : ∀ x ∈ r, ROk x := fun x hx => hl x ((h x).2 hx)
  have hrn : r ≠ [] := by
    intro e
    subst e
    cases l with
    | nil => exact hne rfl
    | cons x l => have := (h x).1 (by simp); simp at this
  obtain ⟨a1, ⟨x1, m1, e1⟩, ⟨y1, n1, f1⟩⟩ := hull_spec l hl hne
  obtain ⟨a2, ⟨x2, m2, e2⟩, ⟨y2, n2, f2⟩⟩ := hull_spec r hr hrn
  have p1 := a1 x2 ((h _).2 m2); have p2 := a2 x1 ((h _).1 m1)
  have p3 := a1 y2 ((h _).2 n2); have p4 := a2 y1 ((h _).1 n1)
  exact Prod.ext (by omega) (by omega)
theorem hull_two {l : List Sp} (hl : ∀ x ∈ l, ROk x) (hne : l ≠ []) {x : Sp} (hx : ROk x) : hullP [hullP l, x] = hullP (l ++ [x]) := by
  have hk := (hull_ne hl hne).2
  obtain ⟨a1, ⟨x1, m1, e1⟩, ⟨y1, n1, f1⟩⟩ := hull_spec l hl hne
  obtain ⟨a2, ⟨x2, m2, e2⟩, ⟨y2, n2, f2⟩⟩ := hull_spec [hullP l, x] (fun y hy => by simp at hy; rcases hy with rfl | rfl; exact hk; exact hx) (by simp)
  obtain ⟨a3, ⟨x3, m3, e3⟩, ⟨y3, n3, f3⟩⟩ := hull_spec (l ++ [x]) (fun y hy => by rcases List.mem_append.1 hy with h | h; exact hl y h; simp at h; subst h; exact hx) (by simp)
  have b1 := a2 (hullP l) (by simp)
  have b2 := a2 x (by simp)
  have c1 := a3 x1 (List.mem_append.2 (.inl m1))
  have c2 := a3 y1 (List.mem_append.2 (.inl n1))
  have c3 := a3 x (by simp)
  refine Prod.ext ?_ ?_
  · simp at m2
    rcases List.mem_append.1 m3 with m3 | m3
    · have := a1 x3 m3
      rcases m2 with rfl | rfl <;> omega
    · simp at m3
      subst m3
      rcases m2 with rfl | rfl <;> omega
  · simp at n2
    rcases List.mem_append.1 n3 with n3 | n3
    · have := a1 y3 n3
      rcases n2 with rfl | rfl <;> omega
    · simp at n3
      subst n3
      rcases n2 with rfl | rfl <;> omega
theorem all_eq {l A B D : List Sp} {s : Sp} (hl : Rn l) (hs : ROk s) (h : Cut3 l s A B D) : allL s l = hullP (B ++ [s]) := by
  obtain ⟨e, ha, hb, hd⟩ := h
  subst e
  unfold allL
  have hA : ∀ (A : List Sp) (q : Sp), (∀ x ∈ A, ROk x ∧ (x.2 < s.1 ∨ s.2 < x.1)) → A.foldl (fun a x => if touchB x s = true then hullP [a, x] else a) q = q := by
    intro A
    induction A with
    | nil => intro q _; rfl
    | cons x A ih =>
      intro q h
      obtain ⟨h1, h2⟩ := h x (by simp)
      have h3 := h1.2.1; have h4 := hs.2.1
      have ht : touchB x s = false := by rw [touch_rok h1 hs]; simp; omega
      rw [List.foldl_cons, if_neg (by rw [ht]; simp)]
      exact ih q (fun y hy => h y (List.mem_cons_of_mem _ hy))
  have hB : ∀ (B : List Sp) (q : List Sp), (∀ x ∈ q, ROk x) → q ≠ [] → (∀ x ∈ B, ROk x ∧ s.1 ≤ x.2 ∧ x.1 ≤ s.2) → B.foldl (fun a x => if touchB x s = true then hullP [a, x] else a) (hullP q) = hullP (q ++ B) := by
    intro B
    induction B with
    | nil => intro q _ _ _; rw [List.append_nil]; rfl
    | cons x B ih =>
      intro q hq hn h
      obtain ⟨h1, h2, h3⟩ := h x (by simp)
      have ht : touchB x s = true := by rw [touch_rok h1 hs]; simp; omega
      rw [List.foldl_cons, if_pos ht, hull_two hq hn h1, ih (q ++ [x]) (fun y hy => by rcases List.mem_append.1 hy with h | h; exact hq y h; simp at h; subst h; exact h1) (by simp) (fun y hy => h y (List.mem_cons_of_mem _ hy))]
      simp
  have hk : ∀ x ∈ A ++ B ++ D, ROk x := hl.ok
  have es : hullP [s] = s := by
    have : lenI s ≠ 0 := by rw [len_rok hs]; have := hs.2.1; omega
    show widerP (0, 0) s = s
    unfold widerP
    rw [if_neg this, if_pos rfl]
  rw [List.foldl_append, List.foldl_append, hA A s (fun x hx => ⟨hk x (by simp [hx]), .inl (ha x hx)⟩)]
  have := hB B [s] (by simpa using hs) (by simp) (fun x hx => ⟨hk x (by simp [hx]), hb x hx⟩)
  rw [es] at this
  rw [this, hA D _ (fun x hx => ⟨hk x (by simp [hx]), .inr (hd x hx)⟩)]
  exact hull_mem (fun x hx => by rcases List.mem_append.1 hx with h | h; (simp at h; subst h; exact hs); exact hk x (by simp [h])) (by simp) (fun x => by simp; exact Or.comm)
theorem wi_eq {l A B D : List Sp} {s : Sp} (hl : Rn l) (hs : ROk s) (h : Cut3 l s A B D) : refWi l s = add3 A B D s := by
  have hla : lenI s ≠ 0 := by rw [len_rok hs]; have := hs.2.1; omega
  obtain ⟨_, _, hA, hD, hk, hin⟩ := add3_spec hl hs h
  unfold refWi
  rw [if_neg hla, all_eq hl hs h]
  obtain ⟨e, ha, hb, hd⟩ := h
  subst e
  unfold add3
  generalize hullP (B ++ [s]) = H at *
  have hK : ∀ x ∈ A ++ B ++ D, ROk x := hl.ok
  have p1 : ∀ (A q : List Sp), (∀ x ∈ A, ROk x ∧ x.2 < H.1) → A.foldl (putS H) (q, false) = (q ++ A, false) := by
    intro A
    induction A with
    | nil => intro q _; rw [List.append_nil]; rfl
    | cons x A ih =>
      intro q h
      obtain ⟨h1, h2⟩ := h x (by simp)
      have h3 := h1.2.1; have h4 := hk.2.1
      have ht : touchB x H = false := by rw [touch_rok h1 hk]; simp; omega
      have : putS H (q, false) x = (q ++ [x], false) := by unfold putS; rw [if_neg (by rw [ht]; simp), if_neg (by simp; omega)]
      rw [List.foldl_cons, this, ih _ (fun y hy => h y (List.mem_cons_of_mem _ hy))]
      simp
  have p2 : ∀ (B : List Sp) (q : List Sp × Bool), (∀ x ∈ B, ROk x ∧ H.1 ≤ x.1 ∧ x.2 ≤ H.2) → B.foldl (putS H) q = q := by
    intro B
    induction B with
    | nil => intro q _; rfl
    | cons x B ih =>
      intro q h
      obtain ⟨h1, h2, h3⟩ := h x (by simp)
      have h4 := h1.2.1
      have ht : touchB x H = true := by rw [touch_rok h1 hk]; simp; omega
      have : putS H q x = q := by unfold putS; rw [if_pos ht]
      rw [List.foldl_cons, this]
      exact ih _ (fun y hy => h y (List.mem_cons_of_mem _ hy))
  have p3 : ∀ (D q : List Sp), (∀ x ∈ D, ROk x ∧ H.2 < x.1) → D.foldl (putS H) (q, true) = (q ++ D, true) := by
    intro D
    induction D with
    | nil => intro q _; rw [List.append_nil]; rfl
    | cons x D ih =>
      intro q h
      obtain ⟨h1, h2⟩ := h x (by simp)
      have h3 := h1.2.1; have h4 := hk.2.1
      have ht : touchB x H = false := by rw [touch_rok h1 hk]; simp; omega
      have : putS H (q, true) x = (q ++ [x], true) := by unfold putS; rw [if_neg (by rw [ht]; simp), if_neg (by simp)]
      rw [List.foldl_cons, this, ih _ (fun y hy => h y (List.mem_cons_of_mem _ hy))]
      simp
  unfold putL
  rw [List.foldl_append, List.foldl_append, p1 A [] (fun x hx => ⟨hK x (by simp [hx]), hA x hx⟩), p2 B _ (fun x hx => ⟨hK x (by simp [hx]), hin x (by simp [hx])⟩)]
  cases D with
  | nil => simp [endL]
  | cons x D =>
    have h1 := hK x (by simp)
    have h2 := hD x (by simp)
    have h3 := h1.2.1; have h4 := hk.2.1
    have ht : touchB x H = false := by rw [touch_rok h1 hk]; simp; omega
    have : putS H ([] ++ A, false) x = ([] ++ A ++ [H] ++ [x], true) := by unfold putS; rw [if_neg (by rw [ht]; simp), if_pos ⟨rfl, by omega⟩]
    rw [List.foldl_cons, this, p3 D _ (fun y hy => ⟨hK y (by simp [hy]), hD y (by simp [hy])⟩)]
    simp [endL]
theorem wi_spec {l : List Sp} {s : Sp} (hl : Rn l) (hs : ROk s) : Rn (refWi l s) ∧ (∀ o, In (refWi l s) o ↔ In l o ∨ (s.1 ≤ o ∧ o < s.2)) ∧ bytesL (refWi l s) - bytesL l = lenI s - withinL l s := by
  obtain ⟨A, B, D, h⟩ := cut3 s hs l hl
  obtain ⟨h1, h2, h3, h4, h5, h6⟩ := add3_spec hl hs h
  rw [wi_eq hl hs h]
  refine ⟨h1, h2, ?_⟩
  obtain ⟨w1, w2, w3, _⟩ := wo_spec hl hs
  obtain ⟨v1, v2, v3, _⟩ := wo_spec h1 hs
  have e : woL (add3 A B D s) s = woL l s := Rn.ext v1 w1 (fun o => by
    rw [v2, w2, h2]
    constructor
    · rintro ⟨a | a, b⟩
      · exact ⟨a, b⟩
      · exact absurd a b
    · rintro ⟨a, b⟩
      exact ⟨.inl a, b⟩)
  have hw : withinL (add3 A B D s) s = lenI s := by
    have z : ∀ (L : List Sp), (∀ x ∈ L, ROk x ∧ (x.2 ≤ s.1 ∨ s.2 ≤ x.1)) → withinL L s = 0 := by
      intro L
      induction L with
      | nil => intro _; rfl
      | cons x L ih =>
        intro h
        obtain ⟨a, b⟩ := h x (by simp)
        rw [within_cons, ih (fun y hy => h y (List.mem_cons_of_mem _ hy)), meet_len a.ok hs.ok, if_neg ?_]
        · omega
        · have := a.2.1; have := hs.2.1; omega
    have hh := h6 s (by simp)
    unfold add3
    rw [within_append, within_append, z A (fun x hx => ⟨h1.ok x (by unfold add3; simp [hx]), .inl (by have := h.a x hx; omega)⟩), z D (fun x hx => ⟨h1.ok x (by unfold add3; simp [hx]), .inr (by have := h.d x hx; omega)⟩),
      within_cons, within_nil, meet_len h5.ok hs.ok, len_rok hs, if_pos ?_]
    · omega
    · have := hs.2.1; omega
  rw [e] at v3
  omega
/-- what the code makes is what the reference makes -/
theorem add_at {l : List Sp} {s : Sp} {f t : Nat} (hl : Rn l) (hs : ROk s) (hft : f ≤ t) (h1 : ∀ x ∈ l.take f, x.2 < s.1) (h2 : ∀ x ∈ l.drop f, s.1 ≤ x.2) (h3 : ∀ x ∈ l.take t, x.1 ≤ s.2) (h4 : ∀ x ∈ l.drop t, s.2 < x.1) : addAt l s f t = refWi l s := by
  obtain ⟨a1, a2⟩ := add_spec hl hs hft h1 h2 h3 h4
  obtain ⟨b1, b2, _⟩ := wi_spec hl hs
  exact Rn.ext a1 b1 (fun o => by rw [a2, b2])
theorem rem_at {l : List Sp} {s : Sp} {f t : Nat} (d : Sp) (hl : Rn l) (hs : ROk s) (hft : f < t) (ht : t ≤ l.length) (h1 : ∀ x ∈ l.take f, x.2 ≤ s.1) (h2 : ∀ x ∈ l.drop f, s.1 < x.2) (h3 : ∀ x ∈ l.take t, x.1 < s.2) (h4 : ∀ x ∈ l.drop t, s.2 ≤ x.1) : remAt l s f t d = refWo l s := by
  obtain ⟨a1, a2⟩ := rem_spec d hl hs hft ht h1 h2 h3 h4
  obtain ⟨b1, b2, _⟩ := wo_spec hl hs
  unfold refWo
  rw [if_neg (by rw [len_rok hs]; have := hs.2.1; omega)]
  exact Rn.ext a1 b1 (fun o => by rw [a2, b2])
end Go.Proofs.YtohpaoleomcimaaGreat.rn
/-!   Parts, gaps, and what is asked of sets, as lists. Imports nothing of the program.
-/
namespace Go.Proofs.YtohpaoleomcimaaGreat.rn
open Go.RowKit aid sp
set_option linter.unusedVariables false

/-- where a search ends -/
structure Found (p : Nat → Bool) (n r : Nat) : Prop where
  le : r ≤ n
  lo : ∀ t, t < r → p t = false
  hi : ∀ t, r ≤ t → t < n → p t = true
theorem Found.take {q : Sp → Bool} {l : List Sp} {n r : Nat} (h : Found (fun i => q (l.getD i (0, 0))) n r) (hl : l.length = n) : (∀ x ∈ l.take r, q x = false) ∧ (∀ x ∈ l.drop r, q x = true) := by
  have hle := h.le
  constructor
  · intro x hx
    obtain ⟨i, hi, rfl⟩ := List.getElem_of_mem hx
    have hir : i < r := by simp at hi; omega
    have := h.lo i hir
    simp only [List.getElem_take]
    rwa [show l.getD i (0, 0) = l[i] from by simp [List.getD, show i < l.length by omega]] at this
  · intro x hx
    obtain ⟨i, hi, rfl⟩ := List.getElem_of_mem hx
    have hir : r + i < l.length := by simp at hi; omega
    have := h.hi (r + i) (by omega) (by omega)
    simp only [List.getElem_drop]
    rwa [show l.getD (r + i) (0, 0) = l[r + i] from by simp [List.getD, hir]] at this
theorem getD_mem {l : List Sp} {i : Nat} (h : i < l.length) : l.getD i (0, 0) ∈ l := by
  rw [show l.getD i (0, 0) = l[i] from by simp [List.getD, h]]
  exact List.getElem_mem _
theorem drop_getD {l : List Sp} {i : Nat} (h : i < l.length) : l.drop i = l.getD i (0, 0) :: l.drop (i + 1) := by
  rw [List.drop_eq_getElem_cons h]
  simp [List.getD, h]
theorem Rn.at {l : List Sp} (h : Rn l) {i j : Nat} (hij : i < j) (hj : j < l.length) : (l.getD i (0, 0)).2 < (l.getD j (0, 0)).1 := by
  have := (List.pairwise_iff_getElem.1 h.up) i j (by omega) hj hij
  rw [show l.getD i (0, 0) = l[i] from by simp [List.getD, show i < l.length by omega], show l.getD j (0, 0) = l[j] from by simp [List.getD, hj]]
  exact this

/-! ### parts -/
def partsL (l : List Sp) (s : Sp) : List Sp := l.flatMap (fun x => ne (meetP x s))
theorem parts_cons (x : Sp) (l : List Sp) (s : Sp) : partsL (x :: l) s = ne (meetP x s) ++ partsL l s := by unfold partsL; simp
theorem parts_append (l r : List Sp) (s : Sp) : partsL (l ++ r) s = partsL l s ++ partsL r s := by unfold partsL; simp
theorem meet_fit {x : Sp} (hx : ROk x) (s : Sp) : meetP x s = betw (max x.1 (fitP s.1 s.2).1) (min x.2 (fitP s.1 s.2).2) := by unfold meetP; rw [fit_of hx.ok]
theorem lenI_fit (s : Sp) : lenI s = (fitP s.1 s.2).2 - (fitP s.1 s.2).1 := rfl
theorem parts_spec : ∀ {l : List Sp} (s : Sp), Rn l → Rn (partsL l s) ∧ (∀ o, In (partsL l s) o ↔ In l o ∧ (fitP s.1 s.2).1 ≤ o ∧ o < (fitP s.1 s.2).2) ∧ bytesL (partsL l s) = withinL l s ∧
    (∀ y ∈ partsL l s, (fitP s.1 s.2).1 ≤ y.1 ∧ y.2 ≤ (fitP s.1 s.2).2) ∧ (∀ c, (∀ x ∈ l, c < x.1) → ∀ y ∈ partsL l s, c < y.1) := by
  intro l
  induction l with
  | nil => intro s hl; exact ⟨Rn.nil, fun o => ⟨fun h => absurd h In.nil, fun h => absurd h.1 In.nil⟩, rfl, fun y hy => by simp [partsL] at hy, fun c _ y hy => by simp [partsL] at hy⟩
  | cons x l ih =>
    intro s hl
    obtain ⟨i1, i2, i3, i4, i5⟩ := ih s hl.tail
    have hx := hl.head
    have hf := fit_ok s.1 s.2
    have hm := meet_fit hx s
    rw [parts_cons]
    generalize fitP s.1 s.2 = f at *
    obtain ⟨x0, x1, x2⟩ := hx
    obtain ⟨f0, f1, f2⟩ := hf
    rw [hm]
    refine ⟨⟨fun y hy => ?_, List.pairwise_append.2 ⟨(ne_rn _).up, i1.up, fun y hy z hz => ?_⟩⟩, fun o => ?_, ?_, fun y hy => ?_, fun c hc y hy => ?_⟩
    · rcases List.mem_append.1 hy with h | h
      · exact (ne_rn _).ok y h
      · exact i1.ok y h
    · have := betw_mem hy
      have := i5 x.2 (fun u hu => hl.lt hu) z hz
      omega
    · rw [In.append, i2, ne_in (by omega) (by omega), In.cons]
      constructor
      · rintro (a | ⟨a, b⟩)
        · exact ⟨.inl (by omega), by omega⟩
        · exact ⟨.inr a, b⟩
      · rintro ⟨a | a, b⟩
        · exact .inl (by omega)
        · exact .inr ⟨a, b⟩
    · rw [bytes_append, i3, bytes_ne, within_cons, hm]
    · rcases List.mem_append.1 hy with h | h
      · have := betw_mem h; omega
      · exact i4 y h
    · rcases List.mem_append.1 hy with h | h
      · have := betw_mem h; have := hc x (by simp); omega
      · exact i5 c (fun u hu => hc u (List.mem_cons_of_mem _ hu)) y h
theorem meet_none {x s : Sp} (hx : ROk x) (h : lenI s = 0) : lenI (meetP x s) = 0 := by
  rw [meet_fit hx, betw_len (by have := (fit_ok s.1 s.2).1; have := hx.1; omega) (by have := (fit_ok s.1 s.2).2.2; omega)]
  rw [lenI_fit] at h
  rw [if_neg (by omega)]
theorem parts_none {l : List Sp} {s : Sp} (hl : ∀ x ∈ l, ROk x) (h : lenI s = 0) : partsL l s = [] := by
  induction l with
  | nil => rfl
  | cons x l ih =>
    rw [parts_cons, ih (fun y hy => hl y (List.mem_cons_of_mem _ hy))]
    unfold ne
    rw [if_pos (meet_none (hl x (by simp)) h)]
    rfl
/-- what is told from a place on: up to the first that is empty -/
def tw (l : List Sp) (s : Sp) : List Sp := (l.map (fun x => meetP x s)).takeWhile (fun y => decide (lenI y ≠ 0))
theorem tw_cons (x : Sp) (l : List Sp) (s : Sp) : tw (x :: l) s = if lenI (meetP x s) = 0 then [] else meetP x s :: tw l s := by
  unfold tw
  rw [List.map_cons, List.takeWhile_cons]
  by_cases c : lenI (meetP x s) = 0
  · rw [if_pos c]; simp [c]
  · rw [if_neg c]; simp [c]
theorem parts_at {l : List Sp} {s : Sp} {r : Nat} (hl : Rn l) (h1 : ∀ x ∈ l.take r, x.2 ≤ s.1) (h2 : ∀ x ∈ l.drop r, s.1 < x.2) : tw (l.drop r) s = partsL l s := by
  by_cases hs : lenI s = 0
  · rw [parts_none hl.ok hs]
    have := (hl.drop r).ok
    cases hd : l.drop r with
    | nil => rfl
    | cons x t =>
      rw [hd] at this
      rw [tw_cons, if_pos (meet_none (this x (by simp)) hs)]
  · have hk := len_pos_ok hs
    have hlr := hl
    rw [← List.take_append_drop r l] at hlr
    conv => rhs; rw [← List.take_append_drop r l]
    rw [parts_append]
    have e : ∀ (L : List Sp), (∀ x ∈ L, ROk x ∧ (x.2 ≤ s.1 ∨ s.2 ≤ x.1)) → partsL L s = [] := by
      intro L
      induction L with
      | nil => intro _; rfl
      | cons x L ih =>
        intro h
        obtain ⟨a, b⟩ := h x (by simp)
        rw [parts_cons, ih (fun y hy => h y (List.mem_cons_of_mem _ hy))]
        unfold ne
        rw [if_pos ?_]
        · rfl
        · rw [meet_len a.ok hk.ok, if_neg]
          have := a.2.1; have := hk.2.1; omega
    rw [e (l.take r) (fun x hx => ⟨hlr.left.ok x hx, .inl (h1 x hx)⟩), List.nil_append]
    have key : ∀ (L : List Sp), Rn L → (∀ x ∈ L, s.1 < x.2) → tw L s = partsL L s := by
      intro L
      induction L with
      | nil => intro _ _; rfl
      | cons x L ih =>
        intro hL h
        have hx := hL.head
        have hx1 := h x (by simp)
        have hm := meet_len hx.ok hk.ok
        rw [tw_cons, parts_cons]
        unfold ne
        by_cases c : lenI (meetP x s) = 0
        · rw [if_pos c, if_pos c, List.nil_append]
          have hc : s.2 ≤ x.1 := by
            rw [hm] at c
            have := hx.2.1; have := hk.2.1
            split at c <;> omega
          exact (e L (fun y hy => ⟨hL.tail.ok y hy, .inr (by have := hL.lt hy; have := hx.2.1; omega)⟩)).symm
        · rw [if_neg c, if_neg c, ih hL.tail (fun y hy => h y (List.mem_cons_of_mem _ hy))]
          rfl
    exact key _ hlr.right h2
theorem parts_all {l : List Sp} (hl : Rn l) : partsL l (0, 4611686018427387904) = l := by
  obtain ⟨a, b, _⟩ := parts_spec (0, 4611686018427387904) hl
  refine Rn.ext a hl (fun o => ?_)
  rw [b]
  have e : fitP ((0, 4611686018427387904) : Sp).1 ((0, 4611686018427387904) : Sp).2 = (0, 4611686018427387904) := fit_self (by exact ⟨by simp, by simp, by simp⟩)
  rw [e]
  constructor
  · exact fun h => h.1
  · intro h
    refine ⟨h, ?_⟩
    obtain ⟨x, hx, p, q⟩ := h
    have := hl.ok x hx
    have h1 := this.1; have h2 := this.2.2
    simp only
    omega
theorem within_all {l : List Sp} (hl : Rn l) : withinL l (0, 4611686018427387904) = bytesL l := by
  rw [← (parts_spec (0, 4611686018427387904) hl).2.2.1, parts_all hl]

/-! ### gaps -/
def gapsC : List Sp → Sp → List Sp
  | [], rest => ne rest
  | p :: ps, rest => ne (belowP rest p.1) ++ gapsC ps (fromP rest p.2)
theorem gapsC_spec : ∀ (ps : List Sp) (rest : Sp), Rn ps → Ok rest → (∀ p ∈ ps, rest.1 ≤ p.1 ∧ p.2 ≤ rest.2) →
    Rn (gapsC ps rest) ∧ (∀ o, In (gapsC ps rest) o ↔ (rest.1 ≤ o ∧ o < rest.2) ∧ ¬ In ps o) ∧ bytesL (gapsC ps rest) = lenI rest - bytesL ps ∧ (∀ y ∈ gapsC ps rest, rest.1 ≤ y.1) := by
  intro ps
  induction ps with
  | nil =>
    intro rest _ hr _
    have hr1 := hr.2.1
    refine ⟨ne_rn _, fun o => ?_, ?_, fun y hy => ?_⟩
    · show In (ne rest) o ↔ _
      constructor
      · rintro ⟨x, hx, p⟩
        obtain ⟨rfl, _⟩ := ne_mem hx
        exact ⟨p, In.nil⟩
      · rintro ⟨p, _⟩
        unfold ne
        rw [if_neg (by rw [len_ok hr]; omega)]
        exact In.one.2 p
    · show bytesL (ne rest) = _
      rw [bytes_ne, bytes_nil]; omega
    · obtain ⟨rfl, _⟩ := ne_mem hy
      exact Int.le_refl _
  | cons p ps ih =>
    intro rest hp hr hin
    have hp0 := hp.head
    have hpr := hin p (by simp)
    obtain ⟨r0, r1, r2⟩ := hr
    obtain ⟨p0, p1, p2⟩ := hp0
    have eb : belowP rest p.1 = betw rest.1 p.1 := by rw [below_rok ⟨r0, r1, r2⟩, show min rest.2 p.1 = p.1 by omega]
    have ea : fromP rest p.2 = betw p.2 rest.2 := by rw [from_rok ⟨r0, r1, r2⟩, show max rest.1 p.2 = p.2 by omega]
    have hg : gapsC (p :: ps) rest = ne (betw rest.1 p.1) ++ gapsC ps (betw p.2 rest.2) := by rw [gapsC, eb, ea]
    rw [hg]
    have hlb : lenI (betw rest.1 p.1) = p.1 - rest.1 := by rw [betw_len r0 (by omega)]; split <;> omega
    have hlr := len_ok (x := rest) ⟨r0, r1, r2⟩
    have hlp := len_rok hp.head
    by_cases c : rest.2 ≤ p.2
    · have hps : ps = [] := by
        cases ps with
        | nil => rfl
        | cons q ps =>
          have := hp.lt (y := q) (by simp)
          have := hin q (by simp)
          have := (hp.ok q (by simp)).2.1
          omega
      subst hps
      have e0 : gapsC [] (betw p.2 rest.2) = [] := by
        show ne _ = []
        unfold ne
        rw [if_pos (by rw [betw_len (by omega) r2, if_neg (by omega)])]
      rw [e0, List.append_nil]
      refine ⟨ne_rn _, fun o => ?_, ?_, fun y hy => ?_⟩
      · rw [ne_in r0 (by omega), In.one]; omega
      · rw [bytes_ne, hlb, bytes_cons, bytes_nil, hlr, hlp]; omega
      · have := betw_mem hy; omega
    · have er : betw p.2 rest.2 = (p.2, rest.2) := by unfold betw; rw [if_neg (by omega)]
      rw [er]
      obtain ⟨i1, i2, i3, i4⟩ := ih (p.2, rest.2) hp.tail ⟨by simp only; omega, by simp only; omega, r2⟩ (fun q hq => ⟨by have := hp.lt hq; simp only; omega, (hin q (List.mem_cons_of_mem _ hq)).2⟩)
      simp only at i2 i3 i4
      refine ⟨⟨fun y hy => ?_, List.pairwise_append.2 ⟨(ne_rn _).up, i1.up, fun y hy z hz => ?_⟩⟩, fun o => ?_, ?_, fun y hy => ?_⟩
      · rcases List.mem_append.1 hy with h | h
        · exact (ne_rn _).ok y h
        · exact i1.ok y h
      · have := betw_mem hy; have := i4 z hz; omega
      · rw [In.append, i2, ne_in r0 (by omega), In.cons]
        constructor
        · rintro (a | ⟨a, b⟩)
          · exact ⟨by omega, fun q => by
              rcases q with q | q
              · omega
              · have := hp.in_tail q; omega⟩
          · exact ⟨by omega, fun q => by
              rcases q with q | q
              · omega
              · exact b q⟩
        · rintro ⟨a, b⟩
          by_cases d : o < p.1
          · exact .inl ⟨a.1, d⟩
          · right
            refine ⟨⟨?_, a.2⟩, fun q => b (.inr q)⟩
            by_cases e : o < p.2
            · exact absurd (Or.inl ⟨by omega, e⟩) b
            · omega
      · rw [bytes_append, i3, bytes_ne, hlb, bytes_cons, hlr, hlp]
        have : lenI (p.2, rest.2) = rest.2 - p.2 := len_ok ⟨by simp only; omega, by simp only; omega, r2⟩
        omega
      · rcases List.mem_append.1 hy with h | h
        · have := betw_mem h; omega
        · have := i4 y h; omega
def gapsL (l : List Sp) (s : Sp) : List Sp := if lenI s = 0 then [] else l.foldl refWo [s]
theorem foldWo_spec : ∀ (l : List Sp) (q : List Sp), (∀ x ∈ l, ROk x) → Rn q → Rn (l.foldl refWo q) ∧ ∀ o, In (l.foldl refWo q) o ↔ In q o ∧ ¬ In l o := by
  intro l
  induction l with
  | nil => intro q _ hq; exact ⟨hq, fun o => ⟨fun h => ⟨h, In.nil⟩, fun h => h.1⟩⟩
  | cons x l ih =>
    intro q h hq
    have hx := h x (by simp)
    obtain ⟨w1, w2, _⟩ := wo_spec hq hx
    have e : refWo q x = woL q x := by unfold refWo; rw [if_neg (by rw [len_rok hx]; have := hx.2.1; omega)]
    obtain ⟨i1, i2⟩ := ih (woL q x) (fun y hy => h y (List.mem_cons_of_mem _ hy)) w1
    rw [List.foldl_cons, e]
    refine ⟨i1, fun o => ?_⟩
    rw [i2, w2, In.cons]
    constructor
    · rintro ⟨⟨a, b⟩, c⟩
      exact ⟨a, fun q => by rcases q with q | q; exact b q; exact c q⟩
    · rintro ⟨a, b⟩
      exact ⟨⟨a, fun q => b (.inl q)⟩, fun q => b (.inr q)⟩
theorem gaps_all {l : List Sp} (s : Sp) (hl : Rn l) : Rn (gapsC (partsL l s) s) ∧ gapsC (partsL l s) s = gapsL l s ∧ (∀ o, In (gapsL l s) o ↔ ((fitP s.1 s.2).1 ≤ o ∧ o < (fitP s.1 s.2).2) ∧ ¬ In l o) ∧ bytesL (gapsL l s) = lenI s - withinL l s := by
  by_cases hs : lenI s = 0
  · have hp := parts_none hl.ok hs
    have e : gapsC (partsL l s) s = [] := by rw [hp]; show ne s = []; unfold ne; rw [if_pos hs]
    have e2 : gapsL l s = [] := by unfold gapsL; rw [if_pos hs]
    have hw : withinL l s = 0 := by rw [← (parts_spec s hl).2.2.1, hp]; rfl
    rw [e, e2]
    refine ⟨Rn.nil, rfl, fun o => ⟨fun h => absurd h In.nil, fun h => ?_⟩, by rw [hs, hw]; rfl⟩
    rw [lenI_fit] at hs
    omega
  · have hk := len_pos_ok hs
    have hf : fitP s.1 s.2 = s := fit_of hk.ok
    obtain ⟨a1, a2, a3, a4, _⟩ := parts_spec s hl
    rw [hf] at a2 a4
    obtain ⟨g1, g2, g3, _⟩ := gapsC_spec (partsL l s) s a1 hk.ok a4
    have es : Rn [s] := ⟨fun x hx => by simp at hx; subst hx; exact hk, List.pairwise_singleton _ _⟩
    obtain ⟨f1, f2⟩ := foldWo_spec l [s] hl.ok es
    have e : gapsC (partsL l s) s = gapsL l s := by
      unfold gapsL
      rw [if_neg hs]
      refine Rn.ext g1 f1 (fun o => ?_)
      rw [g2, f2, a2, In.one]
      constructor
      · rintro ⟨h, h'⟩
        exact ⟨h, fun q => h' ⟨q, h⟩⟩
      · rintro ⟨h, h'⟩
        exact ⟨h, fun q => h' q.1⟩
    refine ⟨g1, e, fun o => ?_, ?_⟩
    · rw [← e, g2, a2, hf]
      constructor
      · rintro ⟨h, h'⟩
        exact ⟨h, fun q => h' ⟨q, h⟩⟩
      · rintro ⟨h, h'⟩
        exact ⟨h, fun q => h' q.1⟩
    · rw [← e, g3, a3]

/-! ### what is asked -/
def runL (l : List Sp) (o : Int) : Sp := (l.find? (fun x => hasB x o)).getD (0, 0)
def nextL (l : List Sp) (o : Int) : Sp := ((l.map (fun x => fromP x o)).find? (fun x => decide (0 < lenI x))).getD (0, 0)
def atI (o : Int) : Int := min (max o 0) 4611686018427387904
def gapL (l : List Sp) (o : Int) : Int := if 0 < lenI (runL l (atI o)) then (runL l (atI o)).2 else atI o
theorem has_rok {x : Sp} (hx : ROk x) (o : Int) : hasB x o = true ↔ x.1 ≤ o ∧ o < x.2 := by
  unfold hasB
  rw [fit_of hx.ok]
  simp
theorem find_skip {p : Sp → Bool} {l r : List Sp} (h : ∀ x ∈ l, p x = false) : (l ++ r).find? p = r.find? p := by
  induction l with
  | nil => rfl
  | cons x l ih =>
    rw [List.cons_append, List.find?_cons, h x (by simp)]
    exact ih (fun y hy => h y (List.mem_cons_of_mem _ hy))
theorem find_none {p : Sp → Bool} {l : List Sp} (h : ∀ x ∈ l, p x = false) : l.find? p = none := by
  rw [List.find?_eq_none]
  intro x hx
  rw [h x hx]
  simp
theorem run_at {l : List Sp} {o : Int} {r : Nat} (hl : Rn l) (hr : r ≤ l.length) (h1 : ∀ x ∈ l.take r, x.2 ≤ o) (h2 : ∀ x ∈ l.drop r, o < x.2) :
    (r < l.length ∧ hasB (l.getD r (0, 0)) o = true ∧ runL l o = l.getD r (0, 0) ∧ 0 < lenI (runL l o)) ∨ ((r < l.length → hasB (l.getD r (0, 0)) o = false) ∧ runL l o = (0, 0)) := by
  have hskip : ∀ x ∈ l.take r, hasB x o = false := fun x hx => by
    have hk := (hl.take r).ok x hx
    have := h1 x hx
    cases hb : hasB x o with
    | false => rfl
    | true => have := (has_rok hk o).1 hb; omega
  have e : runL l o = ((l.drop r).find? (fun x => hasB x o)).getD (0, 0) := by
    unfold runL
    conv => lhs; rw [← List.take_append_drop r l]
    rw [find_skip hskip]
  by_cases c : r < l.length
  · have hd := drop_getD c
    have hk := hl.ok _ (getD_mem c)
    have hdr := hl.drop r
    rw [hd] at e hdr h2
    cases hb : hasB (l.getD r (0, 0)) o with
    | true =>
      left
      rw [List.find?_cons, hb] at e
      refine ⟨c, rfl, e, ?_⟩
      rw [e]
      show 0 < lenI (l.getD r (0, 0))
      rw [len_rok hk]
      have := hk.2.1; omega
    | false =>
      right
      refine ⟨fun _ => rfl, ?_⟩
      rw [e, List.find?_cons, hb, find_none (fun x hx => ?_)]
      · rfl
      · have h3 := h2 (l.getD r (0, 0)) (by simp)
        have h4 := hdr.lt hx
        cases hb' : hasB x o with
        | false => rfl
        | true =>
          have h5 := (has_rok (hdr.tail.ok x hx) o).1 hb'
          have : hasB (l.getD r (0, 0)) o = true := (has_rok hk o).2 (by omega)
          rw [hb] at this; cases this
  · right
    refine ⟨fun h => absurd h c, ?_⟩
    rw [e, List.drop_eq_nil_of_le (by omega)]
    rfl
theorem in_run {l : List Sp} (hl : Rn l) (o : Int) : 0 < lenI (runL l o) ↔ In l o := by
  unfold runL
  constructor
  · intro h
    cases hf : l.find? (fun x => hasB x o) with
    | none => rw [hf] at h; simp [lenI, fitP, mayB] at h
    | some x =>
      have hm := List.mem_of_find?_eq_some hf
      have hp := List.find?_some hf
      have := (has_rok (hl.ok x hm) o).1 hp
      exact ⟨x, hm, this⟩
  · rintro ⟨x, hx, hp⟩
    cases hf : l.find? (fun x => hasB x o) with
    | none =>
      have := List.find?_eq_none.1 hf x hx
      exact absurd ((has_rok (hl.ok x hx) o).2 hp) this
    | some y =>
      have hy := hl.ok y (List.mem_of_find?_eq_some hf)
      show 0 < lenI y
      rw [len_rok hy]
      have := hy.2.1; omega
theorem next_at {l : List Sp} {o : Int} {r : Nat} (hl : Rn l) (hr : r ≤ l.length) (h1 : ∀ x ∈ l.take r, x.2 ≤ o) (h2 : ∀ x ∈ l.drop r, o < x.2) :
    (r < l.length ∧ nextL l o = fromP (l.getD r (0, 0)) o ∧ 0 < lenI (nextL l o)) ∨ (¬ r < l.length ∧ nextL l o = (0, 0)) := by
  have hskip : ∀ x ∈ (l.take r).map (fun x => fromP x o), decide (0 < lenI x) = false := fun y hy => by
    obtain ⟨x, hx, rfl⟩ := List.mem_map.1 hy
    have hk := (hl.take r).ok x hx
    have := h1 x hx
    have hx0 := hk.1
    rw [from_rok hk.ok, betw_len (by omega) hk.2.2, if_neg (by omega)]
    rfl
  have e : nextL l o = (((l.drop r).map (fun x => fromP x o)).find? (fun x => decide (0 < lenI x))).getD (0, 0) := by
    unfold nextL
    conv => lhs; rw [← List.take_append_drop r l, List.map_append]
    rw [find_skip hskip]
  by_cases c : r < l.length
  · left
    have hd := drop_getD c
    have hk := hl.ok _ (getD_mem c)
    have hx0 := hk.1; have hx1 := hk.2.1
    rw [hd] at e h2
    have h3 := h2 (l.getD r (0, 0)) (by simp)
    have hp : 0 < lenI (fromP (l.getD r (0, 0)) o) := by
      rw [from_rok hk.ok, betw_len (by omega) hk.2.2, if_pos (by omega)]
      omega
    rw [List.map_cons, List.find?_cons, decide_eq_true hp] at e
    exact ⟨c, e, by rw [e]; exact hp⟩
  · right
    refine ⟨c, ?_⟩
    rw [e, List.drop_eq_nil_of_le (by omega)]
    rfl
theorem gap_def (l : List Sp) (o : Int) : gapL l o = if 0 < lenI (runL l (atI o)) then (runL l (atI o)).2 else atI o := by unfold gapL; rfl
theorem gap_nil (o : Int) : gapL [] o = atI o := by unfold gapL runL; simp [lenI, fitP, mayB]

/-! ### places -/
def plc (q : Sp → Bool) (l : List Sp) : Nat := (l.takeWhile (fun x => !q x)).length
theorem Found.one {p : Nat → Bool} {n r s : Nat} (h : Found p n r) (k : Found p n s) : r = s := by
  have h1 := h.le; have h2 := k.le
  rcases Nat.lt_trichotomy r s with c | c | c
  · have a := h.hi r (Nat.le_refl _) (by omega)
    have b := k.lo r c
    rw [a] at b; cases b
  · exact c
  · have a := k.hi s (Nat.le_refl _) (by omega)
    have b := h.lo s c
    rw [a] at b; cases b
theorem plc_parts (q : Sp → Bool) (l : List Sp) : (∀ x ∈ l.take (plc q l), q x = false) ∧ (∀ h : plc q l < l.length, q (l.getD (plc q l) (0, 0)) = true) ∧ plc q l ≤ l.length := by
  unfold plc
  induction l with
  | nil => exact ⟨by simp, by simp, by simp⟩
  | cons x l ih =>
    obtain ⟨i1, i2, i3⟩ := ih
    rw [List.takeWhile_cons]
    cases hq : q x with
    | true => simp [hq]
    | false =>
      simp only [Bool.not_false, if_true, List.length_cons]
      refine ⟨fun y hy => ?_, fun h => ?_, by omega⟩
      · rw [List.take_succ_cons] at hy
        rcases List.mem_cons.1 hy with rfl | hy
        · exact hq
        · exact i1 y hy
      · have := i2 (by omega)
        simpa [List.getD] using this
theorem plc_found {q : Sp → Bool} {l : List Sp} (hm : ∀ x y, x < y → y < l.length → q (l.getD x (0, 0)) = true → q (l.getD y (0, 0)) = true) : Found (fun i => q (l.getD i (0, 0))) l.length (plc q l) := by
  obtain ⟨h1, h2, h3⟩ := plc_parts q l
  refine ⟨h3, fun t ht => ?_, fun t h4 h5 => ?_⟩
  · refine h1 _ ?_
    have : t < (l.take (plc q l)).length := by rw [List.length_take]; omega
    have e : (l.take (plc q l))[t] = l.getD t (0, 0) := by simp [List.getD, show t < l.length by omega]
    rw [← e]
    exact List.getElem_mem _
  · have h6 := h2 (by omega)
    by_cases c : plc q l = t
    · show q (l.getD t (0, 0)) = true
      rw [← c]; exact h6
    · exact hm _ t (by omega) h5 h6
/-- the first that ends above -/
def bhd (l : List Sp) (o : Int) : Nat := plc (fun x => decide (o < x.2)) l
theorem Rn.mono2 {l : List Sp} (h : Rn l) (o : Int) : ∀ x y, x < y → y < l.length → decide (o < (l.getD x (0, 0)).2) = true → decide (o < (l.getD y (0, 0)).2) = true := by
  intro x y hxy hy h1
  have a := h.at hxy hy
  have b := (h.ok _ (getD_mem hy)).2.1
  simp only [decide_eq_true_eq] at h1 ⊢
  omega
theorem Rn.mono2' {l : List Sp} (h : Rn l) (o : Int) : ∀ x y, x < y → y < l.length → decide (o ≤ (l.getD x (0, 0)).2) = true → decide (o ≤ (l.getD y (0, 0)).2) = true := by
  intro x y hxy hy h1
  have a := h.at hxy hy
  have b := (h.ok _ (getD_mem hy)).2.1
  simp only [decide_eq_true_eq] at h1 ⊢
  omega
theorem Rn.mono1 {l : List Sp} (h : Rn l) (o : Int) : ∀ x y, x < y → y < l.length → decide (o < (l.getD x (0, 0)).1) = true → decide (o < (l.getD y (0, 0)).1) = true := by
  intro x y hxy hy h1
  have a := h.at hxy hy
  have b := (h.ok _ (getD_mem (l := l) (i := x) (by omega))).2.1
  simp only [decide_eq_true_eq] at h1 ⊢
  omega
theorem Rn.mono1' {l : List Sp} (h : Rn l) (o : Int) : ∀ x y, x < y → y < l.length → decide (o ≤ (l.getD x (0, 0)).1) = true → decide (o ≤ (l.getD y (0, 0)).1) = true := by
  intro x y hxy hy h1
  have a := h.at hxy hy
  have b := (h.ok _ (getD_mem (l := l) (i := x) (by omega))).2.1
  simp only [decide_eq_true_eq] at h1 ⊢
  omega
theorem bhd_spec {l : List Sp} (h : Rn l) (o : Int) : bhd l o ≤ l.length ∧ (∀ x ∈ l.take (bhd l o), x.2 ≤ o) ∧ (∀ x ∈ l.drop (bhd l o), o < x.2) := by
  have hf := plc_found (q := fun x => decide (o < x.2)) (l := l) (h.mono2 o)
  obtain ⟨h1, h2⟩ := Found.take (q := fun x => decide (o < x.2)) hf rfl
  exact ⟨hf.le, fun x hx => by have := h1 x hx; simp at this; exact this, fun x hx => by have := h2 x hx; simp at this; exact this⟩
end Go.Proofs.YtohpaoleomcimaaGreat.rn
