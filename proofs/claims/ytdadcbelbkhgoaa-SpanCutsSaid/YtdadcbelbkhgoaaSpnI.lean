/-
  Package span: Cut.
-/
import Derived.Test.YtdadcbelbkhgoaaSpnF
import Derived.Test.YtdadcbelbkhgoaaHeld
import Derived.Test.YtdadcbelbkhgoaaOwn
namespace Go.Proofs.Ytdadcbelbkhgoaa.sp
open Go.RowKit Go.Shelf aid mem rng
attribute [local go_sem] Oper.semAt_some
set_option linter.unusedVariables false

/-- an iterator over numbers is handed back -/
def SeqI (L : List Int) (A : Nat → Prop) (w : World) (e : Ending) (w' : World) : Prop :=
  ∃ lb, e = .returned (.func (.func 79) #[] lb) ∧ SeqOf Try.prog 79 lb intE L A w' ∧ Below w.heap.size w w'
theorem eg_ends (args : Array Value) (w : World) : (callFunc 79 args).run Try.prog w = .ok (.enter 79 args) w := by kernel_rfl
theorem eg_cut (args : Array Value) (w : World) : (callFunc 63 args).run Try.prog w = .ok (.enter 63 args) w := by kernel_rfl
theorem ends_any (s : Int × Int) (z : Int) (w : World) (hok : Ok s) (A : Nat → Prop) (hA : ∀ k, A k → k < w.heap.size) : Calls Try.prog 65 #[spV s, .int .i64 z] w (SeqI (endsL s z) A w) := by
  have b1 := bal (w := w) (.cells #[.int .i64 s.1, .int .i64 s.2] 24)
  have s1 := (sp_new w s).later (bal (.cells #[.int .i64 z] 3))
  have b2 := b1.alloc b1.size (.cells #[.int .i64 z] 3)
  have z1 : ((w.alloc (.cells #[.int .i64 s.1, .int .i64 s.2] 24)).alloc (.cells #[.int .i64 z] 3)).cell? ⟨w.heap.size + 1, 0, none⟩ = some (.int .i64 z) := by
    have := (cell_of_row _ _ 0 _ _ (0, 0) (heap_alloc_new (w.alloc (.cells #[.int .i64 s.1, .int .i64 s.2] 24)) (.cells #[.int .i64 z] 3)))
    simp at this ⊢
  have HF := Lib.hid (show SeqI (endsL s z) A w (.returned (.func (.func 79) #[] #[.pointer (some ⟨w.heap.size + 1, 0, none⟩), .pointer (some ⟨w.heap.size, 0, none⟩)])) _ from
    ⟨_, rfl, ends1_seq (A := A) s1 z1 hok (fun e => by have := hA _ e; omega) (fun e => by have := hA _ e; omega), b2⟩)
  clear b1 s1 b2 z1 hA
  go_enter Try.func65, Try.ntmps65
  go_wp2_with fail
  go_ret
  exact HF.out

/-- the pieces between places -/
def pcs : Int → List Int → List (Int × Int)
  | _, [] => []
  | f, t :: r => (f, t) :: pcs t r
theorem pcs_snoc : ∀ (l : List Int) (f x : Int), pcs f (l ++ [x]) = pcs f l ++ [(l.getLastD f, x)] := by
  intro l
  induction l with
  | nil => intro f x; rfl
  | cons a l ih =>
    intro f x
    rw [List.cons_append, pcs, ih a x, pcs, List.cons_append]
    congr 2
    cases l <;> rfl
theorem pcs_prefix : ∀ {a b : List Int} (f : Int), a <+: b → pcs f a <+: pcs f b := by
  rintro a b f ⟨t, rfl⟩
  induction a generalizing f with
  | nil => exact List.nil_prefix
  | cons x a ih =>
    rw [List.cons_append, pcs, pcs]
    exact List.cons_prefix_cons.2 ⟨rfl, ih x⟩
def cutsL (s : Int × Int) (z : Int) : List (Int × Int) := pcs (fitP s.1 s.2).1 (endsL (fitP s.1 s.2) z)
abbrev spE (x : Int × Int) : Array Value := #[spV x]

/-- what Cut's iterator knows between two rounds -/
def CutI (W : World) (C0 : Nat → Prop) (X0 F : Nat) (l : Nat) (J : List (Int × Int) → (Nat → Prop) → World → Prop) (f : Int) (pre : List Int) (C : Nat → Prop) (X : World) : Prop :=
  ∃ Co : Nat → Prop, C = (fun k => Co k ∨ k = F) ∧ J (pcs f pre) Co X ∧ It C0 W Co X ∧ ¬ Co F ∧ ¬ Co X0 ∧ X.heap[F]? = some (.cells #[.int .i64 (pre.getLastD f)] 3 (0, 0)) ∧ X.cell? ⟨X0, 0, none⟩ = some (.func (.yield l) #[] #[])
def CutX (F : Nat) (Jx : List (Int × Int) → (Nat → Prop) → World → Prop) (f : Int) (c : Code) (pre : List Int) (C : Nat → Prop) (X : World) : Prop :=
  c = .ret ∧ ∃ Co : Nat → Prop, C = (fun k => Co k ∨ k = F) ∧ Jx (pcs f pre) Co X

set_option maxRecDepth 100000 in
set_option maxHeartbeats 4000000 in
theorem cut1_seq {w : World} {s : Int × Int} {z : Int} {bz bs : Nat} {A : Nat → Prop} (hs : SpAt w bs s) (hz : w.cell? ⟨bz, 0, none⟩ = some (.int .i64 z)) (haz : ¬ A bz) (has : ¬ A bs) :
    SeqOf Try.prog 63 #[.pointer (some ⟨bs, 0, none⟩), .pointer (some ⟨bz, 0, none⟩)] spE (cutsL s z) A w := by
  intro l J Jx C0 W hW hC hJ hJx hY h0
  have sW := hs.later hW
  have c2 := ckc hW hz
  have hF := fit_any s
  have hok := fit_ok s.1 s.2
  have hcl : cutsL s z = pcs (fitP s.1 s.2).1 (endsL (fitP s.1 s.2) z) := rfl
  generalize fitP s.1 s.2 = p at *
  have HF := Lib.hid hF
  have HCL := Lib.hid hcl
  clear hF hcl
  show Calls Try.prog 63 #[.func (.yield l) #[] #[], .pointer (some ⟨bs, 0, none⟩), .pointer (some ⟨bz, 0, none⟩)] W _
  refine (callsIn_wide (n := 6)).1 ?_
  refine callsIn_of_wp_marks Try.func63 rfl trivial ?_ rfl
  simp only [Try.ntmps63, List.size_toArray, List.length_cons, List.length_nil, Nat.reduceAdd, Nat.reduceSub, Array.replicate_succ, Array.replicate_zero, List.push_toArray, List.append_toArray, List.nil_append, List.cons_append]
  have b1 : Below W.heap.size W (W.alloc (.cells #[.func (.yield l) #[] #[]] 66)) := (Below.refl _ _).alloc (Nat.le_refl _) _
  have s1 := sW.later b1
  have c21 := ckc b1 c2
  have y1 := heap_alloc_new W (.cells #[.func (.yield l) #[] #[]] 66)
  have d0 := s1.c0; have d1 := s1.c1
  have HY := Lib.hid hY
  have HJ := Lib.hid hJ
  have HJX := Lib.hid hJx
  have HC := Lib.hid hC
  have H0 := Lib.hid h0
  clear hY hJ hJx hC h0 hs hz c2 sW
  gi_wp2
  refine ⟨trivial, ?_⟩
  refine (callsIn_wide.2 (HF.out _)).mono ?_
  rintro e w2 ⟨rfl, h2⟩
  have rf := run_f0 p
  have b3 := al (w := w2) (.cells #[.int .i64 p.1] 3)
  have h23 := h2.trans (b3.mono h2.size)
  have s3 := s1.later h23
  have z3 := ckc h23 c21
  have y3 := (h23.block _ (lt_of_block y1)).trans y1
  have f3 := heap_alloc_new w2 (.cells #[.int .i64 p.1] 3)
  have hz2 : W.heap.size + 1 ≤ w2.heap.size := by have := h2.size; simpa using this
  have bW3 := b1.trans (h23.mono b1.size)
  clear d0 d1 s1 c21 y1 h2 h23 b3 b1
  have d0 := s3.c0; have d1 := s3.c1
  gi_wp2
  have hF0 : ∀ k, C0 k → k < W.heap.size := fun k hk => (HC.out k hk).2
  have hzF : w2.heap.size < (w2.alloc (.cells #[.int .i64 p.1] 3)).heap.size := by simp
  generalize w2.alloc (.cells #[.int .i64 p.1] 3) = W3 at *
  generalize w2.heap.size = F at *
  have d0d : W3.drew.cell? ⟨bs, 0, none⟩ = some (.int .i64 s.1) := d0
  have d1d : W3.drew.cell? ⟨bs, 1, none⟩ = some (.int .i64 s.2) := d1
  have z3d : W3.drew.cell? ⟨bz, 0, none⟩ = some (.int .i64 z) := z3
  have hmo : Try.prog.follows .mixedOrders = true := by kernel_rfl
  have hfn : ∀ f, Fence.wide.fn f := fun _ => trivial
  have hAA : ∀ k, (C0 k ∨ k = F) → k < W3.heap.size := fun k hk => by
    rcases hk with hk | rfl
    · have := hF0 k hk; omega
    · exact hzF
  have HAA := Lib.hid hAA
  have HEN := Lib.hid (fun (X : World) (hX : W3.heap.size ≤ X.heap.size) => ends_any p z X hok (fun k => C0 k ∨ k = F) (fun k hk => Nat.lt_of_lt_of_le (HAA.out k hk) hX))
  clear d0 d1 z3 hAA hF0
  refine Code.wpIn_mono NoPanic.imp ?_
  gi_region_with_o (first
    | (gi_at_call 64; refine (callsIn_wide.2 (HF.out _)).mono ?_; rintro e w4 ⟨rfl, h4⟩; have h4s : W3.heap.size ≤ w4.heap.size := h4.size; have z4 := ckc (w := W3.drew) h4 z3d)
    | (gi_at_call 65; refine (callsIn_wide.2 (HEN.out _ h4s)).mono ?_; rintro e w5 ⟨lb, rfl, hseq, h5⟩))
  all_goals
    simp only [NoPanic]
    gi_wp2
    have hb35 : Below W3.heap.size W3 w5 := (show Below W3.heap.size W3 w4 from ⟨h4.os, h4.tape, h4.output, h4.size, h4.block⟩).trans (h5.mono h4s)
    have hb5 := bW3.trans (hb35.mono bW3.size)
    have hF5 := (hb35.block _ (lt_of_block f3)).trans f3
    have hY5 : w5.cell? ⟨W.heap.size, 0, none⟩ = some (.func (.yield l) #[] #[]) := (cell_of_row w5 W.heap.size 0 _ _ (0, 0) ((hb35.block _ (lt_of_block y3)).trans y3)).trans rfl
    have hWF : W.heap.size + 1 ≤ F := hz2
    have hsF := lt_of_block hF5
    have hs5 := hb5.size
    have HSEQ := Lib.hid hseq
    clear hseq h4 h5 z4 h4s hb35 d0d d1d z3d y3 f3 bW3 HEN HAA s3 hzF
    refine wpIn_rangeF (fun (x : Int) (t : Array Value) => (t.setIfInBounds 13 (.int .i64 x)).setIfInBounds 5 (.int .i64 x)) (gf := 79) (lb := lb) (L := endsL p z) (A := fun k => C0 k ∨ k = F) (w0 := w5) (encs := intE) rfl eg_ends HSEQ.out (Below.refl _ _) (fun _ => rfl)
      (CutI W C0 W.heap.size F l J p.1) (CutX F Jx p.1) (fun k => C0 k ∨ k = F) ?hc0 ?hI ?hIx ?h0 ?assign ?body ?done ?stop
    case hc0 =>
      intro k hk
      refine ⟨.inl hk, ?_⟩
      rcases hk with hk | rfl
      · have := (HC.out k hk).2; omega
      · exact hsF
    case hI =>
      rintro pre C X Y ⟨Co, rfl, hj, hI, nF, nX, hf, hy⟩ hz hs
      have hs' : rng.Steps (fun k => k < W.heap.size ∨ Co k) X Y := hs.mono (fun k _ hk => by
        rcases hk with hk | hk
        · exact .inl (by omega)
        · exact .inr (.inl hk))
      exact ⟨Co, rfl, HJ.out _ _ _ _ hj (by omega) hs', hI.own hs', nF, nX, hs.heap (.inr (.inr rfl)) hf, hs.cell (.inl (by simp only; omega)) hy⟩
    case hIx =>
      rintro c pre C X Y ⟨rfl, Co, rfl, hj⟩ hz hs
      have hs' : rng.Steps (fun k => k < W.heap.size ∨ Co k) X Y := hs.mono (fun k _ hk => by
        rcases hk with hk | hk
        · exact .inl (by omega)
        · exact .inr (.inl hk))
      exact ⟨rfl, Co, rfl, HJX.out _ _ _ _ hj (by omega) hs'⟩
    case h0 =>
      have ss := Steps.of_below hb5 (fun k => k < W.heap.size ∨ C0 k)
      exact ⟨C0, rfl, HJ.out _ _ _ _ H0.out (Nat.le_refl _) ss, (It.refl (fun k hk => (HC.out k hk).2)).own ss, fun e => by have := (HC.out _ e).2; omega, fun e => by have := (HC.out _ e).2; omega, hF5, hY5⟩
    case assign =>
      intro l' x X K hK
      gi_wp2
      exact hK
    case body =>
      rintro l' pre x C X ⟨Co, rfl, hj, hI, nF, nX, hf, hy⟩ hp hcb hz
      have hpp := pcs_prefix p.1 hp
      rw [pcs_snoc, ← HCL.out] at hpp
      have hyd := HY.out _ _ Co X hj hI.kept.size hpp
      have hsn := pcs_snoc pre p.1 x
      have hla : (pre ++ [x]).getLastD p.1 = x := by simp
      generalize pre.getLastD p.1 = f at *
      obtain ⟨fn, tmps, assign, body, hyy, hYY⟩ := hyd.inRound l' 3
      have e0 : X.cell? ⟨W.heap.size, 0, none⟩ = some (.func (.yield l) #[] #[]) := hy
      have e1 : X.cell? ⟨F, 0, none⟩ = some (.int .i64 f) := (cell_of_row X F 0 _ _ (0, 0) hf).trans rfl
      have hFX := lt_of_block hf
      have hXX : W.heap.size < X.heap.size := World.block_lt_of_cell? X _ hy
      have HSN := Lib.hid hsn
      have HLA := Lib.hid hla
      have HFF := Lib.hid hf
      have HI := Lib.hid hI
      clear hyd hpp hp hcb hj hsn hla hf hI
      gi_wp2
      refine hYY.mono ?_
      clear hyy hYY e0 e1
      rintro e w3 ⟨C2, hr2, ⟨rfl, hJ2⟩ | ⟨rfl, hJ2⟩⟩
      · have n2F : ¬ C2 F := fun e => by rcases hr2.2 _ e with a | a; exact nF a; omega
        have n2X : ¬ C2 W.heap.size := fun e => by rcases hr2.2 _ e with a | a; exact nX a; omega
        have hf3 := hr2.1.heap nF HFF.out
        have e2 : w3.cell? ⟨F, 0, none⟩ = some (.int .i64 f) := (cell_of_row w3 F 0 _ _ (0, 0) hf3).trans rfl
        have e3 : w3.frozen? ⟨F, 0, none⟩ = false := by simp [World.frozen?, hf3]
        have hy3 := hr2.1.cell (p := ⟨W.heap.size, 0, none⟩) nX hy
        have hI2 := HI.out.round hr2
        have sF : rng.Steps (fun k => k < W.heap.size ∨ C2 k) w3 (w3.setCell ⟨F, 0, none⟩ (.int .i64 x)) := rng.Steps.setCell _ _ _ _ (by rintro (e | e); simp only at e; omega; exact n2F e)
        have sG : rng.Steps (fun k => ¬ (Co k ∨ k = F)) w3 (w3.setCell ⟨F, 0, none⟩ (.int .i64 x)) := rng.Steps.setCell _ _ _ _ (fun e => e (.inr rfl))
        have hyF : (w3.setCell ⟨F, 0, none⟩ (.int .i64 x)).cell? ⟨W.heap.size, 0, none⟩ = some (.func (.yield l) #[] #[]) := (set_other (by intro e; injection e with e _; omega)).trans hy3
        have HN := Lib.hid (show ∃ C', Round (fun k => Co k ∨ k = F) X C' (w3.setCell ⟨F, 0, none⟩ (.int .i64 x)) ∧ CutI W C0 W.heap.size F l J p.1 (pre ++ [x]) C' (w3.setCell ⟨F, 0, none⟩ (.int .i64 x)) from
          ⟨fun k => C2 k ∨ k = F, ⟨(hr2.1.mono (fun k _ hk e => hk (.inl e))).trans sG, fun k hk => by
            rcases hk with hk | rfl
            · rcases hr2.2 k hk with a | a
              · exact .inl (.inl a)
              · exact .inr ⟨a.1, by simpa using a.2⟩
            · exact .inl (.inr rfl)⟩, C2, rfl, by rw [HSN.out]; exact HJ.out _ _ _ _ hJ2 hI2.kept.size sF, hI2.own sF, n2F, n2X, by rw [HLA.out]; exact (heap_setCell_same w3 F 0 _ _ _ hf3).trans rfl, hyF⟩)
        clear hr2 hJ2 hI2 sF sG hyF hy3 hf3 hy
        gi_wp2
        exact HN.out
      · have HN := Lib.hid (show ∃ C', Round (fun k => Co k ∨ k = F) X C' w3 ∧ CutX F Jx p.1 .ret (pre ++ [x]) C' w3 from
          ⟨fun k => C2 k ∨ k = F, ⟨hr2.1.mono (fun k _ hk e => hk (.inl e)), fun k hk => by
            rcases hk with hk | rfl
            · rcases hr2.2 k hk with a | a
              · exact .inl (.inl a)
              · exact .inr a
            · exact .inl (.inr rfl)⟩, rfl, C2, rfl, by rw [HSN.out]; exact hJ2⟩)
        clear hr2 hJ2 hy
        gi_wp2
        exact HN.out
    case done =>
      rintro D C X hD hCD ⟨Co, rfl, hj, hI, nF, nX, hf, hy⟩ hK
      have hfin := HJ.out _ _ _ (X.putObj D (.deferred none)) hj hI.kept.size (rng.Steps.putObj _ _ _ _ (by rintro (e | e); omega; exact hCD (.inl e)))
      rw [← HCL.out] at hfin
      have HF := Lib.hid hfin
      clear hj hI hf hy hfin
      gi_wp2
      refine ⟨by simp, .inl ⟨_, _, rfl, run_takeDeferred hK, ?_⟩⟩
      exact ⟨_, results_none rfl _ _ _, ⟨_, rfl⟩, Co, .inl HF.out⟩
    case stop =>
      rintro D c pre C X hD hCD ⟨rfl, Co, rfl, hj⟩ hK
      have hX : W.heap.size ≤ X.heap.size := by have := lt_of_block hK; omega
      have hfin := HJX.out _ _ _ (X.putObj D (.deferred none)) hj hX (rng.Steps.putObj _ _ _ _ (by rintro (e | e); omega; exact hCD (.inl e)))
      have HF := Lib.hid hfin
      clear hj hfin
      gi_wp2
      refine ⟨by simp, .inl ⟨_, _, rfl, run_takeDeferred hK, ?_⟩⟩
      exact ⟨_, results_none rfl _ _ _, ⟨_, rfl⟩, Co, .inr ⟨_, HF.out⟩⟩

/-- an iterator over spans is handed back -/
def SeqS (L : List (Int × Int)) (A : Nat → Prop) (w : World) (e : Ending) (w' : World) : Prop :=
  ∃ lb, e = .returned (.func (.func 63) #[] lb) ∧ SeqOf Try.prog 63 lb spE L A w' ∧ Below w.heap.size w w'
theorem cut_any (s : Int × Int) (z : Int) (w : World) (A : Nat → Prop) (hA : ∀ k, A k → k < w.heap.size) : Calls Try.prog 39 #[spV s, .int .i64 z] w (SeqS (cutsL s z) A w) := by
  have b1 := bal (w := w) (.cells #[.int .i64 s.1, .int .i64 s.2] 24)
  have s1 := (sp_new w s).later (bal (.cells #[.int .i64 z] 3))
  have b2 := b1.alloc b1.size (.cells #[.int .i64 z] 3)
  have z1 : ((w.alloc (.cells #[.int .i64 s.1, .int .i64 s.2] 24)).alloc (.cells #[.int .i64 z] 3)).cell? ⟨w.heap.size + 1, 0, none⟩ = some (.int .i64 z) := by
    have := (cell_of_row _ _ 0 _ _ (0, 0) (heap_alloc_new (w.alloc (.cells #[.int .i64 s.1, .int .i64 s.2] 24)) (.cells #[.int .i64 z] 3)))
    simp at this ⊢
  have HF := Lib.hid (show SeqS (cutsL s z) A w (.returned (.func (.func 63) #[] #[.pointer (some ⟨w.heap.size, 0, none⟩), .pointer (some ⟨w.heap.size + 1, 0, none⟩)])) _ from
    ⟨_, rfl, cut1_seq (A := A) s1 z1 (fun e => by have := hA _ e; omega) (fun e => by have := hA _ e; omega), b2⟩)
  clear b1 s1 b2 z1 hA
  go_enter Try.func39, Try.ntmps39
  go_wp2_with fail
  go_ret
  exact HF.out

/-! ### What the pieces are (numbers) -/
/-- a piece from a place on, within a span, of a size -/
def Piece (t z a : Int) (x : Int × Int) : Prop := x.1 = a ∧ x.1 < x.2 ∧ x.2 ≤ t ∧ (x.2 = t ∨ x.2 - x.1 = z) ∧ x.2 - x.1 ≤ z
theorem ends_piece : ∀ (n : Nat) (a t z : Int), 1 ≤ z → (t - a).toNat ≤ n → ∀ (pre : List Int) (x : Int), pre ++ [x] <+: endsE a t z → Piece t z (pre.getLastD a) (pre.getLastD a, x) := by
  intro n
  induction n with
  | zero =>
    intro a t z hz h pre x hp
    rw [endsE_nil (by omega)] at hp
    have := hp.length_le
    simp at this
  | succ n ih =>
    intro a t z hz h pre x hp
    by_cases hlt : a < t
    · rw [endsE_step hlt hz] at hp
      cases pre with
      | nil =>
        obtain ⟨hx, _⟩ := List.cons_prefix_cons.1 hp
        subst hx
        refine ⟨rfl, by simp only [List.getLastD_nil]; omega, by omega, ?_, ?_⟩
        · simp only [List.getLastD_nil]; omega
        · simp only [List.getLastD_nil]; omega
      | cons y pre =>
        rw [List.cons_append] at hp
        obtain ⟨hy, hp'⟩ := List.cons_prefix_cons.1 hp
        subst hy
        have := ih _ t z hz (by omega) pre x hp'
        have e : (((a + min z (t - a)) :: pre).getLastD a) = pre.getLastD (a + min z (t - a)) := by cases pre <;> rfl
        rw [e]
        exact this
    · rw [endsE_nil (by omega)] at hp
      have := hp.length_le
      simp at this
theorem ends_last : ∀ (n : Nat) (a t z : Int), 1 ≤ z → a ≤ t → (t - a).toNat ≤ n → (endsE a t z).getLastD a = t := by
  intro n
  induction n with
  | zero =>
    intro a t z hz h0 h
    rw [endsE_nil (by omega)]
    simp only [List.getLastD_nil]; omega
  | succ n ih =>
    intro a t z hz h0 h
    by_cases hlt : a < t
    · rw [endsE_step hlt hz]
      have e : (((a + min z (t - a)) :: endsE (a + min z (t - a)) t z).getLastD a) = (endsE (a + min z (t - a)) t z).getLastD (a + min z (t - a)) := by cases endsE (a + min z (t - a)) t z <;> rfl
      rw [e]
      exact ih _ t z hz (by omega) (by omega)
    · rw [endsE_nil (by omega)]
      simp only [List.getLastD_nil]; omega
end Go.Proofs.Ytdadcbelbkhgoaa.sp
