/-
  Package runs: Gaps.
-/
import Derived.Test.YtgjkbejlfclpoaaRunQ
import Derived.Test.YtgjkbejlfclpoaaRngP
namespace Go.Proofs.Ytgjkbejlfclpoaa.rn
open Go.RowKit Go.Shelf aid mem rng sp
attribute [local go_sem] Oper.semAt_some
set_option linter.unusedVariables false
set_option linter.unusedSimpArgs false

/-- what is left of a span behind some parts, and the gaps ahead of that -/
def restA (pre : List Sp) (s : Sp) : Sp := pre.foldl (fun r p => fromP r p.2) s
def doneL : List Sp → Sp → List Sp
  | [], _ => []
  | p :: ps, r => ne (belowP r p.1) ++ doneL ps (fromP r p.2)
theorem restA_snoc (pre : List Sp) (s p : Sp) : restA (pre ++ [p]) s = fromP (restA pre s) p.2 := by unfold restA; rw [List.foldl_append]; rfl
theorem doneL_snoc : ∀ (pre : List Sp) (s p : Sp), doneL (pre ++ [p]) s = doneL pre s ++ ne (belowP (restA pre s) p.1) := by
  intro pre
  induction pre with
  | nil => intro s p; simp [doneL, restA]
  | cons x pre ih =>
    intro s p
    rw [List.cons_append, doneL, ih, doneL, List.append_assoc]
    rfl
theorem gaps_cut : ∀ (pre post : List Sp) (s : Sp), gapsC (pre ++ post) s = doneL pre s ++ gapsC post (restA pre s) := by
  intro pre
  induction pre with
  | nil => intro post s; rfl
  | cons x pre ih =>
    intro post s
    rw [List.cons_append, gapsC, ih, doneL, List.append_assoc]
    rfl
/-- what Gaps' iterator knows between two rounds -/
structure GIc (W : World) (C0 : Nat → Prop) (F l : Nat) (s : Sp) (J : List Sp → (Nat → Prop) → World → Prop) (pre : List Sp) (Co C : Nat → Prop) (X : World) : Prop where
  sub : ∀ k, Co k → C k
  cF : C F
  j : J (doneL pre s) Co X
  it : It C0 W Co X
  nF : ¬ Co F
  nX : ¬ Co W.heap.size
  rest : SpAt X F (restA pre s)
  yd : X.cell? ⟨W.heap.size, 0, none⟩ = some (.func (.yield l) #[] #[])
def GI (W : World) (C0 : Nat → Prop) (F l : Nat) (s : Sp) (J : List Sp → (Nat → Prop) → World → Prop) (pre : List Sp) (C : Nat → Prop) (X : World) : Prop := ∃ Co, GIc W C0 F l s J pre Co C X
def GX (W : World) (Jx : List Sp → (Nat → Prop) → World → Prop) (c : Code) (pre : List Sp) (C : Nat → Prop) (X : World) : Prop := c = .ret ∧ ∃ Co told, (∀ k, Co k → C k) ∧ Jx told Co X
/-- a part's box beside it -/
def GB (W : World) (C0 : Nat → Prop) (F l : Nat) (s : Sp) (J : List Sp → (Nat → Prop) → World → Prop) (D : Nat) (pre : List Sp) (b : Nat) (y : Sp) (C : Nat → Prop) (X : World) : Prop :=
  ∃ Co, GIc W C0 F l s J pre Co C X ∧ SpAt X b y ∧ C b ∧ ¬ Co b ∧ D ≤ b
theorem gic_own {W : World} {C0 : Nat → Prop} {F l D : Nat} {s : Sp} {J : List Sp → (Nat → Prop) → World → Prop} {pre : List Sp} {Co C : Nat → Prop} {X Y : World} (hJ : Bears W.heap.size J) (hD : W.heap.size < D) (h : GIc W C0 F l s J pre Co C X) (hs : rng.Steps (fun k => k < D ∨ C k) X Y) : GIc W C0 F l s J pre Co C Y := by
  have hs' : rng.Steps (fun k => k < W.heap.size ∨ Co k) X Y := hs.mono (fun k _ hk => by
    rcases hk with hk | hk
    · exact .inl (by omega)
    · exact .inr (h.sub k hk))
  exact ⟨h.sub, h.cF, hJ _ _ _ _ h.j h.it.kept.size hs', h.it.own hs', h.nF, h.nX, hs.heap (.inr h.cF) h.rest, hs.cell (.inl (by simpa using hD)) h.yd⟩
theorem gaps_prefix {L pre : List Sp} {y s : Sp} (hp : pre ++ [y] <+: L) : doneL pre s ++ ne (belowP (restA pre s) y.1) <+: gapsC L s := by
  obtain ⟨t, rfl⟩ := hp
  rw [gaps_cut, doneL_snoc]
  exact List.prefix_append _ _
theorem gi_end {W : World} {C0 : Nat → Prop} {F l' : Nat} {s y r2 : Sp} {J : List Sp → (Nat → Prop) → World → Prop} {pre told : List Sp} {Co Co2 C : Nat → Prop} {X V V1 : World} (hJ : Bears W.heap.size J) (hWF : W.heap.size < F) (hI : GIc W C0 F l' s J pre Co C X) (hFX : F < X.heap.size) (hWX : W.heap.size ≤ X.heap.size)
    (e2 : restA (pre ++ [y]) s = r2) (e3 : doneL (pre ++ [y]) s = told) (hxv : Round C X (fun k => C k ∨ Co2 k) V) (hj : J told Co2 V) (hit : It C0 W Co2 V) (nF : ¬ Co2 F) (nX : ¬ Co2 W.heap.size) {q : Sp} (hrF : SpAt V F q) (hyd : V.cell? ⟨W.heap.size, 0, none⟩ = some (.func (.yield l') #[] #[]))
    (h1 : Below V.heap.size V V1) :
    ∃ C', Round C X C' ((V1.setCell ⟨F, 0, none⟩ (.int .i64 r2.1)).setCell ⟨F, 1, none⟩ (.int .i64 r2.2)) ∧ GI W C0 F l' s J (pre ++ [y]) C' ((V1.setCell ⟨F, 0, none⟩ (.int .i64 r2.1)).setCell ⟨F, 1, none⟩ (.int .i64 r2.2)) := by
  have hF1 := hrF.later h1
  have hput := hF1.put r2.1 r2.2
  have hst : ∀ K : Nat → Prop, ¬ K F → rng.Steps K V ((V1.setCell ⟨F, 0, none⟩ (.int .i64 r2.1)).setCell ⟨F, 1, none⟩ (.int .i64 r2.2)) := fun K hK =>
    ((Steps.of_below h1 K).trans (rng.Steps.setCell K V1 ⟨F, 0, none⟩ _ hK)).trans (rng.Steps.setCell K _ ⟨F, 1, none⟩ _ hK)
  generalize (V1.setCell ⟨F, 0, none⟩ (.int .i64 r2.1)).setCell ⟨F, 1, none⟩ (.int .i64 r2.2) = Y at *
  have s1 := hst (fun k => k < W.heap.size ∨ Co2 k) (by rintro (e | e); omega; exact nF e)
  refine ⟨fun k => C k ∨ Co2 k, hxv.trans ⟨hst _ (fun e => e (.inl hI.cF)), fun k hk => .inl hk⟩, Co2, ⟨fun k hk => .inr hk, .inl hI.cF, ?_, hit.own s1, nF, nX, by rw [e2]; exact hput, ?_⟩⟩
  · rw [e3]; exact hJ _ _ _ _ hj hit.kept.size s1
  · exact (hst (fun k => k = W.heap.size) (by omega)).cell rfl hyd
set_option maxRecDepth 100000 in
set_option maxHeartbeats 4000000 in
theorem gaps1_seq {w : World} {v : Value} {a : Option Addr} {n cap : Nat} {l : List Sp} {s : Sp} {bx bs : Nat} {A : Nat → Prop} (hr : Rv w v a n cap l) (hl : Rn l) (hn : n < 1000000000000) (hx : w.cell? ⟨bx, 0, none⟩ = some v) (hs : SpAt w bs s) (hax : ¬ A bx) (has : ¬ A bs) (har : ∀ b ∈ blk a cap, ¬ A b) :
    SeqOf Try.prog 40 #[.pointer (some ⟨bs, 0, none⟩), .pointer (some ⟨bx, 0, none⟩)] spE (gapsC (partsL l s) s) A w := by
  intro l' J Jx C0 W hW hC hJ hJx hY h0
  obtain ⟨p, rfl⟩ := hr.ptr
  have hblk := fun b hb => (hr.row.lt b hb).1
  have c2 := kcell hW hx
  have sW := hs.later hW
  have rW := hr.later hW
  have nr : ∀ b ∈ blk a cap, ¬ C0 b := fun b hb e => by
    rcases (hC _ e).1 with q | q
    · exact har b hb q
    · have := hblk b hb; omega
  have hwW := hW.size
  show Calls Try.prog 40 #[.func (.yield l') #[] #[], .pointer (some ⟨bs, 0, none⟩), .pointer (some ⟨bx, 0, none⟩)] W _
  refine (callsIn_wide (n := 6)).1 ?_
  refine callsIn_of_wp_marks Try.func40 rfl trivial ?_ rfl
  simp only [Try.ntmps40, List.size_toArray, List.length_cons, List.length_nil, Nat.reduceAdd, Nat.reduceSub, Array.replicate_succ, Array.replicate_zero, List.push_toArray, List.append_toArray, List.nil_append, List.cons_append]
  have b1 := bal (w := W) (.cells #[.func (.yield l') #[] #[]] 57)
  have y1 := heap_alloc_new W (.cells #[.func (.yield l') #[] #[]] 57)
  have hz1 : (W.alloc (.cells #[.func (.yield l') #[] #[]] 57)).heap.size = W.heap.size + 1 := by simp
  have b2 := bal (w := W.alloc (.cells #[.func (.yield l') #[] #[]] 57)) (.cells #[.int .i64 s.1, .int .i64 s.2] 24)
  have f2 := sp_new (W.alloc (.cells #[.func (.yield l') #[] #[]] 57)) s
  rw [hz1] at f2
  have s1 := sW.later b1
  have q0 := s1.c0; have q1 := s1.c1
  have b12 := b1.trans (b2.mono b1.size)
  have s2 := s1.later b2
  have r0 := s2.c0; have r1 := s2.c1
  have r2 := kcell b12 c2
  have y2 := (b2.block _ (lt_of_block y1)).trans y1
  have hz2 : ((W.alloc (.cells #[.func (.yield l') #[] #[]] 57)).alloc (.cells #[.int .i64 s.1, .int .i64 s.2] 24)).heap.size = W.heap.size + 1 + 1 := by simp
  have HY := Lib.hid hY
  have HJ := Lib.hid hJ
  have HJX := Lib.hid hJx
  have HC := Lib.hid hC
  have H0 := Lib.hid h0
  have HP := Lib.hid (parts_any (rW.later b12) hl hn s (fun k => C0 k ∨ k = W.heap.size + 1) (fun k hk => by
    rcases hk with hk | rfl
    · have := (hC k hk).2; omega
    · omega) (fun b hb e => by
    rcases e with e | rfl
    · exact nr b hb e
    · have := hblk _ hb; omega))
  have HS2 := Lib.hid (And.intro b12 (And.intro y2 (And.intro f2 hz2)))
  clear hY hJ hJx hC h0 hs hx c2 sW rW hr s1 s2 b1 b2 b12 y1 y2 f2 hz1 hz2 nr har hW hblk
  gi_wp2
  refine ⟨trivial, ?_⟩
  refine (callsIn_wide.2 HP.out).mono ?_
  rintro e w5 ⟨lb, rfl, hseq, h5⟩
  obtain ⟨b12, y2, f2, hz2⟩ := HS2.out
  have hb5 := b12.trans (h5.mono b12.size)
  have hz5 := h5.size
  rw [hz2] at hz5
  have hF5 := f2.later h5
  have hY5 := cofr ((h5.block _ (lt_of_block y2)).trans y2) 0 _ rfl
  have HSEQ := Lib.hid hseq
  clear hseq h5 b12 y2 f2 hz2 HS2 HP q0 q1 r0 r1 r2
  obtain ⟨F, hFe⟩ : ∃ F, F = W.heap.size + 1 := ⟨_, rfl⟩
  rw [← hFe] at hF5 HSEQ hz5 ⊢
  have hWF : W.heap.size < F := by omega
  have hF5s : F < w5.heap.size := by omega
  clear hFe
  have hss := Steps.of_below hb5 (fun k => k < W.heap.size ∨ C0 k)
  have HGI : Hid (GI W C0 F l' s J [] (fun k => C0 k ∨ k = F) w5) := Lib.hid ⟨C0, ⟨fun k hk => .inl hk, .inr rfl, HJ.out _ _ _ _ H0.out (Nat.le_refl _) hss, (It.refl (fun k hk => (HC.out k hk).2)).own hss, fun e => by have := (HC.out _ e).2; omega, fun e => by have := (HC.out _ e).2; omega, hF5, hY5⟩⟩
  clear hss hF5 hY5
  generalize hLL : partsL l s = L at *
  have HLL := Lib.hid hLL
  clear hLL
  have hmo : Try.prog.follows .mixedOrders = true := by kernel_rfl
  gi_wp2
  refine wpIn_rangeBoxP (fun (b : Nat) (y : Sp) (t : Array Value) => (t.setIfInBounds 11 (spV y)).setIfInBounds 5 (.pointer (some ⟨b, 0, none⟩))) (gf := 60) (lb := lb) (L := L) (A := fun k => C0 k ∨ k = F) (w0 := w5) (encs := spE) rfl eg_parts HSEQ.out (Below.refl _ _) (fun _ => rfl)
    (GI W C0 F l' s J) (GX W Jx) (fun k => C0 k ∨ k = F) ?hc0 ?hI ?hIx HGI.out (GB W C0 F l' s J w5.heap.size) ?hB ?assign ?body ?done ?stop
  case hc0 =>
    intro k hk
    refine ⟨.inl hk, ?_⟩
    rcases hk with hk | rfl
    · have := (HC.out k hk).2; have := hb5.size; omega
    · exact hF5s
  case hI =>
    rintro pre C X Y ⟨Co, h⟩ hz hs
    exact ⟨Co, gic_own HJ.out (by omega) h hs⟩
  case hIx =>
    rintro c pre C X Y ⟨rfl, Co, told, h1, h2⟩ hz hs
    exact ⟨rfl, Co, told, h1, HJX.out _ _ _ _ h2 (by have := hb5.size; omega) (hs.mono (fun k _ hk => by
      rcases hk with hk | hk
      · exact .inl (by have := hb5.size; omega)
      · exact .inr (h1 k hk)))⟩
  case hB =>
    rintro pre b y _ C X Y ⟨Co, h, h1, h2, h3, h4⟩ hz hs
    exact ⟨Co, gic_own HJ.out (by omega) h hs, hs.heap (.inr h2) h1, h2, h3, h4⟩
  case assign =>
    rintro l2 pre y C X K ⟨Co, hI⟩ hp hc hz hK
    have b1 := bal (w := X) (.cells #[.int .i64 y.1, .int .i64 y.2] 24)
    have hg := gic_own (D := w5.heap.size) HJ.out (by omega) hI (Steps.of_below b1 _)
    have hg2 : GIc W C0 F l' s J pre Co (fun k => C k ∨ k = X.heap.size) (X.alloc (.cells #[.int .i64 y.1, .int .i64 y.2] 24)) :=
      ⟨fun k hk => .inl (hg.sub k hk), .inl hg.cF, hg.j, hg.it, hg.nF, hg.nX, hg.rest, hg.yd⟩
    have HK := Lib.hid (hK X.heap.size (fun k => C k ∨ k = X.heap.size) _ ⟨Steps.of_below b1 _, fun k hk => by rcases hk with hk | rfl; exact .inl hk; exact .inr ⟨Nat.le_refl _, by simp⟩⟩
      ⟨Co, hg2⟩ ⟨Co, hg2, sp_new X y, .inr rfl, fun e => by have := (hI.it.grow _ e).2; omega, hz⟩)
    clear hK hI hp hc b1 hg hg2
    gi_wp2
    exact HK.out
  case body =>
    rintro l2 pre y b C X _ ⟨Co, hI, hyb, hCb, hnb, hbD⟩ hp hcc hz
    have hpr := gaps_prefix (s := s) hp
    have hpr2 := restA_snoc pre s y
    have hpr3 := doneL_snoc pre s y
    have HB := Lib.hid (fun X => below_any (restA pre s) y.1 X)
    have HFR := Lib.hid (fun X => from_any (restA pre s) y.2 X)
    have hrF := hI.rest
    have HI := Lib.hid hI
    generalize restA pre s = r at *
    generalize belowP r y.1 = m at *
    generalize fromP r y.2 = r2 at *
    have HR2 := Lib.hid hpr2
    have HR3 := Lib.hid hpr3
    have HPR := Lib.hid hpr
    have HLN := Lib.hid (fun X => len_any m X)
    have hyd := hI.yd
    have e0 := hrF.c0; have e1 := hrF.c1; have e2 := hyb.c0; have e3 := hyb.c1
    have hFX := lt_of_block hrF
    have hbX := lt_of_block hyb
    have hXW : W.heap.size < X.heap.size := World.block_lt_of_cell? X _ hyd
    have hbF : b ≠ F := by omega
    clear hI hpr hpr2 hpr3 hp hcc HSEQ HGI
    simp only [List.setIfInBounds_toArray, List.set_cons_zero, List.set_cons_succ]
    generalize hRP : rPost (GI W C0 F l' s J) (GX W Jx) (pre ++ [y]) C X = RP at *
    have HRN := Lib.hid (fun (C' : Nat → Prop) (W' : World) (hr : Round C X C' W') (hg : GI W C0 F l' s J (pre ++ [y]) C' W') (a' : Act) => show RP .normal a' W' from by rw [← hRP]; exact ⟨C', hr, hg⟩)
    have HRR := Lib.hid (fun (C' : Nat → Prop) (W' : World) (hr : Round C X C' W') (hg : GX W Jx .ret (pre ++ [y]) C' W') (a' : Act) => show RP .ret a' W' from by rw [← hRP]; exact ⟨C', hr, hg⟩)
    clear hRP
    gi_wp2
    refine ⟨trivial, ?_⟩
    refine (callsIn_wide.2 (HB.out _)).mono ?_
    rintro e w2 ⟨rfl, h2⟩
    have b3 := bal (w := w2) (.cells #[.int .i64 m.1, .int .i64 m.2] 24)
    have h3 := h2.trans (b3.mono h2.size)
    have m3 := sp_new w2 m
    have hyd3 := kcell h3 hyd
    clear e0 e1 e2 e3 b3 h2 HB
    have d0 := m3.c0; have d1 := m3.c1
    gi_wp2
    refine ⟨trivial, ?_⟩
    refine (callsIn_wide.2 (HLN.out _)).mono ?_
    rintro e w4 ⟨rfl, h4⟩
    have h34 := h3.trans (h4.mono h3.size)
    have m4 := m3.later h4
    have hyd4 := kcell h34 hyd
    have rF4 := hrF.later h34
    have y4 := hyb.later h34
    clear d0 d1 hyd3 m3 h4 h3 HLN
    have hj4 := HJ.out _ _ _ _ HI.out.j HI.out.it.kept.size (Steps.of_below h34 (fun k => k < W.heap.size ∨ Co k))
    have hI4 := HI.out.it.own (Steps.of_below h34 (fun k => k < W.heap.size ∨ Co k))
    have hR4 : Round C X C w4 := Round.of_below h34 C
    by_cases hm : 0 < lenI m
    · have hne : ne m = [m] := by unfold ne; rw [if_neg (by omega)]
      have hpr := HPR.out
      rw [hne] at hpr
      have hyq := HY.out _ _ Co w4 hj4 hI4.kept.size hpr
      obtain ⟨fn, tmps, assign, body, hyy, hYY⟩ := hyq.inRound l2 3
      have q0 := m4.c0; have q1 := m4.c1
      have HNE := Lib.hid hne
      have hw4 : X.heap.size ≤ w4.heap.size := h34.size
      have HR4 := Lib.hid hR4
      have HI4 := Lib.hid hI4
      clear hyq hpr hj4 hne hR4 hI4 h34
      gi_wp2
      refine hYY.mono ?_
      clear hyy hYY q0 q1
      rintro e w6 ⟨C2, hr2, ⟨rfl, hJ2⟩ | ⟨rfl, hJ2⟩⟩
      · have n2F : ¬ C2 F := fun e => by rcases hr2.2 _ e with a | a; exact HI.out.nF a; omega
        have n2X : ¬ C2 W.heap.size := fun e => by rcases hr2.2 _ e with a | a; exact HI.out.nX a; omega
        have rF6 : SpAt w6 F r := hr2.1.heap HI.out.nF rF4
        have y6 : SpAt w6 b y := hr2.1.heap hnb y4
        have hyd6 := hr2.1.cell (p := ⟨W.heap.size, 0, none⟩) HI.out.nX hyd4
        have hI6 := HI4.out.round hr2
        have hR6 : Round C X (fun k => C k ∨ C2 k) w6 := HR4.out.trans ⟨hr2.1.mono (fun k _ hk e => hk (HI.out.sub k e)), fun k hk => by
          rcases hk with hk | hk
          · exact .inl hk
          · rcases hr2.2 k hk with a | a
            · exact .inl (HI.out.sub k a)
            · exact .inr a⟩
        have HE := Lib.hid (fun (V1 : World) (h1 : Below w6.heap.size w6 V1) => gi_end HJ.out hWF HI.out hFX (by omega) HR2.out (by rw [HR3.out, HNE.out]) hR6 hJ2 hI6 n2F n2X rF6 hyd6 h1)
        have HRF := Lib.hid rF6
        have e0 := rF6.c0; have e1 := rF6.c1; have e2 := y6.c0; have e3 := y6.c1
        clear hr2 hJ2 hyd6 hI6 hR6 n2F n2X y6 rF6 hyd4 hm
        gi_wp2
        refine ⟨trivial, ?_⟩
        refine (callsIn_wide.2 (HFR.out _)).mono ?_
        rintro e w7 ⟨rfl, h7⟩
        obtain ⟨C', hrr, hgg⟩ := HE.out w7 h7
        have rF7 := HRF.out.later h7
        have g0 := rF7.c0; have g1 := rF7.c1; have g2 := rF7.f0; have g3 := rF7.f1
        have HFIN := Lib.hid (HRN.out C' _ hrr hgg)
        clear hrr hgg rF7 h7 e0 e1 e2 e3
        gi_wp2
        exact HFIN.out _
      · have hR6 : Round C X (fun k => C k ∨ C2 k) w6 := HR4.out.trans ⟨hr2.1.mono (fun k _ hk e => hk (HI.out.sub k e)), fun k hk => by
          rcases hk with hk | hk
          · exact .inl hk
          · rcases hr2.2 k hk with a | a
            · exact .inl (HI.out.sub k a)
            · exact .inr a⟩
        have HFIN := Lib.hid (HRR.out _ _ hR6 ⟨rfl, C2, _, fun k hk => .inr hk, hJ2⟩)
        clear hr2 hJ2 hR6 hyd4 hm
        gi_wp2
        exact HFIN.out _
    · have hne : ne m = [] := by unfold ne; rw [if_pos (by have := (lenI_bd m).1; omega)]
      have HE := Lib.hid (fun (V1 : World) (h1 : Below w4.heap.size w4 V1) => gi_end HJ.out hWF HI.out hFX (by omega) HR2.out (by rw [HR3.out, hne, List.append_nil]) (⟨hR4.1, fun k hk => by
        rcases hk with hk | hk
        · exact .inl hk
        · exact .inl (HI.out.sub k hk)⟩ : Round C X (fun k => C k ∨ Co k) w4) hj4 hI4 HI.out.nF HI.out.nX rF4 hyd4 h1)
      have HRF := Lib.hid rF4
      have q0 := m4.c0; have q1 := m4.c1
      have e0 := rF4.c0; have e1 := rF4.c1; have e2 := y4.c0; have e3 := y4.c1
      clear hj4 hI4 hR4 hne rF4 y4 m4 h34
      gi_wp2
      refine ⟨(fun f hf => by cases hf), ?_⟩
      gi_wp2
      refine ⟨trivial, ?_⟩
      refine (callsIn_wide.2 (HFR.out _)).mono ?_
      rintro e w7 ⟨rfl, h7⟩
      obtain ⟨C', hrr, hgg⟩ := HE.out w7 h7
      have rF7 := HRF.out.later h7
      have g0 := rF7.c0; have g1 := rF7.c1; have g2 := rF7.f0; have g3 := rF7.f1
      have HFIN := Lib.hid (HRN.out C' _ hrr hgg)
      clear hrr hgg rF7 h7 e0 e1 e2 e3 q0 q1
      gi_wp2
      exact HFIN.out _
  case done =>
    rintro D C X hD hCD ⟨Co, hI⟩ hK
    have hnD : ¬ Co D := fun e => hCD (hI.sub _ e)
    have hDX := lt_of_block hK
    have hz5' := hb5.size
    have hWD : W.heap.size ≤ D := by omega
    have hG : gapsC L s = doneL L s ++ ne (restA L s) := by
      have := gaps_cut L [] s
      rw [List.append_nil] at this
      exact this
    have hrF := hI.rest
    have hyd := hI.yd
    have HI := Lib.hid hI
    generalize restA L s = r at *
    have HG := Lib.hid hG
    have HLN := Lib.hid (fun X => len_any r X)
    have e0 := hrF.c0; have e1 := hrF.c1
    clear hI hG HGI HSEQ
    gi_wp2
    refine ⟨trivial, ?_⟩
    refine (callsIn_wide.2 (HLN.out _)).mono ?_
    rintro e w4 ⟨rfl, h4⟩
    have rF4 := hrF.later h4
    have hyd4 := kcell h4 hyd
    have hK4 := (h4.block _ hDX).trans hK
    have hj4 := HJ.out _ _ _ _ HI.out.j HI.out.it.kept.size (Steps.of_below h4 (fun k => k < W.heap.size ∨ Co k))
    have hI4 := HI.out.it.own (Steps.of_below h4 (fun k => k < W.heap.size ∨ Co k))
    by_cases hm : 0 < lenI r
    · have hne : ne r = [r] := by unfold ne; rw [if_neg (by omega)]
      have hgg := HG.out
      rw [hne] at hgg
      have hyq := HY.out (doneL L s) r Co w4 hj4 hI4.kept.size (by rw [hgg]; exact List.prefix_refl _)
      obtain ⟨fn, tmps, assign, body, hyy, hYY⟩ := hyq.at 5
      have q0 := rF4.c0; have q1 := rF4.c1
      have HGG := Lib.hid hgg
      have HI4 := Lib.hid hI4
      have hD4 : D < w4.heap.size := lt_of_block hK4
      clear hyq hgg hne hj4 hI4 h4 rF4 hK e0 e1
      gi_wp2
      refine hYY.mono ?_
      clear hyy hYY q0 q1
      rintro e w6 ⟨C2, hr2, hres⟩
      have hnD2 : ¬ C2 D := fun e => by rcases hr2.2 _ e with a | a; exact hnD a; omega
      have hK6 : w6.heap[D]? = some (.deferred (some [])) := hr2.1.heap hnD hK4
      have hW6 : W.heap.size ≤ w6.heap.size := Nat.le_trans HI4.out.kept.size hr2.1.size
      have HK6 := Lib.hid hK6
      have hst := rng.Steps.putObj (fun k => k < W.heap.size ∨ C2 k) w6 D (.deferred none) (by rintro (e | e); omega; exact hnD2 e)
      clear hr2 hK6 hK4 hnD2
      rcases hres with ⟨rfl, hJ2⟩ | ⟨rfl, hJ2⟩
      · have HF := Lib.hid (HJ.out _ _ _ _ hJ2 hW6 hst)
        rw [← HGG.out] at HF
        clear hJ2 hst
        gi_wp2
        refine ⟨by simp, .inl ⟨_, _, rfl, run_takeDeferred HK6.out, ?_⟩⟩
        exact ⟨_, results_none rfl _ _ _, ⟨_, rfl⟩, C2, .inl (by rw [HLL.out]; exact HF.out)⟩
      · have HF := Lib.hid (HJX.out _ _ _ _ hJ2 hW6 hst)
        clear hJ2 hst
        gi_wp2
        refine ⟨by simp, .inl ⟨_, _, rfl, run_takeDeferred HK6.out, ?_⟩⟩
        exact ⟨_, results_none rfl _ _ _, ⟨_, rfl⟩, C2, .inr ⟨_, HF.out⟩⟩
    · have hne : ne r = [] := by unfold ne; rw [if_pos (by have := (lenI_bd r).1; omega)]
      have hgg := HG.out
      rw [hne, List.append_nil] at hgg
      have HF := Lib.hid (HJ.out _ _ _ _ hj4 hI4.kept.size (rng.Steps.putObj (fun k => k < W.heap.size ∨ Co k) w4 D (.deferred none) (by rintro (e | e); omega; exact hnD e)))
      rw [← hgg] at HF
      have HK4 := Lib.hid hK4
      clear hgg hne hj4 hI4 h4 rF4 hK e0 e1 hK4
      gi_wp2
      refine ⟨by simp, .inl ⟨_, _, rfl, run_takeDeferred HK4.out, ?_⟩⟩
      exact ⟨_, results_none rfl _ _ _, ⟨_, rfl⟩, Co, .inl (by rw [HLL.out]; exact HF.out)⟩
  case stop =>
    rintro D c pre C X hD hCD ⟨rfl, Co, told, h1, hj⟩ hK
    have hX : W.heap.size ≤ X.heap.size := by have := lt_of_block hK; have := hb5.size; omega
    have hfin := HJX.out _ _ _ (X.putObj D (.deferred none)) hj hX (rng.Steps.putObj _ _ _ _ (by rintro (e | e); (have := hb5.size; omega); exact hCD (h1 _ e)))
    have HF := Lib.hid hfin
    clear hj hfin
    gi_wp2
    refine ⟨by simp, .inl ⟨_, _, rfl, run_takeDeferred hK, ?_⟩⟩
    exact ⟨_, results_none rfl _ _ _, ⟨_, rfl⟩, Co, .inr ⟨_, HF.out⟩⟩
theorem eg_gaps (args : Array Value) (w : World) : (callFunc 40 args).run Try.prog w = .ok (.enter 40 args) w := by kernel_rfl
theorem gaps_any {w : World} {v : Value} {a : Option Addr} {n cap : Nat} {l : List Sp} (hr : Rv w v a n cap l) (hl : Rn l) (hn : n < 1000000000000) (s : Sp) (A : Nat → Prop) (hA : ∀ k, A k → k < w.heap.size) (har : ∀ b ∈ blk a cap, ¬ A b) :
    Calls Try.prog 19 #[v, spV s] w (SeqS 40 (gapsL l s) A w) := by
  rw [← (gaps_all s hl).2.1]
  obtain ⟨p, rfl⟩ := hr.ptr
  have b1 := bal (w := w) (.cells #[.pointer p] 26)
  have x1 := heap_alloc_new w (.cells #[.pointer p] 26)
  have hz1 : (w.alloc (.cells #[.pointer p] 26)).heap.size = w.heap.size + 1 := by simp
  have b2 := bal (w := w.alloc (.cells #[.pointer p] 26)) (.cells #[.int .i64 s.1, .int .i64 s.2] 24)
  have s2 := sp_new (w.alloc (.cells #[.pointer p] 26)) s
  have x2 := (b2.block _ (lt_of_block x1)).trans x1
  have c2 := cofr x2 0 _ rfl
  have b3 := b1.trans (b2.mono b1.size)
  have HF := Lib.hid (show SeqS 40 (gapsC (partsL l s) s) A w (.returned (.func (.func 40) #[] #[.pointer (some ⟨(w.alloc (.cells #[.pointer p] 26)).heap.size, 0, none⟩), .pointer (some ⟨w.heap.size, 0, none⟩)])) _ from
    ⟨_, rfl, gaps1_seq (A := A) (hr.later b3) hl hn c2 s2 (fun e => by have := hA _ e; omega) (fun e => by have := hA _ e; omega) har, b3⟩)
  rw [hz1] at HF
  clear b1 x1 hz1 b2 s2 x2 c2 b3 hA har hr
  go_enter Try.func19, Try.ntmps19
  go_wp2_with fail
  go_ret
  exact HF.out
end Go.Proofs.Ytgjkbejlfclpoaa.rn
