/-
  Several texts in one: BrdW BrdR BrdP RunI RunU BrdN BrdA BrdD BrdB BrdQ
-/
import Derived.Test.YtohpaoleomcimaaGreatM6
/-!   Package board: going through what stands in its tree.
-/
namespace Go.Proofs.YtohpaoleomcimaaGreat.bd
open Go.RowKit Go.Shelf aid mem rng sp rn bv
attribute [local go_sem] Oper.semAt_some
set_option linter.unusedVariables false
set_option linter.unusedSimpArgs false

/-- what an iterator over an iterator knows between two rounds; its yield lies behind the world that it was called in -/
structure Gv {α : Type} (W : World) (C0 : Nat → Prop) (l : Nat) (tl : List α → List Sp) (J : List Sp → (Nat → Prop) → World → Prop) (pre : List α) (Co C : Nat → Prop) (X : World) : Prop where
  sub : ∀ k, Co k → C k
  j : J (tl pre) Co X
  it : It C0 W Co X
  nX : ¬ Co W.heap.size
  yd : X.cell? ⟨W.heap.size, 0, none⟩ = some (.func (.yield l) #[] #[])
def GvI {α : Type} (W : World) (C0 : Nat → Prop) (l : Nat) (tl : List α → List Sp) (J : List Sp → (Nat → Prop) → World → Prop) (pre : List α) (C : Nat → Prop) (X : World) : Prop := ∃ Co, Gv W C0 l tl J pre Co C X
/-- a way out: all was told, or the consumer had enough -/
def GvX {α : Type} (all : List Sp) (J Jx : List Sp → (Nat → Prop) → World → Prop) (c : Code) (pre : List α) (C : Nat → Prop) (X : World) : Prop := c = .ret ∧ ∃ Co, (∀ k, Co k → C k) ∧ (J all Co X ∨ ∃ told, Jx told Co X)
/-- a box beside it -/
def GvB {α : Type} (W : World) (C0 : Nat → Prop) (l : Nat) (tl : List α → List Sp) (J : List Sp → (Nat → Prop) → World → Prop) (val : α → Sp) (D : Nat) (pre : List α) (b : Nat) (y : α) (C : Nat → Prop) (X : World) : Prop :=
  ∃ Co, Gv W C0 l tl J pre Co C X ∧ SpAt X b (val y) ∧ C b ∧ ¬ Co b ∧ D ≤ b
section
variable {α : Type} {W : World} {C0 : Nat → Prop} {l D : Nat} {tl : List α → List Sp} {J Jx : List Sp → (Nat → Prop) → World → Prop} {pre : List α} {Co C : Nat → Prop} {X Y : World}
theorem gv_own (hJ : Bears W.heap.size J) (hD : W.heap.size < D) (h : Gv W C0 l tl J pre Co C X) (hs : rng.Steps (fun k => k < D ∨ C k) X Y) : Gv W C0 l tl J pre Co C Y := by
  have hs' : rng.Steps (fun k => k < W.heap.size ∨ Co k) X Y := hs.mono (fun k _ hk => by
    rcases hk with hk | hk
    · exact .inl (by omega)
    · exact .inr (h.sub k hk))
  exact ⟨h.sub, hJ _ _ _ _ h.j h.it.kept.size hs', h.it.own hs', h.nX, hs.cell (.inl (by simpa using hD)) h.yd⟩
theorem gvi_bears (hJ : Bears W.heap.size J) (hD : W.heap.size < D) : Bears D (GvI W C0 l tl J) := by
  rintro pre C X Y ⟨Co, h⟩ hz hs
  exact ⟨Co, gv_own hJ hD h hs⟩
theorem gvx_bears {all : List Sp} (hJ : Bears W.heap.size J) (hJx : Bears W.heap.size Jx) (hD : W.heap.size ≤ D) (c : Code) : Bears D (fun (pre : List α) => GvX all J Jx c pre) := by
  rintro pre C X Y ⟨rfl, Co, h1, h2⟩ hz hs
  have hs' : rng.Steps (fun k => k < W.heap.size ∨ Co k) X Y := hs.mono (fun k _ hk => by
    rcases hk with hk | hk
    · exact .inl (by omega)
    · exact .inr (h1 k hk))
  refine ⟨rfl, Co, h1, ?_⟩
  rcases h2 with h2 | ⟨told, h2⟩
  · exact .inl (hJ _ _ _ _ h2 (by omega) hs')
  · exact .inr ⟨told, hJx _ _ _ _ h2 (by omega) hs'⟩
theorem gvb_bears {val : α → Sp} {n0 : Nat} (hJ : Bears W.heap.size J) (hD : W.heap.size < D) (pre : List α) (b : Nat) (y : α) : Bears D (fun (_ : Unit) C W' => GvB W C0 l tl J val n0 pre b y C W') := by
  rintro _ C X Y ⟨Co, h, h1, h2, h3, h4⟩ hz hs
  exact ⟨Co, gv_own hJ hD h hs, hs.heap (.inr h2) h1, h2, h3, h4⟩
/-- it begins -/
theorem gv_zero (hJ : Bears W.heap.size J) (hC : ∀ k, C0 k → k < W.heap.size) (h0 : J (tl []) C0 W) (hb : Below W.heap.size W X) (hy : X.cell? ⟨W.heap.size, 0, none⟩ = some (.func (.yield l) #[] #[])) : Gv W C0 l tl J [] C0 C0 X := by
  have hss := Steps.of_below hb (fun k => k < W.heap.size ∨ C0 k)
  exact ⟨fun k hk => hk, hJ _ _ _ _ h0 (Nat.le_refl _) hss, (It.refl hC).own hss, fun e => by have := hC _ e; omega, hy⟩
/-- a new box of its own -/
theorem gv_box (hJ : Bears W.heap.size J) (h : Gv W C0 l tl J pre Co C X) (hW : W.heap.size < X.heap.size) (y : Sp) :
    Round C X (fun k => C k ∨ k = X.heap.size) (X.alloc (.cells #[.int .i64 y.1, .int .i64 y.2] 24)) ∧
    Gv W C0 l tl J pre Co (fun k => C k ∨ k = X.heap.size) (X.alloc (.cells #[.int .i64 y.1, .int .i64 y.2] 24)) ∧ ¬ Co X.heap.size := by
  have b1 := bal (w := X) (.cells #[.int .i64 y.1, .int .i64 y.2] 24)
  have hg := gv_own (D := X.heap.size) hJ hW h (Steps.of_below b1 _)
  exact ⟨⟨Steps.of_below b1 _, fun k hk => by rcases hk with hk | rfl; exact .inl hk; exact .inr ⟨Nat.le_refl _, by simp⟩⟩, ⟨fun k hk => .inl (hg.sub k hk), hg.j, hg.it, hg.nX, hg.yd⟩, fun e => by have := (h.it.grow _ e).2; omega⟩
/-- the consumer took one -/
theorem gv_next {Z V : World} {y : α} {C2 : Nat → Prop} {t : List Sp} (h : Gv W C0 l tl J pre Co C X) (hW : W.heap.size < X.heap.size) (hb : Below X.heap.size X Z) (hit : It C0 W Co Z) (hr : Round Co Z C2 V) (hj : J t C2 V) (ht : tl (pre ++ [y]) = t) :
    ∃ C', Round C X C' V ∧ GvI W C0 l tl J (pre ++ [y]) C' V := by
  have n2 : ¬ C2 W.heap.size := fun e => by
    rcases hr.2 _ e with a | a
    · exact h.nX a
    · have := hb.size; omega
  refine ⟨fun k => C k ∨ C2 k, (Round.of_below hb C).trans ⟨hr.1.mono (fun k _ hk e => hk (h.sub k e)), fun k hk => ?_⟩, C2, ⟨fun k hk => .inr hk, by rw [ht]; exact hj, hit.round hr, n2, hr.1.cell (p := ⟨W.heap.size, 0, none⟩) h.nX (kcell hb h.yd)⟩⟩
  rcases hk with hk | hk
  · exact .inl hk
  · rcases hr.2 k hk with a | a
    · exact .inl (h.sub k a)
    · exact .inr a
/-- nothing was told -/
theorem gv_skip {Z : World} {y : α} (hJ : Bears W.heap.size J) (h : Gv W C0 l tl J pre Co C X) (hW : W.heap.size < X.heap.size) (hb : Below X.heap.size X Z) (ht : tl (pre ++ [y]) = tl pre) :
    ∃ C', Round C X C' Z ∧ GvI W C0 l tl J (pre ++ [y]) C' Z := by
  have hg := gv_own (D := X.heap.size) hJ hW h (Steps.of_below hb _)
  exact ⟨C, Round.of_below hb C, Co, ⟨hg.sub, by rw [ht]; exact hg.j, hg.it, hg.nX, hg.yd⟩⟩
/-- the consumer had enough -/
theorem gv_stop {Z V : World} {xs : List α} {C2 : Nat → Prop} {t all : List Sp} (h : Gv W C0 l tl J pre Co C X) (hb : Below X.heap.size X Z) (hr : Round Co Z C2 V) (hj : Jx t C2 V) :
    ∃ C', Round C X C' V ∧ GvX all J Jx .ret xs C' V := by
  refine ⟨fun k => C k ∨ C2 k, (Round.of_below hb C).trans ⟨hr.1.mono (fun k _ hk e => hk (h.sub k e)), fun k hk => ?_⟩, rfl, C2, fun k hk => .inr hk, .inr ⟨t, hj⟩⟩
  rcases hk with hk | hk
  · exact .inl hk
  · rcases hr.2 k hk with a | a
    · exact .inl (h.sub k a)
    · exact .inr a
/-- it stops by itself: all is told -/
theorem gv_all {Z : World} {xs : List α} {all : List Sp} (hJ : Bears W.heap.size J) (h : Gv W C0 l tl J pre Co C X) (hb : Below X.heap.size X Z) (ht : tl pre = all) :
    ∃ C', Round C X C' Z ∧ GvX all J Jx .ret xs C' Z :=
  ⟨C, Round.of_below hb C, rfl, Co, h.sub, .inl (by rw [← ht]; exact hJ _ _ _ _ h.j h.it.kept.size (Steps.of_below hb _))⟩
end
theorem eg_kv (args : Array Value) (w : World) : (callFunc 153 args).run Tryz.prog w = .ok (.enter 153 args) w := by kernel_rfl
abbrev tlV (pre : List (Int × Vt)) : List Sp := pre.map (fun x => x.2)
theorem tlV_ky (l : List Sp) : tlV (l.map ky) = l := by unfold tlV; rw [List.map_map]; exact List.map_id _
theorem tr_later {w w' : World} {p : Option Addr} {t : T} (h : TrO w p t) (hb : Below w.heap.size w w') : TrO w' p t := by
  rcases h with ⟨h1, h2⟩ | ⟨b, h1, h2⟩
  · exact .inl ⟨h1, h2⟩
  · exact .inr ⟨b, h1, h2.later hb⟩
/-- what a consumer may write, told beside an older world, in which a tree stands: none of its nodes -/
def FarR (w0 w : World) (A : Nat → Prop) : Prop := ∀ k, A k → k < w.heap.size ∧ ∀ cs, w0.heap[k]? ≠ some (.cells cs 176 (0, 0))
theorem FarR.sub {w0 w W : World} {A C0 : Nat → Prop} (h : FarR w0 w A) (hb0 : Below w0.heap.size w0 w) (hC : ∀ k, C0 k → (A k ∨ w.heap.size ≤ k) ∧ k < W.heap.size) : FarR w0 W C0 := fun k hk => by
  obtain ⟨h1, h2⟩ := hC k hk
  refine ⟨h2, fun cs e => ?_⟩
  rcases h1 with h1 | h1
  · exact (h k h1).2 cs e
  · have := lt_of_block e; have := hb0.size; omega
theorem FarR.later {w0 w w' : World} {A : Nat → Prop} (h : FarR w0 w A) (hb : Below w.heap.size w w') : FarR w0 w' A := fun k hk => ⟨Nat.lt_of_lt_of_le (h k hk).1 hb.size, (h k hk).2⟩
theorem FarR.of {w0 w : World} {A : Nat → Prop} (hb : Below w0.heap.size w0 w) (h : ∀ k, A k → w0.heap.size ≤ k ∧ k < w.heap.size) : FarR w0 w A := fun k hk => ⟨(h k hk).2, fun cs e => by have := lt_of_block e; have := (h k hk).1; omega⟩
set_option maxRecDepth 100000 in
set_option maxHeartbeats 4000000 in
theorem from1_seqR {w0 w : World} {p q : Option Addr} {t : T} {key : Int} {LN : List Nd} {bt bk : Nat} {A : Nat → Prop} (hb0 : Below w0.heap.size w0 w) (hr : RootOf w0 p q) (hg : Goes w0 key q t LN)
    (ht : w.cell? ⟨bt, 0, none⟩ = some (.pointer p)) (hk : w.cell? ⟨bk, 0, none⟩ = some (.int .i64 key)) (hA : FarR w0 w A) (hat : ¬ A bt) (hak : ¬ A bk) :
    SeqOf Tryz.prog 146 #[.pointer (some ⟨bt, 0, none⟩), .pointer (some ⟨bk, 0, none⟩)] ndE LN A w := by
  intro l J Jx C0 W hW hC hJ hJx hY h0
  have hbW := hb0.trans (hW.mono hb0.size)
  have r2 := hr.later (hbW.trans ((Below.refl W.heap.size W).drew.mono hbW.size))
  have hF := hA.sub hb0 hC
  have hx : Cx w0 W C0 l J Jx LN := ⟨fun b cs h => ⟨fun hc => (hF b hc).2 cs h, (hbW.block b (lt_of_block h)).trans h⟩, hY⟩
  have c1 := ck hW ht
  have c2 := ck hW hk
  have j2 := hJ _ _ _ _ h0 (Nat.le_refl _) (Steps.drew _ W)
  have i2 : It C0 W C0 W.drew := (It.refl (fun k hk => (hC k hk).2)).own (Steps.drew _ W)
  have nt : ¬ C0 bt := fun e => by
    rcases (hC _ e).1 with a | a
    · exact hat a
    · have := World.block_lt_of_cell? w _ ht; simp only at this; omega
  have nk : ¬ C0 bk := fun e => by
    rcases (hC _ e).1 with a | a
    · exact hak a
    · have := World.block_lt_of_cell? w _ hk; simp only at this; omega
  have HR := Lib.hid (rise_any hx key t hg (List.prefix_refl _) j2 i2)
  rw [List.nil_append] at HR
  clear hr hg hx j2 i2 hJ hJx hY h0 hC hW ht hk hA hF hbW hb0
  show Calls Tryz.prog 146 #[.func (.yield l) #[] #[], .pointer (some ⟨bt, 0, none⟩), .pointer (some ⟨bk, 0, none⟩)] W _
  go_enter Tryz.func146, Tryz.ntmps146
  go_wp2
  have k0 : W.drew.cell? ⟨bt, 0, none⟩ = some (.pointer p) ∧ W.drew.cell? ⟨bk, 0, none⟩ = some (.int .i64 key) := ⟨c1, c2⟩
  go_region_held3 (fun w' => w'.cell? ⟨bt, 0, none⟩ = some (.pointer p) ∧ w'.cell? ⟨bk, 0, none⟩ = some (.int .i64 key)) (with_reducible first | exact k0 | exact k1 | go_keep) (first
    | (go_at_call 120; (with_reducible refine (top_at r2).mono ?_); rintro e w2 ⟨rfl, rfl⟩)
    | (go_at_call 147; (with_reducible refine HR.out.mono ?_); rintro e w3 hrp; obtain ⟨b, rfl, hb⟩ := rise_b hrp; have k1 := And.intro (hb.cell nt c1) (hb.cell nk c2); clear hrp))
  all_goals
    go_wp2
    go_end0
    exact ⟨⟨_, rfl⟩, hb.done⟩
set_option maxRecDepth 100000 in
set_option maxHeartbeats 2000000 in
theorem from_anyR {w0 w : World} {p : Option Addr} {t : T} (hb0 : Below w0.heap.size w0 w) (h : TrO w0 p t) (key : Int) (hu : T.Up t.toL) (A : Nat → Prop) (hA : FarR w0 w A) :
    Calls Tryz.prog 136 #[.pointer p, .int .i64 key] w (SeqKV (t.toL.filter (fun x => decide (key ≤ x.1))) A w) := by
  obtain ⟨q, hr, hq⟩ := trO_root h
  obtain ⟨LN, hg⟩ := goes_of key hq
  have hk := goes_keys key hg hu
  obtain ⟨w1, hw1⟩ : ∃ w1, w1 = (w.alloc (.cells #[.pointer p] 105)).alloc (.cells #[.int .i64 key] 3) := ⟨_, rfl⟩
  have b1 : Below w.heap.size w w1 := by rw [hw1]; exact ((Below.refl _ _).alloc (Nat.le_refl _) _).alloc (by simp) _
  have c1 : w1.cell? ⟨w.heap.size, 0, none⟩ = some (.pointer p) := by
    rw [hw1]; exact ck (bal' _) ((cell_of_row _ w.heap.size 0 _ _ (0, 0) (heap_alloc_new w (.cells #[.pointer p] 105))).trans rfl)
  have c2 : w1.cell? ⟨w.heap.size + 1, 0, none⟩ = some (.int .i64 key) := by
    have := (cell_of_row _ (w.alloc (.cells #[.pointer p] 105)).heap.size 0 _ _ (0, 0) (heap_alloc_new (w.alloc (.cells #[.pointer p] 105)) (.cells #[.int .i64 key] 3))).trans rfl
    rw [World.size_alloc] at this
    rw [hw1]; exact this
  have b01 := hb0.trans (b1.mono hb0.size)
  have s1 := from1_seqR (A := A) b01 hr hg c1 c2 (hA.later b1) (fun e => by have := (hA _ e).1; omega) (fun e => by have := (hA _ e).1; omega)
  obtain ⟨w2, hw2⟩ : ∃ w2, w2 = w1.alloc (.cells #[.func (.func 146) #[] #[.pointer (some ⟨w.heap.size, 0, none⟩), .pointer (some ⟨w.heap.size + 1, 0, none⟩)]] 188) := ⟨_, rfl⟩
  have b2 : Below w1.heap.size w1 w2 := by rw [hw2]; exact bal' _
  have hz1 : w1.heap.size = w.heap.size + 1 + 1 := by rw [hw1]; simp
  have hb : w2.cell? ⟨w1.heap.size, 0, none⟩ = some (.func (.func 146) #[] #[.pointer (some ⟨w.heap.size, 0, none⟩), .pointer (some ⟨w.heap.size + 1, 0, none⟩)]) := by
    rw [hw2]; exact (cell_of_row _ w1.heap.size 0 _ _ (0, 0) (heap_alloc_new w1 _)).trans rfl
  have hcells := goes_cells key hg
  have s2 := pairs1_seq (s1.later b2 (fun k hk => .inl hk)) eg41 (fun x hx => by
    obtain ⟨cs, n0, n1, n2⟩ := hcells x hx
    have b12 := b01.trans (b2.mono b01.size)
    exact ⟨ck b12 n1, ck2 b12 n2, fun e => (hA _ e).2 cs n0⟩) hb
  rw [hk] at s2
  have HF : Hid (SeqKV (t.toL.filter (fun x => decide (key ≤ x.1))) A w (.returned (.func (.func 153) #[] #[.pointer (some ⟨w1.heap.size, 0, none⟩)])) w2) := Lib.hid ⟨_, rfl, s2, b1.trans (b2.mono b1.size)⟩
  rw [hw2, hz1] at HF
  clear hw2 s2 hb b2 s1 c2 c1 hcells hk hg hq hr h hu hA b1 hz1 b01 hb0
  subst hw1
  go_enter Tryz.func136, Tryz.ntmps136
  go_wp2_with (go_at_call 145; (with_reducible refine pairs_any.mono ?_); rintro e w3 ⟨rfl, rfl⟩)
  go_ret
  exact HF.out
end Go.Proofs.YtohpaoleomcimaaGreat.bd
/-!   Package board: from an offset on.
-/
namespace Go.Proofs.YtohpaoleomcimaaGreat.bd
open Go.RowKit Go.Shelf aid mem rng sp rn bv
attribute [local go_sem] Oper.semAt_some
set_option linter.unusedVariables false
set_option linter.unusedSimpArgs false

theorem tlV_snoc (pre : List (Int × Vt)) (y : Int × Vt) : tlV (pre ++ [y]) = tlV pre ++ [y.2] := by unfold tlV; simp
theorem tlV_pre {L : List (Int × Vt)} {R : List Sp} (e : tlV L = R) {pre : List (Int × Vt)} {y : Int × Vt} (hp : pre ++ [y] <+: L) : tlV pre ++ [y.2] <+: R := by
  obtain ⟨t, rfl⟩ := hp
  rw [← e, ← tlV_snoc]
  unfold tlV
  rw [List.map_append (l₁ := pre ++ [y])]
  exact List.prefix_append _ _
set_option maxRecDepth 100000 in
set_option maxHeartbeats 4000000 in
theorem rise1_seq {w0 w : World} {p : Option Addr} {t : T} {l : List Sp} {o : Int} {bx bo : Nat} {A : Nat → Prop} (hb0 : Below w0.heap.size w0 w) (h : TrO w0 p t) (ht : t.toL = l.map ky) (hl : Rn l) (hx : w.cell? ⟨bx, 0, none⟩ = some (.pointer p)) (ho : w.cell? ⟨bo, 0, none⟩ = some (.int .i64 o)) (hA : FarR w0 w A) :
    SeqOf Tryz.prog 134 #[.pointer (some ⟨bx, 0, none⟩), .pointer (some ⟨bo, 0, none⟩)] spE (riseL l o) A w := by
  intro l' J Jx C0 W hW hC hJ hJx hY h0
  have hwW := hW.size
  have hu : T.Up t.toL := by rw [ht]; exact up_ky hl
  have hbW := hb0.trans (hW.mono hb0.size)
  have hF := hA.sub hb0 hC
  have cx := kcell hW hx
  have co := kcell hW ho
  show Calls Tryz.prog 134 #[.func (.yield l') #[] #[], .pointer (some ⟨bx, 0, none⟩), .pointer (some ⟨bo, 0, none⟩)] W _
  refine (callsIn_wide (n := 6)).1 ?_
  refine callsIn_of_wp_marks Tryz.func134 rfl trivial ?_ rfl
  simp only [Tryz.ntmps134, List.size_toArray, List.length_cons, List.length_nil, Nat.reduceAdd, Nat.reduceSub, Array.replicate_succ, Array.replicate_zero, List.push_toArray, List.append_toArray, List.nil_append, List.cons_append]
  have b1 := bal (w := W) (.cells #[.func (.yield l') #[] #[]] 57)
  have y1 := heap_alloc_new W (.cells #[.func (.yield l') #[] #[]] 57)
  have HY := Lib.hid hY
  have HJ := Lib.hid hJ
  have HJX := Lib.hid hJx
  have HC0 := Lib.hid (fun k hk => (hC k hk).2)
  have H0 := Lib.hid h0
  have HFL := Lib.hid (fun X (hX : Below W.heap.size W X) => tfloor_any (tr_later h (hbW.trans (hX.mono hbW.size))) o hu)
  have HFR := Lib.hid (fun X (hX : Below W.heap.size W X) (key : Int) => from_anyR (hbW.trans (hX.mono hbW.size)) h key hu C0 (hF.later hX))
  have HCX := Lib.hid (fun X (hX : Below W.heap.size W X) => And.intro (kcell hX cx) (kcell hX co))
  have HB1 := Lib.hid b1
  have HYD := Lib.hid (fun X (hX : Below (W.alloc (.cells #[.func (.yield l') #[] #[]] 57)).heap.size (W.alloc (.cells #[.func (.yield l') #[] #[]] 57)) X) => cofr ((hX.block _ (lt_of_block y1)).trans y1) 0 _ rfl)
  obtain ⟨q0, q1⟩ := HCX.out _ b1
  rw [ht] at HFL HFR
  have HK : Hid (∀ k, k = firstK l o → tlV ((l.map ky).filter (fun x => decide (k ≤ x.1))) = riseL l o) := Lib.hid (fun k e => by rw [e, rise_kv]; exact tlV_ky _)
  clear hY hJ hJx hC h0 hx ho h ht hl hu hbW hF cx co b1 y1 hA hW hb0 hwW
  have hfk : firstK l o = ((flL (l.map ky) o).map (fun x => x.1)).getD o := rfl
  rw [tupO_eq] at HFL
  generalize flL (l.map ky) o = fl at *
  generalize l.map ky = M at *
  have hmo : Tryz.prog.follows .mixedOrders = true := by kernel_rfl
  gi_wp2
  refine ⟨trivial, ?_⟩
  refine (callsIn_wide.2 (HFL.out _ HB1.out)).mono ?_
  rintro e w3 ⟨rfl, h3⟩
  have h13 := HB1.out.trans (h3.mono HB1.out.size)
  have c3 := HCX.out _ h13
  obtain ⟨d0, d1⟩ := c3
  have hy3 := HYD.out _ h3
  clear q0 q1
  rcases fl with _ | fl
  · have b4 := bal (w := w3) (.cells #[.int .i64 0, .int .i64 0] 24)
    have h4 := h13.trans (b4.mono h13.size)
    have hy4 := HYD.out _ (h3.trans (b4.mono h3.size))
    obtain ⟨e0, e1⟩ := HCX.out _ h4
    have HFR4 := Lib.hid (HFR.out _ h4)
    simp only [Option.map_none, Option.getD_none] at hfk
    have HK2 := Lib.hid (HK.out _ hfk.symm)
    clear HFR HFL HCX HYD HK h13 h3 b4 hfk HB1 hy3 d0 d1
    simp only [oK]
    gi_wp2
    refine ⟨trivial, ?_⟩
    refine (callsIn_wide.2 (HFR4.out _)).mono ?_
    rintro e w5 ⟨lb, rfl, hseq, h5⟩
    have hb5 := h4.trans (h5.mono h4.size)
    have hy5 := kcell h5 hy4
    have hz5 := h5.size
    have HSEQ := Lib.hid hseq
    have hWz : W.heap.size < w5.heap.size := World.block_lt_of_cell? w5 _ hy5
    have HGI : Hid (GvI W C0 l' tlV J [] C0 w5) := Lib.hid ⟨C0, gv_zero HJ.out HC0.out H0.out hb5 hy5⟩
    clear hseq h5 hy5 hy4 h4 HFR4 e0 e1 hz5
    have HPRE := Lib.hid (fun (pre : List (Int × Vt)) (y : Int × Vt) hp => tlV_pre HK2.out (pre := pre) (y := y) hp)
    have hLL := HK2.out
    clear HK2
    generalize List.filter _ M = L at *
    have HLL := Lib.hid hLL
    clear hLL
    gi_wp2
    refine wpIn_rangeBoxP (fun (b : Nat) (y : Int × Vt) (t : Array Value) => ((t.setIfInBounds 24 (.int .i64 y.1)).setIfInBounds 25 (spV y.2)).setIfInBounds 8 (.pointer (some ⟨b, 0, none⟩))) (gf := 153) (lb := lb) (L := L) (A := C0) (w0 := w5) (encs := kvE) rfl eg_kv HSEQ.out (Below.refl _ _) (fun _ => rfl)
      (GvI W C0 l' tlV J) (GvX (riseL l o) J Jx) C0 ?hc0 (gvi_bears HJ.out hWz) (gvx_bears HJ.out HJX.out (by omega)) HGI.out (GvB W C0 l' tlV J (fun y => y.2) w5.heap.size) (gvb_bears HJ.out hWz) ?assign ?body ?done ?stop
    case hc0 =>
      intro k hk
      have := HC0.out k hk
      exact ⟨.inl hk, by omega⟩
    case assign =>
      rintro l2 pre y C X K ⟨Co, hI⟩ hp hc hz hK
      obtain ⟨g1, g2, g3⟩ := gv_box HJ.out hI (by omega) y.2
      have HK := Lib.hid (hK X.heap.size _ _ g1 ⟨Co, g2⟩ ⟨Co, g2, sp_new X y.2, .inr rfl, g3, hz⟩)
      clear hK hI hp hc g1 g2 g3
      gi_wp2
      exact HK.out
    case body =>
      rintro l2 pre y b C X _ ⟨Co, hI, hyb, hCb, hnb, hbD⟩ hp hcc hz
      have hpr := HPRE.out pre y hp
      have HI := Lib.hid hI
      have hyd := hI.yd
      have e2 := hyb.c0; have e3 := hyb.c1
      have hyq := HY.out _ _ Co X hI.j hI.it.kept.size hpr
      obtain ⟨fn, tmps, assign, body, hyy, hYY⟩ := hyq.inRound l2 3
      clear hyq hpr hI hcc HSEQ HGI hyb
      simp only [List.setIfInBounds_toArray, List.set_cons_zero, List.set_cons_succ]
      generalize hRP : rPost (GvI W C0 l' tlV J) (GvX (riseL l o) J Jx) (pre ++ [y]) C X = RP at *
      have HRN := Lib.hid (fun (C' : Nat → Prop) (W' : World) (hr : Round C X C' W') (hg : GvI W C0 l' tlV J (pre ++ [y]) C' W') (a' : Act) => show RP .normal a' W' from by rw [← hRP]; exact ⟨C', hr, hg⟩)
      have HRR := Lib.hid (fun (C' : Nat → Prop) (W' : World) (hr : Round C X C' W') (hg : GvX (riseL l o) J Jx .ret (pre ++ [y]) C' W') (a' : Act) => show RP .ret a' W' from by rw [← hRP]; exact ⟨C', hr, hg⟩)
      clear hRP
      gi_wp2
      refine hYY.mono ?_
      clear hyy hYY
      rintro e w6 ⟨C2, hr2, ⟨rfl, hJ2⟩ | ⟨rfl, hJ2⟩⟩
      · obtain ⟨C', hrr, hgg⟩ := gv_next (y := y) HI.out (by omega) (Below.refl _ X) HI.out.it hr2 hJ2 (tlV_snoc pre y)
        have HFIN := Lib.hid (HRN.out C' _ hrr hgg)
        clear hrr hgg hr2 hJ2 e2 e3 hyd
        gi_wp2
        exact HFIN.out _
      · obtain ⟨C', hrr, hgg⟩ := gv_stop (xs := pre ++ [y]) (all := riseL l o) HI.out (Below.refl _ X) hr2 hJ2
        have HFIN := Lib.hid (HRR.out C' _ hrr hgg)
        clear hrr hgg hr2 hJ2 e2 e3 hyd
        gi_wp2
        exact HFIN.out _
    case done =>
      rintro D C X hD hCD ⟨Co, hI⟩ hK
      have hnD : ¬ Co D := fun e => hCD (hI.sub _ e)
      have HF := Lib.hid (HJ.out _ _ _ _ hI.j hI.it.kept.size (rng.Steps.putObj (fun k => k < W.heap.size ∨ Co k) X D (.deferred none) (by rintro (e | e); omega; exact hnD e)))
      have HK4 := Lib.hid hK
      clear hI hK HGI HSEQ hnD
      gi_wp2
      refine ⟨by simp, .inl ⟨_, _, rfl, run_takeDeferred HK4.out, ?_⟩⟩
      exact ⟨_, results_none rfl _ _ _, ⟨_, rfl⟩, Co, .inl (by rw [← HLL.out]; exact HF.out)⟩
    case stop =>
      rintro D c pre C X hD hCD ⟨rfl, Co, h1, hj⟩ hK
      have hX : W.heap.size ≤ X.heap.size := by have := lt_of_block hK; omega
      have hst := rng.Steps.putObj (fun k => k < W.heap.size ∨ Co k) X D (.deferred none) (by rintro (e | e); omega; exact hCD (h1 _ e))
      have HF : Hid (∃ C', J (riseL l o) C' (X.putObj D (.deferred none)) ∨ ∃ told, Jx told C' (X.putObj D (.deferred none))) := Lib.hid (by
        rcases hj with hj | ⟨told, hj⟩
        · exact ⟨Co, .inl (HJ.out _ _ _ _ hj hX hst)⟩
        · exact ⟨Co, .inr ⟨told, HJX.out _ _ _ _ hj hX hst⟩⟩)
      have HK4 := Lib.hid hK
      clear hj hst hK HGI HSEQ
      gi_wp2
      refine ⟨by simp, .inl ⟨_, _, rfl, run_takeDeferred HK4.out, ?_⟩⟩
      exact ⟨_, results_none rfl _ _ _, ⟨_, rfl⟩, HF.out⟩
  · have b4 := bal (w := w3) (.cells #[.int .i64 fl.2.1, .int .i64 fl.2.2] 24)
    have h4 := h13.trans (b4.mono h13.size)
    have hy4 := HYD.out _ (h3.trans (b4.mono h3.size))
    obtain ⟨e0, e1⟩ := HCX.out _ h4
    have HFR4 := Lib.hid (HFR.out _ h4)
    simp only [Option.map_some, Option.getD_some] at hfk
    have HK2 := Lib.hid (HK.out _ hfk.symm)
    clear HFR HFL HCX HYD HK h13 h3 b4 hfk HB1 hy3 d0 d1
    simp only [oK]
    gi_wp2
    refine ⟨trivial, ?_⟩
    refine (callsIn_wide.2 (HFR4.out _)).mono ?_
    rintro e w5 ⟨lb, rfl, hseq, h5⟩
    have hb5 := h4.trans (h5.mono h4.size)
    have hy5 := kcell h5 hy4
    have hz5 := h5.size
    have HSEQ := Lib.hid hseq
    have hWz : W.heap.size < w5.heap.size := World.block_lt_of_cell? w5 _ hy5
    have HGI : Hid (GvI W C0 l' tlV J [] C0 w5) := Lib.hid ⟨C0, gv_zero HJ.out HC0.out H0.out hb5 hy5⟩
    clear hseq h5 hy5 hy4 h4 HFR4 e0 e1 hz5
    have HPRE := Lib.hid (fun (pre : List (Int × Vt)) (y : Int × Vt) hp => tlV_pre HK2.out (pre := pre) (y := y) hp)
    have hLL := HK2.out
    clear HK2
    generalize List.filter _ M = L at *
    have HLL := Lib.hid hLL
    clear hLL
    gi_wp2
    refine wpIn_rangeBoxP (fun (b : Nat) (y : Int × Vt) (t : Array Value) => ((t.setIfInBounds 24 (.int .i64 y.1)).setIfInBounds 25 (spV y.2)).setIfInBounds 8 (.pointer (some ⟨b, 0, none⟩))) (gf := 153) (lb := lb) (L := L) (A := C0) (w0 := w5) (encs := kvE) rfl eg_kv HSEQ.out (Below.refl _ _) (fun _ => rfl)
      (GvI W C0 l' tlV J) (GvX (riseL l o) J Jx) C0 ?hc0 (gvi_bears HJ.out hWz) (gvx_bears HJ.out HJX.out (by omega)) HGI.out (GvB W C0 l' tlV J (fun y => y.2) w5.heap.size) (gvb_bears HJ.out hWz) ?assign ?body ?done ?stop
    case hc0 =>
      intro k hk
      have := HC0.out k hk
      exact ⟨.inl hk, by omega⟩
    case assign =>
      rintro l2 pre y C X K ⟨Co, hI⟩ hp hc hz hK
      obtain ⟨g1, g2, g3⟩ := gv_box HJ.out hI (by omega) y.2
      have HK := Lib.hid (hK X.heap.size _ _ g1 ⟨Co, g2⟩ ⟨Co, g2, sp_new X y.2, .inr rfl, g3, hz⟩)
      clear hK hI hp hc g1 g2 g3
      gi_wp2
      exact HK.out
    case body =>
      rintro l2 pre y b C X _ ⟨Co, hI, hyb, hCb, hnb, hbD⟩ hp hcc hz
      have hpr := HPRE.out pre y hp
      have HI := Lib.hid hI
      have hyd := hI.yd
      have e2 := hyb.c0; have e3 := hyb.c1
      have hyq := HY.out _ _ Co X hI.j hI.it.kept.size hpr
      obtain ⟨fn, tmps, assign, body, hyy, hYY⟩ := hyq.inRound l2 3
      clear hyq hpr hI hcc HSEQ HGI hyb
      simp only [List.setIfInBounds_toArray, List.set_cons_zero, List.set_cons_succ]
      generalize hRP : rPost (GvI W C0 l' tlV J) (GvX (riseL l o) J Jx) (pre ++ [y]) C X = RP at *
      have HRN := Lib.hid (fun (C' : Nat → Prop) (W' : World) (hr : Round C X C' W') (hg : GvI W C0 l' tlV J (pre ++ [y]) C' W') (a' : Act) => show RP .normal a' W' from by rw [← hRP]; exact ⟨C', hr, hg⟩)
      have HRR := Lib.hid (fun (C' : Nat → Prop) (W' : World) (hr : Round C X C' W') (hg : GvX (riseL l o) J Jx .ret (pre ++ [y]) C' W') (a' : Act) => show RP .ret a' W' from by rw [← hRP]; exact ⟨C', hr, hg⟩)
      clear hRP
      gi_wp2
      refine hYY.mono ?_
      clear hyy hYY
      rintro e w6 ⟨C2, hr2, ⟨rfl, hJ2⟩ | ⟨rfl, hJ2⟩⟩
      · obtain ⟨C', hrr, hgg⟩ := gv_next (y := y) HI.out (by omega) (Below.refl _ X) HI.out.it hr2 hJ2 (tlV_snoc pre y)
        have HFIN := Lib.hid (HRN.out C' _ hrr hgg)
        clear hrr hgg hr2 hJ2 e2 e3 hyd
        gi_wp2
        exact HFIN.out _
      · obtain ⟨C', hrr, hgg⟩ := gv_stop (xs := pre ++ [y]) (all := riseL l o) HI.out (Below.refl _ X) hr2 hJ2
        have HFIN := Lib.hid (HRR.out C' _ hrr hgg)
        clear hrr hgg hr2 hJ2 e2 e3 hyd
        gi_wp2
        exact HFIN.out _
    case done =>
      rintro D C X hD hCD ⟨Co, hI⟩ hK
      have hnD : ¬ Co D := fun e => hCD (hI.sub _ e)
      have HF := Lib.hid (HJ.out _ _ _ _ hI.j hI.it.kept.size (rng.Steps.putObj (fun k => k < W.heap.size ∨ Co k) X D (.deferred none) (by rintro (e | e); omega; exact hnD e)))
      have HK4 := Lib.hid hK
      clear hI hK HGI HSEQ hnD
      gi_wp2
      refine ⟨by simp, .inl ⟨_, _, rfl, run_takeDeferred HK4.out, ?_⟩⟩
      exact ⟨_, results_none rfl _ _ _, ⟨_, rfl⟩, Co, .inl (by rw [← HLL.out]; exact HF.out)⟩
    case stop =>
      rintro D c pre C X hD hCD ⟨rfl, Co, h1, hj⟩ hK
      have hX : W.heap.size ≤ X.heap.size := by have := lt_of_block hK; omega
      have hst := rng.Steps.putObj (fun k => k < W.heap.size ∨ Co k) X D (.deferred none) (by rintro (e | e); omega; exact hCD (h1 _ e))
      have HF : Hid (∃ C', J (riseL l o) C' (X.putObj D (.deferred none)) ∨ ∃ told, Jx told C' (X.putObj D (.deferred none))) := Lib.hid (by
        rcases hj with hj | ⟨told, hj⟩
        · exact ⟨Co, .inl (HJ.out _ _ _ _ hj hX hst)⟩
        · exact ⟨Co, .inr ⟨told, HJX.out _ _ _ _ hj hX hst⟩⟩)
      have HK4 := Lib.hid hK
      clear hj hst hK HGI HSEQ
      gi_wp2
      refine ⟨by simp, .inl ⟨_, _, rfl, run_takeDeferred HK4.out, ?_⟩⟩
      exact ⟨_, results_none rfl _ _ _, ⟨_, rfl⟩, HF.out⟩

theorem eg_rise (args : Array Value) (w : World) : (callFunc 134 args).run Tryz.prog w = .ok (.enter 134 args) w := by kernel_rfl
/-- the spans from an offset on -/
theorem rise_any {w0 w : World} {p : Option Addr} {t : T} {l : List Sp} (hb0 : Below w0.heap.size w0 w) (h : TrO w0 p t) (ht : t.toL = l.map ky) (hl : Rn l) (o : Int) (A : Nat → Prop) (hA : FarR w0 w A) :
    Calls Tryz.prog 118 #[.agg #[.pointer p], .int .i64 o] w (SeqS 134 (riseL l o) A w) := by
  have b1 := bal (w := w) (.cells #[.pointer p] 107)
  have x1 := heap_alloc_new w (.cells #[.pointer p] 107)
  have hz1 : (w.alloc (.cells #[.pointer p] 107)).heap.size = w.heap.size + 1 := by simp
  have b2 := bal (w := w.alloc (.cells #[.pointer p] 107)) (.cells #[.int .i64 o] 3)
  have x2 := heap_alloc_new (w.alloc (.cells #[.pointer p] 107)) (.cells #[.int .i64 o] 3)
  rw [hz1] at x2
  have c1 := cofr ((b2.block _ (lt_of_block x1)).trans x1) 0 _ rfl
  have c2 := cofr x2 0 _ rfl
  have b3 := b1.trans (b2.mono b1.size)
  have HF := Lib.hid (show SeqS 134 (riseL l o) A w (.returned (.func (.func 134) #[] #[.pointer (some ⟨w.heap.size, 0, none⟩), .pointer (some ⟨w.heap.size + 1, 0, none⟩)])) _ from
    ⟨_, rfl, rise1_seq (A := A) (hb0.trans (b3.mono hb0.size)) h ht hl c1 c2 (hA.later b3), b3⟩)
  clear b1 x1 hz1 b2 x2 c1 c2 b3 hA h hb0 ht hl
  go_enter Tryz.func118, Tryz.ntmps118
  go_wp2_with fail
  go_ret
  exact HF.out
end Go.Proofs.YtohpaoleomcimaaGreat.bd
/-!   Package board: going through what of a span is in.
-/
namespace Go.Proofs.YtohpaoleomcimaaGreat.bd
open Go.RowKit Go.Shelf aid mem rng sp rn bv
attribute [local go_sem] Oper.semAt_some
set_option linter.unusedVariables false
set_option linter.unusedSimpArgs false

set_option maxRecDepth 100000 in
set_option maxHeartbeats 4000000 in
theorem parts1_seq {w0 w : World} {p : Option Addr} {t : T} {l : List Sp} {s : Sp} {bx bs : Nat} {A : Nat → Prop} (hb0 : Below w0.heap.size w0 w) (h : TrO w0 p t) (ht : t.toL = l.map ky) (hl : Rn l) (hx : w.cell? ⟨bx, 0, none⟩ = some (.pointer p)) (hs : SpAt w bs s) (has : ¬ A bs) (hA : FarR w0 w A) :
    SeqOf Tryz.prog 139 #[.pointer (some ⟨bx, 0, none⟩), .pointer (some ⟨bs, 0, none⟩)] spE (partsL l s) A w := by
  intro l' J Jx C0 W hW hC hJ hJx hY h0
  have hwW := hW.size
  have hbW := hb0.trans (hW.mono hb0.size)
  have hF := hA.sub hb0 hC
  have cx := kcell hW hx
  have sW := hs.later hW
  have ns : ¬ C0 bs := fun e => by
    rcases (hC _ e).1 with q | q
    · exact has q
    · have := hs.lt; omega
  show Calls Tryz.prog 139 #[.func (.yield l') #[] #[], .pointer (some ⟨bx, 0, none⟩), .pointer (some ⟨bs, 0, none⟩)] W _
  refine (callsIn_wide (n := 6)).1 ?_
  refine callsIn_of_wp_marks Tryz.func139 rfl trivial ?_ rfl
  simp only [Tryz.ntmps139, List.size_toArray, List.length_cons, List.length_nil, Nat.reduceAdd, Nat.reduceSub, Array.replicate_succ, Array.replicate_zero, List.push_toArray, List.append_toArray, List.nil_append, List.cons_append]
  have b1 := bal (w := W) (.cells #[.func (.yield l') #[] #[]] 57)
  have y1 := heap_alloc_new W (.cells #[.func (.yield l') #[] #[]] 57)
  have HY := Lib.hid hY
  have HJ := Lib.hid hJ
  have HJX := Lib.hid hJx
  have HC0 := Lib.hid (fun k hk => (hC k hk).2)
  have H0 := Lib.hid h0
  have HRS := Lib.hid (rise_any (hbW.trans (b1.mono hbW.size)) h ht hl s.1 C0 (hF.later b1))
  have q0 := kcell b1 cx
  have q1 := (sW.later b1).c0
  have y2 := cofr y1 0 _ rfl
  have HB1 := Lib.hid b1
  have HSK := Lib.hid (fun C W1 (hI : It C0 W C W1) => show SpAt W1 bs s from hI.kept.heap (k := bs) ns sW)
  have HPRE := Lib.hid (fun (pre : List Sp) (y : Sp) (hp : pre ++ [y] <+: riseL l s.1) => show partsL pre s ++ ne (meetP y s) <+: partsL l s from by rw [← parts_rise hl s]; exact parts_pre hp)
  have HALL := Lib.hid (fun (pre : List Sp) (y : Sp) (hp : pre ++ [y] <+: riseL l s.1) (hy : s.2 ≤ y.1) => show partsL pre s = partsL l s from by
    rw [← parts_rise hl s]
    obtain ⟨rest, e⟩ := of_prefix hp
    exact (parts_stop (rise_rn hl s.1) e hy).symm)
  have HLL := Lib.hid (parts_rise hl s)
  clear hY hJ hJx hC h0 hx hs h ht hl hbW hF cx sW b1 y1 hA hW hb0 hwW has ns
  generalize riseL l s.1 = R at *
  have hmo : Tryz.prog.follows .mixedOrders = true := by kernel_rfl
  gi_wp2
  refine ⟨trivial, ?_⟩
  refine (callsIn_wide.2 HRS.out).mono ?_
  rintro e w5 ⟨lb, rfl, hseq, h5⟩
  have hb5 := HB1.out.trans (h5.mono HB1.out.size)
  have hy5 := kcell h5 y2
  have HSEQ := Lib.hid hseq
  have hWz : W.heap.size < w5.heap.size := World.block_lt_of_cell? w5 _ hy5
  have HGI : Hid (GvI W C0 l' (fun pre => partsL pre s) J [] C0 w5) := Lib.hid ⟨C0, gv_zero HJ.out HC0.out H0.out hb5 hy5⟩
  clear hseq h5 hy5 y2 q0 q1 hb5 HB1 HRS
  gi_wp2
  refine wpIn_rangeBoxP (fun (b : Nat) (y : Sp) (t : Array Value) => (t.setIfInBounds 10 (spV y)).setIfInBounds 4 (.pointer (some ⟨b, 0, none⟩))) (gf := 134) (lb := lb) (L := R) (A := C0) (w0 := w5) (encs := spE) rfl eg_rise HSEQ.out (Below.refl _ _) (fun _ => rfl)
    (GvI W C0 l' (fun pre => partsL pre s) J) (GvX (partsL l s) J Jx) C0 ?hc0 (gvi_bears HJ.out hWz) (gvx_bears HJ.out HJX.out (by omega)) HGI.out (GvB W C0 l' (fun pre => partsL pre s) J (fun y => y) w5.heap.size) (gvb_bears HJ.out hWz) ?assign ?body ?done ?stop
  case hc0 =>
    intro k hk
    have := HC0.out k hk
    exact ⟨.inl hk, by omega⟩
  case assign =>
    rintro l2 pre y C X K ⟨Co, hI⟩ hp hc hz hK
    obtain ⟨g1, g2, g3⟩ := gv_box HJ.out hI (by omega) y
    have HK := Lib.hid (hK X.heap.size _ _ g1 ⟨Co, g2⟩ ⟨Co, g2, sp_new X y, .inr rfl, g3, hz⟩)
    clear hK hI hp hc g1 g2 g3
    gi_wp2
    exact HK.out
  case body =>
    rintro l2 pre y b C X _ ⟨Co, hI, hyb, hCb, hnb, hbD⟩ hp hcc hz
    have hpr := HPRE.out pre y hp
    have hal := HALL.out pre y hp
    have hsn := parts_snoc pre y s
    have HMT := Lib.hid (fun X => meet_any y s X)
    generalize meetP y s = m at *
    have HLN := Lib.hid (fun X => len_any m X)
    have HPR := Lib.hid hpr
    have HSN := Lib.hid hsn
    have HAL := Lib.hid hal
    have hsX := HSK.out _ _ hI.it
    have HI := Lib.hid hI
    have hyd := hI.yd
    have e0 := hsX.c0; have e1 := hsX.c1
    have e2 := hyb.c0; have e3 := hyb.c1
    clear hpr hsn hal hI hcc HSEQ HGI hp
    simp only [List.setIfInBounds_toArray, List.set_cons_zero, List.set_cons_succ]
    generalize hRP : rPost (GvI W C0 l' (fun pre => partsL pre s) J) (GvX (partsL l s) J Jx) (pre ++ [y]) C X = RP at *
    have HRN := Lib.hid (fun (C' : Nat → Prop) (W' : World) (hr : Round C X C' W') (hg : GvI W C0 l' (fun pre => partsL pre s) J (pre ++ [y]) C' W') (a' : Act) => show RP .normal a' W' from by rw [← hRP]; exact ⟨C', hr, hg⟩)
    have HRR := Lib.hid (fun (C' : Nat → Prop) (W' : World) (hr : Round C X C' W') (hg : GvX (partsL l s) J Jx .ret (pre ++ [y]) C' W') (a' : Act) => show RP .ret a' W' from by rw [← hRP]; exact ⟨C', hr, hg⟩)
    clear hRP
    by_cases hst : s.2 ≤ y.1
    · obtain ⟨C', hrr, hgg⟩ := gv_all (Jx := Jx) (xs := pre ++ [y]) (all := partsL l s) HJ.out HI.out (Below.refl _ X) (HAL.out hst)
      have HFIN := Lib.hid (HRR.out C' _ hrr hgg)
      clear hrr hgg hyd hsX hyb
      gi_wp2
      exact HFIN.out _
    · gi_wp2
      refine ⟨trivial, ?_⟩
      refine (callsIn_wide.2 (HMT.out _)).mono ?_
      rintro e w2 ⟨rfl, h2⟩
      have b3 := bal (w := w2) (.cells #[.int .i64 m.1, .int .i64 m.2] 24)
      have h3 := h2.trans (b3.mono h2.size)
      have m3 := sp_new w2 m
      have hyd3 := kcell h3 hyd
      clear e0 e1 e2 e3 b3 h2 HMT hst hyb hsX hyd
      have d0 := m3.c0; have d1 := m3.c1
      gi_wp2
      refine ⟨trivial, ?_⟩
      refine (callsIn_wide.2 (HLN.out _)).mono ?_
      rintro e w4 ⟨rfl, h4⟩
      have h34 := h3.trans (h4.mono h3.size)
      have m4 := m3.later h4
      have hyd4 := kcell h4 hyd3
      clear d0 d1 hyd3 m3 h4 h3 HLN
      have hg4 := gv_own (D := X.heap.size) HJ.out (by omega) HI.out (Steps.of_below h34 _)
      by_cases hm : 0 < lenI m
      · have hne : ne m = [m] := by unfold ne; rw [if_neg (by omega)]
        have hpr := HPR.out
        rw [hne] at hpr
        have hyq := HY.out _ _ Co w4 hg4.j hg4.it.kept.size hpr
        obtain ⟨fn, tmps, assign, body, hyy, hYY⟩ := hyq.inRound l2 3
        have q0 := m4.c0; have q1 := m4.c1
        have HNE := Lib.hid hne
        have HG4 := Lib.hid hg4
        have HH := Lib.hid h34
        clear hyq hpr hne hg4 h34 m4
        gi_wp2
        refine hYY.mono ?_
        clear hyy hYY q0 q1
        rintro e w6 ⟨C2, hr2, ⟨rfl, hJ2⟩ | ⟨rfl, hJ2⟩⟩
        · obtain ⟨C', hrr, hgg⟩ := gv_next (tl := fun pre => partsL pre s) (y := y) HI.out (by omega) HH.out HG4.out.it hr2 hJ2 (by show partsL (pre ++ [y]) s = _; rw [HSN.out, HNE.out])
          have HFIN := Lib.hid (HRN.out C' _ hrr hgg)
          clear hrr hgg hr2 hJ2 hyd4 hm
          gi_wp2
          exact HFIN.out _
        · obtain ⟨C', hrr, hgg⟩ := gv_stop (J := J) (xs := pre ++ [y]) (all := partsL l s) HI.out HH.out hr2 hJ2
          have HFIN := Lib.hid (HRR.out C' _ hrr hgg)
          clear hrr hgg hr2 hJ2 hyd4 hm
          gi_wp2
          exact HFIN.out _
      · have hne : ne m = [] := by unfold ne; rw [if_pos (by have := (lenI_bd m).1; omega)]
        obtain ⟨C', hrr, hgg⟩ := gv_skip (tl := fun pre => partsL pre s) (y := y) HJ.out HI.out (by omega) h34 (by show partsL (pre ++ [y]) s = _; rw [HSN.out, hne, List.append_nil])
        have HFIN := Lib.hid (HRN.out C' _ hrr hgg)
        have q0 := m4.c0; have q1 := m4.c1
        clear hrr hgg hg4 hyd4 hne m4 h34
        gi_wp2
        refine ⟨(fun f hf => by cases hf), ?_⟩
        gi_wp2
        exact HFIN.out _
  case done =>
    rintro D C X hD hCD ⟨Co, hI⟩ hK
    have hnD : ¬ Co D := fun e => hCD (hI.sub _ e)
    have HF := Lib.hid (HJ.out _ _ _ _ hI.j hI.it.kept.size (rng.Steps.putObj (fun k => k < W.heap.size ∨ Co k) X D (.deferred none) (by rintro (e | e); omega; exact hnD e)))
    have HK4 := Lib.hid hK
    clear hI hK HGI HSEQ hnD
    gi_wp2
    refine ⟨by simp, .inl ⟨_, _, rfl, run_takeDeferred HK4.out, ?_⟩⟩
    exact ⟨_, results_none rfl _ _ _, ⟨_, rfl⟩, Co, .inl (by rw [← HLL.out]; exact HF.out)⟩
  case stop =>
    rintro D c pre C X hD hCD ⟨rfl, Co, h1, hj⟩ hK
    have hX : W.heap.size ≤ X.heap.size := by have := lt_of_block hK; omega
    have hst := rng.Steps.putObj (fun k => k < W.heap.size ∨ Co k) X D (.deferred none) (by rintro (e | e); omega; exact hCD (h1 _ e))
    have HF : Hid (∃ C', J (partsL l s) C' (X.putObj D (.deferred none)) ∨ ∃ told, Jx told C' (X.putObj D (.deferred none))) := Lib.hid (by
      rcases hj with hj | ⟨told, hj⟩
      · exact ⟨Co, .inl (HJ.out _ _ _ _ hj hX hst)⟩
      · exact ⟨Co, .inr ⟨told, HJX.out _ _ _ _ hj hX hst⟩⟩)
    have HK4 := Lib.hid hK
    clear hj hst hK HGI HSEQ
    gi_wp2
    refine ⟨by simp, .inl ⟨_, _, rfl, run_takeDeferred HK4.out, ?_⟩⟩
    exact ⟨_, results_none rfl _ _ _, ⟨_, rfl⟩, HF.out⟩
theorem eg_parts (args : Array Value) (w : World) : (callFunc 139 args).run Tryz.prog w = .ok (.enter 139 args) w := by kernel_rfl
/-- what of a span is in -/
theorem sparts_any {w0 w : World} {p : Option Addr} {t : T} {l : List Sp} (hb0 : Below w0.heap.size w0 w) (h : TrO w0 p t) (ht : t.toL = l.map ky) (hl : Rn l) (s : Sp) (A : Nat → Prop) (hA : FarR w0 w A) :
    Calls Tryz.prog 128 #[.agg #[.pointer p], spV s] w (SeqS 139 (partsL l s) A w) := by
  have b1 := bal (w := w) (.cells #[.pointer p] 107)
  have x1 := heap_alloc_new w (.cells #[.pointer p] 107)
  have hz1 : (w.alloc (.cells #[.pointer p] 107)).heap.size = w.heap.size + 1 := by simp
  have b2 := bal (w := w.alloc (.cells #[.pointer p] 107)) (.cells #[.int .i64 s.1, .int .i64 s.2] 24)
  have s2 := sp_new (w.alloc (.cells #[.pointer p] 107)) s
  rw [hz1] at s2
  have c1 := cofr ((b2.block _ (lt_of_block x1)).trans x1) 0 _ rfl
  have b3 := b1.trans (b2.mono b1.size)
  have HF := Lib.hid (show SeqS 139 (partsL l s) A w (.returned (.func (.func 139) #[] #[.pointer (some ⟨w.heap.size, 0, none⟩), .pointer (some ⟨w.heap.size + 1, 0, none⟩)])) _ from
    ⟨_, rfl, parts1_seq (A := A) (hb0.trans (b3.mono hb0.size)) h ht hl c1 s2 (fun e => by have := (hA _ e).1; omega) (hA.later b3), b3⟩)
  clear b1 x1 hz1 b2 s2 c1 b3 hA h hb0 ht hl
  go_enter Tryz.func128, Tryz.ntmps128
  go_wp2_with fail
  go_ret
  exact HF.out
end Go.Proofs.YtohpaoleomcimaaGreat.bd
/-!   Package runs: Gaps.
-/
namespace Go.Proofs.YtohpaoleomcimaaGreat.rn
open Go.RowKit Go.Shelf aid mem rng sp
attribute [local go_sem] Oper.semAt_some
set_option linter.unusedVariables false
set_option linter.unusedSimpArgs false

/-- what is left of a span behind some parts, and the gaps ahead of that -/
def restA (pre : List Sp) (s : Sp) : Sp := pre.foldl (fun r p => fromP r p.2) s
def doneL : List Sp → Sp → List Sp
  | [], _ => []
  | p :: ps, r => ne (belowP r p.1) ++ doneL ps (fromP r p.2)
theorem restA_snoc (pre : List Sp) (s p : Sp) : restA (pre ++ [p]) s = fromP (restA pre s) p.2 := by unfold restA; rw [List.foldl_append]; rfl
theorem doneL_snoc : ∀ (pre : List Sp) (s p : Sp), doneL (pre ++ [p]) s = doneL pre s ++ ne (belowP (restA pre s) p.1) := by
  intro pre
  induction pre with
  | nil => intro s p; simp [doneL, restA]
  | cons x pre ih =>
    intro s p
    rw [List.cons_append, doneL, ih, doneL, List.append_assoc]
    rfl
theorem gaps_cut : ∀ (pre post : List Sp) (s : Sp), gapsC (pre ++ post) s = doneL pre s ++ gapsC post (restA pre s) := by
  intro pre
  induction pre with
  | nil => intro post s; rfl
  | cons x pre ih =>
    intro post s
    rw [List.cons_append, gapsC, ih, doneL, List.append_assoc]
    rfl
/-- what Gaps' iterator knows between two rounds -/
structure GIc (W : World) (C0 : Nat → Prop) (F l : Nat) (s : Sp) (J : List Sp → (Nat → Prop) → World → Prop) (pre : List Sp) (Co C : Nat → Prop) (X : World) : Prop where
  sub : ∀ k, Co k → C k
  cF : C F
  j : J (doneL pre s) Co X
  it : It C0 W Co X
  nF : ¬ Co F
  nX : ¬ Co W.heap.size
  rest : SpAt X F (restA pre s)
  yd : X.cell? ⟨W.heap.size, 0, none⟩ = some (.func (.yield l) #[] #[])
def GI (W : World) (C0 : Nat → Prop) (F l : Nat) (s : Sp) (J : List Sp → (Nat → Prop) → World → Prop) (pre : List Sp) (C : Nat → Prop) (X : World) : Prop := ∃ Co, GIc W C0 F l s J pre Co C X
def GX (W : World) (Jx : List Sp → (Nat → Prop) → World → Prop) (c : Code) (pre : List Sp) (C : Nat → Prop) (X : World) : Prop := c = .ret ∧ ∃ Co told, (∀ k, Co k → C k) ∧ Jx told Co X
/-- a part's box beside it -/
def GB (W : World) (C0 : Nat → Prop) (F l : Nat) (s : Sp) (J : List Sp → (Nat → Prop) → World → Prop) (D : Nat) (pre : List Sp) (b : Nat) (y : Sp) (C : Nat → Prop) (X : World) : Prop :=
  ∃ Co, GIc W C0 F l s J pre Co C X ∧ SpAt X b y ∧ C b ∧ ¬ Co b ∧ D ≤ b
theorem gic_own {W : World} {C0 : Nat → Prop} {F l D : Nat} {s : Sp} {J : List Sp → (Nat → Prop) → World → Prop} {pre : List Sp} {Co C : Nat → Prop} {X Y : World} (hJ : Bears W.heap.size J) (hD : W.heap.size < D) (h : GIc W C0 F l s J pre Co C X) (hs : rng.Steps (fun k => k < D ∨ C k) X Y) : GIc W C0 F l s J pre Co C Y := by
  have hs' : rng.Steps (fun k => k < W.heap.size ∨ Co k) X Y := hs.mono (fun k _ hk => by
    rcases hk with hk | hk
    · exact .inl (by omega)
    · exact .inr (h.sub k hk))
  exact ⟨h.sub, h.cF, hJ _ _ _ _ h.j h.it.kept.size hs', h.it.own hs', h.nF, h.nX, hs.heap (.inr h.cF) h.rest, hs.cell (.inl (by simpa using hD)) h.yd⟩
theorem gaps_prefix {L pre : List Sp} {y s : Sp} (hp : pre ++ [y] <+: L) : doneL pre s ++ ne (belowP (restA pre s) y.1) <+: gapsC L s := by
  obtain ⟨t, rfl⟩ := hp
  rw [gaps_cut, doneL_snoc]
  exact List.prefix_append _ _
theorem gi_end {W : World} {C0 : Nat → Prop} {F l' : Nat} {s y r2 : Sp} {J : List Sp → (Nat → Prop) → World → Prop} {pre told : List Sp} {Co Co2 C : Nat → Prop} {X V V1 : World} (hJ : Bears W.heap.size J) (hWF : W.heap.size < F) (hI : GIc W C0 F l' s J pre Co C X) (hFX : F < X.heap.size) (hWX : W.heap.size ≤ X.heap.size)
    (e2 : restA (pre ++ [y]) s = r2) (e3 : doneL (pre ++ [y]) s = told) (hxv : Round C X (fun k => C k ∨ Co2 k) V) (hj : J told Co2 V) (hit : It C0 W Co2 V) (nF : ¬ Co2 F) (nX : ¬ Co2 W.heap.size) {q : Sp} (hrF : SpAt V F q) (hyd : V.cell? ⟨W.heap.size, 0, none⟩ = some (.func (.yield l') #[] #[]))
    (h1 : Below V.heap.size V V1) :
    ∃ C', Round C X C' ((V1.setCell ⟨F, 0, none⟩ (.int .i64 r2.1)).setCell ⟨F, 1, none⟩ (.int .i64 r2.2)) ∧ GI W C0 F l' s J (pre ++ [y]) C' ((V1.setCell ⟨F, 0, none⟩ (.int .i64 r2.1)).setCell ⟨F, 1, none⟩ (.int .i64 r2.2)) := by
  have hF1 := hrF.later h1
  have hput := hF1.put r2.1 r2.2
  have hst : ∀ K : Nat → Prop, ¬ K F → rng.Steps K V ((V1.setCell ⟨F, 0, none⟩ (.int .i64 r2.1)).setCell ⟨F, 1, none⟩ (.int .i64 r2.2)) := fun K hK =>
    ((Steps.of_below h1 K).trans (rng.Steps.setCell K V1 ⟨F, 0, none⟩ _ hK)).trans (rng.Steps.setCell K _ ⟨F, 1, none⟩ _ hK)
  generalize (V1.setCell ⟨F, 0, none⟩ (.int .i64 r2.1)).setCell ⟨F, 1, none⟩ (.int .i64 r2.2) = Y at *
  have s1 := hst (fun k => k < W.heap.size ∨ Co2 k) (by rintro (e | e); omega; exact nF e)
  refine ⟨fun k => C k ∨ Co2 k, hxv.trans ⟨hst _ (fun e => e (.inl hI.cF)), fun k hk => .inl hk⟩, Co2, ⟨fun k hk => .inr hk, .inl hI.cF, ?_, hit.own s1, nF, nX, by rw [e2]; exact hput, ?_⟩⟩
  · rw [e3]; exact hJ _ _ _ _ hj hit.kept.size s1
  · exact (hst (fun k => k = W.heap.size) (by omega)).cell rfl hyd
end Go.Proofs.YtohpaoleomcimaaGreat.rn
/-!   The law's list of all (told).
-/
namespace Go.Proofs.YtohpaoleomcimaaGreat.rn
open Go.RowKit Go.Shelf aid mem rng sp
attribute [local go_sem] Oper.semAt_some
set_option linter.unusedVariables false
set_option linter.unusedSimpArgs false

/-- a list of pairs is handed back, in memory of its own -/
def Told (L : List Sp) (w : World) (e : Ending) (W' : World) : Prop :=
  ∃ v, e = .returned v ∧ W'.ownsRow w.heap.size 24 2 v L.length (spCells L) ∧ Below w.heap.size w W'
/-- between two rounds: n0: the heap's size ahead; B: the list's box -/
def ToldI (w : World) (B : Nat) (pre : List Sp) (C : Nat → Prop) (W : World) : Prop :=
  ∃ v, W.heap[B]? = some (.cells #[v] 33 (0, 0)) ∧ C B ∧ W.ownsRow w.heap.size 24 2 v pre.length (spCells pre) ∧ (∀ k, v.ownBlock = some k → C k ∧ k ≠ B) ∧ Below w.heap.size w W
theorem told_bears (w : World) (B n : Nat) (hn : w.heap.size ≤ n) : Bears n (ToldI w B) := by
  rintro s C X Y ⟨v, h1, h2, h3, h4, h5⟩ hz hs
  exact ⟨v, hs.heap (.inr h2) h1, h2, own_step h3 (fun k o hk ho => hs.heap (.inr (h4 k hk).1) ho), h4, h5.trans (hs.below (by omega) (fun k hk => .inl (by omega)))⟩
/-- a round's end -/
theorem told_next {w X X1 w1 : World} {B : Nat} {pre : List Sp} {x : Sp} {C : Nat → Prop} {v v' : Value} (h1 : X.heap[B]? = some (.cells #[v] 33 (0, 0))) (h2 : C B) (h4 : ∀ k, v.ownBlock = some k → C k ∧ k ≠ B) (h5 : Below w.heap.size w X)
    (hb : w.heap.size ≤ B) (hX : X1 = X.alloc (.cells #[.int .i64 x.1, .int .i64 x.2] 24))
    (ho : w1.ownsRow w.heap.size 24 2 v' (pre.length + 1) (spCells pre ++ [.int .i64 x.1, .int .i64 x.2])) (hg : X1.grownBy w1 v.ownBlock) (hw : v'.ownBlock = v.ownBlock ∨ v'.ownBlock = some X1.heap.size)
    (hvb : ∀ k, v.ownBlock = some k → w.heap.size ≤ k) :
    ∃ C', Round C X C' (w1.setCell ⟨B, 0, none⟩ v') ∧ ToldI w B (pre ++ [x]) C' (w1.setCell ⟨B, 0, none⟩ v') := by
  have hz : X1.heap.size = X.heap.size + 1 := by rw [hX]; simp
  have b1 : Below X.heap.size X X1 := by rw [hX]; exact bal (w := X) _
  have hBX := lt_of_block h1
  have nB : v.ownBlock ≠ some B := fun e => (h4 B e).2 rfl
  have hB1 : w1.heap[B]? = some (.cells #[v] 33 (0, 0)) := (hg.block B (by omega) (fun e => nB e.symm)).trans ((b1.block B hBX).trans h1)
  have hzz : (w1.setCell ⟨B, 0, none⟩ v').heap.size = w1.heap.size := by simp
  have s1 : rng.Steps (fun k => ¬ C k) X (w1.setCell ⟨B, 0, none⟩ v') := by
    refine ((rng.Steps.of_below b1 _).trans (B := X1) ?_).trans (rng.Steps.setCell _ _ _ _ (fun e => e h2))
    exact ⟨hg.os, hg.tape, hg.output, hg.size, fun k hk hn => hg.block k hk (fun e => hn (h4 k e.symm).1)⟩
  refine ⟨fun k => C k ∨ (X.heap.size ≤ k ∧ k < w1.heap.size), ⟨s1, fun k hk => by rw [hzz]; exact hk⟩, v', (heap_setCell_same _ B 0 _ _ _ hB1).trans rfl, .inl h2, ?_, ?_, ?_⟩
  · rw [List.length_append, List.length_singleton, spCells_snoc]
    refine own_step ho (fun k o hk hko => (Below.heap_setCell w1 ⟨B, 0, none⟩ v' k ?_).trans hko)
    rintro rfl
    rcases hw with e | e
    · exact nB (e ▸ hk)
    · rw [e] at hk; cases hk; omega
  · intro k hk
    rcases hw with e | e
    · rw [e] at hk; exact ⟨.inl (h4 k hk).1, (h4 k hk).2⟩
    · rw [e] at hk
      cases hk
      have := (own_in ho e).1
      exact ⟨.inr ⟨by omega, by omega⟩, by omega⟩
  · refine ((h5.trans (b1.mono h5.size)).trans ?_).setCell (by simpa using hb) _
    exact ⟨hg.os, hg.tape, hg.output, hg.size, fun k hk => hg.block k (by have := h5.size; omega) (fun e => by have := hvb k e.symm; omega)⟩

end Go.Proofs.YtohpaoleomcimaaGreat.rn
/-!   Package board: those that touch one.
-/
namespace Go.Proofs.YtohpaoleomcimaaGreat.bd
open Go.RowKit Go.Shelf aid mem rng sp rn bv
attribute [local go_sem] Oper.semAt_some
set_option linter.unusedVariables false
set_option linter.unusedSimpArgs false

/-- between two rounds: those so far, and the span -/
def NI (w : World) (B bs : Nat) (s : Sp) (pre : List Sp) (C : Nat → Prop) (X : World) : Prop := ToldI w B (nearL pre s) C X ∧ SpAt X bs s ∧ ¬ C bs
def NX (w : World) (B : Nat) (all : List Sp) (c : Code) (pre : List Sp) (C : Nat → Prop) (X : World) : Prop := c = .exit 0 ∧ ToldI w B all C X
def NB (B bs D : Nat) (b : Nat) (y : Sp) (C : Nat → Prop) (X : World) : Prop := SpAt X b y ∧ D ≤ b ∧ C b ∧ (∃ v0, X.heap[B]? = some (.cells #[v0] 33 (0, 0)) ∧ v0.ownBlock ≠ some b)
theorem told_later {w X Y : World} {B : Nat} {pre : List Sp} {C : Nat → Prop} (h : ToldI w B pre C X) (hb : Below X.heap.size X Y) : ToldI w B pre C Y := by
  obtain ⟨v, h1, h2, h3, h4, h5⟩ := h
  exact ⟨v, (hb.block _ (lt_of_block h1)).trans h1, h2, own_later h3 hb, h4, h5.trans (hb.mono h5.size)⟩
theorem ni_bears {w : World} {B bs n : Nat} {s : Sp} (hn : w.heap.size ≤ n) (hs : bs < n) : Bears n (NI w B bs s) := by
  rintro pre C X Y ⟨h1, h2, h3⟩ hz hst
  exact ⟨told_bears w B n hn _ _ _ _ h1 hz hst, hst.heap (.inl hs) h2, h3⟩
set_option maxRecDepth 100000 in
set_option maxHeartbeats 4000000 in
theorem near_any {w : World} {p : Option Addr} {t : T} {l : List Sp} {s : Sp} (h : TrO w p t) (ht : t.toL = l.map ky) (hl : Rn l) (hn : l.length ≤ 10000) (hs : ROk s) :
    Calls Tryz.prog 93 #[.agg #[.pointer p], spV s] w (rn.Told (nearL l s) w) := by
  have b1 := bal (w := w) (.cells #[.pointer p] 107)
  have x1 := heap_alloc_new w (.cells #[.pointer p] 107)
  have hz1 : (w.alloc (.cells #[.pointer p] 107)).heap.size = w.heap.size + 1 := by simp
  have b2 := bal (w := w.alloc (.cells #[.pointer p] 107)) (.cells #[.int .i64 s.1, .int .i64 s.2] 24)
  have s2 := sp_new (w.alloc (.cells #[.pointer p] 107)) s
  have hz2 : ((w.alloc (.cells #[.pointer p] 107)).alloc (.cells #[.int .i64 s.1, .int .i64 s.2] 24)).heap.size = w.heap.size + 1 + 1 := by simp
  rw [hz1] at s2
  have b12 := b1.trans (b2.mono b1.size)
  have x2 := (b2.block _ (lt_of_block x1)).trans x1
  generalize hw2 : (w.alloc (.cells #[.pointer p] 107)).alloc (.cells #[.int .i64 s.1, .int .i64 s.2] 24) = w2 at *
  have b3 := bal (w := w2) (.cells #[.slice none 0 0] 33)
  have x3 := heap_alloc_new w2 (.cells #[.slice none 0 0] 33)
  rw [hz2] at x3
  have b13 := b12.trans (b3.mono b12.size)
  have HR := Lib.hid (rise_any (w0 := w) b13 h ht hl s.1 (fun k => k = w.heap.size + 1 + 1) (FarR.of b13 (fun k hk => by rw [hk]; simp; omega)))
  have q0 := cofr ((b3.block _ (lt_of_block x2)).trans x2) 0 _ rfl
  have q1 := (s2.later b3).c0
  have HX3 := Lib.hid x3
  have HS3 := Lib.hid (s2.later b3)
  have HB3 := Lib.hid b13
  have HLN := Lib.hid (show (riseL l s.1).length ≤ 10000 from Nat.le_trans (List.length_filter_le _ _) hn)
  have HALL := Lib.hid (fun (pre : List Sp) (y : Sp) (hp : pre ++ [y] <+: riseL l s.1) (hy : s.2 < y.1) => show nearL pre s = nearL l s from by
    rw [← near_rise hl hs]
    obtain ⟨rest, e⟩ := of_prefix hp
    exact (near_stop (rise_rn hl s.1) hs e hy).symm)
  have HLL := Lib.hid (near_rise hl hs)
  clear b1 x1 hz1 b2 s2 b12 x2 b3 x3 b13 h ht hl hn hs
  refine (callsIn_wide (n := 6)).1 ?_
  refine callsIn_of_wp_marks Tryz.func93 rfl trivial ?_ rfl
  simp only [Tryz.ntmps93, List.size_toArray, List.length_cons, List.length_nil, Nat.reduceAdd, Nat.reduceSub, Array.replicate_succ, Array.replicate_zero, List.push_toArray, List.append_toArray, List.nil_append, List.cons_append]
  generalize riseL l s.1 = R at *
  generalize nearL l s = NL at *
  gi_wp2
  rw [hw2] at *
  refine ⟨trivial, ?_⟩
  refine (callsIn_wide.2 HR.out).mono ?_
  rintro e w5 ⟨lb, rfl, hseq, h5⟩
  have hb5 := HB3.out.trans (h5.mono HB3.out.size)
  have hz5 := h5.size
  have hx5 := (h5.block _ (lt_of_block HX3.out)).trans HX3.out
  have hs5 := HS3.out.later h5
  have HSEQ := Lib.hid hseq
  have hB5 := lt_of_block hx5
  obtain ⟨B, hB⟩ : ∃ B, B = w.heap.size + 1 + 1 := ⟨_, rfl⟩
  obtain ⟨bs, hbs⟩ : ∃ bs, bs = w.heap.size + 1 := ⟨_, rfl⟩
  rw [hz2] at *
  rw [← hB] at hx5 HSEQ hB5 ⊢
  rw [← hbs] at hs5 ⊢
  have hwB : w.heap.size ≤ B := by omega
  have hbB : bs < B := by omega
  have HNI : Hid (NI w B bs s [] (fun k => k = B) w5) := Lib.hid ⟨⟨.slice none 0 0, hx5, rfl, World.ownsRow_nil _ _ _ _, (fun k hk => by cases hk), hb5⟩, hs5, by omega⟩
  clear hseq h5 q0 q1 hb5 HB3 HR hx5 hs5 HX3 HS3 hB hbs hz5 hz2 hw2
  gi_wp2
  refine wpIn_rangeBoxP (fun (b : Nat) (y : Sp) (t : Array Value) => (t.setIfInBounds 11 (spV y)).setIfInBounds 6 (.pointer (some ⟨b, 0, none⟩))) (gf := 134) (lb := lb) (L := R) (A := fun k => k = B) (w0 := w5) (encs := spE) rfl eg_rise HSEQ.out (Below.refl _ _) (fun _ => rfl)
    (NI w B bs s) (NX w B NL) (fun k => k = B) ?hc0 (ni_bears (by omega) (by omega)) ?hIx HNI.out (fun (pre : List Sp) => NB B bs w5.heap.size) ?hB ?assign ?body ?done ?stop
  case hc0 => rintro k rfl; exact ⟨.inl rfl, hB5⟩
  case hIx =>
    rintro c pre C X Y ⟨rfl, h⟩ hz hst
    exact ⟨rfl, told_bears w B _ (by omega) _ _ _ _ h hz hst⟩
  case hB =>
    rintro pre b y _ C X Y ⟨h1, h2, h3, v0, h4, h5⟩ hz hst
    exact ⟨hst.heap (.inr h3) h1, h2, h3, v0, hst.heap (.inl hB5) h4, h5⟩
  case assign =>
    rintro l2 pre y C X K ⟨⟨v, h1, h2, h3, h4, h5⟩, h6, h7⟩ hp hc hz hK
    have b1 := bal (w := X) (.cells #[.int .i64 y.1, .int .i64 y.2] 24)
    have h1' := (b1.block _ (lt_of_block h1)).trans h1
    have h6' := h6.later b1
    have HK := Lib.hid (hK X.heap.size (fun k => C k ∨ k = X.heap.size) _ ⟨Steps.of_below b1 _, fun k hk => by rcases hk with hk | rfl; exact .inl hk; exact .inr ⟨Nat.le_refl _, by simp⟩⟩
      ⟨⟨v, h1', .inl h2, own_later h3 b1, fun k hk => ⟨.inl (h4 k hk).1, (h4 k hk).2⟩, h5.trans (b1.mono h5.size)⟩, h6', fun e => by rcases e with e | e; exact h7 e; omega⟩ ⟨sp_new X y, hz, .inr rfl, v, h1', fun e => by have := (own_in h3 e).1; omega⟩)
    clear hK h1 h1' h2 h3 h4 h5 h6 h6' h7 hp hc b1
    gi_wp2
    exact HK.out
  case body =>
    rintro l2 pre y b C X ⟨⟨v, h1, h2, h3, h4, h5⟩, h6, h7⟩ ⟨hyb, hb, hcb, v0, hv0, hvb0⟩ hp hcc hz
    have hlen : (nearL pre s).length < 1000000 := by
      have a1 := hp.length_le
      have a2 := HLN.out
      have a3 : (nearL pre s).length ≤ pre.length := List.length_filter_le _ _
      rw [List.length_append, List.length_singleton] at a1
      omega
    have hsn := near_snoc pre y s
    have HAL := Lib.hid (HALL.out pre y hp)
    have e0 := hyb.c0; have e1 := hyb.c1
    have e2 := h6.c0; have e3 := h6.c1
    have HT := Lib.hid (fun X => touch_any y s X)
    have HTI : Hid (ToldI w B (nearL pre s) C X) := Lib.hid ⟨v, h1, h2, h3, h4, h5⟩
    have HYB := Lib.hid hyb
    have HCC := Lib.hid hcc
    have hbs : bs < X.heap.size := by omega
    obtain rfl : v0 = v := by rw [h1] at hv0; injection hv0 with e; injection e with e; simpa using e.symm
    have H6 := Lib.hid h6
    simp only [List.setIfInBounds_toArray, List.set_cons_zero, List.set_cons_succ]
    generalize hRP : rPost (NI w B bs s) (NX w B NL) (pre ++ [y]) C X = RP at *
    have HRN := Lib.hid (fun (C' : Nat → Prop) (W' : World) (hr : Round C X C' W') (hg : NI w B bs s (pre ++ [y]) C' W') (a' : Act) => show RP .normal a' W' from by rw [← hRP]; exact ⟨C', hr, hg⟩)
    have HRE := Lib.hid (fun (C' : Nat → Prop) (W' : World) (hr : Round C X C' W') (hg : NX w B NL (.exit 0) (pre ++ [y]) C' W') (a' : Act) => show RP (.exit 0) a' W' from by rw [← hRP]; exact ⟨C', hr, hg⟩)
    have H1 := Lib.hid h1
    have H3 := Lib.hid h3
    have H4 := Lib.hid h4
    have HV := Lib.hid (fun k hk => (own_in h3 (k := k) hk).2)
    have H5 := Lib.hid h5
    have H2 := Lib.hid h2
    have H7 := Lib.hid h7
    clear hRP h1 h3 h4 h5 h2 h7 h6 hyb hcc hp HSEQ HNI HALL HLL HLN hv0
    by_cases hst : s.2 < y.1
    · have HFIN := Lib.hid (HRE.out C X (Round.refl _ _) ⟨rfl, by rw [← HAL.out hst]; exact HTI.out⟩)
      clear hsn
      gi_wp2
      exact HFIN.out _
    · gi_wp2
      refine ⟨trivial, ?_⟩
      refine (callsIn_wide.2 (HT.out _)).mono ?_
      rintro e w2 ⟨rfl, h2⟩
      by_cases htc : touchB y s = true
      · rw [if_pos htc] at hsn
        have HSN := Lib.hid hsn
        rw [htc]
        have c2 := (HYB.out.later h2).c0; have c3 := (HYB.out.later h2).c1
        have x1 := (h2.block _ (lt_of_block H1.out)).trans H1.out
        have cB := cofr x1 0 _ rfl
        have hsrc := span_src w2 y
        have own2 := own_later (own_later H3.out h2) (bal (w := w2) (.cells #[.int .i64 y.1, .int .i64 y.2] 24))
        have d1 := kcell (bal (w := w2) (.cells #[.int .i64 y.1, .int .i64 y.2] 24)) cB
        have HN := Lib.hid (fun (w1 : World) (v' : Value) => told_next (w := w) (X := w2) (w1 := w1) (pre := nearL pre s) (x := y) (v' := v') x1 H2.out H4.out (H5.out.trans (h2.mono H5.out.size)) hwB rfl)
        have HO := Lib.hid own2
        have HSRC := Lib.hid hsrc
        have HX1 := Lib.hid x1
        have HH2 := Lib.hid h2
        obtain ⟨i0, hi, hz0, hz1, hz2⟩ := info_split info_span
        clear x1 own2 hsrc h2 hsn e0 e1 e2 e3 hst htc
        gi_wp2_with (gi_at_builtin; refine wpListIn_append_sz _ rfl (.tmp 20) (.tmp 22) 33 33 rfl w.heap.size 24 i0 (.agg #[.int .i64 0, .int .i64 0]) 2 16 Tryz.underlying33 hi hz0 hz1 (by decide) hz2 rfl v0 (nearL pre s).length (spCells (nearL pre s)) rfl HO.out _ rfl 1 [.int .i64 y.1, .int .i64 y.2] HSRC.out (by unfold maxLen; omega) (by omega) (by have := H5.out.size; have := HH2.out.size; simp; omega) ?_)
        intro a' cap' w1 ho hg hw
        obtain ⟨C', hr, hg'⟩ := HN.out w1 _ ho hg (by simpa using hw) HV.out
        have HF := Lib.hid (HRN.out C' _ ((Round.of_below HH2.out _).trans hr) ⟨by rw [HSN.out]; exact hg', hr.1.heap H7.out (H6.out.later HH2.out), fun e => by
          rcases hr.2 _ e with q | q
          · exact H7.out q
          · have := HH2.out.size; omega⟩)
        have hB1 : w1.heap[B]? = some (.cells #[v0] 33 (0, 0)) := (hg.block B (by have := lt_of_block HX1.out; simp; omega) (fun e => (H4.out _ e.symm).2 rfl)).trans ((bal (w := w2) (.cells #[.int .i64 y.1, .int .i64 y.2] 24)).block _ (lt_of_block HX1.out) |>.trans HX1.out)
        have g0 : w1.cell? ⟨B, 0, none⟩ = some v0 := (cell_of_row w1 B 0 _ _ (0, 0) hB1).trans rfl
        have g1 : w1.frozen? ⟨B, 0, none⟩ = false := by simp [World.frozen?, hB1]
        clear hB1 ho hg hw HO HSRC HN HV H1 H4 cB d1 c2 c3 hr hg'
        gi_wp2
        exact HF.out _
      · rw [if_neg htc, List.append_nil] at hsn
        have htf : touchB y s = false := by simpa using htc
        rw [htf]
        have HFIN := Lib.hid (HRN.out C w2 (Round.of_below h2 _) ⟨by rw [hsn]; exact told_later HTI.out h2, H6.out.later h2, H7.out⟩)
        clear e0 e1 e2 e3 hsn
        gi_wp2
        exact HFIN.out _
  case done =>
    rintro D C X hD hCD ⟨⟨v, h1, h2, h3, h4, h5⟩, h6, h7⟩ hK
    rw [HLL.out] at h3
    have cB := (cell_of_row X B 0 _ _ (0, 0) h1).trans rfl
    have nD : ∀ k, v.ownBlock = some k → k ≠ D := by rintro k hk rfl; exact hCD (h4 _ hk).1
    have hf : (X.putObj D (.deferred none)).ownsRow w.heap.size 24 2 v NL.length (spCells NL) := own_step h3 (fun k o hk ho => (World.putObj_heap_other (nD k hk)).trans ho)
    have hb' : Below w.heap.size w (X.putObj D (.deferred none)) := h5.trans ((rng.Steps.putObj (fun k => k < w.heap.size) X D _ (by omega)).below (n := w.heap.size) h5.size (fun k hk => hk))
    have HF := Lib.hid (show rn.Told NL w (.returned v) (X.putObj D (.deferred none)) from ⟨v, rfl, hf, hb'⟩)
    have HK4 := Lib.hid hK
    clear h1 h2 h3 h4 h5 h6 h7 nD hf hb' HSEQ HNI hK
    gi_wp2
    refine ⟨by simp, .inl ⟨_, _, rfl, run_takeDeferred HK4.out, ?_⟩⟩
    exact ⟨v, by simp [results, Tryz.results93, go_sem], HF.out⟩
  case stop =>
    rintro D c pre C X hD hCD ⟨rfl, ⟨v, h1, h2, h3, h4, h5⟩⟩ hK
    have cB := (cell_of_row X B 0 _ _ (0, 0) h1).trans rfl
    have nD : ∀ k, v.ownBlock = some k → k ≠ D := by rintro k hk rfl; exact hCD (h4 _ hk).1
    have hf : (X.putObj D (.deferred none)).ownsRow w.heap.size 24 2 v NL.length (spCells NL) := own_step h3 (fun k o hk ho => (World.putObj_heap_other (nD k hk)).trans ho)
    have hb' : Below w.heap.size w (X.putObj D (.deferred none)) := h5.trans ((rng.Steps.putObj (fun k => k < w.heap.size) X D _ (by omega)).below (n := w.heap.size) h5.size (fun k hk => hk))
    have HF := Lib.hid (show rn.Told NL w (.returned v) (X.putObj D (.deferred none)) from ⟨v, rfl, hf, hb'⟩)
    have HK4 := Lib.hid hK
    clear h1 h2 h3 h4 h5 nD hf hb' HSEQ HNI hK
    gi_wp2
    refine ⟨by simp, .inl ⟨_, _, rfl, run_takeDeferred HK4.out, ?_⟩⟩
    exact ⟨v, by simp [results, Tryz.results93, go_sem], HF.out⟩
end Go.Proofs.YtohpaoleomcimaaGreat.bd
/-!   Package board: its spans' tree: putting in.
-/
namespace Go.Proofs.YtohpaoleomcimaaGreat.bd
open Go.RowKit Go.Shelf aid mem rng sp rn bv
attribute [local go_sem ↓] Go.wp_at_zero Go.wp_at_succ
set_option linter.unusedVariables false
set_option linter.unusedSimpArgs false

/-- a tree of spans, as a list -/
def TL (w : World) (b : Nat) (l : List Sp) : Prop := ∃ t, TrAt w b t ∧ t.toL = l.map ky ∧ Rn l
theorem TL.later {w w' : World} {b : Nat} {l : List Sp} (h : TL w b l) (hb : Below w.heap.size w w') : TL w' b l := by
  obtain ⟨t, h1, h2⟩ := h
  exact ⟨t, h1.later hb, h2⟩
theorem TL.lt {w : World} {b : Nat} {l : List Sp} (h : TL w b l) : b < w.heap.size := by
  obtain ⟨t, h1, h2⟩ := h
  exact h1.lt
theorem TL.rn {w : World} {b : Nat} {l : List Sp} (h : TL w b l) : Rn l := by obtain ⟨t, h1, h2, h3⟩ := h; exact h3
theorem size_ky {t : T} {l : List Sp} (h : t.toL = l.map ky) : t.size = l.length := by rw [← T.size_toL, h, List.length_map]
theorem tl_del {w : World} {b : Nat} {P Q : List Sp} {x : Sp} (h : TL w b (P ++ x :: Q)) (hn : (P ++ x :: Q).length ≤ 900000) :
    Calls Tryz.prog 95 #[.pointer (some ⟨b, 0, none⟩), .int .i64 x.1] w fun e w' => (∃ q, e = .returned (.bool q)) ∧ TL w' b (P ++ Q) ∧ Kept [b] w w' := by
  obtain ⟨t, h1, h2, h3⟩ := h
  refine (delete_any x.1 h1 (by rw [size_ky h2]; exact hn)).mono ?_
  rintro e w' ⟨rfl, a, k⟩
  refine ⟨⟨_, rfl⟩, ⟨_, a, ?_, Rn.skip h3⟩, k⟩
  rw [T.del_toL _ _ (by rw [h2]; exact up_ky h3), h2, del_ky h3]
theorem tl_put {w : World} {b : Nat} {P Q : List Sp} {x : Sp} (h : TL w b (P ++ Q)) (hR : Rn (P ++ x :: Q)) (hn : (P ++ Q).length ≤ 900000) :
    Calls Tryz.prog 97 #[.pointer (some ⟨b, 0, none⟩), .int .i64 x.1, spV x] w fun e w' => (∃ q, e = .returned (.bool q)) ∧ TL w' b (P ++ x :: Q) ∧ Kept [b] w w' := by
  obtain ⟨t, h1, h2, h3⟩ := h
  refine (put_any x.1 x h1 (by rw [size_ky h2]; exact hn)).mono ?_
  rintro e w' ⟨rfl, a, k⟩
  refine ⟨⟨_, rfl⟩, ⟨_, a, ?_, hR⟩, k⟩
  rw [T.ins_toL _ _ _ (by rw [h2]; exact up_ky h3), h2, put_ky hR]
theorem tl_len {w : World} {b : Nat} {l : List Sp} (h : TL w b l) : Calls Tryz.prog 94 #[.pointer (some ⟨b, 0, none⟩)] w fun e w' => e = .returned (.int .i64 (l.length : Int)) ∧ w = w' := by
  obtain ⟨t, h1, h2, h3⟩ := h
  refine (tlen_any h1.o).mono ?_
  rintro e w' ⟨rfl, rfl⟩
  rw [size_ky h2]
  exact ⟨rfl, rfl⟩
theorem tl_near {w : World} {b : Nat} {l : List Sp} {s : Sp} (h : TL w b l) (hn : l.length ≤ 10000) (hs : ROk s) :
    Calls Tryz.prog 93 #[.agg #[.pointer (some ⟨b, 0, none⟩)], spV s] w (rn.Told (nearL l s) w) := by
  obtain ⟨t, h1, h2, h3⟩ := h
  exact near_any h1.o h2 h3 hn hs
theorem TL.keep {w w' : World} {b c : Nat} {l m : List Sp} (h : TL w b l) (hc : TL w c m) (hk : Kept [c] w w') (hn : b ≠ c) : TL w' b l := by
  obtain ⟨t, h1, h2⟩ := h
  obtain ⟨u, k1, k2⟩ := hc
  exact ⟨t, h1.keep k1 hk hn, h2⟩
theorem own_ty {w : World} {base : Nat} {e : TypeId} {sz : Nat} {v : Value} {n : Nat} {xs : List Value} (h : w.ownsRow base e sz v n xs) {k : Nat} (hk : v.ownBlock = some k) : ∃ cur, w.heap[k]? = some (.cells cur e (0, 0)) := by
  rcases h.2 with ⟨rfl, rfl⟩ | ⟨g, cap, cur, rfl, hb, hg, hn, hm, hc, ht⟩
  · cases hk
  · cases hk; exact ⟨cur, hg⟩
theorem TL.grown {w w' : World} {b base n : Nat} {l : List Sp} {v : Value} {xs : List Value} (h : TL w b l) (ho : w.ownsRow base 24 2 v n xs) (hg : w.grownBy w' v.ownBlock) : TL w' b l := by
  obtain ⟨t, ⟨q, h1, h2⟩, h3⟩ := h
  have key : ∀ (k : Nat) (cs : Array Value) (ty : TypeId), ty ≠ 24 → w.heap[k]? = some (.cells cs ty (0, 0)) → w'.heap[k]? = w.heap[k]? := fun k cs ty hty hk => by
    refine hg.block k (lt_of_block hk) (fun e => ?_)
    obtain ⟨cur, hc⟩ := own_ty ho e.symm
    rw [hk] at hc
    injection hc with hc
    injection hc with _ hc _
    exact hty hc
  exact ⟨t, ⟨q, (key b _ _ (by decide) h1).trans h1, h2.keepT (fun x cs hx => key x cs _ (by decide) hx)⟩, h3⟩
set_option maxRecDepth 100000 in
set_option maxHeartbeats 4000000 in
theorem add_any {w : World} {b : Nat} {l : List Sp} {s : Sp} (h : TL w b l) (hn : l.length ≤ 4096) (hs : ROk s) :
    Calls Tryz.prog 61 #[.agg #[.pointer (some ⟨b, 0, none⟩)], spV s] w fun e w' => e = .returned (.int .i64 (if 4096 < (refWi l s).length then 4 else 0)) ∧ TL w' b (if 4096 < (refWi l s).length then l else refWi l s) ∧ Kept [b] w w' := by
  have hl := h.rn
  obtain ⟨A, B, D, hc⟩ := cut3 s hs l hl
  have hwi := wi_eq hl hs hc
  have hnr := near_cut hl hs hc
  have hR := (add3_spec hl hs hc).1
  have he := hc.eq
  unfold add3 at hwi hR
  rw [hwi]
  subst he
  have hlen : (A ++ ([hullP (B ++ [s])] ++ D)).length = A.length + 1 + D.length := by simp; omega
  have hbw := h.lt
  simp only [hlen]
  have hln : (A ++ B ++ D).length = A.length + B.length + D.length := by simp; omega
  have b1 := bal (w := w) (.cells #[.pointer (some ⟨b, 0, none⟩)] 107)
  have x1 := heap_alloc_new w (.cells #[.pointer (some ⟨b, 0, none⟩)] 107)
  have hz1 : (w.alloc (.cells #[.pointer (some ⟨b, 0, none⟩)] 107)).heap.size = w.heap.size + 1 := by simp
  have b2 := bal (w := w.alloc (.cells #[.pointer (some ⟨b, 0, none⟩)] 107)) (.cells #[.int .i64 s.1, .int .i64 s.2] 24)
  have s2 := sp_new (w.alloc (.cells #[.pointer (some ⟨b, 0, none⟩)] 107)) s
  rw [hz1] at s2
  have b12 := b1.trans (b2.mono b1.size)
  have x2 := (b2.block _ (lt_of_block x1)).trans x1
  have HN := Lib.hid (tl_near (h.later b12) (by omega) hs)
  rw [hnr] at HN
  have q0 := cofr x2 0 _ rfl
  have q1 := s2.c0; have q2 := s2.c1
  have HST := Lib.hid (And.intro b12 (And.intro x2 (And.intro s2 (h.later b12))))
  have HR := Lib.hid hR
  clear hwi hnr b1 x1 hz1 b2 s2 b12 x2 hR hlen h hl hc
  go_enter Tryz.func61, Tryz.ntmps61
  generalize hm : hullP (B ++ [s]) = m at *
  have hw1 : IntKind.i64.wrap ((A.length : Int) + (B.length : Int) + (D.length : Int) - (B.length : Int)) = (A.length : Int) + (D.length : Int) := by rw [IntWalk.i64_in _ (by omega)]; omega
  have hw2 : IntKind.i64.wrap ((A.length : Int) + (D.length : Int) + 1) = (A.length : Int) + (D.length : Int) + 1 := IntWalk.i64_in _ (by omega)
  have hlc : (((A ++ B ++ D).length : Nat) : Int) = (A.length : Int) + (B.length : Int) + (D.length : Int) := by rw [hln]; omega
  go_wp2_with (first
    | (go_at_call 93; (with_reducible refine HN.out.mono ?_); rintro e w3 ⟨v, rfl, ho, hb3⟩; obtain ⟨a, cap, rfl, hS, hob⟩ := sls_of_own ho; obtain ⟨b12, x2, s2, hT⟩ := HST.out; have x3 := (hb3.block _ (lt_of_block x2)).trans x2; have s3 := s2.later hb3; have hT3 := hT.later hb3; have b13 := b12.trans (hb3.mono b12.size); have c0 := cofr x3 0 _ rfl; have c1 := s3.c0; have c2 := s3.c1; have HL := Lib.hid (tl_len hT3); rw [hlc] at HL; clear q0 q1 q2 hb3)
    | (go_at_call 94; (with_reducible refine HL.out.mono ?_); rintro e w4 ⟨rfl, rfl⟩))
  · have HT := Lib.hid hT3
    clear hS hob ho x3 s3 hT hT3 b12 x2 s2 c0 c1 c2
    go_ret
    exact ⟨rfl, by simpa using HT.out, Kept.of_below b13 (Nat.le_refl _) [b]⟩
  · have HS := Lib.hid hS
    have HO := Lib.hid ho
    have HOB := Lib.hid hob
    have HX := Lib.hid x3
    have HSS := Lib.hid s3
    have HT := Lib.hid hT3
    have HB := Lib.hid b13
    have hbn : b ≠ w.heap.size := by omega
    have hbn2 : b ≠ w.heap.size + 1 := by omega
    have HBS := Lib.hid (fun k (hk : Value.ownBlock (.slice a B.length cap) = some k) => (own_in ho hk).2)
    have HZ := Lib.hid b12.size
    clear hS hob ho x3 s3 hT hT3 b12 x2 s2 c0 c1 c2 HN HST HL b13
    go_loopw [22] (fun u wr => ∃ i : Nat, u = .int .i64 i ∧ i ≤ B.length ∧ TL wr b (A ++ (B.drop i ++ D)) ∧ Kept [b] w3 wr) (fun u _ => B.length - (intOf u).toNat)
    case atStart => exact ⟨0, rfl, Nat.zero_le _, by simpa using HT.out, Kept.refl _ _⟩
    case round =>
      obtain ⟨i, rfl, hi, hT, hk⟩ := hrel
      have x4 := hk.heap (by simpa using fun e => hbn e.symm) HX.out
      have s4 : SpAt wr (w.heap.size + 1) s := hk.heap (k := w.heap.size + 1) (by simpa using fun e => hbn2 e.symm) HSS.out
      by_cases hlt : i < B.length
      · obtain ⟨g, off, rfl, hcs⟩ := HS.out.cells (by omega)
        have hg : w.heap.size + 1 + 1 ≤ g := by have := HBS.out g rfl; simpa using this
        obtain ⟨m0, m1⟩ := hcs i hlt
        replace m0 := hk.cell (p := ⟨g, off + i * 2, none⟩) (by simp; omega) m0
        replace m1 := hk.cell (p := ⟨g, off + i * 2 + 1, none⟩) (by simp; omega) m1
        have hdr := drop_getD (l := B) hlt
        generalize B.getD i (0, 0) = x at *
        rw [hdr] at hT
        have b5 := bal (w := wr) (.cells #[.int .i64 x.1, .int .i64 x.2] 24)
        have k5 := hk.trans (Kept.of_below b5 (Nat.le_refl _) [b]) (by simp)
        have HD := Lib.hid (tl_del (P := A) (x := x) (Q := B.drop (i + 1) ++ D) (by have := hT.later b5; simpa using this) (by simp at hln hn ⊢; omega))
        have c0 := kcell b5 (cofr x4 0 _ rfl)
        have x5 := sp_new wr x
        have c1 := x5.c0
        have c2 := cofr x4 0 _ rfl
        have HK5 := Lib.hid k5
        clear hcs hT hdr x5 b5 k5 hk s4 x4
        go_wp2_with (go_at_call 95; (with_reducible refine HD.out.mono ?_); rintro e w6 ⟨⟨q, rfl⟩, hT6, hk6⟩; have HT6 := Lib.hid hT6; have HK6 := Lib.hid hk6; clear hT6 hk6 c0 c1 c2)
        go_roundw
        case rel => exact ⟨i + 1, by go_num, by omega, HT6.out, HK5.out.trans HK6.out (by simp)⟩
        case measure => simp [intOf]; omega
      · obtain rfl : i = B.length := by omega
        rw [List.drop_length, List.nil_append] at hT
        have hgb : ∀ k, Value.ownBlock (.slice a B.length cap) = some k → k ≠ b := fun k hk' => by have := HBS.out k hk'; simp at this; omega
        have ho4 := own_step HO.out (fun k o hk' ho' => (hk.block k (lt_of_block ho') (by simpa using hgb k hk')).trans ho')
        have hsrc := span_src wr s
        have b5 := bal (w := wr) (.cells #[.int .i64 s.1, .int .i64 s.2] 24)
        have ho5 := own_later ho4 b5
        obtain ⟨i0, hi, hz0, hz1, hz2⟩ := info_split info_span
        have c1 := s4.c0; have c2 := s4.c1
        have HO5 := Lib.hid ho5
        have HSRC := Lib.hid hsrc
        have HT5 := Lib.hid (hT.later b5)
        have X5 := Lib.hid ((b5.block _ (lt_of_block x4)).trans x4)
        have HK5 := Lib.hid (hk.trans (Kept.of_below b5 (Nat.le_refl _) [b]) (by simp))
        have hz5 := hk.size
        clear hT ho4 hsrc b5 ho5 s4 hk
        have hKW := (Kept.of_below HB.out (Nat.le_refl _) [b]).trans HK5.out (by simp)
        have HKW := Lib.hid hKW
        clear hKW
        go_wp2_with (first
          | (at_builtin; go_must (refine wpList_append_sz _ rfl (.tmp 32) (.tmp 34) 33 33 rfl _ 24 i0 (.agg #[.int .i64 0, .int .i64 0]) 2 16 Tryz.underlying33 hi hz0 hz1 (by decide) hz2 rfl _ B.length (spCells B) rfl HO5.out _ rfl 1 [.int .i64 s.1, .int .i64 s.2] HSRC.out (by unfold maxLen; omega) (by omega) (by have := lt_of_block HSS.out; simp; omega) ?_); intro a' cap' w6 ho6 hg6 hw6
             rw [← spCells_snoc] at ho6
             obtain ⟨a2, cap2, e2, hS6, _⟩ := sls_of_own (l := B ++ [s]) ho6
             obtain ⟨rfl, rfl⟩ : a' = a2 ∧ cap' = cap2 := by simpa using e2
             have HU := Lib.hid (hull_any (B ++ [s]) a' (B.length + 1) cap' w6 hS6)
             rw [hm] at HU
             have HT6 := Lib.hid (HT5.out.grown HO5.out hg6)
             have X6 := Lib.hid ((hg6.block _ (lt_of_block X5.out) (fun e => by have := HBS.out _ e.symm; rw [World.size_alloc, World.size_alloc] at this; omega)).trans X5.out)
             have HK6 := Lib.hid (HKW.out.grown hg6 (fun k hk' => .inr (by have := HBS.out k hk'; simp at this; omega)))
             clear ho6 hg6 hw6 hS6 e2 c1 c2)
          | (go_at_call 96; (with_reducible refine HU.out.mono ?_); rintro e w7 ⟨rfl, h7⟩
             have b8 := bal (w := w7) (.cells #[.int .i64 m.1, .int .i64 m.2] 24)
             have b78 := h7.trans (b8.mono h7.size)
             have x8 := (b78.block _ (lt_of_block X6.out)).trans X6.out
             have s8 := sp_new w7 m
             have c0 := cofr x8 0 _ rfl; have c1 := s8.c0; have c2 := s8.c1
             have HP := Lib.hid (tl_put (P := A) (Q := D) (x := m) (HT6.out.later b78) HR.out (by simp at hln ⊢; omega))
             have HK8 := Lib.hid (HK6.out.trans (Kept.of_below b78 (Nat.le_refl _) [b]) (by simp))
             clear b8 b78 x8 s8 h7)
          | (go_at_call 97; (with_reducible refine HP.out.mono ?_); rintro e w9 ⟨⟨q, rfl⟩, hT9, hk9⟩; have HT9 := Lib.hid hT9; have HK9 := Lib.hid (HK8.out.trans hk9 (by simp)); clear hT9 hk9 c0 c1 c2))
        go_ret

        exact ⟨rfl, by simpa using HT9.out, HK9.out⟩
end Go.Proofs.YtohpaoleomcimaaGreat.bd
/-!   Package board: its spans' tree: taking out what is below.
-/
namespace Go.Proofs.YtohpaoleomcimaaGreat.bd
open Go.RowKit Go.Shelf aid mem rng sp rn bv
attribute [local go_sem ↓] Go.wp_at_zero Go.wp_at_succ
set_option linter.unusedVariables false
set_option linter.unusedSimpArgs false

theorem tl_first {w : World} {b : Nat} {l : List Sp} (h : TL w b l) (hn : l.length ≤ 1000000) : Calls Tryz.prog 98 #[.pointer (some ⟨b, 0, none⟩), .int .i64 0] w fun e w' => e = .returned (tupO (l.head?.map ky)) ∧ Below w.heap.size w w' := by
  obtain ⟨t, h1, h2, h3⟩ := h
  refine (tat_any h1.o 0 (by omega) (by rw [size_ky h2]; exact hn)).mono ?_
  rintro e w' ⟨rfl, hb⟩
  rw [h2, atL_zero, List.head?_map]
  exact ⟨rfl, hb⟩
theorem tl_last {w : World} {b : Nat} {l : List Sp} (h : TL w b l) (hn : l.length ≤ 1000000) : Calls Tryz.prog 98 #[.pointer (some ⟨b, 0, none⟩), .int .i64 ((l.length : Int) - 1)] w fun e w' => e = .returned (tupO (l.getLast?.map ky)) ∧ Below w.heap.size w w' := by
  obtain ⟨t, h1, h2, h3⟩ := h
  refine (tat_any h1.o _ (by omega) (by rw [size_ky h2]; exact hn)).mono ?_
  rintro e w' ⟨rfl, hb⟩
  have e : atL t.toL ((l.length : Int) - 1) = l.getLast?.map ky := by
    rw [h2]
    unfold atL
    by_cases c : l = []
    · subst c; rfl
    · have : 0 < l.length := List.length_pos_iff.2 c
      rw [if_pos (by omega), show ((l.length : Int) - 1).toNat = l.length - 1 by omega, List.getElem?_map, List.getLast?_eq_getElem?]
  rw [e]
  exact ⟨rfl, hb⟩
/-- how many begin below -/
def cntB (l : List Sp) (o : Int) : Nat := (l.filter (fun x => decide (x.1 < o))).length
theorem cnt_lo {x : Sp} {l : List Sp} {o : Int} (h : x.1 < o) : cntB (x :: l) o = cntB l o + 1 := by unfold cntB; rw [List.filter_cons_of_pos (by simpa using h)]; rfl
theorem cnt_hi {x : Sp} {l : List Sp} {o : Int} (h : ¬ x.1 < o) : cntB (x :: l) o = cntB l o := by unfold cntB; rw [List.filter_cons_of_neg (by simpa using h)]
set_option maxRecDepth 100000 in
set_option maxHeartbeats 4000000 in
theorem drop_any {w : World} {b : Nat} {l : List Sp} (o : Int) (h : TL w b l) (hn : l.length ≤ 4096) :
    Calls Tryz.prog 62 #[.agg #[.pointer (some ⟨b, 0, none⟩)], .int .i64 o] w fun e w' => (∃ v, e = .returned v) ∧ TL w' b (dropL l o) ∧ Kept [b] w w' := by
  have b1 := bal (w := w) (.cells #[.pointer (some ⟨b, 0, none⟩)] 107)
  have x1 := heap_alloc_new w (.cells #[.pointer (some ⟨b, 0, none⟩)] 107)
  have hbw := h.lt
  have HT := Lib.hid (h.later b1)
  have HK := Lib.hid (Kept.of_below b1 (Nat.le_refl _) [b])
  have HX := Lib.hid x1
  have hbn : b ≠ w.heap.size := by omega
  clear b1 x1 h
  generalize hL : dropL l o = L at *
  go_enter Tryz.func62, Tryz.ntmps62
  go_wp2_with fail
  go_loopg [4] (cntB l o) (fun n s4 wr => ∃ m : List Sp, cntB m o = n ∧ m.length ≤ 4096 ∧ TL wr b m ∧ dropL m o = L ∧ Kept [b] w wr ∧ wr.heap[w.heap.size]? = some (.cells #[.pointer (some ⟨b, 0, none⟩)] 107 (0, 0)))
  case atStart => exact ⟨l, rfl, hn, HT.out, hL, HK.out, HX.out⟩
  case round =>
    obtain ⟨m, hcn, hml, hT, hd, hk, hx⟩ := hrel
    have HF := Lib.hid (tl_first hT (by omega))
    have c0 := cofr hx 0 _ rfl
    have HTm := Lib.hid hT
    have HKm := Lib.hid hk
    have HXm := Lib.hid hx
    clear hT hk hx HT HK HX
    cases m with
    | nil =>
      have HDD := Lib.hid hd
      rw [List.head?_nil, Option.map_none] at HF
      simp only [tupO] at HF
      clear hd
      go_wp2_with (go_at_call 98; (with_reducible refine HF.out.mono ?_); rintro e w2 ⟨rfl, h2⟩; have HB2 := Lib.hid (h2.trans ((bal (w := w2) (.cells #[.int .i64 0, .int .i64 0] 24)).mono h2.size)); clear h2 c0)
      exact bodyPost_ret (v := .tuple #[]) (results_none rfl _ _ _) rfl ⟨⟨_, rfl⟩, by rw [← HDD.out]; exact HTm.out.later HB2.out, HKm.out.trans (Kept.of_below HB2.out (Nat.le_refl _) [b]) (by simp)⟩
    | cons x r =>
      rw [List.head?_cons, Option.map_some] at HF
      simp only [tupO] at HF
      have hrn := HTm.out.rn
      by_cases hlo : x.1 < o
      · have hcl := cnt_lo (l := r) hlo
        have HFR := Lib.hid (fun X => sp.from_any x o X)
        have HOV := Lib.hid (drop_over hrn hlo)
        have HGO := Lib.hid (drop_gone (x := x) (l := r) (o := o))
        have HD0 := Lib.hid hd
        have hcr : r.length + 1 ≤ 4096 := by simpa using hml
        generalize hm : fromP x o = m at *
        have HLN := Lib.hid (fun X => len_any m X)
        clear hrn hd
        go_wp2_with (first
          | (go_at_call 98; (with_reducible refine HF.out.mono ?_); rintro e w2 ⟨rfl, h2⟩; have b3 := bal (w := w2) (.cells #[.int .i64 x.1, .int .i64 x.2] 24); have h3 := h2.trans (b3.mono h2.size); have s3 := sp_new w2 x; have d0 := kcell h3 c0; have HD := Lib.hid (tl_del (P := []) (x := x) (Q := r) (HTm.out.later h3) (by simp; omega)); have HX3 := Lib.hid ((h3.block _ (lt_of_block HXm.out)).trans HXm.out); have HS3 := Lib.hid s3; have hge3 := h2.size; have HK3 := Lib.hid (HKm.out.trans (Kept.of_below h3 (Nat.le_refl _) [b]) (by simp)); clear h2 b3 h3 s3 c0)
          | (go_at_call 95; (with_reducible refine HD.out.mono ?_); rintro e w4 ⟨⟨q, rfl⟩, hT4, hk4⟩; have hx4 := hk4.heap (by simpa using fun e => hbn e.symm) HX3.out; have s4 : SpAt w4 w2.heap.size x := hk4.heap (by have := HTm.out.lt; simp; omega) HS3.out; have HK4 := Lib.hid (HK3.out.trans hk4 (by simp)); have HT4 := Lib.hid hT4; have HX4 := Lib.hid hx4; have e0 := s4.c0; have e1 := s4.c1; clear hT4 hk4 hx4 s4 d0)
          | (go_at_call 59; (with_reducible refine (HFR.out _).mono ?_); rintro e w5 ⟨rfl, h5⟩; have b6 := bal (w := w5) (.cells #[.int .i64 m.1, .int .i64 m.2] 24); have h6 := h5.trans (b6.mono h5.size); have s6 := sp_new w5 m; have f0 := s6.c0; have f1 := s6.c1; have HS6 := Lib.hid s6; have HX6 := Lib.hid ((h6.block _ (lt_of_block HX4.out)).trans HX4.out); have HT6 := Lib.hid (HT4.out.later h6); have HK6 := Lib.hid (HK4.out.trans (Kept.of_below h6 (Nat.le_refl _) [b]) (by simp)); clear h5 b6 h6 s6 e0 e1)
          | (go_at_call 58; (with_reducible refine (HLN.out _).mono ?_); rintro e w7 ⟨rfl, h7⟩; have s7 := HS6.out.later h7; have hx7 := (h7.block _ (lt_of_block HX6.out)).trans HX6.out; have g0 := s7.c0; have g1 := s7.c1; have g2 := cofr hx7 0 _ rfl; have HX7 := Lib.hid hx7; have HT7 := Lib.hid (HT6.out.later h7); have HK7 := Lib.hid (HK6.out.trans (Kept.of_below h7 (Nat.le_refl _) [b]) (by simp)); clear s7 hx7 h7 f0 f1; by_cases hz : 0 < lenI m)
          | (go_at_call 97; go_must (with_reducible refine (tl_put (P := []) (Q := r) (x := m) HT7.out (by simpa using (HOV.out (by omega)).1) (by simp; omega)).mono ?_); rintro e w8 ⟨⟨q, rfl⟩, hT8, hk8⟩; have hx8 := hk8.heap (by simpa using fun e => hbn e.symm) HX7.out; have HF8 := Lib.hid (And.intro hT8 (And.intro (HK7.out.trans hk8 (by simp)) hx8)); clear hT8 hk8 hx8 g0 g1 g2))
        · obtain ⟨hT8, hk8, hx8⟩ := HF8.out
          obtain ⟨o1, o2, o3⟩ := HOV.out (by omega)
          have hc9 : cntB (m :: r) o = cntB r o := cnt_hi (by rw [o3]; simp)
          go_roundg (cntB r o)
          case measure => omega
          case rel => exact ⟨m :: r, hc9, by simp; omega, hT8, o2.trans HD0.out, hk8, hx8⟩
        · have hz0 : lenI m = 0 := by have := (lenI_bd m).1; omega
          have h9 := HGO.out hz0
          go_roundg (cntB r o)
          case measure => omega
          case rel => exact ⟨r, rfl, by omega, by simpa using HT7.out, h9.symm.trans HD0.out, HK7.out, HX7.out⟩
      · have HDD := Lib.hid (show dropL (x :: r) o = x :: r from drop_head hrn (by omega))
        have hlo2 : o ≤ x.1 := by omega
        have HD0 := Lib.hid hd
        clear hd hrn
        go_wp2_with (go_at_call 98; (with_reducible refine HF.out.mono ?_); rintro e w2 ⟨rfl, h2⟩; have HB2 := Lib.hid (h2.trans ((bal (w := w2) (.cells #[.int .i64 x.1, .int .i64 x.2] 24)).mono h2.size)); clear h2 c0)
        exact bodyPost_ret (v := .tuple #[]) (results_none rfl _ _ _) rfl ⟨⟨_, rfl⟩, by rw [← HD0.out, HDD.out]; exact HTm.out.later HB2.out, HKm.out.trans (Kept.of_below HB2.out (Nat.le_refl _) [b]) (by simp)⟩
end Go.Proofs.YtohpaoleomcimaaGreat.bd
/-!   Package board: a board in memory, and what is asked of it.
-/
namespace Go.Proofs.YtohpaoleomcimaaGreat.bd
open Go.RowKit Go.Shelf aid mem rng sp rn bv
attribute [local go_sem] Oper.semAt_some
set_option linter.unusedVariables false
set_option linter.unusedSimpArgs false

abbrev bdC (s : Bs) (tb : Nat) : Obj := .cells #[.int .i64 s.una, .int .i64 s.nxt, .pointer (some ⟨tb, 0, none⟩)] 109
structure BdAt (w : World) (x tb : Nat) (s : Bs) : Prop where
  cel : w.heap[x]? = some (bdC s tb)
  tl : TL w tb s.l
  ok : BOk s
theorem BdAt.later {w w' : World} {x tb : Nat} {s : Bs} (h : BdAt w x tb s) (hb : Below w.heap.size w w') : BdAt w' x tb s := ⟨(hb.block _ (lt_of_block h.cel)).trans h.cel, h.tl.later hb, h.ok⟩
theorem BdAt.lt {w : World} {x tb : Nat} {s : Bs} (h : BdAt w x tb s) : x < w.heap.size ∧ tb < w.heap.size := ⟨lt_of_block h.cel, h.tl.lt⟩
theorem BdAt.cells {w : World} {x tb : Nat} {s : Bs} (h : BdAt w x tb s) : w.cell? ⟨x, 0, none⟩ = some (.int .i64 s.una) ∧ w.cell? ⟨x, 1, none⟩ = some (.int .i64 s.nxt) ∧ w.cell? ⟨x, 2, none⟩ = some (.pointer (some ⟨tb, 0, none⟩)) :=
  ⟨cofr h.cel 0 _ rfl, cofr h.cel 1 _ rfl, cofr h.cel 2 _ rfl⟩
theorem BdAt.ne {w : World} {x tb : Nat} {s : Bs} (h : BdAt w x tb s) : x ≠ tb := by
  rintro rfl
  obtain ⟨t, ⟨q, h1, _⟩, _⟩ := h.tl
  have := h.cel
  rw [h1] at this
  injection this with this
  injection this with _ this _
  exact absurd this (by decide)
/-- where a pointer leads: to a board; or it is none -/
def BdO (w : World) (p : Option Addr) (s : Bs) : Prop := (p = none ∧ s = Bs.zero) ∨ ∃ x tb, p = some ⟨x, 0, none⟩ ∧ BdAt w x tb s
theorem BdAt.o {w : World} {x tb : Nat} {s : Bs} (h : BdAt w x tb s) : BdO w (some ⟨x, 0, none⟩) s := .inr ⟨x, tb, rfl, h⟩
theorem bdo_none (w : World) : BdO w none Bs.zero := .inl ⟨rfl, rfl⟩
theorem BdO.later {w w' : World} {p : Option Addr} {s : Bs} (h : BdO w p s) (hb : Below w.heap.size w w') : BdO w' p s := by
  rcases h with h | ⟨x, tb, rfl, h⟩
  · exact .inl h
  · exact .inr ⟨x, tb, rfl, h.later hb⟩
theorem BdO.ok {w : World} {p : Option Addr} {s : Bs} (h : BdO w p s) : BOk s := by
  rcases h with ⟨_, rfl⟩ | ⟨x, tb, rfl, h⟩
  · exact bok_zero
  · exact h.ok
set_option maxHeartbeats 2000000 in
theorem una_any {w : World} {p : Option Addr} {s : Bs} (h : BdO w p s) : Calls Tryz.prog 20 #[.pointer p] w fun e w' => e = .returned (.int .i64 s.una) ∧ w = w' := by
  rcases h with ⟨rfl, rfl⟩ | ⟨x, tb, rfl, h⟩
  · go_enter Tryz.func20, Tryz.ntmps20
    go_wp2
    go_ret
    exact ⟨rfl, rfl⟩
  · obtain ⟨c0, c1, c2⟩ := h.cells
    clear h
    go_enter Tryz.func20, Tryz.ntmps20
    go_wp2
    go_ret
    exact ⟨rfl, rfl⟩
set_option maxRecDepth 100000 in
set_option maxHeartbeats 4000000 in
theorem bparts_any {w0 w : World} {p : Option Addr} {s : Bs} (hb0 : Below w0.heap.size w0 w) (h : BdO w0 p s) (y : Sp) (A : Nat → Prop) (hA : FarR w0 w A) :
    Calls Tryz.prog 107 #[.pointer p, spV y] w (SeqS 139 (partsL s.l y) A w) := by
  have b1 := bal (w := w) (.cells #[.int .i64 y.1, .int .i64 y.2] 24)
  have s1 := sp_new w y
  have e0 := s1.c0; have e1 := s1.c1
  have HB1 := Lib.hid b1
  rcases h with ⟨rfl, rfl⟩ | ⟨x, tb, rfl, h⟩
  · have HP := Lib.hid (sparts_any (hb0.trans (b1.mono hb0.size)) (trO_none w0) rfl Rn.nil y A (hA.later b1))
    clear b1 s1 hA hb0
    go_enter Tryz.func107, Tryz.ntmps107
    go_wp2_with (go_at_call 128; go_must (with_reducible refine HP.out.mono ?_); rintro e w3 ⟨lb, rfl, hs, hb⟩; have HS := Lib.hid hs; clear hs)
    go_ret
    exact ⟨lb, rfl, HS.out, HB1.out.trans (hb.mono HB1.out.size)⟩
  · obtain ⟨t, h1, h2, h3⟩ := h.tl
    have hb01 := hb0.trans (b1.mono hb0.size)
    have HP := Lib.hid (fun X (hX : Below (w.alloc (.cells #[.int .i64 y.1, .int .i64 y.2] 24)).heap.size (w.alloc (.cells #[.int .i64 y.1, .int .i64 y.2] 24)) X) => sparts_any (hb01.trans (hX.mono hb01.size)) h1.o h2 h3 y A ((hA.later b1).later hX))
    obtain ⟨c0, c1, c2⟩ := (h.later hb01).cells
    have HBD := Lib.hid (Below.refl (w.alloc (.cells #[.int .i64 y.1, .int .i64 y.2] 24)).heap.size (w.alloc (.cells #[.int .i64 y.1, .int .i64 y.2] 24))).drew
    clear b1 s1 hA hb0 h1 h2 h3 hb01 h c0 c1
    go_enter Tryz.func107, Tryz.ntmps107
    go_wp2_with fail
    have k0 : (w.alloc (.cells #[.int .i64 y.1, .int .i64 y.2] 24)).drew.cell? ⟨x, 2, none⟩ = some (.pointer (some ⟨tb, 0, none⟩)) ∧ (w.alloc (.cells #[.int .i64 y.1, .int .i64 y.2] 24)).drew.cell? ⟨w.heap.size, 0, none⟩ = some (.int .i64 y.1) ∧ (w.alloc (.cells #[.int .i64 y.1, .int .i64 y.2] 24)).drew.cell? ⟨w.heap.size, 1, none⟩ = some (.int .i64 y.2) := ⟨c2, e0, e1⟩
    go_region_held3 (fun w' => w'.cell? ⟨x, 2, none⟩ = some (.pointer (some ⟨tb, 0, none⟩)) ∧ w'.cell? ⟨w.heap.size, 0, none⟩ = some (.int .i64 y.1) ∧ w'.cell? ⟨w.heap.size, 1, none⟩ = some (.int .i64 y.2)) (with_reducible first | exact k0 | exact k1 | go_keep) (
      (go_at_call 128; (with_reducible refine (HP.out _ HBD.out).mono ?_); rintro e w3 ⟨lb, rfl, hs, hb⟩; have HS := Lib.hid hs; have HB3 := Lib.hid (HB1.out.trans ((undrew hb).mono HB1.out.size)); have k1 := And.intro (kcell (undrew hb) c2) (And.intro (kcell (undrew hb) e0) (kcell (undrew hb) e1)); clear hs hb))
    all_goals
      go_wp2
      go_ret
      exact ⟨lb, rfl, HS.out, HB3.out⟩
end Go.Proofs.YtohpaoleomcimaaGreat.bd
/-!   Package board: Within, Bytes, what is missing, Has, High.
-/
namespace Go.Proofs.YtohpaoleomcimaaGreat.bd
open Go.RowKit Go.Shelf aid mem rng sp rn bv
attribute [local go_sem] Oper.semAt_some
set_option linter.unusedVariables false
set_option linter.unusedSimpArgs false

set_option maxRecDepth 100000 in
set_option maxHeartbeats 4000000 in
theorem bwithin_any {w : World} {p : Option Addr} {bs : Bs} (h : BdO w p bs) (s : Sp) :
    Calls Tryz.prog 73 #[.pointer p, spV s] w (RetI (withinL bs.l s) w) := by
  have hl := h.ok.rn
  obtain ⟨p1, p2, p3, _⟩ := parts_spec s hl
  have hbd := p1.bytes
  rw [← p3]
  clear p2 p3
  have HPA := Lib.hid (fun (X : World) (hX : Below w.heap.size w X) (A : Nat → Prop) (hA : ∀ k, A k → w.heap.size ≤ k ∧ k < X.heap.size) => bparts_any (w0 := w) hX h s A (FarR.of hX hA))
  have HPR := Lib.hid (fun (pre : List Sp) (y : Sp) (hp : pre ++ [y] <+: partsL bs.l s) => show 0 ≤ bytesL pre ∧ bytesL (pre ++ [y]) = bytesL pre + lenI y ∧ bytesL (pre ++ [y]) ≤ 4611686018427387904 from by
    have h1 : Rn (pre ++ [y]) := by
      obtain ⟨t, ht⟩ := hp
      rw [← ht] at p1
      exact p1.left
    refine ⟨h1.left.bytes.1, ?_, h1.bytes.2⟩
    rw [bytes_append, bytes_cons, bytes_nil]
    omega)
  generalize partsL bs.l s = L at *
  have hMO : Tryz.prog.follows .mixedOrders = true := by kernel_rfl
  refine (callsIn_wide (n := 6)).1 ?_
  refine callsIn_of_wp_marks Tryz.func73 rfl trivial ?_ rfl
  simp only [Tryz.ntmps73, List.size_toArray, List.length_cons, List.length_nil, Nat.reduceAdd, Nat.reduceSub, Array.replicate_succ, Array.replicate_zero, List.push_toArray, List.append_toArray, List.nil_append, List.cons_append]
  have b1 := bal (w := w) (.cells #[.int .i64 s.1, .int .i64 s.2] 24)
  have s1 := sp_new w s
  have b2 := bal (w := w.alloc (.cells #[.int .i64 s.1, .int .i64 s.2] 24)) (.cells #[.int .i64 0] 3)
  have n2 := heap_alloc_new (w.alloc (.cells #[.int .i64 s.1, .int .i64 s.2] 24)) (.cells #[.int .i64 0] 3)
  have hz1 : (w.alloc (.cells #[.int .i64 s.1, .int .i64 s.2] 24)).heap.size = w.heap.size + 1 := by simp
  rw [hz1] at n2
  have s2 := s1.later b2
  have b12 := b1.trans (b2.mono b1.size)
  have c0 := s2.c0; have c1 := s2.c1
  have hz2 : ((w.alloc (.cells #[.int .i64 s.1, .int .i64 s.2] 24)).alloc (.cells #[.int .i64 0] 3)).heap.size = w.heap.size + 1 + 1 := by simp
  have HP := Lib.hid (HPA.out _ b12 (fun k => k = w.heap.size + 1) (fun k hk => by omega))
  have HS2 := Lib.hid (And.intro b12 (And.intro n2 hz2))
  clear b1 s1 b2 n2 hz1 s2 b12 hz2 h HPA
  gi_wp2
  refine ⟨trivial, ?_⟩
  refine (callsIn_wide.2 HP.out).mono ?_
  rintro e w9 ⟨lb, rfl, hseq, h9⟩
  obtain ⟨b12, n2, hz2⟩ := HS2.out
  have hz9 := h9.size
  have hb9 := b12.trans (h9.mono b12.size)
  have hn9 := (h9.block _ (by omega)).trans n2
  rw [hz2] at hz9
  have HSEQ := Lib.hid hseq
  clear hseq h9 b12 n2 hz2 HS2 HP c0 c1
  obtain ⟨bn, hbn⟩ : ∃ bn, bn = w.heap.size + 1 := ⟨_, rfl⟩
  rw [← hbn] at hn9 HSEQ hz9 ⊢
  have hbw : w.heap.size ≤ bn := by omega
  have HBN := Lib.hid hbn
  clear hbn
  have HWI : Hid (WI w bn [] (fun k => k = bn) w9) := Lib.hid ⟨hn9, rfl, hb9⟩
  clear hn9 hb9
  gi_wp2
  refine wpIn_rangeBox (fun (b : Nat) (y : Sp) (t : Array Value) => (t.setIfInBounds 10 (spV y)).setIfInBounds 6 (.pointer (some ⟨b, 0, none⟩))) (gf := 139) (lb := lb) (L := L) (A := fun k => k = bn) (w0 := w9) (encs := spE) rfl eg_parts HSEQ.out (Below.refl _ _) (fun _ => rfl)
    (WI w bn) NoX (fun k => k = bn) ?hc0 (wi_bears (by omega) hbw) (nox_bears _) HWI.out (BxS w9.heap.size) (bxs_bears w9.heap.size) ?assign ?body ?done ?stop
  case hc0 =>
    rintro k rfl
    exact ⟨.inl rfl, by omega⟩
  case assign =>
    intro l' pre y C X K hI hp hc hz hK
    have b1 := bal (w := X) (.cells #[.int .i64 y.1, .int .i64 y.2] 24)
    have HK := Lib.hid (hK X.heap.size (fun k => C k ∨ k = X.heap.size) _ ⟨Steps.of_below b1 _, fun k hk => by rcases hk with hk | rfl; exact .inl hk; exact .inr ⟨Nat.le_refl _, by simp⟩⟩
      ⟨(b1.block _ (lt_of_block hI.hn)).trans hI.hn, .inl hI.cb, hI.below.trans (b1.mono hI.below.size)⟩ ⟨sp_new X y, hz, .inr rfl⟩)
    clear hK hI hp hc b1
    gi_wp2
    exact HK.out
  case body =>
    rintro l' pre y b C X hI ⟨hyb, hb, hcb⟩ hp hcc hz
    obtain ⟨q0, q1, q2⟩ := HPR.out pre y hp
    have hly := lenI_bd y
    have HLN := Lib.hid (fun X => len_any y X)
    have hyd : SpAt X.drew b y := hyb
    have hnd : X.drew.heap[bn]? = some (.cells #[.int .i64 (bytesL pre)] 3 (0, 0)) := hI.hn
    have cn := cofr hnd 0 _ rfl
    have hne : bn ≠ b := by omega
    have HEND := Lib.hid (fun (w2 : World) (h2 : Below X.drew.heap.size X.drew w2) (h3 : (w2.setCell ⟨bn, 0, none⟩ (.int .i64 (bytesL pre + lenI y))).heap[bn]? = some (.cells #[.int .i64 (bytesL pre + lenI y)] 3 (0, 0))) (a' : Act) =>
      show rPost (WI w bn) NoX (pre ++ [y]) C X .normal a' (w2.setCell ⟨bn, 0, none⟩ (.int .i64 (bytesL pre + lenI y))) from
        ⟨C, ⟨(Steps.of_below (undrew h2) _).trans (rng.Steps.setCell _ w2 ⟨bn, 0, none⟩ _ (fun hh => hh hI.cb)), fun _ hk => .inl hk⟩,
          ⟨by rw [q1]; exact h3, hI.cb, (hI.below.trans ((undrew h2).mono hI.below.size)).setCell (p := ⟨bn, 0, none⟩) (by simp only; omega) _⟩⟩)
    have HST := Lib.hid (fun (w2 : World) (h2 : Below X.drew.heap.size X.drew w2) (v : Value) => show (w2.setCell ⟨bn, 0, none⟩ v).cell? ⟨b, 0, none⟩ = some (.int .i64 y.1) ∧ (w2.setCell ⟨bn, 0, none⟩ v).cell? ⟨b, 1, none⟩ = some (.int .i64 y.2) from
      ⟨(set_other (by simp [hne])).trans (hyd.later h2).c0, (set_other (by simp [hne])).trans (hyd.later h2).c1⟩)
    have hw1 : IntKind.i64.wrap (bytesL pre + lenI y) = bytesL pre + lenI y := IntWalk.i64_in _ (by omega)
    have fz0 : X.drew.frozen? ⟨bn, 0, none⟩ = false := fofr hnd 0
    have hHeld : (fun w' => w'.cell? ⟨b, 0, none⟩ = some (.int .i64 y.1) ∧ w'.cell? ⟨b, 1, none⟩ = some (.int .i64 y.2)) X.drew := ⟨hyd.c0, hyd.c1⟩
    generalize hRP : rPost (WI w bn) NoX (pre ++ [y]) C X = RP at *
    clear hRP hI hyb hcb hp hcc HPR HSEQ HWI q1
    simp only [List.setIfInBounds_toArray, List.set_cons_zero, List.set_cons_succ]
    gi_wp2
    refine wpIn_region_inR (S := (fun w' => w'.cell? ⟨b, 0, none⟩ = some (.int .i64 y.1) ∧ w'.cell? ⟨b, 1, none⟩ = some (.int .i64 y.2))) hMO (by kernel_rfl) ?_
    refine wpAnyH_take (i := 1) (oi := _) (v := ?_) rfl (by kernel_rfl) (by kernel_rfl) (by kernel_rfl) (fun _ _ _ h => h) (Or.inl ⟨by rfl, ?_⟩) (by assumption) ?_
    rotate_left
    · (first | (intro v hSw; (try dsimp only at hSw); go_simp; done) | (intro v hSw; (try dsimp only at hSw); go_simp; with_reducible rfl))
    (try simp only [List.getElem_toArray, List.getElem_cons_succ, List.getElem_cons_zero, Act.put, List.setIfInBounds_toArray, List.set_cons_zero, List.set_cons_succ])
    refine wpAnyH_ready (rs := [0, 2]) (by kernel_rfl) (by simp) ?_
    refine AllReadyH.cons (o := _) rfl (fun K hK => ?_) ?_
    · go_simp
      refine hK.out _ _ ?_ (fun hHeld => ?_)
      · ((try dsimp only); exact hHeld)
      clear hK K
      (try simp only [List.getElem_toArray, List.getElem_cons_succ, List.getElem_cons_zero, Act.put, List.setIfInBounds_toArray, List.set_cons_zero, List.set_cons_succ])
      refine wpAnyH_ready (rs := [2]) (by kernel_rfl) (by simp) ?_
      refine AllReadyH.cons (o := _) rfl (fun K hK => ?_) AllReadyH.nil
      go_simp
      (with_reducible refine (HLN.out _).mono ?_)
      rintro e w2 ⟨rfl, h2⟩
      have cn2 := kcell h2 cn
      have hn2 := (h2.block bn (lt_of_block hnd)).trans hnd
      have fz2 : w2.frozen? ⟨bn, 0, none⟩ = false := fofr hn2 0
      have y2 := hyd.later h2
      refine hK.out _ _ ?_ (fun hHeld => ?_)
      · ((try dsimp only); exact ⟨y2.c0, y2.c1⟩)
      clear hK K
      (try simp only [List.getElem_toArray, List.getElem_cons_succ, List.getElem_cons_zero, Act.put, List.setIfInBounds_toArray, List.set_cons_zero, List.set_cons_succ])
      refine wpAnyH_take (i := 3) (oi := _) (v := ?_) rfl (by kernel_rfl) (by kernel_rfl) (by kernel_rfl) (fun _ _ _ h => h) (Or.inl ⟨by rfl, ?_⟩) (by assumption) ?_
      rotate_left
      · (first | (intro v hSw; (try dsimp only at hSw); go_simp; done) | (intro v hSw; (try dsimp only at hSw); go_simp; with_reducible rfl))
      (try simp only [List.getElem_toArray, List.getElem_cons_succ, List.getElem_cons_zero, Act.put, List.setIfInBounds_toArray, List.set_cons_zero, List.set_cons_succ])
      refine wpAnyH_ready (rs := [4]) (by kernel_rfl) (by simp) ?_
      refine AllReadyH.cons (o := _) rfl (fun K hK => ?_) AllReadyH.nil
      go_simp
      refine hK.out _ _ ?_ (fun hHeld => ?_)
      · ((try dsimp only); exact HST.out _ h2 _)
      clear hK K
      (try simp only [List.getElem_toArray, List.getElem_cons_succ, List.getElem_cons_zero, Act.put, List.setIfInBounds_toArray, List.set_cons_zero, List.set_cons_succ])
      refine wpAnyH_done (by kernel_rfl) ?_ _
      refine OnlyN.normal ?_
      have hn3 := (heap_setCell_same w2 bn 0 _ _ (.int .i64 (bytesL pre + lenI y)) hn2).trans rfl
      have HE := Lib.hid (HEND.out _ h2 hn3)
      clear hHeld cn2 hn2 fz2 y2 hn3 h2
      gi_wp2
      exact HE.out _
    refine AllReadyH.cons (o := _) rfl (fun K hK => ?_) AllReadyH.nil
    go_simp
    (with_reducible refine (HLN.out _).mono ?_)
    rintro e w2 ⟨rfl, h2⟩
    have cn2 := kcell h2 cn
    have hn2 := (h2.block bn (lt_of_block hnd)).trans hnd
    have fz2 : w2.frozen? ⟨bn, 0, none⟩ = false := fofr hn2 0
    have y2 := hyd.later h2
    refine hK.out _ _ ?_ (fun hHeld => ?_)
    · ((try dsimp only); exact ⟨y2.c0, y2.c1⟩)
    clear hK K
    (try simp only [List.getElem_toArray, List.getElem_cons_succ, List.getElem_cons_zero, Act.put, List.setIfInBounds_toArray, List.set_cons_zero, List.set_cons_succ])
    refine wpAnyH_ready (rs := [0]) (by kernel_rfl) (by simp) ?_
    refine AllReadyH.cons (o := _) rfl (fun K hK => ?_) AllReadyH.nil
    go_simp
    refine hK.out _ _ ?_ (fun hHeld => ?_)
    · ((try dsimp only); exact hHeld)
    clear hK K
    (try simp only [List.getElem_toArray, List.getElem_cons_succ, List.getElem_cons_zero, Act.put, List.setIfInBounds_toArray, List.set_cons_zero, List.set_cons_succ])
    refine wpAnyH_take (i := 3) (oi := _) (v := ?_) rfl (by kernel_rfl) (by kernel_rfl) (by kernel_rfl) (fun _ _ _ h => h) (Or.inl ⟨by rfl, ?_⟩) (by assumption) ?_
    rotate_left
    · (first | (intro v hSw; (try dsimp only at hSw); go_simp; done) | (intro v hSw; (try dsimp only at hSw); go_simp; with_reducible rfl))
    (try simp only [List.getElem_toArray, List.getElem_cons_succ, List.getElem_cons_zero, Act.put, List.setIfInBounds_toArray, List.set_cons_zero, List.set_cons_succ])
    refine wpAnyH_ready (rs := [4]) (by kernel_rfl) (by simp) ?_
    refine AllReadyH.cons (o := _) rfl (fun K hK => ?_) AllReadyH.nil
    go_simp
    refine hK.out _ _ ?_ (fun hHeld => ?_)
    · ((try dsimp only); exact HST.out _ h2 _)
    clear hK K
    (try simp only [List.getElem_toArray, List.getElem_cons_succ, List.getElem_cons_zero, Act.put, List.setIfInBounds_toArray, List.set_cons_zero, List.set_cons_succ])
    refine wpAnyH_done (by kernel_rfl) ?_ _
    refine OnlyN.normal ?_
    have hn3 := (heap_setCell_same w2 bn 0 _ _ (.int .i64 (bytesL pre + lenI y)) hn2).trans rfl
    have HE := Lib.hid (HEND.out _ h2 hn3)
    clear hHeld cn2 hn2 fz2 y2 hn3 h2
    gi_wp2
    exact HE.out _

  case done =>
    rintro D C X hD hCD hI hK
    have cn := cofr hI.hn 0 _ rfl
    have HB := Lib.hid hI.below
    have HK := Lib.hid hK
    have hbd2 : bn < D := by omega
    have hn13 : (X.putObj D (.deferred none)).heap[bn]? = some (.cells #[.int .i64 (bytesL L)] 3 (0, 0)) := (World.putObj_heap_other (by omega)).trans hI.hn
    have b14 := hI.below.trans ((rng.Steps.putObj (fun q => q < w.heap.size) X D (.deferred none) (by omega)).below (n := w.heap.size) hI.below.size (fun _ h => h))
    have HB14 := Lib.hid b14
    clear hI hK hn13 b14 HSEQ HWI HPR
    gi_wp2
    refine ⟨by simp, .inl ⟨_, _, rfl, run_takeDeferred HK.out, ?_⟩⟩
    exact ⟨.int .i64 (bytesL L), by simp [results, Tryz.results73, go_sem], rfl, HB14.out⟩
  case stop =>
    rintro D c pre C X hD hCD hI hK
    exact hI.elim
set_option maxRecDepth 100000 in
set_option maxHeartbeats 4000000 in
theorem miss_any {w : World} {p : Option Addr} {s : Bs} (h : BdO w p s) (y : Sp) : Calls Tryz.prog 60 #[.pointer p, spV y] w (RetI (missN s.l y) w) := by
  have b1 := bal (w := w) (.cells #[.int .i64 y.1, .int .i64 y.2] 24)
  have s1 := sp_new w y
  have e0 := s1.c0; have e1 := s1.c1
  have HB1 := Lib.hid b1
  have HW := Lib.hid (fun X (hX : Below w.heap.size w X) => bwithin_any (h.later hX) y)
  have HLN := Lib.hid (fun X => len_any y X)
  have hlb := lenI_bd y
  have hwb := within_lt h.ok.rn y
  have hm : missN s.l y = lenI y - withinL s.l y := rfl
  generalize missN s.l y = m at *
  generalize withinL s.l y = q at *
  generalize lenI y = n at *
  have hw1 : IntKind.i64.wrap (n - q) = m := by rw [hm]; exact IntWalk.i64_in _ (by omega)
  clear h b1 hm
  go_enter Tryz.func60, Tryz.ntmps60
  go_wp2_with fail
  go_region_held3 (fun w' => w'.cell? ⟨w.heap.size, 0, none⟩ = some (.int .i64 y.1) ∧ w'.cell? ⟨w.heap.size, 1, none⟩ = some (.int .i64 y.2))
    (first | go_keep | (with_reducible exact ⟨kcell (undrew h2) e0, kcell (undrew h2) e1⟩) | (with_reducible exact ⟨kcell (undrew h3) e0, kcell (undrew h3) e1⟩) | (with_reducible exact ⟨kcell ((undrew h2).trans (h3.mono (undrew h2).size)) e0, kcell ((undrew h2).trans (h3.mono (undrew h2).size)) e1⟩) | (with_reducible exact ⟨kcell ((undrew h3).trans (h2.mono (undrew h3).size)) e0, kcell ((undrew h3).trans (h2.mono (undrew h3).size)) e1⟩))
    (first
      | ((go_at_call 58; (with_reducible refine (HLN.out _).mono ?_); rintro e w2 ⟨rfl, h2⟩))
      | ((go_at_call 73; (with_reducible refine (HW.out _ (HB1.out.trans ((undrew h2).mono HB1.out.size))).mono ?_); rintro e w3 ⟨rfl, h3⟩))
      | ((go_at_call 73; (with_reducible refine (HW.out _ HB1.out.drew).mono ?_); rintro e w3 ⟨rfl, h3⟩)))
  all_goals
    first
      | (have h23 := (undrew h2).trans (h3.mono (undrew h2).size))
      | (have h23 := (undrew h3).trans (h2.mono (undrew h3).size))
    have HQ := Lib.hid (HB1.out.trans (h23.mono HB1.out.size))
    clear h2 h3 h23 e0 e1 s1
    go_wp2
    go_ret
    exact ⟨rfl, HQ.out⟩
set_option maxRecDepth 100000 in
set_option maxHeartbeats 4000000 in
theorem bhas_any {w : World} {p : Option Addr} {s : Bs} (h : BdO w p s) (y : Sp) : Calls Tryz.prog 19 #[.pointer p, spV y] w (RetB (if p = none then decide (lenI y = 0) else hasN s y) w) := by
  have b1 := bal (w := w) (.cells #[.int .i64 y.1, .int .i64 y.2] 24)
  have s1 := sp_new w y
  have e0 := s1.c0; have e1 := s1.c1
  have HB1 := Lib.hid b1
  have HLN := Lib.hid (fun X => len_any y X)
  rcases h with ⟨rfl, rfl⟩ | ⟨x, tb, rfl, h⟩
  · rw [if_pos rfl]
    clear b1
    go_enter Tryz.func19, Tryz.ntmps19
    go_wp2_with (go_at_call 58; (with_reducible refine (HLN.out _).mono ?_); rintro e w2 ⟨rfl, h2⟩)
    go_ret
    exact ⟨by first | rfl | exact ret_b (by simp), HB1.out.trans (h2.mono HB1.out.size)⟩
  · rw [if_neg (by simp)]
    have HM := Lib.hid (fun X (hX : Below w.heap.size w X) => miss_any (h.o.later hX) (fromP y s.una))
    have HFR := Lib.hid (fun X => sp.from_any y s.una X)
    obtain ⟨c0, c1, c2⟩ := (h.later b1).cells
    have hh : hasN s y = decide (missN s.l (fromP y s.una) = 0) := rfl
    rw [hh]
    generalize missN s.l (fromP y s.una) = m at *
    generalize fromP y s.una = z at *
    clear b1 h c1 c2 hh
    go_enter Tryz.func19, Tryz.ntmps19
    go_wp2_with fail
    go_region_held3 (fun w' => w'.cell? ⟨x, 0, none⟩ = some (.int .i64 s.una) ∧ w'.cell? ⟨w.heap.size, 0, none⟩ = some (.int .i64 y.1) ∧ w'.cell? ⟨w.heap.size, 1, none⟩ = some (.int .i64 y.2))
      (first | go_keep | (with_reducible exact ⟨kcell (undrew h2) c0, kcell (undrew h2) e0, kcell (undrew h2) e1⟩) | (with_reducible exact ⟨kcell ((undrew h2).trans (h3.mono (undrew h2).size)) c0, kcell ((undrew h2).trans (h3.mono (undrew h2).size)) e0, kcell ((undrew h2).trans (h3.mono (undrew h2).size)) e1⟩))
      (first
        | ((go_at_call 59; (with_reducible refine (HFR.out _).mono ?_); rintro e w2 ⟨rfl, h2⟩))
        | ((go_at_call 60; (with_reducible refine (HM.out _ (HB1.out.trans ((undrew h2).mono HB1.out.size))).mono ?_); rintro e w3 ⟨rfl, h3⟩)))
    all_goals
      have h23 := (undrew h2).trans (h3.mono (undrew h2).size)
      have HQ := Lib.hid (HB1.out.trans (h23.mono HB1.out.size))
      clear h2 h3 h23 e0 e1 s1 c0
      go_wp2
      go_ret
      exact ⟨by first | rfl | exact ret_b (by simp), HQ.out⟩
end Go.Proofs.YtohpaoleomcimaaGreat.bd
