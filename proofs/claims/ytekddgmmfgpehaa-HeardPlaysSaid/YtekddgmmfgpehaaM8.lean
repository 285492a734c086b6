/-
  Several texts in one: HrdI HrdN RunR RunJ
-/
import Derived.Test.YtekddgmmfgpehaaM7
/-!   Package heard: Above. (Written by gen_hrdi.py.)
-/
namespace Go.Proofs.Ytekddgmmfgpehaa.hd
open Go.RowKit Go.Shelf aid mem rng sp rn
attribute [local go_sem] Oper.semAt_some
set_option linter.unusedVariables false
set_option linter.unusedSimpArgs false

/-- what an iterator over an iterator knows between two rounds; its yield lies behind the world that it was called in -/
structure Gv {α : Type} (W : World) (C0 : Nat → Prop) (l : Nat) (tl : List α → List Sp) (J : List Sp → (Nat → Prop) → World → Prop) (pre : List α) (Co C : Nat → Prop) (X : World) : Prop where
  sub : ∀ k, Co k → C k
  j : J (tl pre) Co X
  it : It C0 W Co X
  nX : ¬ Co W.heap.size
  yd : X.cell? ⟨W.heap.size, 0, none⟩ = some (.func (.yield l) #[] #[])
def GvI {α : Type} (W : World) (C0 : Nat → Prop) (l : Nat) (tl : List α → List Sp) (J : List Sp → (Nat → Prop) → World → Prop) (pre : List α) (C : Nat → Prop) (X : World) : Prop := ∃ Co, Gv W C0 l tl J pre Co C X
/-- a way out: all was told, or the consumer had enough -/
def GvX {α : Type} (all : List Sp) (J Jx : List Sp → (Nat → Prop) → World → Prop) (c : Code) (pre : List α) (C : Nat → Prop) (X : World) : Prop := c = .ret ∧ ∃ Co, (∀ k, Co k → C k) ∧ (J all Co X ∨ ∃ told, Jx told Co X)
/-- a box beside it -/
def GvB {α : Type} (W : World) (C0 : Nat → Prop) (l : Nat) (tl : List α → List Sp) (J : List Sp → (Nat → Prop) → World → Prop) (val : α → Sp) (D : Nat) (pre : List α) (b : Nat) (y : α) (C : Nat → Prop) (X : World) : Prop :=
  ∃ Co, Gv W C0 l tl J pre Co C X ∧ SpAt X b (val y) ∧ C b ∧ ¬ Co b ∧ D ≤ b
section
variable {α : Type} {W : World} {C0 : Nat → Prop} {l D : Nat} {tl : List α → List Sp} {J Jx : List Sp → (Nat → Prop) → World → Prop} {pre : List α} {Co C : Nat → Prop} {X Y : World}
theorem gv_own (hJ : Bears W.heap.size J) (hD : W.heap.size < D) (h : Gv W C0 l tl J pre Co C X) (hs : rng.Steps (fun k => k < D ∨ C k) X Y) : Gv W C0 l tl J pre Co C Y := by
  have hs' : rng.Steps (fun k => k < W.heap.size ∨ Co k) X Y := hs.mono (fun k _ hk => by
    rcases hk with hk | hk
    · exact .inl (by omega)
    · exact .inr (h.sub k hk))
  exact ⟨h.sub, hJ _ _ _ _ h.j h.it.kept.size hs', h.it.own hs', h.nX, hs.cell (.inl (by simpa using hD)) h.yd⟩
theorem gvi_bears (hJ : Bears W.heap.size J) (hD : W.heap.size < D) : Bears D (GvI W C0 l tl J) := by
  rintro pre C X Y ⟨Co, h⟩ hz hs
  exact ⟨Co, gv_own hJ hD h hs⟩
theorem gvx_bears {all : List Sp} (hJ : Bears W.heap.size J) (hJx : Bears W.heap.size Jx) (hD : W.heap.size ≤ D) (c : Code) : Bears D (fun (pre : List α) => GvX all J Jx c pre) := by
  rintro pre C X Y ⟨rfl, Co, h1, h2⟩ hz hs
  have hs' : rng.Steps (fun k => k < W.heap.size ∨ Co k) X Y := hs.mono (fun k _ hk => by
    rcases hk with hk | hk
    · exact .inl (by omega)
    · exact .inr (h1 k hk))
  refine ⟨rfl, Co, h1, ?_⟩
  rcases h2 with h2 | ⟨told, h2⟩
  · exact .inl (hJ _ _ _ _ h2 (by omega) hs')
  · exact .inr ⟨told, hJx _ _ _ _ h2 (by omega) hs'⟩
theorem gvb_bears {val : α → Sp} {n0 : Nat} (hJ : Bears W.heap.size J) (hD : W.heap.size < D) (pre : List α) (b : Nat) (y : α) : Bears D (fun (_ : Unit) C W' => GvB W C0 l tl J val n0 pre b y C W') := by
  rintro _ C X Y ⟨Co, h, h1, h2, h3, h4⟩ hz hs
  exact ⟨Co, gv_own hJ hD h hs, hs.heap (.inr h2) h1, h2, h3, h4⟩
/-- it begins -/
theorem gv_zero (hJ : Bears W.heap.size J) (hC : ∀ k, C0 k → k < W.heap.size) (h0 : J (tl []) C0 W) (hb : Below W.heap.size W X) (hy : X.cell? ⟨W.heap.size, 0, none⟩ = some (.func (.yield l) #[] #[])) : Gv W C0 l tl J [] C0 C0 X := by
  have hss := Steps.of_below hb (fun k => k < W.heap.size ∨ C0 k)
  exact ⟨fun k hk => hk, hJ _ _ _ _ h0 (Nat.le_refl _) hss, (It.refl hC).own hss, fun e => by have := hC _ e; omega, hy⟩
/-- a new box of its own -/
theorem gv_box (hJ : Bears W.heap.size J) (h : Gv W C0 l tl J pre Co C X) (hW : W.heap.size < X.heap.size) (y : Sp) :
    Round C X (fun k => C k ∨ k = X.heap.size) (X.alloc (.cells #[.int .i64 y.1, .int .i64 y.2] 36)) ∧
    Gv W C0 l tl J pre Co (fun k => C k ∨ k = X.heap.size) (X.alloc (.cells #[.int .i64 y.1, .int .i64 y.2] 36)) ∧ ¬ Co X.heap.size := by
  have b1 := bal (w := X) (.cells #[.int .i64 y.1, .int .i64 y.2] 36)
  have hg := gv_own (D := X.heap.size) hJ hW h (Steps.of_below b1 _)
  exact ⟨⟨Steps.of_below b1 _, fun k hk => by rcases hk with hk | rfl; exact .inl hk; exact .inr ⟨Nat.le_refl _, by simp⟩⟩, ⟨fun k hk => .inl (hg.sub k hk), hg.j, hg.it, hg.nX, hg.yd⟩, fun e => by have := (h.it.grow _ e).2; omega⟩
/-- the consumer took one -/
theorem gv_next {Z V : World} {y : α} {C2 : Nat → Prop} {t : List Sp} (h : Gv W C0 l tl J pre Co C X) (hW : W.heap.size < X.heap.size) (hb : Below X.heap.size X Z) (hit : It C0 W Co Z) (hr : Round Co Z C2 V) (hj : J t C2 V) (ht : tl (pre ++ [y]) = t) :
    ∃ C', Round C X C' V ∧ GvI W C0 l tl J (pre ++ [y]) C' V := by
  have n2 : ¬ C2 W.heap.size := fun e => by
    rcases hr.2 _ e with a | a
    · exact h.nX a
    · have := hb.size; omega
  refine ⟨fun k => C k ∨ C2 k, (Round.of_below hb C).trans ⟨hr.1.mono (fun k _ hk e => hk (h.sub k e)), fun k hk => ?_⟩, C2, ⟨fun k hk => .inr hk, by rw [ht]; exact hj, hit.round hr, n2, hr.1.cell (p := ⟨W.heap.size, 0, none⟩) h.nX (kcell hb h.yd)⟩⟩
  rcases hk with hk | hk
  · exact .inl hk
  · rcases hr.2 k hk with a | a
    · exact .inl (h.sub k a)
    · exact .inr a
/-- nothing was told -/
theorem gv_skip {Z : World} {y : α} (hJ : Bears W.heap.size J) (h : Gv W C0 l tl J pre Co C X) (hW : W.heap.size < X.heap.size) (hb : Below X.heap.size X Z) (ht : tl (pre ++ [y]) = tl pre) :
    ∃ C', Round C X C' Z ∧ GvI W C0 l tl J (pre ++ [y]) C' Z := by
  have hg := gv_own (D := X.heap.size) hJ hW h (Steps.of_below hb _)
  exact ⟨C, Round.of_below hb C, Co, ⟨hg.sub, by rw [ht]; exact hg.j, hg.it, hg.nX, hg.yd⟩⟩
/-- the consumer had enough -/
theorem gv_stop {Z V : World} {xs : List α} {C2 : Nat → Prop} {t all : List Sp} (h : Gv W C0 l tl J pre Co C X) (hb : Below X.heap.size X Z) (hr : Round Co Z C2 V) (hj : Jx t C2 V) :
    ∃ C', Round C X C' V ∧ GvX all J Jx .ret xs C' V := by
  refine ⟨fun k => C k ∨ C2 k, (Round.of_below hb C).trans ⟨hr.1.mono (fun k _ hk e => hk (h.sub k e)), fun k hk => ?_⟩, rfl, C2, fun k hk => .inr hk, .inr ⟨t, hj⟩⟩
  rcases hk with hk | hk
  · exact .inl hk
  · rcases hr.2 k hk with a | a
    · exact .inl (h.sub k a)
    · exact .inr a
/-- it stops by itself: all is told -/
theorem gv_all {Z : World} {xs : List α} {all : List Sp} (hJ : Bears W.heap.size J) (h : Gv W C0 l tl J pre Co C X) (hb : Below X.heap.size X Z) (ht : tl pre = all) :
    ∃ C', Round C X C' Z ∧ GvX all J Jx .ret xs C' Z :=
  ⟨C, Round.of_below hb C, rfl, Co, h.sub, .inl (by rw [← ht]; exact hJ _ _ _ _ h.j h.it.kept.size (Steps.of_below hb _))⟩
end
theorem filt_pre {L pre : List Sp} {y : Sp} (p : Sp → Bool) (hp : pre ++ [y] <+: L) : pre.filter p ++ (if p y = true then [y] else []) <+: L.filter p := by
  obtain ⟨r, rfl⟩ := hp
  rw [List.append_assoc, List.filter_append, List.singleton_append, List.filter_cons]
  split
  · exact ⟨r.filter p, by simp⟩
  · exact ⟨r.filter p, by simp⟩
theorem filt_snoc (pre : List Sp) (y : Sp) (p : Sp → Bool) : (pre ++ [y]).filter p = pre.filter p ++ (if p y = true then [y] else []) := by
  rw [List.filter_append, List.filter_cons]
  split <;> rfl
/-- what a receiver's spans tell, of one or of none -/
structure Av (w : World) (A : Nat → Prop) (p : Option Addr) (hv : Value) (a : Option Addr) (n cap : Nat) (L : List Sp) (n1 : Int) : Prop where
  all : ∀ X, rng.Steps (fun k => k < w.heap.size ∧ ¬ A k) w X → Calls Try.prog 41 #[.pointer p] X fun e w' => e = .returned hv ∧ X = w'
  next : ∀ X, rng.Steps (fun k => k < w.heap.size ∧ ¬ A k) w X → Calls Try.prog 14 #[.pointer p] X fun e w' => e = .returned (.int .i64 n1) ∧ X = w'
  rv : Rv w hv a n cap L
  rn : Rn L
  n : n ≤ 4096
  blk : ∀ b ∈ blk a cap, ¬ A b
set_option maxRecDepth 100000 in
set_option maxHeartbeats 4000000 in
theorem above1_seq {w : World} {p : Option Addr} {hv : Value} {a : Option Addr} {n cap : Nat} {L : List Sp} {n1 : Int} {bx : Nat} {A : Nat → Prop} (h : Av w A p hv a n cap L n1) (hx : w.cell? ⟨bx, 0, none⟩ = some (.pointer p)) (hax : ¬ A bx) :
    SeqOf Try.prog 72 #[.pointer (some ⟨bx, 0, none⟩)] spE (L.filter (fun s => decide (n1 < s.1))) A w := by
  intro l' J Jx C0 W hW hC hJ hJx hY h0
  have cx := kcell hW hx
  have hblk := fun b hb => (h.rv.row.lt b hb).1
  show Calls Try.prog 72 #[.func (.yield l') #[] #[], .pointer (some ⟨bx, 0, none⟩)] W _
  refine (callsIn_wide (n := 6)).1 ?_
  refine callsIn_of_wp_marks Try.func72 rfl trivial ?_ rfl
  simp only [Try.ntmps72, List.size_toArray, List.length_cons, List.length_nil, Nat.reduceAdd, Nat.reduceSub, Array.replicate_succ, Array.replicate_zero, List.push_toArray, List.append_toArray, List.nil_append, List.cons_append]
  have b1 := bal (w := W) (.cells #[.func (.yield l') #[] #[]] 96)
  have y1 := heap_alloc_new W (.cells #[.func (.yield l') #[] #[]] 96)
  have nx' : ¬ C0 bx := fun e => by
    rcases (hC _ e).1 with q | q
    · exact hax q
    · have := World.block_lt_of_cell? w _ hx; simp only at this; omega
  have HST := Lib.hid (fun C X (q : It C0 W C X) => show rng.Steps (fun k => k < w.heap.size ∧ ¬ A k) w X from
    (Steps.of_below hW _).trans (q.kept.mono (fun k _ hk e => by
      rcases (hC _ e).1 with r | r
      · exact hk.2 r
      · omega)))
  have HY := Lib.hid hY
  have HJ := Lib.hid hJ
  have HJX := Lib.hid hJx
  have HC0 := Lib.hid (fun k hk => (hC k hk).2)
  have H0 := Lib.hid h0
  have HALL := Lib.hid (h.all _ ((Steps.of_below hW _).trans (Steps.of_below b1 _)))
  have HAL := Lib.hid (all1_any (h.rv.later (hW.trans (b1.mono hW.size))) h.rn (by have := h.n; omega) C0 (fun k hk => Nat.lt_of_lt_of_le (HC0.out k hk) b1.size) (fun b hb e => by
    rcases (hC _ e).1 with q | q
    · exact h.blk b hb q
    · have := hblk b hb; omega))
  have HNXT := Lib.hid h.next
  have HXK := Lib.hid (fun C W1 (hI : It C0 W C W1) => show W1.cell? ⟨bx, 0, none⟩ = some (.pointer p) from hI.kept.cell (p := ⟨bx, 0, none⟩) nx' cx)
  have q0 := kcell b1 cx
  have y2 := cofr y1 0 _ rfl
  have HB1 := Lib.hid b1
  clear hY hJ hJx hC h0 hx h cx b1 y1 hW hax hblk nx'
  have hmo : Try.prog.follows .mixedOrders = true := by kernel_rfl
  gi_wp2
  refine ⟨trivial, ?_⟩
  refine (callsIn_wide.2 HALL.out).mono ?_
  rintro e w4 ⟨rfl, rfl⟩
  gi_wp2
  refine ⟨trivial, ?_⟩
  refine (callsIn_wide.2 HAL.out).mono ?_
  rintro e w5 ⟨lb, rfl, hseq, h5⟩
  have hb5 := HB1.out.trans (h5.mono HB1.out.size)
  have hy5 := kcell h5 y2
  have HSEQ := Lib.hid hseq
  have hWz : W.heap.size < w5.heap.size := World.block_lt_of_cell? w5 _ hy5
  have HGI : Hid (GvI W C0 l' (fun pre => pre.filter (fun s => decide (n1 < s.1))) J [] C0 w5) := Lib.hid ⟨C0, gv_zero HJ.out HC0.out H0.out hb5 hy5⟩
  clear hseq h5 hy5 y2 q0 hb5 HB1 HAL HALL
  gi_wp2
  refine wpIn_rangeBoxP (fun (b : Nat) (y : Sp) (t : Array Value) => (t.setIfInBounds 7 (spV y)).setIfInBounds 3 (.pointer (some ⟨b, 0, none⟩))) (gf := 80) (lb := lb) (L := L) (A := C0) (w0 := w5) (encs := spE) rfl eg_parts HSEQ.out (Below.refl _ _) (fun _ => rfl)
    (GvI W C0 l' (fun pre => pre.filter (fun s => decide (n1 < s.1))) J) (GvX (L.filter (fun s => decide (n1 < s.1))) J Jx) C0 ?hc0 (gvi_bears HJ.out hWz) (gvx_bears HJ.out HJX.out (by omega)) HGI.out (GvB W C0 l' (fun pre => pre.filter (fun s => decide (n1 < s.1))) J (fun y => y) w5.heap.size) (gvb_bears HJ.out hWz) ?assign ?body ?done ?stop
  case hc0 =>
    intro k hk
    have := HC0.out k hk
    exact ⟨.inl hk, by omega⟩
  case assign =>
    rintro l2 pre y C X K ⟨Co, hI⟩ hp hc hz hK
    obtain ⟨g1, g2, g3⟩ := gv_box HJ.out hI (by omega) y
    have HK := Lib.hid (hK X.heap.size _ _ g1 ⟨Co, g2⟩ ⟨Co, g2, sp_new X y, .inr rfl, g3, hz⟩)
    clear hK hI hp hc g1 g2 g3
    gi_wp2
    exact HK.out
  case body =>
    rintro l2 pre y b C X _ ⟨Co, hI, hyb, hCb, hnb, hbD⟩ hp hcc hz
    have hpr := filt_pre (fun s => decide (n1 < s.1)) hp
    have hsn := filt_snoc pre y (fun s => decide (n1 < s.1))
    have hg4 := gv_own (D := X.heap.size) HJ.out (by omega) hI (Steps.drew _ X)
    have HNX := Lib.hid (HNXT.out _ (HST.out _ _ hg4.it))
    have e3 : X.drew.cell? ⟨bx, 0, none⟩ = some (.pointer p) := HXK.out _ _ hg4.it
    have e2 : X.drew.cell? ⟨W.heap.size, 0, none⟩ = some (.func (.yield l') #[] #[]) := hg4.yd
    have e0 : X.drew.cell? ⟨b, 0, none⟩ = some (.int .i64 y.1) := hyb.c0
    have e1 : X.drew.cell? ⟨b, 1, none⟩ = some (.int .i64 y.2) := hyb.c1
    have HI := Lib.hid hI
    have HG4 := Lib.hid hg4
    clear hI hcc HSEQ HGI hp hyb hCb hnb hbD
    simp only [List.setIfInBounds_toArray, List.set_cons_zero, List.set_cons_succ]
    generalize hRP : rPost (GvI W C0 l' (fun pre => pre.filter (fun s => decide (n1 < s.1))) J) (GvX (L.filter (fun s => decide (n1 < s.1))) J Jx) (pre ++ [y]) C X = RP at *
    have HRN := Lib.hid (fun (C' : Nat → Prop) (W' : World) (hr : Round C X C' W') (hg : GvI W C0 l' (fun pre => pre.filter (fun s => decide (n1 < s.1))) J (pre ++ [y]) C' W') (a' : Act) => show RP .normal a' W' from by rw [← hRP]; exact ⟨C', hr, hg⟩)
    have HRR := Lib.hid (fun (C' : Nat → Prop) (W' : World) (hr : Round C X C' W') (hg : GvX (L.filter (fun s => decide (n1 < s.1))) J Jx .ret (pre ++ [y]) C' W') (a' : Act) => show RP .ret a' W' from by rw [← hRP]; exact ⟨C', hr, hg⟩)
    clear hRP
    by_cases hc : n1 < y.1
    · rw [if_pos (by simpa using hc)] at hpr hsn
      have HSN := Lib.hid hsn
      have hyq := (HY.out _ _ Co X.drew hg4.j hg4.it.kept.size hpr).mono (fun e w h => one_way (X := fun C' => J (pre.filter (fun s => decide (n1 < s.1)) ++ [y]) C' w) (Y := fun C' => Jx (pre.filter (fun s => decide (n1 < s.1)) ++ [y]) C' w) h)
      obtain ⟨fn, tmps, assign, body, hyy, hYY⟩ := hyq.at 3
      clear hyq hpr hsn hg4
      gi_wp2
      refine Code.wpIn_mono rn.OnlyN.imp ?_
      refine wpIn_region_round hmo (by kernel_rfl) ?_
      refine wpAnyIn_take (i := 0) (v := (.pointer (some ⟨b, 0, none⟩))) rfl rfl (by kernel_rfl) (by kernel_rfl) (by kernel_rfl) (fun _ _ _ h => h) ⟨Or.inl ⟨by rfl, by intro w; go_simp⟩, fun _ => rfl⟩ ?_
      refine wpAnyIn_ready (rs := [1, 2]) (by kernel_rfl) (by simp) ?_
      refine AllReadyIn.cons rfl (fun K hK => ?_) ?_
      · go_simp
        refine hK _ _ ?_
        clear hK K
        refine wpAnyIn_ready (rs := [2]) (by kernel_rfl) (by simp) ?_
        refine AllReadyIn.cons rfl (fun K hK => ?_) ?_
        · go_simp
          refine hK _ _ ?_
          clear hK K
          refine wpAnyIn_ready (rs := [3]) (by kernel_rfl) (by simp) ?_
          refine AllReadyIn.cons rfl (fun K hK => ?_) ?_
          · go_simp
            refine ⟨trivial, ?_⟩
            refine (callsIn_wide.2 (HNX.out)).mono ?_
            rintro e w3 ⟨rfl, rfl⟩
            refine hK _ _ ?_
            clear hK K
            refine wpAnyIn_take (i := 4) (v := (.bool true)) rfl rfl (by kernel_rfl) (by kernel_rfl) (by kernel_rfl) (fun _ _ _ h => h) ⟨Or.inl ⟨by rfl, by intro w; go_simp⟩, fun _ => rfl⟩ ?_
            refine wpAnyIn_take (i := 5) (v := (.bool true)) rfl rfl (by kernel_rfl) (by kernel_rfl) (by kernel_rfl) (fun _ _ _ h => h) ⟨Or.inl ⟨by rfl, by intro w; go_simp⟩, fun _ => rfl⟩ ?_
            refine wpAnyIn_ready (rs := [6, 7]) (by kernel_rfl) (by simp) ?_
            refine AllReadyIn.cons rfl (fun K hK => ?_) ?_
            · go_simp
              refine hK _ _ ?_
              clear hK K
              refine wpAnyIn_ready (rs := [7]) (by kernel_rfl) (by simp) ?_
              refine AllReadyIn.cons rfl (fun K hK => ?_) ?_
              · go_simp
                refine hK _ _ ?_
                clear hK K
                refine wpAnyIn_ready (rs := [8]) (by kernel_rfl) (by simp) ?_
                refine AllReadyIn.cons rfl (fun K hK => ?_) ?_
                · go_simp
                  refine hYY.mono ?_
                  rintro e w6 ⟨bo, rfl, C2, hr2, hres⟩
                  clear hyy hYY e0 e1 e2 e3
                  refine hK _ _ ?_
                  clear hK K
                  refine wpAnyIn_take (i := 9) (v := (.bool (!bo))) rfl rfl (by kernel_rfl) (by kernel_rfl) (by kernel_rfl) (fun _ _ _ h => h) ⟨Or.inl ⟨by rfl, by intro w; go_simp⟩, fun _ => rfl⟩ ?_
                  refine wpAnyIn_take (i := 10) (v := (.bool (!bo))) rfl rfl (by kernel_rfl) (by kernel_rfl) (by kernel_rfl) (fun _ _ _ h => h) ⟨Or.inl ⟨by rfl, by intro w; go_simp⟩, fun _ => rfl⟩ ?_
                  refine wpAnyIn_done (by kernel_rfl) ?_ _
                  refine rn.OnlyN.normal ?_
                  rcases hres with ⟨rfl, hJ2⟩ | ⟨rfl, hJ2⟩
                  · obtain ⟨C', hrr, hgg⟩ := gv_next (tl := fun pre => pre.filter (fun s => decide (n1 < s.1))) (y := y) HI.out (by omega) (Below.refl X.heap.size X).drew HG4.out.it hr2 hJ2 (by show (pre ++ [y]).filter _ = _; rw [HSN.out])
                    have HFIN := Lib.hid (HRN.out C' _ hrr hgg)
                    clear hrr hgg hr2 hJ2
                    gi_wp2
                    exact HFIN.out _
                  · obtain ⟨C', hrr, hgg⟩ := gv_stop (J := J) (xs := pre ++ [y]) (all := L.filter (fun s => decide (n1 < s.1))) HI.out (Below.refl X.heap.size X).drew hr2 hJ2
                    have HFIN := Lib.hid (HRR.out C' _ hrr hgg)
                    clear hrr hgg hr2 hJ2
                    gi_wp2
                    exact HFIN.out _
                exact AllReadyIn.nil
              exact AllReadyIn.nil
            refine AllReadyIn.cons rfl (fun K hK => ?_) ?_
            · go_simp
              refine hK _ _ ?_
              clear hK K
              refine wpAnyIn_ready (rs := [6]) (by kernel_rfl) (by simp) ?_
              refine AllReadyIn.cons rfl (fun K hK => ?_) ?_
              · go_simp
                refine hK _ _ ?_
                clear hK K
                refine wpAnyIn_ready (rs := [8]) (by kernel_rfl) (by simp) ?_
                refine AllReadyIn.cons rfl (fun K hK => ?_) ?_
                · go_simp
                  refine hYY.mono ?_
                  rintro e w6 ⟨bo, rfl, C2, hr2, hres⟩
                  clear hyy hYY e0 e1 e2 e3
                  refine hK _ _ ?_
                  clear hK K
                  refine wpAnyIn_take (i := 9) (v := (.bool (!bo))) rfl rfl (by kernel_rfl) (by kernel_rfl) (by kernel_rfl) (fun _ _ _ h => h) ⟨Or.inl ⟨by rfl, by intro w; go_simp⟩, fun _ => rfl⟩ ?_
                  refine wpAnyIn_take (i := 10) (v := (.bool (!bo))) rfl rfl (by kernel_rfl) (by kernel_rfl) (by kernel_rfl) (fun _ _ _ h => h) ⟨Or.inl ⟨by rfl, by intro w; go_simp⟩, fun _ => rfl⟩ ?_
                  refine wpAnyIn_done (by kernel_rfl) ?_ _
                  refine rn.OnlyN.normal ?_
                  rcases hres with ⟨rfl, hJ2⟩ | ⟨rfl, hJ2⟩
                  · obtain ⟨C', hrr, hgg⟩ := gv_next (tl := fun pre => pre.filter (fun s => decide (n1 < s.1))) (y := y) HI.out (by omega) (Below.refl X.heap.size X).drew HG4.out.it hr2 hJ2 (by show (pre ++ [y]).filter _ = _; rw [HSN.out])
                    have HFIN := Lib.hid (HRN.out C' _ hrr hgg)
                    clear hrr hgg hr2 hJ2
                    gi_wp2
                    exact HFIN.out _
                  · obtain ⟨C', hrr, hgg⟩ := gv_stop (J := J) (xs := pre ++ [y]) (all := L.filter (fun s => decide (n1 < s.1))) HI.out (Below.refl X.heap.size X).drew hr2 hJ2
                    have HFIN := Lib.hid (HRR.out C' _ hrr hgg)
                    clear hrr hgg hr2 hJ2
                    gi_wp2
                    exact HFIN.out _
                exact AllReadyIn.nil
              exact AllReadyIn.nil
            exact AllReadyIn.nil
          exact AllReadyIn.nil
        exact AllReadyIn.nil
      refine AllReadyIn.cons rfl (fun K hK => ?_) ?_
      · go_simp
        refine hK _ _ ?_
        clear hK K
        refine wpAnyIn_ready (rs := [1, 3]) (by kernel_rfl) (by simp) ?_
        refine AllReadyIn.cons rfl (fun K hK => ?_) ?_
        · go_simp
          refine hK _ _ ?_
          clear hK K
          refine wpAnyIn_ready (rs := [3]) (by kernel_rfl) (by simp) ?_
          refine AllReadyIn.cons rfl (fun K hK => ?_) ?_
          · go_simp
            refine ⟨trivial, ?_⟩
            refine (callsIn_wide.2 (HNX.out)).mono ?_
            rintro e w3 ⟨rfl, rfl⟩
            refine hK _ _ ?_
            clear hK K
            refine wpAnyIn_take (i := 4) (v := (.bool true)) rfl rfl (by kernel_rfl) (by kernel_rfl) (by kernel_rfl) (fun _ _ _ h => h) ⟨Or.inl ⟨by rfl, by intro w; go_simp⟩, fun _ => rfl⟩ ?_
            refine wpAnyIn_take (i := 5) (v := (.bool true)) rfl rfl (by kernel_rfl) (by kernel_rfl) (by kernel_rfl) (fun _ _ _ h => h) ⟨Or.inl ⟨by rfl, by intro w; go_simp⟩, fun _ => rfl⟩ ?_
            refine wpAnyIn_ready (rs := [6, 7]) (by kernel_rfl) (by simp) ?_
            refine AllReadyIn.cons rfl (fun K hK => ?_) ?_
            · go_simp
              refine hK _ _ ?_
              clear hK K
              refine wpAnyIn_ready (rs := [7]) (by kernel_rfl) (by simp) ?_
              refine AllReadyIn.cons rfl (fun K hK => ?_) ?_
              · go_simp
                refine hK _ _ ?_
                clear hK K
                refine wpAnyIn_ready (rs := [8]) (by kernel_rfl) (by simp) ?_
                refine AllReadyIn.cons rfl (fun K hK => ?_) ?_
                · go_simp
                  refine hYY.mono ?_
                  rintro e w6 ⟨bo, rfl, C2, hr2, hres⟩
                  clear hyy hYY e0 e1 e2 e3
                  refine hK _ _ ?_
                  clear hK K
                  refine wpAnyIn_take (i := 9) (v := (.bool (!bo))) rfl rfl (by kernel_rfl) (by kernel_rfl) (by kernel_rfl) (fun _ _ _ h => h) ⟨Or.inl ⟨by rfl, by intro w; go_simp⟩, fun _ => rfl⟩ ?_
                  refine wpAnyIn_take (i := 10) (v := (.bool (!bo))) rfl rfl (by kernel_rfl) (by kernel_rfl) (by kernel_rfl) (fun _ _ _ h => h) ⟨Or.inl ⟨by rfl, by intro w; go_simp⟩, fun _ => rfl⟩ ?_
                  refine wpAnyIn_done (by kernel_rfl) ?_ _
                  refine rn.OnlyN.normal ?_
                  rcases hres with ⟨rfl, hJ2⟩ | ⟨rfl, hJ2⟩
                  · obtain ⟨C', hrr, hgg⟩ := gv_next (tl := fun pre => pre.filter (fun s => decide (n1 < s.1))) (y := y) HI.out (by omega) (Below.refl X.heap.size X).drew HG4.out.it hr2 hJ2 (by show (pre ++ [y]).filter _ = _; rw [HSN.out])
                    have HFIN := Lib.hid (HRN.out C' _ hrr hgg)
                    clear hrr hgg hr2 hJ2
                    gi_wp2
                    exact HFIN.out _
                  · obtain ⟨C', hrr, hgg⟩ := gv_stop (J := J) (xs := pre ++ [y]) (all := L.filter (fun s => decide (n1 < s.1))) HI.out (Below.refl X.heap.size X).drew hr2 hJ2
                    have HFIN := Lib.hid (HRR.out C' _ hrr hgg)
                    clear hrr hgg hr2 hJ2
                    gi_wp2
                    exact HFIN.out _
                exact AllReadyIn.nil
              exact AllReadyIn.nil
            refine AllReadyIn.cons rfl (fun K hK => ?_) ?_
            · go_simp
              refine hK _ _ ?_
              clear hK K
              refine wpAnyIn_ready (rs := [6]) (by kernel_rfl) (by simp) ?_
              refine AllReadyIn.cons rfl (fun K hK => ?_) ?_
              · go_simp
                refine hK _ _ ?_
                clear hK K
                refine wpAnyIn_ready (rs := [8]) (by kernel_rfl) (by simp) ?_
                refine AllReadyIn.cons rfl (fun K hK => ?_) ?_
                · go_simp
                  refine hYY.mono ?_
                  rintro e w6 ⟨bo, rfl, C2, hr2, hres⟩
                  clear hyy hYY e0 e1 e2 e3
                  refine hK _ _ ?_
                  clear hK K
                  refine wpAnyIn_take (i := 9) (v := (.bool (!bo))) rfl rfl (by kernel_rfl) (by kernel_rfl) (by kernel_rfl) (fun _ _ _ h => h) ⟨Or.inl ⟨by rfl, by intro w; go_simp⟩, fun _ => rfl⟩ ?_
                  refine wpAnyIn_take (i := 10) (v := (.bool (!bo))) rfl rfl (by kernel_rfl) (by kernel_rfl) (by kernel_rfl) (fun _ _ _ h => h) ⟨Or.inl ⟨by rfl, by intro w; go_simp⟩, fun _ => rfl⟩ ?_
                  refine wpAnyIn_done (by kernel_rfl) ?_ _
                  refine rn.OnlyN.normal ?_
                  rcases hres with ⟨rfl, hJ2⟩ | ⟨rfl, hJ2⟩
                  · obtain ⟨C', hrr, hgg⟩ := gv_next (tl := fun pre => pre.filter (fun s => decide (n1 < s.1))) (y := y) HI.out (by omega) (Below.refl X.heap.size X).drew HG4.out.it hr2 hJ2 (by show (pre ++ [y]).filter _ = _; rw [HSN.out])
                    have HFIN := Lib.hid (HRN.out C' _ hrr hgg)
                    clear hrr hgg hr2 hJ2
                    gi_wp2
                    exact HFIN.out _
                  · obtain ⟨C', hrr, hgg⟩ := gv_stop (J := J) (xs := pre ++ [y]) (all := L.filter (fun s => decide (n1 < s.1))) HI.out (Below.refl X.heap.size X).drew hr2 hJ2
                    have HFIN := Lib.hid (HRR.out C' _ hrr hgg)
                    clear hrr hgg hr2 hJ2
                    gi_wp2
                    exact HFIN.out _
                exact AllReadyIn.nil
              exact AllReadyIn.nil
            exact AllReadyIn.nil
          exact AllReadyIn.nil
        refine AllReadyIn.cons rfl (fun K hK => ?_) ?_
        · go_simp
          refine ⟨trivial, ?_⟩
          refine (callsIn_wide.2 (HNX.out)).mono ?_
          rintro e w3 ⟨rfl, rfl⟩
          refine hK _ _ ?_
          clear hK K
          refine wpAnyIn_ready (rs := [1]) (by kernel_rfl) (by simp) ?_
          refine AllReadyIn.cons rfl (fun K hK => ?_) ?_
          · go_simp
            refine hK _ _ ?_
            clear hK K
            refine wpAnyIn_take (i := 4) (v := (.bool true)) rfl rfl (by kernel_rfl) (by kernel_rfl) (by kernel_rfl) (fun _ _ _ h => h) ⟨Or.inl ⟨by rfl, by intro w; go_simp⟩, fun _ => rfl⟩ ?_
            refine wpAnyIn_take (i := 5) (v := (.bool true)) rfl rfl (by kernel_rfl) (by kernel_rfl) (by kernel_rfl) (fun _ _ _ h => h) ⟨Or.inl ⟨by rfl, by intro w; go_simp⟩, fun _ => rfl⟩ ?_
            refine wpAnyIn_ready (rs := [6, 7]) (by kernel_rfl) (by simp) ?_
            refine AllReadyIn.cons rfl (fun K hK => ?_) ?_
            · go_simp
              refine hK _ _ ?_
              clear hK K
              refine wpAnyIn_ready (rs := [7]) (by kernel_rfl) (by simp) ?_
              refine AllReadyIn.cons rfl (fun K hK => ?_) ?_
              · go_simp
                refine hK _ _ ?_
                clear hK K
                refine wpAnyIn_ready (rs := [8]) (by kernel_rfl) (by simp) ?_
                refine AllReadyIn.cons rfl (fun K hK => ?_) ?_
                · go_simp
                  refine hYY.mono ?_
                  rintro e w6 ⟨bo, rfl, C2, hr2, hres⟩
                  clear hyy hYY e0 e1 e2 e3
                  refine hK _ _ ?_
                  clear hK K
                  refine wpAnyIn_take (i := 9) (v := (.bool (!bo))) rfl rfl (by kernel_rfl) (by kernel_rfl) (by kernel_rfl) (fun _ _ _ h => h) ⟨Or.inl ⟨by rfl, by intro w; go_simp⟩, fun _ => rfl⟩ ?_
                  refine wpAnyIn_take (i := 10) (v := (.bool (!bo))) rfl rfl (by kernel_rfl) (by kernel_rfl) (by kernel_rfl) (fun _ _ _ h => h) ⟨Or.inl ⟨by rfl, by intro w; go_simp⟩, fun _ => rfl⟩ ?_
                  refine wpAnyIn_done (by kernel_rfl) ?_ _
                  refine rn.OnlyN.normal ?_
                  rcases hres with ⟨rfl, hJ2⟩ | ⟨rfl, hJ2⟩
                  · obtain ⟨C', hrr, hgg⟩ := gv_next (tl := fun pre => pre.filter (fun s => decide (n1 < s.1))) (y := y) HI.out (by omega) (Below.refl X.heap.size X).drew HG4.out.it hr2 hJ2 (by show (pre ++ [y]).filter _ = _; rw [HSN.out])
                    have HFIN := Lib.hid (HRN.out C' _ hrr hgg)
                    clear hrr hgg hr2 hJ2
                    gi_wp2
                    exact HFIN.out _
                  · obtain ⟨C', hrr, hgg⟩ := gv_stop (J := J) (xs := pre ++ [y]) (all := L.filter (fun s => decide (n1 < s.1))) HI.out (Below.refl X.heap.size X).drew hr2 hJ2
                    have HFIN := Lib.hid (HRR.out C' _ hrr hgg)
                    clear hrr hgg hr2 hJ2
                    gi_wp2
                    exact HFIN.out _
                exact AllReadyIn.nil
              exact AllReadyIn.nil
            refine AllReadyIn.cons rfl (fun K hK => ?_) ?_
            · go_simp
              refine hK _ _ ?_
              clear hK K
              refine wpAnyIn_ready (rs := [6]) (by kernel_rfl) (by simp) ?_
              refine AllReadyIn.cons rfl (fun K hK => ?_) ?_
              · go_simp
                refine hK _ _ ?_
                clear hK K
                refine wpAnyIn_ready (rs := [8]) (by kernel_rfl) (by simp) ?_
                refine AllReadyIn.cons rfl (fun K hK => ?_) ?_
                · go_simp
                  refine hYY.mono ?_
                  rintro e w6 ⟨bo, rfl, C2, hr2, hres⟩
                  clear hyy hYY e0 e1 e2 e3
                  refine hK _ _ ?_
                  clear hK K
                  refine wpAnyIn_take (i := 9) (v := (.bool (!bo))) rfl rfl (by kernel_rfl) (by kernel_rfl) (by kernel_rfl) (fun _ _ _ h => h) ⟨Or.inl ⟨by rfl, by intro w; go_simp⟩, fun _ => rfl⟩ ?_
                  refine wpAnyIn_take (i := 10) (v := (.bool (!bo))) rfl rfl (by kernel_rfl) (by kernel_rfl) (by kernel_rfl) (fun _ _ _ h => h) ⟨Or.inl ⟨by rfl, by intro w; go_simp⟩, fun _ => rfl⟩ ?_
                  refine wpAnyIn_done (by kernel_rfl) ?_ _
                  refine rn.OnlyN.normal ?_
                  rcases hres with ⟨rfl, hJ2⟩ | ⟨rfl, hJ2⟩
                  · obtain ⟨C', hrr, hgg⟩ := gv_next (tl := fun pre => pre.filter (fun s => decide (n1 < s.1))) (y := y) HI.out (by omega) (Below.refl X.heap.size X).drew HG4.out.it hr2 hJ2 (by show (pre ++ [y]).filter _ = _; rw [HSN.out])
                    have HFIN := Lib.hid (HRN.out C' _ hrr hgg)
                    clear hrr hgg hr2 hJ2
                    gi_wp2
                    exact HFIN.out _
                  · obtain ⟨C', hrr, hgg⟩ := gv_stop (J := J) (xs := pre ++ [y]) (all := L.filter (fun s => decide (n1 < s.1))) HI.out (Below.refl X.heap.size X).drew hr2 hJ2
                    have HFIN := Lib.hid (HRR.out C' _ hrr hgg)
                    clear hrr hgg hr2 hJ2
                    gi_wp2
                    exact HFIN.out _
                exact AllReadyIn.nil
              exact AllReadyIn.nil
            exact AllReadyIn.nil
          exact AllReadyIn.nil
        exact AllReadyIn.nil
      exact AllReadyIn.nil
    · rw [if_neg (by simpa using hc), List.append_nil] at hsn
      obtain ⟨C', hrr, hgg⟩ := gv_skip (tl := fun pre => pre.filter (fun s => decide (n1 < s.1))) (y := y) HJ.out HI.out (by omega) (Below.refl X.heap.size X).drew hsn
      have HFIN := Lib.hid (HRN.out C' _ hrr hgg)
      clear hrr hgg hpr hsn hg4
      gi_wp2
      refine Code.wpIn_mono rn.OnlyN.imp ?_
      refine wpIn_region_round hmo (by kernel_rfl) ?_
      refine wpAnyIn_take (i := 0) (v := (.pointer (some ⟨b, 0, none⟩))) rfl rfl (by kernel_rfl) (by kernel_rfl) (by kernel_rfl) (fun _ _ _ h => h) ⟨Or.inl ⟨by rfl, by intro w; go_simp⟩, fun _ => rfl⟩ ?_
      refine wpAnyIn_ready (rs := [1, 2]) (by kernel_rfl) (by simp) ?_
      refine AllReadyIn.cons rfl (fun K hK => ?_) ?_
      · go_simp
        refine hK _ _ ?_
        clear hK K
        refine wpAnyIn_ready (rs := [2]) (by kernel_rfl) (by simp) ?_
        refine AllReadyIn.cons rfl (fun K hK => ?_) ?_
        · go_simp
          refine hK _ _ ?_
          clear hK K
          refine wpAnyIn_ready (rs := [3]) (by kernel_rfl) (by simp) ?_
          refine AllReadyIn.cons rfl (fun K hK => ?_) ?_
          · go_simp
            refine ⟨trivial, ?_⟩
            refine (callsIn_wide.2 (HNX.out)).mono ?_
            rintro e w3 ⟨rfl, rfl⟩
            refine hK _ _ ?_
            clear hK K
            refine wpAnyIn_take (i := 4) (v := (.bool false)) rfl rfl (by kernel_rfl) (by kernel_rfl) (by kernel_rfl) (fun _ _ _ h => h) ⟨Or.inl ⟨by rfl, by intro w; go_simp⟩, fun _ => rfl⟩ ?_
            refine wpAnyIn_take (i := 5) (v := (.bool false)) rfl rfl (by kernel_rfl) (by kernel_rfl) (by kernel_rfl) (fun _ _ _ h => h) ⟨Or.inl ⟨by rfl, by intro w; go_simp⟩, fun _ => rfl⟩ ?_
            refine wpAnyIn_ready (rs := [6, 7]) (by kernel_rfl) (by simp) ?_
            refine AllReadyIn.cons rfl (fun K hK => ?_) ?_
            · go_simp
              (try refine ⟨(fun f hf => by cases hf), ?_⟩)
              refine hK _ _ ?_
              clear hK K
              refine wpAnyIn_ready (rs := [7]) (by kernel_rfl) (by simp) ?_
              refine AllReadyIn.cons rfl (fun K hK => ?_) ?_
              · go_simp
                (try refine ⟨(fun f hf => by cases hf), ?_⟩)
                refine hK _ _ ?_
                clear hK K
                refine wpAnyIn_ready (rs := [8]) (by kernel_rfl) (by simp) ?_
                refine AllReadyIn.cons rfl (fun K hK => ?_) ?_
                · go_simp
                  (try refine ⟨(fun f hf => by cases hf), ?_⟩)
                  refine hK _ _ ?_
                  clear hK K
                  refine wpAnyIn_ready (rs := [9]) (by kernel_rfl) (by simp) ?_
                  refine AllReadyIn.cons rfl (fun K hK => ?_) ?_
                  · go_simp
                    (try refine ⟨(fun f hf => by cases hf), ?_⟩)
                    refine hK _ _ ?_
                    clear hK K
                    refine wpAnyIn_take (i := 10) (v := (.bool false)) rfl rfl (by kernel_rfl) (by kernel_rfl) (by kernel_rfl) (fun _ _ _ h => h) ⟨Or.inl ⟨by rfl, by intro w; go_simp⟩, fun _ => rfl⟩ ?_
                    refine wpAnyIn_done (by kernel_rfl) ?_ _
                    refine rn.OnlyN.normal ?_
                    clear e0 e1 e2 e3
                    gi_wp2
                    exact HFIN.out _
                  exact AllReadyIn.nil
                exact AllReadyIn.nil
              exact AllReadyIn.nil
            refine AllReadyIn.cons rfl (fun K hK => ?_) ?_
            · go_simp
              (try refine ⟨(fun f hf => by cases hf), ?_⟩)
              refine hK _ _ ?_
              clear hK K
              refine wpAnyIn_ready (rs := [6]) (by kernel_rfl) (by simp) ?_
              refine AllReadyIn.cons rfl (fun K hK => ?_) ?_
              · go_simp
                (try refine ⟨(fun f hf => by cases hf), ?_⟩)
                refine hK _ _ ?_
                clear hK K
                refine wpAnyIn_ready (rs := [8]) (by kernel_rfl) (by simp) ?_
                refine AllReadyIn.cons rfl (fun K hK => ?_) ?_
                · go_simp
                  (try refine ⟨(fun f hf => by cases hf), ?_⟩)
                  refine hK _ _ ?_
                  clear hK K
                  refine wpAnyIn_ready (rs := [9]) (by kernel_rfl) (by simp) ?_
                  refine AllReadyIn.cons rfl (fun K hK => ?_) ?_
                  · go_simp
                    (try refine ⟨(fun f hf => by cases hf), ?_⟩)
                    refine hK _ _ ?_
                    clear hK K
                    refine wpAnyIn_take (i := 10) (v := (.bool false)) rfl rfl (by kernel_rfl) (by kernel_rfl) (by kernel_rfl) (fun _ _ _ h => h) ⟨Or.inl ⟨by rfl, by intro w; go_simp⟩, fun _ => rfl⟩ ?_
                    refine wpAnyIn_done (by kernel_rfl) ?_ _
                    refine rn.OnlyN.normal ?_
                    clear e0 e1 e2 e3
                    gi_wp2
                    exact HFIN.out _
                  exact AllReadyIn.nil
                exact AllReadyIn.nil
              exact AllReadyIn.nil
            exact AllReadyIn.nil
          exact AllReadyIn.nil
        exact AllReadyIn.nil
      refine AllReadyIn.cons rfl (fun K hK => ?_) ?_
      · go_simp
        refine hK _ _ ?_
        clear hK K
        refine wpAnyIn_ready (rs := [1, 3]) (by kernel_rfl) (by simp) ?_
        refine AllReadyIn.cons rfl (fun K hK => ?_) ?_
        · go_simp
          refine hK _ _ ?_
          clear hK K
          refine wpAnyIn_ready (rs := [3]) (by kernel_rfl) (by simp) ?_
          refine AllReadyIn.cons rfl (fun K hK => ?_) ?_
          · go_simp
            refine ⟨trivial, ?_⟩
            refine (callsIn_wide.2 (HNX.out)).mono ?_
            rintro e w3 ⟨rfl, rfl⟩
            refine hK _ _ ?_
            clear hK K
            refine wpAnyIn_take (i := 4) (v := (.bool false)) rfl rfl (by kernel_rfl) (by kernel_rfl) (by kernel_rfl) (fun _ _ _ h => h) ⟨Or.inl ⟨by rfl, by intro w; go_simp⟩, fun _ => rfl⟩ ?_
            refine wpAnyIn_take (i := 5) (v := (.bool false)) rfl rfl (by kernel_rfl) (by kernel_rfl) (by kernel_rfl) (fun _ _ _ h => h) ⟨Or.inl ⟨by rfl, by intro w; go_simp⟩, fun _ => rfl⟩ ?_
            refine wpAnyIn_ready (rs := [6, 7]) (by kernel_rfl) (by simp) ?_
            refine AllReadyIn.cons rfl (fun K hK => ?_) ?_
            · go_simp
              (try refine ⟨(fun f hf => by cases hf), ?_⟩)
              refine hK _ _ ?_
              clear hK K
              refine wpAnyIn_ready (rs := [7]) (by kernel_rfl) (by simp) ?_
              refine AllReadyIn.cons rfl (fun K hK => ?_) ?_
              · go_simp
                (try refine ⟨(fun f hf => by cases hf), ?_⟩)
                refine hK _ _ ?_
                clear hK K
                refine wpAnyIn_ready (rs := [8]) (by kernel_rfl) (by simp) ?_
                refine AllReadyIn.cons rfl (fun K hK => ?_) ?_
                · go_simp
                  (try refine ⟨(fun f hf => by cases hf), ?_⟩)
                  refine hK _ _ ?_
                  clear hK K
                  refine wpAnyIn_ready (rs := [9]) (by kernel_rfl) (by simp) ?_
                  refine AllReadyIn.cons rfl (fun K hK => ?_) ?_
                  · go_simp
                    (try refine ⟨(fun f hf => by cases hf), ?_⟩)
                    refine hK _ _ ?_
                    clear hK K
                    refine wpAnyIn_take (i := 10) (v := (.bool false)) rfl rfl (by kernel_rfl) (by kernel_rfl) (by kernel_rfl) (fun _ _ _ h => h) ⟨Or.inl ⟨by rfl, by intro w; go_simp⟩, fun _ => rfl⟩ ?_
                    refine wpAnyIn_done (by kernel_rfl) ?_ _
                    refine rn.OnlyN.normal ?_
                    clear e0 e1 e2 e3
                    gi_wp2
                    exact HFIN.out _
                  exact AllReadyIn.nil
                exact AllReadyIn.nil
              exact AllReadyIn.nil
            refine AllReadyIn.cons rfl (fun K hK => ?_) ?_
            · go_simp
              (try refine ⟨(fun f hf => by cases hf), ?_⟩)
              refine hK _ _ ?_
              clear hK K
              refine wpAnyIn_ready (rs := [6]) (by kernel_rfl) (by simp) ?_
              refine AllReadyIn.cons rfl (fun K hK => ?_) ?_
              · go_simp
                (try refine ⟨(fun f hf => by cases hf), ?_⟩)
                refine hK _ _ ?_
                clear hK K
                refine wpAnyIn_ready (rs := [8]) (by kernel_rfl) (by simp) ?_
                refine AllReadyIn.cons rfl (fun K hK => ?_) ?_
                · go_simp
                  (try refine ⟨(fun f hf => by cases hf), ?_⟩)
                  refine hK _ _ ?_
                  clear hK K
                  refine wpAnyIn_ready (rs := [9]) (by kernel_rfl) (by simp) ?_
                  refine AllReadyIn.cons rfl (fun K hK => ?_) ?_
                  · go_simp
                    (try refine ⟨(fun f hf => by cases hf), ?_⟩)
                    refine hK _ _ ?_
                    clear hK K
                    refine wpAnyIn_take (i := 10) (v := (.bool false)) rfl rfl (by kernel_rfl) (by kernel_rfl) (by kernel_rfl) (fun _ _ _ h => h) ⟨Or.inl ⟨by rfl, by intro w; go_simp⟩, fun _ => rfl⟩ ?_
                    refine wpAnyIn_done (by kernel_rfl) ?_ _
                    refine rn.OnlyN.normal ?_
                    clear e0 e1 e2 e3
                    gi_wp2
                    exact HFIN.out _
                  exact AllReadyIn.nil
                exact AllReadyIn.nil
              exact AllReadyIn.nil
            exact AllReadyIn.nil
          exact AllReadyIn.nil
        refine AllReadyIn.cons rfl (fun K hK => ?_) ?_
        · go_simp
          refine ⟨trivial, ?_⟩
          refine (callsIn_wide.2 (HNX.out)).mono ?_
          rintro e w3 ⟨rfl, rfl⟩
          refine hK _ _ ?_
          clear hK K
          refine wpAnyIn_ready (rs := [1]) (by kernel_rfl) (by simp) ?_
          refine AllReadyIn.cons rfl (fun K hK => ?_) ?_
          · go_simp
            refine hK _ _ ?_
            clear hK K
            refine wpAnyIn_take (i := 4) (v := (.bool false)) rfl rfl (by kernel_rfl) (by kernel_rfl) (by kernel_rfl) (fun _ _ _ h => h) ⟨Or.inl ⟨by rfl, by intro w; go_simp⟩, fun _ => rfl⟩ ?_
            refine wpAnyIn_take (i := 5) (v := (.bool false)) rfl rfl (by kernel_rfl) (by kernel_rfl) (by kernel_rfl) (fun _ _ _ h => h) ⟨Or.inl ⟨by rfl, by intro w; go_simp⟩, fun _ => rfl⟩ ?_
            refine wpAnyIn_ready (rs := [6, 7]) (by kernel_rfl) (by simp) ?_
            refine AllReadyIn.cons rfl (fun K hK => ?_) ?_
            · go_simp
              (try refine ⟨(fun f hf => by cases hf), ?_⟩)
              refine hK _ _ ?_
              clear hK K
              refine wpAnyIn_ready (rs := [7]) (by kernel_rfl) (by simp) ?_
              refine AllReadyIn.cons rfl (fun K hK => ?_) ?_
              · go_simp
                (try refine ⟨(fun f hf => by cases hf), ?_⟩)
                refine hK _ _ ?_
                clear hK K
                refine wpAnyIn_ready (rs := [8]) (by kernel_rfl) (by simp) ?_
                refine AllReadyIn.cons rfl (fun K hK => ?_) ?_
                · go_simp
                  (try refine ⟨(fun f hf => by cases hf), ?_⟩)
                  refine hK _ _ ?_
                  clear hK K
                  refine wpAnyIn_ready (rs := [9]) (by kernel_rfl) (by simp) ?_
                  refine AllReadyIn.cons rfl (fun K hK => ?_) ?_
                  · go_simp
                    (try refine ⟨(fun f hf => by cases hf), ?_⟩)
                    refine hK _ _ ?_
                    clear hK K
                    refine wpAnyIn_take (i := 10) (v := (.bool false)) rfl rfl (by kernel_rfl) (by kernel_rfl) (by kernel_rfl) (fun _ _ _ h => h) ⟨Or.inl ⟨by rfl, by intro w; go_simp⟩, fun _ => rfl⟩ ?_
                    refine wpAnyIn_done (by kernel_rfl) ?_ _
                    refine rn.OnlyN.normal ?_
                    clear e0 e1 e2 e3
                    gi_wp2
                    exact HFIN.out _
                  exact AllReadyIn.nil
                exact AllReadyIn.nil
              exact AllReadyIn.nil
            refine AllReadyIn.cons rfl (fun K hK => ?_) ?_
            · go_simp
              (try refine ⟨(fun f hf => by cases hf), ?_⟩)
              refine hK _ _ ?_
              clear hK K
              refine wpAnyIn_ready (rs := [6]) (by kernel_rfl) (by simp) ?_
              refine AllReadyIn.cons rfl (fun K hK => ?_) ?_
              · go_simp
                (try refine ⟨(fun f hf => by cases hf), ?_⟩)
                refine hK _ _ ?_
                clear hK K
                refine wpAnyIn_ready (rs := [8]) (by kernel_rfl) (by simp) ?_
                refine AllReadyIn.cons rfl (fun K hK => ?_) ?_
                · go_simp
                  (try refine ⟨(fun f hf => by cases hf), ?_⟩)
                  refine hK _ _ ?_
                  clear hK K
                  refine wpAnyIn_ready (rs := [9]) (by kernel_rfl) (by simp) ?_
                  refine AllReadyIn.cons rfl (fun K hK => ?_) ?_
                  · go_simp
                    (try refine ⟨(fun f hf => by cases hf), ?_⟩)
                    refine hK _ _ ?_
                    clear hK K
                    refine wpAnyIn_take (i := 10) (v := (.bool false)) rfl rfl (by kernel_rfl) (by kernel_rfl) (by kernel_rfl) (fun _ _ _ h => h) ⟨Or.inl ⟨by rfl, by intro w; go_simp⟩, fun _ => rfl⟩ ?_
                    refine wpAnyIn_done (by kernel_rfl) ?_ _
                    refine rn.OnlyN.normal ?_
                    clear e0 e1 e2 e3
                    gi_wp2
                    exact HFIN.out _
                  exact AllReadyIn.nil
                exact AllReadyIn.nil
              exact AllReadyIn.nil
            exact AllReadyIn.nil
          exact AllReadyIn.nil
        exact AllReadyIn.nil
      exact AllReadyIn.nil
  case done =>
    rintro D C X hD hCD ⟨Co, hI⟩ hK
    have hnD : ¬ Co D := fun e => hCD (hI.sub _ e)
    have HF := Lib.hid (HJ.out _ _ _ _ hI.j hI.it.kept.size (rng.Steps.putObj (fun k => k < W.heap.size ∨ Co k) X D (.deferred none) (by rintro (e | e); omega; exact hnD e)))
    have HK4 := Lib.hid hK
    clear hI hK HGI HSEQ hnD
    gi_wp2
    refine ⟨by simp, .inl ⟨_, _, rfl, run_takeDeferred HK4.out, ?_⟩⟩
    exact ⟨_, results_none rfl _ _ _, ⟨_, rfl⟩, Co, .inl HF.out⟩
  case stop =>
    rintro D c pre C X hD hCD ⟨rfl, Co, h1, hj⟩ hK
    have hX : W.heap.size ≤ X.heap.size := by have := lt_of_block hK; omega
    have hst := rng.Steps.putObj (fun k => k < W.heap.size ∨ Co k) X D (.deferred none) (by rintro (e | e); omega; exact hCD (h1 _ e))
    have HF : Hid (∃ C', J (L.filter (fun s => decide (n1 < s.1))) C' (X.putObj D (.deferred none)) ∨ ∃ told, Jx told C' (X.putObj D (.deferred none))) := Lib.hid (by
      rcases hj with hj | ⟨told, hj⟩
      · exact ⟨Co, .inl (HJ.out _ _ _ _ hj hX hst)⟩
      · exact ⟨Co, .inr ⟨told, HJX.out _ _ _ _ hj hX hst⟩⟩)
    have HK4 := Lib.hid hK
    clear hj hst hK HGI HSEQ
    gi_wp2
    refine ⟨by simp, .inl ⟨_, _, rfl, run_takeDeferred HK4.out, ?_⟩⟩
    exact ⟨_, results_none rfl _ _ _, ⟨_, rfl⟩, HF.out⟩
end Go.Proofs.Ytekddgmmfgpehaa.hd
/-!   Package heard: New, Clone, Above; the law's above. (Written by gen_hrdn.py.)
-/
namespace Go.Proofs.Ytekddgmmfgpehaa.hd
open Go.RowKit Go.Shelf aid mem rng sp rn
attribute [local go_sem ↓] Go.wp_at_zero Go.wp_at_succ
set_option linter.unusedVariables false
set_option linter.unusedSimpArgs false

theorem made_ints (n : Nat) : (madeCells (Value.cells (.int .u8 0)) (n * 1)).toList = ints .u8 (List.replicate n 0) := by
  apply List.ext_getElem?
  intro i
  by_cases hi : i < n
  · simp [madeCells, ints, hi, Value.cells, Nat.mod_one]
  · simp [madeCells, ints, hi]
/-- bytes that are made -/
theorem run_make_u8 {P : Program} (w : World) (t e : TypeId) (i : TypeInfo) (h1 : P.underlying t = some (.slice e)) (h2 : P.info? e = some i) (h3 : i.zero = some (.int .u8 0)) (h4 : i.size = 1) (h5 : i.bytes = 1) (he : e = 5) (n : Nat) (hn : n ≤ 1000000) :
    ∃ w', (Instr.makeSlice t (.int .i64 (n : Int)) (.int .i64 (n : Int))).run P w = .ok (.slice (some ⟨w.heap.size, 0, none⟩) n n) w' ∧ RgAt w' w.heap.size (List.replicate n 0) [] ∧ Below w.heap.size w w' := by
  subst he
  obtain ⟨w', hrun, ho, hg⟩ := run_make_full (P := P) w w.heap.size t _ i (.int .u8 0) 1 h1 h2 h3 h4 .i64 .i64 n (by rw [h5]; omega) (by unfold maxLen; omega) (Nat.le_refl _)
  refine ⟨w', hrun, ?_, ⟨hg.os, hg.tape, hg.output, hg.size, fun k hk => hg.block k hk (by simp)⟩⟩
  rw [made_ints] at ho
  obtain ⟨hl, hr⟩ := ho
  rcases hr with ⟨hv, _⟩ | ⟨g, cap, cur, hv, hb, hh, hn, hm, hc, ht⟩
  · cases hv
  injection hv with hv1 _ hv3
  injection hv1 with hv1
  injection hv1 with hv1
  subst hv1 hv3
  have hcur : cur = (ints .u8 (List.replicate n 0)).toArray := by
    apply Array.toList_inj.1
    rw [← ht, List.take_of_length_le (by rw [Array.length_toList, hc]; exact Nat.le_refl _)]
  unfold RgAt
  rw [hh, hcur, List.append_nil]
theorem step_make {P : Program} {w : World} {ops : Array Oper} {o : Oper} {a : Act} {K : Act → World → Prop} {Q : Exit → Act → World → Prop} {E : Prop} (hgd : o.guard = none) (l c : Operand) (t : TypeId) (hop : o.op = Op.makeSlice t l c)
    (e : TypeId) (i : TypeInfo) (h1 : P.underlying t = some (.slice e)) (h2 : P.info? e = some i) (h3 : i.zero = some (.int .u8 0)) (h4 : i.size = 1) (h5 : i.bytes = 1) (n : Nat) (he : e = 5) (hn : n ≤ 1000000)
    (h : ∀ w', RgAt w' w.heap.size (List.replicate n 0) [] → Below w.heap.size w w' → K (a.put o.dst (.slice (some ⟨w.heap.size, 0, none⟩) n n)) w') (hl : a.eval l = .int .i64 (n : Int)) (hc : a.eval c = .int .i64 (n : Int)) :
    if Region.wanted o (yielded ops a.tmps) = true then Oper.wp P o a w K Q else E := by
  have hw : Region.wanted o (yielded ops a.tmps) = true := by simp [Region.wanted, hgd]
  rw [if_pos hw]
  obtain ⟨w', hrun, r1, r2⟩ := run_make_u8 (P := P) w t e i h1 h2 h3 h4 h5 he n hn
  unfold Oper.wp
  simp [execOp, hop, hl, hc, hrun, Result.andThen]
  exact h w' r1 r2
/-- a new one -/
def RetN (f : Int) (r : Nat) (w : World) (e : Ending) (w' : World) : Prop := ∃ B m, e = .returned (.tuple #[.pointer (some ⟨B, 0, none⟩), .int .i64 0]) ∧ HdAt w' B m ⟨f, r, [], fun _ => 0⟩ ∧ Below w.heap.size w w' ∧ ∀ b ∈ B :: parts m, w.heap.size ≤ b
theorem ok_new {f : Int} {r : Nat} (hf : 0 ≤ f ∧ f ≤ 4294967295) (hr : 1 ≤ r ∧ r ≤ 65536) : Ok ⟨f, r, [], fun _ => 0⟩ := ⟨hf, hr, Rn.nil, fun o h => (In.nil h).elim⟩
theorem new_fin {f : Int} {r : Nat} (hf : 0 ≤ f ∧ f ≤ 4294967295) (hr : 1 ≤ r ∧ r ≤ 65536) {w W : World} {g H : Nat} {SH : List Nat} {R : List Int} (hg : RgAt W g R []) (hR : R.length = r) (ho : rn.Own H [] SH W) (hb : Below w.heap.size w W) (hgn : w.heap.size ≤ g) (hS : ∀ b ∈ SH, w.heap.size ≤ b) :
    RetN f r w (.returned (.tuple #[.pointer (some ⟨W.heap.size, 0, none⟩), .int .i64 0])) (W.alloc (.cells #[.int .u32 f, .slice none 0 0, .slice (some ⟨g, 0, none⟩) r r, .pointer (some ⟨H, 0, none⟩)] 63)) := by
  have b1 := bal (w := W) (.cells #[.int .u32 f, .slice none 0 0, .slice (some ⟨g, 0, none⟩) r r, .pointer (some ⟨H, 0, none⟩)] 63)
  have x1 := heap_alloc_new W (.cells #[.int .u32 f, .slice none 0 0, .slice (some ⟨g, 0, none⟩) r r, .pointer (some ⟨H, 0, none⟩)] 63)
  refine ⟨W.heap.size, ⟨g, r, [], H, SH, none, 0⟩, rfl, ⟨?_, ho.later b1, ⟨R, (b1.block _ (lt_of_block hg)).trans hg, ⟨hR, fun i _ h => (In.nil h).elim⟩⟩, ?_, ok_new hf hr, ⟨Nat.le_refl _, by unfold maxLen; simp only; omega⟩, by simp [blk_zero]⟩, hb.trans (b1.mono hb.size), fun b hb' => ?_⟩
  · exact x1
  · exact SlR.nil _ _ 1
  · simp only [List.mem_cons, List.mem_append] at hb'
    rcases hb' with rfl | rfl | q | q
    · exact hb.size
    · exact hgn
    · exact hS b q
    · simp [blk_zero] at q
set_option maxRecDepth 100000 in
set_option maxHeartbeats 4000000 in
theorem new_ok (f : Int) (r : Nat) (hf : 0 ≤ f ∧ f ≤ 4294967295) (hr : 1 ≤ r ∧ r ≤ 65536) (w : World) : Calls Try.prog 8 #[.int .u32 f, .int .i64 (r : Int)] w (RetN f r w) := by
  obtain ⟨i0, hi, hz0, hz1, hz2⟩ := info_split8
  have HNW := Lib.hid (fun W => rn.new_own W)
  unfold RetO at HNW
  obtain ⟨hr1, hr2⟩ := hr
  have HR := Lib.hid (show 1 ≤ r ∧ r ≤ 65536 from ⟨hr1, hr2⟩)
  go_enter Try.func8, Try.ntmps8
  go_upto_region 3 with fail
  refine wp_region_noPanic ?_
  refine wp_region_held_drew (S := (fun _ => True)) (by kernel_rfl) ?_ (fun hHeld => ?_)
  · trivial
  refine wpAnyH_take (i := 0) (oi := _) (v := ?_) rfl (by kernel_rfl) (by kernel_rfl) (by kernel_rfl) (fun _ _ _ h => h) (Or.inl ⟨by kernel_rfl, ?_⟩) (by assumption) ?_
  rotate_left
  · (first | (intro v hSw; (try dsimp only at hSw); go_simp; done) | (intro v hSw; (try dsimp only at hSw); go_simp; with_reducible rfl))
  (try simp only [List.getElem_toArray, List.getElem_cons_succ, List.getElem_cons_zero, Act.put, List.setIfInBounds_toArray, List.set_cons_zero, List.set_cons_succ])
  refine wpAnyH_take (i := 1) (oi := _) (v := ?_) rfl (by kernel_rfl) (by kernel_rfl) (by kernel_rfl) (fun _ _ _ h => h) (Or.inl ⟨by kernel_rfl, ?_⟩) (by assumption) ?_
  rotate_left
  · (first | (intro v hSw; (try dsimp only at hSw); go_simp; done) | (intro v hSw; (try dsimp only at hSw); go_simp; with_reducible rfl))
  (try simp only [List.getElem_toArray, List.getElem_cons_succ, List.getElem_cons_zero, Act.put, List.setIfInBounds_toArray, List.set_cons_zero, List.set_cons_succ])
  refine wpAnyH_ready (rs := [2, 3]) (by kernel_rfl) (by simp) ?_
  refine AllReadyH.cons (o := _) rfl (fun K hK => ?_) ?_
  · (refine step_make rfl (.tmp 13) (.tmp 13) 59 rfl 5 i0 Try.underlying59 hi hz0 hz1 hz2 r rfl (by omega) ?_ rfl rfl; intro w1 hg1 hb1)
    refine hK.out _ _ ?_ (fun hHeld => ?_)
    · ((try dsimp only); (all_goals trivial))
    clear hK K
    (try simp only [List.getElem_toArray, List.getElem_cons_succ, List.getElem_cons_zero, Act.put, List.setIfInBounds_toArray, List.set_cons_zero, List.set_cons_succ])
    refine wpAnyH_ready (rs := [3]) (by kernel_rfl) (by simp) ?_
    refine AllReadyH.cons (o := _) rfl (fun K hK => ?_) AllReadyH.nil
    go_simp
    (with_reducible refine (HNW.out _).mono ?_)
    rintro e w2 ⟨H, SH, rfl, ho, hb2, hn2⟩
    refine hK.out _ _ ?_ (fun hHeld => ?_)
    · ((try dsimp only); (all_goals trivial))
    clear hK K
    (try simp only [List.getElem_toArray, List.getElem_cons_succ, List.getElem_cons_zero, Act.put, List.setIfInBounds_toArray, List.set_cons_zero, List.set_cons_succ])
    refine wpAnyH_take (i := 4) (oi := _) (v := ?_) rfl (by kernel_rfl) (by kernel_rfl) (by kernel_rfl) (fun _ _ _ h => h) (Or.inl ⟨by kernel_rfl, ?_⟩) (by assumption) ?_
    rotate_left
    · (first | (intro v hSw; (try dsimp only at hSw); go_simp; done) | (intro v hSw; (try dsimp only at hSw); go_simp; with_reducible rfl))
    (try simp only [List.getElem_toArray, List.getElem_cons_succ, List.getElem_cons_zero, Act.put, List.setIfInBounds_toArray, List.set_cons_zero, List.set_cons_succ])
    refine wpAnyH_ready (rs := [5]) (by kernel_rfl) (by simp) ?_
    refine AllReadyH.cons (o := _) rfl (fun K hK => ?_) AllReadyH.nil
    go_simp
    refine hK.out _ _ ?_ (fun hHeld => ?_)
    · ((try dsimp only); (all_goals trivial))
    clear hK K
    (try simp only [List.getElem_toArray, List.getElem_cons_succ, List.getElem_cons_zero, Act.put, List.setIfInBounds_toArray, List.set_cons_zero, List.set_cons_succ])
    refine wpAnyH_take (i := 6) (oi := _) (v := ?_) rfl (by kernel_rfl) (by kernel_rfl) (by kernel_rfl) (fun _ _ _ h => h) (Or.inl ⟨by kernel_rfl, ?_⟩) (by assumption) ?_
    rotate_left
    · (first | (intro v hSw; (try dsimp only at hSw); go_simp; done) | (intro v hSw; (try dsimp only at hSw); go_simp; with_reducible rfl))
    (try simp only [List.getElem_toArray, List.getElem_cons_succ, List.getElem_cons_zero, Act.put, List.setIfInBounds_toArray, List.set_cons_zero, List.set_cons_succ])
    refine wpAnyH_take (i := 7) (oi := _) (v := ?_) rfl (by kernel_rfl) (by kernel_rfl) (by kernel_rfl) (fun _ _ _ h => h) (Or.inl ⟨by kernel_rfl, ?_⟩) (by assumption) ?_
    rotate_left
    · (first | (intro v hSw; (try dsimp only at hSw); go_simp; done) | (intro v hSw; (try dsimp only at hSw); go_simp; with_reducible rfl))
    (try simp only [List.getElem_toArray, List.getElem_cons_succ, List.getElem_cons_zero, Act.put, List.setIfInBounds_toArray, List.set_cons_zero, List.set_cons_succ])
    refine wpAnyH_done (by kernel_rfl) ?_ _
    refine NoPanic.normal ?_
    have hbw : Below w.heap.size w w.drew := (Below.refl w.heap.size w).drew
    first
    | (have HF := Lib.hid (new_fin hf HR.out ((hb2.block _ (lt_of_block hg1)).trans hg1) (by simp) ho ((hbw.trans hb1).trans (hb2.mono (hbw.trans hb1).size)) (Nat.le_refl _) (fun b hb => Nat.le_trans (hbw.trans hb1).size (hn2 b hb))); clear hg1 hb1 ho hb2 hn2 hHeld hbw)
    | (have HF := Lib.hid (new_fin hf HR.out hg1 (by simp) (ho.later hb1) ((hbw.trans hb2).trans (hb1.mono (hbw.trans hb2).size)) (hbw.trans hb2).size (fun b hb => hn2 b hb)); clear hg1 hb1 ho hb2 hn2 hHeld hbw)
    go_wp2_with fail
    go_ret2
    exact HF.out
  refine AllReadyH.cons (o := _) rfl (fun K hK => ?_) AllReadyH.nil
  go_simp
  (with_reducible refine (HNW.out _).mono ?_)
  rintro e w2 ⟨H, SH, rfl, ho, hb2, hn2⟩
  refine hK.out _ _ ?_ (fun hHeld => ?_)
  · ((try dsimp only); (all_goals trivial))
  clear hK K
  (try simp only [List.getElem_toArray, List.getElem_cons_succ, List.getElem_cons_zero, Act.put, List.setIfInBounds_toArray, List.set_cons_zero, List.set_cons_succ])
  refine wpAnyH_ready (rs := [2]) (by kernel_rfl) (by simp) ?_
  refine AllReadyH.cons (o := _) rfl (fun K hK => ?_) AllReadyH.nil
  (refine step_make rfl (.tmp 13) (.tmp 13) 59 rfl 5 i0 Try.underlying59 hi hz0 hz1 hz2 r rfl (by omega) ?_ rfl rfl; intro w1 hg1 hb1)
  refine hK.out _ _ ?_ (fun hHeld => ?_)
  · ((try dsimp only); (all_goals trivial))
  clear hK K
  (try simp only [List.getElem_toArray, List.getElem_cons_succ, List.getElem_cons_zero, Act.put, List.setIfInBounds_toArray, List.set_cons_zero, List.set_cons_succ])
  refine wpAnyH_take (i := 4) (oi := _) (v := ?_) rfl (by kernel_rfl) (by kernel_rfl) (by kernel_rfl) (fun _ _ _ h => h) (Or.inl ⟨by kernel_rfl, ?_⟩) (by assumption) ?_
  rotate_left
  · (first | (intro v hSw; (try dsimp only at hSw); go_simp; done) | (intro v hSw; (try dsimp only at hSw); go_simp; with_reducible rfl))
  (try simp only [List.getElem_toArray, List.getElem_cons_succ, List.getElem_cons_zero, Act.put, List.setIfInBounds_toArray, List.set_cons_zero, List.set_cons_succ])
  refine wpAnyH_ready (rs := [5]) (by kernel_rfl) (by simp) ?_
  refine AllReadyH.cons (o := _) rfl (fun K hK => ?_) AllReadyH.nil
  go_simp
  refine hK.out _ _ ?_ (fun hHeld => ?_)
  · ((try dsimp only); (all_goals trivial))
  clear hK K
  (try simp only [List.getElem_toArray, List.getElem_cons_succ, List.getElem_cons_zero, Act.put, List.setIfInBounds_toArray, List.set_cons_zero, List.set_cons_succ])
  refine wpAnyH_take (i := 6) (oi := _) (v := ?_) rfl (by kernel_rfl) (by kernel_rfl) (by kernel_rfl) (fun _ _ _ h => h) (Or.inl ⟨by kernel_rfl, ?_⟩) (by assumption) ?_
  rotate_left
  · (first | (intro v hSw; (try dsimp only at hSw); go_simp; done) | (intro v hSw; (try dsimp only at hSw); go_simp; with_reducible rfl))
  (try simp only [List.getElem_toArray, List.getElem_cons_succ, List.getElem_cons_zero, Act.put, List.setIfInBounds_toArray, List.set_cons_zero, List.set_cons_succ])
  refine wpAnyH_take (i := 7) (oi := _) (v := ?_) rfl (by kernel_rfl) (by kernel_rfl) (by kernel_rfl) (fun _ _ _ h => h) (Or.inl ⟨by kernel_rfl, ?_⟩) (by assumption) ?_
  rotate_left
  · (first | (intro v hSw; (try dsimp only at hSw); go_simp; done) | (intro v hSw; (try dsimp only at hSw); go_simp; with_reducible rfl))
  (try simp only [List.getElem_toArray, List.getElem_cons_succ, List.getElem_cons_zero, Act.put, List.setIfInBounds_toArray, List.set_cons_zero, List.set_cons_succ])
  refine wpAnyH_done (by kernel_rfl) ?_ _
  refine NoPanic.normal ?_
  have hbw : Below w.heap.size w w.drew := (Below.refl w.heap.size w).drew
  first
  | (have HF := Lib.hid (new_fin hf HR.out ((hb2.block _ (lt_of_block hg1)).trans hg1) (by simp) ho ((hbw.trans hb1).trans (hb2.mono (hbw.trans hb1).size)) (Nat.le_refl _) (fun b hb => Nat.le_trans (hbw.trans hb1).size (hn2 b hb))); clear hg1 hb1 ho hb2 hn2 hHeld hbw)
  | (have HF := Lib.hid (new_fin hf HR.out hg1 (by simp) (ho.later hb1) ((hbw.trans hb2).trans (hb1.mono (hbw.trans hb2).size)) (hbw.trans hb2).size (fun b hb => hn2 b hb)); clear hg1 hb1 ho hb2 hn2 hHeld hbw)
  go_wp2_with fail
  go_ret2
  exact HF.out
theorem new_bad (f m : Int) (hc : m < 1 ∨ 65536 < m) (w : World) : Calls Try.prog 8 #[.int .u32 f, .int .i64 m] w
    fun e w' => e = .returned (.tuple #[.pointer none, .int .i64 2]) ∧ Below w.heap.size w w' := by
  by_cases h3 : m < 1
  · clear hc
    go_enter Try.func8, Try.ntmps8
    go_wp2_with fail
    go_ret2
    exact ⟨rfl, Below.refl _ _⟩
  have h4 : 65536 < m := by omega
  clear hc
  go_enter Try.func8, Try.ntmps8
  go_wp2_with fail
  go_ret2
  exact ⟨rfl, Below.refl _ _⟩
theorem rg_sla {w : World} {g n cap : Nat} {R : List Int} {T : List Value} (h : RgAt w g R T) (hR : R.length = n) (hc : n ≤ cap) (hm : cap ≤ maxLen) : SlA .u8 w (some ⟨g, 0, none⟩) n cap R :=
  ⟨hR, hc, hm, (fun h => by cases h), fun h0 => ⟨g, 0, rfl, fun i hi => by rw [Nat.zero_add]; exact rg_cell h i (by omega)⟩⟩
theorem own_empty (w : World) (base : Nat) (hb : base ≤ w.heap.size) : (w.alloc (.cells #[] 5)).ownsRow base 5 1 (.slice (some ⟨w.heap.size, 0, none⟩) 0 0) 0 [] :=
  ⟨rfl, .inr ⟨w.heap.size, 0, #[], rfl, hb, heap_alloc_new w _, Nat.le_refl _, by simp [maxLen], rfl, rfl⟩⟩
def RetC (l : List Int) (n : Nat) (w : World) (e : Ending) (w' : World) : Prop := ∃ c cap' T, e = .returned (.slice (some ⟨c, 0, none⟩) n cap') ∧ RgAt w' c l T ∧ n ≤ cap' ∧ cap' ≤ maxLen ∧ Below w.heap.size w w' ∧ w.heap.size ≤ c
set_option maxRecDepth 100000 in
set_option maxHeartbeats 1000000 in
theorem rclone_any {w : World} {b : Addr} {n cap : Nat} {l : List Int} (h : SlA .u8 w (some b) n cap l) (hn : n ≤ 65536) : Calls Try.prog 44 #[.slice (some b) n cap] w (RetC l n w) := by
  obtain ⟨i0, hi, hz0, hz1, hz2⟩ := info_split8
  have he : ∀ w : World, (binOp .eql 59 (.slice (some b) n cap) (.slice none 0 0)).run Try.prog w = .ok (.bool false) w := fun _ => rfl
  have hlen := h.len
  have HS := Lib.hid ((h.later (bal (.cells #[] 5))).src (P := Try.prog) Try.underlying59)
  have HO := Lib.hid (own_empty w w.heap.size (Nat.le_refl _))
  have hb := bal (w := w) (.cells #[] 5)
  go_enter Try.func44, Try.ntmps44
  go_wp2_with (at_builtin; go_must (refine wpList_append_any _ rfl (.tmp 5) (.tmp 6) 59 59 rfl w.heap.size 5 i0 (.int .u8 0) 1 Try.underlying59 hi hz0 hz1 hz2 rfl (.slice (some ⟨w.heap.size, 0, none⟩) 0 0) 0 [] rfl HO.out (.slice (some b) n cap) rfl n (ints .u8 l) HS.out (by unfold maxLen; omega) (by omega) (by simp) ?_); intro a' cap' w1 hown hgr hat)
  simp only [Nat.zero_add, List.nil_append] at hown ⊢
  go_ret
  have hbw := hb.trans (below_grown hgr (by simp) (fun k hk => by simp [Value.ownBlock] at hk; omega))
  have hll := hown.1
  rcases hown.2 with ⟨hv, _⟩ | ⟨g, cap2, cur, hv, hbg, hh, hnc, hm, hc, ht⟩
  · injection hv with h1 h2 h3
    subst h1 h3
    have : n = 0 := by omega
    subst this
    rcases hat with q | q <;> simp [Value.ownBlock] at q
  · injection hv with h1 h2 h3
    subst h1 h3
    refine ⟨g, cap', cur.toList.drop n, rfl, ?_, hnc, hm, hbw, hbg⟩
    unfold RgAt
    rw [hh, ← ht, Nat.mul_one, List.take_append_drop]
def RetCl (x : Hd) (w : World) (e : Ending) (w' : World) : Prop := ∃ C m, e = .returned (.pointer (some ⟨C, 0, none⟩)) ∧ HdAt w' C m x ∧ Below w.heap.size w w' ∧ ∀ b ∈ C :: parts m, w.heap.size ≤ b
set_option maxRecDepth 100000 in
set_option maxHeartbeats 2000000 in
theorem clone_any {w : World} {B : Nat} {m : Hb} {x : Hd} (h : HdAt w B m x) (hz : nx x.l ≤ 1000000000) (hl : x.l.length ≤ 4096) : Calls Try.prog 13 #[.pointer (some ⟨B, 0, none⟩)] w (RetCl x w) := by
  obtain ⟨R, hR, hRO⟩ := h.ring
  have HT := Lib.hid (bclone_any h.drew.text (by omega))
  unfold RetT at HT
  rw [txt_len] at HT
  have HRC := Lib.hid (fun X (hb : Below w.drew.heap.size w.drew X) => rclone_any (rg_sla ((hb.block _ (lt_of_block hR)).trans hR) hRO.len h.rc.1 h.rc.2) h.ok.r.2)
  have HCO := Lib.hid (fun X (hb : Below w.drew.heap.size w.drew X) => rn.clone_own (h.drew.own.later hb) hl)
  unfold RetC at HRC
  unfold RetO at HCO
  have HA := Lib.hid h.drew
  have HR := Lib.hid (And.intro hRO h.ok)
  obtain ⟨c0, c1, c2, c3⟩ := h.cs
  have P0 := HA.out.cs
  clear h hR hRO
  go_enter Try.func13, Try.ntmps13
  go_wp2_with fail
  go_region_held3 (fun W => Cs W B m x) (first | with_reducible exact P0 | with_reducible exact P1 | with_reducible exact P2 | with_reducible exact P3 | with_reducible exact ((HA.out.later b13).later (bal _)).cs | go_keep)
    (first
    | (go_at_call 43; (with_reducible refine HT.out.mono ?_); rintro e w1 ⟨ta, tc, rfl, trow, b1, tn⟩; have P1 := (HA.out.later b1).cs)
    | (go_at_call 44; (with_reducible refine (HRC.out _ b1).mono ?_); rintro e w2 ⟨c, rc', T', rfl, hrow, q1, q2, b2, hc⟩; have b12 := b1.trans (b2.mono b1.size); have P2 := (HA.out.later b12).cs)
    | (go_at_call 45; (with_reducible refine (HCO.out _ b12).mono ?_); rintro e w3 ⟨H', SH', rfl, ho, b3, hn⟩; have b13 := b12.trans (b3.mono b12.size); have P3 := (HA.out.later b13).cs))
  have hbw : Below w.heap.size w w3 := (Below.refl w.heap.size w).drew.trans b13
  have h4 := bal (w := w3) (.cells (cellsH x ⟨c, rc', T', H', SH', ta, tc⟩) 63)
  have x4 := heap_alloc_new w3 (.cells (cellsH x ⟨c, rc', T', H', SH', ta, tc⟩) 63)
  have HF := Lib.hid (show RetCl x w (.returned (.pointer (some ⟨w3.heap.size, 0, none⟩))) (w3.alloc (.cells (cellsH x ⟨c, rc', T', H', SH', ta, tc⟩) 63)) from by
    refine ⟨w3.heap.size, ⟨c, rc', T', H', SH', ta, tc⟩, rfl, ⟨x4, ho.later h4, ⟨R, ((b3.trans (h4.mono b3.size)).block _ (lt_of_block hrow)).trans hrow, HR.out.1⟩, trow.later ((b2.trans (b3.mono b2.size)).trans (h4.mono (b2.trans (b3.mono b2.size)).size)), HR.out.2, ⟨q1, q2⟩, fun e => ?_⟩, hbw.trans (h4.mono hbw.size), fun b hb => ?_⟩
    · have := (trow.lt c e).1; omega
    · have hz1 := b1.size; have hz2 := b12.size; have hz3 := hbw.size
      have hd : w.drew.heap.size = w.heap.size := rfl
      simp only [List.mem_cons, List.mem_append] at hb
      rcases hb with rfl | rfl | q | q
      · exact hz3
      · omega
      · have := hn b q; omega
      · have := tn b q; omega)
  clear P0 P1 P2 P3 c0 c1 c2 c3 hbw h4 x4 HA HR HT HRC HCO trow b1 tn hrow q1 q2 b2 hc b12 ho b3 hn b13
  go_wp2_with fail
  go_ret
  exact HF.out
attribute [local go_sem] Oper.semAt_some
theorem Av.later {w w' : World} {A : Nat → Prop} {p : Option Addr} {hv : Value} {a : Option Addr} {n cap : Nat} {L : List Sp} {n1 : Int} (h : Av w A p hv a n cap L n1) (hb : Below w.heap.size w w') : Av w' A p hv a n cap L n1 :=
  have hs : ∀ X, rng.Steps (fun k => k < w'.heap.size ∧ ¬ A k) w' X → rng.Steps (fun k => k < w.heap.size ∧ ¬ A k) w X := fun X q => (Steps.of_below hb _).trans (q.mono (fun k _ hk => ⟨Nat.lt_of_lt_of_le hk.1 hb.size, hk.2⟩))
  ⟨fun X q => h.all X (hs X q), fun X q => h.next X (hs X q), h.rv.later hb, h.rn, h.n, h.blk⟩
theorem av_nil (w : World) (A : Nat → Prop) : Av w A none (.pointer none) none 0 0 [] 0 :=
  ⟨fun X _ => (all_nil X).mono fun e w' q => q, fun X _ => (next_nil X).mono fun e w' q => q, .inl ⟨rfl, rfl, rfl, rfl, rfl⟩, Rn.nil, by omega, fun b hb => by simp [blk_zero] at hb⟩
theorem av_some {w : World} {B : Nat} {m : Hb} {x : Hd} (h : HdAt w B m x) (hl : x.l.length ≤ 4096) (A : Nat → Prop) (hA : ∀ b ∈ B :: parts m, ¬ A b) : ∃ a n cap, Av w A (some ⟨B, 0, none⟩) (.pointer (some ⟨m.H, 0, none⟩)) a n cap x.l (nx x.l) := by
  obtain ⟨a, n, cap, hr, e, hb⟩ := h.own.rv
  have hB := hA B (by simp)
  have hlt := h.lt B (by simp)
  refine ⟨a, n, cap, ⟨fun X q => ?_, fun X q => ?_, hr, h.ok.l, by omega, fun b hbb => hA b (by simp [hb b hbb])⟩⟩
  · have c3 := q.cell (p := ⟨B, 3, none⟩) ⟨hlt, hB⟩ h.cs.2.2.2
    go_enter Try.func41, Try.ntmps41
    go_wp2
    go_ret
    exact ⟨rfl, rfl⟩
  · have c1 := q.cell (p := ⟨B, 1, none⟩) ⟨hlt, hB⟩ h.cs.2.1
    have := next_c c1
    rw [h.nx0] at this
    exact this
theorem eg_above (args : Array Value) (w : World) : (callFunc 72 args).run Try.prog w = .ok (.enter 72 args) w := by kernel_rfl
theorem above_any {w : World} {p : Option Addr} {hv : Value} {a : Option Addr} {n cap : Nat} {L : List Sp} {n1 : Int} {A : Nat → Prop} (h : Av w A p hv a n cap L n1) (hA : ∀ k, A k → k < w.heap.size) :
    Calls Try.prog 46 #[.pointer p] w (SeqS 72 (L.filter (fun s => decide (n1 < s.1))) A w) := by
  have b1 := bal (w := w) (.cells #[.pointer p] 28)
  have x1 := heap_alloc_new w (.cells #[.pointer p] 28)
  have c1 := cofr x1 0 _ rfl
  have HF := Lib.hid (show SeqS 72 (L.filter (fun s => decide (n1 < s.1))) A w (.returned (.func (.func 72) #[] #[.pointer (some ⟨w.heap.size, 0, none⟩)])) _ from
    ⟨_, rfl, above1_seq (h.later b1) c1 (fun e => by have := hA _ e; omega), b1⟩)
  clear b1 x1 c1 hA h
  go_enter Try.func46, Try.ntmps46
  go_wp2_with fail
  go_ret
  exact HF.out
set_option maxRecDepth 100000 in
set_option maxHeartbeats 4000000 in
theorem labove_av {w : World} {p : Option Addr} {hv : Value} {a : Option Addr} {n cap : Nat} {L : List Sp} {n1 : Int} (h : Av w (fun k => k = w.heap.size) p hv a n cap L n1) : Calls Try.prog 18 #[.pointer p] w (rn.Told (L.filter (fun s => decide (n1 < s.1))) w) := by
  have hb1 := bal (w := w) (.cells #[.slice none 0 0] 32)
  have hbox := heap_alloc_new w (.cells #[.slice none 0 0] 32)
  have hln : (L.filter (fun s => decide (n1 < s.1))).length ≤ 10000 := by
    have h1 := List.length_filter_le (fun s : Sp => decide (n1 < s.1)) L
    have h2 := h.n
    have h3 := row_len h.rv.row
    omega
  refine (callsIn_wide (n := 6)).1 ?_
  refine callsIn_of_wp_marks Try.func18 rfl trivial ?_ rfl
  simp only [Try.ntmps18, List.size_toArray, List.length_cons, List.length_nil, Nat.reduceAdd, Nat.reduceSub, Array.replicate_succ, Array.replicate_zero, List.push_toArray, List.append_toArray, List.nil_append, List.cons_append]
  obtain ⟨A0, hA0⟩ : ∃ A0 : Nat → Prop, A0 = fun k => k = w.heap.size := ⟨_, rfl⟩
  have HA0 : A0 w.heap.size := by rw [hA0]
  have HAL := Lib.hid (above_any (h.later hb1) (fun k hk => by rw [hk]; simp))
  rw [← hA0] at HAL
  have HB1 := Lib.hid hb1
  have HX1 := Lib.hid hbox
  have HLN := Lib.hid hln
  clear hb1 hbox h hln hA0
  gi_wp2
  refine ⟨trivial, ?_⟩
  refine (callsIn_wide.2 HAL.out).mono ?_
  rintro e w2 ⟨lb, rfl, hseq, h2⟩
  have hz2 := h2.size
  simp at hz2
  have HSEQ := Lib.hid hseq
  have HBW2 := Lib.hid (HB1.out.trans (h2.mono HB1.out.size))
  have HBOX2 := Lib.hid ((h2.block _ (lt_of_block HX1.out)).trans HX1.out)
  clear hseq h2 HB1 HX1 HAL
  gi_wp2
  refine wpIn_rangeBox (fun (b : Nat) (y : Sp) (t : Array Value) => (t.setIfInBounds 7 (spV y)).setIfInBounds 4 (.pointer (some ⟨b, 0, none⟩))) (gf := 72) (lb := lb) (L := L.filter (fun s => decide (n1 < s.1))) (A := A0) (w0 := w2) (encs := spE) rfl eg_above HSEQ.out (Below.refl _ _) (fun _ => rfl)
    (ToldI w w.heap.size) NoX (fun k => k = w.heap.size) ?hc0 (told_bears _ _ _ (by omega)) (nox_bears _) ?h0 (fun b y C X => SpAt X b y ∧ w2.heap.size ≤ b ∧ C b ∧ (∃ v0, X.heap[w.heap.size]? = some (.cells #[v0] 32 (0, 0)) ∧ v0.ownBlock ≠ some b)) ?hB ?assign ?body ?done ?stop
  case hc0 => rintro k rfl; exact ⟨.inl HA0, by omega⟩
  case h0 => exact ⟨.slice none 0 0, HBOX2.out, rfl, World.ownsRow_nil _ _ _ _, (fun k hk => by cases hk), HBW2.out⟩
  case hB =>
    rintro b y _ C X Y ⟨h1, h2, h3, v0, h4, h5⟩ hz hs
    exact ⟨hs.heap (.inr h3) h1, h2, h3, v0, hs.heap (.inl (by omega)) h4, h5⟩
  case assign =>
    rintro l' pre y C X K ⟨v, h1, h2, h3, h4, h5⟩ hp hc hz hK
    have b1 := bal (w := X) (.cells #[.int .i64 y.1, .int .i64 y.2] 36)
    have h1' := (b1.block _ (lt_of_block h1)).trans h1
    have HK := Lib.hid (hK X.heap.size (fun k => C k ∨ k = X.heap.size) _ ⟨Steps.of_below b1 _, fun k hk => by rcases hk with hk | rfl; exact .inl hk; exact .inr ⟨Nat.le_refl _, by simp⟩⟩
      ⟨v, h1', .inl h2, own_later h3 b1, fun k hk => ⟨.inl (h4 k hk).1, (h4 k hk).2⟩, h5.trans (b1.mono h5.size)⟩ ⟨sp_new X y, hz, .inr rfl, v, h1', fun e => by have := (own_in h3 e).1; omega⟩)
    clear hK h1 h1' h2 h3 h4 h5 hp hc b1
    gi_wp2
    exact HK.out
  case body =>
    rintro l' pre x b C X ⟨v, h1, h2, h3, h4, h5⟩ ⟨hyb, hb, hcb, v0, hv0, hvb0⟩ hp hcc hz
    obtain ⟨i0, hi, hz0, hz1, hz2⟩ := info_split info_span
    have hlen : pre.length < 1000000 := by
      have := hp.length_le
      have h6 := HLN.out
      rw [List.length_append, List.length_singleton] at this
      omega
    have cB := (cell_of_row X w.heap.size 0 _ _ (0, 0) h1).trans rfl
    have e0 := hyb.c0; have e1 := hyb.c1
    have hsrc := span_src X x
    have own2 := own_later h3 (bal (w := X) (.cells #[.int .i64 x.1, .int .i64 x.2] 36))
    have d1 := kcell (bal (w := X) (.cells #[.int .i64 x.1, .int .i64 x.2] 36)) cB
    have HN := Lib.hid (fun (w1 : World) (v' : Value) => told_next (w := w) (X := X) (w1 := w1) (pre := pre) (x := x) (v' := v') h1 h2 h4 h5 (Nat.le_refl _) rfl)
    have hvb := fun k hk => (own_in h3 (k := k) hk).2
    have HV := Lib.hid hvb
    have HO := Lib.hid own2
    have HSRC := Lib.hid hsrc
    have H1 := Lib.hid h1
    have H4 := Lib.hid h4
    clear h1 h2 h3 h4 h5 hp hcc hvb own2 hsrc HSEQ HBOX2 HBW2 hv0 hvb0 hyb hcb hb
    simp only [List.setIfInBounds_toArray, List.set_cons_zero, List.set_cons_succ]
    gi_wp2_with (gi_at_builtin; refine wpListIn_append_sz _ rfl (.tmp 8) (.tmp 10) 32 32 rfl w.heap.size 36 i0 (.agg #[.int .i64 0, .int .i64 0]) 2 16 Try.underlying32 hi hz0 hz1 (by decide) hz2 rfl v pre.length (spCells pre) rfl HO.out _ rfl 1 [.int .i64 x.1, .int .i64 x.2] HSRC.out (by unfold maxLen; omega) (by omega) (by simp; omega) ?_)
    intro a' cap' w1 ho hg hw
    obtain ⟨C', hr, hg'⟩ := HN.out w1 _ ho hg (by simpa using hw) HV.out
    have HF := Lib.hid (fun (aa : Act) => show rPost (ToldI w w.heap.size) NoX (pre ++ [x]) C X .normal aa _ from ⟨C', hr, hg'⟩)
    have hB1 : w1.heap[w.heap.size]? = some (.cells #[v] 32 (0, 0)) := (hg.block w.heap.size (by simp; have := lt_of_block H1.out; omega) (fun e => (H4.out _ e.symm).2 rfl)).trans ((bal (w := X) (.cells #[.int .i64 x.1, .int .i64 x.2] 36)).block _ (lt_of_block H1.out) |>.trans H1.out)
    have g0 : w1.cell? ⟨w.heap.size, 0, none⟩ = some v := (cell_of_row w1 w.heap.size 0 _ _ (0, 0) hB1).trans rfl
    have g1 : w1.frozen? ⟨w.heap.size, 0, none⟩ = false := by simp [World.frozen?, hB1]
    clear hB1 ho hg hw HO HSRC HN HV H1 H4 cB d1 e0 e1 hr hg'
    gi_wp2
    exact HF.out _
  case done =>
    rintro D C X hD hCD ⟨v, h1, h2, h3, h4, h5⟩ hK
    have cB := (cell_of_row X w.heap.size 0 _ _ (0, 0) h1).trans rfl
    have nD : ∀ k, v.ownBlock = some k → k ≠ D := by rintro k hk rfl; exact hCD (h4 _ hk).1
    have hf : (X.putObj D (.deferred none)).ownsRow w.heap.size 36 2 v (L.filter (fun s => decide (n1 < s.1))).length (spCells (L.filter (fun s => decide (n1 < s.1)))) := own_step h3 (fun k o hk ho => (World.putObj_heap_other (nD k hk)).trans ho)
    have hb' : Below w.heap.size w (X.putObj D (.deferred none)) := h5.trans ((rng.Steps.putObj (fun k => k < w.heap.size) X D _ (by omega)).below (n := w.heap.size) h5.size (fun k hk => hk))
    have HF := Lib.hid (show rn.Told (L.filter (fun s => decide (n1 < s.1))) w (.returned v) (X.putObj D (.deferred none)) from ⟨v, rfl, hf, hb'⟩)
    clear h1 h2 h3 h4 h5 nD hf hb' HSEQ HBOX2 HBW2
    gi_wp2
    refine ⟨by simp, .inl ⟨_, _, rfl, run_takeDeferred hK, ?_⟩⟩
    exact ⟨v, by simp [results, Try.results18, go_sem], HF.out⟩
  case stop =>
    rintro D c pre C X _ _ h _
    exact h.elim
theorem labove_any {w : World} {B : Nat} {m : Hb} {x : Hd} (h : HdAt w B m x) (hl : x.l.length ≤ 4096) : Calls Try.prog 18 #[.pointer (some ⟨B, 0, none⟩)] w (rn.Told (abv x) w) := by
  obtain ⟨a, n, cap, q⟩ := av_some h hl (fun k => k = w.heap.size) (fun b hb e => by have := h.lt b hb; omega)
  exact labove_av q
theorem labove_nil (w : World) : Calls Try.prog 18 #[.pointer none] w (rn.Told [] w) := labove_av (av_nil w _)
end Go.Proofs.Ytekddgmmfgpehaa.hd
/-!   What the reference says of sets: Bytes, Within, Run, Next, Gap.
-/
namespace Go.Proofs.Ytekddgmmfgpehaa.rn
open Go.RowKit Go.Shelf aid mem rng sp
attribute [local go_sem ↓] Go.wp_at_zero Go.wp_at_succ
set_option linter.unusedVariables false
set_option linter.unusedSimpArgs false

set_option maxRecDepth 100000 in
theorem take_bytes {l : List Sp} (hl : Rn l) (k : Nat) (hk : k < l.length) : bytesL (l.take (k + 1)) = bytesL (l.take k) + lenI (l.getD k (0, 0)) ∧ 0 ≤ bytesL (l.take k) ∧ bytesL (l.take (k + 1)) ≤ 4611686018427387904 := by
  refine ⟨?_, (hl.take k).bytes.1, (hl.take (k + 1)).bytes.2⟩
  rw [List.take_succ_eq_append_getElem hk, bytes_append, bytes_cons, bytes_nil]
  rw [show l.getD k (0, 0) = l[k] from by simp [List.getD, hk]]
  omega
set_option maxRecDepth 100000 in
theorem take_within {l : List Sp} (s : Sp) (hl : Rn l) (k : Nat) (hk : k < l.length) : withinL (l.take (k + 1)) s = withinL (l.take k) s + lenI (meetP (l.getD k (0, 0)) s) ∧ 0 ≤ withinL (l.take k) s ∧ withinL (l.take (k + 1)) s ≤ 4611686018427387904 := by
  refine ⟨?_, (within_le s (hl.take k).ok).1, Int.le_trans (within_le s (hl.take (k + 1)).ok).2 (hl.take (k + 1)).bytes.2⟩
  rw [List.take_succ_eq_append_getElem hk, within_append, within_cons, within_nil]
  rw [show l.getD k (0, 0) = l[k] from by simp [List.getD, hk]]
  omega
set_option maxRecDepth 100000 in
set_option maxHeartbeats 1000000 in
theorem rbytes_any {w : World} {a : Option Addr} {n cap : Nat} {l : List Sp} (h : SlS w a n cap l) (hl : Rn l) : Calls Try.prog 40 #[.slice a n cap] w (RetI (bytesL l) w) := by
  have hle := h.le
  have hmost := h.most
  have hlen := h.len
  unfold maxLen at hmost
  have HC := Lib.hid (fun h0 => h.cells h0)
  have HT := Lib.hid (fun k (hk : k < n) => take_bytes hl k (by omega))
  have HE := Lib.hid (show bytesL (l.take n) = bytesL l from by rw [List.take_of_length_le (by omega)])
  have hb := hl.bytes
  clear h hlen
  go_enter Try.func40, Try.ntmps40
  go_wp2_with fail
  go_loopw [3, 4] (fun s3 s4 wr => ∃ k : Nat, k ≤ n ∧ s4 = .int .i64 k ∧ s3 = .int .i64 (bytesL (l.take k)) ∧ Below w.heap.size w wr) (fun _ s4 _ => n - (intOf s4).toNat)
  case atStart => exact ⟨0, Nat.zero_le _, rfl, rfl, Below.refl _ _⟩
  case round =>
    obtain ⟨k, hk, rfl, rfl, hbw⟩ := hrel
    by_cases hlt : k < n
    · obtain ⟨g, off, rfl, hc⟩ := HC.out (by omega)
      obtain ⟨m0, m1⟩ := hc k hlt
      replace m0 := (hbw.cell (World.block_lt_of_cell? w _ m0)).trans m0
      replace m1 := (hbw.cell (World.block_lt_of_cell? w _ m1)).trans m1
      obtain ⟨t1, t2, t3⟩ := HT.out k hlt
      generalize l.getD k (0, 0) = m at *
      have HLN := Lib.hid (fun X => rlen_any m X)
      have hlm := lenI_bd m
      rw [t1] at t3
      have HT1 := Lib.hid t1
      generalize bytesL (l.take k) = s at *
      generalize lenI m = z at *
      clear t1 hc
      go_wp2_with fail
      refine (HLN.out _).mono ?_
      rintro e w2 ⟨rfl, h2⟩
      go_wp2_with fail
      go_roundw
      case rel => exact ⟨k + 1, by omega, by go_num, by rw [HT1.out], hbw.trans (h2.mono hbw.size)⟩
      case measure => simp [intOf]; omega
    · obtain rfl : k = n := by omega
      rw [HE.out]
      go_wp2
      go_ret
      exact ⟨rfl, hbw⟩
set_option maxRecDepth 100000 in
theorem run_step {l : List Sp} {o : Int} {k : Nat} (hk : k < l.length) : runL (l.drop k) o = if hasB (l.getD k (0, 0)) o = true then l.getD k (0, 0) else runL (l.drop (k + 1)) o := by
  rw [drop_getD hk]
  unfold runL
  rw [List.find?_cons]
  cases h : hasB (l.getD k (0, 0)) o <;> simp
set_option maxRecDepth 100000 in
theorem run_none (o : Int) : runL [] o = (0, 0) := rfl
set_option maxRecDepth 100000 in
theorem next_step {l : List Sp} {o : Int} {k : Nat} (hk : k < l.length) : nextL (l.drop k) o = if 0 < lenI (fromP (l.getD k (0, 0)) o) then fromP (l.getD k (0, 0)) o else nextL (l.drop (k + 1)) o := by
  rw [drop_getD hk]
  unfold nextL
  rw [List.map_cons, List.find?_cons]
  by_cases h : 0 < lenI (fromP (l.getD k (0, 0)) o)
  · rw [decide_eq_true h, if_pos h]; rfl
  · rw [decide_eq_false h, if_neg h]
set_option maxRecDepth 100000 in
theorem next_none (o : Int) : nextL [] o = (0, 0) := rfl
set_option maxRecDepth 100000 in
set_option maxHeartbeats 1000000 in
theorem rrun_any {w : World} {a : Option Addr} {n cap : Nat} {l : List Sp} (h : SlS w a n cap l) (o : Int) : Calls Try.prog 36 #[.slice a n cap, .int .i64 o] w (RetS (runL l o) w) := by
  have hle := h.le
  have hmost := h.most
  have hlen := h.len
  unfold maxLen at hmost
  have HC := Lib.hid (fun h0 => h.cells h0)
  have HT := Lib.hid (fun k (hk : k < n) => run_step (l := l) (o := o) (k := k) (by omega))
  have HE := Lib.hid (show runL (l.drop n) o = (0, 0) from by rw [List.drop_eq_nil_of_le (by omega)]; rfl)
  have b1 := bal (w := w) (.cells #[.int .i64 0, .int .i64 0] 36)
  have s1 := sp_new w (0, 0)
  have HB1 := Lib.hid (And.intro b1 s1)
  have H0 := Lib.hid (show runL l o = runL (l.drop 0) o from by rw [List.drop_zero])
  generalize runL l o = R at *
  clear h hlen b1 s1
  go_enter Try.func36, Try.ntmps36
  go_wp2_with fail
  go_loopw [5] (fun s5 wr => ∃ k : Nat, k ≤ n ∧ s5 = .int .i64 k ∧ Hid (R = runL (l.drop k) o) ∧ Below w.heap.size w wr ∧ SpAt wr w.heap.size (0, 0)) (fun s5 _ => n - (intOf s5).toNat)
  case atStart => exact ⟨0, Nat.zero_le _, rfl, H0, HB1.out.1, HB1.out.2⟩
  case round =>
    obtain ⟨k, hk, rfl, HR, hbw, hsp⟩ := hrel
    by_cases hlt : k < n
    · obtain ⟨g, off, rfl, hc⟩ := HC.out (by omega)
      obtain ⟨m0, m1⟩ := hc k hlt
      have n0 := m0; have n1 := m1
      replace m0 := (hbw.cell (World.block_lt_of_cell? w _ m0)).trans m0
      replace m1 := (hbw.cell (World.block_lt_of_cell? w _ m1)).trans m1
      have ht := HT.out k hlt
      have HH := Lib.hid (fun X => rhas_any (l.getD k (0, 0)) o X)
      generalize l.getD k (0, 0) = m at *
      have HSP := Lib.hid hsp
      have HN := Lib.hid (And.intro n0 n1)
      clear hc hsp n0 n1
      cases hb : hasB m o
      · rw [hb] at HH
        rw [hb, if_neg (by simp)] at ht
        have HR2 := Lib.hid (HR.out.trans ht)
        clear ht hb
        go_wp2_with fail
        refine (HH.out _).mono ?_
        rintro e w2 ⟨rfl, h2⟩
        have HQ := Lib.hid (And.intro (hbw.trans (h2.mono hbw.size)) (HSP.out.later h2))
        clear m0 m1 h2
        go_wp2
        go_roundw
        case rel => exact ⟨k + 1, by omega, by go_num, HR2, HQ.out.1, HQ.out.2⟩
        case measure => simp [intOf]; omega
      · rw [hb] at HH
        rw [hb, if_pos rfl] at ht
        have HR2 := Lib.hid (HR.out.trans ht)
        clear ht hb
        go_wp2_with fail
        refine (HH.out _).mono ?_
        rintro e w2 ⟨rfl, h2⟩
        have hb2 := hbw.trans (h2.mono hbw.size)
        have s2 := HSP.out.later h2
        clear m0 m1
        have m0 := (hb2.cell (World.block_lt_of_cell? w _ HN.out.1)).trans HN.out.1
        have m1 := (hb2.cell (World.block_lt_of_cell? w _ HN.out.2)).trans HN.out.2
        have c0 := s2.c0; have c1 := s2.c1; have f0 := s2.f0; have f1 := s2.f1
        have s3 := s2.put m.1 m.2
        have d0 := s3.c0; have d1 := s3.c1
        have HB3 := Lib.hid (hb2.trans ((kput w2 w.heap.size (.int .i64 m.1) (.int .i64 m.2)).below (B := w.heap.size) (by simp) hb2.size))
        clear s2 s3 h2 hb2
        go_wp2
        exact bodyPost_ret (v := .agg #[.int .i64 m.1, .int .i64 m.2]) (by simp [results, Try.results36, go_sem, d0, d1]) rfl ⟨by rw [HR2.out], HB3.out⟩
    · obtain rfl : k = n := by omega
      have HR2 := Lib.hid (HR.out.trans HE.out)
      have c0 := hsp.c0; have c1 := hsp.c1; have f0 := hsp.f0; have f1 := hsp.f1
      have s3 := hsp.put 0 0
      have d0 := s3.c0; have d1 := s3.c1
      have HB3 := Lib.hid (hbw.trans ((kput wr w.heap.size (.int .i64 0) (.int .i64 0)).below (B := w.heap.size) (by simp) hbw.size))
      clear hsp s3
      go_wp2
      exact bodyPost_ret (v := .agg #[.int .i64 0, .int .i64 0]) (by simp [results, Try.results36, go_sem, d0, d1]) rfl ⟨by rw [HR2.out], HB3.out⟩
set_option maxRecDepth 100000 in
theorem rgap_any {w : World} {a : Option Addr} {n cap : Nat} {l : List Sp} (h : SlS w a n cap l) (o : Int) : Calls Try.prog 64 #[.slice a n cap, .int .i64 o] w (RetI (gapL l o) w) := by
  have HR := Lib.hid (rrun_any h (atI o))
  have HG := Lib.hid (gap_def l o)
  have hc : (o < 0 ∧ atI o = 0) ∨ (¬ o < 0 ∧ ¬ 4611686018427387904 < o ∧ atI o = o) ∨ (4611686018427387904 < o ∧ ¬ o < 0 ∧ atI o = 4611686018427387904) := by unfold atI; omega
  have hle := h.le
  clear h
  generalize gapL l o = G at *
  generalize runL l (atI o) = x at *
  have HLN := Lib.hid (fun X => rlen_any x X)
  rcases hc with ⟨h1, h2⟩ | ⟨h1, h3, h2⟩ | ⟨h1, h3, h2⟩
  all_goals
    rw [h2] at HR HG
    clear h2
    by_cases hx : 0 < lenI x
    all_goals
      first
        | rw [if_pos hx] at HG
        | rw [if_neg hx] at HG
      go_enter Try.func64, Try.ntmps64
      go_wp2_with fail
      refine HR.out.mono ?_
      rintro e w2 ⟨rfl, h2⟩
      have b3 := h2.trans ((bal (w := w2) (.cells #[.int .i64 x.1, .int .i64 x.2] 36)).mono h2.size)
      have x3 := sp_new w2 x
      have c0 := x3.c0; have c1 := x3.c1
      have HX3 := Lib.hid (And.intro b3 x3)
      clear h2 b3 x3
      go_wp2_with fail
      refine (HLN.out _).mono ?_
      rintro e w4 ⟨rfl, h4⟩
      have x4 := HX3.out.2.later h4
      have d0 := x4.c0; have d1 := x4.c1
      have HB := Lib.hid (HX3.out.1.trans (h4.mono HX3.out.1.size))
      clear h4 x4 c0 c1
      go_wp2
      go_ret
      exact ⟨congrArg (fun z => Ending.returned (.int .i64 z)) HG.out.symm, HB.out⟩
end Go.Proofs.Ytekddgmmfgpehaa.rn
/-!   The reference's Without.
-/
namespace Go.Proofs.Ytekddgmmfgpehaa.rn
open Go.RowKit Go.Shelf aid mem rng sp
attribute [local go_sem ↓] Go.wp_at_zero Go.wp_at_succ
set_option linter.unusedVariables false
set_option linter.unusedSimpArgs false

/-- a row that grows, beside a span in its box -/
structure WOs (w : World) (s : Sp) (bs : Nat) (L : List Sp) (v : Value) (X : World) : Prop where
  own : X.ownsRow (bs + 1) 36 2 v L.length (spCells L)
  sp : SpAt X bs s
  below : Below w.heap.size w X
  ge : w.heap.size ≤ bs
set_option maxRecDepth 100000 in
theorem WOs.later {w : World} {s : Sp} {bs : Nat} {L : List Sp} {v : Value} {X Y : World} (h : WOs w s bs L v X) (hb : Below X.heap.size X Y) : WOs w s bs L v Y :=
  ⟨own_later h.own hb, h.sp.later hb, h.below.trans (hb.mono h.below.size), h.ge⟩
set_option maxRecDepth 100000 in
theorem WOs.al {w : World} {s : Sp} {bs : Nat} {L : List Sp} {v : Value} {X : World} (h : WOs w s bs L v X) (o : Obj) : WOs w s bs L v (X.alloc o) := h.later (bal o)
/-- a new box beside it -/
structure Bx (w : World) (bs : Nat) (v : Value) (p : Nat) (y : Sp) (X : World) : Prop where
  at_ : SpAt X p y
  ne : bs ≠ p
  nown : v.ownBlock ≠ some p
  ge : w.heap.size ≤ p
set_option maxRecDepth 100000 in
theorem WOs.newbox {w : World} {s : Sp} {bs : Nat} {L : List Sp} {v : Value} {X : World} (h : WOs w s bs L v X) (y : Sp) : Bx w bs v X.heap.size y (X.alloc (.cells #[.int .i64 y.1, .int .i64 y.2] 36)) :=
  ⟨sp_new X y, by have := h.sp.lt; omega, fun e => by have := (own_in h.own e).1; omega, h.below.size⟩
set_option maxRecDepth 100000 in
theorem Bx.later {w : World} {bs p : Nat} {y : Sp} {v : Value} {X Y : World} (h : Bx w bs v p y X) (hb : Below X.heap.size X Y) : Bx w bs v p y Y := ⟨h.at_.later hb, h.ne, h.nown, h.ge⟩
set_option maxRecDepth 100000 in
theorem Bx.put {w : World} {s : Sp} {bs p : Nat} {L : List Sp} {y : Sp} {v : Value} {X : World} (hb : Bx w bs v p y X) (h : WOs w s bs L v X) (a b : Int) : WOs w s bs L v ((X.setCell ⟨p, 0, none⟩ (.int .i64 a)).setCell ⟨p, 1, none⟩ (.int .i64 b)) := by
  have hk := kput X p (.int .i64 a) (.int .i64 b)
  exact ⟨own_step h.own (fun k o hk1 hk2 => hk.heap (fun e => by simp at e; exact hb.nown (e ▸ hk1)) hk2), hk.heap (fun e => by simp at e; exact hb.ne e) h.sp, h.below.trans (hk.below (B := w.heap.size) (fun k hk => by simp at hk; subst hk; exact hb.ge) h.below.size), h.ge⟩
set_option maxRecDepth 100000 in
theorem Bx.put' {w : World} {bs p : Nat} {y : Sp} {v : Value} {X : World} (hb : Bx w bs v p y X) (a b : Int) : Bx w bs v p (a, b) ((X.setCell ⟨p, 0, none⟩ (.int .i64 a)).setCell ⟨p, 1, none⟩ (.int .i64 b)) := ⟨hb.at_.put a b, hb.ne, hb.nown, hb.ge⟩
set_option maxRecDepth 100000 in
theorem Bx.al {w : World} {bs p : Nat} {y : Sp} {v : Value} {X : World} (h : Bx w bs v p y X) (o : Obj) : Bx w bs v p y (X.alloc o) := h.later (bal o)
set_option maxRecDepth 100000 in
theorem WOs.sep {w : World} {s : Sp} {bs p : Nat} {L : List Sp} {y : Sp} {v : Value} {X : World} (h : WOs w s bs L v X) (hx : Bx w bs v p y X) : p ≠ X.heap.size := by have := hx.at_.lt; omega
set_option maxRecDepth 100000 in
theorem Bx.keep {w : World} {bs p q : Nat} {y : Sp} {v : Value} {X : World} (h : Bx w bs v p y X) (hn : p ≠ q) (a b : Int) : Bx w bs v p y ((X.setCell ⟨q, 0, none⟩ (.int .i64 a)).setCell ⟨q, 1, none⟩ (.int .i64 b)) :=
  ⟨h.at_.keep (kput X q (.int .i64 a) (.int .i64 b)) (by simpa using hn), h.ne, h.nown, h.ge⟩
set_option maxRecDepth 100000 in
/-- the row has grown -/
theorem WOs.grow {w : World} {s : Sp} {bs : Nat} {L : List Sp} {v v' : Value} {X Y : World} {y : Sp} {n : Nat} (h : WOs w s bs L v X) (hn : L.length + 1 = n) (ho : Y.ownsRow (bs + 1) 36 2 v' n (spCells L ++ [.int .i64 y.1, .int .i64 y.2])) (hg : X.grownBy Y v.ownBlock) : WOs w s bs (L ++ [y]) v' Y := by
  refine ⟨by rw [List.length_append, List.length_singleton, spCells_snoc, hn]; exact ho, (hg.block bs h.sp.lt (fun e => by have := (own_in h.own e.symm).2; omega)).trans h.sp, h.below.trans (below_grown hg h.below.size (fun k hk => by have := (own_in h.own hk).2; have := h.ge; omega)), h.ge⟩
set_option maxRecDepth 100000 in
theorem WOs.box {w : World} {s : Sp} {bs p : Nat} {L : List Sp} {v : Value} {X Y : World} {y : Sp} (h : WOs w s bs L v X) (hx : SpAt X p y) (hp : v.ownBlock ≠ some p) (hg : X.grownBy Y v.ownBlock) : SpAt Y p y :=
  (hg.block p hx.lt (fun e => hp e.symm)).trans hx
set_option maxRecDepth 100000 in
theorem wo_take {l : List Sp} (s : Sp) {k : Nat} (hk : k < l.length) : woL (l.take (k + 1)) s = woL (l.take k) s ++ (ne (belowP (l.getD k (0, 0)) s.1) ++ ne (fromP (l.getD k (0, 0)) s.2)) := by
  rw [show l.getD k (0, 0) = l[k] from by simp [List.getD, hk]]
  unfold woL
  rw [List.take_succ_eq_append_getElem hk, List.flatMap_append]
  simp
set_option maxRecDepth 100000 in
theorem wo_take_len (l : List Sp) (s : Sp) : ∀ k, (woL (l.take k) s).length ≤ 2 * k := by
  have h1 : ∀ x : Sp, (ne x).length ≤ 1 := fun x => by unfold ne; split <;> simp
  intro k
  induction k with
  | zero => simp [woL]
  | succ k ih =>
    by_cases hk : k < l.length
    · rw [wo_take s hk]
      have h2 := h1 (belowP (l.getD k (0, 0)) s.1)
      have h3 := h1 (fromP (l.getD k (0, 0)) s.2)
      simp only [List.length_append]
      omega
    · rw [List.take_of_length_le (by omega)] at ih ⊢
      omega
end Go.Proofs.Ytekddgmmfgpehaa.rn
