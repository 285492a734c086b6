/-
  Package book: InOrder: the records of a line.
-/
import Derived.Test.YtpoifoanigpncaaBokI
namespace Go.Proofs.Ytpoifoanigpncaa.bk
open Go.RowKit Go.Shelf aid mem rng
attribute [local go_sem] Oper.semAt_some
set_option linter.unusedVariables false
set_option linter.unusedSimpArgs false

theorem ck {w w' : World} {p : Addr} {v : Value} (hb : Below w.heap.size w w') (h : w.cell? p = some v) : w'.cell? p = some v := (hb.cell (World.block_lt_of_cell? w p h)).trans h
/-- orders rise -/
def Ord (L : List Nd) : Prop := L.Pairwise (fun x y => x.2.order < y.2.order)
theorem ord_last {L L' : List Nd} {y : Nd} (h : Ord L) (hL : L = L' ++ [y]) : ∀ x ∈ L, x.2.order ≤ y.2.order := by
  subst hL
  intro x hx
  rcases List.mem_append.1 hx with hx | hx
  · exact Int.le_of_lt ((List.pairwise_append.1 h).2.2 x hx y (by simp))
  · simp at hx; subst hx; exact Int.le_refl _
/-- a line, as an iterator reads it -/
structure Lr (w : World) (B : Nat) (L : List Nd) : Prop where
  c4 : w.cell? ⟨B, 4, none⟩ = some (pA (hd none L))
  c5 : w.cell? ⟨B, 5, none⟩ = some (pA (la none L))
  sg : seg w none L none
  nd : (L.map (·.1)).Nodup
theorem Ln.lr {w : World} {B T : Nat} {s : Hd} {L : List Nd} (h : Ln w B s T L) : Lr w B L := ⟨h.bk.cs.2.2.2.2.1, h.bk.cs.2.2.2.2.2, h.sg, h.nd⟩
theorem Lr.later {w w' : World} {B : Nat} {L : List Nd} (h : Lr w B L) (hb : Below w.heap.size w w') : Lr w' B L := ⟨ck hb h.c4, ck hb h.c5, seg_later hb h.sg, h.nd⟩
theorem seg_at {w : World} {L pre post : List Nd} {x : Nd} (h : seg w none L none) (hL : pre ++ x :: post = L) : NdAt w x.1 x.2 (la none pre) (hd none post) := by
  subst hL
  exact (seg_append.1 h).2.1
set_option maxRecDepth 100000 in
set_option maxHeartbeats 4000000 in
theorem inorder1_seq {w : World} {B bx : Nat} {L : List Nd} {A : Nat → Prop} (h : Lr w B L) (ho : Ord L) (hx : w.cell? ⟨bx, 0, none⟩ = some (.pointer (some ⟨B, 0, none⟩))) (hA : ∀ x ∈ L, ¬ A x.1) :
    SeqOf Try.prog 71 #[.pointer (some ⟨bx, 0, none⟩)] nE L A w := by
  intro l J Jx C0 W hW hC hJ hJx hY h0
  have c1 := ck hW hx
  have hlr := h.later hW
  have nC : ∀ x ∈ L, ¬ C0 x.1 := fun x hx' e => by
    rcases (hC _ e).1 with a | a
    · exact hA x hx' a
    · have := seg_lt h.sg hx'; omega
  have i0 : It C0 W C0 W := It.refl (fun k hk => (hC k hk).2)
  have hend : ∃ E, ∀ L' y, L = L' ++ [y] → y.2.order = E := by
    rcases List.eq_nil_or_concat L with rfl | ⟨L', y, rfl⟩
    · exact ⟨0, fun L' y e => by simp at e⟩
    · refine ⟨y.2.order, fun L2 z e => ?_⟩
      rw [List.concat_eq_append] at e
      have := (List.append_inj' e rfl).2
      simp at this
      rw [this]
  obtain ⟨E, hE⟩ := hend
  have hE2 : ∀ x ∈ L, x.2.order ≤ E := by
    intro x hx'
    rcases List.eq_nil_or_concat L with rfl | ⟨L', y, rfl⟩
    · simp at hx'
    · rw [List.concat_eq_append] at *
      have := hE L' y rfl
      rw [← this]
      exact ord_last ho rfl x hx'
  have hcl : Cl W C0 l J Jx L E := ⟨hY, fun pre x post C W1 hp _ hI => by
    have hn := seg_at hlr.sg hp
    have hm : x ∈ L := by rw [← hp]; simp
    have hn1 : NdAt W1 x.1 x.2 _ _ := hI.block hn (nC x hm)
    obtain ⟨_, _, _, k3, _, _, _, _, k8⟩ := hn1.cs
    exact ⟨k3, k8, hE2 x hm⟩, h.nd⟩
  have HR := Lib.hid (nodes_any hcl hlr.c4 hlr.c5 (fun L' y e => by
    have hn := seg_at (pre := L') (post := []) hlr.sg e.symm
    obtain ⟨_, _, _, k3, _⟩ := hn.cs
    rw [k3, hE L' y e]) h0 i0)
  clear hcl hlr i0 hJ hJx hY h0 hC hW hx hA h nC hE hE2
  show Calls Try.prog 71 #[.func (.yield l) #[] #[], .pointer (some ⟨bx, 0, none⟩)] W _
  go_enter Try.func71, Try.ntmps71
  go_wp2_with (go_at_call 72; (with_reducible refine HR.out.mono ?_); rintro e w3 ⟨⟨v, rfl⟩, C', hI, hq⟩; clear hI)
  all_goals
    go_end0
    exact ⟨⟨_, rfl⟩, C', hq⟩
def isRet (c : Code) : Prop := c = .ret
abbrev recE (x : Nd) : Array Value := #[rcV x.2]
theorem eg_in : ∀ args w, (callFunc 71 args).run Try.prog w = .ok (.enter 71 args) w := enters_of Try.func71 (by kernel_rfl) rfl
theorem eg_rec : ∀ args w, (callFunc 70 args).run Try.prog w = .ok (.enter 70 args) w := enters_of Try.func70 (by kernel_rfl) rfl
set_option maxRecDepth 100000 in
set_option maxHeartbeats 1000000 in
theorem records1_seq {w : World} {B bx bn : Nat} {L : List Nd} {A : Nat → Prop} (h : Lr w B L) (ho : Ord L) (hx : w.cell? ⟨bx, 0, none⟩ = some (.pointer (some ⟨B, 0, none⟩))) (hA : ∀ x ∈ L, ¬ A x.1)
    (hbx : w.cell? ⟨bn, 0, none⟩ = some (.func (.func 71) #[] #[.pointer (some ⟨bx, 0, none⟩)])) :
    SeqOf Try.prog 70 #[.pointer (some ⟨bn, 0, none⟩)] recE L A w := by
  have hseq := inorder1_seq h ho hx hA
  intro l J Jx C0 W hW hC hJ hJx hY h0
  have c0 := ck hW hbx
  have hlr := h.later hW
  have nC : ∀ x ∈ L, ¬ C0 x.1 := fun x hx' e => by
    rcases (hC _ e).1 with a | a
    · exact hA x hx' a
    · have := seg_lt h.sg hx'; omega
  show Calls Try.prog 70 #[.func (.yield l) #[] #[], .pointer (some ⟨bn, 0, none⟩)] W _
  refine (callsIn_wide (n := 6)).1 ?_
  refine callsIn_of_wp_marks Try.func70 rfl trivial ?_ rfl
  simp only [Try.ntmps70, List.size_toArray, List.length_cons, List.length_nil, Nat.reduceAdd, Nat.reduceSub, Array.replicate_succ, Array.replicate_zero, List.push_toArray, List.append_toArray, List.nil_append, List.cons_append]
  have hwb : Below W.heap.size W (W.alloc (.cells #[.func (.yield l) #[] #[]] 132)) := (Below.refl _ _).alloc (Nat.le_refl _) _
  have c1 := ck hwb c0
  gi_wp2
  refine wpIn_range' (gf := 71) (lb := #[.pointer (some ⟨bx, 0, none⟩)]) (L := L) (A := A) (w0 := w) (encs := nE) rfl eg_in hseq (hW.trans (hwb.mono hW.size)) (fun _ => rfl)
    (fun pre C W' => J pre C W' ∧ It C0 W C W' ∧ ¬ C W.heap.size ∧ W'.cell? ⟨W.heap.size, 0, none⟩ = some (.func (.yield l) #[] #[]))
    (fun c pre C W' => isRet c ∧ Jx pre C W') C0 ?hc0 ?hI ?hIx ?h0
    (fun x => { tmps := #[.func (.yield l) #[] #[], .pointer (some ⟨bn, 0, none⟩), .pointer (some ⟨W.heap.size, 0, none⟩), .pointer (some ⟨x.1, 0, none⟩), .func (.func 71) #[] #[.pointer (some ⟨bx, 0, none⟩)], .pointer (some ⟨x.1, 0, none⟩), undef, undef, undef, undef, undef, undef, undef], defers := [] }) ?assign ?body ?done ?stop
  case hc0 => exact fun k hk => ⟨(hC k hk).1, Nat.lt_of_lt_of_le (hC k hk).2 hwb.size⟩
  case hI =>
    rintro s C X Y ⟨h1, h2, h3, h4⟩ hz hs
    have hs' : rng.Steps (fun k => k < W.heap.size ∨ C k) X Y := hs.mono (fun k _ hk => hk.imp (fun h => by simp; omega) id)
    have := hwb.size
    exact ⟨hJ _ _ _ _ h1 (by omega) hs', h2.own hs', h3, hs.cell (.inl (by simp)) h4⟩
  case hIx =>
    rintro c s C X Y ⟨h1, h2⟩ hz hs
    have hs' : rng.Steps (fun k => k < W.heap.size ∨ C k) X Y := hs.mono (fun k _ hk => hk.imp (fun h => by simp; omega) id)
    have := hwb.size
    exact ⟨h1, hJx _ _ _ _ h2 (by omega) hs'⟩
  case h0 =>
    have ss := Steps.of_below hwb (fun k => k < W.heap.size ∨ C0 k)
    exact ⟨hJ _ _ _ _ h0 (Nat.le_refl _) ss, (It.refl (fun k hk => (hC k hk).2)).own ss, fun e => by have := (hC _ e).2; omega, (cell_of_row _ W.heap.size 0 _ _ (0, 0) (heap_alloc_new W _)).trans rfl⟩
  case assign =>
    intro l' x X K hK
    gi_wp2
    exact hK
  case body =>
    rintro l' pre x C X ⟨h1, h2, h3, h4⟩ hp hcb hz
    have j1 := hJ _ _ _ _ h1 h2.kept.size (rng.Steps.drew _ X)
    have hy := (hY _ _ _ X.drew j1 h2.kept.size hp).mono (fun e w h => one_way (X := fun C' => J (pre ++ [x]) C' w) (Y := fun C' => Jx (pre ++ [x]) C' w) h)
    have hxm : x ∈ L := hp.subset (by simp)
    obtain ⟨p1, q1, hnd⟩ := seg_mem hlr.sg hxm
    have hn1 : NdAt X x.1 x.2 _ _ := h2.block hnd (nC x hxm)
    obtain ⟨d0, d1, d2, d3, d4, d5, d6, _, _⟩ := hn1.cs
    obtain ⟨fn, tmps, assign, body, hyy, hYY⟩ := hy.at 3
    have e0 : X.drew.cell? ⟨x.1, 0, none⟩ = some (.int .i64 x.2.f) := d0
    have e1 : X.drew.cell? ⟨x.1, 1, none⟩ = some (.int .i64 x.2.t) := d1
    have e2 : X.drew.cell? ⟨x.1, 2, none⟩ = some (.int .i64 x.2.sent) := d2
    have e3 : X.drew.cell? ⟨x.1, 3, none⟩ = some (.int .i64 x.2.order) := d3
    have e4 : X.drew.cell? ⟨x.1, 4, none⟩ = some (.int .i64 x.2.times) := d4
    have e5 : X.drew.cell? ⟨x.1, 5, none⟩ = some (.int .i64 x.2.out) := d5
    have e6 : X.drew.cell? ⟨x.1, 6, none⟩ = some (.bool x.2.lost) := d6
    have e9 : X.drew.cell? ⟨W.heap.size, 0, none⟩ = some (.func (.yield l) #[] #[]) := h4
    have rd : Round C X C X.drew := ⟨rng.Steps.drew _ X, fun _ h => .inl h⟩
    have HN := Lib.hid (fun (C3 : Nat → Prop) (w3 : World) (hr : Round C X.drew C3 w3) (hj : J (pre ++ [x]) C3 w3) => show ∃ C', Round C X C' w3 ∧ (J (pre ++ [x]) C' w3 ∧ It C0 W C' w3 ∧ ¬ C' W.heap.size ∧ w3.cell? ⟨W.heap.size, 0, none⟩ = some (.func (.yield l) #[] #[])) from
      ⟨C3, rd.trans hr, hj, h2.round (rd.trans hr), fun e => by
        rcases hr.2 _ e with a | a
        · exact h3 a
        · have hz' : W.heap.size + 1 ≤ X.heap.size := by simpa using hz
          have : X.drew.heap.size = X.heap.size := rfl
          omega, (rd.trans hr).1.cell h3 h4⟩)
    have HS := Lib.hid (fun (C3 : Nat → Prop) (w3 : World) (hr : Round C X.drew C3 w3) (hj : Jx (pre ++ [x]) C3 w3) => show ∃ C', Round C X C' w3 ∧ (isRet Code.ret ∧ Jx (pre ++ [x]) C' w3) from
      ⟨C3, rd.trans hr, rfl, hj⟩)
    clear hseq hlr h ho hx hA hbx hW hJ hJx hY h0 c0 c1 hwb hC hp hcb hz hy j1 h1 h2 h3 h4 nC d0 d1 d2 d3 d4 d5 d6 hn1 hnd hxm rd
    have hmo : Try.prog.follows .mixedOrders = true := by kernel_rfl
    gi_wp2
    refine wpIn_region_round (by assumption) (by kernel_rfl) ?_
    refine wpAnyIn_take (i := 1) (v := (.pointer (some ⟨x.1, 0, none⟩))) rfl rfl (by kernel_rfl) (by kernel_rfl) (by kernel_rfl) (fun _ _ _ h => h) ⟨Or.inl ⟨by rfl, by intro w; go_simp⟩, fun _ => rfl⟩ ?_
    refine wpAnyIn_take (i := 2) (v := (.pointer (some ⟨x.1, 0, none⟩))) rfl rfl (by kernel_rfl) (by kernel_rfl) (by kernel_rfl) (fun _ _ _ h => h) ⟨Or.inl ⟨by rfl, by intro w; go_simp⟩, fun _ => rfl⟩ ?_
    refine wpAnyIn_take (i := 3) (v := (.pointer (some ⟨x.1, 0, none⟩))) rfl rfl (by kernel_rfl) (by kernel_rfl) (by kernel_rfl) (fun _ _ _ h => h) ⟨Or.inl ⟨by rfl, by intro w; go_simp⟩, fun _ => rfl⟩ ?_
    refine wpAnyIn_ready (rs := [0, 4]) (by kernel_rfl) (by simp) ?_
    refine AllReadyIn.cons rfl (fun K hK => ?_) ?_
    · go_simp
      refine hK _ _ ?_
      clear hK K
      refine wpAnyIn_ready (rs := [4]) (by kernel_rfl) (by simp) ?_
      refine AllReadyIn.cons rfl (fun K hK => ?_) ?_
      · go_simp
        refine hK _ _ ?_
        clear hK K
        refine wpAnyIn_ready (rs := [5]) (by kernel_rfl) (by simp) ?_
        refine AllReadyIn.cons rfl (fun K hK => ?_) ?_
        · go_simp
          refine hYY.mono ?_
          rintro e w3 ⟨bo, rfl, hr3⟩
          clear hyy hYY e0 e1 e2 e3 e4 e5 e6 e9
          refine hK _ _ ?_
          clear hK K
          refine wpAnyIn_take (i := 6) (v := (.bool (!bo))) rfl rfl (by kernel_rfl) (by kernel_rfl) (by kernel_rfl) (fun _ _ _ h => h) ⟨Or.inl ⟨by rfl, by intro w; go_simp⟩, fun _ => rfl⟩ ?_
          refine wpAnyIn_done (by kernel_rfl) ?_ _
          obtain ⟨C3, hr4, ⟨rfl, h3'⟩ | ⟨rfl, h3'⟩⟩ := hr3
          · gi_wp2
            exact HN.out _ _ hr4 h3'
          · gi_wp2
            exact HS.out _ _ hr4 h3'
        exact AllReadyIn.nil
      exact AllReadyIn.nil
    refine AllReadyIn.cons rfl (fun K hK => ?_) ?_
    · go_simp
      refine hK _ _ ?_
      clear hK K
      refine wpAnyIn_ready (rs := [0]) (by kernel_rfl) (by simp) ?_
      refine AllReadyIn.cons rfl (fun K hK => ?_) ?_
      · go_simp
        refine hK _ _ ?_
        clear hK K
        refine wpAnyIn_ready (rs := [5]) (by kernel_rfl) (by simp) ?_
        refine AllReadyIn.cons rfl (fun K hK => ?_) ?_
        · go_simp
          refine hYY.mono ?_
          rintro e w3 ⟨bo, rfl, hr3⟩
          clear hyy hYY e0 e1 e2 e3 e4 e5 e6 e9
          refine hK _ _ ?_
          clear hK K
          refine wpAnyIn_take (i := 6) (v := (.bool (!bo))) rfl rfl (by kernel_rfl) (by kernel_rfl) (by kernel_rfl) (fun _ _ _ h => h) ⟨Or.inl ⟨by rfl, by intro w; go_simp⟩, fun _ => rfl⟩ ?_
          refine wpAnyIn_done (by kernel_rfl) ?_ _
          obtain ⟨C3, hr4, ⟨rfl, h3'⟩ | ⟨rfl, h3'⟩⟩ := hr3
          · gi_wp2
            exact HN.out _ _ hr4 h3'
          · gi_wp2
            exact HS.out _ _ hr4 h3'
        exact AllReadyIn.nil
      exact AllReadyIn.nil
    exact AllReadyIn.nil
  case done =>
    rintro D C X hD hCD ⟨h1, h2, h3, h4⟩ hK
    have hD' : W.heap.size ≤ D := Nat.le_trans hwb.size hD
    have hf := hJ _ _ _ (X.putObj D (.deferred none)) h1 h2.kept.size (rng.Steps.putObj _ _ _ _ (by rintro (e | e); omega; exact hCD e))
    have HF := Lib.hid hf
    clear hseq hlr h ho hx hA hbx hW hJ hJx hY h0 c0 c1 hwb hC h1 h2 h3 h4 nC hf
    gi_wp2
    refine ⟨by simp, .inl ⟨_, _, rfl, run_takeDeferred hK, ?_⟩⟩
    exact ⟨_, results_none rfl _ _ _, ⟨_, rfl⟩, C, .inl HF.out⟩
  case stop =>
    rintro D c pre C X hD hCD ⟨rfl, h2⟩ hK
    have hD' : W.heap.size ≤ D := Nat.le_trans hwb.size hD
    have hX : W.heap.size ≤ X.heap.size := by have := lt_of_block hK; omega
    have hf := hJx _ _ _ (X.putObj D (.deferred none)) h2 hX (rng.Steps.putObj _ _ _ _ (by rintro (e | e); omega; exact hCD e))
    have HF := Lib.hid hf
    clear hseq hlr h ho hx hA hbx hW hJ hJx hY h0 c0 c1 hwb hC h2 nC hf
    gi_wp2
    refine ⟨by simp, .inl ⟨_, _, rfl, run_takeDeferred hK, ?_⟩⟩
    exact ⟨_, results_none rfl _ _ _, ⟨_, rfl⟩, C, .inr ⟨_, HF.out⟩⟩
/-- an iterator of records -/
def SeqR (L : List Nd) (A : Nat → Prop) (w : World) (e : Ending) (w' : World) : Prop :=
  ∃ lb, e = .returned (.func (.func 70) #[] lb) ∧ SeqOf Try.prog 70 lb recE L A w' ∧ Below w.heap.size w w'
set_option maxHeartbeats 1000000 in
theorem inorder_any {w : World} {B : Nat} {L : List Nd} (h : Lr w B L) (ho : Ord L) (A : Nat → Prop) (hA : ∀ x ∈ L, ¬ A x.1) :
    Calls Try.prog 47 #[.pointer (some ⟨B, 0, none⟩)] w (SeqR L A w) := by
  have b1 := al w (.cells #[.pointer (some ⟨B, 0, none⟩)] 51)
  have y1 := heap_alloc_new w (.cells #[.pointer (some ⟨B, 0, none⟩)] 51)
  have z1 : (w.alloc (.cells #[.pointer (some ⟨B, 0, none⟩)] 51)).heap.size = w.heap.size + 1 := by simp
  have h1 := h.later b1
  have HI : Hid (∀ W, Calls Try.prog 61 #[.pointer (some ⟨B, 0, none⟩)] W fun e w' => e = .returned (.func (.func 71) #[] #[.pointer (some ⟨W.heap.size, 0, none⟩)]) ∧ w' = W.alloc (.cells #[.pointer (some ⟨B, 0, none⟩)] 51)) := by
    refine Lib.hid fun W => ?_
    go_enter Try.func61, Try.ntmps61
    go_wp2_with fail
    go_ret
    exact ⟨rfl, rfl⟩
  have HR : Hid (∀ gf lb W, Calls Try.prog 60 #[.func (.func gf) #[] lb] W fun e w' => e = .returned (.func (.func 70) #[] #[.pointer (some ⟨W.heap.size, 0, none⟩)]) ∧ w' = W.alloc (.cells #[.func (.func gf) #[] lb] 118)) := by
    refine Lib.hid fun gf lb W => ?_
    go_enter Try.func60, Try.ntmps60
    go_wp2_with fail
    go_ret
    exact ⟨rfl, rfl⟩
  generalize hW1 : w.alloc (.cells #[.pointer (some ⟨B, 0, none⟩)] 51) = w1 at *
  have b2 := al w1 (.cells #[.func (.func 71) #[] #[.pointer (some ⟨w.heap.size, 0, none⟩)]] 118)
  have y2 := heap_alloc_new w1 (.cells #[.func (.func 71) #[] #[.pointer (some ⟨w.heap.size, 0, none⟩)]] 118)
  have x2 := (b2.block _ (lt_of_block y1)).trans y1
  have HF := Lib.hid (show SeqR L A w (.returned (.func (.func 70) #[] #[.pointer (some ⟨w1.heap.size, 0, none⟩)])) _ from ⟨_, rfl, records1_seq (h1.later b2) ho (cofr x2 0 _ rfl) hA (cofr y2 0 _ rfl), b1.trans (b2.mono b1.size)⟩)
  clear h h1 b1 b2 y1 y2 x2 z1 hA
  go_enter Try.func47, Try.ntmps47
  go_wp2_with (first
    | (go_at_call 61; (with_reducible refine (HI.out _).mono ?_); rintro e w3 ⟨rfl, rfl⟩; rw [hW1])
    | (go_at_call 60; (with_reducible refine (HR.out _ _ _).mono ?_); rintro e w3 ⟨rfl, rfl⟩))
  go_ret
  exact HF.out
end Go.Proofs.Ytpoifoanigpncaa.bk
