/-
  Several texts in one: BokR BokS BokA CavI CavS CavR CavQ Held
-/
import Derived.Deep.RegionHeld3
import Derived.RangeFuncWrites
import Derived.Shelf.Abstract
import Derived.Shelf.RegionOpen
import Derived.WalkKit
import Derived.OwnWalkIn
import Derived.TacticsInMore
import Derived.LoopNIn
import Derived.LoopIn
import Derived.Deep.RegionHeld
import Derived.Test.YtohpaoleomcimaaGreatM2
/-!   Package book: InOrder: the records of a line.
-/
namespace Go.Proofs.YtohpaoleomcimaaGreat.bk
open Go.RowKit Go.Shelf aid mem rng
attribute [local go_sem] Oper.semAt_some
set_option linter.unusedVariables false
set_option linter.unusedSimpArgs false

theorem ck {w w' : World} {p : Addr} {v : Value} (hb : Below w.heap.size w w') (h : w.cell? p = some v) : w'.cell? p = some v := (hb.cell (World.block_lt_of_cell? w p h)).trans h
/-- orders rise -/
def Ord (L : List Nd) : Prop := L.Pairwise (fun x y => x.2.order < y.2.order)
theorem ord_last {L L' : List Nd} {y : Nd} (h : Ord L) (hL : L = L' ++ [y]) : ∀ x ∈ L, x.2.order ≤ y.2.order := by
  subst hL
  intro x hx
  rcases List.mem_append.1 hx with hx | hx
  · exact Int.le_of_lt ((List.pairwise_append.1 h).2.2 x hx y (by simp))
  · simp at hx; subst hx; exact Int.le_refl _
/-- a line, as an iterator reads it -/
structure Lr (w : World) (B : Nat) (L : List Nd) : Prop where
  c4 : w.cell? ⟨B, 4, none⟩ = some (pA (hd none L))
  c5 : w.cell? ⟨B, 5, none⟩ = some (pA (la none L))
  sg : seg w none L none
  nd : (L.map (·.1)).Nodup
theorem Ln.lr {w : World} {B T : Nat} {s : Hd} {L : List Nd} (h : Ln w B s T L) : Lr w B L := ⟨h.bk.cs.2.2.2.2.1, h.bk.cs.2.2.2.2.2, h.sg, h.nd⟩
theorem Lr.later {w w' : World} {B : Nat} {L : List Nd} (h : Lr w B L) (hb : Below w.heap.size w w') : Lr w' B L := ⟨ck hb h.c4, ck hb h.c5, seg_later hb h.sg, h.nd⟩
theorem seg_at {w : World} {L pre post : List Nd} {x : Nd} (h : seg w none L none) (hL : pre ++ x :: post = L) : NdAt w x.1 x.2 (la none pre) (hd none post) := by
  subst hL
  exact (seg_append.1 h).2.1
set_option maxRecDepth 100000 in
set_option maxHeartbeats 4000000 in
theorem inorder1_seq {w : World} {B bx : Nat} {L : List Nd} {A : Nat → Prop} (h : Lr w B L) (ho : Ord L) (hx : w.cell? ⟨bx, 0, none⟩ = some (.pointer (some ⟨B, 0, none⟩))) (hA : ∀ x ∈ L, ¬ A x.1) :
    SeqOf Tryz.prog 99 #[.pointer (some ⟨bx, 0, none⟩)] nE L A w := by
  intro l J Jx C0 W hW hC hJ hJx hY h0
  have c1 := ck hW hx
  have hlr := h.later hW
  have nC : ∀ x ∈ L, ¬ C0 x.1 := fun x hx' e => by
    rcases (hC _ e).1 with a | a
    · exact hA x hx' a
    · have := seg_lt h.sg hx'; omega
  have i0 : It C0 W C0 W := It.refl (fun k hk => (hC k hk).2)
  have hend : ∃ E, ∀ L' y, L = L' ++ [y] → y.2.order = E := by
    rcases List.eq_nil_or_concat L with rfl | ⟨L', y, rfl⟩
    · exact ⟨0, fun L' y e => by simp at e⟩
    · refine ⟨y.2.order, fun L2 z e => ?_⟩
      rw [List.concat_eq_append] at e
      have := (List.append_inj' e rfl).2
      simp at this
      rw [this]
  obtain ⟨E, hE⟩ := hend
  have hE2 : ∀ x ∈ L, x.2.order ≤ E := by
    intro x hx'
    rcases List.eq_nil_or_concat L with rfl | ⟨L', y, rfl⟩
    · simp at hx'
    · rw [List.concat_eq_append] at *
      have := hE L' y rfl
      rw [← this]
      exact ord_last ho rfl x hx'
  have hcl : Cl W C0 l J Jx L E := ⟨hY, fun pre x post C W1 hp _ hI => by
    have hn := seg_at hlr.sg hp
    have hm : x ∈ L := by rw [← hp]; simp
    have hn1 : NdAt W1 x.1 x.2 _ _ := hI.block hn (nC x hm)
    obtain ⟨_, _, _, k3, _, _, _, _, k8⟩ := hn1.cs
    exact ⟨k3, k8, hE2 x hm⟩, h.nd⟩
  have HR := Lib.hid (nodes_any hcl hlr.c4 hlr.c5 (fun L' y e => by
    have hn := seg_at (pre := L') (post := []) hlr.sg e.symm
    obtain ⟨_, _, _, k3, _⟩ := hn.cs
    rw [k3, hE L' y e]) h0 i0)
  clear hcl hlr i0 hJ hJx hY h0 hC hW hx hA h nC hE hE2
  show Calls Tryz.prog 99 #[.func (.yield l) #[] #[], .pointer (some ⟨bx, 0, none⟩)] W _
  go_enter Tryz.func99, Tryz.ntmps99
  go_wp2_with (go_at_call 100; (with_reducible refine HR.out.mono ?_); rintro e w3 ⟨⟨v, rfl⟩, C', hI, hq⟩; clear hI)
  all_goals
    go_end0
    exact ⟨⟨_, rfl⟩, C', hq⟩
def isRet (c : Code) : Prop := c = .ret
abbrev recE (x : Nd) : Array Value := #[rcV x.2]
theorem eg_in : ∀ args w, (callFunc 99 args).run Tryz.prog w = .ok (.enter 99 args) w := enters_of Tryz.func99 (by kernel_rfl) rfl
theorem eg_rec : ∀ args w, (callFunc 112 args).run Tryz.prog w = .ok (.enter 112 args) w := enters_of Tryz.func112 (by kernel_rfl) rfl
set_option maxRecDepth 100000 in
set_option maxHeartbeats 1000000 in
theorem records1_seq {w : World} {B bx bn : Nat} {L : List Nd} {A : Nat → Prop} (h : Lr w B L) (ho : Ord L) (hx : w.cell? ⟨bx, 0, none⟩ = some (.pointer (some ⟨B, 0, none⟩))) (hA : ∀ x ∈ L, ¬ A x.1)
    (hbx : w.cell? ⟨bn, 0, none⟩ = some (.func (.func 99) #[] #[.pointer (some ⟨bx, 0, none⟩)])) :
    SeqOf Tryz.prog 112 #[.pointer (some ⟨bn, 0, none⟩)] recE L A w := by
  have hseq := inorder1_seq h ho hx hA
  intro l J Jx C0 W hW hC hJ hJx hY h0
  have c0 := ck hW hbx
  have hlr := h.later hW
  have nC : ∀ x ∈ L, ¬ C0 x.1 := fun x hx' e => by
    rcases (hC _ e).1 with a | a
    · exact hA x hx' a
    · have := seg_lt h.sg hx'; omega
  show Calls Tryz.prog 112 #[.func (.yield l) #[] #[], .pointer (some ⟨bn, 0, none⟩)] W _
  refine (callsIn_wide (n := 6)).1 ?_
  refine callsIn_of_wp_marks Tryz.func112 rfl trivial ?_ rfl
  simp only [Tryz.ntmps112, List.size_toArray, List.length_cons, List.length_nil, Nat.reduceAdd, Nat.reduceSub, Array.replicate_succ, Array.replicate_zero, List.push_toArray, List.append_toArray, List.nil_append, List.cons_append]
  have hwb : Below W.heap.size W (W.alloc (.cells #[.func (.yield l) #[] #[]] 155)) := (Below.refl _ _).alloc (Nat.le_refl _) _
  have c1 := ck hwb c0
  gi_wp2
  refine wpIn_range' (gf := 99) (lb := #[.pointer (some ⟨bx, 0, none⟩)]) (L := L) (A := A) (w0 := w) (encs := nE) rfl eg_in hseq (hW.trans (hwb.mono hW.size)) (fun _ => rfl)
    (fun pre C W' => J pre C W' ∧ It C0 W C W' ∧ ¬ C W.heap.size ∧ W'.cell? ⟨W.heap.size, 0, none⟩ = some (.func (.yield l) #[] #[]))
    (fun c pre C W' => isRet c ∧ Jx pre C W') C0 ?hc0 ?hI ?hIx ?h0
    (fun x => { tmps := #[.func (.yield l) #[] #[], .pointer (some ⟨bn, 0, none⟩), .pointer (some ⟨W.heap.size, 0, none⟩), .pointer (some ⟨x.1, 0, none⟩), .func (.func 99) #[] #[.pointer (some ⟨bx, 0, none⟩)], .pointer (some ⟨x.1, 0, none⟩), undef, undef, undef, undef, undef, undef, undef], defers := [] }) ?assign ?body ?done ?stop
  case hc0 => exact fun k hk => ⟨(hC k hk).1, Nat.lt_of_lt_of_le (hC k hk).2 hwb.size⟩
  case hI =>
    rintro s C X Y ⟨h1, h2, h3, h4⟩ hz hs
    have hs' : rng.Steps (fun k => k < W.heap.size ∨ C k) X Y := hs.mono (fun k _ hk => hk.imp (fun h => by simp; omega) id)
    have := hwb.size
    exact ⟨hJ _ _ _ _ h1 (by omega) hs', h2.own hs', h3, hs.cell (.inl (by simp)) h4⟩
  case hIx =>
    rintro c s C X Y ⟨h1, h2⟩ hz hs
    have hs' : rng.Steps (fun k => k < W.heap.size ∨ C k) X Y := hs.mono (fun k _ hk => hk.imp (fun h => by simp; omega) id)
    have := hwb.size
    exact ⟨h1, hJx _ _ _ _ h2 (by omega) hs'⟩
  case h0 =>
    have ss := Steps.of_below hwb (fun k => k < W.heap.size ∨ C0 k)
    exact ⟨hJ _ _ _ _ h0 (Nat.le_refl _) ss, (It.refl (fun k hk => (hC k hk).2)).own ss, fun e => by have := (hC _ e).2; omega, (cell_of_row _ W.heap.size 0 _ _ (0, 0) (heap_alloc_new W _)).trans rfl⟩
  case assign =>
    intro l' x X K hK
    gi_wp2
    exact hK
  case body =>
    rintro l' pre x C X ⟨h1, h2, h3, h4⟩ hp hcb hz
    have j1 := hJ _ _ _ _ h1 h2.kept.size (rng.Steps.drew _ X)
    have hy := (hY _ _ _ X.drew j1 h2.kept.size hp).mono (fun e w h => one_way (X := fun C' => J (pre ++ [x]) C' w) (Y := fun C' => Jx (pre ++ [x]) C' w) h)
    have hxm : x ∈ L := hp.subset (by simp)
    obtain ⟨p1, q1, hnd⟩ := seg_mem hlr.sg hxm
    have hn1 : NdAt X x.1 x.2 _ _ := h2.block hnd (nC x hxm)
    obtain ⟨d0, d1, d2, d3, d4, d5, d6, _, _⟩ := hn1.cs
    obtain ⟨fn, tmps, assign, body, hyy, hYY⟩ := hy.at 3
    have e0 : X.drew.cell? ⟨x.1, 0, none⟩ = some (.int .i64 x.2.f) := d0
    have e1 : X.drew.cell? ⟨x.1, 1, none⟩ = some (.int .i64 x.2.t) := d1
    have e2 : X.drew.cell? ⟨x.1, 2, none⟩ = some (.int .i64 x.2.sent) := d2
    have e3 : X.drew.cell? ⟨x.1, 3, none⟩ = some (.int .i64 x.2.order) := d3
    have e4 : X.drew.cell? ⟨x.1, 4, none⟩ = some (.int .i64 x.2.times) := d4
    have e5 : X.drew.cell? ⟨x.1, 5, none⟩ = some (.int .i64 x.2.out) := d5
    have e6 : X.drew.cell? ⟨x.1, 6, none⟩ = some (.bool x.2.lost) := d6
    have e9 : X.drew.cell? ⟨W.heap.size, 0, none⟩ = some (.func (.yield l) #[] #[]) := h4
    have rd : Round C X C X.drew := ⟨rng.Steps.drew _ X, fun _ h => .inl h⟩
    have HN := Lib.hid (fun (C3 : Nat → Prop) (w3 : World) (hr : Round C X.drew C3 w3) (hj : J (pre ++ [x]) C3 w3) => show ∃ C', Round C X C' w3 ∧ (J (pre ++ [x]) C' w3 ∧ It C0 W C' w3 ∧ ¬ C' W.heap.size ∧ w3.cell? ⟨W.heap.size, 0, none⟩ = some (.func (.yield l) #[] #[])) from
      ⟨C3, rd.trans hr, hj, h2.round (rd.trans hr), fun e => by
        rcases hr.2 _ e with a | a
        · exact h3 a
        · have hz' : W.heap.size + 1 ≤ X.heap.size := by simpa using hz
          have : X.drew.heap.size = X.heap.size := rfl
          omega, (rd.trans hr).1.cell h3 h4⟩)
    have HS := Lib.hid (fun (C3 : Nat → Prop) (w3 : World) (hr : Round C X.drew C3 w3) (hj : Jx (pre ++ [x]) C3 w3) => show ∃ C', Round C X C' w3 ∧ (isRet Code.ret ∧ Jx (pre ++ [x]) C' w3) from
      ⟨C3, rd.trans hr, rfl, hj⟩)
    clear hseq hlr h ho hx hA hbx hW hJ hJx hY h0 c0 c1 hwb hC hp hcb hz hy j1 h1 h2 h3 h4 nC d0 d1 d2 d3 d4 d5 d6 hn1 hnd hxm rd
    have hmo : Tryz.prog.follows .mixedOrders = true := by kernel_rfl
    gi_wp2
    refine wpIn_region_round (by assumption) (by kernel_rfl) ?_
    refine wpAnyIn_take (i := 1) (v := (.pointer (some ⟨x.1, 0, none⟩))) rfl rfl (by kernel_rfl) (by kernel_rfl) (by kernel_rfl) (fun _ _ _ h => h) ⟨Or.inl ⟨by rfl, by intro w; go_simp⟩, fun _ => rfl⟩ ?_
    refine wpAnyIn_take (i := 2) (v := (.pointer (some ⟨x.1, 0, none⟩))) rfl rfl (by kernel_rfl) (by kernel_rfl) (by kernel_rfl) (fun _ _ _ h => h) ⟨Or.inl ⟨by rfl, by intro w; go_simp⟩, fun _ => rfl⟩ ?_
    refine wpAnyIn_take (i := 3) (v := (.pointer (some ⟨x.1, 0, none⟩))) rfl rfl (by kernel_rfl) (by kernel_rfl) (by kernel_rfl) (fun _ _ _ h => h) ⟨Or.inl ⟨by rfl, by intro w; go_simp⟩, fun _ => rfl⟩ ?_
    refine wpAnyIn_ready (rs := [0, 4]) (by kernel_rfl) (by simp) ?_
    refine AllReadyIn.cons rfl (fun K hK => ?_) ?_
    · go_simp
      refine hK _ _ ?_
      clear hK K
      refine wpAnyIn_ready (rs := [4]) (by kernel_rfl) (by simp) ?_
      refine AllReadyIn.cons rfl (fun K hK => ?_) ?_
      · go_simp
        refine hK _ _ ?_
        clear hK K
        refine wpAnyIn_ready (rs := [5]) (by kernel_rfl) (by simp) ?_
        refine AllReadyIn.cons rfl (fun K hK => ?_) ?_
        · go_simp
          refine hYY.mono ?_
          rintro e w3 ⟨bo, rfl, hr3⟩
          clear hyy hYY e0 e1 e2 e3 e4 e5 e6 e9
          refine hK _ _ ?_
          clear hK K
          refine wpAnyIn_take (i := 6) (v := (.bool (!bo))) rfl rfl (by kernel_rfl) (by kernel_rfl) (by kernel_rfl) (fun _ _ _ h => h) ⟨Or.inl ⟨by rfl, by intro w; go_simp⟩, fun _ => rfl⟩ ?_
          refine wpAnyIn_done (by kernel_rfl) ?_ _
          obtain ⟨C3, hr4, ⟨rfl, h3'⟩ | ⟨rfl, h3'⟩⟩ := hr3
          · gi_wp2
            exact HN.out _ _ hr4 h3'
          · gi_wp2
            exact HS.out _ _ hr4 h3'
        exact AllReadyIn.nil
      exact AllReadyIn.nil
    refine AllReadyIn.cons rfl (fun K hK => ?_) ?_
    · go_simp
      refine hK _ _ ?_
      clear hK K
      refine wpAnyIn_ready (rs := [0]) (by kernel_rfl) (by simp) ?_
      refine AllReadyIn.cons rfl (fun K hK => ?_) ?_
      · go_simp
        refine hK _ _ ?_
        clear hK K
        refine wpAnyIn_ready (rs := [5]) (by kernel_rfl) (by simp) ?_
        refine AllReadyIn.cons rfl (fun K hK => ?_) ?_
        · go_simp
          refine hYY.mono ?_
          rintro e w3 ⟨bo, rfl, hr3⟩
          clear hyy hYY e0 e1 e2 e3 e4 e5 e6 e9
          refine hK _ _ ?_
          clear hK K
          refine wpAnyIn_take (i := 6) (v := (.bool (!bo))) rfl rfl (by kernel_rfl) (by kernel_rfl) (by kernel_rfl) (fun _ _ _ h => h) ⟨Or.inl ⟨by rfl, by intro w; go_simp⟩, fun _ => rfl⟩ ?_
          refine wpAnyIn_done (by kernel_rfl) ?_ _
          obtain ⟨C3, hr4, ⟨rfl, h3'⟩ | ⟨rfl, h3'⟩⟩ := hr3
          · gi_wp2
            exact HN.out _ _ hr4 h3'
          · gi_wp2
            exact HS.out _ _ hr4 h3'
        exact AllReadyIn.nil
      exact AllReadyIn.nil
    exact AllReadyIn.nil
  case done =>
    rintro D C X hD hCD ⟨h1, h2, h3, h4⟩ hK
    have hD' : W.heap.size ≤ D := Nat.le_trans hwb.size hD
    have hf := hJ _ _ _ (X.putObj D (.deferred none)) h1 h2.kept.size (rng.Steps.putObj _ _ _ _ (by rintro (e | e); omega; exact hCD e))
    have HF := Lib.hid hf
    clear hseq hlr h ho hx hA hbx hW hJ hJx hY h0 c0 c1 hwb hC h1 h2 h3 h4 nC hf
    gi_wp2
    refine ⟨by simp, .inl ⟨_, _, rfl, run_takeDeferred hK, ?_⟩⟩
    exact ⟨_, results_none rfl _ _ _, ⟨_, rfl⟩, C, .inl HF.out⟩
  case stop =>
    rintro D c pre C X hD hCD ⟨rfl, h2⟩ hK
    have hD' : W.heap.size ≤ D := Nat.le_trans hwb.size hD
    have hX : W.heap.size ≤ X.heap.size := by have := lt_of_block hK; omega
    have hf := hJx _ _ _ (X.putObj D (.deferred none)) h2 hX (rng.Steps.putObj _ _ _ _ (by rintro (e | e); omega; exact hCD e))
    have HF := Lib.hid hf
    clear hseq hlr h ho hx hA hbx hW hJ hJx hY h0 c0 c1 hwb hC h2 nC hf
    gi_wp2
    refine ⟨by simp, .inl ⟨_, _, rfl, run_takeDeferred hK, ?_⟩⟩
    exact ⟨_, results_none rfl _ _ _, ⟨_, rfl⟩, C, .inr ⟨_, HF.out⟩⟩
/-- an iterator of records -/
def SeqR (L : List Nd) (A : Nat → Prop) (w : World) (e : Ending) (w' : World) : Prop :=
  ∃ lb, e = .returned (.func (.func 112) #[] lb) ∧ SeqOf Tryz.prog 112 lb recE L A w' ∧ Below w.heap.size w w'
set_option maxHeartbeats 1000000 in
theorem inorder_any {w : World} {B : Nat} {L : List Nd} (h : Lr w B L) (ho : Ord L) (A : Nat → Prop) (hA : ∀ x ∈ L, ¬ A x.1) :
    Calls Tryz.prog 50 #[.pointer (some ⟨B, 0, none⟩)] w (SeqR L A w) := by
  have b1 := al w (.cells #[.pointer (some ⟨B, 0, none⟩)] 28)
  have y1 := heap_alloc_new w (.cells #[.pointer (some ⟨B, 0, none⟩)] 28)
  have z1 : (w.alloc (.cells #[.pointer (some ⟨B, 0, none⟩)] 28)).heap.size = w.heap.size + 1 := by simp
  have h1 := h.later b1
  have HI : Hid (∀ W, Calls Tryz.prog 63 #[.pointer (some ⟨B, 0, none⟩)] W fun e w' => e = .returned (.func (.func 99) #[] #[.pointer (some ⟨W.heap.size, 0, none⟩)]) ∧ w' = W.alloc (.cells #[.pointer (some ⟨B, 0, none⟩)] 28)) := by
    refine Lib.hid fun W => ?_
    go_enter Tryz.func63, Tryz.ntmps63
    go_wp2_with fail
    go_ret
    exact ⟨rfl, rfl⟩
  have HR : Hid (∀ gf lb W, Calls Tryz.prog 84 #[.func (.func gf) #[] lb] W fun e w' => e = .returned (.func (.func 112) #[] #[.pointer (some ⟨W.heap.size, 0, none⟩)]) ∧ w' = W.alloc (.cells #[.func (.func gf) #[] lb] 116)) := by
    refine Lib.hid fun gf lb W => ?_
    go_enter Tryz.func84, Tryz.ntmps84
    go_wp2_with fail
    go_ret
    exact ⟨rfl, rfl⟩
  generalize hW1 : w.alloc (.cells #[.pointer (some ⟨B, 0, none⟩)] 28) = w1 at *
  have b2 := al w1 (.cells #[.func (.func 99) #[] #[.pointer (some ⟨w.heap.size, 0, none⟩)]] 116)
  have y2 := heap_alloc_new w1 (.cells #[.func (.func 99) #[] #[.pointer (some ⟨w.heap.size, 0, none⟩)]] 116)
  have x2 := (b2.block _ (lt_of_block y1)).trans y1
  have HF := Lib.hid (show SeqR L A w (.returned (.func (.func 112) #[] #[.pointer (some ⟨w1.heap.size, 0, none⟩)])) _ from ⟨_, rfl, records1_seq (h1.later b2) ho (cofr x2 0 _ rfl) hA (cofr y2 0 _ rfl), b1.trans (b2.mono b1.size)⟩)
  clear h h1 b1 b2 y1 y2 x2 z1 hA
  go_enter Tryz.func50, Tryz.ntmps50
  go_wp2_with (first
    | (go_at_call 63; (with_reducible refine (HI.out _).mono ?_); rintro e w3 ⟨rfl, rfl⟩; rw [hW1])
    | (go_at_call 84; (with_reducible refine (HR.out _ _ _).mono ?_); rintro e w3 ⟨rfl, rfl⟩))
  go_ret
  exact HF.out
end Go.Proofs.YtohpaoleomcimaaGreat.bk
/-!   Package book: Send.
-/
namespace Go.Proofs.YtohpaoleomcimaaGreat.bk
open Go.RowKit aid mem sp
attribute [local go_sem ↓] Go.wp_at_zero Go.wp_at_succ
set_option linter.unusedVariables false
set_option linter.unusedSimpArgs false

/-- the book's head, and a span in a box -/
structure Sb (w0 : World) (X B T : Nat) (s : Hd) (f l : Option Nat) (p : Int × Int) (w : World) : Prop where
  bk : BlAt w B s T f l
  x : SpAt w X p
  below : Below w0.heap.size w0 w
section
variable {w0 w w' : World} {X B T : Nat} {s : Hd} {f l : Option Nat} {p : Int × Int} (h : Sb w0 X B T s f l p w)
include h
theorem Sb.later (hb : Below w.heap.size w w') : Sb w0 X B T s f l p w' := ⟨h.bk.later hb, h.x.later hb, h.below.trans (hb.mono h.below.size)⟩
theorem Sb.drew : Sb w0 X B T s f l p w.drew := h.later (Below.refl _ _).drew
theorem Sb.all : w.cell? ⟨X, 0, none⟩ = some (.int .i64 p.1) ∧ w.cell? ⟨X, 1, none⟩ = some (.int .i64 p.2) ∧ w.cell? ⟨B, 0, none⟩ = some (.int .i64 s.nxt) := ⟨h.x.c0, h.x.c1, h.bk.cs.1⟩
end
theorem sb_new {w : World} {B T : Nat} {s : Hd} {f l : Option Nat} (h : BlAt w B s T f l) (p : Int × Int) : Sb w w.heap.size B T s f l p (w.alloc (.cells #[.int .i64 p.1, .int .i64 p.2] 24)) :=
  ⟨h.later (bal _), sp_new w p, bal _⟩
/-- may that be sent then? -/
def sendB (s : Hd) (p : Int × Int) (now : Int) : Bool := decide (lenI p ≠ 0) && decide (p.1 = s.nxt) && decide (s.now ≤ now) && decide (now ≤ 4611686018427387904)
set_option maxRecDepth 100000 in
set_option maxHeartbeats 4000000 in
theorem send_bad {w : World} {B T : Nat} {s : Hd} {f l : Option Nat} (h : BlAt w B s T f l) (sp : Int × Int) (now : Int) (hb : sendB s sp now = false) :
    Calls Tryz.prog 28 #[.pointer (some ⟨B, 0, none⟩), spV sp, .int .i64 now] w fun e w' => e = .returned (.int .i64 3) ∧ Below w.heap.size w w' := by
  have HL := Lib.hid (len_any sp)
  have HS := Lib.hid (sb_new h sp)
  clear h
  unfold sendB at hb
  by_cases h1 : lenI sp = 0
  · have h1b : (lenI sp == 0) = true := by simpa using h1
    generalize lenI sp = n at *
    clear hb h1
    go_enter Tryz.func28, Tryz.ntmps28
    go_wp2_with fail
    have G1 := HS.out
    clear HS
    refine wp_region_noPanic ?_
    refine wp_region_held_drew (S := (fun w' => w'.cell? ⟨w.heap.size, 0, none⟩ = some (.int .i64 sp.1) ∧ w'.cell? ⟨w.heap.size, 1, none⟩ = some (.int .i64 sp.2) ∧ w'.cell? ⟨B, 0, none⟩ = some (.int .i64 s.nxt))) (by kernel_rfl) ?_ (fun hHeld => ?_)
    · ((try dsimp only); first | with_reducible exact G1.all | with_reducible exact G1.drew.all)
    refine wpAnyH_take (i := 0) (oi := _) (v := ?_) rfl (by kernel_rfl) (by kernel_rfl) (by kernel_rfl) (fun _ _ _ h => h) (Or.inl ⟨by rfl, ?_⟩) (by assumption) ?_
    rotate_left
    · (first | (intro v hSw; (try dsimp only at hSw); go_simp; done) | (intro v hSw; (try dsimp only at hSw); go_simp; with_reducible rfl))
    (try simp only [List.getElem_toArray, List.getElem_cons_succ, List.getElem_cons_zero, Act.put, List.setIfInBounds_toArray, List.set_cons_zero, List.set_cons_succ])
    refine wpAnyH_ready (rs := [1]) (by kernel_rfl) (by simp) ?_
    refine AllReadyH.cons (o := _) rfl (fun K hK => ?_) AllReadyH.nil
    go_simp
    go_at_call 58
    (with_reducible refine (HL.out _).mono ?_)
    rintro x w2 ⟨rfl, hb2⟩
    have G2 := G1.drew.later hb2
    clear G1
    refine hK.out _ _ ?_ (fun hHeld => ?_)
    · ((try dsimp only); first | with_reducible exact G1.all | with_reducible exact G1.drew.all | with_reducible exact G2.all | go_keep)
    clear hK K
    (try simp only [List.getElem_toArray, List.getElem_cons_succ, List.getElem_cons_zero, Act.put, List.setIfInBounds_toArray, List.set_cons_zero, List.set_cons_succ])
    refine wpAnyH_take (i := 2) (oi := _) (v := ?_) rfl (by kernel_rfl) (by kernel_rfl) (by kernel_rfl) (fun _ _ _ h => h) (Or.inl ⟨by rfl, ?_⟩) (by assumption) ?_
    rotate_left
    · (first | (intro v hSw; (try dsimp only at hSw); go_simp; done) | (intro v hSw; (try dsimp only at hSw); go_simp; with_reducible rfl))
    (try simp only [List.getElem_toArray, List.getElem_cons_succ, List.getElem_cons_zero, Act.put, List.setIfInBounds_toArray, List.set_cons_zero, List.set_cons_succ])
    refine wpAnyH_take (i := 3) (oi := _) (v := ?_) rfl (by kernel_rfl) (by kernel_rfl) (by kernel_rfl) (fun _ _ _ h => h) (Or.inl ⟨by rfl, ?_⟩) (by assumption) ?_
    rotate_left
    · (first | (intro v hSw; (try dsimp only at hSw); go_simp; done) | (intro v hSw; (try dsimp only at hSw); go_simp; with_reducible rfl))
    (try simp only [List.getElem_toArray, List.getElem_cons_succ, List.getElem_cons_zero, Act.put, List.setIfInBounds_toArray, List.set_cons_zero, List.set_cons_succ])
    refine wpAnyH_take (i := 4) (oi := _) (v := undef) rfl (by kernel_rfl) (by kernel_rfl) (by kernel_rfl) (fun _ _ _ h => h) (Or.inr ⟨by rfl, rfl⟩) (by assumption) ?_
    (try simp only [List.getElem_toArray, List.getElem_cons_succ, List.getElem_cons_zero, Act.put, List.setIfInBounds_toArray, List.set_cons_zero, List.set_cons_succ])
    refine wpAnyH_take (i := 5) (oi := _) (v := undef) rfl (by kernel_rfl) (by kernel_rfl) (by kernel_rfl) (fun _ _ _ h => h) (Or.inr ⟨by rfl, rfl⟩) (by assumption) ?_
    (try simp only [List.getElem_toArray, List.getElem_cons_succ, List.getElem_cons_zero, Act.put, List.setIfInBounds_toArray, List.set_cons_zero, List.set_cons_succ])
    refine wpAnyH_take (i := 6) (oi := _) (v := undef) rfl (by kernel_rfl) (by kernel_rfl) (by kernel_rfl) (fun _ _ _ h => h) (Or.inr ⟨by rfl, rfl⟩) (by assumption) ?_
    (try simp only [List.getElem_toArray, List.getElem_cons_succ, List.getElem_cons_zero, Act.put, List.setIfInBounds_toArray, List.set_cons_zero, List.set_cons_succ])
    refine wpAnyH_take (i := 7) (oi := _) (v := undef) rfl (by kernel_rfl) (by kernel_rfl) (by kernel_rfl) (fun _ _ _ h => h) (Or.inr ⟨by rfl, rfl⟩) (by assumption) ?_
    (try simp only [List.getElem_toArray, List.getElem_cons_succ, List.getElem_cons_zero, Act.put, List.setIfInBounds_toArray, List.set_cons_zero, List.set_cons_succ])
    refine wpAnyH_take (i := 8) (oi := _) (v := undef) rfl (by kernel_rfl) (by kernel_rfl) (by kernel_rfl) (fun _ _ _ h => h) (Or.inr ⟨by rfl, rfl⟩) (by assumption) ?_
    (try simp only [List.getElem_toArray, List.getElem_cons_succ, List.getElem_cons_zero, Act.put, List.setIfInBounds_toArray, List.set_cons_zero, List.set_cons_succ])
    refine wpAnyH_take (i := 9) (oi := _) (v := undef) rfl (by kernel_rfl) (by kernel_rfl) (by kernel_rfl) (fun _ _ _ h => h) (Or.inr ⟨by rfl, rfl⟩) (by assumption) ?_
    (try simp only [List.getElem_toArray, List.getElem_cons_succ, List.getElem_cons_zero, Act.put, List.setIfInBounds_toArray, List.set_cons_zero, List.set_cons_succ])
    refine wpAnyH_take (i := 10) (oi := _) (v := undef) rfl (by kernel_rfl) (by kernel_rfl) (by kernel_rfl) (fun _ _ _ h => h) (Or.inr ⟨by rfl, rfl⟩) (by assumption) ?_
    (try simp only [List.getElem_toArray, List.getElem_cons_succ, List.getElem_cons_zero, Act.put, List.setIfInBounds_toArray, List.set_cons_zero, List.set_cons_succ])
    refine wpAnyH_take (i := 11) (oi := _) (v := ?_) rfl (by kernel_rfl) (by kernel_rfl) (by kernel_rfl) (fun _ _ _ h => h) (Or.inl ⟨by rfl, ?_⟩) (by assumption) ?_
    rotate_left
    · (first | (intro v hSw; (try dsimp only at hSw); go_simp; done) | (intro v hSw; (try dsimp only at hSw); go_simp; with_reducible rfl))
    (try simp only [List.getElem_toArray, List.getElem_cons_succ, List.getElem_cons_zero, Act.put, List.setIfInBounds_toArray, List.set_cons_zero, List.set_cons_succ])
    refine wpAnyH_take (i := 12) (oi := _) (v := ?_) rfl (by kernel_rfl) (by kernel_rfl) (by kernel_rfl) (fun _ _ _ h => h) (Or.inl ⟨by rfl, ?_⟩) (by assumption) ?_
    rotate_left
    · (first | (intro v hSw; (try dsimp only at hSw); go_simp; done) | (intro v hSw; (try dsimp only at hSw); go_simp; with_reducible rfl))
    (try simp only [List.getElem_toArray, List.getElem_cons_succ, List.getElem_cons_zero, Act.put, List.setIfInBounds_toArray, List.set_cons_zero, List.set_cons_succ])
    refine wpAnyH_take (i := 13) (oi := _) (v := undef) rfl (by kernel_rfl) (by kernel_rfl) (by kernel_rfl) (fun _ _ _ h => h) (Or.inr ⟨by rfl, rfl⟩) (by assumption) ?_
    (try simp only [List.getElem_toArray, List.getElem_cons_succ, List.getElem_cons_zero, Act.put, List.setIfInBounds_toArray, List.set_cons_zero, List.set_cons_succ])
    refine wpAnyH_take (i := 14) (oi := _) (v := undef) rfl (by kernel_rfl) (by kernel_rfl) (by kernel_rfl) (fun _ _ _ h => h) (Or.inr ⟨by rfl, rfl⟩) (by assumption) ?_
    (try simp only [List.getElem_toArray, List.getElem_cons_succ, List.getElem_cons_zero, Act.put, List.setIfInBounds_toArray, List.set_cons_zero, List.set_cons_succ])
    refine wpAnyH_take (i := 15) (oi := _) (v := undef) rfl (by kernel_rfl) (by kernel_rfl) (by kernel_rfl) (fun _ _ _ h => h) (Or.inr ⟨by rfl, rfl⟩) (by assumption) ?_
    (try simp only [List.getElem_toArray, List.getElem_cons_succ, List.getElem_cons_zero, Act.put, List.setIfInBounds_toArray, List.set_cons_zero, List.set_cons_succ])
    refine wpAnyH_take (i := 16) (oi := _) (v := undef) rfl (by kernel_rfl) (by kernel_rfl) (by kernel_rfl) (fun _ _ _ h => h) (Or.inr ⟨by rfl, rfl⟩) (by assumption) ?_
    (try simp only [List.getElem_toArray, List.getElem_cons_succ, List.getElem_cons_zero, Act.put, List.setIfInBounds_toArray, List.set_cons_zero, List.set_cons_succ])
    refine wpAnyH_take (i := 17) (oi := _) (v := ?_) rfl (by kernel_rfl) (by kernel_rfl) (by kernel_rfl) (fun _ _ _ h => h) (Or.inl ⟨by rfl, ?_⟩) (by assumption) ?_
    rotate_left
    · (first | (intro v hSw; (try dsimp only at hSw); go_simp; done) | (intro v hSw; (try dsimp only at hSw); go_simp; with_reducible rfl))
    (try simp only [List.getElem_toArray, List.getElem_cons_succ, List.getElem_cons_zero, Act.put, List.setIfInBounds_toArray, List.set_cons_zero, List.set_cons_succ])
    refine wpAnyH_done (by kernel_rfl) ?_ _
    refine NoPanic.normal ?_
    go_wp2_with fail
    go_ret
    exact ⟨rfl, G2.below⟩
  · have h1b : (lenI sp == 0) = false := by simpa using h1
    by_cases h2 : sp.1 = s.nxt
    · have h2b : (sp.1 != s.nxt) = false := by simp [h2]
      have h3 : (decide (s.now ≤ now) && decide (now ≤ 4611686018427387904)) = false := by simpa [h1, h2] using hb
      have H3 := Lib.hid h3
      generalize lenI sp = n at *
      clear hb h1 h2 h3
      go_enter Tryz.func28, Tryz.ntmps28
      go_wp2_with fail
      have G1 := HS.out
      clear HS
      refine wp_region_noPanic ?_
      refine wp_region_held_drew (S := (fun w' => w'.cell? ⟨w.heap.size, 0, none⟩ = some (.int .i64 sp.1) ∧ w'.cell? ⟨w.heap.size, 1, none⟩ = some (.int .i64 sp.2) ∧ w'.cell? ⟨B, 0, none⟩ = some (.int .i64 s.nxt))) (by kernel_rfl) ?_ (fun hHeld => ?_)
      · ((try dsimp only); first | with_reducible exact G1.all | with_reducible exact G1.drew.all)
      refine wpAnyH_take (i := 0) (oi := _) (v := ?_) rfl (by kernel_rfl) (by kernel_rfl) (by kernel_rfl) (fun _ _ _ h => h) (Or.inl ⟨by rfl, ?_⟩) (by assumption) ?_
      rotate_left
      · (first | (intro v hSw; (try dsimp only at hSw); go_simp; done) | (intro v hSw; (try dsimp only at hSw); go_simp; with_reducible rfl))
      (try simp only [List.getElem_toArray, List.getElem_cons_succ, List.getElem_cons_zero, Act.put, List.setIfInBounds_toArray, List.set_cons_zero, List.set_cons_succ])
      refine wpAnyH_ready (rs := [1]) (by kernel_rfl) (by simp) ?_
      refine AllReadyH.cons (o := _) rfl (fun K hK => ?_) AllReadyH.nil
      go_simp
      go_at_call 58
      (with_reducible refine (HL.out _).mono ?_)
      rintro x w2 ⟨rfl, hb2⟩
      have G2 := G1.drew.later hb2
      clear G1
      refine hK.out _ _ ?_ (fun hHeld => ?_)
      · ((try dsimp only); first | with_reducible exact G1.all | with_reducible exact G1.drew.all | with_reducible exact G2.all | go_keep)
      clear hK K
      (try simp only [List.getElem_toArray, List.getElem_cons_succ, List.getElem_cons_zero, Act.put, List.setIfInBounds_toArray, List.set_cons_zero, List.set_cons_succ])
      refine wpAnyH_take (i := 2) (oi := _) (v := ?_) rfl (by kernel_rfl) (by kernel_rfl) (by kernel_rfl) (fun _ _ _ h => h) (Or.inl ⟨by rfl, ?_⟩) (by assumption) ?_
      rotate_left
      · (first | (intro v hSw; (try dsimp only at hSw); go_simp; done) | (intro v hSw; (try dsimp only at hSw); go_simp; with_reducible rfl))
      (try simp only [List.getElem_toArray, List.getElem_cons_succ, List.getElem_cons_zero, Act.put, List.setIfInBounds_toArray, List.set_cons_zero, List.set_cons_succ])
      refine wpAnyH_take (i := 3) (oi := _) (v := ?_) rfl (by kernel_rfl) (by kernel_rfl) (by kernel_rfl) (fun _ _ _ h => h) (Or.inl ⟨by rfl, ?_⟩) (by assumption) ?_
      rotate_left
      · (first | (intro v hSw; (try dsimp only at hSw); go_simp; done) | (intro v hSw; (try dsimp only at hSw); go_simp; with_reducible rfl))
      (try simp only [List.getElem_toArray, List.getElem_cons_succ, List.getElem_cons_zero, Act.put, List.setIfInBounds_toArray, List.set_cons_zero, List.set_cons_succ])
      refine wpAnyH_take (i := 4) (oi := _) (v := ?_) rfl (by kernel_rfl) (by kernel_rfl) (by kernel_rfl) (fun _ _ _ h => h) (Or.inl ⟨by rfl, ?_⟩) (by assumption) ?_
      rotate_left
      · (first | (intro v hSw; (try dsimp only at hSw); go_simp; done) | (intro v hSw; (try dsimp only at hSw); go_simp; with_reducible rfl))
      (try simp only [List.getElem_toArray, List.getElem_cons_succ, List.getElem_cons_zero, Act.put, List.setIfInBounds_toArray, List.set_cons_zero, List.set_cons_succ])
      refine wpAnyH_take (i := 5) (oi := _) (v := ?_) rfl (by kernel_rfl) (by kernel_rfl) (by kernel_rfl) (fun _ _ _ h => h) (Or.inl ⟨by rfl, ?_⟩) (by assumption) ?_
      rotate_left
      · (first | (intro v hSw; (try dsimp only at hSw); go_simp; done) | (intro v hSw; (try dsimp only at hSw); go_simp; with_reducible rfl))
      (try simp only [List.getElem_toArray, List.getElem_cons_succ, List.getElem_cons_zero, Act.put, List.setIfInBounds_toArray, List.set_cons_zero, List.set_cons_succ])
      refine wpAnyH_take (i := 6) (oi := _) (v := ?_) rfl (by kernel_rfl) (by kernel_rfl) (by kernel_rfl) (fun _ _ _ h => h) (Or.inl ⟨by rfl, ?_⟩) (by assumption) ?_
      rotate_left
      · (first | (intro v hSw; (try dsimp only at hSw); go_simp; done) | (intro v hSw; (try dsimp only at hSw); go_simp; with_reducible rfl))
      (try simp only [List.getElem_toArray, List.getElem_cons_succ, List.getElem_cons_zero, Act.put, List.setIfInBounds_toArray, List.set_cons_zero, List.set_cons_succ])
      refine wpAnyH_take (i := 7) (oi := _) (v := ?_) rfl (by kernel_rfl) (by kernel_rfl) (by kernel_rfl) (fun _ _ _ h => h) (Or.inl ⟨by rfl, ?_⟩) (by assumption) ?_
      rotate_left
      · (first | (intro v hSw; (try dsimp only at hSw); go_simp; done) | (intro v hSw; (try dsimp only at hSw); go_simp; with_reducible rfl))
      (try simp only [List.getElem_toArray, List.getElem_cons_succ, List.getElem_cons_zero, Act.put, List.setIfInBounds_toArray, List.set_cons_zero, List.set_cons_succ])
      refine wpAnyH_take (i := 8) (oi := _) (v := ?_) rfl (by kernel_rfl) (by kernel_rfl) (by kernel_rfl) (fun _ _ _ h => h) (Or.inl ⟨by rfl, ?_⟩) (by assumption) ?_
      rotate_left
      · (first | (intro v hSw; (try dsimp only at hSw); go_simp; done) | (intro v hSw; (try dsimp only at hSw); go_simp; with_reducible rfl))
      (try simp only [List.getElem_toArray, List.getElem_cons_succ, List.getElem_cons_zero, Act.put, List.setIfInBounds_toArray, List.set_cons_zero, List.set_cons_succ])
      refine wpAnyH_take (i := 9) (oi := _) (v := ?_) rfl (by kernel_rfl) (by kernel_rfl) (by kernel_rfl) (fun _ _ _ h => h) (Or.inl ⟨by rfl, ?_⟩) (by assumption) ?_
      rotate_left
      · (first | (intro v hSw; (try dsimp only at hSw); go_simp; done) | (intro v hSw; (try dsimp only at hSw); go_simp; with_reducible rfl))
      (try simp only [List.getElem_toArray, List.getElem_cons_succ, List.getElem_cons_zero, Act.put, List.setIfInBounds_toArray, List.set_cons_zero, List.set_cons_succ])
      refine wpAnyH_take (i := 10) (oi := _) (v := ?_) rfl (by kernel_rfl) (by kernel_rfl) (by kernel_rfl) (fun _ _ _ h => h) (Or.inl ⟨by rfl, ?_⟩) (by assumption) ?_
      rotate_left
      · (first | (intro v hSw; (try dsimp only at hSw); go_simp; done) | (intro v hSw; (try dsimp only at hSw); go_simp; with_reducible rfl))
      (try simp only [List.getElem_toArray, List.getElem_cons_succ, List.getElem_cons_zero, Act.put, List.setIfInBounds_toArray, List.set_cons_zero, List.set_cons_succ])
      refine wpAnyH_take (i := 11) (oi := _) (v := ?_) rfl (by kernel_rfl) (by kernel_rfl) (by kernel_rfl) (fun _ _ _ h => h) (Or.inl ⟨by rfl, ?_⟩) (by assumption) ?_
      rotate_left
      · (first | (intro v hSw; (try dsimp only at hSw); go_simp; done) | (intro v hSw; (try dsimp only at hSw); go_simp; with_reducible rfl))
      (try simp only [List.getElem_toArray, List.getElem_cons_succ, List.getElem_cons_zero, Act.put, List.setIfInBounds_toArray, List.set_cons_zero, List.set_cons_succ])
      refine wpAnyH_take (i := 12) (oi := _) (v := ?_) rfl (by kernel_rfl) (by kernel_rfl) (by kernel_rfl) (fun _ _ _ h => h) (Or.inl ⟨by rfl, ?_⟩) (by assumption) ?_
      rotate_left
      · (first | (intro v hSw; (try dsimp only at hSw); go_simp; done) | (intro v hSw; (try dsimp only at hSw); go_simp; with_reducible rfl))
      (try simp only [List.getElem_toArray, List.getElem_cons_succ, List.getElem_cons_zero, Act.put, List.setIfInBounds_toArray, List.set_cons_zero, List.set_cons_succ])
      refine wpAnyH_take (i := 13) (oi := _) (v := ?_) rfl (by kernel_rfl) (by kernel_rfl) (by kernel_rfl) (fun _ _ _ h => h) (Or.inl ⟨by rfl, ?_⟩) (by assumption) ?_
      rotate_left
      · (first | (intro v hSw; (try dsimp only at hSw); go_simp; done) | (intro v hSw; (try dsimp only at hSw); go_simp; with_reducible rfl))
      (try simp only [List.getElem_toArray, List.getElem_cons_succ, List.getElem_cons_zero, Act.put, List.setIfInBounds_toArray, List.set_cons_zero, List.set_cons_succ])
      refine wpAnyH_take (i := 14) (oi := _) (v := ?_) rfl (by kernel_rfl) (by kernel_rfl) (by kernel_rfl) (fun _ _ _ h => h) (Or.inl ⟨by rfl, ?_⟩) (by assumption) ?_
      rotate_left
      · (first | (intro v hSw; (try dsimp only at hSw); go_simp; done) | (intro v hSw; (try dsimp only at hSw); go_simp; with_reducible rfl))
      (try simp only [List.getElem_toArray, List.getElem_cons_succ, List.getElem_cons_zero, Act.put, List.setIfInBounds_toArray, List.set_cons_zero, List.set_cons_succ])
      refine wpAnyH_ready (rs := [15]) (by kernel_rfl) (by simp) ?_
      refine AllReadyH.cons (o := _) rfl (fun K hK => ?_) AllReadyH.nil
      go_simp
      go_at_call 68
      (with_reducible refine (may_eq G2.bk now).mono ?_)
      rintro x w3 ⟨rfl, rfl⟩
      rw [H3.out]
      refine hK.out _ _ ?_ (fun hHeld => ?_)
      · ((try dsimp only); first | with_reducible exact G1.all | with_reducible exact G1.drew.all | with_reducible exact G2.all | go_keep)
      clear hK K
      (try simp only [List.getElem_toArray, List.getElem_cons_succ, List.getElem_cons_zero, Act.put, List.setIfInBounds_toArray, List.set_cons_zero, List.set_cons_succ])
      refine wpAnyH_take (i := 16) (oi := _) (v := ?_) rfl (by kernel_rfl) (by kernel_rfl) (by kernel_rfl) (fun _ _ _ h => h) (Or.inl ⟨by rfl, ?_⟩) (by assumption) ?_
      rotate_left
      · (first | (intro v hSw; (try dsimp only at hSw); go_simp; done) | (intro v hSw; (try dsimp only at hSw); go_simp; with_reducible rfl))
      (try simp only [List.getElem_toArray, List.getElem_cons_succ, List.getElem_cons_zero, Act.put, List.setIfInBounds_toArray, List.set_cons_zero, List.set_cons_succ])
      refine wpAnyH_take (i := 17) (oi := _) (v := ?_) rfl (by kernel_rfl) (by kernel_rfl) (by kernel_rfl) (fun _ _ _ h => h) (Or.inl ⟨by rfl, ?_⟩) (by assumption) ?_
      rotate_left
      · (first | (intro v hSw; (try dsimp only at hSw); go_simp; done) | (intro v hSw; (try dsimp only at hSw); go_simp; with_reducible rfl))
      (try simp only [List.getElem_toArray, List.getElem_cons_succ, List.getElem_cons_zero, Act.put, List.setIfInBounds_toArray, List.set_cons_zero, List.set_cons_succ])
      refine wpAnyH_done (by kernel_rfl) ?_ _
      refine NoPanic.normal ?_
      go_wp2_with fail
      go_ret
      exact ⟨rfl, G2.below⟩
    · have h2b : (sp.1 != s.nxt) = true := by simpa using h2
      generalize lenI sp = n at *
      clear hb h1 h2
      go_enter Tryz.func28, Tryz.ntmps28
      go_wp2_with fail
      have G1 := HS.out
      clear HS
      refine wp_region_noPanic ?_
      refine wp_region_held_drew (S := (fun w' => w'.cell? ⟨w.heap.size, 0, none⟩ = some (.int .i64 sp.1) ∧ w'.cell? ⟨w.heap.size, 1, none⟩ = some (.int .i64 sp.2) ∧ w'.cell? ⟨B, 0, none⟩ = some (.int .i64 s.nxt))) (by kernel_rfl) ?_ (fun hHeld => ?_)
      · ((try dsimp only); first | with_reducible exact G1.all | with_reducible exact G1.drew.all)
      refine wpAnyH_take (i := 0) (oi := _) (v := ?_) rfl (by kernel_rfl) (by kernel_rfl) (by kernel_rfl) (fun _ _ _ h => h) (Or.inl ⟨by rfl, ?_⟩) (by assumption) ?_
      rotate_left
      · (first | (intro v hSw; (try dsimp only at hSw); go_simp; done) | (intro v hSw; (try dsimp only at hSw); go_simp; with_reducible rfl))
      (try simp only [List.getElem_toArray, List.getElem_cons_succ, List.getElem_cons_zero, Act.put, List.setIfInBounds_toArray, List.set_cons_zero, List.set_cons_succ])
      refine wpAnyH_ready (rs := [1]) (by kernel_rfl) (by simp) ?_
      refine AllReadyH.cons (o := _) rfl (fun K hK => ?_) AllReadyH.nil
      go_simp
      go_at_call 58
      (with_reducible refine (HL.out _).mono ?_)
      rintro x w2 ⟨rfl, hb2⟩
      have G2 := G1.drew.later hb2
      clear G1
      refine hK.out _ _ ?_ (fun hHeld => ?_)
      · ((try dsimp only); first | with_reducible exact G1.all | with_reducible exact G1.drew.all | with_reducible exact G2.all | go_keep)
      clear hK K
      (try simp only [List.getElem_toArray, List.getElem_cons_succ, List.getElem_cons_zero, Act.put, List.setIfInBounds_toArray, List.set_cons_zero, List.set_cons_succ])
      refine wpAnyH_take (i := 2) (oi := _) (v := ?_) rfl (by kernel_rfl) (by kernel_rfl) (by kernel_rfl) (fun _ _ _ h => h) (Or.inl ⟨by rfl, ?_⟩) (by assumption) ?_
      rotate_left
      · (first | (intro v hSw; (try dsimp only at hSw); go_simp; done) | (intro v hSw; (try dsimp only at hSw); go_simp; with_reducible rfl))
      (try simp only [List.getElem_toArray, List.getElem_cons_succ, List.getElem_cons_zero, Act.put, List.setIfInBounds_toArray, List.set_cons_zero, List.set_cons_succ])
      refine wpAnyH_take (i := 3) (oi := _) (v := ?_) rfl (by kernel_rfl) (by kernel_rfl) (by kernel_rfl) (fun _ _ _ h => h) (Or.inl ⟨by rfl, ?_⟩) (by assumption) ?_
      rotate_left
      · (first | (intro v hSw; (try dsimp only at hSw); go_simp; done) | (intro v hSw; (try dsimp only at hSw); go_simp; with_reducible rfl))
      (try simp only [List.getElem_toArray, List.getElem_cons_succ, List.getElem_cons_zero, Act.put, List.setIfInBounds_toArray, List.set_cons_zero, List.set_cons_succ])
      refine wpAnyH_take (i := 4) (oi := _) (v := ?_) rfl (by kernel_rfl) (by kernel_rfl) (by kernel_rfl) (fun _ _ _ h => h) (Or.inl ⟨by rfl, ?_⟩) (by assumption) ?_
      rotate_left
      · (first | (intro v hSw; (try dsimp only at hSw); go_simp; done) | (intro v hSw; (try dsimp only at hSw); go_simp; with_reducible rfl))
      (try simp only [List.getElem_toArray, List.getElem_cons_succ, List.getElem_cons_zero, Act.put, List.setIfInBounds_toArray, List.set_cons_zero, List.set_cons_succ])
      refine wpAnyH_take (i := 5) (oi := _) (v := ?_) rfl (by kernel_rfl) (by kernel_rfl) (by kernel_rfl) (fun _ _ _ h => h) (Or.inl ⟨by rfl, ?_⟩) (by assumption) ?_
      rotate_left
      · (first | (intro v hSw; (try dsimp only at hSw); go_simp; done) | (intro v hSw; (try dsimp only at hSw); go_simp; with_reducible rfl))
      (try simp only [List.getElem_toArray, List.getElem_cons_succ, List.getElem_cons_zero, Act.put, List.setIfInBounds_toArray, List.set_cons_zero, List.set_cons_succ])
      refine wpAnyH_take (i := 6) (oi := _) (v := ?_) rfl (by kernel_rfl) (by kernel_rfl) (by kernel_rfl) (fun _ _ _ h => h) (Or.inl ⟨by rfl, ?_⟩) (by assumption) ?_
      rotate_left
      · (first | (intro v hSw; (try dsimp only at hSw); go_simp; done) | (intro v hSw; (try dsimp only at hSw); go_simp; with_reducible rfl))
      (try simp only [List.getElem_toArray, List.getElem_cons_succ, List.getElem_cons_zero, Act.put, List.setIfInBounds_toArray, List.set_cons_zero, List.set_cons_succ])
      refine wpAnyH_take (i := 7) (oi := _) (v := ?_) rfl (by kernel_rfl) (by kernel_rfl) (by kernel_rfl) (fun _ _ _ h => h) (Or.inl ⟨by rfl, ?_⟩) (by assumption) ?_
      rotate_left
      · (first | (intro v hSw; (try dsimp only at hSw); go_simp; done) | (intro v hSw; (try dsimp only at hSw); go_simp; with_reducible rfl))
      (try simp only [List.getElem_toArray, List.getElem_cons_succ, List.getElem_cons_zero, Act.put, List.setIfInBounds_toArray, List.set_cons_zero, List.set_cons_succ])
      refine wpAnyH_take (i := 8) (oi := _) (v := ?_) rfl (by kernel_rfl) (by kernel_rfl) (by kernel_rfl) (fun _ _ _ h => h) (Or.inl ⟨by rfl, ?_⟩) (by assumption) ?_
      rotate_left
      · (first | (intro v hSw; (try dsimp only at hSw); go_simp; done) | (intro v hSw; (try dsimp only at hSw); go_simp; with_reducible rfl))
      (try simp only [List.getElem_toArray, List.getElem_cons_succ, List.getElem_cons_zero, Act.put, List.setIfInBounds_toArray, List.set_cons_zero, List.set_cons_succ])
      refine wpAnyH_take (i := 9) (oi := _) (v := ?_) rfl (by kernel_rfl) (by kernel_rfl) (by kernel_rfl) (fun _ _ _ h => h) (Or.inl ⟨by rfl, ?_⟩) (by assumption) ?_
      rotate_left
      · (first | (intro v hSw; (try dsimp only at hSw); go_simp; done) | (intro v hSw; (try dsimp only at hSw); go_simp; with_reducible rfl))
      (try simp only [List.getElem_toArray, List.getElem_cons_succ, List.getElem_cons_zero, Act.put, List.setIfInBounds_toArray, List.set_cons_zero, List.set_cons_succ])
      refine wpAnyH_take (i := 10) (oi := _) (v := ?_) rfl (by kernel_rfl) (by kernel_rfl) (by kernel_rfl) (fun _ _ _ h => h) (Or.inl ⟨by rfl, ?_⟩) (by assumption) ?_
      rotate_left
      · (first | (intro v hSw; (try dsimp only at hSw); go_simp; done) | (intro v hSw; (try dsimp only at hSw); go_simp; with_reducible rfl))
      (try simp only [List.getElem_toArray, List.getElem_cons_succ, List.getElem_cons_zero, Act.put, List.setIfInBounds_toArray, List.set_cons_zero, List.set_cons_succ])
      refine wpAnyH_take (i := 11) (oi := _) (v := ?_) rfl (by kernel_rfl) (by kernel_rfl) (by kernel_rfl) (fun _ _ _ h => h) (Or.inl ⟨by rfl, ?_⟩) (by assumption) ?_
      rotate_left
      · (first | (intro v hSw; (try dsimp only at hSw); go_simp; done) | (intro v hSw; (try dsimp only at hSw); go_simp; with_reducible rfl))
      (try simp only [List.getElem_toArray, List.getElem_cons_succ, List.getElem_cons_zero, Act.put, List.setIfInBounds_toArray, List.set_cons_zero, List.set_cons_succ])
      refine wpAnyH_take (i := 12) (oi := _) (v := ?_) rfl (by kernel_rfl) (by kernel_rfl) (by kernel_rfl) (fun _ _ _ h => h) (Or.inl ⟨by rfl, ?_⟩) (by assumption) ?_
      rotate_left
      · (first | (intro v hSw; (try dsimp only at hSw); go_simp; done) | (intro v hSw; (try dsimp only at hSw); go_simp; with_reducible rfl))
      (try simp only [List.getElem_toArray, List.getElem_cons_succ, List.getElem_cons_zero, Act.put, List.setIfInBounds_toArray, List.set_cons_zero, List.set_cons_succ])
      refine wpAnyH_take (i := 13) (oi := _) (v := undef) rfl (by kernel_rfl) (by kernel_rfl) (by kernel_rfl) (fun _ _ _ h => h) (Or.inr ⟨by rfl, rfl⟩) (by assumption) ?_
      (try simp only [List.getElem_toArray, List.getElem_cons_succ, List.getElem_cons_zero, Act.put, List.setIfInBounds_toArray, List.set_cons_zero, List.set_cons_succ])
      refine wpAnyH_take (i := 14) (oi := _) (v := undef) rfl (by kernel_rfl) (by kernel_rfl) (by kernel_rfl) (fun _ _ _ h => h) (Or.inr ⟨by rfl, rfl⟩) (by assumption) ?_
      (try simp only [List.getElem_toArray, List.getElem_cons_succ, List.getElem_cons_zero, Act.put, List.setIfInBounds_toArray, List.set_cons_zero, List.set_cons_succ])
      refine wpAnyH_take (i := 15) (oi := _) (v := undef) rfl (by kernel_rfl) (by kernel_rfl) (by kernel_rfl) (fun _ _ _ h => h) (Or.inr ⟨by rfl, rfl⟩) (by assumption) ?_
      (try simp only [List.getElem_toArray, List.getElem_cons_succ, List.getElem_cons_zero, Act.put, List.setIfInBounds_toArray, List.set_cons_zero, List.set_cons_succ])
      refine wpAnyH_take (i := 16) (oi := _) (v := undef) rfl (by kernel_rfl) (by kernel_rfl) (by kernel_rfl) (fun _ _ _ h => h) (Or.inr ⟨by rfl, rfl⟩) (by assumption) ?_
      (try simp only [List.getElem_toArray, List.getElem_cons_succ, List.getElem_cons_zero, Act.put, List.setIfInBounds_toArray, List.set_cons_zero, List.set_cons_succ])
      refine wpAnyH_take (i := 17) (oi := _) (v := ?_) rfl (by kernel_rfl) (by kernel_rfl) (by kernel_rfl) (fun _ _ _ h => h) (Or.inl ⟨by rfl, ?_⟩) (by assumption) ?_
      rotate_left
      · (first | (intro v hSw; (try dsimp only at hSw); go_simp; done) | (intro v hSw; (try dsimp only at hSw); go_simp; with_reducible rfl))
      (try simp only [List.getElem_toArray, List.getElem_cons_succ, List.getElem_cons_zero, Act.put, List.setIfInBounds_toArray, List.set_cons_zero, List.set_cons_succ])
      refine wpAnyH_done (by kernel_rfl) ?_ _
      refine NoPanic.normal ?_
      go_wp2_with fail
      go_ret
      exact ⟨rfl, G2.below⟩
/-- what is sent -/
def sendR (s : Hd) (p : Int × Int) (now : Int) : Rc := ⟨p.1, p.2, now, s.sent + 1, 1, 1, false⟩
theorem sendB_iff {s : Hd} {p : Int × Int} {now : Int} (h : sendB s p now = true) : lenI p ≠ 0 ∧ p.1 = s.nxt ∧ s.now ≤ now ∧ now ≤ 4611686018427387904 := by
  unfold sendB at h
  simp only [Bool.and_eq_true, decide_eq_true_eq] at h
  exact ⟨h.1.1.1, h.1.1.2, h.1.2, h.2⟩
theorem rok_of_len {p : Int × Int} (h : lenI p ≠ 0) : 0 ≤ p.1 ∧ p.1 < p.2 ∧ p.2 ≤ 4611686018427387904 := by
  unfold lenI fitP at h
  by_cases c : mayB p.1 p.2 = true
  · rw [if_pos c] at h
    have := mayB_iff.1 c
    exact ⟨this.1, by have := this.2.1; simp only at h; omega, this.2.2⟩
  · rw [if_neg c] at h; simp at h
theorem up_snoc {N : List Nd} {nxt : Int} {n : Nat} {r : Rc} (h : Up N nxt) (h1 : r.f = nxt) (h2 : r.f < r.t) : Up (N ++ [(n, r)]) r.t := by
  refine ⟨fun x hx => ?_, ?_⟩
  · rcases List.mem_append.1 hx with hx | hx
    · have := h.ok x hx; omega
    · simp at hx; subst hx; exact ⟨h2, Int.le_refl _⟩
  · refine List.pairwise_append.2 ⟨h.up, List.pairwise_singleton _ _, fun x hx y hy => ?_⟩
    simp at hy
    subst hy
    have := (h.ok x hx).2
    simp only
    omega
theorem put_last {N : List Nd} {nxt : Int} {n : Nat} {r : Rc} {t : cv.T} (h : Up N nxt) (ht : t.toL = kvN N) (h1 : r.f = nxt) : (cv.T.ins r.f (some ⟨n, 0, none⟩) t).toL = kvN (N ++ [(n, r)]) := by
  rw [cv.T.ins_toL _ _ _ (ht ▸ h.tree), ht]
  unfold cv.T.putL
  have hlo : ∀ x ∈ kvN N, x.1 < r.f := by
    intro x hx
    obtain ⟨y, hy, rfl⟩ := List.mem_map.1 hx
    have := h.ok y hy
    simp only
    omega
  rw [(cv.T.lo_all hlo).1, (cv.T.lo_all hlo).2]
  simp [kvN]
theorem kvN_len (N : List Nd) : (kvN N).length = N.length := by simp [kvN]
/-- the whole behind a sending -/
theorem send_end {w w4 w5 : World} {B T n : Nat} {s : Hd} {N L : List Nd} {sp : Int × Int} {now : Int} {t : cv.T} (h : Bk w B T s N L) (hs : sendB s sp now = true) (hn : w.heap.size ≤ n)
    (hln : Ln w4 B (s.goes now) T (L ++ [(n, sendR s sp now)])) (ht : t.toL = kvN N) (htr : cv.TrAt w5 T (cv.T.ins sp.1 (some ⟨n, 0, none⟩) t)) (hk : Kept [T] w4 w5) :
    Bk (w5.setCell ⟨B, 0, none⟩ (.int .i64 sp.2)) B T ⟨sp.2, s.sent + 1, now⟩ (N ++ [(n, sendR s sp now)]) (L ++ [(n, sendR s sp now)]) := by
  obtain ⟨s1, s2, s3, s4⟩ := sendB_iff hs
  obtain ⟨p0, p1, p2⟩ := rok_of_len s1
  have hTlt := h.lt T (by simp [fp])
  have htl : ∀ x ∈ L ++ [(n, sendR s sp now)], x.1 ≠ T := fun x hx => by
    rcases List.mem_append.1 hx with hx | hx
    · exact h.tl x hx
    · simp at hx; subst hx; simp only; omega
  have l5 := hln.kept hk (by simpa using h.tb.symm) (fun x hx => by simpa using htl x hx)
  have kB := kset w5 B 0 (.int .i64 sp.2)
  refine ⟨⟨(setp l5.bk _).trans rfl, seg_kept kB (fun x hx => by simpa using l5.nB x hx) l5.sg, l5.nd, l5.nB⟩, ⟨_, tr_kept htr kB (by simpa using h.tb) (fun k hk _ cs e => ?_), put_last (r := sendR s sp now) h.up ht s2⟩, h.tb, htl, h.perm.append (List.Perm.refl _), up_snoc h.up s2 p1, ⟨by simp only; omega, p2⟩⟩
  simp at hk
  subst hk
  rw [show w5.heap[k]? = _ from l5.bk] at e
  simp at e
set_option maxRecDepth 100000 in
set_option maxHeartbeats 4000000 in
theorem send_good {w : World} {B T : Nat} {s : Hd} {N L : List Nd} (h : Bk w B T s N L) (sp : Int × Int) (now : Int) (hb : sendB s sp now = true) (hz : N.length ≤ 900000) (h0 : 0 ≤ s.sent ∧ s.sent ≤ 4611686018427387904) :
    Calls Tryz.prog 28 #[.pointer (some ⟨B, 0, none⟩), spV sp, .int .i64 now] w fun e w' => ∃ n, e = .returned (.int .i64 0) ∧ Bk w' B T ⟨sp.2, s.sent + 1, now⟩ (N ++ [(n, sendR s sp now)]) (L ++ [(n, sendR s sp now)]) ∧ Kept (fp B T L) w w' ∧ w.heap.size ≤ n := by
  have HL := Lib.hid (len_any sp)
  have HS := Lib.hid (sb_new h.ln.bk sp)
  obtain ⟨s1, s2, s3, s4⟩ := sendB_iff hb
  have h1b : (lenI sp == 0) = false := by simpa using s1
  have h2b : (sp.1 != s.nxt) = false := by simp [s2]
  have H3 := Lib.hid (show (decide (s.now ≤ now) && decide (now ≤ 4611686018427387904)) = true from by simp [s3, s4])
  have HH := Lib.hid h
  have HBB := Lib.hid hb
  obtain ⟨t, ht, htL⟩ := h.tr
  have HT := Lib.hid ht
  have HTL := Lib.hid htL
  have htz : t.size ≤ 900000 := by rw [← cv.T.size_toL, htL, kvN_len]; exact hz
  generalize lenI sp = n at *
  clear hb s1 s2 s3 s4 ht htL h
  go_enter Tryz.func28, Tryz.ntmps28
  go_wp2_with fail
  have G1 := HS.out
  clear HS
  refine wp_region_noPanic ?_
  refine wp_region_held_drew (S := (fun w' => w'.cell? ⟨w.heap.size, 0, none⟩ = some (.int .i64 sp.1) ∧ w'.cell? ⟨w.heap.size, 1, none⟩ = some (.int .i64 sp.2) ∧ w'.cell? ⟨B, 0, none⟩ = some (.int .i64 s.nxt))) (by kernel_rfl) ?_ (fun hHeld => ?_)
  · ((try dsimp only); first | with_reducible exact G1.all | with_reducible exact G1.drew.all)
  refine wpAnyH_take (i := 0) (oi := _) (v := ?_) rfl (by kernel_rfl) (by kernel_rfl) (by kernel_rfl) (fun _ _ _ h => h) (Or.inl ⟨by rfl, ?_⟩) (by assumption) ?_
  rotate_left
  · (first | (intro v hSw; (try dsimp only at hSw); go_simp; done) | (intro v hSw; (try dsimp only at hSw); go_simp; with_reducible rfl))
  (try simp only [List.getElem_toArray, List.getElem_cons_succ, List.getElem_cons_zero, Act.put, List.setIfInBounds_toArray, List.set_cons_zero, List.set_cons_succ])
  refine wpAnyH_ready (rs := [1]) (by kernel_rfl) (by simp) ?_
  refine AllReadyH.cons (o := _) rfl (fun K hK => ?_) AllReadyH.nil
  go_simp
  go_at_call 58
  (with_reducible refine (HL.out _).mono ?_)
  rintro x w2 ⟨rfl, hb2⟩
  have G2 := G1.drew.later hb2
  clear G1
  refine hK.out _ _ ?_ (fun hHeld => ?_)
  · ((try dsimp only); first | with_reducible exact G1.all | with_reducible exact G1.drew.all | with_reducible exact G2.all | go_keep)
  clear hK K
  (try simp only [List.getElem_toArray, List.getElem_cons_succ, List.getElem_cons_zero, Act.put, List.setIfInBounds_toArray, List.set_cons_zero, List.set_cons_succ])
  refine wpAnyH_take (i := 2) (oi := _) (v := ?_) rfl (by kernel_rfl) (by kernel_rfl) (by kernel_rfl) (fun _ _ _ h => h) (Or.inl ⟨by rfl, ?_⟩) (by assumption) ?_
  rotate_left
  · (first | (intro v hSw; (try dsimp only at hSw); go_simp; done) | (intro v hSw; (try dsimp only at hSw); go_simp; with_reducible rfl))
  (try simp only [List.getElem_toArray, List.getElem_cons_succ, List.getElem_cons_zero, Act.put, List.setIfInBounds_toArray, List.set_cons_zero, List.set_cons_succ])
  refine wpAnyH_take (i := 3) (oi := _) (v := ?_) rfl (by kernel_rfl) (by kernel_rfl) (by kernel_rfl) (fun _ _ _ h => h) (Or.inl ⟨by rfl, ?_⟩) (by assumption) ?_
  rotate_left
  · (first | (intro v hSw; (try dsimp only at hSw); go_simp; done) | (intro v hSw; (try dsimp only at hSw); go_simp; with_reducible rfl))
  (try simp only [List.getElem_toArray, List.getElem_cons_succ, List.getElem_cons_zero, Act.put, List.setIfInBounds_toArray, List.set_cons_zero, List.set_cons_succ])
  refine wpAnyH_take (i := 4) (oi := _) (v := ?_) rfl (by kernel_rfl) (by kernel_rfl) (by kernel_rfl) (fun _ _ _ h => h) (Or.inl ⟨by rfl, ?_⟩) (by assumption) ?_
  rotate_left
  · (first | (intro v hSw; (try dsimp only at hSw); go_simp; done) | (intro v hSw; (try dsimp only at hSw); go_simp; with_reducible rfl))
  (try simp only [List.getElem_toArray, List.getElem_cons_succ, List.getElem_cons_zero, Act.put, List.setIfInBounds_toArray, List.set_cons_zero, List.set_cons_succ])
  refine wpAnyH_take (i := 5) (oi := _) (v := ?_) rfl (by kernel_rfl) (by kernel_rfl) (by kernel_rfl) (fun _ _ _ h => h) (Or.inl ⟨by rfl, ?_⟩) (by assumption) ?_
  rotate_left
  · (first | (intro v hSw; (try dsimp only at hSw); go_simp; done) | (intro v hSw; (try dsimp only at hSw); go_simp; with_reducible rfl))
  (try simp only [List.getElem_toArray, List.getElem_cons_succ, List.getElem_cons_zero, Act.put, List.setIfInBounds_toArray, List.set_cons_zero, List.set_cons_succ])
  refine wpAnyH_take (i := 6) (oi := _) (v := ?_) rfl (by kernel_rfl) (by kernel_rfl) (by kernel_rfl) (fun _ _ _ h => h) (Or.inl ⟨by rfl, ?_⟩) (by assumption) ?_
  rotate_left
  · (first | (intro v hSw; (try dsimp only at hSw); go_simp; done) | (intro v hSw; (try dsimp only at hSw); go_simp; with_reducible rfl))
  (try simp only [List.getElem_toArray, List.getElem_cons_succ, List.getElem_cons_zero, Act.put, List.setIfInBounds_toArray, List.set_cons_zero, List.set_cons_succ])
  refine wpAnyH_take (i := 7) (oi := _) (v := ?_) rfl (by kernel_rfl) (by kernel_rfl) (by kernel_rfl) (fun _ _ _ h => h) (Or.inl ⟨by rfl, ?_⟩) (by assumption) ?_
  rotate_left
  · (first | (intro v hSw; (try dsimp only at hSw); go_simp; done) | (intro v hSw; (try dsimp only at hSw); go_simp; with_reducible rfl))
  (try simp only [List.getElem_toArray, List.getElem_cons_succ, List.getElem_cons_zero, Act.put, List.setIfInBounds_toArray, List.set_cons_zero, List.set_cons_succ])
  refine wpAnyH_take (i := 8) (oi := _) (v := ?_) rfl (by kernel_rfl) (by kernel_rfl) (by kernel_rfl) (fun _ _ _ h => h) (Or.inl ⟨by rfl, ?_⟩) (by assumption) ?_
  rotate_left
  · (first | (intro v hSw; (try dsimp only at hSw); go_simp; done) | (intro v hSw; (try dsimp only at hSw); go_simp; with_reducible rfl))
  (try simp only [List.getElem_toArray, List.getElem_cons_succ, List.getElem_cons_zero, Act.put, List.setIfInBounds_toArray, List.set_cons_zero, List.set_cons_succ])
  refine wpAnyH_take (i := 9) (oi := _) (v := ?_) rfl (by kernel_rfl) (by kernel_rfl) (by kernel_rfl) (fun _ _ _ h => h) (Or.inl ⟨by rfl, ?_⟩) (by assumption) ?_
  rotate_left
  · (first | (intro v hSw; (try dsimp only at hSw); go_simp; done) | (intro v hSw; (try dsimp only at hSw); go_simp; with_reducible rfl))
  (try simp only [List.getElem_toArray, List.getElem_cons_succ, List.getElem_cons_zero, Act.put, List.setIfInBounds_toArray, List.set_cons_zero, List.set_cons_succ])
  refine wpAnyH_take (i := 10) (oi := _) (v := ?_) rfl (by kernel_rfl) (by kernel_rfl) (by kernel_rfl) (fun _ _ _ h => h) (Or.inl ⟨by rfl, ?_⟩) (by assumption) ?_
  rotate_left
  · (first | (intro v hSw; (try dsimp only at hSw); go_simp; done) | (intro v hSw; (try dsimp only at hSw); go_simp; with_reducible rfl))
  (try simp only [List.getElem_toArray, List.getElem_cons_succ, List.getElem_cons_zero, Act.put, List.setIfInBounds_toArray, List.set_cons_zero, List.set_cons_succ])
  refine wpAnyH_take (i := 11) (oi := _) (v := ?_) rfl (by kernel_rfl) (by kernel_rfl) (by kernel_rfl) (fun _ _ _ h => h) (Or.inl ⟨by rfl, ?_⟩) (by assumption) ?_
  rotate_left
  · (first | (intro v hSw; (try dsimp only at hSw); go_simp; done) | (intro v hSw; (try dsimp only at hSw); go_simp; with_reducible rfl))
  (try simp only [List.getElem_toArray, List.getElem_cons_succ, List.getElem_cons_zero, Act.put, List.setIfInBounds_toArray, List.set_cons_zero, List.set_cons_succ])
  refine wpAnyH_take (i := 12) (oi := _) (v := ?_) rfl (by kernel_rfl) (by kernel_rfl) (by kernel_rfl) (fun _ _ _ h => h) (Or.inl ⟨by rfl, ?_⟩) (by assumption) ?_
  rotate_left
  · (first | (intro v hSw; (try dsimp only at hSw); go_simp; done) | (intro v hSw; (try dsimp only at hSw); go_simp; with_reducible rfl))
  (try simp only [List.getElem_toArray, List.getElem_cons_succ, List.getElem_cons_zero, Act.put, List.setIfInBounds_toArray, List.set_cons_zero, List.set_cons_succ])
  refine wpAnyH_take (i := 13) (oi := _) (v := ?_) rfl (by kernel_rfl) (by kernel_rfl) (by kernel_rfl) (fun _ _ _ h => h) (Or.inl ⟨by rfl, ?_⟩) (by assumption) ?_
  rotate_left
  · (first | (intro v hSw; (try dsimp only at hSw); go_simp; done) | (intro v hSw; (try dsimp only at hSw); go_simp; with_reducible rfl))
  (try simp only [List.getElem_toArray, List.getElem_cons_succ, List.getElem_cons_zero, Act.put, List.setIfInBounds_toArray, List.set_cons_zero, List.set_cons_succ])
  refine wpAnyH_take (i := 14) (oi := _) (v := ?_) rfl (by kernel_rfl) (by kernel_rfl) (by kernel_rfl) (fun _ _ _ h => h) (Or.inl ⟨by rfl, ?_⟩) (by assumption) ?_
  rotate_left
  · (first | (intro v hSw; (try dsimp only at hSw); go_simp; done) | (intro v hSw; (try dsimp only at hSw); go_simp; with_reducible rfl))
  (try simp only [List.getElem_toArray, List.getElem_cons_succ, List.getElem_cons_zero, Act.put, List.setIfInBounds_toArray, List.set_cons_zero, List.set_cons_succ])
  refine wpAnyH_ready (rs := [15]) (by kernel_rfl) (by simp) ?_
  refine AllReadyH.cons (o := _) rfl (fun K hK => ?_) AllReadyH.nil
  go_simp
  go_at_call 68
  (with_reducible refine (may_eq G2.bk now).mono ?_)
  rintro x w3 ⟨rfl, rfl⟩
  rw [H3.out]
  refine hK.out _ _ ?_ (fun hHeld => ?_)
  · ((try dsimp only); first | with_reducible exact G1.all | with_reducible exact G1.drew.all | with_reducible exact G2.all | go_keep)
  clear hK K
  (try simp only [List.getElem_toArray, List.getElem_cons_succ, List.getElem_cons_zero, Act.put, List.setIfInBounds_toArray, List.set_cons_zero, List.set_cons_succ])
  refine wpAnyH_take (i := 16) (oi := _) (v := ?_) rfl (by kernel_rfl) (by kernel_rfl) (by kernel_rfl) (fun _ _ _ h => h) (Or.inl ⟨by rfl, ?_⟩) (by assumption) ?_
  rotate_left
  · (first | (intro v hSw; (try dsimp only at hSw); go_simp; done) | (intro v hSw; (try dsimp only at hSw); go_simp; with_reducible rfl))
  (try simp only [List.getElem_toArray, List.getElem_cons_succ, List.getElem_cons_zero, Act.put, List.setIfInBounds_toArray, List.set_cons_zero, List.set_cons_succ])
  refine wpAnyH_take (i := 17) (oi := _) (v := ?_) rfl (by kernel_rfl) (by kernel_rfl) (by kernel_rfl) (fun _ _ _ h => h) (Or.inl ⟨by rfl, ?_⟩) (by assumption) ?_
  rotate_left
  · (first | (intro v hSw; (try dsimp only at hSw); go_simp; done) | (intro v hSw; (try dsimp only at hSw); go_simp; with_reducible rfl))
  (try simp only [List.getElem_toArray, List.getElem_cons_succ, List.getElem_cons_zero, Act.put, List.setIfInBounds_toArray, List.set_cons_zero, List.set_cons_succ])
  refine wpAnyH_done (by kernel_rfl) ?_ _
  refine NoPanic.normal ?_
  have y := G2.all
  obtain ⟨y0, y1, y2⟩ := y
  have HG2 := Lib.hid G2
  clear G2
  go_wp2_with fail
  have hG2 := HG2.out
  have hz2 := hG2.below.size
  have l2 := (HH.out.ln.later hG2.below).later (al w2 (ndO ⟨sp.1, sp.2, 0, 0, 0, 0, false⟩ none none))
  have hnlt : ∀ x ∈ L, x.1 ≠ w2.heap.size := fun x hx => by have := HH.out.ln.lt hx; omega
  have hBlt := HH.out.ln.bk.lt
  have hnB : w2.heap.size ≠ B := by omega
  refine (bgoes_any (r := ⟨sp.1, sp.2, 0, 0, 0, 0, false⟩) (a := none) l2 (heap_alloc_new w2 _) hnB hnlt now ⟨by omega, by omega⟩ ⟨by simp, by simp⟩ ⟨by simp, by simp⟩).mono ?_
  rintro x w4 ⟨⟨v, rfl⟩, l4, k4⟩
  have hXS : w.heap.size ∉ B :: w2.heap.size :: Nb (la none L) := by
    have hX := hG2.x.lt
    simp only [List.mem_cons, not_or]
    refine ⟨by omega, by omega, fun e => ?_⟩
    cases hl : la none L with
    | none => rw [hl] at e; simp [Nb] at e
    | some b =>
      rw [hl] at e
      simp [Nb] at e
      obtain ⟨l', r', rfl⟩ := la_mem hl
      have := HH.out.ln.lt (x := (b, r')) (by simp)
      simp only at this
      omega
  have x4 := (hG2.x.later (al w2 (ndO ⟨sp.1, sp.2, 0, 0, 0, 0, false⟩ none none))).keep k4 hXS
  have t4 := tr_kept ((HT.out.later hG2.below).later (al w2 (ndO ⟨sp.1, sp.2, 0, 0, 0, 0, false⟩ none none))) k4 (by
    have hTl := HT.out.lt
    have hTB := HH.out.tb
    simp only [List.mem_cons, not_or]
    refine ⟨hTB, by omega, fun e => ?_⟩
    cases hl : la none L with
    | none => rw [hl] at e; simp [Nb] at e
    | some b =>
      rw [hl] at e
      simp [Nb] at e
      subst e
      obtain ⟨l', r', rfl⟩ := la_mem hl
      exact HH.out.tl (T, r') (by simp) rfl) (fun k hk _ cs e => by
    simp only [List.mem_cons] at hk
    rcases hk with rfl | rfl | hk
    · rw [show _ = _ from l2.bk] at e; simp at e
    · rw [heap_alloc_new w2 _] at e; simp at e
    · cases hl : la none L with
      | none => rw [hl] at hk; simp [Nb] at hk
      | some b =>
        rw [hl] at hk
        simp [Nb] at hk
        subst hk
        obtain ⟨l', r', rfl⟩ := la_mem hl
        obtain ⟨p, q, hn⟩ := seg_mem l2.sg (x := (k, r')) (by simp)
        rw [show _ = _ from hn] at e; simp at e)
  have k04 : Kept (fp B T L) w w4 := by
    have a := Kept.of_below (hG2.below.trans ((al w2 (ndO ⟨sp.1, sp.2, 0, 0, 0, 0, false⟩ none none)).mono hz2)) (Nat.le_refl _) (fp B T L)
    refine a.trans k4 (fun x hx => ?_)
    simp only [List.mem_cons] at hx
    rcases hx with rfl | rfl | hx
    · left; simp [fp]
    · right; exact hz2
    · left
      cases hl : la none L with
      | none => rw [hl] at hx; simp [Nb] at hx
      | some b =>
        rw [hl] at hx
        simp [Nb] at hx
        subst hx
        obtain ⟨l', r', rfl⟩ := la_mem hl
        simp [fp]
  have HL4 := Lib.hid l4
  have HT4 := Lib.hid t4
  have HK4 := Lib.hid k04
  have HX4 := Lib.hid x4
  have HTB := Lib.hid (And.intro HH.out.tb (show w.heap.size ≠ T from by have := HH.out.lt T (by simp [fp]); omega))
  have hXB : B ≠ w.heap.size := by omega
  obtain ⟨n, hnn⟩ : ∃ n, w2.heap.size = n := ⟨_, rfl⟩
  have HNN := Lib.hid (show w.heap.size ≤ n from by omega)
  have z3 := l4.bk.cs.2.2.2.1
  have z0 := x4.c0
  rw [hnn] at HL4 ⊢
  clear hnn l2 hnlt hBlt hnB l4 k4 hXS x4 t4 k04 hG2 HG2 hz2 y0 y1 y2
  go_wp2_with fail
  have z := And.intro (show w4.drew.cell? ⟨B, 3, none⟩ = _ from z3) (show w4.drew.cell? ⟨w.heap.size, 0, none⟩ = _ from z0)
  go_region_held3 (fun w' => w'.cell? ⟨B, 3, none⟩ = some (.pointer (some ⟨T, 0, none⟩)) ∧ w'.cell? ⟨w.heap.size, 0, none⟩ = some (.int .i64 sp.1)) (first | exact z | exact zz | go_keep)
    ((go_at_call 51; (with_reducible refine (cv.put_any sp.1 (some ⟨n, 0, none⟩) (HT4.out.later (Below.refl _ _).drew) htz).mono ?_); rintro x w5 ⟨rfl, t5, k5⟩; have x5 := (HX4.out.later (Below.refl _ _).drew).keep k5 (by simpa using HTB.out.2); have l5 := HL4.out.drew.kept k5 (by simpa using HTB.out.1.symm) (fun y hy => by
      rcases List.mem_append.1 hy with hy | hy
      · simpa using HH.out.tl y hy
      · simp at hy; subst hy
        have := HH.out.lt T (by simp [fp])
        have := HNN.out
        simp; omega); have zz := And.intro l5.bk.cs.2.2.2.1 x5.c0; have y1 := x5.c1; obtain ⟨b0, b1, b2, b3, b4, b5⟩ := l5.bk.cs; have g0 := l5.bk.f 0))
  have HF := Lib.hid (send_end HH.out HBB.out HNN.out HL4.out.drew HTL.out t5 k5)
  have HKK : Hid (Kept (fp B T L) w (w5.setCell ⟨B, 0, none⟩ (.int .i64 sp.2))) := Lib.hid (((HK4.out.drew).trans k5 (fun x hx => .inl (by simp at hx; subst hx; simp [fp]))).trans (kset w5 B 0 _) (fun x hx => .inl (by simp at hx; subst hx; simp [fp])))
  clear t5 k5 x5 l5 zz z z3 z0
  go_wp2_with fail
  go_ret
  exact ⟨n, rfl, HF.out, HKK.out, HNN.out⟩
end Go.Proofs.YtohpaoleomcimaaGreat.bk
/-!   Package book: Again, Lose.
-/
namespace Go.Proofs.YtohpaoleomcimaaGreat.bk
open Go.RowKit aid mem sp
attribute [local go_sem ↓] Go.wp_at_zero Go.wp_at_succ
set_option linter.unusedVariables false
set_option linter.unusedSimpArgs false

theorem perm_mid {P Q N1 N2 : List Nd} {x y : Nd} (h : (P ++ x :: Q).Perm (N1 ++ x :: N2)) : (P ++ Q).Perm (N1 ++ N2) ∧ (P ++ y :: Q).Perm (N1 ++ y :: N2) ∧ ((P ++ Q) ++ [y]).Perm (N1 ++ y :: N2) := by
  have h1 : (x :: (P ++ Q)).Perm (x :: (N1 ++ N2)) := (List.perm_middle.symm.trans h).trans List.perm_middle
  have h2 := h1.cons_inv
  have h3 : (y :: (P ++ Q)).Perm (N1 ++ y :: N2) := (h2.cons y).trans List.perm_middle.symm
  exact ⟨h2, List.perm_middle.trans h3, (List.perm_append_comm (l₁ := P ++ Q) (l₂ := [y])).trans h3⟩
theorem up_mid {N1 N2 : List Nd} {n : Nat} {r r' : Rc} {nxt : Int} (h : Up (N1 ++ (n, r) :: N2) nxt) (hf : r'.f = r.f) (ht : r'.t = r.t) : Up (N1 ++ (n, r') :: N2) nxt := by
  have e : ∀ x ∈ N1 ++ (n, r') :: N2, ∃ y ∈ N1 ++ (n, r) :: N2, x.2.f = y.2.f ∧ x.2.t = y.2.t := fun x hx => by
    rcases List.mem_append.1 hx with hx | hx
    · exact ⟨x, by simp [hx], rfl, rfl⟩
    · rcases List.mem_cons.1 hx with rfl | hx
      · exact ⟨(n, r), by simp, hf, ht⟩
      · exact ⟨x, by simp [hx], rfl, rfl⟩
  refine ⟨fun x hx => ?_, ?_⟩
  · obtain ⟨y, hy, e1, e2⟩ := e x hx
    rw [e1, e2]; exact h.ok y hy
  · obtain ⟨h1, h2, h3⟩ := List.pairwise_append.1 h.up
    obtain ⟨h4, h5⟩ := List.pairwise_cons.1 h2
    refine List.pairwise_append.2 ⟨h1, List.pairwise_cons.2 ⟨fun y hy => by have := h4 y hy; simp only at this ⊢; omega, h5⟩, fun x hx y hy => ?_⟩
    rcases List.mem_cons.1 hy with rfl | hy
    · have := h3 x hx (n, r) (by simp); simp only at this ⊢; omega
    · exact h3 x hx y (List.mem_cons_of_mem _ hy)
theorem kv_mid {N1 N2 : List Nd} {n : Nat} {r r' : Rc} (hf : r'.f = r.f) : kvN (N1 ++ (n, r') :: N2) = kvN (N1 ++ (n, r) :: N2) := by simp [kvN, hf]
/-- where a From is found -/
theorem get_mid {N1 N2 : List Nd} {n : Nat} {r : Rc} {nxt : Int} (h : Up (N1 ++ (n, r) :: N2) nxt) : cv.getL (kvN (N1 ++ (n, r) :: N2)) r.f = some (some ⟨n, 0, none⟩) := by
  unfold cv.getL
  have hn : ∀ x ∈ kvN N1, x.1 ≠ r.f := fun x hx => by
    obtain ⟨y, hy, rfl⟩ := List.mem_map.1 hx
    have h1 := (List.pairwise_append.1 h.up).2.2 y hy (n, r) (by simp)
    have h2 := (h.ok y (by simp [hy])).1
    simp only at h1 ⊢
    omega
  rw [show kvN (N1 ++ (n, r) :: N2) = kvN N1 ++ (r.f, some ⟨n, 0, none⟩) :: kvN N2 from by simp [kvN]]
  rw [List.find?_append, cv.find_none hn, List.find?_cons]
  simp
theorem get_no {N : List Nd} {k : Int} (h : ∀ x ∈ N, x.2.f ≠ k) : cv.getL (kvN N) k = none := by
  unfold cv.getL
  rw [cv.find_none (fun x hx => by obtain ⟨y, hy, rfl⟩ := List.mem_map.1 hx; exact h y hy)]
  rfl
theorem nb_fp {B T : Nat} {L P Q : List Nd} {n : Nat} {r : Rc} (hL : L = P ++ (n, r) :: Q) : ∀ x ∈ B :: n :: (Nb (la none P) ++ Nb (hd none Q)), x ∈ fp B T L := by
  intro x hx
  subst hL
  simp only [List.mem_cons, List.mem_append] at hx
  rcases hx with rfl | rfl | hx | hx
  · simp [fp]
  · simp [fp]
  · cases hl : la none P with
    | none => rw [hl] at hx; simp [Nb] at hx
    | some b =>
      rw [hl] at hx
      simp [Nb] at hx
      subst hx
      obtain ⟨l', r', rfl⟩ := la_mem hl
      simp [fp]
  · cases Q with
    | nil => simp [hd, Nb] at hx
    | cons q Q =>
      simp [hd, Nb] at hx
      subst hx
      simp [fp]
theorem nb_T {w : World} {B T : Nat} {s : Hd} {N L P Q : List Nd} {n : Nat} {r : Rc} (h : Bk w B T s N L) (hL : L = P ++ (n, r) :: Q) : T ∉ B :: n :: (Nb (la none P) ++ Nb (hd none Q)) := by
  intro hx
  have htl := h.tl
  subst hL
  simp only [List.mem_cons, List.mem_append] at hx
  rcases hx with e | e | hx | hx
  · exact h.tb e
  · exact htl (n, r) (by simp) e.symm
  · cases hl : la none P with
    | none => rw [hl] at hx; simp [Nb] at hx
    | some b =>
      rw [hl] at hx
      simp [Nb] at hx
      subst hx
      obtain ⟨l', r', rfl⟩ := la_mem hl
      exact htl (T, r') (by simp) rfl
  · cases Q with
    | nil => simp [hd, Nb] at hx
    | cons q Q =>
      simp [hd, Nb] at hx
      exact htl q (by simp) hx.symm
/-- a record is changed where it lies -/
theorem Bk.lost {w w' : World} {B T : Nat} {s : Hd} {N1 N2 P Q : List Nd} {n : Nat} {r r' : Rc} (h : Bk w B T s (N1 ++ (n, r) :: N2) (P ++ (n, r) :: Q)) (hf : r'.f = r.f) (ht : r'.t = r.t) (hk : Kept [n] w w') (hn : NdAt w' n r' (la none P) (hd none Q)) :
    Bk w' B T s (N1 ++ (n, r') :: N2) (P ++ (n, r') :: Q) := by
  obtain ⟨d1, d2, d3, d4⟩ := nodup_mid h.ln.nd
  have hnB := h.ln.nB (n, r) (by simp)
  have hnT := h.tl (n, r) (by simp)
  obtain ⟨t, h2, h3⟩ := h.tr
  have e : ∀ x ∈ P ++ (n, r') :: Q, ∃ y ∈ P ++ (n, r) :: Q, x.1 = y.1 := fun x hx => by
    rcases List.mem_append.1 hx with hx | hx
    · exact ⟨x, by simp [hx], rfl⟩
    · rcases List.mem_cons.1 hx with rfl | hx
      · exact ⟨(n, r), by simp, rfl⟩
      · exact ⟨x, by simp [hx], rfl⟩
  obtain ⟨s1, s2, s3⟩ := seg_append.1 h.ln.sg
  refine ⟨⟨?_, seg_append.2 ⟨seg_kept hk (fun x hx => by simpa using d2 x hx) s1, hn, seg_kept hk (fun x hx => by simpa using d3 x hx) s3⟩, ?_, fun x hx => by obtain ⟨y, hy, e⟩ := e x hx; rw [e]; exact h.ln.nB y hy⟩, ⟨t, tr_kept h2 hk (by simpa using hnT.symm) (fun k hk' _ cs he => ?_), by rw [h3]; exact (kv_mid hf).symm⟩, h.tb, fun x hx => by obtain ⟨y, hy, e⟩ := e x hx; rw [e]; exact h.tl y hy, (perm_mid h.perm).2.1, up_mid h.up hf ht, h.n0⟩
  · have b := h.ln.bk.keep hk (by simpa using hnB.symm)
    have e1 : hd none (P ++ (n, r') :: Q) = hd none (P ++ (n, r) :: Q) := by rw [hd_append, hd_append]; rfl
    have e2 : la none (P ++ (n, r') :: Q) = la none (P ++ (n, r) :: Q) := by rw [la_append, la_append]; rfl
    rw [e1, e2]; exact b
  · have := h.ln.nd; simpa using this
  · simp at hk'
    subst hk'
    have hnn : NdAt w k r _ _ := s2
    rw [show w.heap[k]? = _ from hnn] at he
    simp at he
set_option maxHeartbeats 1000000 in
theorem blose_no {w : World} {B T : Nat} {s : Hd} {N L : List Nd} (h : Bk w B T s N L) (k : Int) (hk : ∀ x ∈ N, x.2.f ≠ k) :
    Calls Tryz.prog 29 #[.pointer (some ⟨B, 0, none⟩), .int .i64 k] w fun e w' => e = .returned (.int .i64 10) ∧ Below w.heap.size w w' := by
  obtain ⟨c0, c1, c2, c3, c4, c5⟩ := h.ln.bk.cs
  obtain ⟨t, ht, htL⟩ := h.tr
  have HG := Lib.hid (cv.get_any ht.o k (by rw [htL]; exact h.up.tree))
  rw [htL, get_no hk] at HG
  clear ht htL h hk
  go_enter Tryz.func29, Tryz.ntmps29
  go_wp2_with (go_at_call 69; (with_reducible refine HG.out.mono ?_); rintro e w1 ⟨rfl, hb⟩; unfold cv.tup2)
  go_ret
  exact ⟨rfl, hb⟩
set_option maxHeartbeats 1000000 in
theorem blose_yes {w : World} {B T : Nat} {s : Hd} {N1 N2 P Q : List Nd} {n : Nat} {r : Rc} (h : Bk w B T s (N1 ++ (n, r) :: N2) (P ++ (n, r) :: Q)) :
    Calls Tryz.prog 29 #[.pointer (some ⟨B, 0, none⟩), .int .i64 r.f] w fun e w' => e = .returned (.int .i64 (if r.lost then 13 else 0)) ∧ Bk w' B T s (N1 ++ (n, r.lose) :: N2) (P ++ (n, r.lose) :: Q) ∧ Kept (fp B T (P ++ (n, r) :: Q)) w w' := by
  obtain ⟨c0, c1, c2, c3, c4, c5⟩ := h.ln.bk.cs
  obtain ⟨t, ht, htL⟩ := h.tr
  have HG := Lib.hid (cv.get_any ht.o r.f (by rw [htL]; exact h.up.tree))
  rw [htL, get_mid h.up] at HG
  have H := Lib.hid h
  clear ht htL h
  cases hlo : r.lost with
  | true =>
    have HLO := Lib.hid hlo
    clear hlo
    go_enter Tryz.func29, Tryz.ntmps29
    go_wp2_with (first
      | (go_at_call 69; (with_reducible refine HG.out.mono ?_); rintro e w1 ⟨rfl, hb⟩; unfold cv.tup2; have hn := (seg_append.1 (H.out.later hb).ln.sg).2.1)
      | (go_at_call 74; (with_reducible refine (lose_any hn).mono ?_); rintro e w2 ⟨rfl, n2, k2⟩; rw [HLO.out]))
    go_ret
    exact ⟨rfl, (H.out.later hb).lost rfl rfl k2 n2, (Kept.of_below hb (Nat.le_refl _) _).trans k2 (fun x hx => .inl (by simp at hx; subst hx; simp [fp]))⟩
  | false =>
    have HLO := Lib.hid hlo
    clear hlo
    go_enter Tryz.func29, Tryz.ntmps29
    go_wp2_with (first
      | (go_at_call 69; (with_reducible refine HG.out.mono ?_); rintro e w1 ⟨rfl, hb⟩; unfold cv.tup2; have hn := (seg_append.1 (H.out.later hb).ln.sg).2.1)
      | (go_at_call 74; (with_reducible refine (lose_any hn).mono ?_); rintro e w2 ⟨rfl, n2, k2⟩; rw [HLO.out]))
    go_ret
    exact ⟨rfl, (H.out.later hb).lost rfl rfl k2 n2, (Kept.of_below hb (Nat.le_refl _) _).trans k2 (fun x hx => .inl (by simp at hx; subst hx; simp [fp]))⟩
/-- a write to some other block changes nothing of the book -/
theorem Bk.other {w w' : World} {B T X : Nat} {s : Hd} {N L : List Nd} (h : Bk w B T s N L) (hk : Kept [X] w w') (hX : X ∉ fp B T L) (ht : ∀ cs, w.heap[X]? ≠ some (.cells cs 158 (0, 0))) : Bk w' B T s N L := by
  obtain ⟨t, h2, h3⟩ := h.tr
  simp only [fp, List.mem_cons, List.mem_map, not_or] at hX
  obtain ⟨x1, x2, x3⟩ := hX
  exact ⟨h.ln.kept hk (by simpa using fun e => x1 e.symm) (fun x hx => by simp; exact fun e => x3 ⟨x, hx, e⟩), ⟨t, tr_kept h2 hk (by simpa using fun e => x2 e.symm) (fun k hk' _ cs e => by simp at hk'; subst hk'; exact ht cs e), h3⟩, h.tb, h.tl, h.perm, h.up, h.n0⟩
theorem kp7 (w : World) (X : Nat) (a b c d e f g : Value) : Kept [X] w (((((((w.setCell ⟨X, 0, none⟩ a).setCell ⟨X, 1, none⟩ b).setCell ⟨X, 2, none⟩ c).setCell ⟨X, 3, none⟩ d).setCell ⟨X, 4, none⟩ e).setCell ⟨X, 5, none⟩ f).setCell ⟨X, 6, none⟩ g) :=
  (((((((Kept.refl [X] w).setCell (.inl (by simp)) a).setCell (.inl (by simp)) b).setCell (.inl (by simp)) c).setCell (.inl (by simp)) d).setCell (.inl (by simp)) e).setCell (.inl (by simp)) f).setCell (.inl (by simp)) g
theorem put7 {w : World} {X : Nat} {u0 u1 u2 u3 u4 u5 u6 : Value} {T : TypeId} (h : w.heap[X]? = some (.cells #[u0, u1, u2, u3, u4, u5, u6] T (0, 0))) (a b c d e f g : Value) :
    (((((((w.setCell ⟨X, 0, none⟩ a).setCell ⟨X, 1, none⟩ b).setCell ⟨X, 2, none⟩ c).setCell ⟨X, 3, none⟩ d).setCell ⟨X, 4, none⟩ e).setCell ⟨X, 5, none⟩ f).setCell ⟨X, 6, none⟩ g).heap[X]? = some (.cells #[a, b, c, d, e, f, g] T (0, 0)) :=
  by
  have h1 := (setp (i := 0) h a).trans (show _ = some (Obj.cells #[a, u1, u2, u3, u4, u5, u6] T (0, 0)) from rfl)
  have h2 := (setp (i := 1) h1 b).trans (show _ = some (Obj.cells #[a, b, u2, u3, u4, u5, u6] T (0, 0)) from rfl)
  have h3 := (setp (i := 2) h2 c).trans (show _ = some (Obj.cells #[a, b, c, u3, u4, u5, u6] T (0, 0)) from rfl)
  have h4 := (setp (i := 3) h3 d).trans (show _ = some (Obj.cells #[a, b, c, d, u4, u5, u6] T (0, 0)) from rfl)
  have h5 := (setp (i := 4) h4 e).trans (show _ = some (Obj.cells #[a, b, c, d, e, u5, u6] T (0, 0)) from rfl)
  have h6 := (setp (i := 5) h5 f).trans (show _ = some (Obj.cells #[a, b, c, d, e, f, u6] T (0, 0)) from rfl)
  exact (setp (i := 6) h6 g).trans rfl
abbrev zV : Value := .agg #[.int .i64 0, .int .i64 0, .int .i64 0, .int .i64 0, .int .i64 0, .int .i64 0, .bool false]
abbrev zO : Obj := .cells #[.int .i64 0, .int .i64 0, .int .i64 0, .int .i64 0, .int .i64 0, .int .i64 0, .bool false] 50
set_option maxHeartbeats 1000000 in
theorem again_may {w : World} {B T : Nat} {s : Hd} {N L : List Nd} (h : Bk w B T s N L) (k now : Int) (hm : (decide (s.now ≤ now) && decide (now ≤ 4611686018427387904)) = false) :
    Calls Tryz.prog 22 #[.pointer (some ⟨B, 0, none⟩), .int .i64 k, .int .i64 now] w fun e w' => e = .returned (.tuple #[zV, .int .i64 3]) ∧ Below w.heap.size w w' := by
  have HM := Lib.hid (may_eq (h.ln.bk.later (al w zO)) now)
  rw [hm] at HM
  clear h hm
  go_enter Tryz.func22, Tryz.ntmps22
  go_wp2_with (go_at_call 68; (with_reducible refine HM.out.mono ?_); rintro e w1 ⟨rfl, rfl⟩)
  exact bodyPost_ret (v := .tuple #[zV, .int .i64 3]) (by simp [results, Tryz.results22, go_sem]) rfl ⟨rfl, al _ _⟩
set_option maxHeartbeats 1000000 in
theorem again_no {w : World} {B T : Nat} {s : Hd} {N L : List Nd} (h : Bk w B T s N L) (k now : Int) (hm : (decide (s.now ≤ now) && decide (now ≤ 4611686018427387904)) = true) (hk : ∀ x ∈ N, x.2.f ≠ k) :
    Calls Tryz.prog 22 #[.pointer (some ⟨B, 0, none⟩), .int .i64 k, .int .i64 now] w fun e w' => e = .returned (.tuple #[zV, .int .i64 10]) ∧ Below w.heap.size w w' := by
  have b0 := al w zO
  have y0 := heap_alloc_new w zO
  have h1 := h.later b0
  have HM := Lib.hid (may_eq h1.ln.bk now)
  rw [hm] at HM
  obtain ⟨c0, c1, c2, c3, c4, c5⟩ := h1.ln.bk.cs
  obtain ⟨t, ht, htL⟩ := h1.tr
  have HG := Lib.hid (cv.get_any ht.o k (by rw [htL]; exact h1.up.tree))
  rw [htL, get_no hk] at HG
  have HY := Lib.hid y0
  clear ht htL h h1 hm hk y0
  go_enter Tryz.func22, Tryz.ntmps22
  go_wp2_with (first
    | (go_at_call 68; (with_reducible refine HM.out.mono ?_); rintro e w1 ⟨rfl, rfl⟩)
    | (go_at_call 69; (with_reducible refine HG.out.mono ?_); rintro e w2 ⟨rfl, hb⟩; unfold cv.tup2; have y2 := (hb.block _ (by simp)).trans HY.out; have z0 := cofr y2 0 _ rfl; have z1 := cofr y2 1 _ rfl; have z2 := cofr y2 2 _ rfl; have z3 := cofr y2 3 _ rfl; have z4 := cofr y2 4 _ rfl; have z5 := cofr y2 5 _ rfl; have z6 := cofr y2 6 _ rfl; have f0 := fofr y2 0; have f1 := fofr y2 1; have f2 := fofr y2 2; have f3 := fofr y2 3; have f4 := fofr y2 4; have f5 := fofr y2 5; have f6 := fofr y2 6; clear y2))
  exact bodyPost_ret (v := .tuple #[zV, .int .i64 10]) (by simp [results, Tryz.results22, go_sem, set_same, set_other, z0, z1, z2, z3, z4, z5, z6]) rfl ⟨rfl, b0.trans ((hb.mono (b0.size)).trans ((kp7 w2 w.heap.size _ _ _ _ _ _ _).below (by simp) (Nat.le_trans b0.size hb.size)))⟩
theorem Bk.again {w1 w2 w3 : World} {B T : Nat} {s : Hd} {N1 N2 P Q : List Nd} {n : Nat} {r r' : Rc} {now : Int} (h : Bk w1 B T s (N1 ++ (n, r) :: N2) (P ++ (n, r) :: Q)) (hf : r'.f = r.f) (ht : r'.t = r.t)
    (hc : CutP B T n s P Q r w1 w2) (hl : Ln w3 B (s.goes now) T ((P ++ Q) ++ [(n, r')])) (hk : Kept (B :: n :: Nb (la none (P ++ Q))) w2 w3) :
    Bk w3 B T (s.goes now) (N1 ++ (n, r') :: N2) ((P ++ Q) ++ [(n, r')]) ∧ Kept (fp B T (P ++ (n, r) :: Q)) w1 w3 := by
  have k12 : Kept (fp B T (P ++ (n, r) :: Q)) w1 w2 := hc.2.2.mono (fun x hx => .inl (nb_fp rfl x hx))
  have hsub : ∀ x ∈ B :: n :: Nb (la none (P ++ Q)), x ∈ fp B T (P ++ (n, r) :: Q) := by
    intro x hx
    simp only [List.mem_cons] at hx
    rcases hx with rfl | rfl | hx
    · simp [fp]
    · simp [fp]
    · cases hl : la none (P ++ Q) with
      | none => rw [hl] at hx; simp [Nb] at hx
      | some b =>
        rw [hl] at hx
        simp [Nb] at hx
        subst hx
        obtain ⟨l', q, he⟩ := la_mem hl
        have : (x, q) ∈ P ++ Q := by rw [he]; simp
        rcases List.mem_append.1 this with h | h
        · simp only [fp, List.mem_cons, List.mem_map]; exact .inr (.inr ⟨(x, q), by simp [h], rfl⟩)
        · simp only [fp, List.mem_cons, List.mem_map]; exact .inr (.inr ⟨(x, q), by simp [h], rfl⟩)
  have k13 := k12.trans hk (fun x hx => .inl (hsub x hx))
  have hTn : ∀ x ∈ B :: n :: Nb (la none (P ++ Q)), x ≠ T := by
    intro x hx e
    have hm := hsub x hx
    simp only [List.mem_cons] at hx
    rcases hx with rfl | rfl | hx
    · exact h.tb e.symm
    · exact h.tl (x, r) (by simp) e
    · cases hl : la none (P ++ Q) with
      | none => rw [hl] at hx; simp [Nb] at hx
      | some b =>
        rw [hl] at hx
        simp [Nb] at hx
        subst hx
        obtain ⟨l', q, he⟩ := la_mem hl
        have : (x, q) ∈ P ++ Q := by rw [he]; simp
        refine h.tl (x, q) ?_ e
        rcases List.mem_append.1 this with h | h <;> simp [h]
  obtain ⟨t, h2, h3⟩ := h.tr
  have t2 := tr_kept h2 hc.2.2 (nb_T h rfl) (fun k hk' _ => h.notree k (nb_fp rfl k hk'))
  have t3 := tr_kept t2 hk (fun e => hTn T e rfl) (fun k hk' hlt cs he => by
    simp only [List.mem_cons] at hk'
    rcases hk' with rfl | rfl | hk'
    · rw [show _ = _ from hc.1.bk] at he; simp at he
    · rw [show _ = _ from hc.2.1] at he; simp at he
    · cases hl : la none (P ++ Q) with
      | none => rw [hl] at hk'; simp [Nb] at hk'
      | some b =>
        rw [hl] at hk'
        simp [Nb] at hk'
        subst hk'
        obtain ⟨l', q, hle⟩ := la_mem hl
        obtain ⟨p1, p2, hn⟩ := seg_mem hc.1.sg (x := (k, q)) (by rw [hle]; simp)
        rw [show _ = _ from hn] at he; simp at he)
  refine ⟨⟨hl, ⟨t, t3, by rw [h3]; exact (kv_mid hf).symm⟩, h.tb, fun x hx => ?_, (perm_mid h.perm).2.2, up_mid h.up hf ht, h.n0⟩, k13⟩
  rcases List.mem_append.1 hx with hx | hx
  · refine h.tl x ?_
    rcases List.mem_append.1 hx with h | h <;> simp [h]
  · simp at hx; subst hx; exact h.tl (n, r) (by simp)
set_option maxRecDepth 100000 in
set_option maxHeartbeats 2000000 in
theorem again_yes {w : World} {B T : Nat} {s : Hd} {N1 N2 P Q : List Nd} {n : Nat} {r : Rc} (h : Bk w B T s (N1 ++ (n, r) :: N2) (P ++ (n, r) :: Q)) (now : Int) (hm : (decide (s.now ≤ now) && decide (now ≤ 4611686018427387904)) = true)
    (h0 : -4611686018427387904 ≤ s.sent ∧ s.sent ≤ 4611686018427387904) (h1 : -4611686018427387904 ≤ r.times ∧ r.times ≤ 4611686018427387904) (h2 : -4611686018427387904 ≤ r.out ∧ r.out ≤ 4611686018427387904) :
    Calls Tryz.prog 22 #[.pointer (some ⟨B, 0, none⟩), .int .i64 r.f, .int .i64 now] w fun e w' => e = .returned (.tuple #[rcV (r.goes now (s.sent + 1)), .int .i64 0]) ∧ Bk w' B T (s.goes now) (N1 ++ (n, r.goes now (s.sent + 1)) :: N2) ((P ++ Q) ++ [(n, r.goes now (s.sent + 1))]) ∧ Kept (fp B T (P ++ (n, r) :: Q)) w w' := by
  have b0 := al w zO
  have y0 := heap_alloc_new w zO
  have h1' := h.later b0
  have HM := Lib.hid (may_eq h1'.ln.bk now)
  rw [hm] at HM
  obtain ⟨c0, c1, c2, c3, c4, c5⟩ := h1'.ln.bk.cs
  obtain ⟨t, ht, htL⟩ := h1'.tr
  have HG := Lib.hid (cv.get_any ht.o r.f (by rw [htL]; exact h1'.up.tree))
  rw [htL, get_mid h.up] at HG
  have HY := Lib.hid y0
  have HH := Lib.hid h1'
  have HX := Lib.hid h.lt
  clear ht htL h h1' hm y0
  go_enter Tryz.func22, Tryz.ntmps22
  go_wp2_with (first
    | (go_at_call 68; (with_reducible refine HM.out.mono ?_); rintro e w1 ⟨rfl, rfl⟩)
    | (go_at_call 69; (with_reducible refine HG.out.mono ?_); rintro e w2 ⟨rfl, hb⟩; unfold cv.tup2; have g2 := HH.out.later hb)
    | (go_at_call 65; (with_reducible refine (cut_any g2.ln).mono ?_); rintro e w3 ⟨⟨v, rfl⟩, hcut⟩; obtain ⟨hc1, hc2, hc3⟩ := id hcut; have hnb := g2.ln.nB (n, r) (by simp); have hnl : ∀ x ∈ P ++ Q, x.1 ≠ n := (fun x hx => by obtain ⟨d1, d2, d3, d4⟩ := nodup_mid g2.ln.nd; rcases List.mem_append.1 hx with hx | hx; exact d2 x hx; exact d3 x hx))
    | (go_at_call 70; go_must ((with_reducible refine (bgoes_any hc1 hc2 hnb hnl now h0 h1 h2).mono ?_); rintro e w4 ⟨⟨v, rfl⟩, l4, k4⟩; obtain ⟨bk4, kk4⟩ := g2.again (r' := r.goes now (s.sent + 1)) rfl rfl hcut l4 k4; have HB4 := Lib.hid bk4; have hnd := (seg_append.1 l4.sg).2.1; obtain ⟨n0, n1, n2, n3, n4, n5, n6, _, _⟩ := NdAt.cs hnd; have hx2 : w.heap.size ∉ fp B T (P ++ (n, r) :: Q) := (fun e => Nat.lt_irrefl _ (HX.out _ e)); have y4 := kk4.heap hx2 ((hb.block _ (by simp)).trans HY.out); have HY4 := Lib.hid y4; have hxn : n ≠ w.heap.size := (fun e => hx2 (by simp [fp, e])); have HX2 := Lib.hid hx2; have HK4 := Lib.hid kk4; have HBB := Lib.hid hb; have z0 := cofr y4 0 _ rfl; have z1 := cofr y4 1 _ rfl; have z2 := cofr y4 2 _ rfl; have z3 := cofr y4 3 _ rfl; have z4 := cofr y4 4 _ rfl; have z5 := cofr y4 5 _ rfl; have z6 := cofr y4 6 _ rfl; have f0 := fofr y4 0; have f1 := fofr y4 1; have f2 := fofr y4 2; have f3 := fofr y4 3; have f4 := fofr y4 4; have f5 := fofr y4 5; have f6 := fofr y4 6; clear y4 hx2 l4 k4 bk4 kk4 hnd hcut hc1 hc2 hc3 hnb hnl g2 hb c0 c1 c2 c3 c4 c5)))
  have q7 := put7 HY4.out (.int .i64 r.f) (.int .i64 r.t) (.int .i64 now) (.int .i64 (s.sent + 1)) (.int .i64 (r.times + 1)) (.int .i64 (r.out + 1)) (.bool false)
  have k7 := kp7 w4 w.heap.size (.int .i64 r.f) (.int .i64 r.t) (.int .i64 now) (.int .i64 (s.sent + 1)) (.int .i64 (r.times + 1)) (.int .i64 (r.out + 1)) (.bool false)
  have e0 := cofr q7 0 _ rfl; have e1 := cofr q7 1 _ rfl; have e2 := cofr q7 2 _ rfl; have e3 := cofr q7 3 _ rfl; have e4 := cofr q7 4 _ rfl; have e5 := cofr q7 5 _ rfl; have e6 := cofr q7 6 _ rfl
  have hS : ∀ k ∈ fp B T ((P ++ Q) ++ [(n, r.goes now (s.sent + 1))]), k ∈ fp B T (P ++ (n, r) :: Q) := by
    intro k hk
    simp only [fp, List.mem_cons, List.mem_map, List.mem_append, List.not_mem_nil, or_false] at hk ⊢
    rcases hk with h | h | ⟨x, (h | h) | h, e⟩
    · exact .inl h
    · exact .inr (.inl h)
    · exact .inr (.inr ⟨x, .inl h, e⟩)
    · exact .inr (.inr ⟨x, .inr (.inr h), e⟩)
    · subst h; exact .inr (.inr ⟨(n, r), .inr (.inl rfl), e⟩)
  have hB5 := HB4.out.other k7 (fun e => HX2.out (hS _ e)) (fun cs e => by rw [HY4.out] at e; simp at e)
  have hK5 : Kept (fp B T (P ++ (n, r) :: Q)) w _ := ((Kept.of_below (b0.trans (HBB.out.mono b0.size)) (Nat.le_refl _) _).trans HK4.out (fun x hx => .inl hx)).trans k7 (fun x hx => .inr (by simp at hx; omega))
  exact bodyPost_ret (v := .tuple #[rcV (r.goes now (s.sent + 1)), .int .i64 0]) (by simp [results, Tryz.results22, go_sem, e0, e1, e2, e3, e4, e5, e6, Rc.goes]) rfl ⟨rfl, hB5, hK5⟩
end Go.Proofs.YtohpaoleomcimaaGreat.bk
/-!   Package avl: going through the nodes.
-/
namespace Go.Proofs.YtohpaoleomcimaaGreat.cv
open Go.RowKit Go.Shelf aid mem rng
attribute [local go_sem] Oper.semAt_some
set_option linter.unusedVariables false

/-- a node: its block, its key, its value -/
abbrev Nd := Nat × Int × Vt
/-- the nodes of a tree from a key on, rising; R = none: all, falling -/
def Goes (w : World) (key : Int) : Option Addr → T → List Nd → Prop
  | p, .nil, LN => p = none ∧ LN = []
  | p, .node l k v r, LN => ∃ b pl pr Ll Lr, p = some ⟨b, 0, none⟩ ∧ w.heap[b]? = some (ndB l k v r pl pr) ∧ Goes w key pl l Ll ∧ Goes w key pr r Lr ∧ LN = if k < key then Lr else Ll ++ (b, k, v) :: Lr
theorem goes_of {w : World} (key : Int) : ∀ {t : T} {p : Option Addr}, NdAt w p t → ∃ LN, Goes w key p t LN := by
  intro t
  induction t with
  | nil => intro p h; exact ⟨[], h, rfl⟩
  | node l k v r ihl ihr =>
    rintro p ⟨b, pl, pr, rfl, hb, hl, hr⟩
    obtain ⟨Ll, h1⟩ := ihl hl
    obtain ⟨Lr, h2⟩ := ihr hr
    exact ⟨_, b, pl, pr, Ll, Lr, rfl, hb, h1, h2, rfl⟩
theorem goes_keys {w : World} (key : Int) : ∀ {t : T} {p : Option Addr} {LN : List Nd}, Goes w key p t LN → T.Up t.toL → LN.map (fun x => (x.2.1, x.2.2)) = t.toL.filter (fun x => decide (key ≤ x.1)) := by
  intro t
  induction t with
  | nil => rintro p LN ⟨rfl, rfl⟩ _; rfl
  | node l k v r ihl ihr =>
    rintro p LN ⟨b, pl, pr, Ll, Lr, rfl, hb, hl, hr, rfl⟩ hu
    obtain ⟨u1, u2, u3, u4, u5⟩ := T.up_node.1 hu
    have e1 := ihl hl u1
    have e2 := ihr hr u2
    by_cases hk : k < key
    · rw [if_pos hk, e2]
      show _ = (l.toL ++ (k, v) :: r.toL).filter _
      rw [List.filter_append, List.filter_cons, if_neg (by simp; omega), (List.filter_eq_nil_iff (l := l.toL)).2 (fun x hx => by have := u3 x hx; simp; omega), List.nil_append]
    · rw [if_neg hk, List.map_append, List.map_cons, e1, e2]
      show _ = (l.toL ++ (k, v) :: r.toL).filter _
      rw [List.filter_append, List.filter_cons, if_pos (by simp; omega)]
theorem goes_cells {w : World} (key : Int) : ∀ {t : T} {p : Option Addr} {LN : List Nd}, Goes w key p t LN → ∀ x ∈ LN, ∃ cs, w.heap[x.1]? = some (.cells cs 158 (0, 0)) ∧ w.cell? ⟨x.1, 0, none⟩ = some (.int .i64 x.2.1) ∧ w.cell? ⟨x.1, 1, none⟩ = some (.pointer x.2.2) := by
  intro t
  induction t with
  | nil => rintro p LN ⟨rfl, rfl⟩ x hx; cases hx
  | node l k v r ihl ihr =>
    rintro p LN ⟨b, pl, pr, Ll, Lr, rfl, hb, hl, hr, rfl⟩ x hx
    by_cases hk : k < key
    · rw [if_pos hk] at hx
      exact ihr hr x hx
    · rw [if_neg hk] at hx
      rcases List.mem_append.1 hx with hx | hx
      · exact ihl hl x hx
      · rcases List.mem_cons.1 hx with rfl | hx
        · exact ⟨_, hb, (cs_of hb).c0, (cs_of hb).c1⟩
        · exact ihr hr x hx

abbrev ndE (x : Nd) : Array Value := #[.pointer (some ⟨x.1, 0, none⟩)]
/-- what stands while the nodes are gone through -/
structure Cx (w W : World) (C0 : Nat → Prop) (l : Nat) (J Jx : List Nd → (Nat → Prop) → World → Prop) (L : List Nd) : Prop where
  nodes : ∀ (b : Nat) (cs : Array Value), w.heap[b]? = some (.cells cs 158 (0, 0)) → ¬ C0 b ∧ W.heap[b]? = some (.cells cs 158 (0, 0))
  yd : ∀ pre x C W1, J pre C W1 → W.heap.size ≤ W1.heap.size → pre ++ [x] <+: L → Yd Tryz.prog l (ndE x) W1 fun e W' =>
      ∃ C', Round C W1 C' W' ∧ ((e = .returned (.bool true) ∧ J (pre ++ [x]) C' W') ∨ (e = .returned (.bool false) ∧ Jx (pre ++ [x]) C' W'))
def RiseP (W : World) (C0 : Nat → Prop) (J Jx : List Nd → (Nat → Prop) → World → Prop) (xs : List Nd) (e : Ending) (W' : World) : Prop :=
  ∃ C', It C0 W C' W' ∧ ((e = .returned (.bool true) ∧ J xs C' W') ∨ (e = .returned (.bool false) ∧ ∃ pre, Jx pre C' W'))

set_option maxRecDepth 100000 in
set_option maxHeartbeats 4000000 in
theorem rise_any {w W : World} {C0 : Nat → Prop} {l : Nat} {J Jx : List Nd → (Nat → Prop) → World → Prop} {L : List Nd} (hx : Cx w W C0 l J Jx L) (key : Int) :
    ∀ (t : T) {p : Option Addr} {LN : List Nd} {pre : List Nd} {C : Nat → Prop} {W1 : World}, Goes w key p t LN → pre ++ LN <+: L → J pre C W1 → It C0 W C W1 →
    Calls Tryz.prog 143 #[.pointer p, .int .i64 key, .func (.yield l) #[] #[]] W1 (RiseP W C0 J Jx (pre ++ LN)) := by
  intro t
  induction t with
  | nil =>
    rintro p LN pre C W1 ⟨rfl, rfl⟩ hp hJ hI
    go_enter Tryz.func143, Tryz.ntmps143
    go_wp2_with fail
    go_ret
    exact ⟨C, hI, .inl ⟨rfl, by rw [List.append_nil]; exact hJ⟩⟩
  | node tl k v tr ihl ihr =>
    rintro p LN pre C W1 ⟨b, pl, pr, Ll, Lr, rfl, hb, hl, hr, rfl⟩ hp hJ hI
    have hc := cs_of (hI.block (hx.nodes b _ hb).2 (hx.nodes b _ hb).1)
    obtain ⟨c0, c1, c2, c3, _, _⟩ := hc
    by_cases hk : k < key
    · rw [if_pos hk] at hp ⊢
      have HC := Lib.hid (ihr hr hp hJ hI)
      clear ihl ihr hb hl hr hp hJ hI
      go_enter Tryz.func143, Tryz.ntmps143
      go_wp2_with (go_at_call 143; (with_reducible refine HC.out.mono ?_); rintro e w2 ⟨C', hI', ⟨rfl, hJ'⟩ | ⟨rfl, hJ'⟩⟩)
      · go_ret
        exact ⟨C', hI', .inl ⟨rfl, hJ'⟩⟩
      · go_ret
        exact ⟨C', hI', .inr ⟨rfl, hJ'⟩⟩
    · rw [if_neg hk] at hp ⊢
      have hp1 : pre ++ Ll <+: L := (List.prefix_append _ ((b, k, v) :: Lr)).trans (by rw [List.append_assoc]; exact hp)
      have hp2 : (pre ++ Ll) ++ [(b, k, v)] <+: L := (List.prefix_append _ Lr).trans (by simpa using hp)
      have hp3 : ((pre ++ Ll) ++ [(b, k, v)]) ++ Lr <+: L := by simpa using hp
      have he : pre ++ (Ll ++ (b, k, v) :: Lr) = ((pre ++ Ll) ++ [(b, k, v)]) ++ Lr := by simp
      rw [he]
      obtain ⟨xs, hxs⟩ : ∃ xs, xs = ((pre ++ Ll) ++ [(b, k, v)]) ++ Lr := ⟨_, rfl⟩
      rw [← hxs]
      have HX := Lib.hid hxs
      clear hxs
      have HC := Lib.hid (ihl hl hp1 hJ hI)
      have HR := Lib.hid (fun (C : Nat → Prop) (W1 : World) (hJ : J ((pre ++ Ll) ++ [(b, k, v)]) C W1) (hI : It C0 W C W1) => ihr hr hp3 hJ hI)
      have HY := Lib.hid (fun (C : Nat → Prop) (W1 : World) (hJ : J (pre ++ Ll) C W1) (hI : It C0 W C W1) => hx.yd _ _ C W1 hJ hI.kept.size hp2)
      have HB := Lib.hid (fun (C : Nat → Prop) (W1 : World) (hI : It C0 W C W1) => cs_of (hI.block (hx.nodes b _ hb).2 (hx.nodes b _ hb).1))
      generalize pre ++ Ll = pre1 at *
      clear ihl ihr hb hl hr hp hJ hI hp1 hp2 hp3 he
      refine (callsIn_wide (n := 6)).1 ?_
      refine callsIn_of_wp Tryz.func143 rfl trivial ?_ rfl
      simp only [Tryz.ntmps143, List.size_toArray, List.length_cons, List.length_nil, Nat.reduceAdd, Nat.reduceSub, Array.replicate_succ, Array.replicate_zero, List.push_toArray, List.append_toArray, List.nil_append, List.cons_append]
      gi_wp2
      refine ⟨trivial, ?_⟩
      refine (callsIn_wide.2 HC.out).mono ?_
      rintro e w2 ⟨C', hI', ⟨rfl, hJ'⟩ | ⟨rfl, hJ'⟩⟩
      · obtain ⟨d0, d1, d2, d3, _, _⟩ := HB.out _ _ hI'
        obtain ⟨fn, tmps, assign, body, hyy, hY⟩ := (HY.out _ _ hJ' hI').at 5
        gi_wp2
        refine hY.mono ?_
        clear hyy hY d0 d1 d2 d3
        rintro e w3 ⟨C2, hr2, ⟨rfl, hJ2⟩ | ⟨rfl, hJ2⟩⟩
        · have hI2 := hI'.round hr2
          obtain ⟨d0, d1, d2, d3, _, _⟩ := HB.out _ _ hI2
          clear hr2 hI' hJ'
          gi_wp2
          refine ⟨trivial, ?_⟩
          refine (callsIn_wide.2 (HR.out _ _ hJ2 hI2)).mono ?_
          rw [← HX.out]
          rintro e w4 ⟨C4, hI4, ⟨rfl, hJ4⟩ | ⟨rfl, hJ4⟩⟩
          · gi_wp2
            go_ret
            exact ⟨C4, hI4, .inl ⟨rfl, hJ4⟩⟩
          · gi_wp2
            go_ret
            exact ⟨C4, hI4, .inr ⟨rfl, hJ4⟩⟩
        · have hI2 := hI'.round hr2
          clear hr2 hI' hJ'
          gi_wp2
          refine ⟨trivial, ?_⟩
          gi_wp2
          go_ret
          exact ⟨C2, hI2, .inr ⟨rfl, _, hJ2⟩⟩
      · gi_wp2
        refine ⟨(fun _ h => by cases h), ?_⟩
        gi_wp2
        refine ⟨trivial, ?_⟩
        gi_wp2
        go_ret
        exact ⟨C', hI', .inr ⟨rfl, hJ'⟩⟩

/-- the nodes of a tree, falling -/
def Falls (w : World) : Option Addr → T → List Nd → Prop
  | p, .nil, LN => p = none ∧ LN = []
  | p, .node l k v r, LN => ∃ b pl pr Ll Lr, p = some ⟨b, 0, none⟩ ∧ w.heap[b]? = some (ndB l k v r pl pr) ∧ Falls w pl l Ll ∧ Falls w pr r Lr ∧ LN = Lr ++ (b, k, v) :: Ll
theorem falls_of {w : World} : ∀ {t : T} {p : Option Addr}, NdAt w p t → ∃ LN, Falls w p t LN := by
  intro t
  induction t with
  | nil => intro p h; exact ⟨[], h, rfl⟩
  | node l k v r ihl ihr =>
    rintro p ⟨b, pl, pr, rfl, hb, hl, hr⟩
    obtain ⟨Ll, h1⟩ := ihl hl
    obtain ⟨Lr, h2⟩ := ihr hr
    exact ⟨_, b, pl, pr, Ll, Lr, rfl, hb, h1, h2, rfl⟩
theorem falls_keys {w : World} : ∀ {t : T} {p : Option Addr} {LN : List Nd}, Falls w p t LN → LN.map (fun x => (x.2.1, x.2.2)) = t.toL.reverse := by
  intro t
  induction t with
  | nil => rintro p LN ⟨rfl, rfl⟩; rfl
  | node l k v r ihl ihr =>
    rintro p LN ⟨b, pl, pr, Ll, Lr, rfl, hb, hl, hr, rfl⟩
    rw [List.map_append, List.map_cons, ihl hl, ihr hr]
    show _ = (l.toL ++ (k, v) :: r.toL).reverse
    simp
theorem falls_cells {w : World} : ∀ {t : T} {p : Option Addr} {LN : List Nd}, Falls w p t LN → ∀ x ∈ LN, ∃ cs, w.heap[x.1]? = some (.cells cs 158 (0, 0)) ∧ w.cell? ⟨x.1, 0, none⟩ = some (.int .i64 x.2.1) ∧ w.cell? ⟨x.1, 1, none⟩ = some (.pointer x.2.2) := by
  intro t
  induction t with
  | nil => rintro p LN ⟨rfl, rfl⟩ x hx; cases hx
  | node l k v r ihl ihr =>
    rintro p LN ⟨b, pl, pr, Ll, Lr, rfl, hb, hl, hr, rfl⟩ x hx
    rcases List.mem_append.1 hx with hx | hx
    · exact ihr hr x hx
    · rcases List.mem_cons.1 hx with rfl | hx
      · exact ⟨_, hb, (cs_of hb).c0, (cs_of hb).c1⟩
      · exact ihl hl x hx
theorem Goes.later {w w' : World} (hb : Below w.heap.size w w') (key : Int) : ∀ {t : T} {p : Option Addr} {LN : List Nd}, Goes w key p t LN → Goes w' key p t LN := by
  intro t
  induction t with
  | nil => intro p LN h; exact h
  | node l k v r ihl ihr =>
    rintro p LN ⟨b, pl, pr, Ll, Lr, rfl, h, hl, hr, rfl⟩
    exact ⟨b, pl, pr, Ll, Lr, rfl, (hb.block b (lt_of_block h)).trans h, ihl hl, ihr hr, rfl⟩
theorem Falls.later {w w' : World} (hb : Below w.heap.size w w') : ∀ {t : T} {p : Option Addr} {LN : List Nd}, Falls w p t LN → Falls w' p t LN := by
  intro t
  induction t with
  | nil => intro p LN h; exact h
  | node l k v r ihl ihr =>
    rintro p LN ⟨b, pl, pr, Ll, Lr, rfl, h, hl, hr, rfl⟩
    exact ⟨b, pl, pr, Ll, Lr, rfl, (hb.block b (lt_of_block h)).trans h, ihl hl, ihr hr, rfl⟩

end Go.Proofs.YtohpaoleomcimaaGreat.cv
/-!   Package avl: the iterators.
-/
namespace Go.Proofs.YtohpaoleomcimaaGreat.cv
open Go.RowKit Go.Shelf aid mem rng
attribute [local go_sem] Oper.semAt_some
set_option linter.unusedVariables false

/-- a pointer to a tree, and its root -/
def RootOf (w : World) (p q : Option Addr) : Prop := (p = none ∧ q = none) ∨ ∃ b, p = some ⟨b, 0, none⟩ ∧ w.heap[b]? = some (.cells #[.pointer q] 133 (0, 0))
theorem trO_root {w : World} {p : Option Addr} {t : T} (h : TrO w p t) : ∃ q, RootOf w p q ∧ NdAt w q t := by
  rcases h with ⟨rfl, rfl⟩ | ⟨b, rfl, q, h1, h2⟩
  · exact ⟨none, .inl ⟨rfl, rfl⟩, rfl⟩
  · exact ⟨q, .inr ⟨b, rfl, h1⟩, h2⟩
theorem RootOf.later {w w' : World} {p q : Option Addr} (h : RootOf w p q) (hb : Below w.heap.size w w') : RootOf w' p q := by
  rcases h with h | ⟨b, rfl, h1⟩
  · exact .inl h
  · exact .inr ⟨b, rfl, (hb.block b (lt_of_block h1)).trans h1⟩
theorem top_at {w : World} {p q : Option Addr} (h : RootOf w p q) : Calls Tryz.prog 88 #[.pointer p] w fun e w' => e = .returned (.pointer q) ∧ w = w' := by
  rcases h with ⟨rfl, rfl⟩ | ⟨b, rfl, h1⟩
  · go_enter Tryz.func88, Tryz.ntmps88
    go_wp2
    go_ret
    exact ⟨rfl, rfl⟩
  · have c0 : w.cell? ⟨b, 0, none⟩ = some (.pointer q) := (cell_of_row w b 0 _ _ (0, 0) h1).trans rfl
    go_enter Tryz.func88, Tryz.ntmps88
    go_wp2
    go_ret
    exact ⟨rfl, rfl⟩

/-- what of the old blocks a consumer may write: none of a tree's -/
def Far (w : World) (A : Nat → Prop) : Prop := ∀ k, A k → k < w.heap.size ∧ ∀ cs, w.heap[k]? ≠ some (.cells cs 158 (0, 0))
theorem cx_nodes {w W : World} {A C0 : Nat → Prop} (hA : Far w A) (hW : Below w.heap.size w W) (hC : ∀ k, C0 k → (A k ∨ w.heap.size ≤ k) ∧ k < W.heap.size) (b : Nat) (cs : Array Value)
    (h : w.heap[b]? = some (.cells cs 158 (0, 0))) : ¬ C0 b ∧ W.heap[b]? = some (.cells cs 158 (0, 0)) := by
  refine ⟨fun hc => ?_, (hW.block b (lt_of_block h)).trans h⟩
  rcases (hC _ hc).1 with a | a
  · exact (hA _ a).2 cs h
  · have := lt_of_block h; omega

/-- how going through the nodes ends, in one piece -/
def RiseB (W : World) (C0 : Nat → Prop) (J Jx : List Nd → (Nat → Prop) → World → Prop) (xs : List Nd) (b : Bool) (W' : World) : Prop := ∃ C', It C0 W C' W' ∧ ((b = true ∧ J xs C' W') ∨ (b = false ∧ ∃ pre, Jx pre C' W'))
theorem rise_b {W : World} {C0 : Nat → Prop} {J Jx : List Nd → (Nat → Prop) → World → Prop} {xs : List Nd} {e : Ending} {W' : World} (h : RiseP W C0 J Jx xs e W') : ∃ b, e = .returned (.bool b) ∧ RiseB W C0 J Jx xs b W' := by
  obtain ⟨C', hI, ⟨rfl, h⟩ | ⟨rfl, h⟩⟩ := h
  · exact ⟨true, rfl, C', hI, .inl ⟨rfl, h⟩⟩
  · exact ⟨false, rfl, C', hI, .inr ⟨rfl, h⟩⟩
theorem RiseB.cell {W : World} {C0 : Nat → Prop} {J Jx : List Nd → (Nat → Prop) → World → Prop} {xs : List Nd} {b : Bool} {W' : World} (h : RiseB W C0 J Jx xs b W') {k : Nat} {v : Value} (hk : ¬ C0 k) (hc : W.cell? ⟨k, 0, none⟩ = some v) : W'.cell? ⟨k, 0, none⟩ = some v := by
  obtain ⟨C', hI, _⟩ := h
  exact hI.kept.cell hk hc
theorem RiseB.done {W : World} {C0 : Nat → Prop} {J Jx : List Nd → (Nat → Prop) → World → Prop} {xs : List Nd} {b : Bool} {W' : World} (h : RiseB W C0 J Jx xs b W') : ∃ C', J xs C' W' ∨ ∃ pre, Jx pre C' W' := by
  obtain ⟨C', _, ⟨_, h⟩ | ⟨_, h⟩⟩ := h
  · exact ⟨C', .inl h⟩
  · exact ⟨C', .inr h⟩

set_option maxRecDepth 100000 in
set_option maxHeartbeats 4000000 in
theorem from1_seq {w : World} {p q : Option Addr} {t : T} {key : Int} {LN : List Nd} {bt bk : Nat} {A : Nat → Prop} (hr : RootOf w p q) (hg : Goes w key q t LN)
    (ht : w.cell? ⟨bt, 0, none⟩ = some (.pointer p)) (hk : w.cell? ⟨bk, 0, none⟩ = some (.int .i64 key)) (hA : Far w A) (hat : ¬ A bt) (hak : ¬ A bk) :
    SeqOf Tryz.prog 142 #[.pointer (some ⟨bt, 0, none⟩), .pointer (some ⟨bk, 0, none⟩)] ndE LN A w := by
  intro l J Jx C0 W hW hC hJ hJx hY h0
  have r2 := hr.later (hW.trans ((Below.refl W.heap.size W).drew.mono hW.size))
  have hx : Cx w W C0 l J Jx LN := ⟨cx_nodes hA hW hC, hY⟩
  have c1 := ck hW ht
  have c2 := ck hW hk
  have j2 := hJ _ _ _ _ h0 (Nat.le_refl _) (Steps.drew _ W)
  have i2 : It C0 W C0 W.drew := (It.refl (fun k hk => (hC k hk).2)).own (Steps.drew _ W)
  have nt : ¬ C0 bt := fun e => by
    rcases (hC _ e).1 with a | a
    · exact hat a
    · have := World.block_lt_of_cell? w _ ht; simp only at this; omega
  have nk : ¬ C0 bk := fun e => by
    rcases (hC _ e).1 with a | a
    · exact hak a
    · have := World.block_lt_of_cell? w _ hk; simp only at this; omega
  have HR := Lib.hid (rise_any hx key t hg (List.prefix_refl _) j2 i2)
  rw [List.nil_append] at HR
  clear hr hg hx j2 i2 hJ hJx hY h0 hC hW ht hk hA
  show Calls Tryz.prog 142 #[.func (.yield l) #[] #[], .pointer (some ⟨bt, 0, none⟩), .pointer (some ⟨bk, 0, none⟩)] W _
  go_enter Tryz.func142, Tryz.ntmps142
  go_wp2
  have k0 : W.drew.cell? ⟨bt, 0, none⟩ = some (.pointer p) ∧ W.drew.cell? ⟨bk, 0, none⟩ = some (.int .i64 key) := ⟨c1, c2⟩
  go_region_held3 (fun w' => w'.cell? ⟨bt, 0, none⟩ = some (.pointer p) ∧ w'.cell? ⟨bk, 0, none⟩ = some (.int .i64 key)) (with_reducible first | exact k0 | exact k1 | go_keep) (first
    | (go_at_call 88; (with_reducible refine (top_at r2).mono ?_); rintro e w2 ⟨rfl, rfl⟩)
    | (go_at_call 143; (with_reducible refine HR.out.mono ?_); rintro e w3 hrp; obtain ⟨b, rfl, hb⟩ := rise_b hrp; have k1 := And.intro (hb.cell nt c1) (hb.cell nk c2); clear hrp))
  all_goals
    go_wp2
    go_end0
    exact ⟨⟨_, rfl⟩, hb.done⟩

end Go.Proofs.YtohpaoleomcimaaGreat.cv
/-!   Package avl: pairs of nodes; From, All, Back.
-/
namespace Go.Proofs.YtohpaoleomcimaaGreat.cv
open Go.RowKit Go.Shelf aid mem rng
attribute [local go_sem] Oper.semAt_some
set_option linter.unusedVariables false

abbrev kv (x : Nd) : Int × Vt := (x.2.1, x.2.2)
abbrev kvE (x : Int × Vt) : Array Value := #[.int .i64 x.1, .pointer x.2]
def isRet (c : Code) : Prop := c = .ret
theorem pre_map {α β : Type} (f : α → β) {a b : List α} (h : a <+: b) : a.map f <+: b.map f := by
  obtain ⟨t, rfl⟩ := h
  rw [List.map_append]
  exact List.prefix_append _ _

set_option maxRecDepth 100000 in
set_option maxHeartbeats 300000 in
theorem pairs1_seq {w : World} {gf : Nat} {lb : Array Value} {LN : List Nd} {A : Nat → Prop} {bx : Nat} (hseq : SeqOf Tryz.prog gf lb ndE LN A w) (eg : ∀ args w, (callFunc gf args).run Tryz.prog w = .ok (.enter gf args) w)
    (hn : ∀ x ∈ LN, w.cell? ⟨x.1, 0, none⟩ = some (.int .i64 x.2.1) ∧ w.cell? ⟨x.1, 1, none⟩ = some (.pointer x.2.2) ∧ ¬ A x.1)
    (hbx : w.cell? ⟨bx, 0, none⟩ = some (.func (.func gf) #[] lb)) :
    SeqOf Tryz.prog 152 #[.pointer (some ⟨bx, 0, none⟩)] kvE (LN.map kv) A w := by
  intro l J Jx C0 W hW hC hJ hJx hY h0
  have c0 := ck hW hbx
  show Calls Tryz.prog 152 #[.func (.yield l) #[] #[], .pointer (some ⟨bx, 0, none⟩)] W _
  refine (callsIn_wide (n := 6)).1 ?_
  refine callsIn_of_wp_marks Tryz.func152 rfl trivial ?_ rfl
  simp only [Tryz.ntmps152, List.size_toArray, List.length_cons, List.length_nil, Nat.reduceAdd, Nat.reduceSub, Array.replicate_succ, Array.replicate_zero, List.push_toArray, List.append_toArray, List.nil_append, List.cons_append]
  have hwb : Below W.heap.size W (W.alloc (.cells #[.func (.yield l) #[] #[]] 103)) := (Below.refl _ _).alloc (Nat.le_refl _) _
  have c1 := ck hwb c0
  gi_wp2
  refine wpIn_range' (gf := gf) (lb := lb) (L := LN) (A := A) (w0 := w) (encs := ndE) rfl eg hseq (hW.trans (hwb.mono hW.size)) (fun _ => rfl)
    (fun pre C W' => J (pre.map kv) C W' ∧ It C0 W C W' ∧ ¬ C W.heap.size ∧ W'.cell? ⟨W.heap.size, 0, none⟩ = some (.func (.yield l) #[] #[]))
    (fun c pre C W' => isRet c ∧ Jx (pre.map kv) C W') C0 ?hc0 ?hI ?hIx ?h0
    (fun x => { tmps := #[.func (.yield l) #[] #[], .pointer (some ⟨bx, 0, none⟩), .pointer (some ⟨W.heap.size, 0, none⟩), .pointer (some ⟨x.1, 0, none⟩), .func (.func gf) #[] lb, .pointer (some ⟨x.1, 0, none⟩), undef, undef, undef, undef, undef, undef, undef, undef, undef, undef, undef], defers := [] }) ?assign ?body ?done ?stop
  case hc0 => exact fun k hk => ⟨(hC k hk).1, Nat.lt_of_lt_of_le (hC k hk).2 hwb.size⟩
  case hI =>
    rintro s C X Y ⟨h1, h2, h3, h4⟩ hz hs
    have hs' : rng.Steps (fun k => k < W.heap.size ∨ C k) X Y := hs.mono (fun k _ hk => hk.imp (fun h => by simp; omega) id)
    have := hwb.size
    exact ⟨hJ _ _ _ _ h1 (by omega) hs', h2.own hs', h3, hs.cell (.inl (by simp)) h4⟩
  case hIx =>
    rintro c s C X Y ⟨h1, h2⟩ hz hs
    have hs' : rng.Steps (fun k => k < W.heap.size ∨ C k) X Y := hs.mono (fun k _ hk => hk.imp (fun h => by simp; omega) id)
    have := hwb.size
    exact ⟨h1, hJx _ _ _ _ h2 (by omega) hs'⟩
  case h0 =>
    have ss := Steps.of_below hwb (fun k => k < W.heap.size ∨ C0 k)
    exact ⟨hJ _ _ _ _ h0 (Nat.le_refl _) ss, (It.refl (fun k hk => (hC k hk).2)).own ss, fun e => by have := (hC _ e).2; omega, (cell_of_row _ W.heap.size 0 _ _ (0, 0) (heap_alloc_new W _)).trans rfl⟩
  case assign =>
    intro l' x X K hK
    gi_wp2
    exact hK
  case body =>
    rintro l' pre x C X ⟨h1, h2, h3, h4⟩ hp hcb hz
    have hp' := pre_map kv hp
    rw [List.map_append] at hp'
    have j1 := hJ _ _ _ _ h1 h2.kept.size (rng.Steps.drew _ X)
    have hy := (hY _ _ _ X.drew j1 h2.kept.size hp').mono (fun e w h => one_way (X := fun C' => J (pre.map kv ++ [kv x]) C' w) (Y := fun C' => Jx (pre.map kv ++ [kv x]) C' w) h)
    have hxm : x ∈ LN := hp.subset (by simp)
    obtain ⟨n0, n1, n2⟩ := hn x hxm
    have nc : ¬ C0 x.1 := fun e => by
      rcases (hC _ e).1 with a | a
      · exact n2 a
      · have := World.block_lt_of_cell? w _ n0; simp only at this; omega
    have d0 := h2.kept.cell (p := ⟨x.1, 0, none⟩) nc (ck hW n0)
    have d1 := h2.kept.cell (p := ⟨x.1, 1, none⟩) nc (ck hW n1)
    obtain ⟨fn, tmps, assign, body, hyy, hYY⟩ := hy.at 3
    have e0 : X.drew.cell? ⟨x.1, 0, none⟩ = some (.int .i64 x.2.1) := d0
    have e1 : X.drew.cell? ⟨x.1, 1, none⟩ = some (.pointer x.2.2) := d1
    have e2 : X.drew.cell? ⟨W.heap.size, 0, none⟩ = some (.func (.yield l) #[] #[]) := h4
    have rd : Round C X C X.drew := ⟨rng.Steps.drew _ X, fun _ h => .inl h⟩
    have HN := Lib.hid (fun (C3 : Nat → Prop) (w3 : World) (hr : Round C X.drew C3 w3) (hj : J (pre.map kv ++ [kv x]) C3 w3) => show ∃ C', Round C X C' w3 ∧ (J ((pre ++ [x]).map kv) C' w3 ∧ It C0 W C' w3 ∧ ¬ C' W.heap.size ∧ w3.cell? ⟨W.heap.size, 0, none⟩ = some (.func (.yield l) #[] #[])) from
      ⟨C3, rd.trans hr, by rw [List.map_append]; exact hj, h2.round (rd.trans hr), fun e => by
        rcases hr.2 _ e with a | a
        · exact h3 a
        · have hz' : W.heap.size + 1 ≤ X.heap.size := by simpa using hz
          have : X.drew.heap.size = X.heap.size := rfl
          omega, (rd.trans hr).1.cell h3 h4⟩)
    have HS := Lib.hid (fun (C3 : Nat → Prop) (w3 : World) (hr : Round C X.drew C3 w3) (hj : Jx (pre.map kv ++ [kv x]) C3 w3) => show ∃ C', Round C X C' w3 ∧ (isRet Code.ret ∧ Jx ((pre ++ [x]).map kv) C' w3) from
      ⟨C3, rd.trans hr, rfl, by rw [List.map_append]; exact hj⟩)
    clear hseq eg hn hbx hW hJ hJx hY h0 c0 c1 hwb hC hp hp' hcb hz hy j1 h1 h2 h3 h4 n0 n1 n2 nc d0 d1 hxm rd
    have hmo : Tryz.prog.follows .mixedOrders = true := by kernel_rfl
    gi_wp2
    refine wpIn_region_round (by assumption) (by kernel_rfl) ?_
    refine wpAnyIn_take (i := 1) (v := (.pointer (some ⟨x.1, 0, none⟩))) rfl rfl (by kernel_rfl) (by kernel_rfl) (by kernel_rfl) (fun _ _ _ h => h) ⟨Or.inl ⟨by rfl, by intro w; go_simp⟩, fun _ => rfl⟩ ?_
    refine wpAnyIn_take (i := 2) (v := (.pointer (some ⟨x.1, 0, none⟩))) rfl rfl (by kernel_rfl) (by kernel_rfl) (by kernel_rfl) (fun _ _ _ h => h) ⟨Or.inl ⟨by rfl, by intro w; go_simp⟩, fun _ => rfl⟩ ?_
    refine wpAnyIn_take (i := 3) (v := (.pointer (some ⟨x.1, 0, none⟩))) rfl rfl (by kernel_rfl) (by kernel_rfl) (by kernel_rfl) (fun _ _ _ h => h) ⟨Or.inl ⟨by rfl, by intro w; go_simp⟩, fun _ => rfl⟩ ?_
    refine wpAnyIn_take (i := 5) (v := (.pointer (some ⟨x.1, 0, none⟩))) rfl rfl (by kernel_rfl) (by kernel_rfl) (by kernel_rfl) (fun _ _ _ h => h) ⟨Or.inl ⟨by rfl, by intro w; go_simp⟩, fun _ => rfl⟩ ?_
    refine wpAnyIn_take (i := 6) (v := (.pointer (some ⟨x.1, 0, none⟩))) rfl rfl (by kernel_rfl) (by kernel_rfl) (by kernel_rfl) (fun _ _ _ h => h) ⟨Or.inl ⟨by rfl, by intro w; go_simp⟩, fun _ => rfl⟩ ?_
    refine wpAnyIn_take (i := 7) (v := (.pointer (some ⟨x.1, 1, none⟩))) rfl rfl (by kernel_rfl) (by kernel_rfl) (by kernel_rfl) (fun _ _ _ h => h) ⟨Or.inl ⟨by rfl, by intro w; go_simp⟩, fun _ => rfl⟩ ?_
    refine wpAnyIn_ready (rs := [0, 4, 8]) (by kernel_rfl) (by simp) ?_
    refine AllReadyIn.cons rfl (fun K hK => ?_) ?_
    · go_simp
      refine hK _ _ ?_
      clear hK K
      refine wpAnyIn_ready (rs := [4, 8]) (by kernel_rfl) (by simp) ?_
      refine AllReadyIn.cons rfl (fun K hK => ?_) ?_
      · go_simp
        refine hK _ _ ?_
        clear hK K
        refine wpAnyIn_ready (rs := [8]) (by kernel_rfl) (by simp) ?_
        refine AllReadyIn.cons rfl (fun K hK => ?_) ?_
        · go_simp
          refine hK _ _ ?_
          clear hK K
          refine wpAnyIn_ready (rs := [9]) (by kernel_rfl) (by simp) ?_
          refine AllReadyIn.cons rfl (fun K hK => ?_) ?_
          · go_simp
            refine hYY.mono ?_
            rintro e w3 ⟨bo, rfl, hr3⟩
            clear hyy hYY e0 e1 e2
            refine hK _ _ ?_
            clear hK K
            refine wpAnyIn_take (i := 10) (v := (.bool (!bo))) rfl rfl (by kernel_rfl) (by kernel_rfl) (by kernel_rfl) (fun _ _ _ h => h) ⟨Or.inl ⟨by rfl, by intro w; go_simp⟩, fun _ => rfl⟩ ?_
            refine wpAnyIn_done (by kernel_rfl) ?_ _
            obtain ⟨C3, hr4, ⟨rfl, h3'⟩ | ⟨rfl, h3'⟩⟩ := hr3
            · gi_wp2
              exact HN.out _ _ hr4 h3'
            · gi_wp2
              exact HS.out _ _ hr4 h3'
          exact AllReadyIn.nil
        exact AllReadyIn.nil
      refine AllReadyIn.cons rfl (fun K hK => ?_) ?_
      · go_simp
        refine hK _ _ ?_
        clear hK K
        refine wpAnyIn_ready (rs := [4]) (by kernel_rfl) (by simp) ?_
        refine AllReadyIn.cons rfl (fun K hK => ?_) ?_
        · go_simp
          refine hK _ _ ?_
          clear hK K
          refine wpAnyIn_ready (rs := [9]) (by kernel_rfl) (by simp) ?_
          refine AllReadyIn.cons rfl (fun K hK => ?_) ?_
          · go_simp
            refine hYY.mono ?_
            rintro e w3 ⟨bo, rfl, hr3⟩
            clear hyy hYY e0 e1 e2
            refine hK _ _ ?_
            clear hK K
            refine wpAnyIn_take (i := 10) (v := (.bool (!bo))) rfl rfl (by kernel_rfl) (by kernel_rfl) (by kernel_rfl) (fun _ _ _ h => h) ⟨Or.inl ⟨by rfl, by intro w; go_simp⟩, fun _ => rfl⟩ ?_
            refine wpAnyIn_done (by kernel_rfl) ?_ _
            obtain ⟨C3, hr4, ⟨rfl, h3'⟩ | ⟨rfl, h3'⟩⟩ := hr3
            · gi_wp2
              exact HN.out _ _ hr4 h3'
            · gi_wp2
              exact HS.out _ _ hr4 h3'
          exact AllReadyIn.nil
        exact AllReadyIn.nil
      exact AllReadyIn.nil
    refine AllReadyIn.cons rfl (fun K hK => ?_) ?_
    · go_simp
      refine hK _ _ ?_
      clear hK K
      refine wpAnyIn_ready (rs := [0, 8]) (by kernel_rfl) (by simp) ?_
      refine AllReadyIn.cons rfl (fun K hK => ?_) ?_
      · go_simp
        refine hK _ _ ?_
        clear hK K
        refine wpAnyIn_ready (rs := [8]) (by kernel_rfl) (by simp) ?_
        refine AllReadyIn.cons rfl (fun K hK => ?_) ?_
        · go_simp
          refine hK _ _ ?_
          clear hK K
          refine wpAnyIn_ready (rs := [9]) (by kernel_rfl) (by simp) ?_
          refine AllReadyIn.cons rfl (fun K hK => ?_) ?_
          · go_simp
            refine hYY.mono ?_
            rintro e w3 ⟨bo, rfl, hr3⟩
            clear hyy hYY e0 e1 e2
            refine hK _ _ ?_
            clear hK K
            refine wpAnyIn_take (i := 10) (v := (.bool (!bo))) rfl rfl (by kernel_rfl) (by kernel_rfl) (by kernel_rfl) (fun _ _ _ h => h) ⟨Or.inl ⟨by rfl, by intro w; go_simp⟩, fun _ => rfl⟩ ?_
            refine wpAnyIn_done (by kernel_rfl) ?_ _
            obtain ⟨C3, hr4, ⟨rfl, h3'⟩ | ⟨rfl, h3'⟩⟩ := hr3
            · gi_wp2
              exact HN.out _ _ hr4 h3'
            · gi_wp2
              exact HS.out _ _ hr4 h3'
          exact AllReadyIn.nil
        exact AllReadyIn.nil
      refine AllReadyIn.cons rfl (fun K hK => ?_) ?_
      · go_simp
        refine hK _ _ ?_
        clear hK K
        refine wpAnyIn_ready (rs := [0]) (by kernel_rfl) (by simp) ?_
        refine AllReadyIn.cons rfl (fun K hK => ?_) ?_
        · go_simp
          refine hK _ _ ?_
          clear hK K
          refine wpAnyIn_ready (rs := [9]) (by kernel_rfl) (by simp) ?_
          refine AllReadyIn.cons rfl (fun K hK => ?_) ?_
          · go_simp
            refine hYY.mono ?_
            rintro e w3 ⟨bo, rfl, hr3⟩
            clear hyy hYY e0 e1 e2
            refine hK _ _ ?_
            clear hK K
            refine wpAnyIn_take (i := 10) (v := (.bool (!bo))) rfl rfl (by kernel_rfl) (by kernel_rfl) (by kernel_rfl) (fun _ _ _ h => h) ⟨Or.inl ⟨by rfl, by intro w; go_simp⟩, fun _ => rfl⟩ ?_
            refine wpAnyIn_done (by kernel_rfl) ?_ _
            obtain ⟨C3, hr4, ⟨rfl, h3'⟩ | ⟨rfl, h3'⟩⟩ := hr3
            · gi_wp2
              exact HN.out _ _ hr4 h3'
            · gi_wp2
              exact HS.out _ _ hr4 h3'
          exact AllReadyIn.nil
        exact AllReadyIn.nil
      exact AllReadyIn.nil
    refine AllReadyIn.cons rfl (fun K hK => ?_) ?_
    · go_simp
      refine hK _ _ ?_
      clear hK K
      refine wpAnyIn_ready (rs := [0, 4]) (by kernel_rfl) (by simp) ?_
      refine AllReadyIn.cons rfl (fun K hK => ?_) ?_
      · go_simp
        refine hK _ _ ?_
        clear hK K
        refine wpAnyIn_ready (rs := [4]) (by kernel_rfl) (by simp) ?_
        refine AllReadyIn.cons rfl (fun K hK => ?_) ?_
        · go_simp
          refine hK _ _ ?_
          clear hK K
          refine wpAnyIn_ready (rs := [9]) (by kernel_rfl) (by simp) ?_
          refine AllReadyIn.cons rfl (fun K hK => ?_) ?_
          · go_simp
            refine hYY.mono ?_
            rintro e w3 ⟨bo, rfl, hr3⟩
            clear hyy hYY e0 e1 e2
            refine hK _ _ ?_
            clear hK K
            refine wpAnyIn_take (i := 10) (v := (.bool (!bo))) rfl rfl (by kernel_rfl) (by kernel_rfl) (by kernel_rfl) (fun _ _ _ h => h) ⟨Or.inl ⟨by rfl, by intro w; go_simp⟩, fun _ => rfl⟩ ?_
            refine wpAnyIn_done (by kernel_rfl) ?_ _
            obtain ⟨C3, hr4, ⟨rfl, h3'⟩ | ⟨rfl, h3'⟩⟩ := hr3
            · gi_wp2
              exact HN.out _ _ hr4 h3'
            · gi_wp2
              exact HS.out _ _ hr4 h3'
          exact AllReadyIn.nil
        exact AllReadyIn.nil
      refine AllReadyIn.cons rfl (fun K hK => ?_) ?_
      · go_simp
        refine hK _ _ ?_
        clear hK K
        refine wpAnyIn_ready (rs := [0]) (by kernel_rfl) (by simp) ?_
        refine AllReadyIn.cons rfl (fun K hK => ?_) ?_
        · go_simp
          refine hK _ _ ?_
          clear hK K
          refine wpAnyIn_ready (rs := [9]) (by kernel_rfl) (by simp) ?_
          refine AllReadyIn.cons rfl (fun K hK => ?_) ?_
          · go_simp
            refine hYY.mono ?_
            rintro e w3 ⟨bo, rfl, hr3⟩
            clear hyy hYY e0 e1 e2
            refine hK _ _ ?_
            clear hK K
            refine wpAnyIn_take (i := 10) (v := (.bool (!bo))) rfl rfl (by kernel_rfl) (by kernel_rfl) (by kernel_rfl) (fun _ _ _ h => h) ⟨Or.inl ⟨by rfl, by intro w; go_simp⟩, fun _ => rfl⟩ ?_
            refine wpAnyIn_done (by kernel_rfl) ?_ _
            obtain ⟨C3, hr4, ⟨rfl, h3'⟩ | ⟨rfl, h3'⟩⟩ := hr3
            · gi_wp2
              exact HN.out _ _ hr4 h3'
            · gi_wp2
              exact HS.out _ _ hr4 h3'
          exact AllReadyIn.nil
        exact AllReadyIn.nil
      exact AllReadyIn.nil
    exact AllReadyIn.nil
  case done =>
    rintro D C X hD hCD ⟨h1, h2, h3, h4⟩ hK
    have hD' : W.heap.size ≤ D := Nat.le_trans hwb.size hD
    have hf := hJ _ _ _ (X.putObj D (.deferred none)) h1 h2.kept.size (rng.Steps.putObj _ _ _ _ (by rintro (e | e); omega; exact hCD e))
    have HF := Lib.hid hf
    clear hseq eg hn hbx hW hJ hJx hY h0 c0 c1 hwb hC h1 h2 h3 h4 hf
    gi_wp2
    refine ⟨by simp, .inl ⟨_, _, rfl, run_takeDeferred hK, ?_⟩⟩
    exact ⟨_, results_none rfl _ _ _, ⟨_, rfl⟩, C, .inl HF.out⟩
  case stop =>
    rintro D c pre C X hD hCD ⟨rfl, h2⟩ hK
    have hD' : W.heap.size ≤ D := Nat.le_trans hwb.size hD
    have hX : W.heap.size ≤ X.heap.size := by have := lt_of_block hK; omega
    have hf := hJx _ _ _ (X.putObj D (.deferred none)) h2 hX (rng.Steps.putObj _ _ _ _ (by rintro (e | e); omega; exact hCD e))
    have HF := Lib.hid hf
    clear hseq eg hn hbx hW hJ hJx hY h0 c0 c1 hwb hC h2 hf
    gi_wp2
    refine ⟨by simp, .inl ⟨_, _, rfl, run_takeDeferred hK, ?_⟩⟩
    exact ⟨_, results_none rfl _ _ _, ⟨_, rfl⟩, C, .inr ⟨_, HF.out⟩⟩
end Go.Proofs.YtohpaoleomcimaaGreat.cv
/-!   Package avl: From, All, Back; the law's list of all keys.
-/
namespace Go.Proofs.YtohpaoleomcimaaGreat.cv
open Go.RowKit Go.Shelf aid mem rng
attribute [local go_sem] Oper.semAt_some
set_option linter.unusedVariables false

theorem Far.later {w w' : World} {A : Nat → Prop} (h : Far w A) (hb : Below w.heap.size w w') : Far w' A := fun k hk => by
  obtain ⟨h1, h2⟩ := h k hk
  exact ⟨Nat.lt_of_lt_of_le h1 hb.size, fun cs e => h2 cs (by rw [← hb.block k h1]; exact e)⟩
theorem far_node {w : World} {A : Nat → Prop} (h : Far w A) {k : Nat} {cs : Array Value} (hk : w.heap[k]? = some (.cells cs 158 (0, 0))) : ¬ A k := fun e => (h k e).2 cs hk

/-- an iterator of pairs -/
def SeqKV (L : List (Int × Vt)) (A : Nat → Prop) (w : World) (e : Ending) (w' : World) : Prop :=
  ∃ lb, e = .returned (.func (.func 152) #[] lb) ∧ SeqOf Tryz.prog 152 lb kvE L A w' ∧ Below w.heap.size w w'

theorem pairs_any {gf : Nat} {lb : Array Value} {w : World} : Calls Tryz.prog 141 #[.func (.func gf) #[] lb] w fun e w' =>
    e = .returned (.func (.func 152) #[] #[.pointer (some ⟨w.heap.size, 0, none⟩)]) ∧ w' = w.alloc (.cells #[.func (.func gf) #[] lb] 187) := by
  go_enter Tryz.func141, Tryz.ntmps141
  go_wp2_with fail
  go_ret
  exact ⟨rfl, rfl⟩

theorem eg41 : ∀ args w, (callFunc 142 args).run Tryz.prog w = .ok (.enter 142 args) w := enters_of Tryz.func142 (by kernel_rfl) rfl
theorem eg49 : ∀ args w, (callFunc 152 args).run Tryz.prog w = .ok (.enter 152 args) w := enters_of Tryz.func152 (by kernel_rfl) rfl

set_option maxRecDepth 100000 in
set_option maxHeartbeats 2000000 in
theorem from_any {w : World} {p : Option Addr} {t : T} (h : TrO w p t) (key : Int) (hu : T.Up t.toL) (A : Nat → Prop) (hA : Far w A) :
    Calls Tryz.prog 133 #[.pointer p, .int .i64 key] w (SeqKV (t.toL.filter (fun x => decide (key ≤ x.1))) A w) := by
  obtain ⟨q, hr, hq⟩ := trO_root h
  obtain ⟨LN, hg⟩ := goes_of key hq
  have hk := goes_keys key hg hu
  obtain ⟨w1, hw1⟩ : ∃ w1, w1 = (w.alloc (.cells #[.pointer p] 91)).alloc (.cells #[.int .i64 key] 3) := ⟨_, rfl⟩
  have b1 : Below w.heap.size w w1 := by rw [hw1]; exact ((Below.refl _ _).alloc (Nat.le_refl _) _).alloc (by simp) _
  have c1 : w1.cell? ⟨w.heap.size, 0, none⟩ = some (.pointer p) := by
    rw [hw1]; exact ck (bal' _) ((cell_of_row _ w.heap.size 0 _ _ (0, 0) (heap_alloc_new w (.cells #[.pointer p] 91))).trans rfl)
  have c2 : w1.cell? ⟨w.heap.size + 1, 0, none⟩ = some (.int .i64 key) := by
    have := (cell_of_row _ (w.alloc (.cells #[.pointer p] 91)).heap.size 0 _ _ (0, 0) (heap_alloc_new (w.alloc (.cells #[.pointer p] 91)) (.cells #[.int .i64 key] 3))).trans rfl
    rw [World.size_alloc] at this
    rw [hw1]; exact this
  have s1 := from1_seq (hr.later b1) (hg.later b1) c1 c2 (hA.later b1) (fun e => by have := (hA _ e).1; omega) (fun e => by have := (hA _ e).1; omega)
  obtain ⟨w2, hw2⟩ : ∃ w2, w2 = w1.alloc (.cells #[.func (.func 142) #[] #[.pointer (some ⟨w.heap.size, 0, none⟩), .pointer (some ⟨w.heap.size + 1, 0, none⟩)]] 187) := ⟨_, rfl⟩
  have b2 : Below w1.heap.size w1 w2 := by rw [hw2]; exact bal' _
  have hz1 : w1.heap.size = w.heap.size + 1 + 1 := by rw [hw1]; simp
  have hb : w2.cell? ⟨w1.heap.size, 0, none⟩ = some (.func (.func 142) #[] #[.pointer (some ⟨w.heap.size, 0, none⟩), .pointer (some ⟨w.heap.size + 1, 0, none⟩)]) := by
    rw [hw2]; exact (cell_of_row _ w1.heap.size 0 _ _ (0, 0) (heap_alloc_new w1 _)).trans rfl
  have hcells := goes_cells key hg
  have s2 := pairs1_seq (s1.later b2 (fun k hk => .inl hk)) eg41 (fun x hx => by
    obtain ⟨cs, n0, n1, n2⟩ := hcells x hx
    have b12 := b1.trans (b2.mono b1.size)
    exact ⟨ck b12 n1, ck b12 n2, far_node hA n0⟩) hb
  rw [hk] at s2
  have HF : Hid (SeqKV (t.toL.filter (fun x => decide (key ≤ x.1))) A w (.returned (.func (.func 152) #[] #[.pointer (some ⟨w1.heap.size, 0, none⟩)])) w2) := Lib.hid ⟨_, rfl, s2, b1.trans (b2.mono b1.size)⟩
  rw [hw2, hz1] at HF
  clear hw2 s2 hb b2 s1 c2 c1 hcells hk hg hq hr h hu hA b1 hz1
  subst hw1
  go_enter Tryz.func133, Tryz.ntmps133
  go_wp2_with (go_at_call 141; (with_reducible refine pairs_any.mono ?_); rintro e w3 ⟨rfl, rfl⟩)
  go_ret
  exact HF.out

def Bound (t : T) : Prop := ∀ x ∈ t.toL, -9223372036854775808 ≤ x.1
theorem all_any {w : World} {p : Option Addr} {t : T} (h : TrO w p t) (hu : T.Up t.toL) (hbd : Bound t) (A : Nat → Prop) (hA : Far w A) :
    Calls Tryz.prog 116 #[.pointer p] w (SeqKV t.toL A w) := by
  have H := from_any h (-9223372036854775808) hu A hA
  rw [List.filter_eq_self.2 (fun x hx => by simpa using hbd x hx)] at H
  have HF := Lib.hid H
  clear H h hu hbd hA
  go_enter Tryz.func116, Tryz.ntmps116
  go_wp2_with (go_at_call 133; (with_reducible refine HF.out.mono ?_); rintro e w3 ⟨lb, rfl, hs, hb⟩; have HS := Lib.hid hs; clear hs)
  go_ret
  exact ⟨lb, rfl, HS.out, hb⟩
end Go.Proofs.YtohpaoleomcimaaGreat.cv
/-!   A drawn region in a round that holds no yield: walked outside of fences, by the kit's laws that take loads first. Imports nothing of the program.
-/
namespace Go.Proofs.YtohpaoleomcimaaGreat.rng
open Go.RowKit mem
set_option linter.unusedVariables false

theorem wpOpIn_of_plain {n : Nat} {P : Program} {ops : Array Oper} {Q : Exit → Act → World → Prop} {i : Nat} {K : Act → World → Prop} {a : Act} {w : World} (hL : ¬ LetsOut Q)
    (h : wpOp P ops Q i K a w) : wpOpIn Fence.wide n P ops Q i K a w := by
  unfold wpOp at h
  unfold wpOpIn
  cases ho : ops[i]? with
  | none => rw [ho] at h; exact h
  | some o =>
    rw [ho] at h
    simp only at h ⊢
    split
    · rename_i hw
      rw [if_pos hw] at h
      rcases h with h | ⟨_, h⟩
      · refine ⟨fun _ _ => trivial, ?_⟩
        rw [show Fence.wide.round = none from rfl, Oper.semAt_none]
        unfold Oper.wp at h
        generalize (execOp a.eval o).run P w = r at *
        cases r with
        | ok x w' =>
          cases x <;> simp only [Oper.upon, Oper.uponIn] at h ⊢
          case value => exact h
          case skip => exact h
          case defer => exact h
          case enter f args => exact ⟨fun h => by simp [Fence.wide] at h, callsIn_wide.2 (Calls.mono h (fun e w'' he => by cases e <;> exact he))⟩
          case row row args => exact ⟨fun h => by simp [Fence.wide] at h, fun c cs _ => by
            obtain ⟨v, w', r, s⟩ := h c cs
            exact ⟨v, w', r, stepsIn_wide.2 s⟩⟩
        | halt x w' =>
          cases x <;> simp only [Oper.upon, Oper.uponIn] at h ⊢
          all_goals first | exact h | exact h.elim
      · exact absurd h hL
    · rename_i hw
      rw [if_neg hw] at h
      exact ⟨fun _ _ => trivial, h⟩
theorem wpAnyIn_of_plain {n : Nat} {P : Program} {ops : Array Oper} {Q : Exit → Act → World → Prop} {md : Region.Mode} (hL : ¬ LetsOut Q) :
    ∀ {fuel : Nat} {listed : Array Bool} {a : Act} {w : World}, wpAny P md ops Q fuel listed a w → wpAnyIn Fence.wide n P md ops Q fuel listed a w := by
  intro fuel
  induction fuel with
  | zero => intro listed a w h; exact h
  | succ fuel ih => intro listed a w h; exact ⟨h.1, fun i hi => wpOpIn_of_plain hL (wpOp_mono (fun a' w' h' => ih h') (h.2 i hi))⟩
/-- **a drawn region in a round, no yield in it**: the kit's 'wpAnyH' is what is walked: loads are taken first (wpAnyH_take), calls by AllReadyH.cons -/
theorem wpIn_region_held {P : Program} {n l id : Nat} {ops : Array Oper} {Q : Exit → Act → World → Prop} {a : Act} {w : World} (S : World → Prop) (hm : P.follows .mixedOrders = true) (hd : noDefer ops = true) (hL : ¬ LetsOut Q)
    (h : wpAnyH P .any ops Q S ops.size (Array.replicate ops.size false) a w.drew) : (Code.region id ops true).wpIn (Fence.wide.inRound l) n P Q a w :=
  wpIn_region_round hm hd (wpAnyIn_of_plain hL (wpAny_of_held _ _ _ _ h))
/-- the same in a function's body -/
theorem wpIn_region_held' {P : Program} {n id : Nat} {ops : Array Oper} {Q : Exit → Act → World → Prop} {a : Act} {w : World} (S : World → Prop) (hm : P.follows .mixedOrders = true) (hL : ¬ LetsOut Q)
    (h : wpAnyH P .any ops Q S ops.size (Array.replicate ops.size false) a w.drew) : (Code.region id ops true).wpIn Fence.wide n P Q a w :=
  wpIn_region_any hm (wpAnyIn_of_plain hL (wpAny_of_held _ _ _ _ h))
#print axioms wpIn_region_held
end Go.Proofs.YtohpaoleomcimaaGreat.rng
