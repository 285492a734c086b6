/-
  Package avl: pairs of nodes; From, All, Back.
-/
import Derived.Test.YtdoedcfmhdnbgaaBavS
namespace Go.Proofs.Ytdoedcfmhdnbgaa.bv
open Go.RowKit Go.Shelf aid mem rng
attribute [local go_sem] Oper.semAt_some
set_option linter.unusedVariables false

abbrev kv (x : Nd) : Int × Vt := (x.2.1, x.2.2)
abbrev kvE (x : Int × Vt) : Array Value := #[.int .i64 x.1, .agg #[.int .i64 x.2.1, .int .i64 x.2.2]]
def isRet (c : Code) : Prop := c = .ret
theorem pre_map {α β : Type} (f : α → β) {a b : List α} (h : a <+: b) : a.map f <+: b.map f := by
  obtain ⟨t, rfl⟩ := h
  rw [List.map_append]
  exact List.prefix_append _ _

set_option maxRecDepth 100000 in
set_option maxHeartbeats 300000 in
theorem pairs1_seq {w : World} {gf : Nat} {lb : Array Value} {LN : List Nd} {A : Nat → Prop} {bx : Nat} (hseq : SeqOf Try.prog gf lb ndE LN A w) (eg : ∀ args w, (callFunc gf args).run Try.prog w = .ok (.enter gf args) w)
    (hn : ∀ x ∈ LN, w.cell? ⟨x.1, 0, none⟩ = some (.int .i64 x.2.1) ∧ (w.cell? ⟨x.1, 1, none⟩ = some (.int .i64 x.2.2.1) ∧ w.cell? ⟨x.1, 2, none⟩ = some (.int .i64 x.2.2.2)) ∧ ¬ A x.1)
    (hbx : w.cell? ⟨bx, 0, none⟩ = some (.func (.func gf) #[] lb)) :
    SeqOf Try.prog 95 #[.pointer (some ⟨bx, 0, none⟩)] kvE (LN.map kv) A w := by
  intro l J Jx C0 W hW hC hJ hJx hY h0
  have c0 := ck hW hbx
  show Calls Try.prog 95 #[.func (.yield l) #[] #[], .pointer (some ⟨bx, 0, none⟩)] W _
  refine (callsIn_wide (n := 6)).1 ?_
  refine callsIn_of_wp_marks Try.func95 rfl trivial ?_ rfl
  simp only [Try.ntmps95, List.size_toArray, List.length_cons, List.length_nil, Nat.reduceAdd, Nat.reduceSub, Array.replicate_succ, Array.replicate_zero, List.push_toArray, List.append_toArray, List.nil_append, List.cons_append]
  have hwb : Below W.heap.size W (W.alloc (.cells #[.func (.yield l) #[] #[]] 53)) := (Below.refl _ _).alloc (Nat.le_refl _) _
  have c1 := ck hwb c0
  gi_wp2
  refine wpIn_range' (gf := gf) (lb := lb) (L := LN) (A := A) (w0 := w) (encs := ndE) rfl eg hseq (hW.trans (hwb.mono hW.size)) (fun _ => rfl)
    (fun pre C W' => J (pre.map kv) C W' ∧ It C0 W C W' ∧ ¬ C W.heap.size ∧ W'.cell? ⟨W.heap.size, 0, none⟩ = some (.func (.yield l) #[] #[]))
    (fun c pre C W' => isRet c ∧ Jx (pre.map kv) C W') C0 ?hc0 ?hI ?hIx ?h0
    (fun x => { tmps := #[.func (.yield l) #[] #[], .pointer (some ⟨bx, 0, none⟩), .pointer (some ⟨W.heap.size, 0, none⟩), .pointer (some ⟨x.1, 0, none⟩), .func (.func gf) #[] lb, .pointer (some ⟨x.1, 0, none⟩), undef, undef, undef, undef, undef, undef, undef, undef, undef, undef, undef], defers := [] }) ?assign ?body ?done ?stop
  case hc0 => exact fun k hk => ⟨(hC k hk).1, Nat.lt_of_lt_of_le (hC k hk).2 hwb.size⟩
  case hI =>
    rintro s C X Y ⟨h1, h2, h3, h4⟩ hz hs
    have hs' : rng.Steps (fun k => k < W.heap.size ∨ C k) X Y := hs.mono (fun k _ hk => hk.imp (fun h => by simp; omega) id)
    have := hwb.size
    exact ⟨hJ _ _ _ _ h1 (by omega) hs', h2.own hs', h3, hs.cell (.inl (by simp)) h4⟩
  case hIx =>
    rintro c s C X Y ⟨h1, h2⟩ hz hs
    have hs' : rng.Steps (fun k => k < W.heap.size ∨ C k) X Y := hs.mono (fun k _ hk => hk.imp (fun h => by simp; omega) id)
    have := hwb.size
    exact ⟨h1, hJx _ _ _ _ h2 (by omega) hs'⟩
  case h0 =>
    have ss := Steps.of_below hwb (fun k => k < W.heap.size ∨ C0 k)
    exact ⟨hJ _ _ _ _ h0 (Nat.le_refl _) ss, (It.refl (fun k hk => (hC k hk).2)).own ss, fun e => by have := (hC _ e).2; omega, (cell_of_row _ W.heap.size 0 _ _ (0, 0) (heap_alloc_new W _)).trans rfl⟩
  case assign =>
    intro l' x X K hK
    gi_wp2
    exact hK
  case body =>
    rintro l' pre x C X ⟨h1, h2, h3, h4⟩ hp hcb hz
    have hp' := pre_map kv hp
    rw [List.map_append] at hp'
    have j1 := hJ _ _ _ _ h1 h2.kept.size (rng.Steps.drew _ X)
    have hy := (hY _ _ _ X.drew j1 h2.kept.size hp').mono (fun e w h => one_way (X := fun C' => J (pre.map kv ++ [kv x]) C' w) (Y := fun C' => Jx (pre.map kv ++ [kv x]) C' w) h)
    have hxm : x ∈ LN := hp.subset (by simp)
    obtain ⟨n0, n1, n2⟩ := hn x hxm
    have nc : ¬ C0 x.1 := fun e => by
      rcases (hC _ e).1 with a | a
      · exact n2 a
      · have := World.block_lt_of_cell? w _ n0; simp only at this; omega
    have d0 := h2.kept.cell (p := ⟨x.1, 0, none⟩) nc (ck hW n0)
    have d1 := h2.kept.cell (p := ⟨x.1, 1, none⟩) nc (ck hW n1.1)
    have d1' := h2.kept.cell (p := ⟨x.1, 2, none⟩) nc (ck hW n1.2)
    obtain ⟨fn, tmps, assign, body, hyy, hYY⟩ := hy.at 3
    have e0 : X.drew.cell? ⟨x.1, 0, none⟩ = some (.int .i64 x.2.1) := d0
    have e1 : X.drew.cell? ⟨x.1, 1, none⟩ = some (.int .i64 x.2.2.1) := d1
    have e1' : X.drew.cell? ⟨x.1, 2, none⟩ = some (.int .i64 x.2.2.2) := d1'
    have e2 : X.drew.cell? ⟨W.heap.size, 0, none⟩ = some (.func (.yield l) #[] #[]) := h4
    have rd : Round C X C X.drew := ⟨rng.Steps.drew _ X, fun _ h => .inl h⟩
    have HN := Lib.hid (fun (C3 : Nat → Prop) (w3 : World) (hr : Round C X.drew C3 w3) (hj : J (pre.map kv ++ [kv x]) C3 w3) => show ∃ C', Round C X C' w3 ∧ (J ((pre ++ [x]).map kv) C' w3 ∧ It C0 W C' w3 ∧ ¬ C' W.heap.size ∧ w3.cell? ⟨W.heap.size, 0, none⟩ = some (.func (.yield l) #[] #[])) from
      ⟨C3, rd.trans hr, by rw [List.map_append]; exact hj, h2.round (rd.trans hr), fun e => by
        rcases hr.2 _ e with a | a
        · exact h3 a
        · have hz' : W.heap.size + 1 ≤ X.heap.size := by simpa using hz
          have : X.drew.heap.size = X.heap.size := rfl
          omega, (rd.trans hr).1.cell h3 h4⟩)
    have HS := Lib.hid (fun (C3 : Nat → Prop) (w3 : World) (hr : Round C X.drew C3 w3) (hj : Jx (pre.map kv ++ [kv x]) C3 w3) => show ∃ C', Round C X C' w3 ∧ (isRet Code.ret ∧ Jx ((pre ++ [x]).map kv) C' w3) from
      ⟨C3, rd.trans hr, rfl, by rw [List.map_append]; exact hj⟩)
    clear hseq eg hn hbx hW hJ hJx hY h0 c0 c1 hwb hC hp hp' hcb hz hy j1 h1 h2 h3 h4 n0 n1 n2 nc d0 d1 d1' hxm rd
    have hmo : Try.prog.follows .mixedOrders = true := by kernel_rfl
    gi_wp2
    refine wpIn_region_round (by assumption) (by kernel_rfl) ?_
    refine wpAnyIn_take (i := 1) (v := (.pointer (some ⟨x.1, 0, none⟩))) rfl rfl (by kernel_rfl) (by kernel_rfl) (by kernel_rfl) (fun _ _ _ h => h) ⟨Or.inl ⟨by rfl, by intro w; go_simp⟩, fun _ => rfl⟩ ?_
    refine wpAnyIn_take (i := 2) (v := (.pointer (some ⟨x.1, 0, none⟩))) rfl rfl (by kernel_rfl) (by kernel_rfl) (by kernel_rfl) (fun _ _ _ h => h) ⟨Or.inl ⟨by rfl, by intro w; go_simp⟩, fun _ => rfl⟩ ?_
    refine wpAnyIn_take (i := 3) (v := (.pointer (some ⟨x.1, 0, none⟩))) rfl rfl (by kernel_rfl) (by kernel_rfl) (by kernel_rfl) (fun _ _ _ h => h) ⟨Or.inl ⟨by rfl, by intro w; go_simp⟩, fun _ => rfl⟩ ?_
    refine wpAnyIn_take (i := 5) (v := (.pointer (some ⟨x.1, 0, none⟩))) rfl rfl (by kernel_rfl) (by kernel_rfl) (by kernel_rfl) (fun _ _ _ h => h) ⟨Or.inl ⟨by rfl, by intro w; go_simp⟩, fun _ => rfl⟩ ?_
    refine wpAnyIn_take (i := 6) (v := (.pointer (some ⟨x.1, 0, none⟩))) rfl rfl (by kernel_rfl) (by kernel_rfl) (by kernel_rfl) (fun _ _ _ h => h) ⟨Or.inl ⟨by rfl, by intro w; go_simp⟩, fun _ => rfl⟩ ?_
    refine wpAnyIn_take (i := 7) (v := (.pointer (some ⟨x.1, 1, none⟩))) rfl rfl (by kernel_rfl) (by kernel_rfl) (by kernel_rfl) (fun _ _ _ h => h) ⟨Or.inl ⟨by rfl, by intro w; go_simp⟩, fun _ => rfl⟩ ?_
    refine wpAnyIn_ready (rs := [0, 4, 8]) (by kernel_rfl) (by simp) ?_
    refine AllReadyIn.cons rfl (fun K hK => ?_) ?_
    · go_simp
      refine hK _ _ ?_
      clear hK K
      refine wpAnyIn_ready (rs := [4, 8]) (by kernel_rfl) (by simp) ?_
      refine AllReadyIn.cons rfl (fun K hK => ?_) ?_
      · go_simp
        refine hK _ _ ?_
        clear hK K
        refine wpAnyIn_ready (rs := [8]) (by kernel_rfl) (by simp) ?_
        refine AllReadyIn.cons rfl (fun K hK => ?_) ?_
        · go_simp
          refine hK _ _ ?_
          clear hK K
          refine wpAnyIn_ready (rs := [9]) (by kernel_rfl) (by simp) ?_
          refine AllReadyIn.cons rfl (fun K hK => ?_) ?_
          · go_simp
            refine hYY.mono ?_
            rintro e w3 ⟨bo, rfl, hr3⟩
            clear hyy hYY e0 e1 e1' e2
            refine hK _ _ ?_
            clear hK K
            refine wpAnyIn_take (i := 10) (v := (.bool (!bo))) rfl rfl (by kernel_rfl) (by kernel_rfl) (by kernel_rfl) (fun _ _ _ h => h) ⟨Or.inl ⟨by rfl, by intro w; go_simp⟩, fun _ => rfl⟩ ?_
            refine wpAnyIn_done (by kernel_rfl) ?_ _
            obtain ⟨C3, hr4, ⟨rfl, h3'⟩ | ⟨rfl, h3'⟩⟩ := hr3
            · gi_wp2
              exact HN.out _ _ hr4 h3'
            · gi_wp2
              exact HS.out _ _ hr4 h3'
          exact AllReadyIn.nil
        exact AllReadyIn.nil
      refine AllReadyIn.cons rfl (fun K hK => ?_) ?_
      · go_simp
        refine hK _ _ ?_
        clear hK K
        refine wpAnyIn_ready (rs := [4]) (by kernel_rfl) (by simp) ?_
        refine AllReadyIn.cons rfl (fun K hK => ?_) ?_
        · go_simp
          refine hK _ _ ?_
          clear hK K
          refine wpAnyIn_ready (rs := [9]) (by kernel_rfl) (by simp) ?_
          refine AllReadyIn.cons rfl (fun K hK => ?_) ?_
          · go_simp
            refine hYY.mono ?_
            rintro e w3 ⟨bo, rfl, hr3⟩
            clear hyy hYY e0 e1 e1' e2
            refine hK _ _ ?_
            clear hK K
            refine wpAnyIn_take (i := 10) (v := (.bool (!bo))) rfl rfl (by kernel_rfl) (by kernel_rfl) (by kernel_rfl) (fun _ _ _ h => h) ⟨Or.inl ⟨by rfl, by intro w; go_simp⟩, fun _ => rfl⟩ ?_
            refine wpAnyIn_done (by kernel_rfl) ?_ _
            obtain ⟨C3, hr4, ⟨rfl, h3'⟩ | ⟨rfl, h3'⟩⟩ := hr3
            · gi_wp2
              exact HN.out _ _ hr4 h3'
            · gi_wp2
              exact HS.out _ _ hr4 h3'
          exact AllReadyIn.nil
        exact AllReadyIn.nil
      exact AllReadyIn.nil
    refine AllReadyIn.cons rfl (fun K hK => ?_) ?_
    · go_simp
      refine hK _ _ ?_
      clear hK K
      refine wpAnyIn_ready (rs := [0, 8]) (by kernel_rfl) (by simp) ?_
      refine AllReadyIn.cons rfl (fun K hK => ?_) ?_
      · go_simp
        refine hK _ _ ?_
        clear hK K
        refine wpAnyIn_ready (rs := [8]) (by kernel_rfl) (by simp) ?_
        refine AllReadyIn.cons rfl (fun K hK => ?_) ?_
        · go_simp
          refine hK _ _ ?_
          clear hK K
          refine wpAnyIn_ready (rs := [9]) (by kernel_rfl) (by simp) ?_
          refine AllReadyIn.cons rfl (fun K hK => ?_) ?_
          · go_simp
            refine hYY.mono ?_
            rintro e w3 ⟨bo, rfl, hr3⟩
            clear hyy hYY e0 e1 e1' e2
            refine hK _ _ ?_
            clear hK K
            refine wpAnyIn_take (i := 10) (v := (.bool (!bo))) rfl rfl (by kernel_rfl) (by kernel_rfl) (by kernel_rfl) (fun _ _ _ h => h) ⟨Or.inl ⟨by rfl, by intro w; go_simp⟩, fun _ => rfl⟩ ?_
            refine wpAnyIn_done (by kernel_rfl) ?_ _
            obtain ⟨C3, hr4, ⟨rfl, h3'⟩ | ⟨rfl, h3'⟩⟩ := hr3
            · gi_wp2
              exact HN.out _ _ hr4 h3'
            · gi_wp2
              exact HS.out _ _ hr4 h3'
          exact AllReadyIn.nil
        exact AllReadyIn.nil
      refine AllReadyIn.cons rfl (fun K hK => ?_) ?_
      · go_simp
        refine hK _ _ ?_
        clear hK K
        refine wpAnyIn_ready (rs := [0]) (by kernel_rfl) (by simp) ?_
        refine AllReadyIn.cons rfl (fun K hK => ?_) ?_
        · go_simp
          refine hK _ _ ?_
          clear hK K
          refine wpAnyIn_ready (rs := [9]) (by kernel_rfl) (by simp) ?_
          refine AllReadyIn.cons rfl (fun K hK => ?_) ?_
          · go_simp
            refine hYY.mono ?_
            rintro e w3 ⟨bo, rfl, hr3⟩
            clear hyy hYY e0 e1 e1' e2
            refine hK _ _ ?_
            clear hK K
            refine wpAnyIn_take (i := 10) (v := (.bool (!bo))) rfl rfl (by kernel_rfl) (by kernel_rfl) (by kernel_rfl) (fun _ _ _ h => h) ⟨Or.inl ⟨by rfl, by intro w; go_simp⟩, fun _ => rfl⟩ ?_
            refine wpAnyIn_done (by kernel_rfl) ?_ _
            obtain ⟨C3, hr4, ⟨rfl, h3'⟩ | ⟨rfl, h3'⟩⟩ := hr3
            · gi_wp2
              exact HN.out _ _ hr4 h3'
            · gi_wp2
              exact HS.out _ _ hr4 h3'
          exact AllReadyIn.nil
        exact AllReadyIn.nil
      exact AllReadyIn.nil
    refine AllReadyIn.cons rfl (fun K hK => ?_) ?_
    · go_simp
      refine hK _ _ ?_
      clear hK K
      refine wpAnyIn_ready (rs := [0, 4]) (by kernel_rfl) (by simp) ?_
      refine AllReadyIn.cons rfl (fun K hK => ?_) ?_
      · go_simp
        refine hK _ _ ?_
        clear hK K
        refine wpAnyIn_ready (rs := [4]) (by kernel_rfl) (by simp) ?_
        refine AllReadyIn.cons rfl (fun K hK => ?_) ?_
        · go_simp
          refine hK _ _ ?_
          clear hK K
          refine wpAnyIn_ready (rs := [9]) (by kernel_rfl) (by simp) ?_
          refine AllReadyIn.cons rfl (fun K hK => ?_) ?_
          · go_simp
            refine hYY.mono ?_
            rintro e w3 ⟨bo, rfl, hr3⟩
            clear hyy hYY e0 e1 e1' e2
            refine hK _ _ ?_
            clear hK K
            refine wpAnyIn_take (i := 10) (v := (.bool (!bo))) rfl rfl (by kernel_rfl) (by kernel_rfl) (by kernel_rfl) (fun _ _ _ h => h) ⟨Or.inl ⟨by rfl, by intro w; go_simp⟩, fun _ => rfl⟩ ?_
            refine wpAnyIn_done (by kernel_rfl) ?_ _
            obtain ⟨C3, hr4, ⟨rfl, h3'⟩ | ⟨rfl, h3'⟩⟩ := hr3
            · gi_wp2
              exact HN.out _ _ hr4 h3'
            · gi_wp2
              exact HS.out _ _ hr4 h3'
          exact AllReadyIn.nil
        exact AllReadyIn.nil
      refine AllReadyIn.cons rfl (fun K hK => ?_) ?_
      · go_simp
        refine hK _ _ ?_
        clear hK K
        refine wpAnyIn_ready (rs := [0]) (by kernel_rfl) (by simp) ?_
        refine AllReadyIn.cons rfl (fun K hK => ?_) ?_
        · go_simp
          refine hK _ _ ?_
          clear hK K
          refine wpAnyIn_ready (rs := [9]) (by kernel_rfl) (by simp) ?_
          refine AllReadyIn.cons rfl (fun K hK => ?_) ?_
          · go_simp
            refine hYY.mono ?_
            rintro e w3 ⟨bo, rfl, hr3⟩
            clear hyy hYY e0 e1 e1' e2
            refine hK _ _ ?_
            clear hK K
            refine wpAnyIn_take (i := 10) (v := (.bool (!bo))) rfl rfl (by kernel_rfl) (by kernel_rfl) (by kernel_rfl) (fun _ _ _ h => h) ⟨Or.inl ⟨by rfl, by intro w; go_simp⟩, fun _ => rfl⟩ ?_
            refine wpAnyIn_done (by kernel_rfl) ?_ _
            obtain ⟨C3, hr4, ⟨rfl, h3'⟩ | ⟨rfl, h3'⟩⟩ := hr3
            · gi_wp2
              exact HN.out _ _ hr4 h3'
            · gi_wp2
              exact HS.out _ _ hr4 h3'
          exact AllReadyIn.nil
        exact AllReadyIn.nil
      exact AllReadyIn.nil
    exact AllReadyIn.nil
  case done =>
    rintro D C X hD hCD ⟨h1, h2, h3, h4⟩ hK
    have hD' : W.heap.size ≤ D := Nat.le_trans hwb.size hD
    have hf := hJ _ _ _ (X.putObj D (.deferred none)) h1 h2.kept.size (rng.Steps.putObj _ _ _ _ (by rintro (e | e); omega; exact hCD e))
    have HF := Lib.hid hf
    clear hseq eg hn hbx hW hJ hJx hY h0 c0 c1 hwb hC h1 h2 h3 h4 hf
    gi_wp2
    refine ⟨by simp, .inl ⟨_, _, rfl, run_takeDeferred hK, ?_⟩⟩
    exact ⟨_, results_none rfl _ _ _, ⟨_, rfl⟩, C, .inl HF.out⟩
  case stop =>
    rintro D c pre C X hD hCD ⟨rfl, h2⟩ hK
    have hD' : W.heap.size ≤ D := Nat.le_trans hwb.size hD
    have hX : W.heap.size ≤ X.heap.size := by have := lt_of_block hK; omega
    have hf := hJx _ _ _ (X.putObj D (.deferred none)) h2 hX (rng.Steps.putObj _ _ _ _ (by rintro (e | e); omega; exact hCD e))
    have HF := Lib.hid hf
    clear hseq eg hn hbx hW hJ hJx hY h0 c0 c1 hwb hC h2 hf
    gi_wp2
    refine ⟨by simp, .inl ⟨_, _, rfl, run_takeDeferred hK, ?_⟩⟩
    exact ⟨_, results_none rfl _ _ _, ⟨_, rfl⟩, C, .inr ⟨_, HF.out⟩⟩
end Go.Proofs.Ytdoedcfmhdnbgaa.bv
