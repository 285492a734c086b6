/-
  Package runs: going through what of a span is in.
-/
import Derived.RangeFuncWrites
import Derived.Shelf.Abstract
import Derived.Shelf.RegionOpen
import Derived.WalkKit
import Derived.OwnWalkIn
import Derived.TacticsInMore
import Derived.LoopNIn
import Derived.LoopIn
import Derived.Test.YtgjkbejlfclpoaaRng
import Derived.Test.YtgjkbejlfclpoaaHeld
import Derived.Test.YtgjkbejlfclpoaaRunW
namespace Go.Proofs.Ytgjkbejlfclpoaa.rn
open Go.RowKit Go.Shelf aid mem rng sp
attribute [local go_sem] Oper.semAt_some
set_option linter.unusedVariables false
set_option linter.unusedSimpArgs false

/-- a region that is shown to end as it should -/
def OnlyN (Q : Exit → Act → World → Prop) : Exit → Act → World → Prop
  | .normal, a, w => Q .normal a w
  | _, _, _ => False
theorem OnlyN.normal {Q : Exit → Act → World → Prop} {a : Act} {w : World} (h : Q .normal a w) : OnlyN Q .normal a w := h
theorem OnlyN.imp {Q : Exit → Act → World → Prop} : ∀ (e : Exit) (a : Act) (w : World), OnlyN Q e a w → Q e a w := fun e a w h => by
  cases e <;> first | exact h | exact (h : False).elim
theorem wpIn_region_in {P : Program} {n id : Nat} {ops : Array Oper} {Q : Exit → Act → World → Prop} {a : Act} {w : World} (S : World → Prop) (hm : P.follows .mixedOrders = true)
    (h : wpAnyH P .any ops (OnlyN Q) S ops.size (Array.replicate ops.size false) a w.drew) : (Code.region id ops true).wpIn Fence.wide n P Q a w :=
  Code.wpIn_mono OnlyN.imp (wpIn_region_held' S hm (fun ⟨_, _, h⟩ => h) h)
theorem wpIn_region_inR {P : Program} {n l id : Nat} {ops : Array Oper} {Q : Exit → Act → World → Prop} {a : Act} {w : World} (S : World → Prop) (hm : P.follows .mixedOrders = true) (hd : noDefer ops = true)
    (h : wpAnyH P .any ops (OnlyN Q) S ops.size (Array.replicate ops.size false) a w.drew) : (Code.region id ops true).wpIn (Fence.wide.inRound l) n P Q a w :=
  Code.wpIn_mono OnlyN.imp (wpIn_region_held S hm hd (fun ⟨_, _, h⟩ => h) h)
abbrev spE (x : Sp) : Array Value := #[spV x]
theorem bd_drew {w w' : World} {B : Nat} (h : Below B w w') : Below B w w'.drew := ⟨h.os, h.tape, h.output, h.size, h.block⟩
/-- a row's part, as the code cuts it -/
theorem tw_step {l : List Sp} {s : Sp} {i : Nat} (h : i < l.length) : tw (l.drop i) s = if lenI (meetP (l.getD i (0, 0)) s) = 0 then [] else meetP (l.getD i (0, 0)) s :: tw (l.drop (i + 1)) s := by
  rw [drop_getD h, tw_cons]
theorem tw_end {l : List Sp} {s : Sp} {i : Nat} (h : l.length ≤ i) : tw (l.drop i) s = [] := by
  rw [List.drop_eq_nil_of_le h]; rfl
set_option maxRecDepth 100000 in
set_option maxHeartbeats 4000000 in
theorem parts1_seq {w : World} {v : Value} {a : Option Addr} {n cap : Nat} {l : List Sp} {s : Sp} {bx bs : Nat} {A : Nat → Prop} (hr : Rv w v a n cap l) (hl : Rn l) (hn : n < 1000000000000) (hx : w.cell? ⟨bx, 0, none⟩ = some v) (hs : SpAt w bs s) (hax : ¬ A bx) (has : ¬ A bs) (har : ∀ b ∈ blk a cap, ¬ A b) :
    SeqOf Try.prog 60 #[.pointer (some ⟨bx, 0, none⟩), .pointer (some ⟨bs, 0, none⟩)] spE (partsL l s) A w := by
  intro l' J Jx C0 W hW hC hJ hJx hY h0
  have c0 := kcell hW hx
  have sW := hs.later hW
  have rW := hr.later hW
  have d0 := sW.c0
  have hlen := row_len hr.row
  have hle := rW.row.le
  have hmost := rW.row.most
  unfold maxLen at hmost
  obtain ⟨b1, b2, b3⟩ := bhd_spec hl s.1
  have HPA := Lib.hid (parts_at hl b2 b3)
  have ns : ¬ C0 bs := fun e => by
    rcases (hC _ e).1 with q | q
    · exact has q
    · have := hs.lt; omega
  have ng : ∀ b ∈ blk a cap, ¬ C0 b := fun b hb e => by
    rcases (hC _ e).1 with q | q
    · exact har b hb q
    · have := (hr.row.lt b hb).1; omega
  have HCS := Lib.hid (fun C W1 (hI : It C0 W C W1) => show SpAt W1 bs s from hI.kept.heap (k := bs) ns sW)
  have HCE := Lib.hid (fun C W1 (hI : It C0 W C W1) (g off : Nat) (ha : a = some ⟨g, off, none⟩) (i : Nat) (hi : i < n) => show W1.cell? ⟨g, off + i * 2, none⟩ = some (.int .i64 (l.getD i (0, 0)).1) ∧ W1.cell? ⟨g, off + i * 2 + 1, none⟩ = some (.int .i64 (l.getD i (0, 0)).2) from by
    obtain ⟨g', off', ha', hc⟩ := row_cells rW.row (by omega)
    rw [ha] at ha'
    injection ha' with ha'
    injection ha' with e1 e2
    subst e1 e2
    have hg : g ∈ blk a cap := by rw [ha, blk_some _ _ _ (by omega)]; simp
    exact ⟨hI.kept.cell (p := ⟨g, off + i * 2, none⟩) (ng g hg) (hc i hi).1, hI.kept.cell (p := ⟨g, off + i * 2 + 1, none⟩) (ng g hg) (hc i hi).2⟩)
  have HA := Lib.hid (fun X (hX : Below W.heap.size W X) => all_any (rW.later hX))
  have HB := Lib.hid (fun X (hX : Below W.heap.size W X) => behind_any (rW.later hX) hl (by omega) s.1)
  have HI0 := Lib.hid (It.refl (C0 := C0) (W := W) (fun k hk => (hC k hk).2))
  have HOWN := Lib.hid (fun X (hX : Below W.heap.size W X) => And.intro (hJ [] C0 W X h0 (Nat.le_refl _) (Steps.of_below hX _)) (HI0.out.own (Steps.of_below hX _)))
  have HY := Lib.hid (fun pre x C W1 hj (hs : W.heap.size ≤ W1.heap.size) hp => hY pre x C W1 hj hs hp)
  have HJ := Lib.hid hJ
  have HCA := Lib.hid (show W.drew.cell? ⟨bx, 0, none⟩ = some v ∧ W.drew.cell? ⟨bs, 0, none⟩ = some (.int .i64 s.1) from ⟨c0, d0⟩)
  have HROW := Lib.hid rW.row
  have HKC := Lib.hid (fun X (hX : Below W.heap.size W X) => And.intro (kcell hX c0) (kcell hX d0))
  have hMO : Try.prog.follows .mixedOrders = true := by kernel_rfl
  show Calls Try.prog 60 #[.func (.yield l') #[] #[], .pointer (some ⟨bx, 0, none⟩), .pointer (some ⟨bs, 0, none⟩)] W _
  clear hr hx hs hax has har hW hC hJ hJx hY h0 sW rW ns ng c0 d0 b2 b3
  generalize bhd l s.1 = r at *
  refine (callsIn_wide (n := 6)).1 ?_
  refine callsIn_of_wp Try.func60 rfl trivial ?_ rfl
  simp only [Try.ntmps60, List.size_toArray, List.length_cons, List.length_nil, Nat.reduceAdd, Nat.reduceSub, Array.replicate_succ, Array.replicate_zero, List.push_toArray, List.append_toArray, List.nil_append, List.cons_append]
  have hB0 : Below W.heap.size W W.drew := (Below.refl _ W).drew
  have hHeld : (fun w' => w'.cell? ⟨bx, 0, none⟩ = some v ∧ w'.cell? ⟨bs, 0, none⟩ = some (.int .i64 s.1)) W.drew := HCA.out
  gi_wp2
  have hrn' : r ≤ n := by omega
  by_cases hrn : r < n
  · obtain ⟨g, off, rfl, hc0⟩ := row_cells HROW.out (by omega)
    clear hc0
    have hcr : ¬ cap = r := by omega
    refine wpIn_region_in (S := (fun w' => w'.cell? ⟨bx, 0, none⟩ = some v ∧ w'.cell? ⟨bs, 0, none⟩ = some (.int .i64 s.1))) hMO ?_
    refine wpAnyH_take (i := 0) (oi := _) (v := ?_) rfl (by kernel_rfl) (by kernel_rfl) (by kernel_rfl) (fun _ _ _ h => h) (Or.inl ⟨by rfl, ?_⟩) (by assumption) ?_
    rotate_left
    · (first | (intro v hSw; (try dsimp only at hSw); go_simp; done) | (intro v hSw; (try dsimp only at hSw); go_simp; with_reducible rfl))
    (try simp only [List.getElem_toArray, List.getElem_cons_succ, List.getElem_cons_zero, Act.put, List.setIfInBounds_toArray, List.set_cons_zero, List.set_cons_succ])
    refine wpAnyH_take (i := 2) (oi := _) (v := ?_) rfl (by kernel_rfl) (by kernel_rfl) (by kernel_rfl) (fun _ _ _ h => h) (Or.inl ⟨by rfl, ?_⟩) (by assumption) ?_
    rotate_left
    · (first | (intro v hSw; (try dsimp only at hSw); go_simp; done) | (intro v hSw; (try dsimp only at hSw); go_simp; with_reducible rfl))
    (try simp only [List.getElem_toArray, List.getElem_cons_succ, List.getElem_cons_zero, Act.put, List.setIfInBounds_toArray, List.set_cons_zero, List.set_cons_succ])
    refine wpAnyH_take (i := 3) (oi := _) (v := ?_) rfl (by kernel_rfl) (by kernel_rfl) (by kernel_rfl) (fun _ _ _ h => h) (Or.inl ⟨by rfl, ?_⟩) (by assumption) ?_
    rotate_left
    · (first | (intro v hSw; (try dsimp only at hSw); go_simp; done) | (intro v hSw; (try dsimp only at hSw); go_simp; with_reducible rfl))
    (try simp only [List.getElem_toArray, List.getElem_cons_succ, List.getElem_cons_zero, Act.put, List.setIfInBounds_toArray, List.set_cons_zero, List.set_cons_succ])
    refine wpAnyH_take (i := 4) (oi := _) (v := ?_) rfl (by kernel_rfl) (by kernel_rfl) (by kernel_rfl) (fun _ _ _ h => h) (Or.inl ⟨by rfl, ?_⟩) (by assumption) ?_
    rotate_left
    · (first | (intro v hSw; (try dsimp only at hSw); go_simp; done) | (intro v hSw; (try dsimp only at hSw); go_simp; with_reducible rfl))
    (try simp only [List.getElem_toArray, List.getElem_cons_succ, List.getElem_cons_zero, Act.put, List.setIfInBounds_toArray, List.set_cons_zero, List.set_cons_succ])
    refine wpAnyH_take (i := 8) (oi := _) (v := ?_) rfl (by kernel_rfl) (by kernel_rfl) (by kernel_rfl) (fun _ _ _ h => h) (Or.inl ⟨by rfl, ?_⟩) (by assumption) ?_
    rotate_left
    · (first | (intro v hSw; (try dsimp only at hSw); go_simp; done) | (intro v hSw; (try dsimp only at hSw); go_simp; with_reducible rfl))
    (try simp only [List.getElem_toArray, List.getElem_cons_succ, List.getElem_cons_zero, Act.put, List.setIfInBounds_toArray, List.set_cons_zero, List.set_cons_succ])
    refine wpAnyH_ready (rs := [1]) (by kernel_rfl) (by simp) ?_
    refine AllReadyH.cons (o := _) rfl (fun K hK => ?_) AllReadyH.nil
    go_simp
    (with_reducible refine (HA.out _ hB0).mono ?_)
    rintro e v1 ⟨rfl, rfl⟩
    refine hK.out _ _ ?_ (fun hHeld => ?_)
    · ((try dsimp only); exact HKC.out _ hB0)
    clear hK K
    (try simp only [List.getElem_toArray, List.getElem_cons_succ, List.getElem_cons_zero, Act.put, List.setIfInBounds_toArray, List.set_cons_zero, List.set_cons_succ])
    refine wpAnyH_ready (rs := [5]) (by kernel_rfl) (by simp) ?_
    refine AllReadyH.cons (o := _) rfl (fun K hK => ?_) AllReadyH.nil
    go_simp
    (with_reducible refine (HB.out _ hB0).mono ?_)
    rintro e w2 ⟨rfl, h2⟩
    have hB2 := hB0.trans (h2.mono hB0.size)
    refine hK.out _ _ ?_ (fun hHeld => ?_)
    · ((try dsimp only); exact HKC.out _ hB2)
    clear hK K
    (try simp only [List.getElem_toArray, List.getElem_cons_succ, List.getElem_cons_zero, Act.put, List.setIfInBounds_toArray, List.set_cons_zero, List.set_cons_succ])
    refine wpAnyH_take (i := 6) (oi := _) (v := ?_) rfl (by kernel_rfl) (by kernel_rfl) (by kernel_rfl) (fun _ _ _ h => h) (Or.inl ⟨by rfl, ?_⟩) (by assumption) ?_
    rotate_left
    · (first | (intro v hSw; (try dsimp only at hSw); go_simp; done) | (intro v hSw; (try dsimp only at hSw); go_simp; with_reducible rfl))
    (try simp only [List.getElem_toArray, List.getElem_cons_succ, List.getElem_cons_zero, Act.put, List.setIfInBounds_toArray, List.set_cons_zero, List.set_cons_succ])
    refine wpAnyH_take (i := 7) (oi := _) (v := ?_) rfl (by kernel_rfl) (by kernel_rfl) (by kernel_rfl) (fun _ _ _ h => h) (Or.inl ⟨by rfl, ?_⟩) (by assumption) ?_
    rotate_left
    · (first | (intro v hSw; (try dsimp only at hSw); go_simp; done) | (intro v hSw; (try dsimp only at hSw); go_simp; with_reducible rfl))
    (try simp only [List.getElem_toArray, List.getElem_cons_succ, List.getElem_cons_zero, Act.put, List.setIfInBounds_toArray, List.set_cons_zero, List.set_cons_succ])
    refine wpAnyH_done (by kernel_rfl) ?_ _
    refine OnlyN.normal ?_
    obtain ⟨hj2, hi2⟩ := HOWN.out _ hB2
    have HJ0 := Lib.hid hj2
    have HIT := Lib.hid hi2
    clear hj2 hi2 hHeld h2 hB2 hB0
    gi_wp2
    gi_loopw [15] (fun u wr => ∃ (i : Nat) (pre : List Sp) (C : Nat → Prop), u = .int .i64 i ∧ i ≤ n - r ∧ pre ++ tw (l.drop (r + i)) s = partsL l s ∧ J pre C wr ∧ It C0 W C wr) (fun u _ => (n - r) - (intOf u).toNat)
    case atStart => exact ⟨0, [], C0, rfl, Nat.zero_le _, HPA.out, HJ0.out, HIT.out⟩
    case round =>
      obtain ⟨i, pre, C, rfl, hi, hp, hj, hI⟩ := hrel
      by_cases hlt : i < n - r
      · obtain ⟨e0, e1⟩ := HCE.out _ _ hI g off rfl (r + i) (by omega)
        rw [show off + (r + i) * 2 = off + r * 2 + i * 2 by omega] at e0 e1
        have sw := HCS.out _ _ hI
        rw [tw_step (by omega)] at hp
        generalize l.getD (r + i) (0, 0) = x at *
        have HMT := Lib.hid (fun X => meet_any x s X)
        generalize meetP x s = m at *
        have HLN := Lib.hid (fun X => len_any m X)
        have HP := Lib.hid hp
        have hWr := hI.kept.size
        have b5 := bal (w := wr) (.cells #[.int .i64 x.1, .int .i64 x.2] 24)
        have x5 := sp_new wr x
        have s5 := sw.later b5
        have q0 := x5.c0; have q1 := x5.c1; have q2 := s5.c0; have q3 := s5.c1
        have HJJ := Lib.hid (fun X (hX : Below wr.heap.size wr X) => And.intro (HJ.out pre C wr X hj hWr (Steps.of_below hX _)) (hI.own (Steps.of_below hX _)))
        clear hp hj hI sw x5 s5
        gi_wp2
        refine ⟨trivial, ?_⟩
        refine (callsIn_wide.2 (HMT.out _)).mono ?_
        rintro e w6 ⟨rfl, h6⟩
        have b6 := b5.trans (h6.mono b5.size)
        have b7 := b6.trans ((bal (w := w6) (.cells #[.int .i64 m.1, .int .i64 m.2] 24)).mono b6.size)
        have x7 := sp_new w6 m
        clear q0 q1 q2 q3 e0 e1
        have q0 := x7.c0; have q1 := x7.c1
        gi_wp2
        refine ⟨trivial, ?_⟩
        refine (callsIn_wide.2 (HLN.out _)).mono ?_
        rintro e w8 ⟨rfl, h8⟩
        have b8 := b7.trans (h8.mono b7.size)
        have x8 := x7.later h8
        obtain ⟨hj8, hI8⟩ := HJJ.out _ b8
        clear q0 q1
        have q0 := x8.c0; have q1 := x8.c1
        clear x7 x8 h8 b8 b7 h6 b6 b5
        by_cases hz : lenI m = 0
        · have hp := HP.out
          rw [if_pos hz, List.append_nil] at hp
          rw [hp] at hj8
          have HJ8 := Lib.hid hj8
          clear hj8 hp hI8
          gi_wp2
          refine ⟨(fun f hf => by cases hf), ?_⟩
          gi_wp2
          exact bodyPost_ret (v := .tuple #[]) (results_none rfl _ _ _) rfl ⟨⟨_, rfl⟩, C, .inl HJ8.out⟩
        · have hp := HP.out
          rw [if_neg hz] at hp
          have hp' : (pre ++ [m]) ++ tw (l.drop (r + i + 1)) s = partsL l s := by rw [← hp]; simp
          have hy := HY.out pre m C w8 hj8 hI8.kept.size ⟨_, hp'⟩
          obtain ⟨fn, tmps, assign, body, hyy, hYY⟩ := hy.at 5
          have HP' := Lib.hid hp'
          have HI8 := Lib.hid hI8
          clear hp hp' hy hj8 hI8
          gi_wp2
          refine hYY.mono ?_
          clear hyy hYY q0 q1
          rintro e w9 ⟨C2, hr2, ⟨rfl, hJ2⟩ | ⟨rfl, hJ2⟩⟩
          · have hI2 := HI8.out.round hr2
            clear hr2
            gi_wp2
            go_roundw
            case rel => exact ⟨i + 1, pre ++ [m], C2, by go_num, by omega, HP'.out, hJ2, hI2⟩
            case measure => simp [intOf]; omega
          · gi_wp2
            exact bodyPost_ret (v := .tuple #[]) (results_none rfl _ _ _) rfl ⟨⟨_, rfl⟩, C2, .inr ⟨_, hJ2⟩⟩
      · obtain rfl : i = n - r := by omega
        rw [tw_end (by omega), List.append_nil] at hp
        rw [hp] at hj
        have HJE := Lib.hid hj
        clear hj hp hI
        gi_wp2
        exact bodyPost_end (v := .tuple #[]) (results_none rfl _ _ _) rfl ⟨⟨_, rfl⟩, C, .inl HJE.out⟩
  · have HZ := Lib.hid (show n - r = 0 by omega)
    by_cases hcr : cap = r
    · obtain rfl : r = cap := hcr.symm
      cases a
      all_goals
        refine wpIn_region_in (S := (fun w' => w'.cell? ⟨bx, 0, none⟩ = some v ∧ w'.cell? ⟨bs, 0, none⟩ = some (.int .i64 s.1))) hMO ?_
        refine wpAnyH_take (i := 0) (oi := _) (v := ?_) rfl (by kernel_rfl) (by kernel_rfl) (by kernel_rfl) (fun _ _ _ h => h) (Or.inl ⟨by rfl, ?_⟩) (by assumption) ?_
        rotate_left
        · (first | (intro v hSw; (try dsimp only at hSw); go_simp; done) | (intro v hSw; (try dsimp only at hSw); go_simp; with_reducible rfl))
        (try simp only [List.getElem_toArray, List.getElem_cons_succ, List.getElem_cons_zero, Act.put, List.setIfInBounds_toArray, List.set_cons_zero, List.set_cons_succ])
        refine wpAnyH_take (i := 2) (oi := _) (v := ?_) rfl (by kernel_rfl) (by kernel_rfl) (by kernel_rfl) (fun _ _ _ h => h) (Or.inl ⟨by rfl, ?_⟩) (by assumption) ?_
        rotate_left
        · (first | (intro v hSw; (try dsimp only at hSw); go_simp; done) | (intro v hSw; (try dsimp only at hSw); go_simp; with_reducible rfl))
        (try simp only [List.getElem_toArray, List.getElem_cons_succ, List.getElem_cons_zero, Act.put, List.setIfInBounds_toArray, List.set_cons_zero, List.set_cons_succ])
        refine wpAnyH_take (i := 3) (oi := _) (v := ?_) rfl (by kernel_rfl) (by kernel_rfl) (by kernel_rfl) (fun _ _ _ h => h) (Or.inl ⟨by rfl, ?_⟩) (by assumption) ?_
        rotate_left
        · (first | (intro v hSw; (try dsimp only at hSw); go_simp; done) | (intro v hSw; (try dsimp only at hSw); go_simp; with_reducible rfl))
        (try simp only [List.getElem_toArray, List.getElem_cons_succ, List.getElem_cons_zero, Act.put, List.setIfInBounds_toArray, List.set_cons_zero, List.set_cons_succ])
        refine wpAnyH_take (i := 4) (oi := _) (v := ?_) rfl (by kernel_rfl) (by kernel_rfl) (by kernel_rfl) (fun _ _ _ h => h) (Or.inl ⟨by rfl, ?_⟩) (by assumption) ?_
        rotate_left
        · (first | (intro v hSw; (try dsimp only at hSw); go_simp; done) | (intro v hSw; (try dsimp only at hSw); go_simp; with_reducible rfl))
        (try simp only [List.getElem_toArray, List.getElem_cons_succ, List.getElem_cons_zero, Act.put, List.setIfInBounds_toArray, List.set_cons_zero, List.set_cons_succ])
        refine wpAnyH_take (i := 8) (oi := _) (v := ?_) rfl (by kernel_rfl) (by kernel_rfl) (by kernel_rfl) (fun _ _ _ h => h) (Or.inl ⟨by rfl, ?_⟩) (by assumption) ?_
        rotate_left
        · (first | (intro v hSw; (try dsimp only at hSw); go_simp; done) | (intro v hSw; (try dsimp only at hSw); go_simp; with_reducible rfl))
        (try simp only [List.getElem_toArray, List.getElem_cons_succ, List.getElem_cons_zero, Act.put, List.setIfInBounds_toArray, List.set_cons_zero, List.set_cons_succ])
        refine wpAnyH_ready (rs := [1]) (by kernel_rfl) (by simp) ?_
        refine AllReadyH.cons (o := _) rfl (fun K hK => ?_) AllReadyH.nil
        go_simp
        (with_reducible refine (HA.out _ hB0).mono ?_)
        rintro e v1 ⟨rfl, rfl⟩
        refine hK.out _ _ ?_ (fun hHeld => ?_)
        · ((try dsimp only); exact HKC.out _ hB0)
        clear hK K
        (try simp only [List.getElem_toArray, List.getElem_cons_succ, List.getElem_cons_zero, Act.put, List.setIfInBounds_toArray, List.set_cons_zero, List.set_cons_succ])
        refine wpAnyH_ready (rs := [5]) (by kernel_rfl) (by simp) ?_
        refine AllReadyH.cons (o := _) rfl (fun K hK => ?_) AllReadyH.nil
        go_simp
        (with_reducible refine (HB.out _ hB0).mono ?_)
        rintro e w2 ⟨rfl, h2⟩
        have hB2 := hB0.trans (h2.mono hB0.size)
        refine hK.out _ _ ?_ (fun hHeld => ?_)
        · ((try dsimp only); exact HKC.out _ hB2)
        clear hK K
        (try simp only [List.getElem_toArray, List.getElem_cons_succ, List.getElem_cons_zero, Act.put, List.setIfInBounds_toArray, List.set_cons_zero, List.set_cons_succ])
        refine wpAnyH_take (i := 6) (oi := _) (v := ?_) rfl (by kernel_rfl) (by kernel_rfl) (by kernel_rfl) (fun _ _ _ h => h) (Or.inl ⟨by rfl, ?_⟩) (by assumption) ?_
        rotate_left
        · (first | (intro v hSw; (try dsimp only at hSw); go_simp; done) | (intro v hSw; (try dsimp only at hSw); go_simp; with_reducible rfl))
        (try simp only [List.getElem_toArray, List.getElem_cons_succ, List.getElem_cons_zero, Act.put, List.setIfInBounds_toArray, List.set_cons_zero, List.set_cons_succ])
        refine wpAnyH_take (i := 7) (oi := _) (v := ?_) rfl (by kernel_rfl) (by kernel_rfl) (by kernel_rfl) (fun _ _ _ h => h) (Or.inl ⟨by rfl, ?_⟩) (by assumption) ?_
        rotate_left
        · (first | (intro v hSw; (try dsimp only at hSw); go_simp; done) | (intro v hSw; (try dsimp only at hSw); go_simp; with_reducible rfl))
        (try simp only [List.getElem_toArray, List.getElem_cons_succ, List.getElem_cons_zero, Act.put, List.setIfInBounds_toArray, List.set_cons_zero, List.set_cons_succ])
        refine wpAnyH_done (by kernel_rfl) ?_ _
        refine OnlyN.normal ?_
        obtain ⟨hj2, hi2⟩ := HOWN.out _ hB2
        have HJ0 := Lib.hid hj2
        have HIT := Lib.hid hi2
        clear hj2 hi2 hHeld h2 hB2 hB0
        gi_wp2
        gi_loopw [15] (fun u wr => ∃ (i : Nat) (pre : List Sp) (C : Nat → Prop), u = .int .i64 i ∧ i ≤ n - r ∧ pre ++ tw (l.drop (r + i)) s = partsL l s ∧ J pre C wr ∧ It C0 W C wr) (fun u _ => (n - r) - (intOf u).toNat)
        case atStart => exact ⟨0, [], C0, rfl, Nat.zero_le _, HPA.out, HJ0.out, HIT.out⟩
        case round =>
          obtain ⟨i, pre, C, rfl, hi, hp, hj, hI⟩ := hrel
          obtain rfl : i = 0 := by have := HZ.out; omega
          rw [tw_end (by omega), List.append_nil] at hp
          rw [hp] at hj
          have HJE := Lib.hid hj
          clear hj hp hI
          have hgz : ¬ 0 < n - r := by have := HZ.out; omega
          gi_wp2
          exact bodyPost_end (v := .tuple #[]) (results_none rfl _ _ _) rfl ⟨⟨_, rfl⟩, C, .inl HJE.out⟩
    · cases a
      all_goals
        refine wpIn_region_in (S := (fun w' => w'.cell? ⟨bx, 0, none⟩ = some v ∧ w'.cell? ⟨bs, 0, none⟩ = some (.int .i64 s.1))) hMO ?_
        refine wpAnyH_take (i := 0) (oi := _) (v := ?_) rfl (by kernel_rfl) (by kernel_rfl) (by kernel_rfl) (fun _ _ _ h => h) (Or.inl ⟨by rfl, ?_⟩) (by assumption) ?_
        rotate_left
        · (first | (intro v hSw; (try dsimp only at hSw); go_simp; done) | (intro v hSw; (try dsimp only at hSw); go_simp; with_reducible rfl))
        (try simp only [List.getElem_toArray, List.getElem_cons_succ, List.getElem_cons_zero, Act.put, List.setIfInBounds_toArray, List.set_cons_zero, List.set_cons_succ])
        refine wpAnyH_take (i := 2) (oi := _) (v := ?_) rfl (by kernel_rfl) (by kernel_rfl) (by kernel_rfl) (fun _ _ _ h => h) (Or.inl ⟨by rfl, ?_⟩) (by assumption) ?_
        rotate_left
        · (first | (intro v hSw; (try dsimp only at hSw); go_simp; done) | (intro v hSw; (try dsimp only at hSw); go_simp; with_reducible rfl))
        (try simp only [List.getElem_toArray, List.getElem_cons_succ, List.getElem_cons_zero, Act.put, List.setIfInBounds_toArray, List.set_cons_zero, List.set_cons_succ])
        refine wpAnyH_take (i := 3) (oi := _) (v := ?_) rfl (by kernel_rfl) (by kernel_rfl) (by kernel_rfl) (fun _ _ _ h => h) (Or.inl ⟨by rfl, ?_⟩) (by assumption) ?_
        rotate_left
        · (first | (intro v hSw; (try dsimp only at hSw); go_simp; done) | (intro v hSw; (try dsimp only at hSw); go_simp; with_reducible rfl))
        (try simp only [List.getElem_toArray, List.getElem_cons_succ, List.getElem_cons_zero, Act.put, List.setIfInBounds_toArray, List.set_cons_zero, List.set_cons_succ])
        refine wpAnyH_take (i := 4) (oi := _) (v := ?_) rfl (by kernel_rfl) (by kernel_rfl) (by kernel_rfl) (fun _ _ _ h => h) (Or.inl ⟨by rfl, ?_⟩) (by assumption) ?_
        rotate_left
        · (first | (intro v hSw; (try dsimp only at hSw); go_simp; done) | (intro v hSw; (try dsimp only at hSw); go_simp; with_reducible rfl))
        (try simp only [List.getElem_toArray, List.getElem_cons_succ, List.getElem_cons_zero, Act.put, List.setIfInBounds_toArray, List.set_cons_zero, List.set_cons_succ])
        refine wpAnyH_take (i := 8) (oi := _) (v := ?_) rfl (by kernel_rfl) (by kernel_rfl) (by kernel_rfl) (fun _ _ _ h => h) (Or.inl ⟨by rfl, ?_⟩) (by assumption) ?_
        rotate_left
        · (first | (intro v hSw; (try dsimp only at hSw); go_simp; done) | (intro v hSw; (try dsimp only at hSw); go_simp; with_reducible rfl))
        (try simp only [List.getElem_toArray, List.getElem_cons_succ, List.getElem_cons_zero, Act.put, List.setIfInBounds_toArray, List.set_cons_zero, List.set_cons_succ])
        refine wpAnyH_ready (rs := [1]) (by kernel_rfl) (by simp) ?_
        refine AllReadyH.cons (o := _) rfl (fun K hK => ?_) AllReadyH.nil
        go_simp
        (with_reducible refine (HA.out _ hB0).mono ?_)
        rintro e v1 ⟨rfl, rfl⟩
        refine hK.out _ _ ?_ (fun hHeld => ?_)
        · ((try dsimp only); exact HKC.out _ hB0)
        clear hK K
        (try simp only [List.getElem_toArray, List.getElem_cons_succ, List.getElem_cons_zero, Act.put, List.setIfInBounds_toArray, List.set_cons_zero, List.set_cons_succ])
        refine wpAnyH_ready (rs := [5]) (by kernel_rfl) (by simp) ?_
        refine AllReadyH.cons (o := _) rfl (fun K hK => ?_) AllReadyH.nil
        go_simp
        (with_reducible refine (HB.out _ hB0).mono ?_)
        rintro e w2 ⟨rfl, h2⟩
        have hB2 := hB0.trans (h2.mono hB0.size)
        refine hK.out _ _ ?_ (fun hHeld => ?_)
        · ((try dsimp only); exact HKC.out _ hB2)
        clear hK K
        (try simp only [List.getElem_toArray, List.getElem_cons_succ, List.getElem_cons_zero, Act.put, List.setIfInBounds_toArray, List.set_cons_zero, List.set_cons_succ])
        refine wpAnyH_take (i := 6) (oi := _) (v := ?_) rfl (by kernel_rfl) (by kernel_rfl) (by kernel_rfl) (fun _ _ _ h => h) (Or.inl ⟨by rfl, ?_⟩) (by assumption) ?_
        rotate_left
        · (first | (intro v hSw; (try dsimp only at hSw); go_simp; done) | (intro v hSw; (try dsimp only at hSw); go_simp; with_reducible rfl))
        (try simp only [List.getElem_toArray, List.getElem_cons_succ, List.getElem_cons_zero, Act.put, List.setIfInBounds_toArray, List.set_cons_zero, List.set_cons_succ])
        refine wpAnyH_take (i := 7) (oi := _) (v := ?_) rfl (by kernel_rfl) (by kernel_rfl) (by kernel_rfl) (fun _ _ _ h => h) (Or.inl ⟨by rfl, ?_⟩) (by assumption) ?_
        rotate_left
        · (first | (intro v hSw; (try dsimp only at hSw); go_simp; done) | (intro v hSw; (try dsimp only at hSw); go_simp; with_reducible rfl))
        (try simp only [List.getElem_toArray, List.getElem_cons_succ, List.getElem_cons_zero, Act.put, List.setIfInBounds_toArray, List.set_cons_zero, List.set_cons_succ])
        refine wpAnyH_done (by kernel_rfl) ?_ _
        refine OnlyN.normal ?_
        obtain ⟨hj2, hi2⟩ := HOWN.out _ hB2
        have HJ0 := Lib.hid hj2
        have HIT := Lib.hid hi2
        clear hj2 hi2 hHeld h2 hB2 hB0
        gi_wp2
        gi_loopw [15] (fun u wr => ∃ (i : Nat) (pre : List Sp) (C : Nat → Prop), u = .int .i64 i ∧ i ≤ n - r ∧ pre ++ tw (l.drop (r + i)) s = partsL l s ∧ J pre C wr ∧ It C0 W C wr) (fun u _ => (n - r) - (intOf u).toNat)
        case atStart => exact ⟨0, [], C0, rfl, Nat.zero_le _, HPA.out, HJ0.out, HIT.out⟩
        case round =>
          obtain ⟨i, pre, C, rfl, hi, hp, hj, hI⟩ := hrel
          obtain rfl : i = 0 := by have := HZ.out; omega
          rw [tw_end (by omega), List.append_nil] at hp
          rw [hp] at hj
          have HJE := Lib.hid hj
          clear hj hp hI
          have hgz : ¬ 0 < n - r := by have := HZ.out; omega
          gi_wp2
          exact bodyPost_end (v := .tuple #[]) (results_none rfl _ _ _) rfl ⟨⟨_, rfl⟩, C, .inl HJE.out⟩
-- behind parts1_seq
end Go.Proofs.Ytgjkbejlfclpoaa.rn
