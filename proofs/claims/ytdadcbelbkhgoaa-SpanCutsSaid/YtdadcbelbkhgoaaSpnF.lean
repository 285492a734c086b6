/-
  Package span: the ends of a span's pieces (numbers), and the iterator that tells them.
-/
import Derived.RangeFuncWrites
import Derived.Shelf.Abstract
import Derived.Shelf.RegionOpen
import Derived.WalkKit
import Derived.OwnWalkIn
import Derived.TacticsInMore
import Derived.LoopNIn
import Derived.LoopIn
import Derived.Test.YtdadcbelbkhgoaaRng
import Derived.Test.YtdadcbelbkhgoaaSpnO
namespace Go.Proofs.Ytdadcbelbkhgoaa.sp
open Go.RowKit Go.Shelf aid mem rng
attribute [local go_sem] Oper.semAt_some
set_option linter.unusedVariables false

def endsF : Nat → Int → Int → Int → List Int
  | 0, _, _, _ => []
  | n + 1, a, t, z => if a < t then (a + min z (t - a)) :: endsF n (a + min z (t - a)) t z else []
theorem endsF_enough : ∀ (n m : Nat) (a t z : Int), 1 ≤ z → (t - a).toNat ≤ n → (t - a).toNat ≤ m → endsF n a t z = endsF m a t z := by
  intro n
  induction n with
  | zero =>
    intro m a t z hz h1 h2
    cases m with
    | zero => rfl
    | succ m => simp only [endsF]; rw [if_neg (by omega)]
  | succ n ih =>
    intro m a t z hz h1 h2
    cases m with
    | zero => simp only [endsF]; rw [if_neg (by omega)]
    | succ m =>
      simp only [endsF]
      by_cases h : a < t
      · rw [if_pos h, if_pos h, ih m _ t z hz (by omega) (by omega)]
      · rw [if_neg h, if_neg h]
/-- where the pieces end -/
def endsE (a t z : Int) : List Int := endsF (t - a).toNat a t z
theorem endsE_nil {a t z : Int} (h : t ≤ a) : endsE a t z = [] := by
  unfold endsE
  rw [show (t - a).toNat = 0 by omega]
  rfl
theorem endsE_step {a t z : Int} (h : a < t) (hz : 1 ≤ z) : endsE a t z = (a + min z (t - a)) :: endsE (a + min z (t - a)) t z := by
  unfold endsE
  rw [show (t - a).toNat = ((t - a).toNat - 1) + 1 by omega]
  simp only [endsF]
  rw [if_pos h, endsF_enough ((t - a).toNat - 1) (t - (a + min z (t - a))).toNat _ t z hz (by omega) (by omega)]
def endsL (s : Int × Int) (z : Int) : List Int := if z < 1 then [] else endsE s.1 s.2 z

theorem ckc {w W : World} {b o : Nat} {v : Value} (hW : Below w.heap.size w W) (h : w.cell? ⟨b, o, none⟩ = some v) : W.cell? ⟨b, o, none⟩ = some v := (hW.cell (p := ⟨b, o, none⟩) (World.block_lt_of_cell? w _ h)).trans h
abbrev intE (x : Int) : Array Value := #[.int .i64 x]

set_option maxRecDepth 100000 in
set_option maxHeartbeats 4000000 in
theorem ends1_seq {w : World} {s : Int × Int} {z : Int} {bz bs : Nat} {A : Nat → Prop} (hs : SpAt w bs s) (hz : w.cell? ⟨bz, 0, none⟩ = some (.int .i64 z)) (hok : Ok s) (haz : ¬ A bz) (has : ¬ A bs) :
    SeqOf Try.prog 79 #[.pointer (some ⟨bz, 0, none⟩), .pointer (some ⟨bs, 0, none⟩)] intE (endsL s z) A w := by
  intro l J Jx C0 W hW hC hJ hJx hY h0
  have c0 := ckc hW hz
  have c1 := ckc hW hs.c0
  have c2 := ckc hW hs.c1
  have nz : ¬ C0 bz := fun e => by
    rcases (hC _ e).1 with a | a
    · exact haz a
    · have := World.block_lt_of_cell? w _ hz; simp only at this; omega
  have ns : ¬ C0 bs := fun e => by
    rcases (hC _ e).1 with a | a
    · exact has a
    · have := hs.lt; omega
  have i0 : It C0 W C0 W := It.refl (fun k hk => (hC k hk).2)
  obtain ⟨o1, o2, o3⟩ := hok
  show Calls Try.prog 79 #[.func (.yield l) #[] #[], .pointer (some ⟨bz, 0, none⟩), .pointer (some ⟨bs, 0, none⟩)] W _
  refine (callsIn_wide (n := 6)).1 ?_
  refine callsIn_of_wp Try.func79 rfl trivial ?_ rfl
  simp only [Try.ntmps79, List.size_toArray, List.length_cons, List.length_nil, Nat.reduceAdd, Nat.reduceSub, Array.replicate_succ, Array.replicate_zero, List.push_toArray, List.append_toArray, List.nil_append, List.cons_append]
  by_cases h1 : z < 1
  · have H : Hid (endsL s z = []) := Lib.hid (by unfold endsL; rw [if_pos h1])
    rw [H.out]
    have H0 := Lib.hid h0
    clear h0 hY hJ hJx hC hW i0
    gi_wp2
    exact bodyPost_ret (v := .tuple #[]) (results_none rfl _ _ _) rfl ⟨⟨_, rfl⟩, C0, .inl H0.out⟩
  · have H : Hid (endsL s z = endsE s.1 s.2 z) := Lib.hid (by unfold endsL; rw [if_neg h1])
    rw [H.out] at hY ⊢
    have HY := Lib.hid (fun pre x C W1 hj (hs : W.heap.size ≤ W1.heap.size) hp => hY pre x C W1 hj hs hp)
    have HC := Lib.hid (fun C W1 (hI : It C0 W C W1) => And.intro (hI.kept.cell (p := ⟨bz, 0, none⟩) nz c0) (And.intro (hI.kept.cell (p := ⟨bs, 0, none⟩) ns c1) (hI.kept.cell (p := ⟨bs, 1, none⟩) ns c2)))
    have H0 := Lib.hid h0
    have HI0 := Lib.hid i0
    clear h0 hY hJ hJx hC hW i0 hs hz haz has nz ns
    gi_wp2
    gi_loopw [4] (fun u wr => ∃ (i : Int) (pre : List Int) (C : Nat → Prop), u = .int .i64 i ∧ s.1 ≤ i ∧ i ≤ s.2 ∧ pre ++ endsE i s.2 z = endsE s.1 s.2 z ∧ J pre C wr ∧ It C0 W C wr) (fun u _ => (s.2 - intOf u).toNat)
    case atStart => exact ⟨s.1, [], C0, rfl, Int.le_refl _, o2, rfl, H0.out, HI0.out⟩
    case round =>
      obtain ⟨i, pre, C, rfl, p1, p2, hp, hj, hI⟩ := hrel
      clear c0 c1 c2
      obtain ⟨c0, c1, c2⟩ := HC.out _ _ hI
      by_cases hlt : i < s.2
      · have hst := endsE_step hlt (z := z) (by omega)
        rw [hst] at hp
        rcases (show min z (s.2 - i) = z ∧ z ≤ s.2 - i ∨ min z (s.2 - i) = s.2 - i ∧ s.2 - i < z by omega) with ⟨hmn, hq⟩ | ⟨hmn, hq⟩
        all_goals
          rw [hmn] at hp
          obtain ⟨m, hmm⟩ : ∃ m, m = i + min z (s.2 - i) := ⟨_, rfl⟩
          rw [hmn] at hmm
          rw [← hmm] at hp
          have hp' : (pre ++ [m]) ++ endsE m s.2 z = endsE s.1 s.2 z := by rw [← hp]; simp
          have hy := HY.out pre m C wr hj hI.kept.size ⟨endsE m s.2 z, hp'⟩
          rw [hmm] at hy
          obtain ⟨fn, tmps, assign, body, hyy, hYY⟩ := hy.at 5
          have hm1 : s.1 ≤ m ∧ m ≤ s.2 ∧ i < m := by omega
          have HM := Lib.hid hmm
          have HP := Lib.hid hp'
          have HI := Lib.hid hI
          have HM1 := Lib.hid hm1
          clear hst hp hp' hy hj hI hmm hmn hm1
          gi_wp2
          refine hYY.mono ?_
          clear hyy hYY c0 c1 c2
          rw [← HM.out]
          rintro e w3 ⟨C2, hr2, ⟨rfl, hJ2⟩ | ⟨rfl, hJ2⟩⟩
          · have hI2 := HI.out.round hr2
            clear hr2
            gi_wp2
            go_roundw
            case rel => exact ⟨m, pre ++ [m], C2, by rw [HM.out], HM1.out.1, HM1.out.2.1, HP.out, hJ2, hI2⟩
            case measure => have := HM1.out; have := HM.out; simp [intOf]; omega
          · gi_wp2
            exact bodyPost_ret (v := .tuple #[]) (results_none rfl _ _ _) rfl ⟨⟨_, rfl⟩, C2, .inr ⟨_, hJ2⟩⟩
      · have hE : endsE i s.2 z = [] := endsE_nil (by omega)
        rw [hE, List.append_nil] at hp
        rw [hp] at hj
        have HJ := Lib.hid hj
        clear hj hp hE hI
        gi_wp2
        exact bodyPost_end (v := .tuple #[]) (results_none rfl _ _ _) rfl ⟨⟨_, rfl⟩, C, .inl HJ.out⟩
end Go.Proofs.Ytdadcbelbkhgoaa.sp
