/-
  Layer 16's law: ProbeOnce.
-/
import Derived.Test.YtbmbibkomedooaaPrbP
namespace Go.Proofs.Ytbmbibkomedooaa.pb
open Go.RowKit aid mem sp
attribute [local go_sem ↓] Go.wp_at_zero Go.wp_at_succ
set_option linter.unusedVariables false
set_option linter.unusedSimpArgs false

theorem tell_off (ack : Int) (isDup : Bool) (d : Int × Int) (bare : Bool) : tellN Pb.off ack isDup d bare = 0 ∧ tellP Pb.off ack isDup d bare = Pb.off := ⟨rfl, rfl⟩
theorem tell_beyond {g : Bool} {fin ack : Int} {isDup : Bool} {d : Int × Int} {bare : Bool} (h : fin < ack) : tellN ⟨true, g, fin⟩ ack isDup d bare ≠ 0 := by
  have h2 : ¬ ack < fin := by omega
  unfold tellN asks qB
  cases g <;> simp [h, h2]
  split <;> simp
theorem tell_lost {g : Bool} {fin ack : Int} {isDup : Bool} {d : Int × Int} {bare : Bool} (h : tellN ⟨true, g, fin⟩ ack isDup d bare = 2) : g = true ∧ fin < ack := by
  unfold tellN asks qB at h
  cases g with
  | false => exfalso; revert h; simp; split <;> simp
  | true =>
    refine ⟨rfl, ?_⟩
    by_cases hf : fin < ack
    · exact hf
    · exfalso
      revert h
      simp only [if_true, hf, decide_false, Bool.not_true]
      repeat' split
      all_goals simp_all
abbrev cells7 (W : World) (b at' : Nat) (o : OpV) : Prop := W.cell? ⟨b, at', none⟩ = some (.int .u8 o.kind) ∧ W.cell? ⟨b, at' + 1, none⟩ = some (.int .i64 o.fin) ∧ W.cell? ⟨b, at' + 2, none⟩ = some (.bool o.again) ∧ W.cell? ⟨b, at' + 3, none⟩ = some (.int .i64 o.dup.1) ∧ W.cell? ⟨b, at' + 4, none⟩ = some (.int .i64 o.dup.2) ∧ W.cell? ⟨b, at' + 5, none⟩ = some (.bool o.isDup) ∧ W.cell? ⟨b, at' + 6, none⟩ = some (.bool o.bare)
theorem cells7_later {w W : World} {b at' : Nat} {o : OpV} (h : cells7 w b at' o) (hb : Below w.heap.size w W) : cells7 W b at' o := by
  obtain ⟨c0, c1, c2, c3, c4, c5, c6⟩ := h
  have lb := World.block_lt_of_cell? w _ c0
  exact ⟨(hb.cell (p := ⟨b, at', none⟩) lb).trans c0, (hb.cell (p := ⟨b, at' + 1, none⟩) lb).trans c1, (hb.cell (p := ⟨b, at' + 2, none⟩) lb).trans c2, (hb.cell (p := ⟨b, at' + 3, none⟩) lb).trans c3, (hb.cell (p := ⟨b, at' + 4, none⟩) lb).trans c4, (hb.cell (p := ⟨b, at' + 5, none⟩) lb).trans c5, (hb.cell (p := ⟨b, at' + 6, none⟩) lb).trans c6⟩
theorem PS.drew {w0 w : World} {B : Nat} {p : Pb} (h : PS w0 B p w) : PS w0 B p w.drew := h.later (Below.refl _ _).drew
/-- the probe as it was started, or off; how many losses were told -/
def OI (P : Pb) (p : Pb) (L : Nat) : Prop := (p = P ∧ L = 0) ∨ (p = Pb.off ∧ L ≤ 1)
set_option maxRecDepth 100000 in
set_option maxHeartbeats 4000000 in
theorem walk_ProbeOnce (w : World) (fin : Int) (hf : -9223372036854775808 ≤ fin ∧ fin ≤ 9223372036854775807) (g : Bool) (a : Option Addr) (n cap : Nat) (ops : List OpV) (hops : OpA w a n cap ops) :
    Calls Try.prog 5 #[.int .i64 fin, .bool g, .slice a n cap] w fun x w' => x = .returned (.bool true) ∧ Below w.heap.size w w' := by
  have hb := Below.refl w.heap.size w
  have hle := hops.le
  have hmost := hops.most
  unfold maxLen at hmost
  have HC := Lib.hid hops.cells
  clear hops
  by_cases hz : stE Pb.off fin = 0
  case neg =>
    have hz1 : (stE Pb.off fin != 0) = true := by simpa using hz
    have HP : Hid (stP Pb.off fin g = Pb.off) := Lib.hid (by unfold stP; rw [if_neg hz])
    have HS := Lib.hid (fun W B (S : PS w B Pb.off W) => start_ps S fin g)
    have hz2 : (stE Pb.off fin == 0) = false := by simpa using hz
    generalize stE Pb.off fin = e0 at *
    go_enter Try.func5, Try.ntmps5
    go_wp2_with (first
      | (go_at_call 7; (with_reducible refine (known_b hb).mono ?_); clear hb; rintro e w1 ⟨rfl, hb⟩; have HN := Lib.hid (ps_new hb))
      | (go_at_call 7; (with_reducible refine (known_b S2.below).mono ?_); rintro e w4 ⟨rfl, hb⟩)
      | (go_at_call 11; (with_reducible refine (HS.out _ _ HN.out).mono ?_); rintro e w2 ⟨rfl, S1, q⟩; clear q hb; rw [HP.out] at S1)
      | (go_at_call 15; (with_reducible refine (on_ps S1).mono ?_); rintro e w3 ⟨rfl, S2, q⟩; clear q S1))
    go_ret
    exact ⟨rfl, hb⟩
  have hz1 : (stE Pb.off fin != 0) = false := by simp [hz]
  have HP : Hid (stP Pb.off fin g = ⟨true, g, fin⟩) := Lib.hid (by unfold stP; rw [if_pos hz])
  clear hz
  go_enter Try.func5, Try.ntmps5
  go_wp2_with (first
    | (go_at_call 7; (with_reducible refine (known_b hb).mono ?_); clear hb; rintro e w1 ⟨rfl, hb⟩; have HN := Lib.hid (ps_new hb))
    | (go_at_call 11; (with_reducible refine (start_ps HN.out fin g).mono ?_); rintro e w2 ⟨rfl, S1, q⟩; clear q hb; rw [HP.out] at S1))
  obtain ⟨B, hB⟩ : ∃ B, w1.heap.size = B := ⟨_, rfl⟩
  rw [hB] at S1 ⊢
  clear hB HN HP hz1
  go_loopw [8, 9] (fun l i wr => ∃ (k L : Nat) (p : Pb), i = .int .i64 k ∧ l = .int .i64 L ∧ k ≤ n ∧ k ≤ 100 ∧ PS w B p wr ∧ Hid (OI ⟨true, g, fin⟩ p L)) (fun _ i _ => 100 - (intOf i).toNat)
  case atStart => exact ⟨0, 0, _, rfl, rfl, by omega, by omega, S1, Lib.hid (.inl ⟨rfl, rfl⟩)⟩
  case round =>
    clear S1
    obtain ⟨k, L, p, rfl, rfl, hk, hk3, S, HI⟩ := hrel
    by_cases hlt : k < n ∧ k < 100
    case neg =>
      have hL : (L : Int) ≤ 1 := by rcases HI.out with ⟨_, h⟩ | ⟨_, h⟩ <;> omega
      by_cases h1 : k < n
      · have h2 : ¬ k < 100 := by omega
        have hb := S.below
        go_wp2_with (go_at_call 7; (with_reducible refine (known_b hb).mono ?_); clear hb; rintro e w1 ⟨rfl, hb⟩)
        go_ret
        exact ⟨rfl, hb⟩
      · have hb := S.below
        go_wp2_with (go_at_call 7; (with_reducible refine (known_b hb).mono ?_); clear hb; rintro e w1 ⟨rfl, hb⟩)
        go_ret
        exact ⟨rfl, hb⟩
    obtain ⟨h1, h2⟩ := hlt
    obtain ⟨Bo, off, rfl, hc⟩ := HC.out (by omega)
    have hc := hc k h1
    generalize ops.getD k default = q at *
    have hc7 : cells7 w Bo (off + k * 7) q := ⟨hc.1, hc.2.1, hc.2.2.1, hc.2.2.2.1, hc.2.2.2.2.1, hc.2.2.2.2.2.1, hc.2.2.2.2.2.2.1⟩
    clear hc
    obtain ⟨kind, ack, again, ⟨d1, d2⟩, isDup, bare⟩ := q
    have HCC := Lib.hid (fun W (hb : Below w.heap.size w W) => cells7_later hc7 hb)
    clear hc7
    obtain ⟨c0, c1, c2, c3, c4, c5, c6⟩ := HCC.out _ S.below
    have HSS := Lib.hid (fun W (S : PS w B p W) => told_ps S ack isDup (d1, d2) bare)
    have HT := Lib.hid (show tellP p ack isDup (d1, d2) bare = if tellN p ack isDup (d1, d2) bare = 0 then p else Pb.off from rfl)
    have HON := Lib.hid (fun W (S : PS w B p W) => on_ps S)
    have HOO := Lib.hid (fun W p2 (S : PS w B p2 W) => on_ps S)
    rcases (show p = Pb.off ∨ (p = ⟨true, g, fin⟩ ∧ L = 0) from by rcases HI.out with h | ⟨h, _⟩; exact .inr h; exact .inl h) with hp | ⟨hp, hL⟩
    · have HI2 : Hid (OI ⟨true, g, fin⟩ Pb.off L) := Lib.hid (.inr ⟨rfl, by rcases HI.out with ⟨_, h⟩ | ⟨_, h⟩ <;> omega⟩)
      subst hp
      rw [(tell_off ack isDup (d1, d2) bare).1, (tell_off ack isDup (d1, d2) bare).2] at HSS
      clear HI HT
      go_wp2_with (go_at_call 15; (with_reducible refine (HON.out _ S).mono ?_); clear S c0 c1 c2 c3 c4 c5 c6; rintro e w3 ⟨rfl, S, q⟩; clear q)
      have T := S.drew
      clear S
      go_region_held3 (fun w' => cells7 w' Bo (off + k * 7) ⟨kind, ack, again, (d1, d2), isDup, bare⟩) (first | with_reducible exact HCC.out _ T.below | go_keep)
        ((go_at_call 14; (with_reducible refine (HSS.out _ T).mono ?_); rintro x w7 ⟨rfl, T7, hk7⟩; replace T := T7; clear T7 hk7))
      obtain ⟨c0, c1, c2, c3, c4, c5, c6⟩ := HCC.out _ T.below
      go_wp2_with (go_at_call 15; (with_reducible refine (HON.out _ T).mono ?_); clear T c0 c1 c2 c3 c4 c5 c6; rintro e w3 ⟨rfl, T, q⟩; clear q)
      all_goals
        go_roundw
        case rel => exact ⟨k + 1, L, Pb.off, by go_num, rfl, by omega, by omega, T, HI2⟩
        case measure => simp [intOf]; omega
    · subst hp hL
      clear HI HOO
      obtain ⟨N, hN⟩ : ∃ N, tellN ⟨true, g, fin⟩ ack isDup (d1, d2) bare = N := ⟨_, rfl⟩
      have hc := asks_cases ⟨true, g, fin⟩ ack isDup (d1, d2) bare
      rw [show asks ⟨true, g, fin⟩ ack isDup (d1, d2) bare = N from hN] at hc
      have HBY := Lib.hid (fun h => tell_beyond (g := g) (fin := fin) (ack := ack) (isDup := isDup) (d := (d1, d2)) (bare := bare) h)
      have HLO := Lib.hid (fun h => tell_lost (g := g) (fin := fin) (ack := ack) (isDup := isDup) (d := (d1, d2)) (bare := bare) h)
      rw [hN] at HBY HLO HT HSS
      generalize tellP ⟨true, g, fin⟩ ack isDup (d1, d2) bare = p2 at *
      clear hN
      rcases hc with rfl | rfl | rfl
      · obtain rfl : p2 = ⟨true, g, fin⟩ := HT.out
        have hle' : ¬ fin < ack := fun h => HBY.out h rfl
        have HI2 : Hid (OI ⟨true, g, fin⟩ ⟨true, g, fin⟩ 0) := Lib.hid (.inl ⟨rfl, rfl⟩)
        clear HBY HLO HT
        go_wp2_with (go_at_call 15; (with_reducible refine (HON.out _ S).mono ?_); clear S c0 c1 c2 c3 c4 c5 c6; rintro e w3 ⟨rfl, S, q⟩; clear q)
        have T := S.drew
        clear S
        go_region_held3 (fun w' => cells7 w' Bo (off + k * 7) ⟨kind, ack, again, (d1, d2), isDup, bare⟩) (first | with_reducible exact HCC.out _ T.below | with_reducible exact HCC.out _ T7.below | go_keep)
          ((go_at_call 14; (with_reducible refine (HSS.out _ T).mono ?_); rintro x w7 ⟨rfl, T7, hk7⟩; clear T hk7))
        obtain ⟨c0, c1, c2, c3, c4, c5, c6⟩ := HCC.out _ T7.below
        have HON2 := Lib.hid (fun W p2 (S : PS w B p2 W) => on_ps S)
        go_wp2_with (go_at_call 15; (with_reducible refine (HON2.out _ _ T7).mono ?_); clear T7; (try clear c0 c1 c2 c3 c4 c5 c6); rintro e w3 ⟨rfl, T7, q⟩; clear q)
        all_goals
          go_roundw
          case rel => exact ⟨k + 1, 0, _, by go_num, rfl, by omega, by omega, T7, HI2⟩
          case measure => simp [intOf]; omega
      · obtain rfl : p2 = Pb.off := HT.out
        have HI2 : Hid (OI ⟨true, g, fin⟩ Pb.off 0) := Lib.hid (.inr ⟨rfl, by omega⟩)
        clear HBY HLO HT
        go_wp2_with (go_at_call 15; (with_reducible refine (HON.out _ S).mono ?_); clear S c0 c1 c2 c3 c4 c5 c6; rintro e w3 ⟨rfl, S, q⟩; clear q)
        have T := S.drew
        clear S
        go_region_held3 (fun w' => cells7 w' Bo (off + k * 7) ⟨kind, ack, again, (d1, d2), isDup, bare⟩) (first | with_reducible exact HCC.out _ T.below | with_reducible exact HCC.out _ T7.below | go_keep)
          ((go_at_call 14; (with_reducible refine (HSS.out _ T).mono ?_); rintro x w7 ⟨rfl, T7, hk7⟩; clear T hk7))
        obtain ⟨c0, c1, c2, c3, c4, c5, c6⟩ := HCC.out _ T7.below
        have HON2 := Lib.hid (fun W p2 (S : PS w B p2 W) => on_ps S)
        go_wp2_with (go_at_call 15; (with_reducible refine (HON2.out _ _ T7).mono ?_); clear T7; (try clear c0 c1 c2 c3 c4 c5 c6); rintro e w3 ⟨rfl, T7, q⟩; clear q)
        all_goals
          go_roundw
          case rel => exact ⟨k + 1, 0, _, by go_num, rfl, by omega, by omega, T7, HI2⟩
          case measure => simp [intOf]; omega
      · obtain rfl : p2 = Pb.off := HT.out
        have HI2 : Hid (OI ⟨true, g, fin⟩ Pb.off 1) := Lib.hid (.inr ⟨rfl, by omega⟩)
        obtain ⟨rfl, hlo⟩ := HLO.out rfl
        clear HBY HLO HT
        go_wp2_with (go_at_call 15; (with_reducible refine (HON.out _ S).mono ?_); clear S c0 c1 c2 c3 c4 c5 c6; rintro e w3 ⟨rfl, S, q⟩; clear q)
        have T := S.drew
        clear S
        go_region_held3 (fun w' => cells7 w' Bo (off + k * 7) ⟨kind, ack, again, (d1, d2), isDup, bare⟩) (first | with_reducible exact HCC.out _ T.below | with_reducible exact HCC.out _ T7.below | go_keep)
          ((go_at_call 14; (with_reducible refine (HSS.out _ T).mono ?_); rintro x w7 ⟨rfl, T7, hk7⟩; clear T hk7))
        obtain ⟨c0, c1, c2, c3, c4, c5, c6⟩ := HCC.out _ T7.below
        have HON2 := Lib.hid (fun W p2 (S : PS w B p2 W) => on_ps S)
        go_wp2_with (go_at_call 15; (with_reducible refine (HON2.out _ _ T7).mono ?_); clear T7; (try clear c0 c1 c2 c3 c4 c5 c6); rintro e w3 ⟨rfl, T7, q⟩; clear q)
        all_goals
          go_roundw
          case rel => exact ⟨k + 1, 1, _, by go_num, rfl, by omega, by omega, T7, HI2⟩
          case measure => simp [intOf]; omega
end Go.Proofs.Ytbmbibkomedooaa.pb
