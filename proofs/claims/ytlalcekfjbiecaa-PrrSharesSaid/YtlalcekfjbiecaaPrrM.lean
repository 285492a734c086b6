/-
  Layer 18's law: in proportion.
-/
import Derived.Test.YtlalcekfjbiecaaPrrL
namespace Go.Proofs.Ytlalcekfjbiecaa.pr
open Go.RowKit aid mem
attribute [local go_sem ↓] Go.wp_at_zero Go.wp_at_succ
set_option linter.unusedVariables false
set_option linter.unusedSimpArgs false

/-- all that may go went, s came -/
def shp (m t W s : Int) : Pr := ⟨m, t, W, s, cd (s * t) W, 0, false⟩
/-- p more came -/
def shq (m t W s p : Int) : Pr := ⟨m, t, W, s + p, cd (s * t) W, cd ((s + p) * t) W - cd (s * t) W, false⟩
theorem cd_zero {t W : Int} (hW : 1 ≤ W) : cd (0 * t) W = 0 := by
  unfold cd
  rw [Int.zero_mul]
  exact Int.ediv_eq_zero_of_lt (by omega) (by omega)
theorem mono_p {t W s p : Int} (ht : 0 ≤ t) (hW : 1 ≤ W) (hp : 0 ≤ p) : cd (s * t) W ≤ cd ((s + p) * t) W :=
  cd_mono hW (by rw [Int.add_mul]; have := Int.mul_nonneg hp ht; omega)
theorem ack_shp {m t W s p : Int} (ht : 0 ≤ t) (hW : 1 ≤ W) (hs : 0 ≤ s) (hp : 0 ≤ p) (hp1 : p ≤ 65535) (hsp : s + p ≤ 1099511627776) : ack (shp m t W s) p (t + 1) = shq m t W s p := by
  have hm := mono_p (s := s) ht hW hp
  have hc : cm p = p := by unfold cm; omega
  unfold ack
  have hA : ackD (shp m t W s) p = ⟨m, t, W, s + p, cd (s * t) W, 0, false⟩ := by
    unfold ackD shp
    dsimp only
    rw [hc, show min (s + p) 1099511627776 = s + p from by omega]
  rw [hA]
  unfold room sh putL shq
  dsimp only
  rw [if_pos (by omega), show max (cd ((s + p) * t) W - cd (s * t) W) 0 = cd ((s + p) * t) W - cd (s * t) W from by omega]
theorem snd_shq {m t W s p : Int} (ht : 0 ≤ t) (hW : 1 ≤ W) (hp : 0 ≤ p) : sndE (shq m t W s p) (shq m t W s p).left = 0 ∧ snd (shq m t W s p) (shq m t W s p).left = shp m t W (s + p) := by
  have hm := mono_p (s := s) ht hW hp
  have hl : (shq m t W s p).left = cd ((s + p) * t) W - cd (s * t) W := rfl
  rw [hl]
  unfold sndE snd
  rw [hl, if_neg (by omega), if_neg (by omega), if_neg (by omega), if_neg (by omega)]
  refine ⟨rfl, ?_⟩
  unfold sent shq shp
  dsimp only
  rw [show cd (s * t) W + (cd ((s + p) * t) W - cd (s * t) W) = cd ((s + p) * t) W from by omega, Int.sub_self]
theorem nums_sp {t W s : Int} (ht0 : 1 ≤ t) (ht : t ≤ 1048576) (hW : 1 ≤ W) (hW1 : W ≤ 1048576) (hs : 0 ≤ s) (hs1 : s ≤ 16777216) :
    0 ≤ s * t ∧ s * t ≤ 17592186044416 ∧ s * t ≤ cd (s * t) W * W ∧ cd (s * t) W * W ≤ 17592187092992 ∧ (cd (s * t) W - 1) * W < s * t ∧ -1048576 ≤ (cd (s * t) W - 1) * W ∧ 0 ≤ cd (s * t) W ∧ cd (s * t) W ≤ 17592187092992 := by
  have h0 : 0 ≤ s * t := Int.mul_nonneg hs (by omega)
  have h1 : s * t ≤ s * 1048576 := Int.mul_le_mul_of_nonneg_left ht hs
  have h2 := cd_spec (P := s * t) hW
  have h3 : 0 ≤ cd (s * t) W := Int.ediv_nonneg (by omega) (by omega)
  have h4 : cd (s * t) W * 1 ≤ cd (s * t) W * W := Int.mul_le_mul_of_nonneg_left hW h3
  have h5 : 0 ≤ cd (s * t) W * W := Int.mul_nonneg h3 (by omega)
  rw [Int.sub_mul]
  generalize cd (s * t) W = q at *
  omega
theorem el_u16 {len : Nat} {zs : List Int} (h5 : ∀ n ∈ zs.take len, (Lit.int .u16 n).wf = true) (k : Nat) : 0 ≤ (zs.take len).getD k 0 ∧ (zs.take len).getD k 0 ≤ 65535 :=
  aid.getD_bd (fun n => 0 ≤ n ∧ n ≤ 65535) ⟨by decide, by decide⟩ (fun n hn => bounds_u16 (h5 n hn)) k

set_option maxRecDepth 100000 in
set_option maxHeartbeats 8000000 in
theorem walk_PrrShares (w : World) (m : Int) (hm : -9223372036854775808 ≤ m ∧ m ≤ 9223372036854775807) (f : Int) (hf : -9223372036854775808 ≤ f ∧ f ≤ 9223372036854775807) (t : Int) (ht : -9223372036854775808 ≤ t ∧ t ≤ 9223372036854775807)
    (a : Option Addr) (n cap : Nat) (zs : List Int) (hrow : IsRow .u16 w a n cap zs) :
    Calls Try.prog 5 #[.int .i64 m, .int .i64 f, .int .i64 t, .slice a n cap] w fun x w' => x = .returned (.bool true) ∧ Below w.heap.size w w' := by
  have hb := Below.refl w.heap.size w
  have hrow' : n ≤ 9223372036854775807 := by
    rcases hrow.elems with h | ⟨_, _, _, h, _⟩ <;> omega
  have HR := Lib.hid hrow.elems
  clear hrow hm hf ht
  cases hN : newB m f t with
  | false =>
    have HN := Lib.hid (fun W => new_bad (w := W) hN)
    clear hN
    go_enter Try.func5, Try.ntmps5
    go_wp2_with (first
      | (go_at_call 7; (with_reducible refine (known_b hb).mono ?_); clear hb; rintro e w1 ⟨rfl, hb⟩)
      | (go_at_call 8; (with_reducible refine (HN.out _).mono ?_); rintro e w2 ⟨rfl, rfl⟩))
    go_ret
    exact ⟨rfl, hb⟩
  | true =>
    have HN := Lib.hid hN
    clear hN
    obtain ⟨nm0, nm1, nf0, nf1, nt0, nt1⟩ := newB_ok HN.out
    have HNW := Lib.hid (fun W (hB : Below w.heap.size w W) => new_ps hB HN.out)
    have hW : ∃ W, (f < t ∧ W = t ∧ max f t = W) ∨ (t ≤ f ∧ W = f ∧ max f t = W) := by
      rcases Int.lt_or_le f t with h | h
      · exact ⟨t, .inl ⟨h, rfl, by omega⟩⟩
      · exact ⟨f, .inr ⟨h, rfl, by omega⟩⟩
    obtain ⟨W, hW⟩ := hW
    have hW0 : 1 ≤ W := by omega
    have hW1 : W ≤ 1048576 := by omega
    rcases hW with ⟨hc, hWe, hmx⟩ | ⟨hc, hWe, hmx⟩
    case inl =>
      rw [hmx] at HNW
      replace hWe := hWe.symm
      subst hWe
      have H0 := Lib.hid (cd_zero (t := t) hW0)
      have HAK := Lib.hid (fun s p h1 h2 h3 h4 => ack_shp (m := m) (s := s) (p := p) (show 0 ≤ t by omega) hW0 h1 h2 h3 h4)
      have HSN := Lib.hid (fun s p h1 => snd_shq (m := m) (s := s) (p := p) (show 0 ≤ t by omega) hW0 h1)
      have HNU := Lib.hid (fun s h1 h2 => nums_sp (s := s) nt0 nt1 hW0 hW1 h1 h2)
      clear hmx
      go_enter Try.func5, Try.ntmps5
      go_wp2_with (first
        | (go_at_call 7; (with_reducible refine (known_b hb).mono ?_); clear hb; rintro e w1 ⟨rfl, hb⟩)
        | (go_at_call 8; (with_reducible refine (HNW.out _ hb).mono ?_); rintro e w2 ⟨b, rfl, S⟩))
      replace S : PS w b 0 (shp m t t 0) w2 := by
        unfold shp
        rw [H0.out]
        exact S
      clear H0 HNW hb
      go_loopw [11, 12] (fun u i wr => ∃ (k : Nat) (s : Int), i = .int .i64 k ∧ u = .int .i64 s ∧ k ≤ n ∧ k ≤ 200 ∧ 0 ≤ s ∧ s ≤ k * 65535 ∧ PS w b k (shp m t t s) wr) (fun _ i _ => 200 - (intOf i).toNat)
      case atStart => exact ⟨0, 0, rfl, rfl, by omega, by omega, by omega, by omega, S⟩
      case round =>
        clear S
        obtain ⟨k, s, rfl, rfl, hk, hk2, hs0, hs1, S⟩ := hrel
        by_cases hlt : k < n ∧ k < 200
        case neg =>
          by_cases h1 : k < n
          · have h2 : ¬ k < 200 := by omega
            go_wp2_with (go_at_call 7; (with_reducible refine (known_ps S).mono ?_); clear S; rintro e w1 ⟨rfl, S⟩)
            go_ret
            exact ⟨rfl, S.below⟩
          · go_wp2_with (go_at_call 7; (with_reducible refine (known_ps S).mono ?_); clear S; rintro e w1 ⟨rfl, S⟩)
            go_ret
            exact ⟨rfl, S.below⟩
        case pos =>
        obtain ⟨h1, h2⟩ := hlt
        rcases HR.out with h | ⟨B, off, rfl, _, _, hcell, hwf⟩
        · omega
        have hz := el_u16 hwf k
        have HCE := Lib.hid (fun V (h : Below w.heap.size w V) => (h.cell (p := ⟨B, off + k, none⟩) (World.block_lt_of_cell? w _ (hcell k h1))).trans (hcell k h1))
        have c0 := HCE.out _ S.below
        clear hcell hwf
        generalize (zs.take n).getD k 0 = z at *
        obtain ⟨hz0, hz1⟩ := hz
        have HA1 := Lib.hid (HAK.out s z hs0 hz0 hz1 (by omega))
        have HS1 := Lib.hid (HSN.out s z hz0)
        have hnum := HNU.out (s + z) (by omega) (by omega)
        have hk300 : k < 300 := by omega
        have hpipe : -9223372036854775808 ≤ t + 1 ∧ t + 1 ≤ 9223372036854775807 := by omega
        have HOQ := Lib.hid (show (shp m t t (s + z)).out = cd ((s + z) * t) t ∧ (shp m t t (s + z)).left = 0 ∧ (shp m t t (s + z)).del = s + z from ⟨rfl, rfl, rfl⟩)
        have HYD := Lib.hid (show shp m t t (s + z) = shp m t t (s + z) from rfl)
        generalize cd ((s + z) * t) t = q at *
        obtain ⟨g0, g1, g2, g3, g4, g5, g6, g7⟩ := hnum
        go_wp2_with (first
          | (go_at_call 19; (with_reducible refine (ack_ps S hk300 _ _ hpipe).mono ?_); clear S c0; rintro e w3 ⟨rfl, S⟩; rw [HA1.out] at S ⊢; have c0 := HCE.out _ S.below)
          | (go_at_call 17; (with_reducible refine (sent_ps S _).mono ?_); clear S; rintro e w3 ⟨rfl, S⟩; rw [HS1.out.2] at S; rw [HS1.out.1])
          | (go_at_call 13; (with_reducible refine (left_ps S).mono ?_); clear S; rintro e w3 ⟨rfl, S⟩; rw [HOQ.out.2.1])
          | (go_at_call 15; (with_reducible refine (del_ps S).mono ?_); clear S; rintro e w3 ⟨rfl, S⟩; rw [HOQ.out.2.2])
          | (go_at_call 14; (with_reducible refine (out_ps S).mono ?_); clear S; rintro e w3 ⟨rfl, S⟩; rw [HOQ.out.1]))
        all_goals
          go_roundw
          case rel => exact ⟨k + 1, s + z, by go_num, rfl, by omega, by omega, by omega, by omega, S⟩
          case measure => simp [intOf]; omega
    case inr =>
      rw [hmx] at HNW
      replace hWe := hWe.symm
      subst hWe
      have H0 := Lib.hid (cd_zero (t := t) hW0)
      have HAK := Lib.hid (fun s p h1 h2 h3 h4 => ack_shp (m := m) (s := s) (p := p) (show 0 ≤ t by omega) hW0 h1 h2 h3 h4)
      have HSN := Lib.hid (fun s p h1 => snd_shq (m := m) (s := s) (p := p) (show 0 ≤ t by omega) hW0 h1)
      have HNU := Lib.hid (fun s h1 h2 => nums_sp (s := s) nt0 nt1 hW0 hW1 h1 h2)
      clear hmx
      go_enter Try.func5, Try.ntmps5
      go_wp2_with (first
        | (go_at_call 7; (with_reducible refine (known_b hb).mono ?_); clear hb; rintro e w1 ⟨rfl, hb⟩)
        | (go_at_call 8; (with_reducible refine (HNW.out _ hb).mono ?_); rintro e w2 ⟨b, rfl, S⟩))
      replace S : PS w b 0 (shp m t f 0) w2 := by
        unfold shp
        rw [H0.out]
        exact S
      clear H0 HNW hb
      go_loopw [11, 12] (fun u i wr => ∃ (k : Nat) (s : Int), i = .int .i64 k ∧ u = .int .i64 s ∧ k ≤ n ∧ k ≤ 200 ∧ 0 ≤ s ∧ s ≤ k * 65535 ∧ PS w b k (shp m t f s) wr) (fun _ i _ => 200 - (intOf i).toNat)
      case atStart => exact ⟨0, 0, rfl, rfl, by omega, by omega, by omega, by omega, S⟩
      case round =>
        clear S
        obtain ⟨k, s, rfl, rfl, hk, hk2, hs0, hs1, S⟩ := hrel
        by_cases hlt : k < n ∧ k < 200
        case neg =>
          by_cases h1 : k < n
          · have h2 : ¬ k < 200 := by omega
            go_wp2_with (go_at_call 7; (with_reducible refine (known_ps S).mono ?_); clear S; rintro e w1 ⟨rfl, S⟩)
            go_ret
            exact ⟨rfl, S.below⟩
          · go_wp2_with (go_at_call 7; (with_reducible refine (known_ps S).mono ?_); clear S; rintro e w1 ⟨rfl, S⟩)
            go_ret
            exact ⟨rfl, S.below⟩
        case pos =>
        obtain ⟨h1, h2⟩ := hlt
        rcases HR.out with h | ⟨B, off, rfl, _, _, hcell, hwf⟩
        · omega
        have hz := el_u16 hwf k
        have HCE := Lib.hid (fun V (h : Below w.heap.size w V) => (h.cell (p := ⟨B, off + k, none⟩) (World.block_lt_of_cell? w _ (hcell k h1))).trans (hcell k h1))
        have c0 := HCE.out _ S.below
        clear hcell hwf
        generalize (zs.take n).getD k 0 = z at *
        obtain ⟨hz0, hz1⟩ := hz
        have HA1 := Lib.hid (HAK.out s z hs0 hz0 hz1 (by omega))
        have HS1 := Lib.hid (HSN.out s z hz0)
        have hnum := HNU.out (s + z) (by omega) (by omega)
        have hk300 : k < 300 := by omega
        have hpipe : -9223372036854775808 ≤ t + 1 ∧ t + 1 ≤ 9223372036854775807 := by omega
        have HOQ := Lib.hid (show (shp m t f (s + z)).out = cd ((s + z) * t) f ∧ (shp m t f (s + z)).left = 0 ∧ (shp m t f (s + z)).del = s + z from ⟨rfl, rfl, rfl⟩)
        have HYD := Lib.hid (show shp m t f (s + z) = shp m t f (s + z) from rfl)
        generalize cd ((s + z) * t) f = q at *
        obtain ⟨g0, g1, g2, g3, g4, g5, g6, g7⟩ := hnum
        go_wp2_with (first
          | (go_at_call 19; (with_reducible refine (ack_ps S hk300 _ _ hpipe).mono ?_); clear S c0; rintro e w3 ⟨rfl, S⟩; rw [HA1.out] at S ⊢; have c0 := HCE.out _ S.below)
          | (go_at_call 17; (with_reducible refine (sent_ps S _).mono ?_); clear S; rintro e w3 ⟨rfl, S⟩; rw [HS1.out.2] at S; rw [HS1.out.1])
          | (go_at_call 13; (with_reducible refine (left_ps S).mono ?_); clear S; rintro e w3 ⟨rfl, S⟩; rw [HOQ.out.2.1])
          | (go_at_call 15; (with_reducible refine (del_ps S).mono ?_); clear S; rintro e w3 ⟨rfl, S⟩; rw [HOQ.out.2.2])
          | (go_at_call 14; (with_reducible refine (out_ps S).mono ?_); clear S; rintro e w3 ⟨rfl, S⟩; rw [HOQ.out.1]))
        all_goals
          go_roundw
          case rel => exact ⟨k + 1, s + z, by go_num, rfl, by omega, by omega, by omega, by omega, S⟩
          case measure => simp [intOf]; omega
end Go.Proofs.Ytlalcekfjbiecaa.pr
