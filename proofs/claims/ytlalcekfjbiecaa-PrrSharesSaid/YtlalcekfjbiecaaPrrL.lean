/-
  Layer 18's law: the bound.
-/
import Derived.Test.YtlalcekfjbiecaaPrrD
namespace Go.Proofs.Ytlalcekfjbiecaa.pr
open Go.RowKit aid mem
attribute [local go_sem ↓] Go.wp_at_zero Go.wp_at_succ
set_option linter.unusedVariables false
set_option linter.unusedSimpArgs false

/-- what the law asks of an episode -/
structure Bd (a : Nat) (m t W : Int) (x : Pr) : Prop where
  inv : Inv a x
  em : x.mss = m
  et : x.thresh = t
  ew : x.whole = W
theorem Bd.nums {a : Nat} {m t W : Int} {x : Pr} (h : Bd a m t W x) (ha : a ≤ 300) : x.out ≤ x.del + a * m + m ∧ 0 ≤ x.left ∧ 0 ≤ a * m ∧ a * m ≤ 614400 ∧ 0 ≤ x.del ∧ x.del ≤ 1099511627776 ∧ 0 ≤ x.out ∧ 0 ≤ x.del * t ∧ x.del * t ≤ 1152921504606846976 ∧ 0 ≤ (x.del * t + W - 1) / W ∧ (x.del * t + W - 1) / W ≤ 1099511627776 := by
  obtain ⟨⟨ho, hd, hb⟩, rfl, rfl, rfl⟩ := h
  have hp := prod_bd ho
  have hs := sh_bd ho
  unfold sh cd at hs
  have e1 : (a : Int) * x.mss ≤ a * 2048 := Int.mul_le_mul_of_nonneg_left ho.m1 (by omega)
  have e4 : 0 ≤ (a : Int) * x.mss := Int.mul_nonneg (by omega) (by have := ho.m0; omega)
  have e2 : (if x.first = true then x.mss else 0) ≤ x.mss := by have := ho.m0; split <;> omega
  have := ho.l0; have := ho.o0; have := ho.d0; have := ho.d1
  exact ⟨by omega, by omega, e4, by omega, by omega, by omega, by omega, hp.1, hp.2, hs.1, by omega⟩
theorem Bd.snd {a : Nat} {m t W : Int} {x : Pr} (h : Bd a m t W x) (n : Int) : Bd a m t W (snd x n) := by
  obtain ⟨hi, rfl, rfl, rfl⟩ := h
  refine ⟨inv_snd hi n, ?_, ?_, ?_⟩ <;> (unfold pr.snd; split; rfl; split <;> rfl)
theorem Bd.fst {a : Nat} {m t W : Int} {x : Pr} (h : Bd a m t W x) : Bd a m t W (fst x) := by
  obtain ⟨hi, rfl, rfl, rfl⟩ := h
  refine ⟨inv_fst hi, ?_, ?_, ?_⟩ <;> (unfold pr.fst; split; rfl; split <;> rfl)
theorem Bd.ack {a : Nat} {m t W : Int} {x : Pr} (h : Bd a m t W x) (ha : a < 300) (d p : Int) : Bd (a + 1) m t W (ack x d p) := by
  obtain ⟨hi, rfl, rfl, rfl⟩ := h
  exact ⟨inv_ack hi ha d p, rfl, rfl, rfl⟩
theorem snd_left {a : Nat} {m t W : Int} {x : Pr} (h : Bd a m t W x) : sndE x x.left = 0 := by
  have := h.inv.ok.l0
  unfold sndE
  rw [if_neg (by omega), if_neg (by omega)]
/-- an episode of one's own, within the law -/
structure LS (w0 : World) (B a : Nat) (m t W : Int) (x : Pr) (w : World) : Prop where
  s : PrAt w B x
  bd : Bd a m t W x
  below : Below w0.heap.size w0 w
  le : w0.heap.size ≤ B
theorem LS.later {w0 w w' : World} {B a : Nat} {m t W : Int} {x : Pr} (h : LS w0 B a m t W x w) (hb : Below w.heap.size w w') : LS w0 B a m t W x w' := ⟨h.s.later hb, h.bd, h.below.trans (hb.mono h.below.size), h.le⟩
theorem LS.wrote {w0 w w' : World} {B a a' : Nat} {m t W : Int} {x y : Pr} (h : LS w0 B a m t W x w) (h2 : PrAt w' B y) (ho : Bd a' m t W y) (hk : Kept [B] w w') : LS w0 B a' m t W y w' :=
  ⟨h2, ho, h.below.trans (hk.below (by simpa using h.le) h.below.size), h.le⟩
section
variable {w0 w : World} {B a : Nat} {m t W : Int} {x : Pr} (h : LS w0 B a m t W x w)
include h
theorem LS.drew : LS w0 B a m t W x w.drew := ⟨h.s, h.bd, h.below.drew, h.le⟩
theorem left_ls : Calls Try.prog 13 #[.pointer (some ⟨B, 0, none⟩)] w fun e w' => e = .returned (.int .i64 x.left) ∧ LS w0 B a m t W x w' :=
  ((left_q h.s).below).mono fun e w' ⟨h1, h2⟩ => ⟨h1, h.later h2⟩
theorem out_ls : Calls Try.prog 14 #[.pointer (some ⟨B, 0, none⟩)] w fun e w' => e = .returned (.int .i64 x.out) ∧ LS w0 B a m t W x w' :=
  ((out_q h.s).below).mono fun e w' ⟨h1, h2⟩ => ⟨h1, h.later h2⟩
theorem del_ls : Calls Try.prog 15 #[.pointer (some ⟨B, 0, none⟩)] w fun e w' => e = .returned (.int .i64 x.del) ∧ LS w0 B a m t W x w' :=
  ((del_q h.s).below).mono fun e w' ⟨h1, h2⟩ => ⟨h1, h.later h2⟩
theorem sent_ls (n : Int) : Calls Try.prog 17 #[.pointer (some ⟨B, 0, none⟩), .int .i64 n] w fun e w' => e = .returned (.int .i64 (sndE x n)) ∧ LS w0 B a m t W (snd x n) w' :=
  (sent_any h.s h.bd.inv.ok n).mono fun e w' ⟨h1, h2, h3⟩ => ⟨h1, h.wrote h2 (h.bd.snd n) h3⟩
theorem first_ls : Calls Try.prog 18 #[.pointer (some ⟨B, 0, none⟩)] w fun e w' => e = .returned (.int .i64 (fstE x)) ∧ LS w0 B a m t W (fst x) w' :=
  (first_any h.s).mono fun e w' ⟨h1, h2, h3⟩ => ⟨h1, h.wrote h2 h.bd.fst h3⟩
theorem ack_ls (hk : a < 300) (d pipe : Int) (hp : -9223372036854775808 ≤ pipe ∧ pipe ≤ 9223372036854775807) : Calls Try.prog 19 #[.pointer (some ⟨B, 0, none⟩), .int .i64 d, .int .i64 pipe] w fun e w' => e = .returned (.int .i64 (ack x d pipe).left) ∧ LS w0 B (a + 1) m t W (ack x d pipe) w' :=
  (ack_any h.s h.bd.inv.ok d pipe hp).mono fun e w' ⟨h1, h2, h3⟩ => ⟨h1, h.wrote h2 (h.bd.ack hk d pipe) h3⟩
theorem known_ls : Calls Try.prog 7 #[] w fun e w' => e = .returned (.bool true) ∧ LS w0 B a m t W x w' :=
  (known_any w).mono fun e w' ⟨h1, h2⟩ => ⟨h1, h.later h2⟩
end
theorem new_ls {w0 w : World} (hB : Below w0.heap.size w0 w) {m f t : Int} (h : newB m f t = true) : Calls Try.prog 8 #[.int .i64 m, .int .i64 f, .int .i64 t] w
    fun e w' => ∃ B, e = .returned (.tuple #[.pointer (some ⟨B, 0, none⟩), .int .i64 0]) ∧ LS w0 B 0 m t (max f t) ⟨m, t, max f t, 0, 0, 0, false⟩ w' :=
  (new_ok_any h).mono fun e w' ⟨h1, h2, h3⟩ => ⟨_, h1, h2, ⟨inv_new (newB_ok h), rfl, rfl, rfl⟩, hB.trans (h3.mono hB.size), hB.size⟩

set_option maxRecDepth 100000 in
set_option maxHeartbeats 4000000 in
theorem walk_PrrBound (w : World) (m : Int) (hm : -9223372036854775808 ≤ m ∧ m ≤ 9223372036854775807) (f : Int) (hf : -9223372036854775808 ≤ f ∧ f ≤ 9223372036854775807) (t : Int) (ht : -9223372036854775808 ≤ t ∧ t ≤ 9223372036854775807)
    (a : Option Addr) (n cap : Nat) (ops : List OpV) (hops : OpA w a n cap ops) :
    Calls Try.prog 4 #[.int .i64 m, .int .i64 f, .int .i64 t, .slice a n cap] w fun x w' => x = .returned (.bool true) ∧ Below w.heap.size w w' := by
  have hb := Below.refl w.heap.size w
  have hle := hops.le
  have hmost := hops.most
  unfold maxLen at hmost
  have HC := Lib.hid hops.cells
  clear hops hm hf ht
  cases hN : newB m f t with
  | false =>
    have HN := Lib.hid (fun W => new_bad (w := W) hN)
    clear hN
    go_enter Try.func4, Try.ntmps4
    go_wp2_with (first
      | (go_at_call 7; (with_reducible refine (known_b hb).mono ?_); clear hb; rintro e w1 ⟨rfl, hb⟩)
      | (go_at_call 8; (with_reducible refine (HN.out _).mono ?_); rintro e w2 ⟨rfl, rfl⟩))
    go_ret
    exact ⟨rfl, hb⟩
  | true =>
    have HN := Lib.hid hN
    clear hN
    obtain ⟨nm0, nm1, nf0, nf1, nt0, nt1⟩ := newB_ok HN.out
    go_enter Try.func4, Try.ntmps4
    go_upto_region 8 with (first
      | (go_at_call 7; (with_reducible refine (known_b hb).mono ?_); clear hb; rintro e w1 ⟨rfl, hb⟩)
      | (go_at_call 9; (with_reducible refine (right_any _ _ _ _).mono ?_); rintro e w1 ⟨rfl, rfl⟩; rw [HN.out])
      | (go_at_call 8; (with_reducible refine (new_ls hb HN.out).mono ?_); rintro e w2 ⟨b, rfl, S⟩))
    have hW0 : t ≤ max f t := by omega
    have hW1 : max f t ≤ 1048576 := by omega
    have HMX := Lib.hid (show ∀ z, (f < t ∧ z = t) ∨ (t ≤ f ∧ z = f) → z = max f t from by omega)
    generalize max f t = W at *
    go_cut [11] (fun s11 wx => s11 = .int .i64 W ∧ Hid (LS w b 0 m t W ⟨m, t, W, 0, 0, 0, false⟩ wx))
    case first =>
      have HS := Lib.hid S
      clear S
      by_cases hc : f < t
      · go_wp2_with fail
        go_meet
        exact ⟨ret_v (HMX.out _ (.inl ⟨hc, rfl⟩)), HS⟩
      · have hc2 : t ≤ f := by omega
        go_wp2_with fail
        go_meet
        exact ⟨ret_v (HMX.out _ (.inr ⟨hc2, rfl⟩)), HS⟩
    case rest =>
      obtain ⟨rfl, HS⟩ := hcut
      have S := HS.out
      clear HS HMX hb
      go_wp2_with fail
      go_loopw [12, 13] (fun u i wr => ∃ (k a : Nat) (x : Pr), i = .int .i64 k ∧ u = .int .i64 a ∧ k ≤ n ∧ k ≤ 300 ∧ a ≤ k ∧ LS w b a m t W x wr) (fun _ i _ => 300 - (intOf i).toNat)
      case atStart => exact ⟨0, 0, _, rfl, rfl, by omega, by omega, by omega, S⟩
      case round =>
        clear S
        obtain ⟨k, c, x, rfl, rfl, hk, hk3, hck, S⟩ := hrel
        by_cases hlt : k < n ∧ k < 300
        case neg =>
          by_cases h1 : k < n
          · have h2 : ¬ k < 300 := by omega
            go_wp2_with (go_at_call 7; (with_reducible refine (known_ls S).mono ?_); clear S; rintro e w1 ⟨rfl, S⟩)
            go_ret
            exact ⟨rfl, S.below⟩
          · go_wp2_with (go_at_call 7; (with_reducible refine (known_ls S).mono ?_); clear S; rintro e w1 ⟨rfl, S⟩)
            go_ret
            exact ⟨rfl, S.below⟩
        case pos =>
        obtain ⟨h1, h2⟩ := hlt
        obtain ⟨Bo, off, rfl, hc⟩ := HC.out (by omega)
        obtain ⟨c0, c1, c2, hok⟩ := hc k h1
        have HOP := Lib.hid (fun W (h : Below w.heap.size w W) => And.intro ((h.cell (p := ⟨Bo, off + k * 3, none⟩) (World.block_lt_of_cell? w _ c0)).trans c0) (And.intro ((h.cell (p := ⟨Bo, off + k * 3 + 1, none⟩) (World.block_lt_of_cell? w _ c1)).trans c1) ((h.cell (p := ⟨Bo, off + k * 3 + 2, none⟩) (World.block_lt_of_cell? w _ c2)).trans c2)))
        have HOK := Lib.hid hok
        clear hc c0 c1 c2 hok
        generalize ops.getD k default = s at *
        obtain ⟨c0, c1, c2⟩ := HOP.out _ S.below
        have s0 := HOK.out.1.1; have s1 := HOK.out.1.2
        by_cases h2 : s.kind % 4 = 2
        · go_wp2_with (go_at_call 17; (with_reducible refine (sent_ls S _).mono ?_); clear S; rintro e w1 ⟨rfl, S⟩; obtain ⟨g0, g1, g2, g3, g4, g5, g6, g7, g8, g9, g10⟩ := S.bd.nums (by omega); generalize snd x s.a = y at *; generalize sndE x s.a = ee at *)
          go_wp2_with (first
            | (go_at_call 15; (with_reducible refine (del_ls S).mono ?_); clear S; rintro e w3 ⟨rfl, S⟩)
            | (go_at_call 14; (with_reducible refine (out_ls S).mono ?_); clear S; rintro e w3 ⟨rfl, S⟩)
            | (go_at_call 13; (with_reducible refine (left_ls S).mono ?_); clear S; rintro e w3 ⟨rfl, S⟩))
          all_goals
            go_roundw
            case rel => exact ⟨k + 1, c, y, by go_num, rfl, by omega, by omega, by omega, S⟩
            case measure => simp [intOf]; omega
        by_cases h3 : s.kind % 4 = 3
        · go_wp2_with (go_at_call 18; (with_reducible refine (first_ls S).mono ?_); clear S; rintro e w1 ⟨rfl, S⟩; obtain ⟨g0, g1, g2, g3, g4, g5, g6, g7, g8, g9, g10⟩ := S.bd.nums (by omega); generalize fst x = y at *; generalize fstE x = ee at *)
          go_wp2_with (first
            | (go_at_call 15; (with_reducible refine (del_ls S).mono ?_); clear S; rintro e w3 ⟨rfl, S⟩)
            | (go_at_call 14; (with_reducible refine (out_ls S).mono ?_); clear S; rintro e w3 ⟨rfl, S⟩)
            | (go_at_call 13; (with_reducible refine (left_ls S).mono ?_); clear S; rintro e w3 ⟨rfl, S⟩))
          all_goals
            go_roundw
            case rel => exact ⟨k + 1, c, y, by go_num, rfl, by omega, by omega, by omega, S⟩
            case measure => simp [intOf]; omega
        have HP := Lib.hid HOK.out.2.2
        go_wp2_with fail
        have P0 := HOP.out _ S.drew.below
        go_region_held3 (fun w' => w'.cell? ⟨Bo, off + k * 3, none⟩ = some (.int .u8 s.kind) ∧ w'.cell? ⟨Bo, off + k * 3 + 1, none⟩ = some (.int .i64 s.a) ∧ w'.cell? ⟨Bo, off + k * 3 + 2, none⟩ = some (.int .i64 s.b)) (first | with_reducible exact P1 | with_reducible exact P0 | go_keep)
          ((go_at_call 19; (with_reducible refine (ack_ls S.drew (by omega) _ _ HP.out).mono ?_); rintro e w1 ⟨rfl, S1⟩; have P1 := HOP.out _ S1.below))
        clear S P0
        have HL := Lib.hid (snd_left S1.bd)
        generalize ack x s.a s.b = y at *
        obtain ⟨c0, c1, c2⟩ := P1
        by_cases h128 : 128 ≤ s.kind
        · have S := S1
          clear S1
          go_wp2_with (go_at_call 17; (with_reducible refine (sent_ls S _).mono ?_); clear S; rintro e w2 ⟨rfl, S⟩; rw [HL.out]; obtain ⟨g0, g1, g2, g3, g4, g5, g6, g7, g8, g9, g10⟩ := S.bd.nums (by omega); rw [show ((c + 1 : Nat) : Int) = (c : Int) + 1 from by simp] at g0 g2 g3; generalize snd y y.left = z at *)
          go_wp2_with (first
            | (go_at_call 15; (with_reducible refine (del_ls S).mono ?_); clear S; rintro e w3 ⟨rfl, S⟩)
            | (go_at_call 14; (with_reducible refine (out_ls S).mono ?_); clear S; rintro e w3 ⟨rfl, S⟩)
            | (go_at_call 13; (with_reducible refine (left_ls S).mono ?_); clear S; rintro e w3 ⟨rfl, S⟩))
          all_goals
            go_roundw
            case rel => exact ⟨k + 1, c + 1, z, by go_num, by go_num, by omega, by omega, by omega, S⟩
            case measure => simp [intOf]; omega
        · have S := S1
          clear S1
          obtain ⟨g0, g1, g2, g3, g4, g5, g6, g7, g8, g9, g10⟩ := S.bd.nums (by omega)
          rw [show ((c + 1 : Nat) : Int) = (c : Int) + 1 from by simp] at g0 g2 g3
          go_wp2_with (first
            | (go_at_call 15; (with_reducible refine (del_ls S).mono ?_); clear S; rintro e w3 ⟨rfl, S⟩)
            | (go_at_call 14; (with_reducible refine (out_ls S).mono ?_); clear S; rintro e w3 ⟨rfl, S⟩)
            | (go_at_call 13; (with_reducible refine (left_ls S).mono ?_); clear S; rintro e w3 ⟨rfl, S⟩))
          all_goals
            go_roundw
            case rel => exact ⟨k + 1, c + 1, y, by go_num, by go_num, by omega, by omega, by omega, S⟩
            case measure => simp [intOf]; omega
end Go.Proofs.Ytlalcekfjbiecaa.pr
