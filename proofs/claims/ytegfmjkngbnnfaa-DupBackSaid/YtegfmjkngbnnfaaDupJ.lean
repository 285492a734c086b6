/-
  The walk of DupBack.
-/
import Derived.Test.YtegfmjkngbnnfaaDupY
import Derived.Test.YtegfmjkngbnnfaaDupZ
namespace Go.Proofs.Ytegfmjkngbnnfaa.dp
open Go.RowKit aid mem sq sp
attribute [local go_sem ↓] Go.wp_at_zero Go.wp_at_succ
set_option linter.unusedVariables false

/-- between two rounds: the spans so far -/
def BRel (W0 : World) (ack nxt : Int) (l : List (Int × Int)) (n : Nat) (u i : Value) (wr : World) : Prop :=
  ∃ (k : Nat) (v : Value), k ≤ n ∧ i = .int .i64 k ∧ u = v ∧ wr.ownsRow W0.heap.size 26 2 v k (spCells (l.take k)) ∧ Below W0.heap.size W0 wr ∧ ∀ s ∈ l.take k, Above ack nxt s
/-- behind Look's call -/
def CutS (w : World) (B : Nat) (t : Td) (c : Int) (d : Int × Int) (l : List (Int × Int)) (va : Option Addr) (k vc : Nat) (s13 s14 : Value) (wx : World) : Prop :=
  ∃ (X : Nat) (ya : Option Addr) (yc : Nat), s13 = .pointer (some ⟨X, 0, none⟩) ∧ s14 = .int .i64 c ∧ TdAt 29 wx X t (.slice ya t.sacks.length yc) ∧ SlS wx ya t.sacks.length yc t.sacks ∧ SpAt wx B d ∧ SlS wx va k vc l ∧ Below w.heap.size w wx
theorem above_snoc {ack nxt : Int} {l : List (Int × Int)} {k : Nat} (hk : k < l.length) (h : ∀ s ∈ l.take k, Above ack nxt s) (hs : Above ack nxt (l.getD k (0, 0))) : ∀ s ∈ l.take (k + 1), Above ack nxt s := by
  intro s h'
  rw [List.take_succ_eq_append_getElem hk] at h'
  rcases List.mem_append.1 h' with h' | h'
  · exact h s h'
  · have e : l.getD k (0, 0) = l[k] := by simp [List.getD, hk]
    rw [e] at hs
    simp at h'
    rw [h']
    exact hs
theorem take_snoc2 {l : List (Int × Int)} {k : Nat} (hk : k < l.length) : l.take (k + 1) = l.take k ++ [l.getD k (0, 0)] := by
  rw [List.take_succ_eq_append_getElem hk]; simp [List.getD, hk]

set_option maxRecDepth 100000 in
set_option maxHeartbeats 6400000 in
theorem walk_DupBack (w : World) (una : Int) (hu : -9223372036854775808 ≤ una ∧ una ≤ 9223372036854775807) (ack : Int) (hn : -9223372036854775808 ≤ ack ∧ ack ≤ 9223372036854775807) (d : {q : Int × Int // SpI q}) (a : Option Addr) (n cap : Nat) (l : List (Int × Int)) (hl : SlS w a n cap l ∧ ∀ s ∈ l, SpI s) :
    Calls Try.prog 5 #[.int .i64 una, .int .i64 ack, spV d.1, .slice a n cap] w fun e w' => e = .returned (.bool true) ∧ Below w.heap.size w w' := by
  obtain ⟨d, hd⟩ := d
  simp only
  obtain ⟨hl, hok⟩ := hl
  have hlen := hl.len
  have hle := hl.le
  have hmost := hl.most
  unfold maxLen at hmost
  have b1 := bal (w := w) (.cells #[.int .i64 d.1, .int .i64 d.2] 26)
  have s1 := sp_new w d
  obtain ⟨u1, u2⟩ := hu
  obtain ⟨n1, n2⟩ := hn
  have HS1 := Lib.hid s1
  have HB1 := Lib.hid b1
  clear s1 b1
  by_cases hbad : una < 0 ∨ 1152921504606846976 < una ∨ ack < una ∨ 4096 < ack - una ∨ 3 < n
  · rcases (show una < 0 ∨ (0 ≤ una ∧ 1152921504606846976 < una) ∨ (0 ≤ una ∧ una ≤ 1152921504606846976 ∧ ack < una) ∨ (0 ≤ una ∧ una ≤ 1152921504606846976 ∧ una ≤ ack ∧ 4096 < ack - una) ∨ (0 ≤ una ∧ una ≤ 1152921504606846976 ∧ una ≤ ack ∧ ack - una ≤ 4096 ∧ 3 < n) by omega) with k1 | ⟨k1, k2⟩ | ⟨k1, k2, k3⟩ | ⟨k1, k2, k3, k4⟩ | ⟨k1, k2, k3, k4, k5⟩
    all_goals
      clear hbad hl hok hlen
      go_enter Try.func5, Try.ntmps5
      go_wp2_with fail
      refine (known_any _).mono ?_
      rintro e w1 ⟨rfl, h1⟩
      have hb1 := HB1.out.trans (h1.mono HB1.out.size)
      clear h1
      go_wp2_with fail
      refine (known_any _).mono ?_
      rintro e w2 ⟨rfl, h2⟩
      go_wp2_with fail
      go_ret
      exact ⟨rfl, hb1.trans (h2.mono hb1.size)⟩
  · obtain ⟨k1, k2, k3, k4, k5⟩ : 0 ≤ una ∧ una ≤ 1152921504606846976 ∧ una ≤ ack ∧ ack - una ≤ 4096 ∧ n ≤ 3 := by omega
    have HLK := Lib.hid (fun h1 h2 h3 => look_back (una := una) (ack := ack) (d := d) (l := l) ⟨k1, k2⟩ ⟨k3, k4⟩ (by omega) h1 h2 h3)
    have HLD := Lib.hid (rlen_any d)
    have hzb := lenI_bd d
    obtain ⟨z1, z2⟩ := hzb
    generalize hz : lenI d = z at *
    have HZ := Lib.hid hz
    have HL := Lib.hid hl
    have HOK := Lib.hid hok
    clear hbad hz hl hok
    go_enter Try.func5, Try.ntmps5
    go_wp2_with fail
    refine (known_any _).mono ?_
    rintro e w1 ⟨rfl, h1⟩
    have s2 := HS1.out.later h1
    have hb2 := HB1.out.trans (h1.mono HB1.out.size)
    clear HS1 HB1 h1
    have c0 := s2.c0; have c1 := s2.c1
    go_wp2_with fail
    refine (HLD.out _).mono ?_
    rintro e w2 ⟨rfl, h2⟩
    have s3 := s2.later h2
    have hb3 := hb2.trans (h2.mono hb2.size)
    clear s2 hb2 h2 c0 c1
    have HBK := Lib.hid (fun W (hW : Below w.heap.size w W) => blocks_any 0 d a n cap l W (by omega) hd (HL.out.later hW) HOK.out)
    have HFO : Hid (∀ b ∈ blocksP 0 d l, BkOk b) := Lib.hid (fold_ok 0 [] (d :: l) (by simp))
    have HFL : Hid ((blocksP 0 d l).length ≤ 4) := Lib.hid (fold_le 0 [] (d :: l) (by simp))
    by_cases hz0 : 0 < z
    · have c0 := s3.c0; have c1 := s3.c1
      by_cases hd1 : ack < d.2
      · go_wp2_with fail
        refine (known_any _).mono ?_
        rintro e wk ⟨rfl, hkk⟩
        go_wp2_with fail
        go_ret
        exact ⟨rfl, hb3.trans (hkk.mono hb3.size)⟩
      · go_wp2_with fail
        refine (HLD.out _).mono ?_
        rintro e w4 ⟨rfl, h4⟩
        have s4 := s3.later h4
        have hb := hb3.trans (h4.mono hb3.size)
        clear s3 hb3 h4 c0 c1
        by_cases hd2 : 4096 < z
        · go_wp2_with fail
          refine (known_any _).mono ?_
          rintro e wk ⟨rfl, hkk⟩
          go_wp2_with fail
          go_ret
          exact ⟨rfl, hb.trans (hkk.mono hb.size)⟩
        · go_wp2_with fail
          go_loopw [11, 12] (fun u i wr => BRel w4 ack (una + 65536) l n u i wr) (fun _ i _ => n - (intOf i).toNat)
          case atStart => exact ⟨0, .slice none 0 0, Nat.zero_le _, rfl, rfl, World.ownsRow_nil _ _ _ _, Below.refl _ _, by simp⟩
          case round =>
            obtain ⟨k, v, hk, rfl, rfl, hown, hbel, hab⟩ := hrel
            obtain ⟨wo, rfl⟩ : ∃ wo : World, wo = wr := ⟨_, rfl⟩
            obtain ⟨va, vc, rfl⟩ := own_form hown
            have hbw := hb.trans (hbel.mono hb.size)
            by_cases hkn : k < n
            · obtain ⟨b, off, rfl, hc⟩ := (HL.out.later hbw).cells (by omega)
              obtain ⟨x0, x1⟩ := hc k hkn
              have hAb := fun h => above_snoc (k := k) (ack := ack) (nxt := una + 65536) (by omega) hab h
              have hT := take_snoc2 (l := l) (k := k) (by omega)
              have HLs := Lib.hid (rlen_any (l.getD k (0, 0)))
              have hAd : Above ack (una + 65536) (l.getD k (0, 0)) ↔ lenI (l.getD k (0, 0)) ≠ 0 ∧ ack < (l.getD k (0, 0)).1 ∧ (l.getD k (0, 0)).2 ≤ una + 65536 := Iff.rfl
              have hzs := lenI_bd (l.getD k (0, 0))
              generalize l.getD k (0, 0) = s at *
              generalize lenI s = zs at *
              obtain ⟨y1, y2⟩ := hzs
              have HAB := Lib.hid hAb
              have HTT := Lib.hid hT
              have HAD := Lib.hid hAd
              have HO := Lib.hid hown
              have HBE := Lib.hid hbel
              clear hAb hT hAd hab hc hown hbel
              go_wp2_with fail
              refine (HLs.out _).mono ?_
              rintro e w6 ⟨rfl, h4⟩
              have v0 := (h4.cell (p := ⟨b, off + k * 2, none⟩) (World.block_lt_of_cell? wo _ x0)).trans x0
              have v1 := (h4.cell (p := ⟨b, off + k * 2 + 1, none⟩) (World.block_lt_of_cell? wo _ x1)).trans x1
              have hb4 := hbw.trans (h4.mono hbw.size)
              have hbe4 := HBE.out.trans (h4.mono HBE.out.size)
              have hs4 := hbe4.size
              have HO4 := Lib.hid (own_later HO.out h4)
              clear x0 x1 h4 HBE HO hbw
              by_cases hgood : zs ≠ 0 ∧ ack < s.1 ∧ s.2 ≤ una + 65536
              · have H := Lib.hid (HAB.out (HAD.out.2 hgood))
                obtain ⟨q1, q2, q3⟩ := hgood
                have q1b : (zs == 0) = false := by simpa using q1
                have bA := bal (w := w6) (.cells #[.int .i64 s.1, .int .i64 s.2] 26)
                have HSRC := Lib.hid (span_src w6 s)
                have HOA := Lib.hid (own_later HO4.out bA)
                have HBA := Lib.hid (hbe4.trans (bA.mono hs4))
                have hsA := Nat.le_trans hs4 bA.size
                obtain ⟨i0, hi, hz0, hz1, hz2⟩ := info_split info_span
                clear HAB HAD bA hbe4 HO4 hb4
                generalize hTk : l.take k = T at *
                have HTk := Lib.hid hTk
                clear hTk q1
                go_wp2_with (at_builtin; refine wpList_append_sz _ rfl (.tmp 89) (.tmp 94) 27 27 rfl w4.heap.size 26 i0 (.agg #[.int .i64 0, .int .i64 0]) 2 16 Try.underlying27 hi hz0 hz1 (by decide) hz2 rfl (.slice va k vc) k (spCells T) rfl HOA.out _ rfl 1 [.int .i64 s.1, .int .i64 s.2] HSRC.out (by unfold maxLen; omega) (by omega) hsA ?_; intro a' cap' w5 ho hg hw; have HO5 := Lib.hid ho; have HB5 := Lib.hid (HBA.out.trans (below_grown hg hsA (fun k hk => (own_in HOA.out hk).2))); clear ho hg hw)
                go_roundw
                case rel => exact ⟨k + 1, _, by omega, by go_num, rfl, by rw [HTT.out, spCells_snoc]; exact HO5.out, HB5.out, H.out⟩
                case measure => simp [intOf]; omega
              · rcases (show zs = 0 ∨ (1 ≤ zs ∧ s.1 ≤ ack) ∨ (1 ≤ zs ∧ ack < s.1 ∧ una + 65536 < s.2) by omega) with rfl | ⟨q1, q2⟩ | ⟨q1, q2, q3⟩
                rotate_left
                all_goals first
                  | (have q1b : (zs == 0) = false := by simp; omega)
                  | skip
                all_goals
                  clear hgood HAB HAD HTT
                  go_wp2_with fail
                  refine (known_any _).mono ?_
                  rintro e wk ⟨rfl, hkk⟩
                  go_wp2_with fail
                  go_ret
                  exact ⟨rfl, hb4.trans (hkk.mono hb4.size)⟩
            · have hkE : k = n := by omega
              subst hkE
              rw [List.take_of_length_le (by omega)] at hown hab
              have sW := s4.later hbel
              have c0 := sW.c0; have c1 := sW.c1
              have HOW := Lib.hid hown
              have HAB := Lib.hid hab
              have HSW := Lib.hid sW
              have HBW := Lib.hid hbw
              clear hown hab hbel
              obtain ⟨_, ⟨o1, o2, o3⟩, o4⟩ := of_self (s := d) (by have := HZ.out; omega)
              go_wp2_with fail
              go_quiet (fail)
              have hq : Below wo.heap.size wo (wo.drewN nq) := ⟨rfl, rfl, rfl, Nat.le_refl _, fun _ _ => rfl⟩
              have HQ := Lib.hid hq
              clear hq
              go_upto_region 18 with (fail)
              go_cut [13, 14] (fun s13 s14 wx => CutS w w.heap.size (lookP una (una + 65536) (m32 ack) (blocksP 0 d l)) (errP una (una + 65536) (m32 ack)) d l va k vc s13 s14 wx)
              case first =>
                have hq := HQ.out
                go_wp2_with fail
                refine (HBK.out _ (HBW.out.trans (hq.mono HBW.out.size))).mono ?_
                rintro e w7 ⟨v7, rfl, hown7, h7⟩
                obtain ⟨xa, xc, rfl, hsl7⟩ := slb_of_own hown7 HFO.out
                have q7 : Below wo.heap.size wo w7 := hq.trans (h7.mono hq.size)
                have hb7 := HBW.out.trans (q7.mono HBW.out.size)
                have HS7 := Lib.hid (HSW.out.later q7)
                have HO7 := Lib.hid (own_later HOW.out q7)
                have HLO := Lib.hid (look_any una (una + 65536) (m32 ack) xa _ xc _ w7 (by omega) (by omega) (m32_bd ack) hsl7 (by have := HFL.out; omega))
                generalize lookP una (una + 65536) (m32 ack) (blocksP 0 d l) = t at *
                generalize errP una (una + 65536) (m32 ack) = c at *
                clear hown7 h7 q7 hsl7 hq HOW HSW HBW HBK HFO HFL HLK
                go_wp2_with fail
                refine (show Calls Try.prog 8 _ w7 _ from HLO.out).mono ?_
                rintro e w8 ⟨v8, rfl, hown8, h8⟩
                obtain ⟨ya, yc, rfl, hsl8, _⟩ := sls_of_own hown8
                obtain ⟨za, zc, ez, hsl7, _⟩ := sls_of_own HO7.out
                injection ez with e1 e2 e3
                subst e1 e3
                have b9 := bal (w := w8) (.cells #[.int .i64 t.ack, .bool t.isDup, .int .i64 t.dup.1, .int .i64 t.dup.2, .slice ya t.sacks.length yc, .int .i64 t.bad] 29)
                have HCC := Lib.hid (show CutS w w.heap.size t c d l va k vc (.pointer (some ⟨w8.heap.size, 0, none⟩)) (.int .i64 c) _ from ⟨w8.heap.size, ya, yc, rfl, rfl, td_new 29 w8 t (.slice ya t.sacks.length yc), hsl8.later b9, (HS7.out.later h8).later b9, (hsl7.later h8).later b9, (hb7.trans (h8.mono hb7.size)).trans (b9.mono (Nat.le_trans hb7.size h8.size))⟩)
                clear hown8 h8 hsl8 hsl7 b9 hb7 HLO HO7 HS7
                go_wp2_with fail
                go_meet
                exact HCC.out
              case rest =>
                clear HQ HOW HSW HBW HBK HFO HFL
                by_cases hfar : 1073741824 < ack - d.1
                · generalize lookP una (una + 65536) (m32 ack) (blocksP 0 d l) = t at *
                  generalize errP una (una + 65536) (m32 ack) = c at *
                  obtain ⟨X, ya, yc, rfl, rfl, x9, hsl8, s9, hsl7, hb9⟩ := hcut
                  generalize wc = W9 at *
                  have c0 := s9.c0; have c1 := s9.c1
                  clear hsl8 hsl7 s9 x9 HLK hlen HL HOK HZ HLD HAB hd u1 u2 n1 n2 hmost hle
                  go_wp2_with fail
                  refine (known_any _).mono ?_
                  rintro e wk ⟨rfl, hkk⟩
                  go_wp2_with fail
                  go_ret
                  exact ⟨rfl, hb9.trans (hkk.mono hb9.size)⟩
                · obtain ⟨he, ht⟩ := HLK.out (fun _ => ⟨by omega, by omega, by omega⟩) HAB.out (fun h => by omega)
                  rw [decide_eq_true hz0, if_pos hz0] at ht
                  rw [he, ht] at hcut
                  obtain ⟨X, ya, yc, rfl, rfl, x9, hsl8, s9, hsl7, hb9⟩ := hcut
                  generalize wc = W9 at *
                  have HSA := Lib.hid (rsame_any hsl8 hsl7)
                  have c0 := s9.c0; have c1 := s9.c1
                  have g0 := x9.c0; have g1 := x9.c1; have g2 := x9.c2; have g3 := x9.c3; have g4 := x9.c4; have g5 := x9.c5
                  simp only at g0 g1 g2 g3 g4 g5
                  have eqg := eq_guard
                  have eqb : ∀ w, (Op.equalIn 10000 26 (.agg #[.int .i64 d.1, .int .i64 d.2]) (.agg #[.int .i64 d.1, .int .i64 d.2])).run Try.prog w = .ok true w := fun w => by rw [eq_spB]; simp
                  have hll : decide (l = l) = true := by simp
                  clear hsl8 hsl7 s9 x9 hlen he ht HLK HL HOK HZ HLD HAB hd u1 u2 n1 n2 hmost hle
                  go_upto_region 21 with (fail)
                  have hack : (ack == ack) = true := by simp
                  have hack2 : decide (ack = ack) = true := by simp
                  go_wp2_with fail
                  refine (HSA.out).mono ?_
                  rintro e wa ⟨rfl, ha⟩
                  rw [hll]
                  go_wp2_with fail
                  refine (known_any _).mono ?_
                  rintro e wk ⟨rfl, hkk⟩
                  go_wp2_with fail
                  go_ret
                  exact ⟨rfl, ((hb9.trans (ha.mono hb9.size)).trans (hkk.mono (Nat.le_trans hb9.size ha.size)))⟩
    · have hb := hb3
      clear hb3
      obtain rfl : z = 0 := by omega
      clear hz0 z1 z2
      go_wp2_with fail
      go_loopw [11, 12] (fun u i wr => BRel w2 ack (una + 65536) l n u i wr) (fun _ i _ => n - (intOf i).toNat)
      case atStart => exact ⟨0, .slice none 0 0, Nat.zero_le _, rfl, rfl, World.ownsRow_nil _ _ _ _, Below.refl _ _, by simp⟩
      case round =>
        obtain ⟨k, v, hk, rfl, rfl, hown, hbel, hab⟩ := hrel
        obtain ⟨wo, rfl⟩ : ∃ wo : World, wo = wr := ⟨_, rfl⟩
        obtain ⟨va, vc, rfl⟩ := own_form hown
        have hbw := hb.trans (hbel.mono hb.size)
        by_cases hkn : k < n
        · obtain ⟨b, off, rfl, hc⟩ := (HL.out.later hbw).cells (by omega)
          obtain ⟨x0, x1⟩ := hc k hkn
          have hAb := fun h => above_snoc (k := k) (ack := ack) (nxt := una + 65536) (by omega) hab h
          have hT := take_snoc2 (l := l) (k := k) (by omega)
          have HLs := Lib.hid (rlen_any (l.getD k (0, 0)))
          have hAd : Above ack (una + 65536) (l.getD k (0, 0)) ↔ lenI (l.getD k (0, 0)) ≠ 0 ∧ ack < (l.getD k (0, 0)).1 ∧ (l.getD k (0, 0)).2 ≤ una + 65536 := Iff.rfl
          have hzs := lenI_bd (l.getD k (0, 0))
          generalize l.getD k (0, 0) = s at *
          generalize lenI s = zs at *
          obtain ⟨y1, y2⟩ := hzs
          have HAB := Lib.hid hAb
          have HTT := Lib.hid hT
          have HAD := Lib.hid hAd
          have HO := Lib.hid hown
          have HBE := Lib.hid hbel
          clear hAb hT hAd hab hc hown hbel
          go_wp2_with fail
          refine (HLs.out _).mono ?_
          rintro e w4 ⟨rfl, h4⟩
          have v0 := (h4.cell (p := ⟨b, off + k * 2, none⟩) (World.block_lt_of_cell? wo _ x0)).trans x0
          have v1 := (h4.cell (p := ⟨b, off + k * 2 + 1, none⟩) (World.block_lt_of_cell? wo _ x1)).trans x1
          have hb4 := hbw.trans (h4.mono hbw.size)
          have hbe4 := HBE.out.trans (h4.mono HBE.out.size)
          have hs4 := hbe4.size
          have HO4 := Lib.hid (own_later HO.out h4)
          clear x0 x1 h4 HBE HO hbw
          by_cases hgood : zs ≠ 0 ∧ ack < s.1 ∧ s.2 ≤ una + 65536
          · have H := Lib.hid (HAB.out (HAD.out.2 hgood))
            obtain ⟨q1, q2, q3⟩ := hgood
            have q1b : (zs == 0) = false := by simpa using q1
            have bA := bal (w := w4) (.cells #[.int .i64 s.1, .int .i64 s.2] 26)
            have HSRC := Lib.hid (span_src w4 s)
            have HOA := Lib.hid (own_later HO4.out bA)
            have HBA := Lib.hid (hbe4.trans (bA.mono hs4))
            have hsA := Nat.le_trans hs4 bA.size
            obtain ⟨i0, hi, hz0, hz1, hz2⟩ := info_split info_span
            clear HAB HAD bA hbe4 HO4 hb4
            generalize hTk : l.take k = T at *
            have HTk := Lib.hid hTk
            clear hTk q1
            go_wp2_with (at_builtin; refine wpList_append_sz _ rfl (.tmp 89) (.tmp 94) 27 27 rfl w2.heap.size 26 i0 (.agg #[.int .i64 0, .int .i64 0]) 2 16 Try.underlying27 hi hz0 hz1 (by decide) hz2 rfl (.slice va k vc) k (spCells T) rfl HOA.out _ rfl 1 [.int .i64 s.1, .int .i64 s.2] HSRC.out (by unfold maxLen; omega) (by omega) hsA ?_; intro a' cap' w5 ho hg hw; have HO5 := Lib.hid ho; have HB5 := Lib.hid (HBA.out.trans (below_grown hg hsA (fun k hk => (own_in HOA.out hk).2))); clear ho hg hw)
            go_roundw
            case rel => exact ⟨k + 1, _, by omega, by go_num, rfl, by rw [HTT.out, spCells_snoc]; exact HO5.out, HB5.out, H.out⟩
            case measure => simp [intOf]; omega
          · rcases (show zs = 0 ∨ (1 ≤ zs ∧ s.1 ≤ ack) ∨ (1 ≤ zs ∧ ack < s.1 ∧ una + 65536 < s.2) by omega) with rfl | ⟨q1, q2⟩ | ⟨q1, q2, q3⟩
            rotate_left
            all_goals first
              | (have q1b : (zs == 0) = false := by simp; omega)
              | skip
            all_goals
              clear hgood HAB HAD HTT
              go_wp2_with fail
              refine (known_any _).mono ?_
              rintro e wk ⟨rfl, hkk⟩
              go_wp2_with fail
              go_ret
              exact ⟨rfl, hb4.trans (hkk.mono hb4.size)⟩
        · have hkE : k = n := by omega
          subst hkE
          rw [List.take_of_length_le (by omega)] at hown hab
          have sW := s3.later hbel
          have c0 := sW.c0; have c1 := sW.c1
          have HOW := Lib.hid hown
          have HAB := Lib.hid hab
          have HSW := Lib.hid sW
          have HBW := Lib.hid hbw
          clear hown hab hbel
          by_cases hn1 : 1 < k
          · obtain ⟨b, off, rfl, hc⟩ := (HL.out.later HBW.out).cells (by omega)
            obtain ⟨x0, x1⟩ := hc 0 (by omega)
            obtain ⟨y0, y1⟩ := hc 1 hn1
            simp only [Nat.zero_mul, Nat.one_mul, Nat.add_zero] at x0 x1 y0 y1
            have HHo := Lib.hid (rholds_any (l.getD 1 (0, 0)) (l.getD 0 (0, 0)))
            have HHE : Hid (∀ s t r, l = s :: t :: r → holdsB t s = holdsB (l.getD 1 (0, 0)) (l.getD 0 (0, 0))) := Lib.hid (by rintro s t r rfl; rfl)
            generalize holdsB (l.getD 1 (0, 0)) (l.getD 0 (0, 0)) = hb2 at *
            generalize l.getD 1 (0, 0) = t at *
            generalize l.getD 0 (0, 0) = s at *
            have hn2 : decide (1 < k) = true := by simpa using hn1
            have hn3 : decide ((1 : Int) < (k : Int)) = true := by simp; omega
            have hn4 : 0 < k := by omega
            have hn5 : (1 : Int) < (k : Int) := by omega
            have K0 : wo.drew.cell? ⟨b, off, none⟩ = some (.int .i64 s.1) ∧ wo.drew.cell? ⟨b, off + 1, none⟩ = some (.int .i64 s.2) ∧ wo.drew.cell? ⟨b, off + 2, none⟩ = some (.int .i64 t.1) ∧ wo.drew.cell? ⟨b, off + 2 + 1, none⟩ = some (.int .i64 t.2) := ⟨x0, x1, y0, y1⟩
            have hbl : b < wo.drew.heap.size := World.block_lt_of_cell? wo _ x0
            clear x0 x1 y0 y1 hc
            go_wp2_with fail
            go_region_held3 (fun w' => w'.cell? ⟨b, off, none⟩ = some (.int .i64 s.1) ∧ w'.cell? ⟨b, off + 1, none⟩ = some (.int .i64 s.2) ∧ w'.cell? ⟨b, off + 2, none⟩ = some (.int .i64 t.1) ∧ w'.cell? ⟨b, off + 2 + 1, none⟩ = some (.int .i64 t.2))
              (with_reducible first | exact K0 | exact K1 | go_keep) ((go_at_call 15; (with_reducible refine (HHo.out _).mono ?_); rintro e w5 ⟨rfl, h5⟩; have K1 := And.intro ((h5.cell (p := ⟨b, off, none⟩) hbl).trans K0.1) (And.intro ((h5.cell (p := ⟨b, off + 1, none⟩) hbl).trans K0.2.1) (And.intro ((h5.cell (p := ⟨b, off + 2, none⟩) hbl).trans K0.2.2.1) ((h5.cell (p := ⟨b, off + 2 + 1, none⟩) hbl).trans K0.2.2.2)))))
            all_goals
              have hq : Below wo.heap.size wo w5 := (show Below wo.heap.size wo wo.drew from ⟨rfl, rfl, rfl, Nat.le_refl _, fun _ _ => rfl⟩).trans (h5.mono (Nat.le_refl _))
              have sq := HSW.out.later hq
              clear K0 K1 h5 HHo c0 c1
              have c0 := sq.c0; have c1 := sq.c1
              clear sq
              cases hb2 with
              | true =>
                have hbq := HBW.out.trans (hq.mono HBW.out.size)
                go_wp2_with fail
                refine (known_any _).mono ?_
                rintro e wk ⟨rfl, hkk⟩
                go_wp2_with fail
                go_ret
                exact ⟨rfl, hbq.trans (hkk.mono hbq.size)⟩
              | false =>
                have HQ := Lib.hid hq
                clear hq
                go_upto_region 18 with (fail)
                go_cut [13, 14] (fun s13 s14 wx => CutS w w.heap.size (lookP una (una + 65536) (m32 ack) (blocksP 0 d l)) (errP una (una + 65536) (m32 ack)) d l va k vc s13 s14 wx)
                case first =>
                  have hq := HQ.out
                  go_wp2_with fail
                  refine (HBK.out _ (HBW.out.trans (hq.mono HBW.out.size))).mono ?_
                  rintro e w7 ⟨v7, rfl, hown7, h7⟩
                  obtain ⟨xa, xc, rfl, hsl7⟩ := slb_of_own hown7 HFO.out
                  have q7 : Below wo.heap.size wo w7 := hq.trans (h7.mono hq.size)
                  have hb7 := HBW.out.trans (q7.mono HBW.out.size)
                  have HS7 := Lib.hid (HSW.out.later q7)
                  have HO7 := Lib.hid (own_later HOW.out q7)
                  have HLO := Lib.hid (look_any una (una + 65536) (m32 ack) xa _ xc _ w7 (by omega) (by omega) (m32_bd ack) hsl7 (by have := HFL.out; omega))
                  generalize lookP una (una + 65536) (m32 ack) (blocksP 0 d l) = t at *
                  generalize errP una (una + 65536) (m32 ack) = c at *
                  clear hown7 h7 q7 hsl7 hq HOW HSW HBW HBK HFO HFL HLK
                  go_wp2_with fail
                  refine (show Calls Try.prog 8 _ w7 _ from HLO.out).mono ?_
                  rintro e w8 ⟨v8, rfl, hown8, h8⟩
                  obtain ⟨ya, yc, rfl, hsl8, _⟩ := sls_of_own hown8
                  obtain ⟨za, zc, ez, hsl7, _⟩ := sls_of_own HO7.out
                  injection ez with e1 e2 e3
                  subst e1 e3
                  have b9 := bal (w := w8) (.cells #[.int .i64 t.ack, .bool t.isDup, .int .i64 t.dup.1, .int .i64 t.dup.2, .slice ya t.sacks.length yc, .int .i64 t.bad] 29)
                  have HCC := Lib.hid (show CutS w w.heap.size t c d l va k vc (.pointer (some ⟨w8.heap.size, 0, none⟩)) (.int .i64 c) _ from ⟨w8.heap.size, ya, yc, rfl, rfl, td_new 29 w8 t (.slice ya t.sacks.length yc), hsl8.later b9, (HS7.out.later h8).later b9, (hsl7.later h8).later b9, (hb7.trans (h8.mono hb7.size)).trans (b9.mono (Nat.le_trans hb7.size h8.size))⟩)
                  clear hown8 h8 hsl8 hsl7 b9 hb7 HLO HO7 HS7
                  go_wp2_with fail
                  go_meet
                  exact HCC.out
                case rest =>
                  clear HQ HOW HSW HBW HBK HFO HFL
                  obtain ⟨he, ht⟩ := HLK.out (fun h => absurd h (by omega)) HAB.out (fun _ s t r e => HHE.out s t r e)
                  rw [decide_eq_false (by omega), if_neg (by omega)] at ht
                  rw [he, ht] at hcut
                  obtain ⟨X, ya, yc, rfl, rfl, x9, hsl8, s9, hsl7, hb9⟩ := hcut
                  generalize wc = W9 at *
                  have HSA := Lib.hid (rsame_any hsl8 hsl7)
                  have c0 := s9.c0; have c1 := s9.c1
                  have g0 := x9.c0; have g1 := x9.c1; have g2 := x9.c2; have g3 := x9.c3; have g4 := x9.c4; have g5 := x9.c5
                  simp only at g0 g1 g2 g3 g4 g5
                  have hll : decide (l = l) = true := by simp
                  clear hsl8 hsl7 s9 x9 HHE hlen he ht HLK HL HOK HZ HLD HAB hd u1 u2 n1 n2 hmost hle
                  go_upto_region 21 with (fail)
                  have hack : (ack == ack) = true := by simp
                  have hack2 : decide (ack = ack) = true := by simp
                  go_wp2_with fail
                  refine (HSA.out).mono ?_
                  rintro e wa ⟨rfl, ha⟩
                  rw [hll]
                  go_wp2_with fail
                  refine (known_any _).mono ?_
                  rintro e wk ⟨rfl, hkk⟩
                  go_wp2_with fail
                  go_ret
                  exact ⟨rfl, ((hb9.trans (ha.mono hb9.size)).trans (hkk.mono (Nat.le_trans hb9.size ha.size)))⟩
          · have hn2 : decide (1 < k) = false := by simpa using hn1
            have hn3 : decide ((1 : Int) < (k : Int)) = false := by simp; omega
            go_wp2_with fail
            go_quiet (fail)
            have hq : Below wo.heap.size wo (wo.drewN nq) := ⟨rfl, rfl, rfl, Nat.le_refl _, fun _ _ => rfl⟩
            have HQ := Lib.hid hq
            clear hq
            go_upto_region 18 with (fail)
            go_cut [13, 14] (fun s13 s14 wx => CutS w w.heap.size (lookP una (una + 65536) (m32 ack) (blocksP 0 d l)) (errP una (una + 65536) (m32 ack)) d l va k vc s13 s14 wx)
            case first =>
              have hq := HQ.out
              go_wp2_with fail
              refine (HBK.out _ (HBW.out.trans (hq.mono HBW.out.size))).mono ?_
              rintro e w7 ⟨v7, rfl, hown7, h7⟩
              obtain ⟨xa, xc, rfl, hsl7⟩ := slb_of_own hown7 HFO.out
              have q7 : Below wo.heap.size wo w7 := hq.trans (h7.mono hq.size)
              have hb7 := HBW.out.trans (q7.mono HBW.out.size)
              have HS7 := Lib.hid (HSW.out.later q7)
              have HO7 := Lib.hid (own_later HOW.out q7)
              have HLO := Lib.hid (look_any una (una + 65536) (m32 ack) xa _ xc _ w7 (by omega) (by omega) (m32_bd ack) hsl7 (by have := HFL.out; omega))
              generalize lookP una (una + 65536) (m32 ack) (blocksP 0 d l) = t at *
              generalize errP una (una + 65536) (m32 ack) = c at *
              clear hown7 h7 q7 hsl7 hq HOW HSW HBW HBK HFO HFL HLK
              go_wp2_with fail
              refine (show Calls Try.prog 8 _ w7 _ from HLO.out).mono ?_
              rintro e w8 ⟨v8, rfl, hown8, h8⟩
              obtain ⟨ya, yc, rfl, hsl8, _⟩ := sls_of_own hown8
              obtain ⟨za, zc, ez, hsl7, _⟩ := sls_of_own HO7.out
              injection ez with e1 e2 e3
              subst e1 e3
              have b9 := bal (w := w8) (.cells #[.int .i64 t.ack, .bool t.isDup, .int .i64 t.dup.1, .int .i64 t.dup.2, .slice ya t.sacks.length yc, .int .i64 t.bad] 29)
              have HCC := Lib.hid (show CutS w w.heap.size t c d l va k vc (.pointer (some ⟨w8.heap.size, 0, none⟩)) (.int .i64 c) _ from ⟨w8.heap.size, ya, yc, rfl, rfl, td_new 29 w8 t (.slice ya t.sacks.length yc), hsl8.later b9, (HS7.out.later h8).later b9, (hsl7.later h8).later b9, (hb7.trans (h8.mono hb7.size)).trans (b9.mono (Nat.le_trans hb7.size h8.size))⟩)
              clear hown8 h8 hsl8 hsl7 b9 hb7 HLO HO7 HS7
              go_wp2_with fail
              go_meet
              exact HCC.out
            case rest =>
              clear HQ HOW HSW HBW HBK HFO HFL
              obtain ⟨he, ht⟩ := HLK.out (fun h => absurd h (by omega)) HAB.out (fun _ s t r e => by rw [e] at hlen; simp at hlen; omega)
              rw [decide_eq_false (by omega), if_neg (by omega)] at ht
              rw [he, ht] at hcut
              obtain ⟨X, ya, yc, rfl, rfl, x9, hsl8, s9, hsl7, hb9⟩ := hcut
              generalize wc = W9 at *
              have HSA := Lib.hid (rsame_any hsl8 hsl7)
              have c0 := s9.c0; have c1 := s9.c1
              have g0 := x9.c0; have g1 := x9.c1; have g2 := x9.c2; have g3 := x9.c3; have g4 := x9.c4; have g5 := x9.c5
              simp only at g0 g1 g2 g3 g4 g5
              have hll : decide (l = l) = true := by simp
              clear hsl8 hsl7 s9 x9 hlen he ht HLK HL HOK HZ HLD HAB hd u1 u2 n1 n2 hmost hle
              go_upto_region 21 with (fail)
              have hack : (ack == ack) = true := by simp
              have hack2 : decide (ack = ack) = true := by simp
              go_wp2_with fail
              refine (HSA.out).mono ?_
              rintro e wa ⟨rfl, ha⟩
              rw [hll]
              go_wp2_with fail
              refine (known_any _).mono ?_
              rintro e wk ⟨rfl, hkk⟩
              go_wp2_with fail
              go_ret
              exact ⟨rfl, ((hb9.trans (ha.mono hb9.size)).trans (hkk.mono (Nat.le_trans hb9.size ha.size)))⟩
end Go.Proofs.Ytegfmjkngbnnfaa.dp
