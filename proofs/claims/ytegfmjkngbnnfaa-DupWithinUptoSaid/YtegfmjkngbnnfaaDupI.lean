/-
  The walk of DupWithin.
-/
import Derived.Test.YtegfmjkngbnnfaaDupB
import Derived.IntWalk
namespace Go.Proofs.Ytegfmjkngbnnfaa.dp
open Go.RowKit aid mem sq sp
attribute [local go_sem ↓] Go.wp_at_zero Go.wp_at_succ
set_option linter.unusedVariables false

theorem sacks_all {ack nxt : Int} {l : List Bk} {s : Int × Int} (h : s ∈ sacksP ack nxt l) : s.1 < s.2 ∧ ack < s.1 ∧ s.2 ≤ nxt ∧ lenI s = s.2 - s.1 := by
  unfold sacksP at h
  obtain ⟨h1, h2⟩ := List.mem_filter.1 h
  obtain ⟨b, _, rfl⟩ := List.mem_map.1 h1
  unfold isS at h2
  simp at h2
  exact ⟨h2.1.1, h2.1.2, h2.2, frm_len ack b⟩
/-- what holds of all that is told -/
structure Fit (una nxt : Int) (n : Nat) (t : Td) : Prop where
  sacks : ∀ s ∈ t.sacks, s.1 < s.2 ∧ t.ack < s.1 ∧ s.2 ≤ nxt ∧ lenI s = s.2 - s.1
  count : (t.sacks.length : Int) + t.bad + (if t.isDup = true then 1 else 0) = n
  bad : 0 ≤ t.bad
  ack : t.ack ≤ nxt ∧ una - 65536 ≤ t.ack ∧ 0 ≤ t.ack ∧ 0 ≤ una ∧ una ≤ 4611686018427387904
  dup : t.dup.2 ≤ nxt
  isDup : t.isDup = decide (0 < lenI t.dup)
theorem fit_look {una nxt num : Int} {l : List Bk} (h : errP una nxt num = 0) : Fit una nxt l.length (lookP una nxt num l) := by
  have hc : 0 ≤ una ∧ nxt ≤ 4611686018427387904 ∧ una ≤ nxt ∧ 0 ≤ runw una num ∧ una - runw una num ≤ 65536 ∧ runw una num ≤ nxt := by
    rcases err_cases una nxt num with ⟨h1, _⟩ | ⟨⟨a, b, c, d⟩, ⟨h1, _⟩ | ⟨e, f, g, ⟨h1, _⟩ | ⟨_, i⟩⟩⟩
    · omega
    · omega
    · omega
    · omega
  obtain ⟨c1, c2, c3, c4, c5, c6⟩ := hc
  unfold lookP
  rw [if_pos h]
  have hle := sacks_le (runw una num) nxt (restP (runw una num) nxt l)
  refine ⟨fun s hs => sacks_all hs, ?_, by simp only; omega, ⟨c6, by simp only; omega, c4, c1, by omega⟩, ?_, ?_⟩
  · simp only
    have : ((restP (runw una num) nxt l).length : Int) + (if dupB (runw una num) nxt l = true then 1 else 0) = l.length := by
      unfold restP
      rcases dup_cases (runw una num) nxt l with ⟨_, h2⟩ | ⟨_, _, h2, b, r, rfl, _⟩
      · rw [h2]; simp
      · rw [if_pos h2, if_pos h2]; simp
    omega
  · simp only
    rcases dup_cases (runw una num) nxt l with ⟨h2, _⟩ | ⟨_, hlt, hB, _⟩
    · rw [h2]; simp; omega
    · obtain ⟨hd, hb⟩ := dup_of (runw una num) nxt l
      rw [hb] at hB
      rw [hd, if_pos hB]
      unfold dupC at hB
      simp at hB
      rcases hB.2 with h | h <;> omega
  · simp only
    unfold dupB
    rcases dup_cases (runw una num) nxt l with ⟨h, _⟩ | ⟨h, _⟩
    · rw [h]; rfl
    · rw [len_fit h, Bool.eq_iff_iff]; simp

/-- the answer in a box -/
structure BX (w0 : World) (X : Nat) (t : Td) (a : Option Addr) (n c : Nat) (w : World) : Prop where
  x : TdAt 29 w X t (.slice a n c)
  sx : SlS w a n c t.sacks
  below : Below w0.heap.size w0 w
theorem BX.later {w0 : World} {X : Nat} {t : Td} {a : Option Addr} {n c : Nat} {w w' : World} (h : BX w0 X t a n c w) (hb : Below w.heap.size w w') : BX w0 X t a n c w' :=
  ⟨h.x.later hb, h.sx.later hb, h.below.trans (hb.mono h.below.size)⟩
theorem BX.all {w0 : World} {X : Nat} {t : Td} {a : Option Addr} {n c : Nat} {w : World} (h : BX w0 X t a n c w) :
    w.cell? ⟨X, 0, none⟩ = some (.int .i64 t.ack) ∧ w.cell? ⟨X, 1, none⟩ = some (.bool t.isDup) ∧ w.cell? ⟨X, 2, none⟩ = some (.int .i64 t.dup.1) ∧ w.cell? ⟨X, 3, none⟩ = some (.int .i64 t.dup.2) ∧ w.cell? ⟨X, 4, none⟩ = some (.slice a n c) ∧ w.cell? ⟨X, 5, none⟩ = some (.int .i64 t.bad) :=
  ⟨h.x.c0, h.x.c1, h.x.c2, h.x.c3, h.x.c4, h.x.c5⟩
theorem BX.el {w0 : World} {X : Nat} {t : Td} {b off n c : Nat} {w w' : World} (h : BX w0 X t (some ⟨b, off, none⟩) n c w) (hb : Below w.heap.size w w') {k : Nat} (hk : k < n) :
    w'.cell? ⟨b, off + k * 2, none⟩ = some (.int .i64 (t.sacks.getD k (0, 0)).1) ∧ w'.cell? ⟨b, off + k * 2 + 1, none⟩ = some (.int .i64 (t.sacks.getD k (0, 0)).2) := by
  obtain ⟨b', off', e, hc⟩ := (h.sx.later hb).cells (by omega)
  injection e with e
  injection e with e1 e2
  subst e1 e2
  exact hc k hk

set_option maxRecDepth 100000 in
set_option maxHeartbeats 6400000 in
theorem walk_DupWithin (w : World) (una : Int) (hu : -9223372036854775808 ≤ una ∧ una ≤ 9223372036854775807) (nxt : Int) (hn : -9223372036854775808 ≤ nxt ∧ nxt ≤ 9223372036854775807) (num : Int) (hm : 0 ≤ num ∧ num ≤ 4294967295) (a : Option Addr) (n cap : Nat) (l : List Bk) (hl : SlB w a n cap l) (hbulk : l.length ≤ 1000000000) :
    Calls Try.prog 6 #[.int .i64 una, .int .i64 nxt, .int .u32 num, .slice a n cap] w fun e w' => e = .returned (.bool true) ∧ Below w.heap.size w w' := by
  have hlen := hl.len
  have hnn : n ≤ 1000000000 := by omega
  have HA := Lib.hid (fun W (hW : Below w.heap.size w W) => look_any una nxt num a n cap l W hu hn hm (hl.later hW) (by omega))
  by_cases hc : errP una nxt num = 0
  · have hFit := fit_look (l := l) hc
    rw [hc] at HA
    rw [hlen] at hFit
    generalize lookP una nxt num l = t at *
    clear hc hl hlen hbulk
    obtain ⟨f1, f2, f3, ⟨f4, f5, f6, f7, f8⟩, f9, f10⟩ := hFit
    have F1 := Lib.hid f1
    have F2 := Lib.hid f2
    have F10 := Lib.hid f10
    have F11 : Hid (t.sacks.length ≤ n ∧ t.bad ≤ n) := Lib.hid (by split at f2 <;> omega)
    clear f1 f2 f10
    go_enter Try.func6, Try.ntmps6
    go_wp2_with fail
    refine (known_any _).mono ?_
    rintro e w1 ⟨rfl, h1⟩
    go_wp2_with fail
    refine (HA.out _ h1).mono ?_
    rintro e w2 ⟨v, rfl, hown, h2⟩
    obtain ⟨xa, xc, rfl, hsx⟩ := own_sl hown
    have b3 := bal (w := w2) (.cells #[.int .i64 t.ack, .bool t.isDup, .int .i64 t.dup.1, .int .i64 t.dup.2, .slice xa t.sacks.length xc, .int .i64 t.bad] 29)
    have hB : BX w w2.heap.size t xa t.sacks.length xc (w2.alloc (.cells #[.int .i64 t.ack, .bool t.isDup, .int .i64 t.dup.1, .int .i64 t.dup.2, .slice xa t.sacks.length xc, .int .i64 t.bad] 29)) :=
      ⟨td_new 29 w2 t (.slice xa t.sacks.length xc), hsx.later b3, (h1.trans (h2.mono h1.size)).trans (b3.mono (Nat.le_trans h1.size h2.size))⟩
    clear hown hsx h1 h2 b3 HA
    go_wp2_with fail
    generalize w2.alloc (.cells #[.int .i64 t.ack, .bool t.isDup, .int .i64 t.dup.1, .int .i64 t.dup.2, .slice xa t.sacks.length xc, .int .i64 t.bad] 29) = W at *
    generalize w2.heap.size = X at *
    obtain ⟨m, hm'⟩ : ∃ m, m = t.sacks.length := ⟨_, rfl⟩
    rw [← hm'] at hB F11 F2
    have HM := Lib.hid hm'
    go_loopw [11] (fun i wr => ∃ k : Nat, k ≤ m ∧ i = .int .i64 k ∧ BX w X t xa m xc wr) (fun i _ => m - (intOf i).toNat)
    case atStart => exact ⟨0, Nat.zero_le _, rfl, hB⟩
    case round =>
      clear hB hm'
      obtain ⟨k, hk, rfl, hB⟩ := hrel
      obtain ⟨wo, rfl⟩ : ∃ wo : World, wo = wr := ⟨_, rfl⟩
      have c4 := hB.x.c4
      obtain ⟨F11a, F11b⟩ := F11.out
      by_cases hkm : k < m
      · have hs := F1.out (t.sacks.getD k (0, 0)) (by
          rw [show t.sacks.getD k (0, 0) = t.sacks[k]'(by have := HM.out; omega) from by simp [List.getD, show k < t.sacks.length from by have := HM.out; omega]]
          exact List.getElem_mem _)
        obtain ⟨b, off, rfl, hc⟩ := hB.sx.cells (by omega)
        have hle := hB.sx.le
        have hmost := hB.sx.most
        unfold maxLen at hmost
        have hEl := fun (W1 W2 : World) (hb : BX w X t (some ⟨b, off, none⟩) m xc W1) (hB2 : Below W1.heap.size W1 W2) => hb.el hB2 hkm
        have HLen := Lib.hid (rlen_any (t.sacks.getD k (0, 0)))
        generalize t.sacks.getD k (0, 0) = s at *
        obtain ⟨q1, q2, q3, q4⟩ := hs
        have z1 : (lenI s == 0) = false := by rw [q4]; simp; omega
        have z1' : decide (lenI s = 0) = false := by rw [q4]; simp; omega
        have z2 : decide (s.1 ≤ t.ack) = false := by simp; omega
        have z3 : decide (nxt < s.2) = false := by simp; omega
        generalize lenI s = zs at *
        have HEL := Lib.hid hEl
        clear q4 hc hEl c4
        have hBd := hB.later (Below.refl _ wo).drew
        have K0 : wo.drew.cell? ⟨X, 0, none⟩ = some (.int .i64 t.ack) ∧ wo.drew.cell? ⟨X, 4, none⟩ = some (.slice (some ⟨b, off, none⟩) m xc) ∧ wo.drew.cell? ⟨b, off + k * 2, none⟩ = some (.int .i64 s.1) ∧ wo.drew.cell? ⟨b, off + k * 2 + 1, none⟩ = some (.int .i64 s.2) :=
          ⟨hBd.x.c0, hBd.x.c4, (HEL.out _ _ hBd (Below.refl _ _)).1, (HEL.out _ _ hBd (Below.refl _ _)).2⟩
        have c4 := hB.x.c4
        go_wp2_with fail
        clear c4
        go_region_held3 (fun w' => w'.cell? ⟨X, 0, none⟩ = some (.int .i64 t.ack) ∧ w'.cell? ⟨X, 4, none⟩ = some (.slice (some ⟨b, off, none⟩) m xc) ∧ w'.cell? ⟨b, off + k * 2, none⟩ = some (.int .i64 s.1) ∧ w'.cell? ⟨b, off + k * 2 + 1, none⟩ = some (.int .i64 s.2))
          (with_reducible first | exact K0 | exact K1 | go_keep) ((go_at_call 14; (with_reducible refine (HLen.out _).mono ?_); rintro e w5 ⟨rfl, h5⟩; have B1 := hBd.later h5; have K1 := And.intro B1.x.c0 (And.intro B1.x.c4 (HEL.out _ _ B1 (Below.refl _ _))); clear hBd h5 K0))
        all_goals
          go_wp2
          go_roundw
          case rel => exact ⟨k + 1, by omega, by go_num, B1⟩
          case measure => simp [intOf]; omega
      · have hkE : k = m := by omega
        subst hkE
        have hsum := F2.out
        have hz := F10.out
        have c0 := hB.x.c0; have c1 := hB.x.c1; have c2 := hB.x.c2; have c3 := hB.x.c3; have c5 := hB.x.c5
        have HLen := Lib.hid (rlen_any t.dup)
        generalize lenI t.dup = z at *
        have e1 : decide (t.ack ≤ nxt) = true := by simp; omega
        have e2 : decide (una - 65536 ≤ t.ack) = true := by simp; omega
        have e3 : decide (t.dup.2 ≤ nxt) = true := by simp; omega
        have hBd := hB.later (Below.refl _ wo).drew
        clear F1 F2 F10 F11 hB HM
        cases hd : t.isDup with
        | false =>
          rw [hd] at c1 hz hsum
          have hsum2 : (k : Int) + t.bad = n := by simpa using hsum
          have y1 : ((k : Int) + t.bad == (n : Int)) = true := by simpa using hsum2
          have y2 : decide ((k : Int) + t.bad = (n : Int)) = true := by simpa using hsum2
          have z0 : decide (0 < z) = false := hz.symm
          have hwr : IntKind.i64.wrap (una - 65536) = una - 65536 := IntWalk.i64_in _ (by omega)
          clear hz hsum hsum2 hkm hk
          go_wp2_with fail
          have K0 : wo.drew.cell? ⟨X, 0, none⟩ = some (.int .i64 t.ack) ∧ wo.drew.cell? ⟨X, 1, none⟩ = some (.bool false) ∧ wo.drew.cell? ⟨X, 2, none⟩ = some (.int .i64 t.dup.1) ∧ wo.drew.cell? ⟨X, 3, none⟩ = some (.int .i64 t.dup.2) := ⟨c0, c1, c2, c3⟩
          clear c0 c1 c2 c3 c5
          go_region_held3 (fun w' => w'.cell? ⟨X, 0, none⟩ = some (.int .i64 t.ack) ∧ w'.cell? ⟨X, 1, none⟩ = some (.bool false) ∧ w'.cell? ⟨X, 2, none⟩ = some (.int .i64 t.dup.1) ∧ w'.cell? ⟨X, 3, none⟩ = some (.int .i64 t.dup.2))
            (with_reducible first | exact K0 | exact K1 | exact K2 | go_keep) (first
            | (go_at_call 14; (with_reducible refine (HLen.out _).mono ?_); rintro e w5 ⟨rfl, h5⟩; have B1 := hBd.later h5; have K1 := And.intro B1.x.c0 (And.intro (hd ▸ B1.x.c1) (And.intro B1.x.c2 B1.x.c3)); clear hBd h5 K0)
            | (go_at_call 7; (with_reducible refine (known_any _).mono ?_); rintro e w7 ⟨rfl, h7⟩; have B2 := B1.later h7; have K2 := And.intro B2.x.c0 (And.intro (hd ▸ B2.x.c1) (And.intro B2.x.c2 B2.x.c3)); clear B1 h7 K1))
          all_goals
            go_wp2
            go_ret
            exact ⟨rfl, B2.below⟩
        | true =>
          rw [hd] at c1 hz hsum
          have hsum2 : (k : Int) + t.bad + 1 = n := by simpa using hsum
          have y1 : ((k : Int) + t.bad + 1 == (n : Int)) = true := by simpa using hsum2
          have y2 : decide ((k : Int) + t.bad + 1 = (n : Int)) = true := by simpa using hsum2
          have z0 : decide (0 < z) = true := hz.symm
          have hwr : IntKind.i64.wrap (una - 65536) = una - 65536 := IntWalk.i64_in _ (by omega)
          clear hz hsum hsum2 hkm hk
          go_wp2_with fail
          have K0 : wo.drew.cell? ⟨X, 0, none⟩ = some (.int .i64 t.ack) ∧ wo.drew.cell? ⟨X, 1, none⟩ = some (.bool true) ∧ wo.drew.cell? ⟨X, 2, none⟩ = some (.int .i64 t.dup.1) ∧ wo.drew.cell? ⟨X, 3, none⟩ = some (.int .i64 t.dup.2) := ⟨c0, c1, c2, c3⟩
          clear c0 c1 c2 c3 c5
          go_region_held3 (fun w' => w'.cell? ⟨X, 0, none⟩ = some (.int .i64 t.ack) ∧ w'.cell? ⟨X, 1, none⟩ = some (.bool true) ∧ w'.cell? ⟨X, 2, none⟩ = some (.int .i64 t.dup.1) ∧ w'.cell? ⟨X, 3, none⟩ = some (.int .i64 t.dup.2))
            (with_reducible first | exact K0 | exact K1 | exact K2 | go_keep) (first
            | (go_at_call 14; (with_reducible refine (HLen.out _).mono ?_); rintro e w5 ⟨rfl, h5⟩; have B1 := hBd.later h5; have K1 := And.intro B1.x.c0 (And.intro (hd ▸ B1.x.c1) (And.intro B1.x.c2 B1.x.c3)); clear hBd h5 K0)
            | (go_at_call 7; (with_reducible refine (known_any _).mono ?_); rintro e w7 ⟨rfl, h7⟩; have B2 := B1.later h7; have K2 := And.intro B2.x.c0 (And.intro (hd ▸ B2.x.c1) (And.intro B2.x.c2 B2.x.c3)); clear B1 h7 K1))
          all_goals
            go_wp2
            go_ret
            exact ⟨rfl, B2.below⟩
  · have hL : lookP una nxt num l = noTd := by unfold lookP; rw [if_neg hc]
    rw [hL] at HA
    have hcb : (errP una nxt num == 0) = false := by simpa using hc
    have hcd : decide (errP una nxt num = 0) = false := by simpa using hc
    generalize errP una nxt num = c at *
    clear hc hL hl hlen
    have eqg := eq_guard
    have eqb : ∀ w, (Op.equalIn 10000 26 (.agg #[.int .i64 0, .int .i64 0]) (.agg #[.int .i64 0, .int .i64 0])).run Try.prog w = .ok true w := fun w => by
      have := eq_spB (0, 0) (0, 0) w
      simpa using this
    go_enter Try.func6, Try.ntmps6
    go_wp2_with fail
    refine (known_any _).mono ?_
    rintro e w1 ⟨rfl, h1⟩
    go_wp2_with fail
    refine (HA.out _ h1).mono ?_
    rintro e w2 ⟨v, rfl, hown, h2⟩
    obtain ⟨xa, xc, rfl⟩ := own_form hown
    have x3 := td_new 29 w2 noTd (.slice xa 0 xc)
    have m3 := (h1.trans (h2.mono h1.size)).trans ((bal (w := w2) (.cells #[.int .i64 0, .bool false, .int .i64 0, .int .i64 0, .slice xa 0 xc, .int .i64 0] 29)).mono (Nat.le_trans h1.size h2.size))
    have c0 := x3.c0; have c1 := x3.c1; have c2 := x3.c2; have c3 := x3.c3; have c4 := x3.c4; have c5 := x3.c5
    simp only [noTd, List.length_nil] at *
    clear hown h1 h2 HA x3
    go_wp2_with fail
    refine (known_any _).mono ?_
    rintro e w4 ⟨rfl, h4⟩
    go_wp2_with fail
    go_ret
    exact ⟨rfl, m3.trans (h4.mono m3.size)⟩
end Go.Proofs.Ytegfmjkngbnnfaa.dp
