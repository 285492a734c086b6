/-
  Package buffer: pieces, Write, Read, Clone.
-/
import Derived.Test.YtjkjbhapkmamkaaBufW
namespace Go.Proofs.Ytjkjbhapkmamkaa.bf
open Go.RowKit aid mem sp
attribute [local go_sem ↓] Go.wp_at_zero Go.wp_at_succ
set_option linter.unusedVariables false
set_option linter.unusedSimpArgs false

/-- a span from s on, of n offsets -/
abbrev toV (s n : Nat) : Value := spV ((s : Int), (s : Int) + (n : Int))
/-- where a span's bytes stand -/
abbrev pcs (x : Bf) (g : Rg) (s n : Nat) : Value := .tuple #[.slice (some ⟨g.b, s % x.most, none⟩) (spl x.most s n - s % x.most) (spl x.most s n - s % x.most), .slice (some ⟨g.b, 0, none⟩) (s % x.most + n - spl x.most s n) (s % x.most + n - spl x.most s n)]
theorem pieces_none {w : World} {B : Nat} (s : Nat) (hs : s ≤ 4611686018427387904) : Calls Try.prog 23 #[.pointer (some ⟨B, 0, none⟩), toV s 0] w fun e w' => e = .returned (.tuple #[.slice none 0 0, .slice none 0 0]) ∧ Below w.heap.size w w' := by
  have e0 : toV s 0 = spV ((s : Int), (s : Int)) := by simp [toV]
  have HL : Hid (lenI ((s : Int), (s : Int)) = 0) := Lib.hid (by have := lenI_to s 0 (by omega); simpa using this)
  rw [e0]
  clear e0
  have hb := bal (w := w) (.cells #[.int .i64 (s : Int), .int .i64 (s : Int)] 25)
  go_enter Try.func23, Try.ntmps23
  go_wp2_with (go_at_call 24; (with_reducible refine (len_any ((s : Int), (s : Int)) _).mono ?_); rintro e w1 ⟨rfl, hb1⟩; rw [HL.out])
  go_ret2
  exact ⟨rfl, hb.trans (hb1.mono hb.size)⟩
set_option maxHeartbeats 2000000 in
theorem pieces_any {w : World} {B : Nat} {g : Rg} {x : Bf} (h : BfAt w B g x) (s n : Nat) (hs : s + n ≤ 4611686018427387904) (h0 : 0 < n) (hn : n ≤ x.most) :
    Calls Try.prog 23 #[.pointer (some ⟨B, 0, none⟩), toV s n] w fun e w' => e = .returned (pcs x g s n) ∧ Below w.heap.size w w' := by
  have HL := Lib.hid (lenI_to s n hs)
  have hm0 := h.ok.m0
  have hm1 := h.ok.m1
  have hcap := h.cap
  unfold maxLen at hcap
  have hb := bal (w := w) (.cells #[.int .i64 (s : Int), .int .i64 ((s : Int) + (n : Int))] 25)
  have hsp := sp_new w ((s : Int), (s : Int) + (n : Int))
  have HC := Lib.hid (fun W (hb : Below w.heap.size w W) => (h.later hb).cs.2.2)
  clear h
  unfold pcs spl
  have hmod := Nat.mod_lt s (show 0 < x.most by omega)
  have h1 : (s : Int).tmod (x.most : Int) = ((s % x.most : Nat) : Int) := by
    rw [tmod_pos _ _ (by omega)]
    omega
  have h2 : (s : Int) % (x.most : Int) = ((s % x.most : Nat) : Int) := by omega
  obtain ⟨i0, hi, hz0, hz1, hz2⟩ := info_split info_u8
  generalize x.most = m at *
  generalize s % m = a at *
  have hsl1 := run_slice_3 Try.prog 23 5 i0 Try.underlying23 hi hz1 g.b 0 m g.cap a (min (a + n) m) (by omega) (by omega)
  have hsl2 := run_slice_3h Try.prog 23 5 i0 Try.underlying23 hi hz1 g.b 0 m g.cap (a + n - min (a + n) m) (by omega)
  rw [Nat.zero_add] at hsl1
  have hmin : (if (m : Int) < (a : Int) + (n : Int) then (m : Int) else (a : Int) + (n : Int)) = ((min (a + n) m : Nat) : Int) := by split <;> omega
  have hw1 : IntKind.i64.wrap ((a : Int) + (n : Int)) = (a : Int) + (n : Int) := IntWalk.i64_in _ (by omega)
  have hw2 : IntKind.i64.wrap ((a : Int) + (n : Int) - ((min (a + n) m : Nat) : Int)) = ((a + n - min (a + n) m : Nat) : Int) := by rw [IntWalk.i64_in _ (by omega)]; omega
  have hm00 : ¬ (m : Int) = 0 := by omega
  go_enter Try.func23, Try.ntmps23
  go_upto_region 4 with (go_at_call 24; (with_reducible refine (len_any ((s : Int), (s : Int) + (n : Int)) _).mono ?_); rintro e w1 ⟨rfl, hb1⟩; rw [HL.out]; have hs1 := hsp.later hb1; have c2 := HC.out _ (hb.trans (hb1.mono hb.size)); have c0 := hs1.c0)
  clear hsp HC HL hs1
  go_region
  go_upto_region 7 with fail
  go_region
  go_wp2_with fail
  go_ret2
  exact ⟨rfl, (hb.trans (hb1.mono hb.size)).drew.drew⟩
theorem ints_app (k : IntKind) (l r : List Int) : ints k (l ++ r) = ints k l ++ ints k r := List.map_append
/-- what was written lies in the ring -/
theorem write_fin {W : World} {B : Nat} {g : Rg} {x : Bf} {R p : List Int} (hR : Ring R x) (ho : Ok x) (hp : x.l.length + p.length ≤ x.most) (he : x.una + x.l.length + p.length ≤ 4611686018427387904)
    (hc : x.most ≤ g.cap ∧ g.cap ≤ maxLen) (h1 : W.heap[g.b]? = some (.cells (ints .u8 (wr R (x.una + x.l.length) p) ++ g.T).toArray 5 (0, 0))) (h2 : W.heap[B]? = some (.cells (cellsB x g) 50 (0, 0))) (hne : B ≠ g.b) :
    BfAt (W.setCell ⟨B, 1, none⟩ (.int .i64 ((x.una : Int) + (x.l.length : Int) + (p.length : Int)))) B g ⟨x.una, x.most, x.l ++ p⟩ := by
  have e0 := heap_setCell_same W B 1 _ _ (.int .i64 ((x.una : Int) + (x.l.length : Int) + (p.length : Int))) h2
  refine ⟨?_, ⟨_, (kset W B 1 _).heap (by simpa using Ne.symm hne) h1, hR.wr ho p hp⟩, ⟨ho.m0, ho.m1, by simpa using hp, by simp; omega⟩, hc⟩
  rw [e0]
  unfold cellsB
  rw [show (((x.l ++ p).length : Nat) : Int) = (x.l.length : Int) + (p.length : Int) by simp, ← Int.add_assoc]
  rfl
set_option maxHeartbeats 4000000 in
theorem write_none {w : World} {B : Nat} {g : Rg} {x : Bf} (h : BfAt w B g x) (a : Option Addr) (cap : Nat) :
    Calls Try.prog 11 #[.pointer (some ⟨B, 0, none⟩), .slice a 0 cap] w (RetW (.int .i64 0) B g x w) := by
  have m0 := h.ok.m0; have m1 := h.ok.m1; have hxn := h.ok.n; have hxe := h.ok.e
  have HRM := Lib.hid (fun W (q : BfAt W B g x) => room_any q)
  have HE := Lib.hid (fun W (q : BfAt W B g x) => (end_q q).below)
  have HA := Lib.hid h
  have h3 : ¬ (x.most : Int) - (x.l.length : Int) < 0 := by omega
  have hw : IntKind.i64.wrap ((x.una : Int) + (x.l.length : Int)) = (x.una : Int) + (x.l.length : Int) := IntWalk.i64_in _ (by omega)
  have HM : Hid (mayB ((x.una : Int) + (x.l.length : Int)) ((x.una : Int) + (x.l.length : Int)) = true) := Lib.hid (mayB_iff.2 (by omega))
  have HPC := Lib.hid (fun W => show Calls Try.prog 23 #[.pointer (some ⟨B, 0, none⟩), spV ((x.una : Int) + (x.l.length : Int), (x.una : Int) + (x.l.length : Int))] W fun e w' => e = .returned (.tuple #[.slice none 0 0, .slice none 0 0]) ∧ Below W.heap.size W w' from by
    have := pieces_none (w := W) (B := B) (x.una + x.l.length) (by omega)
    simpa [toV] using this)
  obtain ⟨i0, hi, hz0, hz1, hz2⟩ := info_split info_u8
  obtain ⟨b', hsl⟩ : ∃ b', ∀ wx, (Instr.slice 23 (.slice a 0 cap) (some (.int .i64 0)) none none).run Try.prog wx = .ok (.slice b' 0 cap) wx := ⟨_, run_slice_from Try.prog 23 5 i0 Try.underlying23 hi hz1 a 0 cap 0 (Nat.le_refl _)⟩
  clear h
  go_enter Try.func11, Try.ntmps11
  go_upto_region 8 with (first
    | (go_at_call 17; (with_reducible refine (HRM.out _ HA.out).mono ?_); rintro e w1 ⟨rfl, hb1⟩; have hA1 := Lib.hid (HA.out.later hb1))
    | (go_at_call 15; (with_reducible refine (HE.out _ hA1.out).mono ?_); rintro e w2 ⟨rfl, hb2⟩; have hA2 := Lib.hid (hA1.out.later hb2); have HB := Lib.hid (hb1.trans (hb2.mono hb1.size)); clear hA1 hb1 hb2; have hA1 := hA2; have hb1 := HB.out; clear hA2 HB)
    | (go_at_call 22; (with_reducible refine (may_any _ _ _).mono ?_); rintro e w3 ⟨rfl, hb3⟩; rw [HM.out]))
  have hb2 := bal (w := w2) (.cells #[.int .i64 ((x.una : Int) + (x.l.length : Int)), .int .i64 ((x.una : Int) + (x.l.length : Int))] 25)
  have HM3 := ((sp_new w2 ((x.una : Int) + (x.l.length : Int), (x.una : Int) + (x.l.length : Int))).later hb3)
  have hb := hb1.trans (hb2.mono hb1.size)
  have hb' := hb.trans (hb3.mono hb.size)
  have HL := Lib.hid (show w.heap.size ≤ w2.heap.size from hb1.size)
  clear hb hb2 hb3 hA1 hb1
  generalize w2.heap.size = N at *
  have c0 := HM3.c0; have c1 := HM3.c1
  go_upto_region 9 with (go_at_call 23; (with_reducible refine (HPC.out _).mono ?_); rintro e w4 ⟨rfl, hb4⟩; have HM4 := HM3.later hb4)
  have HB4 := Lib.hid (hb'.trans (hb4.mono hb'.size))
  have HA4 := Lib.hid (HA.out.later HB4.out)
  have d1 := HM4.c1
  have e1 := HA4.out.cs.2.1
  have f1 := HA4.out.f 1
  have HF := Lib.hid (show BfAt (w4.setCell ⟨B, 1, none⟩ (.int .i64 ((x.una : Int) + (x.l.length : Int)))) B g x from HA4.out.put HA4.out.ok rfl (fun _ h => h) (kset w4 B 1 _) ((heap_setCell_same w4 B 1 _ _ _ HA4.out.hdr).trans rfl))
  clear hb4 c0 c1 HM3 HM4 hb' HM
  go_wp2_with (first | (refine wpList_copy_p0 _ rfl (.tmp 33) (.tmp 34) 23 23 rfl 5 i0 Try.underlying23 hi none 0 a 0 cap rfl rfl ?_) | (refine wpList_copy_p0 _ rfl (.tmp 36) (.tmp 39) 23 23 rfl 5 i0 Try.underlying23 hi none 0 b' 0 cap rfl rfl ?_))
  go_ret
  exact ⟨rfl, HF.out, (Kept.of_below HB4.out (Nat.le_refl _) _).setCell (.inl (by simp)) _⟩
set_option maxHeartbeats 4000000 in
theorem write_some {w : World} {B : Nat} {g : Rg} {x : Bf} (h : BfAt w B g x) {a : Option Addr} {n cap : Nat} {p : List Int} (hp : SlA .u8 w a n cap p) (hd : ∀ y, a = some y → 0 < n → y.block ∉ [B, g.b]) (h0 : 0 < n) (h1 : x.l.length + n ≤ x.most) (h2 : x.una + x.l.length + n ≤ 4611686018427387904) :
    Calls Try.prog 11 #[.pointer (some ⟨B, 0, none⟩), .slice a n cap] w (RetW (.int .i64 0) B g ⟨x.una, x.most, x.l ++ p⟩ w) := by
  have hlen := hp.len
  have hle := hp.le
  have hmost := hp.most
  unfold maxLen at hmost
  have m0 := h.ok.m0; have m1 := h.ok.m1; have hxn := h.ok.n; have hxe := h.ok.e
  have HRM := Lib.hid (fun W (q : BfAt W B g x) => room_any q)
  have HE := Lib.hid (fun W (q : BfAt W B g x) => (end_q q).below)
  have HA := Lib.hid h
  have h3 : ¬ (x.most : Int) - (x.l.length : Int) < (n : Int) := by omega
  have hw : IntKind.i64.wrap ((x.una : Int) + (x.l.length : Int) + (n : Int)) = (x.una : Int) + (x.l.length : Int) + (n : Int) := IntWalk.i64_in _ (by omega)
  have HM : Hid (mayB ((x.una : Int) + (x.l.length : Int)) ((x.una : Int) + (x.l.length : Int) + (n : Int)) = true) := Lib.hid (mayB_iff.2 (by omega))
  obtain ⟨i0, hi, hz0, hz1, hz2⟩ := info_split info_u8
  have HP := Lib.hid hp
  have HD := Lib.hid hd
  have HO := Lib.hid h.ok
  have HCAP := Lib.hid h.cap
  clear h hp hd
  go_enter Try.func11, Try.ntmps11
  go_upto_region 8 with (first
    | (go_at_call 17; (with_reducible refine (HRM.out _ HA.out).mono ?_); rintro e w1 ⟨rfl, hb1⟩; have hA1 := Lib.hid (HA.out.later hb1))
    | (go_at_call 15; (with_reducible refine (HE.out _ hA1.out).mono ?_); rintro e w2 ⟨rfl, hb2⟩; have hA2 := Lib.hid (hA1.out.later hb2); have HB := Lib.hid (hb1.trans (hb2.mono hb1.size)); clear hA1 hb1 hb2; have hA1 := hA2; have hb1 := HB.out; clear hA2 HB)
    | (go_at_call 22; (with_reducible refine (may_any _ _ _).mono ?_); rintro e w3 ⟨rfl, hb3⟩; rw [HM.out]))
  have hb2 := bal (w := w2) (.cells #[.int .i64 ((x.una : Int) + (x.l.length : Int)), .int .i64 ((x.una : Int) + (x.l.length : Int) + (n : Int))] 25)
  have HM3 := Lib.hid ((sp_new w2 ((x.una : Int) + (x.l.length : Int), (x.una : Int) + (x.l.length : Int) + (n : Int))).later hb3)
  have hb := hb1.trans (hb2.mono hb1.size)
  have hb' := hb.trans (hb3.mono hb.size)
  have HB := Lib.hid hb'
  have HL := Lib.hid (show w.heap.size ≤ w2.heap.size from hb1.size)
  clear hb hb2 hb3 hA1 hb1 hb'
  generalize w2.heap.size = N at *
  have HPC := Lib.hid (fun W (q : BfAt W B g x) => show Calls Try.prog 23 #[.pointer (some ⟨B, 0, none⟩), spV ((x.una : Int) + (x.l.length : Int), (x.una : Int) + (x.l.length : Int) + (n : Int))] W fun e w' => e = .returned (pcs x g (x.una + x.l.length) n) ∧ Below W.heap.size W w' from by
    have := pieces_any q (x.una + x.l.length) n h2 h0 (by omega)
    have e : toV (x.una + x.l.length) n = spV ((x.una : Int) + (x.l.length : Int), (x.una : Int) + (x.l.length : Int) + (n : Int)) := by unfold toV; rw [Int.natCast_add]
    rw [e] at this
    exact this)
  have c0 := HM3.out.c0; have c1 := HM3.out.c1
  go_upto_region 9 with (go_at_call 23; (with_reducible refine (HPC.out _ (HA.out.later HB.out)).mono ?_); rintro e w4 ⟨rfl, hb4⟩; have HM4 := Lib.hid (HM3.out.later hb4))
  have HB4 := Lib.hid (HB.out.trans (hb4.mono HB.out.size))
  have HA4 := Lib.hid (HA.out.later HB4.out)
  clear hb4 HPC c0 c1 HM3 HB
  obtain ⟨R, hg4, hring⟩ := HA4.out.row
  have hRl := hring.len
  have HRing := Lib.hid hring
  clear hring
  have hmod := Nat.mod_lt (x.una + x.l.length) (show 0 < x.most by omega)
  have HWR : Hid (R.take ((x.una + x.l.length) % x.most) ++ p.take (spl x.most (x.una + x.l.length) n - (x.una + x.l.length) % x.most) ++ R.drop (spl x.most (x.una + x.l.length) n) = wr1 R (x.una + x.l.length) p ∧ p.drop (spl x.most (x.una + x.l.length) n - (x.una + x.l.length) % x.most) ++ (wr1 R (x.una + x.l.length) p).drop ((x.una + x.l.length) % x.most + n - spl x.most (x.una + x.l.length) n) = wr R (x.una + x.l.length) p ∧ (wr1 R (x.una + x.l.length) p).length = x.most) := Lib.hid (by
    refine ⟨?_, ?_, ?_⟩
    · unfold wr1; rw [hRl, hlen]
    · unfold wr; rw [hRl, hlen]
    · rw [wr1_len (by omega), hRl])
  have hspl : spl x.most (x.una + x.l.length) n = min ((x.una + x.l.length) % x.most + n) x.most := rfl
  generalize spl x.most (x.una + x.l.length) n = Z at *
  generalize (x.una + x.l.length) % x.most = A at *
  generalize wr1 R (x.una + x.l.length) p = R1 at *
  have HG4 : Hid (w4.heap[g.b]? = some (.cells (ints .u8 (R.take A) ++ ints .u8 ((R.take Z).drop A) ++ (ints .u8 (R.drop Z) ++ g.T)).toArray 5 (0, 0))) := Lib.hid (by
    rw [hg4]
    congr 3
    rw [← List.append_assoc, ← ints_app, ← ints_app]
    congr 2
    rw [← List.take_append_drop Z R]
    conv => lhs; rw [← List.take_append_drop A (R.take Z)]
    rw [List.take_take, show min A Z = A by omega]
    simp)
  clear hg4
  have HS4 := Lib.hid ((HP.out.later HB4.out))
  have hq : Hid (Z - A = min n (Z - A)) := Lib.hid (by omega)
  have hq2 : Z - A ≤ n := by omega
  have hr : Hid (A + n - Z = min (n - (Z - A)) (A + n - Z)) := Lib.hid (by omega)
  have hr2 : A + n - Z = n - (Z - A) := by omega
  have hsl := run_slice_from Try.prog 23 5 i0 Try.underlying23 hi hz1 a n cap (Z - A) hq2
  have HFROM := Lib.hid (fun W (h : SlA .u8 W a n cap p) => h.fromK (Z - A) hq2)
  generalize (if cap = Z - A then a else Option.map (fun x => x.add (Z - A)) a) = b2 at *
  generalize hqq : Z - A = q at *
  generalize hrr : A + n - Z = r at *
  have HNUM := Lib.hid (show Z - A = q ∧ A + n - Z = r ∧ r = n - q ∧ Z = min (A + n) x.most ∧ q ≤ n from ⟨hqq, hrr, hr2, hspl, hq2⟩)
  clear hqq hrr hr2 hspl hq2
  go_upto_region 10 with ((refine wpList_copy_sl _ rfl (.tmp 33) (.tmp 34) 23 23 rfl 5 i0 Try.underlying23 hi hz1 g.b A q q (ints .u8 (R.take A)) (ints .u8 ((R.take Z).drop A)) (ints .u8 (R.drop Z) ++ g.T) rfl HG4.out (by rw [ints_len, List.length_take]; omega) a n cap p .u8 rfl HS4.out q hq.out (by have := HNUM.out; rw [ints_len, List.length_drop, List.length_take]; omega) ?_); intro w5 hg5 hk5)
  have HG5 : Hid (w5.heap[g.b]? = some (.cells (([] : List Value) ++ ints .u8 (R1.take r) ++ (ints .u8 (R1.drop r) ++ g.T)).toArray 5 (0, 0))) := Lib.hid (by
    rw [hg5.out, ← List.append_assoc, ← ints_app, ← ints_app, HWR.out.1, List.nil_append, ← List.append_assoc, ← ints_app, List.take_append_drop])
  have HS5 := Lib.hid (HFROM.out _ (HS4.out.keepIf hk5 (fun y hy hc => fun e => HD.out y hy h0 (by simp at e; simp [e]))))
  have hR1 := HWR.out.2.2
  have HK5 := Lib.hid ((Kept.of_below HB4.out (Nat.le_refl _) [B, g.b]).trans hk5 (fun b hb => .inl (by simp at hb; simp [hb])))
  have hng := HA4.out.ne
  have HM5 := Lib.hid (HM4.out.keep hk5 (fun e => by have h1 := HM4.out; simp at e; subst e; exact HA4.out.typ h1 (by decide) (by decide) (by simp)))
  have HH5 := Lib.hid (hk5.heap (by simpa using hng) HA4.out.hdr)
  clear hg5 hk5 HG4 HS4 HM4 HFROM
  go_upto_region 11 with ((refine wpList_copy_sl _ rfl (.tmp 36) (.tmp 39) 23 23 rfl 5 i0 Try.underlying23 hi hz1 g.b 0 r r [] (ints .u8 (R1.take r)) (ints .u8 (R1.drop r) ++ g.T) rfl HG5.out rfl b2 (n - q) (cap - q) (p.drop q) .u8 rfl HS5.out r hr.out (by have := HNUM.out; rw [ints_len, List.length_take]; omega) ?_); intro w6 hg6 hk6)
  have HG6 : Hid (w6.heap[g.b]? = some (.cells (ints .u8 (wr R (x.una + x.l.length) p) ++ g.T).toArray 5 (0, 0))) := Lib.hid (by
    rw [hg6.out, List.nil_append, ← List.append_assoc, ← ints_app, List.take_of_length_le (by have := HNUM.out; rw [List.length_drop]; omega), HWR.out.2.1])
  have hK6 := HK5.out.trans hk6 (fun b hb => .inl (by simp at hb; simp [hb]))
  have HM6 := (HM5.out.keep hk6 (fun e => by have h1 := HM5.out; have h2 := HG5.out; simp only [List.mem_singleton] at e; rw [← e] at h2; rw [show w5.heap[N]? = _ from h1] at h2; simp at h2))
  have hh6 := hk6.heap (by simpa using hng) HH5.out
  have d1 := HM6.c1
  have e1 := cofr hh6 1 _ rfl
  have f1 := fofr hh6 1
  have HF := Lib.hid (write_fin HRing.out HO.out (by omega) (by omega) HCAP.out HG6.out hh6 hng)
  rw [hlen] at HF
  have HKF := Lib.hid hK6
  clear hg6 hk6 hh6 HM6 hK6 hsl
  go_wp2_with fail
  go_ret
  exact ⟨rfl, HF.out, HKF.out.setCell (.inl (by simp)) _⟩
set_option maxHeartbeats 4000000 in
theorem write_any {w : World} {B : Nat} {g : Rg} {x : Bf} (h : BfAt w B g x) {a : Option Addr} {n cap : Nat} {p : List Int} (hp : SlA .u8 w a n cap p) (hd : ∀ y, a = some y → 0 < n → y.block ∉ [B, g.b]) :
    Calls Try.prog 11 #[.pointer (some ⟨B, 0, none⟩), .slice a n cap] w (RetW (.int .i64 (wrE x n)) B g (wrX x p) w) := by
  have hlen := hp.len
  have hle := hp.le
  have hmost := hp.most
  unfold maxLen at hmost
  have m0 := h.ok.m0; have m1 := h.ok.m1; have hxn := h.ok.n; have hxe := h.ok.e
  have HRM := Lib.hid (fun W (q : BfAt W B g x) => room_any q)
  have HE := Lib.hid (fun W (q : BfAt W B g x) => (end_q q).below)
  have HA := Lib.hid h
  rcases wrE_cases x n with ⟨he, h1⟩ | ⟨he, h1, h2⟩ | ⟨he, h1, h2⟩
  · have HX : Hid (wrX x p = x) := Lib.hid (by unfold wrX; rw [hlen, if_neg (by omega)])
    rw [he, HX.out]
    have h3 : (x.most : Int) - (x.l.length : Int) < (n : Int) := by omega
    clear h HX he
    go_enter Try.func11, Try.ntmps11
    go_wp2_with (go_at_call 17; (with_reducible refine (HRM.out _ HA.out).mono ?_); rintro e w1 ⟨rfl, hb1⟩)
    go_ret
    exact ⟨rfl, HA.out.later hb1, Kept.of_below hb1 (Nat.le_refl _) _⟩
  · have HX : Hid (wrX x p = x) := Lib.hid (by unfold wrX; rw [hlen, if_neg (by omega)])
    rw [he, HX.out]
    have h3 : ¬ (x.most : Int) - (x.l.length : Int) < (n : Int) := by omega
    have hw : IntKind.i64.wrap ((x.una : Int) + (x.l.length : Int) + (n : Int)) = (x.una : Int) + (x.l.length : Int) + (n : Int) := IntWalk.i64_in _ (by omega)
    have HM : Hid (mayB ((x.una : Int) + (x.l.length : Int)) ((x.una : Int) + (x.l.length : Int) + (n : Int)) = false) := Lib.hid (by
      rw [Bool.eq_false_iff]
      intro hm
      have := mayB_iff.1 hm
      omega)
    clear h HX he
    go_enter Try.func11, Try.ntmps11
    go_wp2_with (first
      | (go_at_call 17; (with_reducible refine (HRM.out _ HA.out).mono ?_); rintro e w1 ⟨rfl, hb1⟩; have hA1 := Lib.hid (HA.out.later hb1))
      | (go_at_call 15; (with_reducible refine (HE.out _ hA1.out).mono ?_); rintro e w2 ⟨rfl, hb2⟩; have hA2 := Lib.hid (hA1.out.later hb2); have HB := Lib.hid (hb1.trans (hb2.mono hb1.size)); clear hA1 hb1 hb2; have hA1 := hA2; have hb1 := HB.out; clear hA2 HB)
      | (go_at_call 22; (with_reducible refine (may_any _ _ _).mono ?_); rintro e w3 ⟨rfl, hb3⟩; rw [HM.out]))
    go_ret
    have hb := hb1.trans ((bal (w := w2) (.cells #[.int .i64 ((x.una : Int) + (x.l.length : Int)), .int .i64 ((x.una : Int) + (x.l.length : Int) + (n : Int))] 25)).mono hb1.size)
    have hb' := hb.trans (hb3.mono hb.size)
    exact ⟨rfl, HA.out.later hb', Kept.of_below hb' (Nat.le_refl _) _⟩
  · have HX : wrX x p = ⟨x.una, x.most, x.l ++ p⟩ := by unfold wrX; rw [hlen, if_pos he]
    by_cases hn0 : n = 0
    · subst hn0
      obtain rfl : p = [] := List.eq_nil_of_length_eq_zero hlen
      rw [he, HX, List.append_nil]
      exact write_none h a cap
    · rw [he, HX]
      exact write_some h hp hd (by omega) h1 h2
end Go.Proofs.Ytjkjbhapkmamkaa.bf
